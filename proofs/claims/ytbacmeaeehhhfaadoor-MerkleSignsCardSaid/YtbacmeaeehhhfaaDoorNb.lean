/-
  The law's own climbed, Same. My own work.
-/
import Derived.Test.YtbacmeaeehhhfaaDoorNa
namespace Go.Proofs.YtbacmeaeehhhfaaDoor
open Go.RowKit Go.Shelf
set_option linter.unusedVariables false
set_option linter.unusedSimpArgs false
set_option maxRecDepth 100000 in
set_option maxHeartbeats 4000000 in
theorem lawClimbed_c (x : Idv) (n : Nat) (A : Option Addr) (l : List Idv) (m c : Nat) (hm : m = l.length) (hl : m ≤ 60) (w : World) (Gl : Glob w) (RA : Cells w A (l.flatMap ic)) :
    Calls Tryd.prog 22 #[iv x, .int .i64 (n : Int), .slice A m c] w fun r w' => r = .returned (iv (climbI x n l)) ∧ Mod [] w w' := by
  obtain ⟨d, hd⟩ : ∃ d, d = climbI x n l := ⟨_, rfl⟩
  rw [← hd]
  have HH := Lib.hid (And.intro hm (And.intro RA (And.intro Gl hd)))
  have hlZ : (m : Int) ≤ 60 := by omega
  clear hm RA Gl hd
  go_enter Tryd.func22, Tryd.ntmps22
  go_wp2_with (first
    | (with_reducible refine wpList_boxes (o := ⟨some 3, .box 23 (.tmp 0), _, _, _, _⟩) rfl 23 (.tmp 0) rfl _ rfl (ic x) rfl ?_; intro w1 hb1 m1 z1; replace z1 := Lib.hid z1)
    | (with_reducible refine wpList_allocs (o := ⟨some 6, .alloc 23, _, _, _, _⟩) rfl 23 rfl _ zeroI_25 ?_; intro w2 hb2 m2 z2; replace z2 := Lib.hid z2))
  obtain ⟨b6, hq6⟩ : ∃ q, q = w1.heap.size := ⟨_, rfl⟩
  obtain ⟨b7, hq7⟩ : ∃ q, q = w.heap.size := ⟨_, rfl⟩
  have k6 : Holds w2 b6 23 (ic zeroI) := by rw [hq6]; exact hb2
  have hb4 : Holds w2 b7 23 (ic x) := by rw [hq7]; exact hb1.keep m2 (by simp)
  have h67 : b7 < b6 := by have := z1.out; omega
  have hw6 : w.heap.size ≤ b7 := by omega
  rw [← hq7, ← hq6]
  have mm4 : Mod [] w w2 := m1.then m2
  have HO := Lib.hid (And.intro h67 hw6)
  clear hb1 m1 z1 hb2 m2 z2 hq6 hq7 h67 hw6
  go_loopw [11] (fun i wi => ∃ (k : Nat) (y : Idv), k ≤ m ∧ i = .int .i64 (k : Int) ∧ climbI x n l = climbK n k y (l.drop k) ∧ Holds wi b7 23 (ic y) ∧ Holds wi b6 23 (ic zeroI) ∧ Mod [] w wi) (fun i _ => m - (intOf i).toNat)
  case atStart => exact ⟨0, x, by omega, rfl, by rw [List.drop_zero]; rfl, hb4, k6, mm4⟩
  case round =>
    obtain ⟨k, y, hk, rfl, hcl, h7, h6, hmi⟩ := hrel
    by_cases hkm : k < m
    · have hkl : k < l.length := by rw [← HH.out.1]; exact hkm
      have hkZ : (k : Int) < (m : Int) := by omega
      obtain ⟨g, o, hAe, hce⟩ := (HH.out.2.1.keep hmi (by simp)).elem' ic 32 (by omega) ic_length k hkl
      subst hAe
      obtain ⟨z, hz⟩ : ∃ z, z = l[k] := ⟨_, rfl⟩
      rw [← hz] at hce
      have hcl2 := hcl
      rw [List.drop_eq_getElem_cons hkl, ← hz, climbK] at hcl2
      obtain ⟨q, hq⟩ : ∃ q, q = n / 2 ^ k := ⟨_, rfl⟩
      rw [← hq] at hcl2
      have hk64 : k < 64 := by omega
      have JA := fun v (mv : Mod [] w v) => lawJoin_c y z v (HH.out.2.2.1.then mv)
      have JB := fun v (mv : Mod [] w v) => lawJoin_c z y v (HH.out.2.2.1.then mv)
      have HP := Lib.hid (And.intro hq (And.intro hk64 (And.intro h7 (And.intro h6 hmi))))
      clear hz hq hk64 hcl h7 h6 hmi hb4 k6 mm4
      rcases Nat.mod_two_eq_zero_or_one q with h0 | h0
      · rw [if_pos h0] at hcl2
        obtain ⟨j, hj⟩ : ∃ j, j = joinI y z := ⟨_, rfl⟩
        rw [← hj] at JA hcl2
        have HA0 : bits .and .i64 (q : Int) 1 = (0 : Int) := by
          have := and1i q
          rw [h0] at this
          exact this
        have HA := Lib.hid HA0
        have hcl3 := Lib.hid hcl2
        clear hcl2 hj JB HA0 h0
        go_wp2_with (first
          | (with_reducible refine wpList_loads (o := ⟨some 15, .load 23 (.tmp 14), _, _, _, _⟩) rfl 23 (.tmp 14) rfl g (o + k * 32) _ rfl hce _ Tryd.underlying23 rfl (size25i z) (iv z) rfl ?_)
          | (with_reducible refine wpList_allocs (o := ⟨some 8, .alloc 23, _, _, _, _⟩) rfl 23 rfl _ zeroI_25 ?_; intro y1 hy1 my1 zy1)
          | (with_reducible refine wpList_storesAll (o := ⟨none, .store 23 (.tmp 8) (.tmp 15), _, _, _, _⟩) rfl 23 (.tmp 8) (.tmp 15) rfl rfl wr.heap.size (ic z) rfl (iv z) rfl rfl 23 _ hy1 (by rw [ic_length, ic_length]) (ic_one z) (size25i z) ?_
             intro u1 hu1 mu1 zu1
             have mx : Mod [] wr u1 := my1.trans mu1 (by intro i hi h; simp at h; omega)
             have k7 := HP.out.2.2.1.keep mx (by simp)
             have k6 := HP.out.2.2.2.1.keep mx (by simp)
             have km := HP.out.2.2.2.2.then mx
             obtain ⟨b9, hb9⟩ : ∃ b, b = wr.heap.size := ⟨_, rfl⟩
             rw [← hb9] at hu1 ⊢
             clear hy1 my1 zy1 mu1 zu1 mx hb9)
          | (with_reducible refine wpList_ranW (o := ⟨some 18, .binOp _ _ _ _ _, _, _, _, _⟩) (by with_unfolding_all rfl) (.int .i64 (q : Int)) u1 (by rw [HP.out.1]; exact exec_shr HP.out.2.1 rfl rfl rfl) ?_)
          | (with_reducible refine wpList_ranW (o := ⟨some 19, .binOp _ _ _ _ _, _, _, _, _⟩) (by with_unfolding_all rfl) (.int .i64 0) u1 (exec_and rfl rfl rfl HA.out) ?_)
          | (with_reducible refine wpList_loads (o := ⟨some 21, .load 23 (.tmp 3), _, _, _, _⟩) rfl 23 (.tmp 3) rfl b7 0 _ rfl (Cells.of_holds k7) _ Tryd.underlying23 rfl (size25i y) (iv y) rfl ?_)
          | (with_reducible refine wpList_loads (o := ⟨some 22, .load 23 (.tmp 8), _, _, _, _⟩) rfl 23 (.tmp 8) rfl b9 0 _ rfl (Cells.of_holds hu1) _ Tryd.underlying23 rfl (size25i z) (iv z) rfl ?_)
          | (go_at_call 20; refine (JA _ km).mono ?_; rintro e u2 ⟨rfl, m2⟩)
          | (with_reducible refine wpList_storesAll (o := ⟨none, .store 23 (.tmp 3) (.tmp 23), _, _, _, _⟩) rfl 23 (.tmp 3) (.tmp 23) rfl rfl b7 (ic j) rfl (iv j) rfl rfl 23 _ (k7.keep m2 (by simp)) (by rw [ic_length, ic_length]) (ic_one j) (size25i j) ?_
             intro u3 hu3 mu3 zu3))
        exact ⟨⟨k + 1, j, by omega, by go_num, hcl3.out, hu3, (k6.keep m2 (by simp)).keep mu3 (by have := HO.out.1; simp; omega), far_mod (km.then m2) mu3 (fun i hi => by have := HO.out; simp at hi; omega)⟩, by simp [intOf]; omega⟩
      · rw [if_neg (by omega)] at hcl2
        obtain ⟨j, hj⟩ : ∃ j, j = joinI z y := ⟨_, rfl⟩
        rw [← hj] at JB hcl2
        have HA0 : bits .and .i64 (q : Int) 1 = (1 : Int) := by
          have := and1i q
          rw [h0] at this
          exact this
        have HA := Lib.hid HA0
        have hcl3 := Lib.hid hcl2
        clear hcl2 hj JA HA0 h0
        go_wp2_with (first
          | (with_reducible refine wpList_loads (o := ⟨some 15, .load 23 (.tmp 14), _, _, _, _⟩) rfl 23 (.tmp 14) rfl g (o + k * 32) _ rfl hce _ Tryd.underlying23 rfl (size25i z) (iv z) rfl ?_)
          | (with_reducible refine wpList_allocs (o := ⟨some 8, .alloc 23, _, _, _, _⟩) rfl 23 rfl _ zeroI_25 ?_; intro y1 hy1 my1 zy1)
          | (with_reducible refine wpList_storesAll (o := ⟨none, .store 23 (.tmp 8) (.tmp 15), _, _, _, _⟩) rfl 23 (.tmp 8) (.tmp 15) rfl rfl wr.heap.size (ic z) rfl (iv z) rfl rfl 23 _ hy1 (by rw [ic_length, ic_length]) (ic_one z) (size25i z) ?_
             intro u1 hu1 mu1 zu1
             have mx : Mod [] wr u1 := my1.trans mu1 (by intro i hi h; simp at h; omega)
             have k7 := HP.out.2.2.1.keep mx (by simp)
             have k6 := HP.out.2.2.2.1.keep mx (by simp)
             have km := HP.out.2.2.2.2.then mx
             obtain ⟨b9, hb9⟩ : ∃ b, b = wr.heap.size := ⟨_, rfl⟩
             rw [← hb9] at hu1 ⊢
             clear hy1 my1 zy1 mu1 zu1 mx hb9)
          | (with_reducible refine wpList_ranW (o := ⟨some 18, .binOp _ _ _ _ _, _, _, _, _⟩) (by with_unfolding_all rfl) (.int .i64 (q : Int)) u1 (by rw [HP.out.1]; exact exec_shr HP.out.2.1 rfl rfl rfl) ?_)
          | (with_reducible refine wpList_ranW (o := ⟨some 19, .binOp _ _ _ _ _, _, _, _, _⟩) (by with_unfolding_all rfl) (.int .i64 1) u1 (exec_and rfl rfl rfl HA.out) ?_)
          | (with_reducible refine wpList_loads (o := ⟨some 25, .load 23 (.tmp 3), _, _, _, _⟩) rfl 23 (.tmp 3) rfl b7 0 _ rfl (Cells.of_holds k7) _ Tryd.underlying23 rfl (size25i y) (iv y) rfl ?_)
          | (with_reducible refine wpList_loads (o := ⟨some 24, .load 23 (.tmp 8), _, _, _, _⟩) rfl 23 (.tmp 8) rfl b9 0 _ rfl (Cells.of_holds hu1) _ Tryd.underlying23 rfl (size25i z) (iv z) rfl ?_)
          | (go_at_call 20; refine (JB _ km).mono ?_; rintro e u2 ⟨rfl, m2⟩)
          | (with_reducible refine wpList_storesAll (o := ⟨none, .store 23 (.tmp 3) (.tmp 26), _, _, _, _⟩) rfl 23 (.tmp 3) (.tmp 26) rfl rfl b7 (ic j) rfl (iv j) rfl rfl 23 _ (k7.keep m2 (by simp)) (by rw [ic_length, ic_length]) (ic_one j) (size25i j) ?_
             intro u3 hu3 mu3 zu3))
        exact ⟨⟨k + 1, j, by omega, by go_num, hcl3.out, hu3, (k6.keep m2 (by simp)).keep mu3 (by have := HO.out.1; simp; omega), far_mod (km.then m2) mu3 (fun i hi => by have := HO.out; simp at hi; omega)⟩, by simp [intOf]; omega⟩
    · obtain rfl : m = k := by omega
      rw [List.drop_eq_nil_of_le (by rw [← HH.out.1]; exact Nat.le_refl _), climbK, ← HH.out.2.2.2] at hcl
      subst hcl
      clear hb4 k6 mm4
      go_wp2_with (first
        | (with_reducible refine wpList_loads (o := ⟨some 28, .load 23 (.tmp 3), _, _, _, _⟩) rfl 23 (.tmp 3) rfl b7 0 _ rfl (Cells.of_holds h7) _ Tryd.underlying23 rfl (size25i d) (iv d) rfl ?_)
        | (with_reducible refine wpList_storesAll (o := ⟨none, .store 23 (.tmp 6) (.tmp 28), _, _, _, _⟩) rfl 23 (.tmp 6) (.tmp 28) rfl rfl b6 (ic d) rfl (iv d) rfl rfl 23 _ h6 (by rw [ic_length, ic_length]) (ic_one d) (size25i d) ?_
           intro u3 hu3 mu3 zu3))
      refine bodyPost_ret (results_cell_row rfl _ _ b6 23 _ (0, 0) _ rfl hu3 Tryd.underlying23 rfl (by rw [List.size_toArray]; exact size25i d)) rfl ?_
      exact ⟨rfl, far_mod hmi mu3 (fun i hi => by have := HO.out; simp at hi; omega)⟩
set_option maxRecDepth 100000 in
set_option maxHeartbeats 4000000 in
theorem lawSame_c (l : List Idv) (A B : Option Addr) (n c d : Nat) (hn : n = l.length) (h60 : n ≤ 60) (w : World) (RA : Cells w A (l.flatMap ic)) (RB : Cells w B (l.flatMap ic)) :
    Calls Tryd.prog 17 #[.slice A n c, .slice B n d] w fun r w' => r = .returned (.bool true) ∧ Mod [] w w' := by
  have HH := Lib.hid (And.intro hn (And.intro RA RB))
  have hnZ : (n : Int) ≤ 60 := by omega
  clear hn RA RB
  go_enter Tryd.func17, Tryd.ntmps17
  go_wp2_with (first
    | (with_reducible refine wpList_ranW (o := ⟨some 10, .binOp _ _ _ _ _, _, _, _, _⟩) (by with_unfolding_all rfl) (.bool false) _ (exec_nei (by simp) rfl rfl rfl) ?_))
  go_loopw [13] (fun i wi => ∃ (k : Nat), k ≤ n ∧ i = .int .i64 (k : Int) ∧ Mod [] w wi) (fun i _ => n - (intOf i).toNat)
  case atStart => exact ⟨0, by omega, rfl, Mod.refl _ _⟩
  case round =>
    obtain ⟨k, hk, rfl, hm⟩ := hrel
    by_cases hkn : k < n
    · have hkl : k < l.length := by rw [← HH.out.1]; exact hkn
      have hkZ : (k : Int) < (n : Int) := by omega
      obtain ⟨ga, oa, hA, hca⟩ := (HH.out.2.1.keep hm (by simp)).elem' ic 32 (by omega) ic_length k hkl
      obtain ⟨gb, ob, hB, hcb⟩ := (HH.out.2.2.keep hm (by simp)).elem' ic 32 (by omega) ic_length k hkl
      subst hA hB
      obtain ⟨z, hz⟩ : ∃ z, z = l[k] := ⟨_, rfl⟩
      rw [← hz] at hca hcb
      have HP := Lib.hid (And.intro hkn hm)
      clear hz hm HH hkl
      go_wp2_with fail
      obtain ⟨wq, hwq⟩ : ∃ v, v = wr := ⟨_, rfl⟩
      rw [← hwq] at hca hcb HP ⊢
      clear hwq
      refine wp_region_ups [(16, .slice (some ⟨ga, oa, none⟩) n c), (17, .int .i64 (k : Int)), (18, .pointer (some ⟨ga, oa + k * 32, none⟩)), (19, iv z), (20, .slice (some ⟨gb, ob, none⟩) n d), (21, .int .i64 (k : Int)), (22, .pointer (some ⟨gb, ob + k * 32, none⟩)), (23, iv z), (24, .bool false)] 26 [16, 17, 18, 19, 20, 21, 22, 23, 24] rfl rfl (by decide) (by kernel_rfl) (fun lz v => Mod [] wq.drew v) (by kernel_rfl) (Mod.refl _ _) (by kernel_rfl) (by kernel_rfl) ?step ?fin
      case step =>
        intro lz T v j o hj hlj hdep hst hpar hgot hcl Kq hK
        have mv : ∀ v, Mod [] wq.drew v → Mod [] wq v := fun v h => (Mod.drew [] wq).then h
        have hjn : j < 9 := (Array.getElem?_eq_some_iff.1 hj).1
        obtain rfl | rfl | rfl | rfl | rfl | rfl | rfl | rfl | rfl : j = 0 ∨ j = 1 ∨ j = 2 ∨ j = 3 ∨ j = 4 ∨ j = 5 ∨ j = 6 ∨ j = 7 ∨ j = 8 := by omega
        all_goals (have hj' := Option.some.inj (hj : some _ = some o); subst hj'; clear hj)
        · exact wp_ran rfl (exec_move rfl (eval_tmp ((hpar 0 rfl).trans rfl))) (hK _ _ (fun s hs => by cases hs; rfl) hst)
        · exact wp_ran rfl (exec_move rfl (eval_tmp ((hpar 5 rfl).trans rfl))) (hK _ _ (fun s hs => by cases hs; rfl) hst)
        · exact wp_ran rfl (exec_ixs Tryd.underlying33 size25 HP.out.1 rfl (eval_tmp (hgot 0 _ 16 rfl (hdep ⟨0, .data⟩ (by simp) rfl) rfl)) (eval_tmp (hgot 1 _ 17 rfl (hdep ⟨1, .data⟩ (by simp) rfl) rfl))) (hK _ _ (fun s hs => by cases hs; rfl) hst)
        · exact wp_ran rfl (exec_load rfl (eval_tmp (hgot 2 _ 18 rfl (hdep ⟨2, .data⟩ (by simp) rfl) rfl)) (run_loads (hca.keep (mv v hst) (by simp)) Tryd.underlying23 rfl (size25i z))) (hK _ _ (fun s hs => by cases hs; rfl) hst)
        · exact wp_ran rfl (exec_move rfl (eval_tmp ((hpar 1 rfl).trans rfl))) (hK _ _ (fun s hs => by cases hs; rfl) hst)
        · exact wp_ran rfl (exec_move rfl (eval_tmp ((hpar 5 rfl).trans rfl))) (hK _ _ (fun s hs => by cases hs; rfl) hst)
        · exact wp_ran rfl (exec_ixs Tryd.underlying33 size25 HP.out.1 rfl (eval_tmp (hgot 4 _ 20 rfl (hdep ⟨4, .data⟩ (by simp) rfl) rfl)) (eval_tmp (hgot 5 _ 21 rfl (hdep ⟨5, .data⟩ (by simp) rfl) rfl))) (hK _ _ (fun s hs => by cases hs; rfl) hst)
        · exact wp_ran rfl (exec_load rfl (eval_tmp (hgot 6 _ 22 rfl (hdep ⟨6, .data⟩ (by simp) rfl) rfl)) (run_loads (hcb.keep (mv v hst) (by simp)) Tryd.underlying23 rfl (size25i z))) (hK _ _ (fun s hs => by cases hs; rfl) hst)
        · exact wp_ran rfl (exec_ne25f rfl (eval_tmp (hgot 3 _ 19 rfl (hdep ⟨3, .data⟩ (by simp) rfl) rfl)) (eval_tmp (hgot 7 _ 23 rfl (hdep ⟨7, .data⟩ (by simp) rfl) rfl))) (hK _ _ (fun s hs => by cases hs; rfl) hst)
      case fin =>
      intro lz vr hlz hst
      have mq := (Mod.drew [] wq).then hst
      simp only [setAll, List.foldl_cons, List.foldl_nil, List.set_cons_succ, List.set_cons_zero]
      go_wp2_with fail
      exact ⟨⟨k + 1, by omega, by go_num, HP.out.2.then mq⟩, by simp [intOf]; omega⟩
    · obtain rfl : k = n := by omega
      clear HH
      go_wp2_with fail
      go_ret
      exact ⟨rfl, hm⟩
end Go.Proofs.YtbacmeaeehhhfaaDoor
