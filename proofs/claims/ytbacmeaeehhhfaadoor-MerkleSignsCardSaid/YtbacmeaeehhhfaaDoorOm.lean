/-
  MerkleSigns: the walk. My own work.
-/
import Derived.Test.YtbacmeaeehhhfaaDoorOl
import Derived.Test.YtbacmeaeehhhfaaDoorMi
import Derived.Test.YtbacmeaeehhhfaaDoorNd
namespace Go.Proofs.YtbacmeaeehhhfaaDoor
open Go.RowKit Go.Shelf
set_option linter.unusedVariables false
set_option linter.unusedSimpArgs false
theorem two_a {w : World} {g : Nat} {a b : Idv} (h : Holds w g 47 (ic a ++ ic b)) : Cells w (some ⟨g, 0, none⟩) (ic a) := Cells.of_cells fun j hj => by
  have := h.cell j
  rw [Nat.zero_add, this, List.getElem?_append_left hj, List.getElem?_eq_getElem hj]
theorem two_b {w : World} {g : Nat} {a b : Idv} (h : Holds w g 47 (ic a ++ ic b)) : Cells w (some ⟨g, 32, none⟩) (ic b) := Cells.of_cells fun j hj => by
  have := h.cell (32 + j)
  rw [this, List.getElem?_append_right (by rw [ic_length]; omega), ic_length, show 32 + j - 32 = j by omega, List.getElem?_eq_getElem hj]
theorem zero57 : ∀ w, (zeroValue 57).run Tryd.prog w = .ok (.agg (tuc ⟨0, 0, zeroI⟩).toArray) w := (zero_of_info (n := 34) (by kernel_rfl)).1
theorem exec_two0 {v : World} {o : Oper} {ρ : Operand → Value} {x y : Operand} {g : Nat} (ho : o.op = .indexAddr 47 x y) (hx : ρ x = .pointer (some ⟨g, 0, none⟩)) (hy : ρ y = .int .i64 0) : (execOp ρ o).run Tryd.prog v = .ok (.value (.pointer (some ⟨g, 0, none⟩))) v := by
  have := exec_atz (v := v) (i := 0) Tryd.underlying47 size25 (by decide) ho hx hy
  simpa using this
theorem exec_two1 {v : World} {o : Oper} {ρ : Operand → Value} {x y : Operand} {g : Nat} (ho : o.op = .indexAddr 47 x y) (hx : ρ x = .pointer (some ⟨g, 0, none⟩)) (hy : ρ y = .int .i64 1) : (execOp ρ o).run Tryd.prog v = .ok (.value (.pointer (some ⟨g, 32, none⟩))) v := by
  have := exec_atz (v := v) (i := 1) Tryd.underlying47 size25 (by decide) ho hx hy
  simpa using this
theorem exec_nebF {v : World} {o : Oper} {ρ : Operand → Value} {x y : Operand} {b : Bool} (ho : o.op = .binOp .neq 4 x y 4) (hx : ρ x = .bool b) (hy : ρ y = .bool b) : (execOp ρ o).run Tryd.prog v = .ok (.value (.bool false)) v := by
  have := exec_neb (v := v) Tryd.underlying4 ho hx hy
  simpa using this
structure XV where
  A : Option Addr
  c : Nat
  B : Option Addr
  d : Nat
  p : Nat
set_option maxRecDepth 100000 in
set_option maxHeartbeats 4000000 in
theorem signs_neg (a b : Idv) (A : Option Addr) (cA M : Nat) (z : Int) (hz : z < 0) (w : World) (Gl : Glob w) : Calls Tryd.prog 5 #[.agg (ic a ++ ic b).toArray, .int .i64 z, .slice A M cA] w fun r w' => r = .returned (.bool true) ∧ Mod [] w w' := by
  have WK := fun v (mv : Mod [] w v) => wakes_c v (Gl.then mv)
  have SN := fun v => Sign_no a b z (lfOk_no (by omega)) v
  have hd0 : decide (z < 0) = true := decide_eq_true hz
  clear Gl hz
  go_enter Tryd.func5, Tryd.ntmps5
  go_wp2_with (first
    | (with_reducible refine wpList_boxes (o := ⟨some 3, .box 47 (.tmp 0), _, _, _, _⟩) rfl 47 (.tmp 0) rfl _ rfl (ic a ++ ic b) rfl ?_; intro w1 h3 mm z1
       obtain ⟨b3, hq3⟩ : ∃ q, q = w.heap.size := ⟨_, rfl⟩
       rw [← hq3] at h3 ⊢
       clear z1 hq3)
    | (go_at_call 10; with_reducible refine Calls.mono (WK _ mm) ?_
       rintro e w2 ⟨rfl, m2⟩
       replace h3 := h3.keep m2 (by simp)
       replace mm := mm.then m2
       clear m2)
    | (with_reducible refine wpList_loads (o := ⟨some 19, .load 23 (.tmp 18), _, _, _, _⟩) rfl 23 (.tmp 18) rfl b3 0 _ rfl (two_a h3) _ Tryd.underlying23 rfl (size25i a) (iv a) rfl ?_)
    | (with_reducible refine wpList_loads (o := ⟨some 21, .load 23 (.tmp 20), _, _, _, _⟩) rfl 23 (.tmp 20) rfl b3 32 _ rfl (two_b h3) _ Tryd.underlying23 rfl (size25i b) (iv b) rfl ?_)
    | (go_at_call 23; with_reducible refine Calls.mono (SN w2) ?_
       rintro e w3 ⟨rfl, m3⟩
       replace mm := mm.then m3
       clear m3)
    | (with_reducible refine wpList_allocs (o := ⟨some 7, .alloc 50, _, _, _, _⟩) rfl 50 rfl _ zero50 ?_; intro y7 hy7 my7 zy7)
    | (with_reducible refine wpList_storesAll (o := ⟨none, .store 50 (.tmp 7) (.tmp 24), _, _, _, _⟩) rfl 50 (.tmp 7) (.tmp 24) rfl rfl w3.heap.size (sgc 0 none 0 0 none 0 0) rfl (.agg (sgc 0 none 0 0 none 0 0).toArray) rfl rfl 50 _ hy7 rfl (sgc_one _ _ _ _ _ _ _) (size50s _ _ _ _ _ _ _) ?_
       intro w4 h7 m7 z7
       have mx : Mod [] w3 w4 := my7.trans m7 (by intro i hi h; simp at h; omega)
       replace mm := mm.then mx
       obtain ⟨b7, hq7⟩ : ∃ q, q = w3.heap.size := ⟨_, rfl⟩
       rw [← hq7] at h7 ⊢
       clear hy7 my7 zy7 m7 z7 mx hq7)
    | (with_reducible refine wpList_ranW (o := ⟨some 35, .load 50 (.tmp 7), _, _, _, _⟩) (by with_unfolding_all rfl) (.agg (sgc 0 none 0 0 none 0 0).toArray) _ (exec_load rfl rfl (run_loads (Cells.of_holds h7) Tryd.underlying50 rfl (size50s _ _ _ _ _ _ _))) ?_)
    | (with_reducible refine wpList_ranW (o := ⟨some 36, .build 50 _, _, _, _, _⟩) (by with_unfolding_all rfl) (.agg (sgc 0 none 0 0 none 0 0).toArray) _ (exec_build50z rfl) ?_)
    | (go_at_call 24; with_reducible refine Calls.mono (same_c 0 [] [] none none none none 0 0 0 0 0 0 rfl rfl (by decide) (by decide) w4 (Cells.nil _ _) (Cells.nil _ _) (Cells.nil _ _) (Cells.nil _ _)) ?_
       rintro e w5 ⟨rfl, m5⟩
       replace mm := mm.then m5
       clear m5))
  go_ret
  exact ⟨rfl, mm⟩
set_option maxRecDepth 100000 in
set_option maxHeartbeats 4000000 in
theorem signs_big (a b : Idv) (A : Option Addr) (cA M : Nat) (z : Int) (hz : 8 ≤ z) (w : World) (Gl : Glob w) : Calls Tryd.prog 5 #[.agg (ic a ++ ic b).toArray, .int .i64 z, .slice A M cA] w fun r w' => r = .returned (.bool true) ∧ Mod [] w w' := by
  have WK := fun v (mv : Mod [] w v) => wakes_c v (Gl.then mv)
  have SN := fun v => Sign_no a b z (lfOk_no (by omega)) v
  have hd0 : decide (z < 0) = false := decide_eq_false (by omega)
  have hd8 : decide (8 ≤ z) = true := decide_eq_true hz
  clear Gl hz
  go_enter Tryd.func5, Tryd.ntmps5
  go_wp2_with (first
    | (with_reducible refine wpList_boxes (o := ⟨some 3, .box 47 (.tmp 0), _, _, _, _⟩) rfl 47 (.tmp 0) rfl _ rfl (ic a ++ ic b) rfl ?_; intro w1 h3 mm z1
       obtain ⟨b3, hq3⟩ : ∃ q, q = w.heap.size := ⟨_, rfl⟩
       rw [← hq3] at h3 ⊢
       clear z1 hq3)
    | (go_at_call 10; with_reducible refine Calls.mono (WK _ mm) ?_
       rintro e w2 ⟨rfl, m2⟩
       replace h3 := h3.keep m2 (by simp)
       replace mm := mm.then m2
       clear m2)
    | (with_reducible refine wpList_loads (o := ⟨some 19, .load 23 (.tmp 18), _, _, _, _⟩) rfl 23 (.tmp 18) rfl b3 0 _ rfl (two_a h3) _ Tryd.underlying23 rfl (size25i a) (iv a) rfl ?_)
    | (with_reducible refine wpList_loads (o := ⟨some 21, .load 23 (.tmp 20), _, _, _, _⟩) rfl 23 (.tmp 20) rfl b3 32 _ rfl (two_b h3) _ Tryd.underlying23 rfl (size25i b) (iv b) rfl ?_)
    | (go_at_call 23; with_reducible refine Calls.mono (SN w2) ?_
       rintro e w3 ⟨rfl, m3⟩
       replace mm := mm.then m3
       clear m3)
    | (with_reducible refine wpList_allocs (o := ⟨some 7, .alloc 50, _, _, _, _⟩) rfl 50 rfl _ zero50 ?_; intro y7 hy7 my7 zy7)
    | (with_reducible refine wpList_storesAll (o := ⟨none, .store 50 (.tmp 7) (.tmp 24), _, _, _, _⟩) rfl 50 (.tmp 7) (.tmp 24) rfl rfl w3.heap.size (sgc 0 none 0 0 none 0 0) rfl (.agg (sgc 0 none 0 0 none 0 0).toArray) rfl rfl 50 _ hy7 rfl (sgc_one _ _ _ _ _ _ _) (size50s _ _ _ _ _ _ _) ?_
       intro w4 h7 m7 z7
       have mx : Mod [] w3 w4 := my7.trans m7 (by intro i hi h; simp at h; omega)
       replace mm := mm.then mx
       obtain ⟨b7, hq7⟩ : ∃ q, q = w3.heap.size := ⟨_, rfl⟩
       rw [← hq7] at h7 ⊢
       clear hy7 my7 zy7 m7 z7 mx hq7)
    | (with_reducible refine wpList_ranW (o := ⟨some 35, .load 50 (.tmp 7), _, _, _, _⟩) (by with_unfolding_all rfl) (.agg (sgc 0 none 0 0 none 0 0).toArray) _ (exec_load rfl rfl (run_loads (Cells.of_holds h7) Tryd.underlying50 rfl (size50s _ _ _ _ _ _ _))) ?_)
    | (with_reducible refine wpList_ranW (o := ⟨some 36, .build 50 _, _, _, _, _⟩) (by with_unfolding_all rfl) (.agg (sgc 0 none 0 0 none 0 0).toArray) _ (exec_build50z rfl) ?_)
    | (go_at_call 24; with_reducible refine Calls.mono (same_c 0 [] [] none none none none 0 0 0 0 0 0 rfl rfl (by decide) (by decide) w4 (Cells.nil _ _) (Cells.nil _ _) (Cells.nil _ _) (Cells.nil _ _)) ?_
       rintro e w5 ⟨rfl, m5⟩
       replace mm := mm.then m5
       clear m5))
  go_ret
  exact ⟨rfl, mm⟩
set_option maxRecDepth 100000 in
set_option maxHeartbeats 4000000 in
theorem signs_yes (a b : Idv) (A : Option Addr) (cA M : Nat) (ts : List Tur) (hM : M = ts.length) (w : World) (Gl : Glob w) (RT : Cells w A (ts.flatMap tuc)) (n : Nat) (hn : n < 8) : Calls Tryd.prog 5 #[.agg (ic a ++ ic b).toArray, .int .i64 (n : Int), .slice A M cA] w fun r w' => r = .returned (.bool true) ∧ Mod [] w w' := by
  have WK := fun v (mv : Mod [] w v) => wakes_c v (Gl.then mv)
  have SY0 := fun v (mv : Mod [] w v) => Sign_yes a b n hn v (Gl.then mv)
  have KY0 := fun v (mv : Mod [] w v) => lawKeys_c a v (Gl.then mv)
  have RO0 := fun v (mv : Mod [] w v) => lawRoot_c a v (Gl.then mv)
  have SE0 := fun v (mv : Mod [] w v) => lawSeed_c a n (by omega) v (Gl.then mv)
  have SG0 := fun v (mv : Mod [] w v) => sign_c (lseedI a n) b v (Gl.then mv)
  have PQ0 := fun v (mv : Mod [] w v) => lawPath_c a n hn v (Gl.then mv)
  have hrt : climbI (recI b (signI (lseedI a n) b)) n (pathL a n 3) = rootI a := by rw [rec_sign]; exact climb_root a n hn
  have l1 := signI_length (lseedI a n) b
  have l2 := pathL_length a n 3
  obtain ⟨K, hK⟩ : ∃ K, K = (keysL a 8).flatMap ic := ⟨_, rfl⟩
  have k1 : K.length = 256 := by rw [hK, keysC_length]
  have k2 : ∀ u ∈ K, u.oneCell' = true := by rw [hK]; exact kcs_one a
  rw [← hK] at KY0 RO0 PQ0
  obtain ⟨rt, hr⟩ : ∃ x, x = rootI a := ⟨_, rfl⟩
  rw [← hr] at RO0 hrt
  obtain ⟨ch, hch⟩ : ∃ x, x = signI (lseedI a n) b := ⟨_, rfl⟩
  rw [← hch] at SY0 SG0 hrt l1
  obtain ⟨pt, hpt⟩ : ∃ x, x = pathL a n 3 := ⟨_, rfl⟩
  rw [← hpt] at SY0 PQ0 hrt l2
  obtain ⟨se, hse⟩ : ∃ x, x = lseedI a n := ⟨_, rfl⟩
  rw [← hse] at SE0 SG0
  have SY := Lib.hid SY0
  have KY := Lib.hid KY0
  have RO := Lib.hid RO0
  have SE := Lib.hid SE0
  have SG := Lib.hid SG0
  have PQ := Lib.hid PQ0
  have HK := Lib.hid (And.intro (show (Tryd.prog.info? 26).map (·.size) = some K.length by rw [k1]; exact size26) (And.intro k1 k2))
  have HL := Lib.hid (And.intro l1 l2)
  have HN := Lib.hid (And.intro hn hrt)
  have HG := Lib.hid Gl
  have HT := Lib.hid (And.intro hM RT)
  have hnZ : ¬ (n : Int) < 0 := by omega
  have hn8 : ¬ (8 : Int) ≤ (n : Int) := by omega
  clear Gl hM RT hn hrt l1 l2 k1 k2 hK hr hch hpt hse SY0 KY0 RO0 SE0 SG0 PQ0
  go_enter Tryd.func5, Tryd.ntmps5
  go_wp2_with (first
    | (with_reducible refine wpList_boxes (o := ⟨some 3, .box 47 (.tmp 0), _, _, _, _⟩) rfl 47 (.tmp 0) rfl _ rfl (ic a ++ ic b) rfl ?_; intro w1 h3 mm z1
       obtain ⟨b3, hq3⟩ : ∃ q, q = w.heap.size := ⟨_, rfl⟩
       rw [← hq3] at h3 ⊢
       clear z1 hq3)
    | (go_at_call 10; with_reducible refine Calls.mono (WK _ mm) ?_
       rintro e w2 ⟨rfl, m2⟩
       replace h3 := h3.keep m2 (by simp)
       replace mm := mm.then m2
       clear m2)
    | (with_reducible refine wpList_loads (o := ⟨some 19, .load 23 (.tmp 18), _, _, _, _⟩) rfl 23 (.tmp 18) rfl b3 0 _ rfl (two_a h3) _ Tryd.underlying23 rfl (size25i a) (iv a) rfl ?_)
    | (with_reducible refine wpList_loads (o := ⟨some 21, .load 23 (.tmp 20), _, _, _, _⟩) rfl 23 (.tmp 20) rfl b3 32 _ rfl (two_b h3) _ Tryd.underlying23 rfl (size25i b) (iv b) rfl ?_)
    | (go_at_call 23; with_reducible refine Calls.mono (SY.out w2 mm) ?_
       rintro e w3 ⟨A1, c1, B1, d1, rfl, O1, P1, m3⟩
       replace h3 := h3.keep m3 (by simp)
       replace mm := mm.then m3
       clear m3)
    | (with_reducible refine wpList_allocs (o := ⟨some 7, .alloc 50, _, _, _, _⟩) rfl 50 rfl _ zero50 ?_; intro y7 hy7 my7 zy7)
    | (with_reducible refine wpList_storesAll (o := ⟨none, .store 50 (.tmp 7) (.tmp 24), _, _, _, _⟩) rfl 50 (.tmp 7) (.tmp 24) rfl rfl w3.heap.size (sgc (n : Int) A1 67 c1 B1 3 d1) rfl (.agg (sgc (n : Int) A1 67 c1 B1 3 d1).toArray) rfl rfl 50 _ hy7 rfl (sgc_one _ _ _ _ _ _ _) (size50s _ _ _ _ _ _ _) ?_
       intro w4 h7 m7 z7
       have mx : Mod [] w3 w4 := my7.trans m7 (by intro i hi h; simp at h; omega)
       replace h3 := h3.keep mx (by simp)
       replace O1 := O1.keep mx (by simp)
       replace P1 := P1.keep mx (by simp)
       replace mm := mm.then mx
       obtain ⟨b7, hq7⟩ : ∃ q, q = w3.heap.size := ⟨_, rfl⟩
       rw [← hq7] at h7 ⊢
       clear hy7 my7 zy7 m7 z7 mx hq7)
    | (with_reducible refine wpList_loads (o := ⟨some 40, .load 23 (.tmp 39), _, _, _, _⟩) rfl 23 (.tmp 39) rfl b3 0 _ rfl (two_a h3) _ Tryd.underlying23 rfl (size25i a) (iv a) rfl ?_)
    | (go_at_call 11; with_reducible refine Calls.mono (KY.out w4 mm) ?_
       rintro e w5 ⟨rfl, m5⟩
       replace h3 := h3.keep m5 (by simp)
       replace h7 := h7.keep m5 (by simp)
       replace O1 := O1.keep m5 (by simp)
       replace P1 := P1.keep m5 (by simp)
       replace mm := mm.then m5
       clear m5)
    | (with_reducible refine wpList_allocs (o := ⟨some 9, .alloc 26, _, _, _, _⟩) rfl 26 rfl _ zero26 ?_; intro y9 hy9 my9 zy9)
    | (with_reducible refine wpList_storesAll (o := ⟨none, .store 26 (.tmp 9) (.tmp 41), _, _, _, _⟩) rfl 26 (.tmp 9) (.tmp 41) rfl rfl w5.heap.size (K) rfl (.agg K.toArray) rfl rfl 26 _ hy9 (by rw [HK.out.2.1]; simp) HK.out.2.2 HK.out.1 ?_
       intro w6 h9 m9 z9
       have mx : Mod [] w5 w6 := my9.trans m9 (by intro i hi h; simp at h; omega)
       replace h3 := h3.keep mx (by simp)
       replace h7 := h7.keep mx (by simp)
       replace O1 := O1.keep mx (by simp)
       replace P1 := P1.keep mx (by simp)
       replace mm := mm.then mx
       obtain ⟨b9, hq9⟩ : ∃ q, q = w5.heap.size := ⟨_, rfl⟩
       rw [← hq9] at h9 ⊢
       clear hy9 my9 zy9 m9 z9 mx hq9))
  obtain ⟨wq, hwq⟩ : ∃ v, v = w6 := ⟨_, rfl⟩
  rw [← hwq] at h3 h7 h9 O1 P1 mm ⊢
  clear hwq
  replace h3 := h3.keep (Mod.drew [] wq) (by simp)
  replace h7 := h7.keep (Mod.drew [] wq) (by simp)
  replace h9 := h9.keep (Mod.drew [] wq) (by simp)
  replace O1 := O1.keep (Mod.drew [] wq) (by simp)
  replace P1 := P1.keep (Mod.drew [] wq) (by simp)
  replace mm := mm.then (Mod.drew [] wq)
  refine wp_region_upx (X := XV) ⟨none, 0, none, 0, 0⟩ (fun x => [(42, .int .i64 (n : Int)), (43, .pointer (some ⟨b3, 0, none⟩)), (44, iv a), (45, .int .i64 (n : Int)), (46, iv se), (47, .pointer (some ⟨b3, 32, none⟩)), (48, iv b), (49, .slice x.A 67 x.c), (50, .agg K.toArray), (51, .int .i64 (n : Int)), (52, .slice x.B 3 x.d), (53, .agg (sgc (n : Int) x.A 67 x.c x.B 3 x.d).toArray), (10, .pointer (some ⟨x.p, 0, none⟩))]) 100 [42, 43, 44, 45, 46, 47, 48, 49, 50, 51, 52, 53, 10] rfl (fun _ => rfl) (by decide) (by kernel_rfl) (fun x lz v => Mod [] wq.drew v ∧ (lz 7 = true → OwnG ic 23 32 v x.A x.c ch) ∧ (lz 10 = true → OwnG ic 23 32 v x.B x.d pt) ∧ (lz 12 = true → Holds v x.p 50 (if lz 13 = true then sgc (n : Int) x.A 67 x.c x.B 3 x.d else sgc 0 none 0 0 none 0 0) ∧ wq.drew.heap.size ≤ x.p)) (by kernel_rfl) ⟨Mod.refl _ _, (fun h => by cases h), (fun h => by cases h), (fun h => by cases h)⟩ (by kernel_rfl) (by kernel_rfl) ?step ?fin
  case step =>
    intro x lz T v j o hj hlj hdep hst hpar hgot hcl Kq hK
    have hjn : j < 14 := (Array.getElem?_eq_some_iff.1 hj).1
    obtain rfl | rfl | rfl | rfl | rfl | rfl | rfl | rfl | rfl | rfl | rfl | rfl | rfl | rfl : j = 0 ∨ j = 1 ∨ j = 2 ∨ j = 3 ∨ j = 4 ∨ j = 5 ∨ j = 6 ∨ j = 7 ∨ j = 8 ∨ j = 9 ∨ j = 10 ∨ j = 11 ∨ j = 12 ∨ j = 13 := by omega
    all_goals (have hj' := Option.some.inj (hj : some _ = some o); subst hj'; clear hj)
    · exact wp_ran rfl (exec_move rfl (eval_tmp ((hpar 1 rfl).trans rfl))) (hK x _ _ (fun _ _ _ _ _ _ => rfl) (fun s hs => by cases hs; rfl) (by simpa using hst))
    · exact wp_ran rfl (exec_two0 rfl (eval_tmp ((hpar 3 rfl).trans rfl)) rfl) (hK x _ _ (fun _ _ _ _ _ _ => rfl) (fun s hs => by cases hs; rfl) (by simpa using hst))
    · exact wp_ran rfl (exec_load rfl (eval_tmp (hgot 1 _ 43 rfl (hdep ⟨1, .data⟩ (by simp) rfl) rfl)) (run_loads (two_a (h3.keep hst.1 (by simp))) Tryd.underlying23 rfl (size25i a))) (hK x _ _ (fun _ _ _ _ _ _ => rfl) (fun s hs => by cases hs; rfl) (by simpa using hst))
    · exact wp_ran rfl (exec_move rfl (eval_tmp ((hpar 1 rfl).trans rfl))) (hK x _ _ (fun _ _ _ _ _ _ => rfl) (fun s hs => by cases hs; rfl) (by simpa using hst))
    · refine wp_called rfl (exec_call2 rfl rfl (eval_tmp (hgot 2 _ 44 rfl (hdep ⟨2, .data⟩ (by simp) rfl) rfl)) (eval_tmp (hgot 3 _ 45 rfl (hdep ⟨3, .data⟩ (by simp) rfl) rfl)) (enters_of Tryd.func16 (by kernel_rfl) rfl)) ((SE.out v (mm.then hst.1)).mono ?_)
      rintro e v' ⟨rfl, m2⟩
      exact ⟨_, rfl, hK x _ _ (fun _ _ _ _ _ _ => rfl) (fun s hs => by cases hs; rfl) ⟨hst.1.then m2, fun h => (hst.2.1 (by simpa using h)).keep m2 (by simp), fun h => (hst.2.2.1 (by simpa using h)).keep m2 (by simp), fun h => ⟨by simpa using (hst.2.2.2 (by simpa using h)).1.keep m2 (by simp), (hst.2.2.2 (by simpa using h)).2⟩⟩⟩
    · exact wp_ran rfl (exec_two1 rfl (eval_tmp ((hpar 3 rfl).trans rfl)) rfl) (hK x _ _ (fun _ _ _ _ _ _ => rfl) (fun s hs => by cases hs; rfl) (by simpa using hst))
    · exact wp_ran rfl (exec_load rfl (eval_tmp (hgot 5 _ 47 rfl (hdep ⟨5, .data⟩ (by simp) rfl) rfl)) (run_loads (two_b (h3.keep hst.1 (by simp))) Tryd.underlying23 rfl (size25i b))) (hK x _ _ (fun _ _ _ _ _ _ => rfl) (fun s hs => by cases hs; rfl) (by simpa using hst))
    · have l11 : lz 11 = false := (by cases hh : lz 11 with | false => rfl | true => exact absurd (hcl 11 _ rfl hh ⟨7, .data⟩ (by simp) rfl) (by rw [hlj]; simp))
      refine wp_called rfl (exec_call2 rfl rfl (eval_tmp (hgot 4 _ 46 rfl (hdep ⟨4, .data⟩ (by simp) rfl) rfl)) (eval_tmp (hgot 6 _ 48 rfl (hdep ⟨6, .data⟩ (by simp) rfl) rfl)) (enters_of Tryd.func25 (by kernel_rfl) rfl)) ((SG.out v (mm.then hst.1)).mono ?_)
      rintro e v' ⟨A', c', rfl, hO', m2, _⟩
      have l13 : lz 13 = false := (by cases hh : lz 13 with | false => rfl | true => exact absurd (hcl 13 _ rfl hh ⟨7, .phase⟩ (by simp) rfl) (by rw [hlj]; simp))
      exact ⟨_, rfl, hK { x with A := A', c := c' } _ _ (fun j' o' s' g1 g2 g3 => by
          have g4 : j' < 14 := (Array.getElem?_eq_some_iff.1 g1).1
          clear hpar hgot hdep hK
          obtain rfl | rfl | rfl | rfl | rfl | rfl | rfl | rfl | rfl | rfl | rfl | rfl | rfl | rfl : j' = 0 ∨ j' = 1 ∨ j' = 2 ∨ j' = 3 ∨ j' = 4 ∨ j' = 5 ∨ j' = 6 ∨ j' = 7 ∨ j' = 8 ∨ j' = 9 ∨ j' = 10 ∨ j' = 11 ∨ j' = 12 ∨ j' = 13 := by omega
          all_goals (cases g1; cases g3 <;> first | rfl | (rw [hlj] at g2; cases g2) | (rw [l11] at g2; cases g2))) (fun s hs => by cases hs; rfl) ⟨hst.1.then m2, fun _ => hO', fun h => (hst.2.2.1 (by simpa using h)).keep m2 (by simp), fun h => ⟨by simpa [l13] using (hst.2.2.2 (by simpa using h)).1.keep m2 (by simp), (hst.2.2.2 (by simpa using h)).2⟩⟩⟩
    · exact wp_ran rfl (exec_load rfl (eval_tmp ((hpar 9 rfl).trans rfl)) (run_loads (Cells.of_holds (h9.keep hst.1 (by simp))) Tryd.underlying26 rfl HK.out.1)) (hK x _ _ (fun _ _ _ _ _ _ => rfl) (fun s hs => by cases hs; rfl) (by simpa using hst))
    · exact wp_ran rfl (exec_move rfl (eval_tmp ((hpar 1 rfl).trans rfl))) (hK x _ _ (fun _ _ _ _ _ _ => rfl) (fun s hs => by cases hs; rfl) (by simpa using hst))
    · have l11 : lz 11 = false := (by cases hh : lz 11 with | false => rfl | true => exact absurd (hcl 11 _ rfl hh ⟨10, .data⟩ (by simp) rfl) (by rw [hlj]; simp))
      refine wp_called rfl (exec_call2 rfl rfl (eval_tmp (hgot 8 _ 50 rfl (hdep ⟨8, .data⟩ (by simp) rfl) rfl)) (eval_tmp (hgot 9 _ 51 rfl (hdep ⟨9, .data⟩ (by simp) rfl) rfl)) (enters_of Tryd.func18 (by kernel_rfl) rfl)) ((PQ.out v (mm.then hst.1)).mono ?_)
      rintro e v' ⟨A', c', rfl, hO', m2⟩
      have l13 : lz 13 = false := (by cases hh : lz 13 with | false => rfl | true => exact absurd (hcl 13 _ rfl hh ⟨10, .phase⟩ (by simp) rfl) (by rw [hlj]; simp))
      exact ⟨_, rfl, hK { x with B := A', d := c' } _ _ (fun j' o' s' g1 g2 g3 => by
          have g4 : j' < 14 := (Array.getElem?_eq_some_iff.1 g1).1
          clear hpar hgot hdep hK
          obtain rfl | rfl | rfl | rfl | rfl | rfl | rfl | rfl | rfl | rfl | rfl | rfl | rfl | rfl : j' = 0 ∨ j' = 1 ∨ j' = 2 ∨ j' = 3 ∨ j' = 4 ∨ j' = 5 ∨ j' = 6 ∨ j' = 7 ∨ j' = 8 ∨ j' = 9 ∨ j' = 10 ∨ j' = 11 ∨ j' = 12 ∨ j' = 13 := by omega
          all_goals (cases g1; cases g3 <;> first | rfl | (rw [hlj] at g2; cases g2) | (rw [l11] at g2; cases g2))) (fun s hs => by cases hs; rfl) ⟨hst.1.then m2, fun h => (hst.2.1 (by simpa using h)).keep m2 (by simp), fun _ => hO', fun h => ⟨by simpa [l13] using (hst.2.2.2 (by simpa using h)).1.keep m2 (by simp), (hst.2.2.2 (by simpa using h)).2⟩⟩⟩
    · exact wp_ran rfl (exec_build50 rfl (eval_tmp (hgot 0 _ 42 rfl (hdep ⟨0, .data⟩ (by simp) rfl) rfl)) (eval_tmp (hgot 7 _ 49 rfl (hdep ⟨7, .data⟩ (by simp) rfl) rfl)) (eval_tmp (hgot 10 _ 52 rfl (hdep ⟨10, .data⟩ (by simp) rfl) rfl))) (hK x _ _ (fun _ _ _ _ _ _ => rfl) (fun s hs => by cases hs; rfl) (by simpa using hst))
    · have l13 : lz 13 = false := (by cases hh : lz 13 with | false => rfl | true => exact absurd (hcl 13 _ rfl hh ⟨12, .data⟩ (by simp) rfl) (by rw [hlj]; simp))
      exact wp_alloced (cs := sgc 0 none 0 0 none 0 0) rfl rfl zero50 (fun v' q m => hK { x with p := v.heap.size } _ _ (fun j' o' s' g1 g2 g3 => by
          have g4 : j' < 14 := (Array.getElem?_eq_some_iff.1 g1).1
          clear hpar hgot hdep hK
          obtain rfl | rfl | rfl | rfl | rfl | rfl | rfl | rfl | rfl | rfl | rfl | rfl | rfl | rfl : j' = 0 ∨ j' = 1 ∨ j' = 2 ∨ j' = 3 ∨ j' = 4 ∨ j' = 5 ∨ j' = 6 ∨ j' = 7 ∨ j' = 8 ∨ j' = 9 ∨ j' = 10 ∨ j' = 11 ∨ j' = 12 ∨ j' = 13 := by omega
          all_goals (cases g1; cases g3 <;> first | rfl | (rw [hlj] at g2; cases g2) | (rw [l13] at g2; cases g2))) (fun s hs => by cases hs; rfl) ⟨hst.1.then m, fun h => (hst.2.1 (by simpa using h)).keep m (by simp), fun h => (hst.2.2.1 (by simpa using h)).keep m (by simp), fun _ => ⟨by simpa [l13] using q, hst.1.size⟩⟩)
    · have hp := hst.2.2.2 (hdep ⟨12, .data⟩ (by simp) rfl)
      rw [if_neg (by rw [hlj]; simp)] at hp
      have a7 := hst.2.1 (hdep ⟨7, .phase⟩ (by simp) rfl)
      have a10 := hst.2.2.1 (hdep ⟨10, .phase⟩ (by simp) rfl)
      refine wp_stored (ty := 50) (V := .agg (sgc (n : Int) x.A 67 x.c x.B 3 x.d).toArray) (cs := sgc (n : Int) x.A 67 x.c x.B 3 x.d) rfl rfl (eval_tmp (hgot 12 _ 10 rfl (hdep ⟨12, .data⟩ (by simp) rfl) rfl)) (eval_tmp (hgot 11 _ 53 rfl (hdep ⟨11, .data⟩ (by simp) rfl) rfl)) rfl hp.1 rfl (sgc_one _ _ _ _ _ _ _) (size50s _ _ _ _ _ _ _) (fun v' q1 q2 => hK x undef _ (fun _ _ _ _ _ _ => rfl) (fun s hs => by cases hs) ⟨far_mod hst.1 q2 (fun i hi => by simp at hi; rw [hi]; exact hp.2), fun _ => a7.keep q2 (fun a ha hm => a7.ne hp.1 (by decide) a ha (by simpa using hm)), fun _ => a10.keep q2 (fun a ha hm => a10.ne hp.1 (by decide) a ha (by simpa using hm)), fun _ => ⟨by simpa using q1, hp.2⟩⟩)
  case fin =>
  intro x lz vr hlz hst
  obtain ⟨qm, q1, q2, q3⟩ := hst
  have O2 := q1 (hlz 7 (by decide))
  have P2 := q2 (hlz 10 (by decide))
  have h10 := (q3 (hlz 12 (by decide))).1
  rw [if_pos (hlz 13 (by decide))] at h10
  replace h3 := h3.keep qm (by simp)
  replace h7 := h7.keep qm (by simp)
  replace h9 := h9.keep qm (by simp)
  replace O1 := O1.keep qm (by simp)
  replace P1 := P1.keep qm (by simp)
  replace mm := mm.then qm
  clear hlz q1 q2 q3 qm
  obtain ⟨A2, c2, B2, d2, b10⟩ := x
  simp only at O2 P2 h10
  simp only [Act.put, setAll, List.setIfInBounds_toArray, List.foldl_cons, List.foldl_nil, List.set_cons_succ, List.set_cons_zero]
  go_wp2_with fail
  obtain ⟨wr8, hwq⟩ : ∃ v, v = vr := ⟨_, rfl⟩
  rw [← hwq] at h3 h7 h9 h10 O1 P1 O2 P2 mm ⊢
  clear hwq
  replace h3 := h3.keep (Mod.drew [] wr8) (by simp)
  replace h7 := h7.keep (Mod.drew [] wr8) (by simp)
  replace h9 := h9.keep (Mod.drew [] wr8) (by simp)
  replace h10 := h10.keep (Mod.drew [] wr8) (by simp)
  replace O1 := O1.keep (Mod.drew [] wr8) (by simp)
  replace P1 := P1.keep (Mod.drew [] wr8) (by simp)
  replace O2 := O2.keep (Mod.drew [] wr8) (by simp)
  replace P2 := P2.keep (Mod.drew [] wr8) (by simp)
  replace mm := mm.then (Mod.drew [] wr8)
  have SM : Hid (∀ v, Mod [] wr8.drew v → Calls Tryd.prog 24 #[.agg (sgc (n : Int) A1 67 c1 B1 3 d1).toArray, .agg (sgc (n : Int) A2 67 c2 B2 3 d2).toArray] v fun r w' => r = .returned (.bool true) ∧ Mod [] v w') := Lib.hid fun v hv =>
    same_c (n : Int) ch pt A1 B1 A2 B2 67 3 c1 d1 c2 d2 HL.out.1.symm HL.out.2.symm (by decide) (by decide) v (O1.cells.keep hv (by simp)) (P1.cells.keep hv (by simp)) (O2.cells.keep hv (by simp)) (P2.cells.keep hv (by simp))
  have VY : Hid (∀ v, Mod [] wr8.drew v → Calls Tryd.prog 26 #[iv rt, iv b, .agg (sgc (n : Int) A2 67 c2 B2 3 d2).toArray] v fun r w' => r = .returned (.bool true) ∧ Mod [] v w') := Lib.hid fun v hv => by
    have := Verify_yes rt b n HN.out.1 A2 c2 B2 d2 ch pt HL.out.1 HL.out.2 v (HG.out.then (mm.then hv)) (O2.cells.keep hv (by simp)) (P2.cells.keep hv (by simp))
    rwa [decide_eq_true HN.out.2] at this
  refine wp_region_ups [(54, .int .i64 0), (55, .bool false), (56, .bool false), (57, .agg (sgc (n : Int) A1 67 c1 B1 3 d1).toArray), (58, .agg (sgc (n : Int) A2 67 c2 B2 3 d2).toArray), (59, .bool true), (60, .bool false), (61, .bool false), (62, .bool false), (63, .agg K.toArray), (64, iv rt), (65, .pointer (some ⟨b3, 32, none⟩)), (66, iv b), (67, .agg (sgc (n : Int) A2 67 c2 B2 3 d2).toArray), (68, .bool true), (69, .bool false), (70, .bool false)] 100 [54, 55, 56, 57, 58, 59, 60, 61, 62, 63, 64, 65, 66, 67, 68, 69, 70] rfl rfl (by decide) (by kernel_rfl) (fun lz v => Mod [] wr8.drew v) (by kernel_rfl) (Mod.refl _ _) (by kernel_rfl) (by kernel_rfl) ?step ?fin
  case step =>
    intro lz T v j o hj hlj hdep hst hpar hgot hcl Kq hK
    have hjn : j < 17 := (Array.getElem?_eq_some_iff.1 hj).1
    obtain rfl | rfl | rfl | rfl | rfl | rfl | rfl | rfl | rfl | rfl | rfl | rfl | rfl | rfl | rfl | rfl | rfl : j = 0 ∨ j = 1 ∨ j = 2 ∨ j = 3 ∨ j = 4 ∨ j = 5 ∨ j = 6 ∨ j = 7 ∨ j = 8 ∨ j = 9 ∨ j = 10 ∨ j = 11 ∨ j = 12 ∨ j = 13 ∨ j = 14 ∨ j = 15 ∨ j = 16 := by omega
    all_goals (have hj' := Option.some.inj (hj : some _ = some o); subst hj'; clear hj)
    · exact wp_ran rfl (exec_move rfl (eval_tmp ((hpar 8 rfl).trans rfl))) (hK _ _ (fun s hs => by cases hs; rfl) hst)
    · exact wp_ran rfl (exec_nei (rfl) rfl (eval_tmp (hgot 0 _ 54 rfl (hdep ⟨0, .data⟩ (by simp) rfl) rfl)) rfl) (hK _ _ (fun s hs => by cases hs; rfl) hst)
    · exact wp_ran rfl (exec_move rfl (eval_tmp (hgot 1 _ 55 rfl (hdep ⟨1, .data⟩ (by simp) rfl) rfl))) (hK _ _ (fun s hs => by cases hs; rfl) hst)
    · exact wp_ranW (wanted_yes rfl rfl rfl (hgot 2 _ 56 rfl (hdep ⟨2, .guard⟩ (by simp) rfl) rfl)) (exec_load rfl (eval_tmp ((hpar 7 rfl).trans rfl)) (run_loads (Cells.of_holds (h7.keep hst (by simp))) Tryd.underlying50 rfl (size50s _ _ _ _ _ _ _))) (hK _ _ (fun s hs => by cases hs; rfl) hst)
    · exact wp_ranW (wanted_yes rfl rfl rfl (hgot 2 _ 56 rfl (hdep ⟨2, .guard⟩ (by simp) rfl) rfl)) (exec_load rfl (eval_tmp ((hpar 10 rfl).trans rfl)) (run_loads (Cells.of_holds (h10.keep hst (by simp))) Tryd.underlying50 rfl (size50s _ _ _ _ _ _ _))) (hK _ _ (fun s hs => by cases hs; rfl) hst)
    · exact wp_calledW (wanted_yes rfl rfl rfl (hgot 2 _ 56 rfl (hdep ⟨2, .guard⟩ (by simp) rfl) rfl)) (exec_call2 rfl rfl (eval_tmp (hgot 3 _ 57 rfl (hdep ⟨3, .data⟩ (by simp) rfl) rfl)) (eval_tmp (hgot 4 _ 58 rfl (hdep ⟨4, .data⟩ (by simp) rfl) rfl)) (enters_of Tryd.func24 (by kernel_rfl) rfl)) ((SM.out v hst).mono (fun e v' hh => ⟨_, hh.1, hK _ _ (fun s hs => by cases hs; rfl) (hst.then hh.2)⟩))
    · exact wp_ranW (wanted_yes rfl rfl rfl (hgot 2 _ 56 rfl (hdep ⟨2, .guard⟩ (by simp) rfl) rfl)) (exec_not rfl (eval_tmp (hgot 5 _ 59 rfl (hdep ⟨5, .data⟩ (by simp) rfl) rfl))) (hK _ _ (fun s hs => by cases hs; rfl) hst)
    · exact wp_ran rfl (exec_pick rfl (eval_tmp (hgot 2 _ 56 rfl (hdep ⟨2, .data⟩ (by simp) rfl) rfl)) rfl (eval_tmp (hgot 6 _ 60 rfl (hdep ⟨6, .data⟩ (by simp) rfl) rfl)) rfl) (hK _ _ (fun s hs => by cases hs; rfl) hst)
    · exact wp_ran rfl (exec_move rfl (eval_tmp (hgot 7 _ 61 rfl (hdep ⟨7, .data⟩ (by simp) rfl) rfl))) (hK _ _ (fun s hs => by cases hs; rfl) hst)
    · exact wp_ranW (wanted_yes rfl rfl rfl (hgot 8 _ 62 rfl (hdep ⟨8, .guard⟩ (by simp) rfl) rfl)) (exec_load rfl (eval_tmp ((hpar 9 rfl).trans rfl)) (run_loads (Cells.of_holds (h9.keep hst (by simp))) Tryd.underlying26 rfl HK.out.1)) (hK _ _ (fun s hs => by cases hs; rfl) hst)
    · exact wp_calledW (wanted_yes rfl rfl rfl (hgot 8 _ 62 rfl (hdep ⟨8, .guard⟩ (by simp) rfl) rfl)) (exec_call1 rfl rfl (eval_tmp (hgot 9 _ 63 rfl (hdep ⟨9, .data⟩ (by simp) rfl) rfl)) (enters_of Tryd.func13 (by kernel_rfl) rfl)) ((RO.out v (mm.then hst)).mono (fun e v' hh => ⟨_, hh.1, hK _ _ (fun s hs => by cases hs; rfl) (hst.then hh.2)⟩))
    · exact wp_ranW (wanted_yes rfl rfl rfl (hgot 8 _ 62 rfl (hdep ⟨8, .guard⟩ (by simp) rfl) rfl)) (exec_two1 rfl (eval_tmp ((hpar 3 rfl).trans rfl)) rfl) (hK _ _ (fun s hs => by cases hs; rfl) hst)
    · exact wp_ranW (wanted_yes rfl rfl rfl (hgot 8 _ 62 rfl (hdep ⟨8, .guard⟩ (by simp) rfl) rfl)) (exec_load rfl (eval_tmp (hgot 11 _ 65 rfl (hdep ⟨11, .data⟩ (by simp) rfl) rfl)) (run_loads (two_b (h3.keep hst (by simp))) Tryd.underlying23 rfl (size25i b))) (hK _ _ (fun s hs => by cases hs; rfl) hst)
    · exact wp_ranW (wanted_yes rfl rfl rfl (hgot 8 _ 62 rfl (hdep ⟨8, .guard⟩ (by simp) rfl) rfl)) (exec_load rfl (eval_tmp ((hpar 10 rfl).trans rfl)) (run_loads (Cells.of_holds (h10.keep hst (by simp))) Tryd.underlying50 rfl (size50s _ _ _ _ _ _ _))) (hK _ _ (fun s hs => by cases hs; rfl) hst)
    · exact wp_calledW (wanted_yes rfl rfl rfl (hgot 8 _ 62 rfl (hdep ⟨8, .guard⟩ (by simp) rfl) rfl)) (exec_call3 rfl rfl (eval_tmp (hgot 10 _ 64 rfl (hdep ⟨10, .data⟩ (by simp) rfl) rfl)) (eval_tmp (hgot 12 _ 66 rfl (hdep ⟨12, .data⟩ (by simp) rfl) rfl)) (eval_tmp (hgot 13 _ 67 rfl (hdep ⟨13, .data⟩ (by simp) rfl) rfl)) (enters_of Tryd.func26 (by kernel_rfl) rfl)) ((VY.out v hst).mono (fun e v' hh => ⟨_, hh.1, hK _ _ (fun s hs => by cases hs; rfl) (hst.then hh.2)⟩))
    · exact wp_ranW (wanted_yes rfl rfl rfl (hgot 8 _ 62 rfl (hdep ⟨8, .guard⟩ (by simp) rfl) rfl)) (exec_not rfl (eval_tmp (hgot 14 _ 68 rfl (hdep ⟨14, .data⟩ (by simp) rfl) rfl))) (hK _ _ (fun s hs => by cases hs; rfl) hst)
    · exact wp_ran rfl (exec_pick rfl (eval_tmp (hgot 8 _ 62 rfl (hdep ⟨8, .data⟩ (by simp) rfl) rfl)) rfl (eval_tmp (hgot 15 _ 69 rfl (hdep ⟨15, .data⟩ (by simp) rfl) rfl)) rfl) (hK _ _ (fun s hs => by cases hs; rfl) hst)
  case fin =>
  intro lz wL hlz hst
  replace h3 := h3.keep hst (by simp)
  replace h9 := h9.keep hst (by simp)
  replace h10 := h10.keep hst (by simp)
  replace O2 := O2.keep hst (by simp)
  replace P2 := P2.keep hst (by simp)
  replace mm := mm.then hst
  clear hst hlz SM VY O1 P1 h7
  simp only [setAll, List.foldl_cons, List.foldl_nil, List.set_cons_succ, List.set_cons_zero]
  go_wp2_with fail
  have mw := Lib.hid mm
  have L3 := Lib.hid h3
  have L9 := Lib.hid h9
  have L10 := Lib.hid h10
  have LO := Lib.hid O2
  have LP := Lib.hid P2
  clear mm h3 h9 h10 O2 P2 SY KY SE SG PQ
  go_loopw [73] (fun i wi => ∃ (k : Nat), k ≤ 4 ∧ i = .int .i64 (k : Int) ∧ Mod [] wL wi) (fun i _ => 4 - (intOf i).toNat)
  case atStart => exact ⟨0, by omega, rfl, Mod.refl _ _⟩
  case round =>
    obtain ⟨k, hk, rfl, mm⟩ := hrel
    by_cases hkn : k < M
    · have hkZ : (k : Int) < (M : Int) := by omega
      obtain ⟨g, oo, hA, hcp⟩ := (HT.out.2.keep (mw.out.then mm) (by simp)).elem' tuc 34 (by omega) tuc_length k (by rw [← HT.out.1]; exact hkn)
      subst hA
      obtain ⟨t, ht⟩ : ∃ z, z = ts[k]'(by rw [← HT.out.1]; exact hkn) := ⟨_, rfl⟩
      rw [← ht] at hcp
      clear ht HT
      by_cases hk4 : k < 4
      · have hkZ4 : (k : Int) < 4 := by omega
        have e4 : ((k : Int) == 4) = false := beq_eq_false_iff_ne.2 (by omega)
        have h3 := L3.out.keep mm (by simp)
        have h9 := L9.out.keep mm (by simp)
        have h10 := L10.out.keep mm (by simp)
        have O2 := LO.out.keep mm (by simp)
        have P2 := LP.out.keep mm (by simp)
        clear L3 L9 L10 LO LP
        go_wp2_with (first
          | (with_reducible refine wpList_loads (o := ⟨some 77, .load 57 (.tmp 76), _, _, _, _⟩) rfl 57 (.tmp 76) rfl g (oo + k * 34) _ rfl hcp _ Tryd.underlying57 rfl (size57 t) (.agg (tuc t).toArray) rfl ?_)
          | (with_reducible refine wpList_allocs (o := ⟨some 12, .alloc 57, _, _, _, _⟩) rfl 57 rfl _ zero57 ?_; intro y12 hy12 my12 zy12)
          | (with_reducible refine wpList_storesAll (o := ⟨none, .store 57 (.tmp 12) (.tmp 77), _, _, _, _⟩) rfl 57 (.tmp 12) (.tmp 77) rfl rfl wr.heap.size (tuc t) rfl (.agg (tuc t).toArray) rfl rfl 57 _ hy12 (by simp only [tuc_length]) (tuc_one t) (size57 t) ?_
             intro wA h12 m12 z12
             have mx : Mod [] wr wA := my12.trans m12 (by intro i hi h; simp at h; omega)
             replace h3 := h3.keep mx (by simp)
             replace h9 := h9.keep mx (by simp)
             replace h10 := h10.keep mx (by simp)
             replace O2 := O2.keep mx (by simp)
             replace P2 := P2.keep mx (by simp)
             replace mm := mm.then mx
             obtain ⟨b12, hq12⟩ : ∃ q, q = wr.heap.size := ⟨_, rfl⟩
             rw [← hq12] at h12 ⊢
             clear hy12 my12 zy12 m12 z12 mx hq12)
          | (with_reducible refine wpList_loads (o := ⟨some 81, .load 50 (.tmp 10), _, _, _, _⟩) rfl 50 (.tmp 10) rfl b10 0 _ rfl (Cells.of_holds h10) _ Tryd.underlying50 rfl (size50s _ _ _ _ _ _ _) (.agg (sgc (n : Int) A2 67 c2 B2 3 d2).toArray) rfl ?_)
          | (with_reducible refine wpList_loads (o := ⟨some 83, .load 23 (.tmp 82), _, _, _, _⟩) rfl 23 (.tmp 82) rfl b3 32 _ rfl (two_b h3) _ Tryd.underlying23 rfl (size25i b) (iv b) rfl ?_)
          | (with_reducible refine wpList_loads (o := ⟨some 84, .load 57 (.tmp 12), _, _, _, _⟩) rfl 57 (.tmp 12) rfl b12 0 _ rfl (Cells.of_holds h12) _ Tryd.underlying57 rfl (size57 t) (.agg (tuc t).toArray) rfl ?_)
          | (go_at_call 27; with_reducible refine Calls.mono (turned_c (n : Int) A2 c2 ch HL.out.1 B2 d2 pt HL.out.2 b t wA O2.cells P2.cells) ?_
             rintro e wB ⟨i', A', n', c', l', B', p', d', r', m', rfl, hn', hp', R1, R2, m4⟩
             have HLr := Lib.hid (And.intro hn' hp')
             clear hn' hp'
             replace h9 := h9.keep m4 (by simp)
             replace mm := mm.then m4
             clear m4)
          | (with_reducible refine wpList_allocs (o := ⟨some 13, .alloc 50, _, _, _, _⟩) rfl 50 rfl _ zero50 ?_; intro y13 hy13 my13 zy13; replace zy13 := Lib.hid zy13)
          | (with_reducible refine wpList_allocs (o := ⟨some 14, .alloc 23, _, _, _, _⟩) rfl 23 rfl _ zeroI_25 ?_; intro y14 hy14 my14 zy14; replace zy14 := Lib.hid zy14)
          | (with_reducible refine wpList_storesAll (o := ⟨none, .store 50 (.tmp 13) (.tmp 86), _, _, _, _⟩) rfl 50 (.tmp 13) (.tmp 86) rfl rfl wB.heap.size (sgc i' A' n' c' B' p' d') rfl (.agg (sgc i' A' n' c' B' p' d').toArray) rfl rfl 50 _ (hy13.keep my14 (by simp)) rfl (sgc_one _ _ _ _ _ _ _) (size50s _ _ _ _ _ _ _) ?_
             intro wC h13 m13 z13
             have hy14' := hy14.keep m13 (fun h => by have := zy13.out; have := List.mem_singleton.1 h; omega))
          | (with_reducible refine wpList_storesAll (o := ⟨none, .store 23 (.tmp 14) (.tmp 87), _, _, _, _⟩) rfl 23 (.tmp 14) (.tmp 87) rfl rfl y13.heap.size (ic m') rfl (iv m') rfl rfl 23 _ hy14' (by rw [ic_length, ic_length]) (ic_one m') (size25i m') ?_
             intro wF h14 m14 z14
             have mx : Mod [] wB wF := ((my13.then my14).trans m13 (by intro i hi h; simp at h; omega)).trans m14 (by intro i hi h; have := zy13.out; simp at h; omega)
             replace h13 := h13.keep m14 (fun h => by have := zy13.out; have := List.mem_singleton.1 h; omega)
             replace h9 := h9.keep mx (by simp)
             replace R1 := R1.keep mx (by simp)
             replace R2 := R2.keep mx (by simp)
             replace mm := mm.then mx
             obtain ⟨b13, hq13⟩ : ∃ q, q = wB.heap.size := ⟨_, rfl⟩
             obtain ⟨b14, hq14⟩ : ∃ q, q = y13.heap.size := ⟨_, rfl⟩
             rw [← hq13] at h13 ⊢
             rw [← hq14] at h14 ⊢
             clear hy13 my13 zy13 hy14 my14 zy14 m13 z13 m14 z14 mx hq13 hq14 hy14'))
        obtain ⟨wz, hwq⟩ : ∃ v, v = wF := ⟨_, rfl⟩
        rw [← hwq] at h9 h13 h14 R1 R2 mm ⊢
        clear hwq
        replace h9 := h9.keep (Mod.drew [] wz) (by simp)
        replace h13 := h13.keep (Mod.drew [] wz) (by simp)
        replace h14 := h14.keep (Mod.drew [] wz) (by simp)
        replace R1 := R1.keep (Mod.drew [] wz) (by simp)
        replace R2 := R2.keep (Mod.drew [] wz) (by simp)
        replace mm := mm.then (Mod.drew [] wz)
        have key : ∃ bb, (∀ v, Mod [] wz.drew v → Calls Tryd.prog 26 #[iv rt, iv m', .agg (sgc i' A' n' c' B' p' d').toArray] v fun r w' => r = .returned (.bool bb) ∧ Mod [] v w') ∧ (∀ v, Mod [] wz.drew v → Calls Tryd.prog 28 #[iv rt, iv m', .agg (sgc i' A' n' c' B' p' d').toArray] v fun r w' => r = .returned (.bool bb) ∧ Mod [] v w') := by
          cases hb : mayB i' n' p' with
          | false => exact ⟨false, fun v hv => Verify_no rt m' i' A' n' c' B' p' d' hb v, fun v hv => verified_no rt m' i' A' n' c' B' p' d' hb v⟩
          | true =>
            obtain ⟨K', rfl, hK8, h67, h3'⟩ := mayB_is hb
            subst h67 h3'
            exact ⟨_, fun v hv => Verify_yes rt m' K' hK8 A' c' B' d' l' r' HLr.out.1.symm HLr.out.2.symm v (HG.out.then (mw.out.then (mm.then hv))) (R1.keep hv (by simp)) (R2.keep hv (by simp)), fun v hv => verified_yes rt m' K' hK8 A' c' B' d' l' r' HLr.out.1.symm HLr.out.2.symm v (HG.out.then (mw.out.then (mm.then hv))) (R1.keep hv (by simp)) (R2.keep hv (by simp))⟩
        obtain ⟨bb, hVA, hVB⟩ := key
        have VA := Lib.hid hVA
        have VB := Lib.hid hVB
        clear hVA hVB R1 R2
        refine wp_region_ups [(88, .agg K.toArray), (89, iv rt), (90, iv m'), (91, .agg (sgc i' A' n' c' B' p' d').toArray), (92, .bool bb), (93, .agg K.toArray), (94, iv rt), (95, iv m'), (96, .agg (sgc i' A' n' c' B' p' d').toArray), (97, .bool bb), (98, .bool false)] 100 [88, 89, 90, 91, 92, 93, 94, 95, 96, 97, 98] rfl rfl (by decide) (by kernel_rfl) (fun lz v => Mod [] wz.drew v) (by kernel_rfl) (Mod.refl _ _) (by kernel_rfl) (by kernel_rfl) ?step ?fin
        case step =>
          intro lz T v j o hj hlj hdep hst hpar hgot hcl Kq hK
          have hjn : j < 11 := (Array.getElem?_eq_some_iff.1 hj).1
          obtain rfl | rfl | rfl | rfl | rfl | rfl | rfl | rfl | rfl | rfl | rfl : j = 0 ∨ j = 1 ∨ j = 2 ∨ j = 3 ∨ j = 4 ∨ j = 5 ∨ j = 6 ∨ j = 7 ∨ j = 8 ∨ j = 9 ∨ j = 10 := by omega
          all_goals (have hj' := Option.some.inj (hj : some _ = some o); subst hj'; clear hj)
          · exact wp_ran rfl (exec_load rfl (eval_tmp ((hpar 9 rfl).trans rfl)) (run_loads (Cells.of_holds (h9.keep hst (by simp))) Tryd.underlying26 rfl HK.out.1)) (hK _ _ (fun s hs => by cases hs; rfl) hst)
          · exact wp_called rfl (exec_call1 rfl rfl (eval_tmp (hgot 0 _ 88 rfl (hdep ⟨0, .data⟩ (by simp) rfl) rfl)) (enters_of Tryd.func13 (by kernel_rfl) rfl)) ((RO.out v (mw.out.then (mm.then hst))).mono (fun e v' hh => ⟨_, hh.1, hK _ _ (fun s hs => by cases hs; rfl) (hst.then hh.2)⟩))
          · exact wp_ran rfl (exec_load rfl (eval_tmp ((hpar 14 rfl).trans rfl)) (run_loads (Cells.of_holds (h14.keep hst (by simp))) Tryd.underlying23 rfl (size25i m'))) (hK _ _ (fun s hs => by cases hs; rfl) hst)
          · exact wp_ran rfl (exec_load rfl (eval_tmp ((hpar 13 rfl).trans rfl)) (run_loads (Cells.of_holds (h13.keep hst (by simp))) Tryd.underlying50 rfl (size50s _ _ _ _ _ _ _))) (hK _ _ (fun s hs => by cases hs; rfl) hst)
          · exact wp_called rfl (exec_call3 rfl rfl (eval_tmp (hgot 1 _ 89 rfl (hdep ⟨1, .data⟩ (by simp) rfl) rfl)) (eval_tmp (hgot 2 _ 90 rfl (hdep ⟨2, .data⟩ (by simp) rfl) rfl)) (eval_tmp (hgot 3 _ 91 rfl (hdep ⟨3, .data⟩ (by simp) rfl) rfl)) (enters_of Tryd.func26 (by kernel_rfl) rfl)) ((VA.out v hst).mono (fun e v' hh => ⟨_, hh.1, hK _ _ (fun s hs => by cases hs; rfl) (hst.then hh.2)⟩))
          · exact wp_ran rfl (exec_load rfl (eval_tmp ((hpar 9 rfl).trans rfl)) (run_loads (Cells.of_holds (h9.keep hst (by simp))) Tryd.underlying26 rfl HK.out.1)) (hK _ _ (fun s hs => by cases hs; rfl) hst)
          · exact wp_called rfl (exec_call1 rfl rfl (eval_tmp (hgot 5 _ 93 rfl (hdep ⟨5, .data⟩ (by simp) rfl) rfl)) (enters_of Tryd.func13 (by kernel_rfl) rfl)) ((RO.out v (mw.out.then (mm.then hst))).mono (fun e v' hh => ⟨_, hh.1, hK _ _ (fun s hs => by cases hs; rfl) (hst.then hh.2)⟩))
          · exact wp_ran rfl (exec_load rfl (eval_tmp ((hpar 14 rfl).trans rfl)) (run_loads (Cells.of_holds (h14.keep hst (by simp))) Tryd.underlying23 rfl (size25i m'))) (hK _ _ (fun s hs => by cases hs; rfl) hst)
          · exact wp_ran rfl (exec_load rfl (eval_tmp ((hpar 13 rfl).trans rfl)) (run_loads (Cells.of_holds (h13.keep hst (by simp))) Tryd.underlying50 rfl (size50s _ _ _ _ _ _ _))) (hK _ _ (fun s hs => by cases hs; rfl) hst)
          · exact wp_called rfl (exec_call3 rfl rfl (eval_tmp (hgot 6 _ 94 rfl (hdep ⟨6, .data⟩ (by simp) rfl) rfl)) (eval_tmp (hgot 7 _ 95 rfl (hdep ⟨7, .data⟩ (by simp) rfl) rfl)) (eval_tmp (hgot 8 _ 96 rfl (hdep ⟨8, .data⟩ (by simp) rfl) rfl)) (enters_of Tryd.func28 (by kernel_rfl) rfl)) ((VB.out v hst).mono (fun e v' hh => ⟨_, hh.1, hK _ _ (fun s hs => by cases hs; rfl) (hst.then hh.2)⟩))
          · exact wp_ran rfl (exec_nebF rfl (eval_tmp (hgot 4 _ 92 rfl (hdep ⟨4, .data⟩ (by simp) rfl) rfl)) (eval_tmp (hgot 9 _ 97 rfl (hdep ⟨9, .data⟩ (by simp) rfl) rfl))) (hK _ _ (fun s hs => by cases hs; rfl) hst)
        case fin =>
        intro lz vz hlz hst
        replace mm := mm.then hst
        clear hst hlz
        simp only [Act.put, setAll, List.setIfInBounds_toArray, List.foldl_cons, List.foldl_nil, List.set_cons_succ, List.set_cons_zero]
        go_wp2_with fail
        exact ⟨⟨k + 1, by omega, by go_num, mm⟩, by simp [intOf]; omega⟩
      · obtain rfl : k = 4 := by omega
        go_wp2_with (first
          | (with_reducible refine wpList_loads (o := ⟨some 77, .load 57 (.tmp 76), _, _, _, _⟩) rfl 57 (.tmp 76) rfl g (oo + 4 * 34) _ rfl hcp _ Tryd.underlying57 rfl (size57 t) (.agg (tuc t).toArray) rfl ?_)
          | (with_reducible refine wpList_allocs (o := ⟨some 12, .alloc 57, _, _, _, _⟩) rfl 57 rfl _ zero57 ?_; intro y12 hy12 my12 zy12)
          | (with_reducible refine wpList_storesAll (o := ⟨none, .store 57 (.tmp 12) (.tmp 77), _, _, _, _⟩) rfl 57 (.tmp 12) (.tmp 77) rfl rfl wr.heap.size (tuc t) rfl (.agg (tuc t).toArray) rfl rfl 57 _ hy12 (by simp only [tuc_length]) (tuc_one t) (size57 t) ?_
             intro wA h12 m12 z12
             have mx : Mod [] wr wA := my12.trans m12 (by intro i hi h; simp at h; omega)
             replace mm := mm.then mx
             obtain ⟨b12, hq12⟩ : ∃ q, q = wr.heap.size := ⟨_, rfl⟩
             rw [← hq12] at h12 ⊢
             clear hy12 my12 zy12 m12 z12 mx hq12))
        go_ret
        exact ⟨rfl, mw.out.then mm⟩
    · have hkZ : ¬ (k : Int) < (M : Int) := by omega
      go_wp2_with fail
      go_ret
      exact ⟨rfl, mw.out.then mm⟩
theorem signs_w (cs : List Value) (z : Int) (A : Option Addr) (cA : Nat) (ts : List Tur) (_ : (Lit.int .i64 z).wf = true) (w : World) (h2 : ∃ a b : Idv, cs = ic a ++ ic b) (RT : Cells w A (ts.flatMap tuc)) (Gl : Glob w) : Calls Tryd.prog 5 #[.agg cs.toArray, .int .i64 z, .slice A ts.length cA] w fun r w' => r = .returned (.bool true) ∧ Mod [] w w' := by
  obtain ⟨a, b, rfl⟩ := h2
  by_cases h0 : z < 0
  · exact signs_neg a b A cA _ z h0 w Gl
  by_cases h8 : 8 ≤ z
  · exact signs_big a b A cA _ z h8 w Gl
  obtain ⟨n, hn⟩ : ∃ n : Nat, z = (n : Int) := ⟨z.toNat, by omega⟩
  subst hn
  exact signs_yes a b A cA _ ts rfl w Gl RT n (by omega)
end Go.Proofs.YtbacmeaeehhhfaaDoor
