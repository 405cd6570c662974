/-
  MerkleVerifies' walk. My own work.
-/
import Derived.Test.YtbacmeaeehhhfaaDoorMj
namespace Go.Proofs.YtbacmeaeehhhfaaDoor
open Go.RowKit Go.Shelf
set_option linter.unusedVariables false
set_option maxRecDepth 100000 in
set_option maxHeartbeats 4000000 in
theorem verifies_a (s m : Idv) (z : Int) (h : z < 0) (w : World) (Gl : Glob w) : Calls Tryd.prog 7 #[iv s, iv m, .int .i64 z] w fun r w' => r = .returned (.bool true) ∧ Mod [] w w' := by
  have WK := fun v (mv : Mod [] w v) => wakes_c v (Gl.then mv)
  have SN := fun v => Sign_no s m z (by unfold lfOk; first | (rw [decide_eq_false (by omega : ¬ 0 ≤ z)]; rfl) | (rw [decide_eq_false (by omega : ¬ z < 8)]; exact Bool.and_false _)) v
  clear Gl
  have hz : z < 0 := h
  go_enter Tryd.func7, Tryd.ntmps7
  go_wp2_with (first
    | (with_reducible refine wpList_boxes (o := ⟨some 3, .box 23 (.tmp 0), _, _, _, _⟩) rfl 23 (.tmp 0) rfl _ rfl (ic s) rfl ?_; intro w1 hb1 m1 z1)
    | (with_reducible refine wpList_boxes (o := ⟨some 4, .box 23 (.tmp 1), _, _, _, _⟩) rfl 23 (.tmp 1) rfl _ rfl (ic m) rfl ?_; intro w2 hb2 m2 z2
       obtain ⟨b3, hq3⟩ : ∃ q, q = w.heap.size := ⟨_, rfl⟩
       obtain ⟨b4, hq4⟩ : ∃ q, q = w1.heap.size := ⟨_, rfl⟩
       have k3 : Holds w2 b3 23 (ic s) := by rw [hq3]; exact hb1.keep m2 (by simp)
       have k4 : Holds w2 b4 23 (ic m) := by rw [hq4]; exact hb2
       have mm := m1.then m2
       rw [← hq3, ← hq4]
       clear hb1 m1 z1 hb2 m2 z2 hq3 hq4)
    | (go_at_call 10; refine (WK _ mm).mono ?_
       rintro e w3 ⟨rfl, m3⟩
       replace k3 := k3.keep m3 (by simp)
       replace k4 := k4.keep m3 (by simp)
       replace mm := mm.then m3
       clear WK m3)
    | (with_reducible refine wpList_loads (o := ⟨some 12, .load 23 (.tmp 3), _, _, _, _⟩) rfl 23 (.tmp 3) rfl b3 0 _ rfl (Cells.of_holds k3) _ Tryd.underlying23 rfl (size25i s) (iv s) rfl ?_)
    | (with_reducible refine wpList_loads (o := ⟨some 13, .load 23 (.tmp 4), _, _, _, _⟩) rfl 23 (.tmp 4) rfl b4 0 _ rfl (Cells.of_holds k4) _ Tryd.underlying23 rfl (size25i m) (iv m) rfl ?_)
    | (with_reducible refine wpList_allocs (o := ⟨some 7, .alloc 50, _, _, _, _⟩) rfl 50 rfl _ zero50 ?_; intro y2 hy2 my2 zy2)
    | (go_at_call 23; refine (SN _).mono ?_
       rintro e w4 ⟨rfl, m4⟩
       replace mm := mm.then m4
       clear SN m4)
    | (with_reducible refine wpList_storesAll (o := ⟨none, .store 50 (.tmp 7) (.tmp 16), _, _, _, _⟩) rfl 50 (.tmp 7) (.tmp 16) rfl rfl w4.heap.size (sgc 0 none 0 0 none 0 0) rfl (.agg (sgc 0 none 0 0 none 0 0).toArray) rfl rfl 50 _ hy2 rfl (sgc_one _ _ _ _ _ _ _) (size50s _ _ _ _ _ _ _) ?_
       intro w5 k7 m5 z5
       have mx : Mod [] w4 w5 := my2.trans m5 (by intro i hi h; simp at h; omega)
       replace mm := mm.then mx
       clear hy2 my2 zy2 m5 z5 mx))
  go_ret
  exact ⟨rfl, mm⟩
set_option maxRecDepth 100000 in
set_option maxHeartbeats 4000000 in
theorem verifies_b (s m : Idv) (z : Int) (h : 8 ≤ z) (w : World) (Gl : Glob w) : Calls Tryd.prog 7 #[iv s, iv m, .int .i64 z] w fun r w' => r = .returned (.bool true) ∧ Mod [] w w' := by
  have WK := fun v (mv : Mod [] w v) => wakes_c v (Gl.then mv)
  have SN := fun v => Sign_no s m z (by unfold lfOk; first | (rw [decide_eq_false (by omega : ¬ 0 ≤ z)]; rfl) | (rw [decide_eq_false (by omega : ¬ z < 8)]; exact Bool.and_false _)) v
  clear Gl
  have hz : ¬ z < 0 := by omega
  have hz2 : 8 ≤ z := h
  go_enter Tryd.func7, Tryd.ntmps7
  go_wp2_with (first
    | (with_reducible refine wpList_boxes (o := ⟨some 3, .box 23 (.tmp 0), _, _, _, _⟩) rfl 23 (.tmp 0) rfl _ rfl (ic s) rfl ?_; intro w1 hb1 m1 z1)
    | (with_reducible refine wpList_boxes (o := ⟨some 4, .box 23 (.tmp 1), _, _, _, _⟩) rfl 23 (.tmp 1) rfl _ rfl (ic m) rfl ?_; intro w2 hb2 m2 z2
       obtain ⟨b3, hq3⟩ : ∃ q, q = w.heap.size := ⟨_, rfl⟩
       obtain ⟨b4, hq4⟩ : ∃ q, q = w1.heap.size := ⟨_, rfl⟩
       have k3 : Holds w2 b3 23 (ic s) := by rw [hq3]; exact hb1.keep m2 (by simp)
       have k4 : Holds w2 b4 23 (ic m) := by rw [hq4]; exact hb2
       have mm := m1.then m2
       rw [← hq3, ← hq4]
       clear hb1 m1 z1 hb2 m2 z2 hq3 hq4)
    | (go_at_call 10; refine (WK _ mm).mono ?_
       rintro e w3 ⟨rfl, m3⟩
       replace k3 := k3.keep m3 (by simp)
       replace k4 := k4.keep m3 (by simp)
       replace mm := mm.then m3
       clear WK m3)
    | (with_reducible refine wpList_loads (o := ⟨some 12, .load 23 (.tmp 3), _, _, _, _⟩) rfl 23 (.tmp 3) rfl b3 0 _ rfl (Cells.of_holds k3) _ Tryd.underlying23 rfl (size25i s) (iv s) rfl ?_)
    | (with_reducible refine wpList_loads (o := ⟨some 13, .load 23 (.tmp 4), _, _, _, _⟩) rfl 23 (.tmp 4) rfl b4 0 _ rfl (Cells.of_holds k4) _ Tryd.underlying23 rfl (size25i m) (iv m) rfl ?_)
    | (with_reducible refine wpList_allocs (o := ⟨some 7, .alloc 50, _, _, _, _⟩) rfl 50 rfl _ zero50 ?_; intro y2 hy2 my2 zy2)
    | (go_at_call 23; refine (SN _).mono ?_
       rintro e w4 ⟨rfl, m4⟩
       replace mm := mm.then m4
       clear SN m4)
    | (with_reducible refine wpList_storesAll (o := ⟨none, .store 50 (.tmp 7) (.tmp 16), _, _, _, _⟩) rfl 50 (.tmp 7) (.tmp 16) rfl rfl w4.heap.size (sgc 0 none 0 0 none 0 0) rfl (.agg (sgc 0 none 0 0 none 0 0).toArray) rfl rfl 50 _ hy2 rfl (sgc_one _ _ _ _ _ _ _) (size50s _ _ _ _ _ _ _) ?_
       intro w5 k7 m5 z5
       have mx : Mod [] w4 w5 := my2.trans m5 (by intro i hi h; simp at h; omega)
       replace mm := mm.then mx
       clear hy2 my2 zy2 m5 z5 mx))
  go_ret
  exact ⟨rfl, mm⟩
set_option maxRecDepth 100000 in
set_option maxHeartbeats 4000000 in
theorem verifies_c (s m : Idv) (n : Nat) (hn : n < 8) (w : World) (Gl : Glob w) : Calls Tryd.prog 7 #[iv s, iv m, .int .i64 (n : Int)] w fun r w' => r = .returned (.bool true) ∧ Mod [] w w' := by
  have WK := fun v (mv : Mod [] w v) => wakes_c v (Gl.then mv)
  have SN := fun v (mv : Mod [] w v) => Sign_yes s m n hn v (Gl.then mv)
  have RT := fun v (mv : Mod [] w v) => root_c s v (Gl.then mv)
  have hyes : decide (climbI (recI m (signI (lseedI s n) m)) n (pathL s n 3) = rootI s) = true := decide_eq_true (by rw [rec_sign, climb_root s n hn])
  have V2 := fun A c B d v (mv : Mod [] w v) RC RP => Verify_yes (rootI s) m n hn A c B d (signI (lseedI s n) m) (pathL s n 3) (signI_length _ _) (pathL_length _ _ _) v (Gl.then mv) RC RP
  rw [hyes] at V2
  obtain ⟨rt, hrt⟩ : ∃ x, x = rootI s := ⟨_, rfl⟩
  rw [← hrt] at RT V2
  obtain ⟨sg, hsg⟩ : ∃ x, x = signI (lseedI s n) m := ⟨_, rfl⟩
  obtain ⟨pt, hpt⟩ : ∃ x, x = pathL s n 3 := ⟨_, rfl⟩
  rw [← hsg, ← hpt] at SN V2
  clear hyes hrt hsg hpt Gl hn
  go_enter Tryd.func7, Tryd.ntmps7
  go_wp2_with (first
    | (with_reducible refine wpList_boxes (o := ⟨some 3, .box 23 (.tmp 0), _, _, _, _⟩) rfl 23 (.tmp 0) rfl _ rfl (ic s) rfl ?_; intro w1 hb1 m1 z1)
    | (with_reducible refine wpList_boxes (o := ⟨some 4, .box 23 (.tmp 1), _, _, _, _⟩) rfl 23 (.tmp 1) rfl _ rfl (ic m) rfl ?_; intro w2 hb2 m2 z2
       obtain ⟨b3, hq3⟩ : ∃ q, q = w.heap.size := ⟨_, rfl⟩
       obtain ⟨b4, hq4⟩ : ∃ q, q = w1.heap.size := ⟨_, rfl⟩
       have k3 : Holds w2 b3 23 (ic s) := by rw [hq3]; exact hb1.keep m2 (by simp)
       have k4 : Holds w2 b4 23 (ic m) := by rw [hq4]; exact hb2
       have mm := m1.then m2
       rw [← hq3, ← hq4]
       clear hb1 m1 z1 hb2 m2 z2 hq3 hq4)
    | (go_at_call 10; refine (WK _ mm).mono ?_
       rintro e w3 ⟨rfl, m3⟩
       replace k3 := k3.keep m3 (by simp)
       replace k4 := k4.keep m3 (by simp)
       replace mm := mm.then m3
       clear WK m3)
    | (with_reducible refine wpList_loads (o := ⟨some 12, .load 23 (.tmp 3), _, _, _, _⟩) rfl 23 (.tmp 3) rfl b3 0 _ rfl (Cells.of_holds k3) _ Tryd.underlying23 rfl (size25i s) (iv s) rfl ?_)
    | (with_reducible refine wpList_loads (o := ⟨some 13, .load 23 (.tmp 4), _, _, _, _⟩) rfl 23 (.tmp 4) rfl b4 0 _ rfl (Cells.of_holds k4) _ Tryd.underlying23 rfl (size25i m) (iv m) rfl ?_)
    | (with_reducible refine wpList_allocs (o := ⟨some 7, .alloc 50, _, _, _, _⟩) rfl 50 rfl _ zero50 ?_; intro y2 hy2 my2 zy2)
    | (go_at_call 23; refine (SN _ mm).mono ?_
       rintro e w4 ⟨A, c, B, d, rfl, hOA4, hOB4, m4⟩
       replace k3 := k3.keep m4 (by simp)
       replace k4 := k4.keep m4 (by simp)
       replace mm := mm.then m4
       clear SN m4)
    | (with_reducible refine wpList_storesAll (o := ⟨none, .store 50 (.tmp 7) (.tmp 16), _, _, _, _⟩) rfl 50 (.tmp 7) (.tmp 16) rfl rfl w4.heap.size (sgc (n : Int) A 67 c B 3 d) rfl (.agg (sgc (n : Int) A 67 c B 3 d).toArray) rfl rfl 50 _ hy2 rfl (sgc_one _ _ _ _ _ _ _) (size50s _ _ _ _ _ _ _) ?_
       intro w5 k7 m5 z5
       have mx : Mod [] w4 w5 := my2.trans m5 (by intro i hi h; simp at h; omega)
       have hOA := hOA4.keep mx (by simp)
       have hOB := hOB4.keep mx (by simp)
       replace k3 := k3.keep mx (by simp)
       replace k4 := k4.keep mx (by simp)
       replace mm := mm.then mx
       obtain ⟨b7, hq7⟩ : ∃ q, q = w4.heap.size := ⟨_, rfl⟩
       rw [← hq7] at k7 ⊢
       clear hy2 my2 zy2 m5 z5 mx hq7 hOA4 hOB4))
  obtain ⟨wq, hwq⟩ : ∃ v, v = w5 := ⟨_, rfl⟩
  rw [← hwq] at k3 k4 k7 hOA hOB mm ⊢
  clear hwq
  refine wp_region_ups [(30, .pointer (some ⟨b7, 0, none⟩)), (31, .int .i64 (n : Int)), (32, .int .i64 (n : Int)), (33, .bool true), (34, .bool true), (35, iv s), (36, iv rt), (37, iv m), (38, .agg (sgc (n : Int) A 67 c B 3 d).toArray), (39, .bool true), (40, .bool true), (6, .bool true)] 41 [30, 31, 32, 33, 34, 35, 36, 37, 38, 39, 40, 6] rfl rfl (by decide) (by kernel_rfl) (fun lz v => Mod [] wq.drew v) (by kernel_rfl) (Mod.refl _ _) (by kernel_rfl) (by kernel_rfl) ?step ?fin
  case step =>
    intro lz T v j o hj hlj hdep hst hpar hgot hcl Kq hK
    have mv : ∀ v, Mod [] wq.drew v → Mod [] wq v := fun v h => (Mod.drew [] wq).then h
    have hjn : j < 12 := (Array.getElem?_eq_some_iff.1 hj).1
    obtain rfl | rfl | rfl | rfl | rfl | rfl | rfl | rfl | rfl | rfl | rfl | rfl : j = 0 ∨ j = 1 ∨ j = 2 ∨ j = 3 ∨ j = 4 ∨ j = 5 ∨ j = 6 ∨ j = 7 ∨ j = 8 ∨ j = 9 ∨ j = 10 ∨ j = 11 := by omega
    all_goals (have hj' := Option.some.inj (hj : some _ = some o); subst hj'; clear hj)
    · exact wp_ran rfl (exec_fg0 rfl (eval_tmp ((hpar 7 rfl).trans rfl))) (hK _ _ (fun s hs => by cases hs; rfl) hst)
    · exact wp_ran rfl (exec_load rfl (eval_tmp (hgot 0 _ 30 rfl (hdep ⟨0, .data⟩ (by simp) rfl) rfl)) (run_load1 Tryd.underlying3 rfl (by simpa [sgc] using (k7.keep (mv v hst) (by simp)).cell 0))) (hK _ _ (fun s hs => by cases hs; rfl) hst)
    · exact wp_ran rfl (exec_move rfl (eval_tmp ((hpar 2 rfl).trans rfl))) (hK _ _ (fun s hs => by cases hs; rfl) hst)
    · exact wp_ran rfl (exec_eqi (beq_self_eq_true _) rfl (eval_tmp (hgot 1 _ 31 rfl (hdep ⟨1, .data⟩ (by simp) rfl) rfl)) (eval_tmp (hgot 2 _ 32 rfl (hdep ⟨2, .data⟩ (by simp) rfl) rfl))) (hK _ _ (fun s hs => by cases hs; rfl) hst)
    · exact wp_ran rfl (exec_move rfl (eval_tmp (hgot 3 _ 33 rfl (hdep ⟨3, .data⟩ (by simp) rfl) rfl))) (hK _ _ (fun s hs => by cases hs; rfl) hst)
    · exact wp_ranW (wanted_yes rfl rfl rfl (hgot 4 _ 34 rfl (hdep ⟨4, .guard⟩ (by simp) rfl) rfl)) (exec_load rfl (eval_tmp ((hpar 3 rfl).trans rfl)) (run_loads (Cells.of_holds (k3.keep (mv v hst) (by simp))) Tryd.underlying23 rfl (size25i s))) (hK _ _ (fun s hs => by cases hs; rfl) hst)
    · exact wp_calledW (wanted_yes rfl rfl rfl (hgot 4 _ 34 rfl (hdep ⟨4, .guard⟩ (by simp) rfl) rfl)) (exec_call1 rfl rfl (eval_tmp (hgot 5 _ 35 rfl (hdep ⟨5, .data⟩ (by simp) rfl) rfl)) (enters_of Tryd.func12 (by kernel_rfl) rfl)) ((RT v (mm.then (mv v hst))).mono (fun e v' hh => ⟨_, hh.1, hK _ _ (fun s hs => by cases hs; rfl) (hst.then hh.2)⟩))
    · exact wp_ranW (wanted_yes rfl rfl rfl (hgot 4 _ 34 rfl (hdep ⟨4, .guard⟩ (by simp) rfl) rfl)) (exec_load rfl (eval_tmp ((hpar 4 rfl).trans rfl)) (run_loads (Cells.of_holds (k4.keep (mv v hst) (by simp))) Tryd.underlying23 rfl (size25i m))) (hK _ _ (fun s hs => by cases hs; rfl) hst)
    · exact wp_ranW (wanted_yes rfl rfl rfl (hgot 4 _ 34 rfl (hdep ⟨4, .guard⟩ (by simp) rfl) rfl)) (exec_load rfl (eval_tmp ((hpar 7 rfl).trans rfl)) (run_loads (Cells.of_holds (k7.keep (mv v hst) (by simp))) Tryd.underlying50 rfl (size50s _ _ _ _ _ _ _))) (hK _ _ (fun s hs => by cases hs; rfl) hst)
    · exact wp_calledW (wanted_yes rfl rfl rfl (hgot 4 _ 34 rfl (hdep ⟨4, .guard⟩ (by simp) rfl) rfl)) (exec_call3 rfl rfl (eval_tmp (hgot 6 _ 36 rfl (hdep ⟨6, .data⟩ (by simp) rfl) rfl)) (eval_tmp (hgot 7 _ 37 rfl (hdep ⟨7, .data⟩ (by simp) rfl) rfl)) (eval_tmp (hgot 8 _ 38 rfl (hdep ⟨8, .data⟩ (by simp) rfl) rfl)) (enters_of Tryd.func26 (by kernel_rfl) rfl)) ((V2 A c B d v (mm.then (mv v hst)) (hOA.keep (mv v hst) (by simp)).cells (hOB.keep (mv v hst) (by simp)).cells).mono (fun e v' hh => ⟨_, hh.1, hK _ _ (fun s hs => by cases hs; rfl) (hst.then hh.2)⟩))
    · exact wp_ran rfl (exec_pick rfl (eval_tmp (hgot 4 _ 34 rfl (hdep ⟨4, .data⟩ (by simp) rfl) rfl)) (eval_tmp (hgot 9 _ 39 rfl (hdep ⟨9, .data⟩ (by simp) rfl) rfl)) rfl rfl) (hK _ _ (fun s hs => by cases hs; rfl) hst)
    · exact wp_ran rfl (exec_assign rfl (eval_tmp (hgot 10 _ 40 rfl (hdep ⟨10, .data⟩ (by simp) rfl) rfl))) (hK _ _ (fun s hs => by cases hs; rfl) hst)
  case fin =>
  intro lz vr hlz hst
  have mq := (Mod.drew [] wq).then hst
  replace mm := mm.then mq
  simp only [setAll, List.foldl_cons, List.foldl_nil, List.set_cons_succ, List.set_cons_zero]
  go_wp2_with fail
  go_ret
  exact ⟨rfl, mm⟩
theorem verifies_w (L0 : List UInt8) (L1 : List UInt8) (z : Int) (h0 : L0.length = 32) (h1 : L1.length = 32) (_ : (Lit.int .i64 z).wf = true) (w : World) (Gl : Glob w) :
    Calls Tryd.prog 7 #[.agg (L0.map oct).toArray, .agg (L1.map oct).toArray, .int .i64 z] w fun r w' => r = .returned (.bool true) ∧ Mod [] w w' := by
  show Calls Tryd.prog 7 #[iv ⟨L0, h0⟩, iv ⟨L1, h1⟩, .int .i64 z] w _
  by_cases h : z < 0
  · exact verifies_a _ _ z h w Gl
  · by_cases h2 : 8 ≤ z
    · exact verifies_b _ _ z h2 w Gl
    · obtain ⟨n, rfl⟩ : ∃ n : Nat, z = (n : Int) := ⟨z.toNat, by omega⟩
      exact verifies_c _ _ n (by omega) w Gl
end Go.Proofs.YtbacmeaeehhhfaaDoor
