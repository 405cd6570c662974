/-
  Package wots: isChain, Start, Step, Chain. My own work.
-/
import Derived.Test.YtdolihecjomjiaaDoorWp
namespace Go.Proofs.YtdolihecjomjiaaDoor
open Go.RowKit Go.Shelf
def chOk (i : Int) : Prop := 0 ≤ i ∧ i < 67
instance (i : Int) : Decidable (chOk i) := by unfold chOk; infer_instance
theorem isChain_yes (i : Int) (h : chOk i) (w : World) : Calls Tryd.prog 28 #[.int .i64 i] w fun r w' => r = .returned (.bool true) ∧ w = w' := by
  obtain ⟨h1, h2⟩ := h
  go_enter Tryd.func28, Tryd.ntmps28
  go_wp2
  go_ret
  exact ⟨rfl, rfl⟩
theorem isChain_no (i : Int) (h : ¬ chOk i) (w : World) : Calls Tryd.prog 28 #[.int .i64 i] w fun r w' => r = .returned (.bool false) ∧ w = w' := by
  unfold chOk at h
  by_cases h1 : 0 ≤ i
  · have h2 : ¬ i < 67 := fun hh => h ⟨h1, hh⟩
    clear h
    go_enter Tryd.func28, Tryd.ntmps28
    go_wp2
    go_ret
    exact ⟨rfl, rfl⟩
  · clear h
    go_enter Tryd.func28, Tryd.ntmps28
    go_wp2
    go_ret
    exact ⟨rfl, rfl⟩
set_option maxRecDepth 100000 in
set_option maxHeartbeats 4000000 in
theorem start_yes (x : Idv) (i : Nat) (hi : i < 67) (w : World) (Gl : Glob w) :
    Calls Tryd.prog 13 #[iv x, .int .i64 (i : Int)] w fun r w' => r = .returned (.tuple #[iv (startI i x), .int .i64 0]) ∧ Mod [] w w' := by
  obtain ⟨d, hd⟩ : ∃ d, d = startI i x := ⟨_, rfl⟩
  have C := fun v => isChain_yes (i : Int) ⟨by omega, by omega⟩ v
  have X := fun v (mv : Mod [] w v) => started_c x i (by omega) v (Gl.then mv)
  rw [← hd] at X ⊢
  clear hd Gl
  go_enter Tryd.func13, Tryd.ntmps13
  go_wp2_with (first
    | (with_reducible refine wpList_boxes (o := ⟨some 2, .box 25 (.tmp 0), _, _, _, _⟩) rfl 25 (.tmp 0) rfl _ rfl (ic x) rfl ?_; intro w1 hb1 m1 z1; replace z1 := Lib.hid z1)
    | (with_reducible refine wpList_allocs (o := ⟨some 4, .alloc 25, _, _, _, _⟩) rfl 25 rfl _ zeroI_25 ?_; intro w2 hb2 m2 z2; replace z2 := Lib.hid z2)
    | (go_at_call 28; refine (C w2).mono ?_; rintro e w3 ⟨rfl, rfl⟩)
    | (with_reducible refine wpList_loads (o := ⟨some 10, .load 25 (.tmp 2), _, _, _, _⟩) rfl 25 (.tmp 2) rfl w.heap.size 0 _ rfl (Cells.of_holds (hb1.keep m2 (by simp))) _ Tryd.underlying25 rfl (size25i x) (iv x) rfl ?_)
    | (go_at_call 29; refine (X w2 (m1.then m2)).mono ?_; rintro e w4 ⟨rfl, m4⟩)
    | (with_reducible refine wpList_storesAll (o := ⟨none, .store 25 (.tmp 4) (.tmp 12), _, _, _, _⟩) rfl 25 (.tmp 4) (.tmp 12) rfl rfl w1.heap.size (ic d) rfl (iv d) rfl rfl 25 _ (hb2.keep m4 (by simp)) (by rw [ic_length, ic_length]) (ic_one _) (size25i _) ?_; intro w5 hb5 m5 z5))
  refine bodyPost_ret (results_cell_tmp rfl _ _ w1.heap.size (ic d) _ _ rfl rfl (Cells.of_holds hb5) Tryd.underlying25 rfl (size25i _)) rfl ?_
  exact ⟨rfl, far_mod ((m1.then m2).then m4) m5 (by simp; exact m1.size)⟩
set_option maxRecDepth 100000 in
set_option maxHeartbeats 4000000 in
theorem start_no (x : Idv) (i : Int) (h : ¬ chOk i) (w : World) :
    Calls Tryd.prog 13 #[iv x, .int .i64 i] w fun r w' => r = .returned (.tuple #[iv zeroI, .int .i64 2]) ∧ Mod [] w w' := by
  have C := fun v => isChain_no i h v
  go_enter Tryd.func13, Tryd.ntmps13
  go_wp2_with (first
    | (with_reducible refine wpList_boxes (o := ⟨some 2, .box 25 (.tmp 0), _, _, _, _⟩) rfl 25 (.tmp 0) rfl _ rfl (ic x) rfl ?_; intro w1 hb1 m1 z1; replace z1 := Lib.hid z1)
    | (with_reducible refine wpList_allocs (o := ⟨some 4, .alloc 25, _, _, _, _⟩) rfl 25 rfl _ zeroI_25 ?_; intro w2 hb2 m2 z2; replace z2 := Lib.hid z2)
    | (go_at_call 28; refine (C w2).mono ?_; rintro e w3 ⟨rfl, rfl⟩)
    | (with_reducible refine wpList_ranW (o := ⟨some 9, .build 25 _, _, _, _, _⟩) (by with_unfolding_all rfl) (iv zeroI) w2 (exec_zero25 rfl) ?_)
    | (with_reducible refine wpList_storesAll (o := ⟨none, .store 25 (.tmp 4) (.tmp 9), _, _, _, _⟩) rfl 25 (.tmp 4) (.tmp 9) rfl rfl w1.heap.size (ic zeroI) rfl (iv zeroI) rfl rfl 25 _ hb2 (by rw [ic_length]) (ic_one _) (size25i _) ?_; intro w5 hb5 m5 z5))
  refine bodyPost_ret (results_cell_tmp rfl _ _ w1.heap.size (ic zeroI) _ _ rfl rfl (Cells.of_holds hb5) Tryd.underlying25 rfl (size25i _)) rfl ?_
  exact ⟨rfl, far_mod (m1.then m2) m5 (by simp; exact m1.size)⟩
set_option maxRecDepth 100000 in
set_option maxHeartbeats 4000000 in
theorem step_yes (x : Idv) (i n : Nat) (hi : i < 67) (hn : n < 15) (w : World) (Gl : Glob w) :
    Calls Tryd.prog 14 #[iv x, .int .i64 (i : Int), .int .i64 (n : Int)] w fun r w' => r = .returned (.tuple #[iv (stepI i n x), .int .i64 0]) ∧ Mod [] w w' := by
  obtain ⟨d, hd⟩ : ∃ d, d = stepI i n x := ⟨_, rfl⟩
  have C := fun v => isChain_yes (i : Int) ⟨by omega, by omega⟩ v
  have X := fun v (mv : Mod [] w v) => stepped_c x i n (by omega) (by omega) v (Gl.then mv)
  rw [← hd] at X ⊢
  have hnZ : (n : Int) < 15 := by omega
  clear hd Gl
  go_enter Tryd.func14, Tryd.ntmps14
  go_wp2_with (first
    | (with_reducible refine wpList_boxes (o := ⟨some 3, .box 25 (.tmp 0), _, _, _, _⟩) rfl 25 (.tmp 0) rfl _ rfl (ic x) rfl ?_; intro w1 hb1 m1 z1; replace z1 := Lib.hid z1)
    | (with_reducible refine wpList_allocs (o := ⟨some 6, .alloc 25, _, _, _, _⟩) rfl 25 rfl _ zeroI_25 ?_; intro w2 hb2 m2 z2; replace z2 := Lib.hid z2)
    | (go_at_call 28; refine (C w2).mono ?_; rintro e w3 ⟨rfl, rfl⟩)
    | (with_reducible refine wpList_loads (o := ⟨some 20, .load 25 (.tmp 3), _, _, _, _⟩) rfl 25 (.tmp 3) rfl w.heap.size 0 _ rfl (Cells.of_holds (hb1.keep m2 (by simp))) _ Tryd.underlying25 rfl (size25i x) (iv x) rfl ?_)
    | (go_at_call 30; refine (X w2 (m1.then m2)).mono ?_; rintro e w4 ⟨rfl, m4⟩)
    | (with_reducible refine wpList_storesAll (o := ⟨none, .store 25 (.tmp 6) (.tmp 23), _, _, _, _⟩) rfl 25 (.tmp 6) (.tmp 23) rfl rfl w1.heap.size (ic d) rfl (iv d) rfl rfl 25 _ (hb2.keep m4 (by simp)) (by rw [ic_length, ic_length]) (ic_one _) (size25i _) ?_; intro w5 hb5 m5 z5))
  refine bodyPost_ret (results_cell_tmp rfl _ _ w1.heap.size (ic d) _ _ rfl rfl (Cells.of_holds hb5) Tryd.underlying25 rfl (size25i _)) rfl ?_
  exact ⟨rfl, far_mod ((m1.then m2).then m4) m5 (by simp; exact m1.size)⟩
set_option maxRecDepth 100000 in
set_option maxHeartbeats 4000000 in
theorem step_no (x : Idv) (i n : Int) (h : ¬ (chOk i ∧ 0 ≤ n ∧ n < 15)) (w : World) :
    Calls Tryd.prog 14 #[iv x, .int .i64 i, .int .i64 n] w fun r w' => r = .returned (.tuple #[iv zeroI, .int .i64 2]) ∧ Mod [] w w' := by
  by_cases hc : chOk i
  · have C := fun v => isChain_yes i hc v
    by_cases h1 : n < 0
    · clear h hc
      go_enter Tryd.func14, Tryd.ntmps14
      go_wp2_with (first
        | (with_reducible refine wpList_boxes (o := ⟨some 3, .box 25 (.tmp 0), _, _, _, _⟩) rfl 25 (.tmp 0) rfl _ rfl (ic x) rfl ?_; intro w1 hb1 m1 z1; replace z1 := Lib.hid z1)
        | (with_reducible refine wpList_allocs (o := ⟨some 6, .alloc 25, _, _, _, _⟩) rfl 25 rfl _ zeroI_25 ?_; intro w2 hb2 m2 z2; replace z2 := Lib.hid z2)
        | (go_at_call 28; refine (C w2).mono ?_; rintro e w3 ⟨rfl, rfl⟩)
        | (with_reducible refine wpList_ranW (o := ⟨some 19, .build 25 _, _, _, _, _⟩) (by with_unfolding_all rfl) (iv zeroI) w2 (exec_zero25 rfl) ?_)
        | (with_reducible refine wpList_storesAll (o := ⟨none, .store 25 (.tmp 6) (.tmp 19), _, _, _, _⟩) rfl 25 (.tmp 6) (.tmp 19) rfl rfl w1.heap.size (ic zeroI) rfl (iv zeroI) rfl rfl 25 _ hb2 (by rw [ic_length]) (ic_one _) (size25i _) ?_; intro w5 hb5 m5 z5))
      refine bodyPost_ret (results_cell_tmp rfl _ _ w1.heap.size (ic zeroI) _ _ rfl rfl (Cells.of_holds hb5) Tryd.underlying25 rfl (size25i _)) rfl ?_
      exact ⟨rfl, far_mod (m1.then m2) m5 (by simp; exact m1.size)⟩
    · have h2 : ¬ n < 15 := fun hh => h ⟨hc, by omega, hh⟩
      clear h hc
      go_enter Tryd.func14, Tryd.ntmps14
      go_wp2_with (first
        | (with_reducible refine wpList_boxes (o := ⟨some 3, .box 25 (.tmp 0), _, _, _, _⟩) rfl 25 (.tmp 0) rfl _ rfl (ic x) rfl ?_; intro w1 hb1 m1 z1; replace z1 := Lib.hid z1)
        | (with_reducible refine wpList_allocs (o := ⟨some 6, .alloc 25, _, _, _, _⟩) rfl 25 rfl _ zeroI_25 ?_; intro w2 hb2 m2 z2; replace z2 := Lib.hid z2)
        | (go_at_call 28; refine (C w2).mono ?_; rintro e w3 ⟨rfl, rfl⟩)
        | (with_reducible refine wpList_ranW (o := ⟨some 19, .build 25 _, _, _, _, _⟩) (by with_unfolding_all rfl) (iv zeroI) w2 (exec_zero25 rfl) ?_)
        | (with_reducible refine wpList_storesAll (o := ⟨none, .store 25 (.tmp 6) (.tmp 19), _, _, _, _⟩) rfl 25 (.tmp 6) (.tmp 19) rfl rfl w1.heap.size (ic zeroI) rfl (iv zeroI) rfl rfl 25 _ hb2 (by rw [ic_length]) (ic_one _) (size25i _) ?_; intro w5 hb5 m5 z5))
      refine bodyPost_ret (results_cell_tmp rfl _ _ w1.heap.size (ic zeroI) _ _ rfl rfl (Cells.of_holds hb5) Tryd.underlying25 rfl (size25i _)) rfl ?_
      exact ⟨rfl, far_mod (m1.then m2) m5 (by simp; exact m1.size)⟩
  · have C := fun v => isChain_no i hc v
    clear h hc
    go_enter Tryd.func14, Tryd.ntmps14
    go_wp2_with (first
      | (with_reducible refine wpList_boxes (o := ⟨some 3, .box 25 (.tmp 0), _, _, _, _⟩) rfl 25 (.tmp 0) rfl _ rfl (ic x) rfl ?_; intro w1 hb1 m1 z1; replace z1 := Lib.hid z1)
      | (with_reducible refine wpList_allocs (o := ⟨some 6, .alloc 25, _, _, _, _⟩) rfl 25 rfl _ zeroI_25 ?_; intro w2 hb2 m2 z2; replace z2 := Lib.hid z2)
      | (go_at_call 28; refine (C w2).mono ?_; rintro e w3 ⟨rfl, rfl⟩)
      | (with_reducible refine wpList_ranW (o := ⟨some 19, .build 25 _, _, _, _, _⟩) (by with_unfolding_all rfl) (iv zeroI) w2 (exec_zero25 rfl) ?_)
      | (with_reducible refine wpList_storesAll (o := ⟨none, .store 25 (.tmp 6) (.tmp 19), _, _, _, _⟩) rfl 25 (.tmp 6) (.tmp 19) rfl rfl w1.heap.size (ic zeroI) rfl (iv zeroI) rfl rfl 25 _ hb2 (by rw [ic_length]) (ic_one _) (size25i _) ?_; intro w5 hb5 m5 z5))
    refine bodyPost_ret (results_cell_tmp rfl _ _ w1.heap.size (ic zeroI) _ _ rfl rfl (Cells.of_holds hb5) Tryd.underlying25 rfl (size25i _)) rfl ?_
    exact ⟨rfl, far_mod (m1.then m2) m5 (by simp; exact m1.size)⟩
set_option maxRecDepth 100000 in
set_option maxHeartbeats 4000000 in
theorem chain_yes (x : Idv) (i f t : Nat) (hi : i < 67) (hf : f ≤ t) (ht : t ≤ 15) (w : World) (Gl : Glob w) :
    Calls Tryd.prog 15 #[iv x, .int .i64 (i : Int), .int .i64 (f : Int), .int .i64 (t : Int)] w fun r w' => r = .returned (.tuple #[iv (walkI i f (t - f) x), .int .i64 0]) ∧ Mod [] w w' := by
  obtain ⟨d, hd⟩ : ∃ d, d = walkI i f (t - f) x := ⟨_, rfl⟩
  have C := fun v => isChain_yes (i : Int) ⟨by omega, by omega⟩ v
  have X := fun v (mv : Mod [] w v) => reached_c x i f t (t - f) (by omega) (by omega) ht v (Gl.then mv)
  rw [← hd] at X ⊢
  have hfZ : (f : Int) ≤ (t : Int) := by omega
  have htZ : (t : Int) ≤ 15 := by omega
  clear hd Gl
  go_enter Tryd.func15, Tryd.ntmps15
  go_wp2_with (first
    | (with_reducible refine wpList_boxes (o := ⟨some 4, .box 25 (.tmp 0), _, _, _, _⟩) rfl 25 (.tmp 0) rfl _ rfl (ic x) rfl ?_; intro w1 hb1 m1 z1; replace z1 := Lib.hid z1)
    | (with_reducible refine wpList_allocs (o := ⟨some 8, .alloc 25, _, _, _, _⟩) rfl 25 rfl _ zeroI_25 ?_; intro w2 hb2 m2 z2; replace z2 := Lib.hid z2)
    | (go_at_call 28; refine (C w2).mono ?_; rintro e w3 ⟨rfl, rfl⟩)
    | (with_reducible refine wpList_loads (o := ⟨some 27, .load 25 (.tmp 4), _, _, _, _⟩) rfl 25 (.tmp 4) rfl w.heap.size 0 _ rfl (Cells.of_holds (hb1.keep m2 (by simp))) _ Tryd.underlying25 rfl (size25i x) (iv x) rfl ?_)
    | (go_at_call 31; refine (X w2 (m1.then m2)).mono ?_; rintro e w4 ⟨rfl, m4⟩)
    | (with_reducible refine wpList_storesAll (o := ⟨none, .store 25 (.tmp 8) (.tmp 31), _, _, _, _⟩) rfl 25 (.tmp 8) (.tmp 31) rfl rfl w1.heap.size (ic d) rfl (iv d) rfl rfl 25 _ (hb2.keep m4 (by simp)) (by rw [ic_length, ic_length]) (ic_one _) (size25i _) ?_; intro w5 hb5 m5 z5))
  refine bodyPost_ret (results_cell_tmp rfl _ _ w1.heap.size (ic d) _ _ rfl rfl (Cells.of_holds hb5) Tryd.underlying25 rfl (size25i _)) rfl ?_
  exact ⟨rfl, far_mod ((m1.then m2).then m4) m5 (by simp; exact m1.size)⟩
set_option maxRecDepth 100000 in
set_option maxHeartbeats 4000000 in
theorem chain_no (x : Idv) (i f t : Int) (h : ¬ (chOk i ∧ 0 ≤ f ∧ f ≤ t ∧ t ≤ 15)) (w : World) :
    Calls Tryd.prog 15 #[iv x, .int .i64 i, .int .i64 f, .int .i64 t] w fun r w' => r = .returned (.tuple #[iv zeroI, .int .i64 2]) ∧ Mod [] w w' := by
  by_cases hc : chOk i
  · have C := fun v => isChain_yes i hc v
    by_cases h1 : f < 0
    · clear h hc
      go_enter Tryd.func15, Tryd.ntmps15
      go_wp2_with (first
        | (with_reducible refine wpList_boxes (o := ⟨some 4, .box 25 (.tmp 0), _, _, _, _⟩) rfl 25 (.tmp 0) rfl _ rfl (ic x) rfl ?_; intro w1 hb1 m1 z1; replace z1 := Lib.hid z1)
        | (with_reducible refine wpList_allocs (o := ⟨some 8, .alloc 25, _, _, _, _⟩) rfl 25 rfl _ zeroI_25 ?_; intro w2 hb2 m2 z2; replace z2 := Lib.hid z2)
        | (go_at_call 28; refine (C w2).mono ?_; rintro e w3 ⟨rfl, rfl⟩)
        | (with_reducible refine wpList_ranW (o := ⟨some 26, .build 25 _, _, _, _, _⟩) (by with_unfolding_all rfl) (iv zeroI) w2 (exec_zero25 rfl) ?_)
        | (with_reducible refine wpList_storesAll (o := ⟨none, .store 25 (.tmp 8) (.tmp 26), _, _, _, _⟩) rfl 25 (.tmp 8) (.tmp 26) rfl rfl w1.heap.size (ic zeroI) rfl (iv zeroI) rfl rfl 25 _ hb2 (by rw [ic_length]) (ic_one _) (size25i _) ?_; intro w5 hb5 m5 z5))
      refine bodyPost_ret (results_cell_tmp rfl _ _ w1.heap.size (ic zeroI) _ _ rfl rfl (Cells.of_holds hb5) Tryd.underlying25 rfl (size25i _)) rfl ?_
      exact ⟨rfl, far_mod (m1.then m2) m5 (by simp; exact m1.size)⟩
    · by_cases h2 : f ≤ t
      · have h3 : ¬ t ≤ 15 := fun hh => h ⟨hc, by omega, h2, hh⟩
        clear h hc
        go_enter Tryd.func15, Tryd.ntmps15
        go_wp2_with (first
          | (with_reducible refine wpList_boxes (o := ⟨some 4, .box 25 (.tmp 0), _, _, _, _⟩) rfl 25 (.tmp 0) rfl _ rfl (ic x) rfl ?_; intro w1 hb1 m1 z1; replace z1 := Lib.hid z1)
          | (with_reducible refine wpList_allocs (o := ⟨some 8, .alloc 25, _, _, _, _⟩) rfl 25 rfl _ zeroI_25 ?_; intro w2 hb2 m2 z2; replace z2 := Lib.hid z2)
          | (go_at_call 28; refine (C w2).mono ?_; rintro e w3 ⟨rfl, rfl⟩)
          | (with_reducible refine wpList_ranW (o := ⟨some 26, .build 25 _, _, _, _, _⟩) (by with_unfolding_all rfl) (iv zeroI) w2 (exec_zero25 rfl) ?_)
          | (with_reducible refine wpList_storesAll (o := ⟨none, .store 25 (.tmp 8) (.tmp 26), _, _, _, _⟩) rfl 25 (.tmp 8) (.tmp 26) rfl rfl w1.heap.size (ic zeroI) rfl (iv zeroI) rfl rfl 25 _ hb2 (by rw [ic_length]) (ic_one _) (size25i _) ?_; intro w5 hb5 m5 z5))
        refine bodyPost_ret (results_cell_tmp rfl _ _ w1.heap.size (ic zeroI) _ _ rfl rfl (Cells.of_holds hb5) Tryd.underlying25 rfl (size25i _)) rfl ?_
        exact ⟨rfl, far_mod (m1.then m2) m5 (by simp; exact m1.size)⟩
      · clear h hc
        go_enter Tryd.func15, Tryd.ntmps15
        go_wp2_with (first
          | (with_reducible refine wpList_boxes (o := ⟨some 4, .box 25 (.tmp 0), _, _, _, _⟩) rfl 25 (.tmp 0) rfl _ rfl (ic x) rfl ?_; intro w1 hb1 m1 z1; replace z1 := Lib.hid z1)
          | (with_reducible refine wpList_allocs (o := ⟨some 8, .alloc 25, _, _, _, _⟩) rfl 25 rfl _ zeroI_25 ?_; intro w2 hb2 m2 z2; replace z2 := Lib.hid z2)
          | (go_at_call 28; refine (C w2).mono ?_; rintro e w3 ⟨rfl, rfl⟩)
          | (with_reducible refine wpList_ranW (o := ⟨some 26, .build 25 _, _, _, _, _⟩) (by with_unfolding_all rfl) (iv zeroI) w2 (exec_zero25 rfl) ?_)
          | (with_reducible refine wpList_storesAll (o := ⟨none, .store 25 (.tmp 8) (.tmp 26), _, _, _, _⟩) rfl 25 (.tmp 8) (.tmp 26) rfl rfl w1.heap.size (ic zeroI) rfl (iv zeroI) rfl rfl 25 _ hb2 (by rw [ic_length]) (ic_one _) (size25i _) ?_; intro w5 hb5 m5 z5))
        refine bodyPost_ret (results_cell_tmp rfl _ _ w1.heap.size (ic zeroI) _ _ rfl rfl (Cells.of_holds hb5) Tryd.underlying25 rfl (size25i _)) rfl ?_
        exact ⟨rfl, far_mod (m1.then m2) m5 (by simp; exact m1.size)⟩
  · have C := fun v => isChain_no i hc v
    clear h hc
    go_enter Tryd.func15, Tryd.ntmps15
    go_wp2_with (first
      | (with_reducible refine wpList_boxes (o := ⟨some 4, .box 25 (.tmp 0), _, _, _, _⟩) rfl 25 (.tmp 0) rfl _ rfl (ic x) rfl ?_; intro w1 hb1 m1 z1; replace z1 := Lib.hid z1)
      | (with_reducible refine wpList_allocs (o := ⟨some 8, .alloc 25, _, _, _, _⟩) rfl 25 rfl _ zeroI_25 ?_; intro w2 hb2 m2 z2; replace z2 := Lib.hid z2)
      | (go_at_call 28; refine (C w2).mono ?_; rintro e w3 ⟨rfl, rfl⟩)
      | (with_reducible refine wpList_ranW (o := ⟨some 26, .build 25 _, _, _, _, _⟩) (by with_unfolding_all rfl) (iv zeroI) w2 (exec_zero25 rfl) ?_)
      | (with_reducible refine wpList_storesAll (o := ⟨none, .store 25 (.tmp 8) (.tmp 26), _, _, _, _⟩) rfl 25 (.tmp 8) (.tmp 26) rfl rfl w1.heap.size (ic zeroI) rfl (iv zeroI) rfl rfl 25 _ hb2 (by rw [ic_length]) (ic_one _) (size25i _) ?_; intro w5 hb5 m5 z5))
    refine bodyPost_ret (results_cell_tmp rfl _ _ w1.heap.size (ic zeroI) _ _ rfl rfl (Cells.of_holds hb5) Tryd.underlying25 rfl (size25i _)) rfl ?_
    exact ⟨rfl, far_mod (m1.then m2) m5 (by simp; exact m1.size)⟩
end Go.Proofs.YtdolihecjomjiaaDoor
