/-
  Climb, where it answers an error. My own work.
-/
import Derived.Test.YtbacmeaeehhhfaaDoorNo
import Derived.ScopeJumps
namespace Go.Proofs.YtbacmeaeehhhfaaDoor
open Go.RowKit Go.Shelf
set_option linter.unusedVariables false
theorem exit_jump_ret {l : Nat} {J : Act → World → Prop} {Q : Exit → Act → World → Prop} {a : Act} {w : World} : Exit.jump l J Q .ret a w = Q .ret a w := rfl
set_option maxRecDepth 100000 in
set_option maxHeartbeats 4000000 in
theorem Climb_no2 (x : Idv) (z : Int) (A : Option Addr) (c n : Nat) (hn : lfOk z = false) (w : World) :
    Calls Tryd.prog 21 #[iv x, .int .i64 z, .slice A n c] w fun r w' => r = .returned (.tuple #[iv zeroI, .int .i64 2]) ∧ Mod [] w w' := by
  have LF := fun v => isLeaf_c z v
  rw [hn] at LF
  skip
  clear hn
  go_enter Tryd.func21, Tryd.ntmps21
  go_wp2_with (first
    | (with_reducible refine wpList_boxes (o := ⟨some 3, .box 23 (.tmp 0), _, _, _, _⟩) rfl 23 (.tmp 0) rfl _ rfl (ic x) rfl ?_; intro w1 hb1 m1 z1)
    | (with_reducible refine wpList_allocs (o := ⟨some 6, .alloc 23, _, _, _, _⟩) rfl 23 rfl _ zeroI_25 ?_; intro w2 hb2 m2 z2
       obtain ⟨b3, hq3⟩ : ∃ q, q = w.heap.size := ⟨_, rfl⟩
       obtain ⟨b6, hq6⟩ : ∃ q, q = w1.heap.size := ⟨_, rfl⟩
       have k6 : Holds w2 b6 23 (ic zeroI) := by rw [hq6]; exact hb2
       have mm := m1.then m2
       have hw6 : w.heap.size ≤ b6 := by omega
       rw [← hq3, ← hq6]
       clear hb1 m1 z1 hb2 m2 z2 hq3 hq6))
  refine wp_scope_jumps 0 (fun a' v => v = w2 ∧ a' = { tmps := #[iv x, .int .i64 z, .slice A n c, .pointer (some ⟨b3, 0, none⟩), undef, undef, .pointer (some ⟨b6, 0, none⟩), .int .i64 0, .int .i64 2, .int .i64 z, .bool false, .bool true, undef, undef, undef, undef, undef, undef, undef, undef, undef], defers := [] }) (fun _ _ => 0) rfl ?first ?pass
  case first =>
    go_wp2_with (first
      | (go_at_call 39; refine (LF _).mono ?_; rintro e w4 ⟨rfl, rfl⟩))
    refine wp_goto ?_
    exact ⟨rfl, rfl, rfl⟩
  case pass =>
    rintro a' v ⟨rfl, rfl⟩
    go_wp2_with (first
      | (with_reducible refine wpList_ranW (o := ⟨some 19, .build 23 _, _, _, _, _⟩) (by with_unfolding_all rfl) (iv zeroI) _ (exec_zb rfl) ?_)
      | (with_reducible refine wpList_storesAll (o := ⟨none, .store 23 (.tmp 6) (.tmp 19), _, _, _, _⟩) rfl 23 (.tmp 6) (.tmp 19) rfl rfl b6 (ic zeroI) rfl (iv zeroI) rfl rfl 23 _ k6 rfl (ic_one zeroI) (size25i zeroI) ?_
         intro w6 hb6 m6 z6))
    rw [exit_jump_ret]
    refine bodyPost_ret (results_cell_tmp rfl _ _ b6 (ic zeroI) (.int .i64 2) _ rfl rfl (Cells.of_holds hb6) Tryd.underlying23 rfl (size25i zeroI)) rfl ?_
    exact ⟨rfl, far_mod mm m6 (fun i hi => by simp at hi; omega)⟩
set_option maxRecDepth 100000 in
set_option maxHeartbeats 4000000 in
theorem Climb_no3 (x : Idv) (z : Int) (A : Option Addr) (c n : Nat) (hn : lfOk z = true) (h3 : ¬ (n : Int) = 3) (w : World) :
    Calls Tryd.prog 21 #[iv x, .int .i64 z, .slice A n c] w fun r w' => r = .returned (.tuple #[iv zeroI, .int .i64 3]) ∧ Mod [] w w' := by
  have LF := fun v => isLeaf_c z v
  rw [hn] at LF
  skip
  clear hn
  go_enter Tryd.func21, Tryd.ntmps21
  go_wp2_with (first
    | (with_reducible refine wpList_boxes (o := ⟨some 3, .box 23 (.tmp 0), _, _, _, _⟩) rfl 23 (.tmp 0) rfl _ rfl (ic x) rfl ?_; intro w1 hb1 m1 z1)
    | (with_reducible refine wpList_allocs (o := ⟨some 6, .alloc 23, _, _, _, _⟩) rfl 23 rfl _ zeroI_25 ?_; intro w2 hb2 m2 z2
       obtain ⟨b3, hq3⟩ : ∃ q, q = w.heap.size := ⟨_, rfl⟩
       obtain ⟨b6, hq6⟩ : ∃ q, q = w1.heap.size := ⟨_, rfl⟩
       have k6 : Holds w2 b6 23 (ic zeroI) := by rw [hq6]; exact hb2
       have mm := m1.then m2
       have hw6 : w.heap.size ≤ b6 := by omega
       rw [← hq3, ← hq6]
       clear hb1 m1 z1 hb2 m2 z2 hq3 hq6))
  refine wp_scope_jumps 0 (fun a' v => v = w2 ∧ a' = { tmps := #[iv x, .int .i64 z, .slice A n c, .pointer (some ⟨b3, 0, none⟩), undef, undef, .pointer (some ⟨b6, 0, none⟩), .int .i64 0, .int .i64 3, .int .i64 z, .bool true, .bool false, .slice A n c, .int .i64 (n : Int), .bool true, undef, undef, undef, undef, undef, undef], defers := [] }) (fun _ _ => 0) rfl ?first ?pass
  case first =>
    go_wp2_with (first
      | (go_at_call 39; refine (LF _).mono ?_; rintro e w4 ⟨rfl, rfl⟩)
      | (with_reducible refine wpList_ranW (o := ⟨some 14, .binOp _ _ _ _ _, _, _, _, _⟩) (by with_unfolding_all rfl) (.bool true) _ (exec_nei (by simp [h3]) rfl rfl rfl) ?_))
    refine wp_goto ?_
    exact ⟨rfl, rfl, rfl⟩
  case pass =>
    rintro a' v ⟨rfl, rfl⟩
    go_wp2_with (first
      | (with_reducible refine wpList_ranW (o := ⟨some 19, .build 23 _, _, _, _, _⟩) (by with_unfolding_all rfl) (iv zeroI) _ (exec_zb rfl) ?_)
      | (with_reducible refine wpList_storesAll (o := ⟨none, .store 23 (.tmp 6) (.tmp 19), _, _, _, _⟩) rfl 23 (.tmp 6) (.tmp 19) rfl rfl b6 (ic zeroI) rfl (iv zeroI) rfl rfl 23 _ k6 rfl (ic_one zeroI) (size25i zeroI) ?_
         intro w6 hb6 m6 z6))
    rw [exit_jump_ret]
    refine bodyPost_ret (results_cell_tmp rfl _ _ b6 (ic zeroI) (.int .i64 3) _ rfl rfl (Cells.of_holds hb6) Tryd.underlying23 rfl (size25i zeroI)) rfl ?_
    exact ⟨rfl, far_mod mm m6 (fun i hi => by simp at hi; omega)⟩
end Go.Proofs.YtbacmeaeehhhfaaDoor
