/-
  Off a reader that is not there: the walk. My own work.
-/
import Derived.Test.YtheebmehapemnaaOctD
namespace Go.Proofs.Ytheebmehapemnaa
open Go.RowKit
theorem absent_c (n : Int) (_ : (Lit.int .i64 n).wf = true) (w : World) : Calls Try.prog 6 #[.int .i64 n] w fun e w' => e = .returned (.bool true) ∧ Mod [] w w' := by
  go_enter Try.func6, Try.ntmps6
  go_wp2_with fail
  refine (wakes_c _).mono ?_
  rintro e w1 ⟨rfl, m1⟩
  go_wp2_with (first
    | (go_at_call 25; refine (u8_nil _).mono ?_; rintro e w2 ⟨rfl, m2⟩; replace m1 := m1.then m2; clear m2)
    | (go_at_call 26; refine (u16_nil _).mono ?_; rintro e w2 ⟨rfl, m2⟩; replace m1 := m1.then m2; clear m2)
    | (go_at_call 27; refine (u32_nil _).mono ?_; rintro e w2 ⟨rfl, m2⟩; replace m1 := m1.then m2; clear m2)
    | (go_at_call 28; refine (u64_nil _).mono ?_; rintro e w2 ⟨rfl, m2⟩; replace m1 := m1.then m2; clear m2)
    | (go_at_call 24; refine (raw_nil _ _).mono ?_; rintro e w2 ⟨rfl, m2⟩; replace m1 := m1.then m2; clear m2)
    | (go_at_call 22; refine (left_nil _).mono ?_; rintro e w2 ⟨rfl, rfl⟩)
    | (go_at_call 23; refine (err_nil _).mono ?_; rintro e w2 ⟨rfl, rfl⟩))
  go_ret
  exact ⟨rfl, m1⟩
end Go.Proofs.Ytheebmehapemnaa
