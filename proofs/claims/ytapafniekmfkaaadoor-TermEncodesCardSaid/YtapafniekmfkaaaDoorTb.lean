/-
  Contracts of package term's small functions, second part: bound, kids, mayHave. My own work.
-/
import Derived.Test.YtapafniekmfkaaaDoorTa
import Derived.Test.YtapafniekmfkaaaDoorGen
namespace Go.Proofs.YtapafniekmfkaaaDoor
open Go.RowKit
theorem flds_at (k : Int) : (1 ≤ k ∧ k ≤ 8) ∨ flds k = 0 := by
  by_cases h : 1 ≤ k ∧ k ≤ 8
  · exact .inl h
  · right; unfold flds; repeat rw [if_neg (by omega)]
theorem kind_cases {k : Int} (h : 1 ≤ k ∧ k ≤ 8) : k = 1 ∨ k = 2 ∨ k = 3 ∨ k = 4 ∨ k = 5 ∨ k = 6 ∨ k = 7 ∨ k = 8 := by omega
theorem flds_out2 {k : Int} (h : ¬ (1 ≤ k ∧ k ≤ 8)) : flds k = 0 := by
  rcases flds_at k with h1 | h1
  · exact absurd h1 h
  · exact h1
theorem hasB_T (k : Int) : hasB (flds k) 1 = Tm.hasT k := by
  by_cases h : 1 ≤ k ∧ k ≤ 8
  · rcases kind_cases h with rfl | rfl | rfl | rfl | rfl | rfl | rfl | rfl <;> decide
  · rw [flds_out2 h]
    have : (k == 1) = false := by simp; omega
    unfold Tm.hasT; rw [this]; decide
theorem hasB_U (k : Int) : hasB (flds k) 2 = Tm.hasU k := by
  by_cases h : 1 ≤ k ∧ k ≤ 8
  · rcases kind_cases h with rfl | rfl | rfl | rfl | rfl | rfl | rfl | rfl <;> decide
  · rw [flds_out2 h]
    have : Tm.hasU k = false := by unfold Tm.hasU; simp; omega
    rw [this]; decide
theorem hasB_N (k : Int) : hasB (flds k) 4 = Tm.hasN k := by
  by_cases h : 1 ≤ k ∧ k ≤ 8
  · rcases kind_cases h with rfl | rfl | rfl | rfl | rfl | rfl | rfl | rfl <;> decide
  · rw [flds_out2 h]
    have : Tm.hasN k = false := by unfold Tm.hasN; simp; omega
    rw [this]; decide
theorem hasB_nk (k : Int) : (if hasB (flds k) 8 then 1 else 0) + (if hasB (flds k) 16 then 1 else 0) = Tm.nk k := by
  by_cases h : 1 ≤ k ∧ k ≤ 8
  · rcases kind_cases h with rfl | rfl | rfl | rfl | rfl | rfl | rfl | rfl <;> decide
  · rw [flds_out2 h]
    have : Tm.nk k = 0 := by
      unfold Tm.nk
      have e1 : (k == 4 || k == 6) = false := by simp; omega
      have e2 : (k == 5 || k == 7 || k == 8) = false := by simp; omega
      rw [e1, e2]; rfl
    rw [this]; decide
theorem flds_zero (k : Int) : (flds k == 0) = !decide (1 ≤ k ∧ k ≤ 8) := by
  by_cases h : 1 ≤ k ∧ k ≤ 8
  · rcases kind_cases h with rfl | rfl | rfl | rfl | rfl | rfl | rfl | rfl <;> decide
  · rw [flds_out2 h]; simp [h]
theorem has_b (F fld : Int) (b : Bool) (hb : hasB F fld = b) (w : World) : Calls Tryd.prog 80 #[.int .u8 F, .int .u8 fld] w fun e w' => e = .returned (.bool b) ∧ w = w' := by
  subst hb; exact has_c F fld w
theorem bound_c (F fld n m : Int) (hm : m = if hasB F fld then n else 0) (w : World) : Calls Tryd.prog 101 #[.int .u8 F, .int .u8 fld, .int .i64 n] w fun e w' => e = .returned (.int .i64 m) ∧ w = w' := by
  cases hb : hasB F fld with
  | true =>
    rw [hb] at hm
    obtain rfl : m = n := by simpa using hm
    have HB := has_b F fld true hb
    clear hb hm
    go_enter Tryd.func101, Tryd.ntmps101
    go_wp2_with (go_at_call 80; refine (HB _).mono ?_; rintro e w1 ⟨rfl, rfl⟩)
    go_ret
    exact ⟨rfl, rfl⟩
  | false =>
    rw [hb] at hm
    obtain rfl : m = 0 := by simpa using hm
    have HB := has_b F fld false hb
    clear hb hm
    go_enter Tryd.func101, Tryd.ntmps101
    go_wp2_with (go_at_call 80; refine (HB _).mono ?_; rintro e w1 ⟨rfl, rfl⟩)
    go_ret
    exact ⟨rfl, rfl⟩
theorem kids_c (k : Int) (w : World) : Calls Tryd.prog 84 #[.int .u8 (flds k)] w fun e w' => e = .returned (.int .i64 (Tm.nk k)) ∧ w = w' := by
  obtain ⟨F, hF⟩ : ∃ F, F = flds k := ⟨_, rfl⟩
  obtain ⟨a, ha⟩ : ∃ a : Int, a = if hasB F 8 then 1 else 0 := ⟨_, rfl⟩
  obtain ⟨b, hb⟩ : ∃ b : Int, b = if hasB F 16 then 1 else 0 := ⟨_, rfl⟩
  have B1 := bound_c F 8 1 a ha
  have B2 := bound_c F 16 1 b hb
  have hab : a + b = Tm.nk k := by have := hasB_nk k; rw [← hF] at this; rw [ha, hb, ← this]; split <;> split <;> rfl
  have ha0 : 0 ≤ a ∧ a ≤ 1 := by rw [ha]; split <;> omega
  have hb0 : 0 ≤ b ∧ b ≤ 1 := by rw [hb]; split <;> omega
  obtain ⟨a0, a1⟩ := ha0
  obtain ⟨b0, b1⟩ := hb0
  rw [← hF, ← hab]
  clear hab ha hb hF
  go_enter Tryd.func84, Tryd.ntmps84
  go_wp2_with (go_at_call 101; first | ((with_reducible refine Calls.mono (B1 _) ?_); rintro e w1 ⟨rfl, rfl⟩) | ((with_reducible refine Calls.mono (B2 _) ?_); rintro e w1 ⟨rfl, rfl⟩))
  go_ret
  exact ⟨rfl, rfl⟩
end Go.Proofs.YtapafniekmfkaaaDoor
