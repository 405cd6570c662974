/-
  Contracts of package term's small functions: which fields count. My own work.
-/
import Derived.Test.YtapafniekmfkaaaDoorRows
import Derived.Test.YtapafniekmfkaaaDoorTi
import Derived.Lib.Hide
import Derived.Deep.QuietTactic
import Derived.BigQuiet
namespace Go.Proofs.YtapafniekmfkaaaDoor
open Go.RowKit
/-- Which fields count, by the kind. -/
def flds (k : Int) : Int := if k = 1 then 1 else if k = 2 then 6 else if k = 3 then 2 else if k = 4 then 24 else if k = 5 then 8 else if k = 6 then 24 else if k = 7 then 10 else if k = 8 then 14 else 0
def tab : List Value := [.int .u8 0, .int .u8 1, .int .u8 6, .int .u8 2, .int .u8 24, .int .u8 8, .int .u8 24, .int .u8 10, .int .u8 14]
/-- The table of the program lies where it was laid. -/
def Glob (w : World) : Prop := Cells w (some ⟨0, 0, none⟩) tab
theorem Glob.then {w v : World} (h : Glob w) (m : Mod [] w v) : Glob v := h.keep m (by simp)
theorem Glob.mod {ms : List Nat} {w v : World} (h : Glob w) (m : Mod ms w v) (h0 : 0 ∉ ms) : Glob v := h.keep m (by rintro _ ⟨⟩; exact h0)
theorem flds_out {k : Int} (h : k < 0 ∨ 9 ≤ k) : flds k = 0 := by unfold flds; repeat rw [if_neg (by omega)]
theorem Glob.at {w : World} (h : Glob w) (n : Nat) (hn : n < 9) : w.cell? ⟨0, n, none⟩ = some (.int .u8 (flds n)) := by
  have h1 := Cells.at h n (by exact hn)
  rw [Nat.zero_add] at h1
  rw [h1]
  obtain rfl | rfl | rfl | rfl | rfl | rfl | rfl | rfl | rfl : n = 0 ∨ n = 1 ∨ n = 2 ∨ n = 3 ∨ n = 4 ∨ n = 5 ∨ n = 6 ∨ n = 7 ∨ n = 8 := by omega
  all_goals rfl
theorem fieldsOf_c (k : Int) (w : World) (G : Glob w) : Calls Tryd.prog 79 #[.int .i64 k] w fun e w' => e = .returned (.int .u8 (flds k)) ∧ w = w' := by
  by_cases h0 : k < 0
  · rw [flds_out (.inl h0)]
    clear G
    go_enter Tryd.func79, Tryd.ntmps79
    go_wp2_with fail
    go_ret
    exact ⟨rfl, rfl⟩
  by_cases h9 : 9 ≤ k
  · rw [flds_out (.inr h9)]
    clear G
    go_enter Tryd.func79, Tryd.ntmps79
    go_wp2_with fail
    go_ret
    exact ⟨rfl, rfl⟩
  obtain ⟨n, rfl⟩ : ∃ n : Nat, k = n := ⟨k.toNat, by omega⟩
  have hn : n < 9 := by omega
  have hc := G.at n hn
  obtain ⟨F, hF⟩ : ∃ F, F = flds n := ⟨_, rfl⟩
  rw [← hF] at hc ⊢
  clear hF h0 h9 G
  go_enter Tryd.func79, Tryd.ntmps79
  go_wp2_with fail
  go_ret
  exact ⟨rfl, rfl⟩
/-- Is one of the bits there? -/
def hasB (F fld : Int) : Bool := !(bits .and .u8 F fld == 0)
theorem has_c (F fld : Int) (w : World) : Calls Tryd.prog 80 #[.int .u8 F, .int .u8 fld] w fun e w' => e = .returned (.bool (hasB F fld)) ∧ w = w' := by
  go_enter Tryd.func80, Tryd.ntmps80
  go_wp2_with fail
  go_ret
  exact ⟨rfl, rfl⟩
end Go.Proofs.YtapafniekmfkaaaDoor
