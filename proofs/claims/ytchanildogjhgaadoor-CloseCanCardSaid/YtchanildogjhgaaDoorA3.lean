/-
  My own texts Tc3 Td Te, one behind the other.
-/
import Derived.Test.YtchanildogjhgaaDoorRows
import Derived.Test.YtchanildogjhgaaDoorA2
import Derived.Lib.Hide
import Derived.Deep.QuietTactic
import Derived.BigQuiet
import Derived.Test.YtchanildogjhgaaDoorA1
namespace Go.Proofs.YtchanildogjhgaaDoor
section
section
open Go.RowKit
/-- Which fields count, by the kind. -/
def flds (k : Int) : Int := if k = 1 then 1 else if k = 2 then 6 else if k = 3 then 2 else if k = 4 then 24 else if k = 5 then 8 else if k = 6 then 24 else if k = 7 then 10 else if k = 8 then 14 else 0
def tab : List Value := [.int .u8 0, .int .u8 1, .int .u8 6, .int .u8 2, .int .u8 24, .int .u8 8, .int .u8 24, .int .u8 10, .int .u8 14]
/-- The table of the program lies where it was laid. -/
def Glob (w : World) : Prop := Cells w (some ⟨0, 0, none⟩) tab
theorem Glob.then {w v : World} (h : Glob w) (m : Mod [] w v) : Glob v := h.keep m (by simp)
theorem Glob.mod {ms : List Nat} {w v : World} (h : Glob w) (m : Mod ms w v) (h0 : 0 ∉ ms) : Glob v := h.keep m (by rintro _ ⟨⟩; exact h0)
theorem flds_out {k : Int} (h : k < 0 ∨ 9 ≤ k) : flds k = 0 := by unfold flds; repeat rw [if_neg (by omega)]
theorem Glob.at {w : World} (h : Glob w) (n : Nat) (hn : n < 9) : w.cell? ⟨0, n, none⟩ = some (.int .u8 (flds n)) := by
  have h1 := Cells.at h n (by exact hn)
  rw [Nat.zero_add] at h1
  rw [h1]
  obtain rfl | rfl | rfl | rfl | rfl | rfl | rfl | rfl | rfl : n = 0 ∨ n = 1 ∨ n = 2 ∨ n = 3 ∨ n = 4 ∨ n = 5 ∨ n = 6 ∨ n = 7 ∨ n = 8 := by omega
  all_goals rfl
theorem fieldsOf_c (k : Int) (w : World) (G : Glob w) : Calls Tryd.prog 91 #[.int .i64 k] w fun e w' => e = .returned (.int .u8 (flds k)) ∧ w = w' := by
  by_cases h0 : k < 0
  · rw [flds_out (.inl h0)]
    clear G
    go_enter Tryd.func91, Tryd.ntmps91
    go_wp2_with fail
    go_ret
    exact ⟨rfl, rfl⟩
  by_cases h9 : 9 ≤ k
  · rw [flds_out (.inr h9)]
    clear G
    go_enter Tryd.func91, Tryd.ntmps91
    go_wp2_with fail
    go_ret
    exact ⟨rfl, rfl⟩
  obtain ⟨n, rfl⟩ : ∃ n : Nat, k = n := ⟨k.toNat, by omega⟩
  have hn : n < 9 := by omega
  have hc := G.at n hn
  obtain ⟨F, hF⟩ : ∃ F, F = flds n := ⟨_, rfl⟩
  rw [← hF] at hc ⊢
  clear hF h0 h9 G
  go_enter Tryd.func91, Tryd.ntmps91
  go_wp2_with fail
  go_ret
  exact ⟨rfl, rfl⟩
/-- Is one of the bits there? -/
def hasB (F fld : Int) : Bool := !(bits .and .u8 F fld == 0)
theorem has_c (F fld : Int) (w : World) : Calls Tryd.prog 94 #[.int .u8 F, .int .u8 fld] w fun e w' => e = .returned (.bool (hasB F fld)) ∧ w = w' := by
  go_enter Tryd.func94, Tryd.ntmps94
  go_wp2_with fail
  go_ret
  exact ⟨rfl, rfl⟩
end
section
open Go.RowKit
theorem flds_at (k : Int) : (1 ≤ k ∧ k ≤ 8) ∨ flds k = 0 := by
  by_cases h : 1 ≤ k ∧ k ≤ 8
  · exact .inl h
  · right; unfold flds; repeat rw [if_neg (by omega)]
theorem kind_cases {k : Int} (h : 1 ≤ k ∧ k ≤ 8) : k = 1 ∨ k = 2 ∨ k = 3 ∨ k = 4 ∨ k = 5 ∨ k = 6 ∨ k = 7 ∨ k = 8 := by omega
theorem flds_out2 {k : Int} (h : ¬ (1 ≤ k ∧ k ≤ 8)) : flds k = 0 := by
  rcases flds_at k with h1 | h1
  · exact absurd h1 h
  · exact h1
theorem hasB_T (k : Int) : hasB (flds k) 1 = Tm.hasT k := by
  by_cases h : 1 ≤ k ∧ k ≤ 8
  · rcases kind_cases h with rfl | rfl | rfl | rfl | rfl | rfl | rfl | rfl <;> decide
  · rw [flds_out2 h]
    have : (k == 1) = false := by simp; omega
    unfold Tm.hasT; rw [this]; decide
theorem hasB_U (k : Int) : hasB (flds k) 2 = Tm.hasU k := by
  by_cases h : 1 ≤ k ∧ k ≤ 8
  · rcases kind_cases h with rfl | rfl | rfl | rfl | rfl | rfl | rfl | rfl <;> decide
  · rw [flds_out2 h]
    have : Tm.hasU k = false := by unfold Tm.hasU; simp; omega
    rw [this]; decide
theorem hasB_N (k : Int) : hasB (flds k) 4 = Tm.hasN k := by
  by_cases h : 1 ≤ k ∧ k ≤ 8
  · rcases kind_cases h with rfl | rfl | rfl | rfl | rfl | rfl | rfl | rfl <;> decide
  · rw [flds_out2 h]
    have : Tm.hasN k = false := by unfold Tm.hasN; simp; omega
    rw [this]; decide
theorem hasB_nk (k : Int) : (if hasB (flds k) 8 then 1 else 0) + (if hasB (flds k) 16 then 1 else 0) = Tm.nk k := by
  by_cases h : 1 ≤ k ∧ k ≤ 8
  · rcases kind_cases h with rfl | rfl | rfl | rfl | rfl | rfl | rfl | rfl <;> decide
  · rw [flds_out2 h]
    have : Tm.nk k = 0 := by
      unfold Tm.nk
      have e1 : (k == 4 || k == 6) = false := by simp; omega
      have e2 : (k == 5 || k == 7 || k == 8) = false := by simp; omega
      rw [e1, e2]; rfl
    rw [this]; decide
theorem flds_zero (k : Int) : (flds k == 0) = !decide (1 ≤ k ∧ k ≤ 8) := by
  by_cases h : 1 ≤ k ∧ k ≤ 8
  · rcases kind_cases h with rfl | rfl | rfl | rfl | rfl | rfl | rfl | rfl <;> decide
  · rw [flds_out2 h]; simp [h]
theorem has_b (F fld : Int) (b : Bool) (hb : hasB F fld = b) (w : World) : Calls Tryd.prog 94 #[.int .u8 F, .int .u8 fld] w fun e w' => e = .returned (.bool b) ∧ w = w' := by
  subst hb; exact has_c F fld w
theorem bound_c (F fld n m : Int) (hm : m = if hasB F fld then n else 0) (w : World) : Calls Tryd.prog 109 #[.int .u8 F, .int .u8 fld, .int .i64 n] w fun e w' => e = .returned (.int .i64 m) ∧ w = w' := by
  cases hb : hasB F fld with
  | true =>
    rw [hb] at hm
    obtain rfl : m = n := by simpa using hm
    have HB := has_b F fld true hb
    clear hb hm
    go_enter Tryd.func109, Tryd.ntmps109
    go_wp2_with (go_at_call 94; refine (HB _).mono ?_; rintro e w1 ⟨rfl, rfl⟩)
    go_ret
    exact ⟨rfl, rfl⟩
  | false =>
    rw [hb] at hm
    obtain rfl : m = 0 := by simpa using hm
    have HB := has_b F fld false hb
    clear hb hm
    go_enter Tryd.func109, Tryd.ntmps109
    go_wp2_with (go_at_call 94; refine (HB _).mono ?_; rintro e w1 ⟨rfl, rfl⟩)
    go_ret
    exact ⟨rfl, rfl⟩
theorem kids_c (k : Int) (w : World) : Calls Tryd.prog 93 #[.int .u8 (flds k)] w fun e w' => e = .returned (.int .i64 (Tm.nk k)) ∧ w = w' := by
  obtain ⟨F, hF⟩ : ∃ F, F = flds k := ⟨_, rfl⟩
  obtain ⟨a, ha⟩ : ∃ a : Int, a = if hasB F 8 then 1 else 0 := ⟨_, rfl⟩
  obtain ⟨b, hb⟩ : ∃ b : Int, b = if hasB F 16 then 1 else 0 := ⟨_, rfl⟩
  have B1 := bound_c F 8 1 a ha
  have B2 := bound_c F 16 1 b hb
  have hab : a + b = Tm.nk k := by have := hasB_nk k; rw [← hF] at this; rw [ha, hb, ← this]; split <;> split <;> rfl
  have ha0 : 0 ≤ a ∧ a ≤ 1 := by rw [ha]; split <;> omega
  have hb0 : 0 ≤ b ∧ b ≤ 1 := by rw [hb]; split <;> omega
  obtain ⟨a0, a1⟩ := ha0
  obtain ⟨b0, b1⟩ := hb0
  rw [← hF, ← hab]
  clear hab ha hb hF
  go_enter Tryd.func93, Tryd.ntmps93
  go_wp2_with (go_at_call 109; first | ((with_reducible refine Calls.mono (B1 _) ?_); rintro e w1 ⟨rfl, rfl⟩) | ((with_reducible refine Calls.mono (B2 _) ?_); rintro e w1 ⟨rfl, rfl⟩))
  go_ret
  exact ⟨rfl, rfl⟩
end
section
open Go.RowKit
set_option maxRecDepth 100000 in
theorem may_1 (f k u n x y y2 z : Int) (s : ByteArray) (A : Option Addr) (len cc : Nat) (hx : x = if hasB f 1 then 64 else 0) (hy : y = if hasB f 2 then 1 else 0) (hy2 : y2 = if hasB f 2 then 6 else 0) (hz : z = if hasB f 4 then 65535 else 0) (h1 : decide ((s.size : Int) ≤ x) = false) (w : World) :
    Calls Tryd.prog 92 #[.int .u8 f, .agg (tmc k u n s A len cc).toArray] w fun e w' => e = .returned (.bool false) ∧ Mod [] w w' := by
  have B1 := fun w0 => bound_c f 1 64 x hx w0
  have B2 := fun w0 => bound_c f 2 1 y hy w0
  have B3 := fun w0 => bound_c f 2 6 y2 hy2 w0
  have B4 := fun w0 => bound_c f 4 65535 z hz w0
  clear hx hy hy2 hz
  unfold tmc
  go_enter Tryd.func92, Tryd.ntmps92
  go_wp2_with (with_reducible refine wpList_boxes (o := ⟨some 3, .box 24 (.tmp 1), _, _, _, _⟩) rfl 24 (.tmp 1) rfl _ rfl (tmc k u n s A len cc) rfl ?_; intro w1 hb1 m1 z1; clear z1)
  obtain ⟨b, hb⟩ : ∃ b, b = w.heap.size := ⟨_, rfl⟩
  rw [← hb] at hb1 ⊢
  have e1 := hb1.cell 1
  have e2 := hb1.cell 2
  have e3 := hb1.cell 3
  simp only [tmc, List.getElem?_cons_succ, List.getElem?_cons_zero] at e1 e2 e3
  clear hb hb1
  go_quiet ((go_at_call 109; first | (with_reducible exact Calls.quiet_of_same ((B1 _).mono fun _ _ h => ⟨h.1, h.2.symm⟩)) | (with_reducible exact Calls.quiet_of_same ((B2 _).mono fun _ _ h => ⟨h.1, h.2.symm⟩)) | (with_reducible exact Calls.quiet_of_same ((B3 _).mono fun _ _ h => ⟨h.1, h.2.symm⟩)) | (with_reducible exact Calls.quiet_of_same ((B4 _).mono fun _ _ h => ⟨h.1, h.2.symm⟩))))
  go_wp2_with fail
  go_ret
  exact ⟨rfl, m1.then (Mod.drewN [] _ _)⟩
set_option maxRecDepth 100000 in
theorem may_2 (f k u n x y y2 z : Int) (s : ByteArray) (A : Option Addr) (len cc : Nat) (hx : x = if hasB f 1 then 64 else 0) (hy : y = if hasB f 2 then 1 else 0) (hy2 : y2 = if hasB f 2 then 6 else 0) (hz : z = if hasB f 4 then 65535 else 0) (h1 : decide ((s.size : Int) ≤ x) = true) (h2 : decide (y ≤ u) = false) (w : World) :
    Calls Tryd.prog 92 #[.int .u8 f, .agg (tmc k u n s A len cc).toArray] w fun e w' => e = .returned (.bool false) ∧ Mod [] w w' := by
  have B1 := fun w0 => bound_c f 1 64 x hx w0
  have B2 := fun w0 => bound_c f 2 1 y hy w0
  have B3 := fun w0 => bound_c f 2 6 y2 hy2 w0
  have B4 := fun w0 => bound_c f 4 65535 z hz w0
  clear hx hy hy2 hz
  unfold tmc
  go_enter Tryd.func92, Tryd.ntmps92
  go_wp2_with (with_reducible refine wpList_boxes (o := ⟨some 3, .box 24 (.tmp 1), _, _, _, _⟩) rfl 24 (.tmp 1) rfl _ rfl (tmc k u n s A len cc) rfl ?_; intro w1 hb1 m1 z1; clear z1)
  obtain ⟨b, hb⟩ : ∃ b, b = w.heap.size := ⟨_, rfl⟩
  rw [← hb] at hb1 ⊢
  have e1 := hb1.cell 1
  have e2 := hb1.cell 2
  have e3 := hb1.cell 3
  simp only [tmc, List.getElem?_cons_succ, List.getElem?_cons_zero] at e1 e2 e3
  clear hb hb1
  go_quiet ((go_at_call 109; first | (with_reducible exact Calls.quiet_of_same ((B1 _).mono fun _ _ h => ⟨h.1, h.2.symm⟩)) | (with_reducible exact Calls.quiet_of_same ((B2 _).mono fun _ _ h => ⟨h.1, h.2.symm⟩)) | (with_reducible exact Calls.quiet_of_same ((B3 _).mono fun _ _ h => ⟨h.1, h.2.symm⟩)) | (with_reducible exact Calls.quiet_of_same ((B4 _).mono fun _ _ h => ⟨h.1, h.2.symm⟩))))
  go_wp2_with fail
  go_ret
  exact ⟨rfl, m1.then (Mod.drewN [] _ _)⟩
set_option maxRecDepth 100000 in
theorem may_3 (f k u n x y y2 z : Int) (s : ByteArray) (A : Option Addr) (len cc : Nat) (hx : x = if hasB f 1 then 64 else 0) (hy : y = if hasB f 2 then 1 else 0) (hy2 : y2 = if hasB f 2 then 6 else 0) (hz : z = if hasB f 4 then 65535 else 0) (h1 : decide ((s.size : Int) ≤ x) = true) (h2 : decide (y ≤ u) = true) (h3 : decide (u ≤ y2) = false) (w : World) :
    Calls Tryd.prog 92 #[.int .u8 f, .agg (tmc k u n s A len cc).toArray] w fun e w' => e = .returned (.bool false) ∧ Mod [] w w' := by
  have B1 := fun w0 => bound_c f 1 64 x hx w0
  have B2 := fun w0 => bound_c f 2 1 y hy w0
  have B3 := fun w0 => bound_c f 2 6 y2 hy2 w0
  have B4 := fun w0 => bound_c f 4 65535 z hz w0
  clear hx hy hy2 hz
  unfold tmc
  go_enter Tryd.func92, Tryd.ntmps92
  go_wp2_with (with_reducible refine wpList_boxes (o := ⟨some 3, .box 24 (.tmp 1), _, _, _, _⟩) rfl 24 (.tmp 1) rfl _ rfl (tmc k u n s A len cc) rfl ?_; intro w1 hb1 m1 z1; clear z1)
  obtain ⟨b, hb⟩ : ∃ b, b = w.heap.size := ⟨_, rfl⟩
  rw [← hb] at hb1 ⊢
  have e1 := hb1.cell 1
  have e2 := hb1.cell 2
  have e3 := hb1.cell 3
  simp only [tmc, List.getElem?_cons_succ, List.getElem?_cons_zero] at e1 e2 e3
  clear hb hb1
  go_quiet ((go_at_call 109; first | (with_reducible exact Calls.quiet_of_same ((B1 _).mono fun _ _ h => ⟨h.1, h.2.symm⟩)) | (with_reducible exact Calls.quiet_of_same ((B2 _).mono fun _ _ h => ⟨h.1, h.2.symm⟩)) | (with_reducible exact Calls.quiet_of_same ((B3 _).mono fun _ _ h => ⟨h.1, h.2.symm⟩)) | (with_reducible exact Calls.quiet_of_same ((B4 _).mono fun _ _ h => ⟨h.1, h.2.symm⟩))))
  go_wp2_with fail
  go_ret
  exact ⟨rfl, m1.then (Mod.drewN [] _ _)⟩
set_option maxRecDepth 100000 in
theorem may_4 (f k u n x y y2 z : Int) (s : ByteArray) (A : Option Addr) (len cc : Nat) (hx : x = if hasB f 1 then 64 else 0) (hy : y = if hasB f 2 then 1 else 0) (hy2 : y2 = if hasB f 2 then 6 else 0) (hz : z = if hasB f 4 then 65535 else 0) (h1 : decide ((s.size : Int) ≤ x) = true) (h2 : decide (y ≤ u) = true) (h3 : decide (u ≤ y2) = true) (h4 : decide (0 ≤ n) = false) (w : World) :
    Calls Tryd.prog 92 #[.int .u8 f, .agg (tmc k u n s A len cc).toArray] w fun e w' => e = .returned (.bool false) ∧ Mod [] w w' := by
  have B1 := fun w0 => bound_c f 1 64 x hx w0
  have B2 := fun w0 => bound_c f 2 1 y hy w0
  have B3 := fun w0 => bound_c f 2 6 y2 hy2 w0
  have B4 := fun w0 => bound_c f 4 65535 z hz w0
  clear hx hy hy2 hz
  unfold tmc
  go_enter Tryd.func92, Tryd.ntmps92
  go_wp2_with (with_reducible refine wpList_boxes (o := ⟨some 3, .box 24 (.tmp 1), _, _, _, _⟩) rfl 24 (.tmp 1) rfl _ rfl (tmc k u n s A len cc) rfl ?_; intro w1 hb1 m1 z1; clear z1)
  obtain ⟨b, hb⟩ : ∃ b, b = w.heap.size := ⟨_, rfl⟩
  rw [← hb] at hb1 ⊢
  have e1 := hb1.cell 1
  have e2 := hb1.cell 2
  have e3 := hb1.cell 3
  simp only [tmc, List.getElem?_cons_succ, List.getElem?_cons_zero] at e1 e2 e3
  clear hb hb1
  go_quiet ((go_at_call 109; first | (with_reducible exact Calls.quiet_of_same ((B1 _).mono fun _ _ h => ⟨h.1, h.2.symm⟩)) | (with_reducible exact Calls.quiet_of_same ((B2 _).mono fun _ _ h => ⟨h.1, h.2.symm⟩)) | (with_reducible exact Calls.quiet_of_same ((B3 _).mono fun _ _ h => ⟨h.1, h.2.symm⟩)) | (with_reducible exact Calls.quiet_of_same ((B4 _).mono fun _ _ h => ⟨h.1, h.2.symm⟩))))
  go_wp2_with fail
  go_ret
  exact ⟨rfl, m1.then (Mod.drewN [] _ _)⟩
set_option maxRecDepth 100000 in
theorem may_5 (f k u n x y y2 z : Int) (s : ByteArray) (A : Option Addr) (len cc : Nat) (hx : x = if hasB f 1 then 64 else 0) (hy : y = if hasB f 2 then 1 else 0) (hy2 : y2 = if hasB f 2 then 6 else 0) (hz : z = if hasB f 4 then 65535 else 0) (h1 : decide ((s.size : Int) ≤ x) = true) (h2 : decide (y ≤ u) = true) (h3 : decide (u ≤ y2) = true) (h4 : decide (0 ≤ n) = true) (h5 : decide (n ≤ z) = false) (w : World) :
    Calls Tryd.prog 92 #[.int .u8 f, .agg (tmc k u n s A len cc).toArray] w fun e w' => e = .returned (.bool false) ∧ Mod [] w w' := by
  have B1 := fun w0 => bound_c f 1 64 x hx w0
  have B2 := fun w0 => bound_c f 2 1 y hy w0
  have B3 := fun w0 => bound_c f 2 6 y2 hy2 w0
  have B4 := fun w0 => bound_c f 4 65535 z hz w0
  clear hx hy hy2 hz
  unfold tmc
  go_enter Tryd.func92, Tryd.ntmps92
  go_wp2_with (with_reducible refine wpList_boxes (o := ⟨some 3, .box 24 (.tmp 1), _, _, _, _⟩) rfl 24 (.tmp 1) rfl _ rfl (tmc k u n s A len cc) rfl ?_; intro w1 hb1 m1 z1; clear z1)
  obtain ⟨b, hb⟩ : ∃ b, b = w.heap.size := ⟨_, rfl⟩
  rw [← hb] at hb1 ⊢
  have e1 := hb1.cell 1
  have e2 := hb1.cell 2
  have e3 := hb1.cell 3
  simp only [tmc, List.getElem?_cons_succ, List.getElem?_cons_zero] at e1 e2 e3
  clear hb hb1
  go_quiet ((go_at_call 109; first | (with_reducible exact Calls.quiet_of_same ((B1 _).mono fun _ _ h => ⟨h.1, h.2.symm⟩)) | (with_reducible exact Calls.quiet_of_same ((B2 _).mono fun _ _ h => ⟨h.1, h.2.symm⟩)) | (with_reducible exact Calls.quiet_of_same ((B3 _).mono fun _ _ h => ⟨h.1, h.2.symm⟩)) | (with_reducible exact Calls.quiet_of_same ((B4 _).mono fun _ _ h => ⟨h.1, h.2.symm⟩))))
  go_wp2_with fail
  go_ret
  exact ⟨rfl, m1.then (Mod.drewN [] _ _)⟩
set_option maxRecDepth 100000 in
theorem may_6 (f k u n x y y2 z : Int) (s : ByteArray) (A : Option Addr) (len cc : Nat) (hx : x = if hasB f 1 then 64 else 0) (hy : y = if hasB f 2 then 1 else 0) (hy2 : y2 = if hasB f 2 then 6 else 0) (hz : z = if hasB f 4 then 65535 else 0) (h1 : decide ((s.size : Int) ≤ x) = true) (h2 : decide (y ≤ u) = true) (h3 : decide (u ≤ y2) = true) (h4 : decide (0 ≤ n) = true) (h5 : decide (n ≤ z) = true) (w : World) :
    Calls Tryd.prog 92 #[.int .u8 f, .agg (tmc k u n s A len cc).toArray] w fun e w' => e = .returned (.bool true) ∧ Mod [] w w' := by
  have B1 := fun w0 => bound_c f 1 64 x hx w0
  have B2 := fun w0 => bound_c f 2 1 y hy w0
  have B3 := fun w0 => bound_c f 2 6 y2 hy2 w0
  have B4 := fun w0 => bound_c f 4 65535 z hz w0
  clear hx hy hy2 hz
  unfold tmc
  go_enter Tryd.func92, Tryd.ntmps92
  go_wp2_with (with_reducible refine wpList_boxes (o := ⟨some 3, .box 24 (.tmp 1), _, _, _, _⟩) rfl 24 (.tmp 1) rfl _ rfl (tmc k u n s A len cc) rfl ?_; intro w1 hb1 m1 z1; clear z1)
  obtain ⟨b, hb⟩ : ∃ b, b = w.heap.size := ⟨_, rfl⟩
  rw [← hb] at hb1 ⊢
  have e1 := hb1.cell 1
  have e2 := hb1.cell 2
  have e3 := hb1.cell 3
  simp only [tmc, List.getElem?_cons_succ, List.getElem?_cons_zero] at e1 e2 e3
  clear hb hb1
  go_quiet ((go_at_call 109; first | (with_reducible exact Calls.quiet_of_same ((B1 _).mono fun _ _ h => ⟨h.1, h.2.symm⟩)) | (with_reducible exact Calls.quiet_of_same ((B2 _).mono fun _ _ h => ⟨h.1, h.2.symm⟩)) | (with_reducible exact Calls.quiet_of_same ((B3 _).mono fun _ _ h => ⟨h.1, h.2.symm⟩)) | (with_reducible exact Calls.quiet_of_same ((B4 _).mono fun _ _ h => ⟨h.1, h.2.symm⟩))))
  go_wp2_with fail
  go_ret
  exact ⟨rfl, m1.then (Mod.drewN [] _ _)⟩
theorem mayHave_c (k u n : Int) (s : ByteArray) (A : Option Addr) (len cc : Nat) (w : World) :
    Calls Tryd.prog 92 #[.int .u8 (flds k), .agg (tmc k u n s A len cc).toArray] w fun e w' => e = .returned (.bool (Tm.may k u n s.size)) ∧ Mod [] w w' := by
  obtain ⟨x, hx⟩ : ∃ x : Int, x = if hasB (flds k) 1 then 64 else 0 := ⟨_, rfl⟩
  obtain ⟨y, hy⟩ : ∃ x : Int, x = if hasB (flds k) 2 then 1 else 0 := ⟨_, rfl⟩
  obtain ⟨y2, hy2⟩ : ∃ x : Int, x = if hasB (flds k) 2 then 6 else 0 := ⟨_, rfl⟩
  obtain ⟨z, hz⟩ : ∃ x : Int, x = if hasB (flds k) 4 then 65535 else 0 := ⟨_, rfl⟩
  have key : Tm.may k u n s.size = (decide ((s.size : Int) ≤ x) && decide (y ≤ u) && decide (u ≤ y2) && decide (0 ≤ n) && decide (n ≤ z)) := by
    rw [Bool.eq_iff_iff, Tm.may_iff, hx, hy, hy2, hz, hasB_T, hasB_U, hasB_N]
    simp only [Bool.and_eq_true, decide_eq_true_eq]
    have : ((s.size : Int) ≤ if Tm.hasT k = true then 64 else 0) ↔ s.size ≤ if Tm.hasT k = true then 64 else 0 := by split <;> omega
    rw [this]
    constructor
    · rintro ⟨a, ⟨b, c⟩, d, e⟩; exact ⟨⟨⟨⟨a, b⟩, c⟩, d⟩, e⟩
    · rintro ⟨⟨⟨⟨a, b⟩, c⟩, d⟩, e⟩; exact ⟨a, ⟨b, c⟩, d, e⟩
  rw [key]
  clear key
  cases h1 : decide ((s.size : Int) ≤ x) with
  | false => exact may_1 _ k u n x y y2 z s A len cc hx hy hy2 hz h1 w
  | true =>
  cases h2 : decide (y ≤ u) with
  | false => exact may_2 _ k u n x y y2 z s A len cc hx hy hy2 hz h1 h2 w
  | true =>
  cases h3 : decide (u ≤ y2) with
  | false => exact may_3 _ k u n x y y2 z s A len cc hx hy hy2 hz h1 h2 h3 w
  | true =>
  cases h4 : decide (0 ≤ n) with
  | false => exact may_4 _ k u n x y y2 z s A len cc hx hy hy2 hz h1 h2 h3 h4 w
  | true =>
  cases h5 : decide (n ≤ z) with
  | false => exact may_5 _ k u n x y y2 z s A len cc hx hy hy2 hz h1 h2 h3 h4 h5 w
  | true => exact may_6 _ k u n x y y2 z s A len cc hx hy hy2 hz h1 h2 h3 h4 h5 w
end
end
section
open Go.RowKit Go.Shelf
set_option linter.unusedVariables false
theorem zero24 (w : World) : (zeroValue 24).run Tryd.prog w = .ok (.agg (tmc 0 0 0 ⟨#[]⟩ none 0 0).toArray) w := by kernel_rfl
theorem size24 : (Tryd.prog.info? 24).map (·.size) = some 5 := by kernel_rfl
theorem size24' {cs : List Value} (h : cs.length = 5) : (Tryd.prog.info? 24).map (·.size) = some cs.length := by rw [h]; exact size24
theorem far_mod {w v v' : World} {ms : List Nat} (h : Mod [] w v) (k : Mod ms v v') (hm : ∀ i ∈ ms, w.heap.size ≤ i) : Mod [] w v' := h.trans k (fun i hi h => by have := hm i h; omega)
theorem zlen {cs : List Value} (h : cs.length = 5) : cs.length = (tmc 0 0 0 ⟨#[]⟩ none 0 0).length := h
theorem tmc_len (k u n : Int) (s : ByteArray) (A : Option Addr) (l c : Nat) : (tmc k u n s A l c).length = 5 := rfl
theorem tmc_one (k u n : Int) (s : ByteArray) (A : Option Addr) (l c : Nat) : ∀ v ∈ tmc k u n s A l c, v.oneCell' = true := by
  intro v hv
  simp only [tmc, List.mem_cons, List.not_mem_nil, or_false] at hv
  rcases hv with rfl | rfl | rfl | rfl | rfl <;> rfl
end
section
open Go.RowKit Go.Shelf
set_option linter.unusedVariables false
end
end Go.Proofs.YtchanildogjhgaaDoor

