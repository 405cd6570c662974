/-
  mayHave. My own work.
-/
import Derived.Test.YtapafniekmfkaaaDoorTb
namespace Go.Proofs.YtapafniekmfkaaaDoor
open Go.RowKit
set_option maxRecDepth 100000 in
theorem may_1 (f k u n x y y2 z : Int) (s : ByteArray) (A : Option Addr) (len cc : Nat) (hx : x = if hasB f 1 then 64 else 0) (hy : y = if hasB f 2 then 1 else 0) (hy2 : y2 = if hasB f 2 then 6 else 0) (hz : z = if hasB f 4 then 65535 else 0) (h1 : decide ((s.size : Int) ≤ x) = false) (w : World) :
    Calls Tryd.prog 83 #[.int .u8 f, .agg (tmc k u n s A len cc).toArray] w fun e w' => e = .returned (.bool false) ∧ Mod [] w w' := by
  have B1 := fun w0 => bound_c f 1 64 x hx w0
  have B2 := fun w0 => bound_c f 2 1 y hy w0
  have B3 := fun w0 => bound_c f 2 6 y2 hy2 w0
  have B4 := fun w0 => bound_c f 4 65535 z hz w0
  clear hx hy hy2 hz
  unfold tmc
  go_enter Tryd.func83, Tryd.ntmps83
  go_wp2_with (with_reducible refine wpList_boxes (o := ⟨some 3, .box 24 (.tmp 1), _, _, _, _⟩) rfl 24 (.tmp 1) rfl _ rfl (tmc k u n s A len cc) rfl ?_; intro w1 hb1 m1 z1; clear z1)
  obtain ⟨b, hb⟩ : ∃ b, b = w.heap.size := ⟨_, rfl⟩
  rw [← hb] at hb1 ⊢
  have e1 := hb1.cell 1
  have e2 := hb1.cell 2
  have e3 := hb1.cell 3
  simp only [tmc, List.getElem?_cons_succ, List.getElem?_cons_zero] at e1 e2 e3
  clear hb hb1
  go_quiet ((go_at_call 101; first | (with_reducible exact Calls.quiet_of_same ((B1 _).mono fun _ _ h => ⟨h.1, h.2.symm⟩)) | (with_reducible exact Calls.quiet_of_same ((B2 _).mono fun _ _ h => ⟨h.1, h.2.symm⟩)) | (with_reducible exact Calls.quiet_of_same ((B3 _).mono fun _ _ h => ⟨h.1, h.2.symm⟩)) | (with_reducible exact Calls.quiet_of_same ((B4 _).mono fun _ _ h => ⟨h.1, h.2.symm⟩))))
  go_wp2_with fail
  go_ret
  exact ⟨rfl, m1.then (Mod.drewN [] _ _)⟩
set_option maxRecDepth 100000 in
theorem may_2 (f k u n x y y2 z : Int) (s : ByteArray) (A : Option Addr) (len cc : Nat) (hx : x = if hasB f 1 then 64 else 0) (hy : y = if hasB f 2 then 1 else 0) (hy2 : y2 = if hasB f 2 then 6 else 0) (hz : z = if hasB f 4 then 65535 else 0) (h1 : decide ((s.size : Int) ≤ x) = true) (h2 : decide (y ≤ u) = false) (w : World) :
    Calls Tryd.prog 83 #[.int .u8 f, .agg (tmc k u n s A len cc).toArray] w fun e w' => e = .returned (.bool false) ∧ Mod [] w w' := by
  have B1 := fun w0 => bound_c f 1 64 x hx w0
  have B2 := fun w0 => bound_c f 2 1 y hy w0
  have B3 := fun w0 => bound_c f 2 6 y2 hy2 w0
  have B4 := fun w0 => bound_c f 4 65535 z hz w0
  clear hx hy hy2 hz
  unfold tmc
  go_enter Tryd.func83, Tryd.ntmps83
  go_wp2_with (with_reducible refine wpList_boxes (o := ⟨some 3, .box 24 (.tmp 1), _, _, _, _⟩) rfl 24 (.tmp 1) rfl _ rfl (tmc k u n s A len cc) rfl ?_; intro w1 hb1 m1 z1; clear z1)
  obtain ⟨b, hb⟩ : ∃ b, b = w.heap.size := ⟨_, rfl⟩
  rw [← hb] at hb1 ⊢
  have e1 := hb1.cell 1
  have e2 := hb1.cell 2
  have e3 := hb1.cell 3
  simp only [tmc, List.getElem?_cons_succ, List.getElem?_cons_zero] at e1 e2 e3
  clear hb hb1
  go_quiet ((go_at_call 101; first | (with_reducible exact Calls.quiet_of_same ((B1 _).mono fun _ _ h => ⟨h.1, h.2.symm⟩)) | (with_reducible exact Calls.quiet_of_same ((B2 _).mono fun _ _ h => ⟨h.1, h.2.symm⟩)) | (with_reducible exact Calls.quiet_of_same ((B3 _).mono fun _ _ h => ⟨h.1, h.2.symm⟩)) | (with_reducible exact Calls.quiet_of_same ((B4 _).mono fun _ _ h => ⟨h.1, h.2.symm⟩))))
  go_wp2_with fail
  go_ret
  exact ⟨rfl, m1.then (Mod.drewN [] _ _)⟩
set_option maxRecDepth 100000 in
theorem may_3 (f k u n x y y2 z : Int) (s : ByteArray) (A : Option Addr) (len cc : Nat) (hx : x = if hasB f 1 then 64 else 0) (hy : y = if hasB f 2 then 1 else 0) (hy2 : y2 = if hasB f 2 then 6 else 0) (hz : z = if hasB f 4 then 65535 else 0) (h1 : decide ((s.size : Int) ≤ x) = true) (h2 : decide (y ≤ u) = true) (h3 : decide (u ≤ y2) = false) (w : World) :
    Calls Tryd.prog 83 #[.int .u8 f, .agg (tmc k u n s A len cc).toArray] w fun e w' => e = .returned (.bool false) ∧ Mod [] w w' := by
  have B1 := fun w0 => bound_c f 1 64 x hx w0
  have B2 := fun w0 => bound_c f 2 1 y hy w0
  have B3 := fun w0 => bound_c f 2 6 y2 hy2 w0
  have B4 := fun w0 => bound_c f 4 65535 z hz w0
  clear hx hy hy2 hz
  unfold tmc
  go_enter Tryd.func83, Tryd.ntmps83
  go_wp2_with (with_reducible refine wpList_boxes (o := ⟨some 3, .box 24 (.tmp 1), _, _, _, _⟩) rfl 24 (.tmp 1) rfl _ rfl (tmc k u n s A len cc) rfl ?_; intro w1 hb1 m1 z1; clear z1)
  obtain ⟨b, hb⟩ : ∃ b, b = w.heap.size := ⟨_, rfl⟩
  rw [← hb] at hb1 ⊢
  have e1 := hb1.cell 1
  have e2 := hb1.cell 2
  have e3 := hb1.cell 3
  simp only [tmc, List.getElem?_cons_succ, List.getElem?_cons_zero] at e1 e2 e3
  clear hb hb1
  go_quiet ((go_at_call 101; first | (with_reducible exact Calls.quiet_of_same ((B1 _).mono fun _ _ h => ⟨h.1, h.2.symm⟩)) | (with_reducible exact Calls.quiet_of_same ((B2 _).mono fun _ _ h => ⟨h.1, h.2.symm⟩)) | (with_reducible exact Calls.quiet_of_same ((B3 _).mono fun _ _ h => ⟨h.1, h.2.symm⟩)) | (with_reducible exact Calls.quiet_of_same ((B4 _).mono fun _ _ h => ⟨h.1, h.2.symm⟩))))
  go_wp2_with fail
  go_ret
  exact ⟨rfl, m1.then (Mod.drewN [] _ _)⟩
set_option maxRecDepth 100000 in
theorem may_4 (f k u n x y y2 z : Int) (s : ByteArray) (A : Option Addr) (len cc : Nat) (hx : x = if hasB f 1 then 64 else 0) (hy : y = if hasB f 2 then 1 else 0) (hy2 : y2 = if hasB f 2 then 6 else 0) (hz : z = if hasB f 4 then 65535 else 0) (h1 : decide ((s.size : Int) ≤ x) = true) (h2 : decide (y ≤ u) = true) (h3 : decide (u ≤ y2) = true) (h4 : decide (0 ≤ n) = false) (w : World) :
    Calls Tryd.prog 83 #[.int .u8 f, .agg (tmc k u n s A len cc).toArray] w fun e w' => e = .returned (.bool false) ∧ Mod [] w w' := by
  have B1 := fun w0 => bound_c f 1 64 x hx w0
  have B2 := fun w0 => bound_c f 2 1 y hy w0
  have B3 := fun w0 => bound_c f 2 6 y2 hy2 w0
  have B4 := fun w0 => bound_c f 4 65535 z hz w0
  clear hx hy hy2 hz
  unfold tmc
  go_enter Tryd.func83, Tryd.ntmps83
  go_wp2_with (with_reducible refine wpList_boxes (o := ⟨some 3, .box 24 (.tmp 1), _, _, _, _⟩) rfl 24 (.tmp 1) rfl _ rfl (tmc k u n s A len cc) rfl ?_; intro w1 hb1 m1 z1; clear z1)
  obtain ⟨b, hb⟩ : ∃ b, b = w.heap.size := ⟨_, rfl⟩
  rw [← hb] at hb1 ⊢
  have e1 := hb1.cell 1
  have e2 := hb1.cell 2
  have e3 := hb1.cell 3
  simp only [tmc, List.getElem?_cons_succ, List.getElem?_cons_zero] at e1 e2 e3
  clear hb hb1
  go_quiet ((go_at_call 101; first | (with_reducible exact Calls.quiet_of_same ((B1 _).mono fun _ _ h => ⟨h.1, h.2.symm⟩)) | (with_reducible exact Calls.quiet_of_same ((B2 _).mono fun _ _ h => ⟨h.1, h.2.symm⟩)) | (with_reducible exact Calls.quiet_of_same ((B3 _).mono fun _ _ h => ⟨h.1, h.2.symm⟩)) | (with_reducible exact Calls.quiet_of_same ((B4 _).mono fun _ _ h => ⟨h.1, h.2.symm⟩))))
  go_wp2_with fail
  go_ret
  exact ⟨rfl, m1.then (Mod.drewN [] _ _)⟩
set_option maxRecDepth 100000 in
theorem may_5 (f k u n x y y2 z : Int) (s : ByteArray) (A : Option Addr) (len cc : Nat) (hx : x = if hasB f 1 then 64 else 0) (hy : y = if hasB f 2 then 1 else 0) (hy2 : y2 = if hasB f 2 then 6 else 0) (hz : z = if hasB f 4 then 65535 else 0) (h1 : decide ((s.size : Int) ≤ x) = true) (h2 : decide (y ≤ u) = true) (h3 : decide (u ≤ y2) = true) (h4 : decide (0 ≤ n) = true) (h5 : decide (n ≤ z) = false) (w : World) :
    Calls Tryd.prog 83 #[.int .u8 f, .agg (tmc k u n s A len cc).toArray] w fun e w' => e = .returned (.bool false) ∧ Mod [] w w' := by
  have B1 := fun w0 => bound_c f 1 64 x hx w0
  have B2 := fun w0 => bound_c f 2 1 y hy w0
  have B3 := fun w0 => bound_c f 2 6 y2 hy2 w0
  have B4 := fun w0 => bound_c f 4 65535 z hz w0
  clear hx hy hy2 hz
  unfold tmc
  go_enter Tryd.func83, Tryd.ntmps83
  go_wp2_with (with_reducible refine wpList_boxes (o := ⟨some 3, .box 24 (.tmp 1), _, _, _, _⟩) rfl 24 (.tmp 1) rfl _ rfl (tmc k u n s A len cc) rfl ?_; intro w1 hb1 m1 z1; clear z1)
  obtain ⟨b, hb⟩ : ∃ b, b = w.heap.size := ⟨_, rfl⟩
  rw [← hb] at hb1 ⊢
  have e1 := hb1.cell 1
  have e2 := hb1.cell 2
  have e3 := hb1.cell 3
  simp only [tmc, List.getElem?_cons_succ, List.getElem?_cons_zero] at e1 e2 e3
  clear hb hb1
  go_quiet ((go_at_call 101; first | (with_reducible exact Calls.quiet_of_same ((B1 _).mono fun _ _ h => ⟨h.1, h.2.symm⟩)) | (with_reducible exact Calls.quiet_of_same ((B2 _).mono fun _ _ h => ⟨h.1, h.2.symm⟩)) | (with_reducible exact Calls.quiet_of_same ((B3 _).mono fun _ _ h => ⟨h.1, h.2.symm⟩)) | (with_reducible exact Calls.quiet_of_same ((B4 _).mono fun _ _ h => ⟨h.1, h.2.symm⟩))))
  go_wp2_with fail
  go_ret
  exact ⟨rfl, m1.then (Mod.drewN [] _ _)⟩
set_option maxRecDepth 100000 in
theorem may_6 (f k u n x y y2 z : Int) (s : ByteArray) (A : Option Addr) (len cc : Nat) (hx : x = if hasB f 1 then 64 else 0) (hy : y = if hasB f 2 then 1 else 0) (hy2 : y2 = if hasB f 2 then 6 else 0) (hz : z = if hasB f 4 then 65535 else 0) (h1 : decide ((s.size : Int) ≤ x) = true) (h2 : decide (y ≤ u) = true) (h3 : decide (u ≤ y2) = true) (h4 : decide (0 ≤ n) = true) (h5 : decide (n ≤ z) = true) (w : World) :
    Calls Tryd.prog 83 #[.int .u8 f, .agg (tmc k u n s A len cc).toArray] w fun e w' => e = .returned (.bool true) ∧ Mod [] w w' := by
  have B1 := fun w0 => bound_c f 1 64 x hx w0
  have B2 := fun w0 => bound_c f 2 1 y hy w0
  have B3 := fun w0 => bound_c f 2 6 y2 hy2 w0
  have B4 := fun w0 => bound_c f 4 65535 z hz w0
  clear hx hy hy2 hz
  unfold tmc
  go_enter Tryd.func83, Tryd.ntmps83
  go_wp2_with (with_reducible refine wpList_boxes (o := ⟨some 3, .box 24 (.tmp 1), _, _, _, _⟩) rfl 24 (.tmp 1) rfl _ rfl (tmc k u n s A len cc) rfl ?_; intro w1 hb1 m1 z1; clear z1)
  obtain ⟨b, hb⟩ : ∃ b, b = w.heap.size := ⟨_, rfl⟩
  rw [← hb] at hb1 ⊢
  have e1 := hb1.cell 1
  have e2 := hb1.cell 2
  have e3 := hb1.cell 3
  simp only [tmc, List.getElem?_cons_succ, List.getElem?_cons_zero] at e1 e2 e3
  clear hb hb1
  go_quiet ((go_at_call 101; first | (with_reducible exact Calls.quiet_of_same ((B1 _).mono fun _ _ h => ⟨h.1, h.2.symm⟩)) | (with_reducible exact Calls.quiet_of_same ((B2 _).mono fun _ _ h => ⟨h.1, h.2.symm⟩)) | (with_reducible exact Calls.quiet_of_same ((B3 _).mono fun _ _ h => ⟨h.1, h.2.symm⟩)) | (with_reducible exact Calls.quiet_of_same ((B4 _).mono fun _ _ h => ⟨h.1, h.2.symm⟩))))
  go_wp2_with fail
  go_ret
  exact ⟨rfl, m1.then (Mod.drewN [] _ _)⟩
theorem mayHave_c (k u n : Int) (s : ByteArray) (A : Option Addr) (len cc : Nat) (w : World) :
    Calls Tryd.prog 83 #[.int .u8 (flds k), .agg (tmc k u n s A len cc).toArray] w fun e w' => e = .returned (.bool (Tm.may k u n s.size)) ∧ Mod [] w w' := by
  obtain ⟨x, hx⟩ : ∃ x : Int, x = if hasB (flds k) 1 then 64 else 0 := ⟨_, rfl⟩
  obtain ⟨y, hy⟩ : ∃ x : Int, x = if hasB (flds k) 2 then 1 else 0 := ⟨_, rfl⟩
  obtain ⟨y2, hy2⟩ : ∃ x : Int, x = if hasB (flds k) 2 then 6 else 0 := ⟨_, rfl⟩
  obtain ⟨z, hz⟩ : ∃ x : Int, x = if hasB (flds k) 4 then 65535 else 0 := ⟨_, rfl⟩
  have key : Tm.may k u n s.size = (decide ((s.size : Int) ≤ x) && decide (y ≤ u) && decide (u ≤ y2) && decide (0 ≤ n) && decide (n ≤ z)) := by
    rw [Bool.eq_iff_iff, Tm.may_iff, hx, hy, hy2, hz, hasB_T, hasB_U, hasB_N]
    simp only [Bool.and_eq_true, decide_eq_true_eq]
    have : ((s.size : Int) ≤ if Tm.hasT k = true then 64 else 0) ↔ s.size ≤ if Tm.hasT k = true then 64 else 0 := by split <;> omega
    rw [this]
    constructor
    · rintro ⟨a, ⟨b, c⟩, d, e⟩; exact ⟨⟨⟨⟨a, b⟩, c⟩, d⟩, e⟩
    · rintro ⟨⟨⟨⟨a, b⟩, c⟩, d⟩, e⟩; exact ⟨a, ⟨b, c⟩, d, e⟩
  rw [key]
  clear key
  cases h1 : decide ((s.size : Int) ≤ x) with
  | false => exact may_1 _ k u n x y y2 z s A len cc hx hy hy2 hz h1 w
  | true =>
  cases h2 : decide (y ≤ u) with
  | false => exact may_2 _ k u n x y y2 z s A len cc hx hy hy2 hz h1 h2 w
  | true =>
  cases h3 : decide (u ≤ y2) with
  | false => exact may_3 _ k u n x y y2 z s A len cc hx hy hy2 hz h1 h2 h3 w
  | true =>
  cases h4 : decide (0 ≤ n) with
  | false => exact may_4 _ k u n x y y2 z s A len cc hx hy hy2 hz h1 h2 h3 h4 w
  | true =>
  cases h5 : decide (n ≤ z) with
  | false => exact may_5 _ k u n x y y2 z s A len cc hx hy hy2 hz h1 h2 h3 h4 h5 w
  | true => exact may_6 _ k u n x y y2 z s A len cc hx hy hy2 hz h1 h2 h3 h4 h5 w
end Go.Proofs.YtapafniekmfkaaaDoor
