/-
  My own texts Tk Tm2, one behind the other.
-/
import Derived.Test.YtchanildogjhgaaDoorA4
namespace Go.Proofs.YtchanildogjhgaaDoor
section
open Go.RowKit Go.Shelf
set_option linter.unusedVariables false
set_option linter.unusedSimpArgs false
/-- What a function that compares does with the terms of a depth. -/
def SameAll (F m : Nat) : Prop := ∀ (a b : Tm) (ca cb : List Value) (Sa Sb : Nat → Prop) (w : World), a.depth ≤ m → TIs w Sa a ca → TIs w Sb b cb →
  Calls Tryd.prog F #[.agg ca.toArray, .agg cb.toArray] w fun e w' => e = .returned (.bool (Tm.same a b)) ∧ Mod [] w w'
theorem same_mk (k u n : Int) (s : ByteArray) (l : List Tm) (k' u' n' : Int) (s' : ByteArray) (l' : List Tm) : Tm.same (.mk k u n s l) (.mk k' u' n' s' l') = (k == k' && u == u' && n == n' && decide (s = s') && Tm.sameAll l l') := by rw [Tm.same]
theorem sameAll_len {l l' : List Tm} (h : l.length ≠ l'.length) : Tm.sameAll l l' = false := by
  cases hb : Tm.sameAll l l' with
  | false => rfl
  | true => exact absurd (by rw [(Tm.sameAll_iff l l').1 hb]) h
theorem sameAll_stop {l l' : List Tm} {j : Nat} (h : j < l.length) (h' : j < l'.length) (hs : Tm.same l[j] l'[j] = false) : Tm.sameAll l l' = false := by
  cases hb : Tm.sameAll l l' with
  | false => rfl
  | true =>
    have e := (Tm.sameAll_iff l l').1 hb
    subst e
    have := (Tm.same_iff l[j] l[j]).2 rfl
    rw [hs] at this
    cases this
theorem take_same {l l' : List Tm} {j : Nat} (h : j < l.length) (h' : j < l'.length) (ht : l.take j = l'.take j) (hs : Tm.same l[j] l'[j] = true) : l.take (j + 1) = l'.take (j + 1) := by
  rw [take_next' l j h, take_next' l' j h', ht, (Tm.same_iff _ _).1 hs]
end
section
open Go.RowKit Go.Shelf
set_option linter.unusedVariables false
set_option linter.unusedSimpArgs false
set_option maxRecDepth 1000000 in
set_option maxHeartbeats 4000000 in
theorem rsame_1 (k u n : Int) (s : ByteArray) (A : Option Addr) (len c : Nat) (k' u' n' : Int) (s' : ByteArray) (B : Option Addr) (len' d : Nat) (w : World) (h1 : (k == k') = false) :
    Calls Tryd.prog 15 #[.agg (tmc k u n s A len c).toArray, .agg (tmc k' u' n' s' B len' d).toArray] w fun e w' => e = .returned (.bool false) ∧ Mod [] w w' := by
  have g1 : (k != k') = true := by unfold bne; rw [h1]; rfl
  clear h1
  go_enter Tryd.func15, Tryd.ntmps15
  go_wp2_with (first
    | (with_reducible refine wpList_boxes (o := ⟨some 2, .box 24 (.tmp 0), _, _, _, _⟩) rfl 24 (.tmp 0) rfl _ rfl (tmc k u n s A len c) rfl ?_; intro w1 hb1 m1 z1; replace z1 := Lib.hid z1
       obtain ⟨b1, hq1⟩ : ∃ b, b = w.heap.size := ⟨_, rfl⟩
       rw [← hq1] at hb1 ⊢
       clear z1 hq1)
    | (with_reducible refine wpList_boxes (o := ⟨some 3, .box 24 (.tmp 1), _, _, _, _⟩) rfl 24 (.tmp 1) rfl _ rfl (tmc k' u' n' s' B len' d) rfl ?_; intro w2 hb2 m2 z2; replace z2 := Lib.hid z2
       obtain ⟨b2, hq2⟩ : ∃ b, b = w1.heap.size := ⟨_, rfl⟩
       rw [← hq2] at hb2 ⊢
       replace hb1 := hb1.keep m2 (by simp)
       have mm := m1.then m2
       have e0 := hb1.cell 0
       simp only [tmc, List.getElem?_cons_succ, List.getElem?_cons_zero] at e0
       have e1 := hb1.cell 1
       simp only [tmc, List.getElem?_cons_succ, List.getElem?_cons_zero] at e1
       have e2 := hb1.cell 2
       simp only [tmc, List.getElem?_cons_succ, List.getElem?_cons_zero] at e2
       have e3 := hb1.cell 3
       simp only [tmc, List.getElem?_cons_succ, List.getElem?_cons_zero] at e3
       have e4 := hb1.cell 4
       simp only [tmc, List.getElem?_cons_succ, List.getElem?_cons_zero] at e4
       have f0 := hb2.cell 0
       simp only [tmc, List.getElem?_cons_succ, List.getElem?_cons_zero] at f0
       have f1 := hb2.cell 1
       simp only [tmc, List.getElem?_cons_succ, List.getElem?_cons_zero] at f1
       have f2 := hb2.cell 2
       simp only [tmc, List.getElem?_cons_succ, List.getElem?_cons_zero] at f2
       have f3 := hb2.cell 3
       simp only [tmc, List.getElem?_cons_succ, List.getElem?_cons_zero] at f3
       have f4 := hb2.cell 4
       simp only [tmc, List.getElem?_cons_succ, List.getElem?_cons_zero] at f4
       clear z2 hq2 m1 m2))
  go_ret
  exact ⟨rfl, mm⟩
set_option maxRecDepth 1000000 in
set_option maxHeartbeats 4000000 in
theorem rsame_2 (k u n : Int) (s : ByteArray) (A : Option Addr) (len c : Nat) (k' u' n' : Int) (s' : ByteArray) (B : Option Addr) (len' d : Nat) (w : World) (h1 : (k == k') = true) (h2 : (u == u') = false) :
    Calls Tryd.prog 15 #[.agg (tmc k u n s A len c).toArray, .agg (tmc k' u' n' s' B len' d).toArray] w fun e w' => e = .returned (.bool false) ∧ Mod [] w w' := by
  have g1 : (k != k') = false := by unfold bne; rw [h1]; rfl
  have g2 : (u != u') = true := by unfold bne; rw [h2]; rfl
  clear h1 h2
  go_enter Tryd.func15, Tryd.ntmps15
  go_wp2_with (first
    | (with_reducible refine wpList_boxes (o := ⟨some 2, .box 24 (.tmp 0), _, _, _, _⟩) rfl 24 (.tmp 0) rfl _ rfl (tmc k u n s A len c) rfl ?_; intro w1 hb1 m1 z1; replace z1 := Lib.hid z1
       obtain ⟨b1, hq1⟩ : ∃ b, b = w.heap.size := ⟨_, rfl⟩
       rw [← hq1] at hb1 ⊢
       clear z1 hq1)
    | (with_reducible refine wpList_boxes (o := ⟨some 3, .box 24 (.tmp 1), _, _, _, _⟩) rfl 24 (.tmp 1) rfl _ rfl (tmc k' u' n' s' B len' d) rfl ?_; intro w2 hb2 m2 z2; replace z2 := Lib.hid z2
       obtain ⟨b2, hq2⟩ : ∃ b, b = w1.heap.size := ⟨_, rfl⟩
       rw [← hq2] at hb2 ⊢
       replace hb1 := hb1.keep m2 (by simp)
       have mm := m1.then m2
       have e0 := hb1.cell 0
       simp only [tmc, List.getElem?_cons_succ, List.getElem?_cons_zero] at e0
       have e1 := hb1.cell 1
       simp only [tmc, List.getElem?_cons_succ, List.getElem?_cons_zero] at e1
       have e2 := hb1.cell 2
       simp only [tmc, List.getElem?_cons_succ, List.getElem?_cons_zero] at e2
       have e3 := hb1.cell 3
       simp only [tmc, List.getElem?_cons_succ, List.getElem?_cons_zero] at e3
       have e4 := hb1.cell 4
       simp only [tmc, List.getElem?_cons_succ, List.getElem?_cons_zero] at e4
       have f0 := hb2.cell 0
       simp only [tmc, List.getElem?_cons_succ, List.getElem?_cons_zero] at f0
       have f1 := hb2.cell 1
       simp only [tmc, List.getElem?_cons_succ, List.getElem?_cons_zero] at f1
       have f2 := hb2.cell 2
       simp only [tmc, List.getElem?_cons_succ, List.getElem?_cons_zero] at f2
       have f3 := hb2.cell 3
       simp only [tmc, List.getElem?_cons_succ, List.getElem?_cons_zero] at f3
       have f4 := hb2.cell 4
       simp only [tmc, List.getElem?_cons_succ, List.getElem?_cons_zero] at f4
       clear z2 hq2 m1 m2))
  go_ret
  exact ⟨rfl, mm⟩
set_option maxRecDepth 1000000 in
set_option maxHeartbeats 4000000 in
theorem rsame_3 (k u n : Int) (s : ByteArray) (A : Option Addr) (len c : Nat) (k' u' n' : Int) (s' : ByteArray) (B : Option Addr) (len' d : Nat) (w : World) (h1 : (k == k') = true) (h2 : (u == u') = true) (h3 : (n == n') = false) :
    Calls Tryd.prog 15 #[.agg (tmc k u n s A len c).toArray, .agg (tmc k' u' n' s' B len' d).toArray] w fun e w' => e = .returned (.bool false) ∧ Mod [] w w' := by
  have g1 : (k != k') = false := by unfold bne; rw [h1]; rfl
  have g2 : (u != u') = false := by unfold bne; rw [h2]; rfl
  have g3 : (n != n') = true := by unfold bne; rw [h3]; rfl
  clear h1 h2 h3
  go_enter Tryd.func15, Tryd.ntmps15
  go_wp2_with (first
    | (with_reducible refine wpList_boxes (o := ⟨some 2, .box 24 (.tmp 0), _, _, _, _⟩) rfl 24 (.tmp 0) rfl _ rfl (tmc k u n s A len c) rfl ?_; intro w1 hb1 m1 z1; replace z1 := Lib.hid z1
       obtain ⟨b1, hq1⟩ : ∃ b, b = w.heap.size := ⟨_, rfl⟩
       rw [← hq1] at hb1 ⊢
       clear z1 hq1)
    | (with_reducible refine wpList_boxes (o := ⟨some 3, .box 24 (.tmp 1), _, _, _, _⟩) rfl 24 (.tmp 1) rfl _ rfl (tmc k' u' n' s' B len' d) rfl ?_; intro w2 hb2 m2 z2; replace z2 := Lib.hid z2
       obtain ⟨b2, hq2⟩ : ∃ b, b = w1.heap.size := ⟨_, rfl⟩
       rw [← hq2] at hb2 ⊢
       replace hb1 := hb1.keep m2 (by simp)
       have mm := m1.then m2
       have e0 := hb1.cell 0
       simp only [tmc, List.getElem?_cons_succ, List.getElem?_cons_zero] at e0
       have e1 := hb1.cell 1
       simp only [tmc, List.getElem?_cons_succ, List.getElem?_cons_zero] at e1
       have e2 := hb1.cell 2
       simp only [tmc, List.getElem?_cons_succ, List.getElem?_cons_zero] at e2
       have e3 := hb1.cell 3
       simp only [tmc, List.getElem?_cons_succ, List.getElem?_cons_zero] at e3
       have e4 := hb1.cell 4
       simp only [tmc, List.getElem?_cons_succ, List.getElem?_cons_zero] at e4
       have f0 := hb2.cell 0
       simp only [tmc, List.getElem?_cons_succ, List.getElem?_cons_zero] at f0
       have f1 := hb2.cell 1
       simp only [tmc, List.getElem?_cons_succ, List.getElem?_cons_zero] at f1
       have f2 := hb2.cell 2
       simp only [tmc, List.getElem?_cons_succ, List.getElem?_cons_zero] at f2
       have f3 := hb2.cell 3
       simp only [tmc, List.getElem?_cons_succ, List.getElem?_cons_zero] at f3
       have f4 := hb2.cell 4
       simp only [tmc, List.getElem?_cons_succ, List.getElem?_cons_zero] at f4
       clear z2 hq2 m1 m2))
  go_ret
  exact ⟨rfl, mm⟩
set_option maxRecDepth 1000000 in
set_option maxHeartbeats 4000000 in
theorem rsame_4 (k u n : Int) (s : ByteArray) (A : Option Addr) (len c : Nat) (k' u' n' : Int) (s' : ByteArray) (B : Option Addr) (len' d : Nat) (w : World) (h1 : (k == k') = true) (h2 : (u == u') = true) (h3 : (n == n') = true) (h4 : (s.toList == s'.toList) = false) :
    Calls Tryd.prog 15 #[.agg (tmc k u n s A len c).toArray, .agg (tmc k' u' n' s' B len' d).toArray] w fun e w' => e = .returned (.bool false) ∧ Mod [] w w' := by
  have g1 : (k != k') = false := by unfold bne; rw [h1]; rfl
  have g2 : (u != u') = false := by unfold bne; rw [h2]; rfl
  have g3 : (n != n') = false := by unfold bne; rw [h3]; rfl
  clear h1 h2 h3
  go_enter Tryd.func15, Tryd.ntmps15
  go_wp2_with (first
    | (with_reducible refine wpList_boxes (o := ⟨some 2, .box 24 (.tmp 0), _, _, _, _⟩) rfl 24 (.tmp 0) rfl _ rfl (tmc k u n s A len c) rfl ?_; intro w1 hb1 m1 z1; replace z1 := Lib.hid z1
       obtain ⟨b1, hq1⟩ : ∃ b, b = w.heap.size := ⟨_, rfl⟩
       rw [← hq1] at hb1 ⊢
       clear z1 hq1)
    | (with_reducible refine wpList_boxes (o := ⟨some 3, .box 24 (.tmp 1), _, _, _, _⟩) rfl 24 (.tmp 1) rfl _ rfl (tmc k' u' n' s' B len' d) rfl ?_; intro w2 hb2 m2 z2; replace z2 := Lib.hid z2
       obtain ⟨b2, hq2⟩ : ∃ b, b = w1.heap.size := ⟨_, rfl⟩
       rw [← hq2] at hb2 ⊢
       replace hb1 := hb1.keep m2 (by simp)
       have mm := m1.then m2
       have e0 := hb1.cell 0
       simp only [tmc, List.getElem?_cons_succ, List.getElem?_cons_zero] at e0
       have e1 := hb1.cell 1
       simp only [tmc, List.getElem?_cons_succ, List.getElem?_cons_zero] at e1
       have e2 := hb1.cell 2
       simp only [tmc, List.getElem?_cons_succ, List.getElem?_cons_zero] at e2
       have e3 := hb1.cell 3
       simp only [tmc, List.getElem?_cons_succ, List.getElem?_cons_zero] at e3
       have e4 := hb1.cell 4
       simp only [tmc, List.getElem?_cons_succ, List.getElem?_cons_zero] at e4
       have f0 := hb2.cell 0
       simp only [tmc, List.getElem?_cons_succ, List.getElem?_cons_zero] at f0
       have f1 := hb2.cell 1
       simp only [tmc, List.getElem?_cons_succ, List.getElem?_cons_zero] at f1
       have f2 := hb2.cell 2
       simp only [tmc, List.getElem?_cons_succ, List.getElem?_cons_zero] at f2
       have f3 := hb2.cell 3
       simp only [tmc, List.getElem?_cons_succ, List.getElem?_cons_zero] at f3
       have f4 := hb2.cell 4
       simp only [tmc, List.getElem?_cons_succ, List.getElem?_cons_zero] at f4
       clear z2 hq2 m1 m2))
  go_ret
  exact ⟨rfl, mm⟩
set_option maxRecDepth 1000000 in
set_option maxHeartbeats 4000000 in
theorem rsame_5 (k u n : Int) (s : ByteArray) (A : Option Addr) (len c : Nat) (k' u' n' : Int) (s' : ByteArray) (B : Option Addr) (len' d : Nat) (w : World) (h1 : (k == k') = true) (h2 : (u == u') = true) (h3 : (n == n') = true) (h4 : (s.toList == s'.toList) = true) (h5 : ((len : Int) == (len' : Int)) = false) :
    Calls Tryd.prog 15 #[.agg (tmc k u n s A len c).toArray, .agg (tmc k' u' n' s' B len' d).toArray] w fun e w' => e = .returned (.bool false) ∧ Mod [] w w' := by
  have g1 : (k != k') = false := by unfold bne; rw [h1]; rfl
  have g2 : (u != u') = false := by unfold bne; rw [h2]; rfl
  have g3 : (n != n') = false := by unfold bne; rw [h3]; rfl
  have g5 : ((len : Int) != (len' : Int)) = true := by unfold bne; rw [h5]; rfl
  clear h1 h2 h3 h5
  go_enter Tryd.func15, Tryd.ntmps15
  go_wp2_with (first
    | (with_reducible refine wpList_boxes (o := ⟨some 2, .box 24 (.tmp 0), _, _, _, _⟩) rfl 24 (.tmp 0) rfl _ rfl (tmc k u n s A len c) rfl ?_; intro w1 hb1 m1 z1; replace z1 := Lib.hid z1
       obtain ⟨b1, hq1⟩ : ∃ b, b = w.heap.size := ⟨_, rfl⟩
       rw [← hq1] at hb1 ⊢
       clear z1 hq1)
    | (with_reducible refine wpList_boxes (o := ⟨some 3, .box 24 (.tmp 1), _, _, _, _⟩) rfl 24 (.tmp 1) rfl _ rfl (tmc k' u' n' s' B len' d) rfl ?_; intro w2 hb2 m2 z2; replace z2 := Lib.hid z2
       obtain ⟨b2, hq2⟩ : ∃ b, b = w1.heap.size := ⟨_, rfl⟩
       rw [← hq2] at hb2 ⊢
       replace hb1 := hb1.keep m2 (by simp)
       have mm := m1.then m2
       have e0 := hb1.cell 0
       simp only [tmc, List.getElem?_cons_succ, List.getElem?_cons_zero] at e0
       have e1 := hb1.cell 1
       simp only [tmc, List.getElem?_cons_succ, List.getElem?_cons_zero] at e1
       have e2 := hb1.cell 2
       simp only [tmc, List.getElem?_cons_succ, List.getElem?_cons_zero] at e2
       have e3 := hb1.cell 3
       simp only [tmc, List.getElem?_cons_succ, List.getElem?_cons_zero] at e3
       have e4 := hb1.cell 4
       simp only [tmc, List.getElem?_cons_succ, List.getElem?_cons_zero] at e4
       have f0 := hb2.cell 0
       simp only [tmc, List.getElem?_cons_succ, List.getElem?_cons_zero] at f0
       have f1 := hb2.cell 1
       simp only [tmc, List.getElem?_cons_succ, List.getElem?_cons_zero] at f1
       have f2 := hb2.cell 2
       simp only [tmc, List.getElem?_cons_succ, List.getElem?_cons_zero] at f2
       have f3 := hb2.cell 3
       simp only [tmc, List.getElem?_cons_succ, List.getElem?_cons_zero] at f3
       have f4 := hb2.cell 4
       simp only [tmc, List.getElem?_cons_succ, List.getElem?_cons_zero] at f4
       clear z2 hq2 m1 m2))
  go_ret
  exact ⟨rfl, mm⟩
set_option maxRecDepth 1000000 in
set_option maxHeartbeats 4000000 in
theorem rsame_6 (m : Nat) (ih : SameAll 15 m) (k u n : Int) (s : ByteArray) (A : Option Addr) (len c : Nat) (B : Option Addr) (d : Nat) (w : World) (l l' : List Tm) (vs vs' : List (List Value)) (Sa Sb : Nat → Prop)
    (hl : len = l.length) (hl' : len = l'.length) (hr : RowT w Sa A vs l) (hr' : RowT w Sb B vs' l') (hd : ∀ t ∈ l, t.depth ≤ m) (hlm : len ≤ 2199023255552) :
    Calls Tryd.prog 15 #[.agg (tmc k u n s A len c).toArray, .agg (tmc k u n s B len d).toArray] w fun e w' => e = .returned (.bool (Tm.sameAll l l')) ∧ Mod [] w w' := by
  have HR := Lib.hid (And.intro hl (And.intro hl' (And.intro hr (And.intro hr' (And.intro hd ih)))))
  clear hl hl' hr hr' hd ih
  obtain ⟨Z, hZ⟩ : ∃ Z, Z = Tm.sameAll l l' := ⟨_, rfl⟩
  rw [← hZ]
  replace hZ := Lib.hid hZ
  go_enter Tryd.func15, Tryd.ntmps15
  go_wp2_with (first
    | (with_reducible refine wpList_boxes (o := ⟨some 2, .box 24 (.tmp 0), _, _, _, _⟩) rfl 24 (.tmp 0) rfl _ rfl (tmc k u n s A len c) rfl ?_; intro w1 hb1 m1 z1; replace z1 := Lib.hid z1
       obtain ⟨b1, hq1⟩ : ∃ b, b = w.heap.size := ⟨_, rfl⟩
       rw [← hq1] at hb1 ⊢
       clear z1 hq1)
    | (with_reducible refine wpList_boxes (o := ⟨some 3, .box 24 (.tmp 1), _, _, _, _⟩) rfl 24 (.tmp 1) rfl _ rfl (tmc k u n s B len d) rfl ?_; intro w2 hb2 m2 z2; replace z2 := Lib.hid z2
       obtain ⟨b2, hq2⟩ : ∃ b, b = w1.heap.size := ⟨_, rfl⟩
       rw [← hq2] at hb2 ⊢
       replace hb1 := hb1.keep m2 (by simp)
       have mm := m1.then m2
       have e0 := hb1.cell 0
       simp only [tmc, List.getElem?_cons_succ, List.getElem?_cons_zero] at e0
       have e1 := hb1.cell 1
       simp only [tmc, List.getElem?_cons_succ, List.getElem?_cons_zero] at e1
       have e2 := hb1.cell 2
       simp only [tmc, List.getElem?_cons_succ, List.getElem?_cons_zero] at e2
       have e3 := hb1.cell 3
       simp only [tmc, List.getElem?_cons_succ, List.getElem?_cons_zero] at e3
       have e4 := hb1.cell 4
       simp only [tmc, List.getElem?_cons_succ, List.getElem?_cons_zero] at e4
       have f0 := hb2.cell 0
       simp only [tmc, List.getElem?_cons_succ, List.getElem?_cons_zero] at f0
       have f1 := hb2.cell 1
       simp only [tmc, List.getElem?_cons_succ, List.getElem?_cons_zero] at f1
       have f2 := hb2.cell 2
       simp only [tmc, List.getElem?_cons_succ, List.getElem?_cons_zero] at f2
       have f3 := hb2.cell 3
       simp only [tmc, List.getElem?_cons_succ, List.getElem?_cons_zero] at f3
       have f4 := hb2.cell 4
       simp only [tmc, List.getElem?_cons_succ, List.getElem?_cons_zero] at f4
       clear z2 hq2 m1 m2))
  clear e0 e1 e2 e3 e4 f0 f1 f2 f3 f4
  go_loopw [5] (fun i wr => ∃ j : Nat, i = .int .i64 j ∧ j ≤ len ∧ l.take j = l'.take j ∧ Holds wr b1 24 (tmc k u n s A len c) ∧ Holds wr b2 24 (tmc k u n s B len d) ∧ Mod [] w wr) (fun i _ => len - (intOf i).toNat)
  case atStart => exact ⟨0, rfl, by omega, rfl, hb1, hb2, mm⟩
  case round =>
  obtain ⟨j, rfl, hj, htk, k1, k2, mr⟩ := hrel
  have HT := Lib.hid htk
  clear htk
  have e4 := k1.cell 4
  simp only [tmc, List.getElem?_cons_succ, List.getElem?_cons_zero] at e4
  by_cases hjl : j < len
  case neg =>
    obtain rfl : len = j := by omega
    have hq : Tm.sameAll l l' = true := (Tm.sameAll_iff l l').2 (by have := HT.out; rw [HR.out.1, List.take_length] at this; rwa [← HR.out.1, HR.out.2.1, List.take_length] at this)
    have HQ := Lib.hid (hZ.out.trans hq)
    clear hq
    go_wp2_with fail
    go_ret
    exact ⟨congrArg (fun z => Ending.returned (Value.bool z)) HQ.out.symm, mr⟩
  have hj1 : j < l.length := by rw [← HR.out.1]; exact hjl
  have hj2 : j < l'.length := by rw [← HR.out.2.1]; exact hjl
  obtain ⟨g, q, cs, rfl, hcE, hT, hcs, _⟩ := HR.out.2.2.1.elem j hj1
  obtain ⟨g', q', cs', rfl, hcE', hT', hcs', _⟩ := HR.out.2.2.2.1.elem j hj2
  obtain ⟨r, hrz⟩ : ∃ r, r = Tm.same l[j] l'[j] := ⟨_, rfl⟩
  have IHC := fun v (mv : Mod [] wr v) => HR.out.2.2.2.2.2 l[j] l'[j] cs cs' Sa Sb v (HR.out.2.2.2.2.1 _ (List.getElem_mem _)) (hT.keep (mr.then mv) (by simp)) (hT'.keep (mr.then mv) (by simp))
  rw [← hrz] at IHC
  have HP := Lib.hid (And.intro k1 (And.intro k2 (And.intro (hcE.keep mr (by simp)) (And.intro (hcE'.keep mr (by simp)) (And.intro hcs hcs')))))
  clear k1 k2 hcE hcE' hT hT' hcs hcs'
  cases hb : r with
  | false =>
    rw [hb] at IHC hrz
    have HQ := Lib.hid (hZ.out.trans (sameAll_stop hj1 hj2 hrz.symm))
    clear hrz hb
    go_wp2_with fail
    refine wp_region_ups [(48, .pointer (some ⟨b1, 4, none⟩)), (49, .slice (some ⟨g, q, none⟩) len c), (50, .int .i64 (j : Int)), (51, .pointer (some ⟨g, q + j * 5, none⟩)), (52, .agg cs.toArray), (53, .pointer (some ⟨b2, 4, none⟩)), (54, .slice (some ⟨g', q', none⟩) len d), (55, .int .i64 (j : Int)), (56, .pointer (some ⟨g', q' + j * 5, none⟩)), (57, .agg cs'.toArray), (58, .bool false), (59, .bool true)] 60 [48, 49, 50, 51, 52, 53, 54, 55, 56, 57, 58, 59] rfl rfl (by decide) (by kernel_rfl) (fun lz v => Mod [] wr.drew v) (by kernel_rfl) (Mod.refl _ _) (by kernel_rfl) (by kernel_rfl) ?step ?fin
    case step =>
      intro lz T v j o hj hlj hdep hst hpar hgot hcl Kq hK
      have mv : ∀ v, Mod [] wr.drew v → Mod [] wr v := fun v h => (Mod.drew [] wr).then h
      have hjn : j < 12 := (Array.getElem?_eq_some_iff.1 hj).1
      obtain rfl | rfl | rfl | rfl | rfl | rfl | rfl | rfl | rfl | rfl | rfl | rfl : j = 0 ∨ j = 1 ∨ j = 2 ∨ j = 3 ∨ j = 4 ∨ j = 5 ∨ j = 6 ∨ j = 7 ∨ j = 8 ∨ j = 9 ∨ j = 10 ∨ j = 11 := by omega
      all_goals (have hj' := Option.some.inj (hj : some _ = some o); subst hj'; clear hj)
      · exact wp_ran rfl (exec_fa4 rfl (eval_tmp ((hpar 2 rfl).trans rfl))) (hK _ _ (fun s hs => by cases hs; rfl) hst)
      · exact wp_ran rfl (exec_load rfl (eval_tmp (hgot 0 _ 48 rfl (hdep ⟨0, .data⟩ (by simp) rfl) rfl)) (run_load1 Tryd.underlying22 rfl (show v.cell? ⟨b1, 4, none⟩ = some (.slice (some ⟨g, q, none⟩) len c) from (HP.out.1.keep (mv v hst) (by simp)).cell 4))) (hK _ _ (fun s hs => by cases hs; rfl) hst)
      · exact wp_ran rfl (exec_move rfl (eval_tmp ((hpar 5 rfl).trans rfl))) (hK _ _ (fun s hs => by cases hs; rfl) hst)
      · exact wp_ran rfl (exec_ixs Tryd.underlying22 size24 hjl rfl (eval_tmp (hgot 1 _ 49 rfl (hdep ⟨1, .data⟩ (by simp) rfl) rfl)) (eval_tmp (hgot 2 _ 50 rfl (hdep ⟨2, .data⟩ (by simp) rfl) rfl))) (hK _ _ (fun s hs => by cases hs; rfl) hst)
      · exact wp_ran rfl (exec_load rfl (eval_tmp (hgot 3 _ 51 rfl (hdep ⟨3, .data⟩ (by simp) rfl) rfl)) (run_loads (HP.out.2.2.1.keep (mv v hst) (by simp)) Tryd.underlying24 rfl (size24' HP.out.2.2.2.2.1))) (hK _ _ (fun s hs => by cases hs; rfl) hst)
      · exact wp_ran rfl (exec_fa4 rfl (eval_tmp ((hpar 3 rfl).trans rfl))) (hK _ _ (fun s hs => by cases hs; rfl) hst)
      · exact wp_ran rfl (exec_load rfl (eval_tmp (hgot 5 _ 53 rfl (hdep ⟨5, .data⟩ (by simp) rfl) rfl)) (run_load1 Tryd.underlying22 rfl (show v.cell? ⟨b2, 4, none⟩ = some (.slice (some ⟨g', q', none⟩) len d) from (HP.out.2.1.keep (mv v hst) (by simp)).cell 4))) (hK _ _ (fun s hs => by cases hs; rfl) hst)
      · exact wp_ran rfl (exec_move rfl (eval_tmp ((hpar 5 rfl).trans rfl))) (hK _ _ (fun s hs => by cases hs; rfl) hst)
      · exact wp_ran rfl (exec_ixs Tryd.underlying22 size24 hjl rfl (eval_tmp (hgot 6 _ 54 rfl (hdep ⟨6, .data⟩ (by simp) rfl) rfl)) (eval_tmp (hgot 7 _ 55 rfl (hdep ⟨7, .data⟩ (by simp) rfl) rfl))) (hK _ _ (fun s hs => by cases hs; rfl) hst)
      · exact wp_ran rfl (exec_load rfl (eval_tmp (hgot 8 _ 56 rfl (hdep ⟨8, .data⟩ (by simp) rfl) rfl)) (run_loads (HP.out.2.2.2.1.keep (mv v hst) (by simp)) Tryd.underlying24 rfl (size24' HP.out.2.2.2.2.2))) (hK _ _ (fun s hs => by cases hs; rfl) hst)
      · exact wp_called rfl (exec_call2 rfl rfl (eval_tmp (hgot 4 _ 52 rfl (hdep ⟨4, .data⟩ (by simp) rfl) rfl)) (eval_tmp (hgot 9 _ 57 rfl (hdep ⟨9, .data⟩ (by simp) rfl) rfl)) (enters_of Tryd.func15 (by kernel_rfl) rfl)) ((IHC v (mv v hst)).mono (fun e v' hh => ⟨_, hh.1, hK _ _ (fun s hs => by cases hs; rfl) (hst.then hh.2)⟩))
      · exact wp_ran rfl (exec_not rfl (eval_tmp (hgot 10 _ 58 rfl (hdep ⟨10, .data⟩ (by simp) rfl) rfl))) (hK _ _ (fun s hs => by cases hs; rfl) hst)
    case fin =>
    intro lz vr hlz hst
    have hst0 := hst
    replace hst : Mod [] w vr := mr.then ((Mod.drew [] wr).then hst)
    have hk1 := HP.out.1.keep ((Mod.drew [] wr).then hst0) (by simp)
    have hk2 := HP.out.2.1.keep ((Mod.drew [] wr).then hst0) (by simp)
    clear hlz HP IHC hst0
    simp only [setAll, List.foldl_cons, List.foldl_nil, List.set_cons_succ, List.set_cons_zero]
    go_wp2_with fail
    go_ret
    exact ⟨congrArg (fun z => Ending.returned (Value.bool z)) HQ.out.symm, hst⟩
  | true =>
    rw [hb] at IHC hrz
    have HN := Lib.hid (take_same hj1 hj2 HT.out hrz.symm)
    clear hrz hb
    go_wp2_with fail
    refine wp_region_ups [(48, .pointer (some ⟨b1, 4, none⟩)), (49, .slice (some ⟨g, q, none⟩) len c), (50, .int .i64 (j : Int)), (51, .pointer (some ⟨g, q + j * 5, none⟩)), (52, .agg cs.toArray), (53, .pointer (some ⟨b2, 4, none⟩)), (54, .slice (some ⟨g', q', none⟩) len d), (55, .int .i64 (j : Int)), (56, .pointer (some ⟨g', q' + j * 5, none⟩)), (57, .agg cs'.toArray), (58, .bool true), (59, .bool false)] 60 [48, 49, 50, 51, 52, 53, 54, 55, 56, 57, 58, 59] rfl rfl (by decide) (by kernel_rfl) (fun lz v => Mod [] wr.drew v) (by kernel_rfl) (Mod.refl _ _) (by kernel_rfl) (by kernel_rfl) ?step ?fin
    case step =>
      intro lz T v j o hj hlj hdep hst hpar hgot hcl Kq hK
      have mv : ∀ v, Mod [] wr.drew v → Mod [] wr v := fun v h => (Mod.drew [] wr).then h
      have hjn : j < 12 := (Array.getElem?_eq_some_iff.1 hj).1
      obtain rfl | rfl | rfl | rfl | rfl | rfl | rfl | rfl | rfl | rfl | rfl | rfl : j = 0 ∨ j = 1 ∨ j = 2 ∨ j = 3 ∨ j = 4 ∨ j = 5 ∨ j = 6 ∨ j = 7 ∨ j = 8 ∨ j = 9 ∨ j = 10 ∨ j = 11 := by omega
      all_goals (have hj' := Option.some.inj (hj : some _ = some o); subst hj'; clear hj)
      · exact wp_ran rfl (exec_fa4 rfl (eval_tmp ((hpar 2 rfl).trans rfl))) (hK _ _ (fun s hs => by cases hs; rfl) hst)
      · exact wp_ran rfl (exec_load rfl (eval_tmp (hgot 0 _ 48 rfl (hdep ⟨0, .data⟩ (by simp) rfl) rfl)) (run_load1 Tryd.underlying22 rfl (show v.cell? ⟨b1, 4, none⟩ = some (.slice (some ⟨g, q, none⟩) len c) from (HP.out.1.keep (mv v hst) (by simp)).cell 4))) (hK _ _ (fun s hs => by cases hs; rfl) hst)
      · exact wp_ran rfl (exec_move rfl (eval_tmp ((hpar 5 rfl).trans rfl))) (hK _ _ (fun s hs => by cases hs; rfl) hst)
      · exact wp_ran rfl (exec_ixs Tryd.underlying22 size24 hjl rfl (eval_tmp (hgot 1 _ 49 rfl (hdep ⟨1, .data⟩ (by simp) rfl) rfl)) (eval_tmp (hgot 2 _ 50 rfl (hdep ⟨2, .data⟩ (by simp) rfl) rfl))) (hK _ _ (fun s hs => by cases hs; rfl) hst)
      · exact wp_ran rfl (exec_load rfl (eval_tmp (hgot 3 _ 51 rfl (hdep ⟨3, .data⟩ (by simp) rfl) rfl)) (run_loads (HP.out.2.2.1.keep (mv v hst) (by simp)) Tryd.underlying24 rfl (size24' HP.out.2.2.2.2.1))) (hK _ _ (fun s hs => by cases hs; rfl) hst)
      · exact wp_ran rfl (exec_fa4 rfl (eval_tmp ((hpar 3 rfl).trans rfl))) (hK _ _ (fun s hs => by cases hs; rfl) hst)
      · exact wp_ran rfl (exec_load rfl (eval_tmp (hgot 5 _ 53 rfl (hdep ⟨5, .data⟩ (by simp) rfl) rfl)) (run_load1 Tryd.underlying22 rfl (show v.cell? ⟨b2, 4, none⟩ = some (.slice (some ⟨g', q', none⟩) len d) from (HP.out.2.1.keep (mv v hst) (by simp)).cell 4))) (hK _ _ (fun s hs => by cases hs; rfl) hst)
      · exact wp_ran rfl (exec_move rfl (eval_tmp ((hpar 5 rfl).trans rfl))) (hK _ _ (fun s hs => by cases hs; rfl) hst)
      · exact wp_ran rfl (exec_ixs Tryd.underlying22 size24 hjl rfl (eval_tmp (hgot 6 _ 54 rfl (hdep ⟨6, .data⟩ (by simp) rfl) rfl)) (eval_tmp (hgot 7 _ 55 rfl (hdep ⟨7, .data⟩ (by simp) rfl) rfl))) (hK _ _ (fun s hs => by cases hs; rfl) hst)
      · exact wp_ran rfl (exec_load rfl (eval_tmp (hgot 8 _ 56 rfl (hdep ⟨8, .data⟩ (by simp) rfl) rfl)) (run_loads (HP.out.2.2.2.1.keep (mv v hst) (by simp)) Tryd.underlying24 rfl (size24' HP.out.2.2.2.2.2))) (hK _ _ (fun s hs => by cases hs; rfl) hst)
      · exact wp_called rfl (exec_call2 rfl rfl (eval_tmp (hgot 4 _ 52 rfl (hdep ⟨4, .data⟩ (by simp) rfl) rfl)) (eval_tmp (hgot 9 _ 57 rfl (hdep ⟨9, .data⟩ (by simp) rfl) rfl)) (enters_of Tryd.func15 (by kernel_rfl) rfl)) ((IHC v (mv v hst)).mono (fun e v' hh => ⟨_, hh.1, hK _ _ (fun s hs => by cases hs; rfl) (hst.then hh.2)⟩))
      · exact wp_ran rfl (exec_not rfl (eval_tmp (hgot 10 _ 58 rfl (hdep ⟨10, .data⟩ (by simp) rfl) rfl))) (hK _ _ (fun s hs => by cases hs; rfl) hst)
    case fin =>
    intro lz vr hlz hst
    have hst0 := hst
    replace hst : Mod [] w vr := mr.then ((Mod.drew [] wr).then hst)
    have hk1 := HP.out.1.keep ((Mod.drew [] wr).then hst0) (by simp)
    have hk2 := HP.out.2.1.keep ((Mod.drew [] wr).then hst0) (by simp)
    clear hlz HP IHC hst0
    simp only [setAll, List.foldl_cons, List.foldl_nil, List.set_cons_succ, List.set_cons_zero]
    go_wp2_with fail
    exact ⟨⟨j + 1, by go_num, by omega, HN.out, hk1, hk2, hst⟩, by simp [intOf]; omega⟩
theorem rsame_all : ∀ m, SameAll 15 m
  | 0, a, _, _, _, _, _, _, h, _, _ => by have := Tm.depth_pos a; omega
  | m + 1, .mk k u n s l, .mk k' u' n' s' l', ca, cb, Sa, Sb, w, h, hT, hT' => by
    obtain ⟨A, c, vs, rfl, hr, hlc, hcm, hlm, hs⟩ := hT.row
    obtain ⟨B, d, vs', rfl, hr', hlc', hcm', hlm', hs'⟩ := hT'.row
    rw [Tm.depth] at h
    rw [same_mk]
    have key : (decide (s = s')) = (s.toList == s'.toList) := (toList_beq s s').symm
    rw [key]
    cases h1 : (k == k') with
    | false => exact rsame_1 k u n s A l.length c k' u' n' s' B l'.length d w h1
    | true =>
    cases h2 : (u == u') with
    | false => exact rsame_2 k u n s A l.length c k' u' n' s' B l'.length d w h1 h2
    | true =>
    cases h3 : (n == n') with
    | false => exact rsame_3 k u n s A l.length c k' u' n' s' B l'.length d w h1 h2 h3
    | true =>
    cases h4 : (s.toList == s'.toList) with
    | false => exact rsame_4 k u n s A l.length c k' u' n' s' B l'.length d w h1 h2 h3 h4
    | true =>
    cases h5 : ((l.length : Int) == (l'.length : Int)) with
    | false =>
      rw [sameAll_len (l := l) (l' := l') (fun e => by rw [e] at h5; simp at h5)]
      exact rsame_5 k u n s A l.length c k' u' n' s' B l'.length d w h1 h2 h3 h4 h5
    | true =>
      obtain rfl : k = k' := by simpa using h1
      obtain rfl : u = u' := by simpa using h2
      obtain rfl : n = n' := by simpa using h3
      obtain rfl : s = s' := by rw [toList_beq] at h4; simpa using h4
      have e5 : l.length = l'.length := by have : (l.length : Int) = l'.length := by simpa using h5
                                           omega
      have := rsame_6 m (rsame_all m) k u n s A l.length c B d w l l' vs vs' Sa Sb rfl e5 hr hr' (fun t ht => by have := Tm.mem_depth ht; omega) hlm
      rw [e5] at this ⊢
      simpa using this
end
end Go.Proofs.YtchanildogjhgaaDoor

