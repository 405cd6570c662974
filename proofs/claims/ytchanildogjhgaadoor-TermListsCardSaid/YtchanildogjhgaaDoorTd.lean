/-
  large, over: terms that are gone through. My own work.
-/
import Derived.Test.YtchanildogjhgaaDoorTc3
namespace Go.Proofs.YtchanildogjhgaaDoor
open Go.RowKit Go.Shelf
set_option linter.unusedVariables false
theorem zero24 (w : World) : (zeroValue 24).run Tryd.prog w = .ok (.agg (tmc 0 0 0 ⟨#[]⟩ none 0 0).toArray) w := by kernel_rfl
theorem size24 : (Tryd.prog.info? 24).map (·.size) = some 5 := by kernel_rfl
theorem size24' {cs : List Value} (h : cs.length = 5) : (Tryd.prog.info? 24).map (·.size) = some cs.length := by rw [h]; exact size24
theorem far_mod {w v v' : World} {ms : List Nat} (h : Mod [] w v) (k : Mod ms v v') (hm : ∀ i ∈ ms, w.heap.size ≤ i) : Mod [] w v' := h.trans k (fun i hi h => by have := hm i h; omega)
theorem zlen {cs : List Value} (h : cs.length = 5) : cs.length = (tmc 0 0 0 ⟨#[]⟩ none 0 0).length := h
theorem tmc_len (k u n : Int) (s : ByteArray) (A : Option Addr) (l c : Nat) : (tmc k u n s A l c).length = 5 := rfl
theorem tmc_one (k u n : Int) (s : ByteArray) (A : Option Addr) (l c : Nat) : ∀ v ∈ tmc k u n s A l c, v.oneCell' = true := by
  intro v hv
  simp only [tmc, List.mem_cons, List.not_mem_nil, or_false] at hv
  rcases hv with rfl | rfl | rfl | rfl | rfl <;> rfl
/-- What large makes of the count. -/
def LargeP (p : Nat) (w : World) (e : Ending) (w' : World) : Prop := ∃ (b : Bool) (L : Int), e = .returned (.bool b) ∧ Holds w' p 3 [.int .i64 L] ∧ (b = false → 0 ≤ L) ∧ L ≤ 1500 ∧ Mod [p] w w'
set_option maxRecDepth 1000000 in
set_option maxHeartbeats 4000000 in
theorem large_1 (k u n : Int) (s : ByteArray) (A : Option Addr) (len c : Nat) (deep left : Int) (p : Nat) (w : World) (hp : Holds w p 3 [.int .i64 left]) (hl0 : 0 ≤ left) (hl1 : left ≤ 1500) (hd0 : 0 ≤ deep) (hd1 : deep ≤ 81) (h1 : left < 1) :
    Calls Tryd.prog 52 #[.agg (tmc k u n s A len c).toArray, .int .i64 deep, .pointer (some ⟨p, 0, none⟩)] w (LargeP p w) := by
  have hne : Hid (¬ w.heap.size = p) := Lib.hid (by have := hp.lt; omega)
  go_enter Tryd.func52, Tryd.ntmps52
  go_wp2_with (first
    | (with_reducible refine wpList_boxes (o := ⟨some 3, .box 24 (.tmp 0), _, _, _, _⟩) rfl 24 (.tmp 0) rfl _ rfl (tmc k u n s A len c) rfl ?_; intro w1 hb1 m1 z1; replace z1 := Lib.hid z1
       obtain ⟨b1, hq1⟩ : ∃ b, b = w.heap.size := ⟨_, rfl⟩
       rw [← hq1] at hb1 ⊢
       have e3 := hb1.cell 3
       have e4 := hb1.cell 4
       simp only [tmc, List.getElem?_cons_succ, List.getElem?_cons_zero] at e3 e4
       have hp1 := hp.keep m1 (by simp)
       have ep := hp1.cell 0
       simp only [List.getElem?_cons_zero] at ep
       have fp := hp1.free 0
       have np : ¬ b1 = p := by rw [hq1]; exact hne.out
       clear hb1 z1 hq1))
  go_ret
  have hp2 := hp1.set 0 (.int .i64 (left - 1))
  exact ⟨true, left - 1, rfl, hp2, (fun h => by cases h), by omega, (m1.pre (Mod.setCell (ms := [p]) w1 (by simp) _))⟩
set_option maxRecDepth 1000000 in
set_option maxHeartbeats 4000000 in
theorem large_2 (k u n : Int) (s : ByteArray) (A : Option Addr) (len c : Nat) (deep left : Int) (p : Nat) (w : World) (hp : Holds w p 3 [.int .i64 left]) (hl0 : 0 ≤ left) (hl1 : left ≤ 1500) (hd0 : 0 ≤ deep) (hd1 : deep ≤ 81) (h1 : 1 ≤ left) (h2 : 80 < deep) :
    Calls Tryd.prog 52 #[.agg (tmc k u n s A len c).toArray, .int .i64 deep, .pointer (some ⟨p, 0, none⟩)] w (LargeP p w) := by
  have hne : Hid (¬ w.heap.size = p) := Lib.hid (by have := hp.lt; omega)
  go_enter Tryd.func52, Tryd.ntmps52
  go_wp2_with (first
    | (with_reducible refine wpList_boxes (o := ⟨some 3, .box 24 (.tmp 0), _, _, _, _⟩) rfl 24 (.tmp 0) rfl _ rfl (tmc k u n s A len c) rfl ?_; intro w1 hb1 m1 z1; replace z1 := Lib.hid z1
       obtain ⟨b1, hq1⟩ : ∃ b, b = w.heap.size := ⟨_, rfl⟩
       rw [← hq1] at hb1 ⊢
       have e3 := hb1.cell 3
       have e4 := hb1.cell 4
       simp only [tmc, List.getElem?_cons_succ, List.getElem?_cons_zero] at e3 e4
       have hp1 := hp.keep m1 (by simp)
       have ep := hp1.cell 0
       simp only [List.getElem?_cons_zero] at ep
       have fp := hp1.free 0
       have np : ¬ b1 = p := by rw [hq1]; exact hne.out
       clear hb1 z1 hq1))
  go_ret
  have hp2 := hp1.set 0 (.int .i64 (left - 1))
  exact ⟨true, left - 1, rfl, hp2, (fun h => by cases h), by omega, (m1.pre (Mod.setCell (ms := [p]) w1 (by simp) _))⟩
set_option maxRecDepth 1000000 in
set_option maxHeartbeats 4000000 in
theorem large_3 (k u n : Int) (s : ByteArray) (A : Option Addr) (len c : Nat) (deep left : Int) (p : Nat) (w : World) (hp : Holds w p 3 [.int .i64 left]) (hl0 : 0 ≤ left) (hl1 : left ≤ 1500) (hd0 : 0 ≤ deep) (hd1 : deep ≤ 81) (h1 : 1 ≤ left) (h2 : deep ≤ 80) (h3 : 1000 < s.size) :
    Calls Tryd.prog 52 #[.agg (tmc k u n s A len c).toArray, .int .i64 deep, .pointer (some ⟨p, 0, none⟩)] w (LargeP p w) := by
  have hne : Hid (¬ w.heap.size = p) := Lib.hid (by have := hp.lt; omega)
  go_enter Tryd.func52, Tryd.ntmps52
  go_wp2_with (first
    | (with_reducible refine wpList_boxes (o := ⟨some 3, .box 24 (.tmp 0), _, _, _, _⟩) rfl 24 (.tmp 0) rfl _ rfl (tmc k u n s A len c) rfl ?_; intro w1 hb1 m1 z1; replace z1 := Lib.hid z1
       obtain ⟨b1, hq1⟩ : ∃ b, b = w.heap.size := ⟨_, rfl⟩
       rw [← hq1] at hb1 ⊢
       have e3 := hb1.cell 3
       have e4 := hb1.cell 4
       simp only [tmc, List.getElem?_cons_succ, List.getElem?_cons_zero] at e3 e4
       have hp1 := hp.keep m1 (by simp)
       have ep := hp1.cell 0
       simp only [List.getElem?_cons_zero] at ep
       have fp := hp1.free 0
       have np : ¬ b1 = p := by rw [hq1]; exact hne.out
       clear hb1 z1 hq1))
  go_ret
  have hp2 := hp1.set 0 (.int .i64 (left - 1))
  exact ⟨true, left - 1, rfl, hp2, (fun h => by cases h), by omega, (m1.pre (Mod.setCell (ms := [p]) w1 (by simp) _))⟩
set_option maxRecDepth 1000000 in
set_option maxHeartbeats 4000000 in
theorem large_4 (k u n : Int) (s : ByteArray) (A : Option Addr) (len c : Nat) (deep left : Int) (p : Nat) (w : World) (hp : Holds w p 3 [.int .i64 left]) (hl0 : 0 ≤ left) (hl1 : left ≤ 1500) (hd0 : 0 ≤ deep) (hd1 : deep ≤ 81) (h1 : 1 ≤ left) (h2 : deep ≤ 80) (h3 : s.size ≤ 1000) (h4 : 10 < len) :
    Calls Tryd.prog 52 #[.agg (tmc k u n s A len c).toArray, .int .i64 deep, .pointer (some ⟨p, 0, none⟩)] w (LargeP p w) := by
  have hne : Hid (¬ w.heap.size = p) := Lib.hid (by have := hp.lt; omega)
  go_enter Tryd.func52, Tryd.ntmps52
  go_wp2_with (first
    | (with_reducible refine wpList_boxes (o := ⟨some 3, .box 24 (.tmp 0), _, _, _, _⟩) rfl 24 (.tmp 0) rfl _ rfl (tmc k u n s A len c) rfl ?_; intro w1 hb1 m1 z1; replace z1 := Lib.hid z1
       obtain ⟨b1, hq1⟩ : ∃ b, b = w.heap.size := ⟨_, rfl⟩
       rw [← hq1] at hb1 ⊢
       have e3 := hb1.cell 3
       have e4 := hb1.cell 4
       simp only [tmc, List.getElem?_cons_succ, List.getElem?_cons_zero] at e3 e4
       have hp1 := hp.keep m1 (by simp)
       have ep := hp1.cell 0
       simp only [List.getElem?_cons_zero] at ep
       have fp := hp1.free 0
       have np : ¬ b1 = p := by rw [hq1]; exact hne.out
       clear hb1 z1 hq1))
  go_ret
  have hp2 := hp1.set 0 (.int .i64 (left - 1))
  exact ⟨true, left - 1, rfl, hp2, (fun h => by cases h), by omega, (m1.pre (Mod.setCell (ms := [p]) w1 (by simp) _))⟩
end Go.Proofs.YtchanildogjhgaaDoor
