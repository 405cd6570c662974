/-
  over of the statements of layer 9, as that of layer 5. My own work.
-/
import Derived.Test.YtchanildogjhgaaDoorA3
namespace Go.Proofs.YtchanildogjhgaaDoor
namespace R9
open Go.RowKit Go.Shelf
set_option linter.unusedVariables false
/-- What large makes of the count. -/
def LargeP (p : Nat) (w : World) (e : Ending) (w' : World) : Prop := ∃ (b : Bool) (L : Int), e = .returned (.bool b) ∧ Holds w' p 3 [.int .i64 L] ∧ (b = false → 0 ≤ L) ∧ L ≤ 1500 ∧ Mod [p] w w'
set_option maxRecDepth 1000000 in
set_option maxHeartbeats 4000000 in
theorem large_1 (k u n : Int) (s : ByteArray) (A : Option Addr) (len c : Nat) (deep left : Int) (p : Nat) (w : World) (hp : Holds w p 3 [.int .i64 left]) (hl0 : 0 ≤ left) (hl1 : left ≤ 1500) (hd0 : 0 ≤ deep) (hd1 : deep ≤ 81) (h1 : left < 1) :
    Calls Tryd.prog 68 #[.agg (tmc k u n s A len c).toArray, .int .i64 deep, .pointer (some ⟨p, 0, none⟩)] w (LargeP p w) := by
  have hne : Hid (¬ w.heap.size = p) := Lib.hid (by have := hp.lt; omega)
  go_enter Tryd.func68, Tryd.ntmps68
  go_wp2_with (first
    | (with_reducible refine wpList_boxes (o := ⟨some 3, .box 24 (.tmp 0), _, _, _, _⟩) rfl 24 (.tmp 0) rfl _ rfl (tmc k u n s A len c) rfl ?_; intro w1 hb1 m1 z1; replace z1 := Lib.hid z1
       obtain ⟨b1, hq1⟩ : ∃ b, b = w.heap.size := ⟨_, rfl⟩
       rw [← hq1] at hb1 ⊢
       have e3 := hb1.cell 3
       have e4 := hb1.cell 4
       simp only [tmc, List.getElem?_cons_succ, List.getElem?_cons_zero] at e3 e4
       have hp1 := hp.keep m1 (by simp)
       have ep := hp1.cell 0
       simp only [List.getElem?_cons_zero] at ep
       have fp := hp1.free 0
       have np : ¬ b1 = p := by rw [hq1]; exact hne.out
       clear hb1 z1 hq1))
  go_ret
  have hp2 := hp1.set 0 (.int .i64 (left - 1))
  exact ⟨true, left - 1, rfl, hp2, (fun h => by cases h), by omega, (m1.pre (Mod.setCell (ms := [p]) w1 (by simp) _))⟩
set_option maxRecDepth 1000000 in
set_option maxHeartbeats 4000000 in
theorem large_2 (k u n : Int) (s : ByteArray) (A : Option Addr) (len c : Nat) (deep left : Int) (p : Nat) (w : World) (hp : Holds w p 3 [.int .i64 left]) (hl0 : 0 ≤ left) (hl1 : left ≤ 1500) (hd0 : 0 ≤ deep) (hd1 : deep ≤ 81) (h1 : 1 ≤ left) (h2 : 80 < deep) :
    Calls Tryd.prog 68 #[.agg (tmc k u n s A len c).toArray, .int .i64 deep, .pointer (some ⟨p, 0, none⟩)] w (LargeP p w) := by
  have hne : Hid (¬ w.heap.size = p) := Lib.hid (by have := hp.lt; omega)
  go_enter Tryd.func68, Tryd.ntmps68
  go_wp2_with (first
    | (with_reducible refine wpList_boxes (o := ⟨some 3, .box 24 (.tmp 0), _, _, _, _⟩) rfl 24 (.tmp 0) rfl _ rfl (tmc k u n s A len c) rfl ?_; intro w1 hb1 m1 z1; replace z1 := Lib.hid z1
       obtain ⟨b1, hq1⟩ : ∃ b, b = w.heap.size := ⟨_, rfl⟩
       rw [← hq1] at hb1 ⊢
       have e3 := hb1.cell 3
       have e4 := hb1.cell 4
       simp only [tmc, List.getElem?_cons_succ, List.getElem?_cons_zero] at e3 e4
       have hp1 := hp.keep m1 (by simp)
       have ep := hp1.cell 0
       simp only [List.getElem?_cons_zero] at ep
       have fp := hp1.free 0
       have np : ¬ b1 = p := by rw [hq1]; exact hne.out
       clear hb1 z1 hq1))
  go_ret
  have hp2 := hp1.set 0 (.int .i64 (left - 1))
  exact ⟨true, left - 1, rfl, hp2, (fun h => by cases h), by omega, (m1.pre (Mod.setCell (ms := [p]) w1 (by simp) _))⟩
set_option maxRecDepth 1000000 in
set_option maxHeartbeats 4000000 in
theorem large_3 (k u n : Int) (s : ByteArray) (A : Option Addr) (len c : Nat) (deep left : Int) (p : Nat) (w : World) (hp : Holds w p 3 [.int .i64 left]) (hl0 : 0 ≤ left) (hl1 : left ≤ 1500) (hd0 : 0 ≤ deep) (hd1 : deep ≤ 81) (h1 : 1 ≤ left) (h2 : deep ≤ 80) (h3 : 1000 < s.size) :
    Calls Tryd.prog 68 #[.agg (tmc k u n s A len c).toArray, .int .i64 deep, .pointer (some ⟨p, 0, none⟩)] w (LargeP p w) := by
  have hne : Hid (¬ w.heap.size = p) := Lib.hid (by have := hp.lt; omega)
  go_enter Tryd.func68, Tryd.ntmps68
  go_wp2_with (first
    | (with_reducible refine wpList_boxes (o := ⟨some 3, .box 24 (.tmp 0), _, _, _, _⟩) rfl 24 (.tmp 0) rfl _ rfl (tmc k u n s A len c) rfl ?_; intro w1 hb1 m1 z1; replace z1 := Lib.hid z1
       obtain ⟨b1, hq1⟩ : ∃ b, b = w.heap.size := ⟨_, rfl⟩
       rw [← hq1] at hb1 ⊢
       have e3 := hb1.cell 3
       have e4 := hb1.cell 4
       simp only [tmc, List.getElem?_cons_succ, List.getElem?_cons_zero] at e3 e4
       have hp1 := hp.keep m1 (by simp)
       have ep := hp1.cell 0
       simp only [List.getElem?_cons_zero] at ep
       have fp := hp1.free 0
       have np : ¬ b1 = p := by rw [hq1]; exact hne.out
       clear hb1 z1 hq1))
  go_ret
  have hp2 := hp1.set 0 (.int .i64 (left - 1))
  exact ⟨true, left - 1, rfl, hp2, (fun h => by cases h), by omega, (m1.pre (Mod.setCell (ms := [p]) w1 (by simp) _))⟩
set_option maxRecDepth 1000000 in
set_option maxHeartbeats 4000000 in
theorem large_4 (k u n : Int) (s : ByteArray) (A : Option Addr) (len c : Nat) (deep left : Int) (p : Nat) (w : World) (hp : Holds w p 3 [.int .i64 left]) (hl0 : 0 ≤ left) (hl1 : left ≤ 1500) (hd0 : 0 ≤ deep) (hd1 : deep ≤ 81) (h1 : 1 ≤ left) (h2 : deep ≤ 80) (h3 : s.size ≤ 1000) (h4 : 10 < len) :
    Calls Tryd.prog 68 #[.agg (tmc k u n s A len c).toArray, .int .i64 deep, .pointer (some ⟨p, 0, none⟩)] w (LargeP p w) := by
  have hne : Hid (¬ w.heap.size = p) := Lib.hid (by have := hp.lt; omega)
  go_enter Tryd.func68, Tryd.ntmps68
  go_wp2_with (first
    | (with_reducible refine wpList_boxes (o := ⟨some 3, .box 24 (.tmp 0), _, _, _, _⟩) rfl 24 (.tmp 0) rfl _ rfl (tmc k u n s A len c) rfl ?_; intro w1 hb1 m1 z1; replace z1 := Lib.hid z1
       obtain ⟨b1, hq1⟩ : ∃ b, b = w.heap.size := ⟨_, rfl⟩
       rw [← hq1] at hb1 ⊢
       have e3 := hb1.cell 3
       have e4 := hb1.cell 4
       simp only [tmc, List.getElem?_cons_succ, List.getElem?_cons_zero] at e3 e4
       have hp1 := hp.keep m1 (by simp)
       have ep := hp1.cell 0
       simp only [List.getElem?_cons_zero] at ep
       have fp := hp1.free 0
       have np : ¬ b1 = p := by rw [hq1]; exact hne.out
       clear hb1 z1 hq1))
  go_ret
  have hp2 := hp1.set 0 (.int .i64 (left - 1))
  exact ⟨true, left - 1, rfl, hp2, (fun h => by cases h), by omega, (m1.pre (Mod.setCell (ms := [p]) w1 (by simp) _))⟩
def LargeAll (m : Nat) : Prop := ∀ (t : Tm) (cs : List Value) (S : Nat → Prop) (deep left : Int) (p : Nat) (w : World), t.depth ≤ m → TIs w S t cs → ¬ S p → Holds w p 3 [.int .i64 left] → 0 ≤ left → left ≤ 1500 → 0 ≤ deep → deep ≤ 81 →
  Calls Tryd.prog 68 #[.agg cs.toArray, .int .i64 deep, .pointer (some ⟨p, 0, none⟩)] w (LargeP p w)
set_option maxRecDepth 1000000 in
set_option maxHeartbeats 4000000 in
theorem large_5 (m : Nat) (ih : LargeAll m) (k u n : Int) (s : ByteArray) (A : Option Addr) (len c : Nat) (l : List Tm) (vs : List (List Value)) (S : Nat → Prop) (deep left : Int) (p : Nat) (w : World) (hlen : len = l.length) (hr : RowT w S A vs l) (hd : ∀ t ∈ l, t.depth ≤ m) (hS : ¬ S p)
    (hp : Holds w p 3 [.int .i64 left]) (hl0 : 0 ≤ left) (hl1 : left ≤ 1500) (hd0 : 0 ≤ deep) (hd1 : deep ≤ 81) (h1 : 1 ≤ left) (h2 : deep ≤ 80) (h3 : s.size ≤ 1000) (h4 : len ≤ 10) :
    Calls Tryd.prog 68 #[.agg (tmc k u n s A len c).toArray, .int .i64 deep, .pointer (some ⟨p, 0, none⟩)] w (LargeP p w) := by
  have hne : Hid (¬ w.heap.size = p) := Lib.hid (by have := hp.lt; omega)
  have HR := Lib.hid (And.intro hlen (And.intro hr (And.intro hd hS)))
  have IH := Lib.hid ih
  clear hlen hr hd hS ih
  go_enter Tryd.func68, Tryd.ntmps68
  go_wp2_with (first
    | (with_reducible refine wpList_boxes (o := ⟨some 3, .box 24 (.tmp 0), _, _, _, _⟩) rfl 24 (.tmp 0) rfl _ rfl (tmc k u n s A len c) rfl ?_; intro w1 hb1 m1 z1; replace z1 := Lib.hid z1
       obtain ⟨b1, hq1⟩ : ∃ b, b = w.heap.size := ⟨_, rfl⟩
       rw [← hq1] at hb1 ⊢
       have e3 := hb1.cell 3
       have e4 := hb1.cell 4
       simp only [tmc, List.getElem?_cons_succ, List.getElem?_cons_zero] at e3 e4
       have hp1 := hp.keep m1 (by simp)
       have ep := hp1.cell 0
       simp only [List.getElem?_cons_zero] at ep
       have fp := hp1.free 0
       have np : ¬ b1 = p := by rw [hq1]; exact hne.out
       clear hb1 z1 hq1))
  have hp2 : Holds (w1.setCell ⟨p, 0, none⟩ (.int .i64 (left - 1))) p 3 [.int .i64 (left - 1)] := hp1.set 0 (.int .i64 (left - 1))
  have mm : Mod [p] w (w1.setCell ⟨p, 0, none⟩ (.int .i64 (left - 1))) := m1.pre (Mod.setCell (ms := [p]) w1 (by simp) _)
  obtain ⟨w2, hw2⟩ : ∃ q, q = w1.setCell ⟨p, 0, none⟩ (.int .i64 (left - 1)) := ⟨_, rfl⟩
  rw [← hw2] at hp2 mm ⊢
  clear hw2 hp1 ep fp m1 e3 e4 np
  go_loopw [37] (fun v wr => ∃ (j : Nat) (L : Int), v = .int .i64 j ∧ j ≤ len ∧ Holds wr p 3 [.int .i64 L] ∧ 0 ≤ L ∧ L ≤ 1500 ∧ Mod [p] w wr) (fun v _ => len - (intOf v).toNat)
  case atStart => exact ⟨0, left - 1, rfl, by omega, hp2, by omega, by omega, mm⟩
  case round =>
  obtain ⟨j, L, rfl, hj, hpr, hL0, hL1, mr⟩ := hrel
  by_cases hjl : j < len
  case neg =>
    go_wp2_with fail
    go_ret
    exact ⟨false, L, rfl, hpr, fun _ => hL0, hL1, mr⟩
  obtain ⟨g, o, cs, rfl, hcE, hT, hcs, hSg⟩ := HR.out.2.1.elem j (by rw [← HR.out.1]; exact hjl)
  have hgp : g ≠ p := fun e => HR.out.2.2.2 (e ▸ hSg)
  replace hcE := hcE.keep mr (by rintro _ ⟨⟩; simpa using hgp)
  have hone := hT.one
  have HT := Lib.hid (And.intro hT hgp)
  clear hT hgp hSg
  go_wp2_with (first
    | (with_reducible refine wpList_loads (o := ⟨some 40, .load 24 (.tmp 39), _, _, _, _⟩) rfl 24 (.tmp 39) rfl g (o + j * 5) (cs) rfl (hcE) _ Tryd.underlying24 rfl (size24' hcs) (.agg (cs).toArray) rfl ?_)
    | (with_reducible refine wpList_allocs (o := ⟨some 8, .alloc 24, _, _, _, _⟩) rfl 24 rfl _ zero24 ?_; intro y2 hy2 my2 zy2; replace zy2 := Lib.hid zy2)
    | (with_reducible refine wpList_storesAll (o := ⟨none, .store 24 (.tmp 8) (.tmp 40), _, _, _, _⟩) rfl 24 (.tmp 8) (.tmp 40) rfl rfl wr.heap.size (cs) rfl (.agg (cs).toArray) rfl rfl 24 _ hy2 (zlen hcs) (hone) (size24' hcs) ?_
       intro u3 hu3 mu3 zu3
       clear zu3
       have q3 : Mod [] wr u3 := my2.trans mu3 (by intro i hi h; simp at h; omega)
       have hp3 := hpr.keep q3 (by simp)
       have m3 : Mod [p] w u3 := mr.then q3
       obtain ⟨b3, hb3⟩ : ∃ b, b = wr.heap.size := ⟨_, rfl⟩
       rw [← hb3] at hu3 ⊢
       clear hy2 my2 zy2 mu3 q3 hb3)
    | (with_reducible refine wpList_loads (o := ⟨some 41, .load 24 (.tmp 8), _, _, _, _⟩) rfl 24 (.tmp 8) rfl b3 (0) (cs) rfl (Cells.of_holds hu3) _ Tryd.underlying24 rfl (size24' hcs) (.agg (cs).toArray) rfl ?_)
    | (go_at_call 68
       refine (IH.out _ cs S (deep + 1) L p u3 (HR.out.2.2.1 _ (List.getElem_mem _)) (HT.out.1.keep m3 (fun i hi h => by simp at h; subst h; exact HR.out.2.2.2 hi)) HR.out.2.2.2 hp3 hL0 hL1 (by omega) (by omega)).mono ?_
       rintro e w5 ⟨b, L', rfl, hp5, hb, hL', m5⟩
       have m6 := m3.trans m5 (by simp)
       clear m3 m5 hp3 hu3))
  · go_ret
    exact ⟨true, L', rfl, hp5, (fun h => by cases h), hL', m6⟩
  · exact ⟨⟨j + 1, L', by go_num, by omega, hp5, hb (by first | assumption | simpa using ‹¬ b = true›), hL', m6⟩, by simp [intOf]; omega⟩
theorem large_all : ∀ m, LargeAll m
  | 0, t, _, _, _, _, _, _, h, _, _, _, _, _, _, _ => by have := Tm.depth_pos t; omega
  | m + 1, .mk k u n s l, cs, S, deep, left, p, w, h, hT, hS, hp, hl0, hl1, hd0, hd1 => by
    obtain ⟨A, c, vs, rfl, hr, hlc, hcm, hlm, hs⟩ := hT.row
    rw [Tm.depth] at h
    by_cases h1 : left < 1
    · exact large_1 k u n s A l.length c deep left p w hp hl0 hl1 hd0 hd1 h1
    by_cases h2 : 80 < deep
    · exact large_2 k u n s A l.length c deep left p w hp hl0 hl1 hd0 hd1 (by omega) h2
    by_cases h3 : 1000 < s.size
    · exact large_3 k u n s A l.length c deep left p w hp hl0 hl1 hd0 hd1 (by omega) (by omega) h3
    by_cases h4 : 10 < l.length
    · exact large_4 k u n s A l.length c deep left p w hp hl0 hl1 hd0 hd1 (by omega) (by omega) (by omega) h4
    exact large_5 m (large_all m) k u n s A l.length c l vs S deep left p w rfl hr (fun t ht => by have := Tm.mem_depth ht; omega) hS hp hl0 hl1 hd0 hd1 (by omega) (by omega) (by omega) (by omega)
set_option maxRecDepth 1000000 in
set_option maxHeartbeats 4000000 in
theorem over_c (t : Tm) (cs : List Value) (hi : Nat) (w : World) (hT : TIs w (Btw 0 hi) t cs) (hhi : hi ≤ w.heap.size) : Calls Tryd.prog 43 #[.agg cs.toArray] w fun e w' => ∃ b, e = .returned (.bool b) ∧ Mod [] w w' := by
  have hcs := hT.len
  have hone := hT.one
  go_enter Tryd.func43, Tryd.ntmps43
  go_wp2_with (first
    | (with_reducible refine wpList_boxes (o := ⟨some 1, .box 24 (.tmp 0), _, _, _, _⟩) rfl 24 (.tmp 0) rfl _ rfl (cs) rfl ?_; intro w1 hb1 m1 z1; replace z1 := Lib.hid z1
       have hlt := hb1.lt
       obtain ⟨b1, hq1⟩ : ∃ b, b = w.heap.size := ⟨_, rfl⟩
       have hb2 : Cells (w1.alloc (.cells #[.int .i64 1500] 3)) (some ⟨b1, 0, none⟩) cs := Cells.of_holds (by rw [hq1]; exact hb1.keep (Mod.alloc [] w1 _) (by simp))
       have hp : Holds (w1.alloc (.cells #[.int .i64 1500] 3)) w1.heap.size 3 [.int .i64 1500] := Holds.made w1 3 [.int .i64 1500]
       have mm : Mod [] w (w1.alloc (.cells #[.int .i64 1500] 3)) := m1.then (Mod.alloc [] w1 _)
       have hT2 := hT.keep mm (by simp)
       have hns : ¬ Btw 0 hi w1.heap.size := fun h => by have := m1.size; have := h.2; omega
       rw [← hq1]
       have HP := Lib.hid (And.intro hp (And.intro mm (And.intro hT2 (And.intro hns m1.size))))
       clear hb1 z1 hq1 hp mm hT2 m1 hns hlt)
    | (with_reducible refine wpList_loads (o := ⟨some 4, .load 24 (.tmp 1), _, _, _, _⟩) rfl 24 (.tmp 1) rfl b1 (0) (cs) rfl (hb2) _ Tryd.underlying24 rfl (size24' hcs) (.agg (cs).toArray) rfl ?_)
    | (go_at_call 68
       refine (large_all _ t cs _ 1 1500 w1.heap.size _ (Nat.le_refl _) HP.out.2.2.1 HP.out.2.2.2.1 HP.out.1 (by omega) (by omega) (by omega) (by omega)).mono ?_
       rintro e w5 ⟨b, L', rfl, hp5, hb, hL', m5⟩))
  go_ret
  exact ⟨b, rfl, far_mod HP.out.2.1 m5 (fun i hi => by simp at hi; subst hi; exact HP.out.2.2.2.2)⟩

end R9
end Go.Proofs.YtchanildogjhgaaDoor
