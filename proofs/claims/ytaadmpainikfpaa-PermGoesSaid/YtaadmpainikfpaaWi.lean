/-
  Permissions as a thing that stands; New, MayWrite (the program's, the document's). My own work.
-/
import Derived.Test.YtaadmpainikfpaaWh
namespace Go.Proofs.Ytaadmpainikfpaa
open Go.RowKit Go.Shelf
attribute [local go_sem] Oper.semAt_some
set_option linter.unusedVariables false
set_option linter.unusedSimpArgs false
abbrev Btw (a b : Nat) : Nat → Prop := fun g => a ≤ g ∧ g < b
abbrev pmc (p : Pm) (A1 : Option Addr) (c1 : Nat) (A2 : Option Addr) (c2 : Nat) (A3 : Option Addr) (c3 : Nat) : List Value := [ci p.own, ci p.ep, .slice A1 p.rd.length c1, .slice A2 p.wr.length c2, .slice A3 p.gp.length c3]
def In' (S : Nat → Prop) (A : Option Addr) (l : List Int) : Prop := ∀ a, A = some a → l ≠ [] → S a.block
structure PAt (w : World) (S : Nat → Prop) (p : Pm) (A1 : Option Addr) (c1 : Nat) (A2 : Option Addr) (c2 : Nat) (A3 : Option Addr) (c3 : Nat) : Prop where
  rr : RI w A1 p.rd.length c1 p.rd
  ww : RI w A2 p.wr.length c2 p.wr
  gg : RI w A3 p.gp.length c3 p.gp
  s1 : In' S A1 p.rd
  s2 : In' S A2 p.wr
  s3 : In' S A3 p.gp
def PIs (w : World) (S : Nat → Prop) (p : Pm) (cs : List Value) : Prop := ∃ A1 c1 A2 c2 A3 c3, cs = pmc p A1 c1 A2 c2 A3 c3 ∧ PAt w S p A1 c1 A2 c2 A3 c3
theorem PIs.keep {w v : World} {S : Nat → Prop} {p : Pm} {cs : List Value} {ms : List Nat} (h : PIs w S p cs) (m : Mod ms w v) (hs : ∀ g, S g → g ∉ ms) : PIs v S p cs := by
  obtain ⟨A1, c1, A2, c2, A3, c3, rfl, h⟩ := h
  exact ⟨A1, c1, A2, c2, A3, c3, rfl, h.rr.keep m fun a ha hl => hs _ (h.s1 a ha hl), h.ww.keep m fun a ha hl => hs _ (h.s2 a ha hl), h.gg.keep m fun a ha hl => hs _ (h.s3 a ha hl), h.s1, h.s2, h.s3⟩
theorem PIs.call {w v : World} {S : Nat → Prop} {p : Pm} {cs : List Value} (h : PIs w S p cs) (m : Mod [] w v) : PIs v S p cs := h.keep m fun _ _ => by simp
theorem PIs.len {w : World} {S : Nat → Prop} {p : Pm} {cs : List Value} (h : PIs w S p cs) : cs.length = 5 := by obtain ⟨A1, c1, A2, c2, A3, c3, rfl, h⟩ := h; rfl
theorem PIs.one {w : World} {S : Nat → Prop} {p : Pm} {cs : List Value} (h : PIs w S p cs) : ∀ v ∈ cs, v.oneCell' = true := by
  obtain ⟨A1, c1, A2, c2, A3, c3, rfl, h⟩ := h
  intro v hv
  simp only [pmc, List.mem_cons, List.not_mem_nil, or_false] at hv
  rcases hv with rfl | rfl | rfl | rfl | rfl <;> rfl
theorem RI.none (w : World) : RI w none 0 0 [] := ⟨rfl, Nat.le_refl _, by omega, Cells.nil _ _⟩
theorem PIs.bare (w : World) (S : Nat → Prop) (o e : Int) : PIs w S ⟨o, e, [], [], []⟩ [ci o, ci e, .slice none 0 0, .slice none 0 0, .slice none 0 0] :=
  ⟨none, 0, none, 0, none, 0, rfl, RI.none w, RI.none w, RI.none w, fun a h => (by cases h), fun a h => (by cases h), fun a h => (by cases h)⟩
theorem PIs.zero (w : World) (S : Nat → Prop) : PIs w S zp zpm := PIs.bare w S 0 0
/-- Permissions that stand. -/
def tP (S : Nat → Prop) (p : Pm) (cs : List Value) : Th := (S, fun w => PIs w S p cs)
theorem keeps_tP (S : Nat → Prop) (p : Pm) (cs : List Value) : keeps (tP S p cs) := fun w v ms m h hw => PIs.keep hw m h
/-- Permissions that are told, and an error. -/
def ResR (r : Int × Pm) (w : World) (e : Ending) (w' : World) : Prop := ∃ cs, e = .returned (.tuple #[.agg cs.toArray, .int .i64 r.1]) ∧ PIs w' (Btw w.heap.size w'.heap.size) r.2 cs ∧ Mod [] w w'
theorem check_p {w : World} {S : Nat → Prop} {p : Pm} {cs : List Value} (h : PIs w S p cs) (b : Bool) (hb : Hid (p.rightB = b)) : Calls Try.prog 15 #[.agg cs.toArray] w fun r w' => r = .returned (.int .i64 (if b = true then 0 else 210)) ∧ Mod [] w w' := by
  obtain ⟨A1, c1, A2, c2, A3, c3, rfl, h⟩ := h
  exact check_c p.own p.ep A1 A2 A3 _ c1 _ c2 _ c3 p.rd p.wr p.gp b w h.rr h.ww h.gg hb
theorem right_p {w : World} {S : Nat → Prop} {p : Pm} {cs : List Value} (h : PIs w S p cs) (b : Bool) (hb : Hid (p.rightB = b)) : Calls Try.prog 16 #[.agg cs.toArray] w fun r w' => r = .returned (.bool b) ∧ Mod [] w w' := by
  obtain ⟨A1, c1, A2, c2, A3, c3, rfl, h⟩ := h
  exact right_c p.own p.ep A1 A2 A3 _ c1 _ c2 _ c3 p.rd p.wr p.gp b w h.rr h.ww h.gg (Lib.hid (by rw [← hb.out]; exact Pm.rightR_eq p))
theorem psame_p {w : World} {S T : Nat → Prop} {p q : Pm} {cs ds : List Value} (h : PIs w S p cs) (k : PIs w T q ds) (b : Bool) (hb : Hid (sameB p q = b)) : Calls Try.prog 17 #[.agg cs.toArray, .agg ds.toArray] w fun r w' => r = .returned (.bool b) ∧ Mod [] w w' := by
  obtain ⟨A1, c1, A2, c2, A3, c3, rfl, h⟩ := h
  obtain ⟨B1, d1, B2, d2, B3, d3, rfl, k⟩ := k
  exact psame_c p.own p.ep q.own q.ep A1 A2 A3 B1 B2 B3 _ c1 _ c2 _ c3 _ d1 _ d2 _ d3 p.rd p.wr p.gp q.rd q.wr q.gp b w h.rr h.ww h.gg k.rr k.ww k.gg hb
theorem rsame_p {w : World} {S T : Nat → Prop} {p q : Pm} {cs ds : List Value} (h : PIs w S p cs) (k : PIs w T q ds) (b : Bool) (hb : Hid (sameB p q = b)) : Calls Try.prog 13 #[.agg cs.toArray, .agg ds.toArray] w fun r w' => r = .returned (.bool b) ∧ Mod [] w w' := by
  obtain ⟨A1, c1, A2, c2, A3, c3, rfl, h⟩ := h
  obtain ⟨B1, d1, B2, d2, B3, d3, rfl, k⟩ := k
  exact rsame_c p.own p.ep q.own q.ep A1 A2 A3 B1 B2 B3 _ c1 _ c2 _ c3 _ d1 _ d2 _ d3 p.rd p.wr p.gp q.rd q.wr q.gp b w h.rr h.ww h.gg k.rr k.ww k.gg hb
/-- New. -/
def newR (x : Int) : Int × Pm := if upTo x 6 = true then (0, ⟨x, 1, [], [], []⟩) else (2, zp)
theorem new_c (x : Int) (w : World) : Calls Try.prog 14 #[ci x] w (ResR (newR x) w) := by
  obtain ⟨u, hu⟩ : ∃ u, upTo x 6 = u := ⟨_, rfl⟩
  have hr : newR x = if u = true then (0, ⟨x, 1, [], [], []⟩) else (2, zp) := by rw [newR, hu]
  rw [hr]
  have HU := Lib.hid hu
  clear hu hr
  have F0 := Fm.nil w
  cases u
  · rw [if_neg (by simp)]
    go_enter Try.func14, Try.ntmps14
    go_wp2_with (first
      | (with_reducible refine fm_alloc F0 (o := ⟨some 2, .alloc 24, _, _, _, _⟩) rfl 24 rfl _ zero24 ?_; intro b1 w1 F1; clear F0)
      | (go_at_call 30; refine (isUser_c x _ HU _).mono ?_; rintro r w' ⟨rfl, rfl⟩)
      | (with_reducible refine fm_store F1 0 rfl (o := ⟨none, .store 24 (.tmp 2) (.tmp 7), _, _, _, _⟩) rfl (.tmp 2) (.tmp 7) rfl rfl zpm rfl rfl rfl rfl (PIs.one (PIs.zero w (fun _ => True))) ?_; intro w2 F2; clear F1))
    refine bodyPost_ret (results_ct rfl _ _ b1 _ (.int .i64 2) rfl rfl (F2.ret 0 rfl) rfl) rfl ?_
    exact ⟨zpm, rfl, PIs.zero _ _, F2.m⟩
  · rw [if_pos rfl]
    go_enter Try.func14, Try.ntmps14
    go_wp2_with (first
      | (with_reducible refine fm_alloc F0 (o := ⟨some 2, .alloc 24, _, _, _, _⟩) rfl 24 rfl _ zero24 ?_; intro b1 w1 F1; clear F0)
      | (go_at_call 30; refine (isUser_c x _ HU _).mono ?_; rintro r w' ⟨rfl, rfl⟩)
      | (with_reducible refine fm_store F1 0 rfl (o := ⟨none, .store 24 (.tmp 2) (.tmp 9), _, _, _, _⟩) rfl (.tmp 2) (.tmp 9) rfl rfl [ci x, ci 1, .slice none 0 0, .slice none 0 0, .slice none 0 0] rfl rfl rfl rfl (PIs.one (PIs.bare w (fun _ => True) x 1)) ?_; intro w2 F2; clear F1))
    refine bodyPost_ret (results_ct rfl _ _ b1 _ (.int .i64 0) rfl rfl (F2.ret 0 rfl) rfl) rfl ?_
    exact ⟨_, rfl, PIs.bare _ _ _ _, F2.m⟩
/-- May they write? -/
def Pm.mayW (p : Pm) (u : Int) : Bool := p.rightB && ((u == p.own) || p.wr.contains u)

set_option maxHeartbeats 4000000 in
theorem mayW_p {w : World} {S : Nat → Prop} {p : Pm} {cs : List Value} (h : PIs w S p cs) (hS : ∀ g, S g → g < w.heap.size) (u : Int) (b : Bool) (hb : Hid (p.mayW u = b)) : Calls Try.prog 18 #[.agg cs.toArray, ci u] w fun r w' => r = .returned (.bool b) ∧ Mod [] w w' := by
  have hr := hb.out
  rw [Pm.mayW] at hr
  clear hb
  have F0 := (Fm.nil w).arg (tP S p cs) (keeps_tP _ _ _) h hS
  obtain ⟨A1, c1, A2, c2, A3, c3, rfl, h⟩ := h
  obtain ⟨o, e, l1, l2, l3⟩ := p
  obtain ⟨n1, hn1⟩ : ∃ n, n = l1.length := ⟨_, rfl⟩
  obtain ⟨n2, hn2⟩ : ∃ n, n = l2.length := ⟨_, rfl⟩
  obtain ⟨n3, hn3⟩ : ∃ n, n = l3.length := ⟨_, rfl⟩
  obtain ⟨ds, hds⟩ : ∃ ds, ds = [ci o, ci e, .slice A1 n1 c1, .slice A2 n2 c2, .slice A3 n3 c3] := ⟨_, rfl⟩
  have hcs : pmc ⟨o, e, l1, l2, l3⟩ A1 c1 A2 c2 A3 c3 = ds := by rw [hds, hn1, hn2, hn3]
  rw [hcs] at F0 ⊢
  have HW := Lib.hid (hn2 ▸ h.ww : RI w A2 n2 c2 l2)
  simp only at hr
  clear hcs hn1 hn2 hn3 h
  obtain ⟨b1, hb1⟩ : ∃ x, (Pm.mk o e l1 l2 l3).rightB = x := ⟨_, rfl⟩
  obtain ⟨b3, hb3⟩ : ∃ x, l2.contains u = x := ⟨_, rfl⟩
  rw [hb1, hb3] at hr
  have B1 := Lib.hid hb1
  have B3 := Lib.hid hb3
  have HD := Lib.hid hds
  clear hb1 hb3 hds
  cases b1
  case false =>
    obtain rfl : false = b := by rw [← hr]; first | rfl | simp
    clear hr
    go_enter Try.func18, Try.ntmps18
    go_wp2_with (first
      | (with_reducible refine fm_box F0 (o := ⟨some 2, .box 24 (.tmp 0), _, _, _, _⟩) rfl 24 (.tmp 0) rfl ds rfl ?_; intro b1 w1 F1; clear F0)
      | (with_reducible refine fm_load F1 0 rfl (o := ⟨some 5, .load 24 (.tmp 2), _, _, _, _⟩) rfl (.tmp 2) rfl rfl (PIs.len (F1.s 0 rfl)) ?_)
      | (go_at_call 15; refine (check_p (F1.s 0 rfl) _ B1).mono ?_
         rintro r w2 ⟨rfl, m2⟩
         have F2 := F1.call m2
         obtain ⟨q0, q1, q2, q3, q4⟩ := cells5 (HD.out ▸ F2.blk 0 rfl : Holds w2 b1 24 [ci o, ci e, .slice A1 n1 c1, .slice A2 n2 c2, .slice A3 n3 c3])
         clear F1 m2)
      | (go_at_call 33; refine (contains_c A2 n2 c2 l2 u _ _ (HW.out.call F2.m) B3).mono ?_; rintro r w' ⟨rfl, rfl⟩))
    go_ret
    exact ⟨rfl, F2.m⟩
  by_cases g : u = o
  case pos =>
    have e1 : (u == o) = true := beq_iff_eq.2 g
    rw [e1] at hr
    clear g
    obtain rfl : true = b := by rw [← hr]; first | rfl | simp
    clear hr
    go_enter Try.func18, Try.ntmps18
    go_wp2_with (first
      | (with_reducible refine fm_box F0 (o := ⟨some 2, .box 24 (.tmp 0), _, _, _, _⟩) rfl 24 (.tmp 0) rfl ds rfl ?_; intro b1 w1 F1; clear F0)
      | (with_reducible refine fm_load F1 0 rfl (o := ⟨some 5, .load 24 (.tmp 2), _, _, _, _⟩) rfl (.tmp 2) rfl rfl (PIs.len (F1.s 0 rfl)) ?_)
      | (go_at_call 15; refine (check_p (F1.s 0 rfl) _ B1).mono ?_
         rintro r w2 ⟨rfl, m2⟩
         have F2 := F1.call m2
         obtain ⟨q0, q1, q2, q3, q4⟩ := cells5 (HD.out ▸ F2.blk 0 rfl : Holds w2 b1 24 [ci o, ci e, .slice A1 n1 c1, .slice A2 n2 c2, .slice A3 n3 c3])
         clear F1 m2)
      | (go_at_call 33; refine (contains_c A2 n2 c2 l2 u _ _ (HW.out.call F2.m) B3).mono ?_; rintro r w' ⟨rfl, rfl⟩))
    go_ret
    exact ⟨rfl, F2.m⟩
  have e1 : (u == o) = false := beq_eq_false_iff_ne.2 g
  rw [e1] at hr
  clear g
  cases b3
  case false =>
    obtain rfl : false = b := by rw [← hr]; first | rfl | simp
    clear hr
    go_enter Try.func18, Try.ntmps18
    go_wp2_with (first
      | (with_reducible refine fm_box F0 (o := ⟨some 2, .box 24 (.tmp 0), _, _, _, _⟩) rfl 24 (.tmp 0) rfl ds rfl ?_; intro b1 w1 F1; clear F0)
      | (with_reducible refine fm_load F1 0 rfl (o := ⟨some 5, .load 24 (.tmp 2), _, _, _, _⟩) rfl (.tmp 2) rfl rfl (PIs.len (F1.s 0 rfl)) ?_)
      | (go_at_call 15; refine (check_p (F1.s 0 rfl) _ B1).mono ?_
         rintro r w2 ⟨rfl, m2⟩
         have F2 := F1.call m2
         obtain ⟨q0, q1, q2, q3, q4⟩ := cells5 (HD.out ▸ F2.blk 0 rfl : Holds w2 b1 24 [ci o, ci e, .slice A1 n1 c1, .slice A2 n2 c2, .slice A3 n3 c3])
         clear F1 m2)
      | (go_at_call 33; refine (contains_c A2 n2 c2 l2 u _ _ (HW.out.call F2.m) B3).mono ?_; rintro r w' ⟨rfl, rfl⟩))
    go_ret
    exact ⟨rfl, F2.m⟩
  case true =>
    obtain rfl : true = b := by rw [← hr]; first | rfl | simp
    clear hr
    go_enter Try.func18, Try.ntmps18
    go_wp2_with (first
      | (with_reducible refine fm_box F0 (o := ⟨some 2, .box 24 (.tmp 0), _, _, _, _⟩) rfl 24 (.tmp 0) rfl ds rfl ?_; intro b1 w1 F1; clear F0)
      | (with_reducible refine fm_load F1 0 rfl (o := ⟨some 5, .load 24 (.tmp 2), _, _, _, _⟩) rfl (.tmp 2) rfl rfl (PIs.len (F1.s 0 rfl)) ?_)
      | (go_at_call 15; refine (check_p (F1.s 0 rfl) _ B1).mono ?_
         rintro r w2 ⟨rfl, m2⟩
         have F2 := F1.call m2
         obtain ⟨q0, q1, q2, q3, q4⟩ := cells5 (HD.out ▸ F2.blk 0 rfl : Holds w2 b1 24 [ci o, ci e, .slice A1 n1 c1, .slice A2 n2 c2, .slice A3 n3 c3])
         clear F1 m2)
      | (go_at_call 33; refine (contains_c A2 n2 c2 l2 u _ _ (HW.out.call F2.m) B3).mono ?_; rintro r w' ⟨rfl, rfl⟩))
    go_ret
    exact ⟨rfl, F2.m⟩
set_option maxHeartbeats 4000000 in
theorem rmayW_p {w : World} {S : Nat → Prop} {p : Pm} {cs : List Value} (h : PIs w S p cs) (hS : ∀ g, S g → g < w.heap.size) (u : Int) (b : Bool) (hb : Hid (p.mayW u = b)) : Calls Try.prog 19 #[.agg cs.toArray, ci u] w fun r w' => r = .returned (.bool b) ∧ Mod [] w w' := by
  have hr := hb.out
  rw [Pm.mayW] at hr
  clear hb
  have F0 := (Fm.nil w).arg (tP S p cs) (keeps_tP _ _ _) h hS
  obtain ⟨A1, c1, A2, c2, A3, c3, rfl, h⟩ := h
  obtain ⟨o, e, l1, l2, l3⟩ := p
  obtain ⟨n1, hn1⟩ : ∃ n, n = l1.length := ⟨_, rfl⟩
  obtain ⟨n2, hn2⟩ : ∃ n, n = l2.length := ⟨_, rfl⟩
  obtain ⟨n3, hn3⟩ : ∃ n, n = l3.length := ⟨_, rfl⟩
  obtain ⟨ds, hds⟩ : ∃ ds, ds = [ci o, ci e, .slice A1 n1 c1, .slice A2 n2 c2, .slice A3 n3 c3] := ⟨_, rfl⟩
  have hcs : pmc ⟨o, e, l1, l2, l3⟩ A1 c1 A2 c2 A3 c3 = ds := by rw [hds, hn1, hn2, hn3]
  rw [hcs] at F0 ⊢
  have HW := Lib.hid (hn2 ▸ h.ww : RI w A2 n2 c2 l2)
  simp only at hr
  clear hcs hn1 hn2 hn3 h
  obtain ⟨b1, hb1⟩ : ∃ x, (Pm.mk o e l1 l2 l3).rightB = x := ⟨_, rfl⟩
  obtain ⟨b3, hb3⟩ : ∃ x, l2.contains u = x := ⟨_, rfl⟩
  rw [hb1, hb3] at hr
  have B1 := Lib.hid hb1
  have B3 := Lib.hid hb3
  have HD := Lib.hid hds
  clear hb1 hb3 hds
  cases b1
  case false =>
    obtain rfl : false = b := by rw [← hr]; first | rfl | simp
    clear hr
    go_enter Try.func19, Try.ntmps19
    go_wp2_with (first
      | (with_reducible refine fm_box F0 (o := ⟨some 2, .box 24 (.tmp 0), _, _, _, _⟩) rfl 24 (.tmp 0) rfl ds rfl ?_; intro b1 w1 F1; clear F0)
      | (with_reducible refine fm_load F1 0 rfl (o := ⟨some 5, .load 24 (.tmp 2), _, _, _, _⟩) rfl (.tmp 2) rfl rfl (PIs.len (F1.s 0 rfl)) ?_)
      | (go_at_call 16; refine (right_p (F1.s 0 rfl) _ B1).mono ?_
         rintro r w2 ⟨rfl, m2⟩
         have F2 := F1.call m2
         obtain ⟨q0, q1, q2, q3, q4⟩ := cells5 (HD.out ▸ F2.blk 0 rfl : Holds w2 b1 24 [ci o, ci e, .slice A1 n1 c1, .slice A2 n2 c2, .slice A3 n3 c3])
         clear F1 m2)
      | (go_at_call 28; refine (in_c A2 n2 c2 l2 u _ _ (HW.out.call F2.m) B3).mono ?_; rintro r w' ⟨rfl, rfl⟩))
    go_ret
    exact ⟨rfl, F2.m⟩
  by_cases g : u = o
  case pos =>
    have e1 : (u == o) = true := beq_iff_eq.2 g
    rw [e1] at hr
    clear g
    obtain rfl : true = b := by rw [← hr]; first | rfl | simp
    clear hr
    go_enter Try.func19, Try.ntmps19
    go_wp2_with (first
      | (with_reducible refine fm_box F0 (o := ⟨some 2, .box 24 (.tmp 0), _, _, _, _⟩) rfl 24 (.tmp 0) rfl ds rfl ?_; intro b1 w1 F1; clear F0)
      | (with_reducible refine fm_load F1 0 rfl (o := ⟨some 5, .load 24 (.tmp 2), _, _, _, _⟩) rfl (.tmp 2) rfl rfl (PIs.len (F1.s 0 rfl)) ?_)
      | (go_at_call 16; refine (right_p (F1.s 0 rfl) _ B1).mono ?_
         rintro r w2 ⟨rfl, m2⟩
         have F2 := F1.call m2
         obtain ⟨q0, q1, q2, q3, q4⟩ := cells5 (HD.out ▸ F2.blk 0 rfl : Holds w2 b1 24 [ci o, ci e, .slice A1 n1 c1, .slice A2 n2 c2, .slice A3 n3 c3])
         clear F1 m2)
      | (go_at_call 28; refine (in_c A2 n2 c2 l2 u _ _ (HW.out.call F2.m) B3).mono ?_; rintro r w' ⟨rfl, rfl⟩))
    go_ret
    exact ⟨rfl, F2.m⟩
  have e1 : (u == o) = false := beq_eq_false_iff_ne.2 g
  rw [e1] at hr
  clear g
  cases b3
  case false =>
    obtain rfl : false = b := by rw [← hr]; first | rfl | simp
    clear hr
    go_enter Try.func19, Try.ntmps19
    go_wp2_with (first
      | (with_reducible refine fm_box F0 (o := ⟨some 2, .box 24 (.tmp 0), _, _, _, _⟩) rfl 24 (.tmp 0) rfl ds rfl ?_; intro b1 w1 F1; clear F0)
      | (with_reducible refine fm_load F1 0 rfl (o := ⟨some 5, .load 24 (.tmp 2), _, _, _, _⟩) rfl (.tmp 2) rfl rfl (PIs.len (F1.s 0 rfl)) ?_)
      | (go_at_call 16; refine (right_p (F1.s 0 rfl) _ B1).mono ?_
         rintro r w2 ⟨rfl, m2⟩
         have F2 := F1.call m2
         obtain ⟨q0, q1, q2, q3, q4⟩ := cells5 (HD.out ▸ F2.blk 0 rfl : Holds w2 b1 24 [ci o, ci e, .slice A1 n1 c1, .slice A2 n2 c2, .slice A3 n3 c3])
         clear F1 m2)
      | (go_at_call 28; refine (in_c A2 n2 c2 l2 u _ _ (HW.out.call F2.m) B3).mono ?_; rintro r w' ⟨rfl, rfl⟩))
    go_ret
    exact ⟨rfl, F2.m⟩
  case true =>
    obtain rfl : true = b := by rw [← hr]; first | rfl | simp
    clear hr
    go_enter Try.func19, Try.ntmps19
    go_wp2_with (first
      | (with_reducible refine fm_box F0 (o := ⟨some 2, .box 24 (.tmp 0), _, _, _, _⟩) rfl 24 (.tmp 0) rfl ds rfl ?_; intro b1 w1 F1; clear F0)
      | (with_reducible refine fm_load F1 0 rfl (o := ⟨some 5, .load 24 (.tmp 2), _, _, _, _⟩) rfl (.tmp 2) rfl rfl (PIs.len (F1.s 0 rfl)) ?_)
      | (go_at_call 16; refine (right_p (F1.s 0 rfl) _ B1).mono ?_
         rintro r w2 ⟨rfl, m2⟩
         have F2 := F1.call m2
         obtain ⟨q0, q1, q2, q3, q4⟩ := cells5 (HD.out ▸ F2.blk 0 rfl : Holds w2 b1 24 [ci o, ci e, .slice A1 n1 c1, .slice A2 n2 c2, .slice A3 n3 c3])
         clear F1 m2)
      | (go_at_call 28; refine (in_c A2 n2 c2 l2 u _ _ (HW.out.call F2.m) B3).mono ?_; rintro r w' ⟨rfl, rfl⟩))
    go_ret
    exact ⟨rfl, F2.m⟩
end Go.Proofs.Ytaadmpainikfpaa
