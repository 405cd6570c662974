/-
  Change: the document's. My own work.
-/
import Derived.Test.YtaadmpainikfpaaWs
namespace Go.Proofs.Ytaadmpainikfpaa
open Go.RowKit Go.Shelf
attribute [local go_sem] Oper.semAt_some
set_option linter.unusedVariables false
set_option linter.unusedSimpArgs false
theorem In'.none (S : Nat → Prop) (A : Option Addr) : In' S A [] := fun a _ h => absurd rfl h
theorem rowIn {w0 w : World} {os ts : List Th} (F : Fm w0 w os ts) {A : Option Addr} {c : Nat} {l : List Int} (h : oI A c l ∈ os) : RI w A l.length c l ∧ In' (Btw w0.heap.size w.heap.size) A l := by
  have hO : OI w A c l := (F.k _ (.inl h)).2.1
  refine ⟨hO.ri _ rfl, fun a ha _ => ⟨F.lo _ h a.block (by rw [ha]; exact blk_of), hO.lt a ha⟩⟩
abbrev TS (S : Nat → Prop) (w w' : World) : Nat → Prop := fun g => S g ∨ (w.heap.size ≤ g ∧ g < w'.heap.size)
theorem In'.inl {S T : Nat → Prop} {A : Option Addr} {l : List Int} (h : In' S A l) (hs : ∀ g, S g → T g) : In' T A l := fun a ha hl => hs _ (h a ha hl)
abbrev X22 := (Option Addr × Nat) × (Option Addr × Nat)
def stage4 (l3 l7 l9 l11 : Bool) : Nat := if l11 then 4 else if l9 then 3 else if l7 then 2 else if l3 then 1 else 0
def chOs (base : List Th) (b4 : Nat) (o e : Int) (k1 k2 : List Int) (S1 S2 S3 : Value) (x : X22) : Nat → List Th
  | 0 => base ++ [oB b4 24 [ci o, ci e, S1, S2, S3]]
  | 1 => oI x.1.1 x.1.2 k1 :: (base ++ [oB b4 24 [ci o, ci e, S1, S2, S3]])
  | 2 => oI x.2.1 x.2.2 k2 :: oI x.1.1 x.1.2 k1 :: (base ++ [oB b4 24 [ci o, ci e, S1, S2, S3]])
  | 3 => oI x.2.1 x.2.2 k2 :: oI x.1.1 x.1.2 k1 :: (base ++ [oB b4 24 [ci o, ci e, .slice x.1.1 k1.length x.1.2, S2, S3]])
  | _ => oI x.2.1 x.2.2 k2 :: oI x.1.1 x.1.2 k1 :: (base ++ [oB b4 24 [ci o, ci e, .slice x.1.1 k1.length x.1.2, .slice x.2.1 k2.length x.2.2, S3]])

set_option maxRecDepth 100000 in
set_option maxHeartbeats 8000000 in
theorem rchange0_p {w : World} {S : Nat → Prop} {p : Pm} {cs : List Value} (h : PIs w S p cs) (hS : ∀ g, S g → g < w.heap.size) (by_ who : Int) : Calls Try.prog 11 #[.agg cs.toArray, ci 0, ci by_, ci who] w (ResS S (chg 0 p by_ who) w) := by
  have FA := (Fm.nil w).arg (tP S p cs) (keeps_tP _ _ _) h hS
  have HPI := Lib.hid h
  obtain ⟨A1, c1, A2, c2, A3, c3, rfl, h⟩ := h
  obtain ⟨o, e, l1, l2, l3⟩ := p
  have H1 := Lib.hid h.rr
  have H2 := Lib.hid h.ww
  have H3 := Lib.hid h.gg
  have J1 := Lib.hid h.s1
  have J2 := Lib.hid h.s2
  have J3 := Lib.hid h.s3
  simp only [pmc] at FA HPI H1 H2 H3 J1 J2 J3 ⊢
  have HS := Lib.hid hS
  clear h hS
  obtain ⟨r, hr⟩ : ∃ r, chg 0 ⟨o, e, l1, l2, l3⟩ by_ who = r := ⟨_, rfl⟩
  rw [hr]
  obtain ⟨rb, hrb⟩ : ∃ x, (Pm.mk o e l1 l2 l3).rightB = x := ⟨_, rfl⟩
  have HB := Lib.hid hrb
  obtain ⟨ib, hib⟩ : ∃ x, l1.contains who = x := ⟨_, rfl⟩
  have HIN := Lib.hid hib
  cases rb
  case false =>
    obtain rfl : r = (210, zp) := by rw [← hr]; simp [chg, byOwner, hrb]
    clear hr hrb hib
    go_enter Try.func11, Try.ntmps11
    go_wp2_with (first
      | (with_reducible refine fm_box FA (o := ⟨some 4, .box 24 (.tmp 0), _, _, _, _⟩) rfl 24 (.tmp 0) rfl [ci o, ci e, .slice A1 l1.length c1, .slice A2 l2.length c2, .slice A3 l3.length c3] rfl ?_; intro b4 w1 F1; clear FA)
      | (with_reducible refine fm_alloc F1 (o := ⟨some 8, .alloc 24, _, _, _, _⟩) rfl 24 rfl _ zero24 ?_; intro b8 w2 F2; clear F1)
      | (with_reducible refine fm_alloc F2 (o := ⟨some 10, .alloc 24, _, _, _, _⟩) rfl 24 rfl _ zero24 ?_; intro b10 w3 F3; clear F2)
      | (with_reducible refine fm_store F3 0 rfl (o := ⟨none, .store 24 (.tmp 10) (.tmp 11), _, _, _, _⟩) rfl (.tmp 10) (.tmp 11) rfl rfl zpm rfl rfl rfl rfl (PIs.one (PIs.zero w (fun _ => True))) ?_; intro w4 F4; clear F3)
      | (with_reducible refine fm_load F4 2 rfl (o := ⟨some 12, .load 24 (.tmp 4), _, _, _, _⟩) rfl (.tmp 4) rfl rfl rfl ?_)
      | (go_at_call 16; refine (right_p (HPI.out.call F4.m) _ HB).mono ?_
         rintro r w5 ⟨rfl, m5⟩
         have F5 := F4.call m5
         obtain ⟨q0, q1, q2, q3, q4⟩ := cells5 (F5.blk 2 rfl)
         clear F4 m5)
      | (go_at_call 28; refine (in_c A1 l1.length c1 l1 who _ _ (H1.out.call F5.m) HIN).mono ?_; rintro r w' ⟨rfl, rfl⟩)
      | (with_reducible refine fm_load F5 0 rfl (o := ⟨some 15, .load 24 (.tmp 10), _, _, _, _⟩) rfl (.tmp 10) rfl rfl rfl ?_)
      | (with_reducible refine fm_store F5 1 rfl (o := ⟨none, .store 24 (.tmp 8) (.tmp 15), _, _, _, _⟩) rfl (.tmp 8) (.tmp 15) rfl rfl zpm rfl rfl rfl rfl (PIs.one (PIs.zero w (fun _ => True))) ?_; intro wz F6; clear F5))
    refine bodyPost_ret (results_ct rfl _ _ b8 _ (.int .i64 210) rfl rfl (F6.ret 1 rfl) rfl) rfl ?_
    exact ⟨zpm, fun _ => False, rfl, PIs.zero _ _, fun _ hg => hg.elim, F6.m⟩
  by_cases hby : by_ = o
  case neg =>
    have e1 : (by_ == o) = false := beq_eq_false_iff_ne.2 hby
    have e2 : (by_ != o) = true := by simp [hby]
    obtain rfl : r = (211, zp) := by rw [← hr]; simp [chg, byOwner, hrb, hby]
    clear hr hrb hib hby
    go_enter Try.func11, Try.ntmps11
    go_wp2_with (first
      | (with_reducible refine fm_box FA (o := ⟨some 4, .box 24 (.tmp 0), _, _, _, _⟩) rfl 24 (.tmp 0) rfl [ci o, ci e, .slice A1 l1.length c1, .slice A2 l2.length c2, .slice A3 l3.length c3] rfl ?_; intro b4 w1 F1; clear FA)
      | (with_reducible refine fm_alloc F1 (o := ⟨some 8, .alloc 24, _, _, _, _⟩) rfl 24 rfl _ zero24 ?_; intro b8 w2 F2; clear F1)
      | (with_reducible refine fm_alloc F2 (o := ⟨some 10, .alloc 24, _, _, _, _⟩) rfl 24 rfl _ zero24 ?_; intro b10 w3 F3; clear F2)
      | (with_reducible refine fm_store F3 0 rfl (o := ⟨none, .store 24 (.tmp 10) (.tmp 11), _, _, _, _⟩) rfl (.tmp 10) (.tmp 11) rfl rfl zpm rfl rfl rfl rfl (PIs.one (PIs.zero w (fun _ => True))) ?_; intro w4 F4; clear F3)
      | (with_reducible refine fm_load F4 2 rfl (o := ⟨some 12, .load 24 (.tmp 4), _, _, _, _⟩) rfl (.tmp 4) rfl rfl rfl ?_)
      | (go_at_call 16; refine (right_p (HPI.out.call F4.m) _ HB).mono ?_
         rintro r w5 ⟨rfl, m5⟩
         have F5 := F4.call m5
         obtain ⟨q0, q1, q2, q3, q4⟩ := cells5 (F5.blk 2 rfl)
         clear F4 m5)
      | (go_at_call 28; refine (in_c A1 l1.length c1 l1 who _ _ (H1.out.call F5.m) HIN).mono ?_; rintro r w' ⟨rfl, rfl⟩)
      | (with_reducible refine fm_load F5 0 rfl (o := ⟨some 26, .load 24 (.tmp 10), _, _, _, _⟩) rfl (.tmp 10) rfl rfl rfl ?_)
      | (with_reducible refine fm_store F5 1 rfl (o := ⟨none, .store 24 (.tmp 8) (.tmp 26), _, _, _, _⟩) rfl (.tmp 8) (.tmp 26) rfl rfl zpm rfl rfl rfl rfl (PIs.one (PIs.zero w (fun _ => True))) ?_; intro wz F6; clear F5))
    refine bodyPost_ret (results_ct rfl _ _ b8 _ (.int .i64 211) rfl rfl (F6.ret 1 rfl) rfl) rfl ?_
    exact ⟨zpm, fun _ => False, rfl, PIs.zero _ _, fun _ hg => hg.elim, F6.m⟩
  have e1 : (by_ == o) = true := beq_iff_eq.2 hby
  have e2 : (by_ != o) = false := by simp [hby]
  by_cases z1 : who < 1
  case pos =>
    have dz1 : decide (who < 1) = true := decide_eq_true z1
    obtain rfl : r = (2, zp) := by
      rw [← hr]
      have z : ¬ 1 ≤ who := by omega
      simp [chg, byOwner, hrb, hby, Pm.other, z]
    clear hr hrb hib hby z1
    go_enter Try.func11, Try.ntmps11
    go_wp2_with (first
      | (with_reducible refine fm_box FA (o := ⟨some 4, .box 24 (.tmp 0), _, _, _, _⟩) rfl 24 (.tmp 0) rfl [ci o, ci e, .slice A1 l1.length c1, .slice A2 l2.length c2, .slice A3 l3.length c3] rfl ?_; intro b4 w1 F1; clear FA)
      | (with_reducible refine fm_alloc F1 (o := ⟨some 8, .alloc 24, _, _, _, _⟩) rfl 24 rfl _ zero24 ?_; intro b8 w2 F2; clear F1)
      | (with_reducible refine fm_alloc F2 (o := ⟨some 10, .alloc 24, _, _, _, _⟩) rfl 24 rfl _ zero24 ?_; intro b10 w3 F3; clear F2)
      | (with_reducible refine fm_store F3 0 rfl (o := ⟨none, .store 24 (.tmp 10) (.tmp 11), _, _, _, _⟩) rfl (.tmp 10) (.tmp 11) rfl rfl zpm rfl rfl rfl rfl (PIs.one (PIs.zero w (fun _ => True))) ?_; intro w4 F4; clear F3)
      | (with_reducible refine fm_load F4 2 rfl (o := ⟨some 12, .load 24 (.tmp 4), _, _, _, _⟩) rfl (.tmp 4) rfl rfl rfl ?_)
      | (go_at_call 16; refine (right_p (HPI.out.call F4.m) _ HB).mono ?_
         rintro r w5 ⟨rfl, m5⟩
         have F5 := F4.call m5
         obtain ⟨q0, q1, q2, q3, q4⟩ := cells5 (F5.blk 2 rfl)
         clear F4 m5)
      | (go_at_call 28; refine (in_c A1 l1.length c1 l1 who _ _ (H1.out.call F5.m) HIN).mono ?_; rintro r w' ⟨rfl, rfl⟩)
      | (with_reducible refine fm_load F5 0 rfl (o := ⟨some 55, .load 24 (.tmp 10), _, _, _, _⟩) rfl (.tmp 10) rfl rfl rfl ?_)
      | (with_reducible refine fm_store F5 1 rfl (o := ⟨none, .store 24 (.tmp 8) (.tmp 55), _, _, _, _⟩) rfl (.tmp 8) (.tmp 55) rfl rfl zpm rfl rfl rfl rfl (PIs.one (PIs.zero w (fun _ => True))) ?_; intro wz F6; clear F5))
    refine bodyPost_ret (results_ct rfl _ _ b8 _ (.int .i64 2) rfl rfl (F6.ret 1 rfl) rfl) rfl ?_
    exact ⟨zpm, fun _ => False, rfl, PIs.zero _ _, fun _ hg => hg.elim, F6.m⟩
  have dz1 : decide (who < 1) = false := decide_eq_false z1
  by_cases z2 : 6 < who
  case pos =>
    have dz2 : decide (6 < who) = true := decide_eq_true z2
    obtain rfl : r = (2, zp) := by
      rw [← hr]
      have z : ¬ who ≤ 6 := by omega
      simp [chg, byOwner, hrb, hby, Pm.other, z]
    clear hr hrb hib hby z2
    go_enter Try.func11, Try.ntmps11
    go_wp2_with (first
      | (with_reducible refine fm_box FA (o := ⟨some 4, .box 24 (.tmp 0), _, _, _, _⟩) rfl 24 (.tmp 0) rfl [ci o, ci e, .slice A1 l1.length c1, .slice A2 l2.length c2, .slice A3 l3.length c3] rfl ?_; intro b4 w1 F1; clear FA)
      | (with_reducible refine fm_alloc F1 (o := ⟨some 8, .alloc 24, _, _, _, _⟩) rfl 24 rfl _ zero24 ?_; intro b8 w2 F2; clear F1)
      | (with_reducible refine fm_alloc F2 (o := ⟨some 10, .alloc 24, _, _, _, _⟩) rfl 24 rfl _ zero24 ?_; intro b10 w3 F3; clear F2)
      | (with_reducible refine fm_store F3 0 rfl (o := ⟨none, .store 24 (.tmp 10) (.tmp 11), _, _, _, _⟩) rfl (.tmp 10) (.tmp 11) rfl rfl zpm rfl rfl rfl rfl (PIs.one (PIs.zero w (fun _ => True))) ?_; intro w4 F4; clear F3)
      | (with_reducible refine fm_load F4 2 rfl (o := ⟨some 12, .load 24 (.tmp 4), _, _, _, _⟩) rfl (.tmp 4) rfl rfl rfl ?_)
      | (go_at_call 16; refine (right_p (HPI.out.call F4.m) _ HB).mono ?_
         rintro r w5 ⟨rfl, m5⟩
         have F5 := F4.call m5
         obtain ⟨q0, q1, q2, q3, q4⟩ := cells5 (F5.blk 2 rfl)
         clear F4 m5)
      | (go_at_call 28; refine (in_c A1 l1.length c1 l1 who _ _ (H1.out.call F5.m) HIN).mono ?_; rintro r w' ⟨rfl, rfl⟩)
      | (with_reducible refine fm_load F5 0 rfl (o := ⟨some 55, .load 24 (.tmp 10), _, _, _, _⟩) rfl (.tmp 10) rfl rfl rfl ?_)
      | (with_reducible refine fm_store F5 1 rfl (o := ⟨none, .store 24 (.tmp 8) (.tmp 55), _, _, _, _⟩) rfl (.tmp 8) (.tmp 55) rfl rfl zpm rfl rfl rfl rfl (PIs.one (PIs.zero w (fun _ => True))) ?_; intro wz F6; clear F5))
    refine bodyPost_ret (results_ct rfl _ _ b8 _ (.int .i64 2) rfl rfl (F6.ret 1 rfl) rfl) rfl ?_
    exact ⟨zpm, fun _ => False, rfl, PIs.zero _ _, fun _ hg => hg.elim, F6.m⟩
  have dz2 : decide (6 < who) = false := decide_eq_false z2
  by_cases z3 : who = o
  case pos =>
    have f1 : (who == o) = true := beq_iff_eq.2 z3
    obtain rfl : r = (2, zp) := by rw [← hr]; simp [chg, byOwner, hrb, hby, Pm.other, z3]
    clear hr hrb hib hby z1 z2 z3
    go_enter Try.func11, Try.ntmps11
    go_wp2_with (first
      | (with_reducible refine fm_box FA (o := ⟨some 4, .box 24 (.tmp 0), _, _, _, _⟩) rfl 24 (.tmp 0) rfl [ci o, ci e, .slice A1 l1.length c1, .slice A2 l2.length c2, .slice A3 l3.length c3] rfl ?_; intro b4 w1 F1; clear FA)
      | (with_reducible refine fm_alloc F1 (o := ⟨some 8, .alloc 24, _, _, _, _⟩) rfl 24 rfl _ zero24 ?_; intro b8 w2 F2; clear F1)
      | (with_reducible refine fm_alloc F2 (o := ⟨some 10, .alloc 24, _, _, _, _⟩) rfl 24 rfl _ zero24 ?_; intro b10 w3 F3; clear F2)
      | (with_reducible refine fm_store F3 0 rfl (o := ⟨none, .store 24 (.tmp 10) (.tmp 11), _, _, _, _⟩) rfl (.tmp 10) (.tmp 11) rfl rfl zpm rfl rfl rfl rfl (PIs.one (PIs.zero w (fun _ => True))) ?_; intro w4 F4; clear F3)
      | (with_reducible refine fm_load F4 2 rfl (o := ⟨some 12, .load 24 (.tmp 4), _, _, _, _⟩) rfl (.tmp 4) rfl rfl rfl ?_)
      | (go_at_call 16; refine (right_p (HPI.out.call F4.m) _ HB).mono ?_
         rintro r w5 ⟨rfl, m5⟩
         have F5 := F4.call m5
         obtain ⟨q0, q1, q2, q3, q4⟩ := cells5 (F5.blk 2 rfl)
         clear F4 m5)
      | (go_at_call 28; refine (in_c A1 l1.length c1 l1 who _ _ (H1.out.call F5.m) HIN).mono ?_; rintro r w' ⟨rfl, rfl⟩)
      | (with_reducible refine fm_load F5 0 rfl (o := ⟨some 55, .load 24 (.tmp 10), _, _, _, _⟩) rfl (.tmp 10) rfl rfl rfl ?_)
      | (with_reducible refine fm_store F5 1 rfl (o := ⟨none, .store 24 (.tmp 8) (.tmp 55), _, _, _, _⟩) rfl (.tmp 8) (.tmp 55) rfl rfl zpm rfl rfl rfl rfl (PIs.one (PIs.zero w (fun _ => True))) ?_; intro wz F6; clear F5))
    refine bodyPost_ret (results_ct rfl _ _ b8 _ (.int .i64 2) rfl rfl (F6.ret 1 rfl) rfl) rfl ?_
    exact ⟨zpm, fun _ => False, rfl, PIs.zero _ _, fun _ hg => hg.elim, F6.m⟩
  have f1 : (who == o) = false := beq_eq_false_iff_ne.2 z3
  have hcan : (Pm.mk o e l1 l2 l3).other who = true := by
    have a : 1 ≤ who := by omega
    have b : who ≤ 6 := by omega
    simp [Pm.other, a, b, z3]
  have hright := (Pm.right_iff _).1 hrb
  have hr3 : r = shared ⟨o, e, l1, l2, l3⟩ who false := by rw [← hr]; simp [chg, byOwner, hrb, hby, hcan]
  cases ib
  case true =>
    obtain rfl : r = (5, zp) := by rw [hr3]; simp only [shared, hib]; rfl
    clear hr3 hr hrb hib hby z1 z2 z3 hcan hright
    go_enter Try.func11, Try.ntmps11
    go_wp2_with (first
      | (with_reducible refine fm_box FA (o := ⟨some 4, .box 24 (.tmp 0), _, _, _, _⟩) rfl 24 (.tmp 0) rfl [ci o, ci e, .slice A1 l1.length c1, .slice A2 l2.length c2, .slice A3 l3.length c3] rfl ?_; intro b4 w1 F1; clear FA)
      | (with_reducible refine fm_alloc F1 (o := ⟨some 8, .alloc 24, _, _, _, _⟩) rfl 24 rfl _ zero24 ?_; intro b8 w2 F2; clear F1)
      | (with_reducible refine fm_alloc F2 (o := ⟨some 10, .alloc 24, _, _, _, _⟩) rfl 24 rfl _ zero24 ?_; intro b10 w3 F3; clear F2)
      | (with_reducible refine fm_store F3 0 rfl (o := ⟨none, .store 24 (.tmp 10) (.tmp 11), _, _, _, _⟩) rfl (.tmp 10) (.tmp 11) rfl rfl zpm rfl rfl rfl rfl (PIs.one (PIs.zero w (fun _ => True))) ?_; intro w4 F4; clear F3)
      | (with_reducible refine fm_load F4 2 rfl (o := ⟨some 12, .load 24 (.tmp 4), _, _, _, _⟩) rfl (.tmp 4) rfl rfl rfl ?_)
      | (go_at_call 16; refine (right_p (HPI.out.call F4.m) _ HB).mono ?_
         rintro r w5 ⟨rfl, m5⟩
         have F5 := F4.call m5
         obtain ⟨q0, q1, q2, q3, q4⟩ := cells5 (F5.blk 2 rfl)
         clear F4 m5)
      | (go_at_call 28; refine (in_c A1 l1.length c1 l1 who _ _ (H1.out.call F5.m) HIN).mono ?_; rintro r w' ⟨rfl, rfl⟩)
      | (with_reducible refine fm_load F5 0 rfl (o := ⟨some 63, .load 24 (.tmp 10), _, _, _, _⟩) rfl (.tmp 10) rfl rfl rfl ?_)
      | (with_reducible refine fm_store F5 1 rfl (o := ⟨none, .store 24 (.tmp 8) (.tmp 63), _, _, _, _⟩) rfl (.tmp 8) (.tmp 63) rfl rfl zpm rfl rfl rfl rfl (PIs.one (PIs.zero w (fun _ => True))) ?_; intro wz F6; clear F5))
    refine bodyPost_ret (results_ct rfl _ _ b8 _ (.int .i64 5) rfl rfl (F6.ret 1 rfl) rfl) rfl ?_
    exact ⟨zpm, fun _ => False, rfl, PIs.zero _ _, fun _ hg => hg.elim, F6.m⟩
  obtain rfl : r = (0, ⟨o, e, setL l1 who true, l2, l3⟩) := by
    rw [hr3, setL_ins hright.r (by omega) (by omega) (by omega)]
    simp only [shared, hib]
    rfl
  have hn1 : 1 ≤ e := hright.e1
  have hn8 : e ≤ 8 := hright.e8
  clear hr3 hr hrb hib hby z3 hcan hright
  go_enter Try.func11, Try.ntmps11
  go_wp2_with (first
    | (with_reducible refine fm_box FA (o := ⟨some 4, .box 24 (.tmp 0), _, _, _, _⟩) rfl 24 (.tmp 0) rfl [ci o, ci e, .slice A1 l1.length c1, .slice A2 l2.length c2, .slice A3 l3.length c3] rfl ?_; intro b4 w1 F1; clear FA)
    | (with_reducible refine fm_alloc F1 (o := ⟨some 8, .alloc 24, _, _, _, _⟩) rfl 24 rfl _ zero24 ?_; intro b8 w2 F2; clear F1)
    | (with_reducible refine fm_alloc F2 (o := ⟨some 10, .alloc 24, _, _, _, _⟩) rfl 24 rfl _ zero24 ?_; intro b10 w3 F3; clear F2)
    | (with_reducible refine fm_store F3 0 rfl (o := ⟨none, .store 24 (.tmp 10) (.tmp 11), _, _, _, _⟩) rfl (.tmp 10) (.tmp 11) rfl rfl zpm rfl rfl rfl rfl (PIs.one (PIs.zero w (fun _ => True))) ?_; intro w4 F4; clear F3)
    | (with_reducible refine fm_load F4 2 rfl (o := ⟨some 12, .load 24 (.tmp 4), _, _, _, _⟩) rfl (.tmp 4) rfl rfl rfl ?_)
    | (go_at_call 16; refine (right_p (HPI.out.call F4.m) _ HB).mono ?_
       rintro r w5 ⟨rfl, m5⟩
       have F5 := F4.call m5
       obtain ⟨q0, q1, q2, q3, q4⟩ := cells5 (F5.blk 2 rfl)
       clear F4 m5)
    | (go_at_call 28; refine (in_c A1 l1.length c1 l1 who _ _ (H1.out.call F5.m) HIN).mono ?_; rintro r w' ⟨rfl, rfl⟩)
    | (go_at_call 29; refine (set_c A1 l1.length c1 l1 who true _ (H1.out.call F5.m)).mono ?_
       rintro r w6 ⟨B, d, rfl, hO, m6, hb6⟩
       have F6 := F5.rowNew m6 hO hb6
       obtain ⟨q0, q1, q2, q3, q4⟩ := cells5 (F6.blk 3 rfl)
       clear F5 m6 hO hb6)
    | (with_reducible refine fm_store1 F6 3 2 rfl (by simp) 22 (.slice B (setL l1 who true).length d) rfl one22 (o := ⟨none, .store 22 (.tmp 68) (.tmp 67), _, _, _, _⟩) rfl (.tmp 68) (.tmp 67) rfl rfl rfl rfl ?_; intro w7 F7; clear F6)
    | (with_reducible refine fm_load F7 3 rfl (o := ⟨some 137, .load 24 (.tmp 4), _, _, _, _⟩) rfl (.tmp 4) rfl rfl rfl ?_)
    | (with_reducible refine fm_store F7 2 rfl (o := ⟨none, .store 24 (.tmp 8) (.tmp 137), _, _, _, _⟩) rfl (.tmp 8) (.tmp 137) rfl rfl [ci o, ci e, .slice B (setL l1 who true).length d, .slice A2 l2.length c2, .slice A3 l3.length c3] rfl rfl rfl rfl (ones5 _ _ _ _ _ _ _ _ _ _ _) ?_; intro wz F8; clear F7))
  refine bodyPost_ret (results_ct rfl _ _ b8 _ (.int .i64 0) rfl rfl (F8.ret 2 rfl) rfl) rfl ?_
  exact ⟨_, TS S w wz, rfl, ⟨B, d, A2, c2, A3, c3, rfl, (rowIn F8 (List.mem_cons_self ..)).1, H2.out.call F8.m, H3.out.call F8.m, (rowIn F8 (List.mem_cons_self ..)).2.inl fun g hg => .inr hg, J2.out.inl fun g hg => .inl hg, J3.out.inl fun g hg => .inl hg⟩, fun g hg => hg, F8.m⟩
set_option maxRecDepth 100000 in
set_option maxHeartbeats 8000000 in
theorem rchange1_p {w : World} {S : Nat → Prop} {p : Pm} {cs : List Value} (h : PIs w S p cs) (hS : ∀ g, S g → g < w.heap.size) (by_ who : Int) : Calls Try.prog 11 #[.agg cs.toArray, ci 1, ci by_, ci who] w (ResS S (chg 1 p by_ who) w) := by
  have FA := (Fm.nil w).arg (tP S p cs) (keeps_tP _ _ _) h hS
  have HPI := Lib.hid h
  obtain ⟨A1, c1, A2, c2, A3, c3, rfl, h⟩ := h
  obtain ⟨o, e, l1, l2, l3⟩ := p
  have H1 := Lib.hid h.rr
  have H2 := Lib.hid h.ww
  have H3 := Lib.hid h.gg
  have J1 := Lib.hid h.s1
  have J2 := Lib.hid h.s2
  have J3 := Lib.hid h.s3
  simp only [pmc] at FA HPI H1 H2 H3 J1 J2 J3 ⊢
  have HS := Lib.hid hS
  clear h hS
  obtain ⟨r, hr⟩ : ∃ r, chg 1 ⟨o, e, l1, l2, l3⟩ by_ who = r := ⟨_, rfl⟩
  rw [hr]
  obtain ⟨rb, hrb⟩ : ∃ x, (Pm.mk o e l1 l2 l3).rightB = x := ⟨_, rfl⟩
  have HB := Lib.hid hrb
  obtain ⟨ib, hib⟩ : ∃ x, l2.contains who = x := ⟨_, rfl⟩
  have HIN := Lib.hid hib
  cases rb
  case false =>
    obtain rfl : r = (210, zp) := by rw [← hr]; simp [chg, byOwner, hrb]
    clear hr hrb hib
    go_enter Try.func11, Try.ntmps11
    go_wp2_with (first
      | (with_reducible refine fm_box FA (o := ⟨some 4, .box 24 (.tmp 0), _, _, _, _⟩) rfl 24 (.tmp 0) rfl [ci o, ci e, .slice A1 l1.length c1, .slice A2 l2.length c2, .slice A3 l3.length c3] rfl ?_; intro b4 w1 F1; clear FA)
      | (with_reducible refine fm_alloc F1 (o := ⟨some 8, .alloc 24, _, _, _, _⟩) rfl 24 rfl _ zero24 ?_; intro b8 w2 F2; clear F1)
      | (with_reducible refine fm_alloc F2 (o := ⟨some 10, .alloc 24, _, _, _, _⟩) rfl 24 rfl _ zero24 ?_; intro b10 w3 F3; clear F2)
      | (with_reducible refine fm_store F3 0 rfl (o := ⟨none, .store 24 (.tmp 10) (.tmp 11), _, _, _, _⟩) rfl (.tmp 10) (.tmp 11) rfl rfl zpm rfl rfl rfl rfl (PIs.one (PIs.zero w (fun _ => True))) ?_; intro w4 F4; clear F3)
      | (with_reducible refine fm_load F4 2 rfl (o := ⟨some 12, .load 24 (.tmp 4), _, _, _, _⟩) rfl (.tmp 4) rfl rfl rfl ?_)
      | (go_at_call 16; refine (right_p (HPI.out.call F4.m) _ HB).mono ?_
         rintro r w5 ⟨rfl, m5⟩
         have F5 := F4.call m5
         obtain ⟨q0, q1, q2, q3, q4⟩ := cells5 (F5.blk 2 rfl)
         clear F4 m5)
      | (go_at_call 28; refine (in_c A2 l2.length c2 l2 who _ _ (H2.out.call F5.m) HIN).mono ?_; rintro r w' ⟨rfl, rfl⟩)
      | (with_reducible refine fm_load F5 0 rfl (o := ⟨some 15, .load 24 (.tmp 10), _, _, _, _⟩) rfl (.tmp 10) rfl rfl rfl ?_)
      | (with_reducible refine fm_store F5 1 rfl (o := ⟨none, .store 24 (.tmp 8) (.tmp 15), _, _, _, _⟩) rfl (.tmp 8) (.tmp 15) rfl rfl zpm rfl rfl rfl rfl (PIs.one (PIs.zero w (fun _ => True))) ?_; intro wz F6; clear F5))
    refine bodyPost_ret (results_ct rfl _ _ b8 _ (.int .i64 210) rfl rfl (F6.ret 1 rfl) rfl) rfl ?_
    exact ⟨zpm, fun _ => False, rfl, PIs.zero _ _, fun _ hg => hg.elim, F6.m⟩
  by_cases hby : by_ = o
  case neg =>
    have e1 : (by_ == o) = false := beq_eq_false_iff_ne.2 hby
    have e2 : (by_ != o) = true := by simp [hby]
    obtain rfl : r = (211, zp) := by rw [← hr]; simp [chg, byOwner, hrb, hby]
    clear hr hrb hib hby
    go_enter Try.func11, Try.ntmps11
    go_wp2_with (first
      | (with_reducible refine fm_box FA (o := ⟨some 4, .box 24 (.tmp 0), _, _, _, _⟩) rfl 24 (.tmp 0) rfl [ci o, ci e, .slice A1 l1.length c1, .slice A2 l2.length c2, .slice A3 l3.length c3] rfl ?_; intro b4 w1 F1; clear FA)
      | (with_reducible refine fm_alloc F1 (o := ⟨some 8, .alloc 24, _, _, _, _⟩) rfl 24 rfl _ zero24 ?_; intro b8 w2 F2; clear F1)
      | (with_reducible refine fm_alloc F2 (o := ⟨some 10, .alloc 24, _, _, _, _⟩) rfl 24 rfl _ zero24 ?_; intro b10 w3 F3; clear F2)
      | (with_reducible refine fm_store F3 0 rfl (o := ⟨none, .store 24 (.tmp 10) (.tmp 11), _, _, _, _⟩) rfl (.tmp 10) (.tmp 11) rfl rfl zpm rfl rfl rfl rfl (PIs.one (PIs.zero w (fun _ => True))) ?_; intro w4 F4; clear F3)
      | (with_reducible refine fm_load F4 2 rfl (o := ⟨some 12, .load 24 (.tmp 4), _, _, _, _⟩) rfl (.tmp 4) rfl rfl rfl ?_)
      | (go_at_call 16; refine (right_p (HPI.out.call F4.m) _ HB).mono ?_
         rintro r w5 ⟨rfl, m5⟩
         have F5 := F4.call m5
         obtain ⟨q0, q1, q2, q3, q4⟩ := cells5 (F5.blk 2 rfl)
         clear F4 m5)
      | (go_at_call 28; refine (in_c A2 l2.length c2 l2 who _ _ (H2.out.call F5.m) HIN).mono ?_; rintro r w' ⟨rfl, rfl⟩)
      | (with_reducible refine fm_load F5 0 rfl (o := ⟨some 26, .load 24 (.tmp 10), _, _, _, _⟩) rfl (.tmp 10) rfl rfl rfl ?_)
      | (with_reducible refine fm_store F5 1 rfl (o := ⟨none, .store 24 (.tmp 8) (.tmp 26), _, _, _, _⟩) rfl (.tmp 8) (.tmp 26) rfl rfl zpm rfl rfl rfl rfl (PIs.one (PIs.zero w (fun _ => True))) ?_; intro wz F6; clear F5))
    refine bodyPost_ret (results_ct rfl _ _ b8 _ (.int .i64 211) rfl rfl (F6.ret 1 rfl) rfl) rfl ?_
    exact ⟨zpm, fun _ => False, rfl, PIs.zero _ _, fun _ hg => hg.elim, F6.m⟩
  have e1 : (by_ == o) = true := beq_iff_eq.2 hby
  have e2 : (by_ != o) = false := by simp [hby]
  by_cases z1 : who < 1
  case pos =>
    have dz1 : decide (who < 1) = true := decide_eq_true z1
    obtain rfl : r = (2, zp) := by
      rw [← hr]
      have z : ¬ 1 ≤ who := by omega
      simp [chg, byOwner, hrb, hby, Pm.other, z]
    clear hr hrb hib hby z1
    go_enter Try.func11, Try.ntmps11
    go_wp2_with (first
      | (with_reducible refine fm_box FA (o := ⟨some 4, .box 24 (.tmp 0), _, _, _, _⟩) rfl 24 (.tmp 0) rfl [ci o, ci e, .slice A1 l1.length c1, .slice A2 l2.length c2, .slice A3 l3.length c3] rfl ?_; intro b4 w1 F1; clear FA)
      | (with_reducible refine fm_alloc F1 (o := ⟨some 8, .alloc 24, _, _, _, _⟩) rfl 24 rfl _ zero24 ?_; intro b8 w2 F2; clear F1)
      | (with_reducible refine fm_alloc F2 (o := ⟨some 10, .alloc 24, _, _, _, _⟩) rfl 24 rfl _ zero24 ?_; intro b10 w3 F3; clear F2)
      | (with_reducible refine fm_store F3 0 rfl (o := ⟨none, .store 24 (.tmp 10) (.tmp 11), _, _, _, _⟩) rfl (.tmp 10) (.tmp 11) rfl rfl zpm rfl rfl rfl rfl (PIs.one (PIs.zero w (fun _ => True))) ?_; intro w4 F4; clear F3)
      | (with_reducible refine fm_load F4 2 rfl (o := ⟨some 12, .load 24 (.tmp 4), _, _, _, _⟩) rfl (.tmp 4) rfl rfl rfl ?_)
      | (go_at_call 16; refine (right_p (HPI.out.call F4.m) _ HB).mono ?_
         rintro r w5 ⟨rfl, m5⟩
         have F5 := F4.call m5
         obtain ⟨q0, q1, q2, q3, q4⟩ := cells5 (F5.blk 2 rfl)
         clear F4 m5)
      | (go_at_call 28; refine (in_c A2 l2.length c2 l2 who _ _ (H2.out.call F5.m) HIN).mono ?_; rintro r w' ⟨rfl, rfl⟩)
      | (with_reducible refine fm_load F5 0 rfl (o := ⟨some 55, .load 24 (.tmp 10), _, _, _, _⟩) rfl (.tmp 10) rfl rfl rfl ?_)
      | (with_reducible refine fm_store F5 1 rfl (o := ⟨none, .store 24 (.tmp 8) (.tmp 55), _, _, _, _⟩) rfl (.tmp 8) (.tmp 55) rfl rfl zpm rfl rfl rfl rfl (PIs.one (PIs.zero w (fun _ => True))) ?_; intro wz F6; clear F5))
    refine bodyPost_ret (results_ct rfl _ _ b8 _ (.int .i64 2) rfl rfl (F6.ret 1 rfl) rfl) rfl ?_
    exact ⟨zpm, fun _ => False, rfl, PIs.zero _ _, fun _ hg => hg.elim, F6.m⟩
  have dz1 : decide (who < 1) = false := decide_eq_false z1
  by_cases z2 : 6 < who
  case pos =>
    have dz2 : decide (6 < who) = true := decide_eq_true z2
    obtain rfl : r = (2, zp) := by
      rw [← hr]
      have z : ¬ who ≤ 6 := by omega
      simp [chg, byOwner, hrb, hby, Pm.other, z]
    clear hr hrb hib hby z2
    go_enter Try.func11, Try.ntmps11
    go_wp2_with (first
      | (with_reducible refine fm_box FA (o := ⟨some 4, .box 24 (.tmp 0), _, _, _, _⟩) rfl 24 (.tmp 0) rfl [ci o, ci e, .slice A1 l1.length c1, .slice A2 l2.length c2, .slice A3 l3.length c3] rfl ?_; intro b4 w1 F1; clear FA)
      | (with_reducible refine fm_alloc F1 (o := ⟨some 8, .alloc 24, _, _, _, _⟩) rfl 24 rfl _ zero24 ?_; intro b8 w2 F2; clear F1)
      | (with_reducible refine fm_alloc F2 (o := ⟨some 10, .alloc 24, _, _, _, _⟩) rfl 24 rfl _ zero24 ?_; intro b10 w3 F3; clear F2)
      | (with_reducible refine fm_store F3 0 rfl (o := ⟨none, .store 24 (.tmp 10) (.tmp 11), _, _, _, _⟩) rfl (.tmp 10) (.tmp 11) rfl rfl zpm rfl rfl rfl rfl (PIs.one (PIs.zero w (fun _ => True))) ?_; intro w4 F4; clear F3)
      | (with_reducible refine fm_load F4 2 rfl (o := ⟨some 12, .load 24 (.tmp 4), _, _, _, _⟩) rfl (.tmp 4) rfl rfl rfl ?_)
      | (go_at_call 16; refine (right_p (HPI.out.call F4.m) _ HB).mono ?_
         rintro r w5 ⟨rfl, m5⟩
         have F5 := F4.call m5
         obtain ⟨q0, q1, q2, q3, q4⟩ := cells5 (F5.blk 2 rfl)
         clear F4 m5)
      | (go_at_call 28; refine (in_c A2 l2.length c2 l2 who _ _ (H2.out.call F5.m) HIN).mono ?_; rintro r w' ⟨rfl, rfl⟩)
      | (with_reducible refine fm_load F5 0 rfl (o := ⟨some 55, .load 24 (.tmp 10), _, _, _, _⟩) rfl (.tmp 10) rfl rfl rfl ?_)
      | (with_reducible refine fm_store F5 1 rfl (o := ⟨none, .store 24 (.tmp 8) (.tmp 55), _, _, _, _⟩) rfl (.tmp 8) (.tmp 55) rfl rfl zpm rfl rfl rfl rfl (PIs.one (PIs.zero w (fun _ => True))) ?_; intro wz F6; clear F5))
    refine bodyPost_ret (results_ct rfl _ _ b8 _ (.int .i64 2) rfl rfl (F6.ret 1 rfl) rfl) rfl ?_
    exact ⟨zpm, fun _ => False, rfl, PIs.zero _ _, fun _ hg => hg.elim, F6.m⟩
  have dz2 : decide (6 < who) = false := decide_eq_false z2
  by_cases z3 : who = o
  case pos =>
    have f1 : (who == o) = true := beq_iff_eq.2 z3
    obtain rfl : r = (2, zp) := by rw [← hr]; simp [chg, byOwner, hrb, hby, Pm.other, z3]
    clear hr hrb hib hby z1 z2 z3
    go_enter Try.func11, Try.ntmps11
    go_wp2_with (first
      | (with_reducible refine fm_box FA (o := ⟨some 4, .box 24 (.tmp 0), _, _, _, _⟩) rfl 24 (.tmp 0) rfl [ci o, ci e, .slice A1 l1.length c1, .slice A2 l2.length c2, .slice A3 l3.length c3] rfl ?_; intro b4 w1 F1; clear FA)
      | (with_reducible refine fm_alloc F1 (o := ⟨some 8, .alloc 24, _, _, _, _⟩) rfl 24 rfl _ zero24 ?_; intro b8 w2 F2; clear F1)
      | (with_reducible refine fm_alloc F2 (o := ⟨some 10, .alloc 24, _, _, _, _⟩) rfl 24 rfl _ zero24 ?_; intro b10 w3 F3; clear F2)
      | (with_reducible refine fm_store F3 0 rfl (o := ⟨none, .store 24 (.tmp 10) (.tmp 11), _, _, _, _⟩) rfl (.tmp 10) (.tmp 11) rfl rfl zpm rfl rfl rfl rfl (PIs.one (PIs.zero w (fun _ => True))) ?_; intro w4 F4; clear F3)
      | (with_reducible refine fm_load F4 2 rfl (o := ⟨some 12, .load 24 (.tmp 4), _, _, _, _⟩) rfl (.tmp 4) rfl rfl rfl ?_)
      | (go_at_call 16; refine (right_p (HPI.out.call F4.m) _ HB).mono ?_
         rintro r w5 ⟨rfl, m5⟩
         have F5 := F4.call m5
         obtain ⟨q0, q1, q2, q3, q4⟩ := cells5 (F5.blk 2 rfl)
         clear F4 m5)
      | (go_at_call 28; refine (in_c A2 l2.length c2 l2 who _ _ (H2.out.call F5.m) HIN).mono ?_; rintro r w' ⟨rfl, rfl⟩)
      | (with_reducible refine fm_load F5 0 rfl (o := ⟨some 55, .load 24 (.tmp 10), _, _, _, _⟩) rfl (.tmp 10) rfl rfl rfl ?_)
      | (with_reducible refine fm_store F5 1 rfl (o := ⟨none, .store 24 (.tmp 8) (.tmp 55), _, _, _, _⟩) rfl (.tmp 8) (.tmp 55) rfl rfl zpm rfl rfl rfl rfl (PIs.one (PIs.zero w (fun _ => True))) ?_; intro wz F6; clear F5))
    refine bodyPost_ret (results_ct rfl _ _ b8 _ (.int .i64 2) rfl rfl (F6.ret 1 rfl) rfl) rfl ?_
    exact ⟨zpm, fun _ => False, rfl, PIs.zero _ _, fun _ hg => hg.elim, F6.m⟩
  have f1 : (who == o) = false := beq_eq_false_iff_ne.2 z3
  have hcan : (Pm.mk o e l1 l2 l3).other who = true := by
    have a : 1 ≤ who := by omega
    have b : who ≤ 6 := by omega
    simp [Pm.other, a, b, z3]
  have hright := (Pm.right_iff _).1 hrb
  have hr3 : r = shared ⟨o, e, l1, l2, l3⟩ who true := by rw [← hr]; simp [chg, byOwner, hrb, hby, hcan]
  cases ib
  case true =>
    have hsub : l1.contains who = true := by
      have := hright.sub who (by simpa using hib)
      simpa using this
    obtain rfl : r = (5, zp) := by rw [hr3]; simp only [shared, hsub, hib]; rfl
    clear hsub
    clear hr3 hr hrb hib hby z1 z2 z3 hcan hright
    go_enter Try.func11, Try.ntmps11
    go_wp2_with (first
      | (with_reducible refine fm_box FA (o := ⟨some 4, .box 24 (.tmp 0), _, _, _, _⟩) rfl 24 (.tmp 0) rfl [ci o, ci e, .slice A1 l1.length c1, .slice A2 l2.length c2, .slice A3 l3.length c3] rfl ?_; intro b4 w1 F1; clear FA)
      | (with_reducible refine fm_alloc F1 (o := ⟨some 8, .alloc 24, _, _, _, _⟩) rfl 24 rfl _ zero24 ?_; intro b8 w2 F2; clear F1)
      | (with_reducible refine fm_alloc F2 (o := ⟨some 10, .alloc 24, _, _, _, _⟩) rfl 24 rfl _ zero24 ?_; intro b10 w3 F3; clear F2)
      | (with_reducible refine fm_store F3 0 rfl (o := ⟨none, .store 24 (.tmp 10) (.tmp 11), _, _, _, _⟩) rfl (.tmp 10) (.tmp 11) rfl rfl zpm rfl rfl rfl rfl (PIs.one (PIs.zero w (fun _ => True))) ?_; intro w4 F4; clear F3)
      | (with_reducible refine fm_load F4 2 rfl (o := ⟨some 12, .load 24 (.tmp 4), _, _, _, _⟩) rfl (.tmp 4) rfl rfl rfl ?_)
      | (go_at_call 16; refine (right_p (HPI.out.call F4.m) _ HB).mono ?_
         rintro r w5 ⟨rfl, m5⟩
         have F5 := F4.call m5
         obtain ⟨q0, q1, q2, q3, q4⟩ := cells5 (F5.blk 2 rfl)
         clear F4 m5)
      | (go_at_call 28; refine (in_c A2 l2.length c2 l2 who _ _ (H2.out.call F5.m) HIN).mono ?_; rintro r w' ⟨rfl, rfl⟩)
      | (with_reducible refine fm_load F5 0 rfl (o := ⟨some 75, .load 24 (.tmp 10), _, _, _, _⟩) rfl (.tmp 10) rfl rfl rfl ?_)
      | (with_reducible refine fm_store F5 1 rfl (o := ⟨none, .store 24 (.tmp 8) (.tmp 75), _, _, _, _⟩) rfl (.tmp 8) (.tmp 75) rfl rfl zpm rfl rfl rfl rfl (PIs.one (PIs.zero w (fun _ => True))) ?_; intro wz F6; clear F5))
    refine bodyPost_ret (results_ct rfl _ _ b8 _ (.int .i64 5) rfl rfl (F6.ret 1 rfl) rfl) rfl ?_
    exact ⟨zpm, fun _ => False, rfl, PIs.zero _ _, fun _ hg => hg.elim, F6.m⟩
  obtain rfl : r = (0, ⟨o, e, setL l1 who true, setL l2 who true, l3⟩) := by
    rw [hr3, setL_ins hright.r (by omega) (by omega) (by omega), setL_ins hright.w (by omega) (by omega) (by omega)]
    simp only [shared, hib]
    simp
  have hn1 : 1 ≤ e := hright.e1
  have hn8 : e ≤ 8 := hright.e8
  clear hr3 hr hrb hib hby z3 hcan hright
  go_enter Try.func11, Try.ntmps11
  go_wp2_with (first
    | (with_reducible refine fm_box FA (o := ⟨some 4, .box 24 (.tmp 0), _, _, _, _⟩) rfl 24 (.tmp 0) rfl [ci o, ci e, .slice A1 l1.length c1, .slice A2 l2.length c2, .slice A3 l3.length c3] rfl ?_; intro b4 w1 F1; clear FA)
    | (with_reducible refine fm_alloc F1 (o := ⟨some 8, .alloc 24, _, _, _, _⟩) rfl 24 rfl _ zero24 ?_; intro b8 w2 F2; clear F1)
    | (with_reducible refine fm_alloc F2 (o := ⟨some 10, .alloc 24, _, _, _, _⟩) rfl 24 rfl _ zero24 ?_; intro b10 w3 F3; clear F2)
    | (with_reducible refine fm_store F3 0 rfl (o := ⟨none, .store 24 (.tmp 10) (.tmp 11), _, _, _, _⟩) rfl (.tmp 10) (.tmp 11) rfl rfl zpm rfl rfl rfl rfl (PIs.one (PIs.zero w (fun _ => True))) ?_; intro w4 F4; clear F3)
    | (with_reducible refine fm_load F4 2 rfl (o := ⟨some 12, .load 24 (.tmp 4), _, _, _, _⟩) rfl (.tmp 4) rfl rfl rfl ?_)
    | (go_at_call 16; refine (right_p (HPI.out.call F4.m) _ HB).mono ?_
       rintro r w5 ⟨rfl, m5⟩
       have F5 := F4.call m5
       obtain ⟨q0, q1, q2, q3, q4⟩ := cells5 (F5.blk 2 rfl)
       clear F4 m5)
    | (go_at_call 28; refine (in_c A2 l2.length c2 l2 who _ _ (H2.out.call F5.m) HIN).mono ?_; rintro r w' ⟨rfl, rfl⟩))
  obtain ⟨ts, hts⟩ : ∃ ts, ts = [tP S ⟨o, e, l1, l2, l3⟩ [ci o, ci e, .slice A1 l1.length c1, .slice A2 l2.length c2, .slice A3 l3.length c3]] := ⟨_, rfl⟩
  have F9 : Fm w w' ([oB b10 24 zpm, oB b8 24 zpm] ++ [oB b4 24 [ci o, ci e, .slice A1 l1.length c1, .slice A2 l2.length c2, .slice A3 l3.length c3]]) ts := by rw [hts]; exact F5
  have HTS : Hid (tP S ⟨o, e, l1, l2, l3⟩ [ci o, ci e, .slice A1 l1.length c1, .slice A2 l2.length c2, .slice A3 l3.length c3] ∈ ts) := Lib.hid (by rw [hts]; exact List.mem_cons_self ..)
  clear F5 q0 q1 q2 q3 q4 hts
  refine wp_region_upx (X := X22) (⟨(none, 0), (none, 0)⟩) (fun x => [(76, .pointer (some ⟨b4, 2, none⟩)), (77, .slice A1 l1.length c1), (78, ci who), (79, .slice x.1.1 (setL l1 who true).length x.1.2), (80, .pointer (some ⟨b4, 3, none⟩)), (81, .slice A2 l2.length c2), (82, ci who), (83, .slice x.2.1 (setL l2 who true).length x.2.2), (84, .pointer (some ⟨b4, 2, none⟩)), (85, .pointer (some ⟨b4, 3, none⟩))]) 138 [76, 77, 78, 79, 80, 81, 82, 83, 84, 85] rfl (fun _ => rfl) (by decide) (by kernel_rfl) (fun x lz v => Fm w v (chOs [oB b10 24 zpm, oB b8 24 zpm] b4 o e (setL l1 who true) (setL l2 who true) (.slice A1 l1.length c1) (.slice A2 l2.length c2) (.slice A3 l3.length c3) x (stage4 (lz 3) (lz 7) (lz 9) (lz 11))) ts) (by kernel_rfl) (F9.call (Mod.drew [] _)) (by kernel_rfl) (by kernel_rfl) ?_ ?_
  · skip
    intro x lz T v j o hj hlj hdep hst hpar hgot hcl Kq hK
    have hjn : j < 12 := (Array.getElem?_eq_some_iff.1 hj).1
    obtain rfl | rfl | rfl | rfl | rfl | rfl | rfl | rfl | rfl | rfl | rfl | rfl : j = 0 ∨ j = 1 ∨ j = 2 ∨ j = 3 ∨ j = 4 ∨ j = 5 ∨ j = 6 ∨ j = 7 ∨ j = 8 ∨ j = 9 ∨ j = 10 ∨ j = 11 := by omega
    all_goals (have hj' := Option.some.inj (hj : some _ = some o); subst hj'; clear hj)
    · exact wp_ran rfl (exec_fp24_2 rfl (eval_tmp ((hpar 4 rfl).trans rfl))) (hK x _ _ (fun _ _ _ _ _ _ => rfl) (fun s hs => by cases hs; rfl) (by simpa using hst))
    · have n9 : lz 9 = false := (by cases hh : lz 9 with | false => rfl | true => exact absurd (hcl 9 _ rfl hh ⟨1, .phase⟩ (by simp) rfl) (by rw [hlj]; simp))
      have n11 : lz 11 = false := (by cases hh : lz 11 with | false => rfl | true => exact absurd (hcl 11 _ rfl hh ⟨1, .phase⟩ (by simp) rfl) (by rw [hlj]; simp))
      have kc : v.cell? ⟨b4, 2, none⟩ = some (.slice A1 l1.length c1) := by
        have hst2 := hst
        rw [n9, n11] at hst2
        cases h3 : lz 3 <;> cases h7 : lz 7 <;> rw [h3, h7] at hst2 <;> first
          | exact hst2.cellO 2 rfl 2 rfl
          | exact hst2.cellO 3 rfl 2 rfl
          | exact hst2.cellO 4 rfl 2 rfl
      exact wp_ran rfl (exec_load rfl (eval_tmp (hgot 0 _ 76 rfl (hdep ⟨0, .data⟩ (by simp) rfl) rfl)) (run_load1 Try.underlying22 rfl kc)) (hK x _ _ (fun _ _ _ _ _ _ => rfl) (fun s hs => by cases hs; rfl) (by simpa using hst))
    · exact wp_ran rfl (exec_move rfl (eval_tmp ((hpar 3 rfl).trans rfl))) (hK x _ _ (fun _ _ _ _ _ _ => rfl) (fun s hs => by cases hs; rfl) (by simpa using hst))
    · have n7 : lz 7 = false := (by cases hh : lz 7 with | false => rfl | true => exact absurd (hcl 7 _ rfl hh ⟨3, .chain⟩ (by simp) rfl) (by rw [hlj]; simp))
      have n9 : lz 9 = false := (by cases hh : lz 9 with | false => rfl | true => exact absurd (hcl 9 _ rfl hh ⟨3, .data⟩ (by simp) rfl) (by rw [hlj]; simp))
      have n11 : lz 11 = false := (by cases hh : lz 11 with | false => rfl | true => exact absurd (hcl 11 _ rfl hh ⟨3, .phase⟩ (by simp) rfl) (by rw [hlj]; simp))
      have hst2 : Fm w v (chOs [oB b10 24 zpm, oB b8 24 zpm] b4 o e (setL l1 who true) (setL l2 who true) (.slice A1 l1.length c1) (.slice A2 l2.length c2) (.slice A3 l3.length c3) x 0) ts := by simpa [stage4, hlj, n7, n9, n11] using hst
      refine wp_called rfl (exec_call3 rfl rfl (eval_tmp (hgot 1 _ 77 rfl (hdep ⟨1, .data⟩ (by simp) rfl) rfl)) (eval_tmp (hgot 2 _ 78 rfl (hdep ⟨2, .data⟩ (by simp) rfl) rfl)) rfl (enters_of Try.func29 (by kernel_rfl) rfl)) ((set_c A1 l1.length c1 l1 who true v (H1.out.call hst2.m)).mono ?_)
      rintro r' v' ⟨B2, d2, rfl, hO, m, hb⟩
      refine ⟨_, rfl, hK ⟨(B2, d2), x.2⟩ _ _ (fun j' o' s' g1 g2 g3 => by
          have g4 : j' < 12 := (Array.getElem?_eq_some_iff.1 g1).1
          clear hpar hgot hdep hK
          obtain rfl | rfl | rfl | rfl | rfl | rfl | rfl | rfl | rfl | rfl | rfl | rfl : j' = 0 ∨ j' = 1 ∨ j' = 2 ∨ j' = 3 ∨ j' = 4 ∨ j' = 5 ∨ j' = 6 ∨ j' = 7 ∨ j' = 8 ∨ j' = 9 ∨ j' = 10 ∨ j' = 11 := by omega
          all_goals (cases g1; cases g3 <;> first | rfl | (rw [hlj] at g2; cases g2))) (fun s hs => by cases hs; rfl) ?_⟩
      have F2 : Fm w v' (chOs [oB b10 24 zpm, oB b8 24 zpm] b4 o e (setL l1 who true) (setL l2 who true) (.slice A1 l1.length c1) (.slice A2 l2.length c2) (.slice A3 l3.length c3) ⟨(B2, d2), x.2⟩ 1) ts := hst2.rowNew m hO hb
      simpa [stage4, n7, n9, n11] using F2
    · exact wp_ran rfl (exec_fp24_3 rfl (eval_tmp ((hpar 4 rfl).trans rfl))) (hK x _ _ (fun _ _ _ _ _ _ => rfl) (fun s hs => by cases hs; rfl) (by simpa using hst))
    · have n9 : lz 9 = false := (by cases hh : lz 9 with | false => rfl | true => exact absurd (hcl 9 _ rfl hh ⟨5, .phase⟩ (by simp) rfl) (by rw [hlj]; simp))
      have n11 : lz 11 = false := (by cases hh : lz 11 with | false => rfl | true => exact absurd (hcl 11 _ rfl hh ⟨5, .phase⟩ (by simp) rfl) (by rw [hlj]; simp))
      have kc : v.cell? ⟨b4, 3, none⟩ = some (.slice A2 l2.length c2) := by
        have hst2 := hst
        rw [n9, n11] at hst2
        cases h3 : lz 3 <;> cases h7 : lz 7 <;> rw [h3, h7] at hst2 <;> first
          | exact hst2.cellO 2 rfl 3 rfl
          | exact hst2.cellO 3 rfl 3 rfl
          | exact hst2.cellO 4 rfl 3 rfl
      exact wp_ran rfl (exec_load rfl (eval_tmp (hgot 4 _ 80 rfl (hdep ⟨4, .data⟩ (by simp) rfl) rfl)) (run_load1 Try.underlying22 rfl kc)) (hK x _ _ (fun _ _ _ _ _ _ => rfl) (fun s hs => by cases hs; rfl) (by simpa using hst))
    · exact wp_ran rfl (exec_move rfl (eval_tmp ((hpar 3 rfl).trans rfl))) (hK x _ _ (fun _ _ _ _ _ _ => rfl) (fun s hs => by cases hs; rfl) (by simpa using hst))
    · have t3 : lz 3 = true := (hdep ⟨3, .chain⟩ (by simp) rfl)
      have n9 : lz 9 = false := (by cases hh : lz 9 with | false => rfl | true => exact absurd (hcl 9 _ rfl hh ⟨7, .chain⟩ (by simp) rfl) (by rw [hlj]; simp))
      have n11 : lz 11 = false := (by cases hh : lz 11 with | false => rfl | true => exact absurd (hcl 11 _ rfl hh ⟨7, .data⟩ (by simp) rfl) (by rw [hlj]; simp))
      have hst2 : Fm w v (chOs [oB b10 24 zpm, oB b8 24 zpm] b4 o e (setL l1 who true) (setL l2 who true) (.slice A1 l1.length c1) (.slice A2 l2.length c2) (.slice A3 l3.length c3) x 1) ts := by simpa [stage4, hlj, t3, n9, n11] using hst
      refine wp_called rfl (exec_call3 rfl rfl (eval_tmp (hgot 5 _ 81 rfl (hdep ⟨5, .data⟩ (by simp) rfl) rfl)) (eval_tmp (hgot 6 _ 82 rfl (hdep ⟨6, .data⟩ (by simp) rfl) rfl)) rfl (enters_of Try.func29 (by kernel_rfl) rfl)) ((set_c A2 l2.length c2 l2 who true v (H2.out.call hst2.m)).mono ?_)
      rintro r' v' ⟨B2, d2, rfl, hO, m, hb⟩
      refine ⟨_, rfl, hK ⟨x.1, (B2, d2)⟩ _ _ (fun j' o' s' g1 g2 g3 => by
          have g4 : j' < 12 := (Array.getElem?_eq_some_iff.1 g1).1
          clear hpar hgot hdep hK
          obtain rfl | rfl | rfl | rfl | rfl | rfl | rfl | rfl | rfl | rfl | rfl | rfl : j' = 0 ∨ j' = 1 ∨ j' = 2 ∨ j' = 3 ∨ j' = 4 ∨ j' = 5 ∨ j' = 6 ∨ j' = 7 ∨ j' = 8 ∨ j' = 9 ∨ j' = 10 ∨ j' = 11 := by omega
          all_goals (cases g1; cases g3 <;> first | rfl | (rw [hlj] at g2; cases g2))) (fun s hs => by cases hs; rfl) ?_⟩
      have F2 : Fm w v' (chOs [oB b10 24 zpm, oB b8 24 zpm] b4 o e (setL l1 who true) (setL l2 who true) (.slice A1 l1.length c1) (.slice A2 l2.length c2) (.slice A3 l3.length c3) ⟨x.1, (B2, d2)⟩ 2) ts := hst2.rowNew m hO hb
      simpa [stage4, t3, n9, n11] using F2
    · exact wp_ran rfl (exec_fp24_2 rfl (eval_tmp ((hpar 4 rfl).trans rfl))) (hK x _ _ (fun _ _ _ _ _ _ => rfl) (fun s hs => by cases hs; rfl) (by simpa using hst))
    · have t3 : lz 3 = true := (hdep ⟨3, .data⟩ (by simp) rfl)
      have t7 : lz 7 = true := (hdep ⟨7, .chain⟩ (by simp) rfl)
      have n11 : lz 11 = false := (by cases hh : lz 11 with | false => rfl | true => exact absurd (hcl 11 _ rfl hh ⟨9, .chain⟩ (by simp) rfl) (by rw [hlj]; simp))
      have hst2 : Fm w v (chOs [oB b10 24 zpm, oB b8 24 zpm] b4 o e (setL l1 who true) (setL l2 who true) (.slice A1 l1.length c1) (.slice A2 l2.length c2) (.slice A3 l3.length c3) x 2) ts := by simpa [stage4, hlj, t3, t7, n11] using hst
      refine wp_stored1 rfl rfl (eval_tmp (hgot 8 _ 84 rfl (hdep ⟨8, .data⟩ (by simp) rfl) rfl)) (eval_tmp (hgot 3 _ 79 rfl (hdep ⟨3, .data⟩ (by simp) rfl) rfl)) rfl one22 (hst2.cellO 4 rfl 2 rfl) ((hst2.blk 4 rfl).free 2) (hK x _ _ (fun _ _ _ _ _ _ => rfl) (fun s hs => by cases hs) ?_)
      have F2 : Fm w _ (chOs [oB b10 24 zpm, oB b8 24 zpm] b4 o e (setL l1 who true) (setL l2 who true) (.slice A1 l1.length c1) (.slice A2 l2.length c2) (.slice A3 l3.length c3) x 3) ts := hst2.setc 4 rfl 2 _
      simpa [stage4, t3, t7, n11] using F2
    · exact wp_ran rfl (exec_fp24_3 rfl (eval_tmp ((hpar 4 rfl).trans rfl))) (hK x _ _ (fun _ _ _ _ _ _ => rfl) (fun s hs => by cases hs; rfl) (by simpa using hst))
    · have t3 : lz 3 = true := (hdep ⟨3, .phase⟩ (by simp) rfl)
      have t7 : lz 7 = true := (hdep ⟨7, .data⟩ (by simp) rfl)
      have t9 : lz 9 = true := (hdep ⟨9, .chain⟩ (by simp) rfl)
      have hst2 : Fm w v (chOs [oB b10 24 zpm, oB b8 24 zpm] b4 o e (setL l1 who true) (setL l2 who true) (.slice A1 l1.length c1) (.slice A2 l2.length c2) (.slice A3 l3.length c3) x 3) ts := by simpa [stage4, hlj, t3, t7, t9] using hst
      refine wp_stored1 rfl rfl (eval_tmp (hgot 10 _ 85 rfl (hdep ⟨10, .data⟩ (by simp) rfl) rfl)) (eval_tmp (hgot 7 _ 83 rfl (hdep ⟨7, .data⟩ (by simp) rfl) rfl)) rfl one22 (hst2.cellO 4 rfl 3 rfl) ((hst2.blk 4 rfl).free 3) (hK x _ _ (fun _ _ _ _ _ _ => rfl) (fun s hs => by cases hs) ?_)
      have F2 : Fm w _ (chOs [oB b10 24 zpm, oB b8 24 zpm] b4 o e (setL l1 who true) (setL l2 who true) (.slice A1 l1.length c1) (.slice A2 l2.length c2) (.slice A3 l3.length c3) x 4) ts := hst2.setc 4 rfl 3 _
      simpa [stage4, t3, t7, t9] using F2
  intro x lz v hlz hst
  rw [hlz 3 (by decide), hlz 7 (by decide), hlz 9 (by decide), hlz 11 (by decide)] at hst
  obtain ⟨⟨B1, d1⟩, ⟨B2, d2⟩⟩ := x
  have F7 : Fm w v [oI B2 d2 (setL l2 who true), oI B1 d1 (setL l1 who true), oB b10 24 zpm, oB b8 24 zpm, oB b4 24 [ci o, ci e, .slice B1 (setL l1 who true).length d1, .slice B2 (setL l2 who true).length d2, .slice A3 l3.length c3]] ts := hst
  clear hst hlz F9
  simp only [setAll, Act.put, List.foldl_cons, List.foldl_nil, List.setIfInBounds_toArray, List.set_cons_succ, List.set_cons_zero]
  go_wp2_with (first
    | (with_reducible refine fm_load F7 4 rfl (o := ⟨some 137, .load 24 (.tmp 4), _, _, _, _⟩) rfl (.tmp 4) rfl rfl rfl ?_)
    | (with_reducible refine fm_store F7 3 rfl (o := ⟨none, .store 24 (.tmp 8) (.tmp 137), _, _, _, _⟩) rfl (.tmp 8) (.tmp 137) rfl rfl [ci o, ci e, .slice B1 (setL l1 who true).length d1, .slice B2 (setL l2 who true).length d2, .slice A3 l3.length c3] rfl rfl rfl rfl (ones5 _ _ _ _ _ _ _ _ _ _ _) ?_; intro wz F8; clear F7))
  refine bodyPost_ret (results_ct rfl _ _ b8 _ (.int .i64 0) rfl rfl (F8.ret 3 rfl) rfl) rfl ?_
  exact ⟨_, TS S w wz, rfl, ⟨B1, d1, B2, d2, A3, c3, rfl, (rowIn F8 (List.mem_cons_of_mem _ (List.mem_cons_self ..))).1, (rowIn F8 (List.mem_cons_self ..)).1, H3.out.call F8.m, (rowIn F8 (List.mem_cons_of_mem _ (List.mem_cons_self ..))).2.inl fun g hg => .inr hg, (rowIn F8 (List.mem_cons_self ..)).2.inl fun g hg => .inr hg, J3.out.inl fun g hg => .inl hg⟩, fun g hg => hg, F8.m⟩
set_option maxRecDepth 100000 in
set_option maxHeartbeats 8000000 in
theorem rchange2_p {w : World} {S : Nat → Prop} {p : Pm} {cs : List Value} (h : PIs w S p cs) (hS : ∀ g, S g → g < w.heap.size) (by_ who : Int) : Calls Try.prog 11 #[.agg cs.toArray, ci 2, ci by_, ci who] w (ResS S (chg 2 p by_ who) w) := by
  have FA := (Fm.nil w).arg (tP S p cs) (keeps_tP _ _ _) h hS
  have HPI := Lib.hid h
  obtain ⟨A1, c1, A2, c2, A3, c3, rfl, h⟩ := h
  obtain ⟨o, e, l1, l2, l3⟩ := p
  have H1 := Lib.hid h.rr
  have H2 := Lib.hid h.ww
  have H3 := Lib.hid h.gg
  have J1 := Lib.hid h.s1
  have J2 := Lib.hid h.s2
  have J3 := Lib.hid h.s3
  simp only [pmc] at FA HPI H1 H2 H3 J1 J2 J3 ⊢
  have HS := Lib.hid hS
  clear h hS
  obtain ⟨r, hr⟩ : ∃ r, chg 2 ⟨o, e, l1, l2, l3⟩ by_ who = r := ⟨_, rfl⟩
  rw [hr]
  obtain ⟨rb, hrb⟩ : ∃ x, (Pm.mk o e l1 l2 l3).rightB = x := ⟨_, rfl⟩
  have HB := Lib.hid hrb
  obtain ⟨ib, hib⟩ : ∃ x, l1.contains who = x := ⟨_, rfl⟩
  have HIN := Lib.hid hib
  cases rb
  case false =>
    obtain rfl : r = (210, zp) := by rw [← hr]; simp [chg, byOwner, hrb]
    clear hr hrb hib
    go_enter Try.func11, Try.ntmps11
    go_wp2_with (first
      | (with_reducible refine fm_box FA (o := ⟨some 4, .box 24 (.tmp 0), _, _, _, _⟩) rfl 24 (.tmp 0) rfl [ci o, ci e, .slice A1 l1.length c1, .slice A2 l2.length c2, .slice A3 l3.length c3] rfl ?_; intro b4 w1 F1; clear FA)
      | (with_reducible refine fm_alloc F1 (o := ⟨some 8, .alloc 24, _, _, _, _⟩) rfl 24 rfl _ zero24 ?_; intro b8 w2 F2; clear F1)
      | (with_reducible refine fm_alloc F2 (o := ⟨some 10, .alloc 24, _, _, _, _⟩) rfl 24 rfl _ zero24 ?_; intro b10 w3 F3; clear F2)
      | (with_reducible refine fm_store F3 0 rfl (o := ⟨none, .store 24 (.tmp 10) (.tmp 11), _, _, _, _⟩) rfl (.tmp 10) (.tmp 11) rfl rfl zpm rfl rfl rfl rfl (PIs.one (PIs.zero w (fun _ => True))) ?_; intro w4 F4; clear F3)
      | (with_reducible refine fm_load F4 2 rfl (o := ⟨some 12, .load 24 (.tmp 4), _, _, _, _⟩) rfl (.tmp 4) rfl rfl rfl ?_)
      | (go_at_call 16; refine (right_p (HPI.out.call F4.m) _ HB).mono ?_
         rintro r w5 ⟨rfl, m5⟩
         have F5 := F4.call m5
         obtain ⟨q0, q1, q2, q3, q4⟩ := cells5 (F5.blk 2 rfl)
         clear F4 m5)
      | (go_at_call 28; refine (in_c A1 l1.length c1 l1 who _ _ (H1.out.call F5.m) HIN).mono ?_; rintro r w' ⟨rfl, rfl⟩)
      | (with_reducible refine fm_load F5 0 rfl (o := ⟨some 15, .load 24 (.tmp 10), _, _, _, _⟩) rfl (.tmp 10) rfl rfl rfl ?_)
      | (with_reducible refine fm_store F5 1 rfl (o := ⟨none, .store 24 (.tmp 8) (.tmp 15), _, _, _, _⟩) rfl (.tmp 8) (.tmp 15) rfl rfl zpm rfl rfl rfl rfl (PIs.one (PIs.zero w (fun _ => True))) ?_; intro wz F6; clear F5))
    refine bodyPost_ret (results_ct rfl _ _ b8 _ (.int .i64 210) rfl rfl (F6.ret 1 rfl) rfl) rfl ?_
    exact ⟨zpm, fun _ => False, rfl, PIs.zero _ _, fun _ hg => hg.elim, F6.m⟩
  by_cases hby : by_ = o
  case neg =>
    have e1 : (by_ == o) = false := beq_eq_false_iff_ne.2 hby
    have e2 : (by_ != o) = true := by simp [hby]
    obtain rfl : r = (211, zp) := by rw [← hr]; simp [chg, byOwner, hrb, hby]
    clear hr hrb hib hby
    go_enter Try.func11, Try.ntmps11
    go_wp2_with (first
      | (with_reducible refine fm_box FA (o := ⟨some 4, .box 24 (.tmp 0), _, _, _, _⟩) rfl 24 (.tmp 0) rfl [ci o, ci e, .slice A1 l1.length c1, .slice A2 l2.length c2, .slice A3 l3.length c3] rfl ?_; intro b4 w1 F1; clear FA)
      | (with_reducible refine fm_alloc F1 (o := ⟨some 8, .alloc 24, _, _, _, _⟩) rfl 24 rfl _ zero24 ?_; intro b8 w2 F2; clear F1)
      | (with_reducible refine fm_alloc F2 (o := ⟨some 10, .alloc 24, _, _, _, _⟩) rfl 24 rfl _ zero24 ?_; intro b10 w3 F3; clear F2)
      | (with_reducible refine fm_store F3 0 rfl (o := ⟨none, .store 24 (.tmp 10) (.tmp 11), _, _, _, _⟩) rfl (.tmp 10) (.tmp 11) rfl rfl zpm rfl rfl rfl rfl (PIs.one (PIs.zero w (fun _ => True))) ?_; intro w4 F4; clear F3)
      | (with_reducible refine fm_load F4 2 rfl (o := ⟨some 12, .load 24 (.tmp 4), _, _, _, _⟩) rfl (.tmp 4) rfl rfl rfl ?_)
      | (go_at_call 16; refine (right_p (HPI.out.call F4.m) _ HB).mono ?_
         rintro r w5 ⟨rfl, m5⟩
         have F5 := F4.call m5
         obtain ⟨q0, q1, q2, q3, q4⟩ := cells5 (F5.blk 2 rfl)
         clear F4 m5)
      | (go_at_call 28; refine (in_c A1 l1.length c1 l1 who _ _ (H1.out.call F5.m) HIN).mono ?_; rintro r w' ⟨rfl, rfl⟩)
      | (with_reducible refine fm_load F5 0 rfl (o := ⟨some 26, .load 24 (.tmp 10), _, _, _, _⟩) rfl (.tmp 10) rfl rfl rfl ?_)
      | (with_reducible refine fm_store F5 1 rfl (o := ⟨none, .store 24 (.tmp 8) (.tmp 26), _, _, _, _⟩) rfl (.tmp 8) (.tmp 26) rfl rfl zpm rfl rfl rfl rfl (PIs.one (PIs.zero w (fun _ => True))) ?_; intro wz F6; clear F5))
    refine bodyPost_ret (results_ct rfl _ _ b8 _ (.int .i64 211) rfl rfl (F6.ret 1 rfl) rfl) rfl ?_
    exact ⟨zpm, fun _ => False, rfl, PIs.zero _ _, fun _ hg => hg.elim, F6.m⟩
  have e1 : (by_ == o) = true := beq_iff_eq.2 hby
  have e2 : (by_ != o) = false := by simp [hby]
  by_cases z1 : who < 1
  case pos =>
    have dz1 : decide (who < 1) = true := decide_eq_true z1
    obtain rfl : r = (2, zp) := by
      rw [← hr]
      have z : ¬ 1 ≤ who := by omega
      simp [chg, byOwner, hrb, hby, Pm.other, z]
    clear hr hrb hib hby z1
    go_enter Try.func11, Try.ntmps11
    go_wp2_with (first
      | (with_reducible refine fm_box FA (o := ⟨some 4, .box 24 (.tmp 0), _, _, _, _⟩) rfl 24 (.tmp 0) rfl [ci o, ci e, .slice A1 l1.length c1, .slice A2 l2.length c2, .slice A3 l3.length c3] rfl ?_; intro b4 w1 F1; clear FA)
      | (with_reducible refine fm_alloc F1 (o := ⟨some 8, .alloc 24, _, _, _, _⟩) rfl 24 rfl _ zero24 ?_; intro b8 w2 F2; clear F1)
      | (with_reducible refine fm_alloc F2 (o := ⟨some 10, .alloc 24, _, _, _, _⟩) rfl 24 rfl _ zero24 ?_; intro b10 w3 F3; clear F2)
      | (with_reducible refine fm_store F3 0 rfl (o := ⟨none, .store 24 (.tmp 10) (.tmp 11), _, _, _, _⟩) rfl (.tmp 10) (.tmp 11) rfl rfl zpm rfl rfl rfl rfl (PIs.one (PIs.zero w (fun _ => True))) ?_; intro w4 F4; clear F3)
      | (with_reducible refine fm_load F4 2 rfl (o := ⟨some 12, .load 24 (.tmp 4), _, _, _, _⟩) rfl (.tmp 4) rfl rfl rfl ?_)
      | (go_at_call 16; refine (right_p (HPI.out.call F4.m) _ HB).mono ?_
         rintro r w5 ⟨rfl, m5⟩
         have F5 := F4.call m5
         obtain ⟨q0, q1, q2, q3, q4⟩ := cells5 (F5.blk 2 rfl)
         clear F4 m5)
      | (go_at_call 28; refine (in_c A1 l1.length c1 l1 who _ _ (H1.out.call F5.m) HIN).mono ?_; rintro r w' ⟨rfl, rfl⟩)
      | (with_reducible refine fm_load F5 0 rfl (o := ⟨some 55, .load 24 (.tmp 10), _, _, _, _⟩) rfl (.tmp 10) rfl rfl rfl ?_)
      | (with_reducible refine fm_store F5 1 rfl (o := ⟨none, .store 24 (.tmp 8) (.tmp 55), _, _, _, _⟩) rfl (.tmp 8) (.tmp 55) rfl rfl zpm rfl rfl rfl rfl (PIs.one (PIs.zero w (fun _ => True))) ?_; intro wz F6; clear F5))
    refine bodyPost_ret (results_ct rfl _ _ b8 _ (.int .i64 2) rfl rfl (F6.ret 1 rfl) rfl) rfl ?_
    exact ⟨zpm, fun _ => False, rfl, PIs.zero _ _, fun _ hg => hg.elim, F6.m⟩
  have dz1 : decide (who < 1) = false := decide_eq_false z1
  by_cases z2 : 6 < who
  case pos =>
    have dz2 : decide (6 < who) = true := decide_eq_true z2
    obtain rfl : r = (2, zp) := by
      rw [← hr]
      have z : ¬ who ≤ 6 := by omega
      simp [chg, byOwner, hrb, hby, Pm.other, z]
    clear hr hrb hib hby z2
    go_enter Try.func11, Try.ntmps11
    go_wp2_with (first
      | (with_reducible refine fm_box FA (o := ⟨some 4, .box 24 (.tmp 0), _, _, _, _⟩) rfl 24 (.tmp 0) rfl [ci o, ci e, .slice A1 l1.length c1, .slice A2 l2.length c2, .slice A3 l3.length c3] rfl ?_; intro b4 w1 F1; clear FA)
      | (with_reducible refine fm_alloc F1 (o := ⟨some 8, .alloc 24, _, _, _, _⟩) rfl 24 rfl _ zero24 ?_; intro b8 w2 F2; clear F1)
      | (with_reducible refine fm_alloc F2 (o := ⟨some 10, .alloc 24, _, _, _, _⟩) rfl 24 rfl _ zero24 ?_; intro b10 w3 F3; clear F2)
      | (with_reducible refine fm_store F3 0 rfl (o := ⟨none, .store 24 (.tmp 10) (.tmp 11), _, _, _, _⟩) rfl (.tmp 10) (.tmp 11) rfl rfl zpm rfl rfl rfl rfl (PIs.one (PIs.zero w (fun _ => True))) ?_; intro w4 F4; clear F3)
      | (with_reducible refine fm_load F4 2 rfl (o := ⟨some 12, .load 24 (.tmp 4), _, _, _, _⟩) rfl (.tmp 4) rfl rfl rfl ?_)
      | (go_at_call 16; refine (right_p (HPI.out.call F4.m) _ HB).mono ?_
         rintro r w5 ⟨rfl, m5⟩
         have F5 := F4.call m5
         obtain ⟨q0, q1, q2, q3, q4⟩ := cells5 (F5.blk 2 rfl)
         clear F4 m5)
      | (go_at_call 28; refine (in_c A1 l1.length c1 l1 who _ _ (H1.out.call F5.m) HIN).mono ?_; rintro r w' ⟨rfl, rfl⟩)
      | (with_reducible refine fm_load F5 0 rfl (o := ⟨some 55, .load 24 (.tmp 10), _, _, _, _⟩) rfl (.tmp 10) rfl rfl rfl ?_)
      | (with_reducible refine fm_store F5 1 rfl (o := ⟨none, .store 24 (.tmp 8) (.tmp 55), _, _, _, _⟩) rfl (.tmp 8) (.tmp 55) rfl rfl zpm rfl rfl rfl rfl (PIs.one (PIs.zero w (fun _ => True))) ?_; intro wz F6; clear F5))
    refine bodyPost_ret (results_ct rfl _ _ b8 _ (.int .i64 2) rfl rfl (F6.ret 1 rfl) rfl) rfl ?_
    exact ⟨zpm, fun _ => False, rfl, PIs.zero _ _, fun _ hg => hg.elim, F6.m⟩
  have dz2 : decide (6 < who) = false := decide_eq_false z2
  by_cases z3 : who = o
  case pos =>
    have f1 : (who == o) = true := beq_iff_eq.2 z3
    obtain rfl : r = (2, zp) := by rw [← hr]; simp [chg, byOwner, hrb, hby, Pm.other, z3]
    clear hr hrb hib hby z1 z2 z3
    go_enter Try.func11, Try.ntmps11
    go_wp2_with (first
      | (with_reducible refine fm_box FA (o := ⟨some 4, .box 24 (.tmp 0), _, _, _, _⟩) rfl 24 (.tmp 0) rfl [ci o, ci e, .slice A1 l1.length c1, .slice A2 l2.length c2, .slice A3 l3.length c3] rfl ?_; intro b4 w1 F1; clear FA)
      | (with_reducible refine fm_alloc F1 (o := ⟨some 8, .alloc 24, _, _, _, _⟩) rfl 24 rfl _ zero24 ?_; intro b8 w2 F2; clear F1)
      | (with_reducible refine fm_alloc F2 (o := ⟨some 10, .alloc 24, _, _, _, _⟩) rfl 24 rfl _ zero24 ?_; intro b10 w3 F3; clear F2)
      | (with_reducible refine fm_store F3 0 rfl (o := ⟨none, .store 24 (.tmp 10) (.tmp 11), _, _, _, _⟩) rfl (.tmp 10) (.tmp 11) rfl rfl zpm rfl rfl rfl rfl (PIs.one (PIs.zero w (fun _ => True))) ?_; intro w4 F4; clear F3)
      | (with_reducible refine fm_load F4 2 rfl (o := ⟨some 12, .load 24 (.tmp 4), _, _, _, _⟩) rfl (.tmp 4) rfl rfl rfl ?_)
      | (go_at_call 16; refine (right_p (HPI.out.call F4.m) _ HB).mono ?_
         rintro r w5 ⟨rfl, m5⟩
         have F5 := F4.call m5
         obtain ⟨q0, q1, q2, q3, q4⟩ := cells5 (F5.blk 2 rfl)
         clear F4 m5)
      | (go_at_call 28; refine (in_c A1 l1.length c1 l1 who _ _ (H1.out.call F5.m) HIN).mono ?_; rintro r w' ⟨rfl, rfl⟩)
      | (with_reducible refine fm_load F5 0 rfl (o := ⟨some 55, .load 24 (.tmp 10), _, _, _, _⟩) rfl (.tmp 10) rfl rfl rfl ?_)
      | (with_reducible refine fm_store F5 1 rfl (o := ⟨none, .store 24 (.tmp 8) (.tmp 55), _, _, _, _⟩) rfl (.tmp 8) (.tmp 55) rfl rfl zpm rfl rfl rfl rfl (PIs.one (PIs.zero w (fun _ => True))) ?_; intro wz F6; clear F5))
    refine bodyPost_ret (results_ct rfl _ _ b8 _ (.int .i64 2) rfl rfl (F6.ret 1 rfl) rfl) rfl ?_
    exact ⟨zpm, fun _ => False, rfl, PIs.zero _ _, fun _ hg => hg.elim, F6.m⟩
  have f1 : (who == o) = false := beq_eq_false_iff_ne.2 z3
  have hcan : (Pm.mk o e l1 l2 l3).other who = true := by
    have a : 1 ≤ who := by omega
    have b : who ≤ 6 := by omega
    simp [Pm.other, a, b, z3]
  have hright := (Pm.right_iff _).1 hrb
  have hr3 : r = backed ⟨o, e, l1, l2, l3⟩ who := by rw [← hr]; simp [chg, byOwner, hrb, hby, hcan]
  cases ib
  case false =>
    obtain rfl : r = (4, zp) := by rw [hr3]; simp only [backed, hib]; rfl
    clear hr3 hr hrb hib hby z1 z2 z3 hcan hright
    go_enter Try.func11, Try.ntmps11
    go_wp2_with (first
      | (with_reducible refine fm_box FA (o := ⟨some 4, .box 24 (.tmp 0), _, _, _, _⟩) rfl 24 (.tmp 0) rfl [ci o, ci e, .slice A1 l1.length c1, .slice A2 l2.length c2, .slice A3 l3.length c3] rfl ?_; intro b4 w1 F1; clear FA)
      | (with_reducible refine fm_alloc F1 (o := ⟨some 8, .alloc 24, _, _, _, _⟩) rfl 24 rfl _ zero24 ?_; intro b8 w2 F2; clear F1)
      | (with_reducible refine fm_alloc F2 (o := ⟨some 10, .alloc 24, _, _, _, _⟩) rfl 24 rfl _ zero24 ?_; intro b10 w3 F3; clear F2)
      | (with_reducible refine fm_store F3 0 rfl (o := ⟨none, .store 24 (.tmp 10) (.tmp 11), _, _, _, _⟩) rfl (.tmp 10) (.tmp 11) rfl rfl zpm rfl rfl rfl rfl (PIs.one (PIs.zero w (fun _ => True))) ?_; intro w4 F4; clear F3)
      | (with_reducible refine fm_load F4 2 rfl (o := ⟨some 12, .load 24 (.tmp 4), _, _, _, _⟩) rfl (.tmp 4) rfl rfl rfl ?_)
      | (go_at_call 16; refine (right_p (HPI.out.call F4.m) _ HB).mono ?_
         rintro r w5 ⟨rfl, m5⟩
         have F5 := F4.call m5
         obtain ⟨q0, q1, q2, q3, q4⟩ := cells5 (F5.blk 2 rfl)
         clear F4 m5)
      | (go_at_call 28; refine (in_c A1 l1.length c1 l1 who _ _ (H1.out.call F5.m) HIN).mono ?_; rintro r w' ⟨rfl, rfl⟩)
      | (with_reducible refine fm_load F5 0 rfl (o := ⟨some 93, .load 24 (.tmp 10), _, _, _, _⟩) rfl (.tmp 10) rfl rfl rfl ?_)
      | (with_reducible refine fm_store F5 1 rfl (o := ⟨none, .store 24 (.tmp 8) (.tmp 93), _, _, _, _⟩) rfl (.tmp 8) (.tmp 93) rfl rfl zpm rfl rfl rfl rfl (PIs.one (PIs.zero w (fun _ => True))) ?_; intro wz F6; clear F5))
    refine bodyPost_ret (results_ct rfl _ _ b8 _ (.int .i64 4) rfl rfl (F6.ret 1 rfl) rfl) rfl ?_
    exact ⟨zpm, fun _ => False, rfl, PIs.zero _ _, fun _ hg => hg.elim, F6.m⟩
  obtain rfl : r = begun ⟨o, e, setL l1 who false, setL l2 who false, l3⟩ := by
    rw [hr3, setL_del hright.r (by omega), setL_del hright.w (by omega)]
    simp only [backed, hib]
    rfl
  have hn1 : 1 ≤ e := hright.e1
  have hn8 : e ≤ 8 := hright.e8
  obtain ⟨np, hnp⟩ : ∃ q : Pm, q = ⟨o, e, setL l1 who false, setL l2 who false, l3⟩ := ⟨_, rfl⟩
  rw [← hnp]
  have hnpe : np.ep = e := by rw [hnp]
  obtain ⟨r, hr4⟩ : ∃ r, begun np = r := ⟨_, rfl⟩
  rw [hr4]
  have HNP := Lib.hid hnp
  have HBG := Lib.hid hr4
  have HNE := Lib.hid hnpe
  clear hnp hr4 hnpe
  clear hr3 hr hrb hib hby z3 hcan hright
  go_enter Try.func11, Try.ntmps11
  go_wp2_with (first
    | (with_reducible refine fm_box FA (o := ⟨some 4, .box 24 (.tmp 0), _, _, _, _⟩) rfl 24 (.tmp 0) rfl [ci o, ci e, .slice A1 l1.length c1, .slice A2 l2.length c2, .slice A3 l3.length c3] rfl ?_; intro b4 w1 F1; clear FA)
    | (with_reducible refine fm_alloc F1 (o := ⟨some 8, .alloc 24, _, _, _, _⟩) rfl 24 rfl _ zero24 ?_; intro b8 w2 F2; clear F1)
    | (with_reducible refine fm_alloc F2 (o := ⟨some 10, .alloc 24, _, _, _, _⟩) rfl 24 rfl _ zero24 ?_; intro b10 w3 F3; clear F2)
    | (with_reducible refine fm_store F3 0 rfl (o := ⟨none, .store 24 (.tmp 10) (.tmp 11), _, _, _, _⟩) rfl (.tmp 10) (.tmp 11) rfl rfl zpm rfl rfl rfl rfl (PIs.one (PIs.zero w (fun _ => True))) ?_; intro w4 F4; clear F3)
    | (with_reducible refine fm_load F4 2 rfl (o := ⟨some 12, .load 24 (.tmp 4), _, _, _, _⟩) rfl (.tmp 4) rfl rfl rfl ?_)
    | (go_at_call 16; refine (right_p (HPI.out.call F4.m) _ HB).mono ?_
       rintro r w5 ⟨rfl, m5⟩
       have F5 := F4.call m5
       obtain ⟨q0, q1, q2, q3, q4⟩ := cells5 (F5.blk 2 rfl)
       clear F4 m5)
    | (go_at_call 28; refine (in_c A1 l1.length c1 l1 who _ _ (H1.out.call F5.m) HIN).mono ?_; rintro r w' ⟨rfl, rfl⟩))
  obtain ⟨ts, hts⟩ : ∃ ts, ts = [tP S ⟨o, e, l1, l2, l3⟩ [ci o, ci e, .slice A1 l1.length c1, .slice A2 l2.length c2, .slice A3 l3.length c3]] := ⟨_, rfl⟩
  have F9 : Fm w w' ([oB b10 24 zpm, oB b8 24 zpm] ++ [oB b4 24 [ci o, ci e, .slice A1 l1.length c1, .slice A2 l2.length c2, .slice A3 l3.length c3]]) ts := by rw [hts]; exact F5
  have HTS : Hid (tP S ⟨o, e, l1, l2, l3⟩ [ci o, ci e, .slice A1 l1.length c1, .slice A2 l2.length c2, .slice A3 l3.length c3] ∈ ts) := Lib.hid (by rw [hts]; exact List.mem_cons_self ..)
  clear F5 q0 q1 q2 q3 q4 hts
  refine wp_region_upx (X := X22) (⟨(none, 0), (none, 0)⟩) (fun x => [(94, .pointer (some ⟨b4, 2, none⟩)), (95, .slice A1 l1.length c1), (96, ci who), (97, .slice x.1.1 (setL l1 who false).length x.1.2), (98, .pointer (some ⟨b4, 3, none⟩)), (99, .slice A2 l2.length c2), (100, ci who), (101, .slice x.2.1 (setL l2 who false).length x.2.2), (102, .pointer (some ⟨b4, 2, none⟩)), (103, .pointer (some ⟨b4, 3, none⟩))]) 138 [94, 95, 96, 97, 98, 99, 100, 101, 102, 103] rfl (fun _ => rfl) (by decide) (by kernel_rfl) (fun x lz v => Fm w v (chOs [oB b10 24 zpm, oB b8 24 zpm] b4 o e (setL l1 who false) (setL l2 who false) (.slice A1 l1.length c1) (.slice A2 l2.length c2) (.slice A3 l3.length c3) x (stage4 (lz 3) (lz 7) (lz 9) (lz 11))) ts) (by kernel_rfl) (F9.call (Mod.drew [] _)) (by kernel_rfl) (by kernel_rfl) ?_ ?_
  · skip
    intro x lz T v j o hj hlj hdep hst hpar hgot hcl Kq hK
    have hjn : j < 12 := (Array.getElem?_eq_some_iff.1 hj).1
    obtain rfl | rfl | rfl | rfl | rfl | rfl | rfl | rfl | rfl | rfl | rfl | rfl : j = 0 ∨ j = 1 ∨ j = 2 ∨ j = 3 ∨ j = 4 ∨ j = 5 ∨ j = 6 ∨ j = 7 ∨ j = 8 ∨ j = 9 ∨ j = 10 ∨ j = 11 := by omega
    all_goals (have hj' := Option.some.inj (hj : some _ = some o); subst hj'; clear hj)
    · exact wp_ran rfl (exec_fp24_2 rfl (eval_tmp ((hpar 4 rfl).trans rfl))) (hK x _ _ (fun _ _ _ _ _ _ => rfl) (fun s hs => by cases hs; rfl) (by simpa using hst))
    · have n9 : lz 9 = false := (by cases hh : lz 9 with | false => rfl | true => exact absurd (hcl 9 _ rfl hh ⟨1, .phase⟩ (by simp) rfl) (by rw [hlj]; simp))
      have n11 : lz 11 = false := (by cases hh : lz 11 with | false => rfl | true => exact absurd (hcl 11 _ rfl hh ⟨1, .phase⟩ (by simp) rfl) (by rw [hlj]; simp))
      have kc : v.cell? ⟨b4, 2, none⟩ = some (.slice A1 l1.length c1) := by
        have hst2 := hst
        rw [n9, n11] at hst2
        cases h3 : lz 3 <;> cases h7 : lz 7 <;> rw [h3, h7] at hst2 <;> first
          | exact hst2.cellO 2 rfl 2 rfl
          | exact hst2.cellO 3 rfl 2 rfl
          | exact hst2.cellO 4 rfl 2 rfl
      exact wp_ran rfl (exec_load rfl (eval_tmp (hgot 0 _ 94 rfl (hdep ⟨0, .data⟩ (by simp) rfl) rfl)) (run_load1 Try.underlying22 rfl kc)) (hK x _ _ (fun _ _ _ _ _ _ => rfl) (fun s hs => by cases hs; rfl) (by simpa using hst))
    · exact wp_ran rfl (exec_move rfl (eval_tmp ((hpar 3 rfl).trans rfl))) (hK x _ _ (fun _ _ _ _ _ _ => rfl) (fun s hs => by cases hs; rfl) (by simpa using hst))
    · have n7 : lz 7 = false := (by cases hh : lz 7 with | false => rfl | true => exact absurd (hcl 7 _ rfl hh ⟨3, .chain⟩ (by simp) rfl) (by rw [hlj]; simp))
      have n9 : lz 9 = false := (by cases hh : lz 9 with | false => rfl | true => exact absurd (hcl 9 _ rfl hh ⟨3, .data⟩ (by simp) rfl) (by rw [hlj]; simp))
      have n11 : lz 11 = false := (by cases hh : lz 11 with | false => rfl | true => exact absurd (hcl 11 _ rfl hh ⟨3, .phase⟩ (by simp) rfl) (by rw [hlj]; simp))
      have hst2 : Fm w v (chOs [oB b10 24 zpm, oB b8 24 zpm] b4 o e (setL l1 who false) (setL l2 who false) (.slice A1 l1.length c1) (.slice A2 l2.length c2) (.slice A3 l3.length c3) x 0) ts := by simpa [stage4, hlj, n7, n9, n11] using hst
      refine wp_called rfl (exec_call3 rfl rfl (eval_tmp (hgot 1 _ 95 rfl (hdep ⟨1, .data⟩ (by simp) rfl) rfl)) (eval_tmp (hgot 2 _ 96 rfl (hdep ⟨2, .data⟩ (by simp) rfl) rfl)) rfl (enters_of Try.func29 (by kernel_rfl) rfl)) ((set_c A1 l1.length c1 l1 who false v (H1.out.call hst2.m)).mono ?_)
      rintro r' v' ⟨B2, d2, rfl, hO, m, hb⟩
      refine ⟨_, rfl, hK ⟨(B2, d2), x.2⟩ _ _ (fun j' o' s' g1 g2 g3 => by
          have g4 : j' < 12 := (Array.getElem?_eq_some_iff.1 g1).1
          clear hpar hgot hdep hK
          obtain rfl | rfl | rfl | rfl | rfl | rfl | rfl | rfl | rfl | rfl | rfl | rfl : j' = 0 ∨ j' = 1 ∨ j' = 2 ∨ j' = 3 ∨ j' = 4 ∨ j' = 5 ∨ j' = 6 ∨ j' = 7 ∨ j' = 8 ∨ j' = 9 ∨ j' = 10 ∨ j' = 11 := by omega
          all_goals (cases g1; cases g3 <;> first | rfl | (rw [hlj] at g2; cases g2))) (fun s hs => by cases hs; rfl) ?_⟩
      have F2 : Fm w v' (chOs [oB b10 24 zpm, oB b8 24 zpm] b4 o e (setL l1 who false) (setL l2 who false) (.slice A1 l1.length c1) (.slice A2 l2.length c2) (.slice A3 l3.length c3) ⟨(B2, d2), x.2⟩ 1) ts := hst2.rowNew m hO hb
      simpa [stage4, n7, n9, n11] using F2
    · exact wp_ran rfl (exec_fp24_3 rfl (eval_tmp ((hpar 4 rfl).trans rfl))) (hK x _ _ (fun _ _ _ _ _ _ => rfl) (fun s hs => by cases hs; rfl) (by simpa using hst))
    · have n9 : lz 9 = false := (by cases hh : lz 9 with | false => rfl | true => exact absurd (hcl 9 _ rfl hh ⟨5, .phase⟩ (by simp) rfl) (by rw [hlj]; simp))
      have n11 : lz 11 = false := (by cases hh : lz 11 with | false => rfl | true => exact absurd (hcl 11 _ rfl hh ⟨5, .phase⟩ (by simp) rfl) (by rw [hlj]; simp))
      have kc : v.cell? ⟨b4, 3, none⟩ = some (.slice A2 l2.length c2) := by
        have hst2 := hst
        rw [n9, n11] at hst2
        cases h3 : lz 3 <;> cases h7 : lz 7 <;> rw [h3, h7] at hst2 <;> first
          | exact hst2.cellO 2 rfl 3 rfl
          | exact hst2.cellO 3 rfl 3 rfl
          | exact hst2.cellO 4 rfl 3 rfl
      exact wp_ran rfl (exec_load rfl (eval_tmp (hgot 4 _ 98 rfl (hdep ⟨4, .data⟩ (by simp) rfl) rfl)) (run_load1 Try.underlying22 rfl kc)) (hK x _ _ (fun _ _ _ _ _ _ => rfl) (fun s hs => by cases hs; rfl) (by simpa using hst))
    · exact wp_ran rfl (exec_move rfl (eval_tmp ((hpar 3 rfl).trans rfl))) (hK x _ _ (fun _ _ _ _ _ _ => rfl) (fun s hs => by cases hs; rfl) (by simpa using hst))
    · have t3 : lz 3 = true := (hdep ⟨3, .chain⟩ (by simp) rfl)
      have n9 : lz 9 = false := (by cases hh : lz 9 with | false => rfl | true => exact absurd (hcl 9 _ rfl hh ⟨7, .chain⟩ (by simp) rfl) (by rw [hlj]; simp))
      have n11 : lz 11 = false := (by cases hh : lz 11 with | false => rfl | true => exact absurd (hcl 11 _ rfl hh ⟨7, .data⟩ (by simp) rfl) (by rw [hlj]; simp))
      have hst2 : Fm w v (chOs [oB b10 24 zpm, oB b8 24 zpm] b4 o e (setL l1 who false) (setL l2 who false) (.slice A1 l1.length c1) (.slice A2 l2.length c2) (.slice A3 l3.length c3) x 1) ts := by simpa [stage4, hlj, t3, n9, n11] using hst
      refine wp_called rfl (exec_call3 rfl rfl (eval_tmp (hgot 5 _ 99 rfl (hdep ⟨5, .data⟩ (by simp) rfl) rfl)) (eval_tmp (hgot 6 _ 100 rfl (hdep ⟨6, .data⟩ (by simp) rfl) rfl)) rfl (enters_of Try.func29 (by kernel_rfl) rfl)) ((set_c A2 l2.length c2 l2 who false v (H2.out.call hst2.m)).mono ?_)
      rintro r' v' ⟨B2, d2, rfl, hO, m, hb⟩
      refine ⟨_, rfl, hK ⟨x.1, (B2, d2)⟩ _ _ (fun j' o' s' g1 g2 g3 => by
          have g4 : j' < 12 := (Array.getElem?_eq_some_iff.1 g1).1
          clear hpar hgot hdep hK
          obtain rfl | rfl | rfl | rfl | rfl | rfl | rfl | rfl | rfl | rfl | rfl | rfl : j' = 0 ∨ j' = 1 ∨ j' = 2 ∨ j' = 3 ∨ j' = 4 ∨ j' = 5 ∨ j' = 6 ∨ j' = 7 ∨ j' = 8 ∨ j' = 9 ∨ j' = 10 ∨ j' = 11 := by omega
          all_goals (cases g1; cases g3 <;> first | rfl | (rw [hlj] at g2; cases g2))) (fun s hs => by cases hs; rfl) ?_⟩
      have F2 : Fm w v' (chOs [oB b10 24 zpm, oB b8 24 zpm] b4 o e (setL l1 who false) (setL l2 who false) (.slice A1 l1.length c1) (.slice A2 l2.length c2) (.slice A3 l3.length c3) ⟨x.1, (B2, d2)⟩ 2) ts := hst2.rowNew m hO hb
      simpa [stage4, t3, n9, n11] using F2
    · exact wp_ran rfl (exec_fp24_2 rfl (eval_tmp ((hpar 4 rfl).trans rfl))) (hK x _ _ (fun _ _ _ _ _ _ => rfl) (fun s hs => by cases hs; rfl) (by simpa using hst))
    · have t3 : lz 3 = true := (hdep ⟨3, .data⟩ (by simp) rfl)
      have t7 : lz 7 = true := (hdep ⟨7, .chain⟩ (by simp) rfl)
      have n11 : lz 11 = false := (by cases hh : lz 11 with | false => rfl | true => exact absurd (hcl 11 _ rfl hh ⟨9, .chain⟩ (by simp) rfl) (by rw [hlj]; simp))
      have hst2 : Fm w v (chOs [oB b10 24 zpm, oB b8 24 zpm] b4 o e (setL l1 who false) (setL l2 who false) (.slice A1 l1.length c1) (.slice A2 l2.length c2) (.slice A3 l3.length c3) x 2) ts := by simpa [stage4, hlj, t3, t7, n11] using hst
      refine wp_stored1 rfl rfl (eval_tmp (hgot 8 _ 102 rfl (hdep ⟨8, .data⟩ (by simp) rfl) rfl)) (eval_tmp (hgot 3 _ 97 rfl (hdep ⟨3, .data⟩ (by simp) rfl) rfl)) rfl one22 (hst2.cellO 4 rfl 2 rfl) ((hst2.blk 4 rfl).free 2) (hK x _ _ (fun _ _ _ _ _ _ => rfl) (fun s hs => by cases hs) ?_)
      have F2 : Fm w _ (chOs [oB b10 24 zpm, oB b8 24 zpm] b4 o e (setL l1 who false) (setL l2 who false) (.slice A1 l1.length c1) (.slice A2 l2.length c2) (.slice A3 l3.length c3) x 3) ts := hst2.setc 4 rfl 2 _
      simpa [stage4, t3, t7, n11] using F2
    · exact wp_ran rfl (exec_fp24_3 rfl (eval_tmp ((hpar 4 rfl).trans rfl))) (hK x _ _ (fun _ _ _ _ _ _ => rfl) (fun s hs => by cases hs; rfl) (by simpa using hst))
    · have t3 : lz 3 = true := (hdep ⟨3, .phase⟩ (by simp) rfl)
      have t7 : lz 7 = true := (hdep ⟨7, .data⟩ (by simp) rfl)
      have t9 : lz 9 = true := (hdep ⟨9, .chain⟩ (by simp) rfl)
      have hst2 : Fm w v (chOs [oB b10 24 zpm, oB b8 24 zpm] b4 o e (setL l1 who false) (setL l2 who false) (.slice A1 l1.length c1) (.slice A2 l2.length c2) (.slice A3 l3.length c3) x 3) ts := by simpa [stage4, hlj, t3, t7, t9] using hst
      refine wp_stored1 rfl rfl (eval_tmp (hgot 10 _ 103 rfl (hdep ⟨10, .data⟩ (by simp) rfl) rfl)) (eval_tmp (hgot 7 _ 101 rfl (hdep ⟨7, .data⟩ (by simp) rfl) rfl)) rfl one22 (hst2.cellO 4 rfl 3 rfl) ((hst2.blk 4 rfl).free 3) (hK x _ _ (fun _ _ _ _ _ _ => rfl) (fun s hs => by cases hs) ?_)
      have F2 : Fm w _ (chOs [oB b10 24 zpm, oB b8 24 zpm] b4 o e (setL l1 who false) (setL l2 who false) (.slice A1 l1.length c1) (.slice A2 l2.length c2) (.slice A3 l3.length c3) x 4) ts := hst2.setc 4 rfl 3 _
      simpa [stage4, t3, t7, t9] using F2
  intro x lz v hlz hst
  rw [hlz 3 (by decide), hlz 7 (by decide), hlz 9 (by decide), hlz 11 (by decide)] at hst
  obtain ⟨⟨B1, d1⟩, ⟨B2, d2⟩⟩ := x
  have F7 : Fm w v [oI B2 d2 (setL l2 who false), oI B1 d1 (setL l1 who false), oB b10 24 zpm, oB b8 24 zpm, oB b4 24 [ci o, ci e, .slice B1 (setL l1 who false).length d1, .slice B2 (setL l2 who false).length d2, .slice A3 l3.length c3]] ts := hst
  clear hst hlz F9
  simp only [setAll, Act.put, List.foldl_cons, List.foldl_nil, List.setIfInBounds_toArray, List.set_cons_succ, List.set_cons_zero]
  obtain ⟨cs7, hcs7⟩ : ∃ cs, cs = ([ci o, ci e, .slice B1 (setL l1 who false).length d1, .slice B2 (setL l2 who false).length d2, .slice A3 l3.length c3] : List Value) := ⟨_, rfl⟩
  have h75 : cs7.length = 5 := by rw [hcs7]; rfl
  have hP7 : PIs v (fun g => S g ∨ (g ∈ blk B1 ∨ g ∈ blk B2)) np cs7 := by
    rw [HNP.out, hcs7]
    exact ⟨B1, d1, B2, d2, A3, c3, rfl, (rowIn F7 (List.mem_cons_of_mem _ (List.mem_cons_self ..))).1, (rowIn F7 (List.mem_cons_self ..)).1, H3.out.call F7.m, fun a ha _ => .inr (.inl (by rw [ha]; exact blk_of)), fun a ha _ => .inr (.inr (by rw [ha]; exact blk_of)), J3.out.inl fun g hg => .inl hg⟩
  have HLO : Hid (∀ g, (g ∈ blk B1 ∨ g ∈ blk B2) → w.heap.size ≤ g) := Lib.hid fun g hg => hg.elim (fun h => F7.lo (oI B1 d1 (setL l1 who false)) (List.mem_cons_of_mem _ (List.mem_cons_self ..)) g h) (fun h => F7.lo (oI B2 d2 (setL l2 who false)) (List.mem_cons_self ..) g h)
  have hbd : ∀ g, (S g ∨ (g ∈ blk B1 ∨ g ∈ blk B2)) → g < v.heap.size := fun g hg => by
    rcases hg with h | h | h
    · exact Nat.lt_of_lt_of_le (HS.out g h) F7.m.size
    · obtain ⟨a, ha, hae⟩ := mem_blk h; subst hae; exact (F7.row 1 rfl).lt a ha
    · obtain ⟨a, ha, hae⟩ := mem_blk h; subst hae; exact (F7.row 0 rfl).lt a ha
  have F8 : Fm w v [oB b10 24 zpm, oB b8 24 zpm, oB b4 24 cs7] (oI B1 d1 (setL l1 who false) :: oI B2 d2 (setL l2 who false) :: ts) := hcs7 ▸ (F7.freeze 0 rfl).freeze 0 rfl
  have NX := rnext_p hP7 hbd (by rw [HNE.out]; exact hn1) (by rw [HNE.out]; exact hn8)
  rw [HBG.out] at NX
  have HMS : Hid (tP S ⟨o, e, l1, l2, l3⟩ [ci o, ci e, .slice A1 l1.length c1, .slice A2 l2.length c2, .slice A3 l3.length c3] ∈ oI B1 d1 (setL l1 who false) :: oI B2 d2 (setL l2 who false) :: ts) := Lib.hid (List.mem_cons_of_mem _ (List.mem_cons_of_mem _ HTS.out))
  have HCV : Hid (∀ g, (g ∈ blk B1 ∨ g ∈ blk B2) → ∃ y ∈ (oI B1 d1 (setL l1 who false) :: oI B2 d2 (setL l2 who false) :: ts), y.1 g) := Lib.hid fun g hg => hg.elim (fun h => ⟨_, List.mem_cons_self .., h⟩) (fun h => ⟨_, List.mem_cons_of_mem _ (List.mem_cons_self ..), h⟩)
  clear F7 hP7 hcs7 hbd
  go_wp2_with (first
    | (with_reducible refine fm_load F8 2 rfl (o := ⟨some 104, .load 24 (.tmp 4), _, _, _, _⟩) rfl (.tmp 4) rfl rfl h75 ?_)
    | (go_at_call 27; refine NX.mono ?_
       rintro ee w9 ⟨cs9, T9, rfl, hP9, hT9, m9⟩
       have F9 := F8.put m9 (tP T9 r.2 cs9) (keeps_tP _ _ _) hP9 fun g hg => (hT9 g hg).elim (fun h => h.elim (fun hS => .inr ⟨_, HMS.out, hS⟩) (fun hB => .inr (HCV.out _ hB))) .inl
       have h95 := hP9.len
       have h91 := hP9.one
       have hlo := F8.m.size
       clear m9 hP9 NX F8)
    | (with_reducible refine fm_store F9 1 rfl (o := ⟨none, .store 24 (.tmp 8) (.tmp 106), _, _, _, _⟩) rfl (.tmp 8) (.tmp 106) rfl rfl cs9 rfl rfl h95 rfl h91 ?_; intro wz FZ; clear F9))
  refine bodyPost_ret (results_ct rfl _ _ b8 _ (.int .i64 r.1) rfl rfl (FZ.ret 1 rfl) h95) rfl ?_
  refine ⟨cs9, T9, rfl, FZ.s 0 rfl, fun g hg => ?_, FZ.m⟩
  rcases hT9 g hg with (h | h) | h
  · exact .inl h
  · exact .inr ⟨HLO.out g h, FZ.slt 0 rfl g hg⟩
  · exact .inr ⟨Nat.le_trans hlo h.1, FZ.slt 0 rfl g hg⟩
set_option maxRecDepth 100000 in
set_option maxHeartbeats 8000000 in
theorem rchange3_p {w : World} {S : Nat → Prop} {p : Pm} {cs : List Value} (h : PIs w S p cs) (hS : ∀ g, S g → g < w.heap.size) (by_ who : Int) : Calls Try.prog 11 #[.agg cs.toArray, ci 3, ci by_, ci who] w (ResS S (chg 3 p by_ who) w) := by
  have FA := (Fm.nil w).arg (tP S p cs) (keeps_tP _ _ _) h hS
  have HPI := Lib.hid h
  obtain ⟨A1, c1, A2, c2, A3, c3, rfl, h⟩ := h
  obtain ⟨o, e, l1, l2, l3⟩ := p
  have H1 := Lib.hid h.rr
  have H2 := Lib.hid h.ww
  have H3 := Lib.hid h.gg
  have J1 := Lib.hid h.s1
  have J2 := Lib.hid h.s2
  have J3 := Lib.hid h.s3
  simp only [pmc] at FA HPI H1 H2 H3 J1 J2 J3 ⊢
  have HS := Lib.hid hS
  clear h hS
  obtain ⟨r, hr⟩ : ∃ r, chg 3 ⟨o, e, l1, l2, l3⟩ by_ who = r := ⟨_, rfl⟩
  rw [hr]
  obtain ⟨rb, hrb⟩ : ∃ x, (Pm.mk o e l1 l2 l3).rightB = x := ⟨_, rfl⟩
  have HB := Lib.hid hrb
  obtain ⟨ib, hib⟩ : ∃ x, l3.contains who = x := ⟨_, rfl⟩
  have HIN := Lib.hid hib
  cases rb
  case false =>
    obtain rfl : r = (210, zp) := by rw [← hr]; simp [chg, byOwner, hrb]
    clear hr hrb hib
    go_enter Try.func11, Try.ntmps11
    go_wp2_with (first
      | (with_reducible refine fm_box FA (o := ⟨some 4, .box 24 (.tmp 0), _, _, _, _⟩) rfl 24 (.tmp 0) rfl [ci o, ci e, .slice A1 l1.length c1, .slice A2 l2.length c2, .slice A3 l3.length c3] rfl ?_; intro b4 w1 F1; clear FA)
      | (with_reducible refine fm_alloc F1 (o := ⟨some 8, .alloc 24, _, _, _, _⟩) rfl 24 rfl _ zero24 ?_; intro b8 w2 F2; clear F1)
      | (with_reducible refine fm_alloc F2 (o := ⟨some 10, .alloc 24, _, _, _, _⟩) rfl 24 rfl _ zero24 ?_; intro b10 w3 F3; clear F2)
      | (with_reducible refine fm_store F3 0 rfl (o := ⟨none, .store 24 (.tmp 10) (.tmp 11), _, _, _, _⟩) rfl (.tmp 10) (.tmp 11) rfl rfl zpm rfl rfl rfl rfl (PIs.one (PIs.zero w (fun _ => True))) ?_; intro w4 F4; clear F3)
      | (with_reducible refine fm_load F4 2 rfl (o := ⟨some 12, .load 24 (.tmp 4), _, _, _, _⟩) rfl (.tmp 4) rfl rfl rfl ?_)
      | (go_at_call 16; refine (right_p (HPI.out.call F4.m) _ HB).mono ?_
         rintro r w5 ⟨rfl, m5⟩
         have F5 := F4.call m5
         obtain ⟨q0, q1, q2, q3, q4⟩ := cells5 (F5.blk 2 rfl)
         clear F4 m5)
      | (go_at_call 28; refine (in_c A3 l3.length c3 l3 who _ _ (H3.out.call F5.m) HIN).mono ?_; rintro r w' ⟨rfl, rfl⟩)
      | (with_reducible refine fm_load F5 0 rfl (o := ⟨some 15, .load 24 (.tmp 10), _, _, _, _⟩) rfl (.tmp 10) rfl rfl rfl ?_)
      | (with_reducible refine fm_store F5 1 rfl (o := ⟨none, .store 24 (.tmp 8) (.tmp 15), _, _, _, _⟩) rfl (.tmp 8) (.tmp 15) rfl rfl zpm rfl rfl rfl rfl (PIs.one (PIs.zero w (fun _ => True))) ?_; intro wz F6; clear F5))
    refine bodyPost_ret (results_ct rfl _ _ b8 _ (.int .i64 210) rfl rfl (F6.ret 1 rfl) rfl) rfl ?_
    exact ⟨zpm, fun _ => False, rfl, PIs.zero _ _, fun _ hg => hg.elim, F6.m⟩
  by_cases hby : by_ = o
  case neg =>
    have e1 : (by_ == o) = false := beq_eq_false_iff_ne.2 hby
    have e2 : (by_ != o) = true := by simp [hby]
    obtain rfl : r = (211, zp) := by rw [← hr]; simp [chg, byOwner, hrb, hby]
    clear hr hrb hib hby
    go_enter Try.func11, Try.ntmps11
    go_wp2_with (first
      | (with_reducible refine fm_box FA (o := ⟨some 4, .box 24 (.tmp 0), _, _, _, _⟩) rfl 24 (.tmp 0) rfl [ci o, ci e, .slice A1 l1.length c1, .slice A2 l2.length c2, .slice A3 l3.length c3] rfl ?_; intro b4 w1 F1; clear FA)
      | (with_reducible refine fm_alloc F1 (o := ⟨some 8, .alloc 24, _, _, _, _⟩) rfl 24 rfl _ zero24 ?_; intro b8 w2 F2; clear F1)
      | (with_reducible refine fm_alloc F2 (o := ⟨some 10, .alloc 24, _, _, _, _⟩) rfl 24 rfl _ zero24 ?_; intro b10 w3 F3; clear F2)
      | (with_reducible refine fm_store F3 0 rfl (o := ⟨none, .store 24 (.tmp 10) (.tmp 11), _, _, _, _⟩) rfl (.tmp 10) (.tmp 11) rfl rfl zpm rfl rfl rfl rfl (PIs.one (PIs.zero w (fun _ => True))) ?_; intro w4 F4; clear F3)
      | (with_reducible refine fm_load F4 2 rfl (o := ⟨some 12, .load 24 (.tmp 4), _, _, _, _⟩) rfl (.tmp 4) rfl rfl rfl ?_)
      | (go_at_call 16; refine (right_p (HPI.out.call F4.m) _ HB).mono ?_
         rintro r w5 ⟨rfl, m5⟩
         have F5 := F4.call m5
         obtain ⟨q0, q1, q2, q3, q4⟩ := cells5 (F5.blk 2 rfl)
         clear F4 m5)
      | (go_at_call 28; refine (in_c A3 l3.length c3 l3 who _ _ (H3.out.call F5.m) HIN).mono ?_; rintro r w' ⟨rfl, rfl⟩)
      | (with_reducible refine fm_load F5 0 rfl (o := ⟨some 26, .load 24 (.tmp 10), _, _, _, _⟩) rfl (.tmp 10) rfl rfl rfl ?_)
      | (with_reducible refine fm_store F5 1 rfl (o := ⟨none, .store 24 (.tmp 8) (.tmp 26), _, _, _, _⟩) rfl (.tmp 8) (.tmp 26) rfl rfl zpm rfl rfl rfl rfl (PIs.one (PIs.zero w (fun _ => True))) ?_; intro wz F6; clear F5))
    refine bodyPost_ret (results_ct rfl _ _ b8 _ (.int .i64 211) rfl rfl (F6.ret 1 rfl) rfl) rfl ?_
    exact ⟨zpm, fun _ => False, rfl, PIs.zero _ _, fun _ hg => hg.elim, F6.m⟩
  have e1 : (by_ == o) = true := beq_iff_eq.2 hby
  have e2 : (by_ != o) = false := by simp [hby]
  by_cases z1 : who < 1
  case pos =>
    have dz1 : decide (who < 1) = true := decide_eq_true z1
    obtain rfl : r = (2, zp) := by
      rw [← hr]
      have z : ¬ 1 ≤ who := by omega
      simp [chg, byOwner, hrb, hby, grp, z]
    clear hr hrb hib hby z1
    go_enter Try.func11, Try.ntmps11
    go_wp2_with (first
      | (with_reducible refine fm_box FA (o := ⟨some 4, .box 24 (.tmp 0), _, _, _, _⟩) rfl 24 (.tmp 0) rfl [ci o, ci e, .slice A1 l1.length c1, .slice A2 l2.length c2, .slice A3 l3.length c3] rfl ?_; intro b4 w1 F1; clear FA)
      | (with_reducible refine fm_alloc F1 (o := ⟨some 8, .alloc 24, _, _, _, _⟩) rfl 24 rfl _ zero24 ?_; intro b8 w2 F2; clear F1)
      | (with_reducible refine fm_alloc F2 (o := ⟨some 10, .alloc 24, _, _, _, _⟩) rfl 24 rfl _ zero24 ?_; intro b10 w3 F3; clear F2)
      | (with_reducible refine fm_store F3 0 rfl (o := ⟨none, .store 24 (.tmp 10) (.tmp 11), _, _, _, _⟩) rfl (.tmp 10) (.tmp 11) rfl rfl zpm rfl rfl rfl rfl (PIs.one (PIs.zero w (fun _ => True))) ?_; intro w4 F4; clear F3)
      | (with_reducible refine fm_load F4 2 rfl (o := ⟨some 12, .load 24 (.tmp 4), _, _, _, _⟩) rfl (.tmp 4) rfl rfl rfl ?_)
      | (go_at_call 16; refine (right_p (HPI.out.call F4.m) _ HB).mono ?_
         rintro r w5 ⟨rfl, m5⟩
         have F5 := F4.call m5
         obtain ⟨q0, q1, q2, q3, q4⟩ := cells5 (F5.blk 2 rfl)
         clear F4 m5)
      | (go_at_call 28; refine (in_c A3 l3.length c3 l3 who _ _ (H3.out.call F5.m) HIN).mono ?_; rintro r w' ⟨rfl, rfl⟩)
      | (with_reducible refine fm_load F5 0 rfl (o := ⟨some 55, .load 24 (.tmp 10), _, _, _, _⟩) rfl (.tmp 10) rfl rfl rfl ?_)
      | (with_reducible refine fm_store F5 1 rfl (o := ⟨none, .store 24 (.tmp 8) (.tmp 55), _, _, _, _⟩) rfl (.tmp 8) (.tmp 55) rfl rfl zpm rfl rfl rfl rfl (PIs.one (PIs.zero w (fun _ => True))) ?_; intro wz F6; clear F5))
    refine bodyPost_ret (results_ct rfl _ _ b8 _ (.int .i64 2) rfl rfl (F6.ret 1 rfl) rfl) rfl ?_
    exact ⟨zpm, fun _ => False, rfl, PIs.zero _ _, fun _ hg => hg.elim, F6.m⟩
  have dz1 : decide (who < 1) = false := decide_eq_false z1
  by_cases z2 : 3 < who
  case pos =>
    have dz2 : decide (3 < who) = true := decide_eq_true z2
    obtain rfl : r = (2, zp) := by
      rw [← hr]
      have z : ¬ who ≤ 3 := by omega
      simp [chg, byOwner, hrb, hby, grp, z]
    clear hr hrb hib hby z2
    go_enter Try.func11, Try.ntmps11
    go_wp2_with (first
      | (with_reducible refine fm_box FA (o := ⟨some 4, .box 24 (.tmp 0), _, _, _, _⟩) rfl 24 (.tmp 0) rfl [ci o, ci e, .slice A1 l1.length c1, .slice A2 l2.length c2, .slice A3 l3.length c3] rfl ?_; intro b4 w1 F1; clear FA)
      | (with_reducible refine fm_alloc F1 (o := ⟨some 8, .alloc 24, _, _, _, _⟩) rfl 24 rfl _ zero24 ?_; intro b8 w2 F2; clear F1)
      | (with_reducible refine fm_alloc F2 (o := ⟨some 10, .alloc 24, _, _, _, _⟩) rfl 24 rfl _ zero24 ?_; intro b10 w3 F3; clear F2)
      | (with_reducible refine fm_store F3 0 rfl (o := ⟨none, .store 24 (.tmp 10) (.tmp 11), _, _, _, _⟩) rfl (.tmp 10) (.tmp 11) rfl rfl zpm rfl rfl rfl rfl (PIs.one (PIs.zero w (fun _ => True))) ?_; intro w4 F4; clear F3)
      | (with_reducible refine fm_load F4 2 rfl (o := ⟨some 12, .load 24 (.tmp 4), _, _, _, _⟩) rfl (.tmp 4) rfl rfl rfl ?_)
      | (go_at_call 16; refine (right_p (HPI.out.call F4.m) _ HB).mono ?_
         rintro r w5 ⟨rfl, m5⟩
         have F5 := F4.call m5
         obtain ⟨q0, q1, q2, q3, q4⟩ := cells5 (F5.blk 2 rfl)
         clear F4 m5)
      | (go_at_call 28; refine (in_c A3 l3.length c3 l3 who _ _ (H3.out.call F5.m) HIN).mono ?_; rintro r w' ⟨rfl, rfl⟩)
      | (with_reducible refine fm_load F5 0 rfl (o := ⟨some 55, .load 24 (.tmp 10), _, _, _, _⟩) rfl (.tmp 10) rfl rfl rfl ?_)
      | (with_reducible refine fm_store F5 1 rfl (o := ⟨none, .store 24 (.tmp 8) (.tmp 55), _, _, _, _⟩) rfl (.tmp 8) (.tmp 55) rfl rfl zpm rfl rfl rfl rfl (PIs.one (PIs.zero w (fun _ => True))) ?_; intro wz F6; clear F5))
    refine bodyPost_ret (results_ct rfl _ _ b8 _ (.int .i64 2) rfl rfl (F6.ret 1 rfl) rfl) rfl ?_
    exact ⟨zpm, fun _ => False, rfl, PIs.zero _ _, fun _ hg => hg.elim, F6.m⟩
  have dz2 : decide (3 < who) = false := decide_eq_false z2
  have hcan : grp who = true := by
    have a : 1 ≤ who := by omega
    have b : who ≤ 3 := by omega
    simp [grp, a, b]
  have hright := (Pm.right_iff _).1 hrb
  have hr3 : r = sharedG ⟨o, e, l1, l2, l3⟩ who := by rw [← hr]; simp [chg, byOwner, hrb, hby, hcan]
  cases ib
  case true =>
    obtain rfl : r = (5, zp) := by rw [hr3]; simp only [sharedG, hib]; rfl
    clear hr3 hr hrb hib hby z1 z2 hcan hright
    go_enter Try.func11, Try.ntmps11
    go_wp2_with (first
      | (with_reducible refine fm_box FA (o := ⟨some 4, .box 24 (.tmp 0), _, _, _, _⟩) rfl 24 (.tmp 0) rfl [ci o, ci e, .slice A1 l1.length c1, .slice A2 l2.length c2, .slice A3 l3.length c3] rfl ?_; intro b4 w1 F1; clear FA)
      | (with_reducible refine fm_alloc F1 (o := ⟨some 8, .alloc 24, _, _, _, _⟩) rfl 24 rfl _ zero24 ?_; intro b8 w2 F2; clear F1)
      | (with_reducible refine fm_alloc F2 (o := ⟨some 10, .alloc 24, _, _, _, _⟩) rfl 24 rfl _ zero24 ?_; intro b10 w3 F3; clear F2)
      | (with_reducible refine fm_store F3 0 rfl (o := ⟨none, .store 24 (.tmp 10) (.tmp 11), _, _, _, _⟩) rfl (.tmp 10) (.tmp 11) rfl rfl zpm rfl rfl rfl rfl (PIs.one (PIs.zero w (fun _ => True))) ?_; intro w4 F4; clear F3)
      | (with_reducible refine fm_load F4 2 rfl (o := ⟨some 12, .load 24 (.tmp 4), _, _, _, _⟩) rfl (.tmp 4) rfl rfl rfl ?_)
      | (go_at_call 16; refine (right_p (HPI.out.call F4.m) _ HB).mono ?_
         rintro r w5 ⟨rfl, m5⟩
         have F5 := F4.call m5
         obtain ⟨q0, q1, q2, q3, q4⟩ := cells5 (F5.blk 2 rfl)
         clear F4 m5)
      | (go_at_call 28; refine (in_c A3 l3.length c3 l3 who _ _ (H3.out.call F5.m) HIN).mono ?_; rintro r w' ⟨rfl, rfl⟩)
      | (with_reducible refine fm_load F5 0 rfl (o := ⟨some 114, .load 24 (.tmp 10), _, _, _, _⟩) rfl (.tmp 10) rfl rfl rfl ?_)
      | (with_reducible refine fm_store F5 1 rfl (o := ⟨none, .store 24 (.tmp 8) (.tmp 114), _, _, _, _⟩) rfl (.tmp 8) (.tmp 114) rfl rfl zpm rfl rfl rfl rfl (PIs.one (PIs.zero w (fun _ => True))) ?_; intro wz F6; clear F5))
    refine bodyPost_ret (results_ct rfl _ _ b8 _ (.int .i64 5) rfl rfl (F6.ret 1 rfl) rfl) rfl ?_
    exact ⟨zpm, fun _ => False, rfl, PIs.zero _ _, fun _ hg => hg.elim, F6.m⟩
  obtain rfl : r = (0, ⟨o, e, l1, l2, setL l3 who true⟩) := by
    rw [hr3, setL_ins hright.g (by omega) (by omega) (by omega)]
    simp only [sharedG, hib]
    rfl
  have hn1 : 1 ≤ e := hright.e1
  have hn8 : e ≤ 8 := hright.e8
  clear hr3 hr hrb hib hby hcan hright
  go_enter Try.func11, Try.ntmps11
  go_wp2_with (first
    | (with_reducible refine fm_box FA (o := ⟨some 4, .box 24 (.tmp 0), _, _, _, _⟩) rfl 24 (.tmp 0) rfl [ci o, ci e, .slice A1 l1.length c1, .slice A2 l2.length c2, .slice A3 l3.length c3] rfl ?_; intro b4 w1 F1; clear FA)
    | (with_reducible refine fm_alloc F1 (o := ⟨some 8, .alloc 24, _, _, _, _⟩) rfl 24 rfl _ zero24 ?_; intro b8 w2 F2; clear F1)
    | (with_reducible refine fm_alloc F2 (o := ⟨some 10, .alloc 24, _, _, _, _⟩) rfl 24 rfl _ zero24 ?_; intro b10 w3 F3; clear F2)
    | (with_reducible refine fm_store F3 0 rfl (o := ⟨none, .store 24 (.tmp 10) (.tmp 11), _, _, _, _⟩) rfl (.tmp 10) (.tmp 11) rfl rfl zpm rfl rfl rfl rfl (PIs.one (PIs.zero w (fun _ => True))) ?_; intro w4 F4; clear F3)
    | (with_reducible refine fm_load F4 2 rfl (o := ⟨some 12, .load 24 (.tmp 4), _, _, _, _⟩) rfl (.tmp 4) rfl rfl rfl ?_)
    | (go_at_call 16; refine (right_p (HPI.out.call F4.m) _ HB).mono ?_
       rintro r w5 ⟨rfl, m5⟩
       have F5 := F4.call m5
       obtain ⟨q0, q1, q2, q3, q4⟩ := cells5 (F5.blk 2 rfl)
       clear F4 m5)
    | (go_at_call 28; refine (in_c A3 l3.length c3 l3 who _ _ (H3.out.call F5.m) HIN).mono ?_; rintro r w' ⟨rfl, rfl⟩)
    | (go_at_call 29; refine (set_c A3 l3.length c3 l3 who true _ (H3.out.call F5.m)).mono ?_
       rintro r w6 ⟨B, d, rfl, hO, m6, hb6⟩
       have F6 := F5.rowNew m6 hO hb6
       obtain ⟨q0, q1, q2, q3, q4⟩ := cells5 (F6.blk 3 rfl)
       clear F5 m6 hO hb6)
    | (with_reducible refine fm_store1 F6 3 4 rfl (by simp) 22 (.slice B (setL l3 who true).length d) rfl one22 (o := ⟨none, .store 22 (.tmp 119) (.tmp 118), _, _, _, _⟩) rfl (.tmp 119) (.tmp 118) rfl rfl rfl rfl ?_; intro w7 F7; clear F6)
    | (with_reducible refine fm_load F7 3 rfl (o := ⟨some 137, .load 24 (.tmp 4), _, _, _, _⟩) rfl (.tmp 4) rfl rfl rfl ?_)
    | (with_reducible refine fm_store F7 2 rfl (o := ⟨none, .store 24 (.tmp 8) (.tmp 137), _, _, _, _⟩) rfl (.tmp 8) (.tmp 137) rfl rfl [ci o, ci e, .slice A1 l1.length c1, .slice A2 l2.length c2, .slice B (setL l3 who true).length d] rfl rfl rfl rfl (ones5 _ _ _ _ _ _ _ _ _ _ _) ?_; intro wz F8; clear F7))
  refine bodyPost_ret (results_ct rfl _ _ b8 _ (.int .i64 0) rfl rfl (F8.ret 2 rfl) rfl) rfl ?_
  exact ⟨_, TS S w wz, rfl, ⟨A1, c1, A2, c2, B, d, rfl, H1.out.call F8.m, H2.out.call F8.m, (rowIn F8 (List.mem_cons_self ..)).1, J1.out.inl fun g hg => .inl hg, J2.out.inl fun g hg => .inl hg, (rowIn F8 (List.mem_cons_self ..)).2.inl fun g hg => .inr hg⟩, fun g hg => hg, F8.m⟩
set_option maxRecDepth 100000 in
set_option maxHeartbeats 8000000 in
theorem rchange4_p {w : World} {S : Nat → Prop} {p : Pm} {cs : List Value} (h : PIs w S p cs) (hS : ∀ g, S g → g < w.heap.size) (by_ who : Int) : Calls Try.prog 11 #[.agg cs.toArray, ci 4, ci by_, ci who] w (ResS S (chg 4 p by_ who) w) := by
  have FA := (Fm.nil w).arg (tP S p cs) (keeps_tP _ _ _) h hS
  have HPI := Lib.hid h
  obtain ⟨A1, c1, A2, c2, A3, c3, rfl, h⟩ := h
  obtain ⟨o, e, l1, l2, l3⟩ := p
  have H1 := Lib.hid h.rr
  have H2 := Lib.hid h.ww
  have H3 := Lib.hid h.gg
  have J1 := Lib.hid h.s1
  have J2 := Lib.hid h.s2
  have J3 := Lib.hid h.s3
  simp only [pmc] at FA HPI H1 H2 H3 J1 J2 J3 ⊢
  have HS := Lib.hid hS
  clear h hS
  obtain ⟨r, hr⟩ : ∃ r, chg 4 ⟨o, e, l1, l2, l3⟩ by_ who = r := ⟨_, rfl⟩
  rw [hr]
  obtain ⟨rb, hrb⟩ : ∃ x, (Pm.mk o e l1 l2 l3).rightB = x := ⟨_, rfl⟩
  have HB := Lib.hid hrb
  obtain ⟨ib, hib⟩ : ∃ x, l3.contains who = x := ⟨_, rfl⟩
  have HIN := Lib.hid hib
  cases rb
  case false =>
    obtain rfl : r = (210, zp) := by rw [← hr]; simp [chg, byOwner, hrb]
    clear hr hrb hib
    go_enter Try.func11, Try.ntmps11
    go_wp2_with (first
      | (with_reducible refine fm_box FA (o := ⟨some 4, .box 24 (.tmp 0), _, _, _, _⟩) rfl 24 (.tmp 0) rfl [ci o, ci e, .slice A1 l1.length c1, .slice A2 l2.length c2, .slice A3 l3.length c3] rfl ?_; intro b4 w1 F1; clear FA)
      | (with_reducible refine fm_alloc F1 (o := ⟨some 8, .alloc 24, _, _, _, _⟩) rfl 24 rfl _ zero24 ?_; intro b8 w2 F2; clear F1)
      | (with_reducible refine fm_alloc F2 (o := ⟨some 10, .alloc 24, _, _, _, _⟩) rfl 24 rfl _ zero24 ?_; intro b10 w3 F3; clear F2)
      | (with_reducible refine fm_store F3 0 rfl (o := ⟨none, .store 24 (.tmp 10) (.tmp 11), _, _, _, _⟩) rfl (.tmp 10) (.tmp 11) rfl rfl zpm rfl rfl rfl rfl (PIs.one (PIs.zero w (fun _ => True))) ?_; intro w4 F4; clear F3)
      | (with_reducible refine fm_load F4 2 rfl (o := ⟨some 12, .load 24 (.tmp 4), _, _, _, _⟩) rfl (.tmp 4) rfl rfl rfl ?_)
      | (go_at_call 16; refine (right_p (HPI.out.call F4.m) _ HB).mono ?_
         rintro r w5 ⟨rfl, m5⟩
         have F5 := F4.call m5
         obtain ⟨q0, q1, q2, q3, q4⟩ := cells5 (F5.blk 2 rfl)
         clear F4 m5)
      | (go_at_call 28; refine (in_c A3 l3.length c3 l3 who _ _ (H3.out.call F5.m) HIN).mono ?_; rintro r w' ⟨rfl, rfl⟩)
      | (with_reducible refine fm_load F5 0 rfl (o := ⟨some 15, .load 24 (.tmp 10), _, _, _, _⟩) rfl (.tmp 10) rfl rfl rfl ?_)
      | (with_reducible refine fm_store F5 1 rfl (o := ⟨none, .store 24 (.tmp 8) (.tmp 15), _, _, _, _⟩) rfl (.tmp 8) (.tmp 15) rfl rfl zpm rfl rfl rfl rfl (PIs.one (PIs.zero w (fun _ => True))) ?_; intro wz F6; clear F5))
    refine bodyPost_ret (results_ct rfl _ _ b8 _ (.int .i64 210) rfl rfl (F6.ret 1 rfl) rfl) rfl ?_
    exact ⟨zpm, fun _ => False, rfl, PIs.zero _ _, fun _ hg => hg.elim, F6.m⟩
  by_cases hby : by_ = o
  case neg =>
    have e1 : (by_ == o) = false := beq_eq_false_iff_ne.2 hby
    have e2 : (by_ != o) = true := by simp [hby]
    obtain rfl : r = (211, zp) := by rw [← hr]; simp [chg, byOwner, hrb, hby]
    clear hr hrb hib hby
    go_enter Try.func11, Try.ntmps11
    go_wp2_with (first
      | (with_reducible refine fm_box FA (o := ⟨some 4, .box 24 (.tmp 0), _, _, _, _⟩) rfl 24 (.tmp 0) rfl [ci o, ci e, .slice A1 l1.length c1, .slice A2 l2.length c2, .slice A3 l3.length c3] rfl ?_; intro b4 w1 F1; clear FA)
      | (with_reducible refine fm_alloc F1 (o := ⟨some 8, .alloc 24, _, _, _, _⟩) rfl 24 rfl _ zero24 ?_; intro b8 w2 F2; clear F1)
      | (with_reducible refine fm_alloc F2 (o := ⟨some 10, .alloc 24, _, _, _, _⟩) rfl 24 rfl _ zero24 ?_; intro b10 w3 F3; clear F2)
      | (with_reducible refine fm_store F3 0 rfl (o := ⟨none, .store 24 (.tmp 10) (.tmp 11), _, _, _, _⟩) rfl (.tmp 10) (.tmp 11) rfl rfl zpm rfl rfl rfl rfl (PIs.one (PIs.zero w (fun _ => True))) ?_; intro w4 F4; clear F3)
      | (with_reducible refine fm_load F4 2 rfl (o := ⟨some 12, .load 24 (.tmp 4), _, _, _, _⟩) rfl (.tmp 4) rfl rfl rfl ?_)
      | (go_at_call 16; refine (right_p (HPI.out.call F4.m) _ HB).mono ?_
         rintro r w5 ⟨rfl, m5⟩
         have F5 := F4.call m5
         obtain ⟨q0, q1, q2, q3, q4⟩ := cells5 (F5.blk 2 rfl)
         clear F4 m5)
      | (go_at_call 28; refine (in_c A3 l3.length c3 l3 who _ _ (H3.out.call F5.m) HIN).mono ?_; rintro r w' ⟨rfl, rfl⟩)
      | (with_reducible refine fm_load F5 0 rfl (o := ⟨some 26, .load 24 (.tmp 10), _, _, _, _⟩) rfl (.tmp 10) rfl rfl rfl ?_)
      | (with_reducible refine fm_store F5 1 rfl (o := ⟨none, .store 24 (.tmp 8) (.tmp 26), _, _, _, _⟩) rfl (.tmp 8) (.tmp 26) rfl rfl zpm rfl rfl rfl rfl (PIs.one (PIs.zero w (fun _ => True))) ?_; intro wz F6; clear F5))
    refine bodyPost_ret (results_ct rfl _ _ b8 _ (.int .i64 211) rfl rfl (F6.ret 1 rfl) rfl) rfl ?_
    exact ⟨zpm, fun _ => False, rfl, PIs.zero _ _, fun _ hg => hg.elim, F6.m⟩
  have e1 : (by_ == o) = true := beq_iff_eq.2 hby
  have e2 : (by_ != o) = false := by simp [hby]
  by_cases z1 : who < 1
  case pos =>
    have dz1 : decide (who < 1) = true := decide_eq_true z1
    obtain rfl : r = (2, zp) := by
      rw [← hr]
      have z : ¬ 1 ≤ who := by omega
      simp [chg, byOwner, hrb, hby, grp, z]
    clear hr hrb hib hby z1
    go_enter Try.func11, Try.ntmps11
    go_wp2_with (first
      | (with_reducible refine fm_box FA (o := ⟨some 4, .box 24 (.tmp 0), _, _, _, _⟩) rfl 24 (.tmp 0) rfl [ci o, ci e, .slice A1 l1.length c1, .slice A2 l2.length c2, .slice A3 l3.length c3] rfl ?_; intro b4 w1 F1; clear FA)
      | (with_reducible refine fm_alloc F1 (o := ⟨some 8, .alloc 24, _, _, _, _⟩) rfl 24 rfl _ zero24 ?_; intro b8 w2 F2; clear F1)
      | (with_reducible refine fm_alloc F2 (o := ⟨some 10, .alloc 24, _, _, _, _⟩) rfl 24 rfl _ zero24 ?_; intro b10 w3 F3; clear F2)
      | (with_reducible refine fm_store F3 0 rfl (o := ⟨none, .store 24 (.tmp 10) (.tmp 11), _, _, _, _⟩) rfl (.tmp 10) (.tmp 11) rfl rfl zpm rfl rfl rfl rfl (PIs.one (PIs.zero w (fun _ => True))) ?_; intro w4 F4; clear F3)
      | (with_reducible refine fm_load F4 2 rfl (o := ⟨some 12, .load 24 (.tmp 4), _, _, _, _⟩) rfl (.tmp 4) rfl rfl rfl ?_)
      | (go_at_call 16; refine (right_p (HPI.out.call F4.m) _ HB).mono ?_
         rintro r w5 ⟨rfl, m5⟩
         have F5 := F4.call m5
         obtain ⟨q0, q1, q2, q3, q4⟩ := cells5 (F5.blk 2 rfl)
         clear F4 m5)
      | (go_at_call 28; refine (in_c A3 l3.length c3 l3 who _ _ (H3.out.call F5.m) HIN).mono ?_; rintro r w' ⟨rfl, rfl⟩)
      | (with_reducible refine fm_load F5 0 rfl (o := ⟨some 55, .load 24 (.tmp 10), _, _, _, _⟩) rfl (.tmp 10) rfl rfl rfl ?_)
      | (with_reducible refine fm_store F5 1 rfl (o := ⟨none, .store 24 (.tmp 8) (.tmp 55), _, _, _, _⟩) rfl (.tmp 8) (.tmp 55) rfl rfl zpm rfl rfl rfl rfl (PIs.one (PIs.zero w (fun _ => True))) ?_; intro wz F6; clear F5))
    refine bodyPost_ret (results_ct rfl _ _ b8 _ (.int .i64 2) rfl rfl (F6.ret 1 rfl) rfl) rfl ?_
    exact ⟨zpm, fun _ => False, rfl, PIs.zero _ _, fun _ hg => hg.elim, F6.m⟩
  have dz1 : decide (who < 1) = false := decide_eq_false z1
  by_cases z2 : 3 < who
  case pos =>
    have dz2 : decide (3 < who) = true := decide_eq_true z2
    obtain rfl : r = (2, zp) := by
      rw [← hr]
      have z : ¬ who ≤ 3 := by omega
      simp [chg, byOwner, hrb, hby, grp, z]
    clear hr hrb hib hby z2
    go_enter Try.func11, Try.ntmps11
    go_wp2_with (first
      | (with_reducible refine fm_box FA (o := ⟨some 4, .box 24 (.tmp 0), _, _, _, _⟩) rfl 24 (.tmp 0) rfl [ci o, ci e, .slice A1 l1.length c1, .slice A2 l2.length c2, .slice A3 l3.length c3] rfl ?_; intro b4 w1 F1; clear FA)
      | (with_reducible refine fm_alloc F1 (o := ⟨some 8, .alloc 24, _, _, _, _⟩) rfl 24 rfl _ zero24 ?_; intro b8 w2 F2; clear F1)
      | (with_reducible refine fm_alloc F2 (o := ⟨some 10, .alloc 24, _, _, _, _⟩) rfl 24 rfl _ zero24 ?_; intro b10 w3 F3; clear F2)
      | (with_reducible refine fm_store F3 0 rfl (o := ⟨none, .store 24 (.tmp 10) (.tmp 11), _, _, _, _⟩) rfl (.tmp 10) (.tmp 11) rfl rfl zpm rfl rfl rfl rfl (PIs.one (PIs.zero w (fun _ => True))) ?_; intro w4 F4; clear F3)
      | (with_reducible refine fm_load F4 2 rfl (o := ⟨some 12, .load 24 (.tmp 4), _, _, _, _⟩) rfl (.tmp 4) rfl rfl rfl ?_)
      | (go_at_call 16; refine (right_p (HPI.out.call F4.m) _ HB).mono ?_
         rintro r w5 ⟨rfl, m5⟩
         have F5 := F4.call m5
         obtain ⟨q0, q1, q2, q3, q4⟩ := cells5 (F5.blk 2 rfl)
         clear F4 m5)
      | (go_at_call 28; refine (in_c A3 l3.length c3 l3 who _ _ (H3.out.call F5.m) HIN).mono ?_; rintro r w' ⟨rfl, rfl⟩)
      | (with_reducible refine fm_load F5 0 rfl (o := ⟨some 55, .load 24 (.tmp 10), _, _, _, _⟩) rfl (.tmp 10) rfl rfl rfl ?_)
      | (with_reducible refine fm_store F5 1 rfl (o := ⟨none, .store 24 (.tmp 8) (.tmp 55), _, _, _, _⟩) rfl (.tmp 8) (.tmp 55) rfl rfl zpm rfl rfl rfl rfl (PIs.one (PIs.zero w (fun _ => True))) ?_; intro wz F6; clear F5))
    refine bodyPost_ret (results_ct rfl _ _ b8 _ (.int .i64 2) rfl rfl (F6.ret 1 rfl) rfl) rfl ?_
    exact ⟨zpm, fun _ => False, rfl, PIs.zero _ _, fun _ hg => hg.elim, F6.m⟩
  have dz2 : decide (3 < who) = false := decide_eq_false z2
  have hcan : grp who = true := by
    have a : 1 ≤ who := by omega
    have b : who ≤ 3 := by omega
    simp [grp, a, b]
  have hright := (Pm.right_iff _).1 hrb
  have hr3 : r = backedG ⟨o, e, l1, l2, l3⟩ who := by rw [← hr]; simp [chg, byOwner, hrb, hby, hcan]
  cases ib
  case false =>
    obtain rfl : r = (4, zp) := by rw [hr3]; simp only [backedG, hib]; rfl
    clear hr3 hr hrb hib hby z1 z2 hcan hright
    go_enter Try.func11, Try.ntmps11
    go_wp2_with (first
      | (with_reducible refine fm_box FA (o := ⟨some 4, .box 24 (.tmp 0), _, _, _, _⟩) rfl 24 (.tmp 0) rfl [ci o, ci e, .slice A1 l1.length c1, .slice A2 l2.length c2, .slice A3 l3.length c3] rfl ?_; intro b4 w1 F1; clear FA)
      | (with_reducible refine fm_alloc F1 (o := ⟨some 8, .alloc 24, _, _, _, _⟩) rfl 24 rfl _ zero24 ?_; intro b8 w2 F2; clear F1)
      | (with_reducible refine fm_alloc F2 (o := ⟨some 10, .alloc 24, _, _, _, _⟩) rfl 24 rfl _ zero24 ?_; intro b10 w3 F3; clear F2)
      | (with_reducible refine fm_store F3 0 rfl (o := ⟨none, .store 24 (.tmp 10) (.tmp 11), _, _, _, _⟩) rfl (.tmp 10) (.tmp 11) rfl rfl zpm rfl rfl rfl rfl (PIs.one (PIs.zero w (fun _ => True))) ?_; intro w4 F4; clear F3)
      | (with_reducible refine fm_load F4 2 rfl (o := ⟨some 12, .load 24 (.tmp 4), _, _, _, _⟩) rfl (.tmp 4) rfl rfl rfl ?_)
      | (go_at_call 16; refine (right_p (HPI.out.call F4.m) _ HB).mono ?_
         rintro r w5 ⟨rfl, m5⟩
         have F5 := F4.call m5
         obtain ⟨q0, q1, q2, q3, q4⟩ := cells5 (F5.blk 2 rfl)
         clear F4 m5)
      | (go_at_call 28; refine (in_c A3 l3.length c3 l3 who _ _ (H3.out.call F5.m) HIN).mono ?_; rintro r w' ⟨rfl, rfl⟩)
      | (with_reducible refine fm_load F5 0 rfl (o := ⟨some 127, .load 24 (.tmp 10), _, _, _, _⟩) rfl (.tmp 10) rfl rfl rfl ?_)
      | (with_reducible refine fm_store F5 1 rfl (o := ⟨none, .store 24 (.tmp 8) (.tmp 127), _, _, _, _⟩) rfl (.tmp 8) (.tmp 127) rfl rfl zpm rfl rfl rfl rfl (PIs.one (PIs.zero w (fun _ => True))) ?_; intro wz F6; clear F5))
    refine bodyPost_ret (results_ct rfl _ _ b8 _ (.int .i64 4) rfl rfl (F6.ret 1 rfl) rfl) rfl ?_
    exact ⟨zpm, fun _ => False, rfl, PIs.zero _ _, fun _ hg => hg.elim, F6.m⟩
  obtain rfl : r = begun ⟨o, e, l1, l2, setL l3 who false⟩ := by
    rw [hr3, setL_del hright.g (by omega)]
    simp only [backedG, hib]
    rfl
  have hn1 : 1 ≤ e := hright.e1
  have hn8 : e ≤ 8 := hright.e8
  obtain ⟨np, hnp⟩ : ∃ q : Pm, q = ⟨o, e, l1, l2, setL l3 who false⟩ := ⟨_, rfl⟩
  rw [← hnp]
  have hnpe : np.ep = e := by rw [hnp]
  obtain ⟨r, hr4⟩ : ∃ r, begun np = r := ⟨_, rfl⟩
  rw [hr4]
  have HNP := Lib.hid hnp
  have HBG := Lib.hid hr4
  have HNE := Lib.hid hnpe
  clear hnp hr4 hnpe
  clear hr3 hr hrb hib hby hcan hright
  go_enter Try.func11, Try.ntmps11
  go_wp2_with (first
    | (with_reducible refine fm_box FA (o := ⟨some 4, .box 24 (.tmp 0), _, _, _, _⟩) rfl 24 (.tmp 0) rfl [ci o, ci e, .slice A1 l1.length c1, .slice A2 l2.length c2, .slice A3 l3.length c3] rfl ?_; intro b4 w1 F1; clear FA)
    | (with_reducible refine fm_alloc F1 (o := ⟨some 8, .alloc 24, _, _, _, _⟩) rfl 24 rfl _ zero24 ?_; intro b8 w2 F2; clear F1)
    | (with_reducible refine fm_alloc F2 (o := ⟨some 10, .alloc 24, _, _, _, _⟩) rfl 24 rfl _ zero24 ?_; intro b10 w3 F3; clear F2)
    | (with_reducible refine fm_store F3 0 rfl (o := ⟨none, .store 24 (.tmp 10) (.tmp 11), _, _, _, _⟩) rfl (.tmp 10) (.tmp 11) rfl rfl zpm rfl rfl rfl rfl (PIs.one (PIs.zero w (fun _ => True))) ?_; intro w4 F4; clear F3)
    | (with_reducible refine fm_load F4 2 rfl (o := ⟨some 12, .load 24 (.tmp 4), _, _, _, _⟩) rfl (.tmp 4) rfl rfl rfl ?_)
    | (go_at_call 16; refine (right_p (HPI.out.call F4.m) _ HB).mono ?_
       rintro r w5 ⟨rfl, m5⟩
       have F5 := F4.call m5
       obtain ⟨q0, q1, q2, q3, q4⟩ := cells5 (F5.blk 2 rfl)
       clear F4 m5)
    | (go_at_call 28; refine (in_c A3 l3.length c3 l3 who _ _ (H3.out.call F5.m) HIN).mono ?_; rintro r w' ⟨rfl, rfl⟩)
    | (go_at_call 29; refine (set_c A3 l3.length c3 l3 who false _ (H3.out.call F5.m)).mono ?_
       rintro r w6 ⟨B, d, rfl, hO, m6, hb6⟩
       have F6 := F5.rowNew m6 hO hb6
       have HLO : Hid (∀ g, g ∈ blk B → w.heap.size ≤ g) := Lib.hid fun g hg => F6.lo (oI B d (setL l3 who false)) (List.mem_cons_self ..) g hg
       obtain ⟨q0, q1, q2, q3, q4⟩ := cells5 (F6.blk 3 rfl)
       clear F5 m6 hO hb6)
    | (with_reducible refine fm_store1 F6 3 4 rfl (by simp) 22 (.slice B (setL l3 who false).length d) rfl one22 (o := ⟨none, .store 22 (.tmp 132) (.tmp 131), _, _, _, _⟩) rfl (.tmp 132) (.tmp 131) rfl rfl rfl rfl ?_; intro w7 F7; clear F6 q0 q1 q2 q3 q4
       obtain ⟨cs7, hcs7⟩ : ∃ cs, cs = [ci o, ci e, .slice A1 l1.length c1, .slice A2 l2.length c2, .slice B (setL l3 who false).length d] := ⟨_, rfl⟩
       have h75 : cs7.length = 5 := by rw [hcs7]; rfl
       have hP7 : PIs w7 (fun g => S g ∨ g ∈ blk B) np cs7 := by
         rw [HNP.out, hcs7]
         exact ⟨A1, c1, A2, c2, B, d, rfl, H1.out.call F7.m, H2.out.call F7.m, (rowIn F7 (List.mem_cons_self ..)).1, J1.out.inl fun g hg => .inl hg, J2.out.inl fun g hg => .inl hg, fun a ha _ => .inr (by rw [ha]; exact blk_of)⟩
       have F8 : Fm w w7 [oB b10 24 zpm, oB b8 24 zpm, oB b4 24 cs7] (oI B d (setL l3 who false) :: [tP S ⟨o, e, l1, l2, l3⟩ [ci o, ci e, .slice A1 l1.length c1, .slice A2 l2.length c2, .slice A3 l3.length c3]]) := hcs7 ▸ F7.freeze 0 rfl
       have NX := rnext_p hP7 (fun g hg => hg.elim (fun h => Nat.lt_of_lt_of_le (HS.out g h) F7.m.size) (fun h => by obtain ⟨a, ha, hae⟩ := mem_blk h; subst hae; exact (F7.row 0 rfl).lt a ha)) (by rw [HNE.out]; exact hn1) (by rw [HNE.out]; exact hn8)
       rw [HBG.out] at NX
       have HMS := Lib.hid (F8.mem 1 rfl)
       have HCV : Hid (∀ g, g ∈ blk B → ∃ y ∈ (oI B d (setL l3 who false) :: [tP S ⟨o, e, l1, l2, l3⟩ [ci o, ci e, .slice A1 l1.length c1, .slice A2 l2.length c2, .slice A3 l3.length c3]]), y.1 g) := Lib.hid fun g hg => ⟨_, F8.mem 0 rfl, hg⟩
       clear F7 hP7 hcs7)
    | (with_reducible refine fm_load F8 2 rfl (o := ⟨some 133, .load 24 (.tmp 4), _, _, _, _⟩) rfl (.tmp 4) rfl rfl h75 ?_)
    | (go_at_call 27; refine NX.mono ?_
       rintro ee w9 ⟨cs9, T9, rfl, hP9, hT9, m9⟩
       have F9 := F8.put m9 (tP T9 r.2 cs9) (keeps_tP _ _ _) hP9 fun g hg => (hT9 g hg).elim (fun h => h.elim (fun hS => .inr ⟨_, HMS.out, hS⟩) (fun hB => .inr (HCV.out _ hB))) .inl
       have h95 := hP9.len
       have h91 := hP9.one
       have hlo := F8.m.size
       clear m9 hP9 NX F8)
    | (with_reducible refine fm_store F9 1 rfl (o := ⟨none, .store 24 (.tmp 8) (.tmp 135), _, _, _, _⟩) rfl (.tmp 8) (.tmp 135) rfl rfl cs9 rfl rfl h95 rfl h91 ?_; intro wz FZ; clear F9))
  refine bodyPost_ret (results_ct rfl _ _ b8 _ (.int .i64 r.1) rfl rfl (FZ.ret 1 rfl) h95) rfl ?_
  refine ⟨cs9, T9, rfl, FZ.s 0 rfl, fun g hg => ?_, FZ.m⟩
  rcases hT9 g hg with (h | h) | h
  · exact .inl h
  · exact .inr ⟨HLO.out g h, FZ.slt 0 rfl g hg⟩
  · exact .inr ⟨Nat.le_trans hlo h.1, FZ.slt 0 rfl g hg⟩
set_option maxRecDepth 100000 in
set_option maxHeartbeats 8000000 in
theorem rchange5_p {w : World} {S : Nat → Prop} {p : Pm} {cs : List Value} (h : PIs w S p cs) (hS : ∀ g, S g → g < w.heap.size) (by_ who : Int) : Calls Try.prog 11 #[.agg cs.toArray, ci 5, ci by_, ci who] w (ResS S (chg 5 p by_ who) w) := by
  have FA := (Fm.nil w).arg (tP S p cs) (keeps_tP _ _ _) h hS
  have HPI := Lib.hid h
  obtain ⟨A1, c1, A2, c2, A3, c3, rfl, h⟩ := h
  obtain ⟨o, e, l1, l2, l3⟩ := p
  have H1 := Lib.hid h.rr
  have H2 := Lib.hid h.ww
  have H3 := Lib.hid h.gg
  have J1 := Lib.hid h.s1
  have J2 := Lib.hid h.s2
  have J3 := Lib.hid h.s3
  simp only [pmc] at FA HPI H1 H2 H3 J1 J2 J3 ⊢
  have HS := Lib.hid hS
  clear h hS
  obtain ⟨r, hr⟩ : ∃ r, chg 5 ⟨o, e, l1, l2, l3⟩ by_ who = r := ⟨_, rfl⟩
  rw [hr]
  obtain ⟨rb, hrb⟩ : ∃ x, (Pm.mk o e l1 l2 l3).rightB = x := ⟨_, rfl⟩
  have HB := Lib.hid hrb
  cases rb
  case false =>
    obtain rfl : r = (210, zp) := by rw [← hr]; simp [chg, byOwner, hrb]
    clear hr hrb
    go_enter Try.func11, Try.ntmps11
    go_wp2_with (first
      | (with_reducible refine fm_box FA (o := ⟨some 4, .box 24 (.tmp 0), _, _, _, _⟩) rfl 24 (.tmp 0) rfl [ci o, ci e, .slice A1 l1.length c1, .slice A2 l2.length c2, .slice A3 l3.length c3] rfl ?_; intro b4 w1 F1; clear FA)
      | (with_reducible refine fm_alloc F1 (o := ⟨some 8, .alloc 24, _, _, _, _⟩) rfl 24 rfl _ zero24 ?_; intro b8 w2 F2; clear F1)
      | (with_reducible refine fm_alloc F2 (o := ⟨some 10, .alloc 24, _, _, _, _⟩) rfl 24 rfl _ zero24 ?_; intro b10 w3 F3; clear F2)
      | (with_reducible refine fm_store F3 0 rfl (o := ⟨none, .store 24 (.tmp 10) (.tmp 11), _, _, _, _⟩) rfl (.tmp 10) (.tmp 11) rfl rfl zpm rfl rfl rfl rfl (PIs.one (PIs.zero w (fun _ => True))) ?_; intro w4 F4; clear F3)
      | (with_reducible refine fm_load F4 2 rfl (o := ⟨some 12, .load 24 (.tmp 4), _, _, _, _⟩) rfl (.tmp 4) rfl rfl rfl ?_)
      | (go_at_call 16; refine (right_p (HPI.out.call F4.m) _ HB).mono ?_
         rintro r w5 ⟨rfl, m5⟩
         have F5 := F4.call m5
         obtain ⟨q0, q1, q2, q3, q4⟩ := cells5 (F5.blk 2 rfl)
         clear F4 m5)
      | (with_reducible refine fm_load F5 0 rfl (o := ⟨some 15, .load 24 (.tmp 10), _, _, _, _⟩) rfl (.tmp 10) rfl rfl rfl ?_)
      | (with_reducible refine fm_store F5 1 rfl (o := ⟨none, .store 24 (.tmp 8) (.tmp 15), _, _, _, _⟩) rfl (.tmp 8) (.tmp 15) rfl rfl zpm rfl rfl rfl rfl (PIs.one (PIs.zero w (fun _ => True))) ?_; intro wz F6; clear F5))
    refine bodyPost_ret (results_ct rfl _ _ b8 _ (.int .i64 210) rfl rfl (F6.ret 1 rfl) rfl) rfl ?_
    exact ⟨zpm, fun _ => False, rfl, PIs.zero _ _, fun _ hg => hg.elim, F6.m⟩
  obtain rfl : r = begun ⟨o, e, l1, l2, l3⟩ := by rw [← hr]; simp [chg, byOwner, hrb]
  have hright := (Pm.right_iff _).1 hrb
  have hn1 : 1 ≤ e := hright.e1
  have hn8 : e ≤ 8 := hright.e8
  obtain ⟨r, hr2⟩ : ∃ r, begun ⟨o, e, l1, l2, l3⟩ = r := ⟨_, rfl⟩
  have NX : Hid (∀ v, Mod [] w v → Calls Try.prog 27 #[.agg ([ci o, ci e, .slice A1 l1.length c1, .slice A2 l2.length c2, .slice A3 l3.length c3] : List Value).toArray] v (ResS S r v)) := Lib.hid fun v m => by
    have hh := rnext_p (HPI.out.call m) (fun g hg => Nat.lt_of_lt_of_le (HS.out g hg) m.size) hn1 hn8
    rw [hr2] at hh
    exact hh
  rw [hr2]
  clear hr hrb hright hr2
  go_enter Try.func11, Try.ntmps11
  go_wp2_with (first
    | (with_reducible refine fm_box FA (o := ⟨some 4, .box 24 (.tmp 0), _, _, _, _⟩) rfl 24 (.tmp 0) rfl [ci o, ci e, .slice A1 l1.length c1, .slice A2 l2.length c2, .slice A3 l3.length c3] rfl ?_; intro b4 w1 F1; clear FA)
    | (with_reducible refine fm_alloc F1 (o := ⟨some 8, .alloc 24, _, _, _, _⟩) rfl 24 rfl _ zero24 ?_; intro b8 w2 F2; clear F1)
    | (with_reducible refine fm_alloc F2 (o := ⟨some 10, .alloc 24, _, _, _, _⟩) rfl 24 rfl _ zero24 ?_; intro b10 w3 F3; clear F2)
    | (with_reducible refine fm_store F3 0 rfl (o := ⟨none, .store 24 (.tmp 10) (.tmp 11), _, _, _, _⟩) rfl (.tmp 10) (.tmp 11) rfl rfl zpm rfl rfl rfl rfl (PIs.one (PIs.zero w (fun _ => True))) ?_; intro w4 F4; clear F3)
    | (with_reducible refine fm_load F4 2 rfl (o := ⟨some 12, .load 24 (.tmp 4), _, _, _, _⟩) rfl (.tmp 4) rfl rfl rfl ?_)
    | (go_at_call 16; refine (right_p (HPI.out.call F4.m) _ HB).mono ?_
       rintro r w5 ⟨rfl, m5⟩
       have F5 := F4.call m5
       obtain ⟨q0, q1, q2, q3, q4⟩ := cells5 (F5.blk 2 rfl)
       clear F4 m5)
    | (with_reducible refine fm_load F5 2 rfl (o := ⟨some 18, .load 24 (.tmp 4), _, _, _, _⟩) rfl (.tmp 4) rfl rfl rfl ?_)
    | (go_at_call 27; refine (NX.out w5 F5.m).mono ?_
       rintro ee w6 ⟨cs6, T6, rfl, hP6, hT6, m6⟩
       have F6 : Fm w w6 _ (tP T6 r.2 cs6 :: _) := F5.put m6 _ (keeps_tP _ _ _) hP6 fun g hg => (hT6 g hg).elim (fun h => .inr ⟨_, List.mem_cons_self .., h⟩) .inl
       have h65 := hP6.len
       have h61 := hP6.one
       have hlo := F5.m.size
       clear F5 m6 hP6 NX q0 q1 q2 q3 q4)
    | (with_reducible refine fm_store F6 1 rfl (o := ⟨none, .store 24 (.tmp 8) (.tmp 20), _, _, _, _⟩) rfl (.tmp 8) (.tmp 20) rfl rfl cs6 rfl rfl h65 rfl h61 ?_; intro wz F7; clear F6))
  refine bodyPost_ret (results_ct rfl _ _ b8 _ (.int .i64 r.1) rfl rfl (F7.ret 1 rfl) h65) rfl ?_
  refine ⟨cs6, T6, rfl, F7.s 0 rfl, fun g hg => ?_, F7.m⟩
  rcases hT6 g hg with h | h
  · exact .inl h
  · exact .inr ⟨Nat.le_trans hlo h.1, F7.slt 0 rfl g hg⟩
end Go.Proofs.Ytaadmpainikfpaa
