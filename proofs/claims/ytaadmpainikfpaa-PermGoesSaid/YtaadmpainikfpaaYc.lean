/-
  MayRead: the document's. My own work.
-/
import Derived.Test.YtaadmpainikfpaaYb
namespace Go.Proofs.Ytaadmpainikfpaa
open Go.RowKit Go.Shelf
attribute [local go_sem] Oper.semAt_some
set_option linter.unusedVariables false
set_option linter.unusedSimpArgs false
theorem BelR.two {w : World} {A : Option Addr} {n c : Nat} {m : List (Int × Int)} (h : BelR w A n c m) (j : Nat) (hj : j < m.length) : ∃ g o, A = some ⟨g, o, none⟩ ∧ w.cell? ⟨g, o + j * 2, none⟩ = some (ci m[j].1) ∧ w.cell? ⟨g, o + j * 2 + 1, none⟩ = some (ci m[j].2) := by
  obtain ⟨g, o, e, hc⟩ := h.at j hj
  exact ⟨g, o, e, hc.at 0 (by simp [b2v]), hc.at 1 (by simp [b2v])⟩
set_option maxRecDepth 100000 in
set_option maxHeartbeats 8000000 in
theorem rmayR_p {w : World} {S : Nat → Prop} {p : Pm} {cs : List Value} (h : PIs w S p cs) (hS : ∀ g, S g → g < w.heap.size) (u : Int) (A : Option Addr) (c : Nat) (m : List (Int × Int)) (hm : BelR w A m.length c m) (b : Bool) (hb : Hid (p.mayR u m = b)) : Calls Try.prog 21 #[.agg cs.toArray, ci u, .slice A m.length c] w fun r w' => r = .returned (.bool b) ∧ Mod [] w w' := by
  have hr := hb.out
  rw [Pm.mayR] at hr
  clear hb
  have FA := (Fm.nil w).arg (tP S p cs) (keeps_tP _ _ _) h hS
  have h5 := h.len
  obtain ⟨A1, c1, A2, c2, A3, c3, rfl, h⟩ := h
  obtain ⟨o, e, l1, l2, l3⟩ := p
  have H1 := Lib.hid h.rr
  have H3 := Lib.hid h.gg
  simp only [pmc] at FA h5 H1 H3 hr ⊢
  obtain ⟨ds, hds⟩ : ∃ ds, ds = [ci o, ci e, .slice A1 l1.length c1, .slice A2 l2.length c2, .slice A3 l3.length c3] := ⟨_, rfl⟩
  have HD := Lib.hid hds
  rw [← hds] at FA h5 ⊢
  have HM := Lib.hid hm
  have hcap := hm.cap
  have hbig := hm.big
  obtain ⟨n0, hn0⟩ : ∃ n, n = m.length := ⟨_, rfl⟩
  have HN0 := Lib.hid hn0
  rw [← hn0] at hcap ⊢
  clear h hds hm hn0
  obtain ⟨b1, hb1⟩ : ∃ x, (Pm.mk o e l1 l2 l3).rightB = x := ⟨_, rfl⟩
  obtain ⟨b4, hb4⟩ : ∃ x, l1.contains u = x := ⟨_, rfl⟩
  rw [hb1, hb4] at hr
  have B1 := Lib.hid hb1
  have B4 := Lib.hid hb4
  clear hb1 hb4
  cases b1
  case false =>
    obtain rfl : false = b := by rw [← hr]; first | rfl | simp
    clear hr
    go_enter Try.func21, Try.ntmps21
    go_wp2_with (first
      | (with_reducible refine fm_box FA (o := ⟨some 3, .box 24 (.tmp 0), _, _, _, _⟩) rfl 24 (.tmp 0) rfl ds rfl ?_; intro b3 w1 F1; clear FA)
      | (with_reducible refine fm_load F1 0 rfl (o := ⟨some 8, .load 24 (.tmp 3), _, _, _, _⟩) rfl (.tmp 3) rfl rfl h5 ?_)
      | (go_at_call 16; refine (right_p (F1.s 0 rfl) _ B1).mono ?_
         rintro r w3 ⟨rfl, m3⟩
         have F3 := F1.call m3
         obtain ⟨q0, q1, q2, q3, q4⟩ := cells5 (HD.out ▸ F3.blk 0 rfl : Holds w3 b3 24 [ci o, ci e, .slice A1 l1.length c1, .slice A2 l2.length c2, .slice A3 l3.length c3])
         clear F1 m3)
      | (go_at_call 28; refine (in_c A1 l1.length c1 l1 u _ _ (H1.out.call F3.m) B4).mono ?_; rintro r w' ⟨rfl, hw'⟩; subst hw'))
    go_ret
    exact ⟨rfl, F3.m⟩
  by_cases z1 : u < 1
  case pos =>
    have dz1 : decide (u < 1) = true := decide_eq_true z1
    have f : upTo u 6 = false := by
      unfold upTo
      rw [decide_eq_false (show ¬ 1 ≤ u by omega)]; rfl
    rw [f] at hr
    clear f z1
    obtain rfl : false = b := by rw [← hr]; first | rfl | simp
    clear hr
    go_enter Try.func21, Try.ntmps21
    go_wp2_with (first
      | (with_reducible refine fm_box FA (o := ⟨some 3, .box 24 (.tmp 0), _, _, _, _⟩) rfl 24 (.tmp 0) rfl ds rfl ?_; intro b3 w1 F1; clear FA)
      | (with_reducible refine fm_load F1 0 rfl (o := ⟨some 8, .load 24 (.tmp 3), _, _, _, _⟩) rfl (.tmp 3) rfl rfl h5 ?_)
      | (go_at_call 16; refine (right_p (F1.s 0 rfl) _ B1).mono ?_
         rintro r w3 ⟨rfl, m3⟩
         have F3 := F1.call m3
         obtain ⟨q0, q1, q2, q3, q4⟩ := cells5 (HD.out ▸ F3.blk 0 rfl : Holds w3 b3 24 [ci o, ci e, .slice A1 l1.length c1, .slice A2 l2.length c2, .slice A3 l3.length c3])
         clear F1 m3)
      | (go_at_call 28; refine (in_c A1 l1.length c1 l1 u _ _ (H1.out.call F3.m) B4).mono ?_; rintro r w' ⟨rfl, hw'⟩; subst hw'))
    go_ret
    exact ⟨rfl, F3.m⟩
  have dz1 : decide (u < 1) = false := decide_eq_false z1
  by_cases z2 : 6 < u
  case pos =>
    have dz2 : decide (6 < u) = true := decide_eq_true z2
    have f : upTo u 6 = false := by
      unfold upTo
      rw [decide_eq_false (show ¬ u ≤ 6 by omega), Bool.and_false]
    rw [f] at hr
    clear f z2
    obtain rfl : false = b := by rw [← hr]; first | rfl | simp
    clear hr
    go_enter Try.func21, Try.ntmps21
    go_wp2_with (first
      | (with_reducible refine fm_box FA (o := ⟨some 3, .box 24 (.tmp 0), _, _, _, _⟩) rfl 24 (.tmp 0) rfl ds rfl ?_; intro b3 w1 F1; clear FA)
      | (with_reducible refine fm_load F1 0 rfl (o := ⟨some 8, .load 24 (.tmp 3), _, _, _, _⟩) rfl (.tmp 3) rfl rfl h5 ?_)
      | (go_at_call 16; refine (right_p (F1.s 0 rfl) _ B1).mono ?_
         rintro r w3 ⟨rfl, m3⟩
         have F3 := F1.call m3
         obtain ⟨q0, q1, q2, q3, q4⟩ := cells5 (HD.out ▸ F3.blk 0 rfl : Holds w3 b3 24 [ci o, ci e, .slice A1 l1.length c1, .slice A2 l2.length c2, .slice A3 l3.length c3])
         clear F1 m3)
      | (go_at_call 28; refine (in_c A1 l1.length c1 l1 u _ _ (H1.out.call F3.m) B4).mono ?_; rintro r w' ⟨rfl, hw'⟩; subst hw'))
    go_ret
    exact ⟨rfl, F3.m⟩
  have dz2 : decide (6 < u) = false := decide_eq_false z2
  have f : upTo u 6 = true := by
    unfold upTo
    rw [decide_eq_true (show 1 ≤ u by omega), decide_eq_true (show u ≤ 6 by omega)]
    rfl
  rw [f] at hr
  clear f z1 z2
  by_cases g : u = o
  case pos =>
    have e1 : (u == o) = true := beq_iff_eq.2 g
    rw [e1] at hr
    clear g
    obtain rfl : true = b := by rw [← hr]; first | rfl | simp
    clear hr
    go_enter Try.func21, Try.ntmps21
    go_wp2_with (first
      | (with_reducible refine fm_box FA (o := ⟨some 3, .box 24 (.tmp 0), _, _, _, _⟩) rfl 24 (.tmp 0) rfl ds rfl ?_; intro b3 w1 F1; clear FA)
      | (with_reducible refine fm_load F1 0 rfl (o := ⟨some 8, .load 24 (.tmp 3), _, _, _, _⟩) rfl (.tmp 3) rfl rfl h5 ?_)
      | (go_at_call 16; refine (right_p (F1.s 0 rfl) _ B1).mono ?_
         rintro r w3 ⟨rfl, m3⟩
         have F3 := F1.call m3
         obtain ⟨q0, q1, q2, q3, q4⟩ := cells5 (HD.out ▸ F3.blk 0 rfl : Holds w3 b3 24 [ci o, ci e, .slice A1 l1.length c1, .slice A2 l2.length c2, .slice A3 l3.length c3])
         clear F1 m3)
      | (go_at_call 28; refine (in_c A1 l1.length c1 l1 u _ _ (H1.out.call F3.m) B4).mono ?_; rintro r w' ⟨rfl, hw'⟩; subst hw'))
    go_ret
    exact ⟨rfl, F3.m⟩
  have e1 : (u == o) = false := beq_eq_false_iff_ne.2 g
  rw [e1] at hr
  clear g
  cases b4
  case true =>
    obtain rfl : true = b := by rw [← hr]; first | rfl | simp
    clear hr
    go_enter Try.func21, Try.ntmps21
    go_wp2_with (first
      | (with_reducible refine fm_box FA (o := ⟨some 3, .box 24 (.tmp 0), _, _, _, _⟩) rfl 24 (.tmp 0) rfl ds rfl ?_; intro b3 w1 F1; clear FA)
      | (with_reducible refine fm_load F1 0 rfl (o := ⟨some 8, .load 24 (.tmp 3), _, _, _, _⟩) rfl (.tmp 3) rfl rfl h5 ?_)
      | (go_at_call 16; refine (right_p (F1.s 0 rfl) _ B1).mono ?_
         rintro r w3 ⟨rfl, m3⟩
         have F3 := F1.call m3
         obtain ⟨q0, q1, q2, q3, q4⟩ := cells5 (HD.out ▸ F3.blk 0 rfl : Holds w3 b3 24 [ci o, ci e, .slice A1 l1.length c1, .slice A2 l2.length c2, .slice A3 l3.length c3])
         clear F1 m3)
      | (go_at_call 28; refine (in_c A1 l1.length c1 l1 u _ _ (H1.out.call F3.m) B4).mono ?_; rintro r w' ⟨rfl, hw'⟩; subst hw'))
    go_ret
    exact ⟨rfl, F3.m⟩
  have HB : Hid (((GL (m.drop 0) u).any fun g => l3.contains g) = b) := Lib.hid (by rw [List.drop_zero, ← hr]; simp)
  clear hr
  go_enter Try.func21, Try.ntmps21
  go_wp2_with (first
    | (with_reducible refine fm_box FA (o := ⟨some 3, .box 24 (.tmp 0), _, _, _, _⟩) rfl 24 (.tmp 0) rfl ds rfl ?_; intro b3 w1 F1; clear FA)
    | (with_reducible refine fm_load F1 0 rfl (o := ⟨some 8, .load 24 (.tmp 3), _, _, _, _⟩) rfl (.tmp 3) rfl rfl h5 ?_)
    | (go_at_call 16; refine (right_p (F1.s 0 rfl) _ B1).mono ?_
       rintro r w3 ⟨rfl, m3⟩
       have F3 := F1.call m3
       obtain ⟨q0, q1, q2, q3, q4⟩ := cells5 (HD.out ▸ F3.blk 0 rfl : Holds w3 b3 24 [ci o, ci e, .slice A1 l1.length c1, .slice A2 l2.length c2, .slice A3 l3.length c3])
       clear F1 m3)
    | (go_at_call 28; refine (in_c A1 l1.length c1 l1 u _ _ (H1.out.call F3.m) B4).mono ?_; rintro r w' ⟨rfl, hw'⟩; subst hw'))
  have K3 : Hid (Holds w' b3 24 [ci o, ci e, .slice A1 l1.length c1, .slice A2 l2.length c2, .slice A3 l3.length c3] ∧ Mod [] w w') := Lib.hid ⟨HD.out ▸ F3.blk 0 rfl, F3.m⟩
  clear F3 q0 q1 q2 q3 q4
  go_loopw [7] (fun i wr => ∃ j : Nat, i = .int .i64 j ∧ j ≤ n0 ∧ Hid (Holds wr b3 24 [ci o, ci e, .slice A1 l1.length c1, .slice A2 l2.length c2, .slice A3 l3.length c3] ∧ Mod [] w wr) ∧ Hid (((GL (m.drop j) u).any fun g => l3.contains g) = b)) (fun i _ => n0 - (intOf i).toNat)
  case atStart => exact ⟨0, rfl, Nat.zero_le _, K3, HB⟩
  case round =>
  obtain ⟨j, rfl, hj, hk, hr⟩ := hrel
  clear HB K3
  obtain ⟨q0, q1, q2, q3, q4⟩ := cells5 hk.out.1
  by_cases hjn : j < n0
  case neg =>
    obtain rfl : n0 = j := by omega
    obtain rfl : false = b := by
      rw [← hr.out, List.drop_of_length_le (by have := HN0.out; omega)]
      rfl
    clear hr
    go_wp2_with fail
    go_ret
    exact ⟨rfl, hk.out.2⟩
  case pos =>
    have hjm : j < m.length := by rw [← HN0.out]; exact hjn
    obtain ⟨g, f, hA, hc0, hc1⟩ := (HM.out.call hk.out.2).two j hjm
    subst hA
    have hr2 := hr.out
    rw [List.drop_eq_getElem_cons hjm] at hr2
    obtain ⟨x, hx⟩ : ∃ x, x = m[j] := ⟨_, rfl⟩
    rw [← hx] at hc0 hc1 hr2
    obtain ⟨gx, ux⟩ := x
    simp only at hc0 hc1
    clear hr hx
    have HI := Lib.hid (H3.out.call hk.out.2)
    by_cases hux : ux = u
    · have e2 : (ux == u) = true := beq_iff_eq.2 hux
      obtain ⟨d, hd⟩ : ∃ d, l3.contains gx = d := ⟨_, rfl⟩
      have hr3 : (d || (GL (m.drop (j + 1)) u).any fun g => l3.contains g) = b := by
        rw [← hr2]
        simp only [GL, List.filter_cons, e2, if_true, List.map_cons, List.any_cons, hd]
      have HDX := Lib.hid hd
      clear hr2 hd hux
      cases d
      · have HR2 : Hid (((GL (m.drop (j + 1)) u).any fun g => l3.contains g) = b) := Lib.hid (by rw [← hr3, Bool.false_or])
        clear hr3
        go_wp2_with fail
        go_quiet ((go_at_call 28; exact Calls.quiet_of_same (in_c A3 l3.length c3 l3 gx _ _ (HI.out.call (Mod.drewN [] _ _)) HDX)))
        go_wp2_with fail
        exact ⟨⟨j + 1, by go_num, by omega, Lib.hid ⟨hk.out.1.keep (Mod.drewN [] _ _) (by simp), hk.out.2.then (Mod.drewN _ _ _)⟩, HR2⟩, by simp [intOf]; omega⟩
      · obtain rfl : true = b := by rw [← hr3, Bool.true_or]
        clear hr3
        go_wp2_with fail
        go_quiet ((go_at_call 28; exact Calls.quiet_of_same (in_c A3 l3.length c3 l3 gx _ _ (HI.out.call (Mod.drewN [] _ _)) HDX)))
        go_wp2_with fail
        go_ret
        exact ⟨rfl, hk.out.2.then (Mod.drewN _ _ _)⟩
    · have e2 : (ux == u) = false := beq_eq_false_iff_ne.2 hux
      have HR2 : Hid (((GL (m.drop (j + 1)) u).any fun g => l3.contains g) = b) := Lib.hid (by
        rw [← hr2]
        simp only [GL, List.filter_cons, e2]
        rfl)
      clear hr2 hux
      go_wp2_with fail
      go_quiet (fail)
      go_wp2_with fail
      exact ⟨⟨j + 1, by go_num, by omega, Lib.hid ⟨hk.out.1.keep (Mod.drewN [] _ _) (by simp), hk.out.2.then (Mod.drewN _ _ _)⟩, HR2⟩, by simp [intOf]; omega⟩
end Go.Proofs.Ytaadmpainikfpaa
