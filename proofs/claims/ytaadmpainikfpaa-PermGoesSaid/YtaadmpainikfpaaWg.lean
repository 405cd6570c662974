/-
  The document's Right. My own work.
-/
import Derived.Test.YtaadmpainikfpaaWf
namespace Go.Proofs.Ytaadmpainikfpaa
open Go.RowKit Go.Shelf
attribute [local go_sem] Oper.semAt_some
set_option linter.unusedVariables false
set_option linter.unusedSimpArgs false
theorem cells5 {w : World} {g : Nat} {a b c d e : Value} (h : Holds w g 24 [a, b, c, d, e]) : w.cell? ⟨g, 0, none⟩ = some a ∧ w.cell? ⟨g, 1, none⟩ = some b ∧ w.cell? ⟨g, 2, none⟩ = some c ∧ w.cell? ⟨g, 3, none⟩ = some d ∧ w.cell? ⟨g, 4, none⟩ = some e :=
  ⟨h.cell 0, h.cell 1, h.cell 2, h.cell 3, h.cell 4⟩

set_option maxHeartbeats 4000000 in
theorem right_c (o e : Int) (A1 A2 A3 : Option Addr) (n1 c1 n2 c2 n3 c3 : Nat) (l1 l2 l3 : List Int) (b : Bool) (w : World) (h1 : RI w A1 n1 c1 l1) (h2 : RI w A2 n2 c2 l2) (h3 : RI w A3 n3 c3 l3) (hb : Hid ((Pm.mk o e l1 l2 l3).rightR = b)) :
    Calls Try.prog 16 #[.agg #[ci o, ci e, .slice A1 n1 c1, .slice A2 n2 c2, .slice A3 n3 c3]] w fun r w' => r = .returned (.bool b) ∧ Mod [] w w' := by
  have hr := hb.out
  rw [rightR_split] at hr
  clear hb
  have H1 := Lib.hid h1
  have H2 := Lib.hid h2
  have H3 := Lib.hid h3
  have hcap := h2.cap
  have hbig := h2.big
  clear h1 h2 h3
  obtain ⟨b1, hb1⟩ : ∃ x, riseN l1 6 o = x := ⟨_, rfl⟩
  obtain ⟨b2, hb2⟩ : ∃ x, riseN l2 6 o = x := ⟨_, rfl⟩
  obtain ⟨b3, hb3⟩ : ∃ x, riseN l3 3 0 = x := ⟨_, rfl⟩
  rw [hb1, hb2, hb3] at hr
  have B1 := Lib.hid hb1
  have B2 := Lib.hid hb2
  have B3 := Lib.hid hb3
  clear hb1 hb2 hb3
  have m0 : Mod [] w (w.alloc (.cells ([ci o, ci e, .slice A1 n1 c1, .slice A2 n2 c2, .slice A3 n3 c3] : List Value).toArray 24)) := Mod.alloc [] w _
  have k0 : Holds (w.alloc (.cells ([ci o, ci e, .slice A1 n1 c1, .slice A2 n2 c2, .slice A3 n3 c3] : List Value).toArray 24)) w.heap.size 24 [ci o, ci e, .slice A1 n1 c1, .slice A2 n2 c2, .slice A3 n3 c3] := Holds.made w 24 _
  have M0 := Lib.hid m0
  have K0 := Lib.hid k0
  clear m0 k0
  by_cases g0 : 1 ≤ o
  case neg =>
    have d0 : decide (o < 1) = true := decide_eq_true (by omega)
    have f0 : decide (1 ≤ o) = false := decide_eq_false g0
    obtain rfl : false = b := by rw [← hr]; simp [upTo, f0]
    clear hr f0 g0
    go_enter Try.func16, Try.ntmps16
    go_wp2_with fail
    go_ret
    exact ⟨rfl, M0.out⟩
  have d0 : decide (o < 1) = false := decide_eq_false (by omega)
  by_cases g1 : o ≤ 6
  case neg =>
    have d1 : decide (6 < o) = true := decide_eq_true (by omega)
    have f1 : decide (o ≤ 6) = false := decide_eq_false g1
    obtain rfl : false = b := by rw [← hr]; simp [upTo, f1]
    clear hr f1 g1
    go_enter Try.func16, Try.ntmps16
    go_wp2_with fail
    go_ret
    exact ⟨rfl, M0.out⟩
  have d1 : decide (6 < o) = false := decide_eq_false (by omega)
  by_cases g2 : 1 ≤ e
  case neg =>
    have d2 : decide (e < 1) = true := decide_eq_true (by omega)
    have f2 : decide (1 ≤ e) = false := decide_eq_false g2
    obtain rfl : false = b := by rw [← hr]; simp [upTo, f2]
    clear hr f2 g2
    go_enter Try.func16, Try.ntmps16
    go_wp2_with fail
    go_ret
    exact ⟨rfl, M0.out⟩
  have d2 : decide (e < 1) = false := decide_eq_false (by omega)
  by_cases g3 : e ≤ 8
  case neg =>
    have d3 : decide (8 < e) = true := decide_eq_true (by omega)
    have f3 : decide (e ≤ 8) = false := decide_eq_false g3
    obtain rfl : false = b := by rw [← hr]; simp [upTo, f3]
    clear hr f3 g3
    go_enter Try.func16, Try.ntmps16
    go_wp2_with fail
    go_ret
    exact ⟨rfl, M0.out⟩
  have d3 : decide (8 < e) = false := decide_eq_false (by omega)
  have hu1 : upTo o 6 = true := by simp [upTo, g0, g1]
  have hu2 : upTo e 8 = true := by simp [upTo, g2, g3]
  rw [hu1, hu2, Bool.true_and, Bool.true_and] at hr
  clear hu1 hu2 g0 g1 g2 g3
  cases b1
  case false =>
    obtain rfl : false = b := by rw [← hr]; first | rfl | simp
    clear hr
    go_enter Try.func16, Try.ntmps16
    go_wp2_with (first
      | (go_at_call 35; with_reducible refine (rising_c A1 n1 c1 l1 6 o _ _ (H1.out.call M0.out) B1).mono ?_
         rintro r w1 ⟨rfl, m1⟩
         have M1 := Lib.hid (Mod.then M0.out m1)
         have K1 := Lib.hid (Holds.keep K0.out m1 (by simp))
         obtain ⟨q0, q1, q2, q3, q4⟩ := cells5 K1.out
         clear m1))
    go_ret
    exact ⟨rfl, M1.out⟩
  case true =>
  cases b2
  case false =>
    obtain rfl : false = b := by rw [← hr]; first | rfl | simp
    clear hr
    go_enter Try.func16, Try.ntmps16
    go_wp2_with (first
      | (go_at_call 35; with_reducible refine (rising_c A1 n1 c1 l1 6 o _ _ (H1.out.call M0.out) B1).mono ?_
         rintro r w1 ⟨rfl, m1⟩
         have M1 := Lib.hid (Mod.then M0.out m1)
         have K1 := Lib.hid (Holds.keep K0.out m1 (by simp))
         obtain ⟨q0, q1, q2, q3, q4⟩ := cells5 K1.out
         clear m1)
      | (go_at_call 35; with_reducible refine (rising_c A2 n2 c2 l2 6 o _ _ (H2.out.call M1.out) B2).mono ?_
         rintro r w2 ⟨rfl, m2⟩
         have M2 := Lib.hid (Mod.then M1.out m2)
         have K2 := Lib.hid (Holds.keep K1.out m2 (by simp))
         obtain ⟨q0, q1, q2, q3, q4⟩ := cells5 K2.out
         clear m2))
    go_ret
    exact ⟨rfl, M2.out⟩
  case true =>
  cases b3
  case false =>
    obtain rfl : false = b := by rw [← hr]; first | rfl | simp
    clear hr
    go_enter Try.func16, Try.ntmps16
    go_wp2_with (first
      | (go_at_call 35; with_reducible refine (rising_c A1 n1 c1 l1 6 o _ _ (H1.out.call M0.out) B1).mono ?_
         rintro r w1 ⟨rfl, m1⟩
         have M1 := Lib.hid (Mod.then M0.out m1)
         have K1 := Lib.hid (Holds.keep K0.out m1 (by simp))
         obtain ⟨q0, q1, q2, q3, q4⟩ := cells5 K1.out
         clear m1)
      | (go_at_call 35; with_reducible refine (rising_c A2 n2 c2 l2 6 o _ _ (H2.out.call M1.out) B2).mono ?_
         rintro r w2 ⟨rfl, m2⟩
         have M2 := Lib.hid (Mod.then M1.out m2)
         have K2 := Lib.hid (Holds.keep K1.out m2 (by simp))
         obtain ⟨q0, q1, q2, q3, q4⟩ := cells5 K2.out
         clear m2)
      | (go_at_call 35; with_reducible refine (rising_c A3 n3 c3 l3 3 0 _ _ (H3.out.call M2.out) B3).mono ?_
         rintro r w3 ⟨rfl, m3⟩
         have M3 := Lib.hid (Mod.then M2.out m3)
         have K3 := Lib.hid (Holds.keep K2.out m3 (by simp))
         obtain ⟨q0, q1, q2, q3, q4⟩ := cells5 K3.out
         clear m3))
    go_ret
    exact ⟨rfl, M3.out⟩
  case true =>
  have HB : Hid (((l2.drop 0).all fun x => l1.contains x) = b) := Lib.hid (by rw [List.drop_zero, ← hr]; rfl)
  clear hr
  go_enter Try.func16, Try.ntmps16
  go_wp2_with (first
    | (go_at_call 35; with_reducible refine (rising_c A1 n1 c1 l1 6 o _ _ (H1.out.call M0.out) B1).mono ?_
       rintro r w1 ⟨rfl, m1⟩
       have M1 := Lib.hid (Mod.then M0.out m1)
       have K1 := Lib.hid (Holds.keep K0.out m1 (by simp))
       obtain ⟨q0, q1, q2, q3, q4⟩ := cells5 K1.out
       clear m1)
    | (go_at_call 35; with_reducible refine (rising_c A2 n2 c2 l2 6 o _ _ (H2.out.call M1.out) B2).mono ?_
       rintro r w2 ⟨rfl, m2⟩
       have M2 := Lib.hid (Mod.then M1.out m2)
       have K2 := Lib.hid (Holds.keep K1.out m2 (by simp))
       obtain ⟨q0, q1, q2, q3, q4⟩ := cells5 K2.out
       clear m2)
    | (go_at_call 35; with_reducible refine (rising_c A3 n3 c3 l3 3 0 _ _ (H3.out.call M2.out) B3).mono ?_
       rintro r w3 ⟨rfl, m3⟩
       have M3 := Lib.hid (Mod.then M2.out m3)
       have K3 := Lib.hid (Holds.keep K2.out m3 (by simp))
       obtain ⟨q0, q1, q2, q3, q4⟩ := cells5 K3.out
       clear m3))
  clear q0 q1 q2 q3 q4
  go_loopw [3] (fun i wr => ∃ j : Nat, i = .int .i64 j ∧ j ≤ n2 ∧ Hid (Mod [] w wr) ∧ Hid (Holds wr w.heap.size 24 [ci o, ci e, .slice A1 n1 c1, .slice A2 n2 c2, .slice A3 n3 c3]) ∧ Hid (((l2.drop j).all fun x => l1.contains x) = b)) (fun i _ => n2 - (intOf i).toNat)
  case atStart => exact ⟨0, rfl, Nat.zero_le _, M3, K3, HB⟩
  case round =>
  obtain ⟨j, rfl, hj, hm, hk, hr⟩ := hrel
  clear HB
  obtain ⟨q0, q1, q2, q3, q4⟩ := cells5 hk.out
  by_cases hjn : j < n2
  case neg =>
    obtain rfl : n2 = j := by omega
    obtain rfl : true = b := by
      have hl := H2.out.len
      rw [← hr.out, List.drop_of_length_le (by omega)]
      rfl
    go_wp2_with fail
    go_ret
    exact ⟨rfl, hm.out⟩
  case pos =>
    obtain ⟨g, o2, hA, hc⟩ := (H2.out.call hm.out).at j hjn
    subst hA
    have hr2 := hr.out
    have hl := H2.out.len
    rw [drop_cons' (by omega), List.all_cons] at hr2
    clear hr hl
    obtain ⟨y, hy⟩ : ∃ y, y = l2.getD j 0 := ⟨_, rfl⟩
    rw [← hy] at hc hr2
    clear hy
    obtain ⟨u, hu⟩ : ∃ u, l1.contains y = u := ⟨_, rfl⟩
    rw [hu] at hr2
    have HU := Lib.hid hu
    clear hu
    have HI := Lib.hid (H1.out.call hm.out)
    cases u
    · obtain rfl : false = b := by rw [← hr2]; rfl
      clear hr2
      go_wp2_with fail
      go_quiet ((go_at_call 28; exact Calls.quiet_of_same (in_c A1 n1 c1 l1 y _ _ (HI.out.call (Mod.drewN [] _ _)) HU)))
      go_wp2_with fail
      go_ret
      exact ⟨rfl, hm.out.then (Mod.drewN _ _ _)⟩
    · have HR : Hid (((l2.drop (j + 1)).all fun x => l1.contains x) = b) := Lib.hid (by rw [← hr2, Bool.true_and])
      clear hr2
      go_wp2_with fail
      go_quiet ((go_at_call 28; exact Calls.quiet_of_same (in_c A1 n1 c1 l1 y _ _ (HI.out.call (Mod.drewN [] _ _)) HU)))
      go_wp2_with fail
      exact ⟨⟨j + 1, by go_num, by omega, Lib.hid (hm.out.then (Mod.drewN _ _ _)), Lib.hid (hk.out.keep (Mod.drewN [] _ _) (by simp)), HR⟩, by simp [intOf]; omega⟩
end Go.Proofs.Ytaadmpainikfpaa
