/-
  Same: the program's, and the document's. My own work.
-/
import Derived.Test.YtaadmpainikfpaaWg
namespace Go.Proofs.Ytaadmpainikfpaa
open Go.RowKit Go.Shelf
attribute [local go_sem] Oper.semAt_some
set_option linter.unusedVariables false
set_option linter.unusedSimpArgs false
def sameB (p q : Pm) : Bool := (p.own == q.own) && ((p.ep == q.ep) && ((p.rd == q.rd) && ((p.wr == q.wr) && (p.gp == q.gp))))
theorem sameB_iff (p q : Pm) : sameB p q = true ↔ p = q := by
  obtain ⟨a, b, c, d, e⟩ := p
  obtain ⟨a', b', c', d', e'⟩ := q
  simp [sameB]

set_option maxHeartbeats 4000000 in
theorem psame_c (o e o' e' : Int) (A1 A2 A3 B1 B2 B3 : Option Addr) (n1 c1 n2 c2 n3 c3 m1 d1 m2 d2 m3 d3 : Nat) (l1 l2 l3 k1 k2 k3 : List Int) (b : Bool) (w : World) (h1 : RI w A1 n1 c1 l1) (h2 : RI w A2 n2 c2 l2) (h3 : RI w A3 n3 c3 l3) (g1 : RI w B1 m1 d1 k1) (g2 : RI w B2 m2 d2 k2) (g3 : RI w B3 m3 d3 k3) (hb : Hid (sameB ⟨o, e, l1, l2, l3⟩ ⟨o', e', k1, k2, k3⟩ = b)) :
    Calls Try.prog 17 #[.agg #[ci o, ci e, .slice A1 n1 c1, .slice A2 n2 c2, .slice A3 n3 c3], .agg #[ci o', ci e', .slice B1 m1 d1, .slice B2 m2 d2, .slice B3 m3 d3]] w fun r w' => r = .returned (.bool b) ∧ Mod [] w w' := by
  have hr := hb.out
  simp only [sameB] at hr
  clear hb
  have H1 := Lib.hid h1
  have H2 := Lib.hid h2
  have H3 := Lib.hid h3
  have G1 := Lib.hid g1
  have G2 := Lib.hid g2
  have G3 := Lib.hid g3
  clear h1 h2 h3 g1 g2 g3
  obtain ⟨x1, hx1⟩ : ∃ x, (l1 == k1) = x := ⟨_, rfl⟩
  obtain ⟨x2, hx2⟩ : ∃ x, (l2 == k2) = x := ⟨_, rfl⟩
  obtain ⟨x3, hx3⟩ : ∃ x, (l3 == k3) = x := ⟨_, rfl⟩
  rw [hx1, hx2, hx3] at hr
  have X1 := Lib.hid hx1
  have X2 := Lib.hid hx2
  have X3 := Lib.hid hx3
  clear hx1 hx2 hx3
  have M0 : Hid (Mod [] w ((w.alloc (.cells ([ci o, ci e, .slice A1 n1 c1, .slice A2 n2 c2, .slice A3 n3 c3] : List Value).toArray 24)).alloc (.cells ([ci o', ci e', .slice B1 m1 d1, .slice B2 m2 d2, .slice B3 m3 d3] : List Value).toArray 24))) := Lib.hid ((Mod.alloc [] w _).then (Mod.alloc [] _ _))
  have K0 : Hid (Holds ((w.alloc (.cells ([ci o, ci e, .slice A1 n1 c1, .slice A2 n2 c2, .slice A3 n3 c3] : List Value).toArray 24)).alloc (.cells ([ci o', ci e', .slice B1 m1 d1, .slice B2 m2 d2, .slice B3 m3 d3] : List Value).toArray 24)) w.heap.size 24 [ci o, ci e, .slice A1 n1 c1, .slice A2 n2 c2, .slice A3 n3 c3]) := Lib.hid ((Holds.made w 24 _).keep (Mod.alloc [] _ _) (by simp))
  have L0 : Hid (Holds ((w.alloc (.cells ([ci o, ci e, .slice A1 n1 c1, .slice A2 n2 c2, .slice A3 n3 c3] : List Value).toArray 24)).alloc (.cells ([ci o', ci e', .slice B1 m1 d1, .slice B2 m2 d2, .slice B3 m3 d3] : List Value).toArray 24)) (w.heap.size + 1) 24 [ci o', ci e', .slice B1 m1 d1, .slice B2 m2 d2, .slice B3 m3 d3]) := Lib.hid (by
    have := Holds.made (w.alloc (.cells ([ci o, ci e, .slice A1 n1 c1, .slice A2 n2 c2, .slice A3 n3 c3] : List Value).toArray 24)) 24 [ci o', ci e', .slice B1 m1 d1, .slice B2 m2 d2, .slice B3 m3 d3]
    rwa [World.size_alloc] at this)
  obtain ⟨y0, hy0⟩ : ∃ x, (o == o') = x := ⟨_, rfl⟩
  rw [hy0] at hr
  cases y0
  case false =>
    obtain rfl : false = b := by rw [← hr]; first | rfl | simp
    clear hr
    go_enter Try.func17, Try.ntmps17
    go_wp2_with fail
    go_ret
    exact ⟨rfl, M0.out⟩
  case true =>
  obtain ⟨y1, hy1⟩ : ∃ x, (e == e') = x := ⟨_, rfl⟩
  rw [hy1] at hr
  cases y1
  case false =>
    obtain rfl : false = b := by rw [← hr]; first | rfl | simp
    clear hr
    go_enter Try.func17, Try.ntmps17
    go_wp2_with fail
    go_ret
    exact ⟨rfl, M0.out⟩
  case true =>
  cases x1
  case false =>
    obtain rfl : false = b := by rw [← hr]; first | rfl | simp
    clear hr
    go_enter Try.func17, Try.ntmps17
    go_wp2_with (first
      | (go_at_call 36; with_reducible refine (equal_c A1 B1 n1 c1 m1 d1 l1 k1 _ _ (H1.out.call M0.out) (G1.out.call M0.out) X1).mono ?_
         rintro r w1 ⟨rfl, qq1, hq1⟩
         have m1 : Mod [] _ w1 := hq1 ▸ Mod.drewN [] _ qq1
         have M1 := Lib.hid (Mod.then M0.out m1)
         have K1 := Lib.hid (Holds.keep K0.out m1 (by simp))
         have L1 := Lib.hid (Holds.keep L0.out m1 (by simp))
         obtain ⟨q0, q1, q2, q3, q4⟩ := cells5 K1.out
         obtain ⟨r0, r1, r2, r3, r4⟩ := cells5 L1.out
         clear m1 hq1))
    go_ret
    exact ⟨rfl, M1.out⟩
  case true =>
  cases x2
  case false =>
    obtain rfl : false = b := by rw [← hr]; first | rfl | simp
    clear hr
    go_enter Try.func17, Try.ntmps17
    go_wp2_with (first
      | (go_at_call 36; with_reducible refine (equal_c A1 B1 n1 c1 m1 d1 l1 k1 _ _ (H1.out.call M0.out) (G1.out.call M0.out) X1).mono ?_
         rintro r w1 ⟨rfl, qq1, hq1⟩
         have m1 : Mod [] _ w1 := hq1 ▸ Mod.drewN [] _ qq1
         have M1 := Lib.hid (Mod.then M0.out m1)
         have K1 := Lib.hid (Holds.keep K0.out m1 (by simp))
         have L1 := Lib.hid (Holds.keep L0.out m1 (by simp))
         obtain ⟨q0, q1, q2, q3, q4⟩ := cells5 K1.out
         obtain ⟨r0, r1, r2, r3, r4⟩ := cells5 L1.out
         clear m1 hq1)
      | (go_at_call 36; with_reducible refine (equal_c A2 B2 n2 c2 m2 d2 l2 k2 _ _ (H2.out.call M1.out) (G2.out.call M1.out) X2).mono ?_
         rintro r w2 ⟨rfl, qq2, hq2⟩
         have m2 : Mod [] _ w2 := hq2 ▸ Mod.drewN [] _ qq2
         have M2 := Lib.hid (Mod.then M1.out m2)
         have K2 := Lib.hid (Holds.keep K1.out m2 (by simp))
         have L2 := Lib.hid (Holds.keep L1.out m2 (by simp))
         obtain ⟨q0, q1, q2, q3, q4⟩ := cells5 K2.out
         obtain ⟨r0, r1, r2, r3, r4⟩ := cells5 L2.out
         clear m2 hq2))
    go_ret
    exact ⟨rfl, M2.out⟩
  case true =>
  cases x3
  case false =>
    obtain rfl : false = b := by rw [← hr]; first | rfl | simp
    clear hr
    go_enter Try.func17, Try.ntmps17
    go_wp2_with (first
      | (go_at_call 36; with_reducible refine (equal_c A1 B1 n1 c1 m1 d1 l1 k1 _ _ (H1.out.call M0.out) (G1.out.call M0.out) X1).mono ?_
         rintro r w1 ⟨rfl, qq1, hq1⟩
         have m1 : Mod [] _ w1 := hq1 ▸ Mod.drewN [] _ qq1
         have M1 := Lib.hid (Mod.then M0.out m1)
         have K1 := Lib.hid (Holds.keep K0.out m1 (by simp))
         have L1 := Lib.hid (Holds.keep L0.out m1 (by simp))
         obtain ⟨q0, q1, q2, q3, q4⟩ := cells5 K1.out
         obtain ⟨r0, r1, r2, r3, r4⟩ := cells5 L1.out
         clear m1 hq1)
      | (go_at_call 36; with_reducible refine (equal_c A2 B2 n2 c2 m2 d2 l2 k2 _ _ (H2.out.call M1.out) (G2.out.call M1.out) X2).mono ?_
         rintro r w2 ⟨rfl, qq2, hq2⟩
         have m2 : Mod [] _ w2 := hq2 ▸ Mod.drewN [] _ qq2
         have M2 := Lib.hid (Mod.then M1.out m2)
         have K2 := Lib.hid (Holds.keep K1.out m2 (by simp))
         have L2 := Lib.hid (Holds.keep L1.out m2 (by simp))
         obtain ⟨q0, q1, q2, q3, q4⟩ := cells5 K2.out
         obtain ⟨r0, r1, r2, r3, r4⟩ := cells5 L2.out
         clear m2 hq2)
      | (go_at_call 36; with_reducible refine (equal_c A3 B3 n3 c3 m3 d3 l3 k3 _ _ (H3.out.call M2.out) (G3.out.call M2.out) X3).mono ?_
         rintro r w3 ⟨rfl, qq3, hq3⟩
         have m3 : Mod [] _ w3 := hq3 ▸ Mod.drewN [] _ qq3
         have M3 := Lib.hid (Mod.then M2.out m3)
         have K3 := Lib.hid (Holds.keep K2.out m3 (by simp))
         have L3 := Lib.hid (Holds.keep L2.out m3 (by simp))
         obtain ⟨q0, q1, q2, q3, q4⟩ := cells5 K3.out
         obtain ⟨r0, r1, r2, r3, r4⟩ := cells5 L3.out
         clear m3 hq3))
    go_ret
    exact ⟨rfl, M3.out⟩
  case true =>
  obtain rfl : true = b := by rw [← hr]; first | rfl | simp
  clear hr
  go_enter Try.func17, Try.ntmps17
  go_wp2_with (first
    | (go_at_call 36; with_reducible refine (equal_c A1 B1 n1 c1 m1 d1 l1 k1 _ _ (H1.out.call M0.out) (G1.out.call M0.out) X1).mono ?_
       rintro r w1 ⟨rfl, qq1, hq1⟩
       have m1 : Mod [] _ w1 := hq1 ▸ Mod.drewN [] _ qq1
       have M1 := Lib.hid (Mod.then M0.out m1)
       have K1 := Lib.hid (Holds.keep K0.out m1 (by simp))
       have L1 := Lib.hid (Holds.keep L0.out m1 (by simp))
       obtain ⟨q0, q1, q2, q3, q4⟩ := cells5 K1.out
       obtain ⟨r0, r1, r2, r3, r4⟩ := cells5 L1.out
       clear m1 hq1)
    | (go_at_call 36; with_reducible refine (equal_c A2 B2 n2 c2 m2 d2 l2 k2 _ _ (H2.out.call M1.out) (G2.out.call M1.out) X2).mono ?_
       rintro r w2 ⟨rfl, qq2, hq2⟩
       have m2 : Mod [] _ w2 := hq2 ▸ Mod.drewN [] _ qq2
       have M2 := Lib.hid (Mod.then M1.out m2)
       have K2 := Lib.hid (Holds.keep K1.out m2 (by simp))
       have L2 := Lib.hid (Holds.keep L1.out m2 (by simp))
       obtain ⟨q0, q1, q2, q3, q4⟩ := cells5 K2.out
       obtain ⟨r0, r1, r2, r3, r4⟩ := cells5 L2.out
       clear m2 hq2)
    | (go_at_call 36; with_reducible refine (equal_c A3 B3 n3 c3 m3 d3 l3 k3 _ _ (H3.out.call M2.out) (G3.out.call M2.out) X3).mono ?_
       rintro r w3 ⟨rfl, qq3, hq3⟩
       have m3 : Mod [] _ w3 := hq3 ▸ Mod.drewN [] _ qq3
       have M3 := Lib.hid (Mod.then M2.out m3)
       have K3 := Lib.hid (Holds.keep K2.out m3 (by simp))
       have L3 := Lib.hid (Holds.keep L2.out m3 (by simp))
       obtain ⟨q0, q1, q2, q3, q4⟩ := cells5 K3.out
       obtain ⟨r0, r1, r2, r3, r4⟩ := cells5 L3.out
       clear m3 hq3))
  go_ret
  exact ⟨rfl, M3.out⟩
set_option maxHeartbeats 8000000 in
theorem rsame_c (o e o' e' : Int) (A1 A2 A3 B1 B2 B3 : Option Addr) (n1 c1 n2 c2 n3 c3 m1 d1 m2 d2 m3 d3 : Nat) (l1 l2 l3 k1 k2 k3 : List Int) (b : Bool) (w : World) (h1 : RI w A1 n1 c1 l1) (h2 : RI w A2 n2 c2 l2) (h3 : RI w A3 n3 c3 l3) (g1 : RI w B1 m1 d1 k1) (g2 : RI w B2 m2 d2 k2) (g3 : RI w B3 m3 d3 k3) (hb : Hid (sameB ⟨o, e, l1, l2, l3⟩ ⟨o', e', k1, k2, k3⟩ = b)) :
    Calls Try.prog 13 #[.agg #[ci o, ci e, .slice A1 n1 c1, .slice A2 n2 c2, .slice A3 n3 c3], .agg #[ci o', ci e', .slice B1 m1 d1, .slice B2 m2 d2, .slice B3 m3 d3]] w fun r w' => r = .returned (.bool b) ∧ Mod [] w w' := by
  have hr := hb.out
  simp only [sameB] at hr
  clear hb
  have H1 := Lib.hid h1
  have H2 := Lib.hid h2
  have H3 := Lib.hid h3
  have G1 := Lib.hid g1
  have G2 := Lib.hid g2
  have G3 := Lib.hid g3
  have hc1 := h1.cap
  have hb1 := h1.big
  have hc2 := h2.cap
  have hb2 := h2.big
  have hc3 := h3.cap
  have hb3 := h3.big
  clear h1 h2 h3 g1 g2 g3
  obtain ⟨x1, hx1⟩ : ∃ x, (l1 == k1) = x := ⟨_, rfl⟩
  obtain ⟨x2, hx2⟩ : ∃ x, (l2 == k2) = x := ⟨_, rfl⟩
  obtain ⟨x3, hx3⟩ : ∃ x, (l3 == k3) = x := ⟨_, rfl⟩
  rw [hx1, hx2, hx3] at hr
  have X1 := Lib.hid hx1
  have X2 := Lib.hid hx2
  have X3 := Lib.hid hx3
  clear hx1 hx2 hx3
  have M0 : Hid (Mod [] w ((w.alloc (.cells ([ci o, ci e, .slice A1 n1 c1, .slice A2 n2 c2, .slice A3 n3 c3] : List Value).toArray 24)).alloc (.cells ([ci o', ci e', .slice B1 m1 d1, .slice B2 m2 d2, .slice B3 m3 d3] : List Value).toArray 24))) := Lib.hid ((Mod.alloc [] w _).then (Mod.alloc [] _ _))
  have K0 : Hid (Holds ((w.alloc (.cells ([ci o, ci e, .slice A1 n1 c1, .slice A2 n2 c2, .slice A3 n3 c3] : List Value).toArray 24)).alloc (.cells ([ci o', ci e', .slice B1 m1 d1, .slice B2 m2 d2, .slice B3 m3 d3] : List Value).toArray 24)) w.heap.size 24 [ci o, ci e, .slice A1 n1 c1, .slice A2 n2 c2, .slice A3 n3 c3]) := Lib.hid ((Holds.made w 24 _).keep (Mod.alloc [] _ _) (by simp))
  have L0 : Hid (Holds ((w.alloc (.cells ([ci o, ci e, .slice A1 n1 c1, .slice A2 n2 c2, .slice A3 n3 c3] : List Value).toArray 24)).alloc (.cells ([ci o', ci e', .slice B1 m1 d1, .slice B2 m2 d2, .slice B3 m3 d3] : List Value).toArray 24)) (w.heap.size + 1) 24 [ci o', ci e', .slice B1 m1 d1, .slice B2 m2 d2, .slice B3 m3 d3]) := Lib.hid (by
    have := Holds.made (w.alloc (.cells ([ci o, ci e, .slice A1 n1 c1, .slice A2 n2 c2, .slice A3 n3 c3] : List Value).toArray 24)) 24 [ci o', ci e', .slice B1 m1 d1, .slice B2 m2 d2, .slice B3 m3 d3]
    rwa [World.size_alloc] at this)
  obtain ⟨q0, q1, q2, q3, q4⟩ := cells5 K0.out
  obtain ⟨r0, r1, r2, r3, r4⟩ := cells5 L0.out
  clear q0 q1 q2 q3 q4 r0 r1 r2 r3 r4
  by_cases z0 : o = o'
  case neg =>
    have y0 : (o == o') = false := beq_eq_false_iff_ne.2 z0
    have yy0 : (o != o') = true := by simp [z0]
    rw [y0] at hr
    clear z0
    obtain rfl : false = b := by rw [← hr]; first | rfl | simp
    clear hr
    go_enter Try.func13, Try.ntmps13
    go_wp2_with fail
    go_ret
    exact ⟨rfl, M0.out⟩
  have y0 : (o == o') = true := beq_iff_eq.2 z0
  have yy0 : (o != o') = false := by simp [z0]
  rw [y0] at hr
  clear z0
  by_cases z1 : e = e'
  case neg =>
    have y1 : (e == e') = false := beq_eq_false_iff_ne.2 z1
    have yy1 : (e != e') = true := by simp [z1]
    rw [y1] at hr
    clear z1
    obtain rfl : false = b := by rw [← hr]; first | rfl | simp
    clear hr
    go_enter Try.func13, Try.ntmps13
    go_wp2_with fail
    go_ret
    exact ⟨rfl, M0.out⟩
  have y1 : (e == e') = true := beq_iff_eq.2 z1
  have yy1 : (e != e') = false := by simp [z1]
  rw [y1] at hr
  clear z1
  by_cases z2 : n1 = m1
  case neg =>
    have hx : x1 = false := by
      rw [← X1.out, beq_eq_false_iff_ne]
      intro e
      have a := H1.out.len
      have b := G1.out.len
      rw [e] at a
      omega
    subst hx
    obtain rfl : false = b := by rw [← hr]; first | rfl | simp
    clear hr
    go_enter Try.func13, Try.ntmps13
    go_wp2_with fail
    go_ret
    exact ⟨rfl, M0.out⟩
  have F1 := Lib.hid z2
  subst z2
  clear F1
  by_cases z3 : n2 = m2
  case neg =>
    have hx : x2 = false := by
      rw [← X2.out, beq_eq_false_iff_ne]
      intro e
      have a := H2.out.len
      have b := G2.out.len
      rw [e] at a
      omega
    subst hx
    obtain rfl : false = b := by rw [← hr]; first | rfl | simp
    clear hr
    go_enter Try.func13, Try.ntmps13
    go_wp2_with fail
    go_ret
    exact ⟨rfl, M0.out⟩
  have F2 := Lib.hid z3
  subst z3
  clear F2
  by_cases z4 : n3 = m3
  case neg =>
    have hx : x3 = false := by
      rw [← X3.out, beq_eq_false_iff_ne]
      intro e
      have a := H3.out.len
      have b := G3.out.len
      rw [e] at a
      omega
    subst hx
    obtain rfl : false = b := by rw [← hr]; first | rfl | simp
    clear hr
    go_enter Try.func13, Try.ntmps13
    go_wp2_with fail
    go_ret
    exact ⟨rfl, M0.out⟩
  have F3 := Lib.hid z4
  subst z4
  clear F3
  have Z1 : Hid ((l1.drop 0 == k1.drop 0) = x1) := X1
  have Z2 : Hid ((l2.drop 0 == k2.drop 0) = x2) := X2
  have Z3 : Hid ((l3.drop 0 == k3.drop 0) = x3) := X3
  clear X1 X2 X3
  have HRR : Hid ((x1 && (x2 && x3)) = b) := Lib.hid (by rw [← hr]; rfl)
  clear hr
  go_enter Try.func13, Try.ntmps13
  go_wp2_with fail
  go_loopw [5] (fun i wr => ∃ j : Nat, i = .int .i64 j ∧ j ≤ n1 ∧ Hid (Mod [] w wr) ∧ Hid (Holds wr w.heap.size 24 [ci o, ci e, .slice A1 n1 c1, .slice A2 n2 c2, .slice A3 n3 c3]) ∧ Hid (Holds wr (w.heap.size + 1) 24 [ci o', ci e', .slice B1 n1 d1, .slice B2 n2 d2, .slice B3 n3 d3]) ∧ Hid ((l1.drop j == k1.drop j) = x1)) (fun i _ => n1 - (intOf i).toNat)
  case atStart => exact ⟨0, rfl, Nat.zero_le _, M0, K0, L0, Z1⟩
  case round =>
  obtain ⟨j, rfl, hj, hm, hk, hl, hr⟩ := hrel
  clear Z1
  obtain ⟨q0, q1, q2, q3, q4⟩ := cells5 hk.out
  obtain ⟨r0, r1, r2, r3, r4⟩ := cells5 hl.out
  by_cases hjn : j < n1
  case pos =>
    obtain ⟨g, f, hA, hc⟩ := (H1.out.call hm.out).at j hjn
    obtain ⟨g', f', hB, hd⟩ := (G1.out.call hm.out).at j hjn
    subst hA hB
    have hr2 := hr.out
    have a1 := H1.out.len
    have a2 := G1.out.len
    rw [drop_cons' (l := l1) (by omega), drop_cons' (l := k1) (by omega), List.cons_beq_cons] at hr2
    clear hr a1 a2
    obtain ⟨y, hy⟩ : ∃ y, y = l1.getD j 0 := ⟨_, rfl⟩
    obtain ⟨z, hz⟩ : ∃ z, z = k1.getD j 0 := ⟨_, rfl⟩
    rw [← hy] at hc hr2
    rw [← hz] at hd hr2
    clear hy hz
    by_cases hyz : y = z
    · have e1 : (y != z) = false := by simp [hyz]
      have HR : Hid ((l1.drop (j + 1) == k1.drop (j + 1)) = x1) := Lib.hid (by rw [← hr2, beq_iff_eq.2 hyz, Bool.true_and])
      clear hr2 hyz
      go_wp2_with fail
      go_quiet (fail)
      go_wp2_with fail
      exact ⟨⟨j + 1, by go_num, by omega, Lib.hid (hm.out.then (Mod.drewN _ _ _)), Lib.hid (hk.out.keep (Mod.drewN [] _ _) (by simp)), Lib.hid (hl.out.keep (Mod.drewN [] _ _) (by simp)), HR⟩, by simp [intOf]; omega⟩
    · have e1 : (y != z) = true := by simp [hyz]
      obtain rfl : false = x1 := by rw [← hr2, beq_eq_false_iff_ne.2 hyz]; rfl
      clear hr2 hyz
      obtain rfl : false = b := by rw [← HRR.out]; simp
      clear HRR
      go_wp2_with fail
      go_quiet (fail)
      go_wp2_with fail
      go_ret
      exact ⟨rfl, hm.out.then (Mod.drewN _ _ _)⟩
  obtain rfl : n1 = j := by omega
  obtain rfl : true = x1 := by
    have a1 := H1.out.len
    have a2 := G1.out.len
    rw [← hr.out, List.drop_of_length_le (by omega), List.drop_of_length_le (by omega)]
    rfl
  clear hr
  go_wp2_with fail
  clear q0 q1 q2 q3 q4 r0 r1 r2 r3 r4
  go_loopw [6] (fun i wr => ∃ j : Nat, i = .int .i64 j ∧ j ≤ n2 ∧ Hid (Mod [] w wr) ∧ Hid (Holds wr w.heap.size 24 [ci o, ci e, .slice A1 n1 c1, .slice A2 n2 c2, .slice A3 n3 c3]) ∧ Hid (Holds wr (w.heap.size + 1) 24 [ci o', ci e', .slice B1 n1 d1, .slice B2 n2 d2, .slice B3 n3 d3]) ∧ Hid ((l2.drop j == k2.drop j) = x2)) (fun i _ => n2 - (intOf i).toNat)
  case atStart => exact ⟨0, rfl, Nat.zero_le _, hm, hk, hl, Z2⟩
  case round =>
  obtain ⟨j, rfl, hj, hm, hk, hl, hr⟩ := hrel
  clear Z2
  obtain ⟨q0, q1, q2, q3, q4⟩ := cells5 hk.out
  obtain ⟨r0, r1, r2, r3, r4⟩ := cells5 hl.out
  by_cases hjn : j < n2
  case pos =>
    obtain ⟨g, f, hA, hc⟩ := (H2.out.call hm.out).at j hjn
    obtain ⟨g', f', hB, hd⟩ := (G2.out.call hm.out).at j hjn
    subst hA hB
    have hr2 := hr.out
    have a1 := H2.out.len
    have a2 := G2.out.len
    rw [drop_cons' (l := l2) (by omega), drop_cons' (l := k2) (by omega), List.cons_beq_cons] at hr2
    clear hr a1 a2
    obtain ⟨y, hy⟩ : ∃ y, y = l2.getD j 0 := ⟨_, rfl⟩
    obtain ⟨z, hz⟩ : ∃ z, z = k2.getD j 0 := ⟨_, rfl⟩
    rw [← hy] at hc hr2
    rw [← hz] at hd hr2
    clear hy hz
    by_cases hyz : y = z
    · have e1 : (y != z) = false := by simp [hyz]
      have HR : Hid ((l2.drop (j + 1) == k2.drop (j + 1)) = x2) := Lib.hid (by rw [← hr2, beq_iff_eq.2 hyz, Bool.true_and])
      clear hr2 hyz
      go_wp2_with fail
      go_quiet (fail)
      go_wp2_with fail
      exact ⟨⟨j + 1, by go_num, by omega, Lib.hid (hm.out.then (Mod.drewN _ _ _)), Lib.hid (hk.out.keep (Mod.drewN [] _ _) (by simp)), Lib.hid (hl.out.keep (Mod.drewN [] _ _) (by simp)), HR⟩, by simp [intOf]; omega⟩
    · have e1 : (y != z) = true := by simp [hyz]
      obtain rfl : false = x2 := by rw [← hr2, beq_eq_false_iff_ne.2 hyz]; rfl
      clear hr2 hyz
      obtain rfl : false = b := by rw [← HRR.out]; simp
      clear HRR
      go_wp2_with fail
      go_quiet (fail)
      go_wp2_with fail
      go_ret
      exact ⟨rfl, hm.out.then (Mod.drewN _ _ _)⟩
  obtain rfl : n2 = j := by omega
  obtain rfl : true = x2 := by
    have a1 := H2.out.len
    have a2 := G2.out.len
    rw [← hr.out, List.drop_of_length_le (by omega), List.drop_of_length_le (by omega)]
    rfl
  clear hr
  go_wp2_with fail
  clear q0 q1 q2 q3 q4 r0 r1 r2 r3 r4
  go_loopw [7] (fun i wr => ∃ j : Nat, i = .int .i64 j ∧ j ≤ n3 ∧ Hid (Mod [] w wr) ∧ Hid (Holds wr w.heap.size 24 [ci o, ci e, .slice A1 n1 c1, .slice A2 n2 c2, .slice A3 n3 c3]) ∧ Hid (Holds wr (w.heap.size + 1) 24 [ci o', ci e', .slice B1 n1 d1, .slice B2 n2 d2, .slice B3 n3 d3]) ∧ Hid ((l3.drop j == k3.drop j) = x3)) (fun i _ => n3 - (intOf i).toNat)
  case atStart => exact ⟨0, rfl, Nat.zero_le _, hm, hk, hl, Z3⟩
  case round =>
  obtain ⟨j, rfl, hj, hm, hk, hl, hr⟩ := hrel
  clear Z3
  obtain ⟨q0, q1, q2, q3, q4⟩ := cells5 hk.out
  obtain ⟨r0, r1, r2, r3, r4⟩ := cells5 hl.out
  by_cases hjn : j < n3
  case pos =>
    obtain ⟨g, f, hA, hc⟩ := (H3.out.call hm.out).at j hjn
    obtain ⟨g', f', hB, hd⟩ := (G3.out.call hm.out).at j hjn
    subst hA hB
    have hr2 := hr.out
    have a1 := H3.out.len
    have a2 := G3.out.len
    rw [drop_cons' (l := l3) (by omega), drop_cons' (l := k3) (by omega), List.cons_beq_cons] at hr2
    clear hr a1 a2
    obtain ⟨y, hy⟩ : ∃ y, y = l3.getD j 0 := ⟨_, rfl⟩
    obtain ⟨z, hz⟩ : ∃ z, z = k3.getD j 0 := ⟨_, rfl⟩
    rw [← hy] at hc hr2
    rw [← hz] at hd hr2
    clear hy hz
    by_cases hyz : y = z
    · have e1 : (y != z) = false := by simp [hyz]
      have HR : Hid ((l3.drop (j + 1) == k3.drop (j + 1)) = x3) := Lib.hid (by rw [← hr2, beq_iff_eq.2 hyz, Bool.true_and])
      clear hr2 hyz
      go_wp2_with fail
      go_quiet (fail)
      go_wp2_with fail
      exact ⟨⟨j + 1, by go_num, by omega, Lib.hid (hm.out.then (Mod.drewN _ _ _)), Lib.hid (hk.out.keep (Mod.drewN [] _ _) (by simp)), Lib.hid (hl.out.keep (Mod.drewN [] _ _) (by simp)), HR⟩, by simp [intOf]; omega⟩
    · have e1 : (y != z) = true := by simp [hyz]
      obtain rfl : false = x3 := by rw [← hr2, beq_eq_false_iff_ne.2 hyz]; rfl
      clear hr2 hyz
      obtain rfl : false = b := by rw [← HRR.out]; simp
      clear HRR
      go_wp2_with fail
      go_quiet (fail)
      go_wp2_with fail
      go_ret
      exact ⟨rfl, hm.out.then (Mod.drewN _ _ _)⟩
  obtain rfl : n3 = j := by omega
  obtain rfl : true = x3 := by
    have a1 := H3.out.len
    have a2 := G3.out.len
    rw [← hr.out, List.drop_of_length_le (by omega), List.drop_of_length_le (by omega)]
    rfl
  clear hr
  go_wp2_with fail
  clear q0 q1 q2 q3 q4 r0 r1 r2 r3 r4
  obtain rfl : true = b := by rw [← HRR.out]; rfl
  go_ret
  exact ⟨rfl, hm.out⟩
end Go.Proofs.Ytaadmpainikfpaa
