/-
  My own texts Uj Va, one behind the other.
-/
import Derived.Test.YtchanildogjhgaaDoorA3
import Derived.Test.YtchanildogjhgaaDoorA1
import Derived.Test.YtchanildogjhgaaDoorTf
import Derived.Test.YtchanildogjhgaaDoorA6
namespace Go.Proofs.YtchanildogjhgaaDoor
section
open Go.RowKit Go.Shelf
set_option linter.unusedVariables false
set_option linter.unusedSimpArgs false
theorem ruser_c (k : Int) (w : World) : Calls Tryd.prog 100 #[.int .i64 k] w fun e w' => e = .returned (.bool (Tm.hasU k)) ∧ w = w' := by
  by_cases h2 : k = 2
  · subst h2
    go_enter Tryd.func100, Tryd.ntmps100
    go_wp2_with fail
    go_ret
    exact ⟨rfl, rfl⟩
  by_cases h3 : k = 3
  · subst h3
    go_enter Tryd.func100, Tryd.ntmps100
    go_wp2_with fail
    go_ret
    exact ⟨rfl, rfl⟩
  by_cases h7 : k = 7
  · subst h7
    go_enter Tryd.func100, Tryd.ntmps100
    go_wp2_with fail
    go_ret
    exact ⟨rfl, rfl⟩
  by_cases h8 : k = 8
  · subst h8
    go_enter Tryd.func100, Tryd.ntmps100
    go_wp2_with fail
    go_ret
    exact ⟨rfl, rfl⟩
  go_enter Tryd.func100, Tryd.ntmps100
  go_wp2_with fail
  go_ret
  exact ⟨rfl, rfl⟩
theorem rnum_c (k : Int) (w : World) : Calls Tryd.prog 101 #[.int .i64 k] w fun e w' => e = .returned (.bool (Tm.hasN k)) ∧ w = w' := by
  by_cases h2 : k = 2
  · subst h2
    go_enter Tryd.func101, Tryd.ntmps101
    go_wp2_with fail
    go_ret
    exact ⟨rfl, rfl⟩
  by_cases h8 : k = 8
  · subst h8
    go_enter Tryd.func101, Tryd.ntmps101
    go_wp2_with fail
    go_ret
    exact ⟨rfl, rfl⟩
  go_enter Tryd.func101, Tryd.ntmps101
  go_wp2_with fail
  go_ret
  exact ⟨rfl, rfl⟩
/-- How many Kids the document gives a kind; -1: there is no such kind. -/
def rk (k : Int) : Int := if 1 ≤ k ∧ k ≤ 8 then Tm.nk k else -1
theorem rkids_c (k : Int) (w : World) : Calls Tryd.prog 99 #[.int .i64 k] w fun e w' => e = .returned (.int .i64 (rk k)) ∧ w = w' := by
  by_cases h1 : k = 1
  · subst h1
    go_enter Tryd.func99, Tryd.ntmps99
    go_wp2_with fail
    go_ret
    exact ⟨rfl, rfl⟩
  by_cases h2 : k = 2
  · subst h2
    go_enter Tryd.func99, Tryd.ntmps99
    go_wp2_with fail
    go_ret
    exact ⟨rfl, rfl⟩
  by_cases h3 : k = 3
  · subst h3
    go_enter Tryd.func99, Tryd.ntmps99
    go_wp2_with fail
    go_ret
    exact ⟨rfl, rfl⟩
  by_cases h4 : k = 4
  · subst h4
    go_enter Tryd.func99, Tryd.ntmps99
    go_wp2_with fail
    go_ret
    exact ⟨rfl, rfl⟩
  by_cases h5 : k = 5
  · subst h5
    go_enter Tryd.func99, Tryd.ntmps99
    go_wp2_with fail
    go_ret
    exact ⟨rfl, rfl⟩
  by_cases h6 : k = 6
  · subst h6
    go_enter Tryd.func99, Tryd.ntmps99
    go_wp2_with fail
    go_ret
    exact ⟨rfl, rfl⟩
  by_cases h7 : k = 7
  · subst h7
    go_enter Tryd.func99, Tryd.ntmps99
    go_wp2_with fail
    go_ret
    exact ⟨rfl, rfl⟩
  by_cases h8 : k = 8
  · subst h8
    go_enter Tryd.func99, Tryd.ntmps99
    go_wp2_with fail
    go_ret
    exact ⟨rfl, rfl⟩
  have e : rk k = -1 := by unfold rk; rw [if_neg (by omega)]
  rw [e]
  rcases Int.lt_or_le k 1 with h | h
  · go_enter Tryd.func99, Tryd.ntmps99
    go_wp2_with fail
    go_ret
    exact ⟨rfl, rfl⟩
  · have h9 : 8 < k := by omega
    have h' : ¬ k < 1 := by omega
    go_enter Tryd.func99, Tryd.ntmps99
    go_wp2_with fail
    go_ret
    exact ⟨rfl, rfl⟩
end
section
open Go.RowKit
set_option linter.unusedVariables false
set_option linter.unusedSimpArgs false
set_option maxRecDepth 100000 in
set_option maxHeartbeats 1500000 in
theorem rone_1 (k u n r : Int) (s : ByteArray) (A : Option Addr) (len cc : Nat) (hr : r = rk k) (h1 : decide (r < 0) = true) (w : World) :
    Calls Tryd.prog 80 #[.agg (tmc k u n s A len cc).toArray] w fun e w' => e = .returned (.bool false) ∧ Mod [] w w' := by
  have B1 := fun w0 => rkids_c k w0
  have B2 := fun w0 => ruser_c k w0
  have B3 := fun w0 => rnum_c k w0
  rw [← hr] at B1
  clear hr
  unfold tmc
  go_enter Tryd.func80, Tryd.ntmps80
  go_wp2_with (with_reducible refine wpList_boxes (o := ⟨some 1, .box 24 (.tmp 0), _, _, _, _⟩) rfl 24 (.tmp 0) rfl _ rfl (tmc k u n s A len cc) rfl ?_; intro w1 hb1 m1 z1; clear z1)
  have e0 := hb1.cell 0
  have e3 := hb1.cell 3
  have e4 := hb1.cell 4
  simp only [tmc, List.getElem?_cons_succ, List.getElem?_cons_zero] at e0 e3 e4
  go_quiet ((go_at_call 99; with_reducible exact Calls.quiet_of_same ((B1 _).mono fun _ _ h => ⟨h.1, h.2.symm⟩)))
  go_wp2_with fail
  go_ret
  exact ⟨rfl, m1.then (Mod.drewN [] _ _)⟩
set_option maxRecDepth 100000 in
set_option maxHeartbeats 1500000 in
theorem rone_2 (k u n r : Int) (s : ByteArray) (A : Option Addr) (len cc : Nat) (hr : r = rk k) (h1 : decide (r < 0) = false) (h2 : (((len : Int)) != r) = true) (w : World) :
    Calls Tryd.prog 80 #[.agg (tmc k u n s A len cc).toArray] w fun e w' => e = .returned (.bool false) ∧ Mod [] w w' := by
  have B1 := fun w0 => rkids_c k w0
  have B2 := fun w0 => ruser_c k w0
  have B3 := fun w0 => rnum_c k w0
  rw [← hr] at B1
  clear hr
  unfold tmc
  go_enter Tryd.func80, Tryd.ntmps80
  go_wp2_with (with_reducible refine wpList_boxes (o := ⟨some 1, .box 24 (.tmp 0), _, _, _, _⟩) rfl 24 (.tmp 0) rfl _ rfl (tmc k u n s A len cc) rfl ?_; intro w1 hb1 m1 z1; clear z1)
  have e0 := hb1.cell 0
  have e3 := hb1.cell 3
  have e4 := hb1.cell 4
  simp only [tmc, List.getElem?_cons_succ, List.getElem?_cons_zero] at e0 e3 e4
  go_quiet ((go_at_call 99; with_reducible exact Calls.quiet_of_same ((B1 _).mono fun _ _ h => ⟨h.1, h.2.symm⟩)))
  go_wp2_with fail
  go_ret
  exact ⟨rfl, m1.then (Mod.drewN [] _ _)⟩
set_option maxRecDepth 100000 in
set_option maxHeartbeats 1500000 in
theorem rone_3 (k u n r : Int) (s : ByteArray) (A : Option Addr) (len cc : Nat) (hr : r = rk k) (h1 : decide (r < 0) = false) (h2 : (((len : Int)) != r) = false) (h3 : decide (64 < (s.size : Int)) = true) (w : World) :
    Calls Tryd.prog 80 #[.agg (tmc k u n s A len cc).toArray] w fun e w' => e = .returned (.bool false) ∧ Mod [] w w' := by
  have B1 := fun w0 => rkids_c k w0
  have B2 := fun w0 => ruser_c k w0
  have B3 := fun w0 => rnum_c k w0
  rw [← hr] at B1
  clear hr
  unfold tmc
  go_enter Tryd.func80, Tryd.ntmps80
  go_wp2_with (with_reducible refine wpList_boxes (o := ⟨some 1, .box 24 (.tmp 0), _, _, _, _⟩) rfl 24 (.tmp 0) rfl _ rfl (tmc k u n s A len cc) rfl ?_; intro w1 hb1 m1 z1; clear z1)
  have e0 := hb1.cell 0
  have e3 := hb1.cell 3
  have e4 := hb1.cell 4
  simp only [tmc, List.getElem?_cons_succ, List.getElem?_cons_zero] at e0 e3 e4
  go_quiet ((go_at_call 99; with_reducible exact Calls.quiet_of_same ((B1 _).mono fun _ _ h => ⟨h.1, h.2.symm⟩)))
  go_wp2_with fail
  go_ret
  exact ⟨rfl, m1.then (Mod.drewN [] _ _)⟩
set_option maxRecDepth 100000 in
set_option maxHeartbeats 1500000 in
theorem rone_4 (k u n r : Int) (s : ByteArray) (A : Option Addr) (len cc : Nat) (hr : r = rk k) (h1 : decide (r < 0) = false) (h2 : (((len : Int)) != r) = false) (h3 : decide (64 < (s.size : Int)) = false) (h4 : (k != 1) = true) (h5 : (!s.toList.isEmpty) = true) (w : World) :
    Calls Tryd.prog 80 #[.agg (tmc k u n s A len cc).toArray] w fun e w' => e = .returned (.bool false) ∧ Mod [] w w' := by
  have B1 := fun w0 => rkids_c k w0
  have B2 := fun w0 => ruser_c k w0
  have B3 := fun w0 => rnum_c k w0
  rw [← hr] at B1
  clear hr
  unfold tmc
  go_enter Tryd.func80, Tryd.ntmps80
  go_wp2_with (with_reducible refine wpList_boxes (o := ⟨some 1, .box 24 (.tmp 0), _, _, _, _⟩) rfl 24 (.tmp 0) rfl _ rfl (tmc k u n s A len cc) rfl ?_; intro w1 hb1 m1 z1; clear z1)
  have e0 := hb1.cell 0
  have e3 := hb1.cell 3
  have e4 := hb1.cell 4
  simp only [tmc, List.getElem?_cons_succ, List.getElem?_cons_zero] at e0 e3 e4
  go_quiet ((go_at_call 99; with_reducible exact Calls.quiet_of_same ((B1 _).mono fun _ _ h => ⟨h.1, h.2.symm⟩)))
  go_wp2_with fail
  go_ret
  exact ⟨rfl, m1.then (Mod.drewN [] _ _)⟩
set_option maxRecDepth 100000 in
set_option maxHeartbeats 1500000 in
theorem rone_5 (k u n r : Int) (s : ByteArray) (A : Option Addr) (len cc : Nat) (hr : r = rk k) (h1 : decide (r < 0) = false) (h2 : (((len : Int)) != r) = false) (h3 : decide (64 < (s.size : Int)) = false) (h4 : (k != 1) = false) (w : World) (U N : Bool) (hU : Tm.hasU k = U) (hN : Tm.hasN k = N) :
    Calls Tryd.prog 80 #[.agg (tmc k u n s A len cc).toArray] w fun e w' => e = .returned (.bool ((if U then decide (1 ≤ u) && decide (u ≤ 6) else u == 0) && (n == 0 || N && decide (0 < n) && decide (n ≤ 65535)))) ∧ Mod [] w w' := by
  have B1 := fun w0 => rkids_c k w0
  have B2 := fun w0 => ruser_c k w0
  have B3 := fun w0 => rnum_c k w0
  rw [← hr] at B1
  clear hr
  rw [hU] at B2
  rw [hN] at B3
  clear hU hN
  unfold tmc
  go_enter Tryd.func80, Tryd.ntmps80
  go_wp2_with (with_reducible refine wpList_boxes (o := ⟨some 1, .box 24 (.tmp 0), _, _, _, _⟩) rfl 24 (.tmp 0) rfl _ rfl (tmc k u n s A len cc) rfl ?_; intro w1 hb1 m1 z1; clear z1)
  have e0 := hb1.cell 0
  have e3 := hb1.cell 3
  have e4 := hb1.cell 4
  simp only [tmc, List.getElem?_cons_succ, List.getElem?_cons_zero] at e0 e3 e4
  go_quiet ((go_at_call 99; with_reducible exact Calls.quiet_of_same ((B1 _).mono fun _ _ h => ⟨h.1, h.2.symm⟩)))
  have m2 := m1.then (Mod.drewN [] w1 nq)
  have hb2 := hb1.keep (Mod.drewN [] w1 nq) (by simp)
  clear hb1 m1 e0 e3 e4 B1
  generalize w1.drewN nq = w2 at *
  have e0 := hb2.cell 0
  have e1 := hb2.cell 1
  have e2 := hb2.cell 2
  simp only [tmc, List.getElem?_cons_succ, List.getElem?_cons_zero] at e0 e1 e2
  have M := Lib.hid m2
  clear m2 hb2
  cases U with
  | true =>
    by_cases a1 : u < 1
    · have f0 : decide (u < 1) = true := by simp; omega
      go_wp2_with (first
        | (go_at_call 100; refine (B2 _).mono ?_; rintro e wx ⟨rfl, rfl⟩)
        | (go_at_call 101; refine (B3 _).mono ?_; rintro e wx ⟨rfl, rfl⟩))
      go_ret
      refine ⟨?_, M.out⟩
      first | rfl | (congr 2; simp; done) | (congr 2; simp; omega)
    by_cases a2 : 6 < u
    · have f0 : decide (u < 1) = false := by simp; omega
      have f1 : decide (6 < u) = true := by simp; omega
      go_wp2_with (first
        | (go_at_call 100; refine (B2 _).mono ?_; rintro e wx ⟨rfl, rfl⟩)
        | (go_at_call 101; refine (B3 _).mono ?_; rintro e wx ⟨rfl, rfl⟩))
      go_ret
      refine ⟨?_, M.out⟩
      first | rfl | (congr 2; simp; done) | (congr 2; simp; omega)
    by_cases n0 : n = 0
    · subst n0
      have f0 : decide (u < 1) = false := by simp; omega
      have f1 : decide (6 < u) = false := by simp; omega
      go_wp2_with (first
        | (go_at_call 100; refine (B2 _).mono ?_; rintro e wx ⟨rfl, rfl⟩)
        | (go_at_call 101; refine (B3 _).mono ?_; rintro e wx ⟨rfl, rfl⟩))
      go_ret
      refine ⟨?_, M.out⟩
      first | rfl | (congr 2; simp; done) | (congr 2; simp; omega)
    cases N with
    | false =>
      have f0 : decide (u < 1) = false := by simp; omega
      have f1 : decide (6 < u) = false := by simp; omega
      have f2 : (n == 0) = false := by simp; omega
      go_wp2_with (first
        | (go_at_call 100; refine (B2 _).mono ?_; rintro e wx ⟨rfl, rfl⟩)
        | (go_at_call 101; refine (B3 _).mono ?_; rintro e wx ⟨rfl, rfl⟩))
      go_ret
      refine ⟨?_, M.out⟩
      first | rfl | (congr 2; simp; done) | (congr 2; simp; omega)
    | true =>
    by_cases n1 : 0 < n
    · by_cases n2 : n ≤ 65535
      · have f0 : decide (u < 1) = false := by simp; omega
        have f1 : decide (6 < u) = false := by simp; omega
        have f2 : (n == 0) = false := by simp; omega
        have f3 : decide (0 < n) = true := by simp; omega
        have f4 : decide (n ≤ 65535) = true := by simp; omega
        go_wp2_with (first
          | (go_at_call 100; refine (B2 _).mono ?_; rintro e wx ⟨rfl, rfl⟩)
          | (go_at_call 101; refine (B3 _).mono ?_; rintro e wx ⟨rfl, rfl⟩))
        go_ret
        refine ⟨?_, M.out⟩
        first | rfl | (congr 2; simp; done) | (congr 2; simp; omega)
      · have f0 : decide (u < 1) = false := by simp; omega
        have f1 : decide (6 < u) = false := by simp; omega
        have f2 : (n == 0) = false := by simp; omega
        have f3 : decide (0 < n) = true := by simp; omega
        have f4 : decide (n ≤ 65535) = false := by simp; omega
        go_wp2_with (first
          | (go_at_call 100; refine (B2 _).mono ?_; rintro e wx ⟨rfl, rfl⟩)
          | (go_at_call 101; refine (B3 _).mono ?_; rintro e wx ⟨rfl, rfl⟩))
        go_ret
        refine ⟨?_, M.out⟩
        first | rfl | (congr 2; simp; done) | (congr 2; simp; omega)
    · have f0 : decide (u < 1) = false := by simp; omega
      have f1 : decide (6 < u) = false := by simp; omega
      have f2 : (n == 0) = false := by simp; omega
      have f3 : decide (0 < n) = false := by simp; omega
      go_wp2_with (first
        | (go_at_call 100; refine (B2 _).mono ?_; rintro e wx ⟨rfl, rfl⟩)
        | (go_at_call 101; refine (B3 _).mono ?_; rintro e wx ⟨rfl, rfl⟩))
      go_ret
      refine ⟨?_, M.out⟩
      first | rfl | (congr 2; simp; done) | (congr 2; simp; omega)
  | false =>
    by_cases a1 : u = 0
    · subst a1
      by_cases n0 : n = 0
      · subst n0
        go_wp2_with (first
          | (go_at_call 100; refine (B2 _).mono ?_; rintro e wx ⟨rfl, rfl⟩)
          | (go_at_call 101; refine (B3 _).mono ?_; rintro e wx ⟨rfl, rfl⟩))
        go_ret
        refine ⟨?_, M.out⟩
        first | rfl | (congr 2; simp; done) | (congr 2; simp; omega)
      cases N with
      | false =>
        have f0 : (n == 0) = false := by simp; omega
        go_wp2_with (first
          | (go_at_call 100; refine (B2 _).mono ?_; rintro e wx ⟨rfl, rfl⟩)
          | (go_at_call 101; refine (B3 _).mono ?_; rintro e wx ⟨rfl, rfl⟩))
        go_ret
        refine ⟨?_, M.out⟩
        first | rfl | (congr 2; simp; done) | (congr 2; simp; omega)
      | true =>
      by_cases n1 : 0 < n
      · by_cases n2 : n ≤ 65535
        · have f0 : (n == 0) = false := by simp; omega
          have f1 : decide (0 < n) = true := by simp; omega
          have f2 : decide (n ≤ 65535) = true := by simp; omega
          go_wp2_with (first
            | (go_at_call 100; refine (B2 _).mono ?_; rintro e wx ⟨rfl, rfl⟩)
            | (go_at_call 101; refine (B3 _).mono ?_; rintro e wx ⟨rfl, rfl⟩))
          go_ret
          refine ⟨?_, M.out⟩
          first | rfl | (congr 2; simp; done) | (congr 2; simp; omega)
        · have f0 : (n == 0) = false := by simp; omega
          have f1 : decide (0 < n) = true := by simp; omega
          have f2 : decide (n ≤ 65535) = false := by simp; omega
          go_wp2_with (first
            | (go_at_call 100; refine (B2 _).mono ?_; rintro e wx ⟨rfl, rfl⟩)
            | (go_at_call 101; refine (B3 _).mono ?_; rintro e wx ⟨rfl, rfl⟩))
          go_ret
          refine ⟨?_, M.out⟩
          first | rfl | (congr 2; simp; done) | (congr 2; simp; omega)
      · have f0 : (n == 0) = false := by simp; omega
        have f1 : decide (0 < n) = false := by simp; omega
        go_wp2_with (first
          | (go_at_call 100; refine (B2 _).mono ?_; rintro e wx ⟨rfl, rfl⟩)
          | (go_at_call 101; refine (B3 _).mono ?_; rintro e wx ⟨rfl, rfl⟩))
        go_ret
        refine ⟨?_, M.out⟩
        first | rfl | (congr 2; simp; done) | (congr 2; simp; omega)
    · have f0 : (u != 0) = true := by simp; omega
      go_wp2_with (first
        | (go_at_call 100; refine (B2 _).mono ?_; rintro e wx ⟨rfl, rfl⟩)
        | (go_at_call 101; refine (B3 _).mono ?_; rintro e wx ⟨rfl, rfl⟩))
      go_ret
      refine ⟨?_, M.out⟩
      first | rfl | (congr 2; simp; done) | (congr 2; simp; omega)
set_option maxRecDepth 100000 in
set_option maxHeartbeats 1500000 in
theorem rone_6 (k u n r : Int) (s : ByteArray) (A : Option Addr) (len cc : Nat) (hr : r = rk k) (h1 : decide (r < 0) = false) (h2 : (((len : Int)) != r) = false) (h3 : decide (64 < (s.size : Int)) = false) (h4 : (k != 1) = true) (h5 : (!s.toList.isEmpty) = false) (w : World) (U N : Bool) (hU : Tm.hasU k = U) (hN : Tm.hasN k = N) :
    Calls Tryd.prog 80 #[.agg (tmc k u n s A len cc).toArray] w fun e w' => e = .returned (.bool ((if U then decide (1 ≤ u) && decide (u ≤ 6) else u == 0) && (n == 0 || N && decide (0 < n) && decide (n ≤ 65535)))) ∧ Mod [] w w' := by
  have B1 := fun w0 => rkids_c k w0
  have B2 := fun w0 => ruser_c k w0
  have B3 := fun w0 => rnum_c k w0
  rw [← hr] at B1
  clear hr
  rw [hU] at B2
  rw [hN] at B3
  clear hU hN
  unfold tmc
  go_enter Tryd.func80, Tryd.ntmps80
  go_wp2_with (with_reducible refine wpList_boxes (o := ⟨some 1, .box 24 (.tmp 0), _, _, _, _⟩) rfl 24 (.tmp 0) rfl _ rfl (tmc k u n s A len cc) rfl ?_; intro w1 hb1 m1 z1; clear z1)
  have e0 := hb1.cell 0
  have e3 := hb1.cell 3
  have e4 := hb1.cell 4
  simp only [tmc, List.getElem?_cons_succ, List.getElem?_cons_zero] at e0 e3 e4
  go_quiet ((go_at_call 99; with_reducible exact Calls.quiet_of_same ((B1 _).mono fun _ _ h => ⟨h.1, h.2.symm⟩)))
  have m2 := m1.then (Mod.drewN [] w1 nq)
  have hb2 := hb1.keep (Mod.drewN [] w1 nq) (by simp)
  clear hb1 m1 e0 e3 e4 B1
  generalize w1.drewN nq = w2 at *
  have e0 := hb2.cell 0
  have e1 := hb2.cell 1
  have e2 := hb2.cell 2
  simp only [tmc, List.getElem?_cons_succ, List.getElem?_cons_zero] at e0 e1 e2
  have M := Lib.hid m2
  clear m2 hb2
  cases U with
  | true =>
    by_cases a1 : u < 1
    · have f0 : decide (u < 1) = true := by simp; omega
      go_wp2_with (first
        | (go_at_call 100; refine (B2 _).mono ?_; rintro e wx ⟨rfl, rfl⟩)
        | (go_at_call 101; refine (B3 _).mono ?_; rintro e wx ⟨rfl, rfl⟩))
      go_ret
      refine ⟨?_, M.out⟩
      first | rfl | (congr 2; simp; done) | (congr 2; simp; omega)
    by_cases a2 : 6 < u
    · have f0 : decide (u < 1) = false := by simp; omega
      have f1 : decide (6 < u) = true := by simp; omega
      go_wp2_with (first
        | (go_at_call 100; refine (B2 _).mono ?_; rintro e wx ⟨rfl, rfl⟩)
        | (go_at_call 101; refine (B3 _).mono ?_; rintro e wx ⟨rfl, rfl⟩))
      go_ret
      refine ⟨?_, M.out⟩
      first | rfl | (congr 2; simp; done) | (congr 2; simp; omega)
    by_cases n0 : n = 0
    · subst n0
      have f0 : decide (u < 1) = false := by simp; omega
      have f1 : decide (6 < u) = false := by simp; omega
      go_wp2_with (first
        | (go_at_call 100; refine (B2 _).mono ?_; rintro e wx ⟨rfl, rfl⟩)
        | (go_at_call 101; refine (B3 _).mono ?_; rintro e wx ⟨rfl, rfl⟩))
      go_ret
      refine ⟨?_, M.out⟩
      first | rfl | (congr 2; simp; done) | (congr 2; simp; omega)
    cases N with
    | false =>
      have f0 : decide (u < 1) = false := by simp; omega
      have f1 : decide (6 < u) = false := by simp; omega
      have f2 : (n == 0) = false := by simp; omega
      go_wp2_with (first
        | (go_at_call 100; refine (B2 _).mono ?_; rintro e wx ⟨rfl, rfl⟩)
        | (go_at_call 101; refine (B3 _).mono ?_; rintro e wx ⟨rfl, rfl⟩))
      go_ret
      refine ⟨?_, M.out⟩
      first | rfl | (congr 2; simp; done) | (congr 2; simp; omega)
    | true =>
    by_cases n1 : 0 < n
    · by_cases n2 : n ≤ 65535
      · have f0 : decide (u < 1) = false := by simp; omega
        have f1 : decide (6 < u) = false := by simp; omega
        have f2 : (n == 0) = false := by simp; omega
        have f3 : decide (0 < n) = true := by simp; omega
        have f4 : decide (n ≤ 65535) = true := by simp; omega
        go_wp2_with (first
          | (go_at_call 100; refine (B2 _).mono ?_; rintro e wx ⟨rfl, rfl⟩)
          | (go_at_call 101; refine (B3 _).mono ?_; rintro e wx ⟨rfl, rfl⟩))
        go_ret
        refine ⟨?_, M.out⟩
        first | rfl | (congr 2; simp; done) | (congr 2; simp; omega)
      · have f0 : decide (u < 1) = false := by simp; omega
        have f1 : decide (6 < u) = false := by simp; omega
        have f2 : (n == 0) = false := by simp; omega
        have f3 : decide (0 < n) = true := by simp; omega
        have f4 : decide (n ≤ 65535) = false := by simp; omega
        go_wp2_with (first
          | (go_at_call 100; refine (B2 _).mono ?_; rintro e wx ⟨rfl, rfl⟩)
          | (go_at_call 101; refine (B3 _).mono ?_; rintro e wx ⟨rfl, rfl⟩))
        go_ret
        refine ⟨?_, M.out⟩
        first | rfl | (congr 2; simp; done) | (congr 2; simp; omega)
    · have f0 : decide (u < 1) = false := by simp; omega
      have f1 : decide (6 < u) = false := by simp; omega
      have f2 : (n == 0) = false := by simp; omega
      have f3 : decide (0 < n) = false := by simp; omega
      go_wp2_with (first
        | (go_at_call 100; refine (B2 _).mono ?_; rintro e wx ⟨rfl, rfl⟩)
        | (go_at_call 101; refine (B3 _).mono ?_; rintro e wx ⟨rfl, rfl⟩))
      go_ret
      refine ⟨?_, M.out⟩
      first | rfl | (congr 2; simp; done) | (congr 2; simp; omega)
  | false =>
    by_cases a1 : u = 0
    · subst a1
      by_cases n0 : n = 0
      · subst n0
        go_wp2_with (first
          | (go_at_call 100; refine (B2 _).mono ?_; rintro e wx ⟨rfl, rfl⟩)
          | (go_at_call 101; refine (B3 _).mono ?_; rintro e wx ⟨rfl, rfl⟩))
        go_ret
        refine ⟨?_, M.out⟩
        first | rfl | (congr 2; simp; done) | (congr 2; simp; omega)
      cases N with
      | false =>
        have f0 : (n == 0) = false := by simp; omega
        go_wp2_with (first
          | (go_at_call 100; refine (B2 _).mono ?_; rintro e wx ⟨rfl, rfl⟩)
          | (go_at_call 101; refine (B3 _).mono ?_; rintro e wx ⟨rfl, rfl⟩))
        go_ret
        refine ⟨?_, M.out⟩
        first | rfl | (congr 2; simp; done) | (congr 2; simp; omega)
      | true =>
      by_cases n1 : 0 < n
      · by_cases n2 : n ≤ 65535
        · have f0 : (n == 0) = false := by simp; omega
          have f1 : decide (0 < n) = true := by simp; omega
          have f2 : decide (n ≤ 65535) = true := by simp; omega
          go_wp2_with (first
            | (go_at_call 100; refine (B2 _).mono ?_; rintro e wx ⟨rfl, rfl⟩)
            | (go_at_call 101; refine (B3 _).mono ?_; rintro e wx ⟨rfl, rfl⟩))
          go_ret
          refine ⟨?_, M.out⟩
          first | rfl | (congr 2; simp; done) | (congr 2; simp; omega)
        · have f0 : (n == 0) = false := by simp; omega
          have f1 : decide (0 < n) = true := by simp; omega
          have f2 : decide (n ≤ 65535) = false := by simp; omega
          go_wp2_with (first
            | (go_at_call 100; refine (B2 _).mono ?_; rintro e wx ⟨rfl, rfl⟩)
            | (go_at_call 101; refine (B3 _).mono ?_; rintro e wx ⟨rfl, rfl⟩))
          go_ret
          refine ⟨?_, M.out⟩
          first | rfl | (congr 2; simp; done) | (congr 2; simp; omega)
      · have f0 : (n == 0) = false := by simp; omega
        have f1 : decide (0 < n) = false := by simp; omega
        go_wp2_with (first
          | (go_at_call 100; refine (B2 _).mono ?_; rintro e wx ⟨rfl, rfl⟩)
          | (go_at_call 101; refine (B3 _).mono ?_; rintro e wx ⟨rfl, rfl⟩))
        go_ret
        refine ⟨?_, M.out⟩
        first | rfl | (congr 2; simp; done) | (congr 2; simp; omega)
    · have f0 : (u != 0) = true := by simp; omega
      go_wp2_with (first
        | (go_at_call 100; refine (B2 _).mono ?_; rintro e wx ⟨rfl, rfl⟩)
        | (go_at_call 101; refine (B3 _).mono ?_; rintro e wx ⟨rfl, rfl⟩))
      go_ret
      refine ⟨?_, M.out⟩
      first | rfl | (congr 2; simp; done) | (congr 2; simp; omega)
theorem empty_toList (s : ByteArray) : s.toList.isEmpty = decide (s.size = 0) := by
  rw [ByteArray.toList_eq]
  have : s.size = s.data.toList.length := rfl
  rw [this]
  cases s.data.toList <;> simp
theorem rone_c (k u n : Int) (s : ByteArray) (A : Option Addr) (len cc : Nat) (w : World) :
    Calls Tryd.prog 80 #[.agg (tmc k u n s A len cc).toArray] w fun e w' => e = .returned (.bool (Tm.one k u n s.size len)) ∧ Mod [] w w' := by
  have fin : ∀ b, b = Tm.one k u n s.size len → (∀ w, Calls Tryd.prog 80 #[.agg (tmc k u n s A len cc).toArray] w fun e w' => e = .returned (.bool b) ∧ Mod [] w w') → Calls Tryd.prog 80 #[.agg (tmc k u n s A len cc).toArray] w fun e w' => e = .returned (.bool (Tm.one k u n s.size len)) ∧ Mod [] w w' := fun b hb h => by rw [← hb]; exact h w
  have no : ¬ (Tm.one k u n s.size len = true) → false = Tm.one k u n s.size len := fun h => by cases hq : Tm.one k u n s.size len with | true => exact absurd hq h | false => rfl
  by_cases hk : 1 ≤ k ∧ k ≤ 8
  · have hr : rk k = (Tm.nk k : Int) := by unfold rk; rw [if_pos hk]
    have h1 : decide (rk k < 0) = false := by rw [hr, decide_eq_false_iff_not]; omega
    by_cases hl : len = Tm.nk k
    · have h2 : ((len : Int) != rk k) = false := by rw [hr, hl]; simp
      by_cases hs : 64 < s.size
      · refine fin false (no fun h => ?_) fun w => rone_3 k u n (rk k) s A len cc rfl h1 h2 (by simp; omega) w
        have h' := (Tm.one_iff.1 h).2.1.1
        have : s.size ≤ 64 := Nat.le_trans h' (by split <;> decide)
        omega
      · have h3 : decide (64 < (s.size : Int)) = false := by simp; omega
        by_cases h4 : k = 1
        · subst h4
          refine fin _ ?_ fun w => rone_5 1 u n (rk 1) s A len cc rfl h1 h2 h3 rfl w false false rfl rfl
          rw [Bool.eq_iff_iff, Tm.one_iff]
          have e1 : Tm.hasT 1 = true := rfl
          have e2 : Tm.hasU 1 = false := rfl
          have e3 : Tm.hasN 1 = false := rfl
          rw [e1, e2, e3]
          simp
          omega
        · have h4' : (k != 1) = true := by simpa using h4
          have eT : Tm.hasT k = false := by unfold Tm.hasT; simpa using h4
          by_cases hz : s.size = 0
          · refine fin _ ?_ fun w => rone_6 k u n (rk k) s A len cc rfl h1 h2 h3 h4' (by rw [empty_toList]; simp [hz]) w _ _ rfl rfl
            rw [Bool.eq_iff_iff, Tm.one_iff, eT, hz]
            cases Tm.hasU k <;> cases Tm.hasN k <;> simp [hk, hl] <;> omega
          · refine fin false (no fun h => ?_) fun w => rone_4 k u n (rk k) s A len cc rfl h1 h2 h3 h4' (by rw [empty_toList]; simp [hz]) w
            have := (Tm.one_iff.1 h).2.1.1
            rw [eT] at this
            have h' : s.size ≤ 0 := this
            omega
    · refine fin false (no fun h => hl (Tm.one_iff.1 h).2.2) fun w => rone_2 k u n (rk k) s A len cc rfl h1 (by rw [hr]; simp; omega) w
  · have hr : rk k = -1 := by unfold rk; rw [if_neg hk]
    exact fin false (no fun h => hk (Tm.one_iff.1 h).1) fun w => rone_1 k u n (rk k) s A len cc rfl (by rw [hr]; rfl) w
end
section
open Go.RowKit Go.Shelf
set_option linter.unusedVariables false
set_option linter.unusedSimpArgs false
/-- What the document's Size does with the terms of a depth. -/
def RSizeAll (m : Nat) : Prop := ∀ (t : Tm) (cs : List Value) (S : Nat → Prop) (most dp : Int) (w : World), t.depth ≤ m → TIs w S t cs → 0 ≤ dp → dp ≤ 60 → 0 ≤ most → most ≤ 1200 →
  Calls Tryd.prog 56 #[.agg cs.toArray, .int .i64 most, .int .i64 dp] w fun e w' => e = .returned (.tuple #[.int .i64 (t.sz (61 - dp) most), .bool (!(t.sz (61 - dp) most == 0))]) ∧ Mod [] w w'
set_option maxRecDepth 1000000 in
set_option maxHeartbeats 4000000 in
theorem rsize_1 (k u n : Int) (s : ByteArray) (A : Option Addr) (len c : Nat) (most dp : Int) (w : World) (h1 : decide (most < 1) = true) :
    Calls Tryd.prog 56 #[.agg (tmc k u n s A len c).toArray, .int .i64 most, .int .i64 dp] w fun e w' => e = .returned (.tuple #[.int .i64 0, .bool false]) ∧ Mod [] w w' := by
  have OC := fun v => rone_c k u n s A len c v
  go_enter Tryd.func56, Tryd.ntmps56
  go_wp2_with (first
    | (with_reducible refine wpList_boxes (o := ⟨some 3, .box 24 (.tmp 0), _, _, _, _⟩) rfl 24 (.tmp 0) rfl _ rfl (tmc k u n s A len c) rfl ?_; intro w1 hb1 m1 z1; replace z1 := Lib.hid z1
       obtain ⟨b1, hq1⟩ : ∃ b, b = w.heap.size := ⟨_, rfl⟩
       rw [← hq1] at hb1 ⊢
       have e0 := hb1.cell 0
       have e1 := hb1.cell 1
       have e2 := hb1.cell 2
       have e3 := hb1.cell 3
       have e4 := hb1.cell 4
       simp only [tmc, List.getElem?_cons_succ, List.getElem?_cons_zero] at e0 e1 e2 e3 e4
       clear z1 hq1)
    | (go_at_call 80; refine (OC w1).mono ?_
       rintro e w2 ⟨rfl, m2⟩
       replace m1 := m1.then m2
       replace hb1 := hb1.keep m2 (by simp)
       clear e0 e1 e2 e3 e4
       have e4 := hb1.cell 4
       simp only [tmc, List.getElem?_cons_succ, List.getElem?_cons_zero] at e4
       clear m2 OC))
  go_ret2
  exact ⟨rfl, m1⟩
set_option maxRecDepth 1000000 in
set_option maxHeartbeats 4000000 in
theorem rsize_2 (k u n : Int) (s : ByteArray) (A : Option Addr) (len c : Nat) (most dp : Int) (w : World) (h1 : decide (most < 1) = false) (h2 : decide (dp < 1) = true) :
    Calls Tryd.prog 56 #[.agg (tmc k u n s A len c).toArray, .int .i64 most, .int .i64 dp] w fun e w' => e = .returned (.tuple #[.int .i64 0, .bool false]) ∧ Mod [] w w' := by
  have OC := fun v => rone_c k u n s A len c v
  go_enter Tryd.func56, Tryd.ntmps56
  go_wp2_with (first
    | (with_reducible refine wpList_boxes (o := ⟨some 3, .box 24 (.tmp 0), _, _, _, _⟩) rfl 24 (.tmp 0) rfl _ rfl (tmc k u n s A len c) rfl ?_; intro w1 hb1 m1 z1; replace z1 := Lib.hid z1
       obtain ⟨b1, hq1⟩ : ∃ b, b = w.heap.size := ⟨_, rfl⟩
       rw [← hq1] at hb1 ⊢
       have e0 := hb1.cell 0
       have e1 := hb1.cell 1
       have e2 := hb1.cell 2
       have e3 := hb1.cell 3
       have e4 := hb1.cell 4
       simp only [tmc, List.getElem?_cons_succ, List.getElem?_cons_zero] at e0 e1 e2 e3 e4
       clear z1 hq1)
    | (go_at_call 80; refine (OC w1).mono ?_
       rintro e w2 ⟨rfl, m2⟩
       replace m1 := m1.then m2
       replace hb1 := hb1.keep m2 (by simp)
       clear e0 e1 e2 e3 e4
       have e4 := hb1.cell 4
       simp only [tmc, List.getElem?_cons_succ, List.getElem?_cons_zero] at e4
       clear m2 OC))
  go_ret2
  exact ⟨rfl, m1⟩
set_option maxRecDepth 1000000 in
set_option maxHeartbeats 4000000 in
theorem rsize_3 (k u n : Int) (s : ByteArray) (A : Option Addr) (len c : Nat) (most dp : Int) (w : World) (h1 : decide (most < 1) = false) (h2 : decide (dp < 1) = false) (h3 : Tm.one k u n s.size len = false) :
    Calls Tryd.prog 56 #[.agg (tmc k u n s A len c).toArray, .int .i64 most, .int .i64 dp] w fun e w' => e = .returned (.tuple #[.int .i64 0, .bool false]) ∧ Mod [] w w' := by
  have OC := fun v => rone_c k u n s A len c v
  rw [h3] at OC
  clear h3
  go_enter Tryd.func56, Tryd.ntmps56
  go_wp2_with (first
    | (with_reducible refine wpList_boxes (o := ⟨some 3, .box 24 (.tmp 0), _, _, _, _⟩) rfl 24 (.tmp 0) rfl _ rfl (tmc k u n s A len c) rfl ?_; intro w1 hb1 m1 z1; replace z1 := Lib.hid z1
       obtain ⟨b1, hq1⟩ : ∃ b, b = w.heap.size := ⟨_, rfl⟩
       rw [← hq1] at hb1 ⊢
       have e0 := hb1.cell 0
       have e1 := hb1.cell 1
       have e2 := hb1.cell 2
       have e3 := hb1.cell 3
       have e4 := hb1.cell 4
       simp only [tmc, List.getElem?_cons_succ, List.getElem?_cons_zero] at e0 e1 e2 e3 e4
       clear z1 hq1)
    | (go_at_call 80; refine (OC w1).mono ?_
       rintro e w2 ⟨rfl, m2⟩
       replace m1 := m1.then m2
       replace hb1 := hb1.keep m2 (by simp)
       clear e0 e1 e2 e3 e4
       have e4 := hb1.cell 4
       simp only [tmc, List.getElem?_cons_succ, List.getElem?_cons_zero] at e4
       clear m2 OC))
  go_ret2
  exact ⟨rfl, m1⟩
set_option maxRecDepth 1000000 in
set_option maxHeartbeats 4000000 in
theorem rsize_4 (m : Nat) (ih : RSizeAll m) (k u n : Int) (s : ByteArray) (A : Option Addr) (len c : Nat) (l : List Tm) (vs : List (List Value)) (S : Nat → Prop) (most dp : Int) (w : World) (hlen : len = l.length) (hr : RowT w S A vs l) (hd : ∀ t ∈ l, t.depth ≤ m)
    (d0 : 1 ≤ dp) (d1 : dp ≤ 60) (r0 : 1 ≤ most) (r1 : most ≤ 1200) (hlm : len ≤ 2199023255552) (h3 : Tm.one k u n s.size len = true) (Z : Int) (zb : Bool) (hZ : Z = (if Tm.okAll l = true ∧ 61 - dp + Tm.depthAll l ≤ 60 ∧ 1 + (Tm.countAll l : Int) ≤ most then 1 + (Tm.countAll l : Int) else 0)) (hzb : zb = !(Z == 0)) :
    Calls Tryd.prog 56 #[.agg (tmc k u n s A len c).toArray, .int .i64 most, .int .i64 dp] w fun e w' => e = .returned (.tuple #[.int .i64 Z, .bool zb]) ∧ Mod [] w w' := by
  replace hZ := Lib.hid (And.intro hZ hzb)
  clear hzb
  have HR := Lib.hid (And.intro hlen (And.intro hr (And.intro hd ih)))
  have OC := fun v => rone_c k u n s A len c v
  rw [h3] at OC
  have h1 : decide (most < 1) = false := by simp; omega
  have h2 : decide (dp < 1) = false := by simp; omega
  clear hlen hr hd ih h3
  go_enter Tryd.func56, Tryd.ntmps56
  go_wp2_with (first
    | (with_reducible refine wpList_boxes (o := ⟨some 3, .box 24 (.tmp 0), _, _, _, _⟩) rfl 24 (.tmp 0) rfl _ rfl (tmc k u n s A len c) rfl ?_; intro w1 hb1 m1 z1; replace z1 := Lib.hid z1
       obtain ⟨b1, hq1⟩ : ∃ b, b = w.heap.size := ⟨_, rfl⟩
       rw [← hq1] at hb1 ⊢
       have e0 := hb1.cell 0
       have e1 := hb1.cell 1
       have e2 := hb1.cell 2
       have e3 := hb1.cell 3
       have e4 := hb1.cell 4
       simp only [tmc, List.getElem?_cons_succ, List.getElem?_cons_zero] at e0 e1 e2 e3 e4
       clear z1 hq1)
    | (go_at_call 80; refine (OC w1).mono ?_
       rintro e w2 ⟨rfl, m2⟩
       replace m1 := m1.then m2
       replace hb1 := hb1.keep m2 (by simp)
       clear e0 e1 e2 e3 e4
       have e4 := hb1.cell 4
       simp only [tmc, List.getElem?_cons_succ, List.getElem?_cons_zero] at e4
       clear m2 OC))
  clear h1 h2
  have HB := Lib.hid hb1
  have HM := Lib.hid m1
  clear hb1 m1 e4
  go_loopw [8, 9] (fun v i wr => ∃ (j : Nat) (q : Int), i = .int .i64 j ∧ j ≤ len ∧ v = .int .i64 q ∧ 1 ≤ q ∧ q ≤ most ∧ SzPre l j (61 - dp) q ∧ Mod [] w wr ∧ Holds wr b1 24 (tmc k u n s A len c)) (fun _ i _ => len - (intOf i).toNat)
  case atStart => exact ⟨0, 1, rfl, by omega, rfl, by omega, by omega, szPre_0 l (61 - dp) (by omega), HM.out, HB.out⟩
  case round =>
  obtain ⟨j, q, rfl, hj, rfl, q1, q2, hpre, mr, hbr⟩ := hrel
  have e4 := hbr.cell 4
  simp only [tmc, List.getElem?_cons_succ, List.getElem?_cons_zero] at e4
  by_cases hjl : j < len
  case neg =>
    obtain rfl : len = j := by omega
    have hq := szPre_end (HR.out.1 ▸ hpre) q2
    have HQ : Hid (Z = q ∧ zb = true) := Lib.hid ⟨hZ.out.1.trans hq, by rw [hZ.out.2, hZ.out.1.trans hq]; simp; omega⟩
    clear hq hpre
    go_wp2_with fail
    go_ret2
    refine ⟨?_, mr⟩
    rw [HQ.out.1, HQ.out.2]
    rfl
  have hjl' : j < l.length := by rw [← HR.out.1]; exact hjl
  obtain ⟨g, o, cs, rfl, hcE, hT, hcs, hSg⟩ := HR.out.2.1.elem j hjl'
  replace hcE := hcE.keep mr (by simp)
  obtain ⟨r, hrz⟩ : ∃ r, r = Tm.sz l[j] (61 - dp + 1) (most - q) := ⟨_, rfl⟩
  have IHC := fun v (mv : Mod [] w v) => HR.out.2.2.2 l[j] cs S (most - q) (dp - 1) v (HR.out.2.2.1 _ (List.getElem_mem _)) (hT.keep mv (by simp)) (by omega) (by omega) (by omega) (by omega)
  rw [show 61 - (dp - 1) = 61 - dp + 1 by omega, ← hrz] at IHC
  by_cases hr0 : r = 0
  · have HQ : Hid (Z = 0 ∧ zb = false) := by
      have h := hZ.out.1.trans (szPre_stop hpre hjl' (hrz ▸ hr0))
      exact Lib.hid ⟨h, by rw [hZ.out.2, h]; rfl⟩
    rw [show (!(r == 0)) = false by simpa using hr0] at IHC
    subst hr0
    clear hrz hpre hT hSg hjl'
    go_wp2_with (first
    | (with_reducible refine wpList_loads (o := ⟨some 35, .load 24 (.tmp 34), _, _, _, _⟩) rfl 24 (.tmp 34) rfl g (o + j * 5) (cs) rfl (hcE) _ Tryd.underlying24 rfl (size24' hcs) (.agg (cs).toArray) rfl ?_)
    | (go_at_call 56
       with_reducible refine Calls.mono (IHC wr mr) ?_
       rintro e w5 ⟨rfl, m5⟩
       have m4 := mr.then m5
       clear m5 IHC))
    go_ret2
    refine ⟨?_, m4⟩
    rw [HQ.out.1, HQ.out.2]
    rfl
  have hnx := szPre_next hpre hjl' q2 hrz hr0
  obtain ⟨n1, n2, n3⟩ := hnx
  rw [show (!(r == 0)) = true by simpa using hr0] at IHC
  replace n1 := Lib.hid n1
  have HBR := Lib.hid hbr
  clear hrz hpre hT hSg hjl' hr0 hbr
  go_wp2_with (first
    | (with_reducible refine wpList_loads (o := ⟨some 35, .load 24 (.tmp 34), _, _, _, _⟩) rfl 24 (.tmp 34) rfl g (o + j * 5) (cs) rfl (hcE) _ Tryd.underlying24 rfl (size24' hcs) (.agg (cs).toArray) rfl ?_)
    | (go_at_call 56
       with_reducible refine Calls.mono (IHC wr mr) ?_
       rintro e w5 ⟨rfl, m5⟩
       have m4 := mr.then m5
       have m5x := m5
       clear m5 IHC))
  exact ⟨⟨j + 1, q + r, by go_num, by omega, rfl, by omega, by omega, n1.out, m4, HBR.out.keep m5x (by simp)⟩, by simp [intOf]; omega⟩
theorem rsize_all : ∀ m, RSizeAll m
  | 0, t, _, _, _, _, _, h, _, _, _, _, _ => by have := Tm.depth_pos t; omega
  | m + 1, .mk k u n s l, cs, S, most, dp, w, h, hT, d0, d1, r0, r1 => by
    obtain ⟨A, c, vs, rfl, hr, hlc, hcm, hlm, hs⟩ := hT.row
    rw [Tm.depth] at h
    have sz0 : ∀ z : Int, z = Tm.sz (.mk k u n s l) (61 - dp) most → (∀ w, Calls Tryd.prog 56 #[.agg (tmc k u n s A l.length c).toArray, .int .i64 most, .int .i64 dp] w fun e w' => e = .returned (.tuple #[.int .i64 z, .bool (!(z == 0))]) ∧ Mod [] w w') → Calls Tryd.prog 56 #[.agg (tmc k u n s A l.length c).toArray, .int .i64 most, .int .i64 dp] w fun e w' => e = .returned (.tuple #[.int .i64 (Tm.sz (.mk k u n s l) (61 - dp) most), .bool (!(Tm.sz (.mk k u n s l) (61 - dp) most == 0))]) ∧ Mod [] w w' := fun z hz hc => by rw [← hz]; exact hc w
    have szz : ¬ (Tm.ok (.mk k u n s l) = true ∧ 61 - dp + Tm.depth (.mk k u n s l) ≤ 61 ∧ (Tm.count (.mk k u n s l) : Int) ≤ most) → 0 = Tm.sz (.mk k u n s l) (61 - dp) most := fun h => by rw [Tm.sz, if_neg h]
    have c1 := Tm.count_pos (.mk k u n s l)
    have c2 := Tm.depth_pos (.mk k u n s l)
    by_cases h1 : most < 1
    · exact sz0 0 (szz fun hh => by omega) fun w => rsize_1 k u n s A l.length c most dp w (by simpa using h1)
    by_cases h2 : dp < 1
    · exact sz0 0 (szz fun hh => by omega) fun w => rsize_2 k u n s A l.length c most dp w (by simpa using h1) (by simpa using h2)
    cases h3 : Tm.one k u n s.size l.length with
    | false =>
      refine sz0 0 (szz fun hh => ?_) fun w => rsize_3 k u n s A l.length c most dp w (by simpa using h1) (by simpa using h2) h3
      rw [Tm.ok, h3] at hh
      simp at hh
    | true =>
      refine (rsize_4 m (rsize_all m) k u n s A l.length c l vs S most dp w rfl hr (fun t ht => by have := Tm.mem_depth ht; omega) (by omega) (by omega) (by omega) r1 hlm h3 _ _ rfl rfl).mono ?_
      rintro e w' ⟨rfl, hm⟩
      obtain ⟨z, hz⟩ : ∃ z : Int, z = (if Tm.okAll l = true ∧ 61 - dp + Tm.depthAll l ≤ 60 ∧ 1 + (Tm.countAll l : Int) ≤ most then 1 + (Tm.countAll l : Int) else 0) := ⟨_, rfl⟩
      rw [← hz]
      have hzz : z = Tm.sz (.mk k u n s l) (61 - dp) most := by
        rw [hz, Tm.sz, Tm.ok, h3, Tm.depth, Tm.count]
        simp only [Bool.true_and]
        congr 1
        · apply propext
          constructor
          · rintro ⟨a, b, c⟩; exact ⟨a, by omega, by omega⟩
          · rintro ⟨a, b, c⟩; exact ⟨a, by omega, by omega⟩
      rw [← hzz]
      exact ⟨rfl, hm⟩
end
section
section
open Go.RowKit Go.Shelf
set_option linter.unusedVariables false
set_option linter.unusedSimpArgs false
set_option maxRecDepth 1000000 in
set_option maxHeartbeats 2000000 in
theorem rright_c (t : Tm) (cs : List Value) (S : Nat → Prop) (w : World) (hT : TIs w S t cs) : Calls Tryd.prog 29 #[.agg cs.toArray] w fun e w' => e = .returned (.bool t.right) ∧ Mod [] w w' := by
  have hcs := hT.len
  have RS := fun v (mv : Mod [] w v) => rsize_all _ t cs _ 1200 60 v (Nat.le_refl _) (hT.keep mv (by simp)) (by decide) (by decide) (by decide) (by decide)
  have hz := sz_right t
  rw [show (61 : Int) - 60 = 1 from rfl, hz] at RS
  obtain ⟨z, hzz⟩ : ∃ z, z = Tm.sz t 1 1200 := ⟨_, rfl⟩
  rw [← hzz] at RS
  obtain ⟨R, hR⟩ : ∃ R, R = t.right := ⟨_, rfl⟩
  rw [← hR] at RS ⊢
  clear hz hzz hR hT
  go_enter Tryd.func29, Tryd.ntmps29
  go_wp2_with (first
    | (with_reducible refine wpList_boxes (o := ⟨some 1, .box 24 (.tmp 0), _, _, _, _⟩) rfl 24 (.tmp 0) rfl _ rfl cs rfl ?_; intro w1 hb1 mm z1
       obtain ⟨b1, hq1⟩ : ∃ b, b = w.heap.size := ⟨_, rfl⟩
       rw [← hq1] at hb1 ⊢
       clear hq1 z1)
    | (with_reducible refine wpList_loads (o := ⟨some 6, .load 24 (.tmp 1), _, _, _, _⟩) rfl 24 (.tmp 1) rfl b1 (0) (cs) rfl (Cells.of_holds hb1) _ Tryd.underlying24 rfl (size24' hcs) (.agg (cs).toArray) rfl ?_)
    | (go_at_call 56; with_reducible refine Calls.mono (RS _ mm) ?_
       rintro e wz ⟨rfl, mz⟩
       replace mm := mm.then mz
       clear mz))
  go_ret
  exact ⟨rfl, mm⟩
end
section
open Go.RowKit Go.Shelf
set_option linter.unusedVariables false
set_option linter.unusedSimpArgs false
/-- The cells of one term. -/
abbrev Q5 := { l : List Value // l.length = 5 ∧ ∀ v ∈ l, v.oneCell' = true }
def f5 (x : Q5) : List Value := x.1
theorem f5_len (x : Q5) : (f5 x).length = 5 := x.2.1
theorem f5_one (x : Q5) : ∀ v ∈ f5 x, v.oneCell' = true := x.2.2
/-- A row of terms of the call's own: what is beneath them lies in blocks of S. -/
structure RowO (w : World) (S : Nat → Prop) (A : Option Addr) (c : Nat) (l : List Tm) (xs : List Q5) : Prop where
  own : OwnG f5 24 5 w A c xs
  len : xs.length = l.length
  tis : ∀ i (h : i < l.length) (h' : i < xs.length), TIs w S l[i] xs[i].1
  sep : ∀ g, S g → g < w.heap.size ∧ g ∉ blk A
theorem RowO.nil (w : World) : RowO w (fun _ => False) none 0 [] [] := ⟨OwnG.nil f5 24 5 w, rfl, fun i h => by simp at h, fun g h => h.elim⟩
theorem RowO.keep {w v : World} {S : Nat → Prop} {A : Option Addr} {c : Nat} {l : List Tm} {xs : List Q5} {ms : List Nat} (h : RowO w S A c l xs) (m : Mod ms w v) (h1 : ∀ i ∈ blk A, i ∉ ms) (h2 : ∀ g, S g → g ∉ ms) : RowO v S A c l xs :=
  ⟨h.own.keep m (fun a ha => h1 _ (by subst ha; simp [blk])), h.len, fun i h1 h3 => (h.tis i h1 h3).keep m h2, fun g hg => ⟨Nat.lt_of_lt_of_le (h.sep g hg).1 m.size, (h.sep g hg).2⟩⟩
theorem RowO.lt {w : World} {S : Nat → Prop} {A : Option Addr} {c : Nat} {l : List Tm} {xs : List Q5} (h : RowO w S A c l xs) : ∀ i ∈ blk A, i < w.heap.size := fun i hi => by
  cases A with
  | none => simp [blk] at hi
  | some a => simp [blk] at hi; subst hi; exact h.own.lt a rfl
/-- One more behind it. -/
theorem RowO.app {w v : World} {S : Nat → Prop} {A A' : Option Addr} {c c' : Nat} {l : List Tm} {xs : List Q5} (h : RowO w S A c l xs) {t : Tm} {cs : List Value} (ht : TIs w S t cs) (h5 : cs.length = 5 ∧ ∀ v ∈ cs, v.oneCell' = true) (ho : OwnG f5 24 5 v A' c' (xs ++ [⟨cs, h5⟩])) (m : Mod (blk A) w v) (hb : ∀ a, A' = some a → a.block ∈ blk A ∨ w.heap.size ≤ a.block) :
    RowO v S A' c' (l ++ [t]) (xs ++ [⟨cs, h5⟩]) := by
  have hs : ∀ g, S g → g ∉ blk A := fun g hg => (h.sep g hg).2
  refine ⟨ho, (by rw [List.length_append, List.length_append, h.len]; rfl), fun i h1 h2 => ?_, fun g hg => ⟨Nat.lt_of_lt_of_le (h.sep g hg).1 m.size, fun hi => ?_⟩⟩
  · by_cases hi : i < l.length
    · have hi' : i < xs.length := by rw [h.len]; exact hi
      rw [List.getElem_append_left hi, List.getElem_append_left hi']
      exact (h.tis i hi hi').keep m hs
    · have e1 : i = l.length := by simp at h1; omega
      subst e1
      have q1 : (l ++ [t])[l.length]'h1 = t := by simp
      have q2 : (xs ++ [(⟨cs, h5⟩ : Q5)])[l.length]'h2 = ⟨cs, h5⟩ := by
        rw [List.getElem_append_right (by rw [h.len]; exact Nat.le_refl _)]
        simp [h.len]
      rw [q1, q2]
      exact ht.keep m hs
  · cases A' with
    | none => simp [blk] at hi
    | some a =>
      simp [blk] at hi
      have h1 := h.sep g hg
      rcases hb a rfl with h2 | h2
      · rw [← hi] at h2; exact h1.2 h2
      · omega
theorem RowO.grow {w : World} {S S' : Nat → Prop} {A : Option Addr} {c : Nat} {l : List Tm} {xs : List Q5} (h : RowO w S A c l xs) (hS : ∀ g, S g → S' g) (hs : ∀ g, S' g → g < w.heap.size ∧ g ∉ blk A) : RowO w S' A c l xs :=
  ⟨h.own, h.len, fun i h1 h2 => (h.tis i h1 h2).mono hS, hs⟩
theorem f5_flat (xs : List Q5) : (xs.map (·.1)).flatMap id = xs.flatMap f5 := by rw [List.flatMap_map]; rfl
theorem RowO.row {w : World} {S : Nat → Prop} {A : Option Addr} {c : Nat} {l : List Tm} {xs : List Q5} (h : RowO w S A c l xs) : RowT w (fun g => S g ∨ g ∈ blk A) A (xs.map (·.1)) l := by
  refine ⟨fun a ha _ => .inr (by subst ha; simp [blk]), by simp [h.len], fun v hv => ?_, ?_, fun i h1 h2 => ?_⟩
  · obtain ⟨x, _, rfl⟩ := List.mem_map.1 hv
    exact x.2.1
  · rw [f5_flat]; exact h.own.cells
  · have h3 : i < xs.length := by simpa using h2
    rw [List.getElem_map]
    exact (h.tis i h1 h3).mono fun g hg => .inl hg
theorem RowO.fits {w : World} {S : Nat → Prop} {A : Option Addr} {c : Nat} {l : List Tm} {xs : List Q5} (h : RowO w S A c l xs) : l.length ≤ c ∧ c ≤ maxLen := by
  have := h.own.fits
  rw [h.len] at this
  exact this
end
end
end Go.Proofs.YtchanildogjhgaaDoor

