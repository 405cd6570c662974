/-
  Of two unlike digests each has a digit below the other's. Pure. My own work.
-/
import Derived.Test.YtdolihecjomjiaaDoorWo
namespace Go.Proofs.YtdolihecjomjiaaDoor
theorem csum_cons (d : Nat) (l : List Nat) : csum (d :: l) = (15 - d) + csum l := by simp [csum]
theorem csum_lt : ∀ (l m : List Nat), l.length = m.length → (∀ d ∈ l, d < 16) → (∀ i, m.getD i 0 ≤ l.getD i 0) → csum l ≤ csum m ∧ (l ≠ m → csum l < csum m)
  | [], [], _, _, _ => ⟨Nat.le_refl _, fun h => absurd rfl h⟩
  | [], _ :: _, h, _, _ => by simp at h
  | _ :: _, [], h, _, _ => by simp at h
  | d :: l, e :: m, h, hl, hp => by
    obtain ⟨h1, h2⟩ := csum_lt l m (by simpa using h) (fun x hx => hl x (List.mem_cons_of_mem _ hx)) (fun i => by simpa using hp (i + 1))
    have h0 : e ≤ d := by simpa using hp 0
    have hd := hl d (List.mem_cons_self ..)
    rw [csum_cons, csum_cons]
    refine ⟨by omega, fun hne => ?_⟩
    by_cases hde : d = e
    · have : l ≠ m := fun hh => hne (by rw [hde, hh])
      have := h2 this
      omega
    · omega
theorem bits2_cons (b : UInt8) (l : List UInt8) : bits2 (b :: l) = (b.toNat / 16) :: (b.toNat % 16) :: bits2 l := by
  unfold bits2
  rw [List.flatMap_cons, digs_two]
  rfl
theorem bits2_inj : ∀ (l m : List UInt8), l.length = m.length → bits2 l = bits2 m → l = m
  | [], [], _, _ => rfl
  | [], _ :: _, h, _ => by simp at h
  | _ :: _, [], h, _ => by simp at h
  | b :: l, c :: m, h, he => by
    rw [bits2_cons, bits2_cons] at he
    injection he with e1 he
    injection he with e2 he
    rw [bits2_inj l m (by simpa using h) he]
    have : b.toNat = c.toNat := by omega
    rw [UInt8.toNat_inj.1 this]
theorem getD_left (l m : List Nat) (i : Nat) (h : i < l.length) : (l ++ m).getD i 0 = l.getD i 0 := by
  rw [List.getD_eq_getElem?_getD, List.getD_eq_getElem?_getD, List.getElem?_append_left h]
theorem getD_right (l m : List Nat) (i : Nat) : (l ++ m).getD (l.length + i) 0 = m.getD i 0 := by
  rw [List.getD_eq_getElem?_getD, List.getD_eq_getElem?_getD, List.getElem?_append_right (by omega), Nat.add_sub_cancel_left]
theorem bits2_64 (x : Idv) : (bits2 x.1).length = 64 := by rw [bits2_length, x.2]
/-- Some digit is below the other's. -/
theorem below_ex (a b : Idv) (h : a ≠ b) : ∃ i, i < 67 ∧ dgt a i < dgt b i := by
  refine Classical.byContradiction fun hno => ?_
  have hall : ∀ i, i < 67 → dgt b i ≤ dgt a i := fun i hi => by
    rcases Nat.lt_or_ge (dgt a i) (dgt b i) with hlt | hge
    · exact absurd ⟨i, hi, hlt⟩ hno
    · exact hge
  have hne : bits2 a.1 ≠ bits2 b.1 := fun hh => h (Subtype.ext (bits2_inj a.1 b.1 (by rw [a.2, b.2]) hh))
  have hA := bits2_64 a
  have hB := bits2_64 b
  have h64 : ∀ i, (bits2 b.1).getD i 0 ≤ (bits2 a.1).getD i 0 := fun i => by
    by_cases hi : i < 64
    · have := hall i (by omega)
      unfold dgt digitsN at this
      rwa [getD_left _ _ _ (by omega), getD_left _ _ _ (by omega)] at this
    · rw [List.getD_eq_getElem?_getD, List.getElem?_eq_none (by omega)]
      exact Nat.zero_le _
  have hlt := (csum_lt (bits2 a.1) (bits2 b.1) (by omega) (fun d hd => bits2_lt hd) h64).2 hne
  have ca := csum_le (bits2 a.1)
  have cb := csum_le (bits2 b.1)
  rw [hA] at ca
  rw [hB] at cb
  have h3 : ∀ j, j < 3 → (digs (csum (bits2 b.1)) 3).getD j 0 ≤ (digs (csum (bits2 a.1)) 3).getD j 0 := fun j hj => by
    have := hall (64 + j) (by omega)
    unfold dgt digitsN at this
    have e1 := getD_right (bits2 a.1) (digs (csum (bits2 a.1)) 3) j
    have e2 := getD_right (bits2 b.1) (digs (csum (bits2 b.1)) 3) j
    rw [hA] at e1
    rw [hB] at e2
    rwa [e1, e2] at this
  rw [digs_three _ (by omega), digs_three _ (by omega)] at h3
  have g0 := h3 0 (by decide)
  have g1 := h3 1 (by decide)
  have g2 := h3 2 (by decide)
  simp only [List.getD_cons_zero, List.getD_cons_succ] at g0 g1 g2
  omega
/-- Whether some of the first digits is below the other's. -/
def lessB (a b : Idv) (n : Nat) : Bool := (List.range n).any fun i => decide (dgt a i < dgt b i)
theorem lessB_succ (a b : Idv) (n : Nat) : lessB a b (n + 1) = (lessB a b n || decide (dgt a n < dgt b n)) := by simp [lessB, List.range_succ]
theorem lessB_all (a b : Idv) : lessB a b 67 = decide (a ≠ b) := by
  by_cases h : a = b
  · subst h
    simp [lessB]
  · obtain ⟨i, hi, hlt⟩ := below_ex a b h
    have h1 : lessB a b 67 = true := List.any_eq_true.2 ⟨i, List.mem_range.2 hi, by simpa using hlt⟩
    rw [h1]
    exact (decide_eq_true h).symm
end Go.Proofs.YtdolihecjomjiaaDoor
