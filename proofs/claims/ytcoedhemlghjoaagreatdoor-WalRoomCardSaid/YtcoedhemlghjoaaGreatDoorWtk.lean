/-
  What an act that takes something down comes to on a calm disk. My own work: no memory, no program.
-/
import Derived.Test.YtcoedhemlghjoaaGreatDoorWag
namespace Go.Proofs.YtcoedhemlghjoaaGreatDoor
open Go.RowKit
def Lo.room (L : Lo) (a : Ak) : Nat := if a.kind = 3 then L.a else L.a - L.e
def Lo.behind (L : Lo) (a : Ak) : Lo := if a.kind = 3 then { t := L.t + 1, a := L.a, x0 := a.bytes, xs := [], e := fills a.bytes.length, br := false } else { L with xs := L.xs ++ [a.bytes], e := L.e + fills a.bytes.length }
section
variable {c s : List UInt32} {S : St} {L : Lo}
theorem tk_long (a : Ak) (h : 40000 < a.long) : L.take c s S a = (3, L, S) := by
  have h' : 40000 < a.bytes.length := by rw [a.bytes_length]; exact h
  unfold Lo.take Lo.chk Lo.app
  simp only [if_pos h', ite_self]
theorem tk_full (hbr : L.br = false) (a : Ak) (h : ¬ 40000 < a.long) (h2 : L.room a < fills a.long) : L.take c s S a = (6, L, S) := by
  have h' : ¬ 40000 < a.bytes.length := by rw [a.bytes_length]; exact h
  rw [← a.bytes_length] at h2
  unfold Lo.room at h2
  unfold Lo.take Lo.chk Lo.app
  by_cases h3 : a.kind = 3
  · rw [if_pos h3] at h2 ⊢
    rw [if_neg h', if_neg (by rw [hbr]; simp), if_pos (.inl h2)]
  · rw [if_neg h3] at h2 ⊢
    rw [if_neg h', if_neg (by rw [hbr]; simp), if_pos h2]
theorem Calm.take (hc : Calm S) (hf : Fine c s L S.n S.holds) (hbr : L.br = false) (ht : L.t ≠ 4294967295) (a : Ak) (h : ¬ 40000 < a.long) (h2 : ¬ L.room a < fills a.long) :
    ∃ T, L.take c s S a = (0, L.behind a, T) ∧ Then S T 1000 ∧ T.loose = [] ∧ Fine c s (L.behind a) S.n T.holds ∧ (L.behind a).br = false := by
  have h' : a.bytes.length ≤ 40000 := by rw [a.bytes_length]; omega
  rw [← a.bytes_length] at h2
  unfold Lo.room at h2
  unfold Lo.take Lo.behind
  by_cases h3 : a.kind = 3
  · simp only [if_pos h3] at h2 ⊢
    obtain ⟨T, a1, a2, a3, a4⟩ := hc.chk hf hbr a.bytes h' (by omega) ht
    exact ⟨T, a1, a2, a3, a4, by first | rfl | trivial⟩
  · simp only [if_neg h3] at h2 ⊢
    obtain ⟨T, a1, a2, a3, a4⟩ := hc.app hf hbr a.bytes h' (by omega)
    exact ⟨T, a1, a2, a3, a4, hbr⟩
theorem behind_a (L : Lo) (a : Ak) : (L.behind a).a = L.a := by unfold Lo.behind; split <;> rfl
theorem behind_t (L : Lo) (a : Ak) : (L.behind a).t = if a.kind = 3 then L.t + 1 else L.t := by unfold Lo.behind; split <;> rfl
theorem behind_e (L : Lo) (a : Ak) : (L.behind a).e = if a.kind = 3 then fills a.long else L.e + fills a.long := by unfold Lo.behind; rw [a.bytes_length]; split <;> rfl
end
end Go.Proofs.YtcoedhemlghjoaaGreatDoor
