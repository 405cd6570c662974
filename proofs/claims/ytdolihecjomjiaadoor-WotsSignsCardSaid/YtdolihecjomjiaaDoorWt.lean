/-
  Digests that came in, a row of them. My own work.
-/
import Derived.Test.YtdolihecjomjiaaDoorLaid
import Derived.Deep.SlicePairs
import Derived.Deep.Grids
namespace Go.Proofs.YtdolihecjomjiaaDoor
open Go.ChangeShapes Go.WideShapes Go.ChangeAt Go.RowKit
section
variable {H : Type} {enc : TypeId × Value → H} {W : World} {fuel : Nat} {x : DataW H × List MemPlace}
theorem id_in {cs : List Value} (h : DataW.trod enc Tryd.prog W 0 (fun _ => true) true fuel 25 cs = some x) : ∃ r : Idv, cs = ic r := by
  obtain ⟨D, d1, d2, d3, _⟩ := arr_in (P := Tryd.prog) Tryd.underlying25 Tryd.underlying5 (by kernel_rfl) (by kernel_rfl) h
  obtain ⟨L, l1, l2⟩ := octs_of D d3
  exact ⟨⟨L, by rw [l1, d1]⟩, by rw [d2, l2]; rfl⟩
theorem cells_join {b o : Nat} {l : List Idv} (h : ∀ i (hi : i < l.length), Cells W (some ⟨b, o + i * 32, none⟩) (ic l[i])) : Cells W (some ⟨b, o, none⟩) (l.flatMap ic) := by
  refine Cells.of_cells fun j hj => ?_
  have hl := flat_length ic 32 ic_length l
  rw [hl] at hj
  have hi : j / 32 < l.length := by omega
  have h1 := (h (j / 32) hi).at (j % 32) (by rw [ic_length]; omega)
  have h2 := flat_at ic 32 ic_length l (j / 32) (j % 32) hi (by omega)
  rw [show j / 32 * 32 + j % 32 = j by omega, List.getElem?_eq_getElem (by rw [hl]; exact hj), List.getElem?_eq_getElem (by rw [ic_length]; omega)] at h2
  have h3 := Option.some.inj h2
  rw [h3, ← h1]
  congr 2
  omega
theorem ids_in {cs : List Value} (h : DataW.trod enc Tryd.prog W 0 (fun _ => true) true fuel 22 cs = some x) :
    ∃ A c, ∃ l : List Idv, cs = [.slice A l.length c] ∧ l.length ≤ c ∧ c ≤ maxLen ∧ Cells W A (l.flatMap ic) := by
  have h4 : Tryd.prog.cellsOf 25 = 32 := by kernel_rfl
  rcases Deep.open_slice Tryd.underlying22 h with ⟨rfl, _⟩ | ⟨a, len, cap, m, n, D, Pl, rfl, _, hl, hm, hmm, _, hx⟩
  · exact ⟨none, 0, [], rfl, Nat.le_refl _, by simp, Cells.nil _ _⟩
  · simp only [if_true] at hmm
    have key : ∀ i : Nat, ∃ r : Idv, i < len → ∃ b o, a = ⟨b, o, none⟩ ∧ Cells W (some ⟨b, o + i * 32, none⟩) (ic r) := by
      intro i
      by_cases hi : i < len
      · obtain ⟨cs', h1, h2⟩ := hx i (by omega)
        obtain ⟨r, hf⟩ := id_in h2
        rw [h4] at h1
        obtain ⟨_, hlen, hcell⟩ := World.cells?_some h1
        have hsp : ∀ j, j < 32 → ∃ v, W.cell? ((a.add (i * 32)).add j) = some v ∧ cs'[j]? = some v := fun j hj => by
          have := hcell j (by omega)
          refine ⟨cs'[j]'(by omega), ?_, List.getElem?_eq_getElem (by omega)⟩
          rw [this]
          exact List.getElem?_eq_getElem _
        refine ⟨r, fun _ => ?_⟩
        obtain ⟨b, o, s⟩ := a
        have hs : s = none := by
          obtain ⟨cs0, h10, h20⟩ := hx 0 (by omega)
          obtain ⟨_, hlen0, hcell0⟩ := World.cells?_some h10
          have q0 := hcell0 0 (by rw [h4]; omega)
          obtain ⟨r0, hd0⟩ := id_in h20
          rw [hd0, List.getElem?_eq_getElem (by rw [ic_length]; omega)] at q0
          simpa [Addr.add] using World.cell?_spot q0
        subst hs
        refine ⟨b, o, rfl, Cells.of_cells fun j hj => ?_⟩
        have hj4 : j < 32 := by rwa [ic_length] at hj
        obtain ⟨v, e1, e2⟩ := hsp j hj4
        rw [add_plain, add_plain] at e1
        rw [e1]
        rw [hf, List.getElem?_eq_getElem hj] at e2
        exact e2.symm
      · exact ⟨zeroI, fun h => absurd h hi⟩
    obtain ⟨f, hf⟩ := Classical.axiomOfChoice key
    have hL : ((List.range len).map f).length = len := by simp
    refine ⟨some a, cap, (List.range len).map f, by rw [hL], by rw [hL]; exact hl, hmm ▸ hm, ?_⟩
    rcases Nat.eq_zero_or_pos len with h0 | h0
    · subst h0
      exact Cells.nil _ _
    · obtain ⟨b, o, rfl, _⟩ := hf 0 h0
      refine cells_join fun i hi => ?_
      rw [hL] at hi
      obtain ⟨b', o', e1, q2⟩ := hf i hi
      cases e1
      simp only [List.getElem_map, List.getElem_range]
      exact q2
end
end Go.Proofs.YtdolihecjomjiaaDoor
