/-
  Rows of bytes, as they come in; a row of such. My own work.
-/
import Derived.Test.YtbacmeaeehhhfaaDoorOb
import Derived.Test.YtbacmeaeehhhfaaDoorOpen
namespace Go.Proofs.YtbacmeaeehhhfaaDoor
open Go.RowKit Go.Shelf
set_option linter.unusedVariables false
structure Brw where
  A : Option Addr
  c : Nat
  l : List UInt8
def brv (r : Brw) : List Value := [.slice r.A r.l.length r.c]
def Brw.ok (r : Brw) (W : World) : Prop := r.l.length ≤ r.c ∧ r.c ≤ maxLen ∧ Reads W r.A r.l
theorem brv_length (r : Brw) : (brv r).length = 1 := rfl
section
open Go.ChangeShapes Go.WideShapes Go.ChangeAt
variable {H : Type} {enc : TypeId × Value → H} {W : World} {fuel : Nat} {x : DataW H × List MemPlace}
theorem brw_in {cs : List Value} (h : DataW.trod enc Tryd.prog W 0 (fun _ => true) true fuel 64 cs = some x) : ∃ r : Brw, cs = brv r ∧ r.ok W := by
  rcases open_ints Tryd.underlying64 Tryd.underlying5 (by kernel_rfl) h with ⟨hcs, _⟩ | ⟨x, l, c, zs, hcs, _, hl, hm, hz, hx, hcell, hwz⟩
  · exact ⟨⟨none, 0, []⟩, hcs, Nat.le_refl _, by simp, Reads.nil _ _⟩
  · simp at hz
    have hL : ((zs.take l).map (fun z => UInt8.ofNat z.toNat)).length = l := by simp; omega
    refine ⟨⟨some x, c, (zs.take l).map (fun z => UInt8.ofNat z.toNat)⟩, by unfold brv; rw [hL]; exact hcs, by rw [hL]; exact hl, hm, fun i hi => ?_⟩
    simp at hi
    have h1 := hcell i (by omega)
    obtain ⟨b, o, s⟩ := x
    have h0 := World.cell?_spot (hcell 0 (by omega))
    have hs : s = none := by simpa [Addr.add] using h0
    subst hs
    refine ⟨b, o, rfl, ?_⟩
    rw [add_plain] at h1
    rw [h1]
    have hi' : i < zs.length := by omega
    have h2 := byte_of (hwz (zs[i]) (List.getElem_mem hi'))
    simp [hi']
    omega
theorem bcells_join {b o : Nat} {l : List Brw} (h : ∀ i (hi : i < l.length), Cells W (some ⟨b, o + i * 1, none⟩) (brv l[i])) : Cells W (some ⟨b, o, none⟩) (l.flatMap brv) := by
  refine Cells.of_cells fun j hj => ?_
  have hl := flat_length brv 1 brv_length l
  rw [hl] at hj
  have hi : j < l.length := by omega
  have h1 := (h j hi).at 0 (by rw [brv_length]; omega)
  have h2 := flat_at brv 1 brv_length l j 0 hi (by omega)
  rw [show j * 1 + 0 = j by omega, List.getElem?_eq_getElem (by rw [hl]; exact hj), List.getElem?_eq_getElem (by rw [brv_length]; omega)] at h2
  have h3 := Option.some.inj h2
  rw [h3, ← h1]
  congr 2
  omega
theorem brws_in {cs : List Value} (h : DataW.trod enc Tryd.prog W 0 (fun _ => true) true fuel 62 cs = some x) :
    ∃ A c, ∃ l : List Brw, cs = [.slice A l.length c] ∧ l.length ≤ c ∧ c ≤ maxLen ∧ Cells W A (l.flatMap brv) ∧ ∀ r ∈ l, r.ok W := by
  have h4 : Tryd.prog.cellsOf 64 = 1 := by kernel_rfl
  rcases Deep.open_slice Tryd.underlying62 h with ⟨rfl, _⟩ | ⟨a, len, cap, m, n, D, Pl, rfl, _, hl, hm, hmm, _, hx⟩
  · exact ⟨none, 0, [], rfl, Nat.le_refl _, by simp, Cells.nil _ _, by simp⟩
  · simp only [if_true] at hmm
    have key : ∀ i : Nat, ∃ r : Brw, i < len → r.ok W ∧ ∃ b o, a = ⟨b, o, none⟩ ∧ Cells W (some ⟨b, o + i * 1, none⟩) (brv r) := by
      intro i
      by_cases hi : i < len
      · obtain ⟨cs', h1, h2⟩ := hx i (by omega)
        obtain ⟨r, hf, hok⟩ := brw_in h2
        rw [h4] at h1
        obtain ⟨_, hlen, hcell⟩ := World.cells?_some h1
        have hsp : ∀ j, j < 1 → ∃ v, W.cell? ((a.add (i * 1)).add j) = some v ∧ cs'[j]? = some v := fun j hj => by
          have := hcell j (by omega)
          refine ⟨cs'[j]'(by omega), ?_, List.getElem?_eq_getElem (by omega)⟩
          rw [this]
          exact List.getElem?_eq_getElem _
        refine ⟨r, fun _ => ?_⟩
        obtain ⟨b, o, s⟩ := a
        have hs : s = none := by
          obtain ⟨cs0, h10, h20⟩ := hx 0 (by omega)
          obtain ⟨_, hlen0, hcell0⟩ := World.cells?_some h10
          have q0 := hcell0 0 (by rw [h4]; omega)
          obtain ⟨r0, hd0, _⟩ := brw_in h20
          rw [hd0, List.getElem?_eq_getElem (by rw [brv_length]; omega)] at q0
          simpa [Addr.add] using World.cell?_spot q0
        subst hs
        refine ⟨hok, b, o, rfl, Cells.of_cells fun j hj => ?_⟩
        have hj4 : j < 1 := by rwa [brv_length] at hj
        obtain ⟨v, e1, e2⟩ := hsp j hj4
        rw [add_plain, add_plain] at e1
        rw [e1]
        rw [hf, List.getElem?_eq_getElem hj] at e2
        exact e2.symm
      · exact ⟨⟨none, 0, []⟩, fun h => absurd h hi⟩
    obtain ⟨f, hf⟩ := Classical.axiomOfChoice key
    have hL : ((List.range len).map f).length = len := by simp
    refine ⟨some a, cap, (List.range len).map f, by rw [hL], by rw [hL]; exact hl, hmm ▸ hm, ?_, fun r hr => by obtain ⟨i, hi, rfl⟩ := List.mem_map.1 hr; exact (hf i (by simpa using hi)).1⟩
    rcases Nat.eq_zero_or_pos len with h0 | h0
    · subst h0
      exact Cells.nil _ _
    · obtain ⟨_, b, o, rfl, _⟩ := hf 0 h0
      refine bcells_join fun i hi => ?_
      rw [hL] at hi
      obtain ⟨_, b', o', e1, q2⟩ := hf i hi
      cases e1
      simp only [List.getElem_map, List.getElem_range]
      exact q2
end
end Go.Proofs.YtbacmeaeehhhfaaDoor
