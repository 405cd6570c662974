/-
  A slice of whole numbers that came in. My own work.
-/
import Derived.Test.YtbacmeaeehhhfaaDoorNe
import Derived.Test.YtbacmeaeehhhfaaDoorOpen
namespace Go.Proofs.YtbacmeaeehhhfaaDoor
open Go.ChangeShapes Go.WideShapes Go.RowKit Go.Shelf
set_option linter.unusedVariables false
theorem flat_i64c (l : List Int) : l.flatMap i64c = l.map (Value.int .i64) := by
  induction l with
  | nil => rfl
  | cons a l ih => rw [List.flatMap_cons, ih]; rfl
theorem ints_in {H : Type} {enc : TypeId × Value → H} {P : Program} {W : World} {t e : TypeId} {a : Option Addr} {len cap : Nat} {d : DataW H} {p : List MemPlace} (ht : P.underlying t = some (.slice e)) (he : P.underlying e = some (.int .i64)) (hc : P.cellsOf e = 1)
    (h : DataW.Trod enc P W 0 (fun _ => true) true t (.slice a len cap) d p) : ∃ l : List Int, len = l.length ∧ len ≤ cap ∧ cap ≤ maxLen ∧ Cells W a (l.flatMap i64c) := by
  obtain ⟨fuel, hf⟩ := h
  rcases open_ints ht he hc hf with ⟨hcs, _⟩ | ⟨x, l, c, zs, hcs, _, hl, hm, hz, hx, hcell, hwz⟩
  · simp [Value.cells] at hcs
    obtain ⟨rfl, rfl, rfl⟩ := hcs
    exact ⟨[], rfl, by omega, by omega, fun i hi => by simp at hi⟩
  · simp [Value.cells] at hcs
    obtain ⟨rfl, rfl, rfl⟩ := hcs
    simp at hz
    refine ⟨zs.take len, by simp; omega, hl, hm, ?_⟩
    rw [flat_i64c]
    intro i hi
    simp at hi
    have h1 := hcell i (by omega)
    obtain ⟨b, o, s⟩ := x
    have h0 := World.cell?_spot (hcell 0 (by omega))
    have hs : s = none := by simpa [Addr.add] using h0
    subst hs
    refine ⟨b, o, rfl, ?_⟩
    have e1 : (Addr.add ⟨b, o, none⟩ i) = ⟨b, o + i, none⟩ := by
      unfold Addr.add
      split
      · rename_i h; subst h; rfl
      · rfl
    rw [e1] at h1
    rw [h1]
    have hi' : i < zs.length := by omega
    simp [hi']
theorem trees_w (L0 : List UInt8) (A : Option Addr) (c : Nat) (zs : List Int) (h0 : L0.length = 32) (w : World) (RA : Cells w A (zs.flatMap i64c)) (Gl : Glob w) :
    Calls Tryd.prog 3 #[.agg (L0.map oct).toArray, .slice A zs.length c] w fun r w' => r = .returned (.bool true) ∧ Mod [] w w' :=
  trees_c ⟨L0, h0⟩ A c _ zs rfl w Gl RA
end Go.Proofs.YtbacmeaeehhhfaaDoor
