/-
  What comes in, opened: a row of acts. My own work.
-/
import Derived.Test.YtaadmpainikfpaaOpb
import Derived.Deep.Slices
namespace Go.Proofs.Ytaadmpainikfpaa
open Go.ChangeShapes Go.WideShapes Go.ChangeAt Go.RowKit Go.Shelf
set_option linter.unusedVariables false
/-- From address A on (if there is one) lie so many acts. -/
def ActR (W : World) (A : Option Addr) (n : Nat) : Prop :=
  ∀ i, i < n → ∃ g o, ∃ z y x : Int, A = some ⟨g, o, none⟩ ∧ Cells W (some ⟨g, o + i * 3, none⟩) [ci z, ci y, ci x]
theorem ActR.call {w v : World} {A : Option Addr} {n : Nat} (h : ActR w A n) (k : Mod [] w v) : ActR v A n := fun i hi => by
  obtain ⟨g, o, z, y, x, e, hc⟩ := h i hi
  exact ⟨g, o, z, y, x, e, hc.keep k (fun _ _ => by simp)⟩
variable {H : Type} {enc : TypeId × Value → H} {W : World}
theorem acts_in {fuel : Nat} {x : DataW H × List MemPlace} {cs : List Value} (h : DataW.trod enc Try.prog W 0 (fun _ => true) true fuel 45 cs = some x) :
    ∃ A n c, cs = [.slice A n c] ∧ n ≤ c ∧ c ≤ maxLen ∧ ActR W A n := by
  have h5 : Try.prog.cellsOf 26 = 3 := by kernel_rfl
  rcases Deep.open_slice Try.underlying45 h with ⟨rfl, _⟩ | ⟨a, len, cap, m, n, D, Pl, rfl, _, hl, hm, hmm, _, hx⟩
  · exact ⟨none, 0, 0, rfl, Nat.le_refl _, by simp, fun i h => by omega⟩
  · simp only [if_true] at hmm
    refine ⟨some a, _, _, rfl, hl, hmm ▸ hm, fun i hi => ?_⟩
    have at0 : ∀ i, i < m → ∃ z y x : Int, ∀ j, j < 3 → W.cell? ((a.add (i * 3)).add j) = [ci z, ci y, ci x][j]? := fun i hi => by
      obtain ⟨cs', h1, h2⟩ := hx i hi
      obtain ⟨z, y, x, hcs⟩ := act_in h2
      rw [h5] at h1
      obtain ⟨_, hlen, hcell⟩ := World.cells?_some h1
      exact ⟨z, y, x, fun j hj => by rw [hcell j (by omega), hcs]⟩
    obtain ⟨z0, y0, x0, q0⟩ := at0 0 (by omega)
    obtain ⟨z, y, x, q⟩ := at0 i (by omega)
    obtain ⟨b, o, s⟩ := a
    have hs : s = none := by
      have := q0 0 (by omega)
      simp only [List.getElem?_cons_zero] at this
      simpa [Addr.add] using World.cell?_spot this
    subst hs
    refine ⟨b, o, z, y, x, rfl, Cells.of_cells fun j hj => ?_⟩
    have := q j hj
    rw [add_plain, add_plain] at this
    rw [this, List.getElem?_eq_getElem hj]
end Go.Proofs.Ytaadmpainikfpaa
