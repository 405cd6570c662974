/-
  What comes in, opened: permissions, structs of numbers, rows of them. My own work.
-/
import Derived.Test.YtaadmpainikfpaaWi
import Derived.ProofKit
import Derived.OpenShut
import Derived.ShutString
import Derived.ChangeOld
import Derived.SizedLaws
import Derived.Deep.SlicePairs
namespace Go.Proofs.Ytaadmpainikfpaa
open Go.ChangeShapes Go.WideShapes Go.ChangeAt Go.RowKit
set_option linter.unusedVariables false
variable {H : Type} {enc : TypeId × Value → H} {W : World}
theorem lt_of_cell {w : World} {p : Addr} {u : Value} (hc : w.cell? p = some u) : p.block < w.heap.size := by
  rcases Nat.lt_or_ge p.block w.heap.size with hlt | hge
  · exact hlt
  · simp [World.cell?, Array.getElem?_eq_none hge] at hc
theorem ints_of {fuel : Nat} {v : Value} {y : DataW H × List MemPlace} (h : DataW.trod enc Try.prog W 0 (fun _ => true) true fuel 22 [v] = some y) : ∃ A c l, v = .slice A l.length c ∧ RI W A l.length c l ∧ In' (Btw 0 W.heap.size) A l := by
  rcases open_ints Try.underlying22 Try.underlying3 (by kernel_rfl) h with ⟨hcs, _⟩ | ⟨x, len, c, zs, hcs, _, hl, hm, hz, hx, hcell, hwz⟩
  · simp only [List.cons.injEq, and_true] at hcs
    subst hcs
    exact ⟨none, 0, [], rfl, RI.none W, fun a h => (by cases h)⟩
  · simp only [List.cons.injEq, and_true] at hcs
    subst hcs
    simp at hz
    have hlen : len = (zs.take len).length := by simp; omega
    have hcs : Cells W (some x) ((zs.take len).map ci) := by
      intro i hi
      simp at hi
      have h1 := hcell i (by omega)
      obtain ⟨b, o, s⟩ := x
      have h0 := World.cell?_spot (hcell 0 (by omega))
      have hs : s = none := by simpa [Addr.add] using h0
      subst hs
      refine ⟨b, o, rfl, ?_⟩
      have e1 : (Addr.add ⟨b, o, none⟩ i) = ⟨b, o + i, none⟩ := by
        unfold Addr.add
        split
        · rename_i h; subst h; rfl
        · rfl
      rw [e1] at h1
      rw [h1]
      have hi' : i < zs.length := by omega
      simp [hi', List.getD_eq_getElem?_getD]
    refine ⟨some x, c, zs.take len, by rw [← hlen], ⟨rfl, by omega, by unfold maxLen at hm; omega, hcs⟩, ?_⟩
    rintro a ⟨⟩ hne
    have hpos : 0 < ((zs.take len).map ci).length := by
      rw [List.length_map]
      exact List.length_pos_iff.2 hne
    obtain ⟨g, o, e, hc⟩ := hcs 0 hpos
    cases e
    exact ⟨Nat.zero_le _, lt_of_cell hc⟩
set_option maxRecDepth 100000 in
theorem perm_in {fuel : Nat} {cs : List Value} {x : DataW H × List MemPlace} (h : DataW.trod enc Try.prog W 0 (fun _ => true) true fuel 24 cs = some x) : ∃ p, PIs W (Btw 0 W.heap.size) p cs := by
  obtain ⟨xs, n, hn, hx, hlen, hxl, hf⟩ := DataW.trod_struct Try.underlying24 h
  have h5 : Try.prog.cellsOf 24 = 5 := by kernel_rfl
  have c3 : Try.prog.cellsOf 3 = 1 := by kernel_rfl
  have c22 : Try.prog.cellsOf 22 = 1 := by kernel_rfl
  rw [h5] at hlen
  match cs, hlen, xs, hxl with
  | [v0, v1, v2, v3, v4], _, [y0, y1, y2, y3, y4], _ =>
    have g0 : DataW.trod enc Try.prog W 0 (fun _ => true) true n 3 [v0] = some y0 := by have := hf 0 _ rfl; simpa [c3] using this
    have g1 : DataW.trod enc Try.prog W 0 (fun _ => true) true n 3 [v1] = some y1 := by have := hf 1 _ rfl; simpa [c3] using this
    have g2 : DataW.trod enc Try.prog W 0 (fun _ => true) true n 22 [v2] = some y2 := by have := hf 2 _ rfl; simpa [c22] using this
    have g3 : DataW.trod enc Try.prog W 0 (fun _ => true) true n 22 [v3] = some y3 := by have := hf 3 _ rfl; simpa [c22] using this
    have g4 : DataW.trod enc Try.prog W 0 (fun _ => true) true n 22 [v4] = some y4 := by have := hf 4 _ rfl; simpa [c22] using this
    obtain ⟨a0, e0, _, _⟩ := DataW.trod_int Try.underlying3 g0
    obtain ⟨a1, e1, _, _⟩ := DataW.trod_int Try.underlying3 g1
    obtain ⟨A1, k1, l1, rfl, R1, I1⟩ := ints_of g2
    obtain ⟨A2, k2, l2, rfl, R2, I2⟩ := ints_of g3
    obtain ⟨A3, k3, l3, rfl, R3, I3⟩ := ints_of g4
    simp only [List.cons.injEq, and_true] at e0 e1
    subst e0 e1
    exact ⟨⟨a0, a1, l1, l2, l3⟩, A1, k1, A2, k2, A3, k3, rfl, R1, R2, R3, I1, I2, I3⟩
/-- An act that came in: three numbers. -/
theorem act_in {fuel : Nat} {cs : List Value} {x : DataW H × List MemPlace} (h : DataW.trod enc Try.prog W 0 (fun _ => true) true fuel 26 cs = some x) : ∃ a b c : Int, cs = [ci a, ci b, ci c] := by
  obtain ⟨xs, n, hn, hx, hlen, hxl, hf⟩ := DataW.trod_struct Try.underlying26 h
  have h5 : Try.prog.cellsOf 26 = 3 := by kernel_rfl
  have c3 : Try.prog.cellsOf 3 = 1 := by kernel_rfl
  rw [h5] at hlen
  match cs, hlen, xs, hxl with
  | [v0, v1, v2], _, [y0, y1, y2], _ =>
    have g0 : DataW.trod enc Try.prog W 0 (fun _ => true) true n 3 [v0] = some y0 := by have := hf 0 _ rfl; simpa [c3] using this
    have g1 : DataW.trod enc Try.prog W 0 (fun _ => true) true n 3 [v1] = some y1 := by have := hf 1 _ rfl; simpa [c3] using this
    have g2 : DataW.trod enc Try.prog W 0 (fun _ => true) true n 3 [v2] = some y2 := by have := hf 2 _ rfl; simpa [c3] using this
    obtain ⟨a0, e0, _, _⟩ := DataW.trod_int Try.underlying3 g0
    obtain ⟨a1, e1, _, _⟩ := DataW.trod_int Try.underlying3 g1
    obtain ⟨a2, e2, _, _⟩ := DataW.trod_int Try.underlying3 g2
    simp only [List.cons.injEq, and_true] at e0 e1 e2
    subst e0 e1 e2
    exact ⟨a0, a1, a2, rfl⟩
end Go.Proofs.Ytaadmpainikfpaa
