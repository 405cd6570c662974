/-
  What comes in, opened: who asks, and who is in which group. My own work.
-/
import Derived.Test.YtaadmpainikfpaaOpen
import Derived.Test.YtaadmpainikfpaaYa
namespace Go.Proofs.Ytaadmpainikfpaa
open Go.ChangeShapes Go.WideShapes Go.ChangeAt Go.RowKit Go.Shelf
set_option linter.unusedVariables false
variable {H : Type} {enc : TypeId × Value → H} {W : World}
theorem cells_b2v {w : World} {b : Nat} : ∀ (l : List (Int × Int)) (o : Nat), (∀ i (h : i < l.length), w.cell? ⟨b, o + i * 2, none⟩ = some (ci l[i].1) ∧ w.cell? ⟨b, o + i * 2 + 1, none⟩ = some (ci l[i].2)) → Cells w (some ⟨b, o, none⟩) (l.flatMap b2v)
  | [], o, _ => Cells.nil _ _
  | x :: l, o, h => by
    have ih := cells_b2v l (o + 2) (fun i hi => by
      have := h (i + 1) (by simp; omega)
      simp only [List.getElem_cons_succ] at this
      have e : o + 2 + i * 2 = o + (i + 1) * 2 := by omega
      rw [e]
      exact this)
    have h0 := h 0 (by simp)
    simp only [Nat.zero_mul, Nat.add_zero, List.getElem_cons_zero] at h0
    intro i hi
    refine ⟨b, o, rfl, ?_⟩
    match i, hi with
    | 0, _ => exact h0.1
    | 1, _ => exact h0.2
    | k + 2, hk =>
      obtain ⟨g, o', e, hc⟩ := ih k (by
        have : ((x :: l).flatMap b2v).length = (l.flatMap b2v).length + 2 := by simp [List.flatMap_cons, b2v]
        omega)
      cases e
      have e : o + (k + 2) = o + 2 + k := by omega
      rw [e, hc]
      rfl
set_option maxRecDepth 100000 in
theorem rows_of {fuel : Nat} {v : Value} {y : DataW H × List MemPlace} (h : DataW.trod enc Try.prog W 0 (fun _ => true) true fuel 37 [v] = some y) : ∃ A c m, v = .slice A m.length c ∧ BelR W A m.length c m := by
  rcases Deep.open_slice_pairs (P := Try.prog) Try.underlying37 Try.underlying61 (by kernel_rfl) rfl rfl (by kernel_rfl) (by kernel_rfl) h with ⟨hcs, _⟩ | ⟨x, l, c, mm, n, V0, V1, D0, D1, P0, P1, hcs, _, hl, hm, hmm, hx, hi⟩
  · simp only [List.cons.injEq, and_true] at hcs
    subst hcs
    exact ⟨none, 0, [], rfl, rfl, Nat.le_refl _, by omega, Cells.nil _ _, fun a h => (by cases h)⟩
  · simp only [List.cons.injEq, and_true] at hcs
    subst hcs
    simp at hmm
    subst hmm
    have key : ∀ i, i < l → ∃ q : Int × Int, V0 i = ci q.1 ∧ V1 i = ci q.2 := by
      intro i hi'
      obtain ⟨_, _, h3, h4⟩ := hi i (by omega)
      obtain ⟨n0, e0, _, _⟩ := DataW.trod_int (k := .i64) (by kernel_rfl) h3
      obtain ⟨n1, e1, _, _⟩ := DataW.trod_int (k := .i64) (by kernel_rfl) h4
      simp at e0 e1
      exact ⟨(n0, n1), e0, e1⟩
    obtain ⟨q, hq⟩ := Deep.choose_lt key
    have at0 : ∀ i, i < l → ∃ b o, x = ⟨b, o, none⟩ ∧ W.cell? ⟨b, o + i * 2, none⟩ = some (ci (q i).1) ∧ W.cell? ⟨b, o + i * 2 + 1, none⟩ = some (ci (q i).2) := by
      intro i h'
      obtain ⟨h1, h2, _, _⟩ := hi i (by omega)
      obtain ⟨e0, e1⟩ := hq i h'
      obtain ⟨b, o, s⟩ := x
      have h0 := World.cell?_spot (hi 0 (by omega)).1
      have hs : s = none := by simpa [Addr.add] using h0
      subst hs
      have ea : ∀ j, (Addr.add ⟨b, o, none⟩ j) = ⟨b, o + j, none⟩ := by
        intro j
        unfold Addr.add
        split
        · rename_i h; subst h; rfl
        · rfl
      rw [ea] at h1 h2
      exact ⟨b, o, rfl, by rw [h1, e0], by rw [← Nat.add_assoc] at h2; rw [h2, e1]⟩
    refine ⟨some x, mm, (List.range l).map q, by simp, by simp, by simpa using hl, by unfold maxLen at hm; omega, ?_, ?_⟩
    · obtain ⟨b, o, s⟩ := x
      by_cases h0 : l = 0
      · subst h0
        exact Cells.nil _ _
      obtain ⟨b', o', e, _⟩ := at0 0 (by omega)
      cases e
      refine cells_b2v _ _ fun i hi' => ?_
      simp at hi'
      obtain ⟨b', o', e, c0, c1⟩ := at0 i hi'
      cases e
      exact ⟨by rw [c0]; simp, by rw [c1]; simp⟩
    · rintro a ⟨⟩ hne
      have hpos : 0 < l := by
        rcases Nat.eq_zero_or_pos l with h0 | h0
        · subst h0; simp at hne
        · exact h0
      obtain ⟨b, o, e, c0, _⟩ := at0 0 hpos
      subst e
      exact lt_of_cell c0
set_option maxRecDepth 100000 in
theorem asked_in {fuel : Nat} {cs : List Value} {x : DataW H × List MemPlace} (h : DataW.trod enc Try.prog W 0 (fun _ => true) true fuel 39 cs = some x) : ∃ (u : Int) (A : Option Addr) (c : Nat) (m : List (Int × Int)), cs = [ci u, .slice A m.length c] ∧ BelR W A m.length c m := by
  obtain ⟨xs, n, hn, hx, hlen, hxl, hf⟩ := DataW.trod_struct Try.underlying39 h
  have h5 : Try.prog.cellsOf 39 = 2 := by kernel_rfl
  have c3 : Try.prog.cellsOf 3 = 1 := by kernel_rfl
  have c37 : Try.prog.cellsOf 37 = 1 := by kernel_rfl
  rw [h5] at hlen
  match cs, hlen, xs, hxl with
  | [v0, v1], _, [y0, y1], _ =>
    have g0 : DataW.trod enc Try.prog W 0 (fun _ => true) true n 3 [v0] = some y0 := by have := hf 0 _ rfl; simpa [c3] using this
    have g1 : DataW.trod enc Try.prog W 0 (fun _ => true) true n 37 [v1] = some y1 := by have := hf 1 _ rfl; simpa [c37] using this
    obtain ⟨a0, e0, _, _⟩ := DataW.trod_int Try.underlying3 g0
    simp only [List.cons.injEq, and_true] at e0
    subst e0
    obtain ⟨A, c, m, rfl, hR⟩ := rows_of g1
    exact ⟨a0, A, c, m, rfl, hR⟩
end Go.Proofs.Ytaadmpainikfpaa
