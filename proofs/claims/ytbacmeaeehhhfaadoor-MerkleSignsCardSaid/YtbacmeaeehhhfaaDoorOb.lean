/-
  Signatures, as they come in; a row of such. My own work.
-/
import Derived.Test.YtbacmeaeehhhfaaDoorNg
import Derived.Test.YtbacmeaeehhhfaaDoorMh
import Derived.Test.YtbacmeaeehhhfaaDoorOa
namespace Go.Proofs.YtbacmeaeehhhfaaDoor
open Go.RowKit Go.Shelf
set_option linter.unusedVariables false
structure Sgn where
  i : Int
  A : Option Addr
  c : Nat
  l : List Idv
  B : Option Addr
  d : Nat
  m : List Idv
def sgv (r : Sgn) : List Value := sgc r.i r.A r.l.length r.c r.B r.m.length r.d
def Sgn.ok (r : Sgn) (W : World) : Prop := (r.l.length ≤ r.c ∧ r.c ≤ maxLen ∧ Cells W r.A (r.l.flatMap ic)) ∧ (r.m.length ≤ r.d ∧ r.d ≤ maxLen ∧ Cells W r.B (r.m.flatMap ic))
theorem sgv_length (r : Sgn) : (sgv r).length = 3 := rfl
theorem sgv_one (r : Sgn) : ∀ v ∈ sgv r, v.oneCell' = true := sgc_one _ _ _ _ _ _ _
section
open Go.ChangeShapes Go.WideShapes Go.ChangeAt
variable {H : Type} {enc : TypeId × Value → H} {W : World} {fuel : Nat} {x : DataW H × List MemPlace}
set_option maxRecDepth 100000 in
theorem sgn_in {cs : List Value} (h : DataW.trod enc Tryd.prog W 0 (fun _ => true) true fuel 50 cs = some x) : ∃ r : Sgn, cs = sgv r ∧ r.ok W := by
  obtain ⟨xs, n, _, _, hlen, hxl, hf⟩ := DataW.trod_struct Tryd.underlying50 h
  have h4 : Tryd.prog.cellsOf 50 = 3 := by kernel_rfl
  have c3 : Tryd.prog.cellsOf 3 = 1 := by kernel_rfl
  have c33 : Tryd.prog.cellsOf 33 = 1 := by kernel_rfl
  rw [h4] at hlen
  match xs, hxl with
  | [y0, y1, y2], _ =>
    have g0 : DataW.trod enc Tryd.prog W 0 (fun _ => true) true n 3 ((cs.drop 0).take 1) = some y0 := by have := hf 0 _ rfl; simpa [c3] using this
    have g1 : DataW.trod enc Tryd.prog W 0 (fun _ => true) true n 33 ((cs.drop 1).take 1) = some y1 := by have := hf 1 _ rfl; simpa [c33, c3] using this
    have g2 : DataW.trod enc Tryd.prog W 0 (fun _ => true) true n 33 ((cs.drop 2).take 1) = some y2 := by have := hf 2 _ rfl; simpa [c3, c33] using this
    obtain ⟨a0, e0, _, _⟩ := DataW.trod_int Tryd.underlying3 g0
    obtain ⟨A, c, l, e1, hl, hc, hcl⟩ := ids_in g1
    obtain ⟨B, d, m, e2, hl2, hc2, hcl2⟩ := ids_in g2
    refine ⟨⟨a0, A, c, l, B, d, m⟩, ?_, ⟨hl, hc, hcl⟩, ⟨hl2, hc2, hcl2⟩⟩
    show cs = [.int .i64 a0] ++ ([.slice A l.length c] ++ [.slice B m.length d])
    rw [← e0, ← e1, ← e2]
    rw [List.drop_zero]
    conv => lhs; rw [← List.take_append_drop 1 cs]
    congr 1
    conv => lhs; rw [← List.take_append_drop 1 (cs.drop 1)]
    congr 1
    rw [List.drop_drop, List.take_of_length_le (by simp; omega)]
theorem scells_join {b o : Nat} {l : List Sgn} (h : ∀ i (hi : i < l.length), Cells W (some ⟨b, o + i * 3, none⟩) (sgv l[i])) : Cells W (some ⟨b, o, none⟩) (l.flatMap sgv) := by
  refine Cells.of_cells fun j hj => ?_
  have hl := flat_length sgv 3 sgv_length l
  rw [hl] at hj
  have hi : j / 3 < l.length := by omega
  have h1 := (h (j / 3) hi).at (j % 3) (by rw [sgv_length]; omega)
  have h2 := flat_at sgv 3 sgv_length l (j / 3) (j % 3) hi (by omega)
  rw [show j / 3 * 3 + j % 3 = j by omega, List.getElem?_eq_getElem (by rw [hl]; exact hj), List.getElem?_eq_getElem (by rw [sgv_length]; omega)] at h2
  have h3 := Option.some.inj h2
  rw [h3, ← h1]
  congr 2
  omega
theorem sgns_in {cs : List Value} (h : DataW.trod enc Tryd.prog W 0 (fun _ => true) true fuel 61 cs = some x) :
    ∃ A c, ∃ l : List Sgn, cs = [.slice A l.length c] ∧ l.length ≤ c ∧ c ≤ maxLen ∧ Cells W A (l.flatMap sgv) ∧ ∀ r ∈ l, r.ok W := by
  have h4 : Tryd.prog.cellsOf 50 = 3 := by kernel_rfl
  rcases Deep.open_slice Tryd.underlying61 h with ⟨rfl, _⟩ | ⟨a, len, cap, m, n, D, Pl, rfl, _, hl, hm, hmm, _, hx⟩
  · exact ⟨none, 0, [], rfl, Nat.le_refl _, by simp, Cells.nil _ _, by simp⟩
  · simp only [if_true] at hmm
    have key : ∀ i : Nat, ∃ r : Sgn, i < len → r.ok W ∧ ∃ b o, a = ⟨b, o, none⟩ ∧ Cells W (some ⟨b, o + i * 3, none⟩) (sgv r) := by
      intro i
      by_cases hi : i < len
      · obtain ⟨cs', h1, h2⟩ := hx i (by omega)
        obtain ⟨r, hf, hok⟩ := sgn_in h2
        rw [h4] at h1
        obtain ⟨_, hlen, hcell⟩ := World.cells?_some h1
        have hsp : ∀ j, j < 3 → ∃ v, W.cell? ((a.add (i * 3)).add j) = some v ∧ cs'[j]? = some v := fun j hj => by
          have := hcell j (by omega)
          refine ⟨cs'[j]'(by omega), ?_, List.getElem?_eq_getElem (by omega)⟩
          rw [this]
          exact List.getElem?_eq_getElem _
        refine ⟨r, fun _ => ?_⟩
        obtain ⟨b, o, s⟩ := a
        have hs : s = none := by
          obtain ⟨cs0, h10, h20⟩ := hx 0 (by omega)
          obtain ⟨_, hlen0, hcell0⟩ := World.cells?_some h10
          have q0 := hcell0 0 (by rw [h4]; omega)
          obtain ⟨r0, hd0, _⟩ := sgn_in h20
          rw [hd0, List.getElem?_eq_getElem (by rw [sgv_length]; omega)] at q0
          simpa [Addr.add] using World.cell?_spot q0
        subst hs
        refine ⟨hok, b, o, rfl, Cells.of_cells fun j hj => ?_⟩
        have hj4 : j < 3 := by rwa [sgv_length] at hj
        obtain ⟨v, e1, e2⟩ := hsp j hj4
        rw [add_plain, add_plain] at e1
        rw [e1]
        rw [hf, List.getElem?_eq_getElem hj] at e2
        exact e2.symm
      · exact ⟨⟨0, none, 0, [], none, 0, []⟩, fun h => absurd h hi⟩
    obtain ⟨f, hf⟩ := Classical.axiomOfChoice key
    have hL : ((List.range len).map f).length = len := by simp
    refine ⟨some a, cap, (List.range len).map f, by rw [hL], by rw [hL]; exact hl, hmm ▸ hm, ?_, fun r hr => by obtain ⟨i, hi, rfl⟩ := List.mem_map.1 hr; exact (hf i (by simpa using hi)).1⟩
    rcases Nat.eq_zero_or_pos len with h0 | h0
    · subst h0
      exact Cells.nil _ _
    · obtain ⟨_, b, o, rfl, _⟩ := hf 0 h0
      refine scells_join fun i hi => ?_
      rw [hL] at hi
      obtain ⟨_, b', o', e1, q2⟩ := hf i hi
      cases e1
      simp only [List.getElem_map, List.getElem_range]
      exact q2
end
end Go.Proofs.YtbacmeaeehhhfaaDoor
