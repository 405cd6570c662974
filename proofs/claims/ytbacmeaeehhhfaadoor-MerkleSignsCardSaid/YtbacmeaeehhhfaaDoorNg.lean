/-
  A key, a leaf and a row of digests, as they come in; a row of such. My own work.
-/
import Derived.Test.YtbacmeaeehhhfaaDoorNf
import Derived.Test.YtbacmeaeehhhfaaDoorLaid
import Derived.Deep.SlicePairs
import Derived.Deep.Grids
namespace Go.Proofs.YtbacmeaeehhhfaaDoor
open Go.RowKit Go.Shelf
set_option linter.unusedVariables false
structure Prf where
  k : Idv
  i : Int
  A : Option Addr
  c : Nat
  l : List Idv
def pfc (r : Prf) : List Value := ic r.k ++ [.int .i64 r.i, .slice r.A r.l.length r.c]
def Prf.ok (r : Prf) (W : World) : Prop := r.l.length ≤ r.c ∧ r.c ≤ maxLen ∧ Cells W r.A (r.l.flatMap ic)
theorem pfc_length (r : Prf) : (pfc r).length = 34 := by simp [pfc, ic_length]
theorem pfc_one (r : Prf) : ∀ v ∈ pfc r, v.oneCell' = true := by
  intro v hv
  rcases List.mem_append.1 hv with h | h
  · exact ic_one r.k v h
  · simp at h; rcases h with h | h <;> (rw [h]; rfl)
section
open Go.ChangeShapes Go.WideShapes Go.ChangeAt
variable {H : Type} {enc : TypeId × Value → H} {W : World} {fuel : Nat} {x : DataW H × List MemPlace}
theorem id_in {cs : List Value} (h : DataW.trod enc Tryd.prog W 0 (fun _ => true) true fuel 23 cs = some x) : ∃ r : Idv, cs = ic r := by
  obtain ⟨D, d1, d2, d3, _⟩ := arr_in (P := Tryd.prog) Tryd.underlying23 Tryd.underlying5 (by kernel_rfl) (by kernel_rfl) h
  obtain ⟨L, l1, l2⟩ := octs_of D d3
  exact ⟨⟨L, by rw [l1, d1]⟩, by rw [d2, l2]; rfl⟩
theorem cells_join {b o : Nat} {l : List Idv} (h : ∀ i (hi : i < l.length), Cells W (some ⟨b, o + i * 32, none⟩) (ic l[i])) : Cells W (some ⟨b, o, none⟩) (l.flatMap ic) := by
  refine Cells.of_cells fun j hj => ?_
  have hl := flat_length ic 32 ic_length l
  rw [hl] at hj
  have hi : j / 32 < l.length := by omega
  have h1 := (h (j / 32) hi).at (j % 32) (by rw [ic_length]; omega)
  have h2 := flat_at ic 32 ic_length l (j / 32) (j % 32) hi (by omega)
  rw [show j / 32 * 32 + j % 32 = j by omega, List.getElem?_eq_getElem (by rw [hl]; exact hj), List.getElem?_eq_getElem (by rw [ic_length]; omega)] at h2
  have h3 := Option.some.inj h2
  rw [h3, ← h1]
  congr 2
  omega
theorem ids_in {cs : List Value} (h : DataW.trod enc Tryd.prog W 0 (fun _ => true) true fuel 33 cs = some x) :
    ∃ A c, ∃ l : List Idv, cs = [.slice A l.length c] ∧ l.length ≤ c ∧ c ≤ maxLen ∧ Cells W A (l.flatMap ic) := by
  have h4 : Tryd.prog.cellsOf 23 = 32 := by kernel_rfl
  rcases Deep.open_slice Tryd.underlying33 h with ⟨rfl, _⟩ | ⟨a, len, cap, m, n, D, Pl, rfl, _, hl, hm, hmm, _, hx⟩
  · exact ⟨none, 0, [], rfl, Nat.le_refl _, by simp, Cells.nil _ _⟩
  · simp only [if_true] at hmm
    have key : ∀ i : Nat, ∃ r : Idv, i < len → ∃ b o, a = ⟨b, o, none⟩ ∧ Cells W (some ⟨b, o + i * 32, none⟩) (ic r) := by
      intro i
      by_cases hi : i < len
      · obtain ⟨cs', h1, h2⟩ := hx i (by omega)
        obtain ⟨r, hf⟩ := id_in h2
        rw [h4] at h1
        obtain ⟨_, hlen, hcell⟩ := World.cells?_some h1
        have hsp : ∀ j, j < 32 → ∃ v, W.cell? ((a.add (i * 32)).add j) = some v ∧ cs'[j]? = some v := fun j hj => by
          have := hcell j (by omega)
          refine ⟨cs'[j]'(by omega), ?_, List.getElem?_eq_getElem (by omega)⟩
          rw [this]
          exact List.getElem?_eq_getElem _
        refine ⟨r, fun _ => ?_⟩
        obtain ⟨b, o, s⟩ := a
        have hs : s = none := by
          obtain ⟨cs0, h10, h20⟩ := hx 0 (by omega)
          obtain ⟨_, hlen0, hcell0⟩ := World.cells?_some h10
          have q0 := hcell0 0 (by rw [h4]; omega)
          obtain ⟨r0, hd0⟩ := id_in h20
          rw [hd0, List.getElem?_eq_getElem (by rw [ic_length]; omega)] at q0
          simpa [Addr.add] using World.cell?_spot q0
        subst hs
        refine ⟨b, o, rfl, Cells.of_cells fun j hj => ?_⟩
        have hj4 : j < 32 := by rwa [ic_length] at hj
        obtain ⟨v, e1, e2⟩ := hsp j hj4
        rw [add_plain, add_plain] at e1
        rw [e1]
        rw [hf, List.getElem?_eq_getElem hj] at e2
        exact e2.symm
      · exact ⟨zeroI, fun h => absurd h hi⟩
    obtain ⟨f, hf⟩ := Classical.axiomOfChoice key
    have hL : ((List.range len).map f).length = len := by simp
    refine ⟨some a, cap, (List.range len).map f, by rw [hL], by rw [hL]; exact hl, hmm ▸ hm, ?_⟩
    rcases Nat.eq_zero_or_pos len with h0 | h0
    · subst h0
      exact Cells.nil _ _
    · obtain ⟨b, o, rfl, _⟩ := hf 0 h0
      refine cells_join fun i hi => ?_
      rw [hL] at hi
      obtain ⟨b', o', e1, q2⟩ := hf i hi
      cases e1
      simp only [List.getElem_map, List.getElem_range]
      exact q2
set_option maxRecDepth 100000 in
theorem prf_in {cs : List Value} (h : DataW.trod enc Tryd.prog W 0 (fun _ => true) true fuel 43 cs = some x) : ∃ r : Prf, cs = pfc r ∧ r.ok W := by
  obtain ⟨xs, n, _, _, hlen, hxl, hf⟩ := DataW.trod_struct Tryd.underlying43 h
  have h4 : Tryd.prog.cellsOf 43 = 34 := by kernel_rfl
  have c3 : Tryd.prog.cellsOf 3 = 1 := by kernel_rfl
  have c25 : Tryd.prog.cellsOf 23 = 32 := by kernel_rfl
  have c33 : Tryd.prog.cellsOf 33 = 1 := by kernel_rfl
  rw [h4] at hlen
  match xs, hxl with
  | [y0, y1, y2], _ =>
    have g0 : DataW.trod enc Tryd.prog W 0 (fun _ => true) true n 23 ((cs.drop 0).take 32) = some y0 := by have := hf 0 _ rfl; simpa [c25] using this
    have g1 : DataW.trod enc Tryd.prog W 0 (fun _ => true) true n 3 ((cs.drop 32).take 1) = some y1 := by have := hf 1 _ rfl; simpa [c25, c3] using this
    have g2 : DataW.trod enc Tryd.prog W 0 (fun _ => true) true n 33 ((cs.drop 33).take 1) = some y2 := by have := hf 2 _ rfl; simpa [c25, c3, c33] using this
    obtain ⟨r0, e0⟩ := id_in g0
    obtain ⟨a1, e1, _, _⟩ := DataW.trod_int Tryd.underlying3 g1
    obtain ⟨A, c, l, e2, hl, hc, hcl⟩ := ids_in g2
    refine ⟨⟨r0, a1, A, c, l⟩, ?_, hl, hc, hcl⟩
    show cs = ic r0 ++ ([.int .i64 a1] ++ [.slice A l.length c])
    rw [← e0, ← e1, ← e2]
    rw [List.drop_zero]
    conv => lhs; rw [← List.take_append_drop 32 cs]
    congr 1
    conv => lhs; rw [← List.take_append_drop 1 (cs.drop 32)]
    congr 1
    rw [List.drop_drop, List.take_of_length_le (by simp; omega)]
theorem pcells_join {b o : Nat} {l : List Prf} (h : ∀ i (hi : i < l.length), Cells W (some ⟨b, o + i * 34, none⟩) (pfc l[i])) : Cells W (some ⟨b, o, none⟩) (l.flatMap pfc) := by
  refine Cells.of_cells fun j hj => ?_
  have hl := flat_length pfc 34 pfc_length l
  rw [hl] at hj
  have hi : j / 34 < l.length := by omega
  have h1 := (h (j / 34) hi).at (j % 34) (by rw [pfc_length]; omega)
  have h2 := flat_at pfc 34 pfc_length l (j / 34) (j % 34) hi (by omega)
  rw [show j / 34 * 34 + j % 34 = j by omega, List.getElem?_eq_getElem (by rw [hl]; exact hj), List.getElem?_eq_getElem (by rw [pfc_length]; omega)] at h2
  have h3 := Option.some.inj h2
  rw [h3, ← h1]
  congr 2
  omega
theorem prfs_in {cs : List Value} (h : DataW.trod enc Tryd.prog W 0 (fun _ => true) true fuel 40 cs = some x) :
    ∃ A c, ∃ l : List Prf, cs = [.slice A l.length c] ∧ l.length ≤ c ∧ c ≤ maxLen ∧ Cells W A (l.flatMap pfc) ∧ ∀ r ∈ l, r.ok W := by
  have h4 : Tryd.prog.cellsOf 43 = 34 := by kernel_rfl
  rcases Deep.open_slice Tryd.underlying40 h with ⟨rfl, _⟩ | ⟨a, len, cap, m, n, D, Pl, rfl, _, hl, hm, hmm, _, hx⟩
  · exact ⟨none, 0, [], rfl, Nat.le_refl _, by simp, Cells.nil _ _, by simp⟩
  · simp only [if_true] at hmm
    have key : ∀ i : Nat, ∃ r : Prf, i < len → r.ok W ∧ ∃ b o, a = ⟨b, o, none⟩ ∧ Cells W (some ⟨b, o + i * 34, none⟩) (pfc r) := by
      intro i
      by_cases hi : i < len
      · obtain ⟨cs', h1, h2⟩ := hx i (by omega)
        obtain ⟨r, hf, hok⟩ := prf_in h2
        rw [h4] at h1
        obtain ⟨_, hlen, hcell⟩ := World.cells?_some h1
        have hsp : ∀ j, j < 34 → ∃ v, W.cell? ((a.add (i * 34)).add j) = some v ∧ cs'[j]? = some v := fun j hj => by
          have := hcell j (by omega)
          refine ⟨cs'[j]'(by omega), ?_, List.getElem?_eq_getElem (by omega)⟩
          rw [this]
          exact List.getElem?_eq_getElem _
        refine ⟨r, fun _ => ?_⟩
        obtain ⟨b, o, s⟩ := a
        have hs : s = none := by
          obtain ⟨cs0, h10, h20⟩ := hx 0 (by omega)
          obtain ⟨_, hlen0, hcell0⟩ := World.cells?_some h10
          have q0 := hcell0 0 (by rw [h4]; omega)
          obtain ⟨r0, hd0, _⟩ := prf_in h20
          rw [hd0, List.getElem?_eq_getElem (by rw [pfc_length]; omega)] at q0
          simpa [Addr.add] using World.cell?_spot q0
        subst hs
        refine ⟨hok, b, o, rfl, Cells.of_cells fun j hj => ?_⟩
        have hj4 : j < 34 := by rwa [pfc_length] at hj
        obtain ⟨v, e1, e2⟩ := hsp j hj4
        rw [add_plain, add_plain] at e1
        rw [e1]
        rw [hf, List.getElem?_eq_getElem hj] at e2
        exact e2.symm
      · exact ⟨⟨zeroI, 0, none, 0, []⟩, fun h => absurd h hi⟩
    obtain ⟨f, hf⟩ := Classical.axiomOfChoice key
    have hL : ((List.range len).map f).length = len := by simp
    refine ⟨some a, cap, (List.range len).map f, by rw [hL], by rw [hL]; exact hl, hmm ▸ hm, ?_, fun r hr => by obtain ⟨i, hi, rfl⟩ := List.mem_map.1 hr; exact (hf i (by simpa using hi)).1⟩
    rcases Nat.eq_zero_or_pos len with h0 | h0
    · subst h0
      exact Cells.nil _ _
    · obtain ⟨_, b, o, rfl, _⟩ := hf 0 h0
      refine pcells_join fun i hi => ?_
      rw [hL] at hi
      obtain ⟨_, b', o', e1, q2⟩ := hf i hi
      cases e1
      simp only [List.getElem_map, List.getElem_range]
      exact q2
end
end Go.Proofs.YtbacmeaeehhhfaaDoor
