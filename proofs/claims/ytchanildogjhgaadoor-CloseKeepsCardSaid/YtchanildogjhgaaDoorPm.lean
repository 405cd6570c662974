/-
  CloseKeeps: rows laid in regions that draw: the append as a run, a literal of three. My own work.
-/
import Derived.Test.YtchanildogjhgaaDoorPl
namespace Go.Proofs.YtchanildogjhgaaDoor
section
open Go.RowKit Go.Shelf
attribute [local go_sem] Oper.semAt_some
set_option linter.unusedVariables false
set_option linter.unusedSimpArgs false
theorem run_appendG2 {α : Type} {f : α → List Value} {size : Nat} {P : Program} (w : World) (t ot : TypeId)
    (e : TypeId) (i : TypeInfo) (z : Value) (bytes : Nat) (ht : P.underlying t = some (.slice e)) (hi : P.info? e = some i) (hz : i.zero = some z) (hsize : i.size = size) (hby : i.bytes = bytes) (hzs : z.cells.size = size) (hs0 : 0 < size)
    (hf : ∀ x, (f x).length = size) (h1 : ∀ x, ∀ v ∈ f x, v.oneCell' = true)
    (A : Option Addr) (n c : Nat) (l : List α) (hn : n = l.length) (hown : OwnG f e size w A c l)
    (X : Option Addr) (m d : Nat) (k : List α) (hm : m = k.length) (hr : Cells w X (k.flatMap f))
    (h63 : (l.length + k.length) * bytes ≤ 140737488355328) (h64 : l.length + k.length ≤ maxLen) :
    ∃ A' c' v, (Builtin.append_ #[t, t] ot #[.slice A n c, .slice X m d]).run P w = .ok (.slice A' (l ++ k).length c') v ∧ OwnG f e size v A' c' (l ++ k) ∧ Mod (blk A) w v ∧ (∀ a, A' = some a → a.block ∈ blk A ∨ w.heap.size ≤ a.block) := by
  subst hn hm
  have hkl := flat_length f size hf k
  rcases X with _ | ad
  · have hk : k = [] := by
      rcases k with _ | ⟨x, k⟩
      · rfl
      · obtain ⟨g, o, hh, _⟩ := hr 0 (by rw [hkl]; simp; omega)
        cases hh
    subst hk
    have hrun := run_append_noneG (P := P) w t ot e i ht hi hown d
    exact ⟨A, c, w, by simpa using hrun, by simpa using hown, Mod.refl _ _, fun b hb => .inl (by subst hb; simp [blk])⟩
  · have hcells : ∀ j u, (k.flatMap f)[j]? = some u → w.cell? (ad.add j) = some u := by
      intro j u hu
      rcases Nat.eq_zero_or_pos (k.flatMap f).length with h0 | h0
      · rw [List.eq_nil_of_length_eq_zero h0] at hu
        simp at hu
      · obtain ⟨ad', e', hh⟩ := hr.first h0
        injection e' with e'
        subst e'
        exact hh j u hu
    have hone : ∀ u ∈ k.flatMap f, u.oneCell' = true := fun u hu => by
      obtain ⟨x, _, hx⟩ := List.mem_flatMap.1 hu
      exact h1 x u hx
    obtain ⟨v', w', hrun, hown', hgr, _, hbl⟩ := run_append_own_at (P := P) w 0 t ot e i z size bytes ht hi hz hsize hby hzs hs0 _ _ _ hown ad k.length d (k.flatMap f) hkl hcells hone h64 h63 (Nat.zero_le _)
    have hv : ∃ A' c', v' = .slice A' (l ++ k).length c' := by
      rcases hown'.2 with ⟨hv, hn⟩ | ⟨g, cap, cur, hv, _⟩
      · exact ⟨none, 0, by rw [hv, List.length_append, hn]⟩
      · exact ⟨_, _, by rw [hv, List.length_append]⟩
    obtain ⟨A', c', rfl⟩ := hv
    have hO : OwnG f e size w' A' c' (l ++ k) := by
      have := hown'
      rw [← List.length_append, ← List.flatMap_append] at this
      exact this
    have hob : ∀ (A : Option Addr) n c, (Value.slice A n c).ownBlock = A.map (·.block) := by intro A n c; cases A <;> rfl
    rw [hob] at hgr
    rw [hob, hob] at hbl
    refine ⟨A', c', w', hrun, hO, ⟨hgr.os, hgr.tape, hgr.output, hgr.size, fun j hj hn => hgr.block j hj ?_⟩, ?_⟩
    · intro hh
      exact hn (by unfold blk; rw [← hh]; simp)
    · intro b hb
      subst hb
      rcases hbl with hh | hh
      · left; unfold blk; rw [← hh]; simp
      · right
        simp at hh
        omega
/-- A row that stands, behind a row of the call's own: as a run. -/
theorem Fm.appR {w0 w : World} {os ts : List Th} (F : Fm w0 w os ts) (i : Nat) {A : Option Addr} {c : Nat} {xs : List Q5} (hi : os[i]? = some (oR A c xs)) {S : Nat → Prop} {l : List Tm} (hl : tLs Any S l xs ∈ ts) {L2 S2 : Nat → Prop} {B : Option Addr} {vs : List (List Value)} {k : List Tm} (hr : tR L2 S2 B vs k ∈ ts) (n m d : Nat) (hn : n = l.length) (hm : m = k.length) (hb : n + m < 1000000) (ot : TypeId) :
    ∃ A' c' xs' S' v, (Builtin.append_ #[22, 22] ot #[.slice A n c, .slice B m d]).run Tryd.prog w = .ok (.slice A' (n + m) c') v ∧ Fm w0 v (os.set i (oR A' c' xs')) (tLs Any S' (l ++ k) xs' :: ts) := by
  obtain ⟨i0, i1, i2, i3, i4⟩ := info24
  obtain ⟨_, ⟨h1, h2, h3⟩, hlt⟩ := F.k _ (.inr hl)
  obtain ⟨_, ⟨hR, hq⟩, hlt2⟩ := F.k _ (.inr hr)
  have ho' : OwnG f5 24 5 w A c xs := F.o i hi
  have hx' : xs.length = n := by rw [hn]; exact h1
  obtain ⟨ys, hys⟩ : ∃ ys : List Q5, ys.map (·.1) = vs := by
    refine ⟨vs.attach.map fun v => ⟨v.1, hR.hz v.1 v.2, ?_⟩, by simp⟩
    obtain ⟨j, hj, e⟩ := List.getElem_of_mem v.2
    have := (hR.hk j (by rw [← hR.hv]; exact hj) hj).one
    rw [e] at this
    exact this
  have hyl : ys.length = m := by rw [hm, ← hR.hv, ← hys, List.length_map]
  have hc : Cells w B (ys.flatMap f5) := by
    have := hR.hC
    rw [← hys, f5_flat] at this
    exact this
  obtain ⟨A', c', v, hrun, hO, mo, hbl⟩ := run_appendG2 (f := f5) (P := Tryd.prog) w 22 ot 24 i0 (.agg (tmc 0 0 0 ⟨#[]⟩ none 0 0).toArray) 64 Tryd.underlying22 i1 i2 i3 i4 (by rfl) (by decide) f5_len f5_one A n c xs hx'.symm ho' B m d ys hyl.symm hc (by rw [hx', hyl]; omega) (by rw [hx', hyl]; simp [maxLen]; omega)
  rw [List.length_append, hx', hyl] at hrun
  refine ⟨A', c', xs ++ ys, fun x => S x ∨ S2 x, v, hrun, ?_⟩
  have F' := F.turn mo i hi (fun g hg => hg) (oR A' c' (xs ++ ys)) (keeps_oR _ _ _) hO (fun g' hg' => by
    obtain ⟨a', ha', hae⟩ := mem_blk hg'
    subst hae
    exact ⟨hbl a' ha', hO.lt a' ha'⟩)
  have hk1 := F'.k _ (.inr hl)
  have hk2 := F'.k _ (.inr hr)
  refine F'.also _ (keeps_tLs _ _ _ _) ⟨by rw [List.length_append, List.length_append, h1, hyl, hm], fun j a b => ?_, fun _ _ => trivial⟩ fun g' hg' => ?_
  · rcases Nat.lt_or_ge j l.length with hj | hj
    · have := hk1.2.1.2.1 j hj (by rw [h1]; exact hj)
      rw [List.getElem_append_left hj, List.getElem_append_left (by rw [h1]; exact hj)]
      exact this.mono fun g hg => .inl hg
    · have hj2 : j - l.length < k.length := by simp at a; omega
      have := hk2.2.1.1.hk (j - l.length) hj2 (by rw [hk2.2.1.1.hv]; exact hj2)
      rw [List.getElem_append_right hj, List.getElem_append_right (by rw [h1]; exact hj)]
      have e : vs[j - l.length]'(by rw [hk2.2.1.1.hv]; exact hj2) = (ys[j - xs.length]'(by rw [hyl, hm, h1]; exact hj2)).1 := by
        subst hys
        simp only [List.getElem_map, h1]
      rw [e] at this
      exact this.mono fun g hg => .inr hg
  · rcases hg' with h' | h'
    · exact ⟨_, hl, h'⟩
    · exact ⟨_, hr, h'⟩
/-- An empty literal, as a run. -/
theorem exec_lit0 {v : World} {o : Oper} {ρ : Operand → Value} (ho : o.op = .buildSlice 22 0 #[]) : (execOp ρ o).run Tryd.prog v = .ok (.value (.slice (some ⟨v.heap.size, 0, none⟩) 0 0)) (v.alloc (.cells ([] : List Value).toArray 24)) := by
  have hr := run_lit20 v
  unfold execOp
  simp only [ho, List.map_toArray, List.map_nil, Sem.run_bind, hr, Result.andThen, Sem.run_pure]
theorem Fm.lit0 {w0 w : World} {os ts : List Th} (F : Fm w0 w os ts) : Fm w0 (w.alloc (.cells ([] : List Value).toArray 24)) (oR (some ⟨w.heap.size, 0, none⟩) 0 [] :: os) (tLs Any (fun _ => False) [] [] :: ts) := by
  have hv : Holds (w.alloc (.cells ([] : List Value).toArray 24)) w.heap.size 24 [] := Holds.made w 24 []
  have hO : OwnG f5 24 5 _ (some ⟨w.heap.size, 0, none⟩) 0 [] := OwnG.of_holds (l := ([] : List Q5)) hv f5_len (Nat.zero_le _)
  exact (F.own (Mod.alloc [] w _) (oR (some ⟨w.heap.size, 0, none⟩) 0 []) (keeps_oR _ _ _) hO (fun g hg => by
    obtain ⟨a', ha', hae⟩ := mem_blk hg
    cases ha'
    subst hae
    exact ⟨Nat.le_refl _, hv.lt⟩)).also _ (keeps_tLs _ _ _ _) ⟨rfl, fun i h => by simp at h, fun _ h => h.elim⟩ fun _ h => h.elim
set_option maxRecDepth 100000 in
/-- A literal of three terms. -/
theorem run_lit23 {c0 c1 c2 : List Value} (h0 : c0.length = 5) (h1 : c1.length = 5) (h2 : c2.length = 5) (w : World) : (Instr.buildSlice 22 3 #[(0, .agg c0.toArray), (1, .agg c1.toArray), (2, .agg c2.toArray)]).run Tryd.prog w = .ok (.slice (some ⟨w.heap.size, 0, none⟩) 3 3) (w.alloc (.cells (c0 ++ c1 ++ c2).toArray 24)) := by
  obtain ⟨i, hi, hz, hs, hb⟩ := info24
  have hf : ∀ z : Array Value, z.size = 3 * 5 → Instr.fill (fun i => some (i * 5, 5)) z [(0, .agg c0.toArray), (1, .agg c1.toArray), (2, .agg c2.toArray)] = some (c0 ++ c1 ++ c2).toArray := by
    rintro ⟨z⟩ hz
    have hz' : z.length = 15 := by simpa using hz
    rw [fill_step (off := 0) (size := 5) (by simp) (by simpa [Value.cells] using h0) (by simp [Value.cells]; omega)]
    have e0 := fold_set c0 0 z (by omega)
    rw [show ((Value.agg c0.toArray).cells.zipIdx.foldl (fun cs (x : Value × Nat) => match x with | (c, j) => cs.setIfInBounds (0 + j) c) z.toArray) = _ from e0]
    rw [fill_step (off := 5) (size := 5) (by simp) (by simpa [Value.cells] using h1) (by simp [Value.cells]; omega)]
    have e1 := fold_set c1 5 (z.take 0 ++ c0 ++ z.drop (0 + c0.length)) (by simp; omega)
    rw [show ((Value.agg c1.toArray).cells.zipIdx.foldl (fun cs (x : Value × Nat) => match x with | (c, j) => cs.setIfInBounds (5 + j) c) (z.take 0 ++ c0 ++ z.drop (0 + c0.length)).toArray) = _ from e1]
    rw [fill_step (off := 10) (size := 5) (by simp) (by simpa [Value.cells] using h2) (by simp [Value.cells]; omega)]
    have e2 := fold_set c2 10 ((z.take 0 ++ c0 ++ z.drop (0 + c0.length)).take 5 ++ c1 ++ (z.take 0 ++ c0 ++ z.drop (0 + c0.length)).drop (5 + c1.length)) (by simp; omega)
    rw [show ((Value.agg c2.toArray).cells.zipIdx.foldl (fun cs (x : Value × Nat) => match x with | (c, j) => cs.setIfInBounds (10 + j) c) ((z.take 0 ++ c0 ++ z.drop (0 + c0.length)).take 5 ++ c1 ++ (z.take 0 ++ c0 ++ z.drop (0 + c0.length)).drop (5 + c1.length)).toArray) = _ from e2]
    simp only [List.take_zero, List.nil_append, Nat.zero_add, Instr.fill]
    congr 2
    rw [List.take_left' h0, List.take_left' (by simp; omega), List.drop_eq_nil_of_le (by simp; omega), List.append_nil]
  have hf2 := hf ((Array.range (3 * 5)).map ((Value.agg (tmc 0 0 0 ⟨#[]⟩ none 0 0).toArray).cells[· % (Value.agg (tmc 0 0 0 ⟨#[]⟩ none 0 0).toArray).cells.size]!)) (by simp)
  unfold Instr.buildSlice
  simp only [Sem.run_bind, run_underlying Tryd.underlying22, sizeOf, typeInfo, run_program, hi, Result.andThen, Sem.run_pure, hs]
  rw [if_neg (by omega), if_neg (by omega)]
  simp only [Sem.run_bind, zero24, Result.andThen, Sem.run_pure, hf2]
  simp [newRow, go_sem]
end
end Go.Proofs.YtchanildogjhgaaDoor
