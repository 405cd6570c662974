/-
  CloseMore: rows of terms laid anew, and what is known. My own work.
-/
import Derived.Test.YtchanildogjhgaaDoorPi
namespace Go.Proofs.YtchanildogjhgaaDoor
section
open Go.RowKit Go.Shelf
attribute [local go_sem] Oper.semAt_some
set_option linter.unusedVariables false
set_option linter.unusedSimpArgs false
/-- Who knows more can reckon more. -/
theorem gk_mono {K L : List Tm} (h : ∀ t ∈ K, t ∈ L) : ∀ {b t}, Tm.Gk K b t → Tm.Gk L b t := by
  intro b t hg
  induction hg with
  | known ht => exact .known (h _ ht)
  | opened h1 h2 hm ih1 ih2 => exact .opened ih1 ih2 hm
  | weak h1 ih => exact .weak ih
  | make h1 h2 ih => exact .make h1 ih
theorem kids_need {t m : Tm} (h : m ∈ t.kids) : m ∈ Tm.needs t := by
  unfold Tm.needs
  split
  · exact List.mem_cons_of_mem _ h
  · exact h
/-- What can be reckoned adds nothing. -/
theorem gk_more {K L : List Tm} (h : ∀ t ∈ L, Tm.Gk K false t) : ∀ {b t}, Tm.Gk L b t → Tm.Gk K false t := by
  intro b t hg
  induction hg with
  | known ht => exact h _ ht
  | @opened t m h1 h2 hm ih1 ih2 =>
    cases ih1 with
    | weak hw => exact .weak (.opened hw ih2 hm)
    | make ha hn => exact hn _ (kids_need (inside_kid hm))
  | weak h1 ih => exact ih
  | make h1 h2 ih => exact .make h1 ih
theorem run_lit20 (w : World) : (Instr.buildSlice 22 0 #[]).run Tryd.prog w = .ok (.slice (some ⟨w.heap.size, 0, none⟩) 0 0) (w.alloc (.cells ([] : List Value).toArray 24)) := by
  obtain ⟨i, hi, hz, hs, hb⟩ := info24
  unfold Instr.buildSlice
  simp only [Sem.run_bind, run_underlying Tryd.underlying22, sizeOf, typeInfo, run_program, hi, Result.andThen, Sem.run_pure, hs]
  simp [newRow, go_sem, Instr.fill, zero24, Result.andThen]
theorem fm_lit0 {w0 w : World} {os ts : List Th} {ops : Array Oper} {rest : List Oper} {o : Oper} {a : Act} {Q : Exit → Act → World → Prop} (F : Fm w0 w os ts) (hgd : o.guard = none) (ho : o.op = .buildSlice 22 0 #[])
    (h : ∀ g v, Fm w0 v (oR (some ⟨g, 0, none⟩) 0 [] :: os) (tLs Any (fun _ => False) [] [] :: ts) → wpList Tryd.prog ops Q rest (a.put o.dst (.slice (some ⟨g, 0, none⟩) 0 0)) v) : wpList Tryd.prog ops Q (o :: rest) a w := by
  refine wpList_lits hgd 22 24 0 #[] ho [] (by simpa using run_lit20 w) fun v hv m hz => ?_
  have hO : OwnG f5 24 5 v (some ⟨w.heap.size, 0, none⟩) 0 [] := OwnG.of_holds (l := ([] : List Q5)) hv f5_len (Nat.zero_le _)
  exact h _ v ((F.own m (oR (some ⟨w.heap.size, 0, none⟩) 0 []) (keeps_oR _ _ _) hO (fun g hg => by
    obtain ⟨a', ha', hae⟩ := mem_blk hg
    cases ha'
    subst hae
    exact ⟨Nat.le_refl _, hv.lt⟩)).also _ (keeps_tLs _ _ _ _) ⟨rfl, fun i h => by simp at h, fun _ h => h.elim⟩ fun _ h => h.elim)
/-- A row that stands, behind a row of the call's own. -/
theorem fm_appendR {w0 w : World} {os ts : List Th} {ops : Array Oper} {rest : List Oper} {o : Oper} {a : Act} {Q : Exit → Act → World → Prop} (F : Fm w0 w os ts) (i : Nat) {A : Option Addr} {c : Nat} {xs : List Q5} (hi : os[i]? = some (oR A c xs)) {S : Nat → Prop} {l : List Tm} (hl : tLs Any S l xs ∈ ts) {L2 S2 : Nat → Prop} {B : Option Addr} {vs : List (List Value)} {k : List Tm} (hr : tR L2 S2 B vs k ∈ ts) (n m d : Nat) (hn : n = l.length) (hm : m = k.length) (hb : n + m < 1000000)
    (hgd : o.guard = none) (x y : Operand) (ho : o.op = .call { callee := .builtin .append, args := #[x, y], argTypes := #[22, 22] }) (hx : a.eval x = .slice A n c) (hy : a.eval y = .slice B m d)
    (h : ∀ A' c' xs' S' v, Fm w0 v (os.set i (oR A' c' xs')) (tLs Any S' (l ++ k) xs' :: ts) → wpList Tryd.prog ops Q rest (a.put o.dst (.slice A' (n + m) c')) v) : wpList Tryd.prog ops Q (o :: rest) a w := by
  obtain ⟨i0, i1, i2, i3, i4⟩ := info24
  obtain ⟨_, ⟨h1, h2, h3⟩, hlt⟩ := F.k _ (.inr hl)
  obtain ⟨_, ⟨hR, hq⟩, hlt2⟩ := F.k _ (.inr hr)
  have ho' : OwnG f5 24 5 w A c xs := F.o i hi
  have hx' : xs.length = n := by rw [hn]; exact h1
  obtain ⟨ys, hys⟩ : ∃ ys : List Q5, ys.map (·.1) = vs := by
    refine ⟨vs.attach.map fun v => ⟨v.1, hR.hz v.1 v.2, ?_⟩, by simp⟩
    obtain ⟨j, hj, e⟩ := List.getElem_of_mem v.2
    have := (hR.hk j (by rw [← hR.hv]; exact hj) hj).one
    rw [e] at this
    exact this
  have hyl : ys.length = m := by rw [hm, ← hR.hv, ← hys, List.length_map]
  have hc : Cells w B (ys.flatMap f5) := by
    have := hR.hC
    rw [← hys, f5_flat] at this
    exact this
  refine wpList_appendG (f := f5) w hgd x y 22 ho 24 i0 (.agg (tmc 0 0 0 ⟨#[]⟩ none 0 0).toArray) 64 Tryd.underlying22 i1 i2 i3 i4 (by rfl) (by decide) f5_len f5_one A n c xs hx hx'.symm ho' B m d ys hy hyl.symm hc (by rw [hx', hyl]; omega) (by rw [hx', hyl]; simp [maxLen]; omega) ?_
  intro A' c' v hO mo hbl
  rw [List.length_append, hx', hyl]
  refine h A' c' (xs ++ ys) (fun x => S x ∨ S2 x) v ?_
  have F' := F.turn mo i hi (fun g hg => hg) (oR A' c' (xs ++ ys)) (keeps_oR _ _ _) hO (fun g' hg' => by
    obtain ⟨a', ha', hae⟩ := mem_blk hg'
    subst hae
    exact ⟨hbl a' ha', hO.lt a' ha'⟩)
  have hk1 := F'.k _ (.inr hl)
  have hk2 := F'.k _ (.inr hr)
  refine F'.also _ (keeps_tLs _ _ _ _) ⟨by rw [List.length_append, List.length_append, h1, hyl, hm], fun j a b => ?_, fun _ _ => trivial⟩ fun g' hg' => ?_
  · rcases Nat.lt_or_ge j l.length with hj | hj
    · have := hk1.2.1.2.1 j hj (by rw [h1]; exact hj)
      rw [List.getElem_append_left hj, List.getElem_append_left (by rw [h1]; exact hj)]
      exact this.mono fun g hg => .inl hg
    · have hj2 : j - l.length < k.length := by simp at a; omega
      have := hk2.2.1.1.hk (j - l.length) hj2 (by rw [hk2.2.1.1.hv]; exact hj2)
      rw [List.getElem_append_right hj, List.getElem_append_right (by rw [h1]; exact hj)]
      have e : vs[j - l.length]'(by rw [hk2.2.1.1.hv]; exact hj2) = (ys[j - xs.length]'(by rw [hyl, hm, h1]; exact hj2)).1 := by
        subst hys
        simp only [List.getElem_map, h1]
      rw [e] at this
      exact this.mono fun g hg => .inr hg
  · rcases hg' with h' | h'
    · exact ⟨_, hl, h'⟩
    · exact ⟨_, hr, h'⟩
/-- A row of the call's own, as one that stands beside it. -/
theorem Fm.rowStands {w0 w : World} {os ts : List Th} (F : Fm w0 w os ts) (i : Nat) {A : Option Addr} {c : Nat} {xs : List Q5} (hi : os[i]? = some (oR A c xs)) {T : Nat → Prop} {l : List Tm} (hl : tLs Any T l xs ∈ ts) : ∃ S vs, RowT w S A vs l ∧ ∀ g, S g → g < w.heap.size :=
  ⟨_, _, F.asRow hi hl, fun g hg => hg.elim (F.ltm hl g) fun h => by
    obtain ⟨h1, h2⟩ := List.getElem?_eq_some_iff.1 hi
    exact (F.k (oR A c xs) (.inl (by rw [← h2]; exact List.getElem_mem h1))).2.2 g h⟩
end
end Go.Proofs.YtchanildogjhgaaDoor
