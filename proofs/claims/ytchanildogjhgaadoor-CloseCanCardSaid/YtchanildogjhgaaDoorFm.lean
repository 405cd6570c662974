/-
  The call's own blocks and what else stands, as one predicate; the operations that turn it. My own work.
-/
import Derived.Test.YtchanildogjhgaaDoorA9
import Derived.Test.YtchanildogjhgaaDoorA8
namespace Go.Proofs.YtchanildogjhgaaDoor
open Go.RowKit Go.Shelf
set_option linter.unusedVariables false
/-- A thing: the blocks that it lies in, and what it says. -/
abbrev Th := (Nat → Prop) × (World → Prop)
def keeps (x : Th) : Prop := ∀ (w v : World) (ms : List Nat), Mod ms w v → (∀ g, x.1 g → g ∉ ms) → x.2 w → x.2 v
/-- A block, whole. -/
def oB (b : Nat) (t : TypeId) (cs : List Value) : Th := ((· = b), fun w => Holds w b t cs)
abbrev Up (lo : Nat) : Nat → Prop := fun g => lo ≤ g
abbrev Any : Nat → Prop := fun _ => True
/-- A term. -/
def tT (L : Nat → Prop) (S : Nat → Prop) (t : Tm) (cs : List Value) : Th := (S, fun w => TIs w S t cs ∧ ∀ g, S g → L g)
/-- A row of terms. -/
def tR (L : Nat → Prop) (S : Nat → Prop) (A : Option Addr) (vs : List (List Value)) (l : List Tm) : Th := (S, fun w => RowT w S A vs l ∧ ∀ g, S g → L g)
theorem keeps_oB (b : Nat) (t : TypeId) (cs : List Value) : keeps (oB b t cs) := fun w v ms m h hw => Holds.keep hw m (h b rfl)
theorem keeps_tT (L : Nat → Prop) (S : Nat → Prop) (t : Tm) (cs : List Value) : keeps (tT L S t cs) := fun w v ms m h hw => ⟨hw.1.keep m h, hw.2⟩
theorem keeps_tR (L : Nat → Prop) (S : Nat → Prop) (A : Option Addr) (vs : List (List Value)) (l : List Tm) : keeps (tR L S A vs l) := fun w v ms m h hw => ⟨hw.1.keep m h, hw.2⟩
structure Fm (w0 w : World) (os ts : List Th) : Prop where
  m : Mod [] w0 w
  k : ∀ x, x ∈ os ∨ x ∈ ts → keeps x ∧ x.2 w ∧ ∀ g, x.1 g → g < w.heap.size
  lo : ∀ x ∈ os, ∀ g, x.1 g → w0.heap.size ≤ g
  d : os.Pairwise fun x y => ∀ g, x.1 g → ¬ y.1 g
  e : ∀ x ∈ os, ∀ y ∈ ts, ∀ g, x.1 g → ¬ y.1 g
section
variable {w0 w v : World} {os ts : List Th}
theorem Fm.nil (w : World) : Fm w w [] [] := ⟨Mod.refl _ _, by simp, by simp, List.Pairwise.nil, by simp⟩
theorem Fm.sub {os' ts' : List Th} (F : Fm w0 w os ts) (ho : os'.Sublist os) (ht : ∀ x ∈ ts', x ∈ ts) : Fm w0 w os' ts' :=
  ⟨F.m, fun x hx => F.k x (hx.imp (fun h => ho.subset h) (ht x)), fun x hx => F.lo x (ho.subset hx), F.d.sublist ho, fun x hx y hy => F.e x (ho.subset hx) y (ht y hy)⟩
theorem Fm.call (F : Fm w0 w os ts) (m : Mod [] w v) : Fm w0 v os ts :=
  ⟨F.m.then m, fun x hx => by obtain ⟨h1, h2, h3⟩ := F.k x hx; exact ⟨h1, h1 _ _ _ m (by simp) h2, fun g hg => Nat.lt_of_lt_of_le (h3 g hg) m.size⟩, F.lo, F.d, F.e⟩
theorem Fm.arg (F : Fm w0 w os ts) (x : Th) (hk : keeps x) (hx : x.2 w) (hs : ∀ g, x.1 g → g < w0.heap.size) : Fm w0 w os (x :: ts) := by
  refine ⟨F.m, fun y hy => ?_, F.lo, F.d, fun y hy z hz g hg hz' => ?_⟩
  · rcases hy with hy | hy
    · exact F.k y (.inl hy)
    · rcases List.mem_cons.1 hy with rfl | hy
      · exact ⟨hk, hx, fun g hg => Nat.lt_of_lt_of_le (hs g hg) F.m.size⟩
      · exact F.k y (.inr hy)
  · rcases List.mem_cons.1 hz with rfl | hz
    · have := F.lo y hy g hg
      have := hs g hz'
      omega
    · exact F.e y hy z hz g hg hz'
theorem Fm.put (F : Fm w0 w os ts) (m : Mod [] w v) (x : Th) (hk : keeps x) (hx : x.2 v) (hs : ∀ g, x.1 g → (w.heap.size ≤ g ∧ g < v.heap.size) ∨ ∃ y ∈ ts, y.1 g) : Fm w0 v os (x :: ts) := by
  have F' := F.call m
  refine ⟨F'.m, fun y hy => ?_, F'.lo, F'.d, fun y hy z hz g hg hz' => ?_⟩
  · rcases hy with hy | hy
    · exact F'.k y (.inl hy)
    · rcases List.mem_cons.1 hy with rfl | hy
      · refine ⟨hk, hx, fun g hg => ?_⟩
        rcases hs g hg with h | ⟨z, hz, h⟩
        · exact h.2
        · exact (F'.k z (.inr hz)).2.2 g h
      · exact F'.k y (.inr hy)
  · rcases List.mem_cons.1 hz with rfl | hz
    · rcases hs g hz' with h | ⟨z', hz2, h⟩
      · have := (F.k y (.inl hy)).2.2 g hg
        omega
      · exact F'.e y hy z' hz2 g hg h
    · exact F'.e y hy z hz g hg hz'
theorem Fm.own (F : Fm w0 w os ts) (m : Mod [] w v) (x : Th) (hk : keeps x) (hx : x.2 v) (hs : ∀ g, x.1 g → w.heap.size ≤ g ∧ g < v.heap.size) : Fm w0 v (x :: os) ts := by
  have F' := F.call m
  refine ⟨F'.m, fun y hy => ?_, fun y hy g hg => ?_, List.pairwise_cons.2 ⟨fun y hy g hg hy' => ?_, F'.d⟩, fun y hy z hz g hg hz' => ?_⟩
  · rcases hy with hy | hy
    · rcases List.mem_cons.1 hy with rfl | hy
      · exact ⟨hk, hx, fun g hg => (hs g hg).2⟩
      · exact F'.k y (.inl hy)
    · exact F'.k y (.inr hy)
  · rcases List.mem_cons.1 hy with rfl | hy
    · exact Nat.le_trans F.m.size (hs g hg).1
    · exact F'.lo y hy g hg
  · have := (F.k y (.inl hy)).2.2 g hy'
    have := (hs g hg).1
    omega
  · rcases List.mem_cons.1 hy with rfl | hy
    · have := (F.k z (.inr hz)).2.2 g hz'
      have := (hs g hg).1
      omega
    · exact F'.e y hy z hz g hg hz'
theorem Fm.turn (F : Fm w0 w os ts) {ms : List Nat} (m : Mod ms w v) (i : Nat) {x : Th} (hi : os[i]? = some x) (hm : ∀ g ∈ ms, x.1 g) (y : Th) (hk : keeps y) (hy : y.2 v) (hs : ∀ g, y.1 g → (x.1 g ∨ w.heap.size ≤ g) ∧ g < v.heap.size) : Fm w0 v (os.set i y) ts := by
  obtain ⟨hil, hix⟩ := List.getElem?_eq_some_iff.1 hi
  have hxm : x ∈ os := by rw [← hix]; exact List.getElem_mem hil
  have hne : ∀ j (hj : j < os.length), j ≠ i → ∀ g, os[j].1 g → ¬ x.1 g := by
    intro j hj hji g hg hx
    rw [← hix] at hx
    rcases Nat.lt_or_gt_of_ne hji with h | h
    · exact List.pairwise_iff_getElem.1 F.d j i hj hil h g hg hx
    · exact List.pairwise_iff_getElem.1 F.d i j hil hj h g hx hg
  have hout : ∀ z, (z ∈ ts ∨ ∃ j, ∃ hj : j < os.length, j ≠ i ∧ os[j] = z) → keeps z ∧ z.2 v ∧ (∀ g, z.1 g → g < v.heap.size) ∧ (∀ g, z.1 g → ¬ x.1 g) ∧ (∀ g, z.1 g → g < w.heap.size) := by
    intro z hz
    have hx' : ∀ g, z.1 g → ¬ x.1 g := by
      rcases hz with hz | ⟨j, hj, hji, rfl⟩
      · exact fun g hg hx => F.e x hxm z hz g hx hg
      · exact hne j hj hji
    obtain ⟨h1, h2, h3⟩ := F.k z (hz.elim .inr fun ⟨j, hj, _, e⟩ => .inl (e ▸ List.getElem_mem hj))
    exact ⟨h1, h1 _ _ _ m (fun g hg hgm => hx' g hg (hm g hgm)) h2, fun g hg => Nat.lt_of_lt_of_le (h3 g hg) m.size, hx', h3⟩
  have hin : ∀ z ∈ os.set i y, z = y ∨ ∃ j, ∃ hj : j < os.length, j ≠ i ∧ os[j] = z := by
    intro z hz
    obtain ⟨j, hj, e⟩ := List.getElem_of_mem hz
    rw [List.length_set] at hj
    rw [List.getElem_set] at e
    split at e
    · exact .inl e.symm
    · rename_i h; exact .inr ⟨j, hj, fun h' => h h'.symm, e⟩
  have hlox := F.lo x hxm
  have hms : Mod [] w0 v := F.m.trans m (fun g hg hgm => by have := hlox g (hm g hgm); omega)
  refine ⟨hms, fun z hz => ?_, fun z hz g hg => ?_, ?_, fun z hz u hu g hg hu' => ?_⟩
  · rcases hz with hz | hz
    · rcases hin z hz with rfl | h
      · exact ⟨hk, hy, fun g hg => (hs g hg).2⟩
      · obtain ⟨h1, h2, h3, _⟩ := hout z (.inr h); exact ⟨h1, h2, h3⟩
    · obtain ⟨h1, h2, h3, _⟩ := hout z (.inl hz); exact ⟨h1, h2, h3⟩
  · rcases hin z hz with rfl | ⟨j, hj, _, rfl⟩
    · rcases (hs g hg).1 with h | h
      · exact hlox g h
      · exact Nat.le_trans F.m.size h
    · exact F.lo _ (List.getElem_mem hj) g hg
  · rw [List.pairwise_iff_getElem]
    intro a b ha hb hab g hg hg'
    rw [List.length_set] at ha hb
    rw [List.getElem_set] at hg hg'
    by_cases h1 : i = a
    · rw [if_pos h1] at hg
      rw [if_neg (by omega)] at hg'
      obtain ⟨_, _, _, h4, h5⟩ := hout os[b] (.inr ⟨b, hb, by omega, rfl⟩)
      rcases (hs g hg).1 with h | h
      · exact h4 g hg' h
      · have := h5 g hg'; omega
    · rw [if_neg h1] at hg
      obtain ⟨_, _, _, h4, h5⟩ := hout os[a] (.inr ⟨a, ha, fun h => h1 h.symm, rfl⟩)
      by_cases h2 : i = b
      · rw [if_pos h2] at hg'
        rcases (hs g hg').1 with h | h
        · exact h4 g hg h
        · have := h5 g hg; omega
      · rw [if_neg h2] at hg'
        exact List.pairwise_iff_getElem.1 F.d a b ha hb hab g hg hg'
  · rcases hin z hz with rfl | ⟨j, hj, _, rfl⟩
    · obtain ⟨_, _, _, h4, h5⟩ := hout u (.inl hu)
      rcases (hs g hg).1 with h | h
      · exact h4 g hu' h
      · have := h5 g hu'; omega
    · exact F.e _ (List.getElem_mem hj) u hu g hg hu'
theorem Fm.freeze (F : Fm w0 w os ts) (i : Nat) {x : Th} (hi : os[i]? = some x) : Fm w0 w (os.eraseIdx i) (x :: ts) := by
  obtain ⟨hil, hix⟩ := List.getElem?_eq_some_iff.1 hi
  have hxm : x ∈ os := by rw [← hix]; exact List.getElem_mem hil
  have hsub := List.eraseIdx_sublist os i
  refine ⟨F.m, fun y hy => ?_, fun y hy => F.lo y (hsub.subset hy), F.d.sublist hsub, fun y hy z hz g hg hz' => ?_⟩
  · rcases hy with hy | hy
    · exact F.k y (.inl (hsub.subset hy))
    · rcases List.mem_cons.1 hy with rfl | hy
      · exact F.k y (.inl hxm)
      · exact F.k y (.inr hy)
  · rcases List.mem_cons.1 hz with rfl | hz
    · obtain ⟨j, hj, e⟩ := List.getElem_of_mem hy
      rw [List.getElem_eraseIdx] at e
      rw [List.length_eraseIdx] at hj
      rw [if_pos hil] at hj
      rw [← hix] at hz'
      split at e
      · subst e; exact List.pairwise_iff_getElem.1 F.d j i (by omega) hil (by assumption) g hg hz'
      · subst e; exact List.pairwise_iff_getElem.1 F.d i (j + 1) hil (by omega) (by omega) g hz' hg
    · exact F.e y (hsub.subset hy) z hz g hg hz'
theorem Fm.o (F : Fm w0 w os ts) (i : Nat) {x : Th} (hi : os[i]? = some x) : x.2 w := (F.k x (.inl (by obtain ⟨h, e⟩ := List.getElem?_eq_some_iff.1 hi; rw [← e]; exact List.getElem_mem h))).2.1
theorem Fm.s (F : Fm w0 w os ts) (i : Nat) {x : Th} (hi : ts[i]? = some x) : x.2 w := (F.k x (.inr (by obtain ⟨h, e⟩ := List.getElem?_eq_some_iff.1 hi; rw [← e]; exact List.getElem_mem h))).2.1
theorem Fm.slt (F : Fm w0 w os ts) (i : Nat) {x : Th} (hi : ts[i]? = some x) : ∀ g, x.1 g → g < w.heap.size := (F.k x (.inr (by obtain ⟨h, e⟩ := List.getElem?_eq_some_iff.1 hi; rw [← e]; exact List.getElem_mem h))).2.2
theorem Fm.blk (F : Fm w0 w os ts) (i : Nat) {b : Nat} {t : TypeId} {cs : List Value} (hi : os[i]? = some (oB b t cs)) : Holds w b t cs := F.o i hi
theorem Fm.tis (F : Fm w0 w os ts) (i : Nat) {L : Nat → Prop} {S : Nat → Prop} {t : Tm} {cs : List Value} (hi : ts[i]? = some (tT L S t cs)) : TIs w S t cs := (F.s i hi).1
theorem Fm.made (F : Fm w0 w os ts) (m : Mod [] w v) {t : Tm} {cs : List Value} (hT : TIs v (Btw w.heap.size v.heap.size) t cs) : Fm w0 v os (tT (Up w0.heap.size) (Btw w.heap.size v.heap.size) t cs :: ts) :=
  F.put m _ (keeps_tT _ _ _ _) ⟨hT, fun g hg => Nat.le_trans F.m.size hg.1⟩ fun g hg => .inl hg
theorem Fm.madeL (F : Fm w0 w os ts) (m : Mod [] w v) {L : Nat → Prop} {t : Tm} {cs : List Value} (hT : TIs v (Btw w.heap.size v.heap.size) t cs) (hL : ∀ g, w.heap.size ≤ g → L g) : ∃ S, Fm w0 v os (tT L S t cs :: ts) :=
  ⟨_, F.put m _ (keeps_tT L _ _ _) ⟨hT, fun g hg => hL g hg.1⟩ fun g hg => .inl hg⟩
theorem Fm.argT (F : Fm w0 w os ts) {S : Nat → Prop} {t : Tm} {cs : List Value} (hT : TIs w S t cs) (hS : ∀ g, S g → g < w0.heap.size) : Fm w0 w os (tT Any S t cs :: ts) :=
  F.arg _ (keeps_tT _ _ _ _) ⟨hT, fun _ _ => trivial⟩ hS
theorem Fm.ist (F : Fm w0 w os ts) {L : Nat → Prop} {S : Nat → Prop} {t : Tm} {cs : List Value} (hi : tT L S t cs ∈ ts) : TIs w S t cs := (F.k _ (.inr hi)).2.1.1
/-- A row made of terms that stand. -/
theorem Fm.row1 (F : Fm w0 w os ts) {L1 S : Nat → Prop} {t : Tm} {cs : List Value} (h1 : tT L1 S t cs ∈ ts) (L : Nat → Prop) (k1 : ∀ g, L1 g → L g) (hL : ∀ g, w0.heap.size ≤ g → L g) : ∃ S', Fm w0 (w.alloc (.cells cs.toArray 24)) os (tR L S' (some ⟨w.heap.size, 0, none⟩) [cs] [t] :: ts) := by
  obtain ⟨_, ⟨hT, hq⟩, hlt⟩ := F.k _ (.inr h1)
  have hT' : TIs (w.alloc (.cells cs.toArray 24)) S t cs := hT.keep (Mod.alloc [] w _) (by simp)
  refine ⟨_, F.put (Mod.alloc [] w _) _ (keeps_tR L _ _ _ _) ⟨RowT.one (Holds.made w 24 cs) hT', fun g hg => ?_⟩ fun g hg => ?_⟩
  · rcases hg with rfl | hg
    · exact hL _ F.m.size
    · exact k1 _ (hq g hg)
  · rcases hg with rfl | hg
    · exact .inl ⟨Nat.le_refl _, by simp⟩
    · exact .inr ⟨_, h1, hg⟩
theorem Fm.row2 (F : Fm w0 w os ts) {L1 S1 L2 S2 : Nat → Prop} {t1 t2 : Tm} {c1 c2 : List Value} (h1 : tT L1 S1 t1 c1 ∈ ts) (h2 : tT L2 S2 t2 c2 ∈ ts) (L : Nat → Prop) (k1 : ∀ g, L1 g → L g) (k2 : ∀ g, L2 g → L g) (hL : ∀ g, w0.heap.size ≤ g → L g) : ∃ S', Fm w0 (w.alloc (.cells (c1 ++ c2).toArray 24)) os (tR L S' (some ⟨w.heap.size, 0, none⟩) [c1, c2] [t1, t2] :: ts) := by
  obtain ⟨_, ⟨hT1, hq1⟩, _⟩ := F.k _ (.inr h1)
  obtain ⟨_, ⟨hT2, hq2⟩, _⟩ := F.k _ (.inr h2)
  have m := Mod.alloc [] w (.cells (c1 ++ c2).toArray 24)
  refine ⟨_, F.put m _ (keeps_tR L _ _ _ _) ⟨RowT.two (Holds.made w 24 (c1 ++ c2)) (hT1.keep m (by simp)) (hT2.keep m (by simp)), fun g hg => ?_⟩ fun g hg => ?_⟩
  · rcases hg with rfl | hg | hg
    · exact hL _ F.m.size
    · exact k1 _ (hq1 g hg)
    · exact k2 _ (hq2 g hg)
  · rcases hg with rfl | hg | hg
    · exact .inl ⟨Nat.le_refl _, by simp⟩
    · exact .inr ⟨_, h1, hg⟩
    · exact .inr ⟨_, h2, hg⟩
/-- The term over a row that stands. -/
theorem Fm.term (F : Fm w0 w os ts) {L S : Nat → Prop} {A : Option Addr} {vs : List (List Value)} {l : List Tm} (h : tR L S A vs l ∈ ts) (k u n : Int) (s : ByteArray) (len c : Nat) (hlen : len = l.length) (hs : s.size ≤ 140737488355328) (hl : len ≤ c) (hc : c ≤ 1000000) : Fm w0 w os (tT L S (.mk k u n s l) (tmc k u n s A len c) :: ts) := by
  subst hlen
  obtain ⟨_, ⟨hR, hq⟩, hlt⟩ := F.k _ (.inr h)
  exact F.put (Mod.refl [] w) _ (keeps_tT L _ _ _) ⟨hR.tis k u n s c hs hl (by unfold maxLen; omega) (by omega), hq⟩ fun g hg => .inr ⟨_, h, hg⟩
theorem exec_lit1 {v : World} {o : Oper} {ρ : Operand → Value} {x : Operand} {c0 : List Value} (h5 : c0.length = 5) (ho : o.op = .buildSlice 22 1 #[(0, x)]) (hx : ρ x = .agg c0.toArray) : (execOp ρ o).run Tryd.prog v = .ok (.value (.slice (some ⟨v.heap.size, 0, none⟩) 1 1)) (v.alloc (.cells c0.toArray 24)) := by
  have hr := run_lit21 h5 v
  unfold execOp
  simp only [ho, List.map_toArray, List.map_cons, List.map_nil, hx, Sem.run_bind, hr, Result.andThen, Sem.run_pure]
theorem exec_lit2 {v : World} {o : Oper} {ρ : Operand → Value} {x y : Operand} {c0 c1 : List Value} (h5 : c0.length = 5) (h6 : c1.length = 5) (ho : o.op = .buildSlice 22 2 #[(0, x), (1, y)]) (hx : ρ x = .agg c0.toArray) (hy : ρ y = .agg c1.toArray) : (execOp ρ o).run Tryd.prog v = .ok (.value (.slice (some ⟨v.heap.size, 0, none⟩) 2 2)) (v.alloc (.cells (c0 ++ c1).toArray 24)) := by
  have hr := run_lit22 h5 h6 v
  unfold execOp
  simp only [ho, List.map_toArray, List.map_cons, List.map_nil, hx, hy, Sem.run_bind, hr, Result.andThen, Sem.run_pure]
theorem wpList_ran_w {ops : Array Oper} {rest : List Oper} {o : Oper} {a : Act} {Q : Exit → Act → World → Prop} (hg : o.guard = none) (V : Value) (hrun : (execOp a.eval o).run Tryd.prog w = .ok (.value V) v) (h : wpList Tryd.prog ops Q rest (a.put o.dst V) v) : wpList Tryd.prog ops Q (o :: rest) a w := by
  refine wpList_plain hg fun K hK => ?_
  unfold Oper.wp
  simp only [hrun]
  exact hK _ _ h
theorem fm_row1 {ops : Array Oper} {rest : List Oper} {o : Oper} {a : Act} {Q : Exit → Act → World → Prop} (F : Fm w0 w os ts) {L1 S1 : Nat → Prop} {t1 : Tm} {c1 : List Value} (h1 : tT L1 S1 t1 c1 ∈ ts) (L : Nat → Prop) (k1 : ∀ g, L1 g → L g) (hL : ∀ g, w0.heap.size ≤ g → L g) (hgd : o.guard = none) (x : Operand) (ho : o.op = .buildSlice 22 1 #[(0, x)]) (hx : a.eval x = .agg c1.toArray)
    (h : ∀ g S v, Fm w0 v os (tR L S (some ⟨g, 0, none⟩) [c1] [t1] :: ts) → wpList Tryd.prog ops Q rest (a.put o.dst (.slice (some ⟨g, 0, none⟩) 1 1)) v) : wpList Tryd.prog ops Q (o :: rest) a w := by
  obtain ⟨S', F'⟩ := F.row1 h1 L k1 hL
  exact wpList_ran_w hgd _ (exec_lit1 (F.ist h1).len ho hx) (h _ _ _ F')
theorem Fm.ltm (F : Fm w0 w os ts) {x : Th} (hi : x ∈ ts) : ∀ g, x.1 g → g < w.heap.size := (F.k _ (.inr hi)).2.2
theorem Fm.glob (F : Fm w0 w os ts) (G : Glob w0) : Glob w := G.then F.m
theorem Fm.weak {L : Nat → Prop} {S : Nat → Prop} {t : Tm} {cs : List Value} (F : Fm w0 w os (tT L S t cs :: ts)) : Fm w0 w os (tT Any S t cs :: ts) := by
  have key : ∀ y ∈ tT Any S t cs :: ts, y = tT Any S t cs ∨ y ∈ ts := fun y hy => List.mem_cons.1 hy
  have h1 := F.k (tT L S t cs) (.inr (List.mem_cons_self ..))
  refine ⟨F.m, fun x hx => ?_, F.lo, F.d, fun x hx y hy g hg hg' => ?_⟩
  · rcases hx with hx | hx
    · exact F.k x (.inl hx)
    · rcases key x hx with rfl | hx
      · exact ⟨keeps_tT _ _ _ _, ⟨h1.2.1.1, fun _ _ => trivial⟩, h1.2.2⟩
      · exact F.k x (.inr (List.mem_cons_of_mem _ hx))
  · rcases key y hy with rfl | hy
    · exact F.e x hx _ (List.mem_cons_self ..) g hg hg'
    · exact F.e x hx y (List.mem_cons_of_mem _ hy) g hg hg'
theorem Fm.name (F : Fm w0 w os ts) : ∃ l, l = ts ∧ Fm w0 w os l := ⟨_, rfl, F⟩
theorem Fm.mem (F : Fm w0 w os ts) (i : Nat) {x : Th} (hi : ts[i]? = some x) : x ∈ ts := by obtain ⟨h, e⟩ := List.getElem?_eq_some_iff.1 hi; rw [← e]; exact List.getElem_mem h
theorem Fm.out (F : Fm w0 w os ts) {i : Nat} {x : Th} (hi : os[i]? = some x) (g : Nat) (hg : x.1 g) (j : Nat) {y : Th} (hj : ts[j]? = some y) : ¬ y.1 g := by
  obtain ⟨h, e⟩ := List.getElem?_eq_some_iff.1 hi
  obtain ⟨h', e'⟩ := List.getElem?_eq_some_iff.1 hj
  exact F.e x (by rw [← e]; exact List.getElem_mem h) y (by rw [← e']; exact List.getElem_mem h') g hg
variable {ops : Array Oper} {rest : List Oper} {o : Oper} {a : Act} {Q : Exit → Act → World → Prop}
theorem Holds.new_keeps {b : Nat} {t : TypeId} {cs : List Value} (h : Holds v b t cs) (hb : b = w.heap.size) : ∀ g, (oB b t cs).1 g → w.heap.size ≤ g ∧ g < v.heap.size := fun g hg => by
  have : g = b := hg
  have := h.lt
  omega
theorem fm_box (F : Fm w0 w os ts) (hgd : o.guard = none) (ty : TypeId) (x : Operand) (ho : o.op = .box ty x) (cs : List Value) (hx : a.eval x = .agg cs.toArray)
    (h : ∀ b v, Fm w0 v (oB b ty cs :: os) ts → wpList Tryd.prog ops Q rest (a.put o.dst (.pointer (some ⟨b, 0, none⟩))) v) : wpList Tryd.prog ops Q (o :: rest) a w :=
  wpList_boxes hgd ty x ho _ hx cs rfl fun v hv m z => h _ v (F.own m _ (keeps_oB _ _ _) hv (hv.new_keeps rfl))
theorem fm_box1 (F : Fm w0 w os ts) (hgd : o.guard = none) (ty : TypeId) (x : Operand) (ho : o.op = .box ty x) (V : Value) (hV : V.cells = [V].toArray) (hx : a.eval x = V)
    (h : ∀ b v, Fm w0 v (oB b ty [V] :: os) ts → wpList Tryd.prog ops Q rest (a.put o.dst (.pointer (some ⟨b, 0, none⟩))) v) : wpList Tryd.prog ops Q (o :: rest) a w :=
  wpList_boxes hgd ty x ho _ hx [V] hV fun v hv m z => h _ v (F.own m _ (keeps_oB _ _ _) hv (hv.new_keeps rfl))
theorem fm_alloc (F : Fm w0 w os ts) (hgd : o.guard = none) (ty : TypeId) (ho : o.op = .alloc ty) (cs : List Value) (hz : ∀ w, (zeroValue ty).run Tryd.prog w = .ok (.agg cs.toArray) w)
    (h : ∀ b v, Fm w0 v (oB b ty cs :: os) ts → wpList Tryd.prog ops Q rest (a.put o.dst (.pointer (some ⟨b, 0, none⟩))) v) : wpList Tryd.prog ops Q (o :: rest) a w :=
  wpList_allocs hgd ty ho cs hz fun v hv m z => h _ v (F.own m _ (keeps_oB _ _ _) hv (hv.new_keeps rfl))
theorem fm_alloc1 (F : Fm w0 w os ts) (hgd : o.guard = none) (ty : TypeId) (ho : o.op = .alloc ty) (V : Value) (h1 : V.oneCell' = true) (hz : ∀ w, (zeroValue ty).run Tryd.prog w = .ok V w)
    (h : ∀ b v, Fm w0 v (oB b ty [V] :: os) ts → wpList Tryd.prog ops Q rest (a.put o.dst (.pointer (some ⟨b, 0, none⟩))) v) : wpList Tryd.prog ops Q (o :: rest) a w :=
  wpList_alloc1x hgd ty ho V h1 hz fun v hv m z => h _ v (F.own m _ (keeps_oB _ _ _) hv (hv.new_keeps rfl))
theorem fm_load (F : Fm w0 w os ts) (i : Nat) {b : Nat} {cs : List Value} (hi : os[i]? = some (oB b 24 cs)) (hgd : o.guard = none) (x : Operand) (ho : o.op = .load 24 x) (hx : a.eval x = .pointer (some ⟨b, 0, none⟩)) (h5 : cs.length = 5)
    (h : wpList Tryd.prog ops Q rest (a.put o.dst (.agg cs.toArray)) w) : wpList Tryd.prog ops Q (o :: rest) a w :=
  wpList_loads hgd 24 x ho b 0 cs hx (Cells.of_holds (F.blk i hi)) _ Tryd.underlying24 rfl (size24' h5) _ rfl h
theorem fm_ranW (hw : Region.wanted o (yielded ops a.tmps) = true) (V : Value) (v : World) (hrun : (execOp a.eval o).run Tryd.prog w = .ok (.value V) v) (h : wpList Tryd.prog ops Q rest (a.put o.dst V) v) : wpList Tryd.prog ops Q (o :: rest) a w := by
  refine wpList_step fun K hK => ?_
  rw [if_pos hw]
  unfold Oper.wp
  rw [hrun]
  exact hK _ _ h
theorem fm_loadG (F : Fm w0 w os ts) (i : Nat) {b : Nat} {cs : List Value} (hi : os[i]? = some (oB b 24 cs)) (hw : Region.wanted o (yielded ops a.tmps) = true) (x : Operand) (ho : o.op = .load 24 x) (hx : a.eval x = .pointer (some ⟨b, 0, none⟩)) (h5 : cs.length = 5)
    (h : wpList Tryd.prog ops Q rest (a.put o.dst (.agg cs.toArray)) w) : wpList Tryd.prog ops Q (o :: rest) a w :=
  fm_ranW hw _ w (exec_load ho hx (run_loads (Cells.of_holds (F.blk i hi)) Tryd.underlying24 rfl (size24' h5))) h
theorem fm_store (F : Fm w0 w os ts) (i : Nat) {b : Nat} {old : List Value} (hi : os[i]? = some (oB b 24 old)) (hgd : o.guard = none) (x y : Operand) (ho : o.op = .store 24 x y) (hdst : o.dst = none) (cs : List Value) (hx : a.eval x = .pointer (some ⟨b, 0, none⟩)) (hy : a.eval y = .agg cs.toArray)
    (h5 : cs.length = 5) (ho5 : old.length = 5) (h1 : ∀ v ∈ cs, v.oneCell' = true)
    (h : ∀ v, Fm w0 v (os.set i (oB b 24 cs)) ts → wpList Tryd.prog ops Q rest a v) : wpList Tryd.prog ops Q (o :: rest) a w :=
  wpList_storesAll hgd 24 x y ho hdst b cs hx _ hy rfl 24 old (F.blk i hi) (by omega) h1 (size24' h5) fun v hv m z => h v (F.turn m i hi (fun g hg => List.mem_singleton.1 hg) _ (keeps_oB _ _ _) hv fun g hg => ⟨.inl hg, by have : g = b := hg; have := hv.lt; omega⟩)
theorem TIs.ones {S : Nat → Prop} {t : Tm} {cs : List Value} (h : TIs w S t cs) : cs.length = 5 ∧ ∀ v ∈ cs, v.oneCell' = true := ⟨h.len, h.one⟩
theorem Fm.ret (F : Fm w0 w os ts) (i : Nat) {b : Nat} {cs : List Value} (hi : os[i]? = some (oB b 24 cs)) : Cells w (some ⟨b, 0, none⟩) cs := Cells.of_holds (F.blk i hi)
end
end Go.Proofs.YtchanildogjhgaaDoor

