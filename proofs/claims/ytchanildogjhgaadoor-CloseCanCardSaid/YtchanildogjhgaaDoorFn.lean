/-
  Rows of the call's own that grow, and the elements of rows that stand. My own work.
-/
import Derived.Test.YtchanildogjhgaaDoorFm
namespace Go.Proofs.YtchanildogjhgaaDoor
open Go.RowKit Go.Shelf
set_option linter.unusedVariables false
set_option linter.unusedSimpArgs false
abbrev blkOf := blk
/-- A row of terms of the call's own. -/
def oR (A : Option Addr) (c : Nat) (xs : List Q5) : Th := ((· ∈ blkOf A), fun w => OwnG f5 24 5 w A c xs)
/-- The terms in it. -/
def tLs (L S : Nat → Prop) (l : List Tm) (xs : List Q5) : Th := (S, fun w => xs.length = l.length ∧ (∀ i (h : i < l.length) (h' : i < xs.length), TIs w S l[i] xs[i].1) ∧ ∀ g, S g → L g)
/-- An element of a row that stands. -/
def tE (L S : Nat → Prop) (A : Option Addr) (cs : List Value) (t : Tm) : Th := (S, fun w => Cells w A cs ∧ TIs w S t cs ∧ (∀ a, A = some a → S a.block) ∧ ∀ g, S g → L g)
theorem keeps_oR (A : Option Addr) (c : Nat) (xs : List Q5) : keeps (oR A c xs) := fun w v ms m h hw => OwnG.keep hw m (fun a ha => h _ (by rw [ha]; exact blk_of))
theorem keeps_tLs (L S : Nat → Prop) (l : List Tm) (xs : List Q5) : keeps (tLs L S l xs) := fun w v ms m h hw => ⟨hw.1, fun i h1 h2 => (hw.2.1 i h1 h2).keep m h, hw.2.2⟩
theorem keeps_tE (L S : Nat → Prop) (A : Option Addr) (cs : List Value) (t : Tm) : keeps (tE L S A cs t) := fun w v ms m h hw => ⟨hw.1.keep m (fun a ha => h _ (hw.2.2.1 a ha)), hw.2.1.keep m h, hw.2.2⟩
section
variable {w0 w v : World} {os ts : List Th}
/-- A new thing whose blocks are those of things that stand. -/
theorem Fm.also (F : Fm w0 w os ts) (x : Th) (hk : keeps x) (hx : x.2 w) (hs : ∀ g, x.1 g → ∃ y ∈ ts, y.1 g) : Fm w0 w os (x :: ts) := F.put (Mod.refl [] w) x hk hx fun g hg => .inr (hs g hg)
/-- An empty row of the call's own, with nothing in it. -/
theorem Fm.row0 (F : Fm w0 w os ts) (L : Nat → Prop) : Fm w0 w (oR none 0 [] :: os) (tLs L (fun _ => False) [] [] :: ts) :=
  (F.own (Mod.refl [] w) (oR none 0 []) (keeps_oR _ _ _) (OwnG.nil f5 24 5 w) (fun g hg => by simp [oR, blkOf, Go.Proofs.YtchanildogjhgaaDoor.blk] at hg)).also _ (keeps_tLs _ _ _ _) ⟨rfl, fun i h => by simp at h, fun _ h => h.elim⟩ fun _ h => h.elim
theorem Fm.elem (F : Fm w0 w os ts) {L S : Nat → Prop} {k u n : Int} {s : ByteArray} {l : List Tm} {K : Option Addr} {len c : Nat} (h : tT L S (.mk k u n s l) (tmc k u n s K len c) ∈ ts) (i : Nat) (hi : i < l.length) : ∃ g o cs, K = some ⟨g, o, none⟩ ∧ cs.length = 5 ∧ (∀ v ∈ cs, v.oneCell' = true) ∧ Fm w0 w os (tE L S (some ⟨g, o + i * 5, none⟩) cs l[i] :: ts) := by
  obtain ⟨_, ⟨hT, hL⟩, _⟩ := F.k _ (.inr h)
  obtain ⟨A, c', vs, e, hr, _⟩ := hT.row
  simp only [tmc, List.cons.injEq, Value.slice.injEq, and_true, true_and] at e
  obtain ⟨rfl, rfl, rfl⟩ := e
  obtain ⟨g, o, cs, rfl, hC, hTe, h5, hSg⟩ := hr.elem i hi
  exact ⟨g, o, cs, rfl, h5, hTe.one, F.also _ (keeps_tE L S _ _ _) ⟨hC, hTe, fun a ha => by cases ha; exact hSg, hL⟩ fun x hx => ⟨_, h, hx⟩⟩
theorem Fm.elemR (F : Fm w0 w os ts) {L S : Nat → Prop} {A : Option Addr} {vs : List (List Value)} {l : List Tm} (h : tR L S A vs l ∈ ts) (i : Nat) (hi : i < l.length) : ∃ g o cs, A = some ⟨g, o, none⟩ ∧ cs.length = 5 ∧ (∀ v ∈ cs, v.oneCell' = true) ∧ Fm w0 w os (tE L S (some ⟨g, o + i * 5, none⟩) cs l[i] :: ts) := by
  obtain ⟨_, ⟨hr, hL⟩, _⟩ := F.k _ (.inr h)
  obtain ⟨g, o, cs, rfl, hC, hTe, h5, hSg⟩ := hr.elem i hi
  exact ⟨g, o, cs, rfl, h5, hTe.one, F.also _ (keeps_tE L S _ _ _) ⟨hC, hTe, fun a ha => by cases ha; exact hSg, hL⟩ fun x hx => ⟨_, h, hx⟩⟩
theorem Fm.eT (F : Fm w0 w os ts) {L S : Nat → Prop} {A : Option Addr} {cs : List Value} {t : Tm} (h : tE L S A cs t ∈ ts) : Fm w0 w os (tT L S t cs :: ts) := by
  obtain ⟨_, ⟨_, h2, _, h4⟩, _⟩ := F.k _ (.inr h)
  exact F.also _ (keeps_tT L S _ _) ⟨h2, h4⟩ fun x hx => ⟨_, h, hx⟩
theorem Fm.ec (F : Fm w0 w os ts) {L S : Nat → Prop} {A : Option Addr} {cs : List Value} {t : Tm} (h : tE L S A cs t ∈ ts) : Cells w A cs := (F.k _ (.inr h)).2.1.1
/-- The row of the call's own as one that stands. -/
theorem Fm.asRow (F : Fm w0 w os ts) {i : Nat} {A : Option Addr} {c : Nat} {xs : List Q5} (hi : os[i]? = some (oR A c xs)) {L S : Nat → Prop} {l : List Tm} (h : tLs L S l xs ∈ ts) : RowT w (fun g => S g ∨ g ∈ blkOf A) A (xs.map (·.1)) l := by
  obtain ⟨_, ⟨h1, h2, h3⟩, hlt⟩ := F.k _ (.inr h)
  have ho : OwnG f5 24 5 w A c xs := F.o i hi
  refine ⟨fun a ha _ => .inr (by rw [ha]; exact blk_of), by rw [List.length_map, h1], fun v hv => ?_, by rw [f5_flat]; exact ho.cells, fun i a b => ?_⟩
  · obtain ⟨x, _, rfl⟩ := List.mem_map.1 hv
    exact x.2.1
  · rw [List.getElem_map]
    exact (h2 i a (by simpa using b)).mono fun g hg => .inl hg
variable {ops : Array Oper} {rest : List Oper} {o : Oper} {a : Act} {Q : Exit → Act → World → Prop}
theorem fm_loadE (F : Fm w0 w os ts) {L S : Nat → Prop} {g f : Nat} {cs : List Value} {t : Tm} (hi : tE L S (some ⟨g, f, none⟩) cs t ∈ ts) (hgd : o.guard = none) (x : Operand) (ho : o.op = .load 24 x) (hx : a.eval x = .pointer (some ⟨g, f, none⟩)) (h5 : cs.length = 5)
    (h : wpList Tryd.prog ops Q rest (a.put o.dst (.agg cs.toArray)) w) : wpList Tryd.prog ops Q (o :: rest) a w :=
  wpList_loads hgd 24 x ho g f cs hx (F.ec hi) _ Tryd.underlying24 rfl (size24' h5) _ rfl h
/-- One cell of a block of the call's own. -/
theorem fm_load1 (F : Fm w0 w os ts) (i k : Nat) {b : Nat} {t : TypeId} {cs : List Value} (hi : os[i]? = some (oB b t cs)) (V : Value) (hk : cs[k]? = some V) (hgd : o.guard = none) (ty : TypeId) (x : Operand) (ho : o.op = .load ty x) (hx : a.eval x = .pointer (some ⟨b, k, none⟩)) (hr : w.cell? ⟨b, k, none⟩ = some V → (loadVar ty ⟨b, k, none⟩).run Tryd.prog w = .ok V w)
    (h : wpList Tryd.prog ops Q rest (a.put o.dst V) w) : wpList Tryd.prog ops Q (o :: rest) a w := by
  have hc : w.cell? ⟨b, k, none⟩ = some V := ((F.blk i hi).cell k).trans hk
  exact wpList_ran hgd V (exec_load ho hx (hr hc)) h
/-- One more behind a row of the call's own. -/
theorem fm_append1 (F : Fm w0 w os ts) (i : Nat) {A : Option Addr} {c : Nat} {xs : List Q5} (hi : os[i]? = some (oR A c xs)) {L S : Nat → Prop} {l : List Tm} (hl : tLs L S l xs ∈ ts) {L2 S2 : Nat → Prop} {g : Nat} {cs : List Value} {t : Tm} (hr : tR L2 S2 (some ⟨g, 0, none⟩) [cs] [t] ∈ ts) (k2 : ∀ g, L2 g → L g) (n : Nat) (hn : n = l.length) (hb : n < 1000000)
    (hgd : o.guard = none) (x y : Operand) (ho : o.op = .call { callee := .builtin .append, args := #[x, y], argTypes := #[22, 22] }) (hx : a.eval x = .slice A n c) (hy : a.eval y = .slice (some ⟨g, 0, none⟩) 1 1)
    (h : ∀ A' c' xs' S' v, Fm w0 v (os.set i (oR A' c' xs')) (tLs L S' (l ++ [t]) xs' :: ts) → wpList Tryd.prog ops Q rest (a.put o.dst (.slice A' (n + 1) c')) v) : wpList Tryd.prog ops Q (o :: rest) a w := by
  obtain ⟨i0, i1, i2, i3, i4⟩ := info24
  obtain ⟨_, ⟨h1, h2, h3⟩, hlt⟩ := F.k _ (.inr hl)
  obtain ⟨_, ⟨hR, hq⟩, hlt2⟩ := F.k _ (.inr hr)
  have hTr := hR.hk 0 (by simp) (by simp)
  simp only [List.getElem_cons_zero] at hTr
  have h5 := hTr.ones
  have ho' : OwnG f5 24 5 w A c xs := F.o i hi
  have hx' : xs.length = n := by rw [hn]; exact h1
  have hc : Cells w (some ⟨g, 0, none⟩) ([(⟨cs, h5⟩ : Q5)].flatMap f5) := by
    have := hR.hC
    simpa [f5] using this
  refine wpList_appendG (f := f5) w hgd x y 22 ho 24 i0 (.agg (tmc 0 0 0 ⟨#[]⟩ none 0 0).toArray) 64 Tryd.underlying22 i1 i2 i3 i4 (by rfl) (by decide) f5_len f5_one A n c xs hx hx'.symm ho' (some ⟨g, 0, none⟩) 1 1 [⟨cs, h5⟩] hy rfl hc (by rw [hx']; simp; omega) (by rw [hx']; simp [maxLen]; omega) ?_
  intro A' c' v hO m hbl
  rw [List.length_append, hx', List.length_singleton]
  refine h A' c' (xs ++ [⟨cs, h5⟩]) (fun x => S x ∨ S2 x) v ?_
  have hAlt := ho'.lt
  have F' := F.turn m i hi (fun g hg => hg) (oR A' c' (xs ++ [(⟨cs, h5⟩ : Q5)])) (keeps_oR _ _ _) hO (fun g' hg' => by
    obtain ⟨a', ha', hae⟩ := mem_blk hg'
    subst hae
    exact ⟨hbl a' ha', hO.lt a' ha'⟩)
  have hk1 := F'.k _ (.inr hl)
  have hk2 := F'.k _ (.inr hr)
  refine F'.also _ (keeps_tLs _ _ _ _) ⟨by rw [List.length_append, List.length_append, h1]; rfl, fun j a b => ?_, fun g' hg' => ?_⟩ fun g' hg' => ?_
  · rcases Nat.lt_or_ge j l.length with hj | hj
    · have := hk1.2.1.2.1 j hj (by rw [h1]; exact hj)
      rw [List.getElem_append_left hj, List.getElem_append_left (by rw [h1]; exact hj)]
      exact this.mono fun g hg => .inl hg
    · have hjl : j = l.length := by simp at a; omega
      subst hjl
      have := hk2.2.1.1.hk 0 (by simp) (by simp)
      simp only [List.getElem_cons_zero] at this
      have e1 : (l ++ [t])[l.length]'a = t := by simp
      have e2 : (xs ++ [(⟨cs, h5⟩ : Q5)])[l.length]'b = (⟨cs, h5⟩ : Q5) := by simp [← h1]
      rw [e1, e2]
      exact this.mono fun g hg => .inr hg
  · rcases hg' with h' | h'
    · exact h3 _ h'
    · exact k2 _ (hq _ h')
  · rcases hg' with h' | h'
    · exact ⟨_, hl, h'⟩
    · exact ⟨_, hr, h'⟩
end
end Go.Proofs.YtchanildogjhgaaDoor

