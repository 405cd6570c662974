/-
  My own texts Tr Ts Tt, one behind the other.
-/
import Derived.Test.YtchanildogjhgaaDoorTq
import Derived.Test.YtchanildogjhgaaDoorA1
namespace Go.Proofs.YtchanildogjhgaaDoor
section
open Go.RowKit Go.Shelf
set_option linter.unusedVariables false
set_option linter.unusedSimpArgs false
/-- Both of a reader's blocks may have turned; a term is made in b5, and handed back in b4. -/
structure TSt (w0 w : World) (q g b b4 b5 : Nat) (c5 : List Value) (l : List UInt8) (sz : Int) : Prop where
  rd : RdT w q g b l 0 sz
  h4 : Holds w b4 24 (tmc 0 0 0 ⟨#[]⟩ none 0 0)
  h5 : Holds w b5 24 c5
  mm : Mod [q, g] w0 w
  n4 : w0.heap.size ≤ b4
  n5 : w0.heap.size ≤ b5
  n45 : b4 ≠ b5
  oq : q < w0.heap.size
  og : g < w0.heap.size
  ob : b < w0.heap.size
section
variable {w0 w v : World} {q g b b4 b5 : Nat} {c5 : List Value} {l l' : List UInt8} {sz : Int}
theorem TSt.read (h : TSt w0 w q g b b4 b5 c5 l sz) (hr : RdT v q g b l' 0 sz) (m : Mod [g] w v) : TSt w0 v q g b b4 b5 c5 l' sz :=
  ⟨hr, h.h4.keep m (by have := h.n4; have := h.og; simp; omega), h.h5.keep m (by have := h.n5; have := h.og; simp; omega), h.mm.trans m (fun i _ hi => by simp at hi ⊢; exact .inr hi), h.n4, h.n5, h.n45, h.oq, h.og, h.ob⟩
theorem TSt.still (h : TSt w0 w q g b b4 b5 c5 l sz) (m : Mod [] w v) : TSt w0 v q g b b4 b5 c5 l sz :=
  ⟨h.rd.keep m (by simp) (by simp) (by simp), h.h4.keep m (by simp), h.h5.keep m (by simp), h.mm.then m, h.n4, h.n5, h.n45, h.oq, h.og, h.ob⟩
theorem TSt.put (h : TSt w0 w q g b b4 b5 c5 l sz) (j : Nat) (V : Value) : TSt w0 (w.setCell ⟨b5, j, none⟩ V) q g b b4 b5 (c5.set j V) l sz := by
  have m : Mod [b5] w (w.setCell ⟨b5, j, none⟩ V) := Mod.setCell (ms := [b5]) w (by simp) V
  have h5 := h.n5
  refine ⟨h.rd.keep m (by have := h.oq; simp; omega) (by have := h.og; simp; omega) (by have := h.ob; simp; omega), h.h4.keep m (by simpa using h.n45), h.h5.set j V, h.mm.trans m ?_, h.n4, h.n5, h.n45, h.oq, h.og, h.ob⟩
  intro i hi hm
  simp at hm
  omega
theorem TSt.bump (h : TSt w0 w q g b b4 b5 c5 l sz) (z : Int) : TSt w0 (w.setCell ⟨q, 1, none⟩ (.int .i64 z)) q g b b4 b5 c5 l z := by
  have m : Mod [q] w (w.setCell ⟨q, 1, none⟩ (.int .i64 z)) := Mod.setCell (ms := [q]) w (by simp) _
  have hq := h.rd.hq.set 1 (.int .i64 z)
  refine ⟨⟨hq, h.rd.hr.keep m (by simpa using h.rd.ng) (by simpa using h.rd.nb), h.rd.nb, h.rd.ng⟩, h.h4.keep m (by have := h.n4; have := h.oq; simp; omega), h.h5.keep m (by have := h.n5; have := h.oq; simp; omega), h.mm.trans m (fun i _ hi => by simp at hi ⊢; exact .inl hi), h.n4, h.n5, h.n45, h.oq, h.og, h.ob⟩
theorem wpList_store1 {ops : Array Oper} {rest : List Oper} {o : Oper} {a : Act} {Q : Exit → Act → World → Prop} (hgd : o.guard = none) (ty : TypeId) (x y : Operand) (ho : o.op = .store ty x y) (hdst : o.dst = none) (A : Addr) (hx : a.eval x = .pointer (some A)) (V old : Value) (hy : a.eval y = V) (h1 : V.oneCell' = true)
    (hs : (Tryd.prog.info? ty).map (·.size) = some 1) (hc : w.cell? A = some old) (hf : w.frozen? A = false) (h : wpList Tryd.prog ops Q rest a (w.setCell A V)) : wpList Tryd.prog ops Q (o :: rest) a w := by
  cases hq : Tryd.prog.info? ty with
  | none => rw [hq] at hs; cases hs
  | some it =>
    have hit : it.size = 1 := by rw [hq] at hs; simpa using hs
    have hr := exec_store1 (P := Tryd.prog) ho hx hy h1 hq hit hc hf
    refine wpList_plain hgd fun K hK => ?_
    unfold Oper.wp
    rw [hr]
    refine hK _ _ ?_
    show wpList Tryd.prog ops Q rest (a.put o.dst undef) _
    rw [hdst]
    exact h
theorem wpList_put5 {ops : Array Oper} {rest : List Oper} {o : Oper} {a : Act} {Q : Exit → Act → World → Prop} (st : TSt w0 w q g b b4 b5 c5 l sz) (hgd : o.guard = none) (ty : TypeId) (x y : Operand) (ho : o.op = .store ty x y) (hdst : o.dst = none) (j : Nat) (hx : a.eval x = .pointer (some ⟨b5, j, none⟩)) (V : Value) (hy : a.eval y = V) (h1 : V.oneCell' = true)
    (hs : (Tryd.prog.info? ty).map (·.size) = some 1) (hj : j < c5.length) (h : ∀ v, TSt w0 v q g b b4 b5 (c5.set j V) l sz → wpList Tryd.prog ops Q rest a v) : wpList Tryd.prog ops Q (o :: rest) a w :=
  wpList_store1 hgd ty x y ho hdst ⟨b5, j, none⟩ hx V (c5[j]) hy h1 hs (by rw [st.h5.cell, List.getElem?_eq_getElem hj]) (st.h5.free j) (h _ (st.put j V))
theorem wpList_bump {ops : Array Oper} {rest : List Oper} {o : Oper} {a : Act} {Q : Exit → Act → World → Prop} (st : TSt w0 w q g b b4 b5 c5 l sz) (hgd : o.guard = none) (x y : Operand) (ho : o.op = .store 3 x y) (hdst : o.dst = none) (hx : a.eval x = .pointer (some ⟨q, 1, none⟩)) (z : Int) (hy : a.eval y = .int .i64 z)
    (h : ∀ v, TSt w0 v q g b b4 b5 c5 l z → wpList Tryd.prog ops Q rest a v) : wpList Tryd.prog ops Q (o :: rest) a w :=
  wpList_store1 hgd 3 x y ho hdst ⟨q, 1, none⟩ hx (.int .i64 z) (.int .i64 sz) hy rfl (by kernel_rfl) (by rw [st.rd.hq.cell]; rfl) (st.rd.hq.free 1) (h _ (st.bump z))
end
theorem sz9 : (Tryd.prog.info? 9).map (·.size) = some 1 := by kernel_rfl
theorem sz3 : (Tryd.prog.info? 3).map (·.size) = some 1 := by kernel_rfl
theorem sz22 : (Tryd.prog.info? 22).map (·.size) = some 1 := by kernel_rfl
theorem tmc_set1 (k u n : Int) (s : ByteArray) (A : Option Addr) (l c : Nat) (z : Int) : (tmc k u n s A l c).set 1 (.int .i64 z) = tmc k z n s A l c := rfl
theorem tmc_set2 (k u n : Int) (s : ByteArray) (A : Option Addr) (l c : Nat) (z : Int) : (tmc k u n s A l c).set 2 (.int .i64 z) = tmc k u z s A l c := rfl
theorem tmc_set3 (k u n : Int) (s : ByteArray) (A : Option Addr) (l c : Nat) (z : ByteArray) : (tmc k u n s A l c).set 3 (.string z) = tmc k u n z A l c := rfl
theorem tmc_set4 (k u n : Int) (s : ByteArray) (A B : Option Addr) (l c l' c' : Nat) : (tmc k u n s A l c).set 4 (.slice B l' c') = tmc k u n s B l' c' := rfl
theorem tmc_lt {k u n : Int} {s : ByteArray} {A : Option Addr} {l c j : Nat} (h : j < 5) : j < (tmc k u n s A l c).length := h
/-- Five cells. -/
def C5 := {v : List Value // v.length = 5 ∧ ∀ x ∈ v, x.oneCell' = true}
abbrev c5v (x : C5) : List Value := x.1
theorem c5_len (x : C5) : (c5v x).length = 5 := x.2.1
theorem c5_one (x : C5) : ∀ v ∈ c5v x, v.oneCell' = true := x.2.2
namespace Tm
theorem decs_snoc (f : List UInt8 → Nat → Except Int (Tm × List UInt8 × Nat)) : ∀ (n : Nat) (l : List UInt8) (s : Nat), decs f (n + 1) l s = match decs f n l s with
    | .error e => .error e
    | .ok (ts, l', s') => match f l' s' with
      | .error e => .error e
      | .ok (t, l'', s'') => .ok (ts ++ [t], l'', s'')
  | 0, l, s => by
    simp only [decs]
    cases h : f l s with
    | error e => rfl
    | ok p => obtain ⟨t, l', s'⟩ := p; rfl
  | n + 1, l, s => by
    rw [decs]
    cases h : f l s with
    | error e => simp only [decs, h]
    | ok p =>
      obtain ⟨t, l', s'⟩ := p
      simp only []
      rw [decs_snoc f n l' s']
      have e : decs f (n + 1) l s = (match decs f n l' s' with | .error e => .error e | .ok (ts, l'', s'') => .ok (t :: ts, l'', s'')) := by
        rw [decs]; simp only [h]; cases decs f n l' s' <;> rfl
      rw [e]
      cases h2 : decs f n l' s' with
      | error e => rfl
      | ok p2 =>
        obtain ⟨ts, l2, s2⟩ := p2
        simp only []
        cases h3 : f l2 s2 with
        | error e => rfl
        | ok p3 => obtain ⟨t3, l3, s3⟩ := p3; rfl
theorem decs_err (f : List UInt8 → Nat → Except Int (Tm × List UInt8 × Nat)) {n : Nat} {l : List UInt8} {s : Nat} {e : Int} (h : decs f n l s = .error e) : ∀ k, decs f (n + k) l s = .error e
  | 0 => h
  | k + 1 => by
    rw [← Nat.add_assoc, decs_snoc, decs_err f h k]
end Tm
/-- What term hands back of what dec says. -/
def TermP (w : World) (q g b : Nat) (r : Except Int (Tm × List UInt8 × Nat)) (e : Ending) (w' : World) : Prop := match r with
  | .error er => e = boom er ∧ Mod [q, g] w w'
  | .ok (t, l, s) => ∃ cs, e = .returned (.agg cs.toArray) ∧ TIs w' (Btw w.heap.size w'.heap.size) t cs ∧ RdT w' q g b l 0 s ∧ Mod [q, g] w w'
def TermAll (m : Nat) : Prop := ∀ (q g b : Nat) (l : List UInt8) (s : Nat) (w : World), RdT w q g b l 0 s → Glob w → 0 ≠ q → 0 ≠ g → s ≤ 1200 →
  Calls Tryd.prog 98 #[.pointer (some ⟨q, 0, none⟩), .int .i64 (61 - (m : Int))] w (TermP w q g b (Tm.dec m l s))
end
section
open Go.RowKit Go.Shelf
set_option linter.unusedVariables false
set_option linter.unusedSimpArgs false
section
/-- So many Kids were read. -/
structure L0 (w : World) (q g b b4 b5 : Nat) (k u n : Int) (s : ByteArray) (v : World) (A : Option Addr) (c : Nat) (dn : List C5) (ts : List Tm) (l : List UInt8) (z : Int) (Sk : Nat → Prop) : Prop where
  st : TSt w v q g b b4 b5 (tmc k u n s A dn.length c) l z
  own : OwnG c5v 24 5 v A c dn
  len : ts.length = dn.length
  kids : ∀ i (h : i < ts.length) (h' : i < dn.length), TIs v Sk ts[i] (c5v dn[i])
  sk : ∀ i, Sk i → w.heap.size ≤ i ∧ i < v.heap.size ∧ i ≠ b4 ∧ i ≠ b5 ∧ i ∉ blk A
  ab : ∀ a, A = some a → w.heap.size ≤ a.block ∧ a.block ≠ b4 ∧ a.block ≠ b5
variable {w : World} {q g b b4 b5 : Nat} {k u n : Int} {s : ByteArray} {v v' : World} {A A' : Option Addr} {c c' : Nat} {dn : List C5} {ts : List Tm} {l l' : List UInt8} {z z' : Int} {Sk Sn : Nat → Prop} {t : Tm} {cs : C5} {y : Nat}
/-- What was read last. -/
structure New (w : World) (b4 b5 : Nat) (v : World) (A : Option Addr) (t : Tm) (cs : C5) (Sn : Nat → Prop) : Prop where
  t : TIs v Sn t (c5v cs)
  sn : ∀ i, Sn i → w.heap.size ≤ i ∧ i < v.heap.size ∧ i ≠ b4 ∧ i ≠ b5 ∧ i ∉ blk A
theorem L0.still (h : L0 w q g b b4 b5 k u n s v A c dn ts l z Sk) (m : Mod [] v v') : L0 w q g b b4 b5 k u n s v' A c dn ts l z Sk :=
  ⟨h.st.still m, h.own.keep m (by simp), h.len, fun i h1 h2 => (h.kids i h1 h2).keep m (by simp), fun i hi => by obtain ⟨h1, h2, h3, h4, h5⟩ := h.sk i hi; exact ⟨h1, Nat.lt_of_lt_of_le h2 m.size, h3, h4, h5⟩, h.ab⟩
theorem New.still (h : New w b4 b5 v A t cs Sn) (m : Mod [] v v') : New w b4 b5 v' A t cs Sn :=
  ⟨h.t.keep m (by simp), fun i hi => by obtain ⟨h1, h2, h3, h4, h5⟩ := h.sn i hi; exact ⟨h1, Nat.lt_of_lt_of_le h2 m.size, h3, h4, h5⟩⟩
theorem TSt.step (h : TSt w v q g b b4 b5 (tmc k u n s A dn.length c) l z) (hr : RdT v' q g b l' 0 z') (m : Mod [q, g] v v') : TSt w v' q g b b4 b5 (tmc k u n s A dn.length c) l' z' := by
  have h1 := h.n4; have h2 := h.n5; have h3 := h.oq; have h4 := h.og
  exact ⟨hr, h.h4.keep m (by simp; omega), h.h5.keep m (by simp; omega), h.mm.trans m (fun _ _ h => h), h.n4, h.n5, h.n45, h.oq, h.og, h.ob⟩
theorem L0.call (h : L0 w q g b b4 b5 k u n s v A c dn ts l z Sk) (hr : RdT v' q g b l' 0 z') (m : Mod [q, g] v v') (hT : TIs v' (Btw v.heap.size v'.heap.size) t (c5v cs)) :
    L0 w q g b b4 b5 k u n s v' A c dn ts l' z' Sk ∧ New w b4 b5 v' A t cs (Btw v.heap.size v'.heap.size) := by
  have h1 := h.st.mm.size
  have h3 := h.st.oq
  have h4 := h.st.og
  have e4 := h.st.h4.lt
  have e5 := h.st.h5.lt
  have hA : ∀ a, A = some a → a.block < v.heap.size := h.own.lt
  refine ⟨⟨h.st.step hr m, h.own.keep m (fun a ha hm => ?_), h.len, fun i h1 h2 => (h.kids i h1 h2).keep m (fun x hx hm => ?_), fun i hi => ?_, h.ab⟩, ⟨hT, fun i hi => ?_⟩⟩
  · have := (h.ab a ha).1
    simp at hm; omega
  · have := (h.sk x hx).1
    simp at hm; omega
  · obtain ⟨h1, h2, h3, h4, h5⟩ := h.sk i hi
    exact ⟨h1, Nat.lt_of_lt_of_le h2 m.size, h3, h4, h5⟩
  · refine ⟨Nat.le_trans h1 hi.1, hi.2, ?_, ?_, fun hm => ?_⟩
    · have := hi.1; omega
    · have := hi.1; omega
    · obtain ⟨a, ha, e⟩ := mem_blk hm
      have := hA a ha
      have := hi.1
      omega
/-- The row has taken it. -/
structure L3 (w : World) (q g b b4 b5 : Nat) (k u n : Int) (s : ByteArray) (v : World) (A : Option Addr) (c : Nat) (d : Nat) (A' : Option Addr) (c' : Nat) (dn : List C5) (ts : List Tm) (l : List UInt8) (z : Int) (Sk : Nat → Prop) : Prop where
  st : TSt w v q g b b4 b5 (tmc k u n s A d c) l z
  own : OwnG c5v 24 5 v A' c' dn
  len : ts.length = dn.length
  kids : ∀ i (h : i < ts.length) (h' : i < dn.length), TIs v Sk ts[i] (c5v dn[i])
  sk : ∀ i, Sk i → w.heap.size ≤ i ∧ i < v.heap.size ∧ i ≠ b4 ∧ i ≠ b5 ∧ i ∉ blk A'
  ab : ∀ a, A' = some a → w.heap.size ≤ a.block ∧ a.block ≠ b4 ∧ a.block ≠ b5
theorem L0.app (h : L0 w q g b b4 b5 k u n s v A c dn ts l z Sk) (hn : New w b4 b5 v A t cs Sn) (ho : OwnG c5v 24 5 v' A' c' (dn ++ [cs])) (m : Mod (blk A) v v') (hf : ∀ a, A' = some a → a.block ∈ blk A ∨ v.heap.size ≤ a.block) :
    L3 w q g b b4 b5 k u n s v' A c dn.length A' c' (dn ++ [cs]) (ts ++ [t]) l z (fun i => Sk i ∨ Sn i) := by
  have hb : ∀ i ∈ blk A, w.heap.size ≤ i ∧ i ≠ b4 ∧ i ≠ b5 := fun i hi => by
    obtain ⟨a, ha, rfl⟩ := mem_blk hi
    exact h.ab a ha
  have h1 := h.st.mm.size
  have e4 := h.st.h4.lt
  have e5 := h.st.h5.lt
  have all : ∀ i, Sk i ∨ Sn i → w.heap.size ≤ i ∧ i < v.heap.size ∧ i ≠ b4 ∧ i ≠ b5 ∧ i ∉ blk A := fun i hi => hi.elim (h.sk i) (hn.sn i)
  refine ⟨⟨h.st.rd.keep m (fun hm => ?_) (fun hm => ?_) (fun hm => ?_), h.st.h4.keep m (fun hm => ?_), h.st.h5.keep m (fun hm => ?_), h.st.mm.trans m (fun i hi hm => ?_), h.st.n4, h.st.n5, h.st.n45, h.st.oq, h.st.og, h.st.ob⟩, ho, by simp [h.len], fun i h1 h2 => ?_, fun i hi => ?_, fun a ha => ?_⟩
  · have := (hb _ hm).1; have := h.st.oq; omega
  · have := (hb _ hm).1; have := h.st.og; omega
  · have := (hb _ hm).1; have := h.st.ob; omega
  · exact (hb _ hm).2.1 rfl
  · exact (hb _ hm).2.2 rfl
  · have := (hb _ hm).1; omega
  · by_cases hi : i < dn.length
    · rw [List.getElem_append_left (by rw [h.len]; exact hi), List.getElem_append_left hi]
      exact ((h.kids i (by rw [h.len]; exact hi) hi).keep m (fun x hx => (h.sk x hx).2.2.2.2)).mono (fun _ hx => .inl hx)
    · have hij : i = dn.length := by simp at h2; omega
      subst hij
      rw [List.getElem_append_right (by rw [h.len]; omega), List.getElem_append_right (by omega)]
      simp only [h.len, Nat.sub_self, List.getElem_cons_zero]
      exact (hn.t.keep m (fun x hx => (hn.sn x hx).2.2.2.2)).mono (fun _ hx => .inr hx)
  · obtain ⟨k1, k2, k3, k4, k5⟩ := all i hi
    refine ⟨k1, Nat.lt_of_lt_of_le k2 m.size, k3, k4, fun hm => ?_⟩
    obtain ⟨a, ha, e⟩ := mem_blk hm
    rcases hf a ha with h5 | h5
    · rw [e] at h5; exact k5 h5
    · omega
  · rcases hf a ha with h5 | h5
    · exact hb _ h5
    · exact ⟨by omega, by omega, by omega⟩
theorem L3.put (h : L3 w q g b b4 b5 k u n s v A c (dn.length - 1) A' c' dn ts l z Sk) : L0 w q g b b4 b5 k u n s (v.setCell ⟨b5, 4, none⟩ (.slice A' dn.length c')) A' c' dn ts l z Sk := by
  have m : Mod [b5] v (v.setCell ⟨b5, 4, none⟩ (.slice A' dn.length c')) := Mod.setCell (ms := [b5]) v (by simp) _
  refine ⟨by have := h.st.put 4 (.slice A' dn.length c'); rwa [tmc_set4] at this, h.own.keep m (fun a ha hm => ?_), h.len, fun i h1 h2 => (h.kids i h1 h2).keep m (fun x hx hm => ?_), fun i hi => ?_, h.ab⟩
  · simp at hm; exact (h.ab a ha).2.2 hm
  · simp at hm; exact (h.sk x hx).2.2.2.1 hm
  · obtain ⟨k1, k2, k3, k4, k5⟩ := h.sk i hi
    exact ⟨k1, Nat.lt_of_lt_of_le k2 m.size, k3, k4, k5⟩
theorem L0.tis (h : L0 w q g b b4 b5 k u n s v A c dn ts l z Sk) (hs : s.size ≤ 140737488355328) (hl : dn.length ≤ 2) : TIs v (fun x => Btw w.heap.size v.heap.size x ∧ x ≠ b4) (.mk k u n s ts) (tmc k u n s A dn.length c) := by
  have hf := h.own.fits
  have hc := h.own.cells
  have R : RowT v (fun x => Btw w.heap.size v.heap.size x ∧ x ≠ b4) A (dn.map c5v) ts := by
    refine ⟨fun a ha _ => ⟨⟨(h.ab a ha).1, h.own.lt a ha⟩, (h.ab a ha).2.1⟩, by simp [h.len], ?_, ?_, fun i h1 h2 => ?_⟩
    · intro x hx
      obtain ⟨y, _, rfl⟩ := List.mem_map.1 hx
      exact c5_len y
    · have e : (dn.map c5v).flatMap id = dn.flatMap c5v := by rw [List.flatMap_map]; rfl
      rw [e]; exact hc
    · have h2' : i < dn.length := by simpa using h2
      rw [List.getElem_map]
      exact (h.kids i h1 h2').mono (fun x hx => ⟨⟨(h.sk x hx).1, (h.sk x hx).2.1⟩, (h.sk x hx).2.2.1⟩)
  have := R.tis k u n s c hs (by rw [h.len]; exact hf.1) hf.2 (by rw [h.len]; omega)
  rwa [h.len] at this
/-- What a step of a round makes. -/
structure XT where
  cs : C5
  y : Nat
  A : Option Addr
  c : Nat
  S : Nat → Prop
/-- How far a round has come: nothing; a term read; in a row of one; behind the others; in the term. -/
def Stg (w : World) (q g b b4 b5 : Nat) (k u n : Int) (s : ByteArray) (A : Option Addr) (c : Nat) (dn : List C5) (ts : List Tm) (l : List UInt8) (z : Int) (Sk : Nat → Prop) (l' : List UInt8) (z' : Int) (t : Tm) (x : XT) (v : World) : Nat → Prop
  | 0 => L0 w q g b b4 b5 k u n s v A c dn ts l z Sk
  | 1 => L0 w q g b b4 b5 k u n s v A c dn ts l' z' Sk ∧ New w b4 b5 v A t x.cs x.S
  | 2 => L0 w q g b b4 b5 k u n s v A c dn ts l' z' Sk ∧ New w b4 b5 v A t x.cs x.S ∧ Holds v x.y 24 (c5v x.cs)
  | 3 => L3 w q g b b4 b5 k u n s v A c dn.length x.A x.c (dn ++ [x.cs]) (ts ++ [t]) l' z' (fun i => Sk i ∨ x.S i)
  | _ => L0 w q g b b4 b5 k u n s v x.A x.c (dn ++ [x.cs]) (ts ++ [t]) l' z' (fun i => Sk i ∨ x.S i)
theorem Stg.old {x : XT} {m : Nat} (h : Stg w q g b b4 b5 k u n s A c dn ts l z Sk l' z' t x v m) (hm : m ≤ 3) : v.cell? ⟨b5, 4, none⟩ = some (.slice A dn.length c) := by
  match m, h, hm with
  | 0, h, _ => exact h.st.h5.cell 4
  | 1, h, _ => exact h.1.st.h5.cell 4
  | 2, h, _ => exact h.1.st.h5.cell 4
  | 3, h, _ => exact h.st.h5.cell 4
end
end
section
open Go.RowKit Go.Shelf
set_option linter.unusedVariables false
set_option linter.unusedSimpArgs false
theorem run_appendG {α : Type} {f : α → List Value} {size : Nat} {P : Program} (w : World) (t ty : TypeId)
    (e : TypeId) (i : TypeInfo) (z : Value) (bytes : Nat) (ht : P.underlying t = some (.slice e)) (hi : P.info? e = some i) (hz : i.zero = some z) (hsize : i.size = size) (hby : i.bytes = bytes) (hzs : z.cells.size = size) (hs0 : 0 < size)
    (hf : ∀ x, (f x).length = size) (h1 : ∀ x, ∀ v ∈ f x, v.oneCell' = true)
    (A : Option Addr) (c : Nat) (l : List α) (hown : OwnG f e size w A c l)
    (ad : Addr) (d : Nat) (k : List α) (hr : Cells w (some ad) (k.flatMap f))
    (h63 : (l.length + k.length) * bytes ≤ 140737488355328) (h64 : l.length + k.length ≤ maxLen) :
    ∃ A' c' w', (Builtin.append_ #[t, t] ty #[.slice A l.length c, .slice (some ad) k.length d]).run P w = .ok (.slice A' (l ++ k).length c') w' ∧ OwnG f e size w' A' c' (l ++ k) ∧ Mod (blk A) w w' ∧ (∀ a, A' = some a → a.block ∈ blk A ∨ w.heap.size ≤ a.block) := by
  have hkl := flat_length f size hf k
  have hcells : ∀ j u, (k.flatMap f)[j]? = some u → w.cell? (ad.add j) = some u := by
    intro j u hu
    rcases Nat.eq_zero_or_pos (k.flatMap f).length with h0 | h0
    · rw [List.eq_nil_of_length_eq_zero h0] at hu
      simp at hu
    · obtain ⟨ad', e', hh⟩ := hr.first h0
      injection e' with e'
      subst e'
      exact hh j u hu
  have hone : ∀ u ∈ k.flatMap f, u.oneCell' = true := fun u hu => by
    obtain ⟨x, _, hx⟩ := List.mem_flatMap.1 hu
    exact h1 x u hx
  obtain ⟨v', w', hrun, hown', hgr, _, hbl⟩ := run_append_own_at (P := P) w 0 t ty e i z size bytes ht hi hz hsize hby hzs hs0 _ _ _ hown ad k.length d (k.flatMap f) hkl hcells hone h64 h63 (Nat.zero_le _)
  have hv : ∃ A' c', v' = .slice A' (l ++ k).length c' := by
    rcases hown'.2 with ⟨hv, hn⟩ | ⟨g, cap, cur, hv, _⟩
    · exact ⟨none, 0, by rw [hv, List.length_append, hn]⟩
    · exact ⟨_, _, by rw [hv, List.length_append]⟩
  obtain ⟨A', c', rfl⟩ := hv
  have hO : OwnG f e size w' A' c' (l ++ k) := by
    have := hown'
    rw [← List.length_append, ← List.flatMap_append] at this
    exact this
  have hob : ∀ (A : Option Addr) n c, (Value.slice A n c).ownBlock = A.map (·.block) := by intro A n c; cases A <;> rfl
  rw [hob] at hgr
  rw [hob, hob] at hbl
  refine ⟨A', c', w', by rw [hrun], hO, ⟨hgr.os, hgr.tape, hgr.output, hgr.size, fun j hj hn => hgr.block j hj ?_⟩, ?_⟩
  · intro hh
    exact hn (by unfold blk; rw [← hh]; simp)
  · intro b hb
    subst hb
    rcases hbl with hh | hh
    · left; unfold blk; rw [← hh]; simp
    · right
      simp at hh
      omega
theorem exec_lit22 {v : World} {o : Oper} {ρ : Operand → Value} {x : Operand} {cs : List Value} (ho : o.op = .buildSlice 22 1 #[(0, x)]) (hx : ρ x = .agg cs.toArray) (h5 : cs.length = 5) :
    (execOp ρ o).run Tryd.prog v = .ok (.value (.slice (some ⟨v.heap.size, 0, none⟩) 1 1)) (v.alloc (.cells cs.toArray 24)) := by
  unfold execOp
  simp only [ho, List.map_toArray, List.map_cons, List.map_nil, hx, Sem.run_bind, run_lit21 h5, Result.andThen, Sem.run_pure]
theorem it22 : ∃ it, Tryd.prog.info? 22 = some it ∧ it.size = 1 := by
  have h := sz22
  cases hq : Tryd.prog.info? 22 with
  | none => rw [hq] at h; cases h
  | some it => exact ⟨it, rfl, by rw [hq] at h; simpa using h⟩
theorem Holds.at4 {v : World} {g : Nat} {k u n : Int} {s : ByteArray} {A : Option Addr} {d c : Nat} (h : Holds v g 24 (tmc k u n s A d c)) : v.cell? ⟨g, 4, none⟩ = some (.slice A d c) := h.cell 4
theorem append1 (v : World) (A0 : Option Addr) (c0 : Nat) (dn : List C5) (cs : C5) (y : Nat) (hown : OwnG c5v 24 5 v A0 c0 dn) (hy : Holds v y 24 (c5v cs)) (hl : dn.length ≤ 10) :
    ∃ A' c' v', (Builtin.append_ #[22, 22] 22 #[.slice A0 dn.length c0, .slice (some ⟨y, 0, none⟩) 1 1]).run Tryd.prog v = .ok (.slice A' (dn.length + 1) c') v' ∧ OwnG c5v 24 5 v' A' c' (dn ++ [cs]) ∧ Mod (blk A0) v v' ∧ (∀ a, A' = some a → a.block ∈ blk A0 ∨ v.heap.size ≤ a.block) := by
  obtain ⟨i, hi, hz, hsz, hb⟩ := info24
  obtain ⟨A', c', v', h1, h2, h3, h4⟩ := run_appendG (f := c5v) (size := 5) v 22 22 24 i _ 64 Tryd.underlying22 hi hz hsz hb rfl (by decide) c5_len c5_one A0 c0 dn hown ⟨y, 0, none⟩ 1 [cs] (by have := Cells.of_holds hy; simpa using this) (by simp; omega) (by simp; unfold maxLen; omega)
  exact ⟨A', c', v', by simpa using h1, h2, h3, h4⟩
end
end Go.Proofs.YtchanildogjhgaaDoor

