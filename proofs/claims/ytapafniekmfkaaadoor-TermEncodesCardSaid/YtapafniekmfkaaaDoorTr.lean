/-
  A reader of terms on its way: what stands where. My own work.
-/
import Derived.Test.YtapafniekmfkaaaDoorTq
import Derived.Test.YtapafniekmfkaaaDoorGd
namespace Go.Proofs.YtapafniekmfkaaaDoor
open Go.RowKit Go.Shelf
set_option linter.unusedVariables false
set_option linter.unusedSimpArgs false
/-- Both of a reader's blocks may have turned; a term is made in b5, and handed back in b4. -/
structure TSt (w0 w : World) (q g b b4 b5 : Nat) (c5 : List Value) (l : List UInt8) (sz : Int) : Prop where
  rd : RdT w q g b l 0 sz
  h4 : Holds w b4 24 (tmc 0 0 0 ⟨#[]⟩ none 0 0)
  h5 : Holds w b5 24 c5
  mm : Mod [q, g] w0 w
  n4 : w0.heap.size ≤ b4
  n5 : w0.heap.size ≤ b5
  n45 : b4 ≠ b5
  oq : q < w0.heap.size
  og : g < w0.heap.size
  ob : b < w0.heap.size
section
variable {w0 w v : World} {q g b b4 b5 : Nat} {c5 : List Value} {l l' : List UInt8} {sz : Int}
theorem TSt.read (h : TSt w0 w q g b b4 b5 c5 l sz) (hr : RdT v q g b l' 0 sz) (m : Mod [g] w v) : TSt w0 v q g b b4 b5 c5 l' sz :=
  ⟨hr, h.h4.keep m (by have := h.n4; have := h.og; simp; omega), h.h5.keep m (by have := h.n5; have := h.og; simp; omega), h.mm.trans m (fun i _ hi => by simp at hi ⊢; exact .inr hi), h.n4, h.n5, h.n45, h.oq, h.og, h.ob⟩
theorem TSt.still (h : TSt w0 w q g b b4 b5 c5 l sz) (m : Mod [] w v) : TSt w0 v q g b b4 b5 c5 l sz :=
  ⟨h.rd.keep m (by simp) (by simp) (by simp), h.h4.keep m (by simp), h.h5.keep m (by simp), h.mm.then m, h.n4, h.n5, h.n45, h.oq, h.og, h.ob⟩
theorem TSt.put (h : TSt w0 w q g b b4 b5 c5 l sz) (j : Nat) (V : Value) : TSt w0 (w.setCell ⟨b5, j, none⟩ V) q g b b4 b5 (c5.set j V) l sz := by
  have m : Mod [b5] w (w.setCell ⟨b5, j, none⟩ V) := Mod.setCell (ms := [b5]) w (by simp) V
  have h5 := h.n5
  refine ⟨h.rd.keep m (by have := h.oq; simp; omega) (by have := h.og; simp; omega) (by have := h.ob; simp; omega), h.h4.keep m (by simpa using h.n45), h.h5.set j V, h.mm.trans m ?_, h.n4, h.n5, h.n45, h.oq, h.og, h.ob⟩
  intro i hi hm
  simp at hm
  omega
theorem TSt.bump (h : TSt w0 w q g b b4 b5 c5 l sz) (z : Int) : TSt w0 (w.setCell ⟨q, 1, none⟩ (.int .i64 z)) q g b b4 b5 c5 l z := by
  have m : Mod [q] w (w.setCell ⟨q, 1, none⟩ (.int .i64 z)) := Mod.setCell (ms := [q]) w (by simp) _
  have hq := h.rd.hq.set 1 (.int .i64 z)
  refine ⟨⟨hq, h.rd.hr.keep m (by simpa using h.rd.ng) (by simpa using h.rd.nb), h.rd.nb, h.rd.ng⟩, h.h4.keep m (by have := h.n4; have := h.oq; simp; omega), h.h5.keep m (by have := h.n5; have := h.oq; simp; omega), h.mm.trans m (fun i _ hi => by simp at hi ⊢; exact .inl hi), h.n4, h.n5, h.n45, h.oq, h.og, h.ob⟩
theorem wpList_store1 {ops : Array Oper} {rest : List Oper} {o : Oper} {a : Act} {Q : Exit → Act → World → Prop} (hgd : o.guard = none) (ty : TypeId) (x y : Operand) (ho : o.op = .store ty x y) (hdst : o.dst = none) (A : Addr) (hx : a.eval x = .pointer (some A)) (V old : Value) (hy : a.eval y = V) (h1 : V.oneCell' = true)
    (hs : (Tryd.prog.info? ty).map (·.size) = some 1) (hc : w.cell? A = some old) (hf : w.frozen? A = false) (h : wpList Tryd.prog ops Q rest a (w.setCell A V)) : wpList Tryd.prog ops Q (o :: rest) a w := by
  cases hq : Tryd.prog.info? ty with
  | none => rw [hq] at hs; cases hs
  | some it =>
    have hit : it.size = 1 := by rw [hq] at hs; simpa using hs
    have hr := exec_store1 (P := Tryd.prog) ho hx hy h1 hq hit hc hf
    refine wpList_plain hgd fun K hK => ?_
    unfold Oper.wp
    rw [hr]
    refine hK _ _ ?_
    show wpList Tryd.prog ops Q rest (a.put o.dst undef) _
    rw [hdst]
    exact h
theorem wpList_put5 {ops : Array Oper} {rest : List Oper} {o : Oper} {a : Act} {Q : Exit → Act → World → Prop} (st : TSt w0 w q g b b4 b5 c5 l sz) (hgd : o.guard = none) (ty : TypeId) (x y : Operand) (ho : o.op = .store ty x y) (hdst : o.dst = none) (j : Nat) (hx : a.eval x = .pointer (some ⟨b5, j, none⟩)) (V : Value) (hy : a.eval y = V) (h1 : V.oneCell' = true)
    (hs : (Tryd.prog.info? ty).map (·.size) = some 1) (hj : j < c5.length) (h : ∀ v, TSt w0 v q g b b4 b5 (c5.set j V) l sz → wpList Tryd.prog ops Q rest a v) : wpList Tryd.prog ops Q (o :: rest) a w :=
  wpList_store1 hgd ty x y ho hdst ⟨b5, j, none⟩ hx V (c5[j]) hy h1 hs (by rw [st.h5.cell, List.getElem?_eq_getElem hj]) (st.h5.free j) (h _ (st.put j V))
theorem wpList_bump {ops : Array Oper} {rest : List Oper} {o : Oper} {a : Act} {Q : Exit → Act → World → Prop} (st : TSt w0 w q g b b4 b5 c5 l sz) (hgd : o.guard = none) (x y : Operand) (ho : o.op = .store 3 x y) (hdst : o.dst = none) (hx : a.eval x = .pointer (some ⟨q, 1, none⟩)) (z : Int) (hy : a.eval y = .int .i64 z)
    (h : ∀ v, TSt w0 v q g b b4 b5 c5 l z → wpList Tryd.prog ops Q rest a v) : wpList Tryd.prog ops Q (o :: rest) a w :=
  wpList_store1 hgd 3 x y ho hdst ⟨q, 1, none⟩ hx (.int .i64 z) (.int .i64 sz) hy rfl (by kernel_rfl) (by rw [st.rd.hq.cell]; rfl) (st.rd.hq.free 1) (h _ (st.bump z))
end
theorem sz9 : (Tryd.prog.info? 9).map (·.size) = some 1 := by kernel_rfl
theorem sz3 : (Tryd.prog.info? 3).map (·.size) = some 1 := by kernel_rfl
theorem sz22 : (Tryd.prog.info? 22).map (·.size) = some 1 := by kernel_rfl
theorem tmc_set1 (k u n : Int) (s : ByteArray) (A : Option Addr) (l c : Nat) (z : Int) : (tmc k u n s A l c).set 1 (.int .i64 z) = tmc k z n s A l c := rfl
theorem tmc_set2 (k u n : Int) (s : ByteArray) (A : Option Addr) (l c : Nat) (z : Int) : (tmc k u n s A l c).set 2 (.int .i64 z) = tmc k u z s A l c := rfl
theorem tmc_set3 (k u n : Int) (s : ByteArray) (A : Option Addr) (l c : Nat) (z : ByteArray) : (tmc k u n s A l c).set 3 (.string z) = tmc k u n z A l c := rfl
theorem tmc_set4 (k u n : Int) (s : ByteArray) (A B : Option Addr) (l c l' c' : Nat) : (tmc k u n s A l c).set 4 (.slice B l' c') = tmc k u n s B l' c' := rfl
theorem tmc_lt {k u n : Int} {s : ByteArray} {A : Option Addr} {l c j : Nat} (h : j < 5) : j < (tmc k u n s A l c).length := h
/-- Five cells. -/
def C5 := {v : List Value // v.length = 5 ∧ ∀ x ∈ v, x.oneCell' = true}
abbrev c5v (x : C5) : List Value := x.1
theorem c5_len (x : C5) : (c5v x).length = 5 := x.2.1
theorem c5_one (x : C5) : ∀ v ∈ c5v x, v.oneCell' = true := x.2.2
namespace Tm
theorem decs_snoc (f : List UInt8 → Nat → Except Int (Tm × List UInt8 × Nat)) : ∀ (n : Nat) (l : List UInt8) (s : Nat), decs f (n + 1) l s = match decs f n l s with
    | .error e => .error e
    | .ok (ts, l', s') => match f l' s' with
      | .error e => .error e
      | .ok (t, l'', s'') => .ok (ts ++ [t], l'', s'')
  | 0, l, s => by
    simp only [decs]
    cases h : f l s with
    | error e => rfl
    | ok p => obtain ⟨t, l', s'⟩ := p; rfl
  | n + 1, l, s => by
    rw [decs]
    cases h : f l s with
    | error e => simp only [decs, h]
    | ok p =>
      obtain ⟨t, l', s'⟩ := p
      simp only []
      rw [decs_snoc f n l' s']
      have e : decs f (n + 1) l s = (match decs f n l' s' with | .error e => .error e | .ok (ts, l'', s'') => .ok (t :: ts, l'', s'')) := by
        rw [decs]; simp only [h]; cases decs f n l' s' <;> rfl
      rw [e]
      cases h2 : decs f n l' s' with
      | error e => rfl
      | ok p2 =>
        obtain ⟨ts, l2, s2⟩ := p2
        simp only []
        cases h3 : f l2 s2 with
        | error e => rfl
        | ok p3 => obtain ⟨t3, l3, s3⟩ := p3; rfl
theorem decs_err (f : List UInt8 → Nat → Except Int (Tm × List UInt8 × Nat)) {n : Nat} {l : List UInt8} {s : Nat} {e : Int} (h : decs f n l s = .error e) : ∀ k, decs f (n + k) l s = .error e
  | 0 => h
  | k + 1 => by
    rw [← Nat.add_assoc, decs_snoc, decs_err f h k]
theorem decs_len (f : List UInt8 → Nat → Except Int (Tm × List UInt8 × Nat)) : ∀ (n : Nat) (l : List UInt8) (s : Nat) (ts : List Tm) (l' : List UInt8) (s' : Nat), decs f n l s = .ok (ts, l', s') → ts.length = n
  | 0, l, s, ts, l', s', h => by simp [decs] at h; rw [h.1]; rfl
  | n + 1, l, s, ts, l', s', h => by
    rw [decs] at h
    split at h
    · cases h
    split at h
    · cases h
    rename_i h2
    have := decs_len f n _ _ _ _ _ h2
    simp at h
    rw [← h.1]
    simp [this]
end Tm
/-- What term hands back of what dec says. -/
def TermP (w : World) (q g b : Nat) (r : Except Int (Tm × List UInt8 × Nat)) (e : Ending) (w' : World) : Prop := match r with
  | .error er => e = boom er ∧ Mod [q, g] w w'
  | .ok (t, l, s) => ∃ cs, e = .returned (.agg cs.toArray) ∧ TIs w' (Btw w.heap.size w'.heap.size) t cs ∧ RdT w' q g b l 0 s ∧ Mod [q, g] w w'
def TermAll (m : Nat) : Prop := ∀ (q g b : Nat) (l : List UInt8) (s : Nat) (w : World), RdT w q g b l 0 s → Glob w → 0 ≠ q → 0 ≠ g → s ≤ 1200 →
  Calls Tryd.prog 90 #[.pointer (some ⟨q, 0, none⟩), .int .i64 (61 - (m : Int))] w (TermP w q g b (Tm.dec m l s))
end Go.Proofs.YtapafniekmfkaaaDoor
