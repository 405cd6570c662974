/-
  Words of mine for rows of cells: what lies behind an address, values of many cells loaded, stored, laid and built.
-/
import Derived.Test.YtchanildogjhgaaDoorProg
import Derived.Test.YtchanildogjhgaaDoorMem
import Derived.Deep.WholeRow
import Derived.ChangeKeysEq
namespace Go.Proofs.YtchanildogjhgaaDoor
open Go.RowKit

/-- From address A on (if there is one) lie these cells. -/
def Cells (w : World) (A : Option Addr) (cs : List Value) : Prop :=
  ∀ i (h : i < cs.length), ∃ g o, A = some ⟨g, o, none⟩ ∧ w.cell? ⟨g, o + i, none⟩ = some cs[i]
theorem Cells.nil (w : World) (A : Option Addr) : Cells w A [] := fun _ h => absurd h (by simp)
theorem Cells.keep {w v : World} {A : Option Addr} {cs : List Value} {ms : List Nat} (h : Cells w A cs) (m : Mod ms w v) (hn : ∀ a, A = some a → a.block ∉ ms) : Cells v A cs := by
  intro i hi
  obtain ⟨g, o, rfl, hc⟩ := h i hi
  exact ⟨g, o, rfl, m.cell (p := ⟨g, o + i, none⟩) (hn ⟨g, o, none⟩ rfl) hc⟩
theorem Cells.at {w : World} {g o : Nat} {cs : List Value} (h : Cells w (some ⟨g, o, none⟩) cs) (i : Nat) (hi : i < cs.length) : w.cell? ⟨g, o + i, none⟩ = some cs[i] := by
  obtain ⟨g', o', e, hc⟩ := h i hi
  injection e with e
  injection e with e1 e2
  subst e1 e2
  exact hc
theorem Cells.of_holds {w : World} {g : Nat} {t : TypeId} {cs : List Value} (h : Holds w g t cs) : Cells w (some ⟨g, 0, none⟩) cs := by
  intro i hi
  refine ⟨g, 0, rfl, ?_⟩
  rw [h.cell]; simp [hi]
theorem Cells.of_cells {w : World} {g o : Nat} {cs : List Value} (h : ∀ i (hi : i < cs.length), w.cell? ⟨g, o + i, none⟩ = some cs[i]) : Cells w (some ⟨g, o, none⟩) cs := fun i hi => ⟨g, o, rfl, h i hi⟩
/-- A part of what lies there. -/
theorem Cells.part {w : World} {g o : Nat} {cs ds : List Value} (h : Cells w (some ⟨g, o, none⟩) cs) (k : Nat) (hp : ∀ i (hi : i < ds.length), cs[k + i]? = some ds[i]) : Cells w (some ⟨g, o + k, none⟩) ds := by
  refine Cells.of_cells fun i hi => ?_
  have h1 := hp i hi
  have hk : k + i < cs.length := by
    rcases Nat.lt_or_ge (k + i) cs.length with hh | hh
    · exact hh
    · rw [List.getElem?_eq_none hh] at h1; cases h1
  have := h.at (k + i) hk
  rw [List.getElem?_eq_getElem hk] at h1
  rw [← Nat.add_assoc] at this
  rw [this]
  exact h1
theorem Cells.first {w : World} {A : Option Addr} {cs : List Value} (h : Cells w A cs) (hp : 0 < cs.length) : ∃ ad, A = some ad ∧ ∀ j v, cs[j]? = some v → w.cell? (ad.add j) = some v := by
  obtain ⟨g, o, rfl, _⟩ := h 0 hp
  refine ⟨_, rfl, fun j v hv => ?_⟩
  have hj : j < cs.length := by
    rcases Nat.lt_or_ge j cs.length with hj | hj
    · exact hj
    · simp [List.getElem?_eq_none hj] at hv
  have := h.at j hj
  rw [List.getElem?_eq_getElem hj] at hv
  rw [hv] at this
  unfold Addr.add
  split
  · rename_i h0; subst h0; simpa using this
  · exact this
theorem add_plain (g o j : Nat) : (⟨g, o, none⟩ : Addr).add j = ⟨g, o + j, none⟩ := by
  unfold Addr.add
  split
  · rename_i h; subst h; rfl
  · rfl

/-- Parts of one size behind one another. -/
theorem flat_at {α : Type} (f : α → List Value) (n : Nat) (hf : ∀ x, (f x).length = n) : ∀ (l : List α) (k i : Nat) (hk : k < l.length), i < n → (l.flatMap f)[k * n + i]? = (f l[k])[i]?
  | x :: l, 0, i, _, hi => by simp [List.getElem?_append, hf, hi]
  | x :: l, k + 1, i, hk, hi => by
    have := flat_at f n hf l k i (by simpa using hk) hi
    rw [List.flatMap_cons, List.getElem?_append_right (by rw [hf, Nat.add_mul]; omega), hf]
    rw [show (k + 1) * n + i - n = k * n + i by rw [Nat.add_mul]; omega, this]
    simp
theorem flat_length {α : Type} (f : α → List Value) (n : Nat) (hf : ∀ x, (f x).length = n) (l : List α) : (l.flatMap f).length = l.length * n := by
  induction l with
  | nil => simp
  | cons x l ih => simp [hf, ih, Nat.add_mul]; omega
/-- The k-th of them. -/
theorem Cells.elem {α : Type} {w : World} {g o : Nat} (f : α → List Value) (n : Nat) (hf : ∀ x, (f x).length = n) {l : List α} (h : Cells w (some ⟨g, o, none⟩) (l.flatMap f)) (k : Nat) (hk : k < l.length) : Cells w (some ⟨g, o + k * n, none⟩) (f l[k]) :=
  h.part (k * n) fun i hi => by
    rw [flat_at f n hf l k i hk (by rw [hf] at hi; exact hi), List.getElem?_eq_getElem hi]
theorem Cells.elem' {α : Type} {w : World} {A : Option Addr} (f : α → List Value) (n : Nat) (hn : 0 < n) (hf : ∀ x, (f x).length = n) {l : List α} (h : Cells w A (l.flatMap f)) (k : Nat) (hk : k < l.length) : ∃ g o, A = some ⟨g, o, none⟩ ∧ Cells w (some ⟨g, o + k * n, none⟩) (f l[k]) := by
  have hlen := flat_length f n hf l
  obtain ⟨g, o, rfl, _⟩ := h 0 (by rw [hlen]; exact Nat.mul_pos (by omega) hn)
  exact ⟨g, o, rfl, h.elem f n hf k hk⟩

section laws
variable {P : Program} {w : World} {ops : Array Oper} {rest : List Oper} {o : Oper} {a : Act} {Q : Exit → Act → World → Prop}

theorem run_loads {g f : Nat} {ty : TypeId} {cs : List Value} {d : TypeDesc} (h : Cells w (some ⟨g, f, none⟩) cs)
    (hu : P.underlying ty = some d) (hd : (match d with | .struct _ | .array _ _ => true | _ => false) = true) (hi : (P.info? ty).map (·.size) = some cs.length) :
    (loadVar ty ⟨g, f, none⟩).run P w = .ok (.agg cs.toArray) w := by
  have hl : (loadCells ⟨g, f, none⟩ cs.length).run P w = .ok cs.toArray w :=
    run_loadCells_list (P := P) w ⟨g, f, none⟩ cs (fun j v hv => by
      have hj : j < cs.length := by
        rcases Nat.lt_or_ge j cs.length with hj | hj
        · exact hj
        · simp [List.getElem?_eq_none hj] at hv
      rw [add_plain, h.at j hj]
      rw [List.getElem?_eq_getElem hj] at hv
      exact hv)
  cases hq : P.info? ty with
  | none => simp [hq] at hi
  | some i =>
    have hs : i.size = cs.length := by simpa [hq] using hi
    have hagg : (isAgg ty).run P w = .ok true w := by
      unfold isAgg
      rw [Sem.run_bind, run_underlying hu w]
      cases d <;> simp_all
    simp [loadVar, Sem.run_bind, hagg, sizeOf, typeInfo, hq, hs, hl]

/-- A value of many cells is loaded. -/
theorem wpList_loads (hgd : o.guard = none) (ty : TypeId) (x : Operand) (ho : o.op = .load ty x) (g f : Nat) (cs : List Value) (hx : a.eval x = .pointer (some ⟨g, f, none⟩)) (hc : Cells w (some ⟨g, f, none⟩) cs)
    (d : TypeDesc) (hu : P.underlying ty = some d) (hd : (match d with | .struct _ | .array _ _ => true | _ => false) = true) (hi : (P.info? ty).map (·.size) = some cs.length)
    (V : Value) (hV : V = .agg cs.toArray)
    (h : wpList P ops Q rest (a.put o.dst V) w) : wpList P ops Q (o :: rest) a w := by
  subst hV
  refine wpList_plain hgd fun K hK => ?_
  unfold Oper.wp execOp
  simp only [ho, hx, Instr.loadAt, Instr.sureAddr, Sem.run_bind, Sem.run_pure, Result.andThen_ok, run_loads hc hu hd hi]
  exact hK _ _ h

theorem run_stores {g f : Nat} {t ty : TypeId} {old cs : List Value} (hh : Holds w g t old) (hf : f + cs.length ≤ old.length) (h1 : ∀ v ∈ cs, v.oneCell' = true) (hi : (P.info? ty).map (·.size) = some cs.length) :
    ∃ v, (storeVar ty ⟨g, f, none⟩ (.agg cs.toArray)).run P w = .ok () v ∧ Holds v g t (old.take f ++ cs ++ old.drop (f + cs.length)) ∧ Mod [g] w v ∧ v.heap.size = w.heap.size := by
  have hst := run_storeCells_at (P := P) g f t cs 0 old.toArray w hh (by simpa using hf) h1
  simp only [Nat.add_zero] at hst
  refine ⟨w.setRow g (old.take f ++ cs ++ old.drop (f + cs.length)).toArray, ?_, setRow_heap w g old.toArray (old.take f ++ cs ++ old.drop (f + cs.length)).toArray t (0, 0) hh,
    ⟨rfl, rfl, rfl, by simp [World.setRow], fun k _ hk => setRow_other w g k _ (by simpa using hk)⟩, by simp [World.setRow]⟩
  · cases hq : P.info? ty with
    | none => simp [hq] at hi
    | some i =>
      have hs : cs.length = i.size := by simpa [hq] using hi.symm
      rw [hs] at hst ⊢
      simpa [storeVar, sizeOf, typeInfo, hq, Value.cells, hs] using hst

/-- A value of many cells is stored. -/
theorem wpList_stores (hgd : o.guard = none) (ty : TypeId) (x y : Operand) (ho : o.op = .store ty x y) (hdst : o.dst = none) (g f : Nat) (cs : List Value) (hx : a.eval x = .pointer (some ⟨g, f, none⟩)) (V : Value) (hy : a.eval y = V) (hV : V = .agg cs.toArray)
    (t : TypeId) (old : List Value) (hh : Holds w g t old) (hf : f + cs.length ≤ old.length) (h1 : ∀ v ∈ cs, v.oneCell' = true) (hi : (P.info? ty).map (·.size) = some cs.length)
    (h : ∀ v, Holds v g t (old.take f ++ cs ++ old.drop (f + cs.length)) → Mod [g] w v → v.heap.size = w.heap.size → wpList P ops Q rest a v) : wpList P ops Q (o :: rest) a w := by
  subst hV
  obtain ⟨v, hrun, h2, h3, h4⟩ := run_stores (P := P) (ty := ty) hh hf h1 hi
  refine wpList_plain hgd fun K hK => ?_
  unfold Oper.wp execOp
  simp only [ho, hx, hy, Instr.storeAt, Instr.sureAddr, Sem.run_bind, Sem.run_pure, Result.andThen_ok, hrun]
  refine hK _ _ ?_
  show wpList P ops Q rest (a.put o.dst undef) _
  rw [hdst]
  exact h v h2 h3 h4
/-- The same, the whole block. -/
theorem wpList_storesAll (hgd : o.guard = none) (ty : TypeId) (x y : Operand) (ho : o.op = .store ty x y) (hdst : o.dst = none) (g : Nat) (cs : List Value) (hx : a.eval x = .pointer (some ⟨g, 0, none⟩)) (V : Value) (hy : a.eval y = V) (hV : V = .agg cs.toArray)
    (t : TypeId) (old : List Value) (hh : Holds w g t old) (hf : cs.length = old.length) (h1 : ∀ v ∈ cs, v.oneCell' = true) (hi : (P.info? ty).map (·.size) = some cs.length)
    (h : ∀ v, Holds v g t cs → Mod [g] w v → v.heap.size = w.heap.size → wpList P ops Q rest a v) : wpList P ops Q (o :: rest) a w :=
  wpList_stores hgd ty x y ho hdst g 0 cs hx V hy hV t old hh (by omega) h1 hi (fun v hv => h v (by simpa [hf] using hv))

/-- A variable, its type's zero value in it. -/
theorem wpList_allocs (hgd : o.guard = none) (ty : TypeId) (ho : o.op = .alloc ty) (cs : List Value) (hz : ∀ w, (zeroValue ty).run P w = .ok (.agg cs.toArray) w)
    (h : ∀ v, Holds v w.heap.size ty cs → Mod [] w v → v.heap.size = w.heap.size + 1 → wpList P ops Q rest (a.put o.dst (.pointer (some ⟨w.heap.size, 0, none⟩))) v) : wpList P ops Q (o :: rest) a w := by
  refine wpList_plain hgd fun K hK => ?_
  unfold Oper.wp execOp
  have hrun : (Instr.alloc ty true (.tuple #[])).run P w = .ok (.pointer (some ⟨w.heap.size, 0, none⟩)) (w.alloc (.cells cs.toArray ty)) := by
    simp [Instr.alloc, hz, newVar, newRow, Value.cells, go_sem]
  simp only [ho, Sem.run_bind, hrun, Result.andThen]
  exact hK _ _ (h _ (Holds.made w ty cs) (Mod.alloc [] w _) (by simp))
/-- A variable with a value in it. -/
theorem wpList_boxes (hgd : o.guard = none) (ty : TypeId) (x : Operand) (ho : o.op = .box ty x) (V : Value) (hx : a.eval x = V) (cs : List Value) (hV : V.cells = cs.toArray)
    (h : ∀ v, Holds v w.heap.size ty cs → Mod [] w v → v.heap.size = w.heap.size + 1 → wpList P ops Q rest (a.put o.dst (.pointer (some ⟨w.heap.size, 0, none⟩))) v) : wpList P ops Q (o :: rest) a w := by
  refine wpList_plain hgd fun K hK => ?_
  unfold Oper.wp execOp
  have hrun : (Instr.box ty V).run P w = .ok (.pointer (some ⟨w.heap.size, 0, none⟩)) (w.alloc (.cells cs.toArray ty)) := by
    have hn : newVar ty V = newRow ty cs.toArray := by unfold newVar; rw [hV]
    unfold Instr.box
    rw [hn]
    simp [newRow, go_sem]
  simp only [ho, Sem.run_bind, hx, hrun, Result.andThen]
  exact hK _ _ (h _ (Holds.made w ty cs) (Mod.alloc [] w _) (by simp))

theorem fold_set (cs : List Value) : ∀ (off : Nat) (z : List Value), off + cs.length ≤ z.length →
    (cs.toArray.zipIdx.foldl (fun (x : Array Value) (p : Value × Nat) => x.setIfInBounds (off + p.2) p.1) z.toArray) = (z.take off ++ cs ++ z.drop (off + cs.length)).toArray := by
  have key : ∀ (cs : List Value) (off k : Nat) (z : List Value), off + k + cs.length ≤ z.length →
      ((cs.zipIdx k).foldl (fun (x : Array Value) (p : Value × Nat) => x.setIfInBounds (off + p.2) p.1) z.toArray) = (z.take (off + k) ++ cs ++ z.drop (off + k + cs.length)).toArray := by
    intro cs
    induction cs with
    | nil => intro off k z h; simp
    | cons c cs ih =>
      intro off k z h
      simp only [List.length_cons] at h
      rw [List.zipIdx_cons, List.foldl_cons]
      have e : (z.toArray.setIfInBounds (off + k) c) = (z.set (off + k) c).toArray := by simp
      show List.foldl _ (z.toArray.setIfInBounds (off + k) c) _ = _
      rw [e, ih off (k + 1) (z.set (off + k) c) (by simp; omega)]
      congr 1
      apply List.ext_getElem?
      intro j
      simp only [List.getElem?_append, List.length_take, List.length_append, List.length_set, List.getElem?_take, List.getElem?_drop, List.getElem?_set, List.length_cons]
      have h1 : min (off + (k + 1)) z.length = off + k + 1 := by omega
      have h2 : min (off + k) z.length = off + k := by omega
      rw [h1, h2]
      by_cases ha : j < off + k
      · have e1 : j < off + k + 1 + cs.length := by omega
        have e2 : j < off + k + 1 := by omega
        have e3 : j < off + k + (cs.length + 1) := by omega
        have e4 : ¬ off + k = j := by omega
        simp [e1, e2, e3, e4, ha] <;> (intro hh; omega)
      · by_cases hb : j = off + k
        · subst hb
          have e1 : off + k < off + k + 1 + cs.length := by omega
          have e3 : off + k < off + k + (cs.length + 1) := by omega
          have e5 : off + k < z.length := by omega
          simp [e1, e3, e5] <;> (intro hh; omega)
        · by_cases hc : j < off + k + 1 + cs.length
          · have e2 : ¬ j < off + k + 1 := by omega
            have e3 : j < off + k + (cs.length + 1) := by omega
            have e6 : j - (off + k) = (j - (off + k + 1)) + 1 := by omega
            simp [hc, e2, e3, ha, e6] <;> (intro hh; omega)
          · have e3 : ¬ j < off + k + (cs.length + 1) := by omega
            have e7 : off + k + 1 + cs.length + (j - (off + k + 1 + cs.length)) = j := by omega
            have e8 : off + (k + 1) + cs.length + (j - (off + k + 1 + cs.length)) = j := by omega
            have e9 : off + k + (cs.length + 1) + (j - (off + k + (cs.length + 1))) = j := by omega
            simp only [hc, e3, if_false, e8, e9]
            rw [if_neg (by omega)]
  intro off z h
  have := key cs off 0 z (by omega)
  simp only [Nat.add_zero] at this
  rw [← this]
  simp
end laws

end Go.Proofs.YtchanildogjhgaaDoor
