/-
  first: a term that is read, or the number of what went wrong. My own work.
-/
import Derived.Test.YtchanildogjhgaaDoorTz
namespace Go.Proofs.YtchanildogjhgaaDoor
open Go.RowKit Go.Shelf
set_option linter.unusedVariables false
set_option linter.unusedSimpArgs false
theorem wpList_alloc1x {P : Program} {w : World} {ops : Array Oper} {rest : List Oper} {o : Oper} {a : Act} {Q : Exit → Act → World → Prop} (hgd : o.guard = none) (ty : TypeId) (ho : o.op = .alloc ty) (V : Value) (h1 : V.oneCell' = true) (hz : ∀ w, (zeroValue ty).run P w = .ok V w)
    (h : ∀ v, Holds v w.heap.size ty [V] → Mod [] w v → v.heap.size = w.heap.size + 1 → wpList P ops Q rest (a.put o.dst (.pointer (some ⟨w.heap.size, 0, none⟩))) v) : wpList P ops Q (o :: rest) a w := by
  refine wpList_plain hgd fun K hK => ?_
  have hrun : (Instr.alloc ty true (.tuple #[])).run P w = .ok (.pointer (some ⟨w.heap.size, 0, none⟩)) (w.alloc (.cells #[V] ty)) := by
    simp [Instr.alloc, hz, newVar, newRow, go_sem]
    split
    · simp [Value.oneCell'] at h1
    · rfl
  unfold Oper.wp execOp
  simp only [ho, Sem.run_bind, hrun, Result.andThen]
  exact hK _ _ (h _ (Holds.made w ty [V]) (Mod.alloc [] w _) (by simp))
theorem zero28 (w : World) : (zeroValue 43).run Tryd.prog w = .ok (.int .i64 0) w := by
  unfold zeroValue
  obtain ⟨i, h1, h2⟩ : ∃ i, Tryd.prog.info? 43 = some i ∧ i.zero = some (.int .i64 0) := by
    have h : (Tryd.prog.info? 43).map (·.zero) = some (some (.int .i64 0)) := by kernel_rfl
    cases hq : Tryd.prog.info? 43 with
    | none => rw [hq] at h; cases h
    | some i => rw [hq] at h; exact ⟨i, rfl, by simpa using h⟩
  simp [Sem.run_bind, typeInfo, h1, h2]
theorem results_first {fn : Func} {p p' : Tmp} (h : fn.results = #[.cell p 24, .cell p' 43]) (tmps : Array Value) (w : World) (g g' : Nat) (cs : List Value) (V : Value) (hp : tmps.getD p undef = .pointer (some ⟨g, 0, none⟩)) (hp' : tmps.getD p' undef = .pointer (some ⟨g', 0, none⟩)) (hc : Holds w g 24 cs) (h5 : cs.length = 5) (hc' : Holds w g' 43 [V]) :
    (results fn tmps).run Tryd.prog w = .ok (.tuple #[.agg cs.toArray, V]) w := by
  have e1 : tmps[p]?.getD undef = .pointer (some ⟨g, 0, none⟩) := by simpa using hp
  have e2 : tmps[p']?.getD undef = .pointer (some ⟨g', 0, none⟩) := by simpa using hp'
  have r1 := run_loads (Cells.of_holds hc) Tryd.underlying24 rfl (size24' h5)
  have r2 := run_load1 Tryd.underlying43 (by rfl) (show w.cell? ⟨g', 0, none⟩ = some V from hc'.cell 0)
  simp [results, h, e1, e2, asAddr, r1, r2, Sem.run_bind, Result.andThen]
/-- What first hands back of what dec says. -/
def FirstP (w : World) (q g b : Nat) (r : Except Int (Tm × List UInt8 × Nat)) (e : Ending) (w' : World) : Prop := match r with
  | .error er => e = .returned (.tuple #[.agg (tmc 0 0 0 ⟨#[]⟩ none 0 0).toArray, .int .i64 er]) ∧ Mod [q, g] w w'
  | .ok (t, l, s) => ∃ cs, e = .returned (.tuple #[.agg cs.toArray, .int .i64 0]) ∧ TIs w' (Btw w.heap.size w'.heap.size) t cs ∧ RdT w' q g b l 0 s ∧ Mod [q, g] w w'
set_option maxRecDepth 1000000 in
set_option maxHeartbeats 4000000 in
theorem first_err (q g b : Nat) (l : List UInt8) (er : Int) (w : World) (h : RdT w q g b l 0 0) (G : Glob w) (h0q : 0 ≠ q) (h0g : 0 ≠ g) (HD : Tm.dec 60 l 0 = .error er) :
    Calls Tryd.prog 77 #[.pointer (some ⟨q, 0, none⟩)] w (FirstP w q g b (.error er)) := by
  have hmf : ∀ (fn : Fn) (first cap : Array Value) (w : World), (Instr.makeFunc fn first cap).run Tryd.prog w = .ok (.func fn first cap) w := fun _ _ _ _ => rfl
  have hql : q < w.heap.size ∧ g < w.heap.size ∧ b < w.heap.size := h.lt
  have IH : ∀ v, Mod [] w v → Calls Tryd.prog 98 #[.pointer (some ⟨q, 0, none⟩), .int .i64 1] v (TermP v q g b (Tm.dec 60 l 0)) := fun v m => by
    have := term_all 60 (Nat.le_refl _) q g b l 0 v (h.keep m (by simp) (by simp) (by simp)) (G.mod m (by simp)) h0q h0g (by omega)
    simpa using this
  rw [HD] at IH
  clear HD
  have HL := Lib.hid hql
  have HR := Lib.hid h
  clear hql h G
  go_enter_defers Tryd.func77, Tryd.ntmps77
  go_wp2_with (first
    | (with_reducible refine wpList_allocs (o := ⟨some 2, .alloc 24, _, _, _, _⟩) rfl 24 rfl _ zero24 ?_; intro y2 hy2 my2 zy2
       obtain ⟨b2, hq2⟩ : ∃ b, b = w.heap.size := ⟨_, rfl⟩
       rw [← hq2] at hy2 ⊢
       have HB2 := Lib.hid (And.intro hq2 zy2)
       clear zy2 hq2)
    | (refine wpList_alloc1x (o := ⟨some 3, .alloc 43, _, _, _, _⟩) rfl 43 rfl (.int .i64 0) rfl zero28 ?_; intro y3 hy3 my3 zy3
       obtain ⟨b3, hq3⟩ : ∃ b, b = y2.heap.size := ⟨_, rfl⟩
       rw [← hq3] at hy3 ⊢
       have n23 : ¬ b2 = b3 := by have := hy2.lt; omega
       have HB3 := Lib.hid (And.intro hq3 zy3)
       replace hy2 := hy2.keep my3 (by simp)
       have mm := my2.then my3
       clear zy3 hq3 my2 my3)
    | (go_at_call 98; refine (IH y3 mm).mono ?_
       rintro e w5 ⟨rfl, m5⟩))
  have hn2 : b2 ∉ [q, g] := by have := HL.out; have := HB2.out; simp; omega
  have hn3 : b3 ∉ [q, g] := by have := HL.out; have := HB2.out; have := HB3.out; simp; omega
  have hy2' := hy2.keep m5 hn2
  have hy3' := hy3.keep m5 hn3
  refine leaves_cons (f := 97) (args := #[.pointer (some ⟨b2, 0, none⟩), .pointer (some ⟨b3, 0, none⟩)]) (by simp) (by simp [go_sem]) ?_
  refine (catch_p b2 b3 er [] (.int .i64 0) w5 hy2' hy3' n23).mono ?_
  rintro e u' w6 ⟨rfl, rfl, k2, k3, m6⟩
  refine ⟨_, results_first rfl _ _ b2 b3 _ _ rfl rfl k2 rfl k3, rfl, ?_⟩
  refine (mm.pre m5).trans m6 (fun i hi hm => ?_)
  have := HB2.out; have := HB3.out
  simp at hm
  omega
set_option maxRecDepth 1000000 in
set_option maxHeartbeats 4000000 in
theorem first_ok (q g b : Nat) (l l' : List UInt8) (t : Tm) (s : Nat) (w : World) (h : RdT w q g b l 0 0) (G : Glob w) (h0q : 0 ≠ q) (h0g : 0 ≠ g) (HD : Tm.dec 60 l 0 = .ok (t, l', s)) :
    Calls Tryd.prog 77 #[.pointer (some ⟨q, 0, none⟩)] w (FirstP w q g b (.ok (t, l', s))) := by
  have hmf : ∀ (fn : Fn) (first cap : Array Value) (w : World), (Instr.makeFunc fn first cap).run Tryd.prog w = .ok (.func fn first cap) w := fun _ _ _ _ => rfl
  have hql : q < w.heap.size ∧ g < w.heap.size ∧ b < w.heap.size := h.lt
  have IH : ∀ v, Mod [] w v → Calls Tryd.prog 98 #[.pointer (some ⟨q, 0, none⟩), .int .i64 1] v (TermP v q g b (Tm.dec 60 l 0)) := fun v m => by
    have := term_all 60 (Nat.le_refl _) q g b l 0 v (h.keep m (by simp) (by simp) (by simp)) (G.mod m (by simp)) h0q h0g (by omega)
    simpa using this
  rw [HD] at IH
  clear HD
  have HL := Lib.hid hql
  have HR := Lib.hid h
  clear hql h G
  go_enter_defers Tryd.func77, Tryd.ntmps77
  go_wp2_with (first
    | (with_reducible refine wpList_allocs (o := ⟨some 2, .alloc 24, _, _, _, _⟩) rfl 24 rfl _ zero24 ?_; intro y2 hy2 my2 zy2
       obtain ⟨b2, hq2⟩ : ∃ b, b = w.heap.size := ⟨_, rfl⟩
       rw [← hq2] at hy2 ⊢
       have HB2 := Lib.hid (And.intro hq2 zy2)
       clear zy2 hq2)
    | (refine wpList_alloc1x (o := ⟨some 3, .alloc 43, _, _, _, _⟩) rfl 43 rfl (.int .i64 0) rfl zero28 ?_; intro y3 hy3 my3 zy3
       obtain ⟨b3, hq3⟩ : ∃ b, b = y2.heap.size := ⟨_, rfl⟩
       rw [← hq3] at hy3 ⊢
       have n23 : ¬ b2 = b3 := by have := hy2.lt; omega
       have HB3 := Lib.hid (And.intro hq3 zy3)
       replace hy2 := hy2.keep my3 (by simp)
       have mm := my2.then my3
       clear zy3 hq3 my2 my3)
    | (go_at_call 98; refine (IH y3 mm).mono ?_
       rintro e w5 ⟨cs, rfl, hT, hR5, m5⟩
       have hn2 : b2 ∉ [q, g] := by have := HL.out; have := HB2.out; simp; omega
       have hn3 : b3 ∉ [q, g] := by have := HL.out; have := HB2.out; have := HB3.out; simp; omega
       replace hy2 := hy2.keep m5 hn2
       replace hy3 := hy3.keep m5 hn3
       have HT := Lib.hid (And.intro hT (And.intro hR5 m5))
       have hcs := hT.len
       have hone := hT.one
       clear hT hR5 m5 hn2 hn3)
    | (with_reducible refine wpList_storesAll (o := ⟨none, .store 24 (.tmp 2) (.tmp 6), _, _, _, _⟩) rfl 24 (.tmp 2) (.tmp 6) rfl rfl b2 (cs) rfl (.agg (cs).toArray) rfl rfl 24 _ hy2 (zlen hcs) (hone) (size24' hcs) ?_
       intro u6 hu6 mu6 zu6
       clear zu6
       replace hy3 := hy3.keep mu6 (by simpa using fun e : b3 = b2 => n23 e.symm)
       have e3 := hy3.cell 0
       simp only [List.getElem?_cons_zero] at e3
       have f3 := hy3.free 0))
  obtain ⟨hT, hR5, m5⟩ := HT.out
  have m7 : Mod [b3] u6 (u6.setCell ⟨b3, 0, none⟩ (.int .i64 0)) := Mod.setCell (ms := [b3]) u6 (by simp) _
  have hy7 := hy3.set 0 (.int .i64 0)
  have hu7 := hu6.keep m7 (by simpa using n23)
  generalize u6.setCell ⟨b3, 0, none⟩ (.int .i64 0) = u7 at *
  refine leaves_cons (f := 97) (args := #[.pointer (some ⟨b2, 0, none⟩), .pointer (some ⟨b3, 0, none⟩)]) (by simp) (by simp [go_sem]) ?_
  refine (catch_idle _ _ _).mono ?_
  rintro e u' w6 ⟨rfl, rfl, rfl⟩
  have q2 := HB2.out
  have q3 := HB3.out
  have l5 := m5.size
  have far : ∀ x, Btw y3.heap.size w5.heap.size x → x ∉ [b2] ∧ x ∉ [b3] := fun x hx => by have := hx.1; simp; omega
  have m67 : Mod [b2, b3] w5 _ := (mu6.wk (ns := [b2, b3]) (fun i _ h => by simp at h ⊢; exact .inl h)).trans m7 (fun i _ h => by simp at h ⊢; exact .inr h)
  refine ⟨_, results_first rfl _ _ b2 b3 _ _ rfl rfl hu7 hcs hy7, cs, rfl, ?_, ?_, ?_⟩
  · refine (((hT.keep mu6 (fun x hx => (far x hx).1)).keep m7 (fun x hx => (far x hx).2))).mono (Btw.mono ?_ m67.size)
    omega
  · have hl := HL.out
    exact hR5.keep m67 (by simp; omega) (by simp; omega) (by simp; omega)
  · refine (mm.pre m5).trans m67 (fun i hi hm => ?_)
    simp at hm
    omega
end Go.Proofs.YtchanildogjhgaaDoor
