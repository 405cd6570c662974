/-
  Terms that are built; made. My own work.
-/
import Derived.Test.YtchanildogjhgaaDoorTn
namespace Go.Proofs.YtchanildogjhgaaDoor
open Go.RowKit Go.Shelf
set_option linter.unusedVariables false
set_option linter.unusedSimpArgs false
set_option maxRecDepth 100000 in
theorem run_buildA (k : Int) (w : World) : (Instr.build 24 #[(0, .int .i64 k)]).run Tryd.prog w = .ok (.agg (tmc k 0 0 ⟨#[]⟩ none 0 0).toArray) w := by
  refine run_build w _ _ _ ?_
  kernel_rfl
set_option maxRecDepth 100000 in
theorem run_buildB (k : Int) (s : ByteArray) (w : World) : (Instr.build 24 #[(0, .int .i64 k), (3, .string s)]).run Tryd.prog w = .ok (.agg (tmc k 0 0 s none 0 0).toArray) w := by
  refine run_build w _ _ _ ?_
  kernel_rfl
set_option maxRecDepth 100000 in
theorem run_buildC (k u n : Int) (w : World) : (Instr.build 24 #[(0, .int .i64 k), (1, .int .i64 u), (2, .int .i64 n)]).run Tryd.prog w = .ok (.agg (tmc k u n ⟨#[]⟩ none 0 0).toArray) w := by
  refine run_build w _ _ _ ?_
  kernel_rfl
set_option maxRecDepth 100000 in
theorem run_buildD (k u : Int) (w : World) : (Instr.build 24 #[(0, .int .i64 k), (1, .int .i64 u)]).run Tryd.prog w = .ok (.agg (tmc k u 0 ⟨#[]⟩ none 0 0).toArray) w := by
  refine run_build w _ _ _ ?_
  kernel_rfl
set_option maxRecDepth 100000 in
theorem run_buildF  (w : World) : (Instr.build 24 #[]).run Tryd.prog w = .ok (.agg (tmc 0 0 0 ⟨#[]⟩ none 0 0).toArray) w := by
  refine run_build w _ _ _ ?_
  kernel_rfl
set_option maxRecDepth 100000 in
theorem run_buildH (k : Int) (A : Option Addr) (l c : Nat) (w : World) : (Instr.build 24 #[(0, .int .i64 k), (4, .slice A l c)]).run Tryd.prog w = .ok (.agg (tmc k 0 0 ⟨#[]⟩ A l c).toArray) w := by
  refine run_build w _ _ _ ?_
  kernel_rfl
section
variable {v : World} {o : Oper} {ρ : Operand → Value} {x y z : Operand}
theorem exec_bA {k : Int} (ho : o.op = .build 24 #[(0, x)]) (hx : ρ x = .int .i64 k) : (execOp ρ o).run Tryd.prog v = .ok (.value (.agg (tmc k 0 0 ⟨#[]⟩ none 0 0).toArray)) v := by
  unfold execOp
  simp only [ho, List.map_toArray, List.map_cons, List.map_nil, hx, Sem.run_bind, run_buildA, Result.andThen, Sem.run_pure]
theorem exec_bB {k : Int} {s : ByteArray} (ho : o.op = .build 24 #[(0, x), (3, y)]) (hx : ρ x = .int .i64 k) (hy : ρ y = .string s) : (execOp ρ o).run Tryd.prog v = .ok (.value (.agg (tmc k 0 0 s none 0 0).toArray)) v := by
  unfold execOp
  simp only [ho, List.map_toArray, List.map_cons, List.map_nil, hx, hy, Sem.run_bind, run_buildB, Result.andThen, Sem.run_pure]
theorem exec_bC {k u n : Int} (ho : o.op = .build 24 #[(0, x), (1, y), (2, z)]) (hx : ρ x = .int .i64 k) (hy : ρ y = .int .i64 u) (hz : ρ z = .int .i64 n) : (execOp ρ o).run Tryd.prog v = .ok (.value (.agg (tmc k u n ⟨#[]⟩ none 0 0).toArray)) v := by
  unfold execOp
  simp only [ho, List.map_toArray, List.map_cons, List.map_nil, hx, hy, hz, Sem.run_bind, run_buildC, Result.andThen, Sem.run_pure]
theorem exec_bD {k u : Int} (ho : o.op = .build 24 #[(0, x), (1, y)]) (hx : ρ x = .int .i64 k) (hy : ρ y = .int .i64 u) : (execOp ρ o).run Tryd.prog v = .ok (.value (.agg (tmc k u 0 ⟨#[]⟩ none 0 0).toArray)) v := by
  unfold execOp
  simp only [ho, List.map_toArray, List.map_cons, List.map_nil, hx, hy, Sem.run_bind, run_buildD, Result.andThen, Sem.run_pure]
theorem exec_bF (ho : o.op = .build 24 #[]) : (execOp ρ o).run Tryd.prog v = .ok (.value (.agg (tmc 0 0 0 ⟨#[]⟩ none 0 0).toArray)) v := by
  unfold execOp
  simp only [ho, List.map_toArray, List.map_nil, Sem.run_bind, run_buildF, Result.andThen, Sem.run_pure]
theorem exec_bH {k : Int} {A : Option Addr} {l c : Nat} (ho : o.op = .build 24 #[(0, x), (4, y)]) (hx : ρ x = .int .i64 k) (hy : ρ y = .slice A l c) : (execOp ρ o).run Tryd.prog v = .ok (.value (.agg (tmc k 0 0 ⟨#[]⟩ A l c).toArray)) v := by
  unfold execOp
  simp only [ho, List.map_toArray, List.map_cons, List.map_nil, hx, hy, Sem.run_bind, run_buildH, Result.andThen, Sem.run_pure]
end
/-- An operation that yields a value. -/
theorem wpList_ran {P : Program} {w : World} {ops : Array Oper} {rest : List Oper} {o : Oper} {a : Act} {Q : Exit → Act → World → Prop} (hg : o.guard = none) (V : Value) (hrun : (execOp a.eval o).run P w = .ok (.value V) w) (h : wpList P ops Q rest (a.put o.dst V) w) : wpList P ops Q (o :: rest) a w := by
  refine wpList_plain hg fun K hK => ?_
  unfold Oper.wp
  rw [hrun]
  exact hK _ _ h
theorem results_cell1 {fn : Func} {p : Tmp} (h : fn.results = #[.cell p 24]) (tmps : Array Value) (w : World) (g : Nat) (cs : List Value) (hp : tmps.getD p undef = .pointer (some ⟨g, 0, none⟩)) (hc : Cells w (some ⟨g, 0, none⟩) cs) (h5 : cs.length = 5) :
    (results fn tmps).run Tryd.prog w = .ok (.agg cs.toArray) w := by
  have hp' : tmps[p]?.getD undef = .pointer (some ⟨g, 0, none⟩) := by simpa using hp
  simp [results, h, hp', asAddr, run_loads hc Tryd.underlying24 rfl (size24' h5)]
theorem made_end {w w1 y2 w5 v6 u9 : World} {b2 b4 len : Nat} {k u n : Int} {s : ByteArray} {A' : Option Addr} {vs' : List (List Value)} {l : List Tm} (hR : RowT w5 (Btw y2.heap.size w5.heap.size) A' vs' l) (m5 : Mod [] y2 w5) (m6 : Mod [b2] w5 v6) (m9 : Mod [b4] v6 u9) (m2 : Mod [] w y2)
    (h2 : b2 = w.heap.size) (h4 : b4 = w1.heap.size) (hl : len = l.length) (hs : s.size ≤ 140737488355328) (hlm : len ≤ 2199023255552) (hz : y2.heap.size = w1.heap.size + 1) (h1 : w.heap.size < w1.heap.size) :
    TIs u9 (Btw w.heap.size u9.heap.size) (.mk k u n s l) (tmc k u n s A' len len) ∧ Mod [] w u9 := by
  subst hl
  have q1 := hR.keep m6 (fun g hg hm => by simp at hm; have := hg.1; omega)
  have q2 := q1.keep m9 (fun g hg hm => by simp at hm; have := hg.1; omega)
  have q3 := q2.mono (S' := Btw w.heap.size u9.heap.size) (Btw.mono m2.size (Nat.le_trans m6.size m9.size))
  refine ⟨q3.tis k u n s l.length hs (Nat.le_refl _) (by unfold maxLen; omega) hlm, ?_⟩
  exact far_mod (far_mod (m2.then m5) m6 (fun i hi => by simp at hi; omega)) m9 (fun i hi => by simp at hi; omega)
/-- What a function hands back that makes a term. -/
def MadeT (w : World) (t : Tm) (e : Ending) (w' : World) : Prop := ∃ cs, e = .returned (.agg cs.toArray) ∧ TIs w' (Btw w.heap.size w'.heap.size) t cs ∧ Mod [] w w'
set_option maxRecDepth 1000000 in
set_option maxHeartbeats 4000000 in
theorem made_c (k u n : Int) (s : ByteArray) (K0 : Option Addr) (l1 c1 : Nat) (A : Option Addr) (len c : Nat) (vs : List (List Value)) (l : List Tm) (S : Nat → Prop) (w : World) (hl : len = l.length) (hr : RowT w S A vs l) (hlm : len ≤ 2199023255552) (hs : s.size ≤ 140737488355328) :
    Calls Tryd.prog 53 #[.agg (tmc k u n s K0 l1 c1).toArray, .slice A len c] w (MadeT w (.mk k u n s l)) := by
  have IHC := fun v (mv : Mod [] w v) => copied_all (Tm.depthAll l) A c vs l S v (fun t ht => Tm.mem_depth ht) (hr.keep mv (by simp)) (by rw [← hl]; exact hlm)
  rw [← hl] at IHC
  have HL := Lib.hid (And.intro hl hs)
  clear hl hr hs
  go_enter Tryd.func53, Tryd.ntmps53
  go_wp2_with (first
    | (with_reducible refine wpList_boxes (o := ⟨some 2, .box 24 (.tmp 0), _, _, _, _⟩) rfl 24 (.tmp 0) rfl _ rfl (tmc k u n s K0 l1 c1) rfl ?_; intro w1 hb1 m1 z1; replace z1 := Lib.hid z1
       obtain ⟨b2, hq2⟩ : ∃ b, b = w.heap.size := ⟨_, rfl⟩
       rw [← hq2] at hb1 ⊢
       have HB2 := Lib.hid hq2
       clear z1 hq2)
    | (with_reducible refine wpList_allocs (o := ⟨some 4, .alloc 24, _, _, _, _⟩) rfl 24 rfl _ zero24 ?_; intro y2 hy2 my2 zy2
       obtain ⟨b4, hq4⟩ : ∃ b, b = w1.heap.size := ⟨_, rfl⟩
       rw [← hq4] at hy2 ⊢
       have HB4 := Lib.hid hq4
       have HZ4 := Lib.hid zy2
       have m2 := m1.then my2
       have hlt4 := hb1.lt
       have HBL := Lib.hid (HB2.out ▸ hlt4 : w.heap.size < w1.heap.size)
       replace hb1 := hb1.keep my2 (by simp)
       have n24 : ¬ b2 = b4 := by rw [hq4]; omega
       clear zy2 hq4 m1 my2 hlt4)
    | (go_at_call 55
       refine (IHC y2 m2).mono ?_
       rintro e w5 ⟨A', vs', rfl, hR', m5, _⟩
       rw [← HL.out.1]
       replace hb1 := hb1.keep m5 (by simp)
       replace hy2 := hy2.keep m5 (by simp)
       have e4 := hb1.cell 4
       simp only [tmc, List.getElem?_cons_succ, List.getElem?_cons_zero] at e4
       have f4 := hb1.free 4
       have hu6 : Holds (w5.setCell ⟨b2, 4, none⟩ (.slice A' len len)) b2 24 (tmc k u n s A' len len) := hb1.set 4 _
       have m6 : Mod [b2] w5 (w5.setCell ⟨b2, 4, none⟩ (.slice A' len len)) := Mod.setCell (ms := [b2]) w5 (by simp) _
       have hy6 := hy2.keep m6 (by simpa using fun e : b4 = b2 => n24 e.symm)
       have HR5 := Lib.hid (And.intro hR' (And.intro m5 m6))
       clear hR' m5 m6 hb1 hy2 IHC)
    | (with_reducible refine wpList_loads (o := ⟨some 8, .load 24 (.tmp 2), _, _, _, _⟩) rfl 24 (.tmp 2) rfl b2 (0) (tmc k u n s A' len len) rfl (Cells.of_holds hu6) _ Tryd.underlying24 rfl (size24t _ _ _ _ _ _ _) (.agg (tmc k u n s A' len len).toArray) rfl ?_)
    | (with_reducible refine wpList_storesAll (o := ⟨none, .store 24 (.tmp 4) (.tmp 8), _, _, _, _⟩) rfl 24 (.tmp 4) (.tmp 8) rfl rfl b4 (tmc k u n s A' len len) rfl (.agg (tmc k u n s A' len len).toArray) rfl rfl 24 _ hy6 (zlen (tmc_len _ _ _ _ _ _ _)) (tmc_one _ _ _ _ _ _ _) (size24t _ _ _ _ _ _ _) ?_
       intro u9 hu9 mu9 zu9
       clear zu9
       have HZ : Hid (TIs u9 (Btw w.heap.size u9.heap.size) (.mk k u n s l) (tmc k u n s A' len len) ∧ Mod [] w u9) := Lib.hid (made_end HR5.out.1 HR5.out.2.1 HR5.out.2.2 mu9 m2 HB2.out HB4.out HL.out.1 HL.out.2 hlm HZ4.out HBL.out)
       clear m2 mu9 hy6 hu6))
  refine bodyPost_ret (results_cell1 rfl _ _ b4 _ rfl (Cells.of_holds hu9) rfl) rfl ?_
  exact ⟨_, rfl, HZ.out.1, HZ.out.2⟩
end Go.Proofs.YtchanildogjhgaaDoor
