/-
  My own texts Tz Ua Ub, one behind the other.
-/
import Derived.Test.YtchanildogjhgaaDoorTy
import Derived.Defers
import Derived.Recover
namespace Go.Proofs.YtchanildogjhgaaDoor
section
open Go.RowKit Go.Shelf
set_option linter.unusedVariables false
set_option linter.unusedSimpArgs false
theorem catch_idle (A B : Value) (w : World) : CallsD Tryd.prog 97 #[A, B] .returning w fun e u' w' => e = .returned (.tuple #[]) ∧ u' = .returning ∧ w' = w := by
  refine callsD_of_wpS Tryd.func97 rfl fun c₀ cs hu => ?_
  apply wpS_seq
  apply wpS_region
  simp [wpOpsS, go_sem, recoverD, hu, Tryd.ntmps97, Exit.thenS]
  apply wpS_seq
  apply wpS_region
  simp [wpOpsS, go_sem, recoverD, hu, Tryd.ntmps97, Exit.thenS]
  refine wpS_cond (t := false) (by simp [Act.eval, Array.replicate]) ?_
  simp only [Bool.false_eq_true, if_false]
  refine wpS_of_wp (_root_.Go.wp_skip ?_)
  cases c₀
  simp_all [bodyPostS, results, Tryd.results97]
end
section
open Go.RowKit Go.Shelf
set_option linter.unusedVariables false
set_option linter.unusedSimpArgs false
theorem wpList_alloc1x {P : Program} {w : World} {ops : Array Oper} {rest : List Oper} {o : Oper} {a : Act} {Q : Exit → Act → World → Prop} (hgd : o.guard = none) (ty : TypeId) (ho : o.op = .alloc ty) (V : Value) (h1 : V.oneCell' = true) (hz : ∀ w, (zeroValue ty).run P w = .ok V w)
    (h : ∀ v, Holds v w.heap.size ty [V] → Mod [] w v → v.heap.size = w.heap.size + 1 → wpList P ops Q rest (a.put o.dst (.pointer (some ⟨w.heap.size, 0, none⟩))) v) : wpList P ops Q (o :: rest) a w := by
  refine wpList_plain hgd fun K hK => ?_
  have hrun : (Instr.alloc ty true (.tuple #[])).run P w = .ok (.pointer (some ⟨w.heap.size, 0, none⟩)) (w.alloc (.cells #[V] ty)) := by
    simp [Instr.alloc, hz, newVar, newRow, go_sem]
    split
    · simp [Value.oneCell'] at h1
    · rfl
  unfold Oper.wp execOp
  simp only [ho, Sem.run_bind, hrun, Result.andThen]
  exact hK _ _ (h _ (Holds.made w ty [V]) (Mod.alloc [] w _) (by simp))
theorem zero28 (w : World) : (zeroValue 43).run Tryd.prog w = .ok (.int .i64 0) w := by
  unfold zeroValue
  obtain ⟨i, h1, h2⟩ : ∃ i, Tryd.prog.info? 43 = some i ∧ i.zero = some (.int .i64 0) := by
    have h : (Tryd.prog.info? 43).map (·.zero) = some (some (.int .i64 0)) := by kernel_rfl
    cases hq : Tryd.prog.info? 43 with
    | none => rw [hq] at h; cases h
    | some i => rw [hq] at h; exact ⟨i, rfl, by simpa using h⟩
  simp [Sem.run_bind, typeInfo, h1, h2]
theorem results_first {fn : Func} {p p' : Tmp} (h : fn.results = #[.cell p 24, .cell p' 43]) (tmps : Array Value) (w : World) (g g' : Nat) (cs : List Value) (V : Value) (hp : tmps.getD p undef = .pointer (some ⟨g, 0, none⟩)) (hp' : tmps.getD p' undef = .pointer (some ⟨g', 0, none⟩)) (hc : Holds w g 24 cs) (h5 : cs.length = 5) (hc' : Holds w g' 43 [V]) :
    (results fn tmps).run Tryd.prog w = .ok (.tuple #[.agg cs.toArray, V]) w := by
  have e1 : tmps[p]?.getD undef = .pointer (some ⟨g, 0, none⟩) := by simpa using hp
  have e2 : tmps[p']?.getD undef = .pointer (some ⟨g', 0, none⟩) := by simpa using hp'
  have r1 := run_loads (Cells.of_holds hc) Tryd.underlying24 rfl (size24' h5)
  have r2 := run_load1 Tryd.underlying43 (by rfl) (show w.cell? ⟨g', 0, none⟩ = some V from hc'.cell 0)
  simp [results, h, e1, e2, asAddr, r1, r2, Sem.run_bind, Result.andThen]
/-- What first hands back of what dec says. -/
def FirstP (w : World) (q g b : Nat) (r : Except Int (Tm × List UInt8 × Nat)) (e : Ending) (w' : World) : Prop := match r with
  | .error er => e = .returned (.tuple #[.agg (tmc 0 0 0 ⟨#[]⟩ none 0 0).toArray, .int .i64 er]) ∧ Mod [q, g] w w'
  | .ok (t, l, s) => ∃ cs, e = .returned (.tuple #[.agg cs.toArray, .int .i64 0]) ∧ TIs w' (Btw w.heap.size w'.heap.size) t cs ∧ RdT w' q g b l 0 s ∧ Mod [q, g] w w'
set_option maxRecDepth 1000000 in
set_option maxHeartbeats 4000000 in
theorem first_ok (q g b : Nat) (l l' : List UInt8) (t : Tm) (s : Nat) (w : World) (h : RdT w q g b l 0 0) (G : Glob w) (h0q : 0 ≠ q) (h0g : 0 ≠ g) (HD : Tm.dec 60 l 0 = .ok (t, l', s)) :
    Calls Tryd.prog 77 #[.pointer (some ⟨q, 0, none⟩)] w (FirstP w q g b (.ok (t, l', s))) := by
  have hmf : ∀ (fn : Fn) (first cap : Array Value) (w : World), (Instr.makeFunc fn first cap).run Tryd.prog w = .ok (.func fn first cap) w := fun _ _ _ _ => rfl
  have hql : q < w.heap.size ∧ g < w.heap.size ∧ b < w.heap.size := h.lt
  have IH : ∀ v, Mod [] w v → Calls Tryd.prog 98 #[.pointer (some ⟨q, 0, none⟩), .int .i64 1] v (TermP v q g b (Tm.dec 60 l 0)) := fun v m => by
    have := term_all 60 (Nat.le_refl _) q g b l 0 v (h.keep m (by simp) (by simp) (by simp)) (G.mod m (by simp)) h0q h0g (by omega)
    simpa using this
  rw [HD] at IH
  clear HD
  have HL := Lib.hid hql
  have HR := Lib.hid h
  clear hql h G
  go_enter_defers Tryd.func77, Tryd.ntmps77
  go_wp2_with (first
    | (with_reducible refine wpList_allocs (o := ⟨some 2, .alloc 24, _, _, _, _⟩) rfl 24 rfl _ zero24 ?_; intro y2 hy2 my2 zy2
       obtain ⟨b2, hq2⟩ : ∃ b, b = w.heap.size := ⟨_, rfl⟩
       rw [← hq2] at hy2 ⊢
       have HB2 := Lib.hid (And.intro hq2 zy2)
       clear zy2 hq2)
    | (refine wpList_alloc1x (o := ⟨some 3, .alloc 43, _, _, _, _⟩) rfl 43 rfl (.int .i64 0) rfl zero28 ?_; intro y3 hy3 my3 zy3
       obtain ⟨b3, hq3⟩ : ∃ b, b = y2.heap.size := ⟨_, rfl⟩
       rw [← hq3] at hy3 ⊢
       have n23 : ¬ b2 = b3 := by have := hy2.lt; omega
       have HB3 := Lib.hid (And.intro hq3 zy3)
       replace hy2 := hy2.keep my3 (by simp)
       have mm := my2.then my3
       clear zy3 hq3 my2 my3)
    | (go_at_call 98; refine (IH y3 mm).mono ?_
       rintro e w5 ⟨cs, rfl, hT, hR5, m5⟩
       have hn2 : b2 ∉ [q, g] := by have := HL.out; have := HB2.out; simp; omega
       have hn3 : b3 ∉ [q, g] := by have := HL.out; have := HB2.out; have := HB3.out; simp; omega
       replace hy2 := hy2.keep m5 hn2
       replace hy3 := hy3.keep m5 hn3
       have HT := Lib.hid (And.intro hT (And.intro hR5 m5))
       have hcs := hT.len
       have hone := hT.one
       clear hT hR5 m5 hn2 hn3)
    | (with_reducible refine wpList_storesAll (o := ⟨none, .store 24 (.tmp 2) (.tmp 6), _, _, _, _⟩) rfl 24 (.tmp 2) (.tmp 6) rfl rfl b2 (cs) rfl (.agg (cs).toArray) rfl rfl 24 _ hy2 (zlen hcs) (hone) (size24' hcs) ?_
       intro u6 hu6 mu6 zu6
       clear zu6
       replace hy3 := hy3.keep mu6 (by simpa using fun e : b3 = b2 => n23 e.symm)
       have e3 := hy3.cell 0
       simp only [List.getElem?_cons_zero] at e3
       have f3 := hy3.free 0))
  obtain ⟨hT, hR5, m5⟩ := HT.out
  have m7 : Mod [b3] u6 (u6.setCell ⟨b3, 0, none⟩ (.int .i64 0)) := Mod.setCell (ms := [b3]) u6 (by simp) _
  have hy7 := hy3.set 0 (.int .i64 0)
  have hu7 := hu6.keep m7 (by simpa using n23)
  generalize u6.setCell ⟨b3, 0, none⟩ (.int .i64 0) = u7 at *
  refine leaves_cons (f := 97) (args := #[.pointer (some ⟨b2, 0, none⟩), .pointer (some ⟨b3, 0, none⟩)]) (by simp) (by simp [go_sem]) ?_
  refine (catch_idle _ _ _).mono ?_
  rintro e u' w6 ⟨rfl, rfl, rfl⟩
  have q2 := HB2.out
  have q3 := HB3.out
  have l5 := m5.size
  have far : ∀ x, Btw y3.heap.size w5.heap.size x → x ∉ [b2] ∧ x ∉ [b3] := fun x hx => by have := hx.1; simp; omega
  have m67 : Mod [b2, b3] w5 _ := (mu6.wk (ns := [b2, b3]) (fun i _ h => by simp at h ⊢; exact .inl h)).trans m7 (fun i _ h => by simp at h ⊢; exact .inr h)
  refine ⟨_, results_first rfl _ _ b2 b3 _ _ rfl rfl hu7 hcs hy7, cs, rfl, ?_, ?_, ?_⟩
  · refine (((hT.keep mu6 (fun x hx => (far x hx).1)).keep m7 (fun x hx => (far x hx).2))).mono (Btw.mono ?_ m67.size)
    omega
  · have hl := HL.out
    exact hR5.keep m67 (by simp; omega) (by simp; omega) (by simp; omega)
  · refine (mm.pre m5).trans m67 (fun i hi hm => ?_)
    simp at hm
    omega
end
section
open Go.RowKit Go.Shelf
set_option linter.unusedVariables false
set_option linter.unusedSimpArgs false
namespace Tm
end Tm
set_option maxRecDepth 100000 in
theorem run_build85 (g : Nat) (w : World) : (Instr.build 98 #[(0, .pointer (some ⟨g, 0, none⟩))]).run Tryd.prog w = .ok (.agg [.pointer (some ⟨g, 0, none⟩), .int .i64 0].toArray) w := by
  refine run_build w _ _ _ ?_
  kernel_rfl
theorem exec_b85 {v : World} {o : Oper} {ρ : Operand → Value} {x : Operand} {g : Nat} (ho : o.op = .build 98 #[(0, x)]) (hx : ρ x = .pointer (some ⟨g, 0, none⟩)) : (execOp ρ o).run Tryd.prog v = .ok (.value (.agg [.pointer (some ⟨g, 0, none⟩), .int .i64 0].toArray)) v := by
  unfold execOp
  simp only [ho, List.map_toArray, List.map_cons, List.map_nil, hx, Sem.run_bind, run_build85, Result.andThen, Sem.run_pure]
theorem exec_fa85 {v : World} {o : Oper} {ρ : Operand → Value} {x : Operand} {g : Nat} (ho : o.op = .fieldAddr 98 x 0) (hx : ρ x = .pointer (some ⟨g, 0, none⟩)) : (execOp ρ o).run Tryd.prog v = .ok (.value (.pointer (some ⟨g, 0, none⟩))) v := by
  unfold execOp
  simp [ho, hx, go_sem]
theorem results_dec {fn : Func} {p p' p'' : Tmp} (h : fn.results = #[.cell p 24, .tmp p', .tmp p'']) (tmps : Array Value) (w : World) (g : Nat) (cs : List Value) (V U : Value) (hp : tmps.getD p undef = .pointer (some ⟨g, 0, none⟩)) (hV : tmps.getD p' undef = V) (hU : tmps.getD p'' undef = U) (hc : Holds w g 24 cs) (h5 : cs.length = 5) :
    (results fn tmps).run Tryd.prog w = .ok (.tuple #[.agg cs.toArray, V, U]) w := by
  have e1 : tmps[p]?.getD undef = .pointer (some ⟨g, 0, none⟩) := by simpa using hp
  have e2 : tmps[p']?.getD undef = V := by simpa using hV
  have e3 : tmps[p'']?.getD undef = U := by simpa using hU
  have r1 := run_loads (Cells.of_holds hc) Tryd.underlying24 rfl (size24' h5)
  simp [results, h, e1, e2, e3, asAddr, r1, Sem.run_bind, Result.andThen]
/-- What Decode hands back of what dec says of these bytes. -/
def DecP (w : World) (n : Nat) (r : Except Int (Tm × List UInt8 × Nat)) (e : Ending) (w' : World) : Prop := match r with
  | .error er => e = .returned (.tuple #[.agg (tmc 0 0 0 ⟨#[]⟩ none 0 0).toArray, .int .i64 0, .int .i64 er]) ∧ Mod [] w w'
  | .ok (t, l, s) => ∃ cs, e = .returned (.tuple #[.agg cs.toArray, .int .i64 ((n - l.length : Nat) : Int), .int .i64 0]) ∧ TIs w' (Btw w.heap.size w'.heap.size) t cs ∧ Mod [] w w'
theorem Glob.zero {w : World} (G : Glob w) : 0 < w.heap.size := by
  have h1 := G.at 0 (by decide)
  rcases Nat.eq_zero_or_pos w.heap.size with e | e
  · simp [World.cell?, Array.getElem?_eq_none (show w.heap.size ≤ 0 by omega)] at h1
  · exact e
set_option maxRecDepth 1000000 in
set_option maxHeartbeats 4000000 in
theorem decode_ok (A : Option Addr) (l l' : List UInt8) (t : Tm) (s n c : Nat) (w : World) (hn : n = l.length) (hl : l.length ≤ 140737488355328) (h : Reads w A l) (G : Glob w) (HD : Tm.dec 60 l 0 = .ok (t, l', s)) :
    Calls Tryd.prog 51 #[.slice A n c] w (DecP w n ((.ok (t, l', s)))) := by
  have G0 := G.zero
  have RC := fun v (mv : Mod [] w v) => read_n A l n c v hn hl (h.keep mv (fun _ _ => by simp))
  have GL := fun v (mv : Mod [] w v) => G.then mv
  have HN := Lib.hid hn
  have hnl : n ≤ 140737488355328 := by omega
  clear hn hl
  go_enter Tryd.func51, Tryd.ntmps51
  have hle : l'.length ≤ n := by
    have := (Tm.dec_back _ _ _ _ _ _ HD).1
    rw [HN.out, this]
    simp
  have hsub : IntKind.i64.wrap ((n : Int) - (l'.length : Int)) = ((n - l'.length : Nat) : Int) := by
    simp [IntKind.wrap, IntKind.signed, IntKind.bits]
    omega
  go_wp2_with (first
    | (with_reducible refine wpList_allocs (o := ⟨some 2, .alloc 24, _, _, _, _⟩) rfl 24 rfl _ zero24 ?_; intro y2 hy2 my2 zy2
       obtain ⟨b2, hq2⟩ : ∃ b, b = w.heap.size := ⟨_, rfl⟩
       rw [← hq2] at hy2 ⊢
       have HB2 := Lib.hid (And.intro hq2 zy2)
       clear zy2 hq2)
    | (go_at_call 76; go_loud (refine (RC y2 my2).mono ?_)
       rintro e w3 ⟨g, b, rfl, hg3, hb3, hr3, m3⟩
       replace hy2 := hy2.keep m3 (by simp)
       have HR3 := Lib.hid (And.intro hg3 (And.intro hb3 (And.intro hr3 m3.size)))
       have m03 := my2.then m3
       clear hg3 hb3 hr3 my2 m3 RC)
    | (with_reducible refine wpList_ran (o := ⟨some 10, .build 98 _, _, _, _, _⟩) rfl (.agg [.pointer (some ⟨g, 0, none⟩), .int .i64 0].toArray) (exec_b85 rfl rfl) ?_)
    | (with_reducible refine wpList_boxes (o := ⟨some 11, .box 98 (.tmp 10), _, _, _, _⟩) rfl 98 (.tmp 10) rfl _ rfl ([.pointer (some ⟨g, 0, none⟩), .int .i64 0]) rfl ?_; intro w4 hb4 m4 z4
       obtain ⟨q, hq4⟩ : ∃ b, b = w3.heap.size := ⟨_, rfl⟩
       rw [← hq4] at hb4 ⊢
       replace hy2 := hy2.keep m4 (by simp)
       have m04 := m03.then m4
       have HR4 : Hid (RdT w4 q g b l 0 0 ∧ y2.heap.size ≤ g ∧ y2.heap.size ≤ b ∧ w3.heap.size ≤ q ∧ y2.heap.size ≤ w3.heap.size) := Lib.hid (by
         obtain ⟨k1, k2, k3, k4⟩ := HR3.out
         have k5 := k3.lt
         exact ⟨⟨hb4, k3.keep m4 (by simp) (by simp), by omega, by omega⟩, k1, k2, by omega, k4⟩)
       clear hb4 m4 m03 z4 hq4)
    | (go_at_call 77; refine (first_ok q g b l l' t s w4 HR4.out.1 (GL _ m04) (by have := HR4.out; have := HB2.out; omega) (by have := HR4.out; have := HB2.out; omega) HD).mono ?_
       rintro e w5 ⟨cs, rfl, hT, hR5, m5⟩
       have hn2 : b2 ∉ [q, g] := by have := HR4.out; have := HB2.out; have := hy2.lt; simp; omega
       replace hy2 := hy2.keep m5 hn2
       have m05 : Mod [] w w5 := m04.trans m5 (fun i hi hm => by have := HR4.out; have := HB2.out; simp at hm; omega)
       have hcs := hT.len
       have hone := hT.one
       have HW4 : Hid (b2 < w4.heap.size ∧ w.heap.size ≤ w4.heap.size ∧ w4.heap.size ≤ w5.heap.size) := Lib.hid ⟨by have := HR4.out; have := HB2.out; have := HR4.out.1.lt; omega, m04.size, m5.size⟩
       have HT := Lib.hid (And.intro hT hR5)
       clear HR3 m04 m5 hn2 GL hT hR5)
    | (with_reducible refine wpList_allocs (o := ⟨some 6, .alloc 24, _, _, _, _⟩) rfl 24 rfl _ zero24 ?_; intro y6 hy6 my6 zy6
       obtain ⟨b6, hq6⟩ : ∃ b, b = w5.heap.size := ⟨_, rfl⟩
       rw [← hq6] at hy6 ⊢
       have n26 : ¬ b2 = b6 := by have := hy2.lt; omega
       have m06 := m05.then my6
       replace hy2 := hy2.keep my6 (by simp)
       have HB6 := Lib.hid (And.intro hq6 (And.intro m05.size my6))
       clear hq6 my6 zy6 m05)
    | (with_reducible refine wpList_storesAll (o := ⟨none, .store 24 (.tmp 6) (.tmp 15), _, _, _, _⟩) rfl 24 (.tmp 6) (.tmp 15) rfl rfl b6 (cs) rfl (.agg (cs).toArray) rfl rfl 24 _ hy6 (zlen hcs) (hone) (size24' hcs) ?_
       intro u7 hu7 mu7 zu7
       clear zu7
       replace hy2 := hy2.keep mu7 (by simpa using n26)
       have m07 : Mod [] w u7 := m06.trans mu7 (fun i hi hm => by have := HB6.out; simp at hm; omega)
       have HR7 : Hid (b2 < q ∧ b2 < g ∧ b2 < b ∧ b2 ∉ [b6] ∧ RdT u7 q g b l' 0 s ∧ TIs u7 (Btw w4.heap.size w5.heap.size) t cs) := Lib.hid (by
         have k1 := HR4.out; have k2 := HB2.out; have k3 := HB6.out; have k4 := HT.out.2.lt
         refine ⟨by omega, by omega, by omega, by simpa using n26, (HT.out.2.keep k3.2.2 (by simp) (by simp) (by simp)).keep mu7 (by simp; omega) (by simp; omega) (by simp; omega), (HT.out.1.keep k3.2.2 (by simp)).keep mu7 (fun x hx hm => ?_)⟩
         have := hx.2
         simp at hm
         omega)
       have HS7 : Hid (w5.heap.size ≤ u7.heap.size) := Lib.hid (Nat.le_trans HB6.out.2.2.size mu7.size)
       clear m06 mu7 hy6 HT))
  clear HB6
  refine wp_region_ups [(21, .agg cs.toArray), (22, .slice A n c), (23, .int .i64 (n : Int)), (24, .pointer (some ⟨q, 0, none⟩)), (25, .pointer (some ⟨q, 0, none⟩)), (26, .pointer (some ⟨q, 0, none⟩)), (27, .pointer (some ⟨g, 0, none⟩)), (28, .int .i64 (l'.length : Int)), (29, .int .i64 ((n - l'.length : Nat) : Int)), (3, .int .i64 ((n - l'.length : Nat) : Int)), (4, .int .i64 0)] 30 [21, 22, 23, 24, 25, 26, 27, 28, 29, 3, 4] rfl rfl (by decide) (by kernel_rfl) (fun lz v => ∃ c2, Holds v b2 24 c2 ∧ c2.length = 5 ∧ Holds v b6 24 cs ∧ RdT v q g b l' 0 s ∧ Mod [b2] u7 v ∧ (lz 9 = true → c2 = cs)) (by kernel_rfl) ⟨_, hy2.keep (Mod.drew [] u7) (by simp), rfl, hu7.keep (Mod.drew [] u7) (by simp), HR7.out.2.2.2.2.1.keep (Mod.drew [] u7) (by simp) (by simp) (by simp), Mod.drew _ u7, fun h => by cases h⟩ (by kernel_rfl) (by kernel_rfl) ?step ?fin
  case step =>
    intro lz T v j o hj hlj hdep hst hpar hgot hcl Kq hK
    have hjn : j < 12 := (Array.getElem?_eq_some_iff.1 hj).1
    obtain rfl | rfl | rfl | rfl | rfl | rfl | rfl | rfl | rfl | rfl | rfl | rfl : j = 0 ∨ j = 1 ∨ j = 2 ∨ j = 3 ∨ j = 4 ∨ j = 5 ∨ j = 6 ∨ j = 7 ∨ j = 8 ∨ j = 9 ∨ j = 10 ∨ j = 11 := by omega
    all_goals (have hj' := Option.some.inj (hj : some _ = some o); subst hj'; clear hj)
    · have hst2 := hst
      obtain ⟨c2, q1, q2, q3, q4, q5, q6⟩ := hst
      exact wp_ran rfl (exec_load rfl (eval_tmp ((hpar 6 rfl).trans rfl)) (run_loads (Cells.of_holds q3) Tryd.underlying24 rfl (size24' hcs))) (hK _ _ (fun s hs => by cases hs; rfl) (by simpa using hst2))
    · exact wp_ran rfl (exec_move rfl (eval_tmp ((hpar 0 rfl).trans rfl))) (hK _ _ (fun s hs => by cases hs; rfl) (by simpa using hst))
    · exact wp_ran rfl (exec_len Tryd.underlying62 rfl (eval_tmp (hgot 1 _ 22 rfl (hdep ⟨1, .data⟩ (by simp) rfl) rfl))) (hK _ _ (fun s hs => by cases hs; rfl) (by simpa using hst))
    · exact wp_ran rfl (exec_move rfl (eval_tmp ((hpar 5 rfl).trans rfl))) (hK _ _ (fun s hs => by cases hs; rfl) (by simpa using hst))
    · exact wp_ran rfl (exec_nil rfl (eval_tmp (hgot 3 _ 24 rfl (hdep ⟨3, .data⟩ (by simp) rfl) rfl))) (hK _ _ (fun s hs => by cases hs; rfl) (by simpa using hst))
    · exact wp_ran rfl (exec_fa85 rfl (eval_tmp (hgot 4 _ 25 rfl (hdep ⟨4, .data⟩ (by simp) rfl) rfl))) (hK _ _ (fun s hs => by cases hs; rfl) (by simpa using hst))
    · have hst2 := hst
      obtain ⟨c2, q1, q2, q3, q4, q5, q6⟩ := hst
      exact wp_ran rfl (exec_load rfl (eval_tmp (hgot 5 _ 26 rfl (hdep ⟨5, .data⟩ (by simp) rfl) rfl)) (run_load1 Tryd.underlying95 rfl (q4.hq.cell 0))) (hK _ _ (fun s hs => by cases hs; rfl) (by simpa using hst2))
    · have hst2 := hst
      obtain ⟨c2, q1, q2, q3, q4, q5, q6⟩ := hst
      exact wp_called rfl (exec_call1 rfl rfl (eval_tmp (hgot 6 _ 27 rfl (hdep ⟨6, .data⟩ (by simp) rfl) rfl)) (enters_of Tryd.func78 (by kernel_rfl) rfl)) ((left_c g b l' 0 v q4.hr).mono (fun e v' hh => ⟨_, hh.1, hK _ _ (fun s hs => by cases hs; rfl) (by have e2 := hh.2; subst e2; simpa using hst2)⟩))
    · exact wp_ran rfl (exec_sub rfl (eval_tmp (hgot 2 _ 23 rfl (hdep ⟨2, .data⟩ (by simp) rfl) rfl)) (eval_tmp (hgot 7 _ 28 rfl (hdep ⟨7, .data⟩ (by simp) rfl) rfl)) (hsub)) (hK _ _ (fun s hs => by cases hs; rfl) (by simpa using hst))
    · obtain ⟨c2, q1, q2, q3, q4, q5, q6⟩ := hst
      refine wp_stored rfl rfl (eval_tmp ((hpar 2 rfl).trans rfl)) (eval_tmp (hgot 0 _ 21 rfl (hdep ⟨0, .data⟩ (by simp) rfl) rfl)) rfl q1 (hcs.trans q2.symm) hone (size24' hcs) (fun v' r1 r2 => hK undef _ (fun s hs => by cases hs) ?_)
      have hr := HR7.out
      exact ⟨cs, r1, hcs, q3.keep r2 (by simpa using fun e : b6 = b2 => n26 e.symm), q4.keep r2 (by simp; omega) (by simp; omega) (by simp; omega), q5.trans r2 (fun i _ hi => hi), fun _ => rfl⟩
    · exact wp_ran rfl (exec_assign rfl (eval_tmp (hgot 8 _ 29 rfl (hdep ⟨8, .data⟩ (by simp) rfl) rfl))) (hK _ _ (fun s hs => by cases hs; rfl) (by simpa using hst))
    · exact wp_ran rfl (exec_assign rfl rfl) (hK _ _ (fun s hs => by cases hs; rfl) (by simpa using hst))
  case fin =>
  intro lz vr hlz hst
  obtain ⟨c2, q1, q2, q3, q4, q5, q6⟩ := hst
  have e := q6 (hlz 9 (by decide))
  subst e
  simp only [setAll, List.foldl_cons, List.foldl_nil, List.set_cons_succ, List.set_cons_zero]
  go_wp2_with fail
  refine bodyPost_ret (results_dec rfl _ _ b2 _ _ _ rfl rfl rfl q1 hcs) rfl ?_
  have k := HW4.out
  have hk := HR7.out.2.2.2.2.2.keep q5 (fun x hx hm => by have := hx.1; simp at hm; omega)
  refine ⟨_, rfl, hk.mono (fun x hx => ⟨Nat.le_trans k.2.1 hx.1, Nat.lt_of_lt_of_le hx.2 (Nat.le_trans HS7.out q5.size)⟩), m07.trans q5 (fun i hi hm => by have := HB2.out; simp at hm; omega)⟩
end
end Go.Proofs.YtchanildogjhgaaDoor

