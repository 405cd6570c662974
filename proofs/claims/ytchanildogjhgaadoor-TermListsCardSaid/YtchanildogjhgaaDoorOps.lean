/-
  Single operations as they are run: laws of mine that name no function and no type.
-/
import Derived.Test.YtchanildogjhgaaDoorGen
namespace Go.Proofs.YtchanildogjhgaaDoor
open Go.RowKit Go.Shelf
section
variable {P : Program} {v : World} {o : Oper} {ρ : Operand → Value} {x y : Operand}
theorem exec_neb {P : Program} {t t' : TypeId} {a b : Bool} (hu : P.underlying t = some .bool) (ho : o.op = .binOp .neq t x y t') (hx : ρ x = .bool a) (hy : ρ y = .bool b) : (execOp ρ o).run P v = .ok (.value (.bool (a != b))) v := by
  unfold execOp
  have h := run_neq_bool (P := P) v t a b hu
  simp [ho, hx, hy, go_sem, h]
  cases a <;> cases b <;> rfl
theorem exec_not {P : Program} {t : TypeId} {a : Bool} (ho : o.op = .unOp .not t x) (hx : ρ x = .bool a) : (execOp ρ o).run P v = .ok (.value (.bool (!a))) v := by
  unfold execOp
  simp [ho, hx, go_sem]
theorem exec_pick {P : Program} {c : Operand} {b : Bool} {X Y V : Value} (ho : o.op = .pick c x y) (hc : ρ c = .bool b) (hx : ρ x = X) (hy : ρ y = Y) (hV : V = if b = true then X else Y) : (execOp ρ o).run P v = .ok (.value V) v := by
  subst hV
  unfold execOp
  cases b <;> simp [ho, hc, hx, hy, go_sem]
end
section
variable {P : Program} {o : Oper} {ops : Array Oper} {T : Act} {v v' : World} {K : Act → World → Prop} {Q : Exit → Act → World → Prop}
theorem wanted_is {i s : Nat} {b c : Bool} {oi : Oper} (hg : o.guard = some (i, b)) (hi : ops[i]? = some oi) (hd : oi.dst = some s) (ht : T.tmps[s]? = some (.bool c)) : Region.wanted o (yielded ops T.tmps) = (c == b) := by
  unfold Region.wanted yielded
  rw [hg]
  simp only [hi, Option.bind_some, hd, ht]
  cases c <;> cases b <;> rfl
theorem wanted_yes {i s : Nat} {b : Bool} {oi : Oper} (hg : o.guard = some (i, b)) (hi : ops[i]? = some oi) (hd : oi.dst = some s) (ht : T.tmps[s]? = some (.bool b)) : Region.wanted o (yielded ops T.tmps) = true := by
  rw [wanted_is hg hi hd ht]; simp
theorem wanted_no {i s : Nat} {b c : Bool} {oi : Oper} (hn : c = !b) (hg : o.guard = some (i, b)) (hi : ops[i]? = some oi) (hd : oi.dst = some s) (ht : T.tmps[s]? = some (.bool c)) : Region.wanted o (yielded ops T.tmps) = false := by
  rw [wanted_is hg hi hd ht, hn]; cases b <;> rfl
theorem wp_skip (hw : Region.wanted o (yielded ops T.tmps) = false) (hK : K (T.put o.dst undef) v) : if Region.wanted o (yielded ops T.tmps) = true then o.wp P T v K Q else K (T.put o.dst undef) v := by
  rw [if_neg (by rw [hw]; simp)]
  exact hK
theorem wp_ranW {E : Prop} {u : Value} (hw : Region.wanted o (yielded ops T.tmps) = true) (h : (execOp T.eval o).run P v = .ok (.value u) v') (hK : K (T.put o.dst u) v') : if Region.wanted o (yielded ops T.tmps) = true then o.wp P T v K Q else E := by
  rw [if_pos hw]
  unfold Oper.wp
  rw [h]
  exact hK
theorem wp_calledW {E : Prop} {f : FuncId} {args : Array Value} (hw : Region.wanted o (yielded ops T.tmps) = true) (h : (execOp T.eval o).run P v = .ok (.enter f args) v)
    (hc : Calls P f args v fun e v' => ∃ u, e = .returned u ∧ K (T.put o.dst u) v') : if Region.wanted o (yielded ops T.tmps) = true then o.wp P T v K Q else E := by
  rw [if_pos hw]
  unfold Oper.wp
  rw [h]
  refine hc.mono ?_
  rintro e v' ⟨u, rfl, hK⟩
  exact hK
end
/-- A value of many cells is loaded, if it is wanted. -/
theorem wpList_loadsW {P : Program} {w : World} {ops : Array Oper} {rest : List Oper} {o : Oper} {a : Act} {Q : Exit → Act → World → Prop} (hw : Region.wanted o (yielded ops a.tmps) = true) (ty : TypeId) (x : Operand) (ho : o.op = .load ty x) (g f : Nat) (cs : List Value) (hx : a.eval x = .pointer (some ⟨g, f, none⟩)) (hc : Cells w (some ⟨g, f, none⟩) cs)
    (d : TypeDesc) (hu : P.underlying ty = some d) (hd : (match d with | .struct _ | .array _ _ => true | _ => false) = true) (hi : (P.info? ty).map (·.size) = some cs.length)
    (V : Value) (hV : V = .agg cs.toArray)
    (h : wpList P ops Q rest (a.put o.dst V) w) : wpList P ops Q (o :: rest) a w := by
  subst hV
  refine wpList_step fun K hK => ?_
  rw [if_pos hw]
  unfold Oper.wp execOp
  simp only [ho, hx, Instr.loadAt, Instr.sureAddr, Sem.run_bind, Sem.run_pure, Result.andThen_ok, run_loads hc hu hd hi]
  exact hK _ _ h
section
variable {P : Program} {v : World} {o : Oper} {ρ : Operand → Value} {x y : Operand}
def frm (A : Option Addr) (k c : Nat) : Option Addr := if c = k then A else A.map (·.add k)
theorem exec_from {t e : TypeId} {A : Option Addr} {n c k : Nat} (hu : P.underlying t = some (.slice e)) (he : (P.info? e).map (·.size) = some 1) (hk : k ≤ n) (ho : o.op = .slice t x (some y) none none) (hx : ρ x = .slice A n c) (hy : ρ y = .int .i64 (k : Int)) :
    (execOp ρ o).run P v = .ok (.value (.slice (frm A k c) (n - k) (c - k))) v := by
  unfold execOp
  cases hq : P.info? e with
  | none => rw [hq] at he; cases he
  | some it =>
    have hs : it.size = 1 := by rw [hq] at he; simpa using he
    simp [ho, hx, hy, Instr.sliceAt, Instr.slice, Instr.sliceBounds, Instr.sliceBound, Sem.run_bind, run_underlying hu, go_sem, sizeOf, typeInfo, hq, hs, hk, frm]
theorem exec_upto {t e : TypeId} {A : Option Addr} {n c k : Nat} (hu : P.underlying t = some (.slice e)) (he : (P.info? e).map (·.size) = some 1) (hk : k ≤ c) (ho : o.op = .slice t x none (some y) none) (hx : ρ x = .slice A n c) (hy : ρ y = .int .i64 (k : Int)) :
    (execOp ρ o).run P v = .ok (.value (.slice A k c)) v := by
  unfold execOp
  have h0 : ∀ a : Addr, a.add 0 = a := fun _ => rfl
  have h1 : (if c = 0 then A else A.map (·.add 0)) = A := by
    split
    · rfl
    · cases A <;> simp [h0]
  cases hq : P.info? e with
  | none => rw [hq] at he; cases he
  | some it =>
    simp [ho, hx, hy, Instr.sliceAt, Instr.slice, Instr.sliceBounds, Instr.sliceBound, Sem.run_bind, run_underlying hu, go_sem, sizeOf, typeInfo, hq, hk, h0]
theorem exec_ixs {t e : TypeId} {n c g f z : Nat} {i : Nat} (hu : P.underlying t = some (.slice e)) (he : (P.info? e).map (·.size) = some z) (hi : i < n) (ho : o.op = .indexAddr t x y) (hx : ρ x = .slice (some ⟨g, f, none⟩) n c) (hy : ρ y = .int .i64 (i : Int)) :
    (execOp ρ o).run P v = .ok (.value (.pointer (some ⟨g, f + i * z, none⟩))) v := by
  unfold execOp
  cases hq : P.info? e with
  | none => rw [hq] at he; cases he
  | some it =>
    have hs : it.size = z := by rw [hq] at he; simpa using he
    simp [ho, hx, hy, Instr.indexAt, Sem.run_bind, run_underlying hu, go_sem, sizeOf, typeInfo, hq, hs, hi, add_plain]
end
theorem exec_stores {P : Program} {v : World} {o : Oper} {ρ : Operand → Value} {ty : TypeId} {x y : Operand} {g : Nat} {t : TypeId} {V : Value} {cs old : List Value} (ho : o.op = .store ty x y) (hx : ρ x = .pointer (some ⟨g, 0, none⟩)) (hy : ρ y = V) (hV : V = .agg cs.toArray) (hh : Holds v g t old) (hf : cs.length = old.length) (h1 : ∀ u ∈ cs, u.oneCell' = true) (hi : (P.info? ty).map (·.size) = some cs.length) :
    ∃ v', (execOp ρ o).run P v = .ok .skip v' ∧ Holds v' g t cs ∧ Mod [g] v v' ∧ v'.heap.size = v.heap.size := by
  subst hV
  obtain ⟨v', hrun, h2, h3, h4⟩ := run_stores (P := P) (ty := ty) (f := 0) hh (by omega) h1 hi
  refine ⟨v', ?_, by simpa [hf] using h2, h3, h4⟩
  unfold execOp
  simp only [ho, hx, hy, Instr.storeAt, Instr.sureAddr, Sem.run_bind, Sem.run_pure, Result.andThen_ok, hrun]
theorem wp_stored {P : Program} {v : World} {o : Oper} {ops : Array Oper} {T : Act} {Kq : Act → World → Prop} {Q : Exit → Act → World → Prop} {E : Prop} {ty : TypeId} {x y : Operand} {g : Nat} {t : TypeId} {V : Value} {cs old : List Value} (hg : o.guard = none) (ho : o.op = .store ty x y) (hx : T.eval x = .pointer (some ⟨g, 0, none⟩)) (hy : T.eval y = V) (hV : V = .agg cs.toArray) (hh : Holds v g t old) (hf : cs.length = old.length) (h1 : ∀ u ∈ cs, u.oneCell' = true) (hi : (P.info? ty).map (·.size) = some cs.length)
    (hK : ∀ v', Holds v' g t cs → Mod [g] v v' → Kq (T.put o.dst undef) v') : if Region.wanted o (yielded ops T.tmps) = true then o.wp P T v Kq Q else E := by
  obtain ⟨v', hr, q1, q2, _⟩ := exec_stores ho hx hy hV hh hf h1 hi
  exact wp_ran_skip hg hr (hK v' q1 q2)
theorem wp_alloced {P : Program} {v : World} {o : Oper} {ops : Array Oper} {T : Act} {Kq : Act → World → Prop} {Q : Exit → Act → World → Prop} {E : Prop} {ty : TypeId} {cs : List Value} (hg : o.guard = none) (ho : o.op = .alloc ty) (hz : ∀ w, (zeroValue ty).run P w = .ok (.agg cs.toArray) w)
    (hK : ∀ v', Holds v' v.heap.size ty cs → Mod [] v v' → Kq (T.put o.dst (.pointer (some ⟨v.heap.size, 0, none⟩))) v') : if Region.wanted o (yielded ops T.tmps) = true then o.wp P T v Kq Q else E := by
  have hrun : (Instr.alloc ty true (.tuple #[])).run P v = .ok (.pointer (some ⟨v.heap.size, 0, none⟩)) (v.alloc (.cells cs.toArray ty)) := by
    simp [Instr.alloc, hz, newVar, newRow, Value.cells, go_sem]
  refine wp_ran (v' := v.alloc (.cells cs.toArray ty)) hg ?_ (hK _ (Holds.made v ty cs) (Mod.alloc [] v _))
  unfold execOp
  simp only [ho, Sem.run_bind, hrun, Result.andThen, Sem.run_pure]
section
variable {P : Program} {v : World} {o : Oper} {ρ : Operand → Value} {x y : Operand}
theorem exec_eqi {t t' : TypeId} {k : IntKind} {a b : Int} {r : Bool} (hr : (a == b) = r) (ho : o.op = .binOp .eql t x y t') (hx : ρ x = .int k a) (hy : ρ y = .int k b) : (execOp ρ o).run P v = .ok (.value (.bool r)) v := by
  subst hr
  unfold execOp
  simp [ho, hx, hy, go_sem]
theorem exec_nei {t t' : TypeId} {k : IntKind} {a b : Int} {r : Bool} (hr : (!(a == b)) = r) (ho : o.op = .binOp .neq t x y t') (hx : ρ x = .int k a) (hy : ρ y = .int k b) : (execOp ρ o).run P v = .ok (.value (.bool r)) v := by
  subst hr
  unfold execOp
  simp [ho, hx, hy, go_sem]
  rfl
theorem exec_lss {t t' : TypeId} {k : IntKind} {a b : Int} {r : Bool} (hr : (decide (a < b)) = r) (ho : o.op = .binOp .lss t x y t') (hx : ρ x = .int k a) (hy : ρ y = .int k b) : (execOp ρ o).run P v = .ok (.value (.bool r)) v := by
  subst hr
  unfold execOp
  simp [ho, hx, hy, go_sem]
theorem exec_leq {t t' : TypeId} {k : IntKind} {a b : Int} {r : Bool} (hr : (decide (a ≤ b)) = r) (ho : o.op = .binOp .leq t x y t') (hx : ρ x = .int k a) (hy : ρ y = .int k b) : (execOp ρ o).run P v = .ok (.value (.bool r)) v := by
  subst hr
  unfold execOp
  simp [ho, hx, hy, go_sem]
theorem exec_gtr {t t' : TypeId} {k : IntKind} {a b : Int} {r : Bool} (hr : (decide (b < a)) = r) (ho : o.op = .binOp .gtr t x y t') (hx : ρ x = .int k a) (hy : ρ y = .int k b) : (execOp ρ o).run P v = .ok (.value (.bool r)) v := by
  subst hr
  unfold execOp
  simp [ho, hx, hy, go_sem]
theorem exec_geq {t t' : TypeId} {k : IntKind} {a b : Int} {r : Bool} (hr : (decide (b ≤ a)) = r) (ho : o.op = .binOp .geq t x y t') (hx : ρ x = .int k a) (hy : ρ y = .int k b) : (execOp ρ o).run P v = .ok (.value (.bool r)) v := by
  subst hr
  unfold execOp
  simp [ho, hx, hy, go_sem]
theorem exec_fa0 {g : Nat} (ho : o.op = .fieldAddr 24 x 0) (hx : ρ x = .pointer (some ⟨g, 0, none⟩)) : (execOp ρ o).run Tryd.prog v = .ok (.value (.pointer (some ⟨g, 0, none⟩))) v := by
  unfold execOp
  simp [ho, hx, go_sem]
theorem exec_fa1 {g : Nat} (ho : o.op = .fieldAddr 24 x 1) (hx : ρ x = .pointer (some ⟨g, 0, none⟩)) : (execOp ρ o).run Tryd.prog v = .ok (.value (.pointer (some ⟨g, 1, none⟩))) v := by
  unfold execOp
  simp [ho, hx, go_sem]
theorem exec_fa2 {g : Nat} (ho : o.op = .fieldAddr 24 x 2) (hx : ρ x = .pointer (some ⟨g, 0, none⟩)) : (execOp ρ o).run Tryd.prog v = .ok (.value (.pointer (some ⟨g, 2, none⟩))) v := by
  unfold execOp
  simp [ho, hx, go_sem]
theorem exec_fa3 {g : Nat} (ho : o.op = .fieldAddr 24 x 3) (hx : ρ x = .pointer (some ⟨g, 0, none⟩)) : (execOp ρ o).run Tryd.prog v = .ok (.value (.pointer (some ⟨g, 3, none⟩))) v := by
  unfold execOp
  simp [ho, hx, go_sem]
theorem exec_fa4 {g : Nat} (ho : o.op = .fieldAddr 24 x 4) (hx : ρ x = .pointer (some ⟨g, 0, none⟩)) : (execOp ρ o).run Tryd.prog v = .ok (.value (.pointer (some ⟨g, 4, none⟩))) v := by
  unfold execOp
  simp [ho, hx, go_sem]
theorem exec_lenS {s : ByteArray} (ho : o.op = .call { callee := .builtin .len, args := #[x], argTypes := #[9] }) (hx : ρ x = .string s) : (execOp ρ o).run Tryd.prog v = .ok (.value (.int .i64 (s.size : Int))) v := by
  unfold execOp
  simp [ho, hx, go_sem]
theorem toList_beq (a b : ByteArray) : (a.toList == b.toList) = decide (a = b) := by
  rw [ByteArray.toList_eq, ByteArray.toList_eq, Bool.eq_iff_iff]
  simp only [beq_iff_eq, decide_eq_true_eq]
  exact ⟨fun h => WideShapes.bytes_inj h, fun h => by rw [h]⟩
theorem exec_neS {a b : ByteArray} {r : Bool} (hr : (!decide (a = b)) = r) (ho : o.op = .binOp .neq 9 x y 9) (hx : ρ x = .string a) (hy : ρ y = .string b) : (execOp ρ o).run Tryd.prog v = .ok (.value (.bool r)) v := by
  subst hr
  unfold execOp
  simp [ho, hx, hy, go_sem, toList_beq]
end
end Go.Proofs.YtchanildogjhgaaDoor
