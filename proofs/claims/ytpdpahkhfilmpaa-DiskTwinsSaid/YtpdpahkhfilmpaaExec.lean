/-
  Single operations run: what each yields. My own work.
-/
import Derived.Test.YtpdpahkhfilmpaaDraw
namespace Go.Proofs.Ytpdpahkhfilmpaa
open Go.RowKit
/-- What is asked of the region's text alone. -/
def drawnB (ops : Array Oper) (nt : Nat) : Bool := (List.range ops.size).all fun j => ((ops[j]?).map fun o => o.after.all (fun e => decide (e.on < j)) && (o.dst.map fun s => decide (s < nt)).getD true).getD true
theorem drawnB_lt {ops : Array Oper} {nt : Nat} (h : drawnB ops nt = true) (i : Nat) (o : Oper) (ho : ops[i]? = some o) : ∀ e ∈ o.after, e.on < i := by
  intro e he
  have hi := (Array.getElem?_eq_some_iff.1 ho).1
  have := List.all_eq_true.1 h i (List.mem_range.2 hi)
  rw [ho] at this
  simp only [Option.map_some, Option.getD_some, Bool.and_eq_true] at this
  simpa using Array.all_eq_true_iff_forall_mem.1 this.1 e he
theorem drawnB_dst {ops : Array Oper} {nt : Nat} (h : drawnB ops nt = true) (i : Nat) (o : Oper) (s : Nat) (ho : ops[i]? = some o) (hs : o.dst = some s) : s < nt := by
  have hi := (Array.getElem?_eq_some_iff.1 ho).1
  have := List.all_eq_true.1 h i (List.mem_range.2 hi)
  rw [ho] at this
  simp only [Option.map_some, Option.getD_some, Bool.and_eq_true, hs] at this
  simpa using this.2
theorem eval_tmp {T : Act} {s : Nat} {x : Value} (h : T.tmps[s]? = some x) : T.eval (.tmp s) = x := by
  show T.tmps.getD s undef = x
  simp [Array.getD_eq_getD_getElem?, h]
theorem wp_ran {P : Program} {o : Oper} {ops : Array Oper} {T : Act} {v v' : World} {u : Value} {K : Act → World → Prop} {Q : Exit → Act → World → Prop} {E : Prop} (hg : o.guard = none) (h : (execOp T.eval o).run P v = .ok (.value u) v') (hK : K (T.put o.dst u) v') :
    if Region.wanted o (yielded ops T.tmps) = true then o.wp P T v K Q else E := by
  have hw : Region.wanted o (yielded ops T.tmps) = true := by unfold Region.wanted; rw [hg]
  rw [if_pos hw]
  unfold Oper.wp
  rw [h]
  exact hK
theorem wp_ran_skip {P : Program} {o : Oper} {ops : Array Oper} {T : Act} {v v' : World} {K : Act → World → Prop} {Q : Exit → Act → World → Prop} {E : Prop} (hg : o.guard = none) (h : (execOp T.eval o).run P v = .ok .skip v') (hK : K (T.put o.dst undef) v') :
    if Region.wanted o (yielded ops T.tmps) = true then o.wp P T v K Q else E := by
  have hw : Region.wanted o (yielded ops T.tmps) = true := by unfold Region.wanted; rw [hg]
  rw [if_pos hw]
  unfold Oper.wp
  rw [h]
  exact hK
section
variable {v : World} {o : Oper} {ρ : Operand → Value}
theorem exec_load {P : Program} {ty : TypeId} {x : Operand} {A : Addr} {u : Value} (ho : o.op = .load ty x) (hx : ρ x = .pointer (some A)) (h : (loadVar ty A).run P v = .ok u v) : (execOp ρ o).run P v = .ok (.value u) v := by
  unfold execOp
  simp only [ho, hx, Instr.loadAt, Instr.sureAddr, Sem.run_bind, Sem.run_pure, Result.andThen_ok, h]
theorem run_load1 {P : Program} {ty : TypeId} {A : Addr} {u : Value} {d : TypeDesc} (hu : P.underlying ty = some d) (hd : (match d with | .struct _ | .array _ _ => true | _ => false) = false) (h : v.cell? A = some u) : (loadVar ty A).run P v = .ok u v := by
  have hagg : (isAgg ty).run P v = .ok false v := by
    unfold isAgg
    rw [Sem.run_bind, run_underlying hu v]
    cases d <;> simp_all
  simp [loadVar, Sem.run_bind, hagg, h]
theorem exec_nil {P : Program} {x : Operand} {A : Addr} (ho : o.op = .nilCheck x) (hx : ρ x = .pointer (some A)) : (execOp ρ o).run P v = .ok (.value (.pointer (some A))) v := by
  unfold execOp
  simp [ho, hx, go_sem]
theorem exec_field74 {x : Operand} {g : Nat} (ho : o.op = .fieldAddr 74 x 0) (hx : ρ x = .pointer (some ⟨g, 0, none⟩)) : (execOp ρ o).run Try.prog v = .ok (.value (.pointer (some ⟨g, 0, none⟩))) v := by
  unfold execOp
  simp [ho, hx, go_sem]
theorem exec_field72_2 {x : Operand} {g : Nat} (ho : o.op = .fieldAddr 72 x 2) (hx : ρ x = .pointer (some ⟨g, 0, none⟩)) : (execOp ρ o).run Try.prog v = .ok (.value (.pointer (some ⟨g, 2, none⟩))) v := by
  unfold execOp
  simp [ho, hx, go_sem]
theorem exec_build84 {x y : Operand} {i : Int} {b : Blk} (ho : o.op = .build 84 #[(0, x), (1, y)]) (hx : ρ x = .int .i64 i) (hy : ρ y = bv b) : (execOp ρ o).run Try.prog v = .ok (.value (wv (i, b))) v := by
  unfold execOp
  simp only [ho, List.map_toArray, List.map_cons, List.map_nil, hx, hy, Sem.run_bind, run_build84, Result.andThen, Sem.run_pure]
theorem exec_lit {P : Program} {t : TypeId} {n : Nat} {x : Operand} {V U : Value} {v' : World} (ho : o.op = .buildSlice t n #[(0, x)]) (hx : ρ x = V) (h : (Instr.buildSlice t n #[(0, V)]).run P v = .ok U v') : (execOp ρ o).run P v = .ok (.value U) v' := by
  unfold execOp
  simp only [ho, List.map_toArray, List.map_cons, List.map_nil, hx, Sem.run_bind, h, Result.andThen, Sem.run_pure]
theorem exec_append {P : Program} {s x : Operand} {t : TypeId} {V U Z : Value} {v' : World} (ho : o.op = .call { callee := .builtin .append, args := #[s, x], argTypes := #[t, t] }) (hs : ρ s = V) (hx : ρ x = U) (h : (Builtin.append_ #[t, t] o.type #[V, U]).run P v = .ok Z v') : (execOp ρ o).run P v = .ok (.value Z) v' := by
  unfold execOp
  simp only [ho, resolve, invoke, builtin, Sem.run_bind, Sem.run_pure, Result.andThen_ok, List.map_toArray, List.map_cons, List.map_nil, hs, hx, h]
theorem exec_store1 {P : Program} {x y : Operand} {A : Addr} {ty : TypeId} {u old : Value} {it : TypeInfo} (ho : o.op = .store ty x y) (hx : ρ x = .pointer (some A)) (hy : ρ y = u) (h1 : u.oneCell' = true) (hi : P.info? ty = some it) (hs : it.size = 1) (hc : v.cell? A = some old) (hf : v.frozen? A = false) : (execOp ρ o).run P v = .ok .skip (v.setCell A u) := by
  have hcs : u.cells = #[u] := by cases u <;> simp_all [Value.oneCell', Value.cells]
  have h0 : A.add 0 = A := rfl
  unfold execOp
  simp [ho, hx, hy, Instr.storeAt, Instr.sureAddr, storeVar, sizeOf, typeInfo, hi, hcs, hs, storeCells, h0, run_store P v A u _ h1, hc, hf]
end
end Go.Proofs.Ytpdpahkhfilmpaa
