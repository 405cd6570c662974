/-
  A call in a region that draws its order. My own work.
-/
import Derived.Test.YtpdpahkhfilmpaaExec
namespace Go.Proofs.Ytpdpahkhfilmpaa
open Go.RowKit
theorem wp_called {P : Program} {o : Oper} {ops : Array Oper} {T : Act} {v : World} {K : Act → World → Prop} {Q : Exit → Act → World → Prop} {E : Prop} {f : FuncId} {args : Array Value} (hg : o.guard = none) (h : (execOp T.eval o).run P v = .ok (.enter f args) v)
    (hc : Calls P f args v fun e v' => ∃ u, e = .returned u ∧ K (T.put o.dst u) v') :
    if Region.wanted o (yielded ops T.tmps) = true then o.wp P T v K Q else E := by
  have hw : Region.wanted o (yielded ops T.tmps) = true := by unfold Region.wanted; rw [hg]
  rw [if_pos hw]
  unfold Oper.wp
  rw [h]
  refine hc.mono ?_
  rintro e v' ⟨u, rfl, hK⟩
  exact hK
section
variable {v : World} {o : Oper} {ρ : Operand → Value} {P : Program} {f : FuncId}
theorem exec_call1 {x : Operand} {X : Value} {ts : Array TypeId} (ho : o.op = .call { callee := .value (.func f), args := #[x], argTypes := ts }) (hf : ρ (.func f) = .func (.func f) #[] #[]) (hx : ρ x = X) (he : ∀ args w, (callFunc f args).run P w = .ok (.enter f args) w) : (execOp ρ o).run P v = .ok (.enter f #[X]) v := by
  unfold execOp
  simp [ho, resolve, invoke, go_sem, hf, hx, he]
theorem exec_call2 {x y : Operand} {X Y : Value} {ts : Array TypeId} (ho : o.op = .call { callee := .value (.func f), args := #[x, y], argTypes := ts }) (hf : ρ (.func f) = .func (.func f) #[] #[]) (hx : ρ x = X) (hy : ρ y = Y) (he : ∀ args w, (callFunc f args).run P w = .ok (.enter f args) w) : (execOp ρ o).run P v = .ok (.enter f #[X, Y]) v := by
  unfold execOp
  simp [ho, resolve, invoke, go_sem, hf, hx, hy, he]
theorem exec_call3 {x y z : Operand} {X Y Z : Value} {ts : Array TypeId} (ho : o.op = .call { callee := .value (.func f), args := #[x, y, z], argTypes := ts }) (hf : ρ (.func f) = .func (.func f) #[] #[]) (hx : ρ x = X) (hy : ρ y = Y) (hz : ρ z = Z) (he : ∀ args w, (callFunc f args).run P w = .ok (.enter f args) w) : (execOp ρ o).run P v = .ok (.enter f #[X, Y, Z]) v := by
  unfold execOp
  simp [ho, resolve, invoke, go_sem, hf, hx, hy, hz, he]
theorem exec_move {x : Operand} {X : Value} (ho : o.op = .move x) (hx : ρ x = X) : (execOp ρ o).run P v = .ok (.value X) v := by
  unfold execOp
  simp [ho, hx, go_sem]
theorem exec_field49 {x : Operand} {g k : Nat} (hk : k < 5) (ho : o.op = .fieldAddr 49 x k) (hx : ρ x = .pointer (some ⟨g, 0, none⟩)) : (execOp ρ o).run Try.prog v = .ok (.value (.pointer (some ⟨g, k, none⟩))) v := by
  unfold execOp
  obtain rfl | rfl | rfl | rfl | rfl : k = 0 ∨ k = 1 ∨ k = 2 ∨ k = 3 ∨ k = 4 := by omega
  all_goals simp [ho, hx, go_sem]
theorem exec_build54 {x0 x1 x2 x3 x4 : Operand} {a b c d e : Int} (ho : o.op = .build 54 #[(0, x0), (1, x1), (2, x2), (3, x3), (4, x4)]) (h0 : ρ x0 = .int .i64 a) (h1 : ρ x1 = .int .i64 b) (h2 : ρ x2 = .int .i64 c) (h3 : ρ x3 = .int .i64 d) (h4 : ρ x4 = .int .i64 e) :
    (execOp ρ o).run Try.prog v = .ok (.value (.agg #[.int .i64 a, .int .i64 b, .int .i64 c, .int .i64 d, .int .i64 e])) v := by
  have hrun : (Instr.build 54 #[(0, .int .i64 a), (1, .int .i64 b), (2, .int .i64 c), (3, .int .i64 d), (4, .int .i64 e)]).run Try.prog v = .ok (.agg #[.int .i64 a, .int .i64 b, .int .i64 c, .int .i64 d, .int .i64 e]) v := by
    refine run_build v _ _ _ ?_
    kernel_rfl
  unfold execOp
  simp only [ho, List.map_toArray, List.map_cons, List.map_nil, h0, h1, h2, h3, h4, Sem.run_bind, hrun, Result.andThen, Sem.run_pure]
end
theorem exec_index54 {ρ : Operand → Value} {o : Oper} {x y : Operand} {v : World} (k : Nat) (hk : k < 5) (ho : o.op = .index 54 x y) (hx : ρ x = .agg #[.int .i64 1, .int .i64 1, .int .i64 1, .int .i64 1, .int .i64 1]) (hy : ρ y = .int .i64 (k : Int)) :
    (execOp ρ o).run Try.prog v = .ok (.value (.int .i64 1)) v := by
  have hrun : (Instr.index 54 (.agg #[.int .i64 1, .int .i64 1, .int .i64 1, .int .i64 1, .int .i64 1]) (.int .i64 (k : Int))).run Try.prog v = .ok (.int .i64 1) v := by
    obtain rfl | rfl | rfl | rfl | rfl : k = 0 ∨ k = 1 ∨ k = 2 ∨ k = 3 ∨ k = 4 := by omega
    all_goals rfl
  unfold execOp
  simp only [ho, hx, hy, Sem.run_bind, hrun, Result.andThen, Sem.run_pure]
end Go.Proofs.Ytpdpahkhfilmpaa
