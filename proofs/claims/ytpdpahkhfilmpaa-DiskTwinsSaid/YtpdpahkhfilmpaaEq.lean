/-
  Blocks held against one another. My own work.
-/
import Derived.Test.YtpdpahkhfilmpaaFar
import Derived.Laws.StructEq
namespace Go.Proofs.Ytpdpahkhfilmpaa
open Go.RowKit
theorem exec_eql39 {ρ : Operand → Value} {o : Oper} {x y : Operand} {b : Blk} {v : World} (ho : o.op = .binOp .eql 39 x y 39) (hx : ρ x = bv b) (hy : ρ y = bv b) : (execOp ρ o).run Try.prog v = .ok (.value (.bool true)) v := by
  have h := run_eq_blk b 9998 v
  have hg : Try.prog.eqGuardType Try.prog.depth 39 = false := by kernel_rfl
  have hx' : ρ x = .agg (bc b).toArray := hx
  have hy' : ρ y = .agg (bc b).toArray := hy
  have h' : (Op.equalIn 10000 39 (.agg (bc b).toArray) (.agg (bc b).toArray)).run Try.prog v = .ok true v := h
  unfold execOp
  simp [ho, hx', hy', go_sem, run_eqGuard_agg, hg, run_eql_struct, h', Result.andThen]
theorem exec_neq39 {ρ : Operand → Value} {o : Oper} {x y : Operand} {b : Blk} {v : World} (ho : o.op = .binOp .neq 39 x y 39) (hx : ρ x = bv b) (hy : ρ y = bv b) : (execOp ρ o).run Try.prog v = .ok (.value (.bool false)) v := by
  have h := run_eq_blk b 9998 v
  have hg : Try.prog.eqGuardType Try.prog.depth 39 = false := by kernel_rfl
  have hx' : ρ x = .agg (bc b).toArray := hx
  have hy' : ρ y = .agg (bc b).toArray := hy
  have h' : (Op.equalIn 10000 39 (.agg (bc b).toArray) (.agg (bc b).toArray)).run Try.prog v = .ok true v := h
  unfold execOp
  simp [ho, hx', hy', go_sem, run_eqGuard_agg, hg, run_neq_struct, h', Result.andThen]
theorem exec_zero39 {ρ : Operand → Value} {o : Oper} {v : World} (ho : o.op = .build 39 #[]) : (execOp ρ o).run Try.prog v = .ok (.value (bv (fil 0))) v := by
  have hrun : (Instr.build 39 #[]).run Try.prog v = .ok (.agg (bc (fil 0)).toArray) v := by
    refine run_build v _ _ _ ?_
    kernel_rfl
  unfold execOp
  simp only [ho, List.map_toArray, List.map_nil, Sem.run_bind, hrun, Result.andThen, Sem.run_pure]
  rfl
end Go.Proofs.Ytpdpahkhfilmpaa
