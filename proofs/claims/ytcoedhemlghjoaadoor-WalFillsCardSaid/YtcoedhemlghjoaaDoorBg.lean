/-
  My own texts Wk Far Eq, one behind the other.
-/
import Derived.Test.YtcoedhemlghjoaaDoorBf
import Derived.Test.YtcoedhemlghjoaaDoorBd
import Derived.BigQuiet
import Derived.Deep.QuietTactic
import Derived.Laws.StructEq
namespace Go.Proofs.YtcoedhemlghjoaaDoor
section
open Go.RowKit
section laws
variable {P : Program} {w : World} {ops : Array Oper} {rest : List Oper} {o : Oper} {a : Act} {Q : Exit → Act → World → Prop}
/-- A value of many cells is loaded, if it is wanted. -/
theorem wpList_loadsW (hw : Region.wanted o (yielded ops a.tmps) = true) (ty : TypeId) (x : Operand) (ho : o.op = .load ty x) (g f : Nat) (cs : List Value) (hx : a.eval x = .pointer (some ⟨g, f, none⟩)) (hc : Cells w (some ⟨g, f, none⟩) cs)
    (d : TypeDesc) (hu : P.underlying ty = some d) (hd : (match d with | .struct _ | .array _ _ => true | _ => false) = true) (hi : (P.info? ty).map (·.size) = some cs.length)
    (V : Value) (hV : V = .agg cs.toArray)
    (h : wpList P ops Q rest (a.put o.dst V) w) : wpList P ops Q (o :: rest) a w := by
  subst hV
  refine wpList_step fun K hK => ?_
  rw [if_pos hw]
  unfold Oper.wp execOp
  simp only [ho, hx, Instr.loadAt, Instr.sureAddr, Sem.run_bind, Sem.run_pure, Result.andThen_ok, run_loads hc hu hd hi]
  exact hK _ _ h
/-- An operation that yields a value, if it is wanted. -/
theorem wpList_ranW (hw : Region.wanted o (yielded ops a.tmps) = true) (V : Value) (v : World) (hrun : (execOp a.eval o).run P w = .ok (.value V) v) (h : wpList P ops Q rest (a.put o.dst V) v) : wpList P ops Q (o :: rest) a w := by
  refine wpList_step fun K hK => ?_
  rw [if_pos hw]
  unfold Oper.wp
  rw [hrun]
  exact hK _ _ h
end laws
end
section
open Go.RowKit
theorem far_mod {w v v' : World} {ms : List Nat} (h : Mod [] w v) (k : Mod ms v v') (hm : ∀ i ∈ ms, w.heap.size ≤ i) : Mod [] w v' := h.trans k (fun i hi h => by have := hm i h; omega)
/-- A disk that is the call's own. -/
structure Far (w v : World) (g m : Nat) (A : Option Addr) (c : Nat) (S : St) : Prop where
  D : DAt v g m A c S
  mm : Mod [] w v
  g : w.heap.size ≤ g
  m : w.heap.size ≤ m
  A : ∀ a, A = some a → w.heap.size ≤ a.block
section
variable {w v : World} {g m c : Nat} {A : Option Addr} {S : St}
end
end
section
open Go.RowKit
end
end Go.Proofs.YtcoedhemlghjoaaDoor
