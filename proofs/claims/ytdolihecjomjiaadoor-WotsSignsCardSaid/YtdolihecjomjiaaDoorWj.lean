/-
  One digest more behind a row of the call's own: what a region that draws its order has made so far. My own work.
-/
import Derived.Test.YtdolihecjomjiaaDoorWi
namespace Go.Proofs.YtdolihecjomjiaaDoor
open Go.RowKit Go.Shelf
theorem exec_call4 {P : Program} {v : World} {o : Oper} {ρ : Operand → Value} {f : FuncId} {x y z u : Operand} {X Y Z U : Value} {ts : Array TypeId} (ho : o.op = .call { callee := .value (.func f), args := #[x, y, z, u], argTypes := ts }) (hf : ρ (.func f) = .func (.func f) #[] #[]) (hx : ρ x = X) (hy : ρ y = Y) (hz : ρ z = Z) (hu : ρ u = U) (he : ∀ args w, (callFunc f args).run P w = .ok (.enter f args) w) : (execOp ρ o).run P v = .ok (.enter f #[X, Y, Z, U]) v := by
  unfold execOp
  simp [ho, resolve, invoke, go_sem, hf, hx, hy, hz, hu, he]
theorem OwnG.own {α : Type} {f : α → List Value} {e : TypeId} {size : Nat} {W W' : World} {A : Option Addr} {c : Nat} {l : List α} {row : Option Nat} (h : OwnG f e size W A c l) (hg : W.grownBy W' row) (hr : ∀ r, row = some r → ∃ o : Obj, W.heap[r]? = some o ∧ o.isCells = false) : OwnG f e size W' A c l := by
  refine ⟨h.1, ?_⟩
  rcases h.2 with h0 | ⟨g, cap, cur, hv, hb, hg', rest⟩
  · exact .inl h0
  · refine .inr ⟨g, cap, cur, hv, hb, ?_, rest⟩
    exact (hg.block g (Array.getElem?_eq_some_iff.1 hg').1 (fun e => by obtain ⟨o, ho, hc⟩ := hr g e.symm; rw [hg'] at ho; cases ho; cases hc)).trans hg'
theorem id_parts : (Tryd.prog.info? 25).map (fun i => (i.zero, i.size, i.bytes)) = some (some (iv zeroI), 32, 32) := by kernel_rfl
/-- What has been made: the block of the literal, and the row behind append. -/
structure Xk where
  b : Nat
  C : Option Addr
  c : Nat
def SbK (ms : List Nat) (W : World) (r : List Idv) (e : Idv) (A : Option Addr) (c : Nat) (L4 L5 : Bool) (x : Xk) (v : World) : Prop :=
  Mod ms W v ∧ (∀ i ∈ blk A, i ∈ ms) ∧ (L5 = false → OwnG ic 25 32 v A c r) ∧ (L4 = true → L5 = false → Holds v x.b 25 (ic e)) ∧
    (L5 = true → OwnG ic 25 32 v x.C x.c (r ++ [e]) ∧ ∀ i ∈ blk x.C, i ∈ blk A ∨ W.heap.size ≤ i)
section
variable {ms : List Nat} {W : World} {r : List Idv} {e : Idv} {A : Option Addr} {c : Nat} {L4 L5 : Bool} {x : Xk} {v v' : World}
theorem SbK.mod0 (h : SbK ms W r e A c L4 L5 x v) (m : Mod [] v v') : SbK ms W r e A c L4 L5 x v' :=
  ⟨h.1.then m, h.2.1, fun q => (h.2.2.1 q).keep m (by simp), fun q q' => (h.2.2.2.1 q q').keep m (by simp), fun q => ⟨(h.2.2.2.2 q).1.keep m (by simp), (h.2.2.2.2 q).2⟩⟩
theorem SbK.lit (h : SbK ms W r e A c L4 false x v) : SbK ms W r e A c true false { x with b := v.heap.size } (v.alloc (.cells (ic e).toArray 25)) := by
  have m : Mod [] v (v.alloc (.cells (ic e).toArray 25)) := Mod.alloc [] v _
  exact ⟨h.1.then m, h.2.1, fun q => (h.2.2.1 q).keep m (by simp), fun _ _ => Holds.made v 25 _, (fun q => by cases q)⟩
theorem SbK.app (h : SbK ms W r e A c true false x v) {o : Oper} {ρ : Operand → Value} (s y : Operand) (ho : o.op = .call { callee := .builtin .append, args := #[s, y], argTypes := #[22, 22] }) (hs : ρ s = .slice A r.length c) (hy : ρ y = .slice (some ⟨x.b, 0, none⟩) 1 1) (hr : r.length ≤ 100) :
    ∃ C1 c1 w', (execOp ρ o).run Tryd.prog v = .ok (.value (.slice C1 (r.length + 1) c1)) w' ∧ SbK ms W r e A c true true { x with C := C1, c := c1 } w' ∧ Mod (blk A) v w' := by
  obtain ⟨i0, j1, j2, j3, j4⟩ := info_parts id_parts
  obtain ⟨h0, hA, h1, h2, _⟩ := h
  have O := h1 rfl
  have hb := h2 rfl rfl
  have h63 : (r.length + [e].length) * 32 ≤ 140737488355328 := by simp only [List.length_cons, List.length_nil]; omega
  have h64 : r.length + [e].length ≤ maxLen := by
    have h9 : (200 : Nat) ≤ maxLen := by decide
    simp only [List.length_cons, List.length_nil]; omega
  obtain ⟨C1, c1, w', hrun, g1, g2, g3⟩ := exec_appendG (P := Tryd.prog) (f := ic) (size := 32) v (o := o) (ρ := ρ) s y 22 ho 25 i0 (iv zeroI) 32 Tryd.underlying22 j1 j2 j3 j4 (by rfl) (by decide) ic_length ic_one A c r hs O ⟨x.b, 0, none⟩ 1 [e] hy (by simpa using Cells.of_holds hb) h63 h64
  rw [show (r ++ [e]).length = r.length + 1 by simp] at hrun
  refine ⟨C1, c1, w', hrun, ⟨h0.trans g2 (fun i hi hh => hA i hh), hA, (fun q => by cases q), (fun _ q => by cases q), fun _ => ⟨g1, fun i hi => ?_⟩⟩, g2⟩
  · obtain ⟨a, ha, rfl⟩ := mem_blk hi
    rcases g3 a ha with q | q
    · exact .inl q
    · exact .inr (Nat.le_trans h0.size q)
end
end Go.Proofs.YtdolihecjomjiaaDoor
