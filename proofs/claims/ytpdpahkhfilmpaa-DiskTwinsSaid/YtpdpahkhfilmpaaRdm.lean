/-
  The document's own disk, as a value: what Ask needs. Words of mine.
-/
import Derived.Test.YtpdpahkhfilmpaaRdl
namespace Go.Proofs.Ytpdpahkhfilmpaa
open Go.RowKit
open Rg
/-- The seven cells of the document's disk. -/
def kc (z f : Int) (S : Value) (out : Bool) (ar fa op : Int) : List Value := [.int .i64 z, .int .i64 f, S, .bool out, .int .i64 ar, .int .i64 fa, .int .i64 op]
theorem kc_cells {w : World} {g : Nat} {z f ar fa op : Int} {A : Option Addr} {N c : Nat} {out : Bool} (h : Holds w g 30 (kc z f (.slice A N c) out ar fa op)) :
    w.cell? ⟨g, 0, none⟩ = some (.int .i64 z) ∧ w.cell? ⟨g, 1, none⟩ = some (.int .i64 f) ∧ w.cell? ⟨g, 2, none⟩ = some (.slice A N c) ∧ w.cell? ⟨g, 3, none⟩ = some (.bool out) ∧ w.cell? ⟨g, 4, none⟩ = some (.int .i64 ar) ∧ w.cell? ⟨g, 5, none⟩ = some (.int .i64 fa) ∧ w.cell? ⟨g, 6, none⟩ = some (.int .i64 op) :=
  ⟨h.cell 0, h.cell 1, h.cell 2, h.cell 3, h.cell 4, h.cell 5, h.cell 6⟩
theorem kc_one (z f : Int) (A : Option Addr) (N c : Nat) (out : Bool) (ar fa op : Int) : ∀ v ∈ kc z f (.slice A N c) out ar fa op, v.oneCell' = true := by
  intro v hv
  simp only [kc, List.mem_cons, List.not_mem_nil, or_false] at hv
  rcases hv with rfl | rfl | rfl | rfl | rfl | rfl | rfl <;> rfl
theorem kc_r0 (z f : Int) (S : Value) (out : Bool) (ar fa op : Int) : (kc z f S out ar fa op).length = r0.length := rfl
theorem kc_size (z f : Int) (S : Value) (out : Bool) (ar fa op : Int) : (Try.prog.info? 30).map (·.size) = some (kc z f S out ar fa op).length := size30
theorem kc_lt (z f : Int) (S : Value) (out : Bool) (ar fa op : Int) {k : Nat} (h : k < 7) : k < (kc z f S out ar fa op).length := h
theorem one_int (k : IntKind) (z : Int) : (Value.int k z).oneCell' = true := rfl
theorem one_bool (z : Bool) : (Value.bool z).oneCell' = true := rfl
theorem kc_put1 {w : World} {g : Nat} {z f ar fa op : Int} {S : Value} {out : Bool} {v : Int} (h : Holds w g 30 ((kc z f S out ar fa op).set 1 (.int .i64 v))) : Holds w g 30 (kc z v S out ar fa op) := h
theorem kc_put2 {w : World} {g : Nat} {z f ar fa op : Int} {S : Value} {out : Bool} {v : Value} (h : Holds w g 30 ((kc z f S out ar fa op).set 2 (v))) : Holds w g 30 (kc z f v out ar fa op) := h
theorem kc_put3 {w : World} {g : Nat} {z f ar fa op : Int} {S : Value} {out : Bool} {v : Bool} (h : Holds w g 30 ((kc z f S out ar fa op).set 3 (.bool v))) : Holds w g 30 (kc z f S v ar fa op) := h
theorem kc_put4 {w : World} {g : Nat} {z f ar fa op : Int} {S : Value} {out : Bool} {v : Int} (h : Holds w g 30 ((kc z f S out ar fa op).set 4 (.int .i64 v))) : Holds w g 30 (kc z f S out v fa op) := h
theorem kc_put5 {w : World} {g : Nat} {z f ar fa op : Int} {S : Value} {out : Bool} {v : Int} (h : Holds w g 30 ((kc z f S out ar fa op).set 5 (.int .i64 v))) : Holds w g 30 (kc z f S out ar v op) := h
theorem kc_put6 {w : World} {g : Nat} {z f ar fa op : Int} {S : Value} {out : Bool} {v : Int} (h : Holds w g 30 ((kc z f S out ar fa op).set 6 (.int .i64 v))) : Holds w g 30 (kc z f S out ar fa v) := h
/-- A cell of a block is written. -/
theorem wpList_put {P : Program} {w : World} {ops : Array Oper} {rest : List Oper} {o : Oper} {a : Act} {Q : Exit → Act → World → Prop} (hgd : o.guard = none) (ty : TypeId) (x y : Operand) (ho : o.op = .store ty x y) (hdst : o.dst = none) (g k : Nat) (hx : a.eval x = .pointer (some ⟨g, k, none⟩)) (V : Value) (hy : a.eval y = V) (h1 : V.oneCell' = true)
    (hi : (P.info? ty).map (·.size) = some 1) (t : TypeId) (cs : List Value) (hh : Holds w g t cs) (hk : k < cs.length)
    (h : ∀ v, Holds v g t (cs.set k V) → Mod [g] w v → wpList P ops Q rest a v) : wpList P ops Q (o :: rest) a w := by
  refine wpList_plain hgd fun K hK => ?_
  obtain ⟨it, hq⟩ : ∃ it, P.info? ty = some it := by
    cases hq : P.info? ty with
    | none => simp [hq] at hi
    | some it => exact ⟨it, rfl⟩
  have hs : it.size = 1 := by simpa [hq] using hi
  have hc : w.cell? ⟨g, k, none⟩ = some cs[k] := by rw [hh.cell k]; exact List.getElem?_eq_getElem hk
  have hrun := Rg.exec_store1 (P := P) (ρ := a.eval) ho hx hy h1 hq hs hc (hh.free k)
  unfold Oper.wp
  rw [hrun]
  refine hK _ _ ?_
  show wpList P ops Q rest (a.put o.dst undef) _
  rw [hdst]
  exact h _ (hh.set k V) (Mod.setCell _ (by simp) _)
theorem one3 : (Try.prog.info? 3).map (·.size) = some 1 := by kernel_rfl
theorem one4 : (Try.prog.info? 4).map (·.size) = some 1 := by kernel_rfl
theorem ask_start {w w1 w2 w3 : World} {cs ds es : List Value} {t t' t'' : TypeId} (hb1 : Holds w1 w.heap.size t cs) (m1 : Mod [] w w1) (z1 : w1.heap.size = w.heap.size + 1) (hb2 : Holds w2 w1.heap.size t' ds) (m2 : Mod [] w1 w2) (z2 : w2.heap.size = w1.heap.size + 1) (hb3 : Holds w3 w2.heap.size t'' es) (m3 : Mod [] w2 w3) (_ : w3.heap.size = w2.heap.size + 1) :
    ∃ g4 g7 g8, Holds w3 g4 t cs ∧ Holds w3 g7 t' ds ∧ Holds w3 g8 t'' es ∧ (w.heap.size ≤ g4 ∧ g4 < g7 ∧ g7 < g8) ∧ g4 = w.heap.size ∧ g7 = w1.heap.size ∧ g8 = w2.heap.size ∧ Mod [] w w3 :=
  ⟨_, _, _, (hb1.keep m2 (by simp)).keep m3 (by simp), hb2.keep m3 (by simp), hb3, by omega, rfl, rfl, rfl, (m1.then m2).then m3⟩
/-- Behind Ask: the document's disk turned, and what it answers. -/
def AskPost (w : World) (r : RSt × Int) (e : Ending) (w' : World) : Prop := ∃ A' c', e = .returned (.tuple #[rv r.1 A' c', .int .i64 r.2]) ∧ Told w' r.1 A' c' ∧ Mod [] w w'
end Go.Proofs.Ytpdpahkhfilmpaa
