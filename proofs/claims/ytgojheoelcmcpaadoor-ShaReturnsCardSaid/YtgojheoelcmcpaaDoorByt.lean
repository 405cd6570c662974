/-
  The bytes of a text, in memory of the call's own. Laws of mine.
-/
import Derived.Test.YtgojheoelcmcpaaDoorDgw
import Derived.Laws.IdiomStrings
namespace Go.Proofs.YtgojheoelcmcpaaDoor
open Go.RowKit
/-- Block g begins with these bytes, and none of them may not be written. -/
def BR (w : World) (g : Nat) (l : List UInt8) : Prop := ∃ C : Array Value, w.heap[g]? = some (.cells C 5 (C.size, C.size + 1)) ∧ l.length ≤ C.size ∧ ∀ j (h : j < l.length), C[j]? = some (oct l[j])
section
variable {w v : World} {g : Nat} {l : List UInt8}
theorem BR.keep {ms : List Nat} (h : BR w g l) (m : Mod ms w v) (hn : g ∉ ms) : BR v g l := by
  obtain ⟨C, h1, h2, h3⟩ := h
  exact ⟨C, (m.block g (lt_some h1) hn).trans h1, h2, h3⟩
theorem BR.lt (h : BR w g l) : g < w.heap.size := by obtain ⟨C, h1, _⟩ := h; exact lt_some h1
theorem BR.cell (h : BR w g l) (j : Nat) (hj : j < l.length) : w.cell? ⟨g, j, none⟩ = some (oct l[j]) := by
  obtain ⟨C, h1, h2, h3⟩ := h
  rw [cell_of_row w g j C 5 _ h1]
  exact h3 j hj
theorem BR.free (h : BR w g l) (j : Nat) (hj : j < l.length) : w.frozen? ⟨g, j, none⟩ = false := by
  obtain ⟨C, h1, h2, h3⟩ := h
  have : ¬ C.size ≤ j := by omega
  simp [World.frozen?, h1]
  omega
theorem BR.reads (h : BR w g l) : Reads w (some ⟨g, 0, none⟩) l := fun j hj => ⟨g, 0, rfl, by rw [Nat.zero_add]; exact h.cell j hj⟩
theorem BR.set (h : BR w g l) (k : Nat) (b : UInt8) : BR (w.setCell ⟨g, k, none⟩ (oct b)) g (l.set k b) := by
  obtain ⟨C, h1, h2, h3⟩ := h
  refine ⟨C.setIfInBounds k (oct b), ?_, by simpa using h2, fun j hj => ?_⟩
  · simp [World.setCell, Array.getElem?_modify, h1]
  · have hj' : j < l.length := by simpa using hj
    rw [Array.getElem?_setIfInBounds, List.getElem_set]
    by_cases e : k = j
    · subst e
      rw [if_pos rfl, if_pos rfl, if_pos (by omega)]
    · rw [if_neg e, if_neg e]
      exact h3 j hj'
end
theorem wpList_bytesOf {w : World} {ops : Array Oper} {rest : List Oper} {o : Oper} {a : Act} {Q : Exit → Act → World → Prop} (hgd : o.guard = none) (x : Operand) (hop : o.op = .convert 9 36 x) (T : ByteArray) (hx : a.eval x = .string T)
    (h : ∀ v cap, BR v w.heap.size T.data.toList → Mod [] w v → v.heap.size = w.heap.size + 1 → wpList Tryd.prog ops Q rest (a.put o.dst (.slice (some ⟨w.heap.size, 0, none⟩) T.size cap)) v) : wpList Tryd.prog ops Q (o :: rest) a w := by
  refine wpList_plain hgd fun K hK => ?_
  have hrun := run_bytes_of_string (P := Tryd.prog) w 9 36 5 T Tryd.underlying9 Tryd.underlying36 Tryd.underlying5
  unfold Oper.wp execOp
  simp only [hop, Sem.run_bind, hx, hrun, Result.andThen]
  refine hK _ _ (h _ _ ⟨bytesRow T (grownCap w T.size 0 5), heap_alloc_new w.drew _, ?_, fun j hj => ?_⟩ ((Mod.drew [] w).then (Mod.alloc [] w.drew _)) (by simp))
  · simp [bytesRow]
  · have hj' : j < T.data.size := by simpa using hj
    unfold bytesRow
    rw [Array.getElem?_append_left (by simpa using hj')]
    simp
    exact ⟨T.data[j], by rw [Array.getElem?_eq_getElem hj'], rfl⟩
end Go.Proofs.YtgojheoelcmcpaaDoor
