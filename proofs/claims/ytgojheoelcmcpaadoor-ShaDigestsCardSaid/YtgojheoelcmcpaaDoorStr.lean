/-
  A range over a text, in a walk. Laws of mine.
-/
import Derived.Test.YtgojheoelcmcpaaDoorPar
import Derived.Laws.RangeAny
namespace Go.Proofs.YtgojheoelcmcpaaDoor
open Go.RowKit
theorem lt_some {w : World} {g : Nat} {o : Obj} (h : w.heap[g]? = some o) : g < w.heap.size := by
  rcases Nat.lt_or_ge g w.heap.size with hlt | hge
  · exact hlt
  · rw [Array.getElem?_eq_none hge] at h; cases h
/-- w, with another block in g's place. -/
def putBlk (w : World) (g : Nat) (o : Obj) : World := { w with heap := w.heap.setIfInBounds g o }
theorem putBlk_mod (w : World) (g : Nat) (o : Obj) : Mod [g] w (putBlk w g o) :=
  ⟨rfl, rfl, rfl, by simp [putBlk], fun k _ hn => by
    have : g ≠ k := fun e => hn (by simp [e])
    show (w.heap.setIfInBounds g o)[k]? = _
    rw [Array.getElem?_setIfInBounds_ne this]⟩
theorem putBlk_at {w : World} {g : Nat} {o p : Obj} (h : w.heap[g]? = some p) : (putBlk w g o).heap[g]? = some o := by
  show (w.heap.setIfInBounds g o)[g]? = _
  rw [Array.getElem?_setIfInBounds_self_of_lt (lt_some h)]
/-- Block r goes through this text, and stands here. -/
def StrIt (w : World) (r : Nat) (s : ByteArray) (pos : Nat) : Prop := w.heap[r]? = some (.stringIter s pos)
theorem StrIt.keep {w v : World} {r pos : Nat} {s : ByteArray} {ms : List Nat} (h : StrIt w r s pos) (m : Mod ms w v) (hn : r ∉ ms) : StrIt v r s pos := (m.block r (lt_some h) hn).trans h
theorem StrIt.ne_holds {w : World} {r pos g : Nat} {s : ByteArray} {t : TypeId} {cs : List Value} (h : StrIt w r s pos) (hh : Holds w g t cs) : g ≠ r := by
  rintro rfl
  unfold StrIt at h; unfold Holds at hh
  rw [h] at hh; cases hh
section
variable {P : Program}
theorem run_nextS (w : World) (r : Nat) (s : ByteArray) (pos : Nat) (ty : TypeId) (hr : StrIt w r s pos) (h : pos < s.size) :
    (Instr.next (.pointer (some ⟨r, 0, none⟩)) true ty).run P w = .ok (.tuple #[.bool true, .int .i64 pos, .int .i32 (Utf8.decode s pos).1]) (putBlk w r (.stringIter s (pos + (Utf8.decode s pos).2))) := by
  unfold StrIt at hr
  simp only [Instr.next, getObj, setObj, Sem.run_bind, Sem.run, hr, Result.andThen, h, if_true]
  simp [goInt, putBlk]
theorem run_nextS_end (w : World) (r : Nat) (s : ByteArray) (pos : Nat) (ty : TypeId) (hr : StrIt w r s pos) (h : ¬ pos < s.size) :
    (Instr.next (.pointer (some ⟨r, 0, none⟩)) true ty).run P w = .ok (.tuple #[.bool false]) w := by
  unfold StrIt at hr
  simp [Instr.next, getObj, Sem.run, hr, h]
theorem wpList_rangeS {w : World} {ops : Array Oper} {rest : List Oper} {o : Oper} {a : Act} {Q : Exit → Act → World → Prop} (hgd : o.guard = none) (t : TypeId) (x : Operand) (hop : o.op = .range t x) (ht : P.underlying t = some .string) (s : ByteArray) (hx : a.eval x = .string s)
    (h : ∀ v, StrIt v w.heap.size s 0 → Mod [] w v → v.heap.size = w.heap.size + 1 → wpList P ops Q rest (a.put o.dst (.pointer (some ⟨w.heap.size, 0, none⟩))) v) : wpList P ops Q (o :: rest) a w := by
  refine wpList_plain hgd fun K hK => ?_
  have hrun := run_range_string (P := P) w t s ht
  unfold Oper.wp execOp
  simp only [hop, Sem.run_bind, hx, hrun, Result.andThen]
  exact hK _ _ (h _ (heap_alloc_new w _) (Mod.alloc [] w _) (by simp [World.iter]))
theorem wpList_nextS {w : World} {ops : Array Oper} {rest : List Oper} {o : Oper} {a : Act} {Q : Exit → Act → World → Prop} (hgd : o.guard = none) (it : Operand) (hop : o.op = .next it true) (r pos : Nat) (s : ByteArray) (hit : a.eval it = .pointer (some ⟨r, 0, none⟩)) (hr : StrIt w r s pos) (hp : pos < s.size) (rn wd : Nat) (hde : Utf8.decode s pos = (rn, wd))
    (h : ∀ v, StrIt v r s (pos + wd) → Mod [r] w v → v.heap.size = w.heap.size → wpList P ops Q rest (a.put o.dst (.tuple #[.bool true, .int .i64 pos, .int .i32 rn])) v) : wpList P ops Q (o :: rest) a w := by
  refine wpList_plain hgd fun K hK => ?_
  have hrun := run_nextS (P := P) w r s pos o.type hr hp
  rw [hde] at hrun
  unfold Oper.wp execOp
  simp only [hop, Sem.run_bind, hit, hrun, Result.andThen]
  exact hK _ _ (h _ (putBlk_at hr) (putBlk_mod w r _) (by simp [putBlk]))
theorem wpList_nextS_end {w : World} {ops : Array Oper} {rest : List Oper} {o : Oper} {a : Act} {Q : Exit → Act → World → Prop} (hgd : o.guard = none) (it : Operand) (hop : o.op = .next it true) (r pos : Nat) (s : ByteArray) (hit : a.eval it = .pointer (some ⟨r, 0, none⟩)) (hr : StrIt w r s pos) (hp : ¬ pos < s.size)
    (h : wpList P ops Q rest (a.put o.dst (.tuple #[.bool false])) w) : wpList P ops Q (o :: rest) a w := by
  refine wpList_plain hgd fun K hK => ?_
  have hrun := run_nextS_end (P := P) w r s pos o.type hr hp
  unfold Oper.wp execOp
  simp only [hop, Sem.run_bind, hit, hrun, Result.andThen]
  exact hK _ _ h
end
theorem get_of (s : ByteArray) (pos : Nat) (h : pos < s.size) : s[pos]'h = s.data.toList.getD pos 0 := by
  have h' : pos < s.data.toList.length := by simpa using h
  rw [List.getD_eq_getElem?_getD, List.getElem?_eq_getElem h']
  simp
  rfl
theorem decode_digit (s : ByteArray) (pos : Nat) (h : pos < s.size) (hd : dv (s.data.toList.getD pos 0) < 16) : Utf8.decode s pos = ((s.data.toList.getD pos 0).toNat, 1) := by
  have e := get_of s pos h
  rw [← e] at hd ⊢
  refine decode_ascii s pos h ?_
  generalize s[pos]'h = b at *
  unfold dv at hd
  split at hd
  · omega
  · split at hd
    · omega
    · omega
/-- What no digit begins is no digit. -/
theorem decode_other (s : ByteArray) (pos : Nat) (h : pos < s.size) (hd : ¬ dv (s.data.toList.getD pos 0) < 16) :
    (Utf8.decode s pos).1 < 128 ∧ ¬ dv (UInt8.ofNat (Utf8.decode s pos).1) < 16 ∨ 128 ≤ (Utf8.decode s pos).1 ∧ (Utf8.decode s pos).1 ≤ 2147483647 := by
  have e := get_of s pos h
  rw [← e] at hd
  by_cases ha : (s[pos]'h).toNat < 128
  · left
    rw [decode_ascii s pos h ha]
    exact ⟨ha, by simpa using hd⟩
  · right
    exact ⟨(decode_high s pos h (by omega)).1, decode_le s pos⟩
end Go.Proofs.YtgojheoelcmcpaaDoor
