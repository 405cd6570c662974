/-
  Package disk: Copy, New, Pending. Contracts of mine.
-/
import Derived.Test.YtpdpahkhfilmpaaDiskI
import Derived.MapKept
import Derived.Laws.Externs
import Derived.Laws.CopyOwn
namespace Go.Proofs.Ytpdpahkhfilmpaa
open Go.RowKit
theorem run_eql_map_nil {P : Program} (w : World) (t k e : TypeId) (p : Option Nat) (h : P.underlying t = some (.map k e)) :
    (binOp .eql t (.map p) (.map none)).run P w = .ok (.bool p.isNone) w := by
  have : ∀ d, (Op.equalIn (d + 1) t (.map p) (.map none)).run P w = .ok p.isNone w := fun d => by
    cases p <;> simp [Op.equalIn, run_underlying h]
  simp only [binOp]
  simp [show Op.equal t (.map p) (.map none) = Op.equalIn (9999 + 1) t (.map p) (.map none) from rfl, this 9999]
theorem run_typeAssert_map {P : Program} (w : World) (t xT k e : TypeId) (v : Value) (h : P.underlying t = some (.map k e)) : (Instr.typeAssert (.iface t v) xT t false).run P w = .ok v w := by
  simp [Instr.typeAssert, run_underlying h, go_sem, Result.andThen]
theorem run_maps_clone {P : Program} (w : World) {r : Nat} {es : Array MapEntry} {clock : Nat} (t : TypeId) (hb : w.heap[r]? = some (.map es clock)) :
    (Extern.MapsClone.clone #[.iface t (.map (some r))]).run P w = .ok (.iface t (.map (some w.heap.size))) (w.alloc (.map es clock)) := by
  have e : Extern.MapsClone.clone #[.iface t (.map (some r))] = (getObj r >>= fun o => match o with
      | .map entries clock => (newObj (.map entries clock) >>= fun n => pure (.iface t (.map (some n))))
      | _ => stuck "maps.clone: a map expected") := rfl
  rw [e]
  simp [MapKept.run_getObj_map hb, Result.andThen, go_sem]
set_option maxHeartbeats 2000000 in
theorem clone_c (m : Nat) (f : Int → Blk) (w : World) (h : Firm w m f) :
    Calls Try.prog 45 #[.map (some m)] w fun e w' => e = .returned (.map (some w.heap.size)) ∧ Firm w' w.heap.size f ∧ Mod [] w w' ∧ w'.heap.size = w.heap.size + 1 := by
  obtain ⟨l, c, h1, h2⟩ := h
  have hb : w.heap[m]? = some (.map (l.map be).toArray c) := h1
  have hq := fun w => run_eql_map_nil (P := Try.prog) w 68 _ _ (some m) Try.underlying68
  go_enter Try.func45, Try.ntmps45
  go_wp2
  rw [run_callFunc_extern (P := Try.prog) (fn := Try.f56) (by kernel_rfl) (by kernel_rfl) (by kernel_rfl) (e := Extern.MapsClone.clone) (by kernel_rfl) (by kernel_rfl), run_maps_clone w 68 hb]
  simp only [Result.andThen]
  rw [Oper.upon_value]
  go_wp2
  rw [run_typeAssert_map _ 68 20 _ _ _ Try.underlying68]
  simp only [Result.andThen]
  rw [Oper.upon_value]
  go_wp2
  go_ret
  exact ⟨rfl, ⟨l, c, heap_alloc_new w _, h2⟩, Mod.alloc [] w _, by simp⟩

/-- copy of a row onto a new one of its length. -/
theorem run_copyG {α : Type} {f : α → List Value} {size : Nat} {P : Program} {w : World} {dT ty e : TypeId} {g n c d : Nat} {A : Option Addr} {l : List α} {old : List Value} (hu : P.underlying dT = some (.slice e)) (hs : (P.info? e).map (·.size) = some size) (hf : ∀ x, (f x).length = size) (h0 : 0 < size) (h1 : ∀ x, ∀ v ∈ f x, v.oneCell' = true)
    (hh : Holds w g e old) (hr : Cells w A (l.flatMap f)) (hn : n = l.length) (ho : old.length = n * size) :
    ∃ v, (Builtin.copy_ #[dT, dT] ty #[.slice (some ⟨g, 0, none⟩) n d, .slice A n c]).run P w = .ok (.int .i64 (n : Int)) v ∧ Holds v g e (l.flatMap f) ∧ Mod [g] w v ∧ v.heap.size = w.heap.size := by
  subst hn
  have hlen := flat_length f size hf l
  have hone : ∀ u ∈ l.flatMap f, u.oneCell' = true := fun u hu => by
    obtain ⟨x, _, hx⟩ := List.mem_flatMap.1 hu
    exact h1 x u hx
  have hst := run_storeCells_at (P := P) g 0 e (l.flatMap f) 0 old.toArray w hh (by simp [hlen, ho]) hone
  have hrow : (old.toArray.toList.take (0 + 0) ++ l.flatMap f ++ old.toArray.toList.drop (0 + 0 + (l.flatMap f).length)) = l.flatMap f := by
    simp [hlen, ho]
  rw [hrow] at hst
  refine ⟨w.setRow g (l.flatMap f).toArray, ?_, setRow_heap w g old.toArray (l.flatMap f).toArray e (0, 0) hh, ⟨rfl, rfl, rfl, by simp [World.setRow], fun k _ hk => setRow_other w g k _ (by simpa using hk)⟩, by simp [World.setRow]⟩
  cases hq : P.info? e with
  | none => simp [hq] at hs
  | some i =>
    have hi : i.size = size := by simpa [hq] using hs
    have hmin : Nat.min l.length l.length = l.length := Nat.min_self _
    rcases A with _ | a
    · have hl : l = [] := by
        rcases l with _ | ⟨x, l⟩
        · rfl
        · obtain ⟨g, o, hh, _⟩ := hr 0 (by rw [hlen]; simp; omega)
          cases hh
      subst hl
      have hz : old = [] := List.eq_nil_of_length_eq_zero (by simpa using ho)
      subst hz
      simp [Builtin.copy_, run_underlying hu, Builtin.lenOf, Builtin.firstCells, sizeOf, typeInfo, hq, storeCells, goInt]
      exact (setRow_self w g #[] e (0, 0) hh).symm
    · have hld := run_loadCells_list (P := P) w a (l.flatMap f) (fun j u hu => by
        rcases Nat.eq_zero_or_pos (l.flatMap f).length with h0 | h0
        · rw [List.eq_nil_of_length_eq_zero h0] at hu
          simp at hu
        · obtain ⟨ad', e', hh⟩ := hr.first h0
          injection e' with e'
          subst e'
          exact hh j u hu)
      rw [hlen] at hld
      simp [Builtin.copy_, run_underlying hu, Builtin.lenOf, Builtin.firstCells, sizeOf, typeInfo, hq, hi, hld, hst, goInt]
theorem wpList_copyG {α : Type} {f : α → List Value} {size : Nat} {P : Program} {w : World} {ops : Array Oper} {rest : List Oper} {o : Oper} {a : Act} {Q : Exit → Act → World → Prop} (hgd : o.guard = none) (s x : Operand) (dT : TypeId) (ho : o.op = .call { callee := .builtin .copy, args := #[s, x], argTypes := #[dT, dT] })
    {e : TypeId} {g n c d : Nat} {A : Option Addr} {l : List α} {old : List Value} (hu : P.underlying dT = some (.slice e)) (hs : (P.info? e).map (·.size) = some size) (hf : ∀ x, (f x).length = size) (h0 : 0 < size) (h1 : ∀ x, ∀ v ∈ f x, v.oneCell' = true)
    (hd : a.eval s = .slice (some ⟨g, 0, none⟩) n d) (hx : a.eval x = .slice A n c) (hh : Holds w g e old) (hr : Cells w A (l.flatMap f)) (hn : n = l.length) (hol : old.length = n * size)
    (h : ∀ v, Holds v g e (l.flatMap f) → Mod [g] w v → v.heap.size = w.heap.size → wpList P ops Q rest (a.put o.dst (.int .i64 (n : Int))) v) : wpList P ops Q (o :: rest) a w := by
  obtain ⟨v, hrun, h2, h3, h4⟩ := run_copyG (ty := o.type) (d := d) (c := c) hu hs hf h0 h1 hh hr hn hol
  refine wpList_plain hgd fun K hK => ?_
  unfold Oper.wp execOp
  simp only [ho, resolve, invoke, builtin, Sem.run_bind, Sem.run_pure, Result.andThen_ok, List.map_toArray, List.map_cons, List.map_nil, hd, hx, hrun]
  exact hK _ _ (h v h2 h3 h4)
/-- make of a row. -/
theorem wpList_makeG {P : Program} {w : World} {ops : Array Oper} {rest : List Oper} {o : Oper} {a : Act} {Q : Exit → Act → World → Prop} (hgd : o.guard = none) (t : TypeId) (x y : Operand) (ho : o.op = .makeSlice t x y) (e : TypeId) (i : TypeInfo) (z : Value) (size bytes n : Nat) (ht : P.underlying t = some (.slice e)) (hi : P.info? e = some i) (hz : i.zero = some z) (hs : i.size = size) (hb : i.bytes = bytes)
    (hx : a.eval x = .int .i64 (n : Int)) (hy : a.eval y = .int .i64 (n : Int)) (h63 : bytes * n ≤ 281474976710656) (h64 : n ≤ 9223372036854775807)
    (h : ∀ v cs, Holds v w.heap.size e cs → cs.length = n * size → cs = (madeCells z.cells (n * size)).toList → Mod [] w v → v.heap.size = w.heap.size + 1 → wpList P ops Q rest (a.put o.dst (.slice (some ⟨w.heap.size, 0, none⟩) n n)) v) : wpList P ops Q (o :: rest) a w := by
  subst hs hb
  refine wpList_plain hgd fun K hK => ?_
  have hbb : (i.bytes : Int) * (n : Int) ≤ 281474976710656 := by
    have h : ((i.bytes * n : Nat) : Int) ≤ 281474976710656 := by omega
    rwa [Int.natCast_mul] at h
  have hrun := run_make (P := P) w t e i z ht hi hz .i64 .i64 (n : Int) (n : Int) (by omega) (by omega) hbb (by omega)
  simp only [Int.toNat_natCast] at hrun
  have hfin := h (w.alloc (.cells (madeCells z.cells (n * i.size)) e)) (madeCells z.cells (n * i.size)).toList (Holds.made w e (madeCells z.cells (n * i.size)).toList) (by simp [madeCells]) rfl (Mod.alloc [] w _) (by simp)
  unfold Oper.wp execOp
  simp only [ho, hx, hy, Sem.run_bind, hrun, Result.andThen]
  exact hK _ _ hfin
end Go.Proofs.Ytpdpahkhfilmpaa
