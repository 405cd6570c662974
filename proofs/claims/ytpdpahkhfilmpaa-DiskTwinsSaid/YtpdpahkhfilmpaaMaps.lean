/-
  A map of whole numbers that the call itself makes, and gone through in whatever order. My own work.
-/
import Derived.Test.YtpdpahkhfilmpaaMem
import Derived.Carry
import Derived.MapKept
import Derived.Maps.RangeRun
namespace Go.Proofs.Ytpdpahkhfilmpaa
open Go.RowKit
open Go.ChangeMaps (setBlock)

/-- An entry under a whole number. -/
def ent (k : IntKind) (n : Int) (val : Value) (born : Nat) : MapEntry := { key := .int k n, val := val, born := born }
theorem ent_key (k : IntKind) (n : Int) (v : Value) (b : Nat) : (ent k n v b).key = .int k n := rfl
theorem ent_val (k : IntKind) (n : Int) (v : Value) (b : Nat) : (ent k n v b).val = v := rfl
theorem ent_born (k : IntKind) (n : Int) (v : Value) (b : Nat) : (ent k n v b).born = b := rfl
/-- Block g is a map with these entries. -/
def MapIs (w : World) (g : Nat) (es : List MapEntry) (clock : Nat) : Prop := w.heap[g]? = some (.map es.toArray clock)
/-- Block r goes through map g; these entries it has met. -/
def IterIs (w : World) (r g since : Nat) (sn : List Nat) (last : Nat) : Prop := w.heap[r]? = some (.mapIter (some g) since sn.toArray last)

theorem lt_of_some {w : World} {g : Nat} {o : Obj} (h : w.heap[g]? = some o) : g < w.heap.size := by
  rcases Nat.lt_or_ge g w.heap.size with hlt | hge
  · exact hlt
  · rw [Array.getElem?_eq_none hge] at h; cases h
theorem MapIs.keep {w v : World} {g : Nat} {es : List MapEntry} {c : Nat} {ms : List Nat} (h : MapIs w g es c) (m : Mod ms w v) (hn : g ∉ ms) : MapIs v g es c := (m.block g (lt_of_some h) hn).trans h
theorem IterIs.keep {w v : World} {r g s c : Nat} {sn : List Nat} {ms : List Nat} (h : IterIs w r g s sn c) (m : Mod ms w v) (hn : r ∉ ms) : IterIs v r g s sn c := (m.block r (lt_of_some h) hn).trans h

theorem mod_put (w : World) (g : Nat) (o : Obj) : Mod [g] w (setBlock w g o) :=
  ⟨rfl, rfl, rfl, by simp [setBlock], fun k _ hn => by
    have : g ≠ k := fun e => hn (by simp [e])
    show (w.heap.setIfInBounds g o)[k]? = _
    rw [Array.getElem?_setIfInBounds_ne this]⟩
theorem put_at {w : World} {g : Nat} {o p : Obj} (h : w.heap[g]? = some p) : (setBlock w g o).heap[g]? = some o := by
  show (w.heap.setIfInBounds g o)[g]? = _
  rw [Array.getElem?_setIfInBounds_self_of_lt (lt_of_some h)]

/-- No entry has this key. -/
def NoKey (k : IntKind) (n : Int) (es : List MapEntry) : Prop := ∀ e ∈ es, ∃ m, e.key = .int k m ∧ n ≠ m

theorem NoKey.nil (k : IntKind) (n : Int) : NoKey k n [] := fun _ h => by cases h
theorem NoKey.snoc {k : IntKind} {n m : Int} {es : List MapEntry} {v : Value} {b : Nat} (h : NoKey k n es) (hne : n ≠ m) : NoKey k n (es ++ [ent k m v b]) := by
  intro e he
  rcases List.mem_append.1 he with he | he
  · exact h e he
  · simp at he; subst he; exact ⟨m, rfl, hne⟩

theorem find_no {kd : IntKind} {k : IntKind} {n : Int} : ∀ (es : List MapEntry) (i : Nat), NoKey k n es → Instr.findNow (.int kd) (.int k n) es i = some none
  | [], _, _ => rfl
  | e :: es, i, h => by
    obtain ⟨m, he, hne⟩ := h e (by simp)
    have ih := find_no (kd := kd) es (i + 1) (fun x hx => h x (by simp [hx]))
    unfold Instr.findNow
    rw [he]
    have hb : (n == m) = false := by simpa using hne
    simp only [Instr.sameNow, if_true, hb]
    exact ih

theorem run_insert_new {P : Program} {w : World} {t kt et g clock : Nat} {k : IntKind} {n : Int} {val : Value} {es : List MapEntry} (ht : P.underlying t = some (.map kt et)) (hk : P.underlying kt = some (.int k)) (hm : MapIs w g es clock) (hn : NoKey k n es) :
    (Instr.mapUpdate t (.map (some g)) (.int k n) val).run P w = .ok () (setBlock w g (.map (es ++ [ent k n val clock]).toArray (clock + 1))) := by
  have hf : Instr.findNow (.int k) (.int k n) es.toArray.toList 0 = some none := find_no (kd := k) es 0 hn
  have hm' : w.heap[g]? = some (.map es.toArray clock) := hm
  have hc : (Instr.checkKey false 10000 kt (.int k n)).run P w = .ok () w := MapKept.run_checkKey (k := .int k n) hk (by simp [MapKept.IsKey]) false 9999
  simp only [Instr.mapUpdate, Sem.run_bind, run_underlying ht, MapKept.run_getObj_map hm', Result.andThen, hc, MapKept.run_findKey hk hf]
  rw [MapKept.run_setObj_map _ hm']
  simp [setBlock, ent]

/-- A literal's entry, under a key that it does not have yet, in a walk. -/
theorem wpList_inserts {P : Program} {w : World} {ops : Array Oper} {rest : List Oper} {o : Oper} {a : Act} {Q : Exit → Act → World → Prop} (hgd : o.guard = none) (t : TypeId) (m x : Operand) (k : IntKind) (n : Int) (hop : o.op = .insert t m (.const (.int k n)) x) (hdst : o.dst = none)
    (kt et g clock : Nat) (val : Value) (es : List MapEntry) (ht : P.underlying t = some (.map kt et)) (hk : P.underlying kt = some (.int k)) (hm : a.eval m = .map (some g)) (hx : a.eval x = val) (hi : MapIs w g es clock) (hn : NoKey k n es)
    (h : ∀ v, MapIs v g (es ++ [ent k n val clock]) (clock + 1) → Mod [g] w v → wpList P ops Q rest a v) : wpList P ops Q (o :: rest) a w := by
  have hrun := run_insert_new (P := P) (val := val) ht hk hi hn
  refine wpList_plain hgd fun K hK => ?_
  have hk' : a.eval (.const (.int k n)) = .int k n := rfl
  unfold Oper.wp execOp
  simp only [hop, Sem.run_bind, hm, hk', hx, hrun, Result.andThen]
  have := h _ (put_at hi) (mod_put w g _)
  refine hK _ _ ?_
  show wpList P ops Q rest (a.put o.dst undef) _
  rw [hdst]
  exact this

/-- range m, in a walk. -/
theorem wpList_rangesOver {P : Program} {w : World} {ops : Array Oper} {rest : List Oper} {o : Oper} {a : Act} {Q : Exit → Act → World → Prop} (hgd : o.guard = none) (t : TypeId) (m : Operand) (hop : o.op = .range t m)
    (kt et g clock : Nat) (es : List MapEntry) (ht : P.underlying t = some (.map kt et)) (hm : a.eval m = .map (some g)) (hi : MapIs w g es clock)
    (h : ∀ v, IterIs v w.heap.size g clock [] clock → Mod [] w v → v.heap.size = w.heap.size + 1 → wpList P ops Q rest (a.put o.dst (.pointer (some ⟨w.heap.size, 0, none⟩))) v) : wpList P ops Q (o :: rest) a w := by
  refine wpList_plain hgd fun K hK => ?_
  have hrun := run_range_map (P := P) w t kt et g es.toArray clock ht hi
  unfold Oper.wp execOp
  simp only [hop, Sem.run_bind, hm, hrun, Result.andThen]
  exact hK _ _ (h _ (heap_alloc_new w _) (Mod.alloc [] w _) (by simp))

/-- How many entries are still to come. -/
def toCome (es : List MapEntry) (w : World) (r : Nat) : Nat := (leftOf es.toArray (w.iterSeen r)).size

theorem IterIs.seen {w : World} {r g s c : Nat} {sn : List Nat} (h : IterIs w r g s sn c) : w.iterSeen r = sn.toArray := by
  unfold World.iterSeen
  rw [h]

/-- The step: nothing is left; or one of those that are left, whichever it may be. -/
theorem wpList_nexts {P : Program} {w : World} {ops : Array Oper} {rest : List Oper} {o : Oper} {a : Act} {Q : Exit → Act → World → Prop} (hgd : o.guard = none) (it : Operand) (hop : o.op = .next it false)
    (r g clock : Nat) (sn : List Nat) (es : List MapEntry) (hit : a.eval it = .pointer (some ⟨r, 0, none⟩)) (hr : IterIs w r g clock sn clock) (hi : MapIs w g es clock) (hgr : g ≠ r) (hold : ∀ x ∈ es, x.born < clock) (hnd : (es.map (·.born)).Nodup)
    (hDone : (∀ x ∈ es, x.born ∈ sn) → wpList P ops Q rest (a.put o.dst (.tuple #[.bool false])) w)
    (hMore : ∀ e v, e ∈ es → e.born ∉ sn → IterIs v r g clock (sn ++ [e.born]) clock → Mod [r] w v → toCome es v r < toCome es w r → (Instr.entry (.pointer (some ⟨r, 0, none⟩))).run P v = .ok (.tuple #[e.key, e.val]) v → wpList P ops Q rest (a.put o.dst (.tuple #[.bool true, e.key, e.val])) v) :
    wpList P ops Q (o :: rest) a w := by
  refine wpList_plain hgd fun K hK => ?_
  unfold Oper.wp execOp
  rcases run_next_at (P := P) w o.type r g clock clock sn.toArray es.toArray clock hr hi (by simpa using hold) (Nat.le_refl _) with ⟨h0, hrun⟩ | ⟨e, he, w1, hw1, hrun⟩
  · simp only [hop, Sem.run_bind, hit, hrun, Result.andThen]
    refine hK _ _ (hDone fun x hx => ?_)
    have := all_seen es.toArray sn.toArray h0 x (by simpa using hx)
    simpa using this
  · simp only [hop, Sem.run_bind, hit, hrun, Result.andThen]
    obtain ⟨he1, he2⟩ := mem_left he
    have hr1 : w1.heap[r]? = some (.mapIter (some g) clock sn.toArray clock) := by rcases hw1 with rfl | rfl <;> exact hr
    have m1 : Mod [] w w1 := by rcases hw1 with rfl | rfl; exact Mod.refl _ _; exact Mod.drew _ _
    have m2 : Mod [r] w (setBlock w1 r (.mapIter (some g) clock (sn.toArray.push e.born) clock)) := m1.pre (mod_put w1 r _)
    have hI : (setBlock w1 r (.mapIter (some g) clock (sn.toArray.push e.born) clock)).heap[r]? = some (.mapIter (some g) clock (sn.toArray.push e.born) clock) := put_at hr1
    have hI' : IterIs (setBlock w1 r (.mapIter (some g) clock (sn.toArray.push e.born) clock)) r g clock (sn ++ [e.born]) clock := by
      unfold IterIs; rw [hI]; simp
    refine hK _ _ (hMore e _ (by simpa using he1) (by simpa using he2) hI' m2 ?_ ?_)
    · unfold toCome
      rw [IterIs.seen hr, IterIs.seen hI']
      have := left_shrinks es.toArray sn.toArray e he
      simpa using this
    · exact run_entry_at _ r g clock sn.toArray es.toArray clock e hI (MapIs.keep hi m2 (by simpa using hgr)) he1 (by simpa using hnd)

end Go.Proofs.Ytpdpahkhfilmpaa
