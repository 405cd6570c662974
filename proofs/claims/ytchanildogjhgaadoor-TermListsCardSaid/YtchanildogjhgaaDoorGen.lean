/-
  Laws of mine that name no function and no type: regions that draw, rows of elements of whatever size, a range over a function.
-/
import Derived.Test.YtchanildogjhgaaDoorDrx
import Derived.Test.YtchanildogjhgaaDoorApp
import Derived.Shelf.Abstract
import Derived.Laws.StructEq
import Derived.Laws.Small
import Derived.Lib.Hide
import Derived.Deep.QuietTactic
import Derived.BigQuiet
import Derived.StillTailTactics
import Derived.RangeFuncNested
import Derived.RangeFuncBound
import Derived.RangeFuncCalls
import Derived.RangeFuncLeaves
import Derived.Shelf.RegionOpen
import Derived.WalkKit
import Derived.WalkMore
import Derived.OwnWalkIn
import Derived.TacticsInMore
import Derived.LoopNIn
import Derived.LoopIn
namespace Go.Proofs.YtchanildogjhgaaDoor
open Go.RowKit Go.Shelf
theorem exec_call0 {P : Program} {v : World} {o : Oper} {ρ : Operand → Value} {f : FuncId} {ts : Array TypeId} (ho : o.op = .call { callee := .value (.func f), args := #[], argTypes := ts }) (hf : ρ (.func f) = .func (.func f) #[] #[]) (he : ∀ args w, (callFunc f args).run P w = .ok (.enter f args) w) : (execOp ρ o).run P v = .ok (.enter f #[]) v := by
  unfold execOp
  simp [ho, resolve, invoke, go_sem, hf, he]
/-- Each slot either stands as it did or is written. -/
def coverB (ops : Array Oper) (nt : Nat) (ps : List Nat) : Bool := (List.range nt).all fun s => ps.contains s || (List.range ops.size).any fun j => ((ops[j]?).map fun (o : Oper) => o.dst == some s).getD false
theorem coverB_or {ops : Array Oper} {nt : Nat} {ps : List Nat} (h : coverB ops nt ps = true) (s : Nat) (hs : s < nt) : s ∈ ps ∨ ∃ (j : Nat) (o : Oper), ops[j]? = some o ∧ o.dst = some s := by
  have := List.all_eq_true.1 h s (List.mem_range.2 hs)
  rw [Bool.or_eq_true] at this
  rcases this with h1 | h1
  · left; simpa using h1
  · right
    obtain ⟨j, _, hj⟩ := List.any_eq_true.1 h1
    cases ho : ops[j]? with
    | none => rw [ho] at hj; cases hj
    | some o =>
      rw [ho] at hj
      exact ⟨j, o, ho, by simpa using hj⟩
theorem map_mem {α β : Type} {f g : α → β} {l : List α} (h : l.map f = l.map g) : ∀ s ∈ l, f s = g s := by
  induction l with
  | nil => intro s hs; cases hs
  | cons x l ih =>
    simp only [List.map_cons, List.cons.injEq] at h
    intro s hs
    rcases List.mem_cons.1 hs with rfl | hs
    · exact h.1
    · exact ih h.2 s hs
/-- What is done had what it waits for. -/
def Closed (ops : Array Oper) (l : Nat → Bool) : Prop := ∀ (j : Nat) (o : Oper), ops[j]? = some o → l j = true → ∀ e ∈ o.after, Region.binds .any e = true → l e.on = true
theorem Closed.add {ops : Array Oper} {l : Nat → Bool} (h : Closed ops l) {i : Nat} {o : Oper} (ho : ops[i]? = some o) (hdep : ∀ e ∈ o.after, Region.binds .any e = true → l e.on = true) : Closed ops (fun j => if j = i then true else l j) := by
  intro j o' hj hl e he hb
  show (if e.on = i then true else l e.on) = true
  by_cases hei : e.on = i
  · rw [if_pos hei]
  · rw [if_neg hei]
    by_cases hji : j = i
    · subst hji
      rw [ho] at hj
      cases hj
      exact hdep e he hb
    · exact h j o' hj (by simpa [hji] using hl) e he hb
def reachB (ops : Array Oper) (n : Nat) : Bool := (List.range n).all fun k => (List.range (n + 1)).any fun j => decide (k < j) && ((ops[j]?).map fun (o : Oper) => o.after.toList.any fun e => e.on == k && Region.binds .any e).getD false
theorem reach_all {ops : Array Oper} {n : Nat} {o : Oper} {l : Nat → Bool} (h : reachB ops n = true) (hc : Closed ops l) (ho : ops[n]? = some o) (hdep : ∀ e ∈ o.after, Region.binds .any e = true → l e.on = true) : ∀ k, k < n → l k = true := by
  have key : ∀ m k, n ≤ m + k → k < n → l k = true := by
    intro m
    induction m with
    | zero => intro k h1 h2; omega
    | succ m ih =>
      intro k h1 h2
      have := List.all_eq_true.1 h k (List.mem_range.2 h2)
      obtain ⟨j, hj, hj2⟩ := List.any_eq_true.1 this
      have hjn : j < n + 1 := List.mem_range.1 hj
      rw [Bool.and_eq_true] at hj2
      have hkj : k < j := by simpa using hj2.1
      cases hoj : ops[j]? with
      | none => rw [hoj] at hj2; cases hj2.2
      | some oj =>
        rw [hoj] at hj2
        obtain ⟨e, he, h3⟩ := List.any_eq_true.1 (show (oj.after.toList.any fun e => e.on == k && Region.binds .any e) = true from hj2.2)
        rw [Bool.and_eq_true] at h3
        have hek : e.on = k := by simpa using h3.1
        by_cases hjn' : j = n
        · subst hjn'
          rw [ho] at hoj
          cases hoj
          have := hdep e (by simpa using he) h3.2
          rwa [hek] at this
        · have := hc j oj hoj (ih j (by omega) (by omega)) e (by simpa using he) h3.2
          rwa [hek] at this
  exact fun k hk => key n k (by omega) hk
section
variable {P : Program} {ops : Array Oper} {Q : Exit → Act → World → Prop}
/-- The same, to a literal frame. -/
theorem wp_region_lit {X : Type} {id : Nat} {a : Act} {w : World} (x0 : X) (F : X → List Value) (nt : Nat) (ps : List Nat) (st : X → (Nat → Bool) → World → Prop) (ds : List Deferred) (hm : P.follows .mixedOrders = true)
    (hF : ∀ x, (F x).length = nt) (ht : a.tmps.size = nt) (hd : a.defers = ds) (hp : ps.map (fun s => a.tmps[s]?) = ps.map (fun s => some ((F x0).getD s undef))) (hx : ∀ x, ps.map (fun s => (F x).getD s undef) = ps.map (fun s => (F x0).getD s undef)) (h0 : st x0 (fun _ => false) w.drew)
    (hB : drawn2B ops nt = true) (hC : coverB ops nt ps = true)
    (hstep : ∀ (x : X) (l : Nat → Bool) (T : Act) (v : World) (i : Nat) (o : Oper), ops[i]? = some o → l i = false → (∀ e ∈ o.after, Region.binds .any e = true → l e.on = true) → st x l v →
      (∀ s, s ∈ ps → T.tmps[s]? = some ((F x).getD s undef)) → (∀ (j : Nat) (o' : Oper) (s : Nat), ops[j]? = some o' → l j = true → o'.dst = some s → T.tmps[s]? = some ((F x).getD s undef)) → Closed ops l →
      ∀ K : Act → World → Prop, (∀ x' u v', (∀ (j : Nat) (o' : Oper) (s : Nat), ops[j]? = some o' → l j = true → o'.dst = some s → (F x').getD s undef = (F x).getD s undef) → (∀ s, o.dst = some s → u = (F x').getD s undef) → st x' (fun j => if j = i then true else l j) v' → K (T.put o.dst u) v') →
        if Region.wanted o (yielded ops T.tmps) = true then o.wp P T v K Q else K (T.put o.dst undef) v)
    (hend : ∀ (x : X) (l : Nat → Bool) (v : World), (∀ j, j < ops.size → l j = true) → st x l v → Q .normal ⟨(F x).toArray, ds⟩ v) :
    (Code.region id ops true).wp P Q a w := by
  refine wp_region_detx x0 nt (fun x s => (F x).getD s undef) ps (fun x l v => st x l v ∧ Closed ops l) ds hm ht hd (map_mem hp) ⟨h0, fun _ _ _ h => by cases h⟩ (drawn2B_lt hB) (drawn2B_dst hB) ?_ ?_
  · intro x l T v i o ho hl hdep hst hpar hgot K hK
    exact hstep x l T v i o ho hl hdep hst.1 hpar hgot hst.2 K (fun x' u v' h1 h2 h3 => hK x' u v' (fun s hs => by
      have e1 := map_mem (hx x') s hs
      have e2 := map_mem (hx x) s hs
      exact e1.trans e2.symm) h1 h2 ⟨h3, hst.2.add ho hdep⟩)
  · intro x l T v hl hst hts hds hpar hgot
    have hall : ∀ s, s < nt → T.tmps[s]? = some ((F x).getD s undef) := fun s hs => by
      rcases coverB_or hC s hs with h | ⟨j, o, hj, ho⟩
      · exact hpar s h
      · exact hgot j o s hj ho
    have hT : T = ⟨(F x).toArray, ds⟩ := by
      obtain ⟨tm, df⟩ := T
      have h1 : tm = (F x).toArray := by
        apply Array.ext_getElem?
        intro s
        by_cases hs : s < nt
        · rw [show tm[s]? = _ from hall s hs]
          have hl' : s < (F x).length := by rw [hF]; exact hs
          simp [List.getD_eq_getElem?_getD, hl']
        · rw [Array.getElem?_eq_none (by rw [show tm.size = nt from hts]; omega), Array.getElem?_eq_none (by simp [hF]; omega)]
      rw [h1, show df = ds from hds]
    rw [hT]
    exact hend x l v hl hst.1
/-- Where nothing is made whose place hangs on the order. -/
theorem wp_region_lit1 {id : Nat} {a : Act} {w : World} (F : List Value) (nt : Nat) (ps : List Nat) (st : (Nat → Bool) → World → Prop) (ds : List Deferred) (hm : P.follows .mixedOrders = true)
    (hF : F.length = nt) (ht : a.tmps.size = nt) (hd : a.defers = ds) (hp : ps.map (fun s => a.tmps[s]?) = ps.map (fun s => some (F.getD s undef))) (h0 : st (fun _ => false) w.drew)
    (hB : drawn2B ops nt = true) (hC : coverB ops nt ps = true)
    (hstep : ∀ (l : Nat → Bool) (T : Act) (v : World) (i : Nat) (o : Oper), ops[i]? = some o → l i = false → (∀ e ∈ o.after, Region.binds .any e = true → l e.on = true) → st l v →
      (∀ s, s ∈ ps → T.tmps[s]? = some (F.getD s undef)) → (∀ (j : Nat) (o' : Oper) (s : Nat), ops[j]? = some o' → l j = true → o'.dst = some s → T.tmps[s]? = some (F.getD s undef)) → Closed ops l →
      ∀ K : Act → World → Prop, (∀ u v', (∀ s, o.dst = some s → u = F.getD s undef) → st (fun j => if j = i then true else l j) v' → K (T.put o.dst u) v') →
        if Region.wanted o (yielded ops T.tmps) = true then o.wp P T v K Q else K (T.put o.dst undef) v)
    (hend : ∀ (l : Nat → Bool) (v : World), (∀ j, j < ops.size → l j = true) → st l v → Q .normal ⟨F.toArray, ds⟩ v) :
    (Code.region id ops true).wp P Q a w :=
  wp_region_lit (X := Unit) () (fun _ => F) nt ps (fun _ => st) ds hm (fun _ => hF) ht hd hp (fun _ => rfl) h0 hB hC
    (fun _ l T v i o ho hl hdep hst hpar hgot hcl K hK => hstep l T v i o ho hl hdep hst hpar hgot hcl K (fun u v' h1 h2 => hK () u v' (fun _ _ _ _ _ _ => rfl) h1 h2))
    (fun _ l v hl hst => hend l v hl hst)
end
section
variable {P : Program} {v : World} {o : Oper} {ρ : Operand → Value}
theorem exec_assign {x : Operand} {X : Value} (ho : o.op = .assign x) (hx : ρ x = X) : (execOp ρ o).run P v = .ok (.value X) v := by
  unfold execOp
  simp [ho, hx, go_sem]
theorem exec_add {t t' : TypeId} {x y : Operand} {k : IntKind} {a b c : Int} (ho : o.op = .binOp .add t x y t') (hx : ρ x = .int k a) (hy : ρ y = .int k b) (h : k.wrap (a + b) = c) : (execOp ρ o).run P v = .ok (.value (.int k c)) v := by
  subst h
  unfold execOp
  simp [ho, hx, hy, go_sem]
theorem exec_sub {t t' : TypeId} {x y : Operand} {k : IntKind} {a b c : Int} (ho : o.op = .binOp .sub t x y t') (hx : ρ x = .int k a) (hy : ρ y = .int k b) (h : k.wrap (a - b) = c) : (execOp ρ o).run P v = .ok (.value (.int k c)) v := by
  subst h
  unfold execOp
  simp [ho, hx, hy, go_sem]
theorem exec_mul {t t' : TypeId} {x y : Operand} {k : IntKind} {a b c : Int} (ho : o.op = .binOp .mul t x y t') (hx : ρ x = .int k a) (hy : ρ y = .int k b) (h : k.wrap (a * b) = c) : (execOp ρ o).run P v = .ok (.value (.int k c)) v := by
  subst h
  unfold execOp
  simp [ho, hx, hy, go_sem]
theorem exec_and {t t' : TypeId} {x y : Operand} {k : IntKind} {a b c : Int} (ho : o.op = .binOp .and t x y t') (hx : ρ x = .int k a) (hy : ρ y = .int k b) (h : bits .and k a b = c) : (execOp ρ o).run P v = .ok (.value (.int k c)) v := by
  subst h
  unfold execOp
  simp [ho, hx, hy, go_sem]
theorem exec_xor {t t' : TypeId} {x y : Operand} {k : IntKind} {a b c : Int} (ho : o.op = .binOp .xor t x y t') (hx : ρ x = .int k a) (hy : ρ y = .int k b) (h : bits .xor k a b = c) : (execOp ρ o).run P v = .ok (.value (.int k c)) v := by
  subst h
  unfold execOp
  simp [ho, hx, hy, go_sem]
theorem exec_or {t t' : TypeId} {x y : Operand} {k : IntKind} {a b c : Int} (ho : o.op = .binOp .or t x y t') (hx : ρ x = .int k a) (hy : ρ y = .int k b) (h : bits .or k a b = c) : (execOp ρ o).run P v = .ok (.value (.int k c)) v := by
  subst h
  unfold execOp
  simp [ho, hx, hy, go_sem]
theorem exec_len {t e : TypeId} {x : Operand} {A : Option Addr} {n c : Nat} (hu : P.underlying t = some (.slice e)) (ho : o.op = .call { callee := .builtin .len, args := #[x], argTypes := #[t] }) (hx : ρ x = .slice A n c) : (execOp ρ o).run P v = .ok (.value (.int .i64 (n : Int))) v := by
  unfold execOp
  simp [ho, hx, resolve, invoke, builtin, go_sem, Builtin.len_, run_underlying hu]
/-- The address of an array's element, of one cell. -/
theorem exec_at {t e : TypeId} {n g f : Nat} {x y : Operand} {i : Nat} (hu : P.underlying t = some (.array n e)) (he : (P.info? e).map (·.size) = some 1) (hi : i < n) (ho : o.op = .indexAddr t x y) (hx : ρ x = .pointer (some ⟨g, f, none⟩)) (hy : ρ y = .int .i64 (i : Int)) :
    (execOp ρ o).run P v = .ok (.value (.pointer (some ⟨g, f + i, none⟩))) v := by
  unfold execOp
  cases hq : P.info? e with
  | none => rw [hq] at he; cases he
  | some it =>
    have hs : it.size = 1 := by rw [hq] at he; simpa using he
    simp [ho, hx, hy, Instr.indexAt, Sem.run_bind, run_underlying hu, go_sem, sizeOf, typeInfo, hq, hs, hi, add_plain]

end
section
variable {P : Program} {t e : TypeId} {n : Nat} {k : IntKind}
theorem run_eq_items (hd0 : (Program.underlying P e) = some (.int k)) (X Y : List Int) (hXY : X.length = Y.length) (w : World) (d : Nat) : ∀ is : List Nat, (∀ j ∈ is, j < X.length) → (Op.eqItems (d + 1) e 1 (X.map (Value.int k)).toArray (Y.map (Value.int k)).toArray is).run P w = .ok (is.all fun j => X.getD j 0 == Y.getD j 0) w
  | [], _ => by simp [Op.eqItems]
  | j :: is, h => by
    have hj := h j (by simp)
    have ih := run_eq_items hd0 X Y hXY w d is (fun i hi => h i (by simp [hi]))
    have hp : (part e (X.map (Value.int k)).toArray (j * 1)).run P w = .ok (.int k (X.getD j 0)) w := by
      have : (X.map (Value.int k))[j]? = some (.int k (X.getD j 0)) := by simp [List.getD_eq_getElem?_getD, hj]
      simp [part, isAgg, run_underlying hd0, this]
    have hq : (part e (Y.map (Value.int k)).toArray (j * 1)).run P w = .ok (.int k (Y.getD j 0)) w := by
      have : (Y.map (Value.int k))[j]? = some (.int k (Y.getD j 0)) := by simp [List.getD_eq_getElem?_getD, hXY ▸ hj]
      simp [part, isAgg, run_underlying hd0, this]
    generalize (X.map (Value.int k)).toArray = XA at *
    generalize (Y.map (Value.int k)).toArray = YA at *
    simp only [Op.eqItems, Sem.run_bind, hp, hq, Result.andThen_ok, run_equalIn_int w d e k k _ _ hd0, List.all_cons]
    by_cases hx : X.getD j 0 = Y.getD j 0
    · simp only [hx, beq_self_eq_true, Bool.not_true, Bool.false_eq_true, if_false, Bool.true_and]
      exact ih
    · have : (X.getD j 0 == Y.getD j 0) = false := by simpa using hx
      simp only [this, Bool.not_false, if_true, Bool.false_and, Sem.run_pure]
theorem all_range (X Y : List Int) (hX : X.length = n) (hY : Y.length = n) : ((List.range n).all fun j => X.getD j 0 == Y.getD j 0) = decide (X = Y) := by
  rw [Bool.eq_iff_iff]
  simp only [List.all_eq_true, List.mem_range, beq_iff_eq, decide_eq_true_eq]
  constructor
  · intro h
    apply List.ext_getElem (by omega)
    intro i h1 h2
    have := h i (by omega)
    simpa [List.getD_eq_getElem?_getD, h1, h2] using this
  · rintro rfl _ _
    rfl
theorem run_eq_ints (hu : P.underlying t = some (.array n e)) (he : P.underlying e = some (.int k)) (hi : (P.info? e).isSome = true) (hc : P.cellsOf e = 1) (X Y : List Int) (hX : X.length = n) (hY : Y.length = n) (w : World) (d : Nat) :
    (Op.equalIn (d + 2) t (.agg (X.map (Value.int k)).toArray) (.agg (Y.map (Value.int k)).toArray)).run P w = .ok (decide (X = Y)) w := by
  cases hq : P.info? e with
  | none => rw [hq] at hi; cases hi
  | some i =>
    rw [run_equalIn_array w (d + 1) _ _ hu hq, hc, run_eq_items he X Y (by omega) w d _ (fun j hj => by rw [hX]; simpa using hj), all_range X Y hX hY]
theorem exec_eqa {v : World} {o : Oper} {ρ : Operand → Value} {x y : Operand} (hu : P.underlying t = some (.array n e)) (he : P.underlying e = some (.int k)) (hi : (P.info? e).isSome = true) (hc : P.cellsOf e = 1) (hg : P.eqGuardType P.depth t = false) (X Y : List Int) (hX : X.length = n) (hY : Y.length = n)
    (ho : o.op = .binOp .eql t x y t) (hx : ρ x = .agg (X.map (Value.int k)).toArray) (hy : ρ y = .agg (Y.map (Value.int k)).toArray) : (execOp ρ o).run P v = .ok (.value (.bool (decide (X = Y)))) v := by
  have h : (Op.equalIn 10000 t (.agg (X.map (Value.int k)).toArray) (.agg (Y.map (Value.int k)).toArray)).run P v = .ok (decide (X = Y)) v := run_eq_ints hu he hi hc X Y hX hY v 9998
  generalize (X.map (Value.int k)).toArray = XA at *
  generalize (Y.map (Value.int k)).toArray = YA at *
  unfold execOp
  simp [ho, hx, hy, go_sem, run_eqGuard_agg, hg, run_eql_struct, h, Result.andThen]
theorem exec_nea {v : World} {o : Oper} {ρ : Operand → Value} {x y : Operand} (hu : P.underlying t = some (.array n e)) (he : P.underlying e = some (.int k)) (hi : (P.info? e).isSome = true) (hc : P.cellsOf e = 1) (hg : P.eqGuardType P.depth t = false) (X Y : List Int) (hX : X.length = n) (hY : Y.length = n)
    (ho : o.op = .binOp .neq t x y t) (hx : ρ x = .agg (X.map (Value.int k)).toArray) (hy : ρ y = .agg (Y.map (Value.int k)).toArray) : (execOp ρ o).run P v = .ok (.value (.bool (!decide (X = Y)))) v := by
  have h : (Op.equalIn 10000 t (.agg (X.map (Value.int k)).toArray) (.agg (Y.map (Value.int k)).toArray)).run P v = .ok (decide (X = Y)) v := run_eq_ints hu he hi hc X Y hX hY v 9998
  generalize (X.map (Value.int k)).toArray = XA at *
  generalize (Y.map (Value.int k)).toArray = YA at *
  unfold execOp
  simp [ho, hx, hy, go_sem, run_eqGuard_agg, hg, run_neq_struct, h, Result.andThen]
end
/-- The slice (A, n, c) is nobody else's and holds these. -/
def OwnG {α : Type} (f : α → List Value) (e : TypeId) (size : Nat) (w : World) (A : Option Addr) (c : Nat) (l : List α) : Prop := w.ownsRow 0 e size (.slice A l.length c) l.length (l.flatMap f)
section
variable {α : Type} {f : α → List Value} {e : TypeId} {size : Nat} {w v : World} {A : Option Addr} {c : Nat} {l : List α}
theorem OwnG.nil (f : α → List Value) (e : TypeId) (size : Nat) (w : World) : OwnG f e size w none 0 [] := World.ownsRow_nil w 0 e size
theorem OwnG.of_holds {g : Nat} (h : Holds w g e (l.flatMap f)) (hf : ∀ x, (f x).length = size) (hl : l.length ≤ maxLen) : OwnG f e size w (some ⟨g, 0, none⟩) l.length l := by
  have hlen := flat_length f size hf l
  refine ⟨hlen, .inr ⟨g, l.length, (l.flatMap f).toArray, rfl, Nat.zero_le _, h, Nat.le_refl _, hl, by simpa using hlen, ?_⟩⟩
  rw [← hlen]
  exact List.take_of_length_le (by simp)
theorem OwnG.fits (h : OwnG f e size w A c l) : l.length ≤ c ∧ c ≤ maxLen := by
  rcases h.2 with ⟨hv, hn⟩ | ⟨g, cap, cur, hv, hb, hg, h1, h2, _⟩
  · injection hv with h1 h2 h3
    subst h3
    exact ⟨by omega, by omega⟩
  · injection hv with h3 h4 h5
    subst h5
    exact ⟨h1, h2⟩
theorem OwnG.lt (h : OwnG f e size w A c l) : ∀ a, A = some a → a.block < w.heap.size := by
  rcases h.2 with ⟨hv, hn⟩ | ⟨g, cap, cur, hv, hb, hg, h1, h2, _⟩
  · injection hv with h1 h2 h3
    subst h1
    simp
  · injection hv with h3 h4 h5
    subst h3
    rintro _ ⟨⟩
    exact (Array.getElem?_eq_some_iff.1 hg).1
theorem OwnG.ne {g : Nat} {t : TypeId} {cs : List Value} (h : OwnG f e size w A c l) (h' : Holds w g t cs) (ht : e ≠ t) : ∀ a, A = some a → a.block ≠ g := by
  rcases h.2 with ⟨hv, hn⟩ | ⟨k, cap, cur, hv, hb, hg, h1, h2, _⟩
  · injection hv with h1 h2 h3
    subst h1
    simp
  · injection hv with h3 h4 h5
    subst h3
    rintro _ ⟨⟩ rfl
    unfold Holds at h'
    rw [hg] at h'
    injection h' with h'
    injection h' with _ hh
    exact ht hh
theorem OwnG.cells (h : OwnG f e size w A c l) : Cells w A (l.flatMap f) := by
  intro i hi
  have hlen := h.1
  rcases h.2 with ⟨hv, hn⟩ | ⟨g, cap, cur, hv, hb, hg, h1, h2, h3, h4⟩
  · rw [hn] at hlen; omega
  · injection hv with e3 e4 e5
    subst e3
    refine ⟨g, 0, rfl, ?_⟩
    rw [Nat.zero_add, cell_of_row w g i cur e (0, 0) hg]
    have : (cur.toList.take (l.length * size))[i]? = some (l.flatMap f)[i] := by rw [h4]; exact List.getElem?_eq_getElem hi
    rw [List.getElem?_take] at this
    split at this
    · simpa using this
    · cases this
theorem OwnG.keep {ms : List Nat} (h : OwnG f e size w A c l) (m : Mod ms w v) (hn : ∀ a, A = some a → a.block ∉ ms) : OwnG f e size v A c l := by
  refine ⟨h.1, ?_⟩
  rcases h.2 with h0 | ⟨g, cap, cur, hv, hb, hg, rest⟩
  · exact .inl h0
  · refine .inr ⟨g, cap, cur, hv, hb, ?_, rest⟩
    injection hv with h3 h4 h5
    subst h3
    rw [m.block g (Array.getElem?_eq_some_iff.1 hg).1 (hn _ rfl)]
    exact hg
end

theorem run_append_noneG {α : Type} {f : α → List Value} {size : Nat} {P : Program} (w : World) (t ty e : TypeId) (i : TypeInfo) (ht : P.underlying t = some (.slice e)) (hi : P.info? e = some i) {A : Option Addr} {c : Nat} {l : List α} (h : OwnG f e size w A c l) (c' : Nat) :
    (Builtin.append_ #[t, t] ty #[.slice A l.length c, .slice none 0 c']).run P w = .ok (.slice A l.length c) w := by
  have hfit := h.fits.1
  rcases A with _ | a
  · have : l.length = 0 ∧ c = 0 := by
      rcases h.2 with ⟨hv, hn⟩ | ⟨g, cap, cur, hv, _⟩
      · injection hv with h1 h2 h3
        exact ⟨hn, h3⟩
      · injection hv with h1; cases h1
    obtain ⟨h0, rfl⟩ := this
    rw [h0]
    simp [Builtin.append_, run_underlying ht, sizeOf, typeInfo, hi, Builtin.lenOf, Builtin.firstCells]
  · simp [Builtin.append_, run_underlying ht, sizeOf, typeInfo, hi, Builtin.lenOf, Builtin.firstCells, hfit, storeCells]

/-- append(s, x...), s the call's own, x whatever, in a walk. -/
theorem wpList_appendG {α : Type} {f : α → List Value} {size : Nat} {P : Program} (w : World) {ops : Array Oper} {rest : List Oper} {o : Oper} {a : Act} {Q : Exit → Act → World → Prop} (hgd : o.guard = none) (s x : Operand) (t : TypeId)
    (ho : o.op = .call { callee := .builtin .append, args := #[s, x], argTypes := #[t, t] })
    (e : TypeId) (i : TypeInfo) (z : Value) (bytes : Nat) (ht : P.underlying t = some (.slice e)) (hi : P.info? e = some i) (hz : i.zero = some z) (hsize : i.size = size) (hby : i.bytes = bytes) (hzs : z.cells.size = size) (hs0 : 0 < size)
    (hf : ∀ x, (f x).length = size) (h1 : ∀ x, ∀ v ∈ f x, v.oneCell' = true)
    (A : Option Addr) (n c : Nat) (l : List α) (hs : a.eval s = .slice A n c) (hn : n = l.length) (hown : OwnG f e size w A c l)
    (X : Option Addr) (m d : Nat) (k : List α) (hx : a.eval x = .slice X m d) (hm : m = k.length) (hr : Cells w X (k.flatMap f))
    (h63 : (l.length + k.length) * bytes ≤ 140737488355328) (h64 : l.length + k.length ≤ maxLen)
    (h : ∀ A' c' v, OwnG f e size v A' c' (l ++ k) → Mod (blk A) w v → (∀ a, A' = some a → a.block ∈ blk A ∨ w.heap.size ≤ a.block) → wpList P ops Q rest (a.put o.dst (.slice A' (l ++ k).length c')) v) :
    wpList P ops Q (o :: rest) a w := by
  subst hn hm
  have hkl := flat_length f size hf k
  rcases X with _ | ad
  · have hk : k = [] := by
      rcases k with _ | ⟨x, k⟩
      · rfl
      · obtain ⟨g, o, hh, _⟩ := hr 0 (by rw [hkl]; simp; omega)
        cases hh
    subst hk
    have hrun := run_append_noneG (P := P) w t o.type e i ht hi hown d
    simp only [List.length_nil] at hx
    refine wpList_plain hgd fun K hK => ?_
    have := h A c w (by simpa using hown) (Mod.refl _ _) (fun b hb => .inl (by subst hb; simp [blk]))
    unfold Oper.wp execOp
    simp only [ho, resolve, invoke, builtin, Sem.run_bind, Sem.run_pure, Result.andThen_ok, List.map_toArray, List.map_cons, List.map_nil, hs, hx, hrun]
    exact hK _ _ (by simpa using this)
  · have hcells : ∀ j u, (k.flatMap f)[j]? = some u → w.cell? (ad.add j) = some u := by
      intro j u hu
      rcases Nat.eq_zero_or_pos (k.flatMap f).length with h0 | h0
      · rw [List.eq_nil_of_length_eq_zero h0] at hu
        simp at hu
      · obtain ⟨ad', e', hh⟩ := hr.first h0
        injection e' with e'
        subst e'
        exact hh j u hu
    have hone : ∀ u ∈ k.flatMap f, u.oneCell' = true := fun u hu => by
      obtain ⟨x, _, hx⟩ := List.mem_flatMap.1 hu
      exact h1 x u hx
    obtain ⟨v', w', hrun, hown', hgr, _, hbl⟩ := run_append_own_at (P := P) w 0 t o.type e i z size bytes ht hi hz hsize hby hzs hs0 _ _ _ hown ad k.length d (k.flatMap f) hkl hcells hone h64 h63 (Nat.zero_le _)
    have hv : ∃ A' c', v' = .slice A' (l ++ k).length c' := by
      rcases hown'.2 with ⟨hv, hn⟩ | ⟨g, cap, cur, hv, _⟩
      · exact ⟨none, 0, by rw [hv, List.length_append, hn]⟩
      · exact ⟨_, _, by rw [hv, List.length_append]⟩
    obtain ⟨A', c', rfl⟩ := hv
    have hO : OwnG f e size w' A' c' (l ++ k) := by
      have := hown'
      rw [← List.length_append, ← List.flatMap_append] at this
      exact this
    have hob : ∀ (A : Option Addr) n c, (Value.slice A n c).ownBlock = A.map (·.block) := by intro A n c; cases A <;> rfl
    rw [hob] at hgr
    rw [hob, hob] at hbl
    refine wpList_plain hgd fun K hK => ?_
    unfold Oper.wp execOp
    simp only [ho, resolve, invoke, builtin, Sem.run_bind, Sem.run_pure, Result.andThen_ok, List.map_toArray, List.map_cons, List.map_nil, hs, hx, hrun]
    refine hK _ _ (h A' c' w' hO ⟨hgr.os, hgr.tape, hgr.output, hgr.size, fun j hj hn => hgr.block j hj ?_⟩ ?_)
    · intro hh
      exact hn (by unfold blk; rw [← hh]; simp)
    · intro b hb
      subst hb
      rcases hbl with hh | hh
      · left; unfold blk; rw [← hh]; simp
      · right
        simp at hh
        omega

theorem fill_step {place : Nat → Option (Nat × Nat)} {i off size : Nat} {v : Value} {rest : List (Nat × Value)} {cells : Array Value} (hp : place i = some (off, size)) (hs : v.cells.size = size) (hl : off + v.cells.size ≤ cells.size) :
    Instr.fill place cells ((i, v) :: rest) = Instr.fill place (v.cells.zipIdx.foldl (fun cs (c, j) => cs.setIfInBounds (off + j) c) cells) rest := by
  rw [Instr.fill]
  simp only [hp]
  rw [if_neg (by simp [hs]; omega)]
theorem run_lit1 {P : Program} {t e : TypeId} {it : TypeInfo} {Z V : Value} {cs : List Value} {s : Nat} (w : World) (ht : P.underlying t = some (.slice e)) (hq : P.info? e = some it) (hs : it.size = s) (h0 : 0 < s) (hb : s ≤ 2 ^ 24) (hz : ∀ w, (zeroValue e).run P w = .ok Z w) (hV : V.cells = cs.toArray) (hcs : cs.length = s) :
    (Instr.buildSlice t 1 #[(0, V)]).run P w = .ok (.slice (some ⟨w.heap.size, 0, none⟩) 1 1) (w.alloc (.cells cs.toArray e)) := by
  have hf : ∀ z : Array Value, z.size = s → Instr.fill (fun i => some (i * s, s)) z [(0, V)] = some cs.toArray := by
    rintro ⟨z⟩ hz
    have hz' : z.length = s := by simpa using hz
    rw [fill_step (off := 0) (size := s) (by simp) (by rw [hV]; simpa using hcs) (by rw [hV]; simp; omega), hV]
    have := fold_set cs 0 z (by omega)
    rw [show (cs.toArray.zipIdx.foldl (fun cs (x : Value × Nat) => match x with | (c, j) => cs.setIfInBounds (0 + j) c) z.toArray) = _ from this]
    have e : List.drop (0 + cs.length) z = [] := List.drop_eq_nil_of_le (by omega)
    rw [e]
    simp [Instr.fill]
  have hf2 := hf ((Array.range (1 * s)).map (Z.cells[· % Z.cells.size]!)) (by simp)
  unfold Instr.buildSlice
  simp only [Sem.run_bind, run_underlying ht, sizeOf, typeInfo, run_program, hq, Result.andThen, Sem.run_pure, hs]
  rw [if_neg (by omega), if_neg (by omega)]
  simp only [Sem.run_bind, hz, Result.andThen, Sem.run_pure, hf2]
  simp [newRow, go_sem]
/-- A slice literal of one element. -/
theorem wpList_lits {P : Program} {w : World} {ops : Array Oper} {rest : List Oper} {o : Oper} {a : Act} {Q : Exit → Act → World → Prop} (hgd : o.guard = none) (t e : TypeId) (n : Nat) (parts : Array (Nat × Operand)) (ho : o.op = .buildSlice t n parts) (cs : List Value)
    (hrun : (Instr.buildSlice t n (parts.map fun (i, x) => (i, a.eval x))).run P w = .ok (.slice (some ⟨w.heap.size, 0, none⟩) n n) (w.alloc (.cells cs.toArray e)))
    (h : ∀ v, Holds v w.heap.size e cs → Mod [] w v → v.heap.size = w.heap.size + 1 → wpList P ops Q rest (a.put o.dst (.slice (some ⟨w.heap.size, 0, none⟩) n n)) v) : wpList P ops Q (o :: rest) a w := by
  refine wpList_plain hgd fun K hK => ?_
  unfold Oper.wp execOp
  simp only [ho, Sem.run_bind, hrun, Result.andThen]
  exact hK _ _ (h _ (Holds.made w e cs) (Mod.alloc [] w _) (by simp))
section laws
variable {P : Program} {w : World} {ops : Array Oper} {rest : List Oper} {o : Oper} {a : Act} {Q : Exit → Act → World → Prop}
/-- An operation that yields a value, if it is wanted. -/
theorem wpList_ranW (hw : Region.wanted o (yielded ops a.tmps) = true) (V : Value) (v : World) (hrun : (execOp a.eval o).run P w = .ok (.value V) v) (h : wpList P ops Q rest (a.put o.dst V) v) : wpList P ops Q (o :: rest) a w := by
  refine wpList_step fun K hK => ?_
  rw [if_pos hw]
  unfold Oper.wp
  rw [hrun]
  exact hK _ _ h
end laws
/-- append, run. -/
theorem wpList_appended {P : Program} {w : World} {ops : Array Oper} {rest : List Oper} {o : Oper} {a : Act} {Q : Exit → Act → World → Prop} (V : Value) (v : World) {U X : Value} (hgd : o.guard = none) (s x : Operand) (t : TypeId) (ho : o.op = .call { callee := .builtin .append, args := #[s, x], argTypes := #[t, t] }) (hs : a.eval s = U) (hx : a.eval x = X)
    (hrun : (Builtin.append_ #[t, t] o.type #[U, X]).run P w = .ok V v) (h : wpList P ops Q rest (a.put o.dst V) v) : wpList P ops Q (o :: rest) a w :=
  wpList_ranW (by unfold Region.wanted; rw [hgd]) V v (exec_append ho hs hx hrun) h
section laws
variable {P : Program} {w : World} {ops : Array Oper} {rest : List Oper} {o : Oper} {a : Act} {Q : Exit → Act → World → Prop} {F : Fence} {n : Nat}
/-- A value of many cells is loaded, within a fence. -/
theorem wpListIn_loads (hgd : o.guard = none) (ty : TypeId) (x : Operand) (ho : o.op = .load ty x) (g f : Nat) (cs : List Value) (hx : a.eval x = .pointer (some ⟨g, f, none⟩)) (hc : Cells w (some ⟨g, f, none⟩) cs)
    (d : TypeDesc) (hu : P.underlying ty = some d) (hd : (match d with | .struct _ | .array _ _ => true | _ => false) = true) (hi : (P.info? ty).map (·.size) = some cs.length)
    (V : Value) (hV : V = .agg cs.toArray)
    (h : wpListIn F n P ops Q rest (a.put o.dst V) w) : wpListIn F n P ops Q (o :: rest) a w := by
  subst hV
  refine wpListIn_plain hgd fun K hK => ?_
  unfold Oper.wpIn
  refine ⟨by simp [Oper.about, ho], ?_⟩
  rw [Oper.semAt_plain F _ _ (by rw [ho]; intro c hc'; cases hc')]
  unfold execOp
  simp only [ho, hx, Instr.loadAt, Instr.sureAddr, Sem.run_bind, Sem.run_pure, Result.andThen_ok, run_loads hc hu hd hi]
  exact hK _ _ h
theorem wpListIn_storesAll (hgd : o.guard = none) (ty : TypeId) (x y : Operand) (ho : o.op = .store ty x y) (hdst : o.dst = none) (g : Nat) (cs : List Value) (hx : a.eval x = .pointer (some ⟨g, 0, none⟩)) (V : Value) (hy : a.eval y = V) (hV : V = .agg cs.toArray)
    (t : TypeId) (old : List Value) (hh : Holds w g t old) (hf : cs.length = old.length) (h1 : ∀ v ∈ cs, v.oneCell' = true) (hi : (P.info? ty).map (·.size) = some cs.length)
    (h : ∀ v, Holds v g t cs → Mod [g] w v → v.heap.size = w.heap.size → wpListIn F n P ops Q rest a v) : wpListIn F n P ops Q (o :: rest) a w := by
  subst hV
  obtain ⟨v, hrun, h2, h3, h4⟩ := run_stores (P := P) (ty := ty) (f := 0) hh (by omega) h1 hi
  refine wpListIn_plain hgd fun K hK => ?_
  unfold Oper.wpIn
  refine ⟨by simp [Oper.about, ho], ?_⟩
  rw [Oper.semAt_plain F _ _ (by rw [ho]; intro c hc'; cases hc')]
  unfold execOp
  simp only [ho, hx, hy, Instr.storeAt, Instr.sureAddr, Sem.run_bind, Sem.run_pure, Result.andThen_ok, hrun]
  refine hK _ _ ?_
  show wpListIn F n P ops Q rest (a.put o.dst undef) _
  rw [hdst]
  exact h v (by simpa [hf] using h2) h3 h4
theorem wpListIn_allocs (hgd : o.guard = none) (ty : TypeId) (ho : o.op = .alloc ty) (cs : List Value) (hz : ∀ w, (zeroValue ty).run P w = .ok (.agg cs.toArray) w)
    (h : ∀ v, Holds v w.heap.size ty cs → Mod [] w v → v.heap.size = w.heap.size + 1 → wpListIn F n P ops Q rest (a.put o.dst (.pointer (some ⟨w.heap.size, 0, none⟩))) v) : wpListIn F n P ops Q (o :: rest) a w := by
  refine wpListIn_plain hgd fun K hK => ?_
  have hrun : (Instr.alloc ty true (.tuple #[])).run P w = .ok (.pointer (some ⟨w.heap.size, 0, none⟩)) (w.alloc (.cells cs.toArray ty)) := by
    simp [Instr.alloc, hz, newVar, newRow, Value.cells, go_sem]
  unfold Oper.wpIn
  refine ⟨by simp [Oper.about, ho], ?_⟩
  rw [Oper.semAt_plain F _ _ (by rw [ho]; intro c hc'; cases hc')]
  unfold execOp
  simp only [ho, Sem.run_bind, hrun, Result.andThen]
  exact hK _ _ (h _ (Holds.made w ty cs) (Mod.alloc [] w _) (by simp))
end laws
theorem zip_one (p : Tmp) (v : Value) (T : Array Value) : ((#[p] : Array Tmp).zip #[v]).foldl (fun t (p, v) => t.setIfInBounds p v) T = T.setIfInBounds p v := by simp
theorem holds_own {W W' : World} {g : Nat} {t : TypeId} {cs : List Value} {row : Option Nat} (h : Holds W g t cs) (hg : W.grownBy W' row) (hr : ∀ r, row = some r → ∃ o : Obj, W.heap[r]? = some o ∧ o.isCells = false) : Holds W' g t cs :=
  (hg.block g h.lt (fun e => by obtain ⟨o, ho, hc⟩ := hr g e.symm; unfold Holds at h; rw [h] at ho; cases ho; cases hc)).trans h
theorem mod_own {w W W' : World} {row : Option Nat} (h : Mod [] w W) (hg : W.grownBy W' row) (hr : ∀ r, row = some r → w.heap.size ≤ r) : Mod [] w W' :=
  ⟨hg.os.trans h.os, hg.tape.trans h.tape, hg.output.trans h.output, Nat.le_trans h.size hg.size, fun k hk hn => (hg.block k (Nat.lt_of_lt_of_le hk h.size) (fun e => by have := hr k e.symm; omega)).trans (h.block k hk hn)⟩
theorem Mod.keepsFrom {W W' : World} (h : Mod [] W W') (B : Nat) : KeepsFrom B W W' := ⟨h.size, fun k o _ hk _ => (h.block k (Array.getElem?_eq_some_iff.1 hk).1 (by simp)).trans hk⟩
theorem Mod.keepsFrom1 {W W' : World} {g : Nat} {t : TypeId} {cs : List Value} (h : Mod [g] W W') (hh : Holds W g t cs) (B : Nat) : KeepsFrom B W W' := ⟨h.size, fun k o _ hk hc => (h.block k (Array.getElem?_eq_some_iff.1 hk).1 (by
  simp only [List.mem_singleton]
  rintro rfl
  unfold Holds at hh
  rw [hh] at hk
  cases hk
  cases hc)).trans hk⟩
/-- An operation that is run, within a fence. -/
theorem wpListIn_ranW {F : Fence} {n : Nat} {P : Program} {w : World} {ops : Array Oper} {rest : List Oper} {o : Oper} {a : Act} {Q : Exit → Act → World → Prop} (hF : ∀ f, F.fn f) (hgd : o.guard = none) (hd : ∀ c, o.op ≠ .defer c) (V : Value) (v : World) (hrun : (execOp a.eval o).run P w = .ok (.value V) v)
    (h : wpListIn F n P ops Q rest (a.put o.dst V) v) : wpListIn F n P ops Q (o :: rest) a w := by
  refine wpListIn_plain hgd fun K hK => ?_
  refine ⟨fun f _ => hF f, ?_⟩
  rw [Oper.semAt_plain F _ _ hd, hrun]
  exact hK _ _ h
/-- append of elements, within a fence. -/
theorem wpListIn_appendG {α : Type} {F : Fence} {n0 : Nat} (hF : ∀ f, F.fn f) {f : α → List Value} {size : Nat} {P : Program} (w : World) {ops : Array Oper} {rest : List Oper} {o : Oper} {a : Act} {Q : Exit → Act → World → Prop} (hgd : o.guard = none) (s x : Operand) (t : TypeId)
    (ho : o.op = .call { callee := .builtin .append, args := #[s, x], argTypes := #[t, t] })
    (e : TypeId) (i : TypeInfo) (z : Value) (bytes : Nat) (ht : P.underlying t = some (.slice e)) (hi : P.info? e = some i) (hz : i.zero = some z) (hsize : i.size = size) (hby : i.bytes = bytes) (hzs : z.cells.size = size) (hs0 : 0 < size)
    (hf : ∀ x, (f x).length = size) (h1 : ∀ x, ∀ v ∈ f x, v.oneCell' = true)
    (A : Option Addr) (n c : Nat) (l : List α) (hs : a.eval s = .slice A n c) (hn : n = l.length) (hown : OwnG f e size w A c l)
    (X : Option Addr) (m d : Nat) (k : List α) (hx : a.eval x = .slice X m d) (hm : m = k.length) (hr : Cells w X (k.flatMap f))
    (h63 : (l.length + k.length) * bytes ≤ 140737488355328) (h64 : l.length + k.length ≤ maxLen)
    (h : ∀ A' c' v, OwnG f e size v A' c' (l ++ k) → Mod (blk A) w v → (∀ a, A' = some a → a.block ∈ blk A ∨ w.heap.size ≤ a.block) → wpListIn F n0 P ops Q rest (a.put o.dst (.slice A' (l ++ k).length c')) v) :
    wpListIn F n0 P ops Q (o :: rest) a w := by
  subst hn hm
  have hkl := flat_length f size hf k
  rcases X with _ | ad
  · have hk : k = [] := by
      rcases k with _ | ⟨x, k⟩
      · rfl
      · obtain ⟨g, o, hh, _⟩ := hr 0 (by rw [hkl]; simp; omega)
        cases hh
    subst hk
    have hrun := run_append_noneG (P := P) w t o.type e i ht hi hown d
    simp only [List.length_nil] at hx
    refine wpListIn_plain hgd fun K hK => ?_
    have := h A c w (by simpa using hown) (Mod.refl _ _) (fun b hb => .inl (by subst hb; simp [blk]))
    refine ⟨fun f _ => hF f, ?_⟩
    rw [Oper.semAt_plain F _ _ (by rw [ho]; intro c hc; cases hc)]
    unfold execOp
    simp only [ho, resolve, invoke, builtin, Sem.run_bind, Sem.run_pure, Result.andThen_ok, List.map_toArray, List.map_cons, List.map_nil, hs, hx, hrun]
    exact hK _ _ (by simpa using this)
  · have hcells : ∀ j u, (k.flatMap f)[j]? = some u → w.cell? (ad.add j) = some u := by
      intro j u hu
      rcases Nat.eq_zero_or_pos (k.flatMap f).length with h0 | h0
      · rw [List.eq_nil_of_length_eq_zero h0] at hu
        simp at hu
      · obtain ⟨ad', e', hh⟩ := hr.first h0
        injection e' with e'
        subst e'
        exact hh j u hu
    have hone : ∀ u ∈ k.flatMap f, u.oneCell' = true := fun u hu => by
      obtain ⟨x, _, hx⟩ := List.mem_flatMap.1 hu
      exact h1 x u hx
    obtain ⟨v', w', hrun, hown', hgr, _, hbl⟩ := run_append_own_at (P := P) w 0 t o.type e i z size bytes ht hi hz hsize hby hzs hs0 _ _ _ hown ad k.length d (k.flatMap f) hkl hcells hone h64 h63 (Nat.zero_le _)
    have hv : ∃ A' c', v' = .slice A' (l ++ k).length c' := by
      rcases hown'.2 with ⟨hv, hn⟩ | ⟨g, cap, cur, hv, _⟩
      · exact ⟨none, 0, by rw [hv, List.length_append, hn]⟩
      · exact ⟨_, _, by rw [hv, List.length_append]⟩
    obtain ⟨A', c', rfl⟩ := hv
    have hO : OwnG f e size w' A' c' (l ++ k) := by
      have := hown'
      rw [← List.length_append, ← List.flatMap_append] at this
      exact this
    have hob : ∀ (A : Option Addr) n c, (Value.slice A n c).ownBlock = A.map (·.block) := by intro A n c; cases A <;> rfl
    rw [hob] at hgr
    rw [hob, hob] at hbl
    refine wpListIn_plain hgd fun K hK => ?_
    refine ⟨fun f _ => hF f, ?_⟩
    rw [Oper.semAt_plain F _ _ (by rw [ho]; intro c hc; cases hc)]
    unfold execOp
    simp only [ho, resolve, invoke, builtin, Sem.run_bind, Sem.run_pure, Result.andThen_ok, List.map_toArray, List.map_cons, List.map_nil, hs, hx, hrun]
    refine hK _ _ (h A' c' w' hO ⟨hgr.os, hgr.tape, hgr.output, hgr.size, fun j hj hn => hgr.block j hj ?_⟩ ?_)
    · intro hh
      exact hn (by unfold blk; rw [← hh]; simp)
    · intro b hb
      subst hb
      rcases hbl with hh | hh
      · left; unfold blk; rw [← hh]; simp
      · right
        simp at hh
        omega
/-- What an iterator does that tells Fx of each thing it hands over, in the world in which it does. -/
def SeqWith {α : Type} (F : Fence) (n : Nat) (P : Program) (g : Nat) (lb : Array Value) (encs : α → Array Value) (Fx : List α → α → World → Prop) (Kp : World → World → Prop) (S Sp : List α → Prop) (N : Nat) (w : World) : Prop :=
  ∀ (l : Nat) (J Jx : List α → World → Prop) (W : World), Below w.heap.size w W → AbidesFrom W.heap.size J → AbidesFrom W.heap.size Jx →
    (∀ pre x V, Fx pre x V → J pre V → pre.length < N → YieldAt F (n - 1) P l (encs x) V fun r V' => (r = .returned (.bool true) ∧ J (pre ++ [x]) V' ∧ Kp V V') ∨ (r = .returned (.bool false) ∧ Jx (pre ++ [x]) V')) →
    J [] W → CallsIn F n P g (#[.func (.yield l) #[] #[]] ++ lb) W fun r V => (∃ v, r = .returned v) ∧ ((∃ xs, S xs ∧ J xs V) ∨ (∃ pre, Sp pre ∧ Jx pre V))
section
variable {F : Fence} {n : Nat} {P : Program} {w : World}
theorem wpIn_rangeFunc_with {α : Type} {g : Operand} {ps : Array Tmp} {assign body : Code} {Q : Exit → Act → World → Prop} {a : Act}
    (hro : F.round = none) (h1 : 1 ≤ n) {gf : Nat} {lb : Array Value} (hg : a.eval g = .func (.func gf) #[] lb) (hFg : F.fn gf) (eg : ∀ args w, (callFunc gf args).run P w = .ok (.enter gf args) w)
    {encs : α → Array Value} {Fx : List α → α → World → Prop} {Kp : World → World → Prop} {S Sp : List α → Prop} {N : Nat} {w0 : World} (hseq : SeqWith F (n - 1) P gf lb encs Fx Kp S Sp N w0)
    (hKt : ∀ {A B C : World}, Kp A B → Kp B C → Kp A C) (hKb : ∀ (W : World) (l : Nat) (o o' : Obj), w.heap.size ≤ l → W.heap[l]? = some o → o.isCells = false → o.isWalk = false → Kp W (W.putObj l o')) (hb0 : Below w0.heap.size w0 w) (hps : ∀ x, (encs x).size = ps.size)
    (I : List α → World → Prop) (Ix : Code → List α → World → Prop) (hI : OwnFrom w.heap.size I) (hIx : ∀ c, OwnFrom w.heap.size (Ix c)) (h0 : I [] w) (Ax : List α → α → Act → World → Prop) (hAx : ∀ pre x a', OwnFrom w.heap.size (fun (_ : Unit) W => Ax pre x a' W))
    (hassign : ∀ (l : Nat) (pre : List α) (x : α) (W : World) (K : Act → World → Prop), I pre W → Fx pre x W → (∀ a' W', KeepsFrom w.heap.size W W' → Kp W W' → I pre W' → Ax pre x a' W' → K a' W') →
      assign.wpIn (F.inRound l) (n - 1 - 1) P (Exit.then K (fun _ _ _ => False)) { tmps := (ps.zip (encs x)).foldl (fun t (p, v) => t.setIfInBounds p v) a.tmps, defers := [] } W)
    (hbody : ∀ (l : Nat) (pre : List α) (x : α) (a' : Act) (W : World), w.heap.size ≤ l → (∃ r, W.heap[l]? = some (.loop r)) → I pre W → Ax pre x a' W → pre.length < N → body.wpIn (F.inRound l) (n - 1 - 1) P (ownPostG w.heap.size Kp I Ix (pre ++ [x]) W) a' W)
    (hdone : ∀ (D : Nat) (xs : List α) (W : World), w.heap.size ≤ D → S xs → I xs W → W.heap[D]? = some (.deferred (some [])) → Q .normal { a with defers := { target := .collected D, args := #[] } :: a.defers } W)
    (hstop : ∀ (D : Nat) (c : Code) (pre : List α) (W : World), w.heap.size ≤ D → Sp pre → Ix c pre W → W.heap[D]? = some (.deferred (some [])) → c.wpIn F n P Q { a with defers := { target := .collected D, args := #[] } :: a.defers } W) :
    (Code.rangeFunc g ps assign body).wpIn F n P Q a w := by
  refine wpIn_rangeFunc fun fn hfn => ?_
  rw [hro]
  -- the two blocks of the range: D for what its rounds would defer, and behind it the range's own record
  generalize hD : w.heap.size = D at *
  let R : LoopState → Option Code → Loop := fun st pe => { state := st, pending := pe, fn, tmps := a.tmps, params := ps, assign, body, defers := D }
  have hR : ∀ st pe, R st pe = { state := st, pending := pe, fn, tmps := a.tmps, params := ps, assign, body, defers := D } := fun _ _ => rfl
  clear_value R
  generalize hV : (w.alloc (.deferred (some []))).alloc (.loop (R .ready none)) = V
  have rec0 : V.heap[D + 1]? = some (.loop (R .ready none)) := by
    rw [← hV, ← hD]
    have := World.alloc_heap_new (w.alloc (.deferred (some []))) (.loop (R .ready none))
    rwa [World.size_alloc] at this
  have def0 : V.heap[D]? = some (.deferred (some [])) := by
    rw [← hV, ← hD]
    exact (Below.heap_alloc _ _ _ (by simp)).trans (World.alloc_heap_new w _)
  have hVs : D + 2 ≤ V.heap.size := by rw [← hV, ← hD]; simp
  have inv0 : I [] V := by rw [← hV]; exact hI.alloc _ (hI.alloc _ h0)
  have bel0 : Below w0.heap.size w0 V := by
    rw [← hV]
    exact hb0.trans ((((Below.refl _ w).alloc (Nat.le_refl _) _).alloc (by simp) _).mono hb0.size)
  refine ⟨D + 1, [{ target := .collected D, args := #[] }], V, { target := .fn (.func gf) lb, args := #[.func (.yield (D + 1)) #[] #[]] }, V, gf, #[.func (.yield (D + 1)) #[] #[]] ++ lb, V, ?_, ?_, ?_, ?_, fun _ => h1, ?_⟩
  · rw [← hV, ← hD, hR, ← hD]
    exact run_enterLoop_outer _ _ _ _ _
  · simp only [resolve, hg]
    simp [go_sem]
  · intro f' hf'
    simp [Target.leads] at hf'
    subst hf'
    exact hFg
  · simp [invoke, go_sem, eg]
  have cells : ∀ {A B : World} {row : Option Nat}, (∀ r, row = some r → V.heap.size ≤ r ∧ ∃ o : Obj, A.heap[r]? = some o ∧ o.isWalk = true) → (∀ r, row = some r → D ≤ r ∧ ∃ o : Obj, A.heap[r]? = some o ∧ o.isCells = false) :=
    fun hr r e => by
      obtain ⟨q1, o, q2, q3⟩ := hr r e
      exact ⟨by omega, o, q2, Obj.not_cells_of_walk q3⟩
  have stay : ∀ {A B : World} {row : Option Nat} {k : Nat} {o : Obj}, A.grownBy B row → (∀ r, row = some r → V.heap.size ≤ r ∧ ∃ o : Obj, A.heap[r]? = some o ∧ o.isWalk = true) → A.heap[k]? = some o → o.isWalk = false → B.heap[k]? = some o :=
    fun hgr hr hk ho => (grownBy_keeps hgr (fun r e => (hr r e).2) hk ho).trans hk
  refine (hseq (D + 1) (fun pre W => I pre W ∧ W.heap[D + 1]? = some (.loop (R .ready none)) ∧ W.heap[D]? = some (.deferred (some [])))
    (fun pre W => ∃ c, Ix c pre W ∧ W.heap[D + 1]? = some (.loop (R .done (some c))) ∧ W.heap[D]? = some (.deferred (some []))) V bel0
    (fun s A B row hs hgr hr => ⟨hI s A B row hs.1 hgr (cells (B := B) hr), stay hgr hr hs.2.1 rfl, stay hgr hr hs.2.2 rfl⟩)
    (fun s A B row hs hgr hr => by obtain ⟨c, q1, q2, q3⟩ := hs; exact ⟨c, hIx c s A B row q1 hgr (cells (B := B) hr), stay hgr hr q2 rfl, stay hgr hr q3 rfl⟩)
    ?round ⟨inv0, rec0, def0⟩).mono ?behind
  case behind =>
    rintro r W2 ⟨⟨v, rfl⟩, (⟨xs, q1, q2, q3, q4⟩ | ⟨pre, q1, c, q2, q3, q4⟩)⟩
    · have hend := run_endLoop (P := P) q3 (by rw [hR]; simp)
      rw [hR] at hend
      exact ⟨none, _, hend, hdone D xs _ (Nat.le_refl _) q1 (hI.putObj _ q2 (by omega) q3 rfl) ((World.putObj_heap_other (by omega)).trans q4)⟩
    · have hend := run_endLoop (P := P) q3 (by rw [hR]; simp)
      rw [hR] at hend
      exact ⟨some c, _, hend, hstop D c pre _ (Nat.le_refl _) q1 ((hIx c).putObj _ q2 (by omega) q3 rfl) ((World.putObj_heap_other (by omega)).trans q4)⟩
  case round =>
    rintro pre x W hf ⟨q1, q2, q3⟩ hlen
    have hy := run_yield (P := P) (args := encs x) q2 (by rw [hR]; exact hps x)
    rw [hR] at hy
    refine ⟨fn, _, assign, body, hy, roundIn_of_wpIn hfn (hassign _ pre x W _ q1 hf ?_)⟩
    intro a' W' k1 k2 k3 k4
    have r2 := k1.same _ _ (by omega) q2 rfl
    have r3 := k1.same _ _ (Nat.le_refl _) q3 rfl
    have hlt := (Array.getElem?_eq_some_iff.1 r2).1
    refine ⟨_, run_beginRound r2 (by rw [hR]), ?_⟩
    have b2 : (W'.putObj (D + 1) (.loop { R .ready none with state := .busy })).heap[D + 1]? = some (.loop { R .ready none with state := .busy }) := World.putObj_heap_same hlt
    have b3 : (W'.putObj (D + 1) (.loop { R .ready none with state := .busy })).heap[D]? = some (.deferred (some [])) := (World.putObj_heap_other (by omega)).trans r3
    have bk : Kp W' (W'.putObj (D + 1) (.loop { R .ready none with state := .busy })) := hKb _ _ _ _ (by omega) r2 rfl rfl
    refine wpIn_mono (hbody _ pre x a' _ (by omega) ⟨_, b2⟩ (hI.putObj _ k3 (by omega) r2 rfl) ((hAx pre x a').putObj (s := ()) _ k4 (by omega) r2 rfl) hlen) ?_
    have ends : ∀ (j : Option Code) (W3 : World), KeepsFrom D (W'.putObj (D + 1) (.loop { R .ready none with state := .busy })) W3 →
        (Instr.endRound (D + 1) j).run P W3 = .ok (.bool j.isNone) (W3.putObj (D + 1) (.loop (R (if j.isNone then .ready else .done) j))) ∧ W3.heap[D + 1]? = some (.loop { R .ready none with state := .busy }) ∧
        (W3.putObj (D + 1) (.loop (R (if j.isNone then .ready else .done) j))).heap[D + 1]? = some (.loop (R (if j.isNone then .ready else .done) j)) ∧ (W3.putObj (D + 1) (.loop (R (if j.isNone then .ready else .done) j))).heap[D]? = some (.deferred (some [])) := fun j W3 hk3 => by
      have e2 := hk3.same _ _ (by omega) b2 rfl
      have er := run_endRound (P := P) j e2
      refine ⟨?_, e2, World.putObj_heap_same (Array.getElem?_eq_some_iff.1 e2).1, (World.putObj_heap_other (by omega)).trans (hk3.same _ _ (Nat.le_refl _) b3 rfl)⟩
      rw [hR] at er ⊢
      exact er
    rintro e a3 W3 hp
    cases e with
    | normal =>
      obtain ⟨p1, p2, p3⟩ := hp
      obtain ⟨s1, s2, s3, s4⟩ := ends none W3 p1
      exact ⟨_, _, s1, .inl ⟨rfl, ⟨hI.putObj _ p3 (by omega) s2 rfl, s3, s4⟩, hKt k2 (hKt (hKt bk p2) (hKb _ _ _ _ (by omega) s2 rfl rfl))⟩⟩
    | ret =>
      obtain ⟨s1, s2, s3, s4⟩ := ends (some .ret) W3 hp.1
      exact ⟨_, _, s1, .inr ⟨rfl, .ret, (hIx _).putObj _ hp.2 (by omega) s2 rfl, s3, s4⟩⟩
    | exit id =>
      obtain ⟨s1, s2, s3, s4⟩ := ends (some (.exit id)) W3 hp.1
      exact ⟨_, _, s1, .inr ⟨rfl, .exit id, (hIx _).putObj _ hp.2 (by omega) s2 rfl, s3, s4⟩⟩
    | goto t =>
      obtain ⟨s1, s2, s3, s4⟩ := ends (some (.goto t)) W3 hp.1
      exact ⟨_, _, s1, .inr ⟨rfl, .goto t, (hIx _).putObj _ hp.2 (by omega) s2 rfl, s3, s4⟩⟩
    | panic ch => exact hp.elim
    | outgrown => exact hp.elim
end
/-- What a round keeps: all cells but those of a few blocks. -/
structure KeepC (ms : List Nat) (W W' : World) : Prop where
  size : W.heap.size ≤ W'.heap.size
  same : ∀ k o, k ∉ ms → W.heap[k]? = some o → o.isCells = true → W'.heap[k]? = some o
theorem KeepC.refl (ms : List Nat) (W : World) : KeepC ms W W := ⟨Nat.le_refl _, fun _ _ _ h _ => h⟩
theorem KeepC.trans {ms : List Nat} {A B C : World} (h : KeepC ms A B) (k : KeepC ms B C) : KeepC ms A C :=
  ⟨Nat.le_trans h.size k.size, fun i o h1 h2 h3 => k.same i o h1 (h.same i o h1 h2 h3) h3⟩
theorem Mod.keepC {ms : List Nat} {W W' : World} (h : Mod ms W W') : KeepC ms W W' := ⟨h.size, fun k _ h1 h2 _ => (h.block k (Array.getElem?_eq_some_iff.1 h2).1 h1).trans h2⟩
theorem KeepC.holds {ms : List Nat} {w v : World} {g : Nat} {t : TypeId} {cs : List Value} (h : Holds w g t cs) (m : KeepC ms w v) (h2 : g ∉ ms) : Holds v g t cs := m.same g _ h2 h rfl
theorem KeepC.cells {ms : List Nat} {w v : World} {A : Option Addr} {cs : List Value} (h : Cells w A cs) (m : KeepC ms w v) (hn : ∀ a, A = some a → a.block ∉ ms) : Cells v A cs := by
  intro i hi
  obtain ⟨g, o, rfl, hc⟩ := h i hi
  refine ⟨g, o, rfl, ?_⟩
  cases hb : w.heap[g]? with
  | none => simp [World.cell?, hb] at hc
  | some b =>
    have hic : b.isCells = true := by
      cases b with
      | cells => rfl
      | _ => simp [World.cell?, hb] at hc ⊢
    rw [World.cell?_of_block (a := ⟨g, o + i, none⟩) (w := w) ((m.same g b (hn _ rfl) hb hic).trans hb.symm)]
    exact hc
theorem KeepC.putObj {ms : List Nat} (W : World) (l : Nat) (o o' : Obj) (h : W.heap[l]? = some o) (hc : o.isCells = false) : KeepC ms W (W.putObj l o') :=
  ⟨by simp [World.putObj], fun k b _ hk hb => by
    by_cases hkl : k = l
    · subst hkl; rw [h] at hk; cases hk; rw [hc] at hb; cases hb
    · rw [World.putObj_heap_other hkl]; exact hk⟩
/-- What stays whatever is done with blocks from n on. -/
def AnyFrom {σ : Type} (n : Nat) (I : σ → World → Prop) : Prop := ∀ (s : σ) (A B : World) (row : Option Nat), I s A → A.grownBy B row → (∀ r, row = some r → n ≤ r) → I s B
theorem AnyFrom.mod {σ : Type} {n : Nat} {I : σ → World → Prop} (h : AnyFrom n I) {s : σ} {A B : World} (hs : I s A) (m : Mod [] A B) : I s B :=
  h s A B none hs ⟨m.os, m.tape, m.output, m.size, fun i hi _ => m.block i hi (by simp)⟩ (fun r h => by cases h)
theorem AnyFrom.mod1 {σ : Type} {n g : Nat} {I : σ → World → Prop} (h : AnyFrom n I) {s : σ} {A B : World} (hs : I s A) (m : Mod [g] A B) (hg : n ≤ g) : I s B :=
  h s A B (some g) hs ⟨m.os, m.tape, m.output, m.size, fun i hi hn => m.block i hi (by simp; intro e; exact hn (by rw [e]))⟩ (fun r h => by cases h; exact hg)
theorem AnyFrom.putObj {σ : Type} {n : Nat} {I : σ → World → Prop} (h : AnyFrom n I) {s : σ} {W : World} {l : Nat} (o' : Obj) (hs : I s W) (hl : n ≤ l) : I s (W.putObj l o') :=
  h s W _ (some l) hs (grownBy_putObj' W l o') (fun r e => by cases e; exact hl)
theorem AnyFrom.alloc {σ : Type} {n : Nat} {I : σ → World → Prop} (h : AnyFrom n I) {s : σ} {W : World} (o : Obj) (hs : I s W) : I s (W.alloc o) := h.mod hs (Mod.alloc [] W o)
/-- An iterator that may have cells of its own: it hands over what Fx says, and changes nothing that was there. -/
def SeqAny {α : Type} (F : Fence) (n : Nat) (P : Program) (g : Nat) (lb : Array Value) (encs : α → Array Value) (Fx : List α → α → World → Prop) (Kp : World → World → Prop) (S Sp : List α → Prop) (N : Nat) (w : World) : Prop :=
  ∀ (l : Nat) (J Jx : List α → World → Prop) (W : World), Below w.heap.size w W → AnyFrom W.heap.size J → AnyFrom W.heap.size Jx →
    (∀ pre x V, Fx pre x V → J pre V → pre.length < N → YieldAt F (n - 1) P l (encs x) V fun r V' => (r = .returned (.bool true) ∧ J (pre ++ [x]) V' ∧ Kp V V') ∨ (r = .returned (.bool false) ∧ Jx (pre ++ [x]) V')) →
    J [] W → CallsIn F n P g (#[.func (.yield l) #[] #[]] ++ lb) W fun r V => (∃ v, r = .returned v) ∧ ((∃ xs, S xs ∧ J xs V) ∨ (∃ pre, Sp pre ∧ Jx pre V))
section
variable {F : Fence} {n : Nat} {P : Program} {w : World}
theorem wpIn_rangeFunc_any {α : Type} {g : Operand} {ps : Array Tmp} {assign body : Code} {Q : Exit → Act → World → Prop} {a : Act}
    (hro : F.round = none) (h1 : 1 ≤ n) {gf : Nat} {lb : Array Value} (hg : a.eval g = .func (.func gf) #[] lb) (hFg : F.fn gf) (eg : ∀ args w, (callFunc gf args).run P w = .ok (.enter gf args) w)
    {encs : α → Array Value} {Fx : List α → α → World → Prop} {Kp : World → World → Prop} {S Sp : List α → Prop} {N : Nat} {w0 : World} (hseq : SeqAny F (n - 1) P gf lb encs Fx Kp S Sp N w0)
    (hKt : ∀ {A B C : World}, Kp A B → Kp B C → Kp A C) (hKb : ∀ (W : World) (l : Nat) (o o' : Obj), w.heap.size ≤ l → W.heap[l]? = some o → o.isCells = false → o.isWalk = false → Kp W (W.putObj l o')) (hb0 : Below w0.heap.size w0 w) (hps : ∀ x, (encs x).size = ps.size)
    (I : List α → World → Prop) (Ix : Code → List α → World → Prop) (hI : AnyFrom w.heap.size I) (hIx : ∀ c, AnyFrom w.heap.size (Ix c)) (h0 : I [] w) (Ax : List α → α → Act → World → Prop) (hAx : ∀ pre x a', OwnFrom w.heap.size (fun (_ : Unit) W => Ax pre x a' W))
    (hassign : ∀ (l : Nat) (pre : List α) (x : α) (W : World) (K : Act → World → Prop), I pre W → Fx pre x W → (∀ a' W', KeepsFrom w.heap.size W W' → Kp W W' → I pre W' → Ax pre x a' W' → K a' W') →
      assign.wpIn (F.inRound l) (n - 1 - 1) P (Exit.then K (fun _ _ _ => False)) { tmps := (ps.zip (encs x)).foldl (fun t (p, v) => t.setIfInBounds p v) a.tmps, defers := [] } W)
    (hbody : ∀ (l : Nat) (pre : List α) (x : α) (a' : Act) (W : World), w.heap.size ≤ l → (∃ r, W.heap[l]? = some (.loop r)) → I pre W → Ax pre x a' W → pre.length < N → body.wpIn (F.inRound l) (n - 1 - 1) P (ownPostG w.heap.size Kp I Ix (pre ++ [x]) W) a' W)
    (hdone : ∀ (D : Nat) (xs : List α) (W : World), w.heap.size ≤ D → S xs → I xs W → W.heap[D]? = some (.deferred (some [])) → Q .normal { a with defers := { target := .collected D, args := #[] } :: a.defers } W)
    (hstop : ∀ (D : Nat) (c : Code) (pre : List α) (W : World), w.heap.size ≤ D → Sp pre → Ix c pre W → W.heap[D]? = some (.deferred (some [])) → c.wpIn F n P Q { a with defers := { target := .collected D, args := #[] } :: a.defers } W) :
    (Code.rangeFunc g ps assign body).wpIn F n P Q a w := by
  refine wpIn_rangeFunc fun fn hfn => ?_
  rw [hro]
  -- the two blocks of the range: D for what its rounds would defer, and behind it the range's own record
  generalize hD : w.heap.size = D at *
  let R : LoopState → Option Code → Loop := fun st pe => { state := st, pending := pe, fn, tmps := a.tmps, params := ps, assign, body, defers := D }
  have hR : ∀ st pe, R st pe = { state := st, pending := pe, fn, tmps := a.tmps, params := ps, assign, body, defers := D } := fun _ _ => rfl
  clear_value R
  generalize hV : (w.alloc (.deferred (some []))).alloc (.loop (R .ready none)) = V
  have rec0 : V.heap[D + 1]? = some (.loop (R .ready none)) := by
    rw [← hV, ← hD]
    have := World.alloc_heap_new (w.alloc (.deferred (some []))) (.loop (R .ready none))
    rwa [World.size_alloc] at this
  have def0 : V.heap[D]? = some (.deferred (some [])) := by
    rw [← hV, ← hD]
    exact (Below.heap_alloc _ _ _ (by simp)).trans (World.alloc_heap_new w _)
  have hVs : D + 2 ≤ V.heap.size := by rw [← hV, ← hD]; simp
  have inv0 : I [] V := by rw [← hV]; exact hI.alloc _ (hI.alloc _ h0)
  have bel0 : Below w0.heap.size w0 V := by
    rw [← hV]
    exact hb0.trans ((((Below.refl _ w).alloc (Nat.le_refl _) _).alloc (by simp) _).mono hb0.size)
  refine ⟨D + 1, [{ target := .collected D, args := #[] }], V, { target := .fn (.func gf) lb, args := #[.func (.yield (D + 1)) #[] #[]] }, V, gf, #[.func (.yield (D + 1)) #[] #[]] ++ lb, V, ?_, ?_, ?_, ?_, fun _ => h1, ?_⟩
  · rw [← hV, ← hD, hR, ← hD]
    exact run_enterLoop_outer _ _ _ _ _
  · simp only [resolve, hg]
    simp [go_sem]
  · intro f' hf'
    simp [Target.leads] at hf'
    subst hf'
    exact hFg
  · simp [invoke, go_sem, eg]
  have stay : ∀ {A B : World} {row : Option Nat} {k : Nat} {o : Obj}, A.grownBy B row → (∀ r, row = some r → V.heap.size ≤ r) → k < V.heap.size → A.heap[k]? = some o → B.heap[k]? = some o :=
    fun hgr hr hk ho => (hgr.block _ (Array.getElem?_eq_some_iff.1 ho).1 (fun e => by have := hr _ e.symm; omega)).trans ho
  refine (hseq (D + 1) (fun pre W => I pre W ∧ W.heap[D + 1]? = some (.loop (R .ready none)) ∧ W.heap[D]? = some (.deferred (some [])))
    (fun pre W => ∃ c, Ix c pre W ∧ W.heap[D + 1]? = some (.loop (R .done (some c))) ∧ W.heap[D]? = some (.deferred (some []))) V bel0
    (fun s A B row hs hgr hr => ⟨hI s A B row hs.1 hgr (fun r e => by have := hr r e; omega), stay hgr hr (by omega) hs.2.1, stay hgr hr (by omega) hs.2.2⟩)
    (fun s A B row hs hgr hr => by obtain ⟨c, q1, q2, q3⟩ := hs; exact ⟨c, hIx c s A B row q1 hgr (fun r e => by have := hr r e; omega), stay hgr hr (by omega) q2, stay hgr hr (by omega) q3⟩)
    ?round ⟨inv0, rec0, def0⟩).mono ?behind
  case behind =>
    rintro r W2 ⟨⟨v, rfl⟩, (⟨xs, q1, q2, q3, q4⟩ | ⟨pre, q1, c, q2, q3, q4⟩)⟩
    · have hend := run_endLoop (P := P) q3 (by rw [hR]; simp)
      rw [hR] at hend
      exact ⟨none, _, hend, hdone D xs _ (Nat.le_refl _) q1 (hI.putObj _ q2 (by omega)) ((World.putObj_heap_other (by omega)).trans q4)⟩
    · have hend := run_endLoop (P := P) q3 (by rw [hR]; simp)
      rw [hR] at hend
      exact ⟨some c, _, hend, hstop D c pre _ (Nat.le_refl _) q1 ((hIx c).putObj _ q2 (by omega)) ((World.putObj_heap_other (by omega)).trans q4)⟩
  case round =>
    rintro pre x W hf ⟨q1, q2, q3⟩ hlen
    have hy := run_yield (P := P) (args := encs x) q2 (by rw [hR]; exact hps x)
    rw [hR] at hy
    refine ⟨fn, _, assign, body, hy, roundIn_of_wpIn hfn (hassign _ pre x W _ q1 hf ?_)⟩
    intro a' W' k1 k2 k3 k4
    have r2 := k1.same _ _ (by omega) q2 rfl
    have r3 := k1.same _ _ (Nat.le_refl _) q3 rfl
    have hlt := (Array.getElem?_eq_some_iff.1 r2).1
    refine ⟨_, run_beginRound r2 (by rw [hR]), ?_⟩
    have b2 : (W'.putObj (D + 1) (.loop { R .ready none with state := .busy })).heap[D + 1]? = some (.loop { R .ready none with state := .busy }) := World.putObj_heap_same hlt
    have b3 : (W'.putObj (D + 1) (.loop { R .ready none with state := .busy })).heap[D]? = some (.deferred (some [])) := (World.putObj_heap_other (by omega)).trans r3
    have bk : Kp W' (W'.putObj (D + 1) (.loop { R .ready none with state := .busy })) := hKb _ _ _ _ (by omega) r2 rfl rfl
    refine wpIn_mono (hbody _ pre x a' _ (by omega) ⟨_, b2⟩ (hI.putObj _ k3 (by omega)) ((hAx pre x a').putObj (s := ()) _ k4 (by omega) r2 rfl) hlen) ?_
    have ends : ∀ (j : Option Code) (W3 : World), KeepsFrom D (W'.putObj (D + 1) (.loop { R .ready none with state := .busy })) W3 →
        (Instr.endRound (D + 1) j).run P W3 = .ok (.bool j.isNone) (W3.putObj (D + 1) (.loop (R (if j.isNone then .ready else .done) j))) ∧ W3.heap[D + 1]? = some (.loop { R .ready none with state := .busy }) ∧
        (W3.putObj (D + 1) (.loop (R (if j.isNone then .ready else .done) j))).heap[D + 1]? = some (.loop (R (if j.isNone then .ready else .done) j)) ∧ (W3.putObj (D + 1) (.loop (R (if j.isNone then .ready else .done) j))).heap[D]? = some (.deferred (some [])) := fun j W3 hk3 => by
      have e2 := hk3.same _ _ (by omega) b2 rfl
      have er := run_endRound (P := P) j e2
      refine ⟨?_, e2, World.putObj_heap_same (Array.getElem?_eq_some_iff.1 e2).1, (World.putObj_heap_other (by omega)).trans (hk3.same _ _ (Nat.le_refl _) b3 rfl)⟩
      rw [hR] at er ⊢
      exact er
    rintro e a3 W3 hp
    cases e with
    | normal =>
      obtain ⟨p1, p2, p3⟩ := hp
      obtain ⟨s1, s2, s3, s4⟩ := ends none W3 p1
      exact ⟨_, _, s1, .inl ⟨rfl, ⟨hI.putObj _ p3 (by omega), s3, s4⟩, hKt k2 (hKt (hKt bk p2) (hKb _ _ _ _ (by omega) s2 rfl rfl))⟩⟩
    | ret =>
      obtain ⟨s1, s2, s3, s4⟩ := ends (some .ret) W3 hp.1
      exact ⟨_, _, s1, .inr ⟨rfl, .ret, (hIx _).putObj _ hp.2 (by omega), s3, s4⟩⟩
    | exit id =>
      obtain ⟨s1, s2, s3, s4⟩ := ends (some (.exit id)) W3 hp.1
      exact ⟨_, _, s1, .inr ⟨rfl, .exit id, (hIx _).putObj _ hp.2 (by omega), s3, s4⟩⟩
    | goto t =>
      obtain ⟨s1, s2, s3, s4⟩ := ends (some (.goto t)) W3 hp.1
      exact ⟨_, _, s1, .inr ⟨rfl, .goto t, (hIx _).putObj _ hp.2 (by omega), s3, s4⟩⟩
    | panic ch => exact hp.elim
    | outgrown => exact hp.elim
end
theorem wpList_make0G {α : Type} (f : α → List Value) {P : Program} {w : World} {ops : Array Oper} {rest : List Oper} {o : Oper} {a : Act} {Q : Exit → Act → World → Prop} (hgd : o.guard = none) (t : TypeId) (x y : Operand) (ho : o.op = .makeSlice t x y) (e : TypeId) (i : TypeInfo) (z : Value) (size bytes n : Nat) (ht : P.underlying t = some (.slice e)) (hi : P.info? e = some i) (hz : i.zero = some z) (hs : i.size = size) (hb : i.bytes = bytes)
    (hx : a.eval x = .int .i64 0) (hy : a.eval y = .int .i64 (n : Int)) (h63 : bytes * n ≤ 281474976710656) (h64 : n ≤ maxLen)
    (h : ∀ v, OwnG f e size v (some ⟨w.heap.size, 0, none⟩) n [] → Mod [] w v → v.heap.size = w.heap.size + 1 → wpList P ops Q rest (a.put o.dst (.slice (some ⟨w.heap.size, 0, none⟩) 0 n)) v) : wpList P ops Q (o :: rest) a w := by
  subst hs hb
  refine wpList_plain hgd fun K hK => ?_
  have hm : maxLen ≤ 9223372036854775807 := by decide
  have hbb : (i.bytes : Int) * (n : Int) ≤ 281474976710656 := by
    have h : ((i.bytes * n : Nat) : Int) ≤ 281474976710656 := by omega
    rwa [Int.natCast_mul] at h
  have hrun := run_make (P := P) w t e i z ht hi hz .i64 .i64 (0 : Int) (n : Int) (by omega) (by omega) hbb (by omega)
  simp only [Int.toNat_natCast] at hrun
  have hfin := h (w.alloc (.cells (madeCells z.cells (n * i.size)) e)) ⟨by simp, .inr ⟨w.heap.size, n, madeCells z.cells (n * i.size), rfl, Nat.zero_le _, Holds.made w e (madeCells z.cells (n * i.size)).toList, Nat.zero_le _, h64, by simp [madeCells], by simp⟩⟩ (Mod.alloc [] w _) (by simp)
  unfold Oper.wp execOp
  simp only [ho, hx, hy, Sem.run_bind, hrun, Result.andThen]
  exact hK _ _ hfin
/-- The frame with these slots set. -/
def setAll (l : List Value) (ups : List (Nat × Value)) : List Value := ups.foldl (fun l p => l.set p.1 p.2) l
theorem setAll_length (ups : List (Nat × Value)) : ∀ l, (setAll l ups).length = l.length := by
  induction ups with
  | nil => intro l; rfl
  | cons p ups ih => intro l; show (setAll (l.set p.1 p.2) ups).length = _; rw [ih, List.length_set]
theorem setAll_other (s : Nat) (ups : List (Nat × Value)) : ∀ l, s ∉ ups.map (·.1) → (setAll l ups)[s]? = l[s]? := by
  induction ups with
  | nil => intro l _; rfl
  | cons p ups ih =>
    intro l h
    simp only [List.map_cons, List.mem_cons, not_or] at h
    show (setAll (l.set p.1 p.2) ups)[s]? = _
    rw [ih _ h.2, List.getElem?_set_ne (fun e => h.1 e.symm)]
/-- The slots that aren't set. -/
def restOf (n : Nat) (ks : List Nat) : List Nat := (List.range n).filter fun s => !ks.contains s
theorem setAll_lookup (s : Nat) (v : Value) (ups : List (Nat × Value)) : ∀ l : List Value, (ups.map (·.1)).Nodup → s < l.length → ups.lookup s = some v → (setAll l ups)[s]? = some v := by
  induction ups with
  | nil => intro l _ _ h; cases h
  | cons p ups ih =>
    intro l hd hl h
    rw [List.map_cons, List.nodup_cons] at hd
    show (setAll (l.set p.1 p.2) ups)[s]? = some v
    by_cases hs : s = p.1
    · subst hs
      rw [setAll_other _ _ _ hd.1]
      have : some p.2 = some v := by simpa [List.lookup] using h
      rw [List.getElem?_set_self hl, this]
    · have h' : ups.lookup s = some v := by
        have hb : (s == p.1) = false := by simpa using hs
        simpa [List.lookup, hb] using h
      exact ih _ hd.2 (by rw [List.length_set]; exact hl) h'
theorem wp_region_ups {P : Program} {ops : Array Oper} {Q : Exit → Act → World → Prop} {id : Nat} {a : Act} {w : World} (ups : List (Nat × Value)) (n : Nat) (ks : List Nat) (hn : a.tmps.size = n) (hks : ups.map (·.1) = ks) (hnd : ks.Nodup) (hD : ((List.range ops.size).all fun j => match (ops[j]?).bind (·.dst) with | some s => decide (s < n) && (ups.lookup s).isSome | none => true) = true) (st : (Nat → Bool) → World → Prop) (hm : P.follows .mixedOrders = true) (h0 : st (fun _ => false) w.drew)
    (hB : drawn2B ops n = true) (hC : coverB ops n (restOf n ks) = true)
    (hstep : ∀ (l : Nat → Bool) (T : Act) (v : World) (i : Nat) (o : Oper), ops[i]? = some o → l i = false → (∀ e ∈ o.after, Region.binds .any e = true → l e.on = true) → st l v →
      (∀ s, (decide (s < n) && !ks.contains s) = true → T.tmps[s]? = a.tmps[s]?) → (∀ (j : Nat) (o' : Oper) (s : Nat), ops[j]? = some o' → l j = true → o'.dst = some s → T.tmps[s]? = ups.lookup s) → Closed ops l →
      ∀ K : Act → World → Prop, (∀ u v', (∀ s, o.dst = some s → some u = ups.lookup s) → st (fun j => if j = i then true else l j) v' → K (T.put o.dst u) v') →
        if Region.wanted o (yielded ops T.tmps) = true then o.wp P T v K Q else K (T.put o.dst undef) v)
    (hend : ∀ (l : Nat → Bool) (v : World), (∀ j, j < ops.size → l j = true) → st l v → Q .normal ⟨(setAll a.tmps.toList ups).toArray, a.defers⟩ v) :
    (Code.region id ops true).wp P Q a w := by
  subst hn hks
  have key : ∀ (j : Nat) (o' : Oper) (s : Nat), ops[j]? = some o' → o'.dst = some s → some ((setAll a.tmps.toList ups).getD s undef) = ups.lookup s := fun j o' s h1 h2 => by
    have hj := (Array.getElem?_eq_some_iff.1 h1).1
    have h3 := List.all_eq_true.1 hD j (List.mem_range.2 hj)
    rw [h1] at h3
    simp only [Option.bind_some, h2, Bool.and_eq_true, decide_eq_true_eq] at h3
    obtain ⟨v, hv⟩ := Option.isSome_iff_exists.1 h3.2
    rw [hv, List.getD_eq_getElem?_getD, setAll_lookup s v ups _ hnd (by simpa using h3.1) hv]
    rfl
  refine wp_region_lit1 (setAll a.tmps.toList ups) a.tmps.size (restOf a.tmps.size (ups.map (·.1))) st a.defers hm (by rw [setAll_length]; simp) rfl rfl ?_ h0 hB hC ?_ hend
  · apply List.map_congr_left
    intro s hs
    obtain ⟨h1, h2⟩ := List.mem_filter.1 hs
    have hlt : s < a.tmps.size := List.mem_range.1 h1
    have hk : s ∉ ups.map (·.1) := by simpa using h2
    have h3 := setAll_other s ups a.tmps.toList hk
    rw [List.getD_eq_getElem?_getD, h3]
    simp [hlt]
  · intro l T v i o ho hl hdep hst hpar hgot hcl K hK
    refine hstep l T v i o ho hl hdep hst (fun s hs => ?_) (fun j o' s h1 h2 h3 => ?_) hcl K (fun u v' hu hv => hK u v' (fun s hs => ?_) hv)
    · rw [Bool.and_eq_true, decide_eq_true_eq] at hs
      have hk : s ∉ ups.map (·.1) := by simpa using hs.2
      rw [hpar s (List.mem_filter.2 ⟨List.mem_range.2 hs.1, hs.2⟩), List.getD_eq_getElem?_getD, setAll_other s ups a.tmps.toList hk]
      simp [hs.1]
    · rw [hgot j o' s h1 h2 h3, key j o' s h1 h3]
    · have h1 := hu s hs
      have h2 := key i o s ho hs
      rw [← h1] at h2
      exact (Option.some.inj h2).symm
theorem lookup_some {s : Nat} : ∀ l : List (Nat × Value), s ∈ l.map (·.1) → ∃ v, l.lookup s = some v := by
  intro l
  induction l with
  | nil => intro h; cases h
  | cons p l ih =>
    intro h
    by_cases hs : s = p.1
    · subst hs
      exact ⟨p.2, by simp [List.lookup]⟩
    · have hb : (s == p.1) = false := by simpa using hs
      rcases List.mem_cons.1 (by simpa using h : s ∈ p.1 :: l.map (·.1)) with h1 | h1
      · exact absurd h1 hs
      · obtain ⟨v, hv⟩ := ih h1
        exact ⟨v, by simp [List.lookup, hb, hv]⟩
theorem wp_region_upx {P : Program} {X : Type} {ops : Array Oper} {Q : Exit → Act → World → Prop} {id : Nat} {a : Act} {w : World} (x0 : X) (ups : X → List (Nat × Value)) (n : Nat) (ks : List Nat) (hn : a.tmps.size = n) (hks : ∀ x, (ups x).map (·.1) = ks) (hnd : ks.Nodup) (hD : ((List.range ops.size).all fun j => match (ops[j]?).bind (·.dst) with | some s => decide (s < n) && ks.contains s | none => true) = true) (st : X → (Nat → Bool) → World → Prop) (hm : P.follows .mixedOrders = true) (h0 : st x0 (fun _ => false) w.drew)
    (hB : drawn2B ops n = true) (hC : coverB ops n (restOf n ks) = true)
    (hstep : ∀ (x : X) (l : Nat → Bool) (T : Act) (v : World) (i : Nat) (o : Oper), ops[i]? = some o → l i = false → (∀ e ∈ o.after, Region.binds .any e = true → l e.on = true) → st x l v →
      (∀ s, (decide (s < n) && !ks.contains s) = true → T.tmps[s]? = a.tmps[s]?) → (∀ (j : Nat) (o' : Oper) (s : Nat), ops[j]? = some o' → l j = true → o'.dst = some s → T.tmps[s]? = (ups x).lookup s) → Closed ops l →
      ∀ K : Act → World → Prop, (∀ x' u v', (∀ (j : Nat) (o' : Oper) (s : Nat), ops[j]? = some o' → l j = true → o'.dst = some s → (ups x').lookup s = (ups x).lookup s) → (∀ s, o.dst = some s → some u = (ups x').lookup s) → st x' (fun j => if j = i then true else l j) v' → K (T.put o.dst u) v') →
        if Region.wanted o (yielded ops T.tmps) = true then o.wp P T v K Q else K (T.put o.dst undef) v)
    (hend : ∀ (x : X) (l : Nat → Bool) (v : World), (∀ j, j < ops.size → l j = true) → st x l v → Q .normal ⟨(setAll a.tmps.toList (ups x)).toArray, a.defers⟩ v) :
    (Code.region id ops true).wp P Q a w := by
  subst hn
  have key : ∀ (x : X) (j : Nat) (o' : Oper) (s : Nat), ops[j]? = some o' → o'.dst = some s → some ((setAll a.tmps.toList (ups x)).getD s undef) = (ups x).lookup s := fun x j o' s h1 h2 => by
    have hj := (Array.getElem?_eq_some_iff.1 h1).1
    have h3 := List.all_eq_true.1 hD j (List.mem_range.2 hj)
    rw [h1] at h3
    simp only [Option.bind_some, h2, Bool.and_eq_true, decide_eq_true_eq] at h3
    have h4 : s ∈ (ups x).map (·.1) := by rw [hks]; simpa using h3.2
    obtain ⟨v, hv⟩ := lookup_some _ h4
    rw [hv, List.getD_eq_getElem?_getD, setAll_lookup s v (ups x) _ (by rw [hks]; exact hnd) (by simpa using h3.1) hv]
    rfl
  have oth : ∀ (x : X) (s : Nat), s < a.tmps.size → s ∉ ks → (setAll a.tmps.toList (ups x))[s]? = a.tmps.toList[s]? := fun x s _ hk => setAll_other s (ups x) a.tmps.toList (by rw [hks]; exact hk)
  refine wp_region_lit x0 (fun x => setAll a.tmps.toList (ups x)) a.tmps.size (restOf a.tmps.size ks) st a.defers hm (fun x => by rw [setAll_length]; simp) rfl rfl ?_ (fun x => ?_) h0 hB hC ?_ hend
  · apply List.map_congr_left
    intro s hs
    obtain ⟨h1, h2⟩ := List.mem_filter.1 hs
    have hlt : s < a.tmps.size := List.mem_range.1 h1
    have hk : s ∉ ks := by simpa using h2
    rw [List.getD_eq_getElem?_getD, oth x0 s hlt hk]
    simp [hlt]
  · apply List.map_congr_left
    intro s hs
    obtain ⟨h1, h2⟩ := List.mem_filter.1 hs
    have hlt : s < a.tmps.size := List.mem_range.1 h1
    have hk : s ∉ ks := by simpa using h2
    rw [List.getD_eq_getElem?_getD, List.getD_eq_getElem?_getD, oth x s hlt hk, oth x0 s hlt hk]
  · intro x l T v i o ho hl hdep hst hpar hgot hcl K hK
    refine hstep x l T v i o ho hl hdep hst (fun s hs => ?_) (fun j o' s h1 h2 h3 => ?_) hcl K (fun x' u v' hx hu hv => hK x' u v' (fun j o' s g1 g2 g3 => ?_) (fun s hs => ?_) hv)
    · rw [Bool.and_eq_true, decide_eq_true_eq] at hs
      have hk : s ∉ ks := by simpa using hs.2
      rw [hpar s (List.mem_filter.2 ⟨List.mem_range.2 hs.1, hs.2⟩), List.getD_eq_getElem?_getD, oth x s hs.1 hk]
      simp [hs.1]
    · rw [hgot j o' s h1 h2 h3, key x j o' s h1 h3]
    · have e1 := key x' j o' s g1 g3
      have e2 := key x j o' s g1 g3
      rw [hx j o' s g1 g2 g3, ← e2] at e1
      exact Option.some.inj e1
    · have h1 := hu s hs
      have h2 := key x' i o s ho hs
      rw [← h1] at h2
      exact (Option.some.inj h2).symm
end Go.Proofs.YtchanildogjhgaaDoor
