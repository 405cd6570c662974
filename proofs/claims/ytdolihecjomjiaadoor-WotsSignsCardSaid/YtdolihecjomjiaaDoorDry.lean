/-
  A region that draws its order, walked to a literal frame; single operations run, further ones. My own work.
-/
import Derived.Test.YtdolihecjomjiaaDoorShaA
import Derived.Shelf.Abstract
namespace Go.Proofs.YtdolihecjomjiaaDoor
open Go.RowKit
theorem exec_call0 {P : Program} {v : World} {o : Oper} {ρ : Operand → Value} {f : FuncId} {ts : Array TypeId} (ho : o.op = .call { callee := .value (.func f), args := #[], argTypes := ts }) (hf : ρ (.func f) = .func (.func f) #[] #[]) (he : ∀ args w, (callFunc f args).run P w = .ok (.enter f args) w) : (execOp ρ o).run P v = .ok (.enter f #[]) v := by
  unfold execOp
  simp [ho, resolve, invoke, go_sem, hf, he]
/-- Each slot either stands as it did or is written. -/
def coverB (ops : Array Oper) (nt : Nat) (ps : List Nat) : Bool := (List.range nt).all fun s => ps.contains s || (List.range ops.size).any fun j => ((ops[j]?).map fun (o : Oper) => o.dst == some s).getD false
theorem coverB_or {ops : Array Oper} {nt : Nat} {ps : List Nat} (h : coverB ops nt ps = true) (s : Nat) (hs : s < nt) : s ∈ ps ∨ ∃ (j : Nat) (o : Oper), ops[j]? = some o ∧ o.dst = some s := by
  have := List.all_eq_true.1 h s (List.mem_range.2 hs)
  rw [Bool.or_eq_true] at this
  rcases this with h1 | h1
  · left; simpa using h1
  · right
    obtain ⟨j, _, hj⟩ := List.any_eq_true.1 h1
    cases ho : ops[j]? with
    | none => rw [ho] at hj; cases hj
    | some o =>
      rw [ho] at hj
      exact ⟨j, o, ho, by simpa using hj⟩
theorem map_mem {α β : Type} {f g : α → β} {l : List α} (h : l.map f = l.map g) : ∀ s ∈ l, f s = g s := by
  induction l with
  | nil => intro s hs; cases hs
  | cons x l ih =>
    simp only [List.map_cons, List.cons.injEq] at h
    intro s hs
    rcases List.mem_cons.1 hs with rfl | hs
    · exact h.1
    · exact ih h.2 s hs
/-- What is done had what it waits for. -/
def Closed (ops : Array Oper) (l : Nat → Bool) : Prop := ∀ (j : Nat) (o : Oper), ops[j]? = some o → l j = true → ∀ e ∈ o.after, Region.binds .any e = true → l e.on = true
theorem Closed.add {ops : Array Oper} {l : Nat → Bool} (h : Closed ops l) {i : Nat} {o : Oper} (ho : ops[i]? = some o) (hdep : ∀ e ∈ o.after, Region.binds .any e = true → l e.on = true) : Closed ops (fun j => if j = i then true else l j) := by
  intro j o' hj hl e he hb
  show (if e.on = i then true else l e.on) = true
  by_cases hei : e.on = i
  · rw [if_pos hei]
  · rw [if_neg hei]
    by_cases hji : j = i
    · subst hji
      rw [ho] at hj
      cases hj
      exact hdep e he hb
    · exact h j o' hj (by simpa [hji] using hl) e he hb
def reachB (ops : Array Oper) (n : Nat) : Bool := (List.range n).all fun k => (List.range (n + 1)).any fun j => decide (k < j) && ((ops[j]?).map fun (o : Oper) => o.after.toList.any fun e => e.on == k && Region.binds .any e).getD false
theorem reach_all {ops : Array Oper} {n : Nat} {o : Oper} {l : Nat → Bool} (h : reachB ops n = true) (hc : Closed ops l) (ho : ops[n]? = some o) (hdep : ∀ e ∈ o.after, Region.binds .any e = true → l e.on = true) : ∀ k, k < n → l k = true := by
  have key : ∀ m k, n ≤ m + k → k < n → l k = true := by
    intro m
    induction m with
    | zero => intro k h1 h2; omega
    | succ m ih =>
      intro k h1 h2
      have := List.all_eq_true.1 h k (List.mem_range.2 h2)
      obtain ⟨j, hj, hj2⟩ := List.any_eq_true.1 this
      have hjn : j < n + 1 := List.mem_range.1 hj
      rw [Bool.and_eq_true] at hj2
      have hkj : k < j := by simpa using hj2.1
      cases hoj : ops[j]? with
      | none => rw [hoj] at hj2; cases hj2.2
      | some oj =>
        rw [hoj] at hj2
        obtain ⟨e, he, h3⟩ := List.any_eq_true.1 (show (oj.after.toList.any fun e => e.on == k && Region.binds .any e) = true from hj2.2)
        rw [Bool.and_eq_true] at h3
        have hek : e.on = k := by simpa using h3.1
        by_cases hjn' : j = n
        · subst hjn'
          rw [ho] at hoj
          cases hoj
          have := hdep e (by simpa using he) h3.2
          rwa [hek] at this
        · have := hc j oj hoj (ih j (by omega) (by omega)) e (by simpa using he) h3.2
          rwa [hek] at this
  exact fun k hk => key n k (by omega) hk
section
variable {P : Program} {ops : Array Oper} {Q : Exit → Act → World → Prop}
/-- The same, to a literal frame. -/
theorem wp_region_lit {X : Type} {id : Nat} {a : Act} {w : World} (x0 : X) (F : X → List Value) (nt : Nat) (ps : List Nat) (st : X → (Nat → Bool) → World → Prop) (ds : List Deferred) (hm : P.follows .mixedOrders = true)
    (hF : ∀ x, (F x).length = nt) (ht : a.tmps.size = nt) (hd : a.defers = ds) (hp : ps.map (fun s => a.tmps[s]?) = ps.map (fun s => some ((F x0).getD s undef))) (hx : ∀ x, ps.map (fun s => (F x).getD s undef) = ps.map (fun s => (F x0).getD s undef)) (h0 : st x0 (fun _ => false) w.drew)
    (hB : drawn2B ops nt = true) (hC : coverB ops nt ps = true)
    (hstep : ∀ (x : X) (l : Nat → Bool) (T : Act) (v : World) (i : Nat) (o : Oper), ops[i]? = some o → l i = false → (∀ e ∈ o.after, Region.binds .any e = true → l e.on = true) → st x l v →
      (∀ s, s ∈ ps → T.tmps[s]? = some ((F x).getD s undef)) → (∀ (j : Nat) (o' : Oper) (s : Nat), ops[j]? = some o' → l j = true → o'.dst = some s → T.tmps[s]? = some ((F x).getD s undef)) → Closed ops l →
      ∀ K : Act → World → Prop, (∀ x' u v', (∀ (j : Nat) (o' : Oper) (s : Nat), ops[j]? = some o' → l j = true → o'.dst = some s → (F x').getD s undef = (F x).getD s undef) → (∀ s, o.dst = some s → u = (F x').getD s undef) → st x' (fun j => if j = i then true else l j) v' → K (T.put o.dst u) v') →
        if Region.wanted o (yielded ops T.tmps) = true then o.wp P T v K Q else K (T.put o.dst undef) v)
    (hend : ∀ (x : X) (l : Nat → Bool) (v : World), (∀ j, j < ops.size → l j = true) → st x l v → Q .normal ⟨(F x).toArray, ds⟩ v) :
    (Code.region id ops true).wp P Q a w := by
  refine wp_region_detx x0 nt (fun x s => (F x).getD s undef) ps (fun x l v => st x l v ∧ Closed ops l) ds hm ht hd (map_mem hp) ⟨h0, fun _ _ _ h => by cases h⟩ (drawn2B_lt hB) (drawn2B_dst hB) ?_ ?_
  · intro x l T v i o ho hl hdep hst hpar hgot K hK
    exact hstep x l T v i o ho hl hdep hst.1 hpar hgot hst.2 K (fun x' u v' h1 h2 h3 => hK x' u v' (fun s hs => by
      have e1 := map_mem (hx x') s hs
      have e2 := map_mem (hx x) s hs
      exact e1.trans e2.symm) h1 h2 ⟨h3, hst.2.add ho hdep⟩)
  · intro x l T v hl hst hts hds hpar hgot
    have hall : ∀ s, s < nt → T.tmps[s]? = some ((F x).getD s undef) := fun s hs => by
      rcases coverB_or hC s hs with h | ⟨j, o, hj, ho⟩
      · exact hpar s h
      · exact hgot j o s hj ho
    have hT : T = ⟨(F x).toArray, ds⟩ := by
      obtain ⟨tm, df⟩ := T
      have h1 : tm = (F x).toArray := by
        apply Array.ext_getElem?
        intro s
        by_cases hs : s < nt
        · rw [show tm[s]? = _ from hall s hs]
          have hl' : s < (F x).length := by rw [hF]; exact hs
          simp [List.getD_eq_getElem?_getD, hl']
        · rw [Array.getElem?_eq_none (by rw [show tm.size = nt from hts]; omega), Array.getElem?_eq_none (by simp [hF]; omega)]
      rw [h1, show df = ds from hds]
    rw [hT]
    exact hend x l v hl hst.1
/-- Where nothing is made whose place hangs on the order. -/
theorem wp_region_lit1 {id : Nat} {a : Act} {w : World} (F : List Value) (nt : Nat) (ps : List Nat) (st : (Nat → Bool) → World → Prop) (ds : List Deferred) (hm : P.follows .mixedOrders = true)
    (hF : F.length = nt) (ht : a.tmps.size = nt) (hd : a.defers = ds) (hp : ps.map (fun s => a.tmps[s]?) = ps.map (fun s => some (F.getD s undef))) (h0 : st (fun _ => false) w.drew)
    (hB : drawn2B ops nt = true) (hC : coverB ops nt ps = true)
    (hstep : ∀ (l : Nat → Bool) (T : Act) (v : World) (i : Nat) (o : Oper), ops[i]? = some o → l i = false → (∀ e ∈ o.after, Region.binds .any e = true → l e.on = true) → st l v →
      (∀ s, s ∈ ps → T.tmps[s]? = some (F.getD s undef)) → (∀ (j : Nat) (o' : Oper) (s : Nat), ops[j]? = some o' → l j = true → o'.dst = some s → T.tmps[s]? = some (F.getD s undef)) → Closed ops l →
      ∀ K : Act → World → Prop, (∀ u v', (∀ s, o.dst = some s → u = F.getD s undef) → st (fun j => if j = i then true else l j) v' → K (T.put o.dst u) v') →
        if Region.wanted o (yielded ops T.tmps) = true then o.wp P T v K Q else K (T.put o.dst undef) v)
    (hend : ∀ (l : Nat → Bool) (v : World), (∀ j, j < ops.size → l j = true) → st l v → Q .normal ⟨F.toArray, ds⟩ v) :
    (Code.region id ops true).wp P Q a w :=
  wp_region_lit (X := Unit) () (fun _ => F) nt ps (fun _ => st) ds hm (fun _ => hF) ht hd hp (fun _ => rfl) h0 hB hC
    (fun _ l T v i o ho hl hdep hst hpar hgot hcl K hK => hstep l T v i o ho hl hdep hst hpar hgot hcl K (fun u v' h1 h2 => hK () u v' (fun _ _ _ _ _ _ => rfl) h1 h2))
    (fun _ l v hl hst => hend l v hl hst)
end
section
variable {P : Program} {v : World} {o : Oper} {ρ : Operand → Value}
theorem exec_assign {x : Operand} {X : Value} (ho : o.op = .assign x) (hx : ρ x = X) : (execOp ρ o).run P v = .ok (.value X) v := by
  unfold execOp
  simp [ho, hx, go_sem]
theorem exec_add {t t' : TypeId} {x y : Operand} {k : IntKind} {a b c : Int} (ho : o.op = .binOp .add t x y t') (hx : ρ x = .int k a) (hy : ρ y = .int k b) (h : k.wrap (a + b) = c) : (execOp ρ o).run P v = .ok (.value (.int k c)) v := by
  subst h
  unfold execOp
  simp [ho, hx, hy, go_sem]
theorem exec_sub {t t' : TypeId} {x y : Operand} {k : IntKind} {a b c : Int} (ho : o.op = .binOp .sub t x y t') (hx : ρ x = .int k a) (hy : ρ y = .int k b) (h : k.wrap (a - b) = c) : (execOp ρ o).run P v = .ok (.value (.int k c)) v := by
  subst h
  unfold execOp
  simp [ho, hx, hy, go_sem]
theorem exec_mul {t t' : TypeId} {x y : Operand} {k : IntKind} {a b c : Int} (ho : o.op = .binOp .mul t x y t') (hx : ρ x = .int k a) (hy : ρ y = .int k b) (h : k.wrap (a * b) = c) : (execOp ρ o).run P v = .ok (.value (.int k c)) v := by
  subst h
  unfold execOp
  simp [ho, hx, hy, go_sem]
theorem exec_and {t t' : TypeId} {x y : Operand} {k : IntKind} {a b c : Int} (ho : o.op = .binOp .and t x y t') (hx : ρ x = .int k a) (hy : ρ y = .int k b) (h : bits .and k a b = c) : (execOp ρ o).run P v = .ok (.value (.int k c)) v := by
  subst h
  unfold execOp
  simp [ho, hx, hy, go_sem]
theorem exec_xor {t t' : TypeId} {x y : Operand} {k : IntKind} {a b c : Int} (ho : o.op = .binOp .xor t x y t') (hx : ρ x = .int k a) (hy : ρ y = .int k b) (h : bits .xor k a b = c) : (execOp ρ o).run P v = .ok (.value (.int k c)) v := by
  subst h
  unfold execOp
  simp [ho, hx, hy, go_sem]
theorem exec_or {t t' : TypeId} {x y : Operand} {k : IntKind} {a b c : Int} (ho : o.op = .binOp .or t x y t') (hx : ρ x = .int k a) (hy : ρ y = .int k b) (h : bits .or k a b = c) : (execOp ρ o).run P v = .ok (.value (.int k c)) v := by
  subst h
  unfold execOp
  simp [ho, hx, hy, go_sem]
theorem exec_len {t e : TypeId} {x : Operand} {A : Option Addr} {n c : Nat} (hu : P.underlying t = some (.slice e)) (ho : o.op = .call { callee := .builtin .len, args := #[x], argTypes := #[t] }) (hx : ρ x = .slice A n c) : (execOp ρ o).run P v = .ok (.value (.int .i64 (n : Int))) v := by
  unfold execOp
  simp [ho, hx, resolve, invoke, builtin, go_sem, Builtin.len_, run_underlying hu]
/-- The address of an array's element, of one cell. -/
theorem exec_at {t e : TypeId} {n g f : Nat} {x y : Operand} {i : Nat} (hu : P.underlying t = some (.array n e)) (he : (P.info? e).map (·.size) = some 1) (hi : i < n) (ho : o.op = .indexAddr t x y) (hx : ρ x = .pointer (some ⟨g, f, none⟩)) (hy : ρ y = .int .i64 (i : Int)) :
    (execOp ρ o).run P v = .ok (.value (.pointer (some ⟨g, f + i, none⟩))) v := by
  unfold execOp
  cases hq : P.info? e with
  | none => rw [hq] at he; cases he
  | some it =>
    have hs : it.size = 1 := by rw [hq] at he; simpa using he
    simp [ho, hx, hy, Instr.indexAt, Sem.run_bind, run_underlying hu, go_sem, sizeOf, typeInfo, hq, hs, hi, add_plain]

end
end Go.Proofs.YtdolihecjomjiaaDoor
