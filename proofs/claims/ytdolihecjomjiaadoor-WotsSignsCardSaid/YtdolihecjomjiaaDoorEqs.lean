/-
  Arrays of numbers held against one another; guarded steps of a region that draws its order. My own work.
-/
import Derived.Test.YtdolihecjomjiaaDoorOld
import Derived.Laws.StructEq
import Derived.Laws.Small
namespace Go.Proofs.YtdolihecjomjiaaDoor
open Go.RowKit
section
variable {P : Program} {t e : TypeId} {n : Nat} {k : IntKind}
theorem run_eq_items (hd0 : (Program.underlying P e) = some (.int k)) (X Y : List Int) (hXY : X.length = Y.length) (w : World) (d : Nat) : ∀ is : List Nat, (∀ j ∈ is, j < X.length) → (Op.eqItems (d + 1) e 1 (X.map (Value.int k)).toArray (Y.map (Value.int k)).toArray is).run P w = .ok (is.all fun j => X.getD j 0 == Y.getD j 0) w
  | [], _ => by simp [Op.eqItems]
  | j :: is, h => by
    have hj := h j (by simp)
    have ih := run_eq_items hd0 X Y hXY w d is (fun i hi => h i (by simp [hi]))
    have hp : (part e (X.map (Value.int k)).toArray (j * 1)).run P w = .ok (.int k (X.getD j 0)) w := by
      have : (X.map (Value.int k))[j]? = some (.int k (X.getD j 0)) := by simp [List.getD_eq_getElem?_getD, hj]
      simp [part, isAgg, run_underlying hd0, this]
    have hq : (part e (Y.map (Value.int k)).toArray (j * 1)).run P w = .ok (.int k (Y.getD j 0)) w := by
      have : (Y.map (Value.int k))[j]? = some (.int k (Y.getD j 0)) := by simp [List.getD_eq_getElem?_getD, hXY ▸ hj]
      simp [part, isAgg, run_underlying hd0, this]
    generalize (X.map (Value.int k)).toArray = XA at *
    generalize (Y.map (Value.int k)).toArray = YA at *
    simp only [Op.eqItems, Sem.run_bind, hp, hq, Result.andThen_ok, run_equalIn_int w d e k k _ _ hd0, List.all_cons]
    by_cases hx : X.getD j 0 = Y.getD j 0
    · simp only [hx, beq_self_eq_true, Bool.not_true, Bool.false_eq_true, if_false, Bool.true_and]
      exact ih
    · have : (X.getD j 0 == Y.getD j 0) = false := by simpa using hx
      simp only [this, Bool.not_false, if_true, Bool.false_and, Sem.run_pure]
theorem all_range (X Y : List Int) (hX : X.length = n) (hY : Y.length = n) : ((List.range n).all fun j => X.getD j 0 == Y.getD j 0) = decide (X = Y) := by
  rw [Bool.eq_iff_iff]
  simp only [List.all_eq_true, List.mem_range, beq_iff_eq, decide_eq_true_eq]
  constructor
  · intro h
    apply List.ext_getElem (by omega)
    intro i h1 h2
    have := h i (by omega)
    simpa [List.getD_eq_getElem?_getD, h1, h2] using this
  · rintro rfl _ _
    rfl
theorem run_eq_ints (hu : P.underlying t = some (.array n e)) (he : P.underlying e = some (.int k)) (hi : (P.info? e).isSome = true) (hc : P.cellsOf e = 1) (X Y : List Int) (hX : X.length = n) (hY : Y.length = n) (w : World) (d : Nat) :
    (Op.equalIn (d + 2) t (.agg (X.map (Value.int k)).toArray) (.agg (Y.map (Value.int k)).toArray)).run P w = .ok (decide (X = Y)) w := by
  cases hq : P.info? e with
  | none => rw [hq] at hi; cases hi
  | some i =>
    rw [run_equalIn_array w (d + 1) _ _ hu hq, hc, run_eq_items he X Y (by omega) w d _ (fun j hj => by rw [hX]; simpa using hj), all_range X Y hX hY]
theorem exec_eqa {v : World} {o : Oper} {ρ : Operand → Value} {x y : Operand} (hu : P.underlying t = some (.array n e)) (he : P.underlying e = some (.int k)) (hi : (P.info? e).isSome = true) (hc : P.cellsOf e = 1) (hg : P.eqGuardType P.depth t = false) (X Y : List Int) (hX : X.length = n) (hY : Y.length = n)
    (ho : o.op = .binOp .eql t x y t) (hx : ρ x = .agg (X.map (Value.int k)).toArray) (hy : ρ y = .agg (Y.map (Value.int k)).toArray) : (execOp ρ o).run P v = .ok (.value (.bool (decide (X = Y)))) v := by
  have h : (Op.equalIn 10000 t (.agg (X.map (Value.int k)).toArray) (.agg (Y.map (Value.int k)).toArray)).run P v = .ok (decide (X = Y)) v := run_eq_ints hu he hi hc X Y hX hY v 9998
  generalize (X.map (Value.int k)).toArray = XA at *
  generalize (Y.map (Value.int k)).toArray = YA at *
  unfold execOp
  simp [ho, hx, hy, go_sem, run_eqGuard_agg, hg, run_eql_struct, h, Result.andThen]
theorem exec_nea {v : World} {o : Oper} {ρ : Operand → Value} {x y : Operand} (hu : P.underlying t = some (.array n e)) (he : P.underlying e = some (.int k)) (hi : (P.info? e).isSome = true) (hc : P.cellsOf e = 1) (hg : P.eqGuardType P.depth t = false) (X Y : List Int) (hX : X.length = n) (hY : Y.length = n)
    (ho : o.op = .binOp .neq t x y t) (hx : ρ x = .agg (X.map (Value.int k)).toArray) (hy : ρ y = .agg (Y.map (Value.int k)).toArray) : (execOp ρ o).run P v = .ok (.value (.bool (!decide (X = Y)))) v := by
  have h : (Op.equalIn 10000 t (.agg (X.map (Value.int k)).toArray) (.agg (Y.map (Value.int k)).toArray)).run P v = .ok (decide (X = Y)) v := run_eq_ints hu he hi hc X Y hX hY v 9998
  generalize (X.map (Value.int k)).toArray = XA at *
  generalize (Y.map (Value.int k)).toArray = YA at *
  unfold execOp
  simp [ho, hx, hy, go_sem, run_eqGuard_agg, hg, run_neq_struct, h, Result.andThen]
end
theorem octs_ints (L : List UInt8) : L.map oct = (L.map fun x => (x.toNat : Int)).map (Value.int .u8) := by simp
theorem wds_ints (L : List UInt32) : L.map wd = (L.map fun x => (x.toNat : Int)).map (Value.int .u32) := by simp
theorem octs_inj {L M : List UInt8} : (L.map fun x => (x.toNat : Int)) = (M.map fun x => (x.toNat : Int)) ↔ L = M :=
  ⟨fun h => (List.map_inj_right (f := fun x : UInt8 => (x.toNat : Int)) (fun a b hab => UInt8.toNat_inj.1 (by exact_mod_cast hab))).1 h, fun h => by rw [h]⟩
theorem wds_inj {L M : List UInt32} : (L.map fun x => (x.toNat : Int)) = (M.map fun x => (x.toNat : Int)) ↔ L = M :=
  ⟨fun h => (List.map_inj_right (f := fun x : UInt32 => (x.toNat : Int)) (fun a b hab => UInt32.toNat_inj.1 (by exact_mod_cast hab))).1 h, fun h => by rw [h]⟩
section
variable {v : World} {o : Oper} {ρ : Operand → Value} {x y : Operand}
theorem exec_ne40 {L M : List UInt8} (hL : L.length = 32) (hM : M.length = 32) (ho : o.op = .binOp .neq 25 x y 25) (hx : ρ x = .agg (L.map oct).toArray) (hy : ρ y = .agg (M.map oct).toArray) : (execOp ρ o).run Tryd.prog v = .ok (.value (.bool (!decide (L = M)))) v := by
  rw [octs_ints] at hx hy
  have := exec_nea (P := Tryd.prog) (v := v) Tryd.underlying25 Tryd.underlying5 (by kernel_rfl) (by kernel_rfl) (by kernel_rfl) _ _ (by simpa using hL) (by simpa using hM) ho hx hy
  simpa only [octs_inj] using this
theorem exec_ne24 {L M : List UInt32} (hL : L.length = 64) (hM : M.length = 64) (ho : o.op = .binOp .neq 85 x y 85) (hx : ρ x = .agg (L.map wd).toArray) (hy : ρ y = .agg (M.map wd).toArray) : (execOp ρ o).run Tryd.prog v = .ok (.value (.bool (!decide (L = M)))) v := by
  rw [wds_ints] at hx hy
  have := exec_nea (P := Tryd.prog) (v := v) Tryd.underlying85 Tryd.underlying67 (by kernel_rfl) (by kernel_rfl) (by kernel_rfl) _ _ (by simpa using hL) (by simpa using hM) ho hx hy
  simpa only [wds_inj] using this
theorem exec_ne26 {L M : List UInt32} (hL : L.length = 8) (hM : M.length = 8) (ho : o.op = .binOp .neq 68 x y 68) (hx : ρ x = .agg (L.map wd).toArray) (hy : ρ y = .agg (M.map wd).toArray) : (execOp ρ o).run Tryd.prog v = .ok (.value (.bool (!decide (L = M)))) v := by
  rw [wds_ints] at hx hy
  have := exec_nea (P := Tryd.prog) (v := v) Tryd.underlying68 Tryd.underlying67 (by kernel_rfl) (by kernel_rfl) (by kernel_rfl) _ _ (by simpa using hL) (by simpa using hM) ho hx hy
  simpa only [wds_inj] using this
theorem exec_eq26 {L M : List UInt32} (hL : L.length = 8) (hM : M.length = 8) (ho : o.op = .binOp .eql 68 x y 68) (hx : ρ x = .agg (L.map wd).toArray) (hy : ρ y = .agg (M.map wd).toArray) : (execOp ρ o).run Tryd.prog v = .ok (.value (.bool (decide (L = M)))) v := by
  rw [wds_ints] at hx hy
  have := exec_eqa (P := Tryd.prog) (v := v) Tryd.underlying68 Tryd.underlying67 (by kernel_rfl) (by kernel_rfl) (by kernel_rfl) _ _ (by simpa using hL) (by simpa using hM) ho hx hy
  simpa only [wds_inj] using this
theorem exec_neb {P : Program} {t t' : TypeId} {a b : Bool} (hu : P.underlying t = some .bool) (ho : o.op = .binOp .neq t x y t') (hx : ρ x = .bool a) (hy : ρ y = .bool b) : (execOp ρ o).run P v = .ok (.value (.bool (a != b))) v := by
  unfold execOp
  have h := run_neq_bool (P := P) v t a b hu
  simp [ho, hx, hy, go_sem, h]
  cases a <;> cases b <;> rfl
theorem exec_not {P : Program} {t : TypeId} {a : Bool} (ho : o.op = .unOp .not t x) (hx : ρ x = .bool a) : (execOp ρ o).run P v = .ok (.value (.bool (!a))) v := by
  unfold execOp
  simp [ho, hx, go_sem]
theorem exec_pick {P : Program} {c : Operand} {b : Bool} {X Y V : Value} (ho : o.op = .pick c x y) (hc : ρ c = .bool b) (hx : ρ x = X) (hy : ρ y = Y) (hV : V = if b = true then X else Y) : (execOp ρ o).run P v = .ok (.value V) v := by
  subst hV
  unfold execOp
  cases b <;> simp [ho, hc, hx, hy, go_sem]
end
section
variable {P : Program} {o : Oper} {ops : Array Oper} {T : Act} {v v' : World} {K : Act → World → Prop} {Q : Exit → Act → World → Prop}
theorem wanted_is {i s : Nat} {b c : Bool} {oi : Oper} (hg : o.guard = some (i, b)) (hi : ops[i]? = some oi) (hd : oi.dst = some s) (ht : T.tmps[s]? = some (.bool c)) : Region.wanted o (yielded ops T.tmps) = (c == b) := by
  unfold Region.wanted yielded
  rw [hg]
  simp only [hi, Option.bind_some, hd, ht]
  cases c <;> cases b <;> rfl
theorem wanted_yes {i s : Nat} {b : Bool} {oi : Oper} (hg : o.guard = some (i, b)) (hi : ops[i]? = some oi) (hd : oi.dst = some s) (ht : T.tmps[s]? = some (.bool b)) : Region.wanted o (yielded ops T.tmps) = true := by
  rw [wanted_is hg hi hd ht]; simp
theorem wanted_no {i s : Nat} {b c : Bool} {oi : Oper} (hn : c = !b) (hg : o.guard = some (i, b)) (hi : ops[i]? = some oi) (hd : oi.dst = some s) (ht : T.tmps[s]? = some (.bool c)) : Region.wanted o (yielded ops T.tmps) = false := by
  rw [wanted_is hg hi hd ht, hn]; cases b <;> rfl
theorem wp_skip (hw : Region.wanted o (yielded ops T.tmps) = false) (hK : K (T.put o.dst undef) v) : if Region.wanted o (yielded ops T.tmps) = true then o.wp P T v K Q else K (T.put o.dst undef) v := by
  rw [if_neg (by rw [hw]; simp)]
  exact hK
theorem wp_ranW {E : Prop} {u : Value} (hw : Region.wanted o (yielded ops T.tmps) = true) (h : (execOp T.eval o).run P v = .ok (.value u) v') (hK : K (T.put o.dst u) v') : if Region.wanted o (yielded ops T.tmps) = true then o.wp P T v K Q else E := by
  rw [if_pos hw]
  unfold Oper.wp
  rw [h]
  exact hK
theorem wp_calledW {E : Prop} {f : FuncId} {args : Array Value} (hw : Region.wanted o (yielded ops T.tmps) = true) (h : (execOp T.eval o).run P v = .ok (.enter f args) v)
    (hc : Calls P f args v fun e v' => ∃ u, e = .returned u ∧ K (T.put o.dst u) v') : if Region.wanted o (yielded ops T.tmps) = true then o.wp P T v K Q else E := by
  rw [if_pos hw]
  unfold Oper.wp
  rw [h]
  refine hc.mono ?_
  rintro e v' ⟨u, rfl, hK⟩
  exact hK
end
/-- A value of many cells is loaded, if it is wanted. -/
theorem wpList_loadsW {P : Program} {w : World} {ops : Array Oper} {rest : List Oper} {o : Oper} {a : Act} {Q : Exit → Act → World → Prop} (hw : Region.wanted o (yielded ops a.tmps) = true) (ty : TypeId) (x : Operand) (ho : o.op = .load ty x) (g f : Nat) (cs : List Value) (hx : a.eval x = .pointer (some ⟨g, f, none⟩)) (hc : Cells w (some ⟨g, f, none⟩) cs)
    (d : TypeDesc) (hu : P.underlying ty = some d) (hd : (match d with | .struct _ | .array _ _ => true | _ => false) = true) (hi : (P.info? ty).map (·.size) = some cs.length)
    (V : Value) (hV : V = .agg cs.toArray)
    (h : wpList P ops Q rest (a.put o.dst V) w) : wpList P ops Q (o :: rest) a w := by
  subst hV
  refine wpList_step fun K hK => ?_
  rw [if_pos hw]
  unfold Oper.wp execOp
  simp only [ho, hx, Instr.loadAt, Instr.sureAddr, Sem.run_bind, Sem.run_pure, Result.andThen_ok, run_loads hc hu hd hi]
  exact hK _ _ h
end Go.Proofs.YtdolihecjomjiaaDoor
