/-
  The law's own keys and rows. My own work.
-/
import Derived.Test.YtbacmeaeehhhfaaDoorNb
namespace Go.Proofs.YtbacmeaeehhhfaaDoor
open Go.RowKit Go.Shelf
set_option linter.unusedVariables false
set_option linter.unusedSimpArgs false
section
variable {P : Program} {ops : Array Oper} {Q : Exit → Act → World → Prop}
theorem wp_region_detxp {X : Type} {id : Nat} {a : Act} {w : World} (x0 : X) (nt : Nat) (E : X → Nat → Value) (ps : List Nat) (st : X → (Nat → Bool) → World → Prop) (ds : List Deferred) (hm : P.follows .mixedOrders = true)
    (ht : a.tmps.size = nt) (hd : a.defers = ds) (hp : ∀ s ∈ ps, a.tmps[s]? = some (E x0 s)) (h0 : st x0 (fun _ => false) w.drew)
    (hlt : ∀ (i : Nat) (o : Oper), ops[i]? = some o → ∀ e ∈ o.after, Region.binds .any e = true → e.on < i) (hdst : ∀ (i : Nat) (o : Oper) (s : Nat), ops[i]? = some o → o.dst = some s → s < nt)
    (hstep : ∀ (x : X) (l : Nat → Bool) (T : Act) (v : World) (i : Nat) (o : Oper), ops[i]? = some o → l i = false → (∀ e ∈ o.after, Region.binds .any e = true → l e.on = true) → st x l v →
      (∀ s ∈ ps, T.tmps[s]? = some (E x s)) → (∀ (j : Nat) (o' : Oper) (s : Nat), ops[j]? = some o' → l j = true → o'.dst = some s → T.tmps[s]? = some (E x s)) → T.defers = ds → (∀ s, (∀ (j : Nat) (o' : Oper), ops[j]? = some o' → l j = true → o'.dst ≠ some s) → T.tmps[s]? = a.tmps[s]?) →
      ∀ K : Act → World → Prop, (∀ x' u v', (∀ s ∈ ps, E x' s = E x s) → (∀ (j : Nat) (o' : Oper) (s : Nat), ops[j]? = some o' → l j = true → o'.dst = some s → E x' s = E x s) → (∀ s, o.dst = some s → u = E x' s) → st x' (fun j => if j = i then true else l j) v' → K (T.put o.dst u) v') →
        if Region.wanted o (yielded ops T.tmps) = true then o.wp P T v K Q else K (T.put o.dst undef) v)
    (hend : ∀ (x : X) (l : Nat → Bool) (T : Act) (v : World), (∀ j, j < ops.size → l j = true) → st x l v → T.tmps.size = nt → T.defers = ds → (∀ s ∈ ps, T.tmps[s]? = some (E x s)) →
      (∀ (j : Nat) (o' : Oper) (s : Nat), ops[j]? = some o' → o'.dst = some s → T.tmps[s]? = some (E x s)) → Q .normal T v) :
    (Code.region id ops true).wp P Q a w := by
  refine wp_region_any hm ?_
  refine wpAny_inv2 (fun listed T v => (∃ x, Drawn ops nt (E x) ps (st x) ds listed T v) ∧ ∀ s, (∀ (j : Nat) (o' : Oper), ops[j]? = some o' → listed.getD j false = true → o'.dst ≠ some s) → T.tmps[s]? = a.tmps[s]?) (fun _ _ _ ⟨⟨_, h⟩, _⟩ => h.size) ?_ ?_ hlt ops.size _ a _ ?_ ?_
  · rintro listed T v i o ⟨⟨x, hI⟩, hold0⟩ ho hi hdep K hK
    have hio : i < ops.size := (Array.getElem?_eq_some_iff.1 ho).1
    have hil : i < listed.size := by rw [hI.size]; exact hio
    have hi' : listed.getD i false = false := by
      simp only [Array.getD, hil, dite_true] at hi ⊢
      exact hi
    refine hstep x (fun j => listed.getD j false) T v i o ho hi' hdep hI.wor hI.par hI.got hI.defs hold0 K (fun x' u v' hps hold hu hv' => hK _ _ ⟨⟨x', ?_⟩, ?_⟩)
    rotate_left
    · intro s hs
      have h1 : o.dst ≠ some s := hs i o ho (by rw [getD_set _ _ _ hil]; simp)
      have h2 : T.tmps[s]? = a.tmps[s]? := hold0 s (fun j o' g1 g2 => hs j o' g1 (by rw [getD_set _ _ _ hil]; split <;> simp [g2]))
      unfold Act.put
      cases hds : o.dst with
      | none => exact h2
      | some d =>
        show (T.tmps.setIfInBounds d u)[s]? = _
        rw [Array.getElem?_setIfInBounds, if_neg (by rintro rfl; exact h1 hds)]
        exact h2
    have hput : ∀ s y, T.tmps[s]? = some y → (o.dst = some s → y = u) → (T.put o.dst u).tmps[s]? = some y := by
      intro s y hx hsx
      unfold Act.put
      cases hds : o.dst with
      | none => exact hx
      | some d =>
        show (T.tmps.setIfInBounds d u)[s]? = some y
        rw [Array.getElem?_setIfInBounds]
        by_cases hd' : d = s
        · subst hd'
          have hlt' : d < T.tmps.size := (Array.getElem?_eq_some_iff.1 hx).1
          simp [hlt', hsx hds]
        · simp [hd', hx]
    refine ⟨by simpa using hI.size, ?_, ?_, fun s hs' => hput s _ (by rw [hps s hs']; exact hI.par s hs') (fun h => (hu s h).symm), ?_, ?_⟩
    · unfold Act.put
      split <;> simp [hI.tsize]
    · unfold Act.put
      split <;> exact hI.defs
    · intro j o' s hj hl hs'
      rw [getD_set _ _ _ hil] at hl
      by_cases hji : j = i
      · subst hji
        rw [ho] at hj
        cases hj
        unfold Act.put
        rw [hs']
        show (T.tmps.setIfInBounds s u)[s]? = _
        have hsl : s < T.tmps.size := by rw [hI.tsize]; exact hdst _ _ _ ho hs'
        simp [hsl, hu s hs']
      · rw [if_neg hji] at hl
        exact hput s _ (by rw [hold j o' s hj hl hs']; exact hI.got j o' s hj hl hs') (fun h => (hu s h).symm)
    · have : (fun j => (listed.setIfInBounds i true).getD j false) = (fun j => if j = i then true else listed.getD j false) := funext fun j => getD_set _ _ _ hil
      rw [this]
      exact hv'
  · rintro listed T v ⟨⟨x, hI⟩, _⟩ hl
    exact hend x _ T v hl hI.wor hI.tsize hI.defs hI.par (fun j o' s hj hs' => hI.got j o' s hj (hl j (Array.getElem?_eq_some_iff.1 hj).1) hs')
  · have : ∀ n : Nat, (List.replicate n false).countP (fun b => !b) ≤ n := fun n => Nat.le_trans List.countP_le_length (by simp)
    simpa using this ops.size
  · refine ⟨⟨x0, by simp, ht, hd, hp, fun j o s _ hl _ => ?_, ?_⟩, fun _ _ => rfl⟩
    · simp [Array.getD] at hl
    · have : (fun j => (Array.replicate ops.size false).getD j false) = (fun _ => false) := by
        funext j
        simp [Array.getD]
      rw [this]
      exact h0
theorem wp_region_litp {X : Type} {id : Nat} {a : Act} {w : World} (x0 : X) (F : X → List Value) (nt : Nat) (ps : List Nat) (st : X → (Nat → Bool) → World → Prop) (ds : List Deferred) (hm : P.follows .mixedOrders = true)
    (hF : ∀ x, (F x).length = nt) (ht : a.tmps.size = nt) (hd : a.defers = ds) (hp : ps.map (fun s => a.tmps[s]?) = ps.map (fun s => some ((F x0).getD s undef))) (hx : ∀ x, ps.map (fun s => (F x).getD s undef) = ps.map (fun s => (F x0).getD s undef)) (h0 : st x0 (fun _ => false) w.drew)
    (hB : drawn2B ops nt = true) (hC : coverB ops nt ps = true)
    (hstep : ∀ (x : X) (l : Nat → Bool) (T : Act) (v : World) (i : Nat) (o : Oper), ops[i]? = some o → l i = false → (∀ e ∈ o.after, Region.binds .any e = true → l e.on = true) → st x l v →
      (∀ s, s ∈ ps → T.tmps[s]? = some ((F x).getD s undef)) → (∀ (j : Nat) (o' : Oper) (s : Nat), ops[j]? = some o' → l j = true → o'.dst = some s → T.tmps[s]? = some ((F x).getD s undef)) → Closed ops l → T.defers = ds → (∀ s, (∀ (j : Nat) (o' : Oper), ops[j]? = some o' → l j = true → o'.dst ≠ some s) → T.tmps[s]? = a.tmps[s]?) →
      ∀ K : Act → World → Prop, (∀ x' u v', (∀ (j : Nat) (o' : Oper) (s : Nat), ops[j]? = some o' → l j = true → o'.dst = some s → (F x').getD s undef = (F x).getD s undef) → (∀ s, o.dst = some s → u = (F x').getD s undef) → st x' (fun j => if j = i then true else l j) v' → K (T.put o.dst u) v') →
        if Region.wanted o (yielded ops T.tmps) = true then o.wp P T v K Q else K (T.put o.dst undef) v)
    (hend : ∀ (x : X) (l : Nat → Bool) (v : World), (∀ j, j < ops.size → l j = true) → st x l v → Q .normal ⟨(F x).toArray, ds⟩ v) :
    (Code.region id ops true).wp P Q a w := by
  refine wp_region_detxp x0 nt (fun x s => (F x).getD s undef) ps (fun x l v => st x l v ∧ Closed ops l) ds hm ht hd (map_mem hp) ⟨h0, fun _ _ _ h => by cases h⟩ (drawn2B_lt hB) (drawn2B_dst hB) ?_ ?_
  · intro x l T v i o ho hl hdep hst hpar hgot hdf hold K hK
    exact hstep x l T v i o ho hl hdep hst.1 hpar hgot hst.2 hdf hold K (fun x' u v' h1 h2 h3 => hK x' u v' (fun s hs => by
      have e1 := map_mem (hx x') s hs
      have e2 := map_mem (hx x) s hs
      exact e1.trans e2.symm) h1 h2 ⟨h3, hst.2.add ho hdep⟩)
  · intro x l T v hl hst hts hds hpar hgot
    have hall : ∀ s, s < nt → T.tmps[s]? = some ((F x).getD s undef) := fun s hs => by
      rcases coverB_or hC s hs with h | ⟨j, o, hj, ho⟩
      · exact hpar s h
      · exact hgot j o s hj ho
    have hT : T = ⟨(F x).toArray, ds⟩ := by
      obtain ⟨tm, df⟩ := T
      have h1 : tm = (F x).toArray := by
        apply Array.ext_getElem?
        intro s
        by_cases hs : s < nt
        · rw [show tm[s]? = _ from hall s hs]
          have hl' : s < (F x).length := by rw [hF]; exact hs
          simp [List.getD_eq_getElem?_getD, hl']
        · rw [Array.getElem?_eq_none (by rw [show tm.size = nt from hts]; omega), Array.getElem?_eq_none (by simp [hF]; omega)]
      rw [h1, show df = ds from hds]
    rw [hT]
    exact hend x l v hl hst.1
end
theorem wp_region_upxp {P : Program} {X : Type} {ops : Array Oper} {Q : Exit → Act → World → Prop} {id : Nat} {a : Act} {w : World} (x0 : X) (ups : X → List (Nat × Value)) (n : Nat) (ks : List Nat) (hn : a.tmps.size = n) (hks : ∀ x, (ups x).map (·.1) = ks) (hnd : ks.Nodup) (hD : ((List.range ops.size).all fun j => match (ops[j]?).bind (·.dst) with | some s => decide (s < n) && ks.contains s | none => true) = true) (st : X → (Nat → Bool) → World → Prop) (hm : P.follows .mixedOrders = true) (h0 : st x0 (fun _ => false) w.drew)
    (hB : drawn2B ops n = true) (hC : coverB ops n (restOf n ks) = true)
    (hstep : ∀ (x : X) (l : Nat → Bool) (T : Act) (v : World) (i : Nat) (o : Oper), ops[i]? = some o → l i = false → (∀ e ∈ o.after, Region.binds .any e = true → l e.on = true) → st x l v →
      (∀ s, (decide (s < n) && !ks.contains s) = true → T.tmps[s]? = a.tmps[s]?) → (∀ (j : Nat) (o' : Oper) (s : Nat), ops[j]? = some o' → l j = true → o'.dst = some s → T.tmps[s]? = (ups x).lookup s) → Closed ops l → T.defers = a.defers → (∀ s, (∀ (j : Nat) (o' : Oper), ops[j]? = some o' → l j = true → o'.dst ≠ some s) → T.tmps[s]? = a.tmps[s]?) →
      ∀ K : Act → World → Prop, (∀ x' u v', (∀ (j : Nat) (o' : Oper) (s : Nat), ops[j]? = some o' → l j = true → o'.dst = some s → (ups x').lookup s = (ups x).lookup s) → (∀ s, o.dst = some s → some u = (ups x').lookup s) → st x' (fun j => if j = i then true else l j) v' → K (T.put o.dst u) v') →
        if Region.wanted o (yielded ops T.tmps) = true then o.wp P T v K Q else K (T.put o.dst undef) v)
    (hend : ∀ (x : X) (l : Nat → Bool) (v : World), (∀ j, j < ops.size → l j = true) → st x l v → Q .normal ⟨(setAll a.tmps.toList (ups x)).toArray, a.defers⟩ v) :
    (Code.region id ops true).wp P Q a w := by
  subst hn
  have key : ∀ (x : X) (j : Nat) (o' : Oper) (s : Nat), ops[j]? = some o' → o'.dst = some s → some ((setAll a.tmps.toList (ups x)).getD s undef) = (ups x).lookup s := fun x j o' s h1 h2 => by
    have hj := (Array.getElem?_eq_some_iff.1 h1).1
    have h3 := List.all_eq_true.1 hD j (List.mem_range.2 hj)
    rw [h1] at h3
    simp only [Option.bind_some, h2, Bool.and_eq_true, decide_eq_true_eq] at h3
    have h4 : s ∈ (ups x).map (·.1) := by rw [hks]; simpa using h3.2
    obtain ⟨v, hv⟩ := lookup_some _ h4
    rw [hv, List.getD_eq_getElem?_getD, setAll_lookup s v (ups x) _ (by rw [hks]; exact hnd) (by simpa using h3.1) hv]
    rfl
  have oth : ∀ (x : X) (s : Nat), s < a.tmps.size → s ∉ ks → (setAll a.tmps.toList (ups x))[s]? = a.tmps.toList[s]? := fun x s _ hk => setAll_other s (ups x) a.tmps.toList (by rw [hks]; exact hk)
  refine wp_region_litp x0 (fun x => setAll a.tmps.toList (ups x)) a.tmps.size (restOf a.tmps.size ks) st a.defers hm (fun x => by rw [setAll_length]; simp) rfl rfl ?_ (fun x => ?_) h0 hB hC ?_ hend
  · apply List.map_congr_left
    intro s hs
    obtain ⟨h1, h2⟩ := List.mem_filter.1 hs
    have hlt : s < a.tmps.size := List.mem_range.1 h1
    have hk : s ∉ ks := by simpa using h2
    rw [List.getD_eq_getElem?_getD, oth x0 s hlt hk]
    simp [hlt]
  · apply List.map_congr_left
    intro s hs
    obtain ⟨h1, h2⟩ := List.mem_filter.1 hs
    have hlt : s < a.tmps.size := List.mem_range.1 h1
    have hk : s ∉ ks := by simpa using h2
    rw [List.getD_eq_getElem?_getD, List.getD_eq_getElem?_getD, oth x s hlt hk, oth x0 s hlt hk]
  · intro x l T v i o ho hl hdep hst hpar hgot hcl hdf hold K hK
    refine hstep x l T v i o ho hl hdep hst (fun s hs => ?_) (fun j o' s h1 h2 h3 => ?_) hcl hdf hold K (fun x' u v' hx hu hv => hK x' u v' (fun j o' s g1 g2 g3 => ?_) (fun s hs => ?_) hv)
    · rw [Bool.and_eq_true, decide_eq_true_eq] at hs
      have hk : s ∉ ks := by simpa using hs.2
      rw [hpar s (List.mem_filter.2 ⟨List.mem_range.2 hs.1, hs.2⟩), List.getD_eq_getElem?_getD, oth x s hs.1 hk]
      simp [hs.1]
    · rw [hgot j o' s h1 h2 h3, key x j o' s h1 h3]
    · have e1 := key x' j o' s g1 g3
      have e2 := key x j o' s g1 g3
      rw [hx j o' s g1 g2 g3, ← e2] at e1
      exact Option.some.inj e1
    · have h1 := hu s hs
      have h2 := key x' i o s ho hs
      rw [← h1] at h2
      exact (Option.some.inj h2).symm

theorem zero26 : ∀ w, (zeroValue 26).run Tryd.prog w = .ok (.agg ((List.replicate 256 (0 : UInt8)).map oct).toArray) w := (zero_of_info (n := 256) (by kernel_rfl)).1
theorem size26 : (Tryd.prog.info? 26).map (·.size) = some 256 := by kernel_rfl
theorem exec_atz {P : Program} {v : World} {o : Oper} {ρ : Operand → Value} {t e : TypeId} {n g f z : Nat} {x y : Operand} {i : Nat} (hu : P.underlying t = some (.array n e)) (he : (P.info? e).map (·.size) = some z) (hi : i < n) (ho : o.op = .indexAddr t x y) (hx : ρ x = .pointer (some ⟨g, f, none⟩)) (hy : ρ y = .int .i64 (i : Int)) :
    (execOp ρ o).run P v = .ok (.value (.pointer (some ⟨g, f + i * z, none⟩))) v := by
  unfold execOp
  cases hq : P.info? e with
  | none => rw [hq] at he; cases he
  | some it =>
    have hs : it.size = z := by rw [hq] at he; simpa using he
    simp [ho, hx, hy, Instr.indexAt, Sem.run_bind, run_underlying hu, go_sem, sizeOf, typeInfo, hq, hs, hi, add_plain]
/-- The first k keys, noughts behind them. -/
def kcs (x : Idv) (k : Nat) : List Value := (keysL x k).flatMap ic ++ (List.replicate (256 - k * 32) (0 : UInt8)).map oct
theorem keysC_length (x : Idv) (k : Nat) : ((keysL x k).flatMap ic).length = k * 32 := by rw [flat_length ic 32 ic_length, keysL_length]
theorem kcs_length (x : Idv) (k : Nat) (hk : k ≤ 8) : (kcs x k).length = 256 := by
  simp only [kcs, List.length_append, keysC_length, List.length_map, List.length_replicate]; omega
theorem kcs_zero (x : Idv) : kcs x 0 = (List.replicate 256 (0 : UInt8)).map oct := by unfold kcs; rw [show keysL x 0 = [] from rfl, List.flatMap_nil, List.nil_append, Nat.zero_mul, Nat.sub_zero]
theorem kcs_all (x : Idv) : kcs x 8 = (keysL x 8).flatMap ic := by unfold kcs; rw [show 256 - 8 * 32 = 0 from rfl, List.replicate_zero, List.map_nil, List.append_nil]
theorem kcs_next (x : Idv) (k : Nat) (hk : k < 8) : (kcs x k).take (0 + k * 32) ++ ic (keyI (lseedI x k)) ++ (kcs x k).drop (0 + k * 32 + (ic (keyI (lseedI x k))).length) = kcs x (k + 1) := by
  have hl := keysC_length x k
  rw [ic_length, Nat.zero_add]
  unfold kcs
  rw [List.take_append_of_le_length (by omega), List.take_of_length_le (by omega), List.drop_append, List.drop_eq_nil_of_le (by omega), List.nil_append, ← List.map_drop, List.drop_replicate, keysL_snoc, List.flatMap_append, hl, List.flatMap_singleton]
  congr 3
  omega
theorem kcs_one (x : Idv) : ∀ u ∈ (keysL x 8).flatMap ic, u.oneCell' = true := fun u hu => by
  obtain ⟨z, _, hz⟩ := List.mem_flatMap.1 hu
  exact ic_one z u hz
set_option maxRecDepth 100000 in
set_option maxHeartbeats 4000000 in
theorem lawKeys_c (x : Idv) (w : World) (Gl : Glob w) :
    Calls Tryd.prog 11 #[iv x] w fun r w' => r = .returned (.agg ((keysL x 8).flatMap ic).toArray) ∧ Mod [] w w' := by
  have HG := Lib.hid Gl
  obtain ⟨C, hC⟩ : ∃ C, C = (keysL x 8).flatMap ic := ⟨_, rfl⟩
  rw [← hC]
  have HC := Lib.hid hC
  clear Gl hC
  go_enter Tryd.func11, Tryd.ntmps11
  go_wp2_with (first
    | (with_reducible refine wpList_boxes (o := ⟨some 1, .box 23 (.tmp 0), _, _, _, _⟩) rfl 23 (.tmp 0) rfl _ rfl (ic x) rfl ?_; intro w1 hb1 m1 z1; replace z1 := Lib.hid z1)
    | (with_reducible refine wpList_allocs (o := ⟨some 2, .alloc 26, _, _, _, _⟩) rfl 26 rfl _ zero26 ?_; intro w2 hb2 m2 z2; replace z2 := Lib.hid z2)
    | (with_reducible refine wpList_allocs (o := ⟨some 3, .alloc 26, _, _, _, _⟩) rfl 26 rfl _ zero26 ?_; intro w3 hb3 m3 z3; replace z3 := Lib.hid z3))
  obtain ⟨b1, e1⟩ : ∃ b, b = w.heap.size := ⟨_, rfl⟩
  obtain ⟨b2, e2⟩ : ∃ b, b = w1.heap.size := ⟨_, rfl⟩
  obtain ⟨b3, e3⟩ : ∃ b, b = w2.heap.size := ⟨_, rfl⟩
  have k1 : Holds w3 b1 23 (ic x) := by rw [e1]; exact (hb1.keep m2 (by simp)).keep m3 (by simp)
  have k2 : Holds w3 b2 26 (kcs x 0) := by rw [e2, kcs_zero]; exact hb2.keep m3 (by simp)
  have k3 : Holds w3 b3 26 (kcs x 0) := by rw [e3, kcs_zero]; exact hb3
  have mm := (m1.then m2).then m3
  have HO : Hid (b1 < b2 ∧ b2 < b3 ∧ w.heap.size ≤ b2) := Lib.hid (by have := z1.out; have := z2.out; omega)
  rw [← e1, ← e2, ← e3]
  clear hb1 m1 z1 hb2 m2 z2 hb3 m3 z3 e1 e2 e3
  go_loopw [5] (fun i wi => ∃ (k : Nat), k ≤ 8 ∧ i = .int .i64 (k : Int) ∧ Holds wi b1 23 (ic x) ∧ Holds wi b2 26 (kcs x 0) ∧ Holds wi b3 26 (kcs x k) ∧ Mod [] w wi) (fun i _ => 8 - (intOf i).toNat)
  case atStart => exact ⟨0, by omega, rfl, k1, k2, k3, mm⟩
  case round =>
    obtain ⟨k, hk, rfl, k1, k2, k3, hm⟩ := hrel
    by_cases hk8 : k < 8
    · have hkZ : (k : Int) < 8 := by omega
      have LS := fun v (mv : Mod [] w v) => lawSeed_c x k (by omega) v (HG.out.then mv)
      have hnx := kcs_next x k hk8
      have hlen := kcs_length x k hk
      obtain ⟨s, hs⟩ : ∃ s, s = lseedI x k := ⟨_, rfl⟩
      have KC := fun v (mv : Mod [] w v) => key_c s v (HG.out.then mv)
      obtain ⟨y, hy⟩ : ∃ y, y = keyI s := ⟨_, rfl⟩
      rw [← hs] at LS hnx
      rw [← hy] at KC hnx
      obtain ⟨C', hC⟩ : ∃ C, C = kcs x k := ⟨_, rfl⟩
      rw [← hC] at hnx hlen k3
      have HP := Lib.hid (And.intro hnx (And.intro hlen (And.intro hk8 k2)))
      clear hnx hlen hs hy hC hk8 k2
      go_wp2_with (first
        | (with_reducible refine wpList_loads (o := ⟨some 9, .load 23 (.tmp 1), _, _, _, _⟩) rfl 23 (.tmp 1) rfl b1 0 _ rfl (Cells.of_holds k1) _ Tryd.underlying23 rfl (size25i x) (iv x) rfl ?_)
        | (go_at_call 16; refine (LS _ hm).mono ?_
           rintro e w4 ⟨rfl, m4⟩
           have mm4 := hm.then m4)
        | (go_at_call 35; refine (KC _ mm4).mono ?_
           rintro e w5 ⟨rfl, m5⟩
           have mm5 := mm4.then m5)
        | (with_reducible refine wpList_ranW (o := ⟨some 13, .indexAddr _ _ _, _, _, _, _⟩) (by with_unfolding_all rfl) (.pointer (some ⟨b3, 0 + k * 32, none⟩)) w5 (exec_atz Tryd.underlying26 size25 HP.out.2.2.1 rfl rfl rfl) ?_)
        | (with_reducible refine wpList_stores (o := ⟨none, .store 23 (.tmp 13) (.tmp 12), _, _, _, _⟩) rfl 23 (.tmp 13) (.tmp 12) rfl rfl b3 (0 + k * 32) (ic y) rfl (iv y) rfl rfl 26 C' ((k3.keep m4 (by simp)).keep m5 (by simp)) (by rw [ic_length, HP.out.2.1]; have := HP.out.2.2.1; omega) (ic_one y) (size25i y) ?_
           intro w6 h6 m6 z6
           rw [HP.out.1] at h6))
      have g1 := HO.out
      exact ⟨⟨k + 1, by omega, by go_num, ((k1.keep m4 (by simp)).keep m5 (by simp)).keep m6 (by simp; omega), ((HP.out.2.2.2.keep m4 (by simp)).keep m5 (by simp)).keep m6 (by simp; omega), h6, far_mod mm5 m6 (fun i hi => by simp at hi; omega)⟩, by simp [intOf]; omega⟩
    · obtain rfl : k = 8 := by omega
      rw [kcs_all] at k3
      have hlen := keysC_length x 8
      have hone := kcs_one x
      rw [← HC.out] at k3 hlen hone
      have HP := Lib.hid (And.intro hlen (And.intro hone (And.intro k2 (kcs_length x 0 (by omega)))))
      clear hlen hone k2 k1 HC
      go_wp2_with (first
        | (with_reducible refine wpList_loads (o := ⟨some 15, .load 26 (.tmp 3), _, _, _, _⟩) rfl 26 (.tmp 3) rfl b3 0 _ rfl (Cells.of_holds k3) _ Tryd.underlying26 rfl (by rw [HP.out.1]; exact size26) (.agg C.toArray) rfl ?_)
        | (with_reducible refine wpList_storesAll (o := ⟨none, .store 26 (.tmp 2) (.tmp 15), _, _, _, _⟩) rfl 26 (.tmp 2) (.tmp 15) rfl rfl b2 C rfl (.agg C.toArray) rfl rfl 26 _ HP.out.2.2.1 (by rw [HP.out.1, HP.out.2.2.2]) HP.out.2.1 (by rw [HP.out.1]; exact size26) ?_
           intro w6 h6 m6 z6))
      refine bodyPost_ret (results_cell_row rfl _ _ b2 26 _ (0, 0) _ rfl h6 Tryd.underlying26 rfl (by rw [List.size_toArray, HP.out.1]; exact size26)) rfl ?_
      exact ⟨rfl, far_mod hm m6 (fun i hi => by have := HO.out; simp at hi; omega)⟩
set_option maxRecDepth 100000 in
set_option maxHeartbeats 4000000 in
theorem pairs_c (g o : Nat) (l : List Idv) (n c h : Nat) (hn : n = l.length) (hh : n = h * 2) (hl : h ≤ 30) (w : World) (Gl : Glob w) (RA : Cells w (some ⟨g, o, none⟩) (l.flatMap ic)) (hg : g < w.heap.size) :
    Calls Tryd.prog 38 #[.slice (some ⟨g, o, none⟩) n c] w fun r w' => ∃ A c', r = .returned (.slice A h c') ∧ OwnG ic 23 32 w' A c' (halfL l h) ∧ Mod [] w w' ∧ (∀ i ∈ blk A, w.heap.size ≤ i) := by
  have HH := Lib.hid (And.intro hn (And.intro hh (And.intro RA (And.intro hg Gl))))
  have hnZ : (n : Int) ≤ 60 := by omega
  clear hn hh RA hg Gl
  go_enter Tryd.func38, Tryd.ntmps38
  go_wp2_with fail
  go_loopw [3, 4] (fun r i wi => ∃ (k q : Nat) (A : Option Addr) (c' : Nat), k ≤ h ∧ q = k * 2 ∧ i = .int .i64 (q : Int) ∧ r = .slice A k c' ∧ OwnG ic 23 32 wi A c' (halfL l k) ∧ (∀ i ∈ blk A, w.heap.size ≤ i) ∧ Mod [] w wi) (fun _ i _ => n - (intOf i).toNat)
  case atStart => exact ⟨0, 0, none, 0, by omega, rfl, rfl, rfl, by simpa [halfL] using OwnG.nil ic 23 32 w, by simp [blk], Mod.refl _ _⟩
  case round =>
    obtain ⟨k, q, A1, c1, hk, hq, rfl, rfl, hOw, hbA, hm⟩ := hrel
    by_cases hkh : k < h
    · have q1 : q < l.length := by rw [← HH.out.1, HH.out.2.1]; omega
      have q2 : q + 1 < l.length := by rw [← HH.out.1, HH.out.2.1]; omega
      have hqZ : (q : Int) + 1 < (n : Int) := by have := HH.out.2.1; omega
      have hgA : g ∉ blk A1 := fun hi => by have := hbA g hi; have := HH.out.2.2.2.1; omega
      have RW := HH.out.2.2.1.keep hm (by simp)
      obtain ⟨_, _, e1, hc1⟩ := RW.elem' ic 32 (by omega) ic_length q q1
      cases e1
      obtain ⟨_, _, e2, hc2⟩ := RW.elem' ic 32 (by omega) ic_length (q + 1) q2
      cases e2
      obtain ⟨y, hy⟩ : ∃ x, x = l[q] := ⟨_, rfl⟩
      obtain ⟨z, hz⟩ : ∃ x, x = l[q + 1] := ⟨_, rfl⟩
      rw [← hy] at hc1
      rw [← hz] at hc2
      have LJ := fun v (mv : Mod [] w v) => lawJoin_c y z v (HH.out.2.2.2.2.then mv)
      obtain ⟨e, he⟩ : ∃ e, e = joinI y z := ⟨_, rfl⟩
      rw [← he] at LJ
      obtain ⟨r, hr⟩ : ∃ r, r = halfL l k := ⟨_, rfl⟩
      have hsn : halfL l (k + 1) = r ++ [e] := by
        rw [halfL_snoc, ← hr, he, hy, hz, ← hq, List.getD_eq_getElem?_getD, List.getD_eq_getElem?_getD, List.getElem?_eq_getElem q1, List.getElem?_eq_getElem q2]
        rfl
      have hrl : k = r.length := by rw [hr, halfL_length]
      rw [← hr] at hOw
      obtain ⟨k1, hk1⟩ : ∃ k1, k1 = k + 1 := ⟨_, rfl⟩
      have hqn : q < n := by rw [HH.out.1]; exact q1
      have hqn2 : q + 1 < n := by rw [HH.out.1]; exact q2
      have HN : Hid (r.length ≤ 100 ∧ r.length + 1 = k1 ∧ q < n ∧ q + 1 < n ∧ IntKind.i64.wrap ((q : Int) + 1) = ((q + 1 : Nat) : Int)) := Lib.hid ⟨by omega, by omega, hqn, hqn2, IntWalk.i64_in _ (by omega)⟩
      have HP := Lib.hid (And.intro hsn (And.intro hk1 (And.intro hq (And.intro hkh (And.intro hbA (And.intro hm (halfL_length l (k + 1))))))))
      rw [hrl]
      clear q1 q2 RW hy hz he hr hsn hk1 hq hbA hqn hqn2
      go_wp2_with fail
      obtain ⟨wq, hwq⟩ : ∃ v, v = wr := ⟨_, rfl⟩
      rw [← hwq] at hc1 hc2 hOw HP ⊢
      clear hwq
      have FM0 : ∀ v, Mod (blk A1) wq.drew v → Mod (blk A1) wq v := fun v h => (Mod.drew (blk A1) wq).trans h (fun i _ hi => hi)
      have FM : ∀ v, Mod (blk A1) wq.drew v → Mod [] w v := fun v h => far_mod HP.out.2.2.2.2.2.1 (FM0 v h) HP.out.2.2.2.2.1
      refine wp_region_upxp (X := Xk) ⟨0, none, 0⟩ (fun x => [(12, .slice A1 r.length c1), (13, .slice (some ⟨g, o, none⟩) n c), (14, .int .i64 (q : Int)), (15, .pointer (some ⟨g, o + q * 32, none⟩)), (16, iv y), (17, .slice (some ⟨g, o, none⟩) n c), (18, .int .i64 (q : Int)), (19, .int .i64 ((q + 1 : Nat) : Int)), (20, .pointer (some ⟨g, o + (q + 1) * 32, none⟩)), (21, iv z), (22, iv e), (23, .slice (some ⟨x.b, 0, none⟩) 1 1), (24, .slice x.C k1 x.c), (3, .slice x.C k1 x.c)]) 26 [12, 13, 14, 15, 16, 17, 18, 19, 20, 21, 22, 23, 24, 3] rfl (fun _ => rfl) (by decide) (by kernel_rfl) (fun x lz v => SbK (blk A1) wq.drew r e A1 c1 (lz 11) (lz 12) x v) (by kernel_rfl) ⟨Mod.refl _ _, fun i hi => hi, fun _ => hOw.keep (Mod.drew [] wq) (by simp), (fun h => by cases h), (fun h => by cases h)⟩ (by kernel_rfl) (by kernel_rfl) ?step ?fin
      case step =>
        intro x lz T v j o hj hlj hdep hst hpar hgot hcl hdf hold Kq hK
        have hjn : j < 14 := (Array.getElem?_eq_some_iff.1 hj).1
        obtain rfl | rfl | rfl | rfl | rfl | rfl | rfl | rfl | rfl | rfl | rfl | rfl | rfl | rfl : j = 0 ∨ j = 1 ∨ j = 2 ∨ j = 3 ∨ j = 4 ∨ j = 5 ∨ j = 6 ∨ j = 7 ∨ j = 8 ∨ j = 9 ∨ j = 10 ∨ j = 11 ∨ j = 12 ∨ j = 13 := by omega
        all_goals (have hj' := Option.some.inj (hj : some _ = some o); subst hj'; clear hj)
        · have l13 : lz 13 = false := (by cases hh : lz 13 with | false => rfl | true => exact absurd (hcl 13 _ rfl hh ⟨0, .phase⟩ (by simp) rfl) (by rw [hlj]; simp))
          have h3 := hold 3 (fun j' o' g1 g2 g3 => by
              have g4 : j' < 14 := (Array.getElem?_eq_some_iff.1 g1).1
              clear hpar hgot hdep hK
              obtain rfl | rfl | rfl | rfl | rfl | rfl | rfl | rfl | rfl | rfl | rfl | rfl | rfl | rfl : j' = 0 ∨ j' = 1 ∨ j' = 2 ∨ j' = 3 ∨ j' = 4 ∨ j' = 5 ∨ j' = 6 ∨ j' = 7 ∨ j' = 8 ∨ j' = 9 ∨ j' = 10 ∨ j' = 11 ∨ j' = 12 ∨ j' = 13 := by omega
              all_goals (cases g1; first | (cases g3; done) | (rw [hlj] at g2; cases g2) | (rw [l13] at g2; cases g2)))
          exact wp_ran rfl (exec_move rfl (eval_tmp (h3.trans rfl))) (hK x _ _ (fun _ _ _ _ _ _ => rfl) (fun s hs => by cases hs; rfl) (by simpa using hst))
        · exact wp_ran rfl (exec_move rfl (eval_tmp ((hpar 0 rfl).trans rfl))) (hK x _ _ (fun _ _ _ _ _ _ => rfl) (fun s hs => by cases hs; rfl) (by simpa using hst))
        · exact wp_ran rfl (exec_move rfl (eval_tmp ((hpar 4 rfl).trans rfl))) (hK x _ _ (fun _ _ _ _ _ _ => rfl) (fun s hs => by cases hs; rfl) (by simpa using hst))
        · exact wp_ran rfl (exec_ixs Tryd.underlying33 size25 HN.out.2.2.1 rfl (eval_tmp (hgot 1 _ 13 rfl (hdep ⟨1, .data⟩ (by simp) rfl) rfl)) (eval_tmp (hgot 2 _ 14 rfl (hdep ⟨2, .data⟩ (by simp) rfl) rfl))) (hK x _ _ (fun _ _ _ _ _ _ => rfl) (fun s hs => by cases hs; rfl) (by simpa using hst))
        · exact wp_ran rfl (exec_load rfl (eval_tmp (hgot 3 _ 15 rfl (hdep ⟨3, .data⟩ (by simp) rfl) rfl)) (run_loads (hc1.keep (FM0 v hst.1) (by simpa using hgA)) Tryd.underlying23 rfl (size25i y))) (hK x _ _ (fun _ _ _ _ _ _ => rfl) (fun s hs => by cases hs; rfl) (by simpa using hst))
        · exact wp_ran rfl (exec_move rfl (eval_tmp ((hpar 0 rfl).trans rfl))) (hK x _ _ (fun _ _ _ _ _ _ => rfl) (fun s hs => by cases hs; rfl) (by simpa using hst))
        · exact wp_ran rfl (exec_move rfl (eval_tmp ((hpar 4 rfl).trans rfl))) (hK x _ _ (fun _ _ _ _ _ _ => rfl) (fun s hs => by cases hs; rfl) (by simpa using hst))
        · exact wp_ran rfl (exec_add rfl (eval_tmp (hgot 6 _ 18 rfl (hdep ⟨6, .data⟩ (by simp) rfl) rfl)) rfl (HN.out.2.2.2.2)) (hK x _ _ (fun _ _ _ _ _ _ => rfl) (fun s hs => by cases hs; rfl) (by simpa using hst))
        · exact wp_ran rfl (exec_ixs Tryd.underlying33 size25 HN.out.2.2.2.1 rfl (eval_tmp (hgot 5 _ 17 rfl (hdep ⟨5, .data⟩ (by simp) rfl) rfl)) (eval_tmp (hgot 7 _ 19 rfl (hdep ⟨7, .data⟩ (by simp) rfl) rfl))) (hK x _ _ (fun _ _ _ _ _ _ => rfl) (fun s hs => by cases hs; rfl) (by simpa using hst))
        · exact wp_ran rfl (exec_load rfl (eval_tmp (hgot 8 _ 20 rfl (hdep ⟨8, .data⟩ (by simp) rfl) rfl)) (run_loads (hc2.keep (FM0 v hst.1) (by simpa using hgA)) Tryd.underlying23 rfl (size25i z))) (hK x _ _ (fun _ _ _ _ _ _ => rfl) (fun s hs => by cases hs; rfl) (by simpa using hst))
        · refine wp_called rfl (exec_call2 rfl rfl (eval_tmp (hgot 4 _ 16 rfl (hdep ⟨4, .data⟩ (by simp) rfl) rfl)) (eval_tmp (hgot 9 _ 21 rfl (hdep ⟨9, .data⟩ (by simp) rfl) rfl)) (enters_of Tryd.func20 (by kernel_rfl) rfl)) ((LJ v (FM v hst.1)).mono ?_)
          rintro e v' ⟨rfl, m2⟩
          exact ⟨_, rfl, hK x _ _ (fun _ _ _ _ _ _ => rfl) (fun s hs => by cases hs; rfl) (by simpa using hst.mod0 m2)⟩
        · have l12 : lz 12 = false := (by cases hh : lz 12 with | false => rfl | true => exact absurd (hcl 12 _ rfl hh ⟨11, .data⟩ (by simp) rfl) (by rw [hlj]; simp))
          have l13 : lz 13 = false := (by cases hh : lz 13 with | false => rfl | true => exact absurd (hcl 13 _ rfl hh ⟨12, .data⟩ (by simp) rfl) (by rw [l12]; simp))
          have hs' : SbK (blk A1) wq.drew r e A1 c1 (lz 11) false x v := by simpa [l12] using hst
          refine wp_ran rfl (exec_lit22 rfl (eval_tmp (hgot 10 _ 22 rfl (hdep ⟨10, .data⟩ (by simp) rfl) rfl))) (hK { x with b := v.heap.size } _ _ (fun j' o' s' g1 g2 g3 => by
              have g4 : j' < 14 := (Array.getElem?_eq_some_iff.1 g1).1
              clear hpar hgot hdep hK
              obtain rfl | rfl | rfl | rfl | rfl | rfl | rfl | rfl | rfl | rfl | rfl | rfl | rfl | rfl : j' = 0 ∨ j' = 1 ∨ j' = 2 ∨ j' = 3 ∨ j' = 4 ∨ j' = 5 ∨ j' = 6 ∨ j' = 7 ∨ j' = 8 ∨ j' = 9 ∨ j' = 10 ∨ j' = 11 ∨ j' = 12 ∨ j' = 13 := by omega
              all_goals (cases g1; cases g3 <;> first | rfl | (rw [hlj] at g2; cases g2) | (rw [l12] at g2; cases g2) | (rw [l13] at g2; cases g2))) (fun s hs => by cases hs; rfl) ?_)
          simpa [l12] using hs'.lit
        · have l13 : lz 13 = false := (by cases hh : lz 13 with | false => rfl | true => exact absurd (hcl 13 _ rfl hh ⟨12, .data⟩ (by simp) rfl) (by rw [hlj]; simp))
          have t11 : lz 11 = true := hdep ⟨11, .data⟩ (by simp) rfl
          have hs' : SbK (blk A1) wq.drew r e A1 c1 true false x v := by simpa [t11, hlj] using hst
          obtain ⟨A', c', w', r1, r2, _⟩ := hs'.app (o := { dst := some 24, op := .call { callee := .builtin .append, args := #[.tmp 12, .tmp 23], argTypes := #[33, 33] }, type := 33, pos := "world.go:14", after := #[], guard := none }) (ρ := T.eval) (.tmp 12) (.tmp 23) rfl (eval_tmp (hgot 0 _ 12 rfl (hdep ⟨0, .data⟩ (by simp) rfl) rfl)) (eval_tmp (hgot 11 _ 23 rfl (hdep ⟨11, .data⟩ (by simp) rfl) rfl)) HN.out.1
          rw [HN.out.2.1] at r1
          refine wp_ran rfl r1 (hK { x with C := A', c := c' } _ _ (fun j' o' s' g1 g2 g3 => by
              have g4 : j' < 14 := (Array.getElem?_eq_some_iff.1 g1).1
              clear hpar hgot hdep hK
              obtain rfl | rfl | rfl | rfl | rfl | rfl | rfl | rfl | rfl | rfl | rfl | rfl | rfl | rfl : j' = 0 ∨ j' = 1 ∨ j' = 2 ∨ j' = 3 ∨ j' = 4 ∨ j' = 5 ∨ j' = 6 ∨ j' = 7 ∨ j' = 8 ∨ j' = 9 ∨ j' = 10 ∨ j' = 11 ∨ j' = 12 ∨ j' = 13 := by omega
              all_goals (cases g1; cases g3 <;> first | rfl | (rw [hlj] at g2; cases g2) | (rw [l13] at g2; cases g2))) (fun s hs => by cases hs; rfl) ?_)
          simpa [t11] using r2
        · exact wp_ran rfl (exec_assign rfl (eval_tmp (hgot 12 _ 24 rfl (hdep ⟨12, .data⟩ (by simp) rfl) rfl))) (hK x _ _ (fun _ _ _ _ _ _ => rfl) (fun s hs => by cases hs; rfl) (by simpa using hst))
      case fin =>
      intro x lz vr hlz hst
      have hO2 := hst.2.2.2.2 (hlz 12 (by decide))
      have mq := FM vr hst.1
      clear hst hlz
      simp only [setAll, List.foldl_cons, List.foldl_nil, List.set_cons_succ, List.set_cons_zero]
      go_wp2_with fail
      have g1 := HP.out.2.1
      have g2 := HP.out.2.2.1
      have g3 := HP.out.2.2.2.1
      have hdw : w.heap.size ≤ wq.drew.heap.size := Nat.le_trans HP.out.2.2.2.2.2.1.size (Mod.drew [] wq).size
      refine ⟨⟨k + 1, q + 2, x.C, x.c, by omega, by omega, by go_num, by rw [g1], by rw [HP.out.1]; exact hO2.1, fun i hi => ?_, mq⟩, by simp [intOf]; omega⟩
      rcases hO2.2 i hi with h1 | h1
      · exact HP.out.2.2.2.2.1 i h1
      · omega
    · obtain rfl : k = h := by omega
      have hqZ : ¬ (q : Int) + 1 < (n : Int) := by have := HH.out.2.1; omega
      have hqn : (q : Int) ≤ 60 := by have := HH.out.2.1; omega
      clear HH
      go_wp2_with fail
      go_ret
      exact ⟨_, _, rfl, hOw, hm, hbA⟩
end Go.Proofs.YtbacmeaeehhhfaaDoor
