/-
  Regions that draw their order, one of whose steps may leave by a panic: what is put off is known. My own work.
-/
import Derived.Test.YtchanildogjhgaaDoorOps
namespace Go.Proofs.YtchanildogjhgaaDoor
open Go.RowKit Go.Shelf
section
variable {P : Program} {ops : Array Oper} {Q : Exit → Act → World → Prop}
theorem wp_region_detxd {X : Type} {id : Nat} {a : Act} {w : World} (x0 : X) (nt : Nat) (E : X → Nat → Value) (ps : List Nat) (st : X → (Nat → Bool) → World → Prop) (ds : List Deferred) (hm : P.follows .mixedOrders = true)
    (ht : a.tmps.size = nt) (hd : a.defers = ds) (hp : ∀ s ∈ ps, a.tmps[s]? = some (E x0 s)) (h0 : st x0 (fun _ => false) w.drew)
    (hlt : ∀ (i : Nat) (o : Oper), ops[i]? = some o → ∀ e ∈ o.after, Region.binds .any e = true → e.on < i) (hdst : ∀ (i : Nat) (o : Oper) (s : Nat), ops[i]? = some o → o.dst = some s → s < nt)
    (hstep : ∀ (x : X) (l : Nat → Bool) (T : Act) (v : World) (i : Nat) (o : Oper), ops[i]? = some o → l i = false → (∀ e ∈ o.after, Region.binds .any e = true → l e.on = true) → st x l v →
      (∀ s ∈ ps, T.tmps[s]? = some (E x s)) → (∀ (j : Nat) (o' : Oper) (s : Nat), ops[j]? = some o' → l j = true → o'.dst = some s → T.tmps[s]? = some (E x s)) → T.defers = ds →
      ∀ K : Act → World → Prop, (∀ x' u v', (∀ s ∈ ps, E x' s = E x s) → (∀ (j : Nat) (o' : Oper) (s : Nat), ops[j]? = some o' → l j = true → o'.dst = some s → E x' s = E x s) → (∀ s, o.dst = some s → u = E x' s) → st x' (fun j => if j = i then true else l j) v' → K (T.put o.dst u) v') →
        if Region.wanted o (yielded ops T.tmps) = true then o.wp P T v K Q else K (T.put o.dst undef) v)
    (hend : ∀ (x : X) (l : Nat → Bool) (T : Act) (v : World), (∀ j, j < ops.size → l j = true) → st x l v → T.tmps.size = nt → T.defers = ds → (∀ s ∈ ps, T.tmps[s]? = some (E x s)) →
      (∀ (j : Nat) (o' : Oper) (s : Nat), ops[j]? = some o' → o'.dst = some s → T.tmps[s]? = some (E x s)) → Q .normal T v) :
    (Code.region id ops true).wp P Q a w := by
  refine wp_region_any hm ?_
  refine wpAny_inv2 (fun listed T v => ∃ x, Drawn ops nt (E x) ps (st x) ds listed T v) (fun _ _ _ ⟨_, h⟩ => h.size) ?_ ?_ hlt ops.size _ a _ ?_ ?_
  · rintro listed T v i o ⟨x, hI⟩ ho hi hdep K hK
    have hio : i < ops.size := (Array.getElem?_eq_some_iff.1 ho).1
    have hil : i < listed.size := by rw [hI.size]; exact hio
    have hi' : listed.getD i false = false := by
      simp only [Array.getD, hil, dite_true] at hi ⊢
      exact hi
    refine hstep x (fun j => listed.getD j false) T v i o ho hi' hdep hI.wor hI.par hI.got hI.defs K (fun x' u v' hps hold hu hv' => hK _ _ ⟨x', ?_⟩)
    have hput : ∀ s y, T.tmps[s]? = some y → (o.dst = some s → y = u) → (T.put o.dst u).tmps[s]? = some y := by
      intro s y hx hsx
      unfold Act.put
      cases hds : o.dst with
      | none => exact hx
      | some d =>
        show (T.tmps.setIfInBounds d u)[s]? = some y
        rw [Array.getElem?_setIfInBounds]
        by_cases hd' : d = s
        · subst hd'
          have hlt' : d < T.tmps.size := (Array.getElem?_eq_some_iff.1 hx).1
          simp [hlt', hsx hds]
        · simp [hd', hx]
    refine ⟨by simpa using hI.size, ?_, ?_, fun s hs' => hput s _ (by rw [hps s hs']; exact hI.par s hs') (fun h => (hu s h).symm), ?_, ?_⟩
    · unfold Act.put
      split <;> simp [hI.tsize]
    · unfold Act.put
      split <;> exact hI.defs
    · intro j o' s hj hl hs'
      rw [getD_set _ _ _ hil] at hl
      by_cases hji : j = i
      · subst hji
        rw [ho] at hj
        cases hj
        unfold Act.put
        rw [hs']
        show (T.tmps.setIfInBounds s u)[s]? = _
        have hsl : s < T.tmps.size := by rw [hI.tsize]; exact hdst _ _ _ ho hs'
        simp [hsl, hu s hs']
      · rw [if_neg hji] at hl
        exact hput s _ (by rw [hold j o' s hj hl hs']; exact hI.got j o' s hj hl hs') (fun h => (hu s h).symm)
    · have : (fun j => (listed.setIfInBounds i true).getD j false) = (fun j => if j = i then true else listed.getD j false) := funext fun j => getD_set _ _ _ hil
      rw [this]
      exact hv'
  · rintro listed T v ⟨x, hI⟩ hl
    exact hend x _ T v hl hI.wor hI.tsize hI.defs hI.par (fun j o' s hj hs' => hI.got j o' s hj (hl j (Array.getElem?_eq_some_iff.1 hj).1) hs')
  · have : ∀ n : Nat, (List.replicate n false).countP (fun b => !b) ≤ n := fun n => Nat.le_trans List.countP_le_length (by simp)
    simpa using this ops.size
  · refine ⟨x0, by simp, ht, hd, hp, fun j o s _ hl _ => ?_, ?_⟩
    · simp [Array.getD] at hl
    · have : (fun j => (Array.replicate ops.size false).getD j false) = (fun _ => false) := by
        funext j
        simp [Array.getD]
      rw [this]
      exact h0
theorem wp_region_litd {X : Type} {id : Nat} {a : Act} {w : World} (x0 : X) (F : X → List Value) (nt : Nat) (ps : List Nat) (st : X → (Nat → Bool) → World → Prop) (ds : List Deferred) (hm : P.follows .mixedOrders = true)
    (hF : ∀ x, (F x).length = nt) (ht : a.tmps.size = nt) (hd : a.defers = ds) (hp : ps.map (fun s => a.tmps[s]?) = ps.map (fun s => some ((F x0).getD s undef))) (hx : ∀ x, ps.map (fun s => (F x).getD s undef) = ps.map (fun s => (F x0).getD s undef)) (h0 : st x0 (fun _ => false) w.drew)
    (hB : drawn2B ops nt = true) (hC : coverB ops nt ps = true)
    (hstep : ∀ (x : X) (l : Nat → Bool) (T : Act) (v : World) (i : Nat) (o : Oper), ops[i]? = some o → l i = false → (∀ e ∈ o.after, Region.binds .any e = true → l e.on = true) → st x l v →
      (∀ s, s ∈ ps → T.tmps[s]? = some ((F x).getD s undef)) → (∀ (j : Nat) (o' : Oper) (s : Nat), ops[j]? = some o' → l j = true → o'.dst = some s → T.tmps[s]? = some ((F x).getD s undef)) → Closed ops l → T.defers = ds →
      ∀ K : Act → World → Prop, (∀ x' u v', (∀ (j : Nat) (o' : Oper) (s : Nat), ops[j]? = some o' → l j = true → o'.dst = some s → (F x').getD s undef = (F x).getD s undef) → (∀ s, o.dst = some s → u = (F x').getD s undef) → st x' (fun j => if j = i then true else l j) v' → K (T.put o.dst u) v') →
        if Region.wanted o (yielded ops T.tmps) = true then o.wp P T v K Q else K (T.put o.dst undef) v)
    (hend : ∀ (x : X) (l : Nat → Bool) (v : World), (∀ j, j < ops.size → l j = true) → st x l v → Q .normal ⟨(F x).toArray, ds⟩ v) :
    (Code.region id ops true).wp P Q a w := by
  refine wp_region_detxd x0 nt (fun x s => (F x).getD s undef) ps (fun x l v => st x l v ∧ Closed ops l) ds hm ht hd (map_mem hp) ⟨h0, fun _ _ _ h => by cases h⟩ (drawn2B_lt hB) (drawn2B_dst hB) ?_ ?_
  · intro x l T v i o ho hl hdep hst hpar hgot hdf K hK
    exact hstep x l T v i o ho hl hdep hst.1 hpar hgot hst.2 hdf K (fun x' u v' h1 h2 h3 => hK x' u v' (fun s hs => by
      have e1 := map_mem (hx x') s hs
      have e2 := map_mem (hx x) s hs
      exact e1.trans e2.symm) h1 h2 ⟨h3, hst.2.add ho hdep⟩)
  · intro x l T v hl hst hts hds hpar hgot
    have hall : ∀ s, s < nt → T.tmps[s]? = some ((F x).getD s undef) := fun s hs => by
      rcases coverB_or hC s hs with h | ⟨j, o, hj, ho⟩
      · exact hpar s h
      · exact hgot j o s hj ho
    have hT : T = ⟨(F x).toArray, ds⟩ := by
      obtain ⟨tm, df⟩ := T
      have h1 : tm = (F x).toArray := by
        apply Array.ext_getElem?
        intro s
        by_cases hs : s < nt
        · rw [show tm[s]? = _ from hall s hs]
          have hl' : s < (F x).length := by rw [hF]; exact hs
          simp [List.getD_eq_getElem?_getD, hl']
        · rw [Array.getElem?_eq_none (by rw [show tm.size = nt from hts]; omega), Array.getElem?_eq_none (by simp [hF]; omega)]
      rw [h1, show df = ds from hds]
    rw [hT]
    exact hend x l v hl hst.1
end
theorem wp_region_upxd {P : Program} {X : Type} {ops : Array Oper} {Q : Exit → Act → World → Prop} {id : Nat} {a : Act} {w : World} (x0 : X) (ups : X → List (Nat × Value)) (n : Nat) (ks : List Nat) (hn : a.tmps.size = n) (hks : ∀ x, (ups x).map (·.1) = ks) (hnd : ks.Nodup) (hD : ((List.range ops.size).all fun j => match (ops[j]?).bind (·.dst) with | some s => decide (s < n) && ks.contains s | none => true) = true) (st : X → (Nat → Bool) → World → Prop) (hm : P.follows .mixedOrders = true) (h0 : st x0 (fun _ => false) w.drew)
    (hB : drawn2B ops n = true) (hC : coverB ops n (restOf n ks) = true)
    (hstep : ∀ (x : X) (l : Nat → Bool) (T : Act) (v : World) (i : Nat) (o : Oper), ops[i]? = some o → l i = false → (∀ e ∈ o.after, Region.binds .any e = true → l e.on = true) → st x l v →
      (∀ s, (decide (s < n) && !ks.contains s) = true → T.tmps[s]? = a.tmps[s]?) → (∀ (j : Nat) (o' : Oper) (s : Nat), ops[j]? = some o' → l j = true → o'.dst = some s → T.tmps[s]? = (ups x).lookup s) → Closed ops l → T.defers = a.defers →
      ∀ K : Act → World → Prop, (∀ x' u v', (∀ (j : Nat) (o' : Oper) (s : Nat), ops[j]? = some o' → l j = true → o'.dst = some s → (ups x').lookup s = (ups x).lookup s) → (∀ s, o.dst = some s → some u = (ups x').lookup s) → st x' (fun j => if j = i then true else l j) v' → K (T.put o.dst u) v') →
        if Region.wanted o (yielded ops T.tmps) = true then o.wp P T v K Q else K (T.put o.dst undef) v)
    (hend : ∀ (x : X) (l : Nat → Bool) (v : World), (∀ j, j < ops.size → l j = true) → st x l v → Q .normal ⟨(setAll a.tmps.toList (ups x)).toArray, a.defers⟩ v) :
    (Code.region id ops true).wp P Q a w := by
  subst hn
  have key : ∀ (x : X) (j : Nat) (o' : Oper) (s : Nat), ops[j]? = some o' → o'.dst = some s → some ((setAll a.tmps.toList (ups x)).getD s undef) = (ups x).lookup s := fun x j o' s h1 h2 => by
    have hj := (Array.getElem?_eq_some_iff.1 h1).1
    have h3 := List.all_eq_true.1 hD j (List.mem_range.2 hj)
    rw [h1] at h3
    simp only [Option.bind_some, h2, Bool.and_eq_true, decide_eq_true_eq] at h3
    have h4 : s ∈ (ups x).map (·.1) := by rw [hks]; simpa using h3.2
    obtain ⟨v, hv⟩ := lookup_some _ h4
    rw [hv, List.getD_eq_getElem?_getD, setAll_lookup s v (ups x) _ (by rw [hks]; exact hnd) (by simpa using h3.1) hv]
    rfl
  have oth : ∀ (x : X) (s : Nat), s < a.tmps.size → s ∉ ks → (setAll a.tmps.toList (ups x))[s]? = a.tmps.toList[s]? := fun x s _ hk => setAll_other s (ups x) a.tmps.toList (by rw [hks]; exact hk)
  refine wp_region_litd x0 (fun x => setAll a.tmps.toList (ups x)) a.tmps.size (restOf a.tmps.size ks) st a.defers hm (fun x => by rw [setAll_length]; simp) rfl rfl ?_ (fun x => ?_) h0 hB hC ?_ hend
  · apply List.map_congr_left
    intro s hs
    obtain ⟨h1, h2⟩ := List.mem_filter.1 hs
    have hlt : s < a.tmps.size := List.mem_range.1 h1
    have hk : s ∉ ks := by simpa using h2
    rw [List.getD_eq_getElem?_getD, oth x0 s hlt hk]
    simp [hlt]
  · apply List.map_congr_left
    intro s hs
    obtain ⟨h1, h2⟩ := List.mem_filter.1 hs
    have hlt : s < a.tmps.size := List.mem_range.1 h1
    have hk : s ∉ ks := by simpa using h2
    rw [List.getD_eq_getElem?_getD, List.getD_eq_getElem?_getD, oth x s hlt hk, oth x0 s hlt hk]
  · intro x l T v i o ho hl hdep hst hpar hgot hcl hdf K hK
    refine hstep x l T v i o ho hl hdep hst (fun s hs => ?_) (fun j o' s h1 h2 h3 => ?_) hcl hdf K (fun x' u v' hx hu hv => hK x' u v' (fun j o' s g1 g2 g3 => ?_) (fun s hs => ?_) hv)
    · rw [Bool.and_eq_true, decide_eq_true_eq] at hs
      have hk : s ∉ ks := by simpa using hs.2
      rw [hpar s (List.mem_filter.2 ⟨List.mem_range.2 hs.1, hs.2⟩), List.getD_eq_getElem?_getD, oth x s hs.1 hk]
      simp [hs.1]
    · rw [hgot j o' s h1 h2 h3, key x j o' s h1 h3]
    · have e1 := key x' j o' s g1 g3
      have e2 := key x j o' s g1 g3
      rw [hx j o' s g1 g2 g3, ← e2] at e1
      exact Option.some.inj e1
    · have h1 := hu s hs
      have h2 := key x' i o s ho hs
      rw [← h1] at h2
      exact (Option.some.inj h2).symm
/-- A call that leaves by a panic. -/
theorem wp_threw {P : Program} {o : Oper} {ops : Array Oper} {T : Act} {v : World} {K : Act → World → Prop} {Q : Exit → Act → World → Prop} {E : Prop} {f : FuncId} {args : Array Value} (hg : o.guard = none) (h : (execOp T.eval o).run P v = .ok (.enter f args) v)
    (hc : Calls P f args v fun e v' => ∃ ch, e = .panicked ch ∧ Q (.panic ch) T v') :
    if Region.wanted o (yielded ops T.tmps) = true then o.wp P T v K Q else E := by
  have hw : Region.wanted o (yielded ops T.tmps) = true := by unfold Region.wanted; rw [hg]
  rw [if_pos hw]
  unfold Oper.wp
  rw [h]
  refine hc.mono ?_
  rintro e v' ⟨ch, rfl, hK⟩
  exact hK
end Go.Proofs.YtchanildogjhgaaDoor
