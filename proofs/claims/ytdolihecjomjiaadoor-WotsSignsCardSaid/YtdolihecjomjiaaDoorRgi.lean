/-
  Regions that draw their order, within a fence: walked to a literal frame. My own work.
-/
import Derived.Test.YtdolihecjomjiaaDoorWa
import Derived.OrdersIn
import Derived.OwnWalkIn
namespace Go.Proofs.YtdolihecjomjiaaDoor
open Go.RowKit
namespace Rgi
section
variable {Fe : Fence} {nf : Nat} {P : Program} {ops : Array Oper} {Q : Exit → Act → World → Prop}
/-- What holds ahead of each step, whatever was done by then, holds when all is done. -/
theorem wpAnyIn_inv2 (I : Array Bool → Act → World → Prop) (hs : ∀ listed a w, I listed a w → listed.size = ops.size)
    (hstep : ∀ listed a w i o, I listed a w → ops[i]? = some o → listed.getD i true = false → (∀ e ∈ o.after, Region.binds .any e = true → listed.getD e.on false = true) →
      ∀ K : Act → World → Prop, (∀ a' w', I (listed.setIfInBounds i true) a' w' → K a' w') → if Region.wanted o (yielded ops a.tmps) = true then o.wpIn Fe nf P a w K Q else ((∀ f, o.about P w a.eval = some f → Fe.fn f) ∧ K (a.put o.dst undef) w))
    (hend : ∀ listed a w, I listed a w → (∀ j, j < ops.size → listed.getD j false = true) → Q .normal a w)
    (hlt : ∀ (i : Nat) (o : Oper), ops[i]? = some o → ∀ e ∈ o.after, Region.binds .any e = true → e.on < i) :
    ∀ (fuel : Nat) (listed : Array Bool) (a : Act) (w : World), listed.toList.countP (fun b => !b) ≤ fuel → I listed a w → wpAnyIn Fe nf P .any ops Q fuel listed a w := by
  have hall : ∀ listed : Array Bool, listed.size = ops.size → Region.ready .any ops listed = [] → ∀ n j, j < n → j < ops.size → listed.getD j false = true := by
    intro listed hsz hr n
    induction n with
    | zero => intro j h; omega
    | succ n ih =>
      intro j hj hjo
      by_cases hjn : j < n
      · exact ih j hjn hjo
      · obtain rfl : j = n := by omega
        rcases hb : listed.getD j false with _ | _
        · exfalso
          have hlj : j < listed.size := by omega
          have hmem : j ∈ Region.ready .any ops listed := by
            unfold Region.ready
            rw [List.mem_filter]
            refine ⟨by simpa using hjo, ?_⟩
            have h1 : listed.getD j true = false := by
              simp only [Array.getD, hlj, dite_true] at hb ⊢
              exact hb
            rw [h1, Array.getElem?_eq_getElem hjo]
            simp only [Bool.not_false, Bool.true_and, Option.map_some, Option.getD_some]
            rw [Array.all_eq_true_iff_forall_mem]
            intro e he
            cases hbe : Region.binds .any e with
            | false => rfl
            | true =>
              have := hlt j ops[j] (Array.getElem?_eq_getElem hjo) e he hbe
              rw [ih e.on this (by omega)]
              rfl
          rw [hr] at hmem
          cases hmem
        · rfl
  intro fuel
  induction fuel with
  | zero =>
    intro listed a w hc hI
    have hsz := hs _ _ _ hI
    have hl : ∀ j, j < ops.size → listed.getD j false = true := fun j hj => by
      have hh := count_zero listed.toList (by omega) j (by simp; omega)
      have hj' : j < listed.size := by omega
      simp only [Array.getD, hj', dite_true]
      simpa [hj'] using hh
    refine ⟨?_, hend _ _ _ hI hl⟩
    unfold Region.ready
    rw [List.filter_eq_nil_iff]
    intro j hj
    have hj' : j < listed.size := by have := List.mem_range.1 hj; omega
    have := hl j (List.mem_range.1 hj)
    have h1 : listed.getD j true = true := by
      simp only [Array.getD, hj', dite_true] at this ⊢
      exact this
    simp [h1]
  | succ fuel ih =>
    intro listed a w hc hI
    have hsz := hs _ _ _ hI
    refine ⟨fun hr => hend _ _ _ hI (fun j hj => hall listed hsz hr (j + 1) j (by omega) hj), fun i hi => ?_⟩
    unfold Region.ready at hi
    rw [List.mem_filter] at hi
    obtain ⟨hi1, hi2⟩ := hi
    have hio : i < ops.size := List.mem_range.1 hi1
    rw [Array.getElem?_eq_getElem hio] at hi2
    simp only [Bool.and_eq_true, Bool.not_eq_true', Option.map_some, Option.getD_some] at hi2
    obtain ⟨h1, h2⟩ := hi2
    rw [Array.all_eq_true_iff_forall_mem] at h2
    have hil : i < listed.size := by omega
    have hcs : (listed.setIfInBounds i true).toList.countP (fun b => !b) ≤ fuel := by
      have := count_set listed.toList i (by
        simp only [Array.getD, hil, dite_true] at h1
        simpa [hil] using h1)
      rw [Array.toList_setIfInBounds]
      omega
    refine wpOpIn_step (Array.getElem?_eq_getElem hio) (fun K' hK => ?_)
    exact hstep listed a w i _ hI (Array.getElem?_eq_getElem hio) h1 (fun e he hb => by
      have := h2 e he
      rw [hb] at this
      simpa using this) K' (fun a' w' hI' => hK _ _ (ih _ _ _ hcs hI'))
/-- A region that draws its order, each of whose steps yields the same whenever it may come, but for what x says (the places of what is made). -/
theorem wpIn_region_detx {X : Type} {id : Nat} {a : Act} {w : World} (x0 : X) (nt : Nat) (E : X → Nat → Value) (ps : List Nat) (st : X → (Nat → Bool) → World → Prop) (ds : List Deferred) (hm : P.follows .mixedOrders = true)
    (ht : a.tmps.size = nt) (hd : a.defers = ds) (hp : ∀ s ∈ ps, a.tmps[s]? = some (E x0 s)) (h0 : st x0 (fun _ => false) w.drew)
    (hlt : ∀ (i : Nat) (o : Oper), ops[i]? = some o → ∀ e ∈ o.after, Region.binds .any e = true → e.on < i) (hdst : ∀ (i : Nat) (o : Oper) (s : Nat), ops[i]? = some o → o.dst = some s → s < nt)
    (hstep : ∀ (x : X) (l : Nat → Bool) (T : Act) (v : World) (i : Nat) (o : Oper), ops[i]? = some o → l i = false → (∀ e ∈ o.after, Region.binds .any e = true → l e.on = true) → st x l v →
      (∀ s ∈ ps, T.tmps[s]? = some (E x s)) → (∀ (j : Nat) (o' : Oper) (s : Nat), ops[j]? = some o' → l j = true → o'.dst = some s → T.tmps[s]? = some (E x s)) →
      ∀ K : Act → World → Prop, (∀ x' u v', (∀ s ∈ ps, E x' s = E x s) → (∀ (j : Nat) (o' : Oper) (s : Nat), ops[j]? = some o' → l j = true → o'.dst = some s → E x' s = E x s) → (∀ s, o.dst = some s → u = E x' s) → st x' (fun j => if j = i then true else l j) v' → K (T.put o.dst u) v') →
        if Region.wanted o (yielded ops T.tmps) = true then o.wpIn Fe nf P T v K Q else ((∀ f, o.about P v T.eval = some f → Fe.fn f) ∧ K (T.put o.dst undef) v))
    (hend : ∀ (x : X) (l : Nat → Bool) (T : Act) (v : World), (∀ j, j < ops.size → l j = true) → st x l v → T.tmps.size = nt → T.defers = ds → (∀ s ∈ ps, T.tmps[s]? = some (E x s)) →
      (∀ (j : Nat) (o' : Oper) (s : Nat), ops[j]? = some o' → o'.dst = some s → T.tmps[s]? = some (E x s)) → Q .normal T v) :
    (Code.region id ops true).wpIn Fe nf P Q a w := by
  refine wpIn_region_any hm ?_
  refine wpAnyIn_inv2 (fun listed T v => ∃ x, Drawn ops nt (E x) ps (st x) ds listed T v) (fun _ _ _ ⟨_, h⟩ => h.size) ?_ ?_ hlt ops.size _ a _ ?_ ?_
  · rintro listed T v i o ⟨x, hI⟩ ho hi hdep K hK
    have hio : i < ops.size := (Array.getElem?_eq_some_iff.1 ho).1
    have hil : i < listed.size := by rw [hI.size]; exact hio
    have hi' : listed.getD i false = false := by
      simp only [Array.getD, hil, dite_true] at hi ⊢
      exact hi
    refine hstep x (fun j => listed.getD j false) T v i o ho hi' hdep hI.wor hI.par hI.got K (fun x' u v' hps hold hu hv' => hK _ _ ⟨x', ?_⟩)
    have hput : ∀ s y, T.tmps[s]? = some y → (o.dst = some s → y = u) → (T.put o.dst u).tmps[s]? = some y := by
      intro s y hx hsx
      unfold Act.put
      cases hds : o.dst with
      | none => exact hx
      | some d =>
        show (T.tmps.setIfInBounds d u)[s]? = some y
        rw [Array.getElem?_setIfInBounds]
        by_cases hd' : d = s
        · subst hd'
          have hlt' : d < T.tmps.size := (Array.getElem?_eq_some_iff.1 hx).1
          simp [hlt', hsx hds]
        · simp [hd', hx]
    refine ⟨by simpa using hI.size, ?_, ?_, fun s hs' => hput s _ (by rw [hps s hs']; exact hI.par s hs') (fun h => (hu s h).symm), ?_, ?_⟩
    · unfold Act.put
      split <;> simp [hI.tsize]
    · unfold Act.put
      split <;> exact hI.defs
    · intro j o' s hj hl hs'
      rw [getD_set _ _ _ hil] at hl
      by_cases hji : j = i
      · subst hji
        rw [ho] at hj
        cases hj
        unfold Act.put
        rw [hs']
        show (T.tmps.setIfInBounds s u)[s]? = _
        have hsl : s < T.tmps.size := by rw [hI.tsize]; exact hdst _ _ _ ho hs'
        simp [hsl, hu s hs']
      · rw [if_neg hji] at hl
        exact hput s _ (by rw [hold j o' s hj hl hs']; exact hI.got j o' s hj hl hs') (fun h => (hu s h).symm)
    · have : (fun j => (listed.setIfInBounds i true).getD j false) = (fun j => if j = i then true else listed.getD j false) := funext fun j => getD_set _ _ _ hil
      rw [this]
      exact hv'
  · rintro listed T v ⟨x, hI⟩ hl
    exact hend x _ T v hl hI.wor hI.tsize hI.defs hI.par (fun j o' s hj hs' => hI.got j o' s hj (hl j (Array.getElem?_eq_some_iff.1 hj).1) hs')
  · have : ∀ n : Nat, (List.replicate n false).countP (fun b => !b) ≤ n := fun n => Nat.le_trans List.countP_le_length (by simp)
    simpa using this ops.size
  · refine ⟨x0, by simp, ht, hd, hp, fun j o s _ hl _ => ?_, ?_⟩
    · simp [Array.getD] at hl
    · have : (fun j => (Array.replicate ops.size false).getD j false) = (fun _ => false) := by
        funext j
        simp [Array.getD]
      rw [this]
      exact h0
/-- The same, to a literal frame. -/
theorem wpIn_regx {X : Type} {id : Nat} {a : Act} {w : World} (x0 : X) (F : X → List Value) (nt : Nat) (ps : List Nat) (st : X → (Nat → Bool) → World → Prop) (ds : List Deferred) (hm : P.follows .mixedOrders = true)
    (hF : ∀ x, (F x).length = nt) (ht : a.tmps.size = nt) (hd : a.defers = ds) (hp : ps.map (fun s => a.tmps[s]?) = ps.map (fun s => some ((F x0).getD s undef))) (hx : ∀ x, ps.map (fun s => (F x).getD s undef) = ps.map (fun s => (F x0).getD s undef)) (h0 : st x0 (fun _ => false) w.drew)
    (hB : drawn2B ops nt = true) (hC : coverB ops nt ps = true)
    (hstep : ∀ (x : X) (l : Nat → Bool) (T : Act) (v : World) (i : Nat) (o : Oper), ops[i]? = some o → l i = false → (∀ e ∈ o.after, Region.binds .any e = true → l e.on = true) → st x l v →
      (∀ s, s ∈ ps → T.tmps[s]? = some ((F x).getD s undef)) → (∀ (j : Nat) (o' : Oper) (s : Nat), ops[j]? = some o' → l j = true → o'.dst = some s → T.tmps[s]? = some ((F x).getD s undef)) → Closed ops l →
      ∀ K : Act → World → Prop, (∀ x' u v', (∀ (j : Nat) (o' : Oper) (s : Nat), ops[j]? = some o' → l j = true → o'.dst = some s → (F x').getD s undef = (F x).getD s undef) → (∀ s, o.dst = some s → u = (F x').getD s undef) → st x' (fun j => if j = i then true else l j) v' → K (T.put o.dst u) v') →
        if Region.wanted o (yielded ops T.tmps) = true then o.wpIn Fe nf P T v K Q else ((∀ f, o.about P v T.eval = some f → Fe.fn f) ∧ K (T.put o.dst undef) v))
    (hend : ∀ (x : X) (l : Nat → Bool) (v : World), (∀ j, j < ops.size → l j = true) → st x l v → Q .normal ⟨(F x).toArray, ds⟩ v) :
    (Code.region id ops true).wpIn Fe nf P Q a w := by
  refine wpIn_region_detx x0 nt (fun x s => (F x).getD s undef) ps (fun x l v => st x l v ∧ Closed ops l) ds hm ht hd (map_mem hp) ⟨h0, fun _ _ _ h => by cases h⟩ (drawn2B_lt hB) (drawn2B_dst hB) ?_ ?_
  · intro x l T v i o ho hl hdep hst hpar hgot K hK
    exact hstep x l T v i o ho hl hdep hst.1 hpar hgot hst.2 K (fun x' u v' h1 h2 h3 => hK x' u v' (fun s hs => by
      have e1 := map_mem (hx x') s hs
      have e2 := map_mem (hx x) s hs
      exact e1.trans e2.symm) h1 h2 ⟨h3, hst.2.add ho hdep⟩)
  · intro x l T v hl hst hts hds hpar hgot
    have hall : ∀ s, s < nt → T.tmps[s]? = some ((F x).getD s undef) := fun s hs => by
      rcases coverB_or hC s hs with h | ⟨j, o, hj, ho⟩
      · exact hpar s h
      · exact hgot j o s hj ho
    have hT : T = ⟨(F x).toArray, ds⟩ := by
      obtain ⟨tm, df⟩ := T
      have h1 : tm = (F x).toArray := by
        apply Array.ext_getElem?
        intro s
        by_cases hs : s < nt
        · rw [show tm[s]? = _ from hall s hs]
          have hl' : s < (F x).length := by rw [hF]; exact hs
          simp [List.getD_eq_getElem?_getD, hl']
        · rw [Array.getElem?_eq_none (by rw [show tm.size = nt from hts]; omega), Array.getElem?_eq_none (by simp [hF]; omega)]
      rw [h1, show df = ds from hds]
    rw [hT]
    exact hend x l v hl hst.1
/-- Where nothing is made whose place hangs on the order. -/
theorem wpIn_reg1 {id : Nat} {a : Act} {w : World} (F : List Value) (nt : Nat) (ps : List Nat) (st : (Nat → Bool) → World → Prop) (ds : List Deferred) (hm : P.follows .mixedOrders = true)
    (hF : F.length = nt) (ht : a.tmps.size = nt) (hd : a.defers = ds) (hp : ps.map (fun s => a.tmps[s]?) = ps.map (fun s => some (F.getD s undef))) (h0 : st (fun _ => false) w.drew)
    (hB : drawn2B ops nt = true) (hC : coverB ops nt ps = true)
    (hstep : ∀ (l : Nat → Bool) (T : Act) (v : World) (i : Nat) (o : Oper), ops[i]? = some o → l i = false → (∀ e ∈ o.after, Region.binds .any e = true → l e.on = true) → st l v →
      (∀ s, s ∈ ps → T.tmps[s]? = some (F.getD s undef)) → (∀ (j : Nat) (o' : Oper) (s : Nat), ops[j]? = some o' → l j = true → o'.dst = some s → T.tmps[s]? = some (F.getD s undef)) → Closed ops l →
      ∀ K : Act → World → Prop, (∀ u v', (∀ s, o.dst = some s → u = F.getD s undef) → st (fun j => if j = i then true else l j) v' → K (T.put o.dst u) v') →
        if Region.wanted o (yielded ops T.tmps) = true then o.wpIn Fe nf P T v K Q else ((∀ f, o.about P v T.eval = some f → Fe.fn f) ∧ K (T.put o.dst undef) v))
    (hend : ∀ (l : Nat → Bool) (v : World), (∀ j, j < ops.size → l j = true) → st l v → Q .normal ⟨F.toArray, ds⟩ v) :
    (Code.region id ops true).wpIn Fe nf P Q a w :=
  wpIn_regx (X := Unit) () (fun _ => F) nt ps (fun _ => st) ds hm (fun _ => hF) ht hd hp (fun _ => rfl) h0 hB hC
    (fun _ l T v i o ho hl hdep hst hpar hgot hcl K hK => hstep l T v i o ho hl hdep hst hpar hgot hcl K (fun u v' h1 h2 => hK () u v' (fun _ _ _ _ _ _ => rfl) h1 h2))
    (fun _ l v hl hst => hend l v hl hst)
theorem wpi_ran {o : Oper} {T : Act} {v v' : World} {u : Value} {K : Act → World → Prop} {E : Prop} (hF : ∀ f, Fe.fn f) (hd : ∀ c, o.op ≠ .defer c) (hg : o.guard = none) (h : (execOp T.eval o).run P v = .ok (.value u) v') (hK : K (T.put o.dst u) v') :
    if Region.wanted o (yielded ops T.tmps) = true then o.wpIn Fe nf P T v K Q else E := by
  have hw : Region.wanted o (yielded ops T.tmps) = true := by simp [Region.wanted, hg]
  rw [if_pos hw]
  refine ⟨fun f _ => hF f, ?_⟩
  rw [Oper.semAt_plain Fe _ _ hd, h]
  exact hK
end
end Rgi
end Go.Proofs.YtdolihecjomjiaaDoor
