/-
  A region that draws its order, by what holds between its steps: whatever is done by then, in whatever order. My own work.
-/
import Derived.Test.YtpdpahkhfilmpaaRow
import Derived.RegionTactic
namespace Go.Proofs.Ytpdpahkhfilmpaa
open Go.RowKit

section
variable {P : Program} {ops : Array Oper} {Q : Exit → Act → World → Prop}
theorem count_set : ∀ (l : List Bool) (i : Nat), l[i]? = some false → (l.set i true).countP (fun b => !b) + 1 = l.countP (fun b => !b)
  | [], i, h => by simp at h
  | b :: l, 0, h => by simp at h; subst h; simp
  | b :: l, i + 1, h => by
    have := count_set l i (by simpa using h)
    simp only [List.set_cons_succ, List.countP_cons]
    omega
theorem count_zero : ∀ (l : List Bool), l.countP (fun b => !b) = 0 → ∀ j, j < l.length → l[j]? = some true
  | [], _, j, h => by simp at h
  | b :: l, h, 0, _ => by
    rw [List.countP_cons] at h
    cases b
    · simp at h
    · rfl
  | b :: l, h, j + 1, hj => by
    rw [List.countP_cons] at h
    simpa using count_zero l (by omega) j (by simpa using hj)
/-- What holds ahead of each step, whatever was done by then, holds when all is done. -/
theorem wpAny_inv (I : Array Bool → Act → World → Prop) (hs : ∀ listed a w, I listed a w → listed.size = ops.size)
    (hstep : ∀ listed a w i o, I listed a w → ops[i]? = some o → listed.getD i true = false → (∀ e ∈ o.after, Region.binds .any e = true → listed.getD e.on false = true) →
      ∀ K : Act → World → Prop, (∀ a' w', I (listed.setIfInBounds i true) a' w' → K a' w') → if Region.wanted o (yielded ops a.tmps) = true then o.wp P a w K Q else K (a.put o.dst undef) w)
    (hend : ∀ listed a w, I listed a w → (∀ j, j < ops.size → listed.getD j false = true) → Q .normal a w)
    (hlt : ∀ (i : Nat) (o : Oper), ops[i]? = some o → ∀ e ∈ o.after, e.on < i) :
    ∀ (fuel : Nat) (listed : Array Bool) (a : Act) (w : World), listed.toList.countP (fun b => !b) ≤ fuel → I listed a w → wpAny P .any ops Q fuel listed a w := by
  have hall : ∀ listed : Array Bool, listed.size = ops.size → Region.ready .any ops listed = [] → ∀ n j, j < n → j < ops.size → listed.getD j false = true := by
    intro listed hsz hr n
    induction n with
    | zero => intro j h; omega
    | succ n ih =>
      intro j hj hjo
      by_cases hjn : j < n
      · exact ih j hjn hjo
      · obtain rfl : j = n := by omega
        rcases hb : listed.getD j false with _ | _
        · exfalso
          have hlj : j < listed.size := by omega
          have hmem : j ∈ Region.ready .any ops listed := by
            unfold Region.ready
            rw [List.mem_filter]
            refine ⟨by simpa using hjo, ?_⟩
            have h1 : listed.getD j true = false := by
              simp only [Array.getD, hlj, dite_true] at hb ⊢
              exact hb
            rw [h1, Array.getElem?_eq_getElem hjo]
            simp only [Bool.not_false, Bool.true_and, Option.map_some, Option.getD_some]
            rw [Array.all_eq_true_iff_forall_mem]
            intro e he
            have := hlt j ops[j] (Array.getElem?_eq_getElem hjo) e he
            rw [ih e.on this (by omega)]
            simp
          rw [hr] at hmem
          cases hmem
        · rfl
  intro fuel
  induction fuel with
  | zero =>
    intro listed a w hc hI
    have hsz := hs _ _ _ hI
    have hl : ∀ j, j < ops.size → listed.getD j false = true := fun j hj => by
      have hh := count_zero listed.toList (by omega) j (by simp; omega)
      have hj' : j < listed.size := by omega
      simp only [Array.getD, hj', dite_true]
      simpa [hj'] using hh
    refine ⟨?_, hend _ _ _ hI hl⟩
    unfold Region.ready
    rw [List.filter_eq_nil_iff]
    intro j hj
    have hj' : j < listed.size := by have := List.mem_range.1 hj; omega
    have := hl j (List.mem_range.1 hj)
    have h1 : listed.getD j true = true := by
      simp only [Array.getD, hj', dite_true] at this ⊢
      exact this
    simp [h1]
  | succ fuel ih =>
    intro listed a w hc hI
    have hsz := hs _ _ _ hI
    refine ⟨fun hr => hend _ _ _ hI (fun j hj => hall listed hsz hr (j + 1) j (by omega) hj), fun i hi => ?_⟩
    unfold Region.ready at hi
    rw [List.mem_filter] at hi
    obtain ⟨hi1, hi2⟩ := hi
    have hio : i < ops.size := List.mem_range.1 hi1
    rw [Array.getElem?_eq_getElem hio] at hi2
    simp only [Bool.and_eq_true, Bool.not_eq_true', Option.map_some, Option.getD_some] at hi2
    obtain ⟨h1, h2⟩ := hi2
    rw [Array.all_eq_true_iff_forall_mem] at h2
    have hil : i < listed.size := by omega
    have hcs : (listed.setIfInBounds i true).toList.countP (fun b => !b) ≤ fuel := by
      have := count_set listed.toList i (by
        simp only [Array.getD, hil, dite_true] at h1
        simpa [hil] using h1)
      rw [Array.toList_setIfInBounds]
      omega
    refine wpOp_step (Array.getElem?_eq_getElem hio) (fun K' hK => ?_)
    exact hstep listed a w i _ hI (Array.getElem?_eq_getElem hio) h1 (fun e he hb => by
      have := h2 e he
      rw [hb] at this
      simpa using this) K' (fun a' w' hI' => hK _ _ (ih _ _ _ hcs hI'))
/-- The slots hold what was reckoned; the world stands as it does behind what was done. -/
structure Drawn (ops : Array Oper) (nt : Nat) (E : Nat → Value) (ps : List Nat) (st : (Nat → Bool) → World → Prop) (ds : List Deferred) (listed : Array Bool) (a : Act) (w : World) : Prop where
  size : listed.size = ops.size
  tsize : a.tmps.size = nt
  defs : a.defers = ds
  par : ∀ s ∈ ps, a.tmps[s]? = some (E s)
  got : ∀ (j : Nat) (o : Oper) (s : Nat), ops[j]? = some o → listed.getD j false = true → o.dst = some s → a.tmps[s]? = some (E s)
  wor : st (fun j => listed.getD j false) w
theorem getD_set (l : Array Bool) (i j : Nat) (hi : i < l.size) : (l.setIfInBounds i true).getD j false = (if j = i then true else l.getD j false) := by
  simp only [Array.getD_eq_getD_getElem?, Array.getElem?_setIfInBounds]
  by_cases hj : j = i
  · subst hj
    simp [hi]
  · simp [hj, Ne.symm hj]
/-- A region that draws its order, each of whose steps yields the same whenever it may come. -/
theorem wp_region_det {id : Nat} {a : Act} {w : World} (nt : Nat) (E : Nat → Value) (ps : List Nat) (st : (Nat → Bool) → World → Prop) (ds : List Deferred) (hm : P.follows .mixedOrders = true)
    (ht : a.tmps.size = nt) (hd : a.defers = ds) (hp : ∀ s ∈ ps, a.tmps[s]? = some (E s)) (h0 : st (fun _ => false) w.drew)
    (hlt : ∀ (i : Nat) (o : Oper), ops[i]? = some o → ∀ e ∈ o.after, e.on < i) (hdst : ∀ (i : Nat) (o : Oper) (s : Nat), ops[i]? = some o → o.dst = some s → s < nt)
    (hstep : ∀ (l : Nat → Bool) (T : Act) (v : World) (i : Nat) (o : Oper), ops[i]? = some o → l i = false → (∀ e ∈ o.after, Region.binds .any e = true → l e.on = true) → st l v →
      (∀ s ∈ ps, T.tmps[s]? = some (E s)) → (∀ (j : Nat) (o' : Oper) (s : Nat), ops[j]? = some o' → l j = true → o'.dst = some s → T.tmps[s]? = some (E s)) →
      ∀ K : Act → World → Prop, (∀ u v', (∀ s, o.dst = some s → u = E s) → st (fun j => if j = i then true else l j) v' → K (T.put o.dst u) v') →
        if Region.wanted o (yielded ops T.tmps) = true then o.wp P T v K Q else K (T.put o.dst undef) v)
    (hend : ∀ (l : Nat → Bool) (T : Act) (v : World), (∀ j, j < ops.size → l j = true) → st l v → T.tmps.size = nt → T.defers = ds → (∀ s ∈ ps, T.tmps[s]? = some (E s)) →
      (∀ (j : Nat) (o' : Oper) (s : Nat), ops[j]? = some o' → o'.dst = some s → T.tmps[s]? = some (E s)) → Q .normal T v) :
    (Code.region id ops true).wp P Q a w := by
  refine wp_region_any hm ?_
  refine wpAny_inv (Drawn ops nt E ps st ds) (fun _ _ _ h => h.size) ?_ ?_ hlt ops.size _ a _ ?_ ?_
  · intro listed T v i o hI ho hi hdep K hK
    have hio : i < ops.size := (Array.getElem?_eq_some_iff.1 ho).1
    have hil : i < listed.size := by rw [hI.size]; exact hio
    have hi' : listed.getD i false = false := by
      simp only [Array.getD, hil, dite_true] at hi ⊢
      exact hi
    refine hstep (fun j => listed.getD j false) T v i o ho hi' hdep hI.wor hI.par hI.got K (fun u v' hu hv' => hK _ _ ?_)
    have hput : ∀ s x, T.tmps[s]? = some x → (o.dst = some s → x = u) → (T.put o.dst u).tmps[s]? = some x := by
      intro s x hx hsx
      unfold Act.put
      cases hds : o.dst with
      | none => exact hx
      | some d =>
        show (T.tmps.setIfInBounds d u)[s]? = some x
        rw [Array.getElem?_setIfInBounds]
        by_cases hd' : d = s
        · subst hd'
          have hlt' : d < T.tmps.size := (Array.getElem?_eq_some_iff.1 hx).1
          simp [hlt', hsx hds]
        · simp [hd', hx]
    refine ⟨by simpa using hI.size, ?_, ?_, fun s hs' => hput s _ (hI.par s hs') (fun h => (hu s h).symm), ?_, ?_⟩
    · unfold Act.put
      split <;> simp [hI.tsize]
    · unfold Act.put
      split <;> exact hI.defs
    · intro j o' s hj hl hs'
      rw [getD_set _ _ _ hil] at hl
      by_cases hji : j = i
      · subst hji
        rw [ho] at hj
        cases hj
        unfold Act.put
        rw [hs']
        show (T.tmps.setIfInBounds s u)[s]? = _
        have hsl : s < T.tmps.size := by rw [hI.tsize]; exact hdst _ _ _ ho hs'
        simp [hsl, hu s hs']
      · rw [if_neg hji] at hl
        exact hput s _ (hI.got j o' s hj hl hs') (fun h => (hu s h).symm)
    · have : (fun j => (listed.setIfInBounds i true).getD j false) = (fun j => if j = i then true else listed.getD j false) := funext fun j => getD_set _ _ _ hil
      rw [this]
      exact hv'
  · intro listed T v hI hl
    exact hend _ T v hl hI.wor hI.tsize hI.defs hI.par (fun j o' s hj hs' => hI.got j o' s hj (hl j (Array.getElem?_eq_some_iff.1 hj).1) hs')
  · have : ∀ n : Nat, (List.replicate n false).countP (fun b => !b) ≤ n := fun n => Nat.le_trans List.countP_le_length (by simp)
    simpa using this ops.size
  · refine ⟨by simp, ht, hd, hp, fun j o s _ hl _ => ?_, ?_⟩
    · simp [Array.getD] at hl
    · have : (fun j => (Array.replicate ops.size false).getD j false) = (fun _ => false) := by
        funext j
        simp [Array.getD]
      rw [this]
      exact h0
end
end Go.Proofs.Ytpdpahkhfilmpaa
