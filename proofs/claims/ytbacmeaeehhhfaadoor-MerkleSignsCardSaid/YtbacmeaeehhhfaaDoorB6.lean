/-
  My own texts Rgi Wi Wj Wk Wl Wm Wn Wo Gu, one behind the other.
-/
import Derived.Test.YtbacmeaeehhhfaaDoorB5
import Derived.OrdersIn
import Derived.OwnWalkIn
namespace Go.Proofs.YtbacmeaeehhhfaaDoor
section
open Go.RowKit
namespace Rgi
section
variable {Fe : Fence} {nf : Nat} {P : Program} {ops : Array Oper} {Q : Exit → Act → World → Prop}
/-- What holds ahead of each step, whatever was done by then, holds when all is done. -/
theorem wpAnyIn_inv2 (I : Array Bool → Act → World → Prop) (hs : ∀ listed a w, I listed a w → listed.size = ops.size)
    (hstep : ∀ listed a w i o, I listed a w → ops[i]? = some o → listed.getD i true = false → (∀ e ∈ o.after, Region.binds .any e = true → listed.getD e.on false = true) →
      ∀ K : Act → World → Prop, (∀ a' w', I (listed.setIfInBounds i true) a' w' → K a' w') → if Region.wanted o (yielded ops a.tmps) = true then o.wpIn Fe nf P a w K Q else ((∀ f, o.about P w a.eval = some f → Fe.fn f) ∧ K (a.put o.dst undef) w))
    (hend : ∀ listed a w, I listed a w → (∀ j, j < ops.size → listed.getD j false = true) → Q .normal a w)
    (hlt : ∀ (i : Nat) (o : Oper), ops[i]? = some o → ∀ e ∈ o.after, Region.binds .any e = true → e.on < i) :
    ∀ (fuel : Nat) (listed : Array Bool) (a : Act) (w : World), listed.toList.countP (fun b => !b) ≤ fuel → I listed a w → wpAnyIn Fe nf P .any ops Q fuel listed a w := by
  have hall : ∀ listed : Array Bool, listed.size = ops.size → Region.ready .any ops listed = [] → ∀ n j, j < n → j < ops.size → listed.getD j false = true := by
    intro listed hsz hr n
    induction n with
    | zero => intro j h; omega
    | succ n ih =>
      intro j hj hjo
      by_cases hjn : j < n
      · exact ih j hjn hjo
      · obtain rfl : j = n := by omega
        rcases hb : listed.getD j false with _ | _
        · exfalso
          have hlj : j < listed.size := by omega
          have hmem : j ∈ Region.ready .any ops listed := by
            unfold Region.ready
            rw [List.mem_filter]
            refine ⟨by simpa using hjo, ?_⟩
            have h1 : listed.getD j true = false := by
              simp only [Array.getD, hlj, dite_true] at hb ⊢
              exact hb
            rw [h1, Array.getElem?_eq_getElem hjo]
            simp only [Bool.not_false, Bool.true_and, Option.map_some, Option.getD_some]
            rw [Array.all_eq_true_iff_forall_mem]
            intro e he
            cases hbe : Region.binds .any e with
            | false => rfl
            | true =>
              have := hlt j ops[j] (Array.getElem?_eq_getElem hjo) e he hbe
              rw [ih e.on this (by omega)]
              rfl
          rw [hr] at hmem
          cases hmem
        · rfl
  intro fuel
  induction fuel with
  | zero =>
    intro listed a w hc hI
    have hsz := hs _ _ _ hI
    have hl : ∀ j, j < ops.size → listed.getD j false = true := fun j hj => by
      have hh := count_zero listed.toList (by omega) j (by simp; omega)
      have hj' : j < listed.size := by omega
      simp only [Array.getD, hj', dite_true]
      simpa [hj'] using hh
    refine ⟨?_, hend _ _ _ hI hl⟩
    unfold Region.ready
    rw [List.filter_eq_nil_iff]
    intro j hj
    have hj' : j < listed.size := by have := List.mem_range.1 hj; omega
    have := hl j (List.mem_range.1 hj)
    have h1 : listed.getD j true = true := by
      simp only [Array.getD, hj', dite_true] at this ⊢
      exact this
    simp [h1]
  | succ fuel ih =>
    intro listed a w hc hI
    have hsz := hs _ _ _ hI
    refine ⟨fun hr => hend _ _ _ hI (fun j hj => hall listed hsz hr (j + 1) j (by omega) hj), fun i hi => ?_⟩
    unfold Region.ready at hi
    rw [List.mem_filter] at hi
    obtain ⟨hi1, hi2⟩ := hi
    have hio : i < ops.size := List.mem_range.1 hi1
    rw [Array.getElem?_eq_getElem hio] at hi2
    simp only [Bool.and_eq_true, Bool.not_eq_true', Option.map_some, Option.getD_some] at hi2
    obtain ⟨h1, h2⟩ := hi2
    rw [Array.all_eq_true_iff_forall_mem] at h2
    have hil : i < listed.size := by omega
    have hcs : (listed.setIfInBounds i true).toList.countP (fun b => !b) ≤ fuel := by
      have := count_set listed.toList i (by
        simp only [Array.getD, hil, dite_true] at h1
        simpa [hil] using h1)
      rw [Array.toList_setIfInBounds]
      omega
    refine wpOpIn_step (Array.getElem?_eq_getElem hio) (fun K' hK => ?_)
    exact hstep listed a w i _ hI (Array.getElem?_eq_getElem hio) h1 (fun e he hb => by
      have := h2 e he
      rw [hb] at this
      simpa using this) K' (fun a' w' hI' => hK _ _ (ih _ _ _ hcs hI'))
/-- A region that draws its order, each of whose steps yields the same whenever it may come, but for what x says (the places of what is made). -/
theorem wpIn_region_detx {X : Type} {id : Nat} {a : Act} {w : World} (x0 : X) (nt : Nat) (E : X → Nat → Value) (ps : List Nat) (st : X → (Nat → Bool) → World → Prop) (ds : List Deferred) (hm : P.follows .mixedOrders = true)
    (ht : a.tmps.size = nt) (hd : a.defers = ds) (hp : ∀ s ∈ ps, a.tmps[s]? = some (E x0 s)) (h0 : st x0 (fun _ => false) w.drew)
    (hlt : ∀ (i : Nat) (o : Oper), ops[i]? = some o → ∀ e ∈ o.after, Region.binds .any e = true → e.on < i) (hdst : ∀ (i : Nat) (o : Oper) (s : Nat), ops[i]? = some o → o.dst = some s → s < nt)
    (hstep : ∀ (x : X) (l : Nat → Bool) (T : Act) (v : World) (i : Nat) (o : Oper), ops[i]? = some o → l i = false → (∀ e ∈ o.after, Region.binds .any e = true → l e.on = true) → st x l v →
      (∀ s ∈ ps, T.tmps[s]? = some (E x s)) → (∀ (j : Nat) (o' : Oper) (s : Nat), ops[j]? = some o' → l j = true → o'.dst = some s → T.tmps[s]? = some (E x s)) →
      ∀ K : Act → World → Prop, (∀ x' u v', (∀ s ∈ ps, E x' s = E x s) → (∀ (j : Nat) (o' : Oper) (s : Nat), ops[j]? = some o' → l j = true → o'.dst = some s → E x' s = E x s) → (∀ s, o.dst = some s → u = E x' s) → st x' (fun j => if j = i then true else l j) v' → K (T.put o.dst u) v') →
        if Region.wanted o (yielded ops T.tmps) = true then o.wpIn Fe nf P T v K Q else ((∀ f, o.about P v T.eval = some f → Fe.fn f) ∧ K (T.put o.dst undef) v))
    (hend : ∀ (x : X) (l : Nat → Bool) (T : Act) (v : World), (∀ j, j < ops.size → l j = true) → st x l v → T.tmps.size = nt → T.defers = ds → (∀ s ∈ ps, T.tmps[s]? = some (E x s)) →
      (∀ (j : Nat) (o' : Oper) (s : Nat), ops[j]? = some o' → o'.dst = some s → T.tmps[s]? = some (E x s)) → Q .normal T v) :
    (Code.region id ops true).wpIn Fe nf P Q a w := by
  refine wpIn_region_any hm ?_
  refine wpAnyIn_inv2 (fun listed T v => ∃ x, Drawn ops nt (E x) ps (st x) ds listed T v) (fun _ _ _ ⟨_, h⟩ => h.size) ?_ ?_ hlt ops.size _ a _ ?_ ?_
  · rintro listed T v i o ⟨x, hI⟩ ho hi hdep K hK
    have hio : i < ops.size := (Array.getElem?_eq_some_iff.1 ho).1
    have hil : i < listed.size := by rw [hI.size]; exact hio
    have hi' : listed.getD i false = false := by
      simp only [Array.getD, hil, dite_true] at hi ⊢
      exact hi
    refine hstep x (fun j => listed.getD j false) T v i o ho hi' hdep hI.wor hI.par hI.got K (fun x' u v' hps hold hu hv' => hK _ _ ⟨x', ?_⟩)
    have hput : ∀ s y, T.tmps[s]? = some y → (o.dst = some s → y = u) → (T.put o.dst u).tmps[s]? = some y := by
      intro s y hx hsx
      unfold Act.put
      cases hds : o.dst with
      | none => exact hx
      | some d =>
        show (T.tmps.setIfInBounds d u)[s]? = some y
        rw [Array.getElem?_setIfInBounds]
        by_cases hd' : d = s
        · subst hd'
          have hlt' : d < T.tmps.size := (Array.getElem?_eq_some_iff.1 hx).1
          simp [hlt', hsx hds]
        · simp [hd', hx]
    refine ⟨by simpa using hI.size, ?_, ?_, fun s hs' => hput s _ (by rw [hps s hs']; exact hI.par s hs') (fun h => (hu s h).symm), ?_, ?_⟩
    · unfold Act.put
      split <;> simp [hI.tsize]
    · unfold Act.put
      split <;> exact hI.defs
    · intro j o' s hj hl hs'
      rw [getD_set _ _ _ hil] at hl
      by_cases hji : j = i
      · subst hji
        rw [ho] at hj
        cases hj
        unfold Act.put
        rw [hs']
        show (T.tmps.setIfInBounds s u)[s]? = _
        have hsl : s < T.tmps.size := by rw [hI.tsize]; exact hdst _ _ _ ho hs'
        simp [hsl, hu s hs']
      · rw [if_neg hji] at hl
        exact hput s _ (by rw [hold j o' s hj hl hs']; exact hI.got j o' s hj hl hs') (fun h => (hu s h).symm)
    · have : (fun j => (listed.setIfInBounds i true).getD j false) = (fun j => if j = i then true else listed.getD j false) := funext fun j => getD_set _ _ _ hil
      rw [this]
      exact hv'
  · rintro listed T v ⟨x, hI⟩ hl
    exact hend x _ T v hl hI.wor hI.tsize hI.defs hI.par (fun j o' s hj hs' => hI.got j o' s hj (hl j (Array.getElem?_eq_some_iff.1 hj).1) hs')
  · have : ∀ n : Nat, (List.replicate n false).countP (fun b => !b) ≤ n := fun n => Nat.le_trans List.countP_le_length (by simp)
    simpa using this ops.size
  · refine ⟨x0, by simp, ht, hd, hp, fun j o s _ hl _ => ?_, ?_⟩
    · simp [Array.getD] at hl
    · have : (fun j => (Array.replicate ops.size false).getD j false) = (fun _ => false) := by
        funext j
        simp [Array.getD]
      rw [this]
      exact h0
/-- The same, to a literal frame. -/
theorem wpIn_regx {X : Type} {id : Nat} {a : Act} {w : World} (x0 : X) (F : X → List Value) (nt : Nat) (ps : List Nat) (st : X → (Nat → Bool) → World → Prop) (ds : List Deferred) (hm : P.follows .mixedOrders = true)
    (hF : ∀ x, (F x).length = nt) (ht : a.tmps.size = nt) (hd : a.defers = ds) (hp : ps.map (fun s => a.tmps[s]?) = ps.map (fun s => some ((F x0).getD s undef))) (hx : ∀ x, ps.map (fun s => (F x).getD s undef) = ps.map (fun s => (F x0).getD s undef)) (h0 : st x0 (fun _ => false) w.drew)
    (hB : drawn2B ops nt = true) (hC : coverB ops nt ps = true)
    (hstep : ∀ (x : X) (l : Nat → Bool) (T : Act) (v : World) (i : Nat) (o : Oper), ops[i]? = some o → l i = false → (∀ e ∈ o.after, Region.binds .any e = true → l e.on = true) → st x l v →
      (∀ s, s ∈ ps → T.tmps[s]? = some ((F x).getD s undef)) → (∀ (j : Nat) (o' : Oper) (s : Nat), ops[j]? = some o' → l j = true → o'.dst = some s → T.tmps[s]? = some ((F x).getD s undef)) → Closed ops l →
      ∀ K : Act → World → Prop, (∀ x' u v', (∀ (j : Nat) (o' : Oper) (s : Nat), ops[j]? = some o' → l j = true → o'.dst = some s → (F x').getD s undef = (F x).getD s undef) → (∀ s, o.dst = some s → u = (F x').getD s undef) → st x' (fun j => if j = i then true else l j) v' → K (T.put o.dst u) v') →
        if Region.wanted o (yielded ops T.tmps) = true then o.wpIn Fe nf P T v K Q else ((∀ f, o.about P v T.eval = some f → Fe.fn f) ∧ K (T.put o.dst undef) v))
    (hend : ∀ (x : X) (l : Nat → Bool) (v : World), (∀ j, j < ops.size → l j = true) → st x l v → Q .normal ⟨(F x).toArray, ds⟩ v) :
    (Code.region id ops true).wpIn Fe nf P Q a w := by
  refine wpIn_region_detx x0 nt (fun x s => (F x).getD s undef) ps (fun x l v => st x l v ∧ Closed ops l) ds hm ht hd (map_mem hp) ⟨h0, fun _ _ _ h => by cases h⟩ (drawn2B_lt hB) (drawn2B_dst hB) ?_ ?_
  · intro x l T v i o ho hl hdep hst hpar hgot K hK
    exact hstep x l T v i o ho hl hdep hst.1 hpar hgot hst.2 K (fun x' u v' h1 h2 h3 => hK x' u v' (fun s hs => by
      have e1 := map_mem (hx x') s hs
      have e2 := map_mem (hx x) s hs
      exact e1.trans e2.symm) h1 h2 ⟨h3, hst.2.add ho hdep⟩)
  · intro x l T v hl hst hts hds hpar hgot
    have hall : ∀ s, s < nt → T.tmps[s]? = some ((F x).getD s undef) := fun s hs => by
      rcases coverB_or hC s hs with h | ⟨j, o, hj, ho⟩
      · exact hpar s h
      · exact hgot j o s hj ho
    have hT : T = ⟨(F x).toArray, ds⟩ := by
      obtain ⟨tm, df⟩ := T
      have h1 : tm = (F x).toArray := by
        apply Array.ext_getElem?
        intro s
        by_cases hs : s < nt
        · rw [show tm[s]? = _ from hall s hs]
          have hl' : s < (F x).length := by rw [hF]; exact hs
          simp [List.getD_eq_getElem?_getD, hl']
        · rw [Array.getElem?_eq_none (by rw [show tm.size = nt from hts]; omega), Array.getElem?_eq_none (by simp [hF]; omega)]
      rw [h1, show df = ds from hds]
    rw [hT]
    exact hend x l v hl hst.1
/-- Where nothing is made whose place hangs on the order. -/
theorem wpIn_reg1 {id : Nat} {a : Act} {w : World} (F : List Value) (nt : Nat) (ps : List Nat) (st : (Nat → Bool) → World → Prop) (ds : List Deferred) (hm : P.follows .mixedOrders = true)
    (hF : F.length = nt) (ht : a.tmps.size = nt) (hd : a.defers = ds) (hp : ps.map (fun s => a.tmps[s]?) = ps.map (fun s => some (F.getD s undef))) (h0 : st (fun _ => false) w.drew)
    (hB : drawn2B ops nt = true) (hC : coverB ops nt ps = true)
    (hstep : ∀ (l : Nat → Bool) (T : Act) (v : World) (i : Nat) (o : Oper), ops[i]? = some o → l i = false → (∀ e ∈ o.after, Region.binds .any e = true → l e.on = true) → st l v →
      (∀ s, s ∈ ps → T.tmps[s]? = some (F.getD s undef)) → (∀ (j : Nat) (o' : Oper) (s : Nat), ops[j]? = some o' → l j = true → o'.dst = some s → T.tmps[s]? = some (F.getD s undef)) → Closed ops l →
      ∀ K : Act → World → Prop, (∀ u v', (∀ s, o.dst = some s → u = F.getD s undef) → st (fun j => if j = i then true else l j) v' → K (T.put o.dst u) v') →
        if Region.wanted o (yielded ops T.tmps) = true then o.wpIn Fe nf P T v K Q else ((∀ f, o.about P v T.eval = some f → Fe.fn f) ∧ K (T.put o.dst undef) v))
    (hend : ∀ (l : Nat → Bool) (v : World), (∀ j, j < ops.size → l j = true) → st l v → Q .normal ⟨F.toArray, ds⟩ v) :
    (Code.region id ops true).wpIn Fe nf P Q a w :=
  wpIn_regx (X := Unit) () (fun _ => F) nt ps (fun _ => st) ds hm (fun _ => hF) ht hd hp (fun _ => rfl) h0 hB hC
    (fun _ l T v i o ho hl hdep hst hpar hgot hcl K hK => hstep l T v i o ho hl hdep hst hpar hgot hcl K (fun u v' h1 h2 => hK () u v' (fun _ _ _ _ _ _ => rfl) h1 h2))
    (fun _ l v hl hst => hend l v hl hst)
theorem wpi_ran {o : Oper} {T : Act} {v v' : World} {u : Value} {K : Act → World → Prop} {E : Prop} (hF : ∀ f, Fe.fn f) (hd : ∀ c, o.op ≠ .defer c) (hg : o.guard = none) (h : (execOp T.eval o).run P v = .ok (.value u) v') (hK : K (T.put o.dst u) v') :
    if Region.wanted o (yielded ops T.tmps) = true then o.wpIn Fe nf P T v K Q else E := by
  have hw : Region.wanted o (yielded ops T.tmps) = true := by simp [Region.wanted, hg]
  rw [if_pos hw]
  refine ⟨fun f _ => hF f, ?_⟩
  rw [Oper.semAt_plain Fe _ _ hd, h]
  exact hK
end
end Rgi
end
section
open Go.RowKit Go.Shelf
attribute [local go_sem] Oper.semAt_some
/-- What a round keeps: the blocks below n, but for a few. -/
structure KeepL (ms : List Nat) (n : Nat) (W W' : World) : Prop where
  size : W.heap.size ≤ W'.heap.size
  same : ∀ k, k < n → k < W.heap.size → k ∉ ms → W'.heap[k]? = W.heap[k]?
theorem KeepL.refl (ms : List Nat) (n : Nat) (W : World) : KeepL ms n W W := ⟨Nat.le_refl _, fun _ _ _ _ => rfl⟩
theorem KeepL.trans {ms : List Nat} {n : Nat} {A B C : World} (h : KeepL ms n A B) (k : KeepL ms n B C) : KeepL ms n A C :=
  ⟨Nat.le_trans h.size k.size, fun i h1 h2 h3 => (k.same i h1 (Nat.lt_of_lt_of_le h2 h.size) h3).trans (h.same i h1 h2 h3)⟩
theorem Mod.keepL {ms ns : List Nat} {W W' : World} (h : Mod ms W W') (n : Nat) (hs : ∀ i ∈ ms, i < n → i ∈ ns) : KeepL ns n W W' := ⟨h.size, fun k h1 h2 h3 => h.block k h2 (fun h4 => h3 (hs k h4 h1))⟩
theorem KeepL.cells {ms : List Nat} {n : Nat} {w v : World} {A : Option Addr} {cs : List Value} (h : Cells w A cs) (m : KeepL ms n w v) (hn : ∀ a, A = some a → a.block < n ∧ a.block ∉ ms) : Cells v A cs := by
  intro i hi
  obtain ⟨g, o, rfl, hc⟩ := h i hi
  obtain ⟨h1, h2⟩ := hn _ rfl
  have hlt : g < w.heap.size := by
    rcases Nat.lt_or_ge g w.heap.size with hlt | hge
    · exact hlt
    · simp [World.cell?, Array.getElem?_eq_none hge] at hc
  exact ⟨g, o, rfl, by rw [World.cell?_of_block (a := ⟨g, o + i, none⟩) (m.same g h1 hlt h2)]; exact hc⟩
theorem KeepL.reads {ms : List Nat} {n : Nat} {w v : World} {A : Option Addr} {l : List UInt8} (h : Reads w A l) (m : KeepL ms n w v) (hn : ∀ a, A = some a → a.block < n ∧ a.block ∉ ms) : Reads v A l := by
  intro i hi
  obtain ⟨g, o, rfl, hc⟩ := h i hi
  obtain ⟨h1, h2⟩ := hn _ rfl
  have hlt : g < w.heap.size := by
    rcases Nat.lt_or_ge g w.heap.size with hlt | hge
    · exact hlt
    · simp [World.cell?, Array.getElem?_eq_none hge] at hc
  exact ⟨g, o, rfl, by rw [World.cell?_of_block (a := ⟨g, o + i, none⟩) (m.same g h1 hlt h2)]; exact hc⟩
theorem KeepL.holds {ms : List Nat} {n : Nat} {w v : World} {g : Nat} {t : TypeId} {cs : List Value} (h : Holds w g t cs) (m : KeepL ms n w v) (h1 : g < n) (h2 : g ∉ ms) : Holds v g t cs := (m.same g h1 h.lt h2).trans h
/-- append of elements, one operation run. -/
theorem exec_appendG {α : Type} {f : α → List Value} {size : Nat} {P : Program} (w : World) {o : Oper} {ρ : Operand → Value} (s x : Operand) (t : TypeId)
    (ho : o.op = .call { callee := .builtin .append, args := #[s, x], argTypes := #[t, t] })
    (e : TypeId) (i : TypeInfo) (z : Value) (bytes : Nat) (ht : P.underlying t = some (.slice e)) (hi : P.info? e = some i) (hz : i.zero = some z) (hsize : i.size = size) (hby : i.bytes = bytes) (hzs : z.cells.size = size) (hs0 : 0 < size)
    (hf : ∀ x, (f x).length = size) (h1 : ∀ x, ∀ v ∈ f x, v.oneCell' = true)
    (A : Option Addr) (c : Nat) (l : List α) (hs : ρ s = .slice A l.length c) (hown : OwnG f e size w A c l)
    (ad : Addr) (d : Nat) (k : List α) (hx : ρ x = .slice (some ad) k.length d) (hr : Cells w (some ad) (k.flatMap f))
    (h63 : (l.length + k.length) * bytes ≤ 140737488355328) (h64 : l.length + k.length ≤ maxLen) :
    ∃ A' c' w', (execOp ρ o).run P w = .ok (.value (.slice A' (l ++ k).length c')) w' ∧ OwnG f e size w' A' c' (l ++ k) ∧ Mod (blk A) w w' ∧ (∀ a, A' = some a → a.block ∈ blk A ∨ w.heap.size ≤ a.block) := by
  have hkl := flat_length f size hf k
  have hcells : ∀ j u, (k.flatMap f)[j]? = some u → w.cell? (ad.add j) = some u := by
    intro j u hu
    rcases Nat.eq_zero_or_pos (k.flatMap f).length with h0 | h0
    · rw [List.eq_nil_of_length_eq_zero h0] at hu
      simp at hu
    · obtain ⟨ad', e', hh⟩ := hr.first h0
      injection e' with e'
      subst e'
      exact hh j u hu
  have hone : ∀ u ∈ k.flatMap f, u.oneCell' = true := fun u hu => by
    obtain ⟨x, _, hx⟩ := List.mem_flatMap.1 hu
    exact h1 x u hx
  obtain ⟨v', w', hrun, hown', hgr, _, hbl⟩ := run_append_own_at (P := P) w 0 t o.type e i z size bytes ht hi hz hsize hby hzs hs0 _ _ _ hown ad k.length d (k.flatMap f) hkl hcells hone h64 h63 (Nat.zero_le _)
  have hv : ∃ A' c', v' = .slice A' (l ++ k).length c' := by
    rcases hown'.2 with ⟨hv, hn⟩ | ⟨g, cap, cur, hv, _⟩
    · exact ⟨none, 0, by rw [hv, List.length_append, hn]⟩
    · exact ⟨_, _, by rw [hv, List.length_append]⟩
  obtain ⟨A', c', rfl⟩ := hv
  have hO : OwnG f e size w' A' c' (l ++ k) := by
    have := hown'
    rw [← List.length_append, ← List.flatMap_append] at this
    exact this
  have hob : ∀ (A : Option Addr) n c, (Value.slice A n c).ownBlock = A.map (·.block) := by intro A n c; cases A <;> rfl
  rw [hob] at hgr
  rw [hob, hob] at hbl
  refine ⟨A', c', w', ?_, hO, ⟨hgr.os, hgr.tape, hgr.output, hgr.size, fun j hj hn => hgr.block j hj ?_⟩, ?_⟩
  · unfold execOp
    simp only [ho, resolve, invoke, builtin, Sem.run_bind, Sem.run_pure, Result.andThen_ok, List.map_toArray, List.map_cons, List.map_nil, hs, hx, hrun]
  · intro hh
    exact hn (by unfold blk; rw [← hh]; simp)
  · intro b hb
    subst hb
    rcases hbl with hh | hh
    · left; unfold blk; rw [← hh]; simp
    · right
      simp at hh
      omega
theorem KeepL.glob {ms : List Nat} {n : Nat} {w v : World} (h : Glob w) (m : KeepL ms n w v) (h0 : 2 ≤ n) (h1 : ∀ i ∈ ms, 2 ≤ i) : Glob v :=
  ⟨m.cells h.G (fun a ha => by cases ha; exact ⟨by show 1 < n; omega, fun h => absurd (h1 _ h) (by decide)⟩), m.cells h.G1 (fun a ha => by cases ha; exact ⟨by show 0 < n; omega, fun h => absurd (h1 _ h) (by decide)⟩), Nat.le_trans h.two m.size⟩
theorem Rgi.wpi_called {Fe : Fence} {nf : Nat} {P : Program} {ops : Array Oper} {Q : Exit → Act → World → Prop} {o : Oper} {T : Act} {v : World} {f : FuncId} {args : Array Value} {K : Act → World → Prop} {E : Prop} (hF : ∀ f, Fe.fn f) (hd : ∀ c, o.op ≠ .defer c) (hg : o.guard = none) (hn : Fe.depth.isSome = true → 1 ≤ nf) (h : (execOp T.eval o).run P v = .ok (.enter f args) v)
    (hc : CallsIn Fe (nf - 1) P f args v fun e v' => ∃ u, e = .returned u ∧ K (T.put o.dst u) v') :
    if Region.wanted o (yielded ops T.tmps) = true then o.wpIn Fe nf P T v K Q else E := by
  have hw : Region.wanted o (yielded ops T.tmps) = true := by simp [Region.wanted, hg]
  rw [if_pos hw]
  refine ⟨fun f _ => hF f, ?_⟩
  rw [Oper.semAt_plain Fe _ _ hd, h, Oper.uponIn_enter]
  refine ⟨hn, hc.mono ?_⟩
  rintro e v' ⟨u, rfl, hK⟩
  exact hK
theorem starts_c (x : Idv) (w : World) : Calls Tryd.prog 46 #[iv x] w fun r w' => r = .returned (.func (.func 60) #[] #[.pointer (some ⟨w.heap.size, 0, none⟩)]) ∧ Holds w' w.heap.size 23 (ic x) ∧ Mod [] w w' ∧ w'.heap.size = w.heap.size + 1 := by
  go_enter Tryd.func46, Tryd.ntmps46
  go_wp2_with (with_reducible refine wpList_boxes (o := ⟨some 1, .box 23 (.tmp 0), _, _, _, _⟩) rfl 23 (.tmp 0) rfl _ rfl (ic x) rfl ?_; intro w1 hb1 m1 z1)
  go_ret
  exact ⟨rfl, hb1, m1, z1⟩
/-- Memory as the iterator reads it. -/
structure Bs (ms : List Nat) (n0 b1 : Nat) (x : Idv) (W : World) : Prop where
  gl : Glob W
  h1 : Holds W b1 23 (ic x)
  ne : b1 < n0 ∧ b1 ∉ ms ∧ 2 ≤ n0 ∧ ∀ i ∈ ms, 2 ≤ i
theorem Bs.keep {ms : List Nat} {n0 b1 : Nat} {x : Idv} {W V : World} (h : Bs ms n0 b1 x W) (m : KeepL ms n0 W V) : Bs ms n0 b1 x V :=
  ⟨m.glob h.gl h.ne.2.2.1 h.ne.2.2.2, m.holds h.h1 h.ne.1 h.ne.2.1, h.ne⟩
abbrev encS (y : Nat × Idv) : Array Value := #[.int .i64 (y.1 : Int), iv y.2]
def FxS (x : Idv) (pre : List (Nat × Idv)) (y : Nat × Idv) (_ : World) : Prop := y = (pre.length, startI pre.length x)
set_option maxRecDepth 100000 in
set_option maxHeartbeats 4000000 in
theorem starts_in (n : Nat) (hn : 1 ≤ n) (y b1 n0 : Nat) (ms : List Nat) (x : Idv) (J Jx : List (Nat × Idv) → World → Prop) (W : World)
    (hJ : ∀ pre v v', J pre v → Mod [] v v' → J pre v')
    (hY : ∀ pre z V, FxS x pre z V → J pre V → pre.length < 67 → YieldAt Fence.wide (n - 1) Tryd.prog y (encS z) V fun r W' => (r = .returned (.bool true) ∧ J (pre ++ [z]) W' ∧ KeepL ms n0 V W') ∨ (r = .returned (.bool false) ∧ Jx (pre ++ [z]) W'))
    (H : Bs ms n0 b1 x W) (h0 : J [] W) :
    CallsIn Fence.wide n Tryd.prog 60 #[.func (.yield y) #[] #[], .pointer (some ⟨b1, 0, none⟩)] W fun r W' => (∃ v, r = .returned v) ∧ ((∃ zs, zs.length = 67 ∧ J zs W') ∨ ∃ pre, True ∧ Jx pre W') := by
  have HW := Lib.hid H
  clear H
  refine callsIn_of_wp Tryd.func60 rfl trivial ?_ rfl
  simp only [Tryd.ntmps60, List.size_toArray, List.length_cons, List.length_nil, Nat.reduceAdd, Nat.reduceSub, Array.replicate_succ, Array.replicate_zero, List.push_toArray, List.append_toArray, List.nil_append, List.cons_append]
  gi_wp2_with fail
  gi_loopw [4] (fun i wr => ∃ pre : List (Nat × Idv), pre.length ≤ 67 ∧ i = .int .i64 (pre.length : Int) ∧ J pre wr ∧ Bs ms n0 b1 x wr) (fun i _ => ((67 : Int) - intOf i).toNat)
  case atStart => exact ⟨[], by simp, rfl, h0, HW.out⟩
  case round =>
    obtain ⟨pre, hle, rfl, hJs, hB⟩ := hrel
    obtain ⟨j, hj⟩ : ∃ j, j = pre.length := ⟨_, rfl⟩
    rw [← hj] at hle ⊢
    by_cases hlt : j < 67
    · have hjZ : (j : Int) < 67 := by omega
      obtain ⟨z, hz⟩ : ∃ z, z = startI j x := ⟨_, rfl⟩
      have X := started_c x j (by omega) wr hB.gl
      rw [← hz] at X
      have hF : ∀ V, FxS x pre (j, z) V := fun V => by unfold FxS; rw [hz, hj]
      have HQ := Lib.hid (And.intro hj (And.intro hlt (And.intro hB hJs)))
      clear hj hB hJs hz hle hlt
      gi_wp2_with (first
        | (with_reducible refine wpListIn_loads (o := ⟨some 9, .load 23 (.tmp 1), _, _, _, _⟩) rfl 23 (.tmp 1) rfl b1 0 _ rfl (Cells.of_holds HQ.out.2.2.1.h1) _ Tryd.underlying23 rfl (size25i x) (iv x) rfl ?_)
        | (refine ⟨trivial, (callsIn_wide.2 X).mono ?_⟩
           rintro r w1 ⟨rfl, m1⟩
           have hyy := hY pre (j, z) w1 (hF w1) (hJ _ _ _ HQ.out.2.2.2 m1) (by have := HQ.out.1; have := HQ.out.2.1; omega)
           obtain ⟨fn, tmps, assign, body, hy, hR⟩ := hyy
           have HM := Lib.hid m1
           clear X m1))
      refine hR.mono ?_
      rintro r W3 (⟨rfl, hJ3, hk3⟩ | ⟨rfl, hJx3⟩)
      · gi_wp2
        have hsz := HM.out.size
        refine ⟨⟨pre ++ [(j, z)], by have := HQ.out.1; have := HQ.out.2.1; simp; omega, by have := HQ.out.1; simp; omega, hJ3, (HQ.out.2.2.1.keep (HM.out.keepL n0 (fun _ h => by cases h))).keep hk3⟩, by simp [intOf]; omega⟩
      · gi_wp2
        refine bodyPost_ret (results_none rfl _ _ _) rfl ?_
        exact ⟨⟨_, rfl⟩, .inr ⟨_, trivial, hJx3⟩⟩
    · obtain rfl : j = 67 := by omega
      have HQ := Lib.hid (And.intro hj hJs)
      clear hj hJs hle hB
      gi_wp2
      go_end0
      exact ⟨⟨_, rfl⟩, .inl ⟨pre, HQ.out.1.symm, HQ.out.2⟩⟩
theorem starts_with (n : Nat) (hn : 1 ≤ n) (b1 n0 : Nat) (ms : List Nat) (x : Idv) (w : World) (H : Bs ms n0 b1 x w) (_hn0 : n0 ≤ w.heap.size) :
    SeqWith Fence.wide n Tryd.prog 60 #[.pointer (some ⟨b1, 0, none⟩)] encS (FxS x) (KeepL ms n0) (fun zs => zs.length = 67) (fun _ => True) 67 w := fun y J Jx W hW hJ _ hY h0 => by
  have hk : KeepL ms n0 w W := ⟨hW.size, fun k h1 _ _ => hW.block k (by omega)⟩
  exact starts_in n hn y b1 n0 ms x J Jx W (fun pre v v' h k => hJ pre v v' none h ⟨k.os, k.tape, k.output, k.size, fun i hi _ => k.block i hi (by simp)⟩ (fun r h => by cases h)) hY (H.keep hk) h0
end
section
open Go.RowKit Go.Shelf
theorem exec_call4 {P : Program} {v : World} {o : Oper} {ρ : Operand → Value} {f : FuncId} {x y z u : Operand} {X Y Z U : Value} {ts : Array TypeId} (ho : o.op = .call { callee := .value (.func f), args := #[x, y, z, u], argTypes := ts }) (hf : ρ (.func f) = .func (.func f) #[] #[]) (hx : ρ x = X) (hy : ρ y = Y) (hz : ρ z = Z) (hu : ρ u = U) (he : ∀ args w, (callFunc f args).run P w = .ok (.enter f args) w) : (execOp ρ o).run P v = .ok (.enter f #[X, Y, Z, U]) v := by
  unfold execOp
  simp [ho, resolve, invoke, go_sem, hf, hx, hy, hz, hu, he]
theorem OwnG.own {α : Type} {f : α → List Value} {e : TypeId} {size : Nat} {W W' : World} {A : Option Addr} {c : Nat} {l : List α} {row : Option Nat} (h : OwnG f e size W A c l) (hg : W.grownBy W' row) (hr : ∀ r, row = some r → ∃ o : Obj, W.heap[r]? = some o ∧ o.isCells = false) : OwnG f e size W' A c l := by
  refine ⟨h.1, ?_⟩
  rcases h.2 with h0 | ⟨g, cap, cur, hv, hb, hg', rest⟩
  · exact .inl h0
  · refine .inr ⟨g, cap, cur, hv, hb, ?_, rest⟩
    exact (hg.block g (Array.getElem?_eq_some_iff.1 hg').1 (fun e => by obtain ⟨o, ho, hc⟩ := hr g e.symm; rw [hg'] at ho; cases ho; cases hc)).trans hg'
theorem id_parts : (Tryd.prog.info? 23).map (fun i => (i.zero, i.size, i.bytes)) = some (some (iv zeroI), 32, 32) := by kernel_rfl
/-- What has been made: the block of the literal, and the row behind append. -/
structure Xk where
  b : Nat
  C : Option Addr
  c : Nat
def SbK (ms : List Nat) (W : World) (r : List Idv) (e : Idv) (A : Option Addr) (c : Nat) (L4 L5 : Bool) (x : Xk) (v : World) : Prop :=
  Mod ms W v ∧ (∀ i ∈ blk A, i ∈ ms) ∧ (L5 = false → OwnG ic 23 32 v A c r) ∧ (L4 = true → L5 = false → Holds v x.b 23 (ic e)) ∧
    (L5 = true → OwnG ic 23 32 v x.C x.c (r ++ [e]) ∧ ∀ i ∈ blk x.C, i ∈ blk A ∨ W.heap.size ≤ i)
section
variable {ms : List Nat} {W : World} {r : List Idv} {e : Idv} {A : Option Addr} {c : Nat} {L4 L5 : Bool} {x : Xk} {v v' : World}
theorem SbK.mod0 (h : SbK ms W r e A c L4 L5 x v) (m : Mod [] v v') : SbK ms W r e A c L4 L5 x v' :=
  ⟨h.1.then m, h.2.1, fun q => (h.2.2.1 q).keep m (by simp), fun q q' => (h.2.2.2.1 q q').keep m (by simp), fun q => ⟨(h.2.2.2.2 q).1.keep m (by simp), (h.2.2.2.2 q).2⟩⟩
theorem SbK.lit (h : SbK ms W r e A c L4 false x v) : SbK ms W r e A c true false { x with b := v.heap.size } (v.alloc (.cells (ic e).toArray 23)) := by
  have m : Mod [] v (v.alloc (.cells (ic e).toArray 23)) := Mod.alloc [] v _
  exact ⟨h.1.then m, h.2.1, fun q => (h.2.2.1 q).keep m (by simp), fun _ _ => Holds.made v 23 _, (fun q => by cases q)⟩
theorem SbK.app (h : SbK ms W r e A c true false x v) {o : Oper} {ρ : Operand → Value} (s y : Operand) (ho : o.op = .call { callee := .builtin .append, args := #[s, y], argTypes := #[33, 33] }) (hs : ρ s = .slice A r.length c) (hy : ρ y = .slice (some ⟨x.b, 0, none⟩) 1 1) (hr : r.length ≤ 100) :
    ∃ C1 c1 w', (execOp ρ o).run Tryd.prog v = .ok (.value (.slice C1 (r.length + 1) c1)) w' ∧ SbK ms W r e A c true true { x with C := C1, c := c1 } w' ∧ Mod (blk A) v w' := by
  obtain ⟨i0, j1, j2, j3, j4⟩ := info_parts id_parts
  obtain ⟨h0, hA, h1, h2, _⟩ := h
  have O := h1 rfl
  have hb := h2 rfl rfl
  have h63 : (r.length + [e].length) * 32 ≤ 140737488355328 := by simp only [List.length_cons, List.length_nil]; omega
  have h64 : r.length + [e].length ≤ maxLen := by
    have h9 : (200 : Nat) ≤ maxLen := by decide
    simp only [List.length_cons, List.length_nil]; omega
  obtain ⟨C1, c1, w', hrun, g1, g2, g3⟩ := exec_appendG (P := Tryd.prog) (f := ic) (size := 32) v (o := o) (ρ := ρ) s y 33 ho 23 i0 (iv zeroI) 32 Tryd.underlying33 j1 j2 j3 j4 (by rfl) (by decide) ic_length ic_one A c r hs O ⟨x.b, 0, none⟩ 1 [e] hy (by simpa using Cells.of_holds hb) h63 h64
  rw [show (r ++ [e]).length = r.length + 1 by simp] at hrun
  refine ⟨C1, c1, w', hrun, ⟨h0.trans g2 (fun i hi hh => hA i hh), hA, (fun q => by cases q), (fun _ q => by cases q), fun _ => ⟨g1, fun i hi => ?_⟩⟩, g2⟩
  · obtain ⟨a, ha, rfl⟩ := mem_blk hi
    rcases g3 a ha with q | q
    · exact .inl q
    · exact .inr (Nat.le_trans h0.size q)
end
end
section
open Go.RowKit Go.Shelf
attribute [local go_sem] Oper.semAt_some
theorem wpList_alloc1 {P : Program} {w : World} {ops : Array Oper} {rest : List Oper} {o : Oper} {a : Act} {Q : Exit → Act → World → Prop} (hgd : o.guard = none) (ty : TypeId) (ho : o.op = .alloc ty) (V : Value) (h1 : V.oneCell' = true) (hz : ∀ w, (zeroValue ty).run P w = .ok V w)
    (h : ∀ v, Holds v w.heap.size ty [V] → Mod [] w v → v.heap.size = w.heap.size + 1 → wpList P ops Q rest (a.put o.dst (.pointer (some ⟨w.heap.size, 0, none⟩))) v) : wpList P ops Q (o :: rest) a w := by
  refine wpList_plain hgd fun K hK => ?_
  have hrun : (Instr.alloc ty true (.tuple #[])).run P w = .ok (.pointer (some ⟨w.heap.size, 0, none⟩)) (w.alloc (.cells #[V] ty)) := by
    simp [Instr.alloc, hz, newVar, newRow, go_sem]
    split
    · simp [Value.oneCell'] at h1
    · rfl
  unfold Oper.wp execOp
  simp only [ho, Sem.run_bind, hrun, Result.andThen]
  exact hK _ _ (h _ (Holds.made w ty [V]) (Mod.alloc [] w _) (by simp))
theorem wpList_store1 {P : Program} {w : World} {ops : Array Oper} {rest : List Oper} {o : Oper} {a : Act} {Q : Exit → Act → World → Prop} (hgd : o.guard = none) (ty : TypeId) (x y : Operand) (ho : o.op = .store ty x y) (hdst : o.dst = none) (g : Nat) (u : Value) (hx : a.eval x = .pointer (some ⟨g, 0, none⟩)) (hy : a.eval y = u) (h1 : u.oneCell' = true)
    (hi : (P.info? ty).map (·.size) = some 1) (t : TypeId) (old : Value) (hh : Holds w g t [old])
    (h : ∀ v, Holds v g t [u] → Mod [g] w v → v.heap.size = w.heap.size → wpList P ops Q rest a v) : wpList P ops Q (o :: rest) a w := by
  cases hq : P.info? ty with
  | none => rw [hq] at hi; cases hi
  | some it =>
    have hs : it.size = 1 := by rw [hq] at hi; simpa using hi
    have hc : w.cell? ⟨g, 0, none⟩ = some old := hh.cell 0
    have hrun := exec_store1 (v := w) (ρ := a.eval) ho hx hy h1 hq hs hc (hh.free 0)
    refine wpList_plain hgd fun K hK => ?_
    unfold Oper.wp
    rw [hrun]
    refine hK _ _ ?_
    show wpList P ops Q rest (a.put o.dst undef) _
    rw [hdst]
    exact h _ (by simpa using hh.set 0 u) (Mod.setCell w (by simp) _) (by simp [World.setCell])
theorem wpList_load1 {P : Program} {w : World} {ops : Array Oper} {rest : List Oper} {o : Oper} {a : Act} {Q : Exit → Act → World → Prop} (hgd : o.guard = none) (ty : TypeId) (x : Operand) (ho : o.op = .load ty x) (A : Addr) (u : Value) (hx : a.eval x = .pointer (some A)) (d : TypeDesc) (hu : P.underlying ty = some d) (hd : (match d with | .struct _ | .array _ _ => true | _ => false) = false) (hc : w.cell? A = some u)
    (h : wpList P ops Q rest (a.put o.dst u) w) : wpList P ops Q (o :: rest) a w := by
  refine wpList_plain hgd fun K hK => ?_
  unfold Oper.wp
  rw [exec_load ho hx (run_load1 hu hd hc)]
  exact hK _ _ h
theorem Rgi.wpi_skip {Fe : Fence} {nf : Nat} {P : Program} {ops : Array Oper} {Q : Exit → Act → World → Prop} {o : Oper} {T : Act} {v v' : World} {K : Act → World → Prop} {E : Prop} (hF : ∀ f, Fe.fn f) (hd : ∀ c, o.op ≠ .defer c) (hg : o.guard = none) (h : (execOp T.eval o).run P v = .ok .skip v') (hK : K (T.put o.dst undef) v') :
    if Region.wanted o (yielded ops T.tmps) = true then o.wpIn Fe nf P T v K Q else E := by
  have hw : Region.wanted o (yielded ops T.tmps) = true := by simp [Region.wanted, hg]
  rw [if_pos hw]
  refine ⟨fun f _ => hF f, ?_⟩
  rw [Oper.semAt_plain Fe _ _ hd, h]
  exact hK
theorem size22 : (Tryd.prog.info? 33).map (·.size) = some 1 := by kernel_rfl
theorem zip_two (p q : Tmp) (v u : Value) (T : Array Value) : ((#[p, q] : Array Tmp).zip #[v, u]).foldl (fun t (p, v) => t.setIfInBounds p v) T = (T.setIfInBounds p v).setIfInBounds q u := by simp
theorem Holds.slice_inj {w : World} {p : Nat} {t : TypeId} {A B : Option Addr} {n m c d : Nat} (h : Holds w p t [.slice A n c]) (k : Holds w p t [.slice B m d]) : A = B := by
  unfold Holds at h k
  rw [h] at k
  simp at k
  exact k.1
theorem OwnG.isCells {α : Type} {f : α → List Value} {e : TypeId} {size : Nat} {w : World} {A : Option Addr} {c : Nat} {l : List α} (h : OwnG f e size w A c l) {i : Nat} (hi : i ∈ blk A) {o : Obj} (ho : w.heap[i]? = some o) : o.isCells = true := by
  obtain ⟨a, ha, rfl⟩ := mem_blk hi
  subst ha
  rcases h.2 with ⟨hv, _⟩ | ⟨g, cap, cur, hv, hb, hg, _⟩
  · injection hv with h1; cases h1
  · injection hv with h1
    cases h1
    rw [hg] at ho
    cases ho
    rfl
theorem slice_one (A : Option Addr) (n c : Nat) : (Value.slice A n c).oneCell' = true := rfl
theorem d67 : 32 * 67 ≤ 281474976710656 := by decide
theorem m67 : 67 ≤ maxLen := by decide
theorem zero22 : ∀ w, (zeroValue 33).run Tryd.prog w = .ok (.slice none 0 0) w := by
  intro w; go_simp
/-- The chains with their starts, up to one. -/
def stsI (x : Idv) (n : Nat) : List (Nat × Idv) := (List.range n).map fun i => (i, startI i x)
theorem stsI_snoc (x : Idv) (n : Nat) : stsI x (n + 1) = stsI x n ++ [(n, startI n x)] := by simp [stsI, List.range_succ]
theorem stsI_length (x : Idv) (n : Nat) : (stsI x n).length = n := by simp [stsI]
/-- The end of a chain. -/
def endI (y : Nat × Idv) : Idv := walkI y.1 0 15 y.2
def keyI (x : Idv) : Idv := endsI ((stsI x 67).map endI)
theorem not_blk {A : Option Addr} {i n : Nat} (h : ∀ j ∈ blk A, n ≤ j) (hi : i < n) : i ∉ blk A := fun hh => by have := h _ hh; omega
set_option maxRecDepth 100000 in
set_option maxHeartbeats 4000000 in
theorem key_c (x : Idv) (w : World) (Gl : Glob w) :
    Calls Tryd.prog 35 #[iv x] w fun r w' => r = .returned (iv (keyI x)) ∧ Mod [] w w' := by
  obtain ⟨d, hd⟩ : ∃ d, d = keyI x := ⟨_, rfl⟩
  rw [← hd]
  obtain ⟨i0, j1, j2, j3, j4⟩ := info_parts id_parts
  have HI := Lib.hid (And.intro j1 (And.intro j2 (And.intro j3 j4)))
  have HH := Lib.hid (And.intro hd Gl)
  clear hd Gl j1 j2 j3 j4
  refine (callsIn_wide (n := 5)).1 ?_
  refine callsIn_of_wp_marks Tryd.func35 rfl trivial ?_ rfl
  simp only [Tryd.ntmps35, List.size_toArray, List.length_cons, List.length_nil, Nat.reduceAdd, Nat.reduceSub, Array.replicate_succ, Array.replicate_zero, List.push_toArray, List.append_toArray, List.nil_append, List.cons_append]
  refine wpIn_wide.2 ?_
  go_wp2_with (first
    | (with_reducible refine wpList_boxes (o := ⟨some 1, .box 23 (.tmp 0), _, _, _, _⟩) rfl 23 (.tmp 0) rfl _ rfl (ic x) rfl ?_; intro w1 hb1 m1 z1; replace z1 := Lib.hid z1)
    | (with_reducible refine wpList_allocs (o := ⟨some 2, .alloc 23, _, _, _, _⟩) rfl 23 rfl _ zeroI_25 ?_; intro w2 hb2 m2 z2; replace z2 := Lib.hid z2)
    | (with_reducible refine wpList_make0G ic (o := ⟨some 6, .makeSlice 33 _ _, _, _, _, _⟩) rfl 33 _ _ rfl 23 i0 (iv zeroI) 32 32 67 Tryd.underlying33 HI.out.1 HI.out.2.1 HI.out.2.2.1 HI.out.2.2.2 rfl rfl d67 m67 ?_
       intro w3 hO m3 z3; replace z3 := Lib.hid z3)
    | (with_reducible refine wpList_alloc1 (o := ⟨some 3, .alloc 33, _, _, _, _⟩) rfl 33 rfl (.slice none 0 0) (slice_one _ _ _) zero22 ?_
       intro w4 hb4 m4 z4
       have y1 := z1.out
       have y2 := z2.out
       have y3 := z3.out
       obtain ⟨b1, hq1⟩ : ∃ q, q = w.heap.size := ⟨_, rfl⟩
       obtain ⟨b2, hq2⟩ : ∃ q, q = w1.heap.size := ⟨_, rfl⟩
       obtain ⟨b3, hq3⟩ : ∃ q, q = w2.heap.size := ⟨_, rfl⟩
       obtain ⟨p, hq⟩ : ∃ q, q = w3.heap.size := ⟨_, rfl⟩
       have k1 : Holds w4 b1 23 (ic x) := by rw [hq1]; exact ((hb1.keep m2 (by simp)).keep m3 (by simp)).keep m4 (by simp)
       have k2 : Holds w4 b2 23 (ic zeroI) := by rw [hq2]; exact (hb2.keep m3 (by simp)).keep m4 (by simp)
       have k3 : OwnG ic 23 32 w4 (some ⟨b3, 0, none⟩) 67 [] := by rw [hq3]; exact hO.keep m4 (by simp)
       have mm4 : Mod [] w w4 := ((m1.then m2).then m3).then m4
       have o1 : b1 < b2 := by omega
       have o2 : b2 < b3 := by omega
       have o3 : b3 < p := by omega
       have o4 : w4.heap.size = p + 1 := by omega
       have o5 : w.heap.size ≤ b1 := by omega
       have k4 := hb4
       rw [← hq] at k4 ⊢
       rw [← hq1, ← hq2, ← hq3]
       clear hb1 m1 z1 hb2 m2 z2 hO m3 z3 hb4 m4 z4 hq hq1 hq2 hq3 y1 y2 y3
       replace o4 := Lib.hid o4)
    | (with_reducible refine wpList_store1 (o := ⟨none, .store 33 (.tmp 3) (.tmp 6), _, _, _, _⟩) rfl 33 (.tmp 3) (.tmp 6) rfl rfl p (.slice (some ⟨b3, 0, none⟩) 0 67) rfl rfl (slice_one _ _ _) size22 33 (.slice none 0 0) k4 ?_
       intro w4' k4' m4' z4'
       replace o4 := Lib.hid (show w4'.heap.size = p + 1 by have := o4.out; omega)
       have HK := Lib.hid (And.intro (k1.keep m4' (by simp; omega)) (And.intro (k2.keep m4' (by simp; omega)) (And.intro (k3.keep m4' (by rintro _ ⟨⟩; simp; omega)) (And.intro (far_mod mm4 m4' (by simp; omega)) k4'))))
       clear k1 k2 k3 mm4 k4 k4' m4' z4')
    | (with_reducible refine wpList_loads (o := ⟨some 7, .load 23 (.tmp 1), _, _, _, _⟩) rfl 23 (.tmp 1) rfl b1 0 _ rfl (Cells.of_holds HK.out.1) _ Tryd.underlying23 rfl (size25i x) (iv x) rfl ?_)
    | (go_at_call 46; refine (starts_c x _).mono ?_
       rintro e w5 ⟨rfl, hs5, m5, z5⟩
       obtain ⟨bs, hbs⟩ : ∃ q, q = w4'.heap.size := ⟨_, rfl⟩
       rw [← hbs] at hs5 ⊢
       replace z5 := Lib.hid z5
       replace hbs := Lib.hid hbs))
  obtain ⟨k1, k2, k3, mm4, k4⟩ := HK.out
  have mm5 : Mod [] w w5 := mm4.then m5
  replace k2 := k2.keep m5 (by simp)
  replace k3 := k3.keep m5 (by simp)
  replace k4 := k4.keep m5 (by simp)
  have o6 : bs = p + 1 := by rw [hbs.out, o4.out]
  have o7 : w5.heap.size = bs + 1 := by rw [z5.out, hbs.out]
  have hB : Bs [b3, p] w5.heap.size bs x w5 := ⟨HH.out.2.then mm5, hs5, by have := HH.out.2.two; simp; omega⟩
  clear m5 z5 hbs k1 o4
  refine (wpIn_wide (n := 5)).1 ?_
  refine wpIn_rangeFunc_with (F := Fence.wide) (n := 5) rfl (by omega) (gf := 60) (lb := #[.pointer (some ⟨bs, 0, none⟩)]) rfl trivial (enters_of Tryd.func60 (by kernel_rfl) rfl)
    (starts_with 4 (by omega) bs w5.heap.size [b3, p] x w5 hB (Nat.le_refl _))
    (fun h k => h.trans k) (fun W l o o' hl ho h1 _ => ?hKb) (Below.refl _ _) (fun _ => rfl)
    (fun pre W => pre = stsI x pre.length ∧ Holds W b2 23 (ic zeroI) ∧ Mod [] w W ∧ w5.heap.size ≤ W.heap.size ∧ ∃ A c, Holds W p 33 [.slice A pre.length c] ∧ OwnG ic 23 32 W A c (pre.map endI) ∧ (∀ i ∈ blk A, i = b3 ∨ w5.heap.size ≤ i))
    (fun _ _ _ => False)
    (fun s A B row hs hg hr => ?hI) (fun _ _ _ _ _ hs _ _ => hs.elim) ⟨rfl, k2, mm5, Nat.le_refl _, some ⟨b3, 0, none⟩, 67, k4, k3, fun i hi => .inl (by simpa [blk] using hi)⟩
    (fun pre z a' W => z = (pre.length, startI pre.length x) ∧ ∃ Bx, w5.heap.size ≤ Bx ∧ Holds W Bx 23 (ic z.2) ∧ (∃ A n c, Holds W p 33 [.slice A n c] ∧ Bx ∉ blk A) ∧ a' = { tmps := #[iv x, .pointer (some ⟨b1, 0, none⟩), .pointer (some ⟨b2, 0, none⟩), .pointer (some ⟨p, 0, none⟩), .int .i64 (z.1 : Int), .pointer (some ⟨Bx, 0, none⟩), .slice (some ⟨b3, 0, none⟩) 0 67, iv x, .func (.func 60) #[] #[.pointer (some ⟨bs, 0, none⟩)], .int .i64 (z.1 : Int), iv z.2, undef, undef, undef, undef, undef, undef, undef, undef], defers := [] })
    (fun pre z a' s A B row hs hg hr => ?hAx) ?assign ?body ?done ?stop
  case hKb =>
    exact ⟨by simp [World.putObj], fun k hk _ _ => World.putObj_heap_other (by omega)⟩
  case hI =>
    obtain ⟨h0, h1, h2, h3, A', c, h4, h5, h6⟩ := hs
    exact ⟨h0, holds_own h1 hg (fun r e => (hr r e).2), mod_own h2 hg (fun r e => Nat.le_trans mm5.size (hr r e).1), Nat.le_trans h3 hg.size, A', c, holds_own h4 hg (fun r e => (hr r e).2), h5.own hg (fun r e => (hr r e).2), h6⟩
  case hAx =>
    obtain ⟨h0, Bx, h1, h2, ⟨A, n, c, h4, h5⟩, h3⟩ := hs
    exact ⟨h0, Bx, h1, holds_own h2 hg (fun r e => (hr r e).2), ⟨A, n, c, holds_own h4 hg (fun r e => (hr r e).2), h5⟩, h3⟩
  case assign =>
    rintro l pre z W K ⟨h0, h1, h2, h3, A', c, h4, h5, h6⟩ hF hK
    rw [zip_two]
    change Code.wpIn _ _ _ _ _ { tmps := #[iv x, .pointer (some ⟨b1, 0, none⟩), .pointer (some ⟨b2, 0, none⟩), .pointer (some ⟨p, 0, none⟩), undef, undef, .slice (some ⟨b3, 0, none⟩) 0 67, iv x, .func (.func 60) #[] #[.pointer (some ⟨bs, 0, none⟩)], .int .i64 (z.1 : Int), iv z.2, undef, undef, undef, undef, undef, undef, undef, undef], defers := [] } W
    gi_wp2_with (first
      | (with_reducible refine wpListIn_allocs (o := ⟨some 5, .alloc 23, _, _, _, _⟩) rfl 23 rfl _ zeroI_25 ?_; intro v1 hv1 mv1 zv1)
      | (with_reducible refine wpListIn_storesAll (o := ⟨none, .store 23 (.tmp 5) (.tmp 10), _, _, _, _⟩) rfl 23 (.tmp 5) (.tmp 10) rfl rfl W.heap.size (ic z.2) rfl (iv z.2) rfl rfl 23 _ hv1 (by rw [ic_length, ic_length]) (ic_one z.2) (size25i z.2) ?_; intro v2 hv2 mv2 zv2))
    have mv : Mod [] W v2 := mv1.trans mv2 (by intro i hi h; simp at h; omega)
    exact hK _ _ (mv.keepsFrom _) (mv.keepL _ (fun _ h => by cases h)) ⟨h0, h1.keep mv (by simp), h2.then mv, Nat.le_trans h3 mv.size, A', c, h4.keep mv (by simp), h5.keep mv (by simp), h6⟩ ⟨hF, W.heap.size, h3, hv2, ⟨A', _, c, h4.keep mv (by simp), fun hh => by have := h5.notin hh; omega⟩, rfl⟩
  case body =>
    rintro l pre z a' W hl _ ⟨h0, h1, h2, h3, A, c, h4, h5, h6⟩ ⟨hz, Bx, hBx, hX, ⟨A2, n2, c2, h7, h8⟩, rfl⟩ hlen
    obtain rfl := h7.slice_inj h4
    obtain ⟨e, he⟩ : ∃ e, e = endI z := ⟨_, rfl⟩
    obtain ⟨r, hr⟩ : ∃ r, r = pre.map endI := ⟨_, rfl⟩
    have hrl : pre.length = r.length := by rw [hr, List.length_map]
    rw [← hr] at h5
    rw [hrl] at h4
    have hz1 : z.1 < 256 := by rw [hz]; show pre.length < 256; omega
    have hfar : ∀ i ∈ p :: blk A2, w.heap.size ≤ i := fun i hi => by
      rcases List.mem_cons.1 hi with rfl | hi
      · omega
      · rcases h6 i hi with q | q
        · omega
        · have := mm5.size; omega
    have hpA : p ∉ blk A2 := fun hh => by
      rcases h6 p hh with q | q <;> omega
    have hb2 : b2 ∉ p :: blk A2 := fun hh => by
      rcases List.mem_cons.1 hh with q | q
      · omega
      · rcases h6 b2 q with q | q <;> omega
    have hBxA : Bx ∉ p :: blk A2 := fun hh => by
      rcases List.mem_cons.1 hh with q | q
      · subst q
        unfold Holds at hX h4
        rw [h4] at hX
        simp at hX
      · exact h8 q
    clear h7 h8
    have hGl : ∀ v, Mod (p :: blk A2) W v → Glob v := fun v m => (HH.out.2.then h2).keep m (fun i hi => by have := hfar i hi; have := HH.out.2.two; omega)
    have hr67 : r.length < 67 := by omega
    have HB := Lib.hid (And.intro h0 (And.intro h1 (And.intro h2 (And.intro h3 (And.intro h4 (And.intro h5 h6))))))
    clear h0 h1 h2 h3 h6
    gi_wp2_with fail
    refine Rgi.wpIn_regx (X := Xk) ⟨0, none, 0⟩ (fun y => [iv x, .pointer (some ⟨b1, 0, none⟩), .pointer (some ⟨b2, 0, none⟩), .pointer (some ⟨p, 0, none⟩), .int .i64 (z.1 : Int), .pointer (some ⟨Bx, 0, none⟩), .slice (some ⟨b3, 0, none⟩) 0 67, iv x, .func (.func 60) #[] #[.pointer (some ⟨bs, 0, none⟩)], .int .i64 (z.1 : Int), iv z.2, .slice A2 r.length c, iv z.2, .int .i64 (z.1 : Int), iv e, .slice (some ⟨y.b, 0, none⟩) 1 1, .slice y.C (r.length + 1) y.c, undef, undef]) 19 [0, 1, 2, 3, 4, 5, 6, 7, 8, 9, 10, 17, 18]
      (fun y lz v => SbK (p :: blk A2) W r e A2 c (lz 4) (lz 5) y v ∧ Holds v p 33 [if lz 6 = true then .slice y.C (r.length + 1) y.c else .slice A2 r.length c]) []
      (by kernel_rfl) (fun _ => rfl) rfl rfl rfl (fun _ => by simp only [List.map_cons, List.map_nil, List.getD_cons_zero, List.getD_cons_succ])
      ⟨⟨Mod.drew _ W, fun i hi => List.mem_cons_of_mem _ hi, fun _ => h5, (fun q => by cases q), (fun q => by cases q)⟩, h4⟩ (by kernel_rfl) (by kernel_rfl) ?step ?fin
    case step =>
      intro y lz T v j o hj hlj hdep hst hpar hgot hcl Kq hK
      obtain ⟨hs, hp⟩ := hst
      have hjn : j < 7 := (Array.getElem?_eq_some_iff.1 hj).1
      obtain rfl | rfl | rfl | rfl | rfl | rfl | rfl : j = 0 ∨ j = 1 ∨ j = 2 ∨ j = 3 ∨ j = 4 ∨ j = 5 ∨ j = 6 := by omega
      all_goals (have hj' := Option.some.inj (hj : some _ = some o); subst hj'; clear hj)
      · have l6 : lz 6 = false := (by cases hh : lz 6 with | false => rfl | true => exact absurd (hcl 6 _ rfl hh ⟨0, .phase⟩ (by simp) rfl) (by rw [hlj]; simp))
        rw [if_neg (by rw [l6]; simp)] at hp
        exact Rgi.wpi_ran (fun _ => trivial) (by intro c hc; cases hc) rfl (exec_load rfl (eval_tmp (hpar 3 (by simp))) (run_load1 Tryd.underlying33 rfl (by simpa using hp.cell 0))) (hK y _ _ (fun _ _ _ _ _ _ => rfl) (fun s hs => by cases hs; rfl) ⟨hs, by rw [if_neg (by simp [l6])]; exact hp⟩)
      · exact Rgi.wpi_ran (fun _ => trivial) (by intro c hc; cases hc) rfl (exec_load rfl (eval_tmp (hpar 5 (by simp))) (run_loads (Cells.of_holds (hX.keep hs.1 hBxA)) Tryd.underlying23 rfl (size25i z.2))) (hK y _ _ (fun _ _ _ _ _ _ => rfl) (fun s hs => by cases hs; rfl) ⟨hs, by simpa using hp⟩)
      · exact Rgi.wpi_ran (fun _ => trivial) (by intro c hc; cases hc) rfl (exec_move rfl (eval_tmp (hpar 4 (by simp)))) (hK y _ _ (fun _ _ _ _ _ _ => rfl) (fun s hs => by cases hs; rfl) ⟨hs, by simpa using hp⟩)
      · refine Rgi.wpi_called (fun _ => trivial) (by intro c hc; cases hc) rfl (by intro h; cases h) (exec_call4 rfl rfl (eval_tmp (hgot 1 _ 12 rfl (hdep ⟨1, .data⟩ (by simp) rfl) rfl)) (eval_tmp (hgot 2 _ 13 rfl (hdep ⟨2, .data⟩ (by simp) rfl) rfl)) rfl rfl (enters_of Tryd.func47 (by kernel_rfl) rfl)) ((CallsIn.inRound l (callsIn_wide.2 (reached_c z.2 z.1 0 15 15 rfl hz1 (by decide) v (hGl v hs.1)))).mono ?_)
        rintro e' v' ⟨rfl, mm⟩
        exact ⟨_, rfl, hK y _ _ (fun _ _ _ _ _ _ => rfl) (fun s hs => by cases hs; rw [he]; rfl) ⟨hs.mod0 mm, by simpa using hp.keep mm (by simp)⟩⟩
      · have l5 : lz 5 = false := (by cases hh : lz 5 with | false => rfl | true => exact absurd (hcl 5 _ rfl hh ⟨4, .data⟩ (by simp) rfl) (by rw [hlj]; simp))
        have l6 : lz 6 = false := (by cases hh : lz 6 with | false => rfl | true => exact absurd (hcl 6 _ rfl hh ⟨4, .phase⟩ (by simp) rfl) (by rw [hlj]; simp))
        have hs' : SbK (p :: blk A2) W r e A2 c (lz 4) false y v := by rw [← l5]; exact hs
        refine Rgi.wpi_ran (fun _ => trivial) (by intro c hc; cases hc) rfl (exec_lit22 rfl (eval_tmp (hgot 3 _ 14 rfl (hdep ⟨3, .data⟩ (by simp) rfl) rfl))) (hK { y with b := v.heap.size } _ _ (fun j' o' s' g1 g2 g3 => by
          have g4 : j' < 7 := (Array.getElem?_eq_some_iff.1 g1).1
          obtain rfl | rfl | rfl | rfl | rfl | rfl | rfl : j' = 0 ∨ j' = 1 ∨ j' = 2 ∨ j' = 3 ∨ j' = 4 ∨ j' = 5 ∨ j' = 6 := by omega
          all_goals (cases g1; cases g3 <;> first | rfl | (rw [hlj] at g2; cases g2) | (rw [l5] at g2; cases g2))) (fun s hs => by cases hs; rfl) ⟨?_, ?_⟩)
        · have := hs'.lit
          simpa [l5] using this
        · simpa [l6] using (show Holds v p 33 _ by simpa [l6] using hp).keep (Mod.alloc [] v _) (by simp)
      · have l6 : lz 6 = false := (by cases hh : lz 6 with | false => rfl | true => exact absurd (hcl 6 _ rfl hh ⟨5, .data⟩ (by simp) rfl) (by rw [hlj]; simp))
        have l4 : lz 4 = true := hdep ⟨4, .data⟩ (by simp) rfl
        have l0 : lz 0 = true := hdep ⟨0, .data⟩ (by simp) rfl
        have hs' : SbK (p :: blk A2) W r e A2 c true false y v := by rw [← l4, ← hlj]; exact hs
        obtain ⟨C1, c1, v', hrun, g1, g2⟩ := hs'.app (o := { dst := some 16, op := .call { callee := .builtin .append, args := #[.tmp 11, .tmp 15], argTypes := #[33, 33] }, type := 33, pos := "wots.go:47", after := #[], guard := none }) (ρ := T.eval) (.tmp 11) (.tmp 15) rfl (eval_tmp (hgot 0 _ 11 rfl l0 rfl)) (eval_tmp (hgot 4 _ 15 rfl l4 rfl)) (by omega)
        refine Rgi.wpi_ran (fun _ => trivial) (by intro c hc; cases hc) rfl hrun (hK { y with C := C1, c := c1 } _ _ (fun j' o' s' g1 g2 g3 => by
          have g4 : j' < 7 := (Array.getElem?_eq_some_iff.1 g1).1
          obtain rfl | rfl | rfl | rfl | rfl | rfl | rfl : j' = 0 ∨ j' = 1 ∨ j' = 2 ∨ j' = 3 ∨ j' = 4 ∨ j' = 5 ∨ j' = 6 := by omega
          all_goals (cases g1; cases g3 <;> first | rfl | (rw [hlj] at g2; cases g2) | (rw [l6] at g2; cases g2))) (fun s hs => by cases hs; rfl) ⟨by simpa [l4] using g1, ?_⟩)
        simpa [l6] using (show Holds v p 33 _ by simpa [l6] using hp).keep g2 hpA
      · have l5 : lz 5 = true := hdep ⟨5, .data⟩ (by simp) rfl
        have l4 : lz 4 = true := hdep ⟨4, .phase⟩ (by simp) rfl
        have hp' : Holds v p 33 [.slice A2 r.length c] := by simpa [hlj] using hp
        obtain ⟨it, hit, hi1⟩ : ∃ it, Tryd.prog.info? 33 = some it ∧ it.size = 1 := by
          have := size22
          cases hq : Tryd.prog.info? 33 with
          | none => rw [hq] at this; cases this
          | some it => exact ⟨it, rfl, by rw [hq] at this; simpa using this⟩
        have ms : Mod [p] v (v.setCell ⟨p, 0, none⟩ (.slice y.C (r.length + 1) y.c)) := Mod.setCell v (by simp) _
        refine Rgi.wpi_skip (fun _ => trivial) (by intro c hc; cases hc) rfl (exec_store1 rfl (eval_tmp (hpar 3 (by simp))) (eval_tmp (hgot 5 _ 16 rfl l5 rfl)) (slice_one _ _ _) hit hi1 (hp'.cell 0) (hp'.free 0)) (hK y _ _ (fun _ _ _ _ _ _ => rfl) (fun s hs => by cases hs) ⟨?_, ?_⟩)
        · obtain ⟨q1, q2, q3, q4, q5⟩ := hs
          have q6 := q5 l5
          have hpC : p ∉ blk y.C := fun hh => by
            obtain ⟨u, hu, hu2⟩ := mem_blk hh
            exact q6.1.ne hp' (by decide) u hu hu2
          refine ⟨q1.trans ms (fun i _ h => by simp at h; simp [h]), q2, fun q => ?_, fun _ q => ?_, fun _ => ⟨q6.1.keep ms (fun a ha hh => hpC (by simp at hh; simp [blk, ha, hh])), q6.2⟩⟩
          · simp [l5] at q
          · simp [l5] at q
        · simpa using hp'.set 0 (.slice y.C (r.length + 1) y.c)
    case fin =>
      intro y lz v hl hst
      obtain ⟨⟨q1, q2, -, -, q5⟩, hp⟩ := hst
      have q6 := q5 (hl 5 (by decide))
      have hp6 : Holds v p 33 [.slice y.C (r.length + 1) y.c] := by simpa [hl 6 (by decide)] using hp
      obtain ⟨h0, h1, h2, h3, -, -, h6⟩ := HB.out
      have HV := Lib.hid (And.intro q1 (And.intro q2 (And.intro q6 hp6)))
      clear q1 q2 q5 q6 hp hp6
      gi_wp2_with fail
      obtain ⟨q1, q2, q6, hp6⟩ := HV.out
      refine ⟨⟨q1.size, fun k o _ hk hc => (q1.block k (Array.getElem?_eq_some_iff.1 hk).1 (fun hm => ?_)).trans hk⟩, q1.keepL _ (fun i hi hlt => ?_), ?_, h1.keep q1 hb2, h2.trans q1 (fun i hi hm => by have := hfar i hm; omega), Nat.le_trans h3 q1.size, y.C, y.c, ?_, ?_, ?_⟩
      · rcases List.mem_cons.1 hm with q | q
        · subst q
          unfold Holds at h4
          rw [h4] at hk
          cases hk
          cases hc
        · rw [h5.isCells q hk] at hc
          cases hc
      · rcases List.mem_cons.1 hi with q | q
        · simp [q]
        · rcases h6 i q with q' | q'
          · simp [q']
          · omega
      · rw [List.length_append, show [z].length = 1 from rfl, stsI_snoc, ← h0, hz]
      · rw [List.length_append, show [z].length = 1 from rfl, hrl]
        exact hp6
      · rw [List.map_append, ← hr]
        simpa [he] using q6.1
      · intro i hi
        rcases q6.2 i hi with q | q
        · exact h6 i q
        · right; omega
  case done =>
    rintro D xs W hD hxs ⟨h0, h1, h2, h3, A, c, h4, h5, h6⟩ hK
    have hD2 : D ≠ b2 := by omega
    rw [hxs] at h0 h4
    have hk : endsI (xs.map endI) = d := by rw [HH.out.1, h0]; rfl
    have X := keyOf_c A (xs.map endI) 67 c (by rw [List.length_map, hxs]) (by decide) W (HH.out.2.then h2) h5.cells
    rw [hk] at X
    have HV := Lib.hid (And.intro h2 (And.intro hK (And.intro hD2 h1)))
    clear h0 h1 h2 h3 h5 h6 hK hD2 hk
    have hq0 := h4.cell 0
    simp only [List.getElem?_cons_zero] at hq0
    go_wp2_with (first
      | (with_reducible refine wpList_load1 (o := ⟨some 17, .load 33 (.tmp 3), _, _, _, _⟩) rfl 33 (.tmp 3) rfl ⟨p, 0, none⟩ (.slice A 67 c) rfl _ Tryd.underlying33 rfl hq0 ?_)
      | (go_at_call 52; refine X.mono ?_; rintro e w6 ⟨rfl, m6⟩)
      | (with_reducible refine wpList_storesAll (o := ⟨none, .store 23 (.tmp 2) (.tmp 18), _, _, _, _⟩) rfl 23 (.tmp 2) (.tmp 18) rfl rfl b2 (ic d) rfl (iv d) rfl rfl 23 _ (HV.out.2.2.2.keep m6 (by simp)) (by rw [ic_length, ic_length]) (ic_one d) (size25i d) ?_; intro v2 hv2 mv2 zv2))
    obtain ⟨h3, hK, hD2, _⟩ := HV.out
    have hK6 : w6.heap[D]? = some (.deferred (some [])) := (m6.block D (Array.getElem?_eq_some_iff.1 hK).1 (by simp)).trans hK
    have hK2 : v2.heap[D]? = some (.deferred (some [])) := (mv2.block D (Array.getElem?_eq_some_iff.1 hK6).1 (by simpa using hD2)).trans hK6
    have hB2 : Holds (v2.putObj D (.deferred none)) b2 23 (ic d) := holds_own hv2 (grownBy_putObj' v2 D (.deferred none)) (fun r e => by cases e; exact ⟨_, hK2, rfl⟩)
    have hM : Mod [] w (v2.putObj D (.deferred none)) := mod_own (far_mod (h3.then m6) mv2 (by simp; omega)) (grownBy_putObj' v2 D (.deferred none)) (fun r e => by cases e; have := mm5.size; omega)
    refine ⟨by simp, .inl ⟨_, _, rfl, run_takeDeferred hK2, ?_⟩⟩
    exact ⟨_, results_cell_row rfl _ _ b2 23 _ (0, 0) _ rfl hB2 Tryd.underlying23 rfl (by rw [List.size_toArray]; exact size25i d), rfl, hM⟩
  case stop =>
    rintro D cd pre W hD _ hf hK
    exact hf.elim
end
section
open Go.RowKit Go.Shelf
attribute [local go_sem] Oper.semAt_some
theorem exec_ixs {P : Program} {v : World} {o : Oper} {ρ : Operand → Value} {t e : TypeId} {n c g f z : Nat} {x y : Operand} {i : Nat} (hu : P.underlying t = some (.slice e)) (he : (P.info? e).map (·.size) = some z) (hi : i < n) (ho : o.op = .indexAddr t x y) (hx : ρ x = .slice (some ⟨g, f, none⟩) n c) (hy : ρ y = .int .i64 (i : Int)) :
    (execOp ρ o).run P v = .ok (.value (.pointer (some ⟨g, f + i * z, none⟩))) v := by
  unfold execOp
  cases hq : P.info? e with
  | none => rw [hq] at he; cases he
  | some it =>
    have hs : it.size = z := by rw [hq] at he; simpa using he
    simp [ho, hx, hy, Instr.indexAt, Sem.run_bind, run_underlying hu, go_sem, sizeOf, typeInfo, hq, hs, hi, add_plain]
theorem size3 : (Tryd.prog.info? 3).map (·.size) = some 1 := by kernel_rfl
theorem size26s : (Tryd.prog.info? 24).map (·.size) = some 1 := by kernel_rfl
theorem zero26s : ∀ w, (zeroValue 24).run Tryd.prog w = .ok (.slice none 0 0) w := by
  intro w; go_simp
/-- The digit of a chain. -/
def dgt (m : Idv) (i : Nat) : Nat := (digitsN m).getD i 0
theorem dgt_le (m : Idv) (i : Nat) : dgt m i ≤ 15 := by
  unfold dgt
  rw [List.getD_eq_getElem?_getD]
  by_cases h : i < (digitsN m).length
  · rw [List.getElem?_eq_getElem h]
    have := digitsN_lt (List.getElem_mem h)
    simp; omega
  · rw [List.getElem?_eq_none (by omega)]; simp
/-- What is shown of a chain. -/
def shwI (m : Idv) (y : Nat × Idv) : Idv := walkI y.1 0 (dgt m y.1) y.2
def signI (x m : Idv) : List Idv := (stsI x 67).map (shwI m)
set_option maxRecDepth 100000 in
set_option maxHeartbeats 4000000 in
theorem sign_c (x m : Idv) (w : World) (Gl : Glob w) :
    Calls Tryd.prog 25 #[iv x, iv m] w fun r w' => ∃ A c, r = .returned (.slice A 67 c) ∧ OwnG ic 23 32 w' A c (signI x m) ∧ Mod [] w w' ∧ (∀ i ∈ blk A, w.heap.size ≤ i) := by
  obtain ⟨i0, j1, j2, j3, j4⟩ := info_parts id_parts
  have HI := Lib.hid (And.intro j1 (And.intro j2 (And.intro j3 j4)))
  have HH := Lib.hid Gl
  clear Gl j1 j2 j3 j4
  refine (callsIn_wide (n := 5)).1 ?_
  refine callsIn_of_wp_marks Tryd.func25 rfl trivial ?_ rfl
  simp only [Tryd.ntmps25, List.size_toArray, List.length_cons, List.length_nil, Nat.reduceAdd, Nat.reduceSub, Array.replicate_succ, Array.replicate_zero, List.push_toArray, List.append_toArray, List.nil_append, List.cons_append]
  refine wpIn_wide.2 ?_
  go_wp2_with (first
    | (with_reducible refine wpList_boxes (o := ⟨some 2, .box 23 (.tmp 0), _, _, _, _⟩) rfl 23 (.tmp 0) rfl _ rfl (ic x) rfl ?_; intro w1 hb1 m1 z1; replace z1 := Lib.hid z1)
    | (with_reducible refine wpList_boxes (o := ⟨some 3, .box 23 (.tmp 1), _, _, _, _⟩) rfl 23 (.tmp 1) rfl _ rfl (ic m) rfl ?_; intro w2 hb2 m2 z2; replace z2 := Lib.hid z2)
    | (with_reducible refine wpList_loads (o := ⟨some 9, .load 23 (.tmp 3), _, _, _, _⟩) rfl 23 (.tmp 3) rfl w1.heap.size 0 _ rfl (Cells.of_holds hb2) _ Tryd.underlying23 rfl (size25i m) (iv m) rfl ?_)
    | (go_at_call 45; refine (digits_c m w2).mono ?_
       rintro e w3 ⟨Ad, cd, rfl, hd3, m3, q3⟩)
    | (with_reducible refine wpList_alloc1 (o := ⟨some 5, .alloc 24, _, _, _, _⟩) rfl 24 rfl (.slice none 0 0) (slice_one _ _ _) zero26s ?_
       intro w4 hb4 m4 z4
       have k4 := hb4
       obtain ⟨bd, hbd⟩ : ∃ q, q = w3.heap.size := ⟨_, rfl⟩
       rw [← hbd] at k4 ⊢
       replace z4 := Lib.hid z4
       replace hbd := Lib.hid hbd
       clear hb4)
    | (with_reducible refine wpList_store1 (o := ⟨none, .store 24 (.tmp 5) (.tmp 10), _, _, _, _⟩) rfl 24 (.tmp 5) (.tmp 10) rfl rfl bd (.slice Ad 67 cd) rfl rfl (slice_one _ _ _) size26s 24 (.slice none 0 0) k4 ?_
       intro w5 k5 m5 z5
       replace z5 := Lib.hid z5
       clear k4)
    | (with_reducible refine wpList_make0G ic (o := ⟨some 11, .makeSlice 33 _ _, _, _, _, _⟩) rfl 33 _ _ rfl 23 i0 (iv zeroI) 32 32 67 Tryd.underlying33 HI.out.1 HI.out.2.1 HI.out.2.2.1 HI.out.2.2.2 rfl rfl d67 m67 ?_
       intro w6 hO m6 z6; replace z6 := Lib.hid z6)
    | (with_reducible refine wpList_alloc1 (o := ⟨some 6, .alloc 33, _, _, _, _⟩) rfl 33 rfl (.slice none 0 0) (slice_one _ _ _) zero22 ?_
       intro w7 hb7 m7 z7
       have y1 := z1.out
       have y2 := z2.out
       have y4 := z4.out
       have y5 := z5.out
       have y6 := z6.out
       have y3 := m3.size
       have hbde := hbd.out
       obtain ⟨b1, hq1⟩ : ∃ q, q = w.heap.size := ⟨_, rfl⟩
       obtain ⟨b2, hq2⟩ : ∃ q, q = w1.heap.size := ⟨_, rfl⟩
       obtain ⟨b3, hq3⟩ : ∃ q, q = w5.heap.size := ⟨_, rfl⟩
       obtain ⟨p, hq⟩ : ∃ q, q = w6.heap.size := ⟨_, rfl⟩
       have m35 : Mod [] w3 w5 := far_mod m4 m5 (by simp; omega)
       have k1 : Holds w7 b1 23 (ic x) := by rw [hq1]; exact ((((hb1.keep m2 (by simp)).keep m3 (by simp)).keep m35 (by simp)).keep m6 (by simp)).keep m7 (by simp)
       have kd : Holds w7 bd 24 [.slice Ad 67 cd] := (k5.keep m6 (by simp)).keep m7 (by simp)
       have kD : OwnG fi 3 1 w7 Ad cd (digitsN m) := ((hd3.keep m35 (by simp)).keep m6 (by simp)).keep m7 (by simp)
       have kA : ∀ i ∈ blk Ad, i < bd := fun i hi => by have := hd3.notin hi; omega
       have k3 : OwnG ic 23 32 w7 (some ⟨b3, 0, none⟩) 67 [] := by rw [hq3]; exact hO.keep m7 (by simp)
       have mm7 : Mod [] w w7 := (((((m1.then m2).then m3).then m35).then m6).then m7)
       have o1 : b1 < b2 := by omega
       have o2 : b2 < bd := by omega
       have o3 : bd < b3 := by omega
       have o3' : b3 < p := by omega
       have o4 : w7.heap.size = p + 1 := by omega
       have o5 : w.heap.size ≤ b1 := by omega
       have k7 := hb7
       rw [← hq] at k7 ⊢
       rw [← hq1, ← hq2, ← hq3]
       clear hb1 m1 z1 hb2 m2 z2 hO m3 z4 m4 z5 m5 z6 m6 hb7 m7 z7 hq hq1 hq2 hq3 y1 y2 y3 y4 y5 y6 hbde hbd hd3 q3 k5 m35
       replace o4 := Lib.hid o4)
    | (with_reducible refine wpList_store1 (o := ⟨none, .store 33 (.tmp 6) (.tmp 11), _, _, _, _⟩) rfl 33 (.tmp 6) (.tmp 11) rfl rfl p (.slice (some ⟨b3, 0, none⟩) 0 67) rfl rfl (slice_one _ _ _) size22 33 (.slice none 0 0) k7 ?_
       intro w4' k4' m4' z4'
       replace o4 := Lib.hid (show w4'.heap.size = p + 1 by have := o4.out; omega)
       have HK := Lib.hid (And.intro (k1.keep m4' (by simp; omega)) (And.intro (kd.keep m4' (by simp; omega)) (And.intro (k3.keep m4' (by rintro _ ⟨⟩; simp; omega)) (And.intro (far_mod mm7 m4' (by simp; omega)) (And.intro k4' (kD.keep m4' (fun a ha hh => by have := kA a.block (by simp [blk, ha]); simp at hh; omega)))))))
       clear k1 kd k3 mm7 k7 k4' m4' z4' kD)
    | (with_reducible refine wpList_loads (o := ⟨some 12, .load 23 (.tmp 2), _, _, _, _⟩) rfl 23 (.tmp 2) rfl b1 0 _ rfl (Cells.of_holds HK.out.1) _ Tryd.underlying23 rfl (size25i x) (iv x) rfl ?_)
    | (go_at_call 46; refine (starts_c x _).mono ?_
       rintro e w5' ⟨rfl, hs5, m5, z5⟩
       obtain ⟨bs, hbs⟩ : ∃ q, q = w4'.heap.size := ⟨_, rfl⟩
       rw [← hbs] at hs5 ⊢
       replace z5 := Lib.hid z5
       replace hbs := Lib.hid hbs))
  obtain ⟨k1, kd, k3, mm4, k4, kD⟩ := HK.out
  have mm5 : Mod [] w w5' := mm4.then m5
  replace kd := kd.keep m5 (by simp)
  replace kD := kD.keep m5 (by simp)
  replace k3 := k3.keep m5 (by simp)
  replace k4 := k4.keep m5 (by simp)
  have o6 : bs = p + 1 := by rw [hbs.out, o4.out]
  have o7 : w5'.heap.size = bs + 1 := by rw [z5.out, hbs.out]
  have hB : Bs [b3, p] w5'.heap.size bs x w5' := ⟨HH.out.then mm5, hs5, by have := HH.out.two; simp; omega⟩
  clear m5 z5 hbs k1 o4
  refine (wpIn_wide (n := 5)).1 ?_
  refine wpIn_rangeFunc_with (F := Fence.wide) (n := 5) rfl (by omega) (gf := 60) (lb := #[.pointer (some ⟨bs, 0, none⟩)]) rfl trivial (enters_of Tryd.func60 (by kernel_rfl) rfl)
    (starts_with 4 (by omega) bs w5'.heap.size [b3, p] x w5' hB (Nat.le_refl _))
    (fun h k => h.trans k) (fun W l o o' hl ho h1 _ => ?hKb) (Below.refl _ _) (fun _ => rfl)
    (fun pre W => pre = stsI x pre.length ∧ (Holds W bd 24 [.slice Ad 67 cd] ∧ OwnG fi 3 1 W Ad cd (digitsN m)) ∧ Mod [] w W ∧ w5'.heap.size ≤ W.heap.size ∧ ∃ A c, Holds W p 33 [.slice A pre.length c] ∧ OwnG ic 23 32 W A c (pre.map (shwI m)) ∧ (∀ i ∈ blk A, i = b3 ∨ w5'.heap.size ≤ i))
    (fun _ _ _ => False)
    (fun s A B row hs hg hr => ?hI) (fun _ _ _ _ _ hs _ _ => hs.elim) ⟨rfl, ⟨kd, kD⟩, mm5, Nat.le_refl _, some ⟨b3, 0, none⟩, 67, k4, k3, fun i hi => .inl (by simpa [blk] using hi)⟩
    (fun pre z a' W => z = (pre.length, startI pre.length x) ∧ ∃ Bx, w5'.heap.size ≤ Bx ∧ Holds W Bx 23 (ic z.2) ∧ (∃ A n c, Holds W p 33 [.slice A n c] ∧ Bx ∉ blk A) ∧ a' = { tmps := #[iv x, iv m, .pointer (some ⟨b1, 0, none⟩), .pointer (some ⟨b2, 0, none⟩), .slice none 0 0, .pointer (some ⟨bd, 0, none⟩), .pointer (some ⟨p, 0, none⟩), .int .i64 (z.1 : Int), .pointer (some ⟨Bx, 0, none⟩), iv m, .slice Ad 67 cd, .slice (some ⟨b3, 0, none⟩) 0 67, iv x, .func (.func 60) #[] #[.pointer (some ⟨bs, 0, none⟩)], .int .i64 (z.1 : Int), iv z.2, undef, undef, undef, undef, undef, undef, undef, undef, undef, undef, undef], defers := [] })
    (fun pre z a' s A B row hs hg hr => ?hAx) ?assign ?body ?done ?stop
  case hKb =>
    exact ⟨by simp [World.putObj], fun k hk _ _ => World.putObj_heap_other (by omega)⟩
  case hI =>
    obtain ⟨h0, ⟨h1, h1'⟩, h2, h3, A', c, h4, h5, h6⟩ := hs
    exact ⟨h0, ⟨holds_own h1 hg (fun r e => (hr r e).2), h1'.own hg (fun r e => (hr r e).2)⟩, mod_own h2 hg (fun r e => Nat.le_trans mm5.size (hr r e).1), Nat.le_trans h3 hg.size, A', c, holds_own h4 hg (fun r e => (hr r e).2), h5.own hg (fun r e => (hr r e).2), h6⟩
  case hAx =>
    obtain ⟨h0, Bx, h1, h2, ⟨A, n, c, h4, h5⟩, h3⟩ := hs
    exact ⟨h0, Bx, h1, holds_own h2 hg (fun r e => (hr r e).2), ⟨A, n, c, holds_own h4 hg (fun r e => (hr r e).2), h5⟩, h3⟩
  case assign =>
    rintro l pre z W K ⟨h0, ⟨h1, h1'⟩, h2, h3, A', c, h4, h5, h6⟩ hF hK
    rw [zip_two]
    change Code.wpIn _ _ _ _ _ { tmps := #[iv x, iv m, .pointer (some ⟨b1, 0, none⟩), .pointer (some ⟨b2, 0, none⟩), .slice none 0 0, .pointer (some ⟨bd, 0, none⟩), .pointer (some ⟨p, 0, none⟩), undef, undef, iv m, .slice Ad 67 cd, .slice (some ⟨b3, 0, none⟩) 0 67, iv x, .func (.func 60) #[] #[.pointer (some ⟨bs, 0, none⟩)], .int .i64 (z.1 : Int), iv z.2, undef, undef, undef, undef, undef, undef, undef, undef, undef, undef, undef], defers := [] } W
    gi_wp2_with (first
      | (with_reducible refine wpListIn_allocs (o := ⟨some 8, .alloc 23, _, _, _, _⟩) rfl 23 rfl _ zeroI_25 ?_; intro v1 hv1 mv1 zv1)
      | (with_reducible refine wpListIn_storesAll (o := ⟨none, .store 23 (.tmp 8) (.tmp 15), _, _, _, _⟩) rfl 23 (.tmp 8) (.tmp 15) rfl rfl W.heap.size (ic z.2) rfl (iv z.2) rfl rfl 23 _ hv1 (by rw [ic_length, ic_length]) (ic_one z.2) (size25i z.2) ?_; intro v2 hv2 mv2 zv2))
    have mv : Mod [] W v2 := mv1.trans mv2 (by intro i hi h; simp at h; omega)
    exact hK _ _ (mv.keepsFrom _) (mv.keepL _ (fun _ h => by cases h)) ⟨h0, ⟨h1.keep mv (by simp), h1'.keep mv (by simp)⟩, h2.then mv, Nat.le_trans h3 mv.size, A', c, h4.keep mv (by simp), h5.keep mv (by simp), h6⟩ ⟨hF, W.heap.size, h3, hv2, ⟨A', _, c, h4.keep mv (by simp), fun hh => by have := h5.notin hh; omega⟩, rfl⟩
  case body =>
    rintro l pre z a' W hl _ ⟨h0, ⟨h1, h1'⟩, h2, h3, A, c, h4, h5, h6⟩ ⟨hz, Bx, hBx, hX, ⟨A2, n2, c2, h7, h8⟩, rfl⟩ hlen
    obtain rfl := h7.slice_inj h4
    obtain ⟨e, he⟩ : ∃ e, e = shwI m z := ⟨_, rfl⟩
    obtain ⟨r, hr⟩ : ∃ r, r = pre.map (shwI m) := ⟨_, rfl⟩
    have hrl : pre.length = r.length := by rw [hr, List.length_map]
    rw [← hr] at h5
    rw [hrl] at h4
    have hz67 : z.1 < 67 := by rw [hz]; exact hlen
    have hz1 : z.1 < 256 := by omega
    have hfar : ∀ i ∈ p :: blk A2, w.heap.size ≤ i := fun i hi => by
      rcases List.mem_cons.1 hi with rfl | hi
      · omega
      · rcases h6 i hi with q | q
        · omega
        · have := mm5.size; omega
    have hpA : p ∉ blk A2 := fun hh => by
      rcases h6 p hh with q | q <;> omega
    have hlow : ∀ i, i ≤ bd → i ∉ p :: blk A2 := fun i hi hh => by
      rcases List.mem_cons.1 hh with q | q
      · omega
      · rcases h6 i q with q | q <;> omega
    have hBxA : Bx ∉ p :: blk A2 := fun hh => by
      rcases List.mem_cons.1 hh with q | q
      · subst q
        unfold Holds at hX h4
        rw [h4] at hX
        simp at hX
      · exact h8 q
    clear h7 h8
    have hGl : ∀ v, Mod (p :: blk A2) W v → Glob v := fun v m => (HH.out.then h2).keep m (fun i hi => by have := hfar i hi; have := HH.out.two; omega)
    have hr67 : r.length < 67 := by omega
    obtain ⟨gd, od, hAd, hcd⟩ := h1'.int_at z.1 (by rw [digitsN_length]; exact hz67)
    obtain ⟨dg, hdg⟩ : ∃ d, d = dgt m z.1 := ⟨_, rfl⟩
    have hdgc : (digitsN m)[z.1]'(by rw [digitsN_length]; exact hz67) = dg := by rw [hdg]; unfold dgt; rw [List.getD_eq_getElem?_getD, List.getElem?_eq_getElem (by rw [digitsN_length]; exact hz67)]; rfl
    rw [hdgc] at hcd
    have hdg15 : dg ≤ 15 := by rw [hdg]; exact dgt_le m _
    have hee : walkI z.1 0 dg z.2 = e := by rw [he, hdg]; rfl
    have hgd : gd ≤ bd := by have := kA gd (by simp [blk, hAd]); omega
    have HB := Lib.hid (And.intro h0 (And.intro h1 (And.intro h2 (And.intro h3 (And.intro h1' (And.intro h5 h6))))))
    have hbd1 : ∀ v, Mod (p :: blk A2) W v → Holds v bd 24 [.slice Ad 67 cd] := fun v mv => h1.keep mv (hlow bd (Nat.le_refl _))
    have hcd1 : ∀ v, Mod (p :: blk A2) W v → v.cell? ⟨gd, od + z.1, none⟩ = some (.int .i64 (dg : Int)) := fun v mv => Mod.cell mv (hlow gd hgd) hcd
    clear h0 h1 h2 h3 h6 hcd hdgc hdg
    gi_wp2_with fail
    refine Rgi.wpIn_regx (X := Xk) ⟨0, none, 0⟩ (fun y => [iv x, iv m, .pointer (some ⟨b1, 0, none⟩), .pointer (some ⟨b2, 0, none⟩), .slice none 0 0, .pointer (some ⟨bd, 0, none⟩), .pointer (some ⟨p, 0, none⟩), .int .i64 (z.1 : Int), .pointer (some ⟨Bx, 0, none⟩), iv m, .slice Ad 67 cd, .slice (some ⟨b3, 0, none⟩) 0 67, iv x, .func (.func 60) #[] #[.pointer (some ⟨bs, 0, none⟩)], .int .i64 (z.1 : Int), iv z.2, .slice A2 r.length c, iv z.2, .int .i64 (z.1 : Int), .slice Ad 67 cd, .int .i64 (z.1 : Int), .pointer (some ⟨gd, od + z.1 * 1, none⟩), .int .i64 (dg : Int), iv e, .slice (some ⟨y.b, 0, none⟩) 1 1, .slice y.C (r.length + 1) y.c, undef]) 27 [0, 1, 2, 3, 4, 5, 6, 7, 8, 9, 10, 11, 12, 13, 14, 15, 26]
      (fun y lz v => SbK (p :: blk A2) W r e A2 c (lz 8) (lz 9) y v ∧ Holds v p 33 [if lz 10 = true then .slice y.C (r.length + 1) y.c else .slice A2 r.length c]) []
      (by kernel_rfl) (fun _ => rfl) rfl rfl rfl (fun _ => by simp only [List.map_cons, List.map_nil, List.getD_cons_zero, List.getD_cons_succ])
      ⟨⟨Mod.drew _ W, fun i hi => List.mem_cons_of_mem _ hi, fun _ => h5, (fun q => by cases q), (fun q => by cases q)⟩, h4⟩ (by kernel_rfl) (by kernel_rfl) ?step ?fin
    case step =>
      intro y lz T v j o hj hlj hdep hst hpar hgot hcl Kq hK
      obtain ⟨hs, hp⟩ := hst
      have hjn : j < 11 := (Array.getElem?_eq_some_iff.1 hj).1
      obtain rfl | rfl | rfl | rfl | rfl | rfl | rfl | rfl | rfl | rfl | rfl : j = 0 ∨ j = 1 ∨ j = 2 ∨ j = 3 ∨ j = 4 ∨ j = 5 ∨ j = 6 ∨ j = 7 ∨ j = 8 ∨ j = 9 ∨ j = 10 := by omega
      all_goals (have hj' := Option.some.inj (hj : some _ = some o); subst hj'; clear hj)
      · have l10 : lz 10 = false := (by cases hh : lz 10 with | false => rfl | true => exact absurd (hcl 10 _ rfl hh ⟨0, .phase⟩ (by simp) rfl) (by rw [hlj]; simp))
        rw [if_neg (by rw [l10]; simp)] at hp
        exact Rgi.wpi_ran (fun _ => trivial) (by intro c hc; cases hc) rfl (exec_load rfl (eval_tmp (hpar 6 (by simp))) (run_load1 Tryd.underlying33 rfl (by simpa using hp.cell 0))) (hK y _ _ (fun _ _ _ _ _ _ => rfl) (fun s hs => by cases hs; rfl) ⟨hs, by rw [if_neg (by simp [l10])]; exact hp⟩)
      · exact Rgi.wpi_ran (fun _ => trivial) (by intro c hc; cases hc) rfl (exec_load rfl (eval_tmp (hpar 8 (by simp))) (run_loads (Cells.of_holds (hX.keep hs.1 hBxA)) Tryd.underlying23 rfl (size25i z.2))) (hK y _ _ (fun _ _ _ _ _ _ => rfl) (fun s hs => by cases hs; rfl) ⟨hs, by simpa using hp⟩)
      · exact Rgi.wpi_ran (fun _ => trivial) (by intro c hc; cases hc) rfl (exec_move rfl (eval_tmp (hpar 7 (by simp)))) (hK y _ _ (fun _ _ _ _ _ _ => rfl) (fun s hs => by cases hs; rfl) ⟨hs, by simpa using hp⟩)
      · exact Rgi.wpi_ran (fun _ => trivial) (by intro c hc; cases hc) rfl (exec_load rfl (eval_tmp (hpar 5 (by simp))) (run_load1 Tryd.underlying24 rfl (by simpa using (hbd1 v hs.1).cell 0))) (hK y _ _ (fun _ _ _ _ _ _ => rfl) (fun s hs => by cases hs; rfl) ⟨hs, by simpa using hp⟩)
      · exact Rgi.wpi_ran (fun _ => trivial) (by intro c hc; cases hc) rfl (exec_move rfl (eval_tmp (hpar 7 (by simp)))) (hK y _ _ (fun _ _ _ _ _ _ => rfl) (fun s hs => by cases hs; rfl) ⟨hs, by simpa using hp⟩)
      · exact Rgi.wpi_ran (fun _ => trivial) (by intro c hc; cases hc) rfl (exec_ixs Tryd.underlying24 size3 hz67 rfl (by rw [← hAd]; exact eval_tmp (hgot 3 _ 19 rfl (hdep ⟨3, .data⟩ (by simp) rfl) rfl)) (eval_tmp (hgot 4 _ 20 rfl (hdep ⟨4, .data⟩ (by simp) rfl) rfl))) (hK y _ _ (fun _ _ _ _ _ _ => rfl) (fun s hs => by cases hs; rfl) ⟨hs, by simpa using hp⟩)
      · exact Rgi.wpi_ran (fun _ => trivial) (by intro c hc; cases hc) rfl (exec_load rfl (eval_tmp (hgot 5 _ 21 rfl (hdep ⟨5, .data⟩ (by simp) rfl) rfl)) (run_load1 Tryd.underlying3 rfl (by rw [Nat.mul_one]; exact hcd1 v hs.1))) (hK y _ _ (fun _ _ _ _ _ _ => rfl) (fun s hs => by cases hs; rfl) ⟨hs, by simpa using hp⟩)
      · refine Rgi.wpi_called (fun _ => trivial) (by intro c hc; cases hc) rfl (by intro h; cases h) (exec_call4 rfl rfl (eval_tmp (hgot 1 _ 17 rfl (hdep ⟨1, .data⟩ (by simp) rfl) rfl)) (eval_tmp (hgot 2 _ 18 rfl (hdep ⟨2, .data⟩ (by simp) rfl) rfl)) rfl (eval_tmp (hgot 6 _ 22 rfl (hdep ⟨6, .data⟩ (by simp) rfl) rfl)) (enters_of Tryd.func47 (by kernel_rfl) rfl)) ((CallsIn.inRound l (callsIn_wide.2 (reached_c z.2 z.1 0 dg dg (by omega) hz1 hdg15 v (hGl v hs.1)))).mono ?_)
        rintro e' v' ⟨rfl, mm⟩
        exact ⟨_, rfl, hK y _ _ (fun _ _ _ _ _ _ => rfl) (fun s hs => by cases hs; rw [hee]; rfl) ⟨hs.mod0 mm, by simpa using hp.keep mm (by simp)⟩⟩
      · have l9 : lz 9 = false := (by cases hh : lz 9 with | false => rfl | true => exact absurd (hcl 9 _ rfl hh ⟨8, .data⟩ (by simp) rfl) (by rw [hlj]; simp))
        have l10 : lz 10 = false := (by cases hh : lz 10 with | false => rfl | true => exact absurd (hcl 10 _ rfl hh ⟨8, .phase⟩ (by simp) rfl) (by rw [hlj]; simp))
        have hs' : SbK (p :: blk A2) W r e A2 c (lz 8) false y v := by rw [← l9]; exact hs
        refine Rgi.wpi_ran (fun _ => trivial) (by intro c hc; cases hc) rfl (exec_lit22 rfl (eval_tmp (hgot 7 _ 23 rfl (hdep ⟨7, .data⟩ (by simp) rfl) rfl))) (hK { y with b := v.heap.size } _ _ (fun j' o' s' g1 g2 g3 => by
          have g4 : j' < 11 := (Array.getElem?_eq_some_iff.1 g1).1
          obtain rfl | rfl | rfl | rfl | rfl | rfl | rfl | rfl | rfl | rfl | rfl : j' = 0 ∨ j' = 1 ∨ j' = 2 ∨ j' = 3 ∨ j' = 4 ∨ j' = 5 ∨ j' = 6 ∨ j' = 7 ∨ j' = 8 ∨ j' = 9 ∨ j' = 10 := by omega
          all_goals (cases g1; cases g3 <;> first | rfl | (rw [hlj] at g2; cases g2) | (rw [l9] at g2; cases g2))) (fun s hs => by cases hs; rfl) ⟨?_, ?_⟩)
        · have := hs'.lit
          simpa [l9] using this
        · simpa [l10] using (show Holds v p 33 _ by simpa [l10] using hp).keep (Mod.alloc [] v _) (by simp)
      · have l10 : lz 10 = false := (by cases hh : lz 10 with | false => rfl | true => exact absurd (hcl 10 _ rfl hh ⟨9, .data⟩ (by simp) rfl) (by rw [hlj]; simp))
        have l8 : lz 8 = true := hdep ⟨8, .data⟩ (by simp) rfl
        have l0 : lz 0 = true := hdep ⟨0, .data⟩ (by simp) rfl
        have hs' : SbK (p :: blk A2) W r e A2 c true false y v := by rw [← l8, ← hlj]; exact hs
        obtain ⟨C1, c1, v', hrun, g1, g2⟩ := hs'.app (o := { dst := some 25, op := .call { callee := .builtin .append, args := #[.tmp 16, .tmp 24], argTypes := #[33, 33] }, type := 33, pos := "wots.go:64", after := #[], guard := none }) (ρ := T.eval) (.tmp 16) (.tmp 24) rfl (eval_tmp (hgot 0 _ 16 rfl l0 rfl)) (eval_tmp (hgot 8 _ 24 rfl l8 rfl)) (by omega)
        refine Rgi.wpi_ran (fun _ => trivial) (by intro c hc; cases hc) rfl hrun (hK { y with C := C1, c := c1 } _ _ (fun j' o' s' g1 g2 g3 => by
          have g4 : j' < 11 := (Array.getElem?_eq_some_iff.1 g1).1
          obtain rfl | rfl | rfl | rfl | rfl | rfl | rfl | rfl | rfl | rfl | rfl : j' = 0 ∨ j' = 1 ∨ j' = 2 ∨ j' = 3 ∨ j' = 4 ∨ j' = 5 ∨ j' = 6 ∨ j' = 7 ∨ j' = 8 ∨ j' = 9 ∨ j' = 10 := by omega
          all_goals (cases g1; cases g3 <;> first | rfl | (rw [hlj] at g2; cases g2) | (rw [l10] at g2; cases g2))) (fun s hs => by cases hs; rfl) ⟨by simpa [l8] using g1, ?_⟩)
        simpa [l10] using (show Holds v p 33 _ by simpa [l10] using hp).keep g2 hpA
      · have l9 : lz 9 = true := hdep ⟨9, .data⟩ (by simp) rfl
        have hp' : Holds v p 33 [.slice A2 r.length c] := by simpa [hlj] using hp
        obtain ⟨it, hit, hi1⟩ : ∃ it, Tryd.prog.info? 33 = some it ∧ it.size = 1 := by
          have := size22
          cases hq : Tryd.prog.info? 33 with
          | none => rw [hq] at this; cases this
          | some it => exact ⟨it, rfl, by rw [hq] at this; simpa using this⟩
        have ms : Mod [p] v (v.setCell ⟨p, 0, none⟩ (.slice y.C (r.length + 1) y.c)) := Mod.setCell v (by simp) _
        refine Rgi.wpi_skip (fun _ => trivial) (by intro c hc; cases hc) rfl (exec_store1 rfl (eval_tmp (hpar 6 (by simp))) (eval_tmp (hgot 9 _ 25 rfl l9 rfl)) (slice_one _ _ _) hit hi1 (hp'.cell 0) (hp'.free 0)) (hK y _ _ (fun _ _ _ _ _ _ => rfl) (fun s hs => by cases hs) ⟨?_, ?_⟩)
        · obtain ⟨q1, q2, q3, q4, q5⟩ := hs
          have q6 := q5 l9
          have hpC : p ∉ blk y.C := fun hh => by
            obtain ⟨u, hu, hu2⟩ := mem_blk hh
            exact q6.1.ne hp' (by decide) u hu hu2
          refine ⟨q1.trans ms (fun i _ h => by simp at h; simp [h]), q2, fun q => ?_, fun _ q => ?_, fun _ => ⟨q6.1.keep ms (fun a ha hh => hpC (by simp at hh; simp [blk, ha, hh])), q6.2⟩⟩
          · simp [l9] at q
          · simp [l9] at q
        · simpa using hp'.set 0 (.slice y.C (r.length + 1) y.c)
    case fin =>
      intro y lz v hl hst
      obtain ⟨⟨q1, q2, -, -, q5⟩, hp⟩ := hst
      have q6 := q5 (hl 9 (by decide))
      have hp6 : Holds v p 33 [.slice y.C (r.length + 1) y.c] := by simpa [hl 10 (by decide)] using hp
      obtain ⟨h0, h1, h2, h3, h1', -, h6⟩ := HB.out
      have HV := Lib.hid (And.intro q1 (And.intro q2 (And.intro q6 hp6)))
      clear q1 q2 q5 q6 hp hp6
      gi_wp2_with fail
      obtain ⟨q1, q2, q6, hp6⟩ := HV.out
      refine ⟨⟨q1.size, fun k o _ hk hc => (q1.block k (Array.getElem?_eq_some_iff.1 hk).1 (fun hm => ?_)).trans hk⟩, q1.keepL _ (fun i hi hlt => ?_), ?_, ⟨hbd1 v q1, h1'.keep q1 (fun a ha => hlow _ (by have := kA a.block (by simp [blk, ha]); omega))⟩, h2.trans q1 (fun i hi hm => by have := hfar i hm; omega), Nat.le_trans h3 q1.size, y.C, y.c, ?_, ?_, ?_⟩
      · rcases List.mem_cons.1 hm with q | q
        · subst q
          unfold Holds at h4
          rw [h4] at hk
          cases hk
          cases hc
        · rw [h5.isCells q hk] at hc
          cases hc
      · rcases List.mem_cons.1 hi with q | q
        · simp [q]
        · rcases h6 i q with q' | q'
          · simp [q']
          · omega
      · rw [List.length_append, show [z].length = 1 from rfl, stsI_snoc, ← h0, hz]
      · rw [List.length_append, show [z].length = 1 from rfl, hrl]
        exact hp6
      · rw [List.map_append, ← hr]
        simpa [he] using q6.1
      · intro i hi
        rcases q6.2 i hi with q | q
        · exact h6 i q
        · right; omega
  case done =>
    rintro D xs W hD hxs ⟨h0, ⟨h1, h1'⟩, h2, h3, A, c, h4, h5, h6⟩ hK
    rw [hxs] at h0 h4
    have hk : xs.map (shwI m) = signI x m := by rw [h0]; rfl
    rw [hk] at h5
    have HV := Lib.hid (And.intro h2 (And.intro hK (And.intro h5 h6)))
    clear h0 h1 h1' h2 h3 h5 h6 hK hk
    have hq0 := h4.cell 0
    simp only [List.getElem?_cons_zero] at hq0
    go_wp2_with (first
      | (with_reducible refine wpList_load1 (o := ⟨some 26, .load 33 (.tmp 6), _, _, _, _⟩) rfl 33 (.tmp 6) rfl ⟨p, 0, none⟩ (.slice A 67 c) rfl _ Tryd.underlying33 rfl hq0 ?_))
    obtain ⟨h3, hK, h5, h6⟩ := HV.out
    have hM : Mod [] w (W.putObj D (.deferred none)) := mod_own h3 (grownBy_putObj' W D (.deferred none)) (fun r e => by cases e; have := mm5.size; omega)
    have hO5 : OwnG ic 23 32 (W.putObj D (.deferred none)) A c (signI x m) := h5.own (grownBy_putObj' W D (.deferred none)) (fun r e => by cases e; exact ⟨_, hK, rfl⟩)
    refine ⟨by simp, .inl ⟨_, _, rfl, run_takeDeferred hK, ?_⟩⟩
    exact ⟨_, results_tmp rfl _ _ _, A, c, rfl, hO5, hM, fun i hi => by
      rcases h6 i hi with q | q
      · omega
      · have := mm5.size; omega⟩
  case stop =>
    rintro D cd pre W hD _ hf hK
    exact hf.elim
end
section
open Go.RowKit Go.Shelf
/-- The ends that a signature leads to. -/
def recL (m : Idv) (s : List Idv) (n : Nat) : List Idv := (List.range n).map fun i => walkI i (dgt m i) (15 - dgt m i) (s.getD i zeroI)
theorem recL_snoc (m : Idv) (s : List Idv) (n : Nat) : recL m s (n + 1) = recL m s n ++ [walkI n (dgt m n) (15 - dgt m n) (s.getD n zeroI)] := by simp [recL, List.range_succ]
theorem recL_length (m : Idv) (s : List Idv) (n : Nat) : (recL m s n).length = n := by simp [recL]
def recI (m : Idv) (s : List Idv) : Idv := endsI (recL m s 67)
set_option maxRecDepth 100000 in
theorem build25 (w : World) : (Instr.build 23 #[]).run Tryd.prog w = .ok (iv zeroI) w := by
  refine run_build w _ _ _ ?_
  unfold Program.built
  rw [Tryd.underlying23]
  obtain ⟨i0, j1, j2, j3, j4⟩ := info_parts id_parts
  simp only [j1, j2]
  rfl
theorem exec_zero25 {v : World} {o : Oper} {ρ : Operand → Value} (ho : o.op = .build 23 #[]) : (execOp ρ o).run Tryd.prog v = .ok (.value (iv zeroI)) v := by
  unfold execOp
  simp only [ho, List.map_toArray, List.map_nil, Sem.run_bind, build25, Result.andThen, Sem.run_pure]
theorem size25' : (Tryd.prog.info? 23).map (·.size) = some 32 := size25
theorem results_cell_tmp {P : Program} {fn : Func} {p q : Tmp} {ty : TypeId} (h : fn.results = #[.cell p ty, .tmp q]) (tmps : Array Value) (w : World) (g : Nat) (cs : List Value) (x : Value) (d : TypeDesc)
    (hp : tmps.getD p undef = .pointer (some ⟨g, 0, none⟩)) (hq : tmps.getD q undef = x) (hc : Cells w (some ⟨g, 0, none⟩) cs)
    (hu : P.underlying ty = some d) (hd : (match d with | .struct _ | .array _ _ => true | _ => false) = true) (hi : (P.info? ty).map (·.size) = some cs.length) :
    (results fn tmps).run P w = .ok (.tuple #[.agg cs.toArray, x]) w := by
  have hp' : tmps[p]?.getD undef = .pointer (some ⟨g, 0, none⟩) := by simpa using hp
  have hq' : tmps[q]?.getD undef = x := by simpa using hq
  simp [results, h, hp', hq', asAddr, run_loads hc hu hd hi]
set_option maxRecDepth 100000 in
set_option maxHeartbeats 4000000 in
theorem recover_no (m : Idv) (A : Option Addr) (n c : Nat) (hn : n ≠ 67) (h63 : n ≤ 100000) (w : World) :
    Calls Tryd.prog 49 #[iv m, .slice A n c] w fun r w' => r = .returned (.tuple #[iv zeroI, .int .i64 3]) ∧ Mod [] w w' := by
  have hnZ : ¬ (n : Int) = 67 := by omega
  have hnZ2 : (n : Int) ≤ 100000 := by omega
  go_enter Tryd.func49, Tryd.ntmps49
  go_wp2_with (first
    | (with_reducible refine wpList_boxes (o := ⟨some 2, .box 23 (.tmp 0), _, _, _, _⟩) rfl 23 (.tmp 0) rfl _ rfl (ic m) rfl ?_; intro w1 hb1 m1 z1; replace z1 := Lib.hid z1)
    | (with_reducible refine wpList_allocs (o := ⟨some 4, .alloc 23, _, _, _, _⟩) rfl 23 rfl _ zeroI_25 ?_; intro w2 hb2 m2 z2; replace z2 := Lib.hid z2)
    | (with_reducible refine wpList_ranW (o := ⟨some 13, .build 23 _, _, _, _, _⟩) (by with_unfolding_all rfl) (iv zeroI) w2 (exec_zero25 rfl) ?_)
    | (with_reducible refine wpList_storesAll (o := ⟨none, .store 23 (.tmp 4) (.tmp 13), _, _, _, _⟩) rfl 23 (.tmp 4) (.tmp 13) rfl rfl w1.heap.size (ic zeroI) rfl (iv zeroI) rfl rfl 23 _ hb2 (by rw [ic_length]) (ic_one _) (size25i _) ?_; intro w3 hb3 m3 z3))
  refine bodyPost_ret (results_cell_tmp rfl _ _ w1.heap.size (ic zeroI) _ _ rfl rfl (Cells.of_holds hb3) Tryd.underlying23 rfl (size25i _)) rfl ?_
  exact ⟨rfl, far_mod (m1.then m2) m3 (by simp; exact m1.size)⟩
set_option maxRecDepth 100000 in
set_option maxHeartbeats 4000000 in
theorem recover_c (m : Idv) (s : List Idv) (A : Option Addr) (c : Nat) (hs : s.length = 67) (w : World) (Gl : Glob w) (RA : Cells w A (s.flatMap ic)) :
    Calls Tryd.prog 49 #[iv m, .slice A 67 c] w fun r w' => r = .returned (.tuple #[iv (recI m s), .int .i64 0]) ∧ Mod [] w w' := by
  obtain ⟨d, hd⟩ : ∃ d, d = recI m s := ⟨_, rfl⟩
  rw [← hd]
  obtain ⟨i0, j1, j2, j3, j4⟩ := info_parts id_parts
  have HI := Lib.hid (And.intro j1 (And.intro j2 (And.intro j3 j4)))
  have HH := Lib.hid (And.intro hd (And.intro Gl (And.intro RA hs)))
  clear hd Gl RA hs j1 j2 j3 j4
  go_enter Tryd.func49, Tryd.ntmps49
  go_wp2_with (first
    | (with_reducible refine wpList_boxes (o := ⟨some 2, .box 23 (.tmp 0), _, _, _, _⟩) rfl 23 (.tmp 0) rfl _ rfl (ic m) rfl ?_; intro w1 hb1 m1 z1; replace z1 := Lib.hid z1)
    | (with_reducible refine wpList_allocs (o := ⟨some 4, .alloc 23, _, _, _, _⟩) rfl 23 rfl _ zeroI_25 ?_; intro w2 hb2 m2 z2; replace z2 := Lib.hid z2)
    | (with_reducible refine wpList_loads (o := ⟨some 14, .load 23 (.tmp 2), _, _, _, _⟩) rfl 23 (.tmp 2) rfl w.heap.size 0 _ rfl (Cells.of_holds (hb1.keep m2 (by simp))) _ Tryd.underlying23 rfl (size25i m) (iv m) rfl ?_)
    | (go_at_call 45; refine (digits_c m w2).mono ?_
       rintro e w3 ⟨Ad, cd, rfl, hd3, m3, q3⟩)
    | (with_reducible refine wpList_make0G ic (o := ⟨some 16, .makeSlice 33 _ _, _, _, _, _⟩) rfl 33 _ _ rfl 23 i0 (iv zeroI) 32 32 67 Tryd.underlying33 HI.out.1 HI.out.2.1 HI.out.2.2.1 HI.out.2.2.2 rfl rfl d67 m67 ?_
       intro w6 hO m6 z6; replace z6 := Lib.hid z6))
  have y1 := z1.out
  have y2 := z2.out
  have y6 := z6.out
  obtain ⟨b2, hq2⟩ : ∃ q, q = w.heap.size := ⟨_, rfl⟩
  obtain ⟨b4, hq4⟩ : ∃ q, q = w1.heap.size := ⟨_, rfl⟩
  obtain ⟨b3, hq3⟩ : ∃ q, q = w3.heap.size := ⟨_, rfl⟩
  have k4 : Holds w6 b4 23 (ic zeroI) := by rw [hq4]; exact (hb2.keep m3 (by simp)).keep m6 (by simp)
  have kD : OwnG fi 3 1 w6 Ad cd (digitsN m) := hd3.keep m6 (by simp)
  have kA : ∀ i ∈ blk Ad, i < b3 := fun i hi => by have := hd3.notin hi; omega
  have k3 : OwnG ic 23 32 w6 (some ⟨b3, 0, none⟩) 67 [] := by rw [hq3]; exact hO
  have mm : Mod [] w w6 := ((m1.then m2).then m3).then m6
  have o1 : b2 < b4 := by omega
  have o2 : b4 < b3 := by have := m3.size; omega
  have o4 : w6.heap.size = b3 + 1 := by omega
  have o5 : w.heap.size ≤ b2 := by omega
  rw [← hq2, ← hq4, ← hq3]
  clear hb1 m1 z1 hb2 m2 z2 hO m3 z6 m6 hq2 hq3 hq4 y1 y2 y6 hd3 q3
  have HK := Lib.hid (And.intro k4 (And.intro kD (And.intro k3 (And.intro mm o4))))
  clear k4 kD k3 mm o4
  go_wp2_with fail
  go_loopw [19, 7, 20] (fun i x bb wi => ∃ (k : Nat) (A1 : Option Addr) (c' : Nat), k ≤ 67 ∧ i = .int .i64 (k : Int) ∧ x = .slice A1 k c' ∧ OwnG ic 23 32 wi A1 c' (recL m s k) ∧ (∀ i ∈ blk A1, b3 ≤ i) ∧ Holds wi b4 23 (ic zeroI) ∧ OwnG fi 3 1 wi Ad cd (digitsN m) ∧ b3 < wi.heap.size ∧ Mod [] w wi) (fun i _ _ _ => 67 - (intOf i).toNat)
  case atStart => exact ⟨0, some ⟨b3, 0, none⟩, 67, by omega, rfl, rfl, HK.out.2.2.1, fun i hi => by simp [blk] at hi; omega, HK.out.1, HK.out.2.1, by have := HK.out.2.2.2.2; omega, HK.out.2.2.2.1⟩
  case round =>
    obtain ⟨k, A1, c', hk, rfl, rfl, hOw, hbl, h4, hD, hsz, hmi⟩ := hrel
    by_cases hkn : k < 67
    · have hkZ : (k : Int) < 67 := by omega
      have hkl : k < s.length := by rw [HH.out.2.2.2]; exact hkn
      obtain ⟨ga, oa, rfl, hce⟩ := HH.out.2.2.1.elem' ic 32 (by omega) ic_length k hkl
      obtain ⟨q0, hq0⟩ : ∃ q, q = s[k] := ⟨_, rfl⟩
      rw [← hq0] at hce
      have hci := hce.keep hmi (by simp)
      obtain ⟨gd, od, hAd, hcd⟩ := hD.int_at k (by rw [digitsN_length]; exact hkn)
      obtain ⟨dg, hdg⟩ : ∃ d, d = dgt m k := ⟨_, rfl⟩
      have hdgc : (digitsN m)[k]'(by rw [digitsN_length]; exact hkn) = dg := by rw [hdg]; unfold dgt; rw [List.getD_eq_getElem?_getD, List.getElem?_eq_getElem (by rw [digitsN_length]; exact hkn)]; rfl
      rw [hdgc] at hcd
      have hdg15 : dg ≤ 15 := by rw [hdg]; exact dgt_le m _
      obtain ⟨e, he⟩ : ∃ e, e = walkI k dg (15 - dg) q0 := ⟨_, rfl⟩
      obtain ⟨r, hr⟩ : ∃ r, r = recL m s k := ⟨_, rfl⟩
      have hsn : recL m s (k + 1) = r ++ [e] := by rw [recL_snoc, ← hr, he, hdg, hq0, List.getD_eq_getElem?_getD, List.getElem?_eq_getElem hkl]; rfl
      have hrl : r.length = k := by rw [hr, recL_length]
      rw [← hr] at hOw
      have hgd : gd < b3 := kA gd (by simp [blk, hAd])
      have HP := Lib.hid (And.intro hsn (And.intro hOw (And.intro hbl (And.intro h4 (And.intro hD (And.intro hsz (And.intro hmi (And.intro hcd (And.intro hdg15 (And.intro he (And.intro hrl (And.intro hAd hgd))))))))))))
      clear hce hq0 hcd hdgc hdg hdg15 he hr hsn hrl hOw hbl h4 hD hsz hmi hAd hgd HK
      go_wp2_with (first
        | (with_reducible refine wpList_loads (o := ⟨some 23, .load 23 (.tmp 22), _, _, _, _⟩) rfl 23 (.tmp 22) rfl ga (oa + k * 32) _ rfl hci _ Tryd.underlying23 rfl (size25i q0) (iv q0) rfl ?_)
        | (with_reducible refine wpList_allocs (o := ⟨some 9, .alloc 23, _, _, _, _⟩) rfl 23 rfl _ zeroI_25 ?_; intro w2 hb2 m2 z2; replace z2 := Lib.hid z2)
        | (with_reducible refine wpList_storesAll (o := ⟨none, .store 23 (.tmp 9) (.tmp 23), _, _, _, _⟩) rfl 23 (.tmp 9) (.tmp 23) rfl rfl wr.heap.size (ic q0) rfl (iv q0) rfl rfl 23 _ hb2 (by rw [ic_length, ic_length]) (ic_one q0) (size25i q0) ?_
           intro w3 hb3 m3 z3
           obtain ⟨Bx, hBx⟩ : ∃ b, b = wr.heap.size := ⟨_, rfl⟩
           have mx : Mod [] wr w3 := m2.trans m3 (by intro i hi h; simp at h; omega)
           rw [← hBx] at hb3
           rw [← hBx]
           have HM := Lib.hid (And.intro hb3 (And.intro mx hBx))
           clear hb2 m2 z2 hb3 m3 z3 mx hBx))
      obtain ⟨hX, mx, hBx⟩ := HM.out
      have hOw := HP.out.2.1.keep mx (by simp)
      have hD3 := HP.out.2.2.2.2.1.keep mx (by simp)
      have hcd3 : w3.cell? ⟨gd, od + k, none⟩ = some (.int .i64 (dg : Int)) := Mod.cell mx (by simp) HP.out.2.2.2.2.2.2.2.1
      have hBxA : Bx ∉ blk A1 := fun hh => by have := HP.out.2.1.notin hh; omega
      have hmi := HP.out.2.2.2.2.2.2.1.then mx
      have hbl := HP.out.2.2.1
      have hsz := HP.out.2.2.2.2.2.1
      have hgd := HP.out.2.2.2.2.2.2.2.2.2.2.2.2
      have hAd := HP.out.2.2.2.2.2.2.2.2.2.2.2.1
      have hrl := HP.out.2.2.2.2.2.2.2.2.2.2.1
      have he := HP.out.2.2.2.2.2.2.2.2.2.1
      have hdg15 := HP.out.2.2.2.2.2.2.2.2.1
      have hlow : ∀ i, i < b3 → i ∉ blk A1 := fun i hi hh => by have := hbl i hh; omega
      have hGl : ∀ v, Mod (blk A1) w3 v → Glob v := fun v mv => (HH.out.2.1.then hmi).keep mv (fun i hi => by have := hbl i hi; have := HH.out.2.1.two; omega)
      refine wp_region_lito (X := Xk) ⟨0, none, 0⟩ (fun y => [iv m, .slice (some ⟨ga, oa, none⟩) 67 c, .pointer (some ⟨b2, 0, none⟩), undef, .pointer (some ⟨b4, 0, none⟩), .int .i64 0, .slice Ad 67 cd, .slice y.C (k + 1) y.c, .int .i64 (k : Int), .pointer (some ⟨Bx, 0, none⟩), .slice (some ⟨ga, oa, none⟩) 67 c, .int .i64 67, .bool false, undef, iv m, .slice Ad 67 cd, .slice (some ⟨b3, 0, none⟩) 0 67, .slice (some ⟨ga, oa, none⟩) 67 c, .int .i64 67, .int .i64 (k : Int), .bool true, .int .i64 (k : Int), .pointer (some ⟨ga, oa + k * 32, none⟩), iv q0, .slice A1 k c', iv q0, .int .i64 (k : Int), .slice Ad 67 cd, .int .i64 (k : Int), .pointer (some ⟨gd, od + k * 1, none⟩), .int .i64 (dg : Int), iv e, .slice (some ⟨y.b, 0, none⟩) 1 1, .slice y.C (k + 1) y.c, u34, undef, undef]) 37 [0, 1, 2, 3, 4, 5, 6, 8, 9, 10, 11, 12, 13, 14, 15, 16, 17, 18, 19, 20, 21, 22, 23, 34, 35, 36]
        (fun y lz v => SbK (blk A1) w3 r e A1 c' (lz 8) (lz 9) y v) []
        (by kernel_rfl) (fun _ => rfl) rfl rfl rfl (fun _ => by simp only [List.map_cons, List.map_nil, List.getD_cons_zero, List.getD_cons_succ]) 7 10 (.slice A1 k c') rfl (by kernel_rfl)
        ⟨Mod.drew _ w3, fun i hi => hi, fun _ => hOw, (fun q => by cases q), (fun q => by cases q)⟩ (by kernel_rfl) (by kernel_rfl) ?step ?fin
      case step =>
        intro y lz T v j o hj hlj hdep hs hpar hgot hcl hold Kq hK
        have hjn : j < 11 := (Array.getElem?_eq_some_iff.1 hj).1
        obtain rfl | rfl | rfl | rfl | rfl | rfl | rfl | rfl | rfl | rfl | rfl : j = 0 ∨ j = 1 ∨ j = 2 ∨ j = 3 ∨ j = 4 ∨ j = 5 ∨ j = 6 ∨ j = 7 ∨ j = 8 ∨ j = 9 ∨ j = 10 := by omega
        all_goals (have hj' := Option.some.inj (hj : some _ = some o); subst hj'; clear hj)
        · have l10 : lz 10 = false := (by cases hh : lz 10 with | false => rfl | true => exact absurd (hcl 10 _ rfl hh ⟨0, .phase⟩ (by simp) rfl) (by rw [hlj]; simp))
          exact wp_ran rfl (exec_move rfl (eval_tmp (hold l10))) (hK y _ _ (fun _ _ _ _ _ _ => rfl) (fun s hs => by cases hs; rfl) (by simpa using hs))
        · exact wp_ran rfl (exec_load rfl (eval_tmp (hpar 9 (by simp))) (run_loads (Cells.of_holds (hX.keep hs.1 hBxA)) Tryd.underlying23 rfl (size25i q0))) (hK y _ _ (fun _ _ _ _ _ _ => rfl) (fun s hs => by cases hs; rfl) (by simpa using hs))
        · exact wp_ran rfl (exec_move rfl (eval_tmp (hpar 8 (by simp)))) (hK y _ _ (fun _ _ _ _ _ _ => rfl) (fun s hs => by cases hs; rfl) (by simpa using hs))
        · exact wp_ran rfl (exec_move rfl (eval_tmp (hpar 6 (by simp)))) (hK y _ _ (fun _ _ _ _ _ _ => rfl) (fun s hs => by cases hs; rfl) (by simpa using hs))
        · exact wp_ran rfl (exec_move rfl (eval_tmp (hpar 8 (by simp)))) (hK y _ _ (fun _ _ _ _ _ _ => rfl) (fun s hs => by cases hs; rfl) (by simpa using hs))
        · exact wp_ran rfl (exec_ixs Tryd.underlying24 size3 hkn rfl (by rw [← hAd]; exact eval_tmp (hgot 3 _ 27 rfl (hdep ⟨3, .data⟩ (by simp) rfl) rfl)) (eval_tmp (hgot 4 _ 28 rfl (hdep ⟨4, .data⟩ (by simp) rfl) rfl))) (hK y _ _ (fun _ _ _ _ _ _ => rfl) (fun s hs => by cases hs; rfl) (by simpa using hs))
        · exact wp_ran rfl (exec_load rfl (eval_tmp (hgot 5 _ 29 rfl (hdep ⟨5, .data⟩ (by simp) rfl) rfl)) (run_load1 Tryd.underlying3 rfl (by rw [Nat.mul_one]; exact Mod.cell hs.1 (hlow gd hgd) hcd3))) (hK y _ _ (fun _ _ _ _ _ _ => rfl) (fun s hs => by cases hs; rfl) (by simpa using hs))
        · refine wp_called rfl (exec_call4 rfl rfl (eval_tmp (hgot 1 _ 25 rfl (hdep ⟨1, .data⟩ (by simp) rfl) rfl)) (eval_tmp (hgot 2 _ 26 rfl (hdep ⟨2, .data⟩ (by simp) rfl) rfl)) (eval_tmp (hgot 6 _ 30 rfl (hdep ⟨6, .data⟩ (by simp) rfl) rfl)) rfl (enters_of Tryd.func47 (by kernel_rfl) rfl)) ((reached_c q0 k dg 15 (15 - dg) (by omega) (by omega) (by decide) v (hGl v hs.1)).mono ?_)
          rintro e' v' ⟨rfl, mm'⟩
          exact ⟨_, rfl, hK y _ _ (fun _ _ _ _ _ _ => rfl) (fun s hs => by cases hs; rw [← he]; rfl) (by simpa using hs.mod0 mm')⟩
        · have l9 : lz 9 = false := (by cases hh : lz 9 with | false => rfl | true => exact absurd (hcl 9 _ rfl hh ⟨8, .data⟩ (by simp) rfl) (by rw [hlj]; simp))
          have hs' : SbK (blk A1) w3 r e A1 c' (lz 8) false y v := by rw [← l9]; exact hs
          refine wp_ran rfl (exec_lit22 rfl (eval_tmp (hgot 7 _ 31 rfl (hdep ⟨7, .data⟩ (by simp) rfl) rfl))) (hK { y with b := v.heap.size } _ _ (fun j' o' s' g1 g2 g3 => by
          have g4 : j' < 11 := (Array.getElem?_eq_some_iff.1 g1).1
          obtain rfl | rfl | rfl | rfl | rfl | rfl | rfl | rfl | rfl | rfl | rfl : j' = 0 ∨ j' = 1 ∨ j' = 2 ∨ j' = 3 ∨ j' = 4 ∨ j' = 5 ∨ j' = 6 ∨ j' = 7 ∨ j' = 8 ∨ j' = 9 ∨ j' = 10 := by omega
          all_goals (cases g1; cases g3 <;> first | rfl | (rw [hlj] at g2; cases g2) | (rw [l9] at g2; cases g2))) (fun s hs => by cases hs; rfl) ?_)
          simpa [l9] using hs'.lit
        · have l10 : lz 10 = false := (by cases hh : lz 10 with | false => rfl | true => exact absurd (hcl 10 _ rfl hh ⟨9, .data⟩ (by simp) rfl) (by rw [hlj]; simp))
          have l8 : lz 8 = true := hdep ⟨8, .data⟩ (by simp) rfl
          have l0 : lz 0 = true := hdep ⟨0, .data⟩ (by simp) rfl
          have hs' : SbK (blk A1) w3 r e A1 c' true false y v := by rw [← l8, ← hlj]; exact hs
          obtain ⟨C1, c1, v', hrun, g1, g2⟩ := hs'.app (o := { dst := some 33, op := .call { callee := .builtin .append, args := #[.tmp 24, .tmp 32], argTypes := #[33, 33] }, type := 33, pos := "wots.go:71", after := #[], guard := none }) (ρ := T.eval) (.tmp 24) (.tmp 32) rfl (by rw [hrl]; exact eval_tmp (hgot 0 _ 24 rfl l0 rfl)) (eval_tmp (hgot 8 _ 32 rfl l8 rfl)) (by omega)
          rw [hrl] at hrun
          refine wp_ran rfl hrun (hK { y with C := C1, c := c1 } _ _ (fun j' o' s' g1 g2 g3 => by
          have g4 : j' < 11 := (Array.getElem?_eq_some_iff.1 g1).1
          obtain rfl | rfl | rfl | rfl | rfl | rfl | rfl | rfl | rfl | rfl | rfl : j' = 0 ∨ j' = 1 ∨ j' = 2 ∨ j' = 3 ∨ j' = 4 ∨ j' = 5 ∨ j' = 6 ∨ j' = 7 ∨ j' = 8 ∨ j' = 9 ∨ j' = 10 := by omega
          all_goals (cases g1; cases g3 <;> first | rfl | (rw [hlj] at g2; cases g2) | (rw [l10] at g2; cases g2))) (fun s hs => by cases hs; rfl) (by simpa [l8] using g1))
        · exact wp_ran rfl (exec_assign rfl (eval_tmp (hgot 9 _ 33 rfl (hdep ⟨9, .data⟩ (by simp) rfl) rfl))) (hK y _ _ (fun _ _ _ _ _ _ => rfl) (fun s hs => by cases hs; rfl) (by simpa using hs))
      case fin =>
        intro y lz v hl hs
        obtain ⟨q1, q2, -, -, q5⟩ := hs
        have q6 := q5 (hl 9 (by decide))
        have HV := Lib.hid (And.intro q1 q6)
        clear q1 q2 q5 q6 hX mx hBx hOw hD3 hcd3 hBxA hmi hbl hsz hgd hAd hrl he hdg15 hlow hGl
        go_wp2
        obtain ⟨q1, q6⟩ := HV.out
        obtain ⟨hX, mx, hBx⟩ := HM.out
        have hbl := HP.out.2.2.1
        have hsz := HP.out.2.2.2.2.2.1
        refine ⟨⟨k + 1, y.C, y.c, by omega, by go_num, rfl, by rw [HP.out.1]; exact q6.1, fun i hi => ?_, ?_, ?_, ?_, ?_⟩, by simp [intOf]; omega⟩
        · rcases q6.2 i hi with q | q
          · exact hbl i q
          · have := mx.size; omega
        · exact (HP.out.2.2.2.1.keep mx (by simp)).keep q1 (fun hh => by have := hbl _ hh; omega)
        · exact (HP.out.2.2.2.2.1.keep mx (by simp)).keep q1 (fun a ha hh => by have := hbl _ hh; have := kA a.block (by simp [blk, ha]); omega)
        · have := mx.size; have := q1.size; omega
        · exact far_mod (HP.out.2.2.2.2.2.2.1.then mx) q1 (fun i hi => by have := hbl i hi; omega)
    · obtain rfl : k = 67 := by omega
      have X := keyOf_c A1 (recL m s 67) 67 c' (by rw [recL_length]) (by decide) wr (HH.out.2.1.then hmi) hOw.cells
      rw [show endsI (recL m s 67) = d by rw [HH.out.1]; rfl] at X
      have HP := Lib.hid (And.intro h4 hmi)
      clear hOw hbl h4 hD hsz hmi HK
      go_wp2_with (first
        | (go_at_call 52; refine X.mono ?_; rintro e w6' ⟨rfl, m6⟩)
        | (with_reducible refine wpList_storesAll (o := ⟨none, .store 23 (.tmp 4) (.tmp 36), _, _, _, _⟩) rfl 23 (.tmp 4) (.tmp 36) rfl rfl b4 (ic d) rfl (iv d) rfl rfl 23 _ (HP.out.1.keep m6 (by simp)) (by rw [ic_length, ic_length]) (ic_one d) (size25i d) ?_; intro v2 hv2 mv2 zv2))
      refine bodyPost_ret (results_cell_tmp rfl _ _ b4 (ic d) _ _ rfl rfl (Cells.of_holds hv2) Tryd.underlying23 rfl (size25i _)) rfl ?_
      exact ⟨rfl, far_mod (HP.out.2.then m6) mv2 (by simp; omega)⟩
end
section
open Go.RowKit Go.Shelf
theorem exec_eq25 {v : World} {o : Oper} {ρ : Operand → Value} {x y : Operand} {X Y : Idv} (ho : o.op = .binOp .eql 23 x y 23) (hx : ρ x = iv X) (hy : ρ y = iv Y) : (execOp ρ o).run Tryd.prog v = .ok (.value (.bool (decide (X = Y)))) v := by
  have hx' : ρ x = .agg ((X.1.map fun b => (b.toNat : Int)).map (Value.int .u8)).toArray := by rw [hx, ← octs_ints]; rfl
  have hy' : ρ y = .agg ((Y.1.map fun b => (b.toNat : Int)).map (Value.int .u8)).toArray := by rw [hy, ← octs_ints]; rfl
  have := exec_eqa (P := Tryd.prog) (v := v) Tryd.underlying23 Tryd.underlying5 (by kernel_rfl) (by kernel_rfl) (by kernel_rfl) _ _ (by simpa using X.2) (by simpa using Y.2) ho hx' hy'
  simpa only [octs_inj, Subtype.ext_iff] using this
theorem exec_ne25 {v : World} {o : Oper} {ρ : Operand → Value} {x y : Operand} {X Y : Idv} (ho : o.op = .binOp .neq 23 x y 23) (hx : ρ x = iv X) (hy : ρ y = iv Y) : (execOp ρ o).run Tryd.prog v = .ok (.value (.bool (!decide (X = Y)))) v := by
  have := exec_ne40 (v := v) (L := X.1) (M := Y.1) X.2 Y.2 ho hx hy
  simpa only [Subtype.ext_iff] using this
end
section
open Go.RowKit Go.Shelf
theorem walkI_add (i n j k : Nat) (x : Idv) : walkI i (n + j) k (walkI i n j x) = walkI i n (j + k) x := by
  induction k with
  | zero => rfl
  | succ k ih =>
    rw [← Nat.add_assoc]
    show stepI i (n + j + k) (walkI i (n + j) k (walkI i n j x)) = stepI i (n + (j + k)) (walkI i n (j + k) x)
    rw [ih, Nat.add_assoc]
theorem walkI_front (i n k : Nat) (x : Idv) : walkI i (n + 1) k (stepI i n x) = walkI i n (k + 1) x := by
  have := walkI_add i n 1 k x
  rwa [show walkI i n 1 x = stepI i n x from rfl, Nat.add_comm 1 k] at this
theorem signI_getD (x m : Idv) (i : Nat) (h : i < 67) : (signI x m).getD i zeroI = walkI i 0 (dgt m i) (startI i x) := by
  unfold signI stsI
  rw [List.map_map, List.getD_eq_getElem?_getD, List.getElem?_map, List.getElem?_range h]
  rfl
theorem signI_length (x m : Idv) : (signI x m).length = 67 := by simp [signI, stsI_length]
theorem rec_sign (x m : Idv) : recI m (signI x m) = keyI x := by
  unfold recI keyI recL stsI
  rw [List.map_map]
  congr 1
  apply List.map_congr_left
  intro i hi
  have hi := List.mem_range.1 hi
  rw [signI_getD x m i hi]
  show walkI i (dgt m i) (15 - dgt m i) (walkI i 0 (dgt m i) (startI i x)) = walkI i 0 15 (startI i x)
  have := walkI_add i 0 (dgt m i) (15 - dgt m i) (startI i x)
  rw [Nat.zero_add, show dgt m i + (15 - dgt m i) = 15 by have := dgt_le m i; omega] at this
  exact this
/-! With Nats. -/
def tn (x : List UInt8) : List Nat := x.map UInt8.toNat
theorem ofNat_toNat (i : Nat) (h : i < 256) : (UInt8.ofNat i).toNat = i := by simp; omega
theorem kstep_eq (i n : Nat) (x : Idv) (hi : i < 256) (hn : n < 256) : kstep i n (tn x.1) = tn (stepI i n x).1 := by
  have hl : (67 :: UInt8.ofNat i :: UInt8.ofNat n :: x.1).length = 35 := by simp [x.2]
  have := kdig_eq (67 :: UInt8.ofNat i :: UInt8.ofNat n :: x.1) (by rw [hl]; decide)
  rw [List.map_cons, List.map_cons, List.map_cons, ofNat_toNat i hi, ofNat_toNat n hn] at this
  exact this
theorem kwalk_eq (i : Nat) (hi : i < 256) (k : Nat) : ∀ (n : Nat) (x : Idv), n + k ≤ 256 → kwalk i k n (tn x.1) = tn (walkI i n k x).1 := by
  induction k with
  | zero => intros; rfl
  | succ k ih =>
    intro n x h
    rw [kwalk, kstep_eq i n x hi (by omega), ih (n + 1) _ (by omega), walkI_front]
theorem kend_eq (i : Nat) (hi : i < 256) (s : Idv) : kend i (tn s.1) = tn (endI (i, startI i s)).1 := by
  unfold kend endI
  have hl : (83 :: UInt8.ofNat i :: s.1).length = 34 := by simp [s.2]
  have := kdig_eq (83 :: UInt8.ofNat i :: s.1) (by rw [hl]; decide)
  rw [List.map_cons, List.map_cons, ofNat_toNat i hi] at this
  have h2 : kdig (83 :: i :: tn s.1) = tn (startI i s).1 := this
  rw [h2, kwalk_eq i hi 15 0 _ (by decide)]
theorem kends_eq (s : Idv) (n : Nat) : ∀ i, i + n ≤ 256 → kends (tn s.1) n i = tn (flatI ((List.range' i n).map fun j => endI (j, startI j s))) := by
  induction n with
  | zero => intros; rfl
  | succ n ih =>
    intro i h
    rw [kends, kend_eq i (by omega) s, ih (i + 1) (by omega), List.range'_succ, List.map_cons]
    simp [tn, flatI]
theorem kkey_eq (s : Idv) : kkey (tn s.1) = tn (keyI s).1 := by
  unfold kkey
  rw [kends_eq s 67 0 (by decide)]
  have he : (List.range' 0 67).map (fun j => endI (j, startI j s)) = (stsI s 67).map endI := by
    unfold stsI
    rw [List.map_map, List.range_eq_range']
    rfl
  rw [he]
  have hl : (75 :: flatI ((stsI s 67).map endI)).length = 2145 := by rw [List.length_cons, flatI_length, List.length_map, stsI_length]
  exact kdig_eq (75 :: flatI ((stsI s 67).map endI)) (by rw [hl]; decide)
def oneI (k : UInt8) : Idv := ⟨k :: List.replicate 31 0, rfl⟩
set_option maxRecDepth 100000 in
theorem build1 (w : World) : (Instr.build 23 #[(0, .int .u8 1)]).run Tryd.prog w = .ok (iv (oneI 1)) w := by
  refine run_build w _ _ _ ?_
  kernel_rfl
set_option maxRecDepth 100000 in
theorem build2 (w : World) : (Instr.build 23 #[(0, .int .u8 2)]).run Tryd.prog w = .ok (iv (oneI 2)) w := by
  refine run_build w _ _ _ ?_
  kernel_rfl
set_option maxRecDepth 100000 in
theorem build3 (w : World) : (Instr.build 23 #[(0, .int .u8 3)]).run Tryd.prog w = .ok (iv (oneI 3)) w := by
  refine run_build w _ _ _ ?_
  kernel_rfl
theorem exec_build1 {v : World} {o : Oper} {a : Act} (ho : o.op = .build 23 #[(0, .const (.int .u8 1))]) : (execOp a.eval o).run Tryd.prog v = .ok (.value (iv (oneI 1))) v := by
  unfold execOp
  have hc : a.eval (.const (.int .u8 1)) = .int .u8 1 := rfl
  simp only [ho, List.map_toArray, List.map_cons, List.map_nil, hc, Sem.run_bind, build1, Result.andThen, Sem.run_pure]
theorem exec_build2 {v : World} {o : Oper} {a : Act} (ho : o.op = .build 23 #[(0, .const (.int .u8 2))]) : (execOp a.eval o).run Tryd.prog v = .ok (.value (iv (oneI 2))) v := by
  unfold execOp
  have hc : a.eval (.const (.int .u8 2)) = .int .u8 2 := rfl
  simp only [ho, List.map_toArray, List.map_cons, List.map_nil, hc, Sem.run_bind, build2, Result.andThen, Sem.run_pure]
theorem exec_build3 {v : World} {o : Oper} {a : Act} (ho : o.op = .build 23 #[(0, .const (.int .u8 3))]) : (execOp a.eval o).run Tryd.prog v = .ok (.value (iv (oneI 3))) v := by
  unfold execOp
  have hc : a.eval (.const (.int .u8 3)) = .int .u8 3 := rfl
  simp only [ho, List.map_toArray, List.map_cons, List.map_nil, hc, Sem.run_bind, build3, Result.andThen, Sem.run_pure]
end
section
open Go.RowKit Go.Shelf
/-- The frame with these slots set. -/
def setAll (l : List Value) (ups : List (Nat × Value)) : List Value := ups.foldl (fun l p => l.set p.1 p.2) l
theorem setAll_length (ups : List (Nat × Value)) : ∀ l, (setAll l ups).length = l.length := by
  induction ups with
  | nil => intro l; rfl
  | cons p ups ih => intro l; show (setAll (l.set p.1 p.2) ups).length = _; rw [ih, List.length_set]
theorem setAll_other (s : Nat) (ups : List (Nat × Value)) : ∀ l, s ∉ ups.map (·.1) → (setAll l ups)[s]? = l[s]? := by
  induction ups with
  | nil => intro l _; rfl
  | cons p ups ih =>
    intro l h
    simp only [List.map_cons, List.mem_cons, not_or] at h
    show (setAll (l.set p.1 p.2) ups)[s]? = _
    rw [ih _ h.2, List.getElem?_set_ne (fun e => h.1 e.symm)]
/-- The slots that aren't set. -/
def restOf (n : Nat) (ks : List Nat) : List Nat := (List.range n).filter fun s => !ks.contains s
theorem setAll_lookup (s : Nat) (v : Value) (ups : List (Nat × Value)) : ∀ l : List Value, (ups.map (·.1)).Nodup → s < l.length → ups.lookup s = some v → (setAll l ups)[s]? = some v := by
  induction ups with
  | nil => intro l _ _ h; cases h
  | cons p ups ih =>
    intro l hd hl h
    rw [List.map_cons, List.nodup_cons] at hd
    show (setAll (l.set p.1 p.2) ups)[s]? = some v
    by_cases hs : s = p.1
    · subst hs
      rw [setAll_other _ _ _ hd.1]
      have : some p.2 = some v := by simpa [List.lookup] using h
      rw [List.getElem?_set_self hl, this]
    · have h' : ups.lookup s = some v := by
        have hb : (s == p.1) = false := by simpa using hs
        simpa [List.lookup, hb] using h
      exact ih _ hd.2 (by rw [List.length_set]; exact hl) h'
theorem wp_region_ups {P : Program} {ops : Array Oper} {Q : Exit → Act → World → Prop} {id : Nat} {a : Act} {w : World} (ups : List (Nat × Value)) (n : Nat) (ks : List Nat) (hn : a.tmps.size = n) (hks : ups.map (·.1) = ks) (hnd : ks.Nodup) (hD : ((List.range ops.size).all fun j => match (ops[j]?).bind (·.dst) with | some s => decide (s < n) && (ups.lookup s).isSome | none => true) = true) (st : (Nat → Bool) → World → Prop) (hm : P.follows .mixedOrders = true) (h0 : st (fun _ => false) w.drew)
    (hB : drawn2B ops n = true) (hC : coverB ops n (restOf n ks) = true)
    (hstep : ∀ (l : Nat → Bool) (T : Act) (v : World) (i : Nat) (o : Oper), ops[i]? = some o → l i = false → (∀ e ∈ o.after, Region.binds .any e = true → l e.on = true) → st l v →
      (∀ s, (decide (s < n) && !ks.contains s) = true → T.tmps[s]? = a.tmps[s]?) → (∀ (j : Nat) (o' : Oper) (s : Nat), ops[j]? = some o' → l j = true → o'.dst = some s → T.tmps[s]? = ups.lookup s) → Closed ops l →
      ∀ K : Act → World → Prop, (∀ u v', (∀ s, o.dst = some s → some u = ups.lookup s) → st (fun j => if j = i then true else l j) v' → K (T.put o.dst u) v') →
        if Region.wanted o (yielded ops T.tmps) = true then o.wp P T v K Q else K (T.put o.dst undef) v)
    (hend : ∀ (l : Nat → Bool) (v : World), (∀ j, j < ops.size → l j = true) → st l v → Q .normal ⟨(setAll a.tmps.toList ups).toArray, a.defers⟩ v) :
    (Code.region id ops true).wp P Q a w := by
  subst hn hks
  have key : ∀ (j : Nat) (o' : Oper) (s : Nat), ops[j]? = some o' → o'.dst = some s → some ((setAll a.tmps.toList ups).getD s undef) = ups.lookup s := fun j o' s h1 h2 => by
    have hj := (Array.getElem?_eq_some_iff.1 h1).1
    have h3 := List.all_eq_true.1 hD j (List.mem_range.2 hj)
    rw [h1] at h3
    simp only [Option.bind_some, h2, Bool.and_eq_true, decide_eq_true_eq] at h3
    obtain ⟨v, hv⟩ := Option.isSome_iff_exists.1 h3.2
    rw [hv, List.getD_eq_getElem?_getD, setAll_lookup s v ups _ hnd (by simpa using h3.1) hv]
    rfl
  refine wp_region_lit1 (setAll a.tmps.toList ups) a.tmps.size (restOf a.tmps.size (ups.map (·.1))) st a.defers hm (by rw [setAll_length]; simp) rfl rfl ?_ h0 hB hC ?_ hend
  · apply List.map_congr_left
    intro s hs
    obtain ⟨h1, h2⟩ := List.mem_filter.1 hs
    have hlt : s < a.tmps.size := List.mem_range.1 h1
    have hk : s ∉ ups.map (·.1) := by simpa using h2
    have h3 := setAll_other s ups a.tmps.toList hk
    rw [List.getD_eq_getElem?_getD, h3]
    simp [hlt]
  · intro l T v i o ho hl hdep hst hpar hgot hcl K hK
    refine hstep l T v i o ho hl hdep hst (fun s hs => ?_) (fun j o' s h1 h2 h3 => ?_) hcl K (fun u v' hu hv => hK u v' (fun s hs => ?_) hv)
    · rw [Bool.and_eq_true, decide_eq_true_eq] at hs
      have hk : s ∉ ups.map (·.1) := by simpa using hs.2
      rw [hpar s (List.mem_filter.2 ⟨List.mem_range.2 hs.1, hs.2⟩), List.getD_eq_getElem?_getD, setAll_other s ups a.tmps.toList hk]
      simp [hs.1]
    · rw [hgot j o' s h1 h2 h3, key j o' s h1 h3]
    · have h1 := hu s hs
      have h2 := key i o s ho hs
      rw [← h1] at h2
      exact (Option.some.inj h2).symm
theorem lookup_some {s : Nat} : ∀ l : List (Nat × Value), s ∈ l.map (·.1) → ∃ v, l.lookup s = some v := by
  intro l
  induction l with
  | nil => intro h; cases h
  | cons p l ih =>
    intro h
    by_cases hs : s = p.1
    · subst hs
      exact ⟨p.2, by simp [List.lookup]⟩
    · have hb : (s == p.1) = false := by simpa using hs
      rcases List.mem_cons.1 (by simpa using h : s ∈ p.1 :: l.map (·.1)) with h1 | h1
      · exact absurd h1 hs
      · obtain ⟨v, hv⟩ := ih h1
        exact ⟨v, by simp [List.lookup, hb, hv]⟩
theorem wp_region_upx {P : Program} {X : Type} {ops : Array Oper} {Q : Exit → Act → World → Prop} {id : Nat} {a : Act} {w : World} (x0 : X) (ups : X → List (Nat × Value)) (n : Nat) (ks : List Nat) (hn : a.tmps.size = n) (hks : ∀ x, (ups x).map (·.1) = ks) (hnd : ks.Nodup) (hD : ((List.range ops.size).all fun j => match (ops[j]?).bind (·.dst) with | some s => decide (s < n) && ks.contains s | none => true) = true) (st : X → (Nat → Bool) → World → Prop) (hm : P.follows .mixedOrders = true) (h0 : st x0 (fun _ => false) w.drew)
    (hB : drawn2B ops n = true) (hC : coverB ops n (restOf n ks) = true)
    (hstep : ∀ (x : X) (l : Nat → Bool) (T : Act) (v : World) (i : Nat) (o : Oper), ops[i]? = some o → l i = false → (∀ e ∈ o.after, Region.binds .any e = true → l e.on = true) → st x l v →
      (∀ s, (decide (s < n) && !ks.contains s) = true → T.tmps[s]? = a.tmps[s]?) → (∀ (j : Nat) (o' : Oper) (s : Nat), ops[j]? = some o' → l j = true → o'.dst = some s → T.tmps[s]? = (ups x).lookup s) → Closed ops l →
      ∀ K : Act → World → Prop, (∀ x' u v', (∀ (j : Nat) (o' : Oper) (s : Nat), ops[j]? = some o' → l j = true → o'.dst = some s → (ups x').lookup s = (ups x).lookup s) → (∀ s, o.dst = some s → some u = (ups x').lookup s) → st x' (fun j => if j = i then true else l j) v' → K (T.put o.dst u) v') →
        if Region.wanted o (yielded ops T.tmps) = true then o.wp P T v K Q else K (T.put o.dst undef) v)
    (hend : ∀ (x : X) (l : Nat → Bool) (v : World), (∀ j, j < ops.size → l j = true) → st x l v → Q .normal ⟨(setAll a.tmps.toList (ups x)).toArray, a.defers⟩ v) :
    (Code.region id ops true).wp P Q a w := by
  subst hn
  have key : ∀ (x : X) (j : Nat) (o' : Oper) (s : Nat), ops[j]? = some o' → o'.dst = some s → some ((setAll a.tmps.toList (ups x)).getD s undef) = (ups x).lookup s := fun x j o' s h1 h2 => by
    have hj := (Array.getElem?_eq_some_iff.1 h1).1
    have h3 := List.all_eq_true.1 hD j (List.mem_range.2 hj)
    rw [h1] at h3
    simp only [Option.bind_some, h2, Bool.and_eq_true, decide_eq_true_eq] at h3
    have h4 : s ∈ (ups x).map (·.1) := by rw [hks]; simpa using h3.2
    obtain ⟨v, hv⟩ := lookup_some _ h4
    rw [hv, List.getD_eq_getElem?_getD, setAll_lookup s v (ups x) _ (by rw [hks]; exact hnd) (by simpa using h3.1) hv]
    rfl
  have oth : ∀ (x : X) (s : Nat), s < a.tmps.size → s ∉ ks → (setAll a.tmps.toList (ups x))[s]? = a.tmps.toList[s]? := fun x s _ hk => setAll_other s (ups x) a.tmps.toList (by rw [hks]; exact hk)
  refine wp_region_lit x0 (fun x => setAll a.tmps.toList (ups x)) a.tmps.size (restOf a.tmps.size ks) st a.defers hm (fun x => by rw [setAll_length]; simp) rfl rfl ?_ (fun x => ?_) h0 hB hC ?_ hend
  · apply List.map_congr_left
    intro s hs
    obtain ⟨h1, h2⟩ := List.mem_filter.1 hs
    have hlt : s < a.tmps.size := List.mem_range.1 h1
    have hk : s ∉ ks := by simpa using h2
    rw [List.getD_eq_getElem?_getD, oth x0 s hlt hk]
    simp [hlt]
  · apply List.map_congr_left
    intro s hs
    obtain ⟨h1, h2⟩ := List.mem_filter.1 hs
    have hlt : s < a.tmps.size := List.mem_range.1 h1
    have hk : s ∉ ks := by simpa using h2
    rw [List.getD_eq_getElem?_getD, List.getD_eq_getElem?_getD, oth x s hlt hk, oth x0 s hlt hk]
  · intro x l T v i o ho hl hdep hst hpar hgot hcl K hK
    refine hstep x l T v i o ho hl hdep hst (fun s hs => ?_) (fun j o' s h1 h2 h3 => ?_) hcl K (fun x' u v' hx hu hv => hK x' u v' (fun j o' s g1 g2 g3 => ?_) (fun s hs => ?_) hv)
    · rw [Bool.and_eq_true, decide_eq_true_eq] at hs
      have hk : s ∉ ks := by simpa using hs.2
      rw [hpar s (List.mem_filter.2 ⟨List.mem_range.2 hs.1, hs.2⟩), List.getD_eq_getElem?_getD, oth x s hs.1 hk]
      simp [hs.1]
    · rw [hgot j o' s h1 h2 h3, key x j o' s h1 h3]
    · have e1 := key x' j o' s g1 g3
      have e2 := key x j o' s g1 g3
      rw [hx j o' s g1 g2 g3, ← e2] at e1
      exact Option.some.inj e1
    · have h1 := hu s hs
      have h2 := key x' i o s ho hs
      rw [← h1] at h2
      exact (Option.some.inj h2).symm
end
end Go.Proofs.YtbacmeaeehhhfaaDoor
