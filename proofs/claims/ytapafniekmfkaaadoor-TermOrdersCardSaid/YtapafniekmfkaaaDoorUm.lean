/-
  The document's Bytes of a text (a slot that is not yet written holds what it held), its Bytes, whole; TermEncodes. My own work.
-/
import Derived.Test.YtapafniekmfkaaaDoorGd
import Derived.Test.YtapafniekmfkaaaDoorUk
import Derived.Test.YtapafniekmfkaaaDoorOct
import Derived.Laws.IdiomStrings
import Derived.Test.YtapafniekmfkaaaDoorUc
import Derived.Test.YtapafniekmfkaaaDoorRef
namespace Go.Proofs.YtapafniekmfkaaaDoor
open Go.RowKit Go.Shelf
section
variable {P : Program} {ops : Array Oper} {Q : Exit → Act → World → Prop}
theorem wp_region_detxo {X : Type} {id : Nat} {a : Act} {w : World} (x0 : X) (nt : Nat) (E : X → Nat → Value) (ps : List Nat) (st : X → (Nat → Bool) → World → Prop) (ds : List Deferred) (hm : P.follows .mixedOrders = true)
    (ht : a.tmps.size = nt) (hd : a.defers = ds) (hp : ∀ s ∈ ps, a.tmps[s]? = some (E x0 s)) (h0 : st x0 (fun _ => false) w.drew)
    (hlt : ∀ (i : Nat) (o : Oper), ops[i]? = some o → ∀ e ∈ o.after, Region.binds .any e = true → e.on < i) (hdst : ∀ (i : Nat) (o : Oper) (s : Nat), ops[i]? = some o → o.dst = some s → s < nt)
    (hstep : ∀ (x : X) (l : Nat → Bool) (T : Act) (v : World) (i : Nat) (o : Oper), ops[i]? = some o → l i = false → (∀ e ∈ o.after, Region.binds .any e = true → l e.on = true) → st x l v →
      (∀ s ∈ ps, T.tmps[s]? = some (E x s)) → (∀ (j : Nat) (o' : Oper) (s : Nat), ops[j]? = some o' → l j = true → o'.dst = some s → T.tmps[s]? = some (E x s)) → T.defers = ds → (∀ s, (∀ (j : Nat) (o' : Oper), ops[j]? = some o' → l j = true → o'.dst ≠ some s) → T.tmps[s]? = a.tmps[s]?) →
      ∀ K : Act → World → Prop, (∀ x' u v', (∀ s ∈ ps, E x' s = E x s) → (∀ (j : Nat) (o' : Oper) (s : Nat), ops[j]? = some o' → l j = true → o'.dst = some s → E x' s = E x s) → (∀ s, o.dst = some s → u = E x' s) → st x' (fun j => if j = i then true else l j) v' → K (T.put o.dst u) v') →
        if Region.wanted o (yielded ops T.tmps) = true then o.wp P T v K Q else K (T.put o.dst undef) v)
    (hend : ∀ (x : X) (l : Nat → Bool) (T : Act) (v : World), (∀ j, j < ops.size → l j = true) → st x l v → T.tmps.size = nt → T.defers = ds → (∀ s ∈ ps, T.tmps[s]? = some (E x s)) →
      (∀ (j : Nat) (o' : Oper) (s : Nat), ops[j]? = some o' → o'.dst = some s → T.tmps[s]? = some (E x s)) → Q .normal T v) :
    (Code.region id ops true).wp P Q a w := by
  refine wp_region_any hm ?_
  refine wpAny_inv2 (fun listed T v => (∃ x, Drawn ops nt (E x) ps (st x) ds listed T v) ∧ ∀ s, (∀ (j : Nat) (o' : Oper), ops[j]? = some o' → listed.getD j false = true → o'.dst ≠ some s) → T.tmps[s]? = a.tmps[s]?) (fun _ _ _ ⟨⟨_, h⟩, _⟩ => h.size) ?_ ?_ hlt ops.size _ a _ ?_ ?_
  · rintro listed T v i o ⟨⟨x, hI⟩, hold0⟩ ho hi hdep K hK
    have hio : i < ops.size := (Array.getElem?_eq_some_iff.1 ho).1
    have hil : i < listed.size := by rw [hI.size]; exact hio
    have hi' : listed.getD i false = false := by
      simp only [Array.getD, hil, dite_true] at hi ⊢
      exact hi
    refine hstep x (fun j => listed.getD j false) T v i o ho hi' hdep hI.wor hI.par hI.got hI.defs hold0 K (fun x' u v' hps hold hu hv' => hK _ _ ⟨⟨x', ?_⟩, ?_⟩)
    rotate_left
    · intro s hs
      have h1 : o.dst ≠ some s := hs i o ho (by rw [getD_set _ _ _ hil]; simp)
      have h2 : T.tmps[s]? = a.tmps[s]? := hold0 s (fun j o' g1 g2 => hs j o' g1 (by rw [getD_set _ _ _ hil]; split <;> simp [g2]))
      unfold Act.put
      cases hds : o.dst with
      | none => exact h2
      | some d =>
        show (T.tmps.setIfInBounds d u)[s]? = _
        rw [Array.getElem?_setIfInBounds, if_neg (by rintro rfl; exact h1 hds)]
        exact h2
    have hput : ∀ s y, T.tmps[s]? = some y → (o.dst = some s → y = u) → (T.put o.dst u).tmps[s]? = some y := by
      intro s y hx hsx
      unfold Act.put
      cases hds : o.dst with
      | none => exact hx
      | some d =>
        show (T.tmps.setIfInBounds d u)[s]? = some y
        rw [Array.getElem?_setIfInBounds]
        by_cases hd' : d = s
        · subst hd'
          have hlt' : d < T.tmps.size := (Array.getElem?_eq_some_iff.1 hx).1
          simp [hlt', hsx hds]
        · simp [hd', hx]
    refine ⟨by simpa using hI.size, ?_, ?_, fun s hs' => hput s _ (by rw [hps s hs']; exact hI.par s hs') (fun h => (hu s h).symm), ?_, ?_⟩
    · unfold Act.put
      split <;> simp [hI.tsize]
    · unfold Act.put
      split <;> exact hI.defs
    · intro j o' s hj hl hs'
      rw [getD_set _ _ _ hil] at hl
      by_cases hji : j = i
      · subst hji
        rw [ho] at hj
        cases hj
        unfold Act.put
        rw [hs']
        show (T.tmps.setIfInBounds s u)[s]? = _
        have hsl : s < T.tmps.size := by rw [hI.tsize]; exact hdst _ _ _ ho hs'
        simp [hsl, hu s hs']
      · rw [if_neg hji] at hl
        exact hput s _ (by rw [hold j o' s hj hl hs']; exact hI.got j o' s hj hl hs') (fun h => (hu s h).symm)
    · have : (fun j => (listed.setIfInBounds i true).getD j false) = (fun j => if j = i then true else listed.getD j false) := funext fun j => getD_set _ _ _ hil
      rw [this]
      exact hv'
  · rintro listed T v ⟨⟨x, hI⟩, _⟩ hl
    exact hend x _ T v hl hI.wor hI.tsize hI.defs hI.par (fun j o' s hj hs' => hI.got j o' s hj (hl j (Array.getElem?_eq_some_iff.1 hj).1) hs')
  · have : ∀ n : Nat, (List.replicate n false).countP (fun b => !b) ≤ n := fun n => Nat.le_trans List.countP_le_length (by simp)
    simpa using this ops.size
  · refine ⟨⟨x0, by simp, ht, hd, hp, fun j o s _ hl _ => ?_, ?_⟩, fun _ _ => rfl⟩
    · simp [Array.getD] at hl
    · have : (fun j => (Array.replicate ops.size false).getD j false) = (fun _ => false) := by
        funext j
        simp [Array.getD]
      rw [this]
      exact h0
theorem wp_region_lito {X : Type} {id : Nat} {a : Act} {w : World} (x0 : X) (F : X → List Value) (nt : Nat) (ps : List Nat) (st : X → (Nat → Bool) → World → Prop) (ds : List Deferred) (hm : P.follows .mixedOrders = true)
    (hF : ∀ x, (F x).length = nt) (ht : a.tmps.size = nt) (hd : a.defers = ds) (hp : ps.map (fun s => a.tmps[s]?) = ps.map (fun s => some ((F x0).getD s undef))) (hx : ∀ x, ps.map (fun s => (F x).getD s undef) = ps.map (fun s => (F x0).getD s undef)) (h0 : st x0 (fun _ => false) w.drew)
    (hB : drawn2B ops nt = true) (hC : coverB ops nt ps = true)
    (hstep : ∀ (x : X) (l : Nat → Bool) (T : Act) (v : World) (i : Nat) (o : Oper), ops[i]? = some o → l i = false → (∀ e ∈ o.after, Region.binds .any e = true → l e.on = true) → st x l v →
      (∀ s, s ∈ ps → T.tmps[s]? = some ((F x).getD s undef)) → (∀ (j : Nat) (o' : Oper) (s : Nat), ops[j]? = some o' → l j = true → o'.dst = some s → T.tmps[s]? = some ((F x).getD s undef)) → Closed ops l → T.defers = ds → (∀ s, (∀ (j : Nat) (o' : Oper), ops[j]? = some o' → l j = true → o'.dst ≠ some s) → T.tmps[s]? = a.tmps[s]?) →
      ∀ K : Act → World → Prop, (∀ x' u v', (∀ (j : Nat) (o' : Oper) (s : Nat), ops[j]? = some o' → l j = true → o'.dst = some s → (F x').getD s undef = (F x).getD s undef) → (∀ s, o.dst = some s → u = (F x').getD s undef) → st x' (fun j => if j = i then true else l j) v' → K (T.put o.dst u) v') →
        if Region.wanted o (yielded ops T.tmps) = true then o.wp P T v K Q else K (T.put o.dst undef) v)
    (hend : ∀ (x : X) (l : Nat → Bool) (v : World), (∀ j, j < ops.size → l j = true) → st x l v → Q .normal ⟨(F x).toArray, ds⟩ v) :
    (Code.region id ops true).wp P Q a w := by
  refine wp_region_detxo x0 nt (fun x s => (F x).getD s undef) ps (fun x l v => st x l v ∧ Closed ops l) ds hm ht hd (map_mem hp) ⟨h0, fun _ _ _ h => by cases h⟩ (drawn2B_lt hB) (drawn2B_dst hB) ?_ ?_
  · intro x l T v i o ho hl hdep hst hpar hgot hdf hold K hK
    exact hstep x l T v i o ho hl hdep hst.1 hpar hgot hst.2 hdf hold K (fun x' u v' h1 h2 h3 => hK x' u v' (fun s hs => by
      have e1 := map_mem (hx x') s hs
      have e2 := map_mem (hx x) s hs
      exact e1.trans e2.symm) h1 h2 ⟨h3, hst.2.add ho hdep⟩)
  · intro x l T v hl hst hts hds hpar hgot
    have hall : ∀ s, s < nt → T.tmps[s]? = some ((F x).getD s undef) := fun s hs => by
      rcases coverB_or hC s hs with h | ⟨j, o, hj, ho⟩
      · exact hpar s h
      · exact hgot j o s hj ho
    have hT : T = ⟨(F x).toArray, ds⟩ := by
      obtain ⟨tm, df⟩ := T
      have h1 : tm = (F x).toArray := by
        apply Array.ext_getElem?
        intro s
        by_cases hs : s < nt
        · rw [show tm[s]? = _ from hall s hs]
          have hl' : s < (F x).length := by rw [hF]; exact hs
          simp [List.getD_eq_getElem?_getD, hl']
        · rw [Array.getElem?_eq_none (by rw [show tm.size = nt from hts]; omega), Array.getElem?_eq_none (by simp [hF]; omega)]
      rw [h1, show df = ds from hds]
    rw [hT]
    exact hend x l v hl hst.1
end
theorem wp_region_upxo {P : Program} {X : Type} {ops : Array Oper} {Q : Exit → Act → World → Prop} {id : Nat} {a : Act} {w : World} (x0 : X) (ups : X → List (Nat × Value)) (n : Nat) (ks : List Nat) (hn : a.tmps.size = n) (hks : ∀ x, (ups x).map (·.1) = ks) (hnd : ks.Nodup) (hD : ((List.range ops.size).all fun j => match (ops[j]?).bind (·.dst) with | some s => decide (s < n) && ks.contains s | none => true) = true) (st : X → (Nat → Bool) → World → Prop) (hm : P.follows .mixedOrders = true) (h0 : st x0 (fun _ => false) w.drew)
    (hB : drawn2B ops n = true) (hC : coverB ops n (restOf n ks) = true)
    (hstep : ∀ (x : X) (l : Nat → Bool) (T : Act) (v : World) (i : Nat) (o : Oper), ops[i]? = some o → l i = false → (∀ e ∈ o.after, Region.binds .any e = true → l e.on = true) → st x l v →
      (∀ s, (decide (s < n) && !ks.contains s) = true → T.tmps[s]? = a.tmps[s]?) → (∀ (j : Nat) (o' : Oper) (s : Nat), ops[j]? = some o' → l j = true → o'.dst = some s → T.tmps[s]? = (ups x).lookup s) → Closed ops l → T.defers = a.defers → (∀ s, (∀ (j : Nat) (o' : Oper), ops[j]? = some o' → l j = true → o'.dst ≠ some s) → T.tmps[s]? = a.tmps[s]?) →
      ∀ K : Act → World → Prop, (∀ x' u v', (∀ (j : Nat) (o' : Oper) (s : Nat), ops[j]? = some o' → l j = true → o'.dst = some s → (ups x').lookup s = (ups x).lookup s) → (∀ s, o.dst = some s → some u = (ups x').lookup s) → st x' (fun j => if j = i then true else l j) v' → K (T.put o.dst u) v') →
        if Region.wanted o (yielded ops T.tmps) = true then o.wp P T v K Q else K (T.put o.dst undef) v)
    (hend : ∀ (x : X) (l : Nat → Bool) (v : World), (∀ j, j < ops.size → l j = true) → st x l v → Q .normal ⟨(setAll a.tmps.toList (ups x)).toArray, a.defers⟩ v) :
    (Code.region id ops true).wp P Q a w := by
  subst hn
  have key : ∀ (x : X) (j : Nat) (o' : Oper) (s : Nat), ops[j]? = some o' → o'.dst = some s → some ((setAll a.tmps.toList (ups x)).getD s undef) = (ups x).lookup s := fun x j o' s h1 h2 => by
    have hj := (Array.getElem?_eq_some_iff.1 h1).1
    have h3 := List.all_eq_true.1 hD j (List.mem_range.2 hj)
    rw [h1] at h3
    simp only [Option.bind_some, h2, Bool.and_eq_true, decide_eq_true_eq] at h3
    have h4 : s ∈ (ups x).map (·.1) := by rw [hks]; simpa using h3.2
    obtain ⟨v, hv⟩ := lookup_some _ h4
    rw [hv, List.getD_eq_getElem?_getD, setAll_lookup s v (ups x) _ (by rw [hks]; exact hnd) (by simpa using h3.1) hv]
    rfl
  have oth : ∀ (x : X) (s : Nat), s < a.tmps.size → s ∉ ks → (setAll a.tmps.toList (ups x))[s]? = a.tmps.toList[s]? := fun x s _ hk => setAll_other s (ups x) a.tmps.toList (by rw [hks]; exact hk)
  refine wp_region_lito x0 (fun x => setAll a.tmps.toList (ups x)) a.tmps.size (restOf a.tmps.size ks) st a.defers hm (fun x => by rw [setAll_length]; simp) rfl rfl ?_ (fun x => ?_) h0 hB hC ?_ hend
  · apply List.map_congr_left
    intro s hs
    obtain ⟨h1, h2⟩ := List.mem_filter.1 hs
    have hlt : s < a.tmps.size := List.mem_range.1 h1
    have hk : s ∉ ks := by simpa using h2
    rw [List.getD_eq_getElem?_getD, oth x0 s hlt hk]
    simp [hlt]
  · apply List.map_congr_left
    intro s hs
    obtain ⟨h1, h2⟩ := List.mem_filter.1 hs
    have hlt : s < a.tmps.size := List.mem_range.1 h1
    have hk : s ∉ ks := by simpa using h2
    rw [List.getD_eq_getElem?_getD, List.getD_eq_getElem?_getD, oth x s hlt hk, oth x0 s hlt hk]
  · intro x l T v i o ho hl hdep hst hpar hgot hcl hdf hold K hK
    refine hstep x l T v i o ho hl hdep hst (fun s hs => ?_) (fun j o' s h1 h2 h3 => ?_) hcl hdf hold K (fun x' u v' hx hu hv => hK x' u v' (fun j o' s g1 g2 g3 => ?_) (fun s hs => ?_) hv)
    · rw [Bool.and_eq_true, decide_eq_true_eq] at hs
      have hk : s ∉ ks := by simpa using hs.2
      rw [hpar s (List.mem_filter.2 ⟨List.mem_range.2 hs.1, hs.2⟩), List.getD_eq_getElem?_getD, oth x s hs.1 hk]
      simp [hs.1]
    · rw [hgot j o' s h1 h2 h3, key x j o' s h1 h3]
    · have e1 := key x' j o' s g1 g3
      have e2 := key x j o' s g1 g3
      rw [hx j o' s g1 g2 g3, ← e2] at e1
      exact Option.some.inj e1
    · have h1 := hu s hs
      have h2 := key x' i o s ho hs
      rw [← h1] at h2
      exact (Option.some.inj h2).symm
end Go.Proofs.YtapafniekmfkaaaDoor
namespace Go.Proofs.YtapafniekmfkaaaDoor
open Go.RowKit Go.Shelf
set_option linter.unusedVariables false
set_option linter.unusedSimpArgs false
theorem exec_lit27 {v : World} {o : Oper} {ρ : Operand → Value} {x : Operand} {b : UInt8} (ho : o.op = .buildSlice 27 1 #[(0, x)]) (hx : ρ x = oct b) : (execOp ρ o).run Tryd.prog v = .ok (.value (.slice (some ⟨v.heap.size, 0, none⟩) 1 1)) (v.alloc (.cells [oct b].toArray 5)) := by
  unfold execOp
  simp only [ho, List.map_toArray, List.map_cons, List.map_nil, hx, Sem.run_bind, run_lit27, Result.andThen, Sem.run_pure]
theorem run_app27 {v : World} {A : Option Addr} {g c m d : Nat} {l k : List UInt8} (ty : TypeId) (hown : Owns v 0 5 A c l) (hm : m = k.length) (hr : Holds v g 5 (k.map oct)) (hk : l.length + k.length ≤ 2000000000) :
    ∃ A' c' v', (Builtin.append_ #[27, 27] ty #[.slice A l.length c, .slice (some ⟨g, 0, none⟩) m d]).run Tryd.prog v = .ok (.slice A' (l ++ k).length c') v' ∧ Owns v' 0 5 A' c' (l ++ k) ∧ Mod (blk A) v v' ∧ (∀ a, A' = some a → a.block ∈ blk A ∨ v.heap.size ≤ a.block) := by
  subst hm
  obtain ⟨i, hi, hz, hsize, hb⟩ := info5
  have hcells : ∀ j u, (k.map oct)[j]? = some u → v.cell? ((⟨g, 0, none⟩ : Addr).add j) = some u := by
    intro j u hu
    have := hr.cell j
    rw [hu] at this
    rw [addr_add, Nat.zero_add]
    exact this
  obtain ⟨v', w', hrun, hown', hgr, _, hbl⟩ := run_append_own_at (P := Tryd.prog) v 0 27 ty 5 i (.int .u8 0) 1 1 Tryd.underlying27 hi hz hsize hb (by with_unfolding_all rfl) (by omega) _ _ _ hown ⟨g, 0, none⟩ k.length d (k.map oct) (by simp) hcells (octs_one k) (by unfold maxLen; omega) (by omega) (Nat.zero_le _)
  have hv : ∃ A' c', v' = .slice A' (l ++ k).length c' := by
    rcases hown'.2 with ⟨hv, hn⟩ | ⟨g, cap, cur, hv, _⟩
    · exact ⟨none, 0, by rw [hv, List.length_append, hn]⟩
    · exact ⟨_, _, by rw [hv, List.length_append]⟩
  obtain ⟨A', c', rfl⟩ := hv
  have hO : Owns w' 0 5 A' c' (l ++ k) := by
    have := hown'
    rw [← List.length_append, ← List.map_append] at this
    exact this
  have hob : ∀ (A : Option Addr) n c, (Value.slice A n c).ownBlock = A.map (·.block) := by intro A n c; cases A <;> rfl
  rw [hob] at hgr
  rw [hob, hob] at hbl
  refine ⟨A', c', w', hrun, hO, ⟨hgr.os, hgr.tape, hgr.output, hgr.size, fun j hj hn => hgr.block j hj ?_⟩, ?_⟩
  · intro hh
    exact hn (by unfold blk; rw [← hh]; simp)
  · intro b hb
    subst hb
    rcases hbl with hh | hh
    · left; unfold blk; rw [← hh]; simp
    · right
      simp at hh
      omega
theorem exec_conv927 (v : World) (s : ByteArray) :
    ∃ v' c, (∀ (o : Oper) (ρ : Operand → Value) (x : Operand), o.op = .convert 9 27 x → ρ x = .string s → (execOp ρ o).run Tryd.prog v = .ok (.value (.slice (some ⟨v.heap.size, 0, none⟩) s.size c)) v') ∧ Reads v' (some ⟨v.heap.size, 0, none⟩) s.data.toList ∧ Mod [] v v' := by
  have hrun := run_bytes_of_string (P := Tryd.prog) v 9 27 5 s Tryd.underlying9 Tryd.underlying27 Tryd.underlying5
  refine ⟨v.drew.alloc (.cells (bytesRow s (grownCap v s.size 0 5)) 5 ((bytesRow s (grownCap v s.size 0 5)).size, (bytesRow s (grownCap v s.size 0 5)).size + 1)), grownCap v s.size 0 5, ?_, ?_, (Mod.drew [] v).then (Mod.alloc [] v.drew _)⟩
  · intro o ρ x ho hx
    unfold execOp
    simp only [ho, Sem.run_bind, hx, hrun, Result.andThen, Sem.run_pure]
  · intro j hj
    have hj' : j < s.data.size := by simpa using hj
    refine ⟨v.heap.size, 0, rfl, ?_⟩
    have hn : (v.drew.alloc (.cells (bytesRow s (grownCap v s.size 0 5)) 5 ((bytesRow s (grownCap v s.size 0 5)).size, (bytesRow s (grownCap v s.size 0 5)).size + 1))).heap[v.heap.size]? = some (.cells (bytesRow s (grownCap v s.size 0 5)) 5 ((bytesRow s (grownCap v s.size 0 5)).size, (bytesRow s (grownCap v s.size 0 5)).size + 1)) := by
      show (v.heap.push _)[v.heap.size]? = _
      simp
    have hc : (bytesRow s (grownCap v s.size 0 5))[j]? = some (oct s.data.toList[j]) := by
      unfold bytesRow
      rw [Array.getElem?_append_left (by simpa using hj')]
      simp
      exact ⟨s.data[j], by rw [Array.getElem?_eq_getElem hj'], rfl⟩
    simp only [World.cell?]
    rw [hn]
    simpa using hc
/-- What the steps make. -/
structure XB where
  y : Nat
  D : Nat
  g : Nat
  A : Option Addr
  c : Nat
  e : Nat
set_option maxRecDepth 1000000 in
set_option maxHeartbeats 4000000 in
theorem rbytes_T (k u n : Int) (s : ByteArray) (K : Option Addr) (len cc : Nat) (w : World) (hk : k = 1) (hl0 : len = 0) (hs : s.size ≤ 64) (LH : List UInt8) (hLH : LH = ([Tm.b8 k] ++ [Tm.b8 (s.size : Int)]) ++ s.data.toList) (nh : Nat) (hnh : nh = LH.length) :
    Calls Tryd.prog 20 #[.agg (tmc k u n s K len cc).toArray] w fun e w' => ∃ A c, e = .returned (.slice A nh c) ∧ Made w A c LH w' := by
  have BU := fun v => ruser_c k v
  have BN := fun v => rnum_c k v
  rw [show Tm.hasU k = false by rw [hk]; rfl] at BU
  rw [show Tm.hasN k = false by rw [hk]; rfl] at BN
  have k0 : 0 ≤ k := by omega
  have k1 : k < 256 := by omega
  have hke : (k == 1) = true := by simpa using hk
  have hss : s.size = s.data.toList.length := by rw [Array.length_toList]; rfl
  have HLH := Lib.hid (And.intro hLH (And.intro hnh (show LH.length ≤ 2000000000 by rw [hLH]; simp only [List.length_append, ← hss, List.length_cons, List.length_nil]; omega)))
  have HSS := Lib.hid hss
  have hll : ¬ 0 < len := by omega
  clear hk hLH hnh hss hl0
  go_enter Tryd.func20, Tryd.ntmps20
  go_wp2_with (first
    | (with_reducible refine wpList_boxes (o := ⟨some 1, .box 24 (.tmp 0), _, _, _, _⟩) rfl 24 (.tmp 0) rfl _ rfl (tmc k u n s K len cc) rfl ?_; intro w1 hb m1 z1
       obtain ⟨b1, hq1⟩ : ∃ b, b = w.heap.size := ⟨_, rfl⟩
       rw [← hq1] at hb ⊢
       have hb1 := hb.lt
       have e0 := hb.cell 0
       simp only [tmc, List.getElem?_cons_succ, List.getElem?_cons_zero] at e0
       clear z1 hq1)
    | (with_reducible refine wpList_ranW (o := ⟨some 7, .convert 3 5 (.tmp 6), _, _, _, _⟩) (by with_unfolding_all rfl) (oct (Tm.b8 k)) _ (exec_c8 k0 k1 rfl rfl) ?_)
    | (with_reducible refine wpList_lits (o := ⟨some 8, .buildSlice 27 1 _, _, _, _, _⟩) rfl 27 5 1 _ rfl [oct (Tm.b8 k)] ?_ ?_
       · with_unfolding_all exact run_lit27 _ _
       intro x1 hx mx zx
       clear zx
       have g1 : Made w1 (some ⟨w1.heap.size, 0, none⟩) 1 [Tm.b8 k] x1 := Made.lit (l := [Tm.b8 k]) hx mx (Nat.le_refl _) (by simp [maxLen])
       obtain ⟨A1, hA1⟩ : ∃ A, A = (some ⟨w1.heap.size, 0, none⟩ : Option Addr) := ⟨_, rfl⟩
       rw [← hA1] at g1 ⊢
       replace hb := hb.keep mx (by simp)
       clear hx mx e0 hA1
       have e0 := hb.cell 0
       simp only [tmc, List.getElem?_cons_succ, List.getElem?_cons_zero] at e0))
  have hss := HSS.out
  obtain ⟨wq, hwq⟩ : ∃ wq, wq = x1.heap.size := ⟨_, rfl⟩
  have HA1 : ∀ a, A1 = some a → a.block < wq := fun a ha => by rw [hwq]; exact (g1.own.fits.2.2 a ha).2
  refine wp_region_upxo (X := XB) ⟨0, 0, 0, none, 0, 0⟩ (fun x => [(12, .slice A1 1 1), (13, .pointer (some ⟨b1, 3, none⟩)), (14, .string s), (15, .int .i64 (s.size : Int)), (16, oct (Tm.b8 (s.size : Int))), (17, .slice (some ⟨x.y, 0, none⟩) 1 1), (18, .slice x.A 2 x.c), (19, .pointer (some ⟨b1, 3, none⟩)), (20, .string s), (21, .slice (some ⟨x.D, 0, none⟩) s.size x.e), (22, .slice (some ⟨x.g, 0, none⟩) nh nh), (3, .slice (some ⟨x.g, 0, none⟩) nh nh)]) 57 [12, 13, 14, 15, 16, 17, 18, 19, 20, 21, 22, 3] rfl (fun _ => rfl) (by decide) (by kernel_rfl) (fun x lz v => (Mod [] w1 v ∧ wq ≤ v.heap.size) ∧ Holds v b1 24 (tmc k u n s K len cc) ∧ (lz 6 = false → Made w1 A1 1 [Tm.b8 k] v) ∧ (lz 5 = true → wq ≤ x.y ∧ x.y < v.heap.size ∧ Holds v x.y 5 ([Tm.b8 (s.size : Int)].map oct)) ∧ (lz 6 = true → Made w1 x.A x.c ([Tm.b8 k] ++ [Tm.b8 (s.size : Int)]) v) ∧ (lz 9 = true → (wq ≤ x.D) ∧ Reads v (some ⟨x.D, 0, none⟩) s.data.toList) ∧ (lz 10 = true → Made w1 (some ⟨x.g, 0, none⟩) nh LH v)) (by kernel_rfl) ⟨⟨(Made.mod g1).then (Mod.drew [] x1), Nat.le_of_eq hwq⟩, hb.keep (Mod.drew [] x1) (by simp), fun _ => g1.then (Mod.drew [] x1), fun h => (by cases h), fun h => (by cases h), fun h => (by cases h), fun h => (by cases h)⟩ (by kernel_rfl) (by kernel_rfl) ?step ?fin
  case step =>
    intro x lz T v j o hj hlj hdep hst hpar hgot hcl hdf hold Kq hK
    have hjn : j < 12 := (Array.getElem?_eq_some_iff.1 hj).1
    obtain rfl | rfl | rfl | rfl | rfl | rfl | rfl | rfl | rfl | rfl | rfl | rfl : j = 0 ∨ j = 1 ∨ j = 2 ∨ j = 3 ∨ j = 4 ∨ j = 5 ∨ j = 6 ∨ j = 7 ∨ j = 8 ∨ j = 9 ∨ j = 10 ∨ j = 11 := by omega
    all_goals (have hj' := Option.some.inj (hj : some _ = some o); subst hj'; clear hj)
    · have old3 : T.tmps[3]? = some (.slice A1 1 1) := by
        refine (hold 3 (fun j' o' g1 g2 g3 => ?_)).trans rfl
        have g4 : j' < 12 := (Array.getElem?_eq_some_iff.1 g1).1
        obtain rfl | rfl | rfl | rfl | rfl | rfl | rfl | rfl | rfl | rfl | rfl | rfl : j' = 0 ∨ j' = 1 ∨ j' = 2 ∨ j' = 3 ∨ j' = 4 ∨ j' = 5 ∨ j' = 6 ∨ j' = 7 ∨ j' = 8 ∨ j' = 9 ∨ j' = 10 ∨ j' = 11 := by omega
        all_goals first
          | (cases g1; cases g3; done)
          | skip
        have t10 := hcl 11 _ rfl g2 ⟨10, .data⟩ (by simp) rfl
        have t6 := hcl 10 _ rfl t10 ⟨6, .data⟩ (by simp) rfl
        have t0 := hcl 6 _ rfl t6 ⟨0, .data⟩ (by simp) rfl
        rw [hlj] at t0
        cases t0
      exact wp_ran rfl (exec_move rfl (eval_tmp old3)) (hK x _ _ (fun _ _ _ _ _ _ => rfl) (fun s hs => by cases hs; rfl) (by simpa using hst))
    · exact wp_ran rfl (exec_fa3 rfl (eval_tmp ((hpar 1 rfl).trans rfl))) (hK x _ _ (fun _ _ _ _ _ _ => rfl) (fun s hs => by cases hs; rfl) (by simpa using hst))
    · obtain ⟨q0, q1, q2, q3, q4, q5, q6⟩ := hst
      exact wp_ran rfl (exec_load rfl (eval_tmp (hgot 1 _ 13 rfl (hdep ⟨1, .data⟩ (by simp) rfl) rfl)) (run_load1 Tryd.underlying9 rfl (q1.cell 3))) (hK x _ _ (fun _ _ _ _ _ _ => rfl) (fun s hs => by cases hs; rfl) (by simpa using ⟨q0, q1, q2, q3, q4, q5, q6⟩))
    · exact wp_ran rfl (exec_lenS rfl (eval_tmp (hgot 2 _ 14 rfl (hdep ⟨2, .data⟩ (by simp) rfl) rfl))) (hK x _ _ (fun _ _ _ _ _ _ => rfl) (fun s hs => by cases hs; rfl) (by simpa using hst))
    · exact wp_ran rfl (exec_c8 (Int.natCast_nonneg _) (by omega) rfl (eval_tmp (hgot 3 _ 15 rfl (hdep ⟨3, .data⟩ (by simp) rfl) rfl))) (hK x _ _ (fun _ _ _ _ _ _ => rfl) (fun s hs => by cases hs; rfl) (by simpa using hst))
    · obtain ⟨q0, q1, q2, q3, q4, q5, q6⟩ := hst
      have m5 : Mod [] v (v.alloc (.cells [oct (Tm.b8 (s.size : Int))].toArray 5)) := Mod.alloc [] v _
      have h6 : lz 6 = false := by
        cases hq : lz 6 with
        | false => rfl
        | true => have := hcl 6 _ rfl hq ⟨5, .data⟩ (by simp) rfl; rw [hlj] at this; cases this
      have h10 : lz 10 = false := by
        cases hq : lz 10 with
        | false => rfl
        | true =>
          have h6' := hcl 10 _ rfl hq ⟨6, .data⟩ (by simp) rfl
          rw [h6] at h6'; cases h6'
      refine wp_ran rfl (exec_lit27 rfl (eval_tmp (hgot 4 _ 16 rfl (hdep ⟨4, .data⟩ (by simp) rfl) rfl))) (hK { x with y := v.heap.size } _ _ (fun j' o' s' g1 g2 g3 => by
          have g4 : j' < 12 := (Array.getElem?_eq_some_iff.1 g1).1
          clear hpar hgot hdep hK
          obtain rfl | rfl | rfl | rfl | rfl | rfl | rfl | rfl | rfl | rfl | rfl | rfl : j' = 0 ∨ j' = 1 ∨ j' = 2 ∨ j' = 3 ∨ j' = 4 ∨ j' = 5 ∨ j' = 6 ∨ j' = 7 ∨ j' = 8 ∨ j' = 9 ∨ j' = 10 ∨ j' = 11 := by omega
          all_goals (cases g1; cases g3 <;> first | rfl | (rw [hlj] at g2; cases g2) | (have t10 := hcl 11 _ rfl g2 ⟨10, .data⟩ (by simp) rfl; rw [hlj] at t10; cases t10))) (fun s hs => by cases hs; rfl) ?_)
      refine ⟨⟨q0.1.then m5, Nat.le_trans q0.2 m5.size⟩, q1.keep m5 (by simp), fun _ => (q2 h6).then m5, fun _ => ⟨q0.2, (Holds.made v 5 _).lt, Holds.made v 5 _⟩, fun h => ?_, fun h => ⟨(q5 (by simpa using h)).1, (q5 (by simpa using h)).2.keep m5 (fun _ _ => by simp)⟩, fun h => ?_⟩
      · simp [h6] at h
      · simp [h10] at h
    · obtain ⟨q0, q1, q2, q3, q4, q5, q6⟩ := hst
      have h10 : lz 10 = false := by
        cases hq : lz 10 with
        | false => rfl
        | true => have := hcl 10 _ rfl hq ⟨6, .data⟩ (by simp) rfl; rw [hlj] at this; cases this
      obtain ⟨y1, y2, y3⟩ := q3 (hdep ⟨5, .data⟩ (by simp) rfl)
      obtain ⟨A', c', v', hrun, ho, hm, hf⟩ := run_app27 (m := 1) (d := 1) (k := [Tm.b8 (s.size : Int)]) _ (q2 hlj).own rfl y3 (by simp)
      have M6 := (q2 hlj).app ho hm hf
      have far : ∀ z, wq ≤ z → z ∉ blk A1 := fun z hz hh => by
        obtain ⟨a, ha, e⟩ := mem_blk hh
        have := HA1 a ha
        omega
      exact wp_ran rfl (exec_append rfl (eval_tmp (hgot 0 _ 12 rfl (hdep ⟨0, .data⟩ (by simp) rfl) rfl)) (eval_tmp (hgot 5 _ 17 rfl (hdep ⟨5, .data⟩ (by simp) rfl) rfl)) hrun) (hK { x with A := A', c := c' } _ _ (fun j' o' s' g1 g2 g3 => by
          have g4 : j' < 12 := (Array.getElem?_eq_some_iff.1 g1).1
          clear hpar hgot hdep hK
          obtain rfl | rfl | rfl | rfl | rfl | rfl | rfl | rfl | rfl | rfl | rfl | rfl : j' = 0 ∨ j' = 1 ∨ j' = 2 ∨ j' = 3 ∨ j' = 4 ∨ j' = 5 ∨ j' = 6 ∨ j' = 7 ∨ j' = 8 ∨ j' = 9 ∨ j' = 10 ∨ j' = 11 := by omega
          all_goals (cases g1; cases g3 <;> first | rfl | (rw [hlj] at g2; cases g2) | (have t10 := hcl 11 _ rfl g2 ⟨10, .data⟩ (by simp) rfl; rw [hlj] at t10; cases t10))) (fun s hs => by cases hs; rfl) ⟨⟨Made.mod M6, Nat.le_trans q0.2 hm.size⟩, (q2 hlj).out q1 hb1 hm, fun h => by simp at h, fun h => ⟨y1, Nat.lt_of_lt_of_le y2 hm.size, y3.keep hm (far _ y1)⟩, fun _ => M6, fun h => ⟨(q5 (by simpa using h)).1, (q5 (by simpa using h)).2.keep hm (fun a ha => by cases ha; exact far _ (q5 (by simpa using h)).1)⟩, fun h => by simp [h10] at h⟩)
    · exact wp_ran rfl (exec_fa3 rfl (eval_tmp ((hpar 1 rfl).trans rfl))) (hK x _ _ (fun _ _ _ _ _ _ => rfl) (fun s hs => by cases hs; rfl) (by simpa using hst))
    · obtain ⟨q0, q1, q2, q3, q4, q5, q6⟩ := hst
      exact wp_ran rfl (exec_load rfl (eval_tmp (hgot 7 _ 19 rfl (hdep ⟨7, .data⟩ (by simp) rfl) rfl)) (run_load1 Tryd.underlying9 rfl (q1.cell 3))) (hK x _ _ (fun _ _ _ _ _ _ => rfl) (fun s hs => by cases hs; rfl) (by simpa using ⟨q0, q1, q2, q3, q4, q5, q6⟩))
    · obtain ⟨q0, q1, q2, q3, q4, q5, q6⟩ := hst
      have h10 : lz 10 = false := by
        cases hq : lz 10 with
        | false => rfl
        | true => have := hcl 10 _ rfl hq ⟨9, .data⟩ (by simp) rfl; rw [hlj] at this; cases this
      obtain ⟨v', c9, hrun, hR, m9⟩ := exec_conv927 v s
      exact wp_ran rfl (hrun _ _ _ rfl (eval_tmp (hgot 8 _ 20 rfl (hdep ⟨8, .data⟩ (by simp) rfl) rfl))) (hK { x with D := v.heap.size, e := c9 } _ _ (fun j' o' s' g1 g2 g3 => by
          have g4 : j' < 12 := (Array.getElem?_eq_some_iff.1 g1).1
          clear hpar hgot hdep hK
          obtain rfl | rfl | rfl | rfl | rfl | rfl | rfl | rfl | rfl | rfl | rfl | rfl : j' = 0 ∨ j' = 1 ∨ j' = 2 ∨ j' = 3 ∨ j' = 4 ∨ j' = 5 ∨ j' = 6 ∨ j' = 7 ∨ j' = 8 ∨ j' = 9 ∨ j' = 10 ∨ j' = 11 := by omega
          all_goals (cases g1; cases g3 <;> first | rfl | (rw [hlj] at g2; cases g2) | (have t10 := hcl 11 _ rfl g2 ⟨10, .data⟩ (by simp) rfl; rw [hlj] at t10; cases t10))) (fun s hs => by cases hs; rfl) ⟨⟨q0.1.then m9, Nat.le_trans q0.2 m9.size⟩, q1.keep m9 (by simp), fun h => (q2 (by simpa using h)).then m9, fun h => ⟨(q3 (by simpa using h)).1, Nat.lt_of_lt_of_le (q3 (by simpa using h)).2.1 m9.size, (q3 (by simpa using h)).2.2.keep m9 (by simp)⟩, fun h => (q4 (by simpa using h)).then m9, fun _ => ⟨q0.2, hR⟩, fun h => by simp [h10] at h⟩)
    · obtain ⟨q0, q1, q2, q3, q4, q5, q6⟩ := hst
      have h6 := hdep ⟨6, .data⟩ (by simp) rfl
      have h9 := hdep ⟨9, .data⟩ (by simp) rfl
      refine wp_called rfl (exec_call2 rfl rfl (eval_tmp (hgot 6 _ 18 rfl (hdep ⟨6, .data⟩ (by simp) rfl) rfl)) (eval_tmp (hgot 9 _ 21 rfl (hdep ⟨9, .data⟩ (by simp) rfl) rfl)) (enters_of Tryd.func56 (by kernel_rfl) rfl)) ((both_m x.A (some ⟨x.D, 0, none⟩) ([Tm.b8 k] ++ [Tm.b8 (s.size : Int)]) s.data.toList LH 2 s.size nh x.c x.e v rfl hss HLH.out.1 HLH.out.2.1 HLH.out.2.2 (q4 h6).own.reads (q5 h9).2).mono ?_)
      rintro e v' ⟨g6, rfl, M6⟩
      have m6 := Made.mod M6
      exact ⟨_, rfl, hK { x with g := g6 } _ _ (fun j' o' s' g1 g2 g3 => by
          have g4 : j' < 12 := (Array.getElem?_eq_some_iff.1 g1).1
          clear hpar hgot hdep hK
          obtain rfl | rfl | rfl | rfl | rfl | rfl | rfl | rfl | rfl | rfl | rfl | rfl : j' = 0 ∨ j' = 1 ∨ j' = 2 ∨ j' = 3 ∨ j' = 4 ∨ j' = 5 ∨ j' = 6 ∨ j' = 7 ∨ j' = 8 ∨ j' = 9 ∨ j' = 10 ∨ j' = 11 := by omega
          all_goals (cases g1; cases g3 <;> first | rfl | (rw [hlj] at g2; cases g2) | (have t10 := hcl 11 _ rfl g2 ⟨10, .data⟩ (by simp) rfl; rw [hlj] at t10; cases t10))) (fun s hs => by cases hs; rfl) ⟨⟨q0.1.then m6, Nat.le_trans q0.2 m6.size⟩, q1.keep m6 (by simp), fun h => (q2 (by simpa using h)).then m6, fun h => ⟨(q3 (by simpa using h)).1, Nat.lt_of_lt_of_le (q3 (by simpa using h)).2.1 m6.size, (q3 (by simpa using h)).2.2.keep m6 (by simp)⟩, fun h => (q4 h6).then m6, fun h => ⟨(q5 h9).1, (q5 h9).2.keep m6 (fun _ _ => by simp)⟩, fun _ => Made.of q0.1 M6⟩⟩
    · exact wp_ran rfl (exec_assign rfl (eval_tmp (hgot 10 _ 22 rfl (hdep ⟨10, .data⟩ (by simp) rfl) rfl))) (hK x _ _ (fun _ _ _ _ _ _ => rfl) (fun s hs => by cases hs; rfl) (by simpa using hst))
  case fin =>
  intro x lz vr hlz hst
  obtain ⟨q0, q1, q2, q3, q4, q5, q6⟩ := hst
  have gx := q6 (hlz 10 (by decide))
  clear q2 q3 q4 q5 q6 hlz
  simp only [setAll, List.foldl_cons, List.foldl_nil, List.set_cons_succ, List.set_cons_zero]
  have e0 := q1.cell 0
  have e4 := q1.cell 4
  simp only [tmc, List.getElem?_cons_succ, List.getElem?_cons_zero] at e0 e4
  have HG := Lib.hid (Made.of m1 gx)
  clear q0 q1 gx hss HA1 hwq g1 hb
  go_wp2_with (first
    | (go_at_call 57; with_reducible refine Calls.mono (BU _) ?_; rintro e wz ⟨rfl, rfl⟩)
    | (go_at_call 58; with_reducible refine Calls.mono (BN _) ?_; rintro e wz ⟨rfl, rfl⟩))
  go_loopw [3, 4] (fun r i wr => i = .int .i64 0 ∧ r = .slice (some ⟨x.g, 0, none⟩) nh nh ∧ wr = vr) (fun _ i _ => 0)
  case atStart => exact ⟨rfl, rfl, rfl⟩
  case round =>
  obtain ⟨rfl, rfl, rfl⟩ := hrel
  go_wp2_with fail
  go_ret
  exact ⟨_, _, rfl, HG.out⟩
end Go.Proofs.YtapafniekmfkaaaDoor
namespace Go.Proofs.YtapafniekmfkaaaDoor
open Go.RowKit Go.Shelf
set_option linter.unusedVariables false
set_option linter.unusedSimpArgs false
theorem rbytes_all : ∀ m, RBytesAll m
  | 0, t, _, _, _, h, _, _, _ => by have := Tm.depth_pos t; omega
  | m + 1, .mk k u n s l, cs, S, w, h, hok, hlen, hTt => by
    obtain ⟨A, c, vs, rfl, hr, hlc, hcm, hlm, hs⟩ := hTt.row
    rw [Tm.depth] at h
    rw [Tm.ok, Bool.and_eq_true] at hok
    obtain ⟨hone, hall⟩ := hok
    obtain ⟨hk, ⟨b1, b2, b3⟩, b4⟩ := Tm.one_iff.1 hone
    have hd : ∀ t ∈ l, t.depth ≤ m ∧ t.ok = true := fun t ht => ⟨by have := Tm.mem_depth ht; omega, Tm.mem_ok ht hall⟩
    have ih := rbytes_all m
    cases hT : Tm.hasT k with
    | true =>
      have hk1 : k = 1 := by unfold Tm.hasT at hT; simpa using hT
      subst hk1
      have hl : l = [] := List.eq_nil_of_length_eq_zero b4
      subst hl
      exact rbytes_T 1 u n s A 0 c w rfl rfl (by rw [hT] at b1; exact b1) _ (by rw [Tm.bytes_mk]; simp [Tm.hasT, Tm.hasU, Tm.hasN, Tm.bytesAll]) _ rfl
    | false =>
      have hk1 : (k == 1) = false := by unfold Tm.hasT at hT; exact hT
      have un : 0 ≤ u ∧ u < 256 := by split at b2 <;> omega
      have nn : 0 ≤ n ∧ n < 65536 := by split at b3 <;> omega
      cases hU : Tm.hasU k with
      | true =>
        cases hN : Tm.hasN k with
        | true => exact rbytes_UN m ih k u n s A l.length c l vs S w rfl hlm hr hd (by omega) (by omega) un.1 un.2 nn.1 nn.2 hk1 hU hN _ (by rw [Tm.bytes_mk, hT, hU, hN]; simp) hlen _ rfl
        | false => exact rbytes_U m ih k u n s A l.length c l vs S w rfl hlm hr hd (by omega) (by omega) un.1 un.2 nn.1 nn.2 hk1 hU hN _ (by rw [Tm.bytes_mk, hT, hU, hN]; simp) hlen _ rfl
      | false =>
        have hN : Tm.hasN k = false := by
          unfold Tm.hasN
          unfold Tm.hasU at hU
          simp at hU ⊢
          exact ⟨hU.1.1.1, hU.2⟩
        exact rbytes_O m ih k u n s A l.length c l vs S w rfl hlm hr hd (by omega) (by omega) un.1 un.2 nn.1 nn.2 hk1 hU hN _ (by rw [Tm.bytes_mk, hT, hU, hN]; simp) hlen _ rfl
theorem same_n (A B : Option Addr) (l k : List UInt8) (n m c d : Nat) (w : World) (hn : n = l.length) (hm : m = k.length) (hl : l.length ≤ 1000000000) (hk : k.length ≤ 1000000000) (h : Reads w A l) (h' : Reads w B k) :
    Calls Tryd.prog 19 #[.slice A n c, .slice B m d] w fun e w' => e = .returned (.bool (decide (l = k))) ∧ Mod [] w w' := by
  subst hn hm
  exact same_c A B l k c d w (by unfold maxLen; omega) (by unfold maxLen; omega) h h'
theorem right_bytes {t : Tm} (h : t.right = true) : t.ok = true ∧ t.bytes.length ≤ 1000000000 := by
  simp only [Tm.right, Bool.and_eq_true, decide_eq_true_eq] at h
  have := bytes_len t h.1.1
  exact ⟨h.1.1, by omega⟩
set_option maxRecDepth 1000000 in
set_option maxHeartbeats 2000000 in
theorem enc_no (t : Tm) (cs : List Value) (w : World) (hT : TIs w (Btw 0 w.heap.size) t cs) (G : Glob w) (hR : t.right = false) :
    Calls Tryd.prog 3 #[.agg cs.toArray] w fun e w' => e = .returned (.bool true) ∧ Mod [] w w' := by
  have hcs := hT.len
  have WK := fun v (mv : Mod [] w v) => wakes_c v (G.then mv)
  have OV := fun v (mv : Mod [] w v) => over_c t cs w.heap.size v (hT.keep mv (by simp)) mv.size
  have CK := fun v (mv : Mod [] w v) => check_c t cs _ v (hT.keep mv (by simp)) (G.then mv)
  have SZ := fun v (mv : Mod [] w v) => Size_c t cs _ v (hT.keep mv (by simp)) (G.then mv)
  have RS := fun v (mv : Mod [] w v) => rsize_all _ t cs _ 1200 60 v (Nat.le_refl _) (hT.keep mv (by simp)) (by decide) (by decide) (by decide) (by decide)
  rw [show chk t = 150 by unfold chk; rw [hR]; rfl] at CK
  have hz := sz_right t
  rw [hR] at hz
  rw [show (61 : Int) - 60 = 1 from rfl, hz] at RS
  have hz0 : Tm.sz t 1 1200 = 0 := by simpa using hz
  rw [hz0] at RS SZ
  have EN := fun v (mv : Mod [] w v) => encode_no t cs _ v (hT.keep mv (by simp)) (G.then mv) hR
  clear hz hz0
  clear hT G hR
  go_enter Tryd.func3, Tryd.ntmps3
  go_wp2_with (first
    | (with_reducible refine wpList_boxes (o := ⟨some 1, .box 24 (.tmp 0), _, _, _, _⟩) rfl 24 (.tmp 0) rfl _ rfl cs rfl ?_; intro w1 hb1 mm z1
       obtain ⟨b1, hq1⟩ : ∃ b, b = w.heap.size := ⟨_, rfl⟩
       rw [← hq1] at hb1 ⊢
       clear hq1 z1)
    | (go_at_call 13; with_reducible refine Calls.mono (WK _ mm) ?_
       rintro e wz ⟨rfl, mz⟩
       replace hb1 := hb1.keep mz (by simp)
       replace mm := mm.then mz
       clear mz)
    | (with_reducible refine wpList_loads (o := ⟨some 9, .load 24 (.tmp 1), _, _, _, _⟩) rfl 24 (.tmp 1) rfl b1 (0) (cs) rfl (Cells.of_holds hb1) _ Tryd.underlying24 rfl (size24' hcs) (.agg (cs).toArray) rfl ?_))
  refine (OV _ mm).mono ?_
  rintro e wz ⟨ov, rfl, mz⟩
  replace hb1 := hb1.keep mz (by simp)
  replace mm := mm.then mz
  clear OV mz
  cases ov with
  | true =>
    go_wp2_with fail
    go_ret
    exact ⟨rfl, mm⟩
  | false =>
  go_wp2_with (first
    | (with_reducible refine wpList_loads (o := ⟨some 12, .load 24 (.tmp 1), _, _, _, _⟩) rfl 24 (.tmp 1) rfl b1 (0) (cs) rfl (Cells.of_holds hb1) _ Tryd.underlying24 rfl (size24' hcs) (.agg (cs).toArray) rfl ?_)
    | (go_at_call 15; with_reducible refine Calls.mono (EN _ mm) ?_
       rintro e wz ⟨rfl, mz⟩
       replace hb1 := hb1.keep mz (by simp)
       replace mm := mm.then mz
       clear mz)
    | (with_reducible refine wpList_loads (o := ⟨some 17, .load 24 (.tmp 1), _, _, _, _⟩) rfl 24 (.tmp 1) rfl b1 (0) (cs) rfl (Cells.of_holds hb1) _ Tryd.underlying24 rfl (size24' hcs) (.agg (cs).toArray) rfl ?_)
    | (go_at_call 16; with_reducible refine Calls.mono (RS _ mm) ?_
       rintro e wz ⟨rfl, mz⟩
       replace hb1 := hb1.keep mz (by simp)
       replace mm := mm.then mz
       clear mz)
    | (with_reducible refine wpList_loadsW (o := ⟨some 31, .load 24 (.tmp 1), _, _, _, _⟩) ?_ 24 (.tmp 1) rfl b1 0 (cs) rfl (Cells.of_holds hb1) _ Tryd.underlying24 rfl (size24' hcs) (.agg (cs).toArray) rfl ?_
       · exact wanted_yes rfl rfl rfl rfl)
    | (go_at_call 17; with_reducible refine Calls.mono (CK _ mm) ?_
       rintro e wz ⟨rfl, mz⟩
       replace hb1 := hb1.keep mz (by simp)
       replace mm := mm.then mz
       clear mz)
    | (with_reducible refine wpList_loadsW (o := ⟨some 36, .load 24 (.tmp 1), _, _, _, _⟩) ?_ 24 (.tmp 1) rfl b1 0 (cs) rfl (Cells.of_holds hb1) _ Tryd.underlying24 rfl (size24' hcs) (.agg (cs).toArray) rfl ?_
       · exact wanted_yes rfl rfl rfl rfl)
    | (go_at_call 18; with_reducible refine Calls.mono (SZ _ mm) ?_
       rintro e wz ⟨rfl, mz⟩
       replace hb1 := hb1.keep mz (by simp)
       replace mm := mm.then mz
       clear mz))
  go_ret
  exact ⟨rfl, mm⟩
set_option maxRecDepth 1000000 in
set_option maxHeartbeats 2000000 in
theorem enc_yes (t : Tm) (cs : List Value) (w : World) (hT : TIs w (Btw 0 w.heap.size) t cs) (G : Glob w) (hR : t.right = true) :
    Calls Tryd.prog 3 #[.agg cs.toArray] w fun e w' => e = .returned (.bool true) ∧ Mod [] w w' := by
  have hcs := hT.len
  have WK := fun v (mv : Mod [] w v) => wakes_c v (G.then mv)
  have OV := fun v (mv : Mod [] w v) => over_c t cs w.heap.size v (hT.keep mv (by simp)) mv.size
  have CK := fun v (mv : Mod [] w v) => check_c t cs _ v (hT.keep mv (by simp)) (G.then mv)
  have SZ := fun v (mv : Mod [] w v) => Size_c t cs _ v (hT.keep mv (by simp)) (G.then mv)
  have RS := fun v (mv : Mod [] w v) => rsize_all _ t cs _ 1200 60 v (Nat.le_refl _) (hT.keep mv (by simp)) (by decide) (by decide) (by decide) (by decide)
  rw [show chk t = 0 by unfold chk; rw [hR]; rfl] at CK
  have hz := sz_right t
  rw [hR] at hz
  rw [show (61 : Int) - 60 = 1 from rfl, hz] at RS
  obtain ⟨z, hzz⟩ : ∃ z, z = Tm.sz t 1 1200 := ⟨_, rfl⟩
  rw [← hzz] at RS SZ
  obtain ⟨hok, hbl⟩ := right_bytes hR
  have EN := fun v (mv : Mod [] w v) => encode_yes t cs _ v (hT.keep mv (by simp)) (fun g hg => Nat.lt_of_lt_of_le hg.2 mv.size) (G.then mv) hR
  have RB := fun v (mv : Mod [] w v) => rbytes_all _ t cs _ v (Nat.le_refl _) hok hbl (hT.keep mv (by simp))
  obtain ⟨nb, hnb⟩ : ∃ nb, nb = t.bytes.length := ⟨_, rfl⟩
  have SM := fun v A B c d (h : Reads v A t.bytes) (h' : Reads v B t.bytes) => same_n A B t.bytes t.bytes nb nb c d v hnb hnb hbl hbl h h'
  rw [decide_eq_true (rfl : t.bytes = t.bytes)] at SM
  rw [← hnb] at EN RB
  clear hz hzz hok hbl hnb
  clear hT G hR
  go_enter Tryd.func3, Tryd.ntmps3
  go_wp2_with (first
    | (with_reducible refine wpList_boxes (o := ⟨some 1, .box 24 (.tmp 0), _, _, _, _⟩) rfl 24 (.tmp 0) rfl _ rfl cs rfl ?_; intro w1 hb1 mm z1
       obtain ⟨b1, hq1⟩ : ∃ b, b = w.heap.size := ⟨_, rfl⟩
       rw [← hq1] at hb1 ⊢
       clear hq1 z1)
    | (go_at_call 13; with_reducible refine Calls.mono (WK _ mm) ?_
       rintro e wz ⟨rfl, mz⟩
       replace hb1 := hb1.keep mz (by simp)
       replace mm := mm.then mz
       clear mz)
    | (with_reducible refine wpList_loads (o := ⟨some 9, .load 24 (.tmp 1), _, _, _, _⟩) rfl 24 (.tmp 1) rfl b1 (0) (cs) rfl (Cells.of_holds hb1) _ Tryd.underlying24 rfl (size24' hcs) (.agg (cs).toArray) rfl ?_))
  refine (OV _ mm).mono ?_
  rintro e wz ⟨ov, rfl, mz⟩
  replace hb1 := hb1.keep mz (by simp)
  replace mm := mm.then mz
  clear OV mz
  cases ov with
  | true =>
    go_wp2_with fail
    go_ret
    exact ⟨rfl, mm⟩
  | false =>
  go_wp2_with (first
    | (with_reducible refine wpList_loads (o := ⟨some 12, .load 24 (.tmp 1), _, _, _, _⟩) rfl 24 (.tmp 1) rfl b1 (0) (cs) rfl (Cells.of_holds hb1) _ Tryd.underlying24 rfl (size24' hcs) (.agg (cs).toArray) rfl ?_)
    | (go_at_call 15; with_reducible refine Calls.mono (EN _ mm) ?_
       rintro e wz ⟨A1, c1, rfl, o1, mz, f1⟩
       have r1 := o1.reads
       replace hb1 := hb1.keep mz (by simp)
       replace mm := mm.then mz
       clear mz o1 f1 EN)
    | (with_reducible refine wpList_loads (o := ⟨some 17, .load 24 (.tmp 1), _, _, _, _⟩) rfl 24 (.tmp 1) rfl b1 (0) (cs) rfl (Cells.of_holds hb1) _ Tryd.underlying24 rfl (size24' hcs) (.agg (cs).toArray) rfl ?_)
    | (go_at_call 16; with_reducible refine Calls.mono (RS _ mm) ?_
       rintro e wz ⟨rfl, mz⟩
       replace hb1 := hb1.keep mz (by simp)
       replace mm := mm.then mz
       replace r1 := r1.keep mz (fun _ _ => by simp)
       clear mz)
    | (with_reducible refine wpList_loadsW (o := ⟨some 43, .load 24 (.tmp 1), _, _, _, _⟩) ?_ 24 (.tmp 1) rfl b1 0 (cs) rfl (Cells.of_holds hb1) _ Tryd.underlying24 rfl (size24' hcs) (.agg (cs).toArray) rfl ?_
       · exact wanted_yes rfl rfl rfl rfl)
    | (go_at_call 17; with_reducible refine Calls.mono (CK _ mm) ?_
       rintro e wz ⟨rfl, mz⟩
       replace hb1 := hb1.keep mz (by simp)
       replace mm := mm.then mz
       replace r1 := r1.keep mz (fun _ _ => by simp)
       clear mz)
    | (with_reducible refine wpList_loadsW (o := ⟨some 48, .load 24 (.tmp 1), _, _, _, _⟩) ?_ 24 (.tmp 1) rfl b1 0 (cs) rfl (Cells.of_holds hb1) _ Tryd.underlying24 rfl (size24' hcs) (.agg (cs).toArray) rfl ?_
       · exact wanted_yes rfl rfl rfl rfl)
    | (go_at_call 18; with_reducible refine Calls.mono (SZ _ mm) ?_
       rintro e wz ⟨rfl, mz⟩
       replace hb1 := hb1.keep mz (by simp)
       replace mm := mm.then mz
       replace r1 := r1.keep mz (fun _ _ => by simp)
       clear mz)
    | (with_reducible refine wpList_loadsW (o := ⟨some 55, .load 24 (.tmp 1), _, _, _, _⟩) ?_ 24 (.tmp 1) rfl b1 0 (cs) rfl (Cells.of_holds hb1) _ Tryd.underlying24 rfl (size24' hcs) (.agg (cs).toArray) rfl ?_
       · exact wanted_yes rfl rfl rfl rfl)
    | (go_at_call 20; with_reducible refine Calls.mono (RB _ mm) ?_
       rintro e wz ⟨A2, c2, rfl, M2⟩
       have mz := Made.mod M2
       have r2 := M2.own.reads
       replace r1 := r1.keep mz (fun _ _ => by simp)
       replace hb1 := hb1.keep mz (by simp)
       replace mm := mm.then mz
       clear mz M2 RB)
    | (go_at_call 19; with_reducible refine Calls.mono (SM _ A1 A2 c1 c2 r1 r2) ?_
       rintro e wz ⟨rfl, mz⟩
       replace mm := mm.then mz
       clear mz))
  go_ret
  exact ⟨rfl, mm⟩
theorem enc_c (t : Tm) (cs : List Value) (w : World) (hT : TIs w (Btw 0 w.heap.size) t cs) (G : Glob w) : Calls Tryd.prog 3 #[.agg cs.toArray] w fun e w' => e = .returned (.bool true) ∧ Mod [] w w' := by
  cases hR : t.right with
  | false => exact enc_no t cs w hT G hR
  | true => exact enc_yes t cs w hT G hR
end Go.Proofs.YtapafniekmfkaaaDoor
