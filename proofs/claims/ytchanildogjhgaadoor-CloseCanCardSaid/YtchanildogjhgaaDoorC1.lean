/-
  My own texts Ca Cb Cc Cd Ce Cf Cg Ch Ci Cj Ck Cl Cm Cn Co, one behind the other.
-/
import Derived.Test.YtchanildogjhgaaDoorA2
import Derived.Test.YtchanildogjhgaaDoorFm
import Derived.MapKept
import Derived.Test.YtchanildogjhgaaDoorFn
import Derived.Lib.AppendZeros
import Derived.DeepKeys3
import Derived.Test.YtchanildogjhgaaDoorTt3
namespace Go.Proofs.YtchanildogjhgaaDoor
section
set_option linter.unusedVariables false
set_option linter.unusedSimpArgs false
namespace Tm
def sec (u : Int) : Tm := .mk 3 u 0 ⟨#[]⟩ []
def isAtomB (t : Tm) : Bool := t.kind == 2 || t.kind == 3
def needs (t : Tm) : List Tm := if t.kind = 8 then sec t.user :: t.kids else t.kids
def keysT (t : Tm) : List Tm := if t.kind = 6 then t.kids.take 1 else if t.kind = 7 then [sec t.user] else []
def inside (t : Tm) : List Tm := if t.kind = 6 then t.kids.drop 1 else if t.kind = 4 ∨ t.kind = 7 ∨ t.kind = 8 then t.kids else []
/-- What can be reckoned (false) from known terms, and what is a part (true). -/
inductive Gk (K : List Tm) : Bool → Tm → Prop
  | known {t} : t ∈ K → Gk K true t
  | opened {t m} : Gk K true t → (∀ k ∈ keysT t, Gk K false k) → m ∈ inside t → Gk K true m
  | weak {t} : Gk K true t → Gk K false t
  | make {t} : isAtomB t = false → (∀ n ∈ needs t, Gk K false n) → Gk K false t
end Tm
theorem Fm.argC {w0 w : World} {os ts : List Th} (F : Fm w0 w os ts) {S : Nat → Prop} {A : Option Addr} {vs : List (List Value)} {l : List Tm} (hR : RowT w S A vs l) (hS : ∀ g, S g → g < w0.heap.size) : Fm w0 w os (tR Any S A vs l :: ts) :=
  F.arg _ (keeps_tR _ _ _ _ _) ⟨hR, fun _ _ => trivial⟩ hS
theorem Fm.rowC {w0 w : World} {os ts : List Th} (F : Fm w0 w os ts) {L S : Nat → Prop} {A : Option Addr} {vs : List (List Value)} {l : List Tm} (h : tR L S A vs l ∈ ts) : RowT w S A vs l := (F.k _ (.inr h)).2.1.1
/-- A term of a graph, with the numbers of those that it hangs together with. -/
structure Nd where
  t : Tm
  inside : List Nat
  keys : List Nat
  needs : List Nat
  wakes : List Nat
abbrev Gr := List Nd
def tmAt (g : Gr) (i : Nat) : Option Tm := (g[i]?).map (·.t)
/-- These numbers are those of these terms. -/
def numOf (g : Gr) (l : List Nat) (ts : List Tm) : Prop := l.map (tmAt g) = ts.map some
structure Wok (g : Gr) : Prop where
  inj : ∀ i j t, tmAt g i = some t → tmAt g j = some t → i = j
  needs : ∀ i (h : i < g.length), numOf g g[i].needs (Tm.needs g[i].t)
  keys : ∀ i (h : i < g.length), numOf g g[i].keys (Tm.keysT g[i].t)
  inside : ∀ i (h : i < g.length), numOf g g[i].inside (Tm.inside g[i].t)
  self : ∀ i (h : i < g.length), i ∈ g[i].wakes
  wake : ∀ j (h : j < g.length), ∀ m ∈ g[j].keys ++ g[j].needs, ∀ h' : m < g.length, j ∈ g[m].wakes
  wlt : ∀ i (h : i < g.length), ∀ m ∈ g[i].wakes, m < g.length
theorem tmAt_some {g : Gr} {i : Nat} {t : Tm} (h : tmAt g i = some t) : ∃ h : i < g.length, g[i].t = t := by
  unfold tmAt at h
  cases hg : g[i]? with
  | none => rw [hg] at h; cases h
  | some x =>
    rw [hg] at h
    obtain ⟨h1, h2⟩ := List.getElem?_eq_some_iff.1 hg
    exact ⟨h1, by rw [h2]; simpa using h⟩
theorem tmAt_of {g : Gr} {i : Nat} (h : i < g.length) : tmAt g i = some g[i].t := by unfold tmAt; rw [List.getElem?_eq_getElem h]; rfl
theorem numOf_mem {g : Gr} {l : List Nat} {ts : List Tm} (h : numOf g l ts) {m : Nat} (hm : m ∈ l) : ∃ t ∈ ts, tmAt g m = some t := by
  have : tmAt g m ∈ l.map (tmAt g) := List.mem_map.2 ⟨m, hm, rfl⟩
  rw [h] at this
  obtain ⟨t, ht, e⟩ := List.mem_map.1 this
  exact ⟨t, ht, e.symm⟩
theorem numOf_mem' {g : Gr} {l : List Nat} {ts : List Tm} (h : numOf g l ts) {t : Tm} (ht : t ∈ ts) : ∃ m ∈ l, tmAt g m = some t := by
  have : some t ∈ ts.map some := List.mem_map.2 ⟨t, ht, rfl⟩
  rw [← h] at this
  obtain ⟨m, hm, e⟩ := List.mem_map.1 this
  exact ⟨m, hm, e⟩
/-- Can it be put together, by what is had? -/
def canMk (g : Gr) (hd : Nat → Nat) (n : Nat) : Bool := match g[n]? with
  | some x => !Tm.isAtomB x.t && x.needs.all (fun m => decide (1 ≤ hd m))
  | none => false
def opensB (g : Gr) (hd : Nat → Nat) (n : Nat) : Bool := match g[n]? with
  | some x => decide (2 ≤ hd n) && x.keys.all (fun m => decide (1 ≤ hd m))
  | none => false
def givesL (g : Gr) (hd : Nat → Nat) (n : Nat) : List (Nat × Nat) := (if canMk g hd n then [(n, 1)] else []) ++ (if opensB g hd n then ((g[n]?).map (·.inside)).getD [] |>.map (fun m => (m, 2)) else [])
def cov (hd : Nat → Nat) (st : List (Nat × Nat)) (n h : Nat) : Prop := h ≤ hd n ∨ ∃ h', h ≤ h' ∧ (n, h') ∈ st
def Just (K : List Tm) (g : Gr) (n h : Nat) : Prop := (h = 1 ∨ h = 2) ∧ ∃ t, tmAt g n = some t ∧ Tm.Gk K (decide (h = 2)) t
/-- What holds while the stack is gone through. -/
structure Run (K : List Tm) (g : Gr) (kn : List Nat) (hd : Nat → Nat) (st : List (Nat × Nat)) : Prop where
  had : ∀ n, 1 ≤ hd n → Just K g n (hd n)
  stk : ∀ p ∈ st, Just K g p.1 p.2
  mkd : ∀ n, canMk g hd n = true → cov hd st n 1
  op : ∀ n, opensB g hd n = true → ∀ x, g[n]? = some x → ∀ m ∈ x.inside, cov hd st m 2
  kn : ∀ n ∈ kn, cov hd st n 2
theorem Just.weak {K : List Tm} {g : Gr} {n h : Nat} (j : Just K g n h) : ∃ t, tmAt g n = some t ∧ Tm.Gk K false t := by
  obtain ⟨h1 | h1, t, ht, hg⟩ := j
  · subst h1; exact ⟨t, ht, hg⟩
  · subst h1; exact ⟨t, ht, .weak hg⟩
theorem gives_just {K : List Tm} {g : Gr} (W : Wok g) {hd : Nat → Nat} (hj : ∀ n, 1 ≤ hd n → Just K g n (hd n)) {n : Nat} {p : Nat × Nat} (hp : p ∈ givesL g hd n) : Just K g p.1 p.2 := by
  unfold givesL at hp
  rcases List.mem_append.1 hp with hp | hp
  · split at hp
    · rename_i hc
      simp only [List.mem_singleton] at hp
      subst hp
      unfold canMk at hc
      cases hg : g[n]? with
      | none => rw [hg] at hc; cases hc
      | some x =>
        rw [hg] at hc
        simp only [Bool.and_eq_true, Bool.not_eq_true', List.all_eq_true, decide_eq_true_eq] at hc
        obtain ⟨h1, h2⟩ := List.getElem?_eq_some_iff.1 hg
        refine ⟨.inl rfl, x.t, by rw [← h2]; exact tmAt_of h1, .make hc.1 fun u hu => ?_⟩
        have hn := W.needs n h1
        rw [h2] at hn
        obtain ⟨m, hm, e⟩ := numOf_mem' hn hu
        obtain ⟨t, ht, hgk⟩ := (hj m (hc.2 m hm)).weak
        rw [e] at ht
        cases ht
        exact hgk
    · cases hp
  · split at hp
    · rename_i hc
      obtain ⟨m, hm, rfl⟩ := List.mem_map.1 hp
      unfold opensB at hc
      cases hg : g[n]? with
      | none => rw [hg] at hc; cases hc
      | some x =>
        rw [hg] at hc hm
        simp only [Option.map_some, Option.getD_some] at hm
        simp only [Bool.and_eq_true, List.all_eq_true, decide_eq_true_eq] at hc
        obtain ⟨h1, h2⟩ := List.getElem?_eq_some_iff.1 hg
        have hi := W.inside n h1
        rw [h2] at hi
        obtain ⟨t, ht, e⟩ := numOf_mem hi hm
        refine ⟨.inr rfl, t, e, ?_⟩
        obtain ⟨hh, tn, htn, hgn⟩ := hj n (by omega)
        have h2n : hd n = 2 := by omega
        rw [h2n] at hgn
        rw [tmAt_of h1, h2] at htn
        cases htn
        refine .opened hgn (fun k hk => ?_) ht
        have hkk := W.keys n h1
        rw [h2] at hkk
        obtain ⟨q, hq, e2⟩ := numOf_mem' hkk hk
        obtain ⟨t', ht', hgk⟩ := (hj q (hc.2 q hq)).weak
        rw [e2] at ht'
        cases ht'
        exact hgk
    · cases hp
def setH (hd : Nat → Nat) (m h : Nat) : Nat → Nat := fun n => if n = m then h else hd n
/-- A step that drops the top. -/
theorem Run.drop {K : List Tm} {g : Gr} {kn : List Nat} {hd : Nat → Nat} {st : List (Nat × Nat)} {m h : Nat} (R : Run K g kn hd (st ++ [(m, h)])) (hm : h ≤ hd m) : Run K g kn hd st := by
  have cv : ∀ n k, cov hd (st ++ [(m, h)]) n k → cov hd st n k := fun n k hc => by
    rcases hc with hc | ⟨h', h1, h2⟩
    · exact .inl hc
    · rcases List.mem_append.1 h2 with h2 | h2
      · exact .inr ⟨h', h1, h2⟩
      · simp only [List.mem_singleton, Prod.mk.injEq] at h2
        obtain ⟨rfl, rfl⟩ := h2
        exact .inl (by omega)
  exact ⟨R.had, fun p hp => R.stk p (List.mem_append_left _ hp), fun n hn => cv _ _ (R.mkd n hn), fun n hn x hx q hq => cv _ _ (R.op n hn x hx q hq), fun n hn => cv _ _ (R.kn n hn)⟩
theorem wakes_of {g : Gr} (W : Wok g) {n m : Nat} {x : Nd} (hx : g[n]? = some x) (hm : m ∈ x.keys ++ x.needs) : ∃ y, g[m]? = some y ∧ n ∈ y.wakes := by
  obtain ⟨h1, h2⟩ := List.getElem?_eq_some_iff.1 hx
  have hml : m < g.length := by
    rcases List.mem_append.1 hm with h | h
    · have := W.keys n h1
      rw [h2] at this
      obtain ⟨t, _, e⟩ := numOf_mem this h
      exact (tmAt_some e).1
    · have := W.needs n h1
      rw [h2] at this
      obtain ⟨t, _, e⟩ := numOf_mem this h
      exact (tmAt_some e).1
  exact ⟨g[m], List.getElem?_eq_getElem hml, W.wake n h1 m (by rw [h2]; exact hm) hml⟩
/-- A step that takes the top down. -/
theorem Run.take {K : List Tm} {g : Gr} (W : Wok g) {kn : List Nat} {hd : Nat → Nat} {st : List (Nat × Nat)} {m h : Nat} (R : Run K g kn hd (st ++ [(m, h)])) (hm : hd m < h) (y : Nd) (hy : g[m]? = some y) : Run K g kn (setH hd m h) (st ++ y.wakes.flatMap (givesL g (setH hd m h))) := by
  have hjm := R.stk (m, h) (by simp)
  have mono : ∀ n, hd n ≤ setH hd m h n := fun n => by unfold setH; split <;> rename_i e <;> simp_all <;> omega
  have had' : ∀ n, 1 ≤ setH hd m h n → Just K g n (setH hd m h n) := fun n hn => by
    unfold setH at hn ⊢
    split
    · rename_i e; subst e; exact hjm
    · rename_i e; rw [if_neg e] at hn; exact R.had n hn
  have cv : ∀ n k, cov hd (st ++ [(m, h)]) n k → cov (setH hd m h) (st ++ y.wakes.flatMap (givesL g (setH hd m h))) n k := fun n k hc => by
    rcases hc with hc | ⟨h', h1, h2⟩
    · exact .inl (Nat.le_trans hc (mono n))
    · rcases List.mem_append.1 h2 with h2 | h2
      · exact .inr ⟨h', h1, List.mem_append_left _ h2⟩
      · simp only [List.mem_singleton, Prod.mk.injEq] at h2
        obtain ⟨rfl, rfl⟩ := h2
        exact .inl (by unfold setH; rw [if_pos rfl]; exact h1)
  have new : ∀ n p, n ∈ y.wakes → p ∈ givesL g (setH hd m h) n → cov (setH hd m h) (st ++ y.wakes.flatMap (givesL g (setH hd m h))) p.1 p.2 := fun n p h1 h2 =>
    .inr ⟨p.2, Nat.le_refl _, List.mem_append_right _ (List.mem_flatMap.2 ⟨n, h1, h2⟩)⟩
  refine ⟨had', fun p hp => ?_, fun n hn => ?_, fun n hn x hx q hq => ?_, fun n hn => cv _ _ (R.kn n hn)⟩
  · rcases List.mem_append.1 hp with hp | hp
    · exact R.stk p (List.mem_append_left _ hp)
    · obtain ⟨n, _, hp⟩ := List.mem_flatMap.1 hp
      exact gives_just W had' hp
  · cases hold : canMk g hd n with
    | true => exact cv _ _ (R.mkd n hold)
    | false =>
      have hmw : n ∈ y.wakes := by
        unfold canMk at hn hold
        cases hx : g[n]? with
        | none => rw [hx] at hn; cases hn
        | some x =>
          rw [hx] at hn hold
          simp only [Bool.and_eq_true, List.all_eq_true, decide_eq_true_eq] at hn
          simp only [hn.1, Bool.true_and, List.all_eq_false, decide_eq_true_eq] at hold
          obtain ⟨q, hq, hlt⟩ := hold
          have := hn.2 q hq
          have hqm : q = m := by
            unfold setH at this
            split at this
            · assumption
            · exact absurd this hlt
          subst hqm
          obtain ⟨y', e, hw⟩ := wakes_of W hx (List.mem_append_right _ hq)
          rw [hy] at e
          cases e
          exact hw
      exact new n (n, 1) hmw (by unfold givesL; rw [hn]; simp)
  · cases hold : opensB g hd n with
    | true => exact cv _ _ (R.op n hold x hx q hq)
    | false =>
      have hmw : n ∈ y.wakes := by
        have hn' := hn
        unfold opensB at hn' hold
        rw [hx] at hn' hold
        simp only [Bool.and_eq_true, List.all_eq_true, decide_eq_true_eq] at hn'
        by_cases e : n = m
        · subst e
          obtain ⟨h1, h2⟩ := List.getElem?_eq_some_iff.1 hy
          have := W.self n h1
          rw [h2] at this
          exact this
        · have h2 : 2 ≤ hd n := by have := hn'.1; unfold setH at this; rwa [if_neg e] at this
          simp only [h2, decide_true, Bool.true_and, List.all_eq_false, decide_eq_true_eq] at hold
          obtain ⟨q', hq', hlt⟩ := hold
          have := hn'.2 q' hq'
          have hqm : q' = m := by
            unfold setH at this
            split at this
            · assumption
            · exact absurd this hlt
          subst hqm
          obtain ⟨y', e', hw⟩ := wakes_of W hx (List.mem_append_left _ hq')
          rw [hy] at e'
          cases e'
          exact hw
      exact new n (q, 2) hmw (by
        unfold givesL
        rw [hn, hx]
        simp [hq])
/-- What can be reckoned lies in the graph, if it is a part. -/
theorem part_in {K : List Tm} {g : Gr} (W : Wok g) {kn : List Nat} (hk : numOf g kn K) : ∀ {b t}, Tm.Gk K b t → b = true → ∃ n, tmAt g n = some t := by
  intro b t h
  induction h with
  | known ht => intro _; obtain ⟨m, _, e⟩ := numOf_mem' hk ht; exact ⟨m, e⟩
  | opened h1 h2 hm ih1 ih2 =>
    intro _
    obtain ⟨n, hn⟩ := ih1 rfl
    obtain ⟨h, e⟩ := tmAt_some hn
    have := W.inside n h
    rw [e] at this
    obtain ⟨q, _, e2⟩ := numOf_mem' this hm
    exact ⟨q, e2⟩
  | weak h1 ih => intro h; cases h
  | make _ _ _ => intro h; cases h
/-- In the end all that can be reckoned is had. -/
theorem Run.all {K : List Tm} {g : Gr} (W : Wok g) {kn : List Nat} (hk : numOf g kn K) {hd : Nat → Nat} (R : Run K g kn hd []) : ∀ {b t}, Tm.Gk K b t → ∀ n, tmAt g n = some t → (if b then 2 else 1) ≤ hd n := by
  have cv : ∀ n k, cov hd [] n k → k ≤ hd n := fun n k hc => by
    rcases hc with hc | ⟨_, _, h2⟩
    · exact hc
    · cases h2
  intro b t h
  induction h with
  | known ht =>
    intro n hn
    obtain ⟨m, hm, e⟩ := numOf_mem' hk ht
    rw [W.inj _ _ _ hn e]
    exact cv _ _ (R.kn m hm)
  | @opened t m h1 h2 hm ih1 ih2 =>
    intro n hn
    obtain ⟨i, hi⟩ := part_in W hk h1 rfl
    obtain ⟨h, e⟩ := tmAt_some hi
    have hin := W.inside i h
    have hkey := W.keys i h
    rw [e] at hin hkey
    obtain ⟨q, hq, e2⟩ := numOf_mem' hin hm
    rw [W.inj _ _ _ hn e2]
    have h2i := ih1 i hi
    refine cv _ _ (R.op i ?_ g[i] (List.getElem?_eq_getElem h) q hq)
    unfold opensB
    rw [List.getElem?_eq_getElem h]
    simp only [Bool.and_eq_true, List.all_eq_true, decide_eq_true_eq]
    refine ⟨h2i, fun k hk' => ?_⟩
    obtain ⟨u, hu, e3⟩ := numOf_mem hkey hk'
    exact ih2 u hu k e3
  | weak h1 ih =>
    intro n hn
    have := ih n hn
    simp at this ⊢
    omega
  | @make t h1 h2 ih =>
    intro n hn
    obtain ⟨h, e⟩ := tmAt_some hn
    have hneed := W.needs n h
    rw [e] at hneed
    refine cv _ _ (R.mkd n ?_)
    unfold canMk
    rw [List.getElem?_eq_getElem h]
    simp only [Bool.and_eq_true, List.all_eq_true, decide_eq_true_eq, e, h1, Bool.not_false, true_and]
    intro m hm
    obtain ⟨u, hu, e2⟩ := numOf_mem hneed hm
    exact ih u hu m e2
/-- So a term's place tells whether it can be reckoned. -/
theorem Run.tells {K : List Tm} {g : Gr} (W : Wok g) {kn : List Nat} (hk : numOf g kn K) {hd : Nat → Nat} (R : Run K g kn hd []) {n : Nat} {t : Tm} (hn : tmAt g n = some t) : 1 ≤ hd n ↔ Tm.Gk K false t := by
  constructor
  · intro h
    obtain ⟨t', ht', hg⟩ := (R.had n h).weak
    rw [hn] at ht'
    cases ht'
    exact hg
  · intro h
    exact R.all W hk h n hn
/-- What stands on the stack at the beginning. -/
theorem Run.begin {K : List Tm} {g : Gr} (W : Wok g) {kn : List Nat} (hk : numOf g kn K) (hK : ∀ t ∈ K, True) : Run K g kn (fun _ => 0) (((List.range g.length).filter (canMk g (fun _ => 0))).map (fun n => (n, 1)) ++ kn.map (fun n => (n, 2))) := by
  refine ⟨fun n h => by simp at h, fun p hp => ?_, fun n hn => ?_, fun n hn => ?_, fun n hn => ?_⟩
  · rcases List.mem_append.1 hp with hp | hp
    · obtain ⟨n, hn, rfl⟩ := List.mem_map.1 hp
      obtain ⟨h1, h2⟩ := List.mem_filter.1 hn
      exact gives_just W (hd := fun _ => 0) (fun n h => by simp at h) (p := (n, 1)) (n := n) (by unfold givesL; rw [h2]; simp)
    · obtain ⟨n, hn, rfl⟩ := List.mem_map.1 hp
      obtain ⟨t, ht, e⟩ := numOf_mem hk hn
      exact ⟨.inr rfl, t, e, .known ht⟩
  · refine .inr ⟨1, Nat.le_refl _, List.mem_append_left _ (List.mem_map.2 ⟨n, List.mem_filter.2 ⟨List.mem_range.2 ?_, hn⟩, rfl⟩)⟩
    unfold canMk at hn
    cases hx : g[n]? with
    | none => rw [hx] at hn; cases hn
    | some x => exact (List.getElem?_eq_some_iff.1 hx).1
  · unfold opensB at hn
    cases hx : g[n]? with
    | none => rw [hx] at hn; cases hn
    | some x => rw [hx] at hn; simp at hn
  · exact .inr ⟨2, Nat.le_refl _, List.mem_append_right _ (List.mem_map.2 ⟨n, hn, rfl⟩)⟩
end
section
open Go.RowKit Go.Shelf
set_option linter.unusedVariables false
set_option linter.unusedSimpArgs false
abbrev vi (n : Nat) : Value := .int .i64 (n : Int)
/-- A map of numbers, as it says. -/
def IsHad (w : World) (mp : Nat) (hd : Nat → Nat) : Prop := ∃ es clock, w.heap[mp]? = some (.map es clock) ∧ (∀ x ∈ es.toList, ∃ n h : Nat, x.key = vi n ∧ x.val = vi h ∧ hd n = h) ∧ (∀ n : Nat, (∀ x ∈ es.toList, x.key ≠ vi n) → hd n = 0) ∧ (es.toList.map (·.key)).Nodup
theorem vi_inj {a b : Nat} (h : vi a = vi b) : a = b := by
  unfold vi at h
  cases h
  rfl
theorem IsHad.keep {w v : World} {mp : Nat} {hd : Nat → Nat} {ms : List Nat} (h : IsHad w mp hd) (m : Mod ms w v) (hn : mp ∉ ms) : IsHad v mp hd := by
  obtain ⟨es, clock, h1, h2, h3, hnd⟩ := h
  have hlt : mp < w.heap.size := (Array.getElem?_eq_some_iff.1 h1).1
  exact ⟨es, clock, (m.block mp hlt hn).trans h1, h2, h3, hnd⟩
theorem IsHad.lt {w : World} {mp : Nat} {hd : Nat → Nat} (h : IsHad w mp hd) : mp < w.heap.size := by
  obtain ⟨es, clock, h1, _⟩ := h
  exact (Array.getElem?_eq_some_iff.1 h1).1
theorem IsHad.uniq {w : World} {mp : Nat} {hd hd' : Nat → Nat} (h : IsHad w mp hd) (h' : IsHad w mp hd') : hd = hd' := by
  obtain ⟨es, clock, h1, h2, h3, hnd⟩ := h
  obtain ⟨es', clock', k1, k2, k3, _⟩ := h'
  rw [h1] at k1
  cases k1
  funext n
  by_cases hx : ∀ x ∈ es.toList, x.key ≠ vi n
  · rw [h3 n hx, k3 n hx]
  · simp only [Classical.not_forall, Classical.not_not] at hx
    obtain ⟨x, hx, hk⟩ := hx
    obtain ⟨a, b, q1, q2, q3⟩ := h2 x hx
    obtain ⟨a', b', r1, r2, r3⟩ := k2 x hx
    have ea : a = n := vi_inj (q1.symm.trans hk)
    have ea' : a' = n := vi_inj (r1.symm.trans hk)
    subst ea
    subst ea'
    rw [q3, r3]
    exact vi_inj (q2.symm.trans r2)
theorem isKey_vi (n : Nat) : MapKept.IsKey (.int .i64) (vi n) := by unfold vi; simp [MapKept.IsKey]
theorem zero82 (w : World) : (zeroValue 82).run Tryd.prog w = .ok (vi 0) w := by kernel_rfl
theorem had_lookup {w : World} {mp : Nat} {hd : Nat → Nat} (h : IsHad w mp hd) (n : Nat) : (Instr.lookup 83 (.map (some mp)) (vi n) false).run Tryd.prog w = .ok (vi (hd n)) w := by
  obtain ⟨es, clock, h1, h2, h3, hnd⟩ := h
  have hks : ∀ x ∈ es.toList, MapKept.IsKey (.int .i64) x.key := fun x hx => by obtain ⟨a, b, q1, _⟩ := h2 x hx; rw [q1]; exact isKey_vi a
  rcases MapKept.findNow_spec (isKey_vi n) es.toList 0 hks with ⟨f1, f2⟩ | ⟨j, e, f1, f2, f3⟩
  · rw [h3 n f2]
    simp [Instr.lookup, run_underlying Tryd.underlying83, MapKept.run_getObj_map h1, MapKept.run_checkKey Tryd.underlying3 (isKey_vi n), MapKept.run_findKey Tryd.underlying3 f1, zero82, Result.andThen]
  · obtain ⟨a, b, q1, q2, q3⟩ := h2 e (List.mem_of_getElem? f2)
    have ea : a = n := vi_inj (q1.symm.trans f3)
    subst ea
    simp [Instr.lookup, run_underlying Tryd.underlying83, MapKept.run_getObj_map h1, MapKept.run_checkKey Tryd.underlying3 (isKey_vi a), MapKept.run_findKey Tryd.underlying3 f1, Result.andThen]
    rw [q2, q3]
theorem nil_lookup (w : World) (n : Nat) : (Instr.lookup 83 (.map none) (vi n) false).run Tryd.prog w = .ok (vi 0) w := by
  have f1 : Instr.findNow (.int .i64) (vi n) ([] : List MapEntry) 0 = some none := rfl
  simp [Instr.lookup, run_underlying Tryd.underlying83, MapKept.run_checkKey Tryd.underlying3 (isKey_vi n), MapKept.run_findKey Tryd.underlying3 f1, zero82, Result.andThen]
theorem had_update {w : World} {mp : Nat} {hd : Nat → Nat} (h : IsHad w mp hd) (n k : Nat) : ∃ v, (Instr.mapUpdate 83 (.map (some mp)) (vi n) (vi k)).run Tryd.prog w = .ok () v ∧ IsHad v mp (setH hd n k) ∧ Mod [mp] w v ∧ v.heap.size = w.heap.size := by
  obtain ⟨es, clock, h1, h2, h3, hnd⟩ := h
  have hks : ∀ x ∈ es.toList, MapKept.IsKey (.int .i64) x.key := fun x hx => by obtain ⟨a, b, q1, _⟩ := h2 x hx; rw [q1]; exact isKey_vi a
  have mod : ∀ o : Obj, Mod [mp] w { w with heap := w.heap.setIfInBounds mp o } := fun o => ⟨rfl, rfl, rfl, by simp, fun i _ hn => by
    show (w.heap.setIfInBounds mp o)[i]? = _
    rw [Array.getElem?_setIfInBounds_ne (fun e => hn (by simp [e]))]⟩
  rcases MapKept.findNow_spec (isKey_vi n) es.toList 0 hks with ⟨f1, f2⟩ | ⟨j, e, f1, f2, f3⟩
  · refine ⟨_, by simp [Instr.mapUpdate, run_underlying Tryd.underlying83, MapKept.run_getObj_map h1, MapKept.run_checkKey Tryd.underlying3 (isKey_vi n), MapKept.run_findKey Tryd.underlying3 f1, MapKept.run_setObj_map _ h1, Result.andThen]; rfl, ⟨_, _, (MapKept.heap_set h1).1, ?_, ?_, ?_⟩, mod _, by simp⟩
    · intro x hx
      simp only [Array.toList_push, List.mem_append, List.mem_singleton] at hx
      rcases hx with hx | rfl
      · obtain ⟨a, b, q1, q2, q3⟩ := h2 x hx
        refine ⟨a, b, q1, q2, ?_⟩
        unfold setH
        rw [if_neg (fun e => f2 x hx (by rw [q1, e]))]
        exact q3
      · exact ⟨n, k, rfl, rfl, by unfold setH; rw [if_pos rfl]⟩
    · intro a ha
      simp only [Array.toList_push, List.mem_append, List.mem_singleton] at ha
      have hne : a ≠ n := fun e => ha _ (.inr rfl) (by rw [e])
      unfold setH
      rw [if_neg hne]
      exact h3 a (fun x hx => ha x (.inl hx))
    · rw [Array.toList_push, List.map_append, List.nodup_append]
      refine ⟨hnd, by simp, fun a ha b hb => ?_⟩
      obtain ⟨x, hx, rfl⟩ := List.mem_map.1 ha
      simp only [List.map_cons, List.map_nil, List.mem_singleton] at hb
      rw [hb]
      exact f2 x hx
  · have hj : es[j]? = some e := by simpa using f2
    refine ⟨_, by simp [Instr.mapUpdate, run_underlying Tryd.underlying83, MapKept.run_getObj_map h1, MapKept.run_checkKey Tryd.underlying3 (isKey_vi n), MapKept.run_findKey Tryd.underlying3 f1, hj, f3, MapKept.run_keyThatStays (isKey_vi n), MapKept.run_setObj_map _ h1, Result.andThen]; rfl, ⟨_, _, (MapKept.heap_set h1).1, ?_, ?_, ?_⟩, mod _, by simp⟩
    · intro x hx
      obtain ⟨i, hi⟩ := List.getElem?_of_mem hx
      rw [Array.getElem?_toList, Array.getElem?_modify] at hi
      split at hi
      · rename_i hij
        subst hij
        rw [hj] at hi
        cases hi
        exact ⟨n, k, rfl, rfl, by unfold setH; rw [if_pos rfl]⟩
      · rename_i hij
        have hxm : x ∈ es.toList := List.mem_of_getElem? (by rw [Array.getElem?_toList]; exact hi)
        obtain ⟨a, b, q1, q2, q3⟩ := h2 x hxm
        refine ⟨a, b, q1, q2, ?_⟩
        unfold setH
        rw [if_neg ?_]
        · exact q3
        · rintro rfl
          refine hij ?_
          have e1 : (es.toList.map (·.key))[j]? = some e.key := by rw [List.getElem?_map, f2]; rfl
          have e2 : (es.toList.map (·.key))[i]? = some x.key := by rw [List.getElem?_map, Array.getElem?_toList, hi]; rfl
          rw [f3] at e1
          rw [q1] at e2
          exact (List.getElem?_inj (List.getElem?_eq_some_iff.1 e1).1 hnd).1 (e1.trans e2.symm)
    · intro a ha
      have hmem : ∀ i x, es[i]? = some x → j ≠ i → x ∈ (es.modify j fun e' => { e' with key := vi n, val := vi k }).toList := fun i x hx hij => by
        refine List.mem_of_getElem? (i := i) ?_
        rw [Array.getElem?_toList, Array.getElem?_modify, if_neg hij]
        exact hx
      have hnew : ({ e with key := vi n, val := vi k } : MapEntry) ∈ (es.modify j fun e' => { e' with key := vi n, val := vi k }).toList := by
        refine List.mem_of_getElem? (i := j) ?_
        rw [Array.getElem?_toList, Array.getElem?_modify, if_pos rfl, hj]
        rfl
      have hne : a ≠ n := fun e' => ha _ hnew (by rw [e'])
      unfold setH
      rw [if_neg hne]
      refine h3 a (fun x hx => ?_)
      obtain ⟨i, hi⟩ := List.getElem?_of_mem hx
      rw [Array.getElem?_toList] at hi
      by_cases hij : j = i
      · subst hij
        rw [hj] at hi
        cases hi
        rw [f3]
        intro e'
        exact hne (vi_inj e').symm
      · exact ha x (hmem i x hi hij)
    · rw [MapKept.modify_keys _ _ (fun e' he' => by rw [hj] at he'; cases he'; exact f3.symm)]
      exact hnd
end
section
open Go.RowKit Go.Shelf
set_option linter.unusedVariables false
set_option linter.unusedSimpArgs false
/-- A row of numbers that stands. -/
def tI (L S : Nat → Prop) (A : Option Addr) (ns : List Nat) : Th := (S, fun w => Cells w A (ns.map vi) ∧ (∀ a, A = some a → ns ≠ [] → S a.block) ∧ ∀ g, S g → L g)
theorem keeps_tI (L S : Nat → Prop) (A : Option Addr) (ns : List Nat) : keeps (tI L S A ns) := fun w v ms m h hw => by
  refine ⟨?_, hw.2.1, hw.2.2⟩
  cases ns with
  | nil => exact Cells.nil _ _
  | cons n ns => exact hw.1.keep m fun a ha => h _ (hw.2.1 a ha (by simp))
/-- A row of numbers of the call's own. -/
def fi (n : Nat) : List Value := [vi n]
def oI (A : Option Addr) (c : Nat) (ns : List Nat) : Th := ((· ∈ blkOf A), fun w => OwnG fi 3 1 w A c ns)
theorem keeps_oI (A : Option Addr) (c : Nat) (ns : List Nat) : keeps (oI A c ns) := fun w v ms m h hw => OwnG.keep hw m (fun a ha => h _ (by rw [ha]; exact blk_of))
/-- What is had. -/
def oH (mp : Nat) (hd : Nat → Nat) : Th := ((· = mp), fun w => IsHad w mp hd)
theorem keeps_oH (mp : Nat) (hd : Nat → Nat) : keeps (oH mp hd) := fun w v ms m h hw => IsHad.keep hw m (h mp rfl)
theorem int_one : (Tryd.prog.info? 3).map (·.size) = some 1 := by kernel_rfl
theorem exec_lookup {v : World} {o : Oper} {ρ : Operand → Value} {t : TypeId} {x y : Operand} {M K V : Value} (hr : (Instr.lookup t M K false).run Tryd.prog v = .ok V v) (ho : o.op = .lookup t x y false) (hx : ρ x = M) (hy : ρ y = K) : (execOp ρ o).run Tryd.prog v = .ok (.value V) v := by
  unfold execOp
  simp only [ho, hx, hy, Sem.run_bind, hr, Result.andThen, Sem.run_pure]
theorem drop_all (f : Nat → Bool) (l : List Nat) (j : Nat) (h : j < l.length) : (l.drop j).all f = (f l[j] && (l.drop (j + 1)).all f) := by
  rw [List.drop_eq_getElem_cons h, List.all_cons]
set_option maxRecDepth 1000000 in
set_option maxHeartbeats 2000000 in
theorem all_c (A : Option Addr) (n c : Nat) (ns : List Nat) (mv : Value) (hd : Nat → Nat) (w : World) (hl : n = ns.length) (hn : n ≤ 2199023255552) (hC : Cells w A (ns.map vi)) (LK : ∀ k, (Instr.lookup 83 mv (vi k) false).run Tryd.prog w = .ok (vi (hd k)) w) : Calls Tryd.prog 106 #[.slice A n c, mv] w fun e w' => e = .returned (.bool (ns.all fun m => decide (1 ≤ hd m))) ∧ w' = w := by
  have HL := Lib.hid hl
  have HC := Lib.hid hC
  obtain ⟨R, hR⟩ : ∃ r, r = ns.all fun m => decide (1 ≤ hd m) := ⟨_, rfl⟩
  rw [← hR]
  have HR : Hid (R = (ns.drop 0).all fun m => decide (1 ≤ hd m)) := Lib.hid (by rw [List.drop_zero]; exact hR)
  clear hl hC hR
  go_enter Tryd.func106, Tryd.ntmps106
  go_wp2_with fail
  go_loopw [9] (fun i wr => ∃ j : Nat, i = .int .i64 j ∧ j ≤ n ∧ wr = w ∧ Hid (R = (ns.drop j).all fun m => decide (1 ≤ hd m))) (fun i _ => n - (intOf i).toNat)
  case atStart => exact ⟨0, rfl, Nat.zero_le _, rfl, HR⟩
  case round =>
  obtain ⟨j, rfl, hj, hwr, hr⟩ := hrel
  subst hwr
  by_cases hjl : j < n
  case neg =>
    obtain rfl : n = j := by omega
    have hR1 : R = true := by
      rw [hr.out, HL.out, List.drop_length]
      rfl
    subst hR1
    go_wp2_with fail
    go_ret
    exact ⟨rfl, rfl⟩
  case pos =>
    have hjq : j < ns.length := by rw [← HL.out]; exact hjl
    obtain ⟨g, q, e, hc⟩ := HC.out j (by simpa using hjq)
    subst e
    simp only [List.getElem_map] at hc
    have hd2 := hr.out.trans (drop_all _ ns j hjq)
    obtain ⟨m, hm⟩ : ∃ m, m = ns[j] := ⟨_, rfl⟩
    rw [← hm] at hc hd2
    have LKm := LK m
    obtain ⟨h, hh⟩ : ∃ h, h = hd m := ⟨_, rfl⟩
    rw [← hh] at LKm hd2
    have HD := Lib.hid hd2
    have hc' : wr.cell? ⟨g, q + j * 1, none⟩ = some (vi m) := by rw [Nat.mul_one]; exact hc
    clear hd2 hm hh hc
    cases hb : decide (((h : Nat) : Int) < 1) with
    | true =>
      have hRf : R = false := by
        have : h = 0 := by have := of_decide_eq_true hb; omega
        rw [HD.out, this]
        rfl
      go_wp2_with (first
        | (with_reducible refine wpList_ran (o := ⟨some 11, _, _, _, _, _⟩) rfl (.pointer (some ⟨g, q + j * 1, none⟩)) (exec_ixs Tryd.underlying80 int_one hjl rfl rfl rfl) ?_)
        | (with_reducible refine wpList_ran (o := ⟨some 12, _, _, _, _, _⟩) rfl (vi m) (exec_load rfl rfl (run_load1 Tryd.underlying3 rfl hc')) ?_)
        | (with_reducible refine wpList_ran (o := ⟨some 15, _, _, _, _, _⟩) rfl (vi h) (exec_lookup LKm rfl rfl rfl) ?_))
      go_ret
      exact ⟨by rw [hRf]; rfl, rfl⟩
    | false =>
      have hRt : R = (ns.drop (j + 1)).all fun m => decide (1 ≤ hd m) := by
        have : 1 ≤ h := by have := of_decide_eq_false hb; omega
        rw [HD.out, decide_eq_true this, Bool.true_and]
      have HT := Lib.hid hRt
      clear hRt
      go_wp2_with (first
        | (with_reducible refine wpList_ran (o := ⟨some 11, _, _, _, _, _⟩) rfl (.pointer (some ⟨g, q + j * 1, none⟩)) (exec_ixs Tryd.underlying80 int_one hjl rfl rfl rfl) ?_)
        | (with_reducible refine wpList_ran (o := ⟨some 12, _, _, _, _, _⟩) rfl (vi m) (exec_load rfl rfl (run_load1 Tryd.underlying3 rfl hc')) ?_)
        | (with_reducible refine wpList_ran (o := ⟨some 15, _, _, _, _, _⟩) rfl (vi h) (exec_lookup LKm rfl rfl rfl) ?_))
      exact ⟨⟨j + 1, by go_num, by omega, by first | rfl | trivial, HT⟩, by simp [intOf]; omega⟩
theorem fm_load1G' {w0 w : World} {os ts : List Th} {ops : Array Oper} {rest : List Oper} {o : Oper} {a : Act} {Q : Exit → Act → World → Prop} (F : Fm w0 w os ts) (i k : Nat) {b : Nat} {t : TypeId} {cs : List Value} (hi : os[i]? = some (oB b t cs)) (V : Value) (hk : cs[k]? = some V) (hw : Region.wanted o (yielded ops a.tmps) = true) (ty : TypeId) (x : Operand) (ho : o.op = .load ty x) (hx : a.eval x = .pointer (some ⟨b, k, none⟩)) (hr : w.cell? ⟨b, k, none⟩ = some V → (loadVar ty ⟨b, k, none⟩).run Tryd.prog w = .ok V w)
    (h : wpList Tryd.prog ops Q rest (a.put o.dst V) w) : wpList Tryd.prog ops Q (o :: rest) a w := by
  have hc : w.cell? ⟨b, k, none⟩ = some V := ((F.blk i hi).cell k).trans hk
  exact fm_ranW hw V w (exec_load ho hx (hr hc)) h
set_option maxRecDepth 1000000 in
set_option maxHeartbeats 2000000 in
theorem isAtom_c (k u n : Int) (s : ByteArray) (A : Option Addr) (len c : Nat) (w : World) : Calls Tryd.prog 67 #[.agg (tmc k u n s A len c).toArray] w fun e w' => e = .returned (.bool (k == 2 || k == 3)) ∧ Mod [] w w' := by
  have FA := Fm.nil w
  cases h2 : (k == 2) with
  | true =>
    go_enter Tryd.func67, Tryd.ntmps67
    go_wp2_with (first
      | (with_reducible refine fm_box FA (o := ⟨some 1, .box 24 (.tmp 0), _, _, _, _⟩) rfl 24 (.tmp 0) rfl (tmc k u n s A len c) rfl ?_; intro b1 w1 F1; clear FA)
      | (with_reducible refine fm_load1 F1 0 0 rfl (.int .i64 k) rfl (o := ⟨some 4, _, _, _, _, _⟩) rfl 3 (.tmp 3) rfl rfl (fun h => run_load1 Tryd.underlying3 rfl h) ?_)
      | (with_reducible refine fm_load1G' F1 0 0 rfl (.int .i64 k) rfl (o := ⟨some 8, _, _, _, _, _⟩) (by with_unfolding_all rfl) 3 (.tmp 7) rfl rfl (fun h => run_load1 Tryd.underlying3 rfl h) ?_))
    go_ret
    exact ⟨by first | rfl | trivial | simp, F1.m⟩
  | false =>
    go_enter Tryd.func67, Tryd.ntmps67
    go_wp2_with (first
      | (with_reducible refine fm_box FA (o := ⟨some 1, .box 24 (.tmp 0), _, _, _, _⟩) rfl 24 (.tmp 0) rfl (tmc k u n s A len c) rfl ?_; intro b1 w1 F1; clear FA)
      | (with_reducible refine fm_load1 F1 0 0 rfl (.int .i64 k) rfl (o := ⟨some 4, _, _, _, _, _⟩) rfl 3 (.tmp 3) rfl rfl (fun h => run_load1 Tryd.underlying3 rfl h) ?_)
      | (with_reducible refine fm_load1G' F1 0 0 rfl (.int .i64 k) rfl (o := ⟨some 8, _, _, _, _, _⟩) (by with_unfolding_all rfl) 3 (.tmp 7) rfl rfl (fun h => run_load1 Tryd.underlying3 rfl h) ?_))
    go_ret
    exact ⟨by first | rfl | trivial | simp, F1.m⟩
end
section
open Go.RowKit Go.Shelf
set_option linter.unusedVariables false
set_option linter.unusedSimpArgs false
/-- The first one of these that may not be: what is wrong. -/
def fwE (l : List Tm) : Int := if l.all Tm.right = true then 0 else 150
theorem fw_drop (l : List Tm) (j : Nat) (h : j < l.length) : fwE (l.drop j) = if l[j].right = true then fwE (l.drop (j + 1)) else 150 := by
  unfold fwE
  rw [List.drop_eq_getElem_cons h, List.all_cons]
  cases l[j].right <;> simp
set_option maxRecDepth 1000000 in
set_option maxHeartbeats 3000000 in
theorem firstWrong_c (A0 : Option Addr) (n c0 : Nat) (vs0 : List (List Value)) (l : List Tm) (S0 : Nat → Prop) (w : World) (hl : n = l.length) (hn : n ≤ 100000) (hR : RowT w S0 A0 vs0 l) (hS : ∀ g, S0 g → g < w.heap.size) (G : Glob w) : Calls Tryd.prog 82 #[.slice A0 n c0] w fun e w' => e = .returned (.int .i64 (fwE l)) ∧ Mod [] w w' := by
  have FA := (Fm.nil w).argC hR hS
  have HL := Lib.hid hl
  obtain ⟨R, hR'⟩ : ∃ r, r = fwE l := ⟨_, rfl⟩
  rw [← hR']
  have HR : Hid (R = fwE (l.drop 0)) := Lib.hid (by rw [List.drop_zero]; exact hR')
  clear hl hR hS hR'
  go_enter Tryd.func82, Tryd.ntmps82
  go_wp2_with fail
  go_loopw [8] (fun i wr => ∃ j : Nat, i = .int .i64 j ∧ j ≤ n ∧ Hid (R = fwE (l.drop j)) ∧ Fm w wr [] [tR Any S0 A0 vs0 l]) (fun i _ => n - (intOf i).toNat)
  case atStart => exact ⟨0, rfl, Nat.zero_le _, HR, FA⟩
  case round =>
  obtain ⟨j, rfl, hj, hr, FJ⟩ := hrel
  by_cases hjl : j < n
  case neg =>
    obtain rfl : n = j := by omega
    have hR1 : R = 0 := by
      rw [hr.out, HL.out, List.drop_length]
      rfl
    subst hR1
    go_wp2_with fail
    go_ret
    exact ⟨rfl, FJ.m⟩
  case pos =>
    have hjq : j < l.length := by rw [← HL.out]; exact hjl
    obtain ⟨g, q, cj, rfl, h5, h1, F0⟩ := FJ.elemR (FJ.mem 0 rfl) j hjq
    have hcj : cj.length = 5 ∧ ∀ v ∈ cj, v.oneCell' = true := ⟨h5, h1⟩
    replace F0 := F0.eT (F0.mem 0 rfl)
    have hd := hr.out.trans (fw_drop l j hjq)
    have CK := fun v S (hx : TIs v S (l[j]'hjq) cj) G => check_c (l[j]'hjq) cj S v hx G
    clear h5 h1 FJ
    cases hrt : l[j].right with
    | false =>
      rw [hrt] at hd
      rw [show chk l[j] = 150 by rw [chk, hrt]; rfl] at CK
      have hRw : R = 150 := hd
      clear hd hrt
      go_wp2_with (first
        | (with_reducible refine wpList_ran (o := ⟨some 10, _, _, _, _, _⟩) rfl (.pointer (some ⟨g, q + j * 5, none⟩)) (exec_ixs Tryd.underlying22 size24 hjl rfl rfl rfl) ?_)
        | (with_reducible refine fm_loadE F0 (F0.mem 1 rfl) (o := ⟨some 11, .load 24 (.tmp 10), _, _, _, _⟩) rfl (.tmp 10) rfl rfl hcj.1 ?_)
        | (with_reducible refine fm_alloc F0 (o := ⟨some 4, .alloc 24, _, _, _, _⟩) rfl 24 rfl _ zero24 ?_; intro b21 w21 F21; clear F0)
        | (with_reducible refine fm_store F21 0 rfl (o := ⟨none, .store 24 (.tmp 4) (.tmp 11), _, _, _, _⟩) rfl (.tmp 4) (.tmp 11) rfl rfl (cj) rfl rfl hcj.1 (tmc_len _ _ _ _ _ _ _) hcj.2 ?_; intro w22 F22; clear F21)
        | (with_reducible refine fm_load F22 0 rfl (o := ⟨some 12, .load 24 (.tmp 4), _, _, _, _⟩) rfl (.tmp 4) rfl rfl hcj.1 ?_)
        | (go_at_call 32; refine (CK w22 _ (F22.ist (F22.mem 0 rfl)) (F22.glob G)).mono ?_
           rintro e w23 ⟨rfl, m23⟩
           have F23 := F22.call m23
           clear m23 F22))
      go_ret
      exact ⟨by rw [hRw]; rfl, F23.m⟩
    | true =>
      rw [hrt] at hd
      rw [show chk l[j] = 0 by rw [chk, hrt]; rfl] at CK
      have HRw : Hid (R = fwE (l.drop (j + 1))) := Lib.hid hd
      clear hd hrt
      go_wp2_with (first
        | (with_reducible refine wpList_ran (o := ⟨some 10, _, _, _, _, _⟩) rfl (.pointer (some ⟨g, q + j * 5, none⟩)) (exec_ixs Tryd.underlying22 size24 hjl rfl rfl rfl) ?_)
        | (with_reducible refine fm_loadE F0 (F0.mem 1 rfl) (o := ⟨some 11, .load 24 (.tmp 10), _, _, _, _⟩) rfl (.tmp 10) rfl rfl hcj.1 ?_)
        | (with_reducible refine fm_alloc F0 (o := ⟨some 4, .alloc 24, _, _, _, _⟩) rfl 24 rfl _ zero24 ?_; intro b21 w21 F21; clear F0)
        | (with_reducible refine fm_store F21 0 rfl (o := ⟨none, .store 24 (.tmp 4) (.tmp 11), _, _, _, _⟩) rfl (.tmp 4) (.tmp 11) rfl rfl (cj) rfl rfl hcj.1 (tmc_len _ _ _ _ _ _ _) hcj.2 ?_; intro w22 F22; clear F21)
        | (with_reducible refine fm_load F22 0 rfl (o := ⟨some 12, .load 24 (.tmp 4), _, _, _, _⟩) rfl (.tmp 4) rfl rfl hcj.1 ?_)
        | (go_at_call 32; refine (CK w22 _ (F22.ist (F22.mem 0 rfl)) (F22.glob G)).mono ?_
           rintro e w23 ⟨rfl, m23⟩
           have F23 := F22.call m23
           clear m23 F22))
      exact ⟨⟨j + 1, by go_num, by omega, HRw, F23.sub (List.nil_sublist _) (fun y hy => by rw [List.mem_singleton] at hy; subst hy; exact F23.mem 2 rfl)⟩, by simp [intOf]; omega⟩
def rfE (K T : List Tm) : Int := if 500 < K.length then 3 else if fwE K = 0 then fwE T else 150
set_option maxRecDepth 1000000 in
set_option maxHeartbeats 1000000 in
theorem refused_long (A : Option Addr) (n c : Nat) (vs : List (List Value)) (K : List Tm) (S : Nat → Prop) (A2 : Option Addr) (n2 c2 : Nat) (vs2 : List (List Value)) (T : List Tm) (S2 : Nat → Prop) (w : World) (hl : n = K.length) (hl2 : n2 = T.length) (hn2 : n2 ≤ 100000) (hR : RowT w S A vs K) (hR2 : RowT w S2 A2 vs2 T) (hS : ∀ g, S g → g < w.heap.size) (hS2 : ∀ g, S2 g → g < w.heap.size) (G : Glob w) (hb : 500 < n) : Calls Tryd.prog 59 #[.slice A n c, .slice A2 n2 c2] w fun e w' => e = .returned (.int .i64 (rfE K T)) ∧ Mod [] w w' := by
  rw [show rfE K T = 3 by rw [rfE, if_pos (by omega)]]
  have hd : decide ((500 : Int) < (n : Int)) = true := by simp; omega
  clear hR hR2 hS hS2
  go_enter Tryd.func59, Tryd.ntmps59
  go_wp2_with fail
  go_ret
  exact ⟨rfl, Mod.refl _ _⟩
set_option maxRecDepth 1000000 in
set_option maxHeartbeats 1000000 in
theorem refused_k0 (A : Option Addr) (n c : Nat) (vs : List (List Value)) (K : List Tm) (S : Nat → Prop) (A2 : Option Addr) (n2 c2 : Nat) (vs2 : List (List Value)) (T : List Tm) (S2 : Nat → Prop) (w : World) (hl : n = K.length) (hl2 : n2 = T.length) (hn2 : n2 ≤ 100000) (hR : RowT w S A vs K) (hR2 : RowT w S2 A2 vs2 T) (hS : ∀ g, S g → g < w.heap.size) (hS2 : ∀ g, S2 g → g < w.heap.size) (G : Glob w) (hb : n ≤ 500) (hf : fwE K = 0) : Calls Tryd.prog 59 #[.slice A n c, .slice A2 n2 c2] w fun e w' => e = .returned (.int .i64 (rfE K T)) ∧ Mod [] w w' := by
  have hrf : rfE K T = fwE T := by rw [rfE, if_neg (by omega), hf]; rfl
  have hd : decide ((500 : Int) < (n : Int)) = false := by simp; omega
  have FA := ((Fm.nil w).argC hR2 hS2).argC hR hS
  have F1 := fun v S h1 h2 h3 => firstWrong_c A n c vs K S v hl (by omega) h1 h2 h3
  have F2 := fun v S h1 h2 h3 => firstWrong_c A2 n2 c2 vs2 T S v hl2 hn2 h1 h2 h3
  rw [hf] at F1
  rw [hrf]
  obtain ⟨E, hE⟩ : ∃ e, e = fwE T := ⟨_, rfl⟩
  rw [← hE] at F2 ⊢
  clear hR hR2 hS hS2 hl hl2 hf hrf hE
  go_enter Tryd.func59, Tryd.ntmps59
  go_wp2_with (first
    | (go_at_call 82; refine (F1 w _ (FA.rowC (FA.mem 0 rfl)) (FA.ltm (FA.mem 0 rfl)) (FA.glob G)).mono ?_
       rintro e w1 ⟨rfl, m1⟩
       have F1 := FA.call m1
       clear m1 FA)
    | (go_at_call 82; refine (F2 w1 _ (F1.rowC (F1.mem 1 rfl)) (F1.ltm (F1.mem 1 rfl)) (F1.glob G)).mono ?_
       rintro e w2 ⟨rfl, m2⟩
       have F2 := F1.call m2
       clear m2 F1))
  go_ret
  exact ⟨rfl, F2.m⟩
set_option maxRecDepth 1000000 in
set_option maxHeartbeats 1000000 in
theorem refused_k150 (A : Option Addr) (n c : Nat) (vs : List (List Value)) (K : List Tm) (S : Nat → Prop) (A2 : Option Addr) (n2 c2 : Nat) (vs2 : List (List Value)) (T : List Tm) (S2 : Nat → Prop) (w : World) (hl : n = K.length) (hl2 : n2 = T.length) (hn2 : n2 ≤ 100000) (hR : RowT w S A vs K) (hR2 : RowT w S2 A2 vs2 T) (hS : ∀ g, S g → g < w.heap.size) (hS2 : ∀ g, S2 g → g < w.heap.size) (G : Glob w) (hb : n ≤ 500) (hf : fwE K = 150) : Calls Tryd.prog 59 #[.slice A n c, .slice A2 n2 c2] w fun e w' => e = .returned (.int .i64 (rfE K T)) ∧ Mod [] w w' := by
  have hrf : rfE K T = 150 := by rw [rfE, if_neg (by omega), hf]; rfl
  have hd : decide ((500 : Int) < (n : Int)) = false := by simp; omega
  have FA := ((Fm.nil w).argC hR2 hS2).argC hR hS
  have F1 := fun v S h1 h2 h3 => firstWrong_c A n c vs K S v hl (by omega) h1 h2 h3
  have F2 := fun v S h1 h2 h3 => firstWrong_c A2 n2 c2 vs2 T S v hl2 hn2 h1 h2 h3
  rw [hf] at F1
  rw [hrf]
  obtain ⟨E, hE⟩ : ∃ e, e = fwE T := ⟨_, rfl⟩
  rw [← hE] at F2
  clear hR hR2 hS hS2 hl hl2 hf hrf hE
  go_enter Tryd.func59, Tryd.ntmps59
  go_wp2_with (first
    | (go_at_call 82; refine (F1 w _ (FA.rowC (FA.mem 0 rfl)) (FA.ltm (FA.mem 0 rfl)) (FA.glob G)).mono ?_
       rintro e w1 ⟨rfl, m1⟩
       have F1 := FA.call m1
       clear m1 FA))
  go_ret
  exact ⟨rfl, F1.m⟩
theorem refused_c (A : Option Addr) (n c : Nat) (vs : List (List Value)) (K : List Tm) (S : Nat → Prop) (A2 : Option Addr) (n2 c2 : Nat) (vs2 : List (List Value)) (T : List Tm) (S2 : Nat → Prop) (w : World) (hl : n = K.length) (hl2 : n2 = T.length) (hn2 : n2 ≤ 100000) (hR : RowT w S A vs K) (hR2 : RowT w S2 A2 vs2 T) (hS : ∀ g, S g → g < w.heap.size) (hS2 : ∀ g, S2 g → g < w.heap.size) (G : Glob w): Calls Tryd.prog 59 #[.slice A n c, .slice A2 n2 c2] w fun e w' => e = .returned (.int .i64 (rfE K T)) ∧ Mod [] w w' := by
  by_cases h : 500 < n
  · exact refused_long A n c vs K S A2 n2 c2 vs2 T S2 w hl hl2 hn2 hR hR2 hS hS2 G h
  · by_cases hf : fwE K = 0
    · exact refused_k0 A n c vs K S A2 n2 c2 vs2 T S2 w hl hl2 hn2 hR hR2 hS hS2 G (by omega) hf
    · have hf' : fwE K = 150 := by
        unfold fwE at hf ⊢
        split
        · rename_i h'; rw [if_pos h'] at hf; exact absurd rfl hf
        · rfl
      exact refused_k150 A n c vs K S A2 n2 c2 vs2 T S2 w hl hl2 hn2 hR hR2 hS hS2 G (by omega) hf'
end
section
open Go.RowKit Go.Shelf
set_option linter.unusedVariables false
set_option linter.unusedSimpArgs false
theorem info3 : ∃ i : TypeInfo, Tryd.prog.info? 3 = some i ∧ i.zero = some (vi 0) ∧ i.size = 1 ∧ i.bytes = 8 :=
  info_parts (show (Tryd.prog.info? 3).map (fun i => (i.zero, i.size, i.bytes)) = some (some (vi 0), 1, 8) by kernel_rfl)
theorem fi_len (n : Nat) : (fi n).length = 1 := rfl
theorem fi_one (n : Nat) : ∀ v ∈ fi n, v.oneCell' = true := by simp [fi, Value.oneCell']
/-- A row with room, and nothing in it. -/
theorem OwnG.room {w : World} {c : Nat} {g : Nat} {cs : Array Value} (hg : w.heap[g]? = some (.cells cs 3 (0, 0))) (hs : cs.size = c) (hc : c ≤ maxLen) : OwnG fi 3 1 w (some ⟨g, 0, none⟩) c [] := by
  refine ⟨rfl, .inr ⟨g, c, cs, rfl, Nat.zero_le _, hg, Nat.zero_le _, hc, by omega, ?_⟩⟩
  simp
theorem exec_appendz {v : World} {o : Oper} {ρ : Operand → Value} {x y : Operand} {n : Nat} (h0 : 0 < n) (hn : n ≤ 1000000) (ho : o.op = .call { callee := .builtin .append, args := #[x, y], argTypes := #[80, 3] }) (hx : ρ x = .slice none 0 0) (hy : ρ y = .int .i64 (n : Int)) :
    ∃ v' c, (execOp ρ o).run Tryd.prog v = .ok (.value (.slice (some ⟨v.heap.size, 0, none⟩) n c)) v' ∧ Mod [] v v' ∧ OwnG fi 3 1 v' (some ⟨v.heap.size, 0, none⟩) c [] := by
  obtain ⟨i, i0, i1, i2, i3⟩ := info3
  have happ := Lib.run_append_nil_zeros (P := Tryd.prog) v 80 3 o.type 3 i (vi 0) .i64 .i64 Tryd.underlying80 Tryd.underlying3 i0 i1 n h0 (by omega) (by omega) (by rw [i3]; omega)
  have hge := grownCap_ge v n 0 3
  have hle := grownCap_le_maxLen v n 0 3 (by unfold maxLen; omega)
  obtain ⟨Z, hZ⟩ : ∃ Z, Z = Builtin.zeroCells (vi 0).cells n ++ Builtin.zeroCells (vi 0).cells (grownCap v n 0 3 - n) := ⟨_, rfl⟩
  rw [← hZ] at happ
  have hZs : Z.size = grownCap v n 0 3 := by rw [hZ]; simp [size_zeroCells, Value.cells, vi]; omega
  have hnew : (v.drew.alloc (.cells Z 3)).heap[v.heap.size]? = some (.cells Z 3 (0, 0)) := heap_alloc_new v.drew _
  refine ⟨v.drew.alloc (.cells Z 3), grownCap v n 0 3, ?_, ?_, OwnG.room hnew hZs hle⟩
  · unfold execOp
    simp only [ho, resolve, invoke, builtin, Sem.run_bind, Sem.run_pure, Result.andThen_ok, List.map_toArray, List.map_cons, List.map_nil, hx, hy, happ]
  · exact (Mod.drew [] v).then (Mod.alloc [] v.drew _)
theorem exec_tail {v : World} {o : Oper} {ρ : Operand → Value} {x y : Operand} {A : Option Addr} {n c k : Nat} (hA : A = none → k = 0 ∧ c = 0) (hk : k ≤ c) (ho : o.op = .slice 80 x none (some y) none) (hx : ρ x = .slice A n c) (hy : ρ y = .int .i64 (k : Int)) : (execOp ρ o).run Tryd.prog v = .ok (.value (.slice A k c)) v := by
  unfold execOp
  rcases A with _ | a
  · obtain ⟨rfl, rfl⟩ := hA rfl
    simp [ho, hx, hy, go_sem, run_underlying Tryd.underlying80]
  · simp [ho, hx, hy, go_sem, run_underlying Tryd.underlying80]
    intro h
    omega
theorem wp_open_appendz {w : World} {ops : Array Oper} {rest : List Oper} {o : Oper} {a : Act} {Q : Exit → Act → World → Prop} {x y : Operand} {n : Nat} (h0 : 0 < n) (hn : n ≤ 1000000) (hgd : o.guard = none) (ho : o.op = .call { callee := .builtin .append, args := #[x, y], argTypes := #[80, 3] }) (hx : a.eval x = .slice none 0 0) (hy : a.eval y = .int .i64 (n : Int))
    (h : ∀ g c v, OwnG fi 3 1 v (some ⟨g, 0, none⟩) c [] → Mod [] w v → w.heap.size ≤ g → wpList Tryd.prog ops Q rest (a.put o.dst (.slice (some ⟨g, 0, none⟩) n c)) v) : wpList Tryd.prog ops Q (o :: rest) a w := by
  obtain ⟨v, c, h1, h2, h3⟩ := exec_appendz (v := w) h0 hn ho hx hy
  exact fm_ranW (by unfold Region.wanted; rw [hgd]) _ _ h1 (h _ c v h3 h2 (Nat.le_refl _))
set_option maxRecDepth 1000000 in
set_option maxHeartbeats 1000000 in
theorem grow_none (w : World) : Calls Tryd.prog 103 #[.slice none 0 0, .int .i64 0] w fun e w' => e = .returned (.slice none 0 0) ∧ w' = w := by
  go_enter Tryd.func103, Tryd.ntmps103
  go_wp2_with fail
  go_ret
  exact ⟨rfl, rfl⟩
set_option maxRecDepth 1000000 in
set_option maxHeartbeats 1000000 in
theorem grow_some (n : Nat) (w : World) (h0 : 0 < n) (hn : n ≤ 1000000) : Calls Tryd.prog 103 #[.slice none 0 0, .int .i64 (n : Int)] w fun e w' => ∃ g c, e = .returned (.slice (some ⟨g, 0, none⟩) 0 c) ∧ OwnG fi 3 1 w' (some ⟨g, 0, none⟩) c [] ∧ Mod [] w w' ∧ w.heap.size ≤ g := by
  have hd0 : decide ((n : Int) < 0) = false := by simp
  have hd1 : decide ((0 : Int) < (n : Int)) = true := by simp; omega
  go_enter Tryd.func103, Tryd.ntmps103
  go_wp2_with (first
    | (refine wp_open_appendz h0 hn (o := ⟨some 22, .call { callee := .builtin .append, args := #[.tmp 20, .tmp 21], argTypes := #[80, 3] }, _, _, _, _⟩) rfl rfl rfl rfl ?_; intro g c v hO m hg)
    | (with_reducible refine wpList_ran (o := ⟨some 25, .slice 80 (.tmp 22) none (some (.tmp 24)) none, _, _, _, _⟩) rfl (.slice (some ⟨g, 0, none⟩) 0 c) (exec_tail (k := 0) (fun h => by cases h) (Nat.zero_le _) rfl rfl rfl) ?_))
  go_ret
  exact ⟨g, c, rfl, hO, m, hg⟩
end
section
open Go.RowKit Go.Shelf
set_option linter.unusedVariables false
set_option linter.unusedSimpArgs false
/-- A row of numbers as a value: its address, its capacity, what is in it. -/
abbrev Rw := Option Addr × Nat × List Nat
def rv (r : Rw) : Value := .slice r.1 r.2.2.length r.2.1
def catN (rs : List Rw) : List Nat := rs.flatMap (·.2.2)
theorem cat_take (rs : List Rw) (j : Nat) (h : j < rs.length) : catN (rs.take (j + 1)) = catN (rs.take j) ++ rs[j].2.2 := by
  unfold catN
  rw [List.take_succ_eq_append_getElem h, List.flatMap_append]
  simp
theorem cat_take_le (rs : List Rw) (j : Nat) : (catN (rs.take j)).length ≤ (catN rs).length := by
  have : catN rs = catN (rs.take j) ++ catN (rs.drop j) := by
    unfold catN
    rw [← List.flatMap_append, List.take_append_drop]
  rw [this, List.length_append]
  omega
theorem sl_one : (Tryd.prog.info? 80).map (·.size) = some 1 := by kernel_rfl
theorem fi_flat (l : List Nat) : l.flatMap fi = l.map vi := by
  induction l with
  | nil => rfl
  | cons a l ih => rw [List.flatMap_cons, ih]; rfl
theorem wp_appendI {w0 w : World} {ops : Array Oper} {rest : List Oper} {o : Oper} {a : Act} {Q : Exit → Act → World → Prop} {x y : Operand} {A X : Option Addr} {n c m d : Nat} {l k : List Nat} (M0 : Mod [] w0 w) (hA : ∀ a, A = some a → w0.heap.size ≤ a.block) (hO : OwnG fi 3 1 w A c l) (hn : n = l.length) (hm : m = k.length) (hX : Cells w X (k.map vi)) (hb : l.length + k.length ≤ 1000000)
    (hgd : o.guard = none) (ho : o.op = .call { callee := .builtin .append, args := #[x, y], argTypes := #[80, 80] }) (hx : a.eval x = .slice A n c) (hy : a.eval y = .slice X m d)
    (h : ∀ A' c' v, OwnG fi 3 1 v A' c' (l ++ k) → Mod [] w0 v → (∀ a, A' = some a → w0.heap.size ≤ a.block) → wpList Tryd.prog ops Q rest (a.put o.dst (.slice A' (l ++ k).length c')) v) : wpList Tryd.prog ops Q (o :: rest) a w := by
  obtain ⟨i, i0, i1, i2, i3⟩ := info3
  refine wpList_appendG (f := fi) w hgd x y 80 ho 3 i (vi 0) 8 Tryd.underlying80 i0 i1 i2 i3 (by rfl) (by decide) fi_len fi_one A n c l hx hn hO X m d k hy hm (by rw [fi_flat]; exact hX) (by omega) (by unfold maxLen; omega) ?_
  intro A' c' v hO' m' hb'
  refine h A' c' v hO' (M0.trans m' fun g hg hgm => ?_) fun a ha => ?_
  · obtain ⟨a', ha', hae⟩ := mem_blk hgm
    have := hA a' ha'
    omega
  · rcases hb' a ha with h | h
    · obtain ⟨a', ha', hae⟩ := mem_blk h
      have := hA a' ha'
      omega
    · have := M0.size
      omega
set_option maxRecDepth 1000000 in
set_option maxHeartbeats 2000000 in
theorem concat_c (g m d : Nat) (rs : List Rw) (w : World) (hm : m = rs.length) (hmb : m ≤ 1000) (hC : Cells w (some ⟨g, 0, none⟩) (rs.map rv)) (hR : ∀ r ∈ rs, Cells w r.1 (r.2.2.map vi)) (hB : (catN rs).length ≤ 1000000) : Calls Tryd.prog 84 #[.slice (some ⟨g, 0, none⟩) m d] w fun e w' => ∃ A c, e = .returned (.slice A (catN rs).length c) ∧ OwnG fi 3 1 w' A c (catN rs) ∧ Mod [] w w' ∧ ∀ a, A = some a → w.heap.size ≤ a.block := by
  have HL := Lib.hid hm
  have HC := Lib.hid hC
  have HR := Lib.hid hR
  have HB := Lib.hid hB
  clear hm hC hR hB
  go_enter Tryd.func84, Tryd.ntmps84
  go_wp2_with fail
  go_loopw [3, 11] (fun z i wr => ∃ j k : Nat, i = .int .i64 j ∧ z = .int .i64 k ∧ j ≤ m ∧ wr = w ∧ Hid (k = (catN (rs.take j)).length)) (fun _ i _ => m - (intOf i).toNat)
  case atStart => exact ⟨0, 0, rfl, rfl, Nat.zero_le _, rfl, Lib.hid rfl⟩
  case round =>
  obtain ⟨j, k, rfl, rfl, hj, hwr, hk⟩ := hrel
  subst hwr
  by_cases hjl : j < m
  case pos =>
    have hjq : j < rs.length := by rw [← HL.out]; exact hjl
    obtain ⟨g', q, e, hc⟩ := HC.out j (by simpa using hjq)
    cases e
    simp only [List.getElem_map] at hc
    have ht := cat_take rs j hjq
    have htl := cat_take_le rs (j + 1)
    obtain ⟨r, hr⟩ : ∃ r, r = rs[j] := ⟨_, rfl⟩
    rw [← hr] at hc ht
    obtain ⟨k2, hk2⟩ : ∃ k2, k2 = k + r.2.2.length := ⟨_, rfl⟩
    have HK : Hid (k2 = (catN (rs.take (j + 1))).length) := Lib.hid (by rw [ht, List.length_append, hk2, hk.out])
    have hkb : k2 ≤ 1000000 := by have := HB.out; rw [HK.out]; omega
    have hwr : IntKind.i64.wrap ((k : Int) + (r.2.2.length : Int)) = (k2 : Int) := by rw [IntKind.wrap_i64]; omega
    have hc' : wr.cell? ⟨g, 0 + j * 1, none⟩ = some (.slice r.1 r.2.2.length r.2.1) := by rw [Nat.mul_one]; exact hc
    have hd : decide ((k2 : Int) < 0) = false := by simp
    obtain ⟨l2, hl2⟩ : ∃ l2, l2 = r.2.2.length := ⟨_, rfl⟩
    rw [← hl2] at hwr hc'
    clear hc ht htl hr hk2 hl2 hkb
    go_wp2_with (first
      | (with_reducible refine wpList_ran (o := ⟨some 13, _, _, _, _, _⟩) rfl (.pointer (some ⟨g, 0 + j * 1, none⟩)) (exec_ixs Tryd.underlying134 sl_one hjl rfl rfl rfl) ?_)
      | (with_reducible refine wpList_ran (o := ⟨some 14, _, _, _, _, _⟩) rfl (.slice r.1 l2 r.2.1) (exec_load rfl rfl (run_load1 Tryd.underlying80 rfl hc')) ?_)
      | (with_reducible refine wpList_ran (o := ⟨some 18, _, _, _, _, _⟩) rfl (.int .i64 (k2 : Int)) (exec_add rfl rfl rfl hwr) ?_))
    exact ⟨⟨j + 1, k2, by go_num, rfl, by omega, by first | rfl | trivial, HK⟩, by simp [intOf]; omega⟩
  case neg =>
    obtain rfl : m = j := by omega
    have hk2 : Hid (k = (catN rs).length) := Lib.hid (by rw [hk.out, HL.out, List.take_length])
    have hkb : k ≤ 1000000 := by have := HB.out; rw [hk2.out]; omega
    have GR : Calls Tryd.prog 103 #[.slice none 0 0, .int .i64 (k : Int)] wr fun e w' => ∃ A c, e = .returned (.slice A 0 c) ∧ OwnG fi 3 1 w' A c [] ∧ Mod [] wr w' ∧ ∀ a, A = some a → wr.heap.size ≤ a.block := by
      by_cases h0 : 0 < k
      · exact (grow_some k wr h0 hkb).mono fun e v ⟨g, c, h1, h2, h3, h4⟩ => ⟨some ⟨g, 0, none⟩, c, h1, h2, h3, fun a ha => by cases ha; exact h4⟩
      · obtain rfl : k = 0 := by omega
        exact (grow_none wr).mono fun e v ⟨h1, h2⟩ => by subst h2; exact ⟨none, 0, h1, OwnG.nil fi 3 1 v, Mod.refl _ _, fun a ha => by cases ha⟩
    clear hkb
    go_wp2_with (first
      | (go_at_call 103; refine (GR).mono ?_
         rintro e w1 ⟨A0, c0, rfl, O0, M0, B0⟩))
    go_loopw [6, 27] (fun z i wr' => ∃ (j n c : Nat) (A : Option Addr) (l : List Nat), i = .int .i64 j ∧ z = .slice A n c ∧ j ≤ m ∧ Hid (n = l.length) ∧ Hid (l = catN (rs.take j)) ∧ OwnG fi 3 1 wr' A c l ∧ Mod [] wr wr' ∧ ∀ a, A = some a → wr.heap.size ≤ a.block) (fun _ i _ => m - (intOf i).toNat)
    case atStart => exact ⟨0, 0, c0, A0, [], rfl, rfl, Nat.zero_le _, Lib.hid rfl, Lib.hid (by rw [List.take_zero]; rfl), O0, M0, B0⟩
    case round =>
    obtain ⟨j, n, c, A, l, rfl, rfl, hj, hn, hl, hO, hM, hA⟩ := hrel
    clear M0 O0 B0 GR
    by_cases hjl : j < m
    case pos =>
      have hjq : j < rs.length := by rw [← HL.out]; exact hjl
      obtain ⟨g', q, e, hc⟩ := (HC.out.keep hM (by simp)) j (by simpa using hjq)
      cases e
      simp only [List.getElem_map] at hc
      have ht := cat_take rs j hjq
      have htl := cat_take_le rs (j + 1)
      have hrr := (HR.out _ (List.getElem_mem hjq)).keep hM (by simp)
      obtain ⟨r, hr⟩ : ∃ r, r = rs[j] := ⟨_, rfl⟩
      rw [← hr] at hc ht hrr
      have hb : l.length + r.2.2.length ≤ 1000000 := by
        have := HB.out
        rw [ht, List.length_append, ← hl.out] at htl
        omega
      have HT : Hid (l ++ r.2.2 = catN (rs.take (j + 1))) := Lib.hid (by rw [ht, hl.out])
      obtain ⟨l2, hl2⟩ : ∃ l2, l2 = r.2.2.length := ⟨_, rfl⟩
      have HL2 := Lib.hid hl2
      have hc' : wr.cell? ⟨g, 0 + j * 1, none⟩ = some (.slice r.1 l2 r.2.1) := by rw [Nat.mul_one, hl2]; exact hc
      clear hc ht htl hr hl2
      go_wp2_with (first
        | (with_reducible refine wpList_ran (o := ⟨some 29, _, _, _, _, _⟩) rfl (.pointer (some ⟨g, 0 + j * 1, none⟩)) (exec_ixs Tryd.underlying134 sl_one hjl rfl rfl rfl) ?_)
        | (with_reducible refine wpList_ran (o := ⟨some 30, _, _, _, _, _⟩) rfl (.slice r.1 l2 r.2.1) (exec_load rfl rfl (run_load1 Tryd.underlying80 rfl hc')) ?_)
        | (with_reducible refine wp_appendI hM hA hO hn.out HL2.out hrr hb (o := ⟨some 33, _, _, _, _, _⟩) rfl rfl rfl rfl ?_; intro A' c' v hO' hM' hA'))
      exact ⟨⟨j + 1, _, c', A', _, by go_num, rfl, by omega, Lib.hid (by simp), HT, hO', hM', hA'⟩, by simp [intOf]; omega⟩
    case neg =>
      obtain rfl : m = j := by omega
      have hl' : l = catN rs := by rw [hl.out, HL.out, List.take_length]
      go_wp2_with fail
      go_ret
      have := hn.out
      subst this hl'
      exact ⟨A, c, rfl, hO, hM, hA⟩
end
section
open Go.RowKit Go.Shelf
set_option linter.unusedVariables false
set_option linter.unusedSimpArgs false
theorem shape_law : WideMaps.KeyLaw Tryd.prog 109 := deep_law (m := 4) (by omega) (by kernel_rfl) (by kernel_rfl) (by kernel_rfl)
def shp (k u n : Int) (s : ByteArray) (a b : Nat) : Value := .agg #[.int .i64 k, .int .i64 u, .int .i64 n, .string s, vi a, vi b]
def I64 (i : Int) : Prop := (Lit.int .i64 i).wf = true
theorem shape_key (k u n : Int) (s : ByteArray) (a b : Nat) (hk : I64 k) (hu : I64 u) (hn : I64 n) (hs : s.size ≤ maxLen) (ha : I64 a) (hb : I64 b) : ∃ l, keyOf Tryd.prog 109 (shp k u n s a b) = some l := by
  unfold I64 at hk hu hn ha hb
  have hf : (Tryd.prog.keyType 109 && (shp k u n s a b).formed Tryd.prog 109) = true := by
    rw [Bool.and_eq_true]
    refine ⟨by kernel_rfl, ?_⟩
    have : Tryd.prog.cellsOf 109 = 6 := by kernel_rfl
    simp [shp, Value.formed, Tryd.underlying109, this]
  have e0 : Tryd.prog.types.size = Tryd.prog.types.size - 3 + 3 := by kernel_rfl
  obtain ⟨m, hm⟩ : ∃ m, m = Tryd.prog.types.size - 3 := ⟨_, rfl⟩
  rw [← hm] at e0
  have c109 : Tryd.prog.cellsOf 109 = 6 := by kernel_rfl
  have c107 : Tryd.prog.cellsOf 107 = 2 := by kernel_rfl
  have c3 : Tryd.prog.cellsOf 3 = 1 := by kernel_rfl
  have c9 : Tryd.prog.cellsOf 9 = 1 := by kernel_rfl
  unfold keyOf
  simp only [Tryd.underlying109]
  rw [if_pos hf, e0]
  have key : Program.keyLits Tryd.prog (m + 3 + 1) 109 (shp k u n s a b).cells.toList = some [.int .i64 k, .int .i64 u, .int .i64 n, .string s.data.toList, .int .i64 a, .int .i64 b] := by
    simp [shp, Program.keyLits, Tryd.underlying109, Tryd.underlying107, Tryd.underlying3, Tryd.underlying9, c109, c107, c3, c9, Value.cells, hk, hu, hn, ha, hb, hs, vi, List.range, List.range.loop]
  rw [key]
  exact ⟨_, rfl⟩
/-- The map of the numbers of these keys. -/
def IsNum (w : World) (mp : Nat) (ks : List Value) : Prop := ∃ es clock, w.heap[mp]? = some (.map es clock) ∧ es.size = ks.length ∧ (∀ i (h : i < es.toList.length) (h' : i < ks.length), es.toList[i].key = ks[i] ∧ es.toList[i].val = vi i) ∧ ks.Nodup ∧ ∀ k ∈ ks, ∃ l, keyOf Tryd.prog 109 k = some l
section
variable {w v : World} {mp : Nat} {ks : List Value}
theorem IsNum.keep {ms : List Nat} (h : IsNum w mp ks) (m : Mod ms w v) (hn : mp ∉ ms) : IsNum v mp ks := by
  obtain ⟨es, clock, h1, h2⟩ := h
  have hlt : mp < w.heap.size := (Array.getElem?_eq_some_iff.1 h1).1
  exact ⟨es, clock, (m.block mp hlt hn).trans h1, h2⟩
theorem IsNum.lt (h : IsNum w mp ks) : mp < w.heap.size := by
  obtain ⟨es, clock, h1, _⟩ := h
  exact (Array.getElem?_eq_some_iff.1 h1).1
theorem zero3 (w : World) : (zeroValue 3).run Tryd.prog w = .ok (vi 0) w := by kernel_rfl
theorem num_keys {es : Array MapEntry} (h2 : es.size = ks.length) (h3 : ∀ i (h : i < es.toList.length) (h' : i < ks.length), es.toList[i].key = ks[i] ∧ es.toList[i].val = vi i) (h5 : ∀ k ∈ ks, ∃ l, keyOf Tryd.prog 109 k = some l) : ∀ e ∈ es.toList, ∃ l, keyOf Tryd.prog 109 e.key = some l := by
  intro e he
  obtain ⟨i, hi, rfl⟩ := List.getElem_of_mem he
  have hi' : i < ks.length := by rw [← h2]; simpa using hi
  rw [(h3 i hi hi').1]
  exact h5 _ (List.getElem_mem hi')
theorem num_yes (h : IsNum w mp ks) (i : Nat) (hi : i < ks.length) : (Instr.lookup 103 (.map (some mp)) ks[i] true).run Tryd.prog w = .ok (.tuple #[vi i, .bool true]) w := by
  obtain ⟨es, clock, h1, h2, h3, h4, h5⟩ := h
  obtain ⟨l, hl⟩ := h5 _ (List.getElem_mem hi)
  rcases shape_law.find w hl es.toList (num_keys h2 h3 h5) with ⟨f1, f2⟩ | ⟨j, e, f1, f2, f3⟩
  · have hie : i < es.toList.length := by simpa [h2] using hi
    exact absurd (h3 i hie hi).1 (f2 _ (List.getElem_mem hie))
  · obtain ⟨hj, hje⟩ := List.getElem?_eq_some_iff.1 f2
    have hj' : j < ks.length := by rw [← h2]; simpa using hj
    have hk := h3 j hj hj'
    rw [hje] at hk
    have : j = i := (List.getElem?_inj hj' h4).1 (by rw [List.getElem?_eq_getElem hj', List.getElem?_eq_getElem hi, ← hk.1, f3])
    subst this
    simp [Instr.lookup, run_underlying Tryd.underlying103, MapKept.run_getObj_map h1, shape_law.check w _ hl, f1, hk.2, Result.andThen]
theorem num_no (h : IsNum w mp ks) (k : Value) (hk : k ∉ ks) (hl : ∃ l, keyOf Tryd.prog 109 k = some l) : (Instr.lookup 103 (.map (some mp)) k true).run Tryd.prog w = .ok (.tuple #[vi 0, .bool false]) w := by
  obtain ⟨es, clock, h1, h2, h3, h4, h5⟩ := h
  obtain ⟨l, hl⟩ := hl
  rcases shape_law.find w hl es.toList (num_keys h2 h3 h5) with ⟨f1, f2⟩ | ⟨j, e, f1, f2, f3⟩
  · simp [Instr.lookup, run_underlying Tryd.underlying103, MapKept.run_getObj_map h1, shape_law.check w _ hl, f1, zero3, Result.andThen]
  · obtain ⟨hj, hje⟩ := List.getElem?_eq_some_iff.1 f2
    have hj' : j < ks.length := by rw [← h2]; simpa using hj
    have hkk := h3 j hj hj'
    rw [hje, f3] at hkk
    exact absurd (hkk.1 ▸ List.getElem_mem hj') hk
theorem num_update (h : IsNum w mp ks) (k : Value) (hk : k ∉ ks) (hl : ∃ l, keyOf Tryd.prog 109 k = some l) : ∃ v, (Instr.mapUpdate 103 (.map (some mp)) k (vi ks.length)).run Tryd.prog w = .ok () v ∧ IsNum v mp (ks ++ [k]) ∧ Mod [mp] w v ∧ v.heap.size = w.heap.size := by
  obtain ⟨es, clock, h1, h2, h3, h4, h5⟩ := h
  have hl0 := hl
  obtain ⟨l, hl⟩ := hl
  have mod : ∀ o : Obj, Mod [mp] w { w with heap := w.heap.setIfInBounds mp o } := fun o => ⟨rfl, rfl, rfl, by simp, fun i _ hn => by
    show (w.heap.setIfInBounds mp o)[i]? = _
    rw [Array.getElem?_setIfInBounds_ne (fun e => hn (by simp [e]))]⟩
  rcases shape_law.find w hl es.toList (num_keys h2 h3 h5) with ⟨f1, f2⟩ | ⟨j, e, f1, f2, f3⟩
  · refine ⟨_, by simp [Instr.mapUpdate, run_underlying Tryd.underlying103, MapKept.run_getObj_map h1, shape_law.check w _ hl, f1, MapKept.run_setObj_map _ h1, Result.andThen]; rfl, ⟨_, _, (MapKept.heap_set h1).1, by simp [h2], ?_, ?_, ?_⟩, mod _, by simp⟩
    · intro i a b
      simp only [Array.toList_push]
      rcases Nat.lt_or_ge i ks.length with hi | hi
      · have hie : i < es.toList.length := by simpa [h2] using hi
        rw [List.getElem_append_left hie, List.getElem_append_left hi]
        exact h3 i hie hi
      · have : i = ks.length := by simp at b; omega
        subst this
        have e1 : (es.toList ++ [({ key := k, val := vi ks.length, born := clock } : MapEntry)])[ks.length]'(by simp [h2]) = { key := k, val := vi ks.length, born := clock } := by
          rw [List.getElem_append_right (by simp [h2])]
          simp [h2]
        rw [e1]
        simp
    · rw [List.nodup_append]
      exact ⟨h4, by simp, fun a ha b hb => by simp only [List.mem_singleton] at hb; subst hb; exact fun e => hk (e ▸ ha)⟩
    · intro x hx
      rcases List.mem_append.1 hx with hx | hx
      · exact h5 x hx
      · simp only [List.mem_singleton] at hx
        subst hx
        exact hl0
  · obtain ⟨hj, hje⟩ := List.getElem?_eq_some_iff.1 f2
    have hj' : j < ks.length := by rw [← h2]; simpa using hj
    have hkk := h3 j hj hj'
    rw [hje, f3] at hkk
    exact absurd (hkk.1 ▸ List.getElem_mem hj') hk
end
end
section
set_option linter.unusedVariables false
set_option linter.unusedSimpArgs false
/-- One more that the m-th wakes. -/
def wk (g : Gr) (m n : Nat) : Gr := g.modify m fun x => { x with wakes := x.wakes ++ [n] }
def wks (g : Gr) (ms : List Nat) (n : Nat) : Gr := ms.foldl (fun g m => wk g m n) g
def more (n c : Nat) (x : Nd) : Nd := { x with wakes := x.wakes ++ List.replicate c n }
theorem wks_get (n : Nat) : ∀ (ms : List Nat) (g : Gr) (i : Nat), (wks g ms n)[i]? = g[i]?.map (more n (ms.count i))
  | [], g, i => by
    show g[i]? = _
    cases g[i]? with
    | none => rfl
    | some x => simp [more]
  | m :: ms, g, i => by
    show (wks (wk g m n) ms n)[i]? = _
    rw [wks_get n ms, List.count_cons]
    unfold wk
    rw [List.getElem?_modify]
    cases g[i]? with
    | none => simp
    | some x =>
      by_cases h : m = i
      · subst h
        simp [more, List.replicate_succ]
      · have h' : (m == i) = false := by simpa using h
        simp [h, h', more]
theorem wks_len (n : Nat) (ms : List Nat) (g : Gr) : (wks g ms n).length = g.length := by
  induction ms generalizing g with
  | nil => rfl
  | cons m ms ih => show (wks (wk g m n) ms n).length = _; rw [ih]; unfold wk; rw [List.length_modify]
theorem wks_at {n : Nat} {ms : List Nat} {g : Gr} {i : Nat} (h : i < (wks g ms n).length) : ∃ h' : i < g.length, (wks g ms n)[i] = more n (ms.count i) g[i] := by
  have h' : i < g.length := by rw [wks_len] at h; exact h
  refine ⟨h', ?_⟩
  have := wks_get n ms g i
  rw [List.getElem?_eq_getElem h, List.getElem?_eq_getElem h'] at this
  simpa using this
theorem tmAt_wks (n : Nat) (ms : List Nat) (g : Gr) (i : Nat) : tmAt (wks g ms n) i = tmAt g i := by
  unfold tmAt
  rw [wks_get]
  cases g[i]? with
  | none => rfl
  | some x => rfl
theorem numOf_wks {n : Nat} {ms : List Nat} {g : Gr} {l : List Nat} {ts : List Tm} : numOf (wks g ms n) l ts ↔ numOf g l ts := by
  unfold numOf
  rw [show (tmAt (wks g ms n)) = tmAt g from funext (tmAt_wks n ms g)]
/-- What a greater graph keeps. -/
def Ext (g g' : Gr) : Prop := ∀ i t, tmAt g i = some t → tmAt g' i = some t
theorem Ext.refl (g : Gr) : Ext g g := fun _ _ h => h
theorem Ext.then {a b c : Gr} (h : Ext a b) (h' : Ext b c) : Ext a c := fun i t e => h' i t (h i t e)
theorem numOf_get {g : Gr} {l : List Nat} {ts : List Tm} (h : numOf g l ts) : l.length = ts.length := by
  have := congrArg List.length h
  simpa using this
theorem Ext.num {g g' : Gr} (h : Ext g g') : ∀ {l : List Nat} {ts : List Tm}, numOf g l ts → numOf g' l ts
  | [], [], _ => rfl
  | [], _ :: _, e => by cases e
  | _ :: _, [], e => by cases e
  | n :: l, t :: ts, e => by
    unfold numOf at e ⊢
    simp only [List.map_cons, List.cons.injEq] at e ⊢
    exact ⟨h n t e.1, Ext.num h (l := l) (ts := ts) e.2⟩
theorem tmAt_push {g : Gr} {x : Nd} {i : Nat} {t : Tm} (h : tmAt g i = some t) : tmAt (g ++ [x]) i = some t := by
  obtain ⟨hi, e⟩ := tmAt_some h
  rw [tmAt_of (by simp; omega), List.getElem_append_left hi, e]
theorem ext_push (g : Gr) (x : Nd) : Ext g (g ++ [x]) := fun i t h => tmAt_push h
theorem ext_wks (g : Gr) (ms : List Nat) (n : Nat) : Ext g (wks g ms n) := fun i t h => by rw [tmAt_wks]; exact h
theorem tmAt_new (g : Gr) (x : Nd) : tmAt (g ++ [x]) g.length = some x.t := by
  rw [tmAt_of (by simp)]
  simp
theorem numOf_lt {g : Gr} {l : List Nat} {ts : List Tm} (h : numOf g l ts) {m : Nat} (hm : m ∈ l) : m < g.length := by
  obtain ⟨t, _, e⟩ := numOf_mem h hm
  exact (tmAt_some e).1
/-- A term that is not there yet. -/
theorem Wok.push {g : Gr} (W : Wok g) {t : Tm} {ins keys needs : List Nat} (hnew : ∀ i, tmAt g i ≠ some t) (hn : numOf g needs (Tm.needs t)) (hk : numOf g keys (Tm.keysT t)) (hi : numOf g ins (Tm.inside t)) :
    Wok (wks (g ++ [⟨t, ins, keys, needs, [g.length]⟩]) (keys ++ needs) g.length) := by
  obtain ⟨x, hx⟩ : ∃ x : Nd, x = ⟨t, ins, keys, needs, [g.length]⟩ := ⟨_, rfl⟩
  rw [← hx]
  have hxt : x.t = t := by rw [hx]
  have cases_ : ∀ i (h : i < (wks (g ++ [x]) (keys ++ needs) g.length).length), (∃ h' : i < g.length, (wks (g ++ [x]) (keys ++ needs) g.length)[i] = more g.length ((keys ++ needs).count i) g[i]) ∨ (i = g.length ∧ (wks (g ++ [x]) (keys ++ needs) g.length)[i] = more g.length ((keys ++ needs).count i) x) := by
    intro i h
    obtain ⟨h', e⟩ := wks_at h
    rcases Nat.lt_or_ge i g.length with hl | hl
    · exact .inl ⟨hl, by rw [e, List.getElem_append_left hl]⟩
    · have : i = g.length := by simp at h'; omega
      subst this
      refine .inr ⟨rfl, ?_⟩
      rw [e]
      simp
  have ex : ∀ {l ts}, numOf g l ts → numOf (wks (g ++ [x]) (keys ++ needs) g.length) l ts := fun h => numOf_wks.2 ((ext_push g x).num h)
  refine ⟨?_, ?_, ?_, ?_, ?_, ?_, ?_⟩
  · intro i j s hi' hj'
    rw [tmAt_wks] at hi' hj'
    have one : ∀ i, tmAt (g ++ [x]) i = some s → tmAt g i = some s ∨ (i = g.length ∧ s = t) := by
      intro i h
      obtain ⟨h1, e⟩ := tmAt_some h
      rcases Nat.lt_or_ge i g.length with hl | hl
      · rw [List.getElem_append_left hl] at e
        exact .inl (by rw [tmAt_of hl, e])
      · have : i = g.length := by simp at h1; omega
        subst this
        simp at e
        exact .inr ⟨rfl, by rw [← e, hxt]⟩
    rcases one i hi' with h1 | ⟨h1, h2⟩ <;> rcases one j hj' with h3 | ⟨h3, h4⟩
    · exact W.inj i j s h1 h3
    · exact absurd (h4 ▸ h1) (hnew i)
    · exact absurd (h2 ▸ h3) (hnew j)
    · rw [h1, h3]
  · intro i h
    rcases cases_ i h with ⟨h', e⟩ | ⟨h', e⟩
    · rw [e]; exact ex (W.needs i h')
    · rw [e]; subst hx; exact ex hn
  · intro i h
    rcases cases_ i h with ⟨h', e⟩ | ⟨h', e⟩
    · rw [e]; exact ex (W.keys i h')
    · rw [e]; subst hx; exact ex hk
  · intro i h
    rcases cases_ i h with ⟨h', e⟩ | ⟨h', e⟩
    · rw [e]; exact ex (W.inside i h')
    · rw [e]; subst hx; exact ex hi
  · intro i h
    rcases cases_ i h with ⟨h', e⟩ | ⟨h', e⟩
    · rw [e]; exact List.mem_append_left _ (W.self i h')
    · rw [e, hx, h']; exact List.mem_append_left _ (by simp)
  · intro j h m hm h'
    rcases cases_ j h with ⟨hj, e⟩ | ⟨hj, e⟩
    · rw [e] at hm
      have hml : m < g.length := by
        rcases List.mem_append.1 hm with h1 | h1
        · exact numOf_lt (W.keys j hj) h1
        · exact numOf_lt (W.needs j hj) h1
      have hw := W.wake j hj m hm hml
      rcases cases_ m h' with ⟨h2, e2⟩ | ⟨h2, e2⟩
      · rw [e2]; exact List.mem_append_left _ hw
      · omega
    · rw [e, hx] at hm
      have hm' : m ∈ keys ++ needs := hm
      have hc : 0 < (keys ++ needs).count m := List.count_pos_iff.2 hm'
      rcases cases_ m h' with ⟨h2, e2⟩ | ⟨h2, e2⟩
      · rw [e2, hj]; exact List.mem_append_right _ (List.mem_replicate.2 ⟨by omega, rfl⟩)
      · rw [e2, hj]; exact List.mem_append_right _ (List.mem_replicate.2 ⟨by omega, rfl⟩)
  · intro i h m hm
    rw [wks_len, List.length_append, List.length_singleton]
    rcases cases_ i h with ⟨h', e⟩ | ⟨h', e⟩
    · rw [e] at hm
      rcases List.mem_append.1 hm with h1 | h1
      · have := W.wlt i h' m h1; omega
      · have := List.eq_of_mem_replicate h1; omega
    · rw [e, hx] at hm
      rcases List.mem_append.1 hm with h1 | h1
      · simp at h1; omega
      · have := List.eq_of_mem_replicate h1; omega
theorem Wok.none : Wok [] := ⟨fun i j t h => by simp [tmAt] at h, fun i h => by simp at h, fun i h => by simp at h, fun i h => by simp at h, fun i h => by simp at h, fun i h => by simp at h, fun i h => by simp at h⟩
end
section
open Go.RowKit Go.Shelf
set_option linter.unusedVariables false
set_option linter.unusedSimpArgs false
/-- A node, with what its rows lie in. -/
structure NdC where
  t : Tm
  kids : List Nat
  c : List Value
  ins : Rw
  keys : Rw
  needs : Rw
  wakes : Rw
def ndv (x : NdC) : List Value := x.c ++ [rv x.ins, rv x.keys, rv x.needs, rv x.wakes]
def ndP (x : NdC) : Nd := ⟨x.t, x.ins.2.2, x.keys.2.2, x.needs.2.2, x.wakes.2.2⟩
def keyN (x : NdC) : Value := shp x.t.kind x.t.user x.t.num x.t.text (x.kids.getD 0 0) (x.kids.getD 1 0)
abbrev Q9 := { l : List Value // l.length = 9 ∧ ∀ v ∈ l, v.oneCell' = true }
def f9 (x : Q9) : List Value := x.1
theorem f9_len (x : Q9) : (f9 x).length = 9 := x.2.1
theorem f9_one (x : Q9) : ∀ v ∈ f9 x, v.oneCell' = true := x.2.2
structure Web (w : World) (wb mp : Nat) (V : Value) (N : Option Addr) (cap : Nat) (ks : List Value) (ns : List NdC) (wr : List Rw) : Prop where
  blk : Holds w wb 106 [.map (some mp), V]
  num : IsNum w mp ks
  row : ∃ xs : List Q9, xs.map (·.1) = ns.map ndv ∧ OwnG f9 111 9 w N cap xs
  wak : ∀ x ∈ wr, OwnG fi 3 1 w x.1 x.2.1 x.2.2
  dis : wr.Pairwise fun x y => ∀ g, g ∈ blkOf x.1 → g ∉ blkOf y.1
def fpW (wb mp : Nat) (N : Option Addr) (wr : List Rw) : Nat → Prop := fun g => g = wb ∨ g = mp ∨ g ∈ blkOf N ∨ ∃ x ∈ wr, g ∈ blkOf x.1
/-- The web, a thing of the call's own: its block, its map, the nodes' row and the rows of what they wake. -/
def oW (wb mp : Nat) (V : Value) (N : Option Addr) (cap : Nat) (ks : List Value) (ns : List NdC) (wr : List Rw) : Th := (fpW wb mp N wr, fun w => Web w wb mp V N cap ks ns wr)
theorem Web.keep {w v : World} {wb mp cap : Nat} {V : Value} {N : Option Addr} {ks : List Value} {ns : List NdC} {wr : List Rw} {ms : List Nat} (W : Web w wb mp V N cap ks ns wr) (m : Mod ms w v) (h : ∀ g, fpW wb mp N wr g → g ∉ ms) : Web v wb mp V N cap ks ns wr := by
  obtain ⟨xs, h1, h2⟩ := W.row
  exact ⟨W.blk.keep m (h wb (.inl rfl)), W.num.keep m (h mp (.inr (.inl rfl))), ⟨xs, h1, h2.keep m fun a ha => h _ (.inr (.inr (.inl (by rw [ha]; exact blk_of))))⟩,
    fun x hx => (W.wak x hx).keep m fun a ha => h _ (.inr (.inr (.inr ⟨x, hx, by rw [ha]; exact blk_of⟩))), W.dis⟩
theorem keeps_oW (wb mp : Nat) (V : Value) (N : Option Addr) (cap : Nat) (ks : List Value) (ns : List NdC) (wr : List Rw) : keeps (oW wb mp V N cap ks ns wr) := fun w v ms m h hw => hw.keep m h
/-- A row of numbers that stands within these blocks. -/
def RwIn (w : World) (T : Nat → Prop) (r : Rw) : Prop := Cells w r.1 (r.2.2.map vi) ∧ ∀ a, r.1 = some a → r.2.2 ≠ [] → T a.block
theorem RwIn.keep {w v : World} {T : Nat → Prop} {r : Rw} {ms : List Nat} (h : RwIn w T r) (m : Mod ms w v) (hn : ∀ g, T g → g ∉ ms) : RwIn v T r := by
  refine ⟨?_, h.2⟩
  obtain ⟨A, c, l⟩ := r
  cases l with
  | nil => exact Cells.nil _ _
  | cons n ns => exact h.1.keep m fun a ha => hn _ (h.2 a ha (by simp))
theorem RwIn.mono {w : World} {T T' : Nat → Prop} {r : Rw} (h : RwIn w T r) (hT : ∀ g, T g → T' g) : RwIn w T' r := ⟨h.1, fun a ha hn => hT _ (h.2 a ha hn)⟩
structure StandN (w : World) (T : Nat → Prop) (x : NdC) : Prop where
  t : TIs w T x.t x.c
  ins : RwIn w T x.ins
  keys : RwIn w T x.keys
  needs : RwIn w T x.needs
theorem StandN.keep {w v : World} {T : Nat → Prop} {x : NdC} {ms : List Nat} (h : StandN w T x) (m : Mod ms w v) (hn : ∀ g, T g → g ∉ ms) : StandN v T x := ⟨h.t.keep m hn, h.ins.keep m hn, h.keys.keep m hn, h.needs.keep m hn⟩
theorem StandN.mono {w : World} {T T' : Nat → Prop} {x : NdC} (h : StandN w T x) (hT : ∀ g, T g → T' g) : StandN w T' x := ⟨h.t.mono hT, h.ins.mono hT, h.keys.mono hT, h.needs.mono hT⟩
/-- What the nodes tell of, which stands. -/
def tN (L T : Nat → Prop) (ns : List NdC) : Th := (T, fun w => (∀ x ∈ ns, StandN w T x) ∧ ∀ g, T g → L g)
theorem keeps_tN (L T : Nat → Prop) (ns : List NdC) : keeps (tN L T ns) := fun w v ms m h hw => ⟨fun x hx => (hw.1 x hx).keep m h, hw.2⟩
/-- A cell of one of the elements set. -/
theorem flat_set {α : Type} (f : α → List Value) (n : Nat) (hf : ∀ x, (f x).length = n) (y : α) (k : Nat) (u : Value) (hk : k < n) : ∀ (l : List α) (m : Nat) (hm : m < l.length), f y = (f l[m]).set k u → (l.set m y).flatMap f = (l.flatMap f).set (m * n + k) u
  | [], m, hm, _ => by simp at hm
  | x :: l, 0, hm, h => by
    simp only [List.getElem_cons_zero] at h
    rw [List.set_cons_zero, List.flatMap_cons, List.flatMap_cons, h, Nat.zero_mul, Nat.zero_add, List.set_append_left _ _ (by rw [hf]; exact hk)]
  | x :: l, m + 1, hm, h => by
    simp only [List.getElem_cons_succ] at h
    rw [List.set_cons_succ, List.flatMap_cons, List.flatMap_cons, flat_set f n hf y k u hk l m (by simpa using hm) h, List.set_append_right _ _ (by rw [hf, Nat.succ_mul]; omega), hf]
    congr 2
    rw [Nat.succ_mul]
    omega
theorem OwnG.setc {α : Type} {f : α → List Value} {e : TypeId} {n : Nat} {w : World} {g c : Nat} {l : List α} (h : OwnG f e n w (some ⟨g, 0, none⟩) c l) (hf : ∀ x, (f x).length = n) (m : Nat) (hm : m < l.length) (y : α) (k : Nat) (u : Value) (hk : k < n) (hy : f y = (f l[m]).set k u) :
    OwnG f e n (w.setCell ⟨g, m * n + k, none⟩ u) (some ⟨g, 0, none⟩) c (l.set m y) := by
  have hfl := h.1
  rcases h.2 with ⟨hv, hn⟩ | ⟨g', cap, cur, hv, hb, hg, h1, h2, h3, h4⟩
  · cases hv
  · injection hv with e3 e4 e5
    cases e3
    subst e5
    have hh : Holds w g e cur.toList := hg
    have hs := hh.set (m * n + k) u
    unfold OwnG
    rw [List.length_set]
    refine ⟨by rw [flat_length f n hf, List.length_set], .inr ⟨g, c, (cur.toList.set (m * n + k) u).toArray, rfl, Nat.zero_le _, hs, h1, h2, by simpa using h3, ?_⟩⟩
    rw [flat_set f n hf y k u hk l m hm hy, ← h4]
    exact List.take_set
section
variable {w0 w v : World} {os ts : List Th} {wb mp cap : Nat} {V : Value} {N : Option Addr} {ks : List Value} {ns : List NdC} {wr : List Rw}
theorem Web.len (W : Web w wb mp V N cap ks ns wr) : ∃ xs : List Q9, xs.map (·.1) = ns.map ndv ∧ OwnG f9 111 9 w N cap xs ∧ xs.length = ns.length := by
  obtain ⟨xs, h1, h2⟩ := W.row
  refine ⟨xs, h1, h2, ?_⟩
  have := congrArg List.length h1
  simpa using this
theorem Web.node (W : Web w wb mp V N cap ks ns wr) (j : Nat) (hj : j < ns.length) : ∃ g, N = some ⟨g, 0, none⟩ ∧ Cells w (some ⟨g, j * 9, none⟩) (ndv ns[j]) ∧ (ndv ns[j]).length = 9 ∧ ∀ v ∈ ndv ns[j], v.oneCell' = true := by
  obtain ⟨xs, h1, h2, h3⟩ := W.len
  have hjx : j < xs.length := by omega
  have e : xs[j].1 = ndv ns[j] := by
    have := congrArg (fun l => l[j]?) h1
    simpa [hjx, hj] using this
  have hC := h2.cells
  have hfl := flat_length f9 9 f9_len xs
  obtain ⟨g, o, hN, _⟩ := hC 0 (by omega)
  have hN' : N = some ⟨g, 0, none⟩ := by
    rcases h2.2 with ⟨hv, hn⟩ | ⟨g', cap', cur, hv, _⟩
    · injection hv with q1; rw [q1] at hN; cases hN
    · injection hv with q1; rw [q1] at hN; cases hN; exact q1
  rw [hN'] at hC
  refine ⟨g, hN', Cells.of_cells fun i hi => ?_, by rw [← e]; exact xs[j].2.1, by rw [← e]; exact xs[j].2.2⟩
  have hi9 : i < 9 := by rw [← e, xs[j].2.1] at hi; exact hi
  have hlt : j * 9 + i < (xs.flatMap f9).length := by rw [hfl]; omega
  have h4 := hC.at (j * 9 + i) hlt
  rw [Nat.zero_add] at h4
  rw [h4]
  have h5 := flat_at f9 9 f9_len xs j i hjx hi9
  rw [List.getElem?_eq_getElem hlt] at h5
  have h6 : f9 xs[j] = ndv ns[j] := e
  rw [h6, List.getElem?_eq_getElem hi] at h5
  exact h5
theorem Fm.web (F : Fm w0 w os ts) {i : Nat} (hi : os[i]? = some (oW wb mp V N cap ks ns wr)) : Web w wb mp V N cap ks ns wr := F.o i hi
theorem Fm.webm (F : Fm w0 w os ts) {i : Nat} {x : Th} (hi : os[i]? = some x) : x ∈ os := by
  obtain ⟨h, e⟩ := List.getElem?_eq_some_iff.1 hi
  rw [← e]
  exact List.getElem_mem h
theorem Web.mapc (W : Web w wb mp V N cap ks ns wr) : w.cell? ⟨wb, 0, none⟩ = some (.map (some mp)) := W.blk.cell 0
theorem Web.rowc (W : Web w wb mp V N cap ks ns wr) : w.cell? ⟨wb, 1, none⟩ = some V := W.blk.cell 1
theorem Web.objs (W : Web w wb mp V N cap ks ns wr) : ∀ (g : Nat) (t : TypeId) (cs : Array Value) z, w.heap[g]? = some (.cells cs t z) → g ∉ [mp] := fun g t cs z hg hm => by
  obtain ⟨es, clock, he, _⟩ := W.num
  simp only [List.mem_singleton] at hm
  subst hm
  rw [he] at hg
  cases hg
theorem OwnG.heap {α : Type} {f : α → List Value} {e : TypeId} {n : Nat} {w : World} {A : Option Addr} {c : Nat} {l : List α} (h : OwnG f e n w A c l) : ∀ a, A = some a → ∃ cs, w.heap[a.block]? = some (.cells cs e (0, 0)) := fun a ha => by
  rcases h.2 with ⟨hv, hn⟩ | ⟨g, cap', cur, hv, hb, hg, _⟩
  · injection hv with e1; rw [e1] at ha; cases ha
  · injection hv with e1
    rw [e1] at ha
    cases ha
    exact ⟨_, hg⟩
/-- One more key. -/
theorem Fm.webKey (F : Fm w0 w os ts) {i : Nat} (hi : os[i]? = some (oW wb mp V N cap ks ns wr)) (k : Value) (hk : k ∉ ks) (hl : ∃ l, keyOf Tryd.prog 109 k = some l) : ∃ v, (Instr.mapUpdate 103 (.map (some mp)) k (vi ks.length)).run Tryd.prog w = .ok () v ∧ Fm w0 v (os.set i (oW wb mp V N cap (ks ++ [k]) ns wr)) ts := by
  have W := F.web hi
  obtain ⟨v, h1, h2, h3, h4⟩ := num_update W.num k hk hl
  refine ⟨v, h1, F.turn h3 i hi (fun g hg => ?_) _ (keeps_oW _ _ _ _ _ _ _ _) ⟨?_, h2, ?_, ?_, W.dis⟩ fun g hg => ⟨.inl hg, ?_⟩⟩
  · simp only [List.mem_singleton] at hg
    exact .inr (.inl hg)
  · exact W.blk.keep h3 (W.objs _ _ _ _ W.blk)
  · obtain ⟨xs, q1, q2⟩ := W.row
    refine ⟨xs, q1, q2.keep h3 fun a ha => ?_⟩
    obtain ⟨cs, hcs⟩ := q2.heap a ha
    exact W.objs _ _ _ _ hcs
  · intro x hx
    refine (W.wak x hx).keep h3 fun a ha => ?_
    obtain ⟨cs, hcs⟩ := (W.wak x hx).heap a ha
    exact W.objs _ _ _ _ hcs
  · have := (F.k _ (.inl (F.webm hi))).2.2 g hg
    omega
/-- Another value of the block's second field. -/
theorem Fm.webRow (F : Fm w0 w os ts) {i : Nat} (hi : os[i]? = some (oW wb mp V N cap ks ns wr)) (V' : Value) : Fm w0 (w.setCell ⟨wb, 1, none⟩ V') (os.set i (oW wb mp V' N cap ks ns wr)) ts := by
  have W := F.web hi
  have h3 : Mod [wb] w (w.setCell ⟨wb, 1, none⟩ V') := Mod.setCell w (by simp) V'
  have ne : ∀ a : Addr, (∃ t cs z, t ≠ 106 ∧ w.heap[a.block]? = some (.cells cs t z)) → a.block ∉ [wb] := fun a ⟨t, cs, z, ht, h⟩ hm => by
    simp only [List.mem_singleton] at hm
    rw [hm, show w.heap[wb]? = _ from W.blk] at h
    injection h with h
    injection h with _ h
    exact ht h.symm
  refine F.turn h3 i hi (fun g hg => ?_) _ (keeps_oW _ _ _ _ _ _ _ _) ⟨W.blk.set 1 V', W.num.keep h3 ?_, ?_, ?_, W.dis⟩ fun g hg => ⟨.inl hg, ?_⟩
  · simp only [List.mem_singleton] at hg
    exact .inl hg
  · intro hm
    simp only [List.mem_singleton] at hm
    exact W.objs wb _ _ _ W.blk (by simp [hm])
  · obtain ⟨xs, q1, q2⟩ := W.row
    refine ⟨xs, q1, q2.keep h3 fun a ha => ?_⟩
    obtain ⟨cs, hcs⟩ := q2.heap a ha
    exact ne a ⟨_, _, _, by decide, hcs⟩
  · intro x hx
    refine (W.wak x hx).keep h3 fun a ha => ?_
    obtain ⟨cs, hcs⟩ := (W.wak x hx).heap a ha
    exact ne a ⟨_, _, _, by decide, hcs⟩
  · exact Nat.lt_of_lt_of_le ((F.k _ (.inl (F.webm hi))).2.2 g hg) h3.size
end
end
section
open Go.RowKit Go.Shelf
set_option linter.unusedVariables false
set_option linter.unusedSimpArgs false
section
variable {w0 w v : World} {os ts : List Th} {wb mp cap : Nat} {V : Value} {N : Option Addr} {ks : List Value} {ns : List NdC} {wr : List Rw}
/-- Two things of the call's own as one. -/
theorem Fm.fuse {x y : Th} (F : Fm w0 w (x :: os) ts) (i : Nat) (hi : os[i]? = some y) (z : Th) (hk : keeps z) (hz : z.2 w) (hs : ∀ g, z.1 g → x.1 g ∨ y.1 g) : Fm w0 w (os.set i z) ts := by
  obtain ⟨hil, hiy⟩ := List.getElem?_eq_some_iff.1 hi
  have hym : y ∈ os := by rw [← hiy]; exact List.getElem_mem hil
  have hd := List.pairwise_cons.1 F.d
  have hin : ∀ u ∈ os.set i z, u = z ∨ ∃ j, ∃ hj : j < os.length, j ≠ i ∧ os[j] = u := by
    intro u hu
    obtain ⟨j, hj, e⟩ := List.getElem_of_mem hu
    rw [List.length_set] at hj
    rw [List.getElem_set] at e
    split at e
    · exact .inl e.symm
    · rename_i h; exact .inr ⟨j, hj, fun h' => h h'.symm, e⟩
  have zlt : ∀ g, z.1 g → g < w.heap.size := fun g hg => (hs g hg).elim ((F.k x (.inl (List.mem_cons_self ..))).2.2 g) ((F.k y (.inl (List.mem_cons_of_mem _ hym))).2.2 g)
  have zlo : ∀ g, z.1 g → w0.heap.size ≤ g := fun g hg => (hs g hg).elim (F.lo x (List.mem_cons_self ..) g) (F.lo y (List.mem_cons_of_mem _ hym) g)
  have apart : ∀ j (hj : j < os.length), j ≠ i → ∀ g, os[j].1 g → ¬ z.1 g := by
    intro j hj hji g hg hz'
    rcases hs g hz' with h | h
    · exact hd.1 _ (List.getElem_mem hj) g h hg
    · rw [← hiy] at h
      rcases Nat.lt_or_gt_of_ne hji with h' | h'
      · exact List.pairwise_iff_getElem.1 hd.2 j i hj hil h' g hg h
      · exact List.pairwise_iff_getElem.1 hd.2 i j hil hj h' g h hg
  refine ⟨F.m, fun u hu => ?_, fun u hu g hg => ?_, ?_, fun u hu t ht g hg hg' => ?_⟩
  · rcases hu with hu | hu
    · rcases hin u hu with rfl | ⟨j, hj, _, rfl⟩
      · exact ⟨hk, hz, zlt⟩
      · exact F.k _ (.inl (List.mem_cons_of_mem _ (List.getElem_mem hj)))
    · exact F.k u (.inr hu)
  · rcases hin u hu with rfl | ⟨j, hj, _, rfl⟩
    · exact zlo g hg
    · exact F.lo _ (List.mem_cons_of_mem _ (List.getElem_mem hj)) g hg
  · rw [List.pairwise_iff_getElem]
    intro a b ha hb hab g hg hg'
    rw [List.length_set] at ha hb
    rw [List.getElem_set] at hg hg'
    by_cases h1 : i = a
    · rw [if_pos h1] at hg
      rw [if_neg (by omega)] at hg'
      exact apart b hb (by omega) g hg' hg
    · rw [if_neg h1] at hg
      by_cases h2 : i = b
      · rw [if_pos h2] at hg'
        exact apart a ha (fun h => h1 h.symm) g hg hg'
      · rw [if_neg h2] at hg'
        exact List.pairwise_iff_getElem.1 hd.2 a b ha hb hab g hg hg'
  · rcases hin u hu with rfl | ⟨j, hj, _, rfl⟩
    · rcases hs g hg with h | h
      · exact F.e x (List.mem_cons_self ..) t ht g h hg'
      · exact F.e y (List.mem_cons_of_mem _ hym) t ht g h hg'
    · exact F.e _ (List.mem_cons_of_mem _ (List.getElem_mem hj)) t ht g hg hg'
/-- A row of its own becomes one of the web's. -/
theorem Fm.webWake {A : Option Addr} {c : Nat} {l : List Nat} (F : Fm w0 w (oI A c l :: os) ts) {i : Nat} (hi : os[i]? = some (oW wb mp V N cap ks ns wr)) : Fm w0 w (os.set i (oW wb mp V N cap ks ns (wr ++ [(A, c, l)]))) ts := by
  have W : Web w wb mp V N cap ks ns wr := F.o (i + 1) (by simpa using hi)
  have O : OwnG fi 3 1 w A c l := F.o 0 rfl
  have hd := (List.pairwise_cons.1 F.d).1 _ (Fm.webm (F.sub (List.sublist_cons_self _ _) (fun _ h => h)) hi)
  refine F.fuse i hi _ (keeps_oW _ _ _ _ _ _ _ _) ⟨W.blk, W.num, W.row, fun x hx => ?_, ?_⟩ fun g hg => ?_
  · rcases List.mem_append.1 hx with hx | hx
    · exact W.wak x hx
    · simp only [List.mem_singleton] at hx
      subst hx
      exact O
  · rw [List.pairwise_append]
    refine ⟨W.dis, by simp, fun x hx y hy g hg hg' => ?_⟩
    simp only [List.mem_singleton] at hy
    subst hy
    exact hd g hg' (.inr (.inr (.inr ⟨x, hx, hg⟩)))
  · rcases hg with h | h | h | ⟨x, hx, h⟩
    · exact .inr (.inl h)
    · exact .inr (.inr (.inl h))
    · exact .inr (.inr (.inr (.inl h)))
    · rcases List.mem_append.1 hx with hx | hx
      · exact .inr (.inr (.inr (.inr ⟨x, hx, h⟩)))
      · simp only [List.mem_singleton] at hx
        subst hx
        exact .inl h
theorem info111 : ∃ i : TypeInfo, Tryd.prog.info? 111 = some i ∧ i.zero = some (.agg (Array.replicate 0 (vi 0) ++ (tmc 0 0 0 ⟨#[]⟩ none 0 0).toArray ++ #[.slice none 0 0, .slice none 0 0, .slice none 0 0, .slice none 0 0])) ∧ i.size = 9 ∧ i.bytes = 160 :=
  info_parts (show (Tryd.prog.info? 111).map (fun i => (i.zero, i.size, i.bytes)) = some (some (.agg (Array.replicate 0 (vi 0) ++ (tmc 0 0 0 ⟨#[]⟩ none 0 0).toArray ++ #[.slice none 0 0, .slice none 0 0, .slice none 0 0, .slice none 0 0])), 9, 160) by kernel_rfl)
/-- What lies in the web besides this row stays when the row is written. -/
theorem Web.apartN (W : Web w wb mp V N cap ks ns wr) : (∀ g ∈ blkOf N, g ≠ wb ∧ g ≠ mp ∧ ∀ x ∈ wr, g ∉ blkOf x.1) := by
  intro g hg
  obtain ⟨a, ha, rfl⟩ := mem_blk hg
  obtain ⟨xs, q1, q2⟩ := W.row
  obtain ⟨cs, hcs⟩ := q2.heap a ha
  refine ⟨fun h => ?_, fun h => ?_, fun x hx h => ?_⟩
  · rw [h, show w.heap[wb]? = _ from W.blk] at hcs
    injection hcs with hcs
    injection hcs with _ hcs
    exact absurd hcs (by decide)
  · exact W.objs a.block _ _ _ hcs (by simp [h])
  · obtain ⟨b, hb, e⟩ := mem_blk h
    obtain ⟨cs', hcs'⟩ := (W.wak x hx).heap b hb
    rw [e, hcs] at hcs'
    injection hcs' with hcs'
    injection hcs' with _ hcs'
    exact absurd hcs' (by decide)
/-- One more node behind the row; the block still tells of the row that was. -/
theorem Fm.webNode (F : Fm w0 w os ts) {i : Nat} (hi : os[i]? = some (oW wb mp V N cap ks ns wr)) (x : NdC) (h9 : (ndv x).length = 9) (h1 : ∀ v ∈ ndv x, v.oneCell' = true) (ty : TypeId) (ad : Addr) (d : Nat) (hC : Cells w (some ad) (ndv x)) (hb : ns.length ≤ 100000000) :
    ∃ A' c' v, (Builtin.append_ #[104, 104] ty #[.slice N ns.length cap, .slice (some ad) 1 d]).run Tryd.prog w = .ok (.slice A' (ns.length + 1) c') v ∧ Fm w0 v (os.set i (oW wb mp V A' c' ks (ns ++ [x]) wr)) ts := by
  have W := F.web hi
  obtain ⟨it, i0, i1, i2, i3⟩ := info111
  obtain ⟨xs, q1, q2, q3⟩ := W.len
  obtain ⟨A', c', v, r1, r2, r3, r4⟩ := run_appendG (f := f9) (size := 9) w 104 ty 111 it _ 160 Tryd.underlying104 i0 i1 i2 i3 (by rfl) (by decide) f9_len f9_one N cap xs q2 ad d [⟨ndv x, h9, h1⟩] (by simpa [f9] using hC) (by rw [q3]; simp; omega) (by rw [q3]; simp [maxLen]; omega)
  rw [q3, List.length_append, q3] at r1
  have ap := W.apartN
  have hlt : ∀ g, fpW wb mp N wr g → g < w.heap.size := (F.k _ (.inl (F.webm hi))).2.2
  refine ⟨A', c', v, r1, F.turn r3 i hi (fun g hg => .inr (.inr (.inl hg))) _ (keeps_oW _ _ _ _ _ _ _ _) ⟨W.blk.keep r3 fun h => (ap _ h).1 rfl, W.num.keep r3 fun h => (ap _ h).2.1 rfl, ⟨xs ++ [⟨ndv x, h9, h1⟩], by rw [List.map_append, List.map_append, q1]; rfl, r2⟩, fun y hy => (W.wak y hy).keep r3 fun a ha h => (ap _ h).2.2 y hy (by rw [ha]; exact blk_of), W.dis⟩ fun g hg => ?_⟩
  rcases hg with h | h | h | ⟨y, hy, h⟩
  · exact ⟨.inl (.inl h), Nat.lt_of_lt_of_le (hlt g (.inl h)) r3.size⟩
  · exact ⟨.inl (.inr (.inl h)), Nat.lt_of_lt_of_le (hlt g (.inr (.inl h))) r3.size⟩
  · obtain ⟨a, ha, rfl⟩ := mem_blk h
    exact ⟨(r4 a ha).imp (fun h => .inr (.inr (.inl h))) id, r2.lt a ha⟩
  · exact ⟨.inl (.inr (.inr (.inr ⟨y, hy, h⟩))), Nat.lt_of_lt_of_le (hlt g (.inr (.inr (.inr ⟨y, hy, h⟩)))) r3.size⟩
theorem pairwise_set {α : Type} {R : α → α → Prop} (hs : ∀ x y, R x y → R y x) {l : List α} (h : l.Pairwise R) (m : Nat) (hm : m < l.length) (y : α) (hy : ∀ j (hj : j < l.length), j ≠ m → R l[j] y) : (l.set m y).Pairwise R := by
  rw [List.pairwise_iff_getElem]
  intro a b ha hb hab
  rw [List.length_set] at ha hb
  rw [List.getElem_set, List.getElem_set]
  by_cases h1 : m = a
  · rw [if_pos h1, if_neg (by omega)]
    exact hs _ _ (hy b hb (by omega))
  · rw [if_neg h1]
    by_cases h2 : m = b
    · rw [if_pos h2]
      exact hy a ha (by omega)
    · rw [if_neg h2]
      exact List.pairwise_iff_getElem.1 h a b ha hb hab
/-- One more number that the m-th wakes, in memory; its node still tells of the row that was. -/
theorem Fm.webMore (F : Fm w0 w os ts) {i : Nat} (hi : os[i]? = some (oW wb mp V N cap ks ns wr)) (m : Nat) (hm : m < wr.length) (n : Nat) (ty : TypeId) (ad : Addr) (d : Nat) (hC : Cells w (some ad) [vi n]) (hb : wr[m].2.2.length ≤ 100000000) :
    ∃ A' c' v, (Builtin.append_ #[80, 80] ty #[rv wr[m], .slice (some ad) 1 d]).run Tryd.prog w = .ok (rv (A', c', wr[m].2.2 ++ [n])) v ∧ Fm w0 v (os.set i (oW wb mp V N cap ks ns (wr.set m (A', c', wr[m].2.2 ++ [n])))) ts := by
  have W := F.web hi
  obtain ⟨it, i0, i1, i2, i3⟩ := info3
  have O := W.wak _ (List.getElem_mem hm)
  obtain ⟨A', c', v, r1, r2, r3, r4⟩ := run_appendG (f := fi) (size := 1) w 80 ty 3 it _ 8 Tryd.underlying80 i0 i1 i2 i3 (by rfl) (by decide) fi_len fi_one wr[m].1 wr[m].2.1 wr[m].2.2 O ad d [n] (by simpa [fi] using hC) (by simp; omega) (by simp [maxLen]; omega)
  have hlt : ∀ g, fpW wb mp N wr g → g < w.heap.size := (F.k _ (.inl (F.webm hi))).2.2
  have dj : ∀ j (hj : j < wr.length), j ≠ m → ∀ g, g ∈ blkOf wr[j].1 → g ∉ blkOf wr[m].1 := by
    intro j hj hjm g hg hg'
    rcases Nat.lt_or_gt_of_ne hjm with h' | h'
    · exact List.pairwise_iff_getElem.1 W.dis j m hj hm h' g hg hg'
    · exact List.pairwise_iff_getElem.1 W.dis m j hm hj h' g hg' hg
  have ap : ∀ g ∈ blkOf wr[m].1, g ≠ wb ∧ g ≠ mp ∧ g ∉ blkOf N := fun g hg => by
    refine ⟨fun h => ?_, fun h => ?_, fun h => (W.apartN g h).2.2 _ (List.getElem_mem hm) hg⟩
    · obtain ⟨a, ha, rfl⟩ := mem_blk hg
      obtain ⟨cs, hcs⟩ := O.heap a ha
      rw [h, show w.heap[wb]? = _ from W.blk] at hcs
      injection hcs with hcs
      injection hcs with _ hcs
      exact absurd hcs (by decide)
    · obtain ⟨a, ha, rfl⟩ := mem_blk hg
      obtain ⟨cs, hcs⟩ := O.heap a ha
      exact W.objs a.block _ _ _ hcs (by simp [h])
  have hin : ∀ x ∈ wr.set m (A', c', wr[m].2.2 ++ [n]), x = (A', c', wr[m].2.2 ++ [n]) ∨ ∃ j, ∃ hj : j < wr.length, j ≠ m ∧ wr[j] = x := by
    intro x hx
    obtain ⟨j, hj, e⟩ := List.getElem_of_mem hx
    rw [List.length_set] at hj
    rw [List.getElem_set] at e
    split at e
    · exact .inl e.symm
    · rename_i h; exact .inr ⟨j, hj, fun h' => h h'.symm, e⟩
  refine ⟨A', c', v, r1, F.turn r3 i hi (fun g hg => .inr (.inr (.inr ⟨_, List.getElem_mem hm, hg⟩))) _ (keeps_oW _ _ _ _ _ _ _ _) ⟨W.blk.keep r3 fun h => (ap _ h).1 rfl, W.num.keep r3 fun h => (ap _ h).2.1 rfl, ?_, fun y hy => ?_, ?_⟩ fun g hg => ?_⟩
  · obtain ⟨xs, q1, q2⟩ := W.row
    exact ⟨xs, q1, q2.keep r3 fun a ha h => (ap _ h).2.2 (by rw [ha]; exact blk_of)⟩
  · rcases hin y hy with rfl | ⟨j, hj, hjm, rfl⟩
    · exact r2
    · exact (W.wak _ (List.getElem_mem hj)).keep r3 fun a ha h => dj j hj hjm _ (by rw [ha]; exact blk_of) h
  · refine pairwise_set (fun x y h g h1 h2 => h g h2 h1) W.dis m hm _ fun j hj hjm g hg hg' => ?_
    obtain ⟨a, ha, rfl⟩ := mem_blk hg'
    rcases r4 a ha with h | h
    · exact dj j hj hjm _ hg h
    · have := hlt a.block (.inr (.inr (.inr ⟨_, List.getElem_mem hj, hg⟩)))
      omega
  · rcases hg with h | h | h | ⟨y, hy, h⟩
    · exact ⟨.inl (.inl h), Nat.lt_of_lt_of_le (hlt g (.inl h)) r3.size⟩
    · exact ⟨.inl (.inr (.inl h)), Nat.lt_of_lt_of_le (hlt g (.inr (.inl h))) r3.size⟩
    · exact ⟨.inl (.inr (.inr (.inl h))), Nat.lt_of_lt_of_le (hlt g (.inr (.inr (.inl h)))) r3.size⟩
    · rcases hin y hy with rfl | ⟨j, hj, hjm, rfl⟩
      · obtain ⟨a, ha, rfl⟩ := mem_blk h
        exact ⟨(r4 a ha).imp (fun h => .inr (.inr (.inr ⟨_, List.getElem_mem hm, h⟩))) id, r2.lt a ha⟩
      · have hf : fpW wb mp N wr g := .inr (.inr (.inr ⟨_, List.getElem_mem hj, h⟩))
        exact ⟨.inl hf, Nat.lt_of_lt_of_le (hlt g hf) r3.size⟩
/-- The m-th node's last field set. -/
theorem Fm.webTold (F : Fm w0 w os ts) {i : Nat} (hi : os[i]? = some (oW wb mp V N cap ks ns wr)) (m : Nat) (hm : m < ns.length) (h5 : ns[m].c.length = 5) (r : Rw) : ∃ g, N = some ⟨g, 0, none⟩ ∧ Fm w0 (w.setCell ⟨g, m * 9 + 8, none⟩ (rv r)) (os.set i (oW wb mp V N cap ks (ns.set m { ns[m] with wakes := r }) wr)) ts := by
  have W := F.web hi
  obtain ⟨g, hN, hc, h9, hone⟩ := W.node m hm
  subst hN
  obtain ⟨xs, q1, q2, q3⟩ := W.len
  have hmx : m < xs.length := by omega
  have e : xs[m].1 = ndv ns[m] := by
    have := congrArg (fun l => l[m]?) q1
    simpa [hmx, hm] using this
  have hset : ndv { ns[m] with wakes := r } = (ndv ns[m]).set 8 (rv r) := by
    obtain ⟨a, b, c', d', f', hcs⟩ := five h5
    unfold ndv
    rw [hcs]
    rfl
  have hl9 : (ndv { ns[m] with wakes := r }).length = 9 := by rw [hset, List.length_set]; exact h9
  have ho9 : ∀ v ∈ ndv { ns[m] with wakes := r }, v.oneCell' = true := by
    intro v hv
    rw [hset] at hv
    rcases List.mem_or_eq_of_mem_set hv with h | h
    · exact hone v h
    · rw [h]; rfl
  have h3 : Mod [g] w (w.setCell ⟨g, m * 9 + 8, none⟩ (rv r)) := Mod.setCell w (by simp) _
  have ap := W.apartN g (by simp [blkOf, Go.Proofs.YtchanildogjhgaaDoor.blk])
  have hlt : ∀ g', fpW wb mp (some ⟨g, 0, none⟩) wr g' → g' < w.heap.size := (F.k _ (.inl (F.webm hi))).2.2
  refine ⟨g, rfl, F.turn h3 i hi (fun g' hg => ?_) _ (keeps_oW _ _ _ _ _ _ _ _) ⟨W.blk.keep h3 (by simpa using fun h => ap.1 h.symm), W.num.keep h3 (by simpa using fun h => ap.2.1 h.symm), ⟨xs.set m ⟨_, hl9, ho9⟩, ?_, OwnG.setc q2 f9_len m hmx ⟨_, hl9, ho9⟩ 8 (rv r) (by omega) ?_⟩, fun y hy => (W.wak y hy).keep h3 fun a ha h => ?_, W.dis⟩ fun g' hg => ⟨.inl hg, Nat.lt_of_lt_of_le (hlt g' hg) h3.size⟩⟩
  · simp only [List.mem_singleton] at hg
    subst hg
    exact .inr (.inr (.inl (by simp [blkOf, Go.Proofs.YtchanildogjhgaaDoor.blk])))
  · rw [List.map_set, List.map_set, q1]
  · show ndv _ = (xs[m].1).set 8 (rv r)
    rw [e, hset]
  · simp only [List.mem_singleton] at h
    exact ap.2.2 y hy (by rw [ha, ← h]; exact blk_of)
end
end
section
set_option linter.unusedVariables false
set_option linter.unusedSimpArgs false
theorem ok_len {t : Tm} (h : t.ok = true) : t.kids.length = Tm.nk t.kind := by
  obtain ⟨k, u, n, s, l⟩ := t
  rw [ok_mk, Bool.and_eq_true] at h
  have := h.1
  unfold Tm.one at this
  simp only [Bool.and_eq_true, beq_iff_eq] at this
  exact this.2
theorem ok_kid {t x : Tm} (h : t.ok = true) (hx : x ∈ t.kids) : x.ok = true := by
  obtain ⟨k, u, n, s, l⟩ := t
  rw [ok_mk, Bool.and_eq_true] at h
  exact Tm.mem_ok hx h.2
theorem nk_le (k : Int) : Tm.nk k ≤ 2 := by unfold Tm.nk; split <;> (try split) <;> omega
theorem pad_eq {l l' : List Nat} (h : l.length = l'.length) (h2 : l.length ≤ 2) (h0 : l.getD 0 0 = l'.getD 0 0) (h1 : l.getD 1 0 = l'.getD 1 0) : l = l' := by
  match l, l', h, h2 with
  | [], [], _, _ => rfl
  | [a], [b], _, _ => simp at h0; rw [h0]
  | [a, b], [c, d], _, _ => simp at h0 h1; rw [h0, h1]
theorem shp_inj {k u n k' u' n' : Int} {s s' : ByteArray} {a b a' b' : Nat} (h : shp k u n s a b = shp k' u' n' s' a' b') : k = k' ∧ u = u' ∧ n = n' ∧ s = s' ∧ a = a' ∧ b = b' := by
  unfold shp vi at h
  simp only [Value.agg.injEq, Array.mk.injEq, List.cons.injEq, Value.int.injEq, Value.string.injEq, true_and, and_true] at h
  obtain ⟨h1, h2, h3, h4, h5, h6⟩ := h
  exact ⟨h1, h2, h3, h4, by omega, by omega⟩
/-- The shape of a term whose Kids have these numbers. -/
def shT (t : Tm) (kids : List Nat) : Value := shp t.kind t.user t.num t.text (kids.getD 0 0) (kids.getD 1 0)
theorem keyN_eq (x : NdC) : keyN x = shT x.t x.kids := rfl
abbrev grN (ns : List NdC) : Gr := ns.map ndP
structure Good (ns : List NdC) : Prop where
  wok : Wok (grN ns)
  kid : ∀ i (h : i < ns.length), numOf (grN ns) ns[i].kids ns[i].t.kids
  ok : ∀ x ∈ ns, x.t.ok = true
  few : ∀ x ∈ ns, x.wakes.2.2.length ≤ 5 * ns.length
theorem tmAt_gr {ns : List NdC} {i : Nat} (h : i < ns.length) : tmAt (grN ns) i = some ns[i].t := by
  rw [tmAt_of (by simpa using h)]
  simp [ndP]
theorem Good.found {ns : List NdC} (G : Good ns) {t : Tm} {kids : List Nat} (ht : t.ok = true) (hk : numOf (grN ns) kids t.kids) {i : Nat} (hi : i < ns.length) (h : shT t kids = keyN ns[i]) : ns[i].t = t := by
  rw [keyN_eq] at h
  obtain ⟨h1, h2, h3, h4, h5, h6⟩ := shp_inj h
  have hx := G.ok _ (List.getElem_mem hi)
  have hki := G.kid i hi
  have l1 := ok_len ht
  have l2 := ok_len hx
  have l3 := numOf_get hk
  have l4 := numOf_get hki
  have hl : kids.length = ns[i].kids.length := by rw [l3, l4, l1, l2, h1]
  have hkk : kids = ns[i].kids := pad_eq hl (by rw [l3, l1]; exact nk_le _) h5 h6
  rw [← hkk] at hki
  unfold numOf at hk hki
  have hkids : ns[i].t.kids = t.kids := by
    have := hki.symm.trans hk
    have inj : ∀ {a b : List Tm}, a.map some = b.map some → a = b := fun {a b} h => List.map_inj_right (fun x y h => Option.some.inj h) |>.1 h
    exact inj this
  revert h1 h2 h3 h4 hkids
  generalize ns[i].t = x
  obtain ⟨a1, a2, a3, a4, a5⟩ := x
  obtain ⟨b1, b2, b3, b4, b5⟩ := t
  simp only [Tm.kind, Tm.user, Tm.num, Tm.text, Tm.kids]
  rintro rfl rfl rfl rfl rfl
  rfl
theorem Good.fresh {ns : List NdC} (G : Good ns) {t : Tm} {kids : List Nat} (ht : t.ok = true) (hk : numOf (grN ns) kids t.kids) (h : shT t kids ∉ ns.map keyN) (i : Nat) : tmAt (grN ns) i ≠ some t := by
  intro e
  obtain ⟨h1, h2⟩ := tmAt_some e
  have hi : i < ns.length := by simpa using h1
  rw [tmAt_gr hi] at e
  have e' : ns[i].t = t := Option.some.inj e
  have hki := G.kid i hi
  rw [e'] at hki
  have hkk : kids = ns[i].kids := by
    apply List.ext_getElem
    · rw [numOf_get hk, numOf_get hki]
    · intro j a b
      have hj : j < t.kids.length := by rw [← numOf_get hk]; exact a
      have g1 : tmAt (grN ns) kids[j] = some t.kids[j] := by
        have := congrArg (fun l => l[j]?) hk
        simpa [a, hj] using this
      have g2 : tmAt (grN ns) ns[i].kids[j] = some t.kids[j] := by
        have := congrArg (fun l => l[j]?) hki
        simpa [b, hj] using this
      exact G.wok.inj _ _ _ g1 g2
  refine h (List.mem_map.2 ⟨ns[i], List.getElem_mem hi, ?_⟩)
  rw [keyN_eq, e', hkk]
/-- Like but for what they wake. -/
def SameN (a b : List NdC) : Prop := a.length = b.length ∧ ∀ i (h : i < a.length) (h' : i < b.length), ∃ r, a[i] = { b[i] with wakes := r }
theorem SameN.refl (a : List NdC) : SameN a a := ⟨rfl, fun i h h' => ⟨a[i].wakes, rfl⟩⟩
theorem SameN.set {a b : List NdC} (h : SameN a b) (m : Nat) (hm : m < a.length) (r : Rw) : SameN (a.set m { a[m] with wakes := r }) b := by
  refine ⟨by rw [List.length_set]; exact h.1, fun i hi hi' => ?_⟩
  rw [List.getElem_set]
  by_cases e : m = i
  · subst e
    obtain ⟨r', hr⟩ := h.2 m hm hi'
    refine ⟨r, ?_⟩
    rw [if_pos rfl, hr]
  · rw [if_neg e]
    exact h.2 i (by simpa using hi) hi'
theorem SameN.at {a b : List NdC} (h : SameN a b) (i : Nat) (hi : i < a.length) : ∃ h' : i < b.length, a[i].t = b[i].t ∧ a[i].kids = b[i].kids ∧ a[i].c = b[i].c ∧ a[i].ins = b[i].ins ∧ a[i].keys = b[i].keys ∧ a[i].needs = b[i].needs := by
  have h' : i < b.length := by rw [← h.1]; exact hi
  obtain ⟨r, hr⟩ := h.2 i hi h'
  exact ⟨h', by rw [hr], by rw [hr], by rw [hr], by rw [hr], by rw [hr], by rw [hr]⟩
theorem SameN.keys {a b : List NdC} (h : SameN a b) : a.map keyN = b.map keyN := by
  apply List.ext_getElem
  · simp [h.1]
  · intro i p q
    obtain ⟨h', e1, e2, _⟩ := h.at i (by simpa using p)
    simp only [List.getElem_map, keyN_eq]
    rw [e1, e2]
theorem wks_snoc (g : Gr) (l : List Nat) (m n : Nat) : wks g (l ++ [m]) n = wk (wks g l n) m n := by
  unfold wks
  rw [List.foldl_append]
  rfl
/-- One more step of telling what the new node wakes. -/
theorem gr_set {ns : List NdC} {m n : Nat} (hm : m < ns.length) (A : Option Addr) (c : Nat) : grN (ns.set m { ns[m] with wakes := (A, c, ns[m].wakes.2.2 ++ [n]) }) = wk (grN ns) m n := by
  unfold grN wk
  apply List.ext_getElem?
  intro i
  rw [List.getElem?_map, List.getElem?_set, List.getElem?_modify, List.getElem?_map]
  by_cases e : m = i
  · subst e
    simp [hm, ndP]
  · cases h : ns[i]? with
    | none => simp [e, h]
    | some x => simp [e, h, ndP]
theorem keysT_len (t : Tm) : (Tm.keysT t).length ≤ 1 := by
  unfold Tm.keysT
  split
  · rw [List.length_take]; omega
  · split <;> simp
theorem needs_len {t : Tm} (h : t.ok = true) : (Tm.needs t).length ≤ 3 := by
  have h1 := ok_len h
  have h2 := nk_le t.kind
  unfold Tm.needs
  split <;> (try rw [List.length_cons]) <;> omega
theorem wk_few {ns' b : List NdC} {L : List Nat} {n : Nat} (hg : grN ns' = wks (grN b) L n) {i : Nat} (h : i < ns'.length) (h' : i < b.length) : ns'[i].wakes.2.2.length ≤ b[i].wakes.2.2.length + L.length := by
  have h1 := wks_get n L (grN b) i
  rw [← hg] at h1
  unfold grN at h1
  rw [List.getElem?_map, List.getElem?_map, List.getElem?_eq_getElem h, List.getElem?_eq_getElem h'] at h1
  simp only [Option.map_some, Option.some.injEq] at h1
  have h2 := congrArg (fun x => x.wakes.length) h1
  simp only [ndP, more, List.length_append, List.length_replicate] at h2
  have h3 : L.count i ≤ L.length := List.count_le_length
  omega
/-- A node more, when all is told. -/
theorem Good.push {ns ns' : List NdC} (G : Good ns) {x : NdC} (hok : x.t.ok = true) (hnew : ∀ i, tmAt (grN ns) i ≠ some x.t) (hkid : numOf (grN ns) x.kids x.t.kids) (hn : numOf (grN ns) x.needs.2.2 (Tm.needs x.t)) (hk : numOf (grN ns) x.keys.2.2 (Tm.keysT x.t)) (hi : numOf (grN ns) x.ins.2.2 (Tm.inside x.t)) (hw : x.wakes.2.2 = [ns.length])
    (hS : SameN ns' (ns ++ [x])) (hg : grN ns' = wks (grN (ns ++ [x])) (x.keys.2.2 ++ x.needs.2.2) ns.length) : Good ns' ∧ Ext (grN ns) (grN ns') ∧ tmAt (grN ns') ns.length = some x.t := by
  have hgx : grN (ns ++ [x]) = grN ns ++ [⟨x.t, x.ins.2.2, x.keys.2.2, x.needs.2.2, [(grN ns).length]⟩] := by
    unfold grN
    rw [List.map_append, List.length_map, ← hw]
    rfl
  have hW := G.wok.push hnew hn hk hi
  rw [← hgx] at hW
  have e2 : (grN ns).length = ns.length := by simp
  rw [e2, ← hg] at hW
  have ex : Ext (grN ns) (grN ns') := by
    rw [hg, hgx]
    exact (ext_push _ _).then (ext_wks _ _ _)
  refine ⟨⟨hW, fun i h => ?_, fun y hy => ?_, fun y hy => ?_⟩, ex, ?_⟩
  · obtain ⟨h', e1, e2, _⟩ := hS.at i h
    rw [e1, e2]
    rcases Nat.lt_or_ge i ns.length with hl | hl
    · rw [List.getElem_append_left hl]
      exact ex.num (G.kid i hl)
    · have : i = ns.length := by simp at h'; omega
      subst this
      simp only [List.getElem_append_right (Nat.le_refl _), Nat.sub_self, List.getElem_cons_zero]
      exact ex.num hkid
  · obtain ⟨i, h, rfl⟩ := List.getElem_of_mem hy
    obtain ⟨h', e1, _⟩ := hS.at i h
    rw [e1]
    rcases List.mem_append.1 (List.getElem_mem h') with hm | hm
    · exact G.ok _ hm
    · simp only [List.mem_singleton] at hm
      rw [hm]
      exact hok
  · obtain ⟨i, h, rfl⟩ := List.getElem_of_mem hy
    obtain ⟨h', _⟩ := hS.at i h
    have w1 := wk_few hg h h'
    have w2 := numOf_get hk
    have w3 := numOf_get hn
    have w4 := keysT_len x.t
    have w5 := needs_len hok
    have w6 := hS.1
    rw [List.length_append, List.length_singleton] at w6
    rw [List.length_append] at w1
    rcases Nat.lt_or_ge i ns.length with hl | hl
    · rw [List.getElem_append_left hl] at w1
      have := G.few _ (List.getElem_mem hl)
      omega
    · have e : i = ns.length := by simp at h'; omega
      subst e
      simp only [List.getElem_append_right (Nat.le_refl _), Nat.sub_self, List.getElem_cons_zero] at w1
      rw [hw, List.length_singleton] at w1
      omega
  · rw [hg, tmAt_wks, hgx]
    have := tmAt_new (grN ns) ⟨x.t, x.ins.2.2, x.keys.2.2, x.needs.2.2, [(grN ns).length]⟩
    rwa [e2] at this ⊢
end
section
open Go.RowKit Go.Shelf
set_option linter.unusedVariables false
set_option linter.unusedSimpArgs false
/-- The web, nothing of it under way. -/
abbrev oWN (wb mp : Nat) (N : Option Addr) (cap : Nat) (ns : List NdC) : Th := oW wb mp (.slice N ns.length cap) N cap (ns.map keyN) ns (ns.map (·.wakes))
/-- How many came, and that each of them is no greater than this. -/
def Few (ns ns' : List NdC) (k : Nat) : Prop := ns'.length ≤ ns.length + (2 * k - 1) ∧ ∀ j x, tmAt (grN ns') j = some x → (∃ i, tmAt (grN ns) i = some x) ∨ x.count ≤ k
theorem Few.refl (ns : List NdC) (k : Nat) : Few ns ns k := ⟨by omega, fun j x h => .inl ⟨j, h⟩⟩
theorem Few.mono {a b : List NdC} {k m : Nat} (h : Few a b k) (hk : k ≤ m) : Few a b m := ⟨by have := h.1; omega, fun j x hx => (h.2 j x hx).imp id fun h => by omega⟩
theorem Few.then {a b c : List NdC} {k m : Nat} (h : Few a b k) (h' : Few b c m) : Few a c (k + m) := by
  refine ⟨by have := h.1; have := h'.1; omega, fun j x hx => ?_⟩
  rcases h'.2 j x hx with ⟨i, hi⟩ | hm
  · exact (h.2 i x hi).imp id fun h => by omega
  · exact .inr (by omega)
/-- The web has grown by terms of this count. -/
def Grown (w0 : World) (os ts : List Th) (i wb mp : Nat) (ns : List NdC) (k : Nat) (w' : World) (ns' : List NdC) (ts' : List Th) : Prop := ∃ N cap T, Fm w0 w' (os.set i (oWN wb mp N cap ns')) (ts' ++ (tN Any T ns' :: ts)) ∧ Good ns' ∧ Ext (grN ns) (grN ns') ∧ Few ns ns' k
def AddC (wb mp : Nat) (t : Tm) : Prop := ∀ (w0 w : World) (os ts : List Th) (i : Nat) (N : Option Addr) (cap : Nat) (ns : List NdC) (T S : Nat → Prop) (c : List Value), Fm w0 w os ts → os[i]? = some (oWN wb mp N cap ns) → tN Any T ns ∈ ts → Good ns → tT Any S t c ∈ ts → Glob w0 → ns.length + 2 * t.count ≤ 10000000 →
  Calls Tryd.prog 62 #[.pointer (some ⟨wb, 0, none⟩), .agg c.toArray] w fun e w' => ∃ ns' n, e = .returned (vi n) ∧ Grown w0 os ts i wb mp ns t.count w' ns' [] ∧ tmAt (grN ns') n = some t
def AllC (wb mp : Nat) (l : List Tm) : Prop := ∀ (w0 w : World) (os ts : List Th) (i : Nat) (N : Option Addr) (cap : Nat) (ns : List NdC) (T S : Nat → Prop) (A : Option Addr) (n c : Nat) (vs : List (List Value)), Fm w0 w os ts → os[i]? = some (oWN wb mp N cap ns) → tN Any T ns ∈ ts → Good ns → tR Any S A vs l ∈ ts → Glob w0 → n = l.length → n ≤ 1000 → ns.length + 2 * Tm.countAll l ≤ 10000000 →
  Calls Tryd.prog 61 #[.pointer (some ⟨wb, 0, none⟩), .slice A n c] w fun e w' => ∃ ns' kids A' c' S', e = .returned (.slice A' n c') ∧ n ≤ c' ∧ Grown w0 os ts i wb mp ns (Tm.countAll l) w' ns' [tI Any S' A' kids] ∧ numOf (grN ns') kids l
section
variable {w0 w v : World} {os ts : List Th}
theorem set_self {α : Type} {l : List α} {i : Nat} {x : α} (h : l[i]? = some x) : l.set i x = l := by
  obtain ⟨h1, h2⟩ := List.getElem?_eq_some_iff.1 h
  rw [← h2, List.set_getElem_self]
theorem set_get {α : Type} {l : List α} {i : Nat} {x y : α} (h : l[i]? = some x) : (l.set i y)[i]? = some y := by
  obtain ⟨h1, h2⟩ := List.getElem?_eq_some_iff.1 h
  rw [List.getElem?_set]
  simp [h1]
variable {ops : Array Oper} {rest : List Oper} {o : Oper} {a : Act} {Q : Exit → Act → World → Prop}
theorem z3 (w : World) : (zeroValue 3).run Tryd.prog w = .ok (.int .i64 0) w := by kernel_rfl
/-- A row of one number. -/
theorem fm_litI (F : Fm w0 w os ts) (hgd : o.guard = none) (x : Operand) (ho : o.op = .buildSlice 80 1 #[(0, x)]) (n : Nat) (hx : a.eval x = vi n)
    (h : ∀ g v, Fm w0 v (oI (some ⟨g, 0, none⟩) 1 [n] :: os) ts → wpList Tryd.prog ops Q rest (a.put o.dst (.slice (some ⟨g, 0, none⟩) 1 1)) v) : wpList Tryd.prog ops Q (o :: rest) a w := by
  obtain ⟨it, i0, i1, i2, i3⟩ := info3
  have hr := run_lit1 (P := Tryd.prog) (t := 80) (e := 3) (V := vi n) (cs := [vi n]) (s := 1) w Tryd.underlying80 i0 i2 (by omega) (by omega) z3 rfl rfl
  have hH : Holds (w.alloc (.cells [vi n].toArray 3)) w.heap.size 3 [vi n] := Holds.made w 3 [vi n]
  have hO : OwnG fi 3 1 (w.alloc (.cells [vi n].toArray 3)) (some ⟨w.heap.size, 0, none⟩) 1 [n] := OwnG.of_holds (l := [n]) (by simpa [fi] using hH) fi_len (by simp [maxLen])
  have F' := F.own (Mod.alloc [] w (.cells [vi n].toArray 3)) (oI (some ⟨w.heap.size, 0, none⟩) 1 [n]) (keeps_oI _ _ _) hO (fun g hg => by
    have : g = w.heap.size := by simpa [oI, blkOf, Go.Proofs.YtchanildogjhgaaDoor.blk] using hg
    subst this
    exact ⟨Nat.le_refl _, by simp⟩)
  refine wpList_ran_w hgd (.slice (some ⟨w.heap.size, 0, none⟩) 1 1) ?_ (h _ _ F')
  unfold execOp
  simp only [ho, List.map_toArray, List.map_cons, List.map_nil, hx, Sem.run_bind, hr, Result.andThen, Sem.run_pure]
/-- A number more behind a row of the call's own. -/
theorem fm_appI (F : Fm w0 w os ts) (i : Nat) {A : Option Addr} {c : Nat} {l : List Nat} (hi : os[i]? = some (oI A c l)) (j : Nat) {X : Option Addr} {d : Nat} {k : List Nat} (hj : os[j]? = some (oI X d k)) (n m : Nat) (hn : n = l.length) (hm : m = k.length) (hb : l.length + k.length ≤ 1000000)
    (hgd : o.guard = none) (x y : Operand) (ho : o.op = .call { callee := .builtin .append, args := #[x, y], argTypes := #[80, 80] }) (hx : a.eval x = .slice A n c) (hy : a.eval y = .slice X m d)
    (h : ∀ A' c' v, n + m ≤ c' → Fm w0 v (os.set i (oI A' c' (l ++ k))) ts → wpList Tryd.prog ops Q rest (a.put o.dst (.slice A' (n + m) c')) v) : wpList Tryd.prog ops Q (o :: rest) a w := by
  obtain ⟨it, i0, i1, i2, i3⟩ := info3
  have O : OwnG fi 3 1 w A c l := F.o i hi
  have O2 : OwnG fi 3 1 w X d k := F.o j hj
  refine wpList_appendG (f := fi) w hgd x y 80 ho 3 it (vi 0) 8 Tryd.underlying80 i0 i1 i2 i3 (by rfl) (by decide) fi_len fi_one A n c l hx hn O X m d k hy hm O2.cells (by omega) (by unfold maxLen; omega) ?_
  intro A' c' v hO' m' hb'
  have hfit := hO'.fits.1
  rw [List.length_append, ← hn, ← hm] at *
  refine h A' c' v hfit (F.turn m' i hi (fun g hg => hg) _ (keeps_oI _ _ _) hO' fun g hg => ?_)
  obtain ⟨a', ha', rfl⟩ := mem_blk hg
  exact ⟨hb' a' ha', hO'.lt a' ha'⟩
end
theorem count_take (l : List Tm) (j : Nat) (h : j < l.length) : Tm.countAll (l.take (j + 1)) = Tm.countAll (l.take j) + l[j].count := by
  rw [List.take_succ_eq_append_getElem h, Tm.countAll_append]
  simp [Tm.countAll]
theorem count_take_le (l : List Tm) (j : Nat) : Tm.countAll (l.take j) ≤ Tm.countAll l := by
  have : l = l.take j ++ l.drop j := (List.take_append_drop j l).symm
  conv => rhs; rw [this, Tm.countAll_append]
  omega
theorem numOf_snoc {g : Gr} {l : List Nat} {ts : List Tm} {n : Nat} {t : Tm} (h : numOf g l ts) (ht : tmAt g n = some t) : numOf g (l ++ [n]) (ts ++ [t]) := by
  unfold numOf at *
  rw [List.map_append, List.map_append, h]
  simp [ht]
set_option maxRecDepth 1000000 in
set_option maxHeartbeats 4000000 in
theorem all_of (wb mp : Nat) (l : List Tm) (AD : ∀ t ∈ l, AddC wb mp t) : AllC wb mp l := by
  intro w0 w os ts i N cap ns T S A n c vs F hi hN HG hR Gl hl hn hc
  have HL := Lib.hid hl
  have HC := Lib.hid hc
  have HA := Lib.hid AD
  have HI := Lib.hid hi
  have HR := Lib.hid hR
  have hG0 := Lib.hid HG
  have HN := Lib.hid hN
  clear hl hc AD hi hR HG hN
  go_enter Tryd.func61, Tryd.ntmps61
  go_wp2_with fail
  go_loopw [5, 10] (fun z iv wr => ∃ (j : Nat) (A' : Option Addr) (c' : Nat) (kids : List Nat) (ns' : List NdC) (N' : Option Addr) (cap' : Nat) (T' : Nat → Prop), iv = .int .i64 j ∧ z = .slice A' j c' ∧ j ≤ n ∧ j ≤ c' ∧ Hid (kids.length = j) ∧ Fm w0 wr (oI A' c' kids :: os.set i (oWN wb mp N' cap' ns')) (tN Any T' ns' :: ts) ∧ Hid (Good ns' ∧ Ext (grN ns) (grN ns') ∧ Few ns ns' (Tm.countAll (l.take j)) ∧ numOf (grN ns') kids (l.take j))) (fun _ iv _ => n - (intOf iv).toNat)
  case atStart =>
    have F1 := (F.also (tN Any T ns) (keeps_tN _ _ _) (F.k _ (.inr HN.out)).2.1 fun g hg => ⟨_, HN.out, hg⟩).own (Mod.refl [] w) (oI none 0 []) (keeps_oI _ _ _) (OwnG.nil fi 3 1 w) (fun g hg => by simp [oI, blkOf, Go.Proofs.YtchanildogjhgaaDoor.blk] at hg)
    refine ⟨0, none, 0, [], ns, N, cap, T, rfl, rfl, Nat.zero_le _, Nat.zero_le _, Lib.hid rfl, ?_, Lib.hid ⟨hG0.out, Ext.refl _, Few.refl _ _, rfl⟩⟩
    rw [set_self HI.out]
    exact F1
  case round =>
  obtain ⟨j, A', c', kids, ns', N', cap', T', rfl, rfl, hj, hjc, hk, FJ, hh⟩ := hrel
  by_cases hjl : j < n
  case neg =>
    obtain rfl : n = j := by omega
    go_wp2_with fail
    go_ret
    obtain ⟨h1, h2, h3, h4⟩ := hh.out
    rw [HL.out, List.take_length] at h3 h4
    have hcells : OwnG fi 3 1 _ A' c' kids := FJ.o 0 rfl
    have F2 := (FJ.freeze 0 rfl).also (tI Any (· ∈ blkOf A') A' kids) (keeps_tI _ _ _ _) ⟨by rw [← fi_flat]; exact hcells.cells, fun a ha _ => by rw [ha]; exact blk_of, fun _ _ => trivial⟩ fun g hg => ⟨_, List.mem_cons_self .., hg⟩
    have F3 := F2.sub (ts' := [tI Any (· ∈ blkOf A') A' kids] ++ (tN Any T' ns' :: ts)) (List.Sublist.refl _) (fun y hy => by
      rcases List.mem_append.1 hy with hy | hy
      · simp only [List.mem_singleton] at hy
        subst hy
        exact List.mem_cons_self ..
      · exact List.mem_cons_of_mem _ (List.mem_cons_of_mem _ hy))
    exact ⟨ns', kids, A', c', _, rfl, hjc, ⟨N', cap', T', F3, h1, h2, h3⟩, h4⟩
  case pos =>
    have hjq : j < l.length := by rw [← HL.out]; exact hjl
    obtain ⟨g, q, cj, rfl, h5, h1, F0⟩ := FJ.elemR (List.mem_cons_of_mem _ HR.out) j hjq
    have hcj : cj.length = 5 ∧ ∀ v ∈ cj, v.oneCell' = true := ⟨h5, h1⟩
    replace F0 := F0.eT (F0.mem 0 rfl)
    clear h5 h1 FJ
    have hct := count_take l j hjq
    have hcl := count_take_le l (j + 1)
    have AJ := HA.out (l[j]'hjq) (List.getElem_mem hjq)
    obtain ⟨tj, htj⟩ : ∃ t, t = l[j]'hjq := ⟨_, rfl⟩
    rw [← htj] at AJ F0 hct
    have HT := Lib.hid htj
    have hbd : ns'.length + 2 * tj.count ≤ 10000000 := by
      have := hh.out.2.2.1.1
      have := HC.out
      omega
    have HB := Lib.hid hbd
    have HCT := Lib.hid hct
    have HI' : Hid ((os.set i (oWN wb mp N' cap' ns'))[i]? = some (oWN wb mp N' cap' ns')) := Lib.hid (set_get HI.out)
    have hG := Lib.hid hh.out.1
    clear hct hcl hbd htj
    go_wp2_with (first
      | (with_reducible refine wpList_ran (o := ⟨some 12, _, _, _, _, _⟩) rfl (.pointer (some ⟨g, q + j * 5, none⟩)) (exec_ixs Tryd.underlying22 size24 hjl rfl rfl rfl) ?_)
      | (with_reducible refine fm_loadE F0 (F0.mem 1 rfl) (o := ⟨some 13, .load 24 (.tmp 12), _, _, _, _⟩) rfl (.tmp 12) rfl rfl hcj.1 ?_)
      | (with_reducible refine fm_alloc F0 (o := ⟨some 7, .alloc 24, _, _, _, _⟩) rfl 24 rfl _ zero24 ?_; intro b21 w21 F21; clear F0)
      | (with_reducible refine fm_store F21 0 rfl (o := ⟨none, .store 24 (.tmp 7) (.tmp 13), _, _, _, _⟩) rfl (.tmp 7) (.tmp 13) rfl rfl (cj) rfl rfl hcj.1 (tmc_len _ _ _ _ _ _ _) hcj.2 ?_; intro w22 F22; clear F21)
      | (with_reducible refine fm_load F22 0 rfl (o := ⟨some 16, .load 24 (.tmp 7), _, _, _, _⟩) rfl (.tmp 7) rfl rfl hcj.1 ?_)
      | (go_at_call 62; refine (AJ w0 w22 _ _ (i + 2) N' cap' ns' T' _ cj F22 (by simpa using HI'.out) (F22.mem 2 rfl) hG.out (F22.mem 0 rfl) Gl HB.out).mono ?_
         rintro e w23 ⟨ns2, n2, rfl, ⟨N2, cap2, T2, F23, q1, q2, q3⟩, q4⟩
         replace F23 := F23.sub (os' := oI A' c' kids :: os.set i (oWN wb mp N2 cap2 ns2)) (ts' := tN Any T2 ns2 :: ts) (by simp [List.set_set]) (fun y hy => by
           rcases List.mem_cons.1 hy with rfl | hy
           · exact List.mem_cons_self ..
           · simp [hy])
         replace q1 := Lib.hid q1
         replace q2 := Lib.hid q2
         replace q3 := Lib.hid q3
         replace q4 := Lib.hid q4
         clear F22)
      | (with_reducible refine fm_litI F23 (o := ⟨some 18, .buildSlice 80 1 #[(0, .tmp 17)], _, _, _, _⟩) rfl (.tmp 17) rfl n2 rfl ?_; intro b24 w24 F24; clear F23)
      | (with_reducible refine fm_appI F24 1 rfl 0 rfl j 1 hk.out.symm rfl (by rw [hk.out]; simp; omega) (o := ⟨some 19, .call { callee := .builtin .append, args := #[.tmp 14, .tmp 18], argTypes := #[80, 80] }, _, _, _, _⟩) rfl (.tmp 14) (.tmp 18) rfl rfl rfl ?_; intro A2 c2 w25 hc2 F25; clear F24))
    obtain ⟨p1, p2, p3, p4⟩ := hh.out
    have t4 := numOf_snoc (q2.out.num p4) q4.out
    have t3 := q3.out
    have t5 := HCT.out
    have hkk := hk.out
    refine ⟨⟨j + 1, A2, c2, kids ++ [n2], ns2, N2, cap2, T2, by go_num, rfl, by omega, hc2, Lib.hid (by simp [hkk]), F25.sub (List.sublist_cons_self _ _) (fun y hy => hy), Lib.hid ⟨q1.out, p2.then q2.out, by rw [t5]; exact p3.then t3, ?_⟩⟩, by simp [intOf]; omega⟩
    rw [List.take_succ_eq_append_getElem hjq, ← HT.out]
    exact t4
end
section
open Go.RowKit Go.Shelf
set_option linter.unusedVariables false
set_option linter.unusedSimpArgs false
def SecC (wb mp : Nat) (u : Int) : Prop := ∀ (w0 w : World) (os ts : List Th) (i : Nat) (N : Option Addr) (cap : Nat) (ns : List NdC) (T : Nat → Prop) (k nn : Int) (s : ByteArray) (K : Option Addr) (len c : Nat), Fm w0 w os ts → os[i]? = some (oWN wb mp N cap ns) → tN Any T ns ∈ ts → Good ns → Glob w0 → ns.length + 2 ≤ 10000000 →
  Calls Tryd.prog 102 #[.pointer (some ⟨wb, 0, none⟩), .agg (tmc k u nn s K len c).toArray] w fun e w' => ∃ ns' n A' S', e = .returned (.slice A' 1 1) ∧ Grown w0 os ts i wb mp ns 1 w' ns' [tI Any S' A' [n]] ∧ tmAt (grN ns') n = some (Tm.sec u)
set_option maxRecDepth 1000000 in
set_option maxHeartbeats 4000000 in
theorem sec_of (wb mp : Nat) (u : Int) (AD : AddC wb mp (Tm.sec u)) : SecC wb mp u := by
  intro w0 w os ts i N cap ns T k nn s K len c F hi hN HG Gl hc
  have HI := Lib.hid hi
  have hG := Lib.hid HG
  have HC : Hid (ns.length + 2 * (Tm.sec u).count ≤ 10000000) := Lib.hid (by simpa [Tm.sec, Tm.count, Tm.countAll] using hc)
  have FA := F.also (tN Any T ns) (keeps_tN _ _ _) (F.k _ (.inr hN)).2.1 fun g hg => ⟨_, hN, hg⟩
  clear hi HG hc hN F
  go_enter Tryd.func102, Tryd.ntmps102
  go_wp2_with (first
    | (with_reducible refine fm_box FA (o := ⟨some 3, .box 24 (.tmp 1), _, _, _, _⟩) rfl 24 (.tmp 1) rfl (tmc k u nn s K len c) rfl ?_; intro b1 w1 F1; clear FA)
    | (with_reducible refine fm_load1 F1 0 1 rfl (.int .i64 u) rfl (o := ⟨some 7, _, _, _, _, _⟩) rfl 3 (.tmp 6) rfl rfl (fun h => run_load1 Tryd.underlying3 rfl h) ?_)
    | (go_at_call 19; refine (secret_c u w1).mono ?_
       rintro e w2 ⟨c2, rfl, h2, m2⟩
       obtain ⟨S2, F2⟩ := F1.madeL (L := Any) m2 h2 (fun _ _ => trivial)
       clear h2 m2 F1)
    | (go_at_call 62; refine (AD w0 w2 _ _ (i + 1) N cap ns T _ c2 F2 (by simpa using HI.out) (F2.mem 1 rfl) hG.out (F2.mem 0 rfl) Gl HC.out).mono ?_
       rintro e w3 ⟨ns2, n2, rfl, ⟨N2, cap2, T2, F3, q1, q2, q3⟩, q4⟩
       replace F3 := F3.sub (os' := os.set i (oWN wb mp N2 cap2 ns2)) (ts' := tN Any T2 ns2 :: ts) (by simp) (fun y hy => by
         rcases List.mem_cons.1 hy with rfl | hy
         · exact List.mem_cons_self ..
         · simp [hy])
       replace q1 := Lib.hid q1
       replace q2 := Lib.hid q2
       replace q3 := Lib.hid q3
       replace q4 := Lib.hid q4
       clear F2)
    | (with_reducible refine fm_litI F3 (o := ⟨some 10, .buildSlice 80 1 #[(0, .tmp 9)], _, _, _, _⟩) rfl (.tmp 9) rfl n2 rfl ?_; intro b4 w4 F4; clear F3))
  go_ret
  have hO : OwnG fi 3 1 w4 (some ⟨b4, 0, none⟩) 1 [n2] := F4.o 0 rfl
  have F5 := (F4.freeze 0 rfl).also (tI Any (· ∈ blkOf (some ⟨b4, 0, none⟩)) (some ⟨b4, 0, none⟩) [n2]) (keeps_tI _ _ _ _) ⟨by rw [← fi_flat]; exact hO.cells, fun a ha _ => by rw [ha]; exact blk_of, fun _ _ => trivial⟩ fun g hg => ⟨_, List.mem_cons_self .., hg⟩
  have F6 := F5.sub (ts' := [tI Any (· ∈ blkOf (some ⟨b4, 0, none⟩)) (some ⟨b4, 0, none⟩) [n2]] ++ (tN Any T2 ns2 :: ts)) (List.Sublist.refl _) (fun y hy => by
    rcases List.mem_append.1 hy with hy | hy
    · simp only [List.mem_singleton] at hy
      subst hy
      exact List.mem_cons_self ..
    · exact List.mem_cons_of_mem _ (List.mem_cons_of_mem _ hy))
  refine ⟨ns2, n2, _, _, rfl, ⟨N2, cap2, T2, F6, q1.out, q2.out, ?_⟩, q4.out⟩
  have := q3.out
  rw [show (Tm.sec u).count = 1 by simp [Tm.sec, Tm.count, Tm.countAll]] at this
  exact this
end
section
open Go.RowKit Go.Shelf
set_option linter.unusedVariables false
set_option linter.unusedSimpArgs false
/-- A node's cells. -/
def n9 (c : List Value) (a b d e : Value) : List Value := c ++ [a, b, d, e]
abbrev nilS : Value := .slice none 0 0
theorem n9_len {c : List Value} (h : c.length = 5) (a b d e : Value) : (n9 c a b d e).length = 9 := by simp [n9, h]
theorem size111 : (Tryd.prog.info? 111).map (·.size) = some 9 := by kernel_rfl
theorem size80 : (Tryd.prog.info? 80).map (·.size) = some 1 := by kernel_rfl
set_option maxRecDepth 100000 in
theorem zero111 (w : World) : (zeroValue 111).run Tryd.prog w = .ok (.agg (n9 (tmc 0 0 0 ⟨#[]⟩ none 0 0) nilS nilS nilS nilS).toArray) w := by kernel_rfl
set_option maxRecDepth 100000 in
theorem run_b111 (k u n : Int) (s : ByteArray) (A B : Option Addr) (l c l2 c2 : Nat) (w : World) : (Instr.build 111 #[(0, .agg (tmc k u n s A l c).toArray), (3, .slice B l2 c2)]).run Tryd.prog w = .ok (.agg (n9 (tmc k u n s A l c) nilS nilS (.slice B l2 c2) nilS).toArray) w := by
  refine run_build w _ _ _ ?_
  kernel_rfl
section
variable {v : World} {o : Oper} {ρ : Operand → Value} {x y z : Operand}
theorem exec_b111 {k u n : Int} {s : ByteArray} {A B : Option Addr} {l c l2 c2 : Nat} (ho : o.op = .build 111 #[(0, x), (3, y)]) (hx : ρ x = .agg (tmc k u n s A l c).toArray) (hy : ρ y = .slice B l2 c2) : (execOp ρ o).run Tryd.prog v = .ok (.value (.agg (n9 (tmc k u n s A l c) nilS nilS (.slice B l2 c2) nilS).toArray)) v := by
  unfold execOp
  simp only [ho, List.map_toArray, List.map_cons, List.map_nil, hx, hy, Sem.run_bind, run_b111, Result.andThen, Sem.run_pure]
end
theorem results_cell9 {fn : Func} {p : Tmp} (h : fn.results = #[.cell p 111]) (tmps : Array Value) (w : World) (g : Nat) (cs : List Value) (hp : tmps.getD p undef = .pointer (some ⟨g, 0, none⟩)) (hc : Cells w (some ⟨g, 0, none⟩) cs) (h9 : cs.length = 9) :
    (results fn tmps).run Tryd.prog w = .ok (.agg cs.toArray) w := by
  have hp' : tmps[p]?.getD undef = .pointer (some ⟨g, 0, none⟩) := by simpa using hp
  simp [results, h, hp', asAddr, run_loads hc Tryd.underlying111 rfl (by rw [h9]; exact size111)]
section
variable {w0 w v : World} {os ts : List Th}
variable {ops : Array Oper} {rest : List Oper} {o : Oper} {a : Act} {Q : Exit → Act → World → Prop}
theorem fm_load9 (F : Fm w0 w os ts) (i : Nat) {b : Nat} {cs : List Value} (hi : os[i]? = some (oB b 111 cs)) (hgd : o.guard = none) (x : Operand) (ho : o.op = .load 111 x) (hx : a.eval x = .pointer (some ⟨b, 0, none⟩)) (h9 : cs.length = 9)
    (h : wpList Tryd.prog ops Q rest (a.put o.dst (.agg cs.toArray)) w) : wpList Tryd.prog ops Q (o :: rest) a w :=
  wpList_loads hgd 111 x ho b 0 cs hx (Cells.of_holds (F.blk i hi)) _ Tryd.underlying111 rfl (by rw [h9]; exact size111) _ rfl h
theorem fm_store9 (F : Fm w0 w os ts) (i : Nat) {b : Nat} {old : List Value} (hi : os[i]? = some (oB b 111 old)) (hgd : o.guard = none) (x y : Operand) (ho : o.op = .store 111 x y) (hdst : o.dst = none) (cs : List Value) (hx : a.eval x = .pointer (some ⟨b, 0, none⟩)) (hy : a.eval y = .agg cs.toArray)
    (h5 : cs.length = 9) (ho5 : old.length = 9) (h1 : ∀ v ∈ cs, v.oneCell' = true)
    (h : ∀ v, Fm w0 v (os.set i (oB b 111 cs)) ts → wpList Tryd.prog ops Q rest a v) : wpList Tryd.prog ops Q (o :: rest) a w :=
  wpList_storesAll hgd 111 x y ho hdst b cs hx _ hy rfl 111 old (F.blk i hi) (by omega) h1 (by rw [h5]; exact size111) fun v hv m z => h v (F.turn m i hi (fun g hg => List.mem_singleton.1 hg) _ (keeps_oB _ _ _) hv fun g hg => ⟨.inl hg, by have : g = b := hg; have := hv.lt; omega⟩)
/-- One cell of a block of the call's own set. -/
theorem Fm.setc (F : Fm w0 w os ts) (i : Nat) {b : Nat} {t : TypeId} {cs : List Value} (hi : os[i]? = some (oB b t cs)) (k : Nat) (u : Value) : Fm w0 (w.setCell ⟨b, k, none⟩ u) (os.set i (oB b t (cs.set k u))) ts := by
  have hh := (F.blk i hi).set k u
  exact F.turn (Mod.setCell (ms := [b]) w (by simp) u) i hi (fun g hg => List.mem_singleton.1 hg) _ (keeps_oB _ _ _) hh fun g hg => ⟨.inl hg, by have : g = b := hg; have := hh.lt; omega⟩
theorem fm_store1 (F : Fm w0 w os ts) (i k : Nat) {b : Nat} {t : TypeId} {cs : List Value} (hi : os[i]? = some (oB b t cs)) (hk : k < cs.length) (ty : TypeId) (u : Value) (h1 : u.oneCell' = true) (hs : (Tryd.prog.info? ty).map (·.size) = some 1) (hgd : o.guard = none) (x y : Operand) (ho : o.op = .store ty x y) (hdst : o.dst = none) (hx : a.eval x = .pointer (some ⟨b, k, none⟩)) (hy : a.eval y = u)
    (h : ∀ v, Fm w0 v (os.set i (oB b t (cs.set k u))) ts → wpList Tryd.prog ops Q rest a v) : wpList Tryd.prog ops Q (o :: rest) a w :=
  wpList_store1 hgd ty x y ho hdst ⟨b, k, none⟩ hx u cs[k] hy h1 hs (by rw [(F.blk i hi).cell, List.getElem?_eq_getElem hk]) ((F.blk i hi).free k) (h _ (F.setc i hi k u))
end
/-- How many may come where a term is laid: its user's secret. -/
def lk (t : Tm) : Nat := if t.kind = 7 ∨ t.kind = 8 then 1 else 0
/-- What laid answers: a node that nothing is told of waking. -/
def LaidC (wb mp : Nat) (t : Tm) : Prop := ∀ (w0 w : World) (os ts : List Th) (i : Nat) (N : Option Addr) (cap : Nat) (ns : List NdC) (T S SK : Nat → Prop) (c : List Value) (K : Option Addr) (len cK : Nat) (kids : List Nat), Fm w0 w os ts → os[i]? = some (oWN wb mp N cap ns) → tN Any T ns ∈ ts → Good ns → tT Any S t c ∈ ts → tI Any SK K kids ∈ ts → t.ok = true → len = kids.length → len ≤ cK → numOf (grN ns) kids t.kids → Glob w0 → ns.length + 2 ≤ 10000000 →
  Calls Tryd.prog 83 #[.pointer (some ⟨wb, 0, none⟩), .agg c.toArray, .slice K len cK] w fun e w' => ∃ ns' x T', e = .returned (.agg (ndv x).toArray) ∧ Grown w0 os ts i wb mp ns (lk t) w' ns' [tN Any T' [x]] ∧ x.t = t ∧ x.c = c ∧ x.kids = kids ∧ x.wakes = (none, 0, []) ∧ numOf (grN ns') x.needs.2.2 (Tm.needs t) ∧ numOf (grN ns') x.keys.2.2 (Tm.keysT t) ∧ numOf (grN ns') x.ins.2.2 (Tm.inside t) ∧ ((∀ i, tmAt (grN ns) i ≠ some t) → ∀ i, tmAt (grN ns') i ≠ some t)
theorem Few.fresh {ns ns2 : List NdC} {t : Tm} (h : Few ns ns2 1) (h2 : 2 ≤ t.count) (hf : ∀ i, tmAt (grN ns) i ≠ some t) (i : Nat) : tmAt (grN ns2) i ≠ some t := fun e => by
  rcases h.2 i t e with ⟨j, hj⟩ | hc
  · exact hf j hj
  · omega
theorem two_count {k u n : Int} {s : ByteArray} {l : List Tm} (hok : (Tm.mk k u n s l).ok = true) (h : k = 7 ∨ k = 8) : 2 ≤ (Tm.mk k u n s l).count := by
  have hl := ok_len hok
  rw [show (Tm.mk k u n s l).kids = l from rfl, show Tm.nk (Tm.mk k u n s l).kind = 1 by rcases h with rfl | rfl <;> rfl] at hl
  match l, hl with
  | [x], _ =>
    obtain ⟨a, b, c, d, e⟩ := x
    rw [Tm.count, Tm.countAll, Tm.count]
    omega
theorem RwIn.none (w : World) (T : Nat → Prop) : RwIn w T (none, 0, []) := ⟨Cells.nil _ _, fun a h => by cases h⟩
end
end Go.Proofs.YtchanildogjhgaaDoor

