/-
  My own texts Wca Wfi Wfj Wfk Wwk, one behind the other.
-/
import Derived.Test.YtcoedhemlghjoaaDoorBu
import Derived.Test.YtcoedhemlghjoaaDoorBr
namespace Go.Proofs.YtcoedhemlghjoaaDoor
section
open Go.RowKit
structure Calm (S : St) : Prop where
  dead : S.dead = false
  armed : S.armed < 0
  failing : S.failing < 0
theorem Calm.ask {S : St} (h : Calm S) (l : Bool) : S.ask true l = (0, { S with ops := S.ops + 1 }) := by
  unfold St.ask
  have h1 : ¬ S.failing = 0 := by have := h.failing; omega
  have h2 : ¬ S.armed = 0 := by have := h.armed; omega
  have h3 : down S.failing = S.failing := by unfold down; rw [if_pos h.failing]
  have h4 : down S.armed = S.armed := by unfold down; rw [if_pos h.armed]
  rw [h.dead]
  simp only [Bool.false_eq_true, if_false, Bool.not_true, if_neg h1, h2, decide_false, Bool.and_false, h3, h4, ite_self]
theorem St.has_of {S : St} {i : Int} (h : 0 ≤ i ∧ i < S.n) : S.has i = true := by unfold St.has; simp [h]
theorem Calm.write {S : St} (h : Calm S) (i : Int) (b : Blk) (hi : 0 ≤ i ∧ i < S.n) : S.write i b = (0, { S with ops := S.ops + 1, loose := S.loose ++ [(i, b)] }) := by
  unfold St.write
  simp only
  rw [St.has_of hi, h.ask]
  simp
theorem Calm.sync {S : St} (h : Calm S) : S.sync = (0, { S with ops := S.ops + 1, loose := [], firm := app S.firm S.loose }) := by
  unfold St.sync
  simp only
  rw [h.ask]
  simp
theorem Calm.read {S : St} (h : Calm S) (i : Int) (hi : 0 ≤ i ∧ i < S.n) : S.read i = (S.holds i, 0, { S with ops := S.ops + 1 }) := by
  unfold St.read
  simp only
  rw [St.has_of hi, h.ask]
  simp [St.holds]
/-- What stands where blocks were written from z on. -/
def put (f : Int → Blk) (z : Int) (bs : List Blk) : Int → Blk := fun k => if z ≤ k then (bs[(k - z).toNat]?).getD (f k) else f k
theorem put_nil (f : Int → Blk) (z : Int) : put f z [] = f := by funext k; simp [put]
theorem put_cons (f : Int → Blk) (z : Int) (b : Blk) (bs : List Blk) : put (fun k => if k = z then b else f k) (z + 1) bs = put f z (b :: bs) := by
  funext k
  unfold put
  show (if z + 1 ≤ k then (bs[(k - (z + 1)).toNat]?).getD (if k = z then b else f k) else (if k = z then b else f k)) = if z ≤ k then ((b :: bs)[(k - z).toNat]?).getD (f k) else f k
  by_cases h1 : z + 1 ≤ k
  · rw [if_pos h1, if_pos (show z ≤ k by omega), if_neg (show ¬ k = z by omega)]
    rw [show (k - z).toNat = (k - (z + 1)).toNat + 1 by omega, List.getElem?_cons_succ]
  · rw [if_neg h1]
    by_cases h2 : k = z
    · subst h2
      rw [if_pos rfl, if_pos (by omega)]
      simp
    · rw [if_neg h2, if_neg (by omega)]
theorem put_out (f : Int → Blk) (z : Int) (bs : List Blk) (k : Int) (h : k < z ∨ z + bs.length ≤ k) : put f z bs k = f k := by
  unfold put
  split
  · rw [List.getElem?_eq_none (by omega)]
    rfl
  · rfl
theorem put_in (f : Int → Blk) (z : Int) (bs : List Blk) (j : Nat) (h : j < bs.length) : put f z bs (z + j) = bs[j] := by
  unfold put
  rw [if_pos (by omega), show (z + (j : Int) - z).toNat = j by omega, List.getElem?_eq_getElem h]
  rfl
/-- How a disk stands behind something: calm, as large, so much more done. -/
structure Then (S T : St) (k : Nat) : Prop where
  calm : Calm T
  n : T.n = S.n
  ops : T.ops ≤ S.ops + k
theorem Then.trans {S T U : St} {k j : Nat} (h : Then S T k) (h' : Then T U j) : Then S U (k + j) := ⟨h'.calm, h'.n.trans h.n, by have := h.ops; have := h'.ops; omega⟩
theorem Calm.writes : ∀ (bs : List Blk) (S : St), Calm S → ∀ z : Int, 0 ≤ z → z + bs.length ≤ S.n → ∃ T, S.writes z bs = (0, T) ∧ Then S T bs.length ∧ T.holds = put S.holds z bs := by
  intro bs
  induction bs with
  | nil => intro S h z _ _; exact ⟨S, rfl, ⟨h, rfl, Nat.le_refl _⟩, (put_nil _ _).symm⟩
  | cons b bs ih =>
    intro S h z hz hn
    simp only [List.length_cons] at hn ⊢
    have hw := h.write z b ⟨hz, by omega⟩
    have hc : Calm { S with ops := S.ops + 1, loose := S.loose ++ [(z, b)] } := ⟨h.dead, h.armed, h.failing⟩
    obtain ⟨T, h1, h2, h3⟩ := ih _ hc (z + 1) (by omega) (by show _ ≤ (S.n : Int); omega)
    refine ⟨T, ?_, ⟨h2.calm, h2.n, by have := h2.ops; simp at this; omega⟩, ?_⟩
    · unfold St.writes
      rw [hw, if_pos rfl]
      exact h1
    · rw [h3, ← put_cons]
      congr 1
      funext k
      unfold St.holds
      rw [app_snoc]
theorem Calm.sync' {S : St} (h : Calm S) : ∃ T, S.sync = (0, T) ∧ Then S T 1 ∧ T.holds = S.holds ∧ T.loose = [] := ⟨_, h.sync, ⟨⟨h.dead, h.armed, h.failing⟩, rfl, Nat.le_refl _⟩, rfl, rfl⟩
theorem Calm.add {S : St} (h : Calm S) (z : Int) (bs : List Blk) (hz : 0 ≤ z) (hn : z + bs.length ≤ S.n) : ∃ T, S.add z bs = (0, T) ∧ Then S T (bs.length + 1) ∧ T.holds = put S.holds z bs ∧ T.loose = [] := by
  obtain ⟨T, h1, h2, h3⟩ := Calm.writes bs S h z hz hn
  obtain ⟨U, g1, g2, g3, g4⟩ := h2.calm.sync'
  refine ⟨U, ?_, h2.trans g2, g3.trans h3, g4⟩
  unfold St.add
  rw [h1, if_pos rfl]
  exact g1
theorem Calm.wipes : ∀ (l : List Int) (S : St), Calm S → (∀ i ∈ l, 0 ≤ i ∧ i < S.n) → ∃ T, S.wipes l = (0, T) ∧ Then S T (l.length + 1) ∧ T.holds = (fun k => if k ∈ l then fil 0 else S.holds k) ∧ T.loose = [] := by
  intro l
  induction l with
  | nil =>
    intro S h _
    obtain ⟨T, h1, h2, h3, h4⟩ := h.sync'
    exact ⟨T, h1, h2, by rw [h3]; funext k; simp, h4⟩
  | cons i l ih =>
    intro S h hl
    have hw := h.write i (fil 0) (hl i (by simp))
    have hc : Calm { S with ops := S.ops + 1, loose := S.loose ++ [(i, fil 0)] } := ⟨h.dead, h.armed, h.failing⟩
    obtain ⟨T, h1, h2, h3, h4⟩ := ih _ hc (fun j hj => hl j (by simp [hj]))
    refine ⟨T, ?_, ⟨h2.calm, h2.n, by have := h2.ops; simp at this ⊢; omega⟩, ?_, h4⟩
    · unfold St.wipes
      rw [hw, if_pos rfl]
      exact h1
    · rw [h3]
      funext k
      have : St.holds { S with ops := S.ops + 1, loose := S.loose ++ [(i, fil 0)] } k = if k = i then fil 0 else S.holds k := by unfold St.holds; rw [app_snoc]
      rw [this]
      by_cases h1 : k ∈ l
      · rw [if_pos h1, if_pos (by simp [h1])]
      · rw [if_neg h1]
        by_cases h2 : k = i
        · rw [if_pos h2, if_pos (by simp [h2])]
        · rw [if_neg h2, if_neg (by simp [h1, h2])]
theorem Calm.reads {S : St} (h : Calm S) (z : Int) (hz : 0 ≤ z) : ∀ n : Nat, z + n ≤ S.n → S.reads z n = ((List.range n).map (fun k : Nat => S.holds (z + (k : Int))), 0, { S with ops := S.ops + n }) := by
  intro n
  induction n with
  | zero => intro _; rfl
  | succ n ih =>
    intro hn
    unfold St.reads
    have hc : Calm { S with ops := S.ops + n } := ⟨h.dead, h.armed, h.failing⟩
    rw [ih (by omega), if_pos rfl, hc.read (z + n) ⟨by omega, by show _ < (S.n : Int); omega⟩, if_pos rfl]
    rw [List.range_succ, List.map_append]
    rfl
theorem Calm.layN {S : St} (h : Calm S) (z p : Int) (bs : List Blk) (tb : Blk) (hz : 0 ≤ z) (hn : z + bs.length ≤ S.n) (hp : 0 ≤ p ∧ p < S.n) :
    ∃ T, S.layN z p bs tb 4 = (0, T) ∧ Then S T (bs.length + 3) ∧ T.holds = (fun k => if k = p then tb else put S.holds z bs k) ∧ T.loose = [] := by
  obtain ⟨T1, a1, a2, a3⟩ := Calm.writes bs S h z hz hn
  obtain ⟨T2, b1, b2, b3, b4⟩ := a2.calm.sync'
  have hw := b2.calm.write p tb ⟨hp.1, by rw [b2.n, a2.n]; exact hp.2⟩
  have hc : Calm { T2 with ops := T2.ops + 1, loose := T2.loose ++ [(p, tb)] } := ⟨b2.calm.dead, b2.calm.armed, b2.calm.failing⟩
  obtain ⟨T4, d1, d2, d3, d4⟩ := hc.sync'
  refine ⟨T4, ?_, ⟨d2.calm, d2.n.trans (b2.n.trans a2.n), ?_⟩, ?_, d4⟩
  · rw [St.layN, show S.stepJ z p bs tb (3 - 3) = S.writes z bs from rfl, a1, if_pos rfl]
    show T1.layN z p bs tb 3 = _
    rw [St.layN, show T1.stepJ z p bs tb (3 - 2) = T1.sync from rfl, b1, if_pos rfl]
    show T2.layN z p bs tb 2 = _
    rw [St.layN, show T2.stepJ z p bs tb (3 - 1) = T2.write p tb from rfl, hw, if_pos rfl]
    show St.layN { T2 with ops := T2.ops + 1, loose := T2.loose ++ [(p, tb)] } z p bs tb 1 = _
    rw [St.layN, show St.stepJ { T2 with ops := T2.ops + 1, loose := T2.loose ++ [(p, tb)] } z p bs tb (3 - 0) = St.sync { T2 with ops := T2.ops + 1, loose := T2.loose ++ [(p, tb)] } from rfl, d1, if_pos rfl]
    rfl
  · have := d2.ops; have := b2.ops; have := a2.ops; simp at *; omega
  · rw [d3]
    funext k
    have : St.holds { T2 with ops := T2.ops + 1, loose := T2.loose ++ [(p, tb)] } k = if k = p then tb else T2.holds k := by unfold St.holds; rw [app_snoc]
    rw [this, b3, a3]
end
section
open Go.RowKit
theorem leaf_area (c s : List UInt32) (t n : Nat) (e : List UInt8) (k : Nat) (hs : s.length = 8) (ht : t < 4294967296) : areaB (leafB c s t n e k) = t := by
  unfold areaB
  rw [leafB_val c s t n e k hs]
  unfold pad60 leafL
  simp only [List.append_assoc]
  rw [List.take_append_of_le_length (by rw [hi_length]; exact Nat.le_refl _), List.take_of_length_le (by rw [hi_length]; exact Nat.le_refl _), obe_hi]
  omega
theorem leaf_turn (c s : List UInt32) (t n : Nat) (e : List UInt8) (k : Nat) (hs : s.length = 8) (hn : n < 4294967296) : turnB (leafB c s t n e k) = n := by
  unfold turnB
  rw [drop_at _ 4, leafB_val c s t n e k hs]
  unfold pad60 leafL
  simp only [List.append_assoc]
  rw [List.drop_append_of_le_length (by rw [hi_length]; exact Nat.le_refl _), List.drop_of_length_le (by rw [hi_length]; exact Nat.le_refl _), List.nil_append, List.take_append_of_le_length (by rw [hi_length]; exact Nat.le_refl _), List.take_of_length_le (by rw [hi_length]; exact Nat.le_refl _), obe_hi]
  omega
theorem leaves_claim (c s : List UInt32) (t n : Nat) (e : List UInt8) (hs : s.length = 8) (ht : t < 4294967296) (hn : n < 4294967296) : ∀ x ∈ leavesB c s t n e, areaB x = t ∧ turnB x = n := by
  intro x hx
  unfold leavesB at hx
  obtain ⟨k, -, rfl⟩ := List.mem_map.1 hx
  exact ⟨leaf_area c s t n e k hs ht, leaf_turn c s t n e k hs hn⟩
theorem nought_claim : areaB (fil 0) = 0 ∧ turnB (fil 0) = 0 := by decide
/-- The leaves of entries, one behind the other, from that number on. -/
def fieldB (c s : List UInt32) (t : Nat) : Nat → List (List UInt8) → List Blk
  | _, [] => []
  | n, x :: xs => leavesB c s t n x ++ fieldB c s t (n + 1) xs
def fillsA (l : List (List UInt8)) : Nat := (l.map fun x => fills x.length).sum
theorem fieldB_length (c s : List UInt32) (t : Nat) : ∀ (l : List (List UInt8)) (n : Nat), (fieldB c s t n l).length = fillsA l := by
  intro l
  induction l with
  | nil => intro n; rfl
  | cons x xs ih =>
    intro n
    unfold fieldB fillsA
    rw [List.length_append, leavesB_length, ih]
    simp [fillsA]
theorem fieldB_snoc (c s : List UInt32) (t : Nat) (y : List UInt8) : ∀ (l : List (List UInt8)) (n : Nat), fieldB c s t n (l ++ [y]) = fieldB c s t n l ++ leavesB c s t (n + l.length) y := by
  intro l
  induction l with
  | nil => intro n; simp [fieldB]
  | cons x xs ih =>
    intro n
    simp only [List.cons_append, fieldB]
    rw [ih, List.append_assoc, List.length_cons, show n + 1 + xs.length = n + (xs.length + 1) by omega]
theorem fillsA_snoc (l : List (List UInt8)) (y : List UInt8) : fillsA (l ++ [y]) = fillsA l + fills y.length := by simp [fillsA]
/-- Entries that stand one behind the other are found. -/
theorem said_field (c s : List UInt32) (t : Nat) (F : List Blk) (hs : s.length = 8) : ∀ (l : List (List UInt8)) (ents : List (List UInt8)) (e fuel : Nat), (∀ x ∈ l, x.length ≤ 40000) → (F.drop e).take (fillsA l) = fieldB c s t ents.length l → F.length - e ≤ fuel →
    standsB c s t (ents ++ l).length F (e + fillsA l) = none → saidN c s t F fuel ents e = (ents ++ l, e + fillsA l) := by
  intro l
  induction l with
  | nil =>
    intro ents e fuel _ _ _ h
    simp only [List.append_nil] at h ⊢
    exact saidN_none c s t F ents e h fuel
  | cons x xs ih =>
    intro ents e fuel hl h hf hn
    have hA : fillsA (x :: xs) = fills x.length + fillsA xs := by simp [fillsA]
    have h1 : (F.drop e).take (fills x.length) = leavesB c s t ents.length x := by
      have := congrArg (List.take (fills x.length)) h
      rw [List.take_take, Nat.min_eq_left (by rw [hA]; omega), fieldB, List.take_append_of_le_length (by rw [leavesB_length]; exact Nat.le_refl _), List.take_of_length_le (l := leavesB c s t ents.length x) (by rw [leavesB_length]; exact Nat.le_refl _)] at this
      exact this
    have h2 : (F.drop (e + fills x.length)).take (fillsA xs) = fieldB c s t (ents ++ [x]).length xs := by
      have := congrArg (List.drop (fills x.length)) h
      rw [hA, List.drop_take, Nat.add_sub_cancel_left, List.drop_drop, fieldB, List.drop_left' (leavesB_length c s t ents.length x)] at this
      rw [this, List.length_append]
      rfl
    have hst := stands_leaves c s t ents.length F e x hs (hl x (by simp)) h1
    have hp := (standsB_some hst).2.2
    rw [saidN_some c s t F ents e x hst fuel hf, ih (ents ++ [x]) (e + fills x.length) (fuel - 1) (fun y hy => hl y (by simp [hy])) h2 (by omega) (by rw [List.append_assoc, Nat.add_assoc, ← hA]; exact hn), List.append_assoc, Nat.add_assoc, ← hA]
    rfl
/-- How a disk stands that a log goes by: f tells what its n sectors hold. -/
structure Fine (c s : List UInt32) (L : Lo) (n : Nat) (f : Int → Blk) : Prop where
  hs : s.length = 8
  room : 2 + 2 * L.a ≤ n
  a : 4 ≤ L.a ∧ L.a ≤ 1000
  t : L.t < 4294967296
  x : ∀ x ∈ L.x0 :: L.xs, x.length ≤ 40000
  e : L.e = fillsA (L.x0 :: L.xs)
  le : L.e ≤ L.a
  ttl : f ((L.t % 2 : Nat) : Int) = titleB c s L.t L.a
  oth : ¬ okT c s n ((L.t + 1) % 2) (f (((L.t + 1) % 2 : Nat) : Int)) ∨ turnB (f (((L.t + 1) % 2 : Nat) : Int)) < L.t
  fld : ∀ k, k < L.e → (fieldB c s L.t 0 (L.x0 :: L.xs))[k]? = some (f ((2 + L.t % 2 * L.a + k : Nat) : Int))
  cln : ∀ k, L.e ≤ k → k < L.a → ¬ (areaB (f ((2 + L.t % 2 * L.a + k : Nat) : Int)) = L.t ∧ 1 + L.xs.length ≤ turnB (f ((2 + L.t % 2 * L.a + k : Nat) : Int)))
  fut : ∀ k : Nat, 2 ≤ k → k < 2 + 2 * L.a → ¬ (L.t < areaB (f (k : Int)) ∧ 1 ≤ turnB (f (k : Int)))
theorem fillsA_long : ∀ (l : List (List UInt8)), (∀ x ∈ l, x.length ≤ 40000) → l.length ≤ fillsA l := by
  intro l
  induction l with
  | nil => intro _; exact Nat.le_refl _
  | cons x xs ih =>
    intro h
    have h1 := ih (fun y hy => h y (by simp [hy]))
    have h2 := fills_pos x.length (h x (by simp))
    simp only [fillsA, List.map_cons, List.sum_cons, List.length_cons] at *
    omega
theorem Fine.long {c s : List UInt32} {L : Lo} {n : Nat} {f : Int → Blk} (h : Fine c s L n f) : L.xs.length + 1 ≤ L.e := by
  have := fillsA_long _ h.x
  rw [h.e]
  simpa using this
theorem field_in (L : Lo) : 2 ≤ 2 + L.t % 2 * L.a ∧ 2 + L.t % 2 * L.a + L.a ≤ 2 + 2 * L.a := by
  have h1 : L.t % 2 ≤ 1 := by omega
  have h2 : L.t % 2 * L.a ≤ 1 * L.a := Nat.mul_le_mul_right L.a h1
  omega
/-- What a disk holds in the field of a log. -/
def fieldF (L : Lo) (f : Int → Blk) : List Blk := (List.range L.a).map (fun k : Nat => f (((2 + L.t % 2 * L.a : Nat) : Int) + (k : Int)))
theorem fieldF_length (L : Lo) (f : Int → Blk) : (fieldF L f).length = L.a := by simp [fieldF]
theorem fieldF_at (L : Lo) (f : Int → Blk) (k : Nat) (h : k < L.a) : (fieldF L f)[k]? = some (f ((2 + L.t % 2 * L.a + k : Nat) : Int)) := by
  unfold fieldF
  rw [List.getElem?_map, List.getElem?_range h]
  simp
/-- Where no leaf claims to be, no entry stands. -/
theorem stands_none {c s : List UInt32} {t num : Nat} {F : List Blk} {e : Nat} (hs : s.length = 8) (ht : t < 4294967296) (hn : num < 4294967296) (h : ∀ x, F[e]? = some x → ¬ (areaB x = t ∧ num ≤ turnB x)) : standsB c s t num F e = none := by
  cases hst : standsB c s t num F e with
  | none => rfl
  | some x =>
    exfalso
    obtain ⟨h1, h2, h3, h4, h5⟩ := standsB_some hst
    have h0 : F[e]? = (leavesB c s t num x)[0]? := by
      rw [h5, List.getElem?_take_of_lt (by omega), List.getElem?_drop, Nat.add_zero]
    have hm : F[e] ∈ leavesB c s t num x := by
      rw [List.getElem?_eq_getElem h1] at h0
      exact List.mem_of_getElem? h0.symm
    have := leaves_claim c s t num x hs ht hn _ hm
    exact h _ (List.getElem?_eq_getElem h1) ⟨this.1, by omega⟩
theorem Fine.said {c s : List UInt32} {L : Lo} {n : Nat} {f : Int → Blk} (h : Fine c s L n f) : saidB c s L.t (fieldF L f) = (L.x0 :: L.xs, L.e) := by
  have hl := h.long
  have := said_field c s L.t (fieldF L f) h.hs (L.x0 :: L.xs) [] 0 (fieldF L f).length h.x (by
    rw [List.drop_zero, ← h.e]
    apply List.ext_getElem?
    intro k
    by_cases hk : k < L.e
    · rw [List.getElem?_take_of_lt hk, fieldF_at L f k (by have := h.le; omega)]
      exact (h.fld k hk).symm
    · rw [List.getElem?_eq_none (by rw [List.length_take]; omega), List.getElem?_eq_none (by rw [fieldB_length, ← h.e]; omega)]) (by omega) (by
    rw [Nat.zero_add, ← h.e]
    refine stands_none h.hs h.t (by have := h.le; have := h.a; simp; omega) (fun x hx => ?_)
    by_cases hk : L.e < L.a
    · rw [fieldF_at L f L.e hk] at hx
      cases hx
      have := h.cln L.e (Nat.le_refl _) hk
      intro q
      exact this ⟨q.1, Nat.le_trans (by simp; omega) q.2⟩
    · rw [List.getElem?_eq_none (by rw [fieldF_length]; omega)] at hx
      cases hx)
  unfold saidB
  rw [this, Nat.zero_add, ← h.e]
  rfl
theorem Fine.pick {c s : List UInt32} {L : Lo} {n : Nat} {f : Int → Blk} (h : Fine c s L n f) : pickT c s n [f 0, f 1] 2 = some (L.t, L.a) := by
  have hok : okT c s n (L.t % 2) (titleB c s L.t L.a) := okT_title c s n _ L.t L.a h.hs h.t ⟨h.a.1, h.a.2, h.room⟩ rfl
  have h1 := turnB_title c s L.t L.a h.hs h.t
  have h2 := areaB_title c s L.t L.a h.hs (by have := h.a; omega)
  have e1 : pickT c s n [f 0, f 1] 2 = stepT c s n 1 (stepT c s n 0 none (f 0)) (f 1) := by
    rw [pickT_succ c s n _ 1 (by simp), pickT_succ c s n _ 0 (by simp)]
    rfl
  have ht := h.ttl
  have ho := h.oth
  rw [e1]
  rcases Nat.mod_two_eq_zero_or_one L.t with q | q
  · rw [q] at ht hok
    rw [show (L.t + 1) % 2 = 1 by omega] at ho
    have ht' : f 0 = titleB c s L.t L.a := ht
    have ho' : ¬ okT c s n 1 (f 1) ∨ turnB (f 1) < L.t := ho
    have s0 : stepT c s n 0 none (f 0) = some (L.t, L.a) := by
      unfold stepT
      rw [ht', if_pos hok, h1, h2]
      rfl
    rw [s0]
    unfold stepT
    split
    · rename_i hk
      rcases ho' with g | g
      · exact absurd hk g
      · unfold bestT
        simp only
        rw [if_neg (by omega)]
    · rfl
  · rw [q] at ht hok
    rw [show (L.t + 1) % 2 = 0 by omega] at ho
    have ht' : f 1 = titleB c s L.t L.a := ht
    have ho' : ¬ okT c s n 0 (f 0) ∨ turnB (f 0) < L.t := ho
    unfold stepT
    rw [ht', if_pos hok, h1, h2]
    split
    · rename_i hk
      rcases ho' with g | g
      · exact absurd hk g
      · unfold bestT
        simp only
        rw [if_pos g]
    · rfl
end
section
open Go.RowKit
section
variable {c s : List UInt32} {S : St}
theorem Calm.format (h : Calm S) (hs : s.length = 8) (a : Nat) (ha : 4 ≤ a ∧ a ≤ 1000) (hn : 2 + 2 * a ≤ S.n) : ∃ T, S.format c s (a : Int) = (0, T) ∧ Then S T (2 * a + 8) ∧ T.loose = [] ∧ Fine c s (Lo.made a) S.n T.holds := by
  obtain ⟨l, hl⟩ : ∃ l, l = (List.range (2 + 2 * a)).map (fun j => ((0 + j : Nat) : Int)) := ⟨_, rfl⟩
  have hll : l.length = 2 + 2 * a := by rw [hl]; simp
  have hmem : ∀ k : Int, k ∈ l ↔ 0 ≤ k ∧ k < 2 + 2 * a := by
    intro k
    rw [hl]
    simp only [List.mem_map, List.mem_range]
    constructor
    · rintro ⟨j, hj, rfl⟩
      omega
    · rintro ⟨h1, h2⟩
      exact ⟨k.toNat, by omega, by omega⟩
  obtain ⟨T, a1, a2, a3, a4⟩ := Calm.wipes l S h (fun i hi => by have := (hmem i).1 hi; omega)
  have hlv : (leavesB c s 0 0 []).length = 1 := by rw [leavesB_length]; rfl
  have hlv1 : leavesB c s 0 0 [] = [leafB c s 0 0 [] 0] := by
    unfold leavesB
    rw [show fills ([] : List UInt8).length = 1 from rfl]
    rfl
  obtain ⟨U, b1, b2, b3, b4⟩ := a2.calm.layN 2 0 (leavesB c s 0 0 []) (titleB c s 0 a) (by omega) (by rw [hlv, a2.n]; omega) ⟨by omega, by rw [a2.n]; omega⟩
  refine ⟨U, ?_, ⟨b2.calm, b2.n.trans a2.n, ?_⟩, b4, ?_⟩
  · rw [format_yes c s S a ⟨by omega, by omega, by omega⟩, ← hl, a1, if_pos rfl]
    exact b1
  · have := b2.ops; have := a2.ops; rw [hlv] at *; omega
  · have hU : ∀ k : Int, 0 ≤ k → k < 2 + 2 * a → U.holds k = if k = 0 then titleB c s 0 a else if k = 2 then leafB c s 0 0 [] 0 else fil 0 := by
      intro k h1 h2
      rw [b3]
      simp only
      by_cases k0 : k = 0
      · rw [if_pos k0, if_pos k0]
      · rw [if_neg k0, if_neg k0]
        by_cases k2 : k = 2
        · rw [if_pos k2, k2]
          rw [hlv1]
          unfold put
          simp
        · rw [if_neg k2, put_out _ _ _ _ (by omega), a3]
          simp only
          rw [if_pos ((hmem k).2 ⟨h1, h2⟩)]
    have hz : fillsA [([] : List UInt8)] = 1 := rfl
    refine ⟨hs, hn, ha, by show 0 < 4294967296; decide, ?_, hz.symm, by show 1 ≤ a; omega, ?_, ?_, ?_, ?_, ?_⟩
    · intro x hx
      have : x = [] := by simpa [Lo.made] using hx
      rw [this]
      decide
    · exact (hU 0 (by omega) (by omega)).trans (if_pos rfl)
    · left
      have : U.holds ((((Lo.made a).t + 1) % 2 : Nat) : Int) = fil 0 := (hU 1 (by omega) (by omega)).trans (by rw [if_neg (by omega), if_neg (by omega)])
      rw [this]
      exact okT_nought c s _ _
    · intro k hk
      have k0 : k = 0 := by have : k < 1 := hk; omega
      subst k0
      have : U.holds ((2 + (Lo.made a).t % 2 * (Lo.made a).a + 0 : Nat) : Int) = leafB c s 0 0 [] 0 := by
        have e : ((2 + (Lo.made a).t % 2 * (Lo.made a).a + 0 : Nat) : Int) = 2 := by simp [Lo.made]
        rw [e]
        exact (hU 2 (by omega) (by omega)).trans (by rw [if_neg (by omega), if_pos rfl])
      rw [this]
      show (fieldB c s 0 0 [[]])[0]? = _
      simp only [fieldB, List.append_nil]
      rw [hlv1]
      rfl
    · intro k h1 h2
      have h1' : 1 ≤ k := h1
      have h2' : k < a := h2
      have e : ((2 + (Lo.made a).t % 2 * (Lo.made a).a + k : Nat) : Int) = 2 + (k : Int) := by simp [Lo.made]
      rw [e, hU _ (by omega) (by omega), if_neg (by omega), if_neg (by omega), nought_claim.2]
      intro q
      have := q.2
      simp [Lo.made] at this
    · intro k h1 h2
      have h2' : k < 2 + 2 * a := h2
      rw [hU _ (by omega) (by omega), if_neg (by omega)]
      split
      · rw [leaf_area c s 0 0 [] 0 hs (by decide)]
        intro q
        exact absurd q.1 (by simp [Lo.made])
      · rw [nought_claim.1]
        intro q
        exact absurd q.1 (by simp [Lo.made])
theorem fieldB_left (c s : List UInt32) (t : Nat) (l : List (List UInt8)) (y : List UInt8) (k : Nat) (h : k < fillsA l) : (fieldB c s t 0 (l ++ [y]))[k]? = (fieldB c s t 0 l)[k]? := by
  rw [fieldB_snoc, List.getElem?_append_left (by rw [fieldB_length]; exact h)]
theorem fieldB_right (c s : List UInt32) (t : Nat) (l : List (List UInt8)) (y : List UInt8) (k : Nat) (h : fillsA l ≤ k) : (fieldB c s t 0 (l ++ [y]))[k]? = (leavesB c s t l.length y)[k - fillsA l]? := by
  rw [fieldB_snoc, List.getElem?_append_right (by rw [fieldB_length]; exact h), fieldB_length, Nat.zero_add]
/-- An entry laid behind the last one. -/
theorem Fine.add {L : Lo} {n : Nat} {f : Int → Blk} (h : Fine c s L n f) (l : List UInt8) (hl : l.length ≤ 40000) (hfit : fills l.length ≤ L.a - L.e) : Fine c s { L with xs := L.xs ++ [l], e := L.e + fills l.length } n (put f ((2 + L.t % 2 * L.a + L.e : Nat) : Int) (leavesB c s L.t (1 + L.xs.length) l)) := by
  obtain ⟨z, hz⟩ : ∃ z, z = 2 + L.t % 2 * L.a := ⟨_, rfl⟩
  have hfi := field_in L
  have hle := h.le
  have hlong := h.long
  have ha := h.a
  rw [← hz] at hfi ⊢
  have hp := fills_pos _ hl
  have hlen : (leavesB c s L.t (1 + L.xs.length) l).length = fills l.length := leavesB_length _ _ _ _ _
  have hcl := leaves_claim c s L.t (1 + L.xs.length) l h.hs h.t (by omega)
  have hout : ∀ k : Nat, k < z + L.e ∨ z + L.e + fills l.length ≤ k → put f ((z + L.e : Nat) : Int) (leavesB c s L.t (1 + L.xs.length) l) (k : Int) = f k := fun k hk => put_out _ _ _ _ (by rw [hlen]; omega)
  have hin : ∀ k : Nat, z + L.e ≤ k → k < z + L.e + fills l.length → ∃ x, (leavesB c s L.t (1 + L.xs.length) l)[k - (z + L.e)]? = some x ∧ put f ((z + L.e : Nat) : Int) (leavesB c s L.t (1 + L.xs.length) l) (k : Int) = x := fun k h1 h2 => by
    refine ⟨_, List.getElem?_eq_getElem (by rw [hlen]; omega), ?_⟩
    have := put_in f ((z + L.e : Nat) : Int) (leavesB c s L.t (1 + L.xs.length) l) (k - (z + L.e)) (by rw [hlen]; omega)
    rw [show ((z + L.e : Nat) : Int) + ((k - (z + L.e) : Nat) : Int) = (k : Int) by omega] at this
    exact this
  refine ⟨h.hs, h.room, h.a, h.t, ?_, ?_, by show L.e + fills l.length ≤ L.a; omega, ?_, ?_, ?_, ?_, ?_⟩
  · intro x hx
    have hx' : x ∈ L.x0 :: (L.xs ++ [l]) := hx
    simp only [List.mem_cons, List.mem_append, List.not_mem_nil, or_false] at hx'
    rcases hx' with hx' | hx' | hx'
    · exact h.x x (by simp [hx'])
    · exact h.x x (by simp [hx'])
    · rw [hx']; exact hl
  · show L.e + fills l.length = fillsA (L.x0 :: (L.xs ++ [l]))
    rw [← List.cons_append, fillsA_snoc, h.e]
  · rw [hout _ (by omega)]
    exact h.ttl
  · rw [hout _ (by show (L.t + 1) % 2 < _ ∨ _; omega)]
    exact h.oth
  · intro k hk
    have hk' : k < L.e + fills l.length := hk
    show (fieldB c s L.t 0 (L.x0 :: (L.xs ++ [l])))[k]? = some (put f _ _ ((2 + L.t % 2 * L.a + k : Nat) : Int))
    rw [← hz, ← List.cons_append]
    by_cases h1 : k < L.e
    · rw [fieldB_left _ _ _ _ _ _ (by rw [← h.e]; exact h1), hout _ (by omega), h.fld k h1, ← hz]
    · obtain ⟨x, q1, q2⟩ := hin (z + k) (by omega) (by omega)
      rw [fieldB_right _ _ _ _ _ _ (by rw [← h.e]; omega), q2, ← h.e, ← q1, List.length_cons, show z + k - (z + L.e) = k - L.e by omega, Nat.add_comm 1]
  · intro k h1 h2
    have h1' : L.e + fills l.length ≤ k := h1
    have h2' : k < L.a := h2
    show ¬ (areaB (put f _ _ ((2 + L.t % 2 * L.a + k : Nat) : Int)) = L.t ∧ 1 + (L.xs ++ [l]).length ≤ turnB (put f _ _ ((2 + L.t % 2 * L.a + k : Nat) : Int)))
    rw [← hz, hout _ (by omega)]
    have := h.cln k (by omega) h2'
    rw [← hz] at this
    intro q
    exact this ⟨q.1, Nat.le_trans (by rw [List.length_append]; omega) q.2⟩
  · intro k h1 h2
    have h2' : k < 2 + 2 * L.a := h2
    show ¬ (L.t < areaB (put f _ _ (k : Int)) ∧ 1 ≤ turnB (put f _ _ (k : Int)))
    by_cases h3 : z + L.e ≤ k ∧ k < z + L.e + fills l.length
    · obtain ⟨x, q1, q2⟩ := hin k h3.1 h3.2
      rw [q2, (hcl x (List.mem_of_getElem? q1)).1]
      omega
    · rw [hout k (by omega)]
      exact h.fut k h1 h2'
/-- A new book, and its title. -/
theorem Fine.chk {L : Lo} {n : Nat} {f : Int → Blk} (h : Fine c s L n f) (l : List UInt8) (hl : l.length ≤ 40000) (hfit : fills l.length ≤ L.a) (hmax : L.t ≠ 4294967295) :
    Fine c s { t := L.t + 1, a := L.a, x0 := l, xs := [], e := fills l.length, br := false } n (fun k => if k = (((L.t + 1) % 2 : Nat) : Int) then titleB c s (L.t + 1) L.a else put f ((2 + (L.t + 1) % 2 * L.a : Nat) : Int) (leavesB c s (L.t + 1) 0 l) k) := by
  obtain ⟨z, hz⟩ : ∃ z, z = 2 + (L.t + 1) % 2 * L.a := ⟨_, rfl⟩
  have hfi := field_in { L with t := L.t + 1 }
  have ht := h.t
  have ha := h.a
  simp only at hfi
  rw [← hz] at hfi ⊢
  have hp := fills_pos _ hl
  have hlen : (leavesB c s (L.t + 1) 0 l).length = fills l.length := leavesB_length _ _ _ _ _
  have hcl := leaves_claim c s (L.t + 1) 0 l h.hs (by omega) (by decide)
  obtain ⟨F, hF⟩ : ∃ F : Int → Blk, F = (fun k => if k = (((L.t + 1) % 2 : Nat) : Int) then titleB c s (L.t + 1) L.a else put f (z : Int) (leavesB c s (L.t + 1) 0 l) k) := ⟨_, rfl⟩
  rw [← hF]
  have hF0 : F (((L.t + 1) % 2 : Nat) : Int) = titleB c s (L.t + 1) L.a := by rw [hF]; simp
  have hFout : ∀ k : Nat, k ≠ (L.t + 1) % 2 → (k < z ∨ z + fills l.length ≤ k) → F (k : Int) = f k := fun k hk hk2 => by
    rw [hF]
    simp only
    rw [if_neg (by omega), put_out _ _ _ _ (by rw [hlen]; omega)]
  have hFin : ∀ k : Nat, z ≤ k → k < z + fills l.length → ∃ x, (leavesB c s (L.t + 1) 0 l)[k - z]? = some x ∧ F (k : Int) = x := fun k h1 h2 => by
    refine ⟨_, List.getElem?_eq_getElem (by rw [hlen]; omega), ?_⟩
    rw [hF]
    simp only
    rw [if_neg (by omega)]
    have := put_in f (z : Int) (leavesB c s (L.t + 1) 0 l) (k - z) (by rw [hlen]; omega)
    rw [show (z : Int) + ((k - z : Nat) : Int) = (k : Int) by omega] at this
    exact this
  refine ⟨h.hs, h.room, h.a, by show L.t + 1 < _; omega, ?_, ?_, hfit, hF0, ?_, ?_, ?_, ?_⟩
  · intro x hx
    have : x = l := by simpa using hx
    rw [this]
    exact hl
  · show fills l.length = fillsA [l]
    simp [fillsA]
  · right
    show turnB (F (((L.t + 1 + 1) % 2 : Nat) : Int)) < L.t + 1
    rw [show (L.t + 1 + 1) % 2 = L.t % 2 by omega, hFout _ (by omega) (by omega), h.ttl, turnB_title c s L.t L.a h.hs h.t]
    omega
  · intro k hk
    have hk' : k < fills l.length := hk
    show (fieldB c s (L.t + 1) 0 [l])[k]? = some (F ((2 + (L.t + 1) % 2 * L.a + k : Nat) : Int))
    rw [← hz]
    obtain ⟨x, q1, q2⟩ := hFin (z + k) (by omega) (by omega)
    rw [q2, ← q1, show z + k - z = k by omega]
    simp [fieldB]
  · intro k h1 h2
    have h1' : fills l.length ≤ k := h1
    have h2' : k < L.a := h2
    show ¬ (areaB (F ((2 + (L.t + 1) % 2 * L.a + k : Nat) : Int)) = L.t + 1 ∧ 1 + 0 ≤ turnB (F ((2 + (L.t + 1) % 2 * L.a + k : Nat) : Int)))
    rw [← hz, hFout _ (by omega) (by omega)]
    have := h.fut (z + k) (by omega) (by omega)
    intro q
    exact this ⟨by omega, q.2⟩
  · intro k h1 h2
    have h2' : k < 2 + 2 * L.a := h2
    show ¬ (L.t + 1 < areaB (F (k : Int)) ∧ 1 ≤ turnB (F (k : Int)))
    by_cases h3 : z ≤ k ∧ k < z + fills l.length
    · obtain ⟨x, q1, q2⟩ := hFin k h3.1 h3.2
      rw [q2, (hcl x (List.mem_of_getElem? q1)).1]
      omega
    · rw [hFout k (by omega) (by omega)]
      have := h.fut k h1 h2'
      intro q
      exact this ⟨by omega, q.2⟩
/-- Append on a calm disk. -/
theorem Calm.app (hc : Calm S) {L : Lo} (h : Fine c s L S.n S.holds) (hbr : L.br = false) (l : List UInt8) (hl : l.length ≤ 40000) (hfit : fills l.length ≤ L.a - L.e) :
    ∃ T, L.app c s S l = (0, { L with xs := L.xs ++ [l], e := L.e + fills l.length }, T) ∧ Then S T 1000 ∧ T.loose = [] ∧ Fine c s { L with xs := L.xs ++ [l], e := L.e + fills l.length } S.n T.holds := by
  have hfi := field_in L
  have hlen : (leavesB c s L.t (1 + L.xs.length) l).length = fills l.length := leavesB_length _ _ _ _ _
  have hle := h.le
  have hro := h.room
  obtain ⟨T, a1, a2, a3, a4⟩ := hc.add ((2 + L.t % 2 * L.a + L.e : Nat) : Int) (leavesB c s L.t (1 + L.xs.length) l) (by omega) (by rw [hlen]; omega)
  refine ⟨T, ?_, ⟨a2.calm, a2.n, ?_⟩, a4, ?_⟩
  · unfold Lo.app
    rw [if_neg (by omega), if_neg (by rw [hbr]; simp), if_neg (by omega), a1, if_pos rfl]
  · have := a2.ops; have := fills_le l.length; rw [hlen] at *; omega
  · rw [a3]
    exact h.add l hl hfit
theorem Calm.chk (hc : Calm S) {L : Lo} (h : Fine c s L S.n S.holds) (hbr : L.br = false) (l : List UInt8) (hl : l.length ≤ 40000) (hfit : fills l.length ≤ L.a) (hmax : L.t ≠ 4294967295) :
    ∃ T, L.chk c s S l = (0, { t := L.t + 1, a := L.a, x0 := l, xs := [], e := fills l.length, br := false }, T) ∧ Then S T 1000 ∧ T.loose = [] ∧ Fine c s { t := L.t + 1, a := L.a, x0 := l, xs := [], e := fills l.length, br := false } S.n T.holds := by
  have hfi := field_in { L with t := L.t + 1 }
  simp only at hfi
  have hlen : (leavesB c s (L.t + 1) 0 l).length = fills l.length := leavesB_length _ _ _ _ _
  have hro := h.room
  obtain ⟨T, a1, a2, a3, a4⟩ := hc.layN ((2 + (L.t + 1) % 2 * L.a : Nat) : Int) (((L.t + 1) % 2 : Nat) : Int) (leavesB c s (L.t + 1) 0 l) (titleB c s (L.t + 1) L.a) (by omega) (by rw [hlen]; omega) ⟨by omega, by omega⟩
  refine ⟨T, ?_, ⟨a2.calm, a2.n, ?_⟩, a4, ?_⟩
  · unfold Lo.chk Lo.lay
    rw [if_neg (by omega), if_neg (by rw [hbr]; simp), if_neg (by omega), a1, if_pos rfl]
  · have := a2.ops; have := fills_le l.length; rw [hlen] at *; omega
  · rw [a3]
    exact h.chk l hl hfit hmax
end
end
section
open Go.RowKit
section
variable {c s : List UInt32} {S : St}
theorem stale_mem (z : Nat) (F : List Blk) (e : Nat) : ∀ (n : Nat) (i : Int), i ∈ stale z F e n ↔ ∃ j, j < n ∧ i = ((z + (e + j) : Nat) : Int) ∧ F[e + j]? ≠ some (fil 0) := by
  intro n
  induction n with
  | zero => intro i; simp [stale]
  | succ n ih =>
    intro i
    unfold stale
    split
    · rename_i h
      rw [ih]
      constructor
      · rintro ⟨j, h1, h2, h3⟩
        exact ⟨j, by omega, h2, h3⟩
      · rintro ⟨j, h1, h2, h3⟩
        rcases Nat.lt_or_ge j n with q | q
        · exact ⟨j, q, h2, h3⟩
        · obtain rfl : j = n := by omega
          exact absurd h h3
    · rename_i h
      rw [List.mem_append, ih]
      constructor
      · rintro (⟨j, h1, h2, h3⟩ | h1)
        · exact ⟨j, by omega, h2, h3⟩
        · exact ⟨n, by omega, by simpa using h1, h⟩
      · rintro ⟨j, h1, h2, h3⟩
        rcases Nat.lt_or_ge j n with q | q
        · exact .inl ⟨j, q, h2, h3⟩
        · obtain rfl : j = n := by omega
          exact .inr (by simpa using h2)
theorem Fine.zeroed {L : Lo} {n : Nat} {f g : Int → Blk} (h : Fine c s L n f) (hg : ∀ k : Nat, g (k : Int) = f (k : Int) ∨ (2 + L.t % 2 * L.a + L.e ≤ k ∧ g (k : Int) = fil 0)) : Fine c s L n g := by
  have hfi := field_in L
  have hsame : ∀ k : Nat, k < 2 + L.t % 2 * L.a + L.e → g (k : Int) = f (k : Int) := fun k hk => by
    rcases hg k with q | q
    · exact q
    · omega
  refine ⟨h.hs, h.room, h.a, h.t, h.x, h.e, h.le, ?_, ?_, ?_, ?_, ?_⟩
  · rw [hsame _ (by omega)]; exact h.ttl
  · rw [hsame _ (by have := h.long; omega)]; exact h.oth
  · intro k hk
    rw [hsame _ (by omega)]
    exact h.fld k hk
  · intro k h1 h2
    rcases hg (2 + L.t % 2 * L.a + k) with q | q
    · rw [q]; exact h.cln k h1 h2
    · rw [q.2, nought_claim.2]
      intro q
      have := q.2
      omega
  · intro k h1 h2
    rcases hg k with q | q
    · rw [q]; exact h.fut k h1 h2
    · rw [q.2, nought_claim.2]
      intro q
      have := q.2
      omega
theorem Calm.opens (hc : Calm S) {L : Lo} (h : Fine c s L S.n S.holds) :
    ∃ T, S.opens c s = (0, T, some (L.t, L.a, L.x0 :: L.xs, L.e)) ∧ Then S T 3003 ∧ T.loose = [] ∧ Fine c s L S.n T.holds := by
  have hro := h.room
  have ha := h.a
  have hle := h.le
  have hfi := field_in L
  obtain ⟨z, hz⟩ : ∃ z, z = 2 + L.t % 2 * L.a := ⟨_, rfl⟩
  have h1 := hc.reads 0 (by omega) 2 (by omega)
  have hl2 : (List.range 2).map (fun k : Nat => S.holds (0 + (k : Int))) = [S.holds 0, S.holds 1] := rfl
  rw [hl2] at h1
  have hc1 : Calm { S with ops := S.ops + 2 } := ⟨hc.dead, hc.armed, hc.failing⟩
  have h2 := hc1.reads (z : Int) (by omega) L.a (by show _ ≤ (S.n : Int); omega)
  have hF : (List.range L.a).map (fun k : Nat => St.holds { S with ops := S.ops + 2 } ((z : Int) + (k : Int))) = fieldF L S.holds := by
    unfold fieldF
    rw [← hz]
    rfl
  rw [hF] at h2
  have hc2 : Calm { S with ops := S.ops + 2 + L.a } := ⟨hc.dead, hc.armed, hc.failing⟩
  have hst : ∀ i ∈ stale z (fieldF L S.holds) L.e ((fieldF L S.holds).length - L.e), (0 ≤ i ∧ i < (S.n : Int)) ∧ (z + L.e : Nat) ≤ i := by
    intro i hi
    obtain ⟨j, q1, rfl, -⟩ := (stale_mem z _ _ _ i).1 hi
    rw [fieldF_length] at q1
    omega
  have hset : ∃ T, St.settle { S with ops := S.ops + 2 + L.a } z (fieldF L S.holds) L.e = (0, T) ∧ Then { S with ops := S.ops + 2 + L.a } T 1001 ∧ T.loose = [] ∧ ∀ k : Nat, T.holds (k : Int) = S.holds (k : Int) ∨ (z + L.e ≤ k ∧ T.holds (k : Int) = fil 0) := by
    unfold St.settle
    by_cases q : stale z (fieldF L S.holds) L.e ((fieldF L S.holds).length - L.e) = [] ∧ S.loose = []
    · rw [if_pos q]
      exact ⟨_, rfl, ⟨hc2, rfl, by omega⟩, q.2, fun k => .inl rfl⟩
    · rw [if_neg q]
      obtain ⟨T, a1, a2, a3, a4⟩ := Calm.wipes _ _ hc2 (fun i hi => (hst i hi).1)
      refine ⟨T, a1, ⟨a2.calm, a2.n, ?_⟩, a4, fun k => ?_⟩
      · have k1 := a2.ops
        have k2 := stale_length z (fieldF L S.holds) L.e ((fieldF L S.holds).length - L.e)
        have k3 := fieldF_length L S.holds
        omega
      · rw [a3]
        simp only
        by_cases hk : (k : Int) ∈ stale z (fieldF L S.holds) L.e ((fieldF L S.holds).length - L.e)
        · rw [if_pos hk]
          have := (hst _ hk).2
          exact .inr ⟨by omega, rfl⟩
        · rw [if_neg hk]
          exact .inl rfl
  obtain ⟨T, b1, b2, b3, b4⟩ := hset
  refine ⟨T, ?_, ⟨b2.calm, b2.n, ?_⟩, b3, ?_⟩
  · rw [opens_of h1, h.pick]
    simp only
    rw [← hz, h2]
    simp only
    rw [h.said]
    simp only
    rw [if_neg (by simp), if_neg (by have := h.long; omega), b1, if_neg (by simp)]
  · have := b2.ops
    simp at this
    omega
  · exact h.zeroed (fun k => by rw [← hz]; exact b4 k)
theorem Calm.opened (hc : Calm S) {L : Lo} (h : Fine c s L S.n S.holds) : S.opened c s = some { L with br := false } := by
  obtain ⟨T, h1, -⟩ := hc.opens h
  unfold St.opened
  rw [h1]
end
end
section
open Go.RowKit
theorem exec_make47 {v : World} {o : Oper} {ρ : Operand → Value} {x y : Operand} {n : Nat} (ho : o.op = .makeSlice 34 x y) (hx : ρ x = .int .i64 (n : Int)) (hy : ρ y = .int .i64 (n : Int)) (hn : n ≤ 140737488355328) :
    (execOp ρ o).run Tryd.prog v = .ok (.value (.slice (some ⟨v.heap.size, 0, none⟩) n n)) (v.alloc (.cells (List.replicate n (Value.int .u8 0)).toArray 5)) := by
  obtain ⟨i0, hi, hz0, hz1, hz2⟩ := info_parts u8_zero
  have hb : (i0.bytes : Int) * (n : Int) ≤ 281474976710656 := by rw [hz2]; omega
  have hrun := run_make (P := Tryd.prog) v 34 5 i0 (.int .u8 0) Tryd.underlying34 hi hz0 .i64 .i64 (n : Int) (n : Int) (by omega) (by omega) hb (by omega)
  simp only [Int.toNat_natCast, hz1, Nat.mul_one, show (Value.int .u8 0).cells = #[Value.int .u8 0] from rfl, made_rep] at hrun
  simp [execOp, ho, hx, hy, hrun, Result.andThen]
theorem run_lit47 (x : Int) (w : World) : (Instr.buildSlice 34 1 #[(0, .int .u8 x)]).run Tryd.prog w = .ok (.slice (some ⟨w.heap.size, 0, none⟩) 1 1) (w.alloc (.cells #[.int .u8 x] 5)) := by kernel_rfl
theorem exec_lit47 {v : World} {o : Oper} {ρ : Operand → Value} {x : Operand} {k : Int} (ho : o.op = .buildSlice 34 1 #[(0, x)]) (hx : ρ x = .int .u8 k) : (execOp ρ o).run Tryd.prog v = .ok (.value (.slice (some ⟨v.heap.size, 0, none⟩) 1 1)) (v.alloc (.cells #[.int .u8 k] 5)) := by
  unfold execOp
  simp only [ho, List.map_toArray, List.map_cons, List.map_nil, hx, Sem.run_bind, run_lit47, Result.andThen, Sem.run_pure]
def z49 : List UInt8 := List.replicate 49 0
/-- The pure story of wakes. -/
theorem wakes_story (c s : List UInt32) (hs : s.length = 8) : ∃ T0 T1 T2 T3 T4 T5, (St.new 10).format c s 4 = (0, T0) ∧ (St.new 10).fmtd c s 4 = some (Lo.made 4) ∧
    (Lo.made 4).app c s T0 z49 = (0, ⟨0, 4, [], [z49], 3, false⟩, T1) ∧ (⟨0, 4, [], [z49], 3, false⟩ : Lo).app c s T1 [7] = (0, ⟨0, 4, [], [z49, [7]], 4, false⟩, T2) ∧
    (⟨0, 4, [], [z49, [7]], 4, false⟩ : Lo).app c s T2 [] = (6, ⟨0, 4, [], [z49, [7]], 4, false⟩, T2) ∧
    T2.opened c s = some ⟨0, 4, [], [z49, [7]], 4, false⟩ ∧ (∃ q, T2.opens c s = (0, T3, q)) ∧
    (⟨0, 4, [], [z49, [7]], 4, false⟩ : Lo).chk c s T3 [8] = (0, ⟨1, 4, [8], [], 1, false⟩, T4) ∧ T5 = T4 ∧ T0.ops ≤ 100 ∧ T1.ops ≤ 2000 ∧ T2.ops ≤ 4000 ∧ T3.ops ≤ 10000 := by
  have hc : Calm (St.new 10) := ⟨rfl, by decide, by decide⟩
  obtain ⟨T0, a1, a2, a3, a4⟩ := hc.format (c := c) hs 4 (by decide) (by decide)
  have hf1 : fills z49.length = 2 := by decide
  have hf2 : fills ([7] : List UInt8).length = 1 := by decide
  have hf3 : fills ([] : List UInt8).length = 1 := by decide
  have hf4 : fills ([8] : List UInt8).length = 1 := by decide
  obtain ⟨T1, b1, b2, b3, b4⟩ := a2.calm.app (L := Lo.made 4) (by rw [a2.n]; exact a4) rfl z49 (by decide) (by rw [hf1]; decide)
  rw [hf1] at b1 b4
  obtain ⟨T2, d1, d2, d3, d4⟩ := b2.calm.app (L := ⟨0, 4, [], [z49], 3, false⟩) (by rw [b2.n]; exact b4) rfl [7] (by decide) (by rw [hf2]; decide)
  rw [hf2] at d1 d4
  have hfin : Fine c s (⟨0, 4, [], [z49, [7]], 4, false⟩ : Lo) T2.n T2.holds := by rw [d2.n]; exact d4
  obtain ⟨T3, e1, e2, e3, e4⟩ := d2.calm.opens hfin
  obtain ⟨T4, g1, g2, g3, g4⟩ := e2.calm.chk (L := ⟨0, 4, [], [z49, [7]], 4, false⟩) (by rw [e2.n]; exact e4) rfl [8] (by decide) (by rw [hf4]; decide) (by decide)
  rw [hf4] at g1
  refine ⟨T0, T1, T2, T3, T4, T4, a1, ?_, b1, d1, ?_, d2.calm.opened hfin, ⟨_, e1⟩, g1, rfl, ?_, ?_, ?_, ?_⟩
  · unfold St.fmtd
    rw [show (4 : Int) = ((4 : Nat) : Int) from rfl, a1]
    rfl
  · unfold Lo.app
    rw [hf3]
    rfl
  · have := a2.ops; simp [St.new] at this; omega
  · have := a2.ops; have := b2.ops; simp [St.new] at *; omega
  · have := a2.ops; have := b2.ops; have := d2.ops; simp [St.new] at *; omega
  · have := a2.ops; have := b2.ops; have := d2.ops; have := e2.ops; simp [St.new] at *; omega
set_option maxRecDepth 1000000 in
set_option maxHeartbeats 4000000 in
theorem wakes_c (c s : List UInt32) (w : World) (G : Glob c s w) : Calls Tryd.prog 4 #[] w fun r w' => r = .returned (.bool true) ∧ Mod [] w w' := by
  obtain ⟨T0, T1, T2, T3, T4, T5, a1, a2, b1, d1, d2, e1, ⟨q, e2⟩, f1, -, o0, o1, o2, o3⟩ := wakes_story c s G.hs
  have X1 := new_good 10 w (by decide) (by decide)
  have XA := fun (v : World) (ms : List Nat) (g m : Nat) (h : Dk c s g m (St.new 10) ms v) => lg_format h 4 (by decide)
  rw [a1, a2] at XA
  have HH := Lib.hid (And.intro G (And.intro b1 (And.intro d1 (And.intro d2 (And.intro e1 (And.intro e2 (And.intro f1 (And.intro o0 (And.intro o1 (And.intro o2 o3))))))))))
  clear G b1 d1 d2 e1 e2 f1 o0 o1 o2 o3 a1 a2
  go_enter Tryd.func4, Tryd.ntmps4
  go_wp2_with fail
  refine X1.mono ?_
  rintro r w1 ⟨g, m, rfl, D1, m1, hg, hm⟩
  clear X1
  have hK : Dk c s g m (St.new 10) (g :: m :: blk none) w1 := ⟨none, 0, HH.out.1.keep m1, D1, fun i hi => by
    have := HH.out.1.two
    simp [blk] at hi
    omega, rfl⟩
  have X2 := XA w1 _ g m hK
  clear XA hK D1
  go_wp2_with fail
  refine X2.mono ?_
  rintro r w2 ⟨ms2, m2, n2, -, b, rs2, rfl, hb, L2, r2, -⟩
  clear X2
  have M2 : Mod [] w w2 := m1.trans m2 (fun i hi h => by simp [blk] at h; omega)
  have N2 : ∀ i ∈ ms2, w.heap.size ≤ i := fun i hi => by
    rcases n2 i hi with q | q
    · simp [blk] at q; omega
    · exact Nat.le_trans m1.size q
  have X3 := lg_left L2
  rw [show ((((Lo.made 4).a - (Lo.made 4).e : Nat) : Nat) : Int) = 3 from rfl] at X3
  clear m1 m2 n2 hg hm r2
  go_wp2_with fail
  refine X3.mono ?_
  rintro r w3 ⟨rfl, m3⟩
  clear X3
  have L3 := L2.keep0 m3
  have M3 := M2.then m3
  clear L2 M2 m3
  go_wp2_with (first
    | (with_reducible refine wpList_ranW (o := ⟨some 29, .makeSlice 34 _ _, _, _, _, _⟩) (by with_unfolding_all rfl) (.slice (some ⟨w3.heap.size, 0, none⟩) 49 49) (w3.alloc (.cells (List.replicate 49 (Value.int .u8 0)).toArray 5)) (exec_make47 (n := 49) rfl rfl rfl (by decide)) ?_
       have hz := Holds.made w3 5 (List.replicate 49 (Value.int .u8 0))
       have m4 : Mod [] w3 (w3.alloc (.cells (List.replicate 49 (Value.int .u8 0)).toArray 5)) := Mod.alloc [] w3 _
       obtain ⟨w4, e4⟩ : ∃ v, v = w3.alloc (.cells (List.replicate 49 (Value.int .u8 0)).toArray 5) := ⟨_, rfl⟩
       obtain ⟨x4, f4⟩ : ∃ v, v = w3.heap.size := ⟨_, rfl⟩
       rw [← e4, ← f4] at hz
       rw [← e4] at m4
       rw [← e4, ← f4]
       clear e4 f4))
  have X4 := lg_append (L3.keep0 m4) (some ⟨x4, 0, none⟩) 49 49 z49 (Reads.of_holds (show Holds w4 x4 5 (z49.map oct) from hz)) rfl (Nat.le_refl _) (by decide) (fun z h => by cases h; exact ⟨_, hz⟩) (by have := HH.out.2.2.2.2.2.2.2.1; show T0.ops + 5000 ≤ 1099511627776; omega)
  rw [HH.out.2.1] at X4
  have M4 := M3.then m4
  clear L3 hz m4 M3
  refine X4.mono ?_
  rintro r w5 ⟨rfl, ms5, rs5, L5, m5, n5, -⟩
  clear X4
  have M5 : Mod [] w w5 := M4.trans m5 (fun i hi h => by have := N2 i h; omega)
  have N5 : ∀ i ∈ ms5, w.heap.size ≤ i := fun i hi => (n5 i hi).elim (N2 i) (fun q => Nat.le_trans M4.size q)
  clear m5 n5 M4 N2
  go_wp2_with (first
    | (with_reducible refine wpList_ranW (o := ⟨some 35, .buildSlice 34 1 _, _, _, _, _⟩) (by with_unfolding_all rfl) (.slice (some ⟨w5.heap.size, 0, none⟩) 1 1) (w5.alloc (.cells #[.int .u8 7] 5)) (exec_lit47 rfl rfl) ?_
       have hz := Holds.made w5 5 [Value.int .u8 7]
       have m6 : Mod [] w5 (w5.alloc (.cells #[.int .u8 7] 5)) := Mod.alloc [] w5 _
       obtain ⟨w6, e6⟩ : ∃ v, v = w5.alloc (.cells #[.int .u8 7] 5) := ⟨_, rfl⟩
       obtain ⟨x6, f6⟩ : ∃ v, v = w5.heap.size := ⟨_, rfl⟩
       rw [← e6, ← f6] at hz
       rw [← e6] at m6
       rw [← e6, ← f6]
       clear e6 f6))
  have X6 := lg_append (L5.keep0 m6) (some ⟨x6, 0, none⟩) 1 1 [7] (Reads.of_holds hz) rfl (Nat.le_refl _) (by decide) (fun z h => by cases h; exact ⟨_, hz⟩) (by have := HH.out.2.2.2.2.2.2.2.2.1; show T1.ops + 5000 ≤ 1099511627776; omega)
  rw [HH.out.2.2.1] at X6
  have M6 := M5.then m6
  clear L5 hz m6 M5
  refine X6.mono ?_
  rintro r w7 ⟨rfl, ms7, rs7, L7, m7, n7, -⟩
  clear X6
  have M7 : Mod [] w w7 := M6.trans m7 (fun i hi h => by have := N5 i h; omega)
  have N7 : ∀ i ∈ ms7, w.heap.size ≤ i := fun i hi => (n7 i hi).elim (N5 i) (fun q => Nat.le_trans M6.size q)
  clear m7 n7 M6 N5
  have X7 := lg_append L7 none 0 0 [] (Reads.nil _ _) rfl (Nat.le_refl _) (by decide) (fun z h => by cases h) (by have := HH.out.2.2.2.2.2.2.2.2.2.1; show T2.ops + 5000 ≤ 1099511627776; omega)
  rw [HH.out.2.2.2.1] at X7
  clear L7
  go_wp2_with fail
  refine X7.mono ?_
  rintro r w8 ⟨rfl, ms8, rs8, L8, m8, n8, -⟩
  clear X7
  have M8 : Mod [] w w8 := M7.trans m8 (fun i hi h => by have := N7 i h; omega)
  have N8 : ∀ i ∈ ms8, w.heap.size ≤ i := fun i hi => (n8 i hi).elim (N7 i) (fun q => Nat.le_trans M7.size q)
  clear m8 n8 M7 N7
  obtain ⟨ms9, K9, s9⟩ := L8.dk
  have X9 := lg_open K9 (by have := HH.out.2.2.2.2.2.2.2.2.2.1; show T2.ops + 20000 ≤ 1099511627776; omega)
  rw [HH.out.2.2.2.2.1] at X9
  obtain ⟨P9, hP9⟩ : ∃ P, P = St.opens c s T2 := ⟨_, rfl⟩
  have hP1 : P9.1 = 0 ∧ P9.2.1 = T3 := by rw [hP9, HH.out.2.2.2.2.2.1]; exact ⟨rfl, rfl⟩
  rw [show St.opens c s (6, ({ t := 0, a := 4, x0 := [], xs := [z49, [7]], e := 4, br := false } : Lo), T2).2.2 = P9 from hP9.symm, hP1.1, hP1.2] at X9
  clear L8 K9 hP9 hP1
  go_wp2_with fail
  refine X9.mono ?_
  rintro r w9 ⟨ms10, m10, n10, -, b2, rs10, rfl, hb2, L10, r10, -⟩
  clear X9
  have M10 : Mod [] w w9 := M8.trans m10 (fun i hi h => by have := N8 i (s9 i h); omega)
  have N10 : ∀ i ∈ ms10, w.heap.size ≤ i := fun i hi => (n10 i hi).elim (fun q => N8 i (s9 i q)) (fun q => Nat.le_trans M8.size q)
  clear m10 n10 M8 N8 s9 hb2 r10
  have X10 := lg_len L10
  go_wp2_with fail
  refine X10.mono ?_
  rintro r w10 ⟨rfl, rfl⟩
  clear X10
  rw [show (((⟨0, 4, [], [z49, [7]], 4, false⟩ : Lo).xs.length : Nat) : Int) = 2 from rfl]
  go_wp2_with (first
    | (with_reducible refine wpList_ranW (o := ⟨some 62, .buildSlice 34 1 _, _, _, _, _⟩) (by with_unfolding_all rfl) (.slice (some ⟨w10.heap.size, 0, none⟩) 1 1) (w10.alloc (.cells #[.int .u8 8] 5)) (exec_lit47 rfl rfl) ?_
       have hz := Holds.made w10 5 [Value.int .u8 8]
       have m11 : Mod [] w10 (w10.alloc (.cells #[.int .u8 8] 5)) := Mod.alloc [] w10 _
       obtain ⟨w11, e11⟩ : ∃ v, v = w10.alloc (.cells #[.int .u8 8] 5) := ⟨_, rfl⟩
       obtain ⟨x11, f11⟩ : ∃ v, v = w10.heap.size := ⟨_, rfl⟩
       rw [← e11, ← f11] at hz
       rw [← e11] at m11
       rw [← e11, ← f11]
       clear e11 f11))
  have X11 := lg_check (L10.keep0 m11) (some ⟨x11, 0, none⟩) 1 1 [8] (Reads.of_holds hz) rfl (Nat.le_refl _) (by decide) (fun z h => by cases h; exact ⟨_, hz⟩) (by have := HH.out.2.2.2.2.2.2.2.2.2.2; show T3.ops + 5000 ≤ 1099511627776; omega)
  rw [HH.out.2.2.2.2.2.2.1] at X11
  have M11 := M10.then m11
  clear L10 hz m11 M10
  refine X11.mono ?_
  rintro r w12 ⟨rfl, ms12, rs12, L12, m12, n12, -⟩
  clear X11
  have M12 : Mod [] w w12 := M11.trans m12 (fun i hi h => by have := N10 i h; omega)
  clear m12 n12 M11 N10
  have X12 := lg_turn L12
  go_wp2_with fail
  refine X12.mono ?_
  rintro r w13 ⟨rfl, rfl⟩
  clear X12
  rw [show (((⟨1, 4, [8], [], 1, false⟩ : Lo).t : Nat) : Int) = 1 from rfl]
  have X13 := lg_left L12
  rw [show ((((⟨1, 4, [8], [], 1, false⟩ : Lo).a - (⟨1, 4, [8], [], 1, false⟩ : Lo).e : Nat) : Nat) : Int) = 3 from rfl] at X13
  go_wp2_with fail
  refine X13.mono ?_
  rintro r w14 ⟨rfl, m14⟩
  clear X13
  have L14 := L12.keep0 m14
  have M14 := M12.then m14
  have X14 := lg_snap L14
  clear L12 M12 m14
  go_wp2_with fail
  refine X14.mono ?_
  rintro r w15 ⟨x15, rfl, h15, m15, -⟩
  clear X14
  have L15 := L14.keep0 m15
  have M15 := M14.then m15
  have X15 := lg_snap L15
  rw [show (⟨1, 4, [8], [], 1, false⟩ : Lo).x0.length = 1 from rfl] at X15 ⊢
  clear L14 M14 m15 h15
  go_wp2_with fail
  refine X15.mono ?_
  rintro r w16 ⟨x16, rfl, h16, m16, -⟩
  clear X15
  have M16 := M15.then m16
  have c16 : w16.cell? ⟨x16, 0, none⟩ = some (.int .u8 8) := h16.cell 0
  clear L15 M15 m16 h16
  have X16 := sectors_c 48 (by decide) w16
  rw [show ((fills 48 : Nat) : Int) = 1 from rfl] at X16
  go_wp2_with fail
  refine X16.mono ?_
  rintro r w17 ⟨rfl, rfl⟩
  clear X16
  have X17 := sectors_c 49 (by decide) w17
  rw [show ((fills 49 : Nat) : Int) = 2 from rfl] at X17
  go_wp2_with fail
  refine X17.mono ?_
  rintro r w18 ⟨rfl, rfl⟩
  clear X17
  go_wp2_with fail
  go_ret
  exact ⟨rfl, M16⟩
end
end Go.Proofs.YtcoedhemlghjoaaDoor
