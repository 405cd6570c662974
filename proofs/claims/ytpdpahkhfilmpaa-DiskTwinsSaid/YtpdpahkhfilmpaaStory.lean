/-
  A disk's story, by itself: blocks, writes, what a sector holds, what is asked and what comes of it. Words of mine, no program.
-/
import Derived.Test.YtpdpahkhfilmpaaDmem
namespace Go.Proofs.Ytpdpahkhfilmpaa
open Go.RowKit

abbrev Story := List (Int × Blk)
/-- What the sectors hold behind these writes. -/
def app (f : Int → Blk) : Story → Int → Blk
  | [] => f
  | p :: l => app (fun k => if k = p.1 then p.2 else f k) l
theorem app_append (l k : Story) : ∀ f, app f (l ++ k) = app (app f l) k := by
  induction l with
  | nil => intro f; rfl
  | cons p l ih => intro f; exact ih _
theorem app_snoc (f : Int → Blk) (l : Story) (p : Int × Blk) : app f (l ++ [p]) = fun k => if k = p.1 then p.2 else app f l k := by
  rw [app_append]; rfl
theorem app_none (i : Int) (l : Story) : ∀ f, (∀ p ∈ l, p.1 ≠ i) → app f l i = f i := by
  induction l with
  | nil => intro f _; rfl
  | cons p l ih =>
    intro f h
    show app _ l i = _
    rw [ih _ (fun q hq => h q (by simp [hq])), if_neg (fun e => h p (by simp) e.symm)]
theorem app_found (f : Int → Blk) (i : Int) (l k : Story) (b : Blk) (h : ∀ p ∈ k, p.1 ≠ i) : app f (l ++ (i, b) :: k) i = b := by
  rw [app_append]
  show app _ k i = b
  rw [app_none i k _ h, if_pos rfl]
theorem app_fold (i : Int) (l : Story) : ∀ f, app f l i = l.foldl (fun b p => if p.1 = i then p.2 else b) (f i) := by
  induction l with
  | nil => intro f; rfl
  | cons p l ih =>
    intro f
    show app _ l i = _
    rw [ih, List.foldl_cons]
    congr 1
    by_cases h : p.1 = i
    · rw [if_pos h, if_pos h.symm]
    · rw [if_neg h, if_neg (fun e => h e.symm)]

/-- Of a row those for whose number keep has true. -/
def kept {α : Type} : List α → List Bool → List α
  | [], _ => []
  | _ :: _, [] => []
  | x :: l, b :: k => if b then x :: kept l k else kept l k
theorem kept_nil {α : Type} (l : List α) : kept l [] = [] := by cases l <;> rfl
theorem kept_length {α : Type} (l : List α) : ∀ k, (kept l k).length ≤ l.length := by
  induction l with
  | nil => intro k; simp [kept]
  | cons x l ih =>
    intro k
    cases k with
    | nil => simp [kept]
    | cons b k =>
      simp only [kept]
      have := ih k
      split <;> simp <;> omega
theorem kept_take {α : Type} (l : List α) : ∀ (n : Nat) (k : List Bool) (h : n < l.length), kept (l.take (n + 1)) k = kept (l.take n) k ++ (if k[n]?.getD false then [l[n]] else []) := by
  induction l with
  | nil => intro n k h; simp at h
  | cons x l ih =>
    intro n k h
    cases k with
    | nil => simp [kept_nil]
    | cons b k =>
      cases n with
      | zero => cases b <;> simp [kept]
      | succ n =>
        have := ih n k (by simpa using h)
        simp only [List.take_succ_cons, kept, this]
        cases b <;> simp
theorem kept_map {α β : Type} (f : α → β) (l : List α) : ∀ k, kept (l.map f) k = (kept l k).map f := by
  induction l with
  | nil => intro k; rfl
  | cons x l ih =>
    intro k
    cases k with
    | nil => rfl
    | cons b k => simp only [List.map_cons, kept, ih]; cases b <;> simp

/-- How a disk stands. -/
structure St where
  n : Nat
  firm : Int → Blk
  loose : Story
  dead : Bool
  armed : Int
  failing : Int
  ops : Nat
def St.new (n : Nat) : St := { n := n, firm := fun _ => fil 0, loose := [], dead := false, armed := -1, failing := -1, ops := 0 }
def St.holds (S : St) (i : Int) : Blk := app S.firm S.loose i
/-- One down, if it is from 0 on. -/
def down (x : Int) : Int := if x < 0 then x else x - 1
/-- What is asked comes to this number; S behind it, but for what is done. -/
def St.ask (S : St) (there lasts : Bool) : Int × St :=
  if S.dead then (9, S)
  else if !there then (2, S)
  else if S.failing = 0 then (8, { S with failing := -1 })
  else if lasts && decide (S.armed = 0) then (9, { S with failing := down S.failing, armed := -1, dead := true })
  else (0, { S with failing := down S.failing, armed := if lasts then down S.armed else S.armed, ops := S.ops + 1 })
def St.has (S : St) (i : Int) : Bool := decide (0 ≤ i ∧ i < S.n)
def St.read (S : St) (i : Int) : Blk × Int × St := let r := S.ask (S.has i) false; (if r.1 = 0 then r.2.holds i else fil 0, r.1, r.2)
def St.write (S : St) (i : Int) (b : Blk) : Int × St := let r := S.ask (S.has i) true; (r.1, if r.1 = 0 then { r.2 with loose := r.2.loose ++ [(i, b)] } else r.2)
def St.sync (S : St) : Int × St := let r := S.ask true true; (r.1, if r.1 = 0 then { r.2 with loose := [], firm := app r.2.firm r.2.loose } else r.2)
def St.arm (S : St) (n : Int) : Int × St := if S.dead then (9, S) else (0, { S with armed := n })
def St.fail (S : St) (n : Int) : Int × St := if S.dead then (9, S) else (0, { S with failing := n })
def St.crash (S : St) (keep : List Bool) : St := { S with loose := [], firm := app S.firm (kept S.loose keep), dead := false, armed := -1, failing := -1 }

/-- What is done. -/
structure Ac where
  kind : Nat
  at_ : Int
  n : Int
  fill : UInt8
  keep : List Bool
/-- Behind what is done: a block, a number, how it stands. -/
def St.act (S : St) (a : Ac) : Blk × Int × St :=
  match a.kind with
  | 0 => S.read a.at_
  | 1 => (fil 0, S.write a.at_ (fil a.fill))
  | 2 => (fil 0, S.sync)
  | 3 => (fil 0, S.arm a.n)
  | 4 => (fil 0, S.fail a.n)
  | 5 => (fil 0, 0, S.crash a.keep)
  | _ => (fil 0, 0, S)

/-- The document's own disk. -/
structure RSt where
  size : Int
  firm : Nat
  story : Story
  out : Bool
  arms : Int
  fails : Int
  ops : Nat
def RSt.new (n : Int) : RSt := { size := n, firm := 0, story := [], out := false, arms := -1, fails := -1, ops := 0 }
def RSt.holds (R : RSt) (i : Int) : Blk := app (fun _ => fil 0) R.story i
def RSt.ask (R : RSt) (sort : Nat) (i : Int) (b : Blk) : RSt × Int :=
  if R.out then (R, 9)
  else if sort ≠ 2 ∧ (i < 0 ∨ i ≥ R.size) then (R, 2)
  else if R.fails = 0 then ({ R with fails := -1 }, 8)
  else
    let R1 := if R.fails > 0 then { R with fails := R.fails - 1 } else R
    if sort ≠ 0 ∧ R1.arms = 0 then ({ R1 with out := true, arms := -1 }, 9)
    else
      let R2 := if sort ≠ 0 ∧ R1.arms > 0 then { R1 with arms := R1.arms - 1 } else R1
      let R3 := { R2 with ops := R2.ops + 1 }
      let R4 := if sort = 1 then { R3 with story := R3.story ++ [(i, b)] } else R3
      (if sort = 2 then { R4 with firm := R4.story.length } else R4, 0)
def RSt.crash (R : RSt) (keep : List Bool) : RSt :=
  let s := R.story.take R.firm ++ kept (R.story.drop R.firm) keep
  { size := R.size, firm := s.length, story := s, out := false, arms := -1, fails := -1, ops := R.ops }
def RSt.act (R : RSt) (a : Ac) : Blk × Int × RSt :=
  match a.kind with
  | 0 => let r := R.ask 0 a.at_ (fil 0); (if r.2 = 0 then r.1.holds a.at_ else fil 0, r.2, r.1)
  | 1 => let r := R.ask 1 a.at_ (fil a.fill); (fil 0, r.2, r.1)
  | 2 => let r := R.ask 2 0 (fil 0); (fil 0, r.2, r.1)
  | 3 => if R.out then (fil 0, 9, R) else (fil 0, 0, { R with arms := max a.n (-1) })
  | 4 => if R.out then (fil 0, 9, R) else (fil 0, 0, { R with fails := max a.n (-1) })
  | 5 => (fil 0, 0, R.crash a.keep)
  | _ => (fil 0, 0, R)

/-- A disk stands as the document's. -/
structure Like (S : St) (R : RSt) : Prop where
  n : R.size = (S.n : Int)
  firm : app (fun _ => fil 0) (R.story.take R.firm) = S.firm
  loose : R.story.drop R.firm = S.loose
  dead : S.dead = R.out
  armed : max S.armed (-1) = R.arms
  failing : max S.failing (-1) = R.fails
  ops : S.ops = R.ops
  fits : R.firm ≤ R.story.length
theorem Like.holds {S : St} {R : RSt} (h : Like S R) (i : Int) : S.holds i = R.holds i := by
  unfold St.holds RSt.holds
  rw [← h.firm, ← h.loose, ← app_append, List.take_append_drop]
theorem Like.new (n : Nat) : Like (St.new n) (RSt.new n) := by
  constructor <;> simp [St.new, RSt.new, app] <;> omega
theorem Like.crash {S : St} {R : RSt} (h : Like S R) (k : List Bool) : Like (S.crash k) (R.crash k) := by
  constructor <;> simp only [St.crash, RSt.crash]
  · exact h.n
  · rw [List.take_length, app_append, h.firm, h.loose]
  · rw [List.drop_length]
  · decide
  · decide
  · exact h.ops
  · exact Nat.le_refl _
/-- What is done to both is told alike, and they stand alike behind it. -/
theorem Like.ask {S : St} {R : RSt} (h : Like S R) (k : Nat) (hk : k ≤ 2) (i : Int) (b : Blk) :
    (S.ask (if k = 2 then true else S.has i) (decide (k ≠ 0))).1 = (R.ask k i b).2 ∧
    Like (let r := S.ask (if k = 2 then true else S.has i) (decide (k ≠ 0)); if r.1 = 0 then (if k = 1 then { r.2 with loose := r.2.loose ++ [(i, b)] } else if k = 2 then { r.2 with loose := [], firm := app r.2.firm r.2.loose } else r.2) else r.2) (R.ask k i b).1 := by
  obtain ⟨hn, hf, hl, hd, ha, hfa, ho, hfi⟩ := h
  unfold St.ask RSt.ask
  rw [hd]
  by_cases h1 : R.out = true
  · rw [if_pos h1, if_pos h1]
    refine ⟨rfl, ?_⟩
    simp
    exact ⟨hn, hf, hl, hd, ha, hfa, ho, hfi⟩
  rw [if_neg h1, if_neg h1]
  have e2 : ((!(if k = 2 then true else S.has i)) = true) ↔ (k ≠ 2 ∧ (i < 0 ∨ i ≥ R.size)) := by
    by_cases hk2 : k = 2
    · simp [hk2]
    · simp [hk2, St.has]; omega
  by_cases h2 : k ≠ 2 ∧ (i < 0 ∨ i ≥ R.size)
  · rw [if_pos (e2.2 h2), if_pos h2]
    refine ⟨rfl, ?_⟩
    simp
    exact ⟨hn, hf, hl, hd, ha, hfa, ho, hfi⟩
  rw [if_neg (fun hh => h2 (e2.1 hh)), if_neg h2]
  by_cases h3 : R.fails = 0
  · rw [if_pos (by omega), if_pos h3]
    refine ⟨rfl, ?_⟩
    simp
    exact ⟨hn, hf, hl, rfl, ha, rfl, ho, hfi⟩
  rw [if_neg (by omega), if_neg h3]
  have e3 : max (down S.failing) (-1) = (if R.fails > 0 then { R with fails := R.fails - 1 } else R).fails := by
    unfold down
    split <;> split <;> (try dsimp only) <;> (try dsimp only at *) <;> omega
  obtain ⟨R1, hR1⟩ : ∃ R1, (if R.fails > 0 then { R with fails := R.fails - 1 } else R) = R1 := ⟨_, rfl⟩
  have f1 : R1.size = R.size ∧ R1.firm = R.firm ∧ R1.story = R.story ∧ R1.out = R.out ∧ R1.arms = R.arms ∧ R1.ops = R.ops := by
    rw [← hR1]; split <;> exact ⟨rfl, rfl, rfl, rfl, rfl, rfl⟩
  rw [hR1] at e3 ⊢
  simp only
  obtain ⟨g1, g2, g3, g4, g5, g6⟩ := f1
  by_cases h4 : k ≠ 0 ∧ R1.arms = 0
  · rw [if_pos (by simp [h4.1]; rw [g5] at h4; omega), if_pos h4]
    refine ⟨rfl, ?_⟩
    simp
    exact ⟨by simp [g1, hn], by simp [g2, g3, hf], by simp [g2, g3, hl], rfl, rfl, e3, by simp [g6, ho], by simp [g2, g3, hfi]⟩
  have h4' : ¬ ((decide (k ≠ 0) && decide (S.armed = 0)) = true) := by
    simp; intro hk0 hh; exact h4 ⟨hk0, by rw [g5]; omega⟩
  rw [if_neg h4', if_neg h4]
  refine ⟨rfl, ?_⟩
  have e4 : max (if decide (k ≠ 0) = true then down S.armed else S.armed) (-1) = (if k ≠ 0 ∧ R1.arms > 0 then { R1 with arms := R1.arms - 1 } else R1).arms := by
    unfold down
    by_cases hk0 : k = 0
    · simp [hk0, g5, ha]
    · have : ¬ R1.arms = 0 := fun hh => h4 ⟨hk0, hh⟩
      simp only [hk0, ne_eq, not_false_eq_true, decide_true, if_true, true_and]
      split <;> split <;> (try dsimp only) <;> (try dsimp only at *) <;> omega
  obtain ⟨R2, hR2⟩ : ∃ R2, (if k ≠ 0 ∧ R1.arms > 0 then { R1 with arms := R1.arms - 1 } else R1) = R2 := ⟨_, rfl⟩
  have f2 : R2.size = R1.size ∧ R2.firm = R1.firm ∧ R2.story = R1.story ∧ R2.out = R1.out ∧ R2.fails = R1.fails ∧ R2.ops = R1.ops := by
    rw [← hR2]; split <;> exact ⟨rfl, rfl, rfl, rfl, rfl, rfl⟩
  rw [hR2] at e4 ⊢
  obtain ⟨j1, j2, j3, j4, j5, j6⟩ := f2
  rw [g1] at j1; rw [g2] at j2; rw [g3] at j3; rw [g4] at j4; rw [← j5] at e3; rw [g6] at j6
  clear hR1 hR2 g1 g2 g3 g4 g5 g6 j5 h4 h4' e2 h2 h3
  obtain hk | hk | hk : k = 0 ∨ k = 1 ∨ k = 2 := by omega
  · subst hk
    simp at e4 ⊢
    exact ⟨by simp [j1, hn], by simp [j2, j3, hf], by simp [j2, j3, hl], by simp [j4], e4, e3, by simp [j6, ho], by simp [j2, j3, hfi]⟩
  · subst hk
    simp at e4 ⊢
    exact ⟨by simp [j1, hn], by simp [j2, j3, List.take_append_of_le_length hfi, hf], by simp [j2, j3, List.drop_append_of_le_length hfi, hl], by simp [j4], e4, e3, by simp [j6, ho], by simp [j2, j3]; omega⟩
  · subst hk
    simp at e4 ⊢
    exact ⟨by simp [j1, hn], by simp [j3]; rw [← hf, ← hl, ← app_append, List.take_append_drop], by simp, by simp [j4], e4, e3, by simp [j6, ho], by simp⟩
theorem Like.act {S : St} {R : RSt} (h : Like S R) (a : Ac) : (S.act a).1 = (R.act a).1 ∧ (S.act a).2.1 = (R.act a).2.1 ∧ Like (S.act a).2.2 (R.act a).2.2 := by
  unfold St.act RSt.act
  obtain ⟨k, i, n, c, keep⟩ := a
  match k with
  | 0 =>
    have := h.ask 0 (by omega) i (fil 0)
    simp at this
    obtain ⟨h1, h2⟩ := this
    simp only [St.read]
    rw [h1]
    refine ⟨?_, rfl, h2⟩
    split
    · exact h2.holds i
    · rfl
  | 1 =>
    have := h.ask 1 (by omega) i (fil c)
    simp at this
    obtain ⟨h1, h2⟩ := this
    simp only [St.write]
    exact ⟨by simp, h1, h2⟩
  | 2 =>
    have := h.ask 2 (by omega) 0 (fil 0)
    simp at this
    obtain ⟨h1, h2⟩ := this
    simp only [St.sync]
    exact ⟨by simp, h1, h2⟩
  | 3 =>
    simp only [St.arm, h.dead]
    obtain ⟨hn, hf, hl, hd, ha, hfa, ho, hfi⟩ := h
    split
    · exact ⟨rfl, rfl, ⟨hn, hf, hl, hd, ha, hfa, ho, hfi⟩⟩
    · exact ⟨rfl, rfl, ⟨hn, hf, hl, rfl, rfl, hfa, ho, hfi⟩⟩
  | 4 =>
    simp only [St.fail, h.dead]
    obtain ⟨hn, hf, hl, hd, ha, hfa, ho, hfi⟩ := h
    split
    · exact ⟨rfl, rfl, ⟨hn, hf, hl, hd, ha, hfa, ho, hfi⟩⟩
    · exact ⟨rfl, rfl, ⟨hn, hf, hl, rfl, ha, rfl, ho, hfi⟩⟩
  | 5 => exact ⟨rfl, rfl, h.crash keep⟩
  | _ + 6 => exact ⟨rfl, rfl, h⟩
end Go.Proofs.Ytpdpahkhfilmpaa
