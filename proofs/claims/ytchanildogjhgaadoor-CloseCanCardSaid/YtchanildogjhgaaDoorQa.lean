/-
  What the document's rounds tell: places, steps, rounds; the terms that occur. My own work (pure).
-/
import Derived.Test.YtchanildogjhgaaDoorC1
namespace Go.Proofs.YtchanildogjhgaaDoor
set_option linter.unusedVariables false
namespace Tm
/-- The place of a term among others. -/
def idx (L : List Tm) (t : Tm) : Nat := L.findIdx fun x => same x t
theorem idx_lt {L : List Tm} {t : Tm} (h : t ∈ L) : idx L t < L.length := List.findIdx_lt_length_of_exists ⟨t, h, (same_iff t t).2 rfl⟩
theorem idx_at {L : List Tm} {t : Tm} (h : idx L t < L.length) : L[idx L t] = t := (same_iff _ _).1 (List.findIdx_getElem (w := h))
def gB (c : List Bool) (i : Nat) : Bool := c.getD i false
def setIf (b : Bool) (c : List Bool) (i : Nat) : List Bool := if b then c.set i true else c
def allC (L : List Tm) (c : List Bool) (ks : List Tm) : Bool := ks.all fun k => gB c (idx L k)
def canSec (L : List Tm) (c : List Bool) (u : Int) : Bool := gB c (idx L (sec u))
/-- What is put together, at one place. -/
def step1 (L : List Tm) (c : List Bool) (i : Nat) (t : Tm) : List Bool :=
  let c1 := setIf (t.kind == 1) c i
  let c2 := setIf (decide (4 ≤ t.kind ∧ t.kind ≤ 7) && allC L c1 t.kids) c1 i
  setIf (t.kind == 8 && (allC L c2 t.kids && canSec L c2 t.user)) c2 i
def headC (L : List Tm) (c : List Bool) : List Tm → Bool | [] => false | k :: _ => gB c (idx L k)
def opensC (L : List Tm) (c : List Bool) (t : Tm) : Bool := t.kind == 4 || t.kind == 8 || (t.kind == 6 && headC L c t.kids) || (t.kind == 7 && canSec L c t.user)
def inner (t : Tm) : List Tm := if t.kind = 6 then t.kids.drop 1 else t.kids
/-- What is inside is given, as its whole is had. -/
def give (L : List Tm) (i : Nat) : List Tm → List Bool × List Bool → List Bool × List Bool
  | [], s => s
  | k :: ks, s => give L i ks (setIf (gB s.1 i) s.1 (idx L k), setIf (gB s.2 i) s.2 (idx L k))
def step (L : List Tm) (s : List Bool × List Bool) (i : Nat) : List Bool × List Bool :=
  match L[i]? with
  | none => s
  | some t => if opensC L (step1 L s.1 i t) t then give L i (inner t) (step1 L s.1 i t, s.2) else (step1 L s.1 i t, s.2)
def steps (L : List Tm) (s : List Bool × List Bool) (n : Nat) : List Bool × List Bool := (List.range n).foldl (step L) s
theorem steps_succ (L : List Tm) (s : List Bool × List Bool) (n : Nat) : steps L s (n + 1) = step L (steps L s n) n := by simp [steps, List.range_succ]
def rounds (L : List Tm) (s : List Bool × List Bool) : Nat → List Bool × List Bool
  | 0 => s
  | r + 1 => steps L (rounds L s r) L.length
-- growing
inductive Le : List Bool → List Bool → Prop
  | nil : Le [] []
  | cons {a b l m} : (a = true → b = true) → Le l m → Le (a :: l) (b :: m)
theorem Le.refl : ∀ l, Le l l | [] => .nil | a :: l => .cons id (Le.refl l)
theorem Le.trans : ∀ {l m n}, Le l m → Le m n → Le l n
  | _, _, _, .nil, .nil => .nil
  | _, _, _, .cons h k, .cons h' k' => .cons (fun e => h' (h e)) (k.trans k')
theorem Le.antisymm : ∀ {l m}, Le l m → Le m l → l = m
  | _, _, .nil, .nil => rfl
  | _, _, .cons (a := a) (b := b) h k, .cons h' k' => by
    rw [k.antisymm k']
    have : a = b := by cases a <;> cases b <;> simp_all
    rw [this]
theorem Le.length : ∀ {l m}, Le l m → l.length = m.length
  | _, _, .nil => rfl
  | _, _, .cons _ k => by simp [k.length]
def cnt (l : List Bool) : Nat := l.countP id
theorem cnt_le (l : List Bool) : cnt l ≤ l.length := List.countP_le_length
theorem Le.cnt : ∀ {l m}, Le l m → cnt l ≤ cnt m ∧ (cnt m ≤ cnt l → l = m)
  | _, _, .nil => ⟨Nat.le_refl _, fun _ => rfl⟩
  | _, _, .cons (a := a) (b := b) (l := l) (m := m) h k => by
    have := k.cnt
    unfold Tm.cnt at this ⊢
    cases a <;> cases b <;> simp_all <;> omega
theorem Le.gB : ∀ {l m}, Le l m → ∀ {i}, gB l i = true → gB m i = true
  | _, _, .nil, _, h => h
  | _, _, .cons h k, 0, e => h e
  | _, _, .cons h k, i + 1, e => k.gB (i := i) e
theorem le_set : ∀ (l : List Bool) (i : Nat), Le l (l.set i true)
  | [], _ => .nil
  | a :: l, 0 => .cons (fun _ => rfl) (Le.refl l)
  | a :: l, i + 1 => .cons id (le_set l i)
theorem le_setIf (b : Bool) (l : List Bool) (i : Nat) : Le l (setIf b l i) := by
  unfold setIf
  split
  · exact le_set l i
  · exact Le.refl l
theorem gB_set {l : List Bool} {i j : Nat} (h : gB (l.set i true) j = true) : j = i ∨ gB l j = true := by
  by_cases e : j = i
  · exact .inl e
  · refine .inr ?_
    unfold gB at h ⊢
    rw [List.getD_eq_getElem?_getD, List.getElem?_set_ne (fun x => e x.symm)] at h
    rw [List.getD_eq_getElem?_getD]
    exact h
theorem gB_setIf {b : Bool} {l : List Bool} {i j : Nat} (h : gB (setIf b l i) j = true) : (j = i ∧ b = true) ∨ gB l j = true := by
  unfold setIf at h
  split at h
  · rename_i hb
    rcases gB_set h with e | e
    · exact .inl ⟨e, hb⟩
    · exact .inr e
  · exact .inr h
theorem setIf_same {b : Bool} {l : List Bool} {i : Nat} (h : setIf b l i = l) (hb : b = true) (hi : i < l.length) : gB l i = true := by
  subst hb
  have : l.set i true = l := h
  unfold gB
  rw [List.getD_eq_getElem?_getD, ← this, List.getElem?_set_self hi]
  rfl
def LeS (s s' : List Bool × List Bool) : Prop := Le s.1 s'.1 ∧ Le s.2 s'.2
theorem LeS.refl (s : List Bool × List Bool) : LeS s s := ⟨.refl _, .refl _⟩
theorem LeS.trans {s s' s'' : List Bool × List Bool} (h : LeS s s') (k : LeS s' s'') : LeS s s'' := ⟨h.1.trans k.1, h.2.trans k.2⟩
theorem LeS.antisymm {s s' : List Bool × List Bool} (h : LeS s s') (k : LeS s' s) : s = s' := Prod.ext (h.1.antisymm k.1) (h.2.antisymm k.2)
theorem le_step1 (L : List Tm) (c : List Bool) (i : Nat) (t : Tm) : Le c (step1 L c i t) := ((le_setIf _ _ _).trans (le_setIf _ _ _)).trans (le_setIf _ _ _)
theorem le_give (L : List Tm) (i : Nat) : ∀ (ks : List Tm) (s : List Bool × List Bool), LeS s (give L i ks s)
  | [], s => LeS.refl s
  | k :: ks, s => LeS.trans ⟨le_setIf _ _ _, le_setIf _ _ _⟩ (le_give L i ks _)
theorem le_step (L : List Tm) (s : List Bool × List Bool) (i : Nat) : LeS s (step L s i) := by
  unfold step
  split
  · exact LeS.refl s
  · split
    · exact LeS.trans (s' := (step1 L s.1 i _, s.2)) ⟨le_step1 _ _ _ _, Le.refl _⟩ (le_give _ _ _ _)
    · exact ⟨le_step1 _ _ _ _, Le.refl _⟩
theorem le_steps (L : List Tm) (s : List Bool × List Bool) : ∀ n, LeS s (steps L s n)
  | 0 => LeS.refl s
  | n + 1 => by rw [steps_succ]; exact (le_steps L s n).trans (le_step L _ n)
theorem steps_mono (L : List Tm) (s : List Bool × List Bool) {n m : Nat} (h : n ≤ m) : LeS (steps L s n) (steps L s m) := by
  induction m with
  | zero => obtain rfl : n = 0 := by omega
            exact LeS.refl _
  | succ m ih =>
    by_cases e : n = m + 1
    · subst e; exact LeS.refl _
    · rw [steps_succ]; exact (ih (by omega)).trans (le_step L _ m)
/-- Nothing more comes. -/
def Still (L : List Tm) (s : List Bool × List Bool) : Prop := ∀ i, i < L.length → step L s i = s
theorem still_of {L : List Tm} {s : List Bool × List Bool} (h : steps L s L.length = s) : Still L s := by
  intro i hi
  have h1 : steps L s i = s := by
    have := steps_mono L s (Nat.le_of_lt hi)
    rw [h] at this
    exact LeS.antisymm this (le_steps L s i)
  have h2 : steps L s (i + 1) = s := by
    have := steps_mono L s (show i + 1 ≤ L.length from hi)
    rw [h] at this
    exact LeS.antisymm this (le_steps L s _)
  rw [steps_succ, h1] at h2
  exact h2
theorem steps_still {L : List Tm} {s : List Bool × List Bool} (h : Still L s) : ∀ n, n ≤ L.length → steps L s n = s
  | 0, _ => rfl
  | n + 1, hn => by rw [steps_succ, steps_still h n (by omega)]; exact h n hn
theorem LeS.eq {s s' : List Bool × List Bool} (h : LeS s s') (hc : cnt s'.1 + cnt s'.2 ≤ cnt s.1 + cnt s.2) : s = s' := by
  have h1 := h.1.cnt
  have h2 := h.2.cnt
  exact Prod.ext (h1.2 (by omega)) (h2.2 (by omega))
theorem rounds_le (L : List Tm) (s : List Bool × List Bool) : ∀ r, LeS s (rounds L s r)
  | 0 => LeS.refl s
  | r + 1 => (rounds_le L s r).trans (le_steps L _ _)
theorem rounds_still (L : List Tm) (s : List Bool × List Bool) : ∀ r, Still L (rounds L s r) ∨ r ≤ cnt (rounds L s r).1 + cnt (rounds L s r).2
  | 0 => .inr (Nat.zero_le _)
  | r + 1 => by
    rcases rounds_still L s r with h | h
    · refine .inl ?_
      have : rounds L s (r + 1) = rounds L s r := steps_still h _ (Nat.le_refl _)
      rw [this]; exact h
    · have hl := le_steps L (rounds L s r) L.length
      by_cases hc : cnt (rounds L s (r + 1)).1 + cnt (rounds L s (r + 1)).2 ≤ cnt (rounds L s r).1 + cnt (rounds L s r).2
      · have e := hl.eq hc
        refine .inl ?_
        have : rounds L s (r + 1) = rounds L s r := e.symm
        rw [this]
        exact still_of e.symm
      · exact .inr (by omega)
theorem rounds_end (L : List Tm) (s : List Bool × List Bool) (h1 : s.1.length = L.length) (h2 : s.2.length = L.length) {r : Nat} (hr : 2 * L.length < r) : Still L (rounds L s r) := by
  rcases rounds_still L s r with h | h
  · exact h
  · have hl := rounds_le L s r
    have a := cnt_le (rounds L s r).1
    have b := cnt_le (rounds L s r).2
    have c := hl.1.length
    have d := hl.2.length
    omega
-- what is had can be reckoned
/-- Terms among which all lie that occur in them. -/
structure Clo (L : List Tm) : Prop where
  nd : L.Nodup
  ok : ∀ t ∈ L, t.ok = true
  kid : ∀ t ∈ L, ∀ k ∈ t.kids, k ∈ L
  sec : ∀ t ∈ L, t.kind = 7 ∨ t.kind = 8 → Tm.sec t.user ∈ L
structure Snd (K L : List Tm) (s : List Bool × List Bool) : Prop where
  can : ∀ i (h : i < L.length), gB s.1 i = true → Gk K false L[i]
  part : ∀ i (h : i < L.length), gB s.2 i = true → Gk K true L[i]
theorem Snd.had {K L : List Tm} {s : List Bool × List Bool} (S : Snd K L s) {t : Tm} (ht : t ∈ L) (h : gB s.1 (idx L t) = true) : Gk K false t := by
  have := S.can _ (idx_lt ht) h
  rwa [idx_at] at this
theorem Snd.hadC {K L : List Tm} {c : List Bool} (S : ∀ i (h : i < L.length), gB c i = true → Gk K false L[i]) {t : Tm} (ht : t ∈ L) (h : gB c (idx L t) = true) : Gk K false t := by
  have := S _ (idx_lt ht) h
  rwa [idx_at] at this
theorem snd_set {K L : List Tm} {b : Bool} {m : Bool} {c : List Bool} (S : ∀ i (h : i < L.length), gB c i = true → Gk K m L[i]) {j : Nat} (hj : ∀ h : j < L.length, b = true → Gk K m L[j]) : ∀ i (h : i < L.length), gB (setIf b c j) i = true → Gk K m L[i] := fun i h e => by
  rcases gB_setIf e with ⟨rfl, hb⟩ | e
  · exact hj h hb
  · exact S i h e
theorem kids_kind {t : Tm} (h : t.ok = true) : t.kids.length = nk t.kind ∧ 1 ≤ t.kind ∧ t.kind ≤ 8 := by
  cases t with
  | mk k u n s l =>
    rw [ok] at h
    simp only [Bool.and_eq_true, one, decide_eq_true_eq, beq_iff_eq] at h
    exact ⟨h.1.2, h.1.1.1.1, h.1.1.1.2⟩
theorem allC_gk {K L : List Tm} {c : List Bool} (S : ∀ i (h : i < L.length), gB c i = true → Gk K false L[i]) {ks : List Tm} (hk : ∀ k ∈ ks, k ∈ L) (h : allC L c ks = true) : ∀ k ∈ ks, Gk K false k := fun k hm => by
  unfold allC at h
  exact Snd.hadC S (hk k hm) (List.all_eq_true.1 h k hm)
theorem step1_snd {K L : List Tm} (C : Clo L) {c : List Bool} (S : ∀ i (h : i < L.length), gB c i = true → Gk K false L[i]) {i : Nat} (hi : i < L.length) : ∀ j (h : j < L.length), gB (step1 L c i L[i]) j = true → Gk K false L[j] := by
  have hm := List.getElem_mem hi
  have hok := kids_kind (C.ok _ hm)
  have a1 := snd_set (b := L[i].kind == 1) S (j := i) fun _ hb => by
    have hk : L[i].kind = 1 := by simpa using hb
    refine .make (by unfold isAtomB; rw [hk]; rfl) fun n hn => ?_
    unfold needs at hn
    rw [if_neg (by omega)] at hn
    have : L[i].kids = [] := List.eq_nil_of_length_eq_zero (by rw [hok.1, hk]; rfl)
    rw [this] at hn
    cases hn
  have a2 := snd_set (b := decide (4 ≤ L[i].kind ∧ L[i].kind ≤ 7) && allC L (setIf (L[i].kind == 1) c i) L[i].kids) a1 (j := i) fun _ hb => by
    simp only [Bool.and_eq_true, decide_eq_true_eq] at hb
    refine .make (by unfold isAtomB; simp; omega) fun n hn => ?_
    unfold needs at hn
    rw [if_neg (by omega)] at hn
    exact allC_gk a1 (C.kid _ hm) hb.2 n hn
  exact snd_set (b := L[i].kind == 8 && (allC L _ L[i].kids && canSec L _ L[i].user)) a2 (j := i) fun _ hb => by
    simp only [Bool.and_eq_true, beq_iff_eq] at hb
    refine .make (by unfold isAtomB; rw [hb.1]; rfl) fun n hn => ?_
    unfold needs at hn
    rw [if_pos hb.1] at hn
    rcases List.mem_cons.1 hn with rfl | hn
    · exact Snd.hadC a2 (C.sec _ hm (.inr hb.1)) hb.2.2
    · exact allC_gk a2 (C.kid _ hm) hb.2.1 n hn
theorem give_snd {K L : List Tm} {i : Nat} (hi : i < L.length) : ∀ (ks : List Tm) (s : List Bool × List Bool), Snd K L s → (∀ k ∈ ks, k ∈ L) → (Gk K false L[i] → ∀ k ∈ ks, Gk K false k) → (Gk K true L[i] → ∀ k ∈ ks, Gk K true k) → Snd K L (give L i ks s)
  | [], s, S, _, _, _ => S
  | k :: ks, s, S, hk, h1, h2 => by
    refine give_snd hi ks _ ⟨?_, ?_⟩ (fun x hx => hk x (List.mem_cons_of_mem _ hx)) (fun g x hx => h1 g x (List.mem_cons_of_mem _ hx)) (fun g x hx => h2 g x (List.mem_cons_of_mem _ hx))
    · refine snd_set S.can fun h hb => ?_
      rw [idx_at h]
      exact h1 (S.can i hi hb) k (List.mem_cons_self ..)
    · refine snd_set S.part fun h hb => ?_
      rw [idx_at h]
      exact h2 (S.part i hi hb) k (List.mem_cons_self ..)
theorem gk_inner {K : List Tm} {t : Tm} (hok : t.ok = true) (h4 : t.kind = 4 ∨ t.kind = 6 ∨ t.kind = 7 ∨ t.kind = 8) (hk : ∀ k ∈ keysT t, Gk K false k) : (Gk K false t → ∀ k ∈ inner t, Gk K false k) ∧ (Gk K true t → ∀ k ∈ inner t, Gk K true k) := by
  have hin : ∀ k ∈ inner t, k ∈ inside t := fun k h => by
    unfold inner at h
    unfold inside
    rcases h4 with e | e | e | e
    · rw [if_neg (by omega)] at h ⊢; rw [if_pos (by omega)]; exact h
    · rw [if_pos e] at h ⊢; exact h
    · rw [if_neg (by omega)] at h ⊢; rw [if_pos (by omega)]; exact h
    · rw [if_neg (by omega)] at h ⊢; rw [if_pos (by omega)]; exact h
  have hkid : ∀ k ∈ inner t, k ∈ needs t := fun k h => by
    unfold inner at h
    unfold needs
    split at h
    · rw [if_neg (by omega)]; exact List.mem_of_mem_drop h
    · split
      · exact List.mem_cons_of_mem _ h
      · exact h
  refine ⟨fun g k h => ?_, fun g k h => .opened g hk (hin k h)⟩
  cases g with
  | weak g => exact .weak (.opened g hk (hin k h))
  | make _ g => exact g k (hkid k h)
theorem step_snd {K L : List Tm} (C : Clo L) {s : List Bool × List Bool} (S : Snd K L s) (i : Nat) (hi : i < L.length) : Snd K L (step L s i) := by
  have hm := List.getElem_mem hi
  have a := step1_snd C S.can hi
  unfold step
  rw [List.getElem?_eq_getElem hi]
  simp only
  split
  · rename_i ho
    unfold opensC at ho
    simp only [Bool.or_eq_true, Bool.and_eq_true, beq_iff_eq] at ho
    have hk : (∀ k ∈ keysT L[i], Gk K false k) ∧ (L[i].kind = 4 ∨ L[i].kind = 6 ∨ L[i].kind = 7 ∨ L[i].kind = 8) := by
      unfold keysT
      rcases ho with ((e | e) | e) | e
      · rw [if_neg (by omega), if_neg (by omega)]; exact ⟨(fun k h => by cases h), .inl e⟩
      · rw [if_neg (by omega), if_neg (by omega)]; exact ⟨(fun k h => by cases h), .inr (.inr (.inr e))⟩
      · rw [if_pos e.1]
        refine ⟨fun k h => ?_, .inr (.inl e.1)⟩
        have e2 := e.2
        have hkid := C.kid _ hm
        cases hl : L[i].kids with
        | nil => rw [hl] at h; cases h
        | cons k0 ks =>
          rw [hl] at h e2 hkid
          obtain rfl : k = k0 := by simpa using h
          exact Snd.hadC a (hkid k (List.mem_cons_self ..)) e2
      · rw [if_neg (by omega), if_pos e.1]
        refine ⟨fun k h => ?_, .inr (.inr (.inl e.1))⟩
        obtain rfl := List.mem_singleton.1 h
        exact Snd.hadC a (C.sec _ hm (.inl e.1)) e.2
    have g := gk_inner (K := K) (C.ok _ hm) hk.2 hk.1
    refine give_snd hi _ _ ⟨a, S.part⟩ (fun k h => C.kid _ hm k ?_) g.1 g.2
    unfold inner at h
    split at h
    · exact List.mem_of_mem_drop h
    · exact h
  · exact ⟨a, S.part⟩
theorem steps_snd {K L : List Tm} (C : Clo L) {s : List Bool × List Bool} (S : Snd K L s) : ∀ n, n ≤ L.length → Snd K L (steps L s n)
  | 0, _ => S
  | n + 1, h => by rw [steps_succ]; exact step_snd C (steps_snd C S n (by omega)) n h
theorem rounds_snd {K L : List Tm} (C : Clo L) {s : List Bool × List Bool} (S : Snd K L s) : ∀ r, Snd K L (rounds L s r)
  | 0 => S
  | r + 1 => steps_snd C (rounds_snd C S r) _ (Nat.le_refl _)
-- what can be reckoned is had
structure Fix (K L : List Tm) (s : List Bool × List Bool) : Prop where
  known : ∀ t ∈ K, t ∈ L ∧ gB s.1 (idx L t) = true ∧ gB s.2 (idx L t) = true
  make : ∀ t ∈ L, isAtomB t = false → (∀ n ∈ needs t, gB s.1 (idx L n) = true) → gB s.1 (idx L t) = true
  opened : ∀ t ∈ L, (∀ k ∈ keysT t, gB s.1 (idx L k) = true) → ∀ m ∈ inside t, (gB s.1 (idx L t) = true → gB s.1 (idx L m) = true) ∧ (gB s.2 (idx L t) = true → gB s.2 (idx L m) = true)
theorem needs_in {L : List Tm} (C : Clo L) {t : Tm} (ht : t ∈ L) : ∀ n ∈ needs t, n ∈ L := fun n hn => by
  unfold needs at hn
  split at hn
  · rename_i h
    rcases List.mem_cons.1 hn with rfl | hn
    · exact C.sec t ht (.inr h)
    · exact C.kid t ht n hn
  · exact C.kid t ht n hn
theorem keys_in {L : List Tm} (C : Clo L) {t : Tm} (ht : t ∈ L) : ∀ n ∈ keysT t, n ∈ L := fun n hn => by
  unfold keysT at hn
  split at hn
  · exact C.kid t ht n (List.mem_of_mem_take hn)
  · split at hn
    · rename_i h
      obtain rfl := List.mem_singleton.1 hn
      exact C.sec t ht (.inl h)
    · cases hn
theorem inside_in {L : List Tm} (C : Clo L) {t : Tm} (ht : t ∈ L) : ∀ n ∈ inside t, n ∈ L := fun n hn => by
  unfold inside at hn
  split at hn
  · exact C.kid t ht n (List.mem_of_mem_drop hn)
  · split at hn
    · exact C.kid t ht n hn
    · cases hn
inductive Syn (L : List Tm) (s : List Bool × List Bool) : Tm → Prop
  | base {t} : t ∈ L → gB s.1 (idx L t) = true → Syn L s t
  | make {t} : isAtomB t = false → (∀ n ∈ needs t, Syn L s n) → Syn L s t
theorem Syn.had {K L : List Tm} {s : List Bool × List Bool} (C : Clo L) (F : Fix K L s) : ∀ {t}, Syn L s t → t ∈ L → gB s.1 (idx L t) = true := by
  intro t h
  induction h with
  | base _ h => exact fun _ => h
  | make ha _ ih => exact fun ht => F.make _ ht ha fun n hn => ih n hn (needs_in C ht n hn)
theorem gk_had {K L : List Tm} {s : List Bool × List Bool} (C : Clo L) (F : Fix K L s) : ∀ {b t}, Gk K b t → (b = true → t ∈ L ∧ gB s.1 (idx L t) = true ∧ gB s.2 (idx L t) = true) ∧ (b = false → Syn L s t) := by
  intro b t h
  induction h with
  | known h => exact ⟨fun _ => F.known _ h, fun e => by cases e⟩
  | opened _ _ hm ih ihk =>
    refine ⟨fun _ => ?_, fun e => by cases e⟩
    obtain ⟨h1, h2, h3⟩ := ih.1 rfl
    have := F.opened _ h1 (fun k hk => (ihk k hk).2 rfl |>.had C F (keys_in C h1 k hk)) _ hm
    exact ⟨inside_in C h1 _ hm, this.1 h2, this.2 h3⟩
  | weak _ ih => exact ⟨(fun e => by cases e), fun _ => .base (ih.1 rfl).1 (ih.1 rfl).2.1⟩
  | make ha _ ih => exact ⟨(fun e => by cases e), fun _ => .make ha fun n hn => (ih n hn).2 rfl⟩
theorem give_same {L : List Tm} {i : Nat} : ∀ (ks : List Tm) (s : List Bool × List Bool), give L i ks s = s → (∀ k ∈ ks, idx L k < s.1.length ∧ idx L k < s.2.length) → ∀ k ∈ ks, (gB s.1 i = true → gB s.1 (idx L k) = true) ∧ (gB s.2 i = true → gB s.2 (idx L k) = true)
  | [], s, _, _, k, h => by cases h
  | k0 :: ks, s, h, hl, k, hk => by
    have l1 : LeS s (setIf (gB s.1 i) s.1 (idx L k0), setIf (gB s.2 i) s.2 (idx L k0)) := ⟨le_setIf _ _ _, le_setIf _ _ _⟩
    have l2 := le_give L i ks (setIf (gB s.1 i) s.1 (idx L k0), setIf (gB s.2 i) s.2 (idx L k0))
    have h' : give L i ks (setIf (gB s.1 i) s.1 (idx L k0), setIf (gB s.2 i) s.2 (idx L k0)) = s := h
    rw [h'] at l2
    have e := LeS.antisymm l1 l2
    rw [← e] at h'
    rcases List.mem_cons.1 hk with rfl | hk
    · have hk0 := hl k (List.mem_cons_self ..)
      exact ⟨fun g => setIf_same (congrArg Prod.fst e).symm g hk0.1, fun g => setIf_same (congrArg Prod.snd e).symm g hk0.2⟩
    · exact give_same ks s h' (fun x hx => hl x (List.mem_cons_of_mem _ hx)) k hk
theorem fix_of {K L : List Tm} (C : Clo L) {s : List Bool × List Bool} (h1 : s.1.length = L.length) (h2 : s.2.length = L.length) (S : Still L s) (hK : ∀ t ∈ K, t ∈ L ∧ gB s.1 (idx L t) = true ∧ gB s.2 (idx L t) = true) : Fix K L s := by
  have key : ∀ t ∈ L, step1 L s.1 (idx L t) t = s.1 ∧ (opensC L s.1 t = true → give L (idx L t) (inner t) s = s) := fun t ht => by
    have hi := idx_lt ht
    have e := S _ hi
    have la := le_step1 L s.1 (idx L t) t
    unfold step at e
    rw [List.getElem?_eq_getElem hi, idx_at hi] at e
    simp only at e
    split at e
    · rename_i ho
      have lb := (le_give L (idx L t) (inner t) (step1 L s.1 (idx L t) t, s.2)).1
      rw [e] at lb
      have e1 : step1 L s.1 (idx L t) t = s.1 := (la.antisymm lb).symm
      rw [e1] at e ho
      exact ⟨e1, fun _ => e⟩
    · rename_i ho
      have e1 : step1 L s.1 (idx L t) t = s.1 := congrArg Prod.fst e
      rw [e1] at ho
      exact ⟨e1, fun h => absurd h ho⟩
  refine ⟨hK, fun t ht ha hn => ?_, fun t ht hk m hm => ?_⟩
  · have e := (key t ht).1
    have hi := idx_lt ht
    have hok := kids_kind (C.ok t ht)
    unfold step1 at e
    simp only at e
    obtain ⟨c1, hc1⟩ : ∃ c, c = setIf (t.kind == 1) s.1 (idx L t) := ⟨_, rfl⟩
    rw [← hc1] at e
    obtain ⟨c2, hc2⟩ : ∃ c, c = setIf (decide (4 ≤ t.kind ∧ t.kind ≤ 7) && allC L c1 t.kids) c1 (idx L t) := ⟨_, rfl⟩
    rw [← hc2] at e
    have l1 : Le s.1 c1 := hc1 ▸ le_setIf _ _ _
    have l2 : Le c1 c2 := hc2 ▸ le_setIf _ _ _
    have l3 := le_setIf (t.kind == 8 && (allC L c2 t.kids && canSec L c2 t.user)) c2 (idx L t)
    rw [e] at l3
    have e2 : c2 = s.1 := l3.antisymm (l1.trans l2)
    rw [e2] at l2
    have e1 : c1 = s.1 := l2.antisymm l1
    rw [e1] at hc1 hc2
    rw [e2] at e hc2
    unfold isAtomB at ha
    simp only [Bool.or_eq_false_iff, beq_eq_false_iff_ne, ne_eq] at ha
    unfold needs at hn
    by_cases h8 : t.kind = 8
    · rw [if_pos h8] at hn
      refine setIf_same e ?_ (by rw [h1]; exact hi)
      simp only [Bool.and_eq_true, beq_iff_eq]
      refine ⟨h8, ?_, hn _ (List.mem_cons_self ..)⟩
      unfold allC
      exact List.all_eq_true.2 fun k hk => hn k (List.mem_cons_of_mem _ hk)
    · rw [if_neg h8] at hn
      by_cases hk1 : t.kind = 1
      · exact setIf_same hc1.symm (by simpa using hk1) (by rw [h1]; exact hi)
      · refine setIf_same hc2.symm ?_ (by rw [h1]; exact hi)
        simp only [Bool.and_eq_true, decide_eq_true_eq]
        refine ⟨⟨by omega, by omega⟩, ?_⟩
        unfold allC
        exact List.all_eq_true.2 hn
  · have hi := idx_lt ht
    have hok := kids_kind (C.ok t ht)
    have ho : opensC L s.1 t = true ∧ m ∈ inner t := by
      unfold inside at hm
      unfold keysT at hk
      unfold opensC inner
      simp only [Bool.or_eq_true, Bool.and_eq_true, beq_iff_eq]
      by_cases h6 : t.kind = 6
      · rw [if_pos h6] at hm hk ⊢
        refine ⟨.inl (.inr ⟨h6, ?_⟩), hm⟩
        cases hl : t.kids with
        | nil => rw [hl] at hm; cases hm
        | cons k0 ks => rw [hl] at hk; exact hk k0 (by simp)
      · rw [if_neg h6] at hm hk ⊢
        split at hm
        · rename_i h
          refine ⟨?_, hm⟩
          rcases h with h | h | h
          · exact .inl (.inl (.inl h))
          · rw [if_pos h] at hk
            exact .inr ⟨h, hk _ (List.mem_singleton.2 rfl)⟩
          · exact .inl (.inl (.inr h))
        · cases hm
    refine give_same (inner t) s ((key t ht).2 ho.1) (fun k hk => ?_) m ho.2
    have : k ∈ L := C.kid t ht k (by
      unfold inner at hk
      split at hk
      · exact List.mem_of_mem_drop hk
      · exact hk)
    exact ⟨by rw [h1]; exact idx_lt this, by rw [h2]; exact idx_lt this⟩
/-- The document's rounds tell what can be reckoned. -/
theorem rounds_tell {K L : List Tm} (C : Clo L) {s : List Bool × List Bool} (h1 : s.1.length = L.length) (h2 : s.2.length = L.length) (S : Snd K L s) (hK : ∀ t ∈ K, t ∈ L ∧ gB s.1 (idx L t) = true ∧ gB s.2 (idx L t) = true) {r : Nat} (hr : 2 * L.length < r) :
    ∀ t ∈ L, (gB (rounds L s r).1 (idx L t) = true ↔ Gk K false t) ∧ (gB (rounds L s r).2 (idx L t) = true ↔ Gk K true t) := fun t ht => by
  have hl := rounds_le L s r
  have F : Fix K L (rounds L s r) := fix_of C (hl.1.length ▸ h1) (hl.2.length ▸ h2) (rounds_end L s h1 h2 hr) fun x hx => ⟨(hK x hx).1, hl.1.gB (hK x hx).2.1, hl.2.gB (hK x hx).2.2⟩
  have D := rounds_snd C S r
  refine ⟨⟨D.had ht, fun g => ((gk_had C F g).2 rfl).had C F ht⟩, fun e => ?_, fun g => ((gk_had C F g).1 rfl).2.2⟩
  have := D.part _ (idx_lt ht) e
  rwa [idx_at] at this
end Tm
namespace Tm
def addT (l : List Tm) (t : Tm) : List Tm := if idx l t < l.length then l else l ++ [t]
mutual
/-- Terms and all that occur in one, each once. -/
def withT : Tm → List Tm → List Tm
  | .mk k u n s ks, l => if idx l (.mk k u n s ks) < l.length then l else withAll ks (if k = 7 ∨ k = 8 then addT (l ++ [.mk k u n s ks]) (sec u) else l ++ [.mk k u n s ks])
def withAll : List Tm → List Tm → List Tm
  | [], l => l
  | t :: ts, l => withAll ts (withT t l)
end
theorem idx_iff {l : List Tm} {t : Tm} : idx l t < l.length ↔ t ∈ l := ⟨fun h => by have := idx_at h; exact this ▸ List.getElem_mem h, idx_lt⟩
theorem withT_eq (t : Tm) (l : List Tm) : withT t l = if idx l t < l.length then l else withAll t.kids (if t.kind = 7 ∨ t.kind = 8 then addT (l ++ [t]) (sec t.user) else l ++ [t]) := by
  cases t
  rw [withT]
  rfl
/-- What there is of terms: each once, each may be, and those apart, what is in them is there, too. -/
structure CloE (A : List Tm) (L : List Tm) : Prop where
  nd : L.Nodup
  ok : ∀ t ∈ L, t.ok = true
  kid : ∀ t ∈ L, t ∈ A ∨ (∀ k ∈ t.kids, k ∈ L) ∧ (t.kind = 7 ∨ t.kind = 8 → Tm.sec t.user ∈ L)
theorem CloE.clo {L : List Tm} (h : CloE [] L) : Clo L := ⟨h.nd, h.ok, fun t ht => ((h.kid t ht).resolve_left (by simp)).1, fun t ht => ((h.kid t ht).resolve_left (by simp)).2⟩
theorem CloE.nil : CloE [] [] := ⟨List.nodup_nil, by simp, by simp⟩
theorem nodup_snoc {l : List Tm} {t : Tm} (h : l.Nodup) (ht : t ∉ l) : (l ++ [t]).Nodup := by
  rw [List.nodup_append]
  refine ⟨h, by simp, fun a ha b hb => ?_⟩
  obtain rfl := List.mem_singleton.1 hb
  exact fun e => ht (e ▸ ha)
theorem CloE.push {A L : List Tm} (h : CloE A L) {t : Tm} (ht : t ∉ L) (hok : t.ok = true) : CloE (t :: A) (L ++ [t]) := by
  refine ⟨nodup_snoc h.nd ht, fun x hx => ?_, fun x hx => ?_⟩
  · rcases List.mem_append.1 hx with hx | hx
    · exact h.ok x hx
    · obtain rfl := List.mem_singleton.1 hx; exact hok
  · rcases List.mem_append.1 hx with hx | hx
    · rcases h.kid x hx with e | e
      · exact .inl (List.mem_cons_of_mem _ e)
      · exact .inr ⟨fun k hk => List.mem_append_left _ (e.1 k hk), fun hk => List.mem_append_left _ (e.2 hk)⟩
    · exact .inl (by simp [List.mem_singleton.1 hx])
theorem CloE.add {A L : List Tm} (h : CloE A L) {t : Tm} (hok : t.ok = true) (h0 : t.kids = []) (h7 : ¬ (t.kind = 7 ∨ t.kind = 8)) : CloE A (addT L t) ∧ t ∈ addT L t ∧ ∀ x ∈ L, x ∈ addT L t := by
  unfold addT
  split
  · rename_i hi
    exact ⟨h, idx_iff.1 hi, fun x hx => hx⟩
  · rename_i hi
    have ht : t ∉ L := fun e => hi (idx_iff.2 e)
    refine ⟨⟨nodup_snoc h.nd ht, fun x hx => ?_, fun x hx => ?_⟩, by simp, fun x hx => List.mem_append_left _ hx⟩
    · rcases List.mem_append.1 hx with hx | hx
      · exact h.ok x hx
      · obtain rfl := List.mem_singleton.1 hx; exact hok
    · rcases List.mem_append.1 hx with hx | hx
      · rcases h.kid x hx with e | e
        · exact .inl e
        · exact .inr ⟨fun k hk => List.mem_append_left _ (e.1 k hk), fun hk => List.mem_append_left _ (e.2 hk)⟩
      · obtain rfl := List.mem_singleton.1 hx
        exact .inr ⟨(fun k hk => by rw [h0] at hk; cases hk), fun e => absurd e h7⟩
theorem addT_length (L : List Tm) (t : Tm) : (addT L t).length ≤ L.length + 1 := by
  unfold addT
  split
  · omega
  · simp
theorem sec_ok1 {u : Int} (h1 : 1 ≤ u) (h2 : u ≤ 6) : (Tm.sec u).ok = true := by
  obtain rfl | rfl | rfl | rfl | rfl | rfl : u = 1 ∨ u = 2 ∨ u = 3 ∨ u = 4 ∨ u = 5 ∨ u = 6 := by omega
  all_goals decide
theorem user_ok {t : Tm} (h : t.ok = true) (h7 : t.kind = 7 ∨ t.kind = 8) : 1 ≤ t.user ∧ t.user ≤ 6 := by
  cases t with
  | mk k u n s l =>
    rw [ok] at h
    simp only [Bool.and_eq_true, one, may, decide_eq_true_eq, beq_iff_eq] at h
    have hu := h.1.1.2.1.2
    have hk : k = 7 ∨ k = 8 := h7
    have hh : hasU k = true := by rcases hk with e | e <;> rw [e] <;> rfl
    rw [if_pos hh, if_pos hh] at hu
    exact hu
theorem okAll_kids {t : Tm} (h : t.ok = true) : okAll t.kids = true := by
  cases t with
  | mk k u n s l =>
    rw [ok] at h
    simp only [Bool.and_eq_true] at h
    exact h.2
mutual
theorem withT_clo : ∀ (t : Tm) (A L : List Tm), CloE A L → t.ok = true → CloE A (withT t L) ∧ t ∈ withT t L ∧ (∀ x ∈ L, x ∈ withT t L) ∧ (withT t L).length ≤ L.length + 2 * t.count
  | .mk k u n s ks, A, L, h, hok => by
    rw [withT]
    split
    · rename_i hi
      exact ⟨h, idx_iff.1 hi, fun x hx => hx, by omega⟩
    · rename_i hi
      have ht : Tm.mk k u n s ks ∉ L := fun e => hi (idx_iff.2 e)
      have h1 := h.push ht hok
      have hks := okAll_kids hok
      obtain ⟨M, hM⟩ : ∃ M, M = (if k = 7 ∨ k = 8 then addT (L ++ [.mk k u n s ks]) (sec u) else L ++ [.mk k u n s ks]) := ⟨_, rfl⟩
      have h2 : CloE (.mk k u n s ks :: A) M ∧ (k = 7 ∨ k = 8 → sec u ∈ M) ∧ (∀ x ∈ L ++ [.mk k u n s ks], x ∈ M) ∧ M.length ≤ L.length + 2 := by
        rw [hM]
        split
        · rename_i h7
          have hu := user_ok hok h7
          have := h1.add (sec_ok1 hu.1 hu.2) rfl (by intro e; rcases e with e | e <;> cases e)
          exact ⟨this.1, fun _ => this.2.1, this.2.2, Nat.le_trans (addT_length _ _) (by simp)⟩
        · rename_i h7
          exact ⟨h1, fun e => absurd e h7, fun x hx => hx, by simp⟩
      rw [← hM]
      obtain ⟨r1, r2, r3, r4⟩ := withAll_clo ks _ M h2.1 hks
      have hself : Tm.mk k u n s ks ∈ withAll ks M := r3 _ (h2.2.2.1 _ (by simp))
      refine ⟨⟨r1.nd, r1.ok, fun x hx => ?_⟩, hself, fun x hx => r3 x (h2.2.2.1 x (List.mem_append_left _ hx)), ?_⟩
      · rcases r1.kid x hx with e | e
        · rcases List.mem_cons.1 e with rfl | e
          · exact .inr ⟨fun k' hk' => r2 k' hk', fun h7 => r3 _ (h2.2.1 h7)⟩
          · exact .inl e
        · exact .inr e
      · have := h2.2.2.2
        rw [count]
        omega
theorem withAll_clo : ∀ (ts : List Tm) (A L : List Tm), CloE A L → okAll ts = true → CloE A (withAll ts L) ∧ (∀ t ∈ ts, t ∈ withAll ts L) ∧ (∀ x ∈ L, x ∈ withAll ts L) ∧ (withAll ts L).length ≤ L.length + 2 * countAll ts
  | [], A, L, h, _ => by
    rw [withAll]
    exact ⟨h, by simp, fun x hx => hx, by omega⟩
  | t :: ts, A, L, h, hok => by
    rw [withAll]
    rw [okAll] at hok
    simp only [Bool.and_eq_true] at hok
    obtain ⟨a1, a2, a3, a4⟩ := withT_clo t A L h hok.1
    obtain ⟨b1, b2, b3, b4⟩ := withAll_clo ts A (withT t L) a1 hok.2
    refine ⟨b1, fun x hx => ?_, fun x hx => b3 x (a3 x hx), by rw [countAll]; omega⟩
    rcases List.mem_cons.1 hx with rfl | hx
    · exact b3 _ a2
    · exact b2 x hx
end
theorem withAll_append (ts us L : List Tm) : withAll (ts ++ us) L = withAll us (withAll ts L) := by
  induction ts generalizing L with
  | nil => rw [List.nil_append, withAll]
  | cons t ts ih => rw [List.cons_append, withAll, withAll, ih]
mutual
theorem withT_len : ∀ (t : Tm) (L : List Tm), (withT t L).length ≤ L.length + 2 * t.count
  | .mk k u n s ks, L => by
    rw [withT]
    split
    · omega
    · have h1 := withAll_len ks (if k = 7 ∨ k = 8 then addT (L ++ [.mk k u n s ks]) (sec u) else L ++ [.mk k u n s ks])
      have h2 : (if k = 7 ∨ k = 8 then addT (L ++ [.mk k u n s ks]) (sec u) else L ++ [.mk k u n s ks]).length ≤ L.length + 2 := by
        split
        · exact Nat.le_trans (addT_length _ _) (by simp)
        · simp
      rw [count]
      omega
theorem withAll_len : ∀ (ts L : List Tm), (withAll ts L).length ≤ L.length + 2 * countAll ts
  | [], L => by rw [withAll]; omega
  | t :: ts, L => by
    rw [withAll, countAll]
    have h1 := withT_len t L
    have h2 := withAll_len ts (withT t L)
    omega
end
theorem withT_sec (u : Int) (L : List Tm) : withT (sec u) L = addT L (sec u) := by
  rw [withT_eq]
  unfold addT
  split
  · rfl
  · have h7 : ¬ ((sec u).kind = 7 ∨ (sec u).kind = 8) := by intro e; rcases e with e | e <;> cases e
    rw [if_neg h7, show (sec u).kids = [] from rfl, withAll]
theorem withAll_snoc (ks L : List Tm) (j : Nat) (hj : j < ks.length) : withAll (ks.take (j + 1)) L = withT ks[j] (withAll (ks.take j) L) := by
  rw [List.take_succ_eq_append_getElem hj, withAll_append, withAll, withAll]
theorem countAll_take (ks : List Tm) (j : Nat) (hj : j < ks.length) : countAll (ks.take j) + count ks[j] ≤ countAll ks := by
  have h1 := countAll_append (ks.take (j + 1)) (ks.drop (j + 1))
  rw [List.take_append_drop, List.take_succ_eq_append_getElem hj, countAll_append] at h1
  simp only [countAll] at h1
  omega
end Tm
end Go.Proofs.YtchanildogjhgaaDoor

