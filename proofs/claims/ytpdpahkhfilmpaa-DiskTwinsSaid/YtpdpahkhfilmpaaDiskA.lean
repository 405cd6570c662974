/-
  Package disk: how a disk lies in memory; power, ends, has, Len, Ops, Dead; what asks. Contracts of mine.
-/
import Derived.Test.YtpdpahkhfilmpaaStory
import Derived.Lib.Hide
namespace Go.Proofs.Ytpdpahkhfilmpaa
open Go.RowKit

/-- The cells of a disk that stands so. -/
def dc (S : St) (m : Nat) (L : Value) : List Value := [.int .i64 (S.n : Int), .map (some m), L, .bool S.dead, .int .i64 S.armed, .int .i64 S.failing, .int .i64 (S.ops : Int)]
/-- Its numbers fit. -/
structure Fits (S : St) : Prop where
  n : S.n ≤ 2048
  a0 : -9223372036854775808 ≤ S.armed
  a1 : S.armed < 9223372036854775808
  f0 : -9223372036854775808 ≤ S.failing
  f1 : S.failing < 9223372036854775808
  ops : S.ops ≤ 1099511627776
theorem dc_cells {w : World} {g m : Nat} {S : St} {L : Value} (h : Holds w g 74 (dc S m L)) :
    w.cell? ⟨g, 0, none⟩ = some (.int .i64 (S.n : Int)) ∧ w.cell? ⟨g, 1, none⟩ = some (.map (some m)) ∧ w.cell? ⟨g, 2, none⟩ = some L ∧ w.cell? ⟨g, 3, none⟩ = some (.bool S.dead) ∧ w.cell? ⟨g, 4, none⟩ = some (.int .i64 S.armed) ∧
    w.cell? ⟨g, 5, none⟩ = some (.int .i64 S.failing) ∧ w.cell? ⟨g, 6, none⟩ = some (.int .i64 (S.ops : Int)) :=
  ⟨h.cell 0, h.cell 1, h.cell 2, h.cell 3, h.cell 4, h.cell 5, h.cell 6⟩

theorem power_c (g : Nat) (d : Bool) (w : World) (h : w.cell? ⟨g, 3, none⟩ = some (.bool d)) : Calls Try.prog 53 #[.pointer (some ⟨g, 0, none⟩)] w fun e w' => e = .returned (.int .i64 (if d then 9 else 0)) ∧ w' = w := by
  cases d <;>
  · go_enter Try.func53, Try.ntmps53
    go_wp2
    go_ret
    exact ⟨rfl, rfl⟩
theorem power_nil (w : World) : Calls Try.prog 53 #[.pointer none] w fun e w' => e = .returned (.int .i64 1) ∧ w' = w := by
  go_enter Try.func53, Try.ntmps53
  go_wp2
  go_ret
  exact ⟨rfl, rfl⟩
theorem len_c (g : Nat) (n : Int) (w : World) (h : w.cell? ⟨g, 0, none⟩ = some (.int .i64 n)) : Calls Try.prog 26 #[.pointer (some ⟨g, 0, none⟩)] w fun e w' => e = .returned (.int .i64 n) ∧ w' = w := by
  go_enter Try.func26, Try.ntmps26
  go_wp2
  go_ret
  exact ⟨rfl, rfl⟩
theorem len_nil (w : World) : Calls Try.prog 26 #[.pointer none] w fun e w' => e = .returned (.int .i64 0) ∧ w' = w := by
  go_enter Try.func26, Try.ntmps26
  go_wp2
  go_ret
  exact ⟨rfl, rfl⟩
theorem ops_c (g : Nat) (n : Int) (w : World) (h : w.cell? ⟨g, 6, none⟩ = some (.int .i64 n)) : Calls Try.prog 27 #[.pointer (some ⟨g, 0, none⟩)] w fun e w' => e = .returned (.int .i64 n) ∧ w' = w := by
  go_enter Try.func27, Try.ntmps27
  go_wp2
  go_ret
  exact ⟨rfl, rfl⟩
theorem ops_nil (w : World) : Calls Try.prog 27 #[.pointer none] w fun e w' => e = .returned (.int .i64 0) ∧ w' = w := by
  go_enter Try.func27, Try.ntmps27
  go_wp2
  go_ret
  exact ⟨rfl, rfl⟩
theorem dead_c (g : Nat) (d : Bool) (w : World) (h : w.cell? ⟨g, 3, none⟩ = some (.bool d)) : Calls Try.prog 28 #[.pointer (some ⟨g, 0, none⟩)] w fun e w' => e = .returned (.bool d) ∧ w' = w := by
  go_enter Try.func28, Try.ntmps28
  go_wp2
  go_ret
  exact ⟨rfl, rfl⟩
theorem dead_nil (w : World) : Calls Try.prog 28 #[.pointer none] w fun e w' => e = .returned (.bool false) ∧ w' = w := by
  go_enter Try.func28, Try.ntmps28
  go_wp2
  go_ret
  exact ⟨rfl, rfl⟩
theorem has_c (g n : Nat) (i : Int) (w : World) (h : w.cell? ⟨g, 0, none⟩ = some (.int .i64 (n : Int))) : Calls Try.prog 42 #[.pointer (some ⟨g, 0, none⟩), .int .i64 i] w fun e w' => e = .returned (.bool (decide (0 ≤ i ∧ i < (n : Int)))) ∧ w' = w := by
  by_cases h0 : 0 ≤ i
  · go_enter Try.func42, Try.ntmps42
    go_wp2_with (go_at_call 26; refine (len_c g n _ h).mono ?_; rintro e w1 ⟨rfl, rfl⟩)
    go_ret
    refine ⟨?_, rfl⟩
    simp [h0]
  · have h0 : i < 0 := by omega
    go_enter Try.func42, Try.ntmps42
    go_wp2_with fail
    go_ret
    refine ⟨?_, rfl⟩
    simp
    intro _
    omega
theorem has_nil (i : Int) (w : World) : Calls Try.prog 42 #[.pointer none, .int .i64 i] w fun e w' => e = .returned (.bool false) ∧ w' = w := by
  by_cases h0 : 0 ≤ i
  · go_enter Try.func42, Try.ntmps42
    go_wp2_with (go_at_call 26; refine (len_nil _).mono ?_; rintro e w1 ⟨rfl, rfl⟩)
    go_ret
    refine ⟨?_, rfl⟩
    simp; omega
  · have h0 : i < 0 := by omega
    go_enter Try.func42, Try.ntmps42
    go_wp2_with fail
    go_ret
    exact ⟨rfl, rfl⟩
/-- One is counted down. -/
theorem ends_c (g k : Nat) (t : TypeId) (cs : List Value) (x : Int) (w : World) (h : Holds w g t cs) (hk : cs[k]? = some (.int .i64 x)) (hx : x < 9223372036854775808) :
    Calls Try.prog 54 #[.pointer (some ⟨g, k, none⟩)] w fun e w' => e = .returned (.bool (decide (x = 0))) ∧ Holds w' g t (cs.set k (.int .i64 (down x))) ∧ Mod [g] w w' ∧ w'.heap.size = w.heap.size := by
  have hc := h.cell k
  rw [hk] at hc
  have hf := h.free k
  by_cases h0 : x < 0
  · go_enter Try.func54, Try.ntmps54
    go_wp2
    go_ret
    have hk' : k < cs.length := by
      rcases Nat.lt_or_ge k cs.length with hh | hh
      · exact hh
      · rw [List.getElem?_eq_none hh] at hk; cases hk
    refine ⟨?_, ?_, Mod.refl _ _, rfl⟩
    · have : ¬ x = 0 := by omega
      simp [this]
    · have : cs.set k (.int .i64 (down x)) = cs := by
        apply List.ext_getElem?
        intro j
        rw [List.getElem?_set]
        split
        · rename_i hj; subst hj; simp [hk, down, h0]
        · rfl
      rw [this]
      exact h
  · have h0 : 0 ≤ x := by omega
    have hs := Lib.hid (h.set k (.int .i64 (down x)))
    have e : down x = x - 1 := by unfold down; rw [if_neg (by omega)]
    rw [e] at hs ⊢
    go_enter Try.func54, Try.ntmps54
    go_wp2
    go_ret
    refine ⟨?_, hs.out, Mod.setCell _ (by simp) _, by simp [World.setCell]⟩
    simp
    omega

/-- What is asked, and how it stands behind that; what is done when it may be done is the call's own. -/
theorem ask_43 (S : St) (g m : Nat) (L : Value) (there lasts : Bool) (F : Fits S) (w : World) (x0 : Value) (x1 : Value) (x2 : Value) (R : World → Prop) (h : Holds w g 74 (dc S m L))
    (hdo : (S.ask there lasts).1 = 0 → ∀ v, Holds v g 74 (dc (S.ask there lasts).2 m L) → Mod [g] w v → v.heap.size = w.heap.size → Calls Try.prog 43 #[x0, x1, x2] v fun e w' => e = .returned (.tuple #[]) ∧ R w') :
    Calls Try.prog 41 #[.pointer (some ⟨g, 0, none⟩), .bool there, .bool lasts, .func (.func 43) #[] #[x0, x1, x2]] w fun e w' => e = .returned (.int .i64 (S.ask there lasts).1) ∧
      ((S.ask there lasts).1 ≠ 0 → Holds w' g 74 (dc (S.ask there lasts).2 m L) ∧ Mod [g] w w' ∧ w'.heap.size = w.heap.size) ∧ ((S.ask there lasts).1 = 0 → R w') := by
  obtain ⟨F1, F2, F3, F4, F5, F6⟩ := F
  obtain ⟨c0, c1, c2, c3, c4, c5, c6⟩ := dc_cells h
  obtain ⟨r, hr⟩ : ∃ r, S.ask there lasts = r := ⟨_, rfl⟩
  rw [hr] at hdo ⊢
  unfold St.ask at hr
  by_cases hd : S.dead = true
  · rw [if_pos hd] at hr
    subst hr
    clear hdo
    go_enter Try.func41, Try.ntmps41
    go_wp2_with fail
    refine (power_c g S.dead _ c3).mono ?_
    rintro e w1 ⟨rfl, rfl⟩
    rw [hd]
    go_wp2
    go_ret
    exact ⟨rfl, fun _ => ⟨h, Mod.refl _ _, rfl⟩, fun hh => by simp at hh⟩
  rw [if_neg hd] at hr
  have hd : S.dead = false := by simpa using hd
  by_cases ht : there = false
  · subst ht
    rw [if_pos (by simp)] at hr
    subst hr
    clear hdo
    go_enter Try.func41, Try.ntmps41
    go_wp2_with fail
    refine (power_c g S.dead _ c3).mono ?_
    rintro e w1 ⟨rfl, rfl⟩
    rw [hd]
    go_wp2
    go_ret
    exact ⟨rfl, fun _ => ⟨h, Mod.refl _ _, rfl⟩, fun hh => by simp at hh⟩
  have ht : there = true := by simpa using ht
  subst ht
  rw [if_neg (by simp)] at hr
  by_cases hf : S.failing = 0
  · rw [if_pos hf] at hr
    subst hr
    clear hdo
    go_enter Try.func41, Try.ntmps41
    go_wp2_with fail
    refine (power_c g S.dead _ c3).mono ?_
    rintro e w1 ⟨rfl, rfl⟩
    rw [hd]
    go_wp2_with fail
    refine (ends_c g 5 _ _ S.failing _ h rfl F5).mono ?_
    rintro e w1 ⟨rfl, h1, m1, z1⟩
    rw [decide_eq_true hf]
    go_wp2
    go_ret
    refine ⟨rfl, fun _ => ⟨?_, m1, z1⟩, fun hh => by simp at hh⟩
    have e : down S.failing = -1 := by rw [hf]; rfl
    rw [e] at h1
    exact h1
  rw [if_neg hf] at hr
  by_cases ha : (lasts && decide (S.armed = 0)) = true
  · rw [if_pos ha] at hr
    subst hr
    clear hdo
    simp only [Bool.and_eq_true, decide_eq_true_eq] at ha
    obtain ⟨rfl, ha⟩ := ha
    go_enter Try.func41, Try.ntmps41
    go_wp2_with fail
    refine (power_c g S.dead _ c3).mono ?_
    rintro e w1 ⟨rfl, rfl⟩
    rw [hd]
    go_wp2_with fail
    refine (ends_c g 5 _ _ S.failing _ h rfl F5).mono ?_
    rintro e w1 ⟨rfl, h1, m1, z1⟩
    rw [decide_eq_false hf]
    go_wp2_with fail
    refine (ends_c g 4 _ _ S.armed _ h1 rfl F3).mono ?_
    rintro e w2 ⟨rfl, h2, m2, z2⟩
    rw [decide_eq_true ha]
    have d3 := h2.cell 3
    have f3 := h2.free 3
    simp only [dc, List.set_cons_succ, List.set_cons_zero, List.getElem?_cons_succ, List.getElem?_cons_zero] at d3
    have mm := (m1.trans m2 (fun _ _ h => h)).trans (Mod.setCell (ms := [g]) w2 (p := ⟨g, 3, none⟩) (by simp) (.bool true)) (fun _ _ h => h)
    go_wp2
    go_ret
    refine ⟨rfl, fun _ => ⟨?_, mm, ?_⟩, fun hh => by simp at hh⟩
    · have e : down S.armed = -1 := by rw [ha]; rfl
      rw [e] at h2
      exact h2.set 3 (.bool true)
    · simp [World.setCell]; omega
  rw [if_neg ha] at hr
  subst hr
  replace hdo := hdo rfl
  have hL : lasts = true → S.armed ≠ 0 := by
    intro hl ha0
    exact ha (by rw [hl, ha0]; rfl)
  clear ha
  cases lasts
  · simp only [Bool.false_eq_true, if_false] at hdo ⊢
    clear hL
    obtain ⟨T, hT⟩ : ∃ T : St, T = { S with failing := down S.failing, ops := S.ops + 1 } := ⟨_, rfl⟩
    replace hdo : ∀ v, Holds v g 74 (dc T m L) → Mod [g] w v → v.heap.size = w.heap.size → Calls Try.prog 43 #[x0, x1, x2] v fun e w' => e = .returned (.tuple #[]) ∧ R w' := by rw [hT]; exact hdo
    have HT := Lib.hid hT
    clear hT
    go_enter Try.func41, Try.ntmps41
    go_wp2_with fail
    refine (power_c g S.dead _ c3).mono ?_
    rintro e w1 ⟨rfl, rfl⟩
    rw [hd]
    go_wp2_with fail
    refine (ends_c g 5 _ _ S.failing _ h rfl F5).mono ?_
    rintro e w1 ⟨rfl, h1, m1, z1⟩
    rw [decide_eq_false hf]
    have d6 := h1.cell 6
    have f6 := h1.free 6
    simp only [dc, List.set_cons_succ, List.set_cons_zero, List.getElem?_cons_succ, List.getElem?_cons_zero] at d6
    have mm := m1.trans (Mod.setCell (ms := [g]) w1 (p := ⟨g, 6, none⟩) (by simp) (.int .i64 ((S.ops : Int) + 1))) (fun _ _ h => h)
    go_wp2_with fail
    refine (hdo _ (by rw [HT.out]; exact h1.set 6 (.int .i64 ((S.ops : Int) + 1))) mm (by simp [World.setCell]; exact z1)).mono ?_
    rintro e w2 ⟨rfl, hR⟩
    go_wp2
    go_ret
    exact ⟨rfl, fun hh => absurd rfl hh, fun _ => hR⟩
  · simp only [if_true] at hdo ⊢
    replace hL := hL rfl
    obtain ⟨T, hT⟩ : ∃ T : St, T = { S with failing := down S.failing, armed := down S.armed, ops := S.ops + 1 } := ⟨_, rfl⟩
    replace hdo : ∀ v, Holds v g 74 (dc T m L) → Mod [g] w v → v.heap.size = w.heap.size → Calls Try.prog 43 #[x0, x1, x2] v fun e w' => e = .returned (.tuple #[]) ∧ R w' := by rw [hT]; exact hdo
    have HT := Lib.hid hT
    clear hT
    go_enter Try.func41, Try.ntmps41
    go_wp2_with fail
    refine (power_c g S.dead _ c3).mono ?_
    rintro e w1 ⟨rfl, rfl⟩
    rw [hd]
    go_wp2_with fail
    refine (ends_c g 5 _ _ S.failing _ h rfl F5).mono ?_
    rintro e w1 ⟨rfl, h1, m1, z1⟩
    rw [decide_eq_false hf]
    go_wp2_with fail
    refine (ends_c g 4 _ _ S.armed _ h1 rfl F3).mono ?_
    rintro e w2 ⟨rfl, h2, m2, z2⟩
    rw [decide_eq_false hL]
    have d6 := h2.cell 6
    have f6 := h2.free 6
    simp only [dc, List.set_cons_succ, List.set_cons_zero, List.getElem?_cons_succ, List.getElem?_cons_zero] at d6
    have mm := (m1.trans m2 (fun _ _ h => h)).trans (Mod.setCell (ms := [g]) w2 (p := ⟨g, 6, none⟩) (by simp) (.int .i64 ((S.ops : Int) + 1))) (fun _ _ h => h)
    go_wp2_with fail
    refine (hdo _ (by rw [HT.out]; exact h2.set 6 (.int .i64 ((S.ops : Int) + 1))) mm (by simp [World.setCell]; omega)).mono ?_
    rintro e w3 ⟨rfl, hR⟩
    go_wp2
    go_ret
    exact ⟨rfl, fun hh => absurd rfl hh, fun _ => hR⟩
/-- What is asked, and how it stands behind that; what is done when it may be done is the call's own. -/
theorem ask_46 (S : St) (g m : Nat) (L : Value) (there lasts : Bool) (F : Fits S) (w : World) (x0 : Value) (x1 : Value) (x2 : Value) (R : World → Prop) (h : Holds w g 74 (dc S m L))
    (hdo : (S.ask there lasts).1 = 0 → ∀ v, Holds v g 74 (dc (S.ask there lasts).2 m L) → Mod [g] w v → v.heap.size = w.heap.size → Calls Try.prog 46 #[x0, x1, x2] v fun e w' => e = .returned (.tuple #[]) ∧ R w') :
    Calls Try.prog 41 #[.pointer (some ⟨g, 0, none⟩), .bool there, .bool lasts, .func (.func 46) #[] #[x0, x1, x2]] w fun e w' => e = .returned (.int .i64 (S.ask there lasts).1) ∧
      ((S.ask there lasts).1 ≠ 0 → Holds w' g 74 (dc (S.ask there lasts).2 m L) ∧ Mod [g] w w' ∧ w'.heap.size = w.heap.size) ∧ ((S.ask there lasts).1 = 0 → R w') := by
  obtain ⟨F1, F2, F3, F4, F5, F6⟩ := F
  obtain ⟨c0, c1, c2, c3, c4, c5, c6⟩ := dc_cells h
  obtain ⟨r, hr⟩ : ∃ r, S.ask there lasts = r := ⟨_, rfl⟩
  rw [hr] at hdo ⊢
  unfold St.ask at hr
  by_cases hd : S.dead = true
  · rw [if_pos hd] at hr
    subst hr
    clear hdo
    go_enter Try.func41, Try.ntmps41
    go_wp2_with fail
    refine (power_c g S.dead _ c3).mono ?_
    rintro e w1 ⟨rfl, rfl⟩
    rw [hd]
    go_wp2
    go_ret
    exact ⟨rfl, fun _ => ⟨h, Mod.refl _ _, rfl⟩, fun hh => by simp at hh⟩
  rw [if_neg hd] at hr
  have hd : S.dead = false := by simpa using hd
  by_cases ht : there = false
  · subst ht
    rw [if_pos (by simp)] at hr
    subst hr
    clear hdo
    go_enter Try.func41, Try.ntmps41
    go_wp2_with fail
    refine (power_c g S.dead _ c3).mono ?_
    rintro e w1 ⟨rfl, rfl⟩
    rw [hd]
    go_wp2
    go_ret
    exact ⟨rfl, fun _ => ⟨h, Mod.refl _ _, rfl⟩, fun hh => by simp at hh⟩
  have ht : there = true := by simpa using ht
  subst ht
  rw [if_neg (by simp)] at hr
  by_cases hf : S.failing = 0
  · rw [if_pos hf] at hr
    subst hr
    clear hdo
    go_enter Try.func41, Try.ntmps41
    go_wp2_with fail
    refine (power_c g S.dead _ c3).mono ?_
    rintro e w1 ⟨rfl, rfl⟩
    rw [hd]
    go_wp2_with fail
    refine (ends_c g 5 _ _ S.failing _ h rfl F5).mono ?_
    rintro e w1 ⟨rfl, h1, m1, z1⟩
    rw [decide_eq_true hf]
    go_wp2
    go_ret
    refine ⟨rfl, fun _ => ⟨?_, m1, z1⟩, fun hh => by simp at hh⟩
    have e : down S.failing = -1 := by rw [hf]; rfl
    rw [e] at h1
    exact h1
  rw [if_neg hf] at hr
  by_cases ha : (lasts && decide (S.armed = 0)) = true
  · rw [if_pos ha] at hr
    subst hr
    clear hdo
    simp only [Bool.and_eq_true, decide_eq_true_eq] at ha
    obtain ⟨rfl, ha⟩ := ha
    go_enter Try.func41, Try.ntmps41
    go_wp2_with fail
    refine (power_c g S.dead _ c3).mono ?_
    rintro e w1 ⟨rfl, rfl⟩
    rw [hd]
    go_wp2_with fail
    refine (ends_c g 5 _ _ S.failing _ h rfl F5).mono ?_
    rintro e w1 ⟨rfl, h1, m1, z1⟩
    rw [decide_eq_false hf]
    go_wp2_with fail
    refine (ends_c g 4 _ _ S.armed _ h1 rfl F3).mono ?_
    rintro e w2 ⟨rfl, h2, m2, z2⟩
    rw [decide_eq_true ha]
    have d3 := h2.cell 3
    have f3 := h2.free 3
    simp only [dc, List.set_cons_succ, List.set_cons_zero, List.getElem?_cons_succ, List.getElem?_cons_zero] at d3
    have mm := (m1.trans m2 (fun _ _ h => h)).trans (Mod.setCell (ms := [g]) w2 (p := ⟨g, 3, none⟩) (by simp) (.bool true)) (fun _ _ h => h)
    go_wp2
    go_ret
    refine ⟨rfl, fun _ => ⟨?_, mm, ?_⟩, fun hh => by simp at hh⟩
    · have e : down S.armed = -1 := by rw [ha]; rfl
      rw [e] at h2
      exact h2.set 3 (.bool true)
    · simp [World.setCell]; omega
  rw [if_neg ha] at hr
  subst hr
  replace hdo := hdo rfl
  have hL : lasts = true → S.armed ≠ 0 := by
    intro hl ha0
    exact ha (by rw [hl, ha0]; rfl)
  clear ha
  cases lasts
  · simp only [Bool.false_eq_true, if_false] at hdo ⊢
    clear hL
    obtain ⟨T, hT⟩ : ∃ T : St, T = { S with failing := down S.failing, ops := S.ops + 1 } := ⟨_, rfl⟩
    replace hdo : ∀ v, Holds v g 74 (dc T m L) → Mod [g] w v → v.heap.size = w.heap.size → Calls Try.prog 46 #[x0, x1, x2] v fun e w' => e = .returned (.tuple #[]) ∧ R w' := by rw [hT]; exact hdo
    have HT := Lib.hid hT
    clear hT
    go_enter Try.func41, Try.ntmps41
    go_wp2_with fail
    refine (power_c g S.dead _ c3).mono ?_
    rintro e w1 ⟨rfl, rfl⟩
    rw [hd]
    go_wp2_with fail
    refine (ends_c g 5 _ _ S.failing _ h rfl F5).mono ?_
    rintro e w1 ⟨rfl, h1, m1, z1⟩
    rw [decide_eq_false hf]
    have d6 := h1.cell 6
    have f6 := h1.free 6
    simp only [dc, List.set_cons_succ, List.set_cons_zero, List.getElem?_cons_succ, List.getElem?_cons_zero] at d6
    have mm := m1.trans (Mod.setCell (ms := [g]) w1 (p := ⟨g, 6, none⟩) (by simp) (.int .i64 ((S.ops : Int) + 1))) (fun _ _ h => h)
    go_wp2_with fail
    refine (hdo _ (by rw [HT.out]; exact h1.set 6 (.int .i64 ((S.ops : Int) + 1))) mm (by simp [World.setCell]; exact z1)).mono ?_
    rintro e w2 ⟨rfl, hR⟩
    go_wp2
    go_ret
    exact ⟨rfl, fun hh => absurd rfl hh, fun _ => hR⟩
  · simp only [if_true] at hdo ⊢
    replace hL := hL rfl
    obtain ⟨T, hT⟩ : ∃ T : St, T = { S with failing := down S.failing, armed := down S.armed, ops := S.ops + 1 } := ⟨_, rfl⟩
    replace hdo : ∀ v, Holds v g 74 (dc T m L) → Mod [g] w v → v.heap.size = w.heap.size → Calls Try.prog 46 #[x0, x1, x2] v fun e w' => e = .returned (.tuple #[]) ∧ R w' := by rw [hT]; exact hdo
    have HT := Lib.hid hT
    clear hT
    go_enter Try.func41, Try.ntmps41
    go_wp2_with fail
    refine (power_c g S.dead _ c3).mono ?_
    rintro e w1 ⟨rfl, rfl⟩
    rw [hd]
    go_wp2_with fail
    refine (ends_c g 5 _ _ S.failing _ h rfl F5).mono ?_
    rintro e w1 ⟨rfl, h1, m1, z1⟩
    rw [decide_eq_false hf]
    go_wp2_with fail
    refine (ends_c g 4 _ _ S.armed _ h1 rfl F3).mono ?_
    rintro e w2 ⟨rfl, h2, m2, z2⟩
    rw [decide_eq_false hL]
    have d6 := h2.cell 6
    have f6 := h2.free 6
    simp only [dc, List.set_cons_succ, List.set_cons_zero, List.getElem?_cons_succ, List.getElem?_cons_zero] at d6
    have mm := (m1.trans m2 (fun _ _ h => h)).trans (Mod.setCell (ms := [g]) w2 (p := ⟨g, 6, none⟩) (by simp) (.int .i64 ((S.ops : Int) + 1))) (fun _ _ h => h)
    go_wp2_with fail
    refine (hdo _ (by rw [HT.out]; exact h2.set 6 (.int .i64 ((S.ops : Int) + 1))) mm (by simp [World.setCell]; omega)).mono ?_
    rintro e w3 ⟨rfl, hR⟩
    go_wp2
    go_ret
    exact ⟨rfl, fun hh => absurd rfl hh, fun _ => hR⟩
/-- What is asked, and how it stands behind that; what is done when it may be done is the call's own. -/
theorem ask_47 (S : St) (g m : Nat) (L : Value) (there lasts : Bool) (F : Fits S) (w : World) (x0 : Value) (R : World → Prop) (h : Holds w g 74 (dc S m L))
    (hdo : (S.ask there lasts).1 = 0 → ∀ v, Holds v g 74 (dc (S.ask there lasts).2 m L) → Mod [g] w v → v.heap.size = w.heap.size → Calls Try.prog 47 #[x0] v fun e w' => e = .returned (.tuple #[]) ∧ R w') :
    Calls Try.prog 41 #[.pointer (some ⟨g, 0, none⟩), .bool there, .bool lasts, .func (.func 47) #[] #[x0]] w fun e w' => e = .returned (.int .i64 (S.ask there lasts).1) ∧
      ((S.ask there lasts).1 ≠ 0 → Holds w' g 74 (dc (S.ask there lasts).2 m L) ∧ Mod [g] w w' ∧ w'.heap.size = w.heap.size) ∧ ((S.ask there lasts).1 = 0 → R w') := by
  obtain ⟨F1, F2, F3, F4, F5, F6⟩ := F
  obtain ⟨c0, c1, c2, c3, c4, c5, c6⟩ := dc_cells h
  obtain ⟨r, hr⟩ : ∃ r, S.ask there lasts = r := ⟨_, rfl⟩
  rw [hr] at hdo ⊢
  unfold St.ask at hr
  by_cases hd : S.dead = true
  · rw [if_pos hd] at hr
    subst hr
    clear hdo
    go_enter Try.func41, Try.ntmps41
    go_wp2_with fail
    refine (power_c g S.dead _ c3).mono ?_
    rintro e w1 ⟨rfl, rfl⟩
    rw [hd]
    go_wp2
    go_ret
    exact ⟨rfl, fun _ => ⟨h, Mod.refl _ _, rfl⟩, fun hh => by simp at hh⟩
  rw [if_neg hd] at hr
  have hd : S.dead = false := by simpa using hd
  by_cases ht : there = false
  · subst ht
    rw [if_pos (by simp)] at hr
    subst hr
    clear hdo
    go_enter Try.func41, Try.ntmps41
    go_wp2_with fail
    refine (power_c g S.dead _ c3).mono ?_
    rintro e w1 ⟨rfl, rfl⟩
    rw [hd]
    go_wp2
    go_ret
    exact ⟨rfl, fun _ => ⟨h, Mod.refl _ _, rfl⟩, fun hh => by simp at hh⟩
  have ht : there = true := by simpa using ht
  subst ht
  rw [if_neg (by simp)] at hr
  by_cases hf : S.failing = 0
  · rw [if_pos hf] at hr
    subst hr
    clear hdo
    go_enter Try.func41, Try.ntmps41
    go_wp2_with fail
    refine (power_c g S.dead _ c3).mono ?_
    rintro e w1 ⟨rfl, rfl⟩
    rw [hd]
    go_wp2_with fail
    refine (ends_c g 5 _ _ S.failing _ h rfl F5).mono ?_
    rintro e w1 ⟨rfl, h1, m1, z1⟩
    rw [decide_eq_true hf]
    go_wp2
    go_ret
    refine ⟨rfl, fun _ => ⟨?_, m1, z1⟩, fun hh => by simp at hh⟩
    have e : down S.failing = -1 := by rw [hf]; rfl
    rw [e] at h1
    exact h1
  rw [if_neg hf] at hr
  by_cases ha : (lasts && decide (S.armed = 0)) = true
  · rw [if_pos ha] at hr
    subst hr
    clear hdo
    simp only [Bool.and_eq_true, decide_eq_true_eq] at ha
    obtain ⟨rfl, ha⟩ := ha
    go_enter Try.func41, Try.ntmps41
    go_wp2_with fail
    refine (power_c g S.dead _ c3).mono ?_
    rintro e w1 ⟨rfl, rfl⟩
    rw [hd]
    go_wp2_with fail
    refine (ends_c g 5 _ _ S.failing _ h rfl F5).mono ?_
    rintro e w1 ⟨rfl, h1, m1, z1⟩
    rw [decide_eq_false hf]
    go_wp2_with fail
    refine (ends_c g 4 _ _ S.armed _ h1 rfl F3).mono ?_
    rintro e w2 ⟨rfl, h2, m2, z2⟩
    rw [decide_eq_true ha]
    have d3 := h2.cell 3
    have f3 := h2.free 3
    simp only [dc, List.set_cons_succ, List.set_cons_zero, List.getElem?_cons_succ, List.getElem?_cons_zero] at d3
    have mm := (m1.trans m2 (fun _ _ h => h)).trans (Mod.setCell (ms := [g]) w2 (p := ⟨g, 3, none⟩) (by simp) (.bool true)) (fun _ _ h => h)
    go_wp2
    go_ret
    refine ⟨rfl, fun _ => ⟨?_, mm, ?_⟩, fun hh => by simp at hh⟩
    · have e : down S.armed = -1 := by rw [ha]; rfl
      rw [e] at h2
      exact h2.set 3 (.bool true)
    · simp [World.setCell]; omega
  rw [if_neg ha] at hr
  subst hr
  replace hdo := hdo rfl
  have hL : lasts = true → S.armed ≠ 0 := by
    intro hl ha0
    exact ha (by rw [hl, ha0]; rfl)
  clear ha
  cases lasts
  · simp only [Bool.false_eq_true, if_false] at hdo ⊢
    clear hL
    obtain ⟨T, hT⟩ : ∃ T : St, T = { S with failing := down S.failing, ops := S.ops + 1 } := ⟨_, rfl⟩
    replace hdo : ∀ v, Holds v g 74 (dc T m L) → Mod [g] w v → v.heap.size = w.heap.size → Calls Try.prog 47 #[x0] v fun e w' => e = .returned (.tuple #[]) ∧ R w' := by rw [hT]; exact hdo
    have HT := Lib.hid hT
    clear hT
    go_enter Try.func41, Try.ntmps41
    go_wp2_with fail
    refine (power_c g S.dead _ c3).mono ?_
    rintro e w1 ⟨rfl, rfl⟩
    rw [hd]
    go_wp2_with fail
    refine (ends_c g 5 _ _ S.failing _ h rfl F5).mono ?_
    rintro e w1 ⟨rfl, h1, m1, z1⟩
    rw [decide_eq_false hf]
    have d6 := h1.cell 6
    have f6 := h1.free 6
    simp only [dc, List.set_cons_succ, List.set_cons_zero, List.getElem?_cons_succ, List.getElem?_cons_zero] at d6
    have mm := m1.trans (Mod.setCell (ms := [g]) w1 (p := ⟨g, 6, none⟩) (by simp) (.int .i64 ((S.ops : Int) + 1))) (fun _ _ h => h)
    go_wp2_with fail
    refine (hdo _ (by rw [HT.out]; exact h1.set 6 (.int .i64 ((S.ops : Int) + 1))) mm (by simp [World.setCell]; exact z1)).mono ?_
    rintro e w2 ⟨rfl, hR⟩
    go_wp2
    go_ret
    exact ⟨rfl, fun hh => absurd rfl hh, fun _ => hR⟩
  · simp only [if_true] at hdo ⊢
    replace hL := hL rfl
    obtain ⟨T, hT⟩ : ∃ T : St, T = { S with failing := down S.failing, armed := down S.armed, ops := S.ops + 1 } := ⟨_, rfl⟩
    replace hdo : ∀ v, Holds v g 74 (dc T m L) → Mod [g] w v → v.heap.size = w.heap.size → Calls Try.prog 47 #[x0] v fun e w' => e = .returned (.tuple #[]) ∧ R w' := by rw [hT]; exact hdo
    have HT := Lib.hid hT
    clear hT
    go_enter Try.func41, Try.ntmps41
    go_wp2_with fail
    refine (power_c g S.dead _ c3).mono ?_
    rintro e w1 ⟨rfl, rfl⟩
    rw [hd]
    go_wp2_with fail
    refine (ends_c g 5 _ _ S.failing _ h rfl F5).mono ?_
    rintro e w1 ⟨rfl, h1, m1, z1⟩
    rw [decide_eq_false hf]
    go_wp2_with fail
    refine (ends_c g 4 _ _ S.armed _ h1 rfl F3).mono ?_
    rintro e w2 ⟨rfl, h2, m2, z2⟩
    rw [decide_eq_false hL]
    have d6 := h2.cell 6
    have f6 := h2.free 6
    simp only [dc, List.set_cons_succ, List.set_cons_zero, List.getElem?_cons_succ, List.getElem?_cons_zero] at d6
    have mm := (m1.trans m2 (fun _ _ h => h)).trans (Mod.setCell (ms := [g]) w2 (p := ⟨g, 6, none⟩) (by simp) (.int .i64 ((S.ops : Int) + 1))) (fun _ _ h => h)
    go_wp2_with fail
    refine (hdo _ (by rw [HT.out]; exact h2.set 6 (.int .i64 ((S.ops : Int) + 1))) mm (by simp [World.setCell]; omega)).mono ?_
    rintro e w3 ⟨rfl, hR⟩
    go_wp2
    go_ret
    exact ⟨rfl, fun hh => absurd rfl hh, fun _ => hR⟩
end Go.Proofs.Ytpdpahkhfilmpaa
