/-
  My own texts DiskA DiskB DiskC DiskD DiskE DiskH, one behind the other.
-/
import Derived.Test.YtcoedhemlghjoaaDoorBa
import Derived.Lib.Hide
import Derived.StillTailTactics
import Derived.RangeFuncNested
import Derived.RangeFuncBound
import Derived.RangeFuncCalls
import Derived.RangeFuncLeaves
import Derived.Shelf.Abstract
import Derived.Shelf.RegionOpen
import Derived.WalkKit
import Derived.OwnWalkIn
import Derived.TacticsInMore
import Derived.LoopNIn
import Derived.LoopIn
import Derived.WalkMore
namespace Go.Proofs.YtcoedhemlghjoaaDoor
section
open Go.RowKit
/-- The cells of a disk that stands so. -/
def dc (S : St) (m : Nat) (L : Value) : List Value := [.int .i64 (S.n : Int), .map (some m), L, .bool S.dead, .int .i64 S.armed, .int .i64 S.failing, .int .i64 (S.ops : Int)]
/-- Its numbers fit. -/
structure Fits (S : St) : Prop where
  n : S.n ≤ 2048
  a0 : -9223372036854775808 ≤ S.armed
  a1 : S.armed < 9223372036854775808
  f0 : -9223372036854775808 ≤ S.failing
  f1 : S.failing < 9223372036854775808
  ops : S.ops ≤ 1099511627776
theorem dc_cells {w : World} {g m : Nat} {S : St} {L : Value} (h : Holds w g 45 (dc S m L)) :
    w.cell? ⟨g, 0, none⟩ = some (.int .i64 (S.n : Int)) ∧ w.cell? ⟨g, 1, none⟩ = some (.map (some m)) ∧ w.cell? ⟨g, 2, none⟩ = some L ∧ w.cell? ⟨g, 3, none⟩ = some (.bool S.dead) ∧ w.cell? ⟨g, 4, none⟩ = some (.int .i64 S.armed) ∧
    w.cell? ⟨g, 5, none⟩ = some (.int .i64 S.failing) ∧ w.cell? ⟨g, 6, none⟩ = some (.int .i64 (S.ops : Int)) :=
  ⟨h.cell 0, h.cell 1, h.cell 2, h.cell 3, h.cell 4, h.cell 5, h.cell 6⟩

theorem power_c (g : Nat) (d : Bool) (w : World) (h : w.cell? ⟨g, 3, none⟩ = some (.bool d)) : Calls Tryd.prog 66 #[.pointer (some ⟨g, 0, none⟩)] w fun e w' => e = .returned (.int .i64 (if d then 9 else 0)) ∧ w' = w := by
  cases d <;>
  · go_enter Tryd.func66, Tryd.ntmps66
    go_wp2
    go_ret
    exact ⟨rfl, rfl⟩
theorem len_c (g : Nat) (n : Int) (w : World) (h : w.cell? ⟨g, 0, none⟩ = some (.int .i64 n)) : Calls Tryd.prog 34 #[.pointer (some ⟨g, 0, none⟩)] w fun e w' => e = .returned (.int .i64 n) ∧ w' = w := by
  go_enter Tryd.func34, Tryd.ntmps34
  go_wp2
  go_ret
  exact ⟨rfl, rfl⟩
theorem has_c (g n : Nat) (i : Int) (w : World) (h : w.cell? ⟨g, 0, none⟩ = some (.int .i64 (n : Int))) : Calls Tryd.prog 52 #[.pointer (some ⟨g, 0, none⟩), .int .i64 i] w fun e w' => e = .returned (.bool (decide (0 ≤ i ∧ i < (n : Int)))) ∧ w' = w := by
  by_cases h0 : 0 ≤ i
  · go_enter Tryd.func52, Tryd.ntmps52
    go_wp2_with (go_at_call 34; refine (len_c g n _ h).mono ?_; rintro e w1 ⟨rfl, rfl⟩)
    go_ret
    refine ⟨?_, rfl⟩
    simp [h0]
  · have h0 : i < 0 := by omega
    go_enter Tryd.func52, Tryd.ntmps52
    go_wp2_with fail
    go_ret
    refine ⟨?_, rfl⟩
    simp
    intro _
    omega
/-- One is counted down. -/
theorem ends_c (g k : Nat) (t : TypeId) (cs : List Value) (x : Int) (w : World) (h : Holds w g t cs) (hk : cs[k]? = some (.int .i64 x)) (hx : x < 9223372036854775808) :
    Calls Tryd.prog 67 #[.pointer (some ⟨g, k, none⟩)] w fun e w' => e = .returned (.bool (decide (x = 0))) ∧ Holds w' g t (cs.set k (.int .i64 (down x))) ∧ Mod [g] w w' ∧ w'.heap.size = w.heap.size := by
  have hc := h.cell k
  rw [hk] at hc
  have hf := h.free k
  by_cases h0 : x < 0
  · go_enter Tryd.func67, Tryd.ntmps67
    go_wp2
    go_ret
    have hk' : k < cs.length := by
      rcases Nat.lt_or_ge k cs.length with hh | hh
      · exact hh
      · rw [List.getElem?_eq_none hh] at hk; cases hk
    refine ⟨?_, ?_, Mod.refl _ _, rfl⟩
    · have : ¬ x = 0 := by omega
      simp [this]
    · have : cs.set k (.int .i64 (down x)) = cs := by
        apply List.ext_getElem?
        intro j
        rw [List.getElem?_set]
        split
        · rename_i hj; subst hj; simp [hk, down, h0]
        · rfl
      rw [this]
      exact h
  · have h0 : 0 ≤ x := by omega
    have hs := Lib.hid (h.set k (.int .i64 (down x)))
    have e : down x = x - 1 := by unfold down; rw [if_neg (by omega)]
    rw [e] at hs ⊢
    go_enter Tryd.func67, Tryd.ntmps67
    go_wp2
    go_ret
    refine ⟨?_, hs.out, Mod.setCell _ (by simp) _, by simp [World.setCell]⟩
    simp
    omega

/-- What is asked, and how it stands behind that; what is done when it may be done is the call's own. -/
theorem ask_43 (S : St) (g m : Nat) (L : Value) (there lasts : Bool) (F : Fits S) (w : World) (x0 : Value) (x1 : Value) (x2 : Value) (R : World → Prop) (h : Holds w g 45 (dc S m L))
    (hdo : (S.ask there lasts).1 = 0 → ∀ v, Holds v g 45 (dc (S.ask there lasts).2 m L) → Mod [g] w v → v.heap.size = w.heap.size → Calls Tryd.prog 61 #[x0, x1, x2] v fun e w' => e = .returned (.tuple #[]) ∧ R w') :
    Calls Tryd.prog 51 #[.pointer (some ⟨g, 0, none⟩), .bool there, .bool lasts, .func (.func 61) #[] #[x0, x1, x2]] w fun e w' => e = .returned (.int .i64 (S.ask there lasts).1) ∧
      ((S.ask there lasts).1 ≠ 0 → Holds w' g 45 (dc (S.ask there lasts).2 m L) ∧ Mod [g] w w' ∧ w'.heap.size = w.heap.size) ∧ ((S.ask there lasts).1 = 0 → R w') := by
  obtain ⟨F1, F2, F3, F4, F5, F6⟩ := F
  obtain ⟨c0, c1, c2, c3, c4, c5, c6⟩ := dc_cells h
  obtain ⟨r, hr⟩ : ∃ r, S.ask there lasts = r := ⟨_, rfl⟩
  rw [hr] at hdo ⊢
  unfold St.ask at hr
  by_cases hd : S.dead = true
  · rw [if_pos hd] at hr
    subst hr
    clear hdo
    go_enter Tryd.func51, Tryd.ntmps51
    go_wp2_with fail
    refine (power_c g S.dead _ c3).mono ?_
    rintro e w1 ⟨rfl, rfl⟩
    rw [hd]
    go_wp2
    go_ret
    exact ⟨rfl, fun _ => ⟨h, Mod.refl _ _, rfl⟩, fun hh => by simp at hh⟩
  rw [if_neg hd] at hr
  have hd : S.dead = false := by simpa using hd
  by_cases ht : there = false
  · subst ht
    rw [if_pos (by simp)] at hr
    subst hr
    clear hdo
    go_enter Tryd.func51, Tryd.ntmps51
    go_wp2_with fail
    refine (power_c g S.dead _ c3).mono ?_
    rintro e w1 ⟨rfl, rfl⟩
    rw [hd]
    go_wp2
    go_ret
    exact ⟨rfl, fun _ => ⟨h, Mod.refl _ _, rfl⟩, fun hh => by simp at hh⟩
  have ht : there = true := by simpa using ht
  subst ht
  rw [if_neg (by simp)] at hr
  by_cases hf : S.failing = 0
  · rw [if_pos hf] at hr
    subst hr
    clear hdo
    go_enter Tryd.func51, Tryd.ntmps51
    go_wp2_with fail
    refine (power_c g S.dead _ c3).mono ?_
    rintro e w1 ⟨rfl, rfl⟩
    rw [hd]
    go_wp2_with fail
    refine (ends_c g 5 _ _ S.failing _ h rfl F5).mono ?_
    rintro e w1 ⟨rfl, h1, m1, z1⟩
    rw [decide_eq_true hf]
    go_wp2
    go_ret
    refine ⟨rfl, fun _ => ⟨?_, m1, z1⟩, fun hh => by simp at hh⟩
    have e : down S.failing = -1 := by rw [hf]; rfl
    rw [e] at h1
    exact h1
  rw [if_neg hf] at hr
  by_cases ha : (lasts && decide (S.armed = 0)) = true
  · rw [if_pos ha] at hr
    subst hr
    clear hdo
    simp only [Bool.and_eq_true, decide_eq_true_eq] at ha
    obtain ⟨rfl, ha⟩ := ha
    go_enter Tryd.func51, Tryd.ntmps51
    go_wp2_with fail
    refine (power_c g S.dead _ c3).mono ?_
    rintro e w1 ⟨rfl, rfl⟩
    rw [hd]
    go_wp2_with fail
    refine (ends_c g 5 _ _ S.failing _ h rfl F5).mono ?_
    rintro e w1 ⟨rfl, h1, m1, z1⟩
    rw [decide_eq_false hf]
    go_wp2_with fail
    refine (ends_c g 4 _ _ S.armed _ h1 rfl F3).mono ?_
    rintro e w2 ⟨rfl, h2, m2, z2⟩
    rw [decide_eq_true ha]
    have d3 := h2.cell 3
    have f3 := h2.free 3
    simp only [dc, List.set_cons_succ, List.set_cons_zero, List.getElem?_cons_succ, List.getElem?_cons_zero] at d3
    have mm := (m1.trans m2 (fun _ _ h => h)).trans (Mod.setCell (ms := [g]) w2 (p := ⟨g, 3, none⟩) (by simp) (.bool true)) (fun _ _ h => h)
    go_wp2
    go_ret
    refine ⟨rfl, fun _ => ⟨?_, mm, ?_⟩, fun hh => by simp at hh⟩
    · have e : down S.armed = -1 := by rw [ha]; rfl
      rw [e] at h2
      exact h2.set 3 (.bool true)
    · simp [World.setCell]; omega
  rw [if_neg ha] at hr
  subst hr
  replace hdo := hdo rfl
  have hL : lasts = true → S.armed ≠ 0 := by
    intro hl ha0
    exact ha (by rw [hl, ha0]; rfl)
  clear ha
  cases lasts
  · simp only [Bool.false_eq_true, if_false] at hdo ⊢
    clear hL
    obtain ⟨T, hT⟩ : ∃ T : St, T = { S with failing := down S.failing, ops := S.ops + 1 } := ⟨_, rfl⟩
    replace hdo : ∀ v, Holds v g 45 (dc T m L) → Mod [g] w v → v.heap.size = w.heap.size → Calls Tryd.prog 61 #[x0, x1, x2] v fun e w' => e = .returned (.tuple #[]) ∧ R w' := by rw [hT]; exact hdo
    have HT := Lib.hid hT
    clear hT
    go_enter Tryd.func51, Tryd.ntmps51
    go_wp2_with fail
    refine (power_c g S.dead _ c3).mono ?_
    rintro e w1 ⟨rfl, rfl⟩
    rw [hd]
    go_wp2_with fail
    refine (ends_c g 5 _ _ S.failing _ h rfl F5).mono ?_
    rintro e w1 ⟨rfl, h1, m1, z1⟩
    rw [decide_eq_false hf]
    have d6 := h1.cell 6
    have f6 := h1.free 6
    simp only [dc, List.set_cons_succ, List.set_cons_zero, List.getElem?_cons_succ, List.getElem?_cons_zero] at d6
    have mm := m1.trans (Mod.setCell (ms := [g]) w1 (p := ⟨g, 6, none⟩) (by simp) (.int .i64 ((S.ops : Int) + 1))) (fun _ _ h => h)
    go_wp2_with fail
    refine (hdo _ (by rw [HT.out]; exact h1.set 6 (.int .i64 ((S.ops : Int) + 1))) mm (by simp [World.setCell]; exact z1)).mono ?_
    rintro e w2 ⟨rfl, hR⟩
    go_wp2
    go_ret
    exact ⟨rfl, fun hh => absurd rfl hh, fun _ => hR⟩
  · simp only [if_true] at hdo ⊢
    replace hL := hL rfl
    obtain ⟨T, hT⟩ : ∃ T : St, T = { S with failing := down S.failing, armed := down S.armed, ops := S.ops + 1 } := ⟨_, rfl⟩
    replace hdo : ∀ v, Holds v g 45 (dc T m L) → Mod [g] w v → v.heap.size = w.heap.size → Calls Tryd.prog 61 #[x0, x1, x2] v fun e w' => e = .returned (.tuple #[]) ∧ R w' := by rw [hT]; exact hdo
    have HT := Lib.hid hT
    clear hT
    go_enter Tryd.func51, Tryd.ntmps51
    go_wp2_with fail
    refine (power_c g S.dead _ c3).mono ?_
    rintro e w1 ⟨rfl, rfl⟩
    rw [hd]
    go_wp2_with fail
    refine (ends_c g 5 _ _ S.failing _ h rfl F5).mono ?_
    rintro e w1 ⟨rfl, h1, m1, z1⟩
    rw [decide_eq_false hf]
    go_wp2_with fail
    refine (ends_c g 4 _ _ S.armed _ h1 rfl F3).mono ?_
    rintro e w2 ⟨rfl, h2, m2, z2⟩
    rw [decide_eq_false hL]
    have d6 := h2.cell 6
    have f6 := h2.free 6
    simp only [dc, List.set_cons_succ, List.set_cons_zero, List.getElem?_cons_succ, List.getElem?_cons_zero] at d6
    have mm := (m1.trans m2 (fun _ _ h => h)).trans (Mod.setCell (ms := [g]) w2 (p := ⟨g, 6, none⟩) (by simp) (.int .i64 ((S.ops : Int) + 1))) (fun _ _ h => h)
    go_wp2_with fail
    refine (hdo _ (by rw [HT.out]; exact h2.set 6 (.int .i64 ((S.ops : Int) + 1))) mm (by simp [World.setCell]; omega)).mono ?_
    rintro e w3 ⟨rfl, hR⟩
    go_wp2
    go_ret
    exact ⟨rfl, fun hh => absurd rfl hh, fun _ => hR⟩
/-- What is asked, and how it stands behind that; what is done when it may be done is the call's own. -/
theorem ask_46 (S : St) (g m : Nat) (L : Value) (there lasts : Bool) (F : Fits S) (w : World) (x0 : Value) (x1 : Value) (x2 : Value) (R : World → Prop) (h : Holds w g 45 (dc S m L))
    (hdo : (S.ask there lasts).1 = 0 → ∀ v, Holds v g 45 (dc (S.ask there lasts).2 m L) → Mod [g] w v → v.heap.size = w.heap.size → Calls Tryd.prog 53 #[x0, x1, x2] v fun e w' => e = .returned (.tuple #[]) ∧ R w') :
    Calls Tryd.prog 51 #[.pointer (some ⟨g, 0, none⟩), .bool there, .bool lasts, .func (.func 53) #[] #[x0, x1, x2]] w fun e w' => e = .returned (.int .i64 (S.ask there lasts).1) ∧
      ((S.ask there lasts).1 ≠ 0 → Holds w' g 45 (dc (S.ask there lasts).2 m L) ∧ Mod [g] w w' ∧ w'.heap.size = w.heap.size) ∧ ((S.ask there lasts).1 = 0 → R w') := by
  obtain ⟨F1, F2, F3, F4, F5, F6⟩ := F
  obtain ⟨c0, c1, c2, c3, c4, c5, c6⟩ := dc_cells h
  obtain ⟨r, hr⟩ : ∃ r, S.ask there lasts = r := ⟨_, rfl⟩
  rw [hr] at hdo ⊢
  unfold St.ask at hr
  by_cases hd : S.dead = true
  · rw [if_pos hd] at hr
    subst hr
    clear hdo
    go_enter Tryd.func51, Tryd.ntmps51
    go_wp2_with fail
    refine (power_c g S.dead _ c3).mono ?_
    rintro e w1 ⟨rfl, rfl⟩
    rw [hd]
    go_wp2
    go_ret
    exact ⟨rfl, fun _ => ⟨h, Mod.refl _ _, rfl⟩, fun hh => by simp at hh⟩
  rw [if_neg hd] at hr
  have hd : S.dead = false := by simpa using hd
  by_cases ht : there = false
  · subst ht
    rw [if_pos (by simp)] at hr
    subst hr
    clear hdo
    go_enter Tryd.func51, Tryd.ntmps51
    go_wp2_with fail
    refine (power_c g S.dead _ c3).mono ?_
    rintro e w1 ⟨rfl, rfl⟩
    rw [hd]
    go_wp2
    go_ret
    exact ⟨rfl, fun _ => ⟨h, Mod.refl _ _, rfl⟩, fun hh => by simp at hh⟩
  have ht : there = true := by simpa using ht
  subst ht
  rw [if_neg (by simp)] at hr
  by_cases hf : S.failing = 0
  · rw [if_pos hf] at hr
    subst hr
    clear hdo
    go_enter Tryd.func51, Tryd.ntmps51
    go_wp2_with fail
    refine (power_c g S.dead _ c3).mono ?_
    rintro e w1 ⟨rfl, rfl⟩
    rw [hd]
    go_wp2_with fail
    refine (ends_c g 5 _ _ S.failing _ h rfl F5).mono ?_
    rintro e w1 ⟨rfl, h1, m1, z1⟩
    rw [decide_eq_true hf]
    go_wp2
    go_ret
    refine ⟨rfl, fun _ => ⟨?_, m1, z1⟩, fun hh => by simp at hh⟩
    have e : down S.failing = -1 := by rw [hf]; rfl
    rw [e] at h1
    exact h1
  rw [if_neg hf] at hr
  by_cases ha : (lasts && decide (S.armed = 0)) = true
  · rw [if_pos ha] at hr
    subst hr
    clear hdo
    simp only [Bool.and_eq_true, decide_eq_true_eq] at ha
    obtain ⟨rfl, ha⟩ := ha
    go_enter Tryd.func51, Tryd.ntmps51
    go_wp2_with fail
    refine (power_c g S.dead _ c3).mono ?_
    rintro e w1 ⟨rfl, rfl⟩
    rw [hd]
    go_wp2_with fail
    refine (ends_c g 5 _ _ S.failing _ h rfl F5).mono ?_
    rintro e w1 ⟨rfl, h1, m1, z1⟩
    rw [decide_eq_false hf]
    go_wp2_with fail
    refine (ends_c g 4 _ _ S.armed _ h1 rfl F3).mono ?_
    rintro e w2 ⟨rfl, h2, m2, z2⟩
    rw [decide_eq_true ha]
    have d3 := h2.cell 3
    have f3 := h2.free 3
    simp only [dc, List.set_cons_succ, List.set_cons_zero, List.getElem?_cons_succ, List.getElem?_cons_zero] at d3
    have mm := (m1.trans m2 (fun _ _ h => h)).trans (Mod.setCell (ms := [g]) w2 (p := ⟨g, 3, none⟩) (by simp) (.bool true)) (fun _ _ h => h)
    go_wp2
    go_ret
    refine ⟨rfl, fun _ => ⟨?_, mm, ?_⟩, fun hh => by simp at hh⟩
    · have e : down S.armed = -1 := by rw [ha]; rfl
      rw [e] at h2
      exact h2.set 3 (.bool true)
    · simp [World.setCell]; omega
  rw [if_neg ha] at hr
  subst hr
  replace hdo := hdo rfl
  have hL : lasts = true → S.armed ≠ 0 := by
    intro hl ha0
    exact ha (by rw [hl, ha0]; rfl)
  clear ha
  cases lasts
  · simp only [Bool.false_eq_true, if_false] at hdo ⊢
    clear hL
    obtain ⟨T, hT⟩ : ∃ T : St, T = { S with failing := down S.failing, ops := S.ops + 1 } := ⟨_, rfl⟩
    replace hdo : ∀ v, Holds v g 45 (dc T m L) → Mod [g] w v → v.heap.size = w.heap.size → Calls Tryd.prog 53 #[x0, x1, x2] v fun e w' => e = .returned (.tuple #[]) ∧ R w' := by rw [hT]; exact hdo
    have HT := Lib.hid hT
    clear hT
    go_enter Tryd.func51, Tryd.ntmps51
    go_wp2_with fail
    refine (power_c g S.dead _ c3).mono ?_
    rintro e w1 ⟨rfl, rfl⟩
    rw [hd]
    go_wp2_with fail
    refine (ends_c g 5 _ _ S.failing _ h rfl F5).mono ?_
    rintro e w1 ⟨rfl, h1, m1, z1⟩
    rw [decide_eq_false hf]
    have d6 := h1.cell 6
    have f6 := h1.free 6
    simp only [dc, List.set_cons_succ, List.set_cons_zero, List.getElem?_cons_succ, List.getElem?_cons_zero] at d6
    have mm := m1.trans (Mod.setCell (ms := [g]) w1 (p := ⟨g, 6, none⟩) (by simp) (.int .i64 ((S.ops : Int) + 1))) (fun _ _ h => h)
    go_wp2_with fail
    refine (hdo _ (by rw [HT.out]; exact h1.set 6 (.int .i64 ((S.ops : Int) + 1))) mm (by simp [World.setCell]; exact z1)).mono ?_
    rintro e w2 ⟨rfl, hR⟩
    go_wp2
    go_ret
    exact ⟨rfl, fun hh => absurd rfl hh, fun _ => hR⟩
  · simp only [if_true] at hdo ⊢
    replace hL := hL rfl
    obtain ⟨T, hT⟩ : ∃ T : St, T = { S with failing := down S.failing, armed := down S.armed, ops := S.ops + 1 } := ⟨_, rfl⟩
    replace hdo : ∀ v, Holds v g 45 (dc T m L) → Mod [g] w v → v.heap.size = w.heap.size → Calls Tryd.prog 53 #[x0, x1, x2] v fun e w' => e = .returned (.tuple #[]) ∧ R w' := by rw [hT]; exact hdo
    have HT := Lib.hid hT
    clear hT
    go_enter Tryd.func51, Tryd.ntmps51
    go_wp2_with fail
    refine (power_c g S.dead _ c3).mono ?_
    rintro e w1 ⟨rfl, rfl⟩
    rw [hd]
    go_wp2_with fail
    refine (ends_c g 5 _ _ S.failing _ h rfl F5).mono ?_
    rintro e w1 ⟨rfl, h1, m1, z1⟩
    rw [decide_eq_false hf]
    go_wp2_with fail
    refine (ends_c g 4 _ _ S.armed _ h1 rfl F3).mono ?_
    rintro e w2 ⟨rfl, h2, m2, z2⟩
    rw [decide_eq_false hL]
    have d6 := h2.cell 6
    have f6 := h2.free 6
    simp only [dc, List.set_cons_succ, List.set_cons_zero, List.getElem?_cons_succ, List.getElem?_cons_zero] at d6
    have mm := (m1.trans m2 (fun _ _ h => h)).trans (Mod.setCell (ms := [g]) w2 (p := ⟨g, 6, none⟩) (by simp) (.int .i64 ((S.ops : Int) + 1))) (fun _ _ h => h)
    go_wp2_with fail
    refine (hdo _ (by rw [HT.out]; exact h2.set 6 (.int .i64 ((S.ops : Int) + 1))) mm (by simp [World.setCell]; omega)).mono ?_
    rintro e w3 ⟨rfl, hR⟩
    go_wp2
    go_ret
    exact ⟨rfl, fun hh => absurd rfl hh, fun _ => hR⟩
/-- What is asked, and how it stands behind that; what is done when it may be done is the call's own. -/
theorem ask_47 (S : St) (g m : Nat) (L : Value) (there lasts : Bool) (F : Fits S) (w : World) (x0 : Value) (R : World → Prop) (h : Holds w g 45 (dc S m L))
    (hdo : (S.ask there lasts).1 = 0 → ∀ v, Holds v g 45 (dc (S.ask there lasts).2 m L) → Mod [g] w v → v.heap.size = w.heap.size → Calls Tryd.prog 54 #[x0] v fun e w' => e = .returned (.tuple #[]) ∧ R w') :
    Calls Tryd.prog 51 #[.pointer (some ⟨g, 0, none⟩), .bool there, .bool lasts, .func (.func 54) #[] #[x0]] w fun e w' => e = .returned (.int .i64 (S.ask there lasts).1) ∧
      ((S.ask there lasts).1 ≠ 0 → Holds w' g 45 (dc (S.ask there lasts).2 m L) ∧ Mod [g] w w' ∧ w'.heap.size = w.heap.size) ∧ ((S.ask there lasts).1 = 0 → R w') := by
  obtain ⟨F1, F2, F3, F4, F5, F6⟩ := F
  obtain ⟨c0, c1, c2, c3, c4, c5, c6⟩ := dc_cells h
  obtain ⟨r, hr⟩ : ∃ r, S.ask there lasts = r := ⟨_, rfl⟩
  rw [hr] at hdo ⊢
  unfold St.ask at hr
  by_cases hd : S.dead = true
  · rw [if_pos hd] at hr
    subst hr
    clear hdo
    go_enter Tryd.func51, Tryd.ntmps51
    go_wp2_with fail
    refine (power_c g S.dead _ c3).mono ?_
    rintro e w1 ⟨rfl, rfl⟩
    rw [hd]
    go_wp2
    go_ret
    exact ⟨rfl, fun _ => ⟨h, Mod.refl _ _, rfl⟩, fun hh => by simp at hh⟩
  rw [if_neg hd] at hr
  have hd : S.dead = false := by simpa using hd
  by_cases ht : there = false
  · subst ht
    rw [if_pos (by simp)] at hr
    subst hr
    clear hdo
    go_enter Tryd.func51, Tryd.ntmps51
    go_wp2_with fail
    refine (power_c g S.dead _ c3).mono ?_
    rintro e w1 ⟨rfl, rfl⟩
    rw [hd]
    go_wp2
    go_ret
    exact ⟨rfl, fun _ => ⟨h, Mod.refl _ _, rfl⟩, fun hh => by simp at hh⟩
  have ht : there = true := by simpa using ht
  subst ht
  rw [if_neg (by simp)] at hr
  by_cases hf : S.failing = 0
  · rw [if_pos hf] at hr
    subst hr
    clear hdo
    go_enter Tryd.func51, Tryd.ntmps51
    go_wp2_with fail
    refine (power_c g S.dead _ c3).mono ?_
    rintro e w1 ⟨rfl, rfl⟩
    rw [hd]
    go_wp2_with fail
    refine (ends_c g 5 _ _ S.failing _ h rfl F5).mono ?_
    rintro e w1 ⟨rfl, h1, m1, z1⟩
    rw [decide_eq_true hf]
    go_wp2
    go_ret
    refine ⟨rfl, fun _ => ⟨?_, m1, z1⟩, fun hh => by simp at hh⟩
    have e : down S.failing = -1 := by rw [hf]; rfl
    rw [e] at h1
    exact h1
  rw [if_neg hf] at hr
  by_cases ha : (lasts && decide (S.armed = 0)) = true
  · rw [if_pos ha] at hr
    subst hr
    clear hdo
    simp only [Bool.and_eq_true, decide_eq_true_eq] at ha
    obtain ⟨rfl, ha⟩ := ha
    go_enter Tryd.func51, Tryd.ntmps51
    go_wp2_with fail
    refine (power_c g S.dead _ c3).mono ?_
    rintro e w1 ⟨rfl, rfl⟩
    rw [hd]
    go_wp2_with fail
    refine (ends_c g 5 _ _ S.failing _ h rfl F5).mono ?_
    rintro e w1 ⟨rfl, h1, m1, z1⟩
    rw [decide_eq_false hf]
    go_wp2_with fail
    refine (ends_c g 4 _ _ S.armed _ h1 rfl F3).mono ?_
    rintro e w2 ⟨rfl, h2, m2, z2⟩
    rw [decide_eq_true ha]
    have d3 := h2.cell 3
    have f3 := h2.free 3
    simp only [dc, List.set_cons_succ, List.set_cons_zero, List.getElem?_cons_succ, List.getElem?_cons_zero] at d3
    have mm := (m1.trans m2 (fun _ _ h => h)).trans (Mod.setCell (ms := [g]) w2 (p := ⟨g, 3, none⟩) (by simp) (.bool true)) (fun _ _ h => h)
    go_wp2
    go_ret
    refine ⟨rfl, fun _ => ⟨?_, mm, ?_⟩, fun hh => by simp at hh⟩
    · have e : down S.armed = -1 := by rw [ha]; rfl
      rw [e] at h2
      exact h2.set 3 (.bool true)
    · simp [World.setCell]; omega
  rw [if_neg ha] at hr
  subst hr
  replace hdo := hdo rfl
  have hL : lasts = true → S.armed ≠ 0 := by
    intro hl ha0
    exact ha (by rw [hl, ha0]; rfl)
  clear ha
  cases lasts
  · simp only [Bool.false_eq_true, if_false] at hdo ⊢
    clear hL
    obtain ⟨T, hT⟩ : ∃ T : St, T = { S with failing := down S.failing, ops := S.ops + 1 } := ⟨_, rfl⟩
    replace hdo : ∀ v, Holds v g 45 (dc T m L) → Mod [g] w v → v.heap.size = w.heap.size → Calls Tryd.prog 54 #[x0] v fun e w' => e = .returned (.tuple #[]) ∧ R w' := by rw [hT]; exact hdo
    have HT := Lib.hid hT
    clear hT
    go_enter Tryd.func51, Tryd.ntmps51
    go_wp2_with fail
    refine (power_c g S.dead _ c3).mono ?_
    rintro e w1 ⟨rfl, rfl⟩
    rw [hd]
    go_wp2_with fail
    refine (ends_c g 5 _ _ S.failing _ h rfl F5).mono ?_
    rintro e w1 ⟨rfl, h1, m1, z1⟩
    rw [decide_eq_false hf]
    have d6 := h1.cell 6
    have f6 := h1.free 6
    simp only [dc, List.set_cons_succ, List.set_cons_zero, List.getElem?_cons_succ, List.getElem?_cons_zero] at d6
    have mm := m1.trans (Mod.setCell (ms := [g]) w1 (p := ⟨g, 6, none⟩) (by simp) (.int .i64 ((S.ops : Int) + 1))) (fun _ _ h => h)
    go_wp2_with fail
    refine (hdo _ (by rw [HT.out]; exact h1.set 6 (.int .i64 ((S.ops : Int) + 1))) mm (by simp [World.setCell]; exact z1)).mono ?_
    rintro e w2 ⟨rfl, hR⟩
    go_wp2
    go_ret
    exact ⟨rfl, fun hh => absurd rfl hh, fun _ => hR⟩
  · simp only [if_true] at hdo ⊢
    replace hL := hL rfl
    obtain ⟨T, hT⟩ : ∃ T : St, T = { S with failing := down S.failing, armed := down S.armed, ops := S.ops + 1 } := ⟨_, rfl⟩
    replace hdo : ∀ v, Holds v g 45 (dc T m L) → Mod [g] w v → v.heap.size = w.heap.size → Calls Tryd.prog 54 #[x0] v fun e w' => e = .returned (.tuple #[]) ∧ R w' := by rw [hT]; exact hdo
    have HT := Lib.hid hT
    clear hT
    go_enter Tryd.func51, Tryd.ntmps51
    go_wp2_with fail
    refine (power_c g S.dead _ c3).mono ?_
    rintro e w1 ⟨rfl, rfl⟩
    rw [hd]
    go_wp2_with fail
    refine (ends_c g 5 _ _ S.failing _ h rfl F5).mono ?_
    rintro e w1 ⟨rfl, h1, m1, z1⟩
    rw [decide_eq_false hf]
    go_wp2_with fail
    refine (ends_c g 4 _ _ S.armed _ h1 rfl F3).mono ?_
    rintro e w2 ⟨rfl, h2, m2, z2⟩
    rw [decide_eq_false hL]
    have d6 := h2.cell 6
    have f6 := h2.free 6
    simp only [dc, List.set_cons_succ, List.set_cons_zero, List.getElem?_cons_succ, List.getElem?_cons_zero] at d6
    have mm := (m1.trans m2 (fun _ _ h => h)).trans (Mod.setCell (ms := [g]) w2 (p := ⟨g, 6, none⟩) (by simp) (.int .i64 ((S.ops : Int) + 1))) (fun _ _ h => h)
    go_wp2_with fail
    refine (hdo _ (by rw [HT.out]; exact h2.set 6 (.int .i64 ((S.ops : Int) + 1))) mm (by simp [World.setCell]; omega)).mono ?_
    rintro e w3 ⟨rfl, hR⟩
    go_wp2
    go_ret
    exact ⟨rfl, fun hh => absurd rfl hh, fun _ => hR⟩
end
section
open Go.RowKit
open Go.ChangeMaps (setBlock)
/-- What the first entry under this number holds. -/
def look (f : Int → Blk) : List (Int × Blk × Nat) → Int → Blk
  | [], k => f k
  | p :: l, k => if k = p.1 then p.2.1 else look f l k
/-- An entry. -/
def be (p : Int × Blk × Nat) : MapEntry := ent .i64 p.1 (bv p.2.1) p.2.2
/-- Block m is a map that has under k the block f k (noughts, where it has none). -/
def Firm (w : World) (m : Nat) (f : Int → Blk) : Prop := ∃ l c, MapIs w m (l.map be) c ∧ ∀ k, look (fun _ => fil 0) l k = f k
theorem Firm.keep {w v : World} {m : Nat} {f : Int → Blk} {ms : List Nat} (h : Firm w m f) (k : Mod ms w v) (hn : m ∉ ms) : Firm v m f := by
  obtain ⟨l, c, h1, h2⟩ := h
  exact ⟨l, c, h1.keep k hn, h2⟩
theorem Firm.lt {w : World} {m : Nat} {f : Int → Blk} (h : Firm w m f) : m < w.heap.size := by
  obtain ⟨l, c, h1, h2⟩ := h
  exact lt_of_some h1
theorem Firm.new {w : World} : Firm (w.alloc (.map #[] 0)) w.heap.size (fun _ => fil 0) := ⟨[], 0, heap_alloc_new w _, fun _ => rfl⟩

theorem find_be (k : Int) : ∀ (l : List (Int × Blk × Nat)) (i : Nat), (∃ j b, Instr.findNow (.int .i64) (.int .i64 k) (l.map be) i = some (some (j + i, bv b)) ∧ j < l.length ∧ (∃ q, l[j]? = some (k, b, q)) ∧ (∀ p, look p l k = b) ∧ ∀ p x k', look p (l.modify j (fun q => (q.1, x, q.2.2))) k' = if k' = k then x else look p l k') ∨
    (Instr.findNow (.int .i64) (.int .i64 k) (l.map be) i = some none ∧ (∀ p, look p l k = p k) ∧ ∀ p x c k', look p (l ++ [(k, x, c)]) k' = if k' = k then x else look p l k')
  | [], i => .inr ⟨rfl, fun _ => rfl, fun p x c k' => rfl⟩
  | e :: l, i => by
    obtain ⟨n, b, q⟩ := e
    by_cases hk : k = n
    · subst hk
      refine .inl ⟨0, b, ?_, by simp, ⟨q, rfl⟩, fun p => by simp [look], fun p x k' => ?_⟩
      · simp [Instr.findNow, be, ent, Instr.sameNow]
      · simp only [List.modify_zero_cons, look]
        split <;> rfl
    · have hne : (k == n) = false := by simpa using hk
      have hs : Instr.findNow (.int .i64) (.int .i64 k) ((⟨n, b, q⟩ :: l : List (Int × Blk × Nat)).map be) i = Instr.findNow (.int .i64) (.int .i64 k) (l.map be) (i + 1) := by
        simp [Instr.findNow, be, ent, Instr.sameNow, hne]
      rcases find_be k l (i + 1) with ⟨j, c, h1, h2, ⟨q', h3⟩, h4, h5⟩ | ⟨h1, h2, h3⟩
      · refine .inl ⟨j + 1, c, ?_, by simpa using h2, ⟨q', by simpa using h3⟩, fun p => ?_, fun p x k' => ?_⟩
        · rw [hs, h1]; simp; omega
        · simp only [look, if_neg hk]; exact h4 p
        · rw [List.modify_succ_cons]
          simp only [look, h5]
          by_cases e1 : k' = n
          · have : ¬ k' = k := fun e2 => hk (e2.symm.trans e1)
            simp [e1, if_neg (fun e2 : n = k => hk e2.symm)]
          · simp [e1]
      · refine .inr ⟨by rw [hs, h1], fun p => ?_, fun p x c k' => ?_⟩
        · simp only [look, if_neg hk]; exact h2 p
        · rw [List.cons_append]
          simp only [look, h3]
          by_cases e1 : k' = n
          · simp [e1, if_neg (fun e2 : n = k => hk e2.symm)]
          · simp [e1]

/-- What a map of blocks has under a number. -/
theorem run_look {w : World} {m : Nat} {f : Int → Blk} (h : Firm w m f) (k : Int) : (Instr.lookup 39 (.map (some m)) (.int .i64 k) false).run Tryd.prog w = .ok (bv (f k)) w := by
  obtain ⟨l, c, hm, hf⟩ := h
  have hm' : w.heap[m]? = some (.map (l.map be).toArray c) := hm
  have hc : ∀ e, (Instr.checkKey e 10000 3 (.int .i64 k)).run Tryd.prog w = .ok () w := fun e => MapKept.run_checkKey (k := .int .i64 k) Tryd.underlying3 (by simp [MapKept.IsKey]) e 9999
  have hkk := hf k
  rcases find_be k l 0 with ⟨j, b, h1, _, _, h4, _⟩ | ⟨h1, h2, _⟩
  · rw [h4] at hkk
    have h1' : Instr.findNow (.int .i64) (.int .i64 k) (l.map be).toArray.toList 0 = some (some (j + 0, bv b)) := h1
    simp only [Instr.lookup, Sem.run_bind, run_underlying Tryd.underlying39, MapKept.run_getObj_map hm', Result.andThen, hc, MapKept.run_findKey Tryd.underlying3 h1', Sem.run_pure]
    rw [← hkk]
    simp
  · rw [h2] at hkk
    have h1' : Instr.findNow (.int .i64) (.int .i64 k) (l.map be).toArray.toList 0 = some none := h1
    simp only [Instr.lookup, Sem.run_bind, run_underlying Tryd.underlying39, MapKept.run_getObj_map hm', Result.andThen, hc, MapKept.run_findKey Tryd.underlying3 h1', Sem.run_pure, zero110]
    rw [← hkk]
    rfl
/-- A map of blocks is told a block. -/
theorem run_tell {w : World} {m : Nat} {f : Int → Blk} (h : Firm w m f) (k : Int) (b : Blk) : ∃ v, (Instr.mapUpdate 39 (.map (some m)) (.int .i64 k) (bv b)).run Tryd.prog w = .ok () v ∧ Firm v m (fun k' => if k' = k then b else f k') ∧ Mod [m] w v ∧ v.heap.size = w.heap.size := by
  obtain ⟨l, c, hm, hf⟩ := h
  have hm' : w.heap[m]? = some (.map (l.map be).toArray c) := hm
  have hc : (Instr.checkKey false 10000 3 (.int .i64 k)).run Tryd.prog w = .ok () w := MapKept.run_checkKey (k := .int .i64 k) Tryd.underlying3 (by simp [MapKept.IsKey]) false 9999
  rcases find_be k l 0 with ⟨j, b', h1, h2, ⟨q, h3⟩, _, h5⟩ | ⟨h1, _, h3⟩
  · have h1' : Instr.findNow (.int .i64) (.int .i64 k) (l.map be).toArray.toList 0 = some (some (j, bv b')) := h1
    have hkey : ((l.map be).toArray[j]?.map (·.key)).getD (.int .i64 k) = .int .i64 k := by
      simp [h3, be, ent]
    have hstay : (Instr.keyThatStays (.int .i64 k) (.int .i64 k)).run Tryd.prog w = .ok (.int .i64 k) w := MapKept.run_keyThatStays (d := .int .i64) (k := .int .i64 k) (by simp [MapKept.IsKey])
    have hes : ((l.map be).toArray.modify j fun e => { e with key := .int .i64 k, val := bv b }) = ((l.modify j (fun q => (q.1, b, q.2.2))).map be).toArray := by
      apply Array.ext'
      simp only [Array.toList_modify]
      apply List.ext_getElem?
      intro i
      simp only [List.getElem?_modify, List.getElem?_map]
      by_cases hij : j = i
      · subst hij
        simp [h3, be, ent]
      · simp [hij]
    refine ⟨setBlock w m (.map ((l.modify j (fun q => (q.1, b, q.2.2))).map be).toArray c), ?_, ⟨_, c, put_at hm', fun k' => ?_⟩, mod_put w m _, by simp [setBlock]⟩
    · simp only [Instr.mapUpdate, Sem.run_bind, run_underlying Tryd.underlying39, MapKept.run_getObj_map hm', Result.andThen, hc, MapKept.run_findKey Tryd.underlying3 h1', hkey, hstay, hes]
      rw [MapKept.run_setObj_map _ hm']
      rfl
    · rw [h5]; rw [hf]
  · have h1' : Instr.findNow (.int .i64) (.int .i64 k) (l.map be).toArray.toList 0 = some none := h1
    refine ⟨setBlock w m (.map ((l ++ [(k, b, c)]).map be).toArray (c + 1)), ?_, ⟨_, c + 1, put_at hm', fun k' => ?_⟩, mod_put w m _, by simp [setBlock]⟩
    · simp only [Instr.mapUpdate, Sem.run_bind, run_underlying Tryd.underlying39, MapKept.run_getObj_map hm', Result.andThen, hc, MapKept.run_findKey Tryd.underlying3 h1']
      rw [MapKept.run_setObj_map _ hm']
      simp [setBlock, be, ent]
    · rw [h3, hf]
end
section
open Go.RowKit
theorem MapIs.ne_cells {w : World} {m g : Nat} {es : List MapEntry} {c : Nat} {cs : Array Value} {t : TypeId} {fz : Nat × Nat} (h : MapIs w m es c) (h' : w.heap[g]? = some (.cells cs t fz)) : g ≠ m := by
  rintro rfl
  unfold MapIs at h
  rw [h] at h'
  cases h'
theorem Firm.ne_holds {w : World} {m g : Nat} {f : Int → Blk} {t : TypeId} {cs : List Value} (h : Firm w m f) (h' : Holds w g t cs) : g ≠ m := by
  obtain ⟨l, c, h1, h2⟩ := h
  exact h1.ne_cells h'
theorem Firm.ne_cell {w : World} {m g o : Nat} {f : Int → Blk} {v : Value} (h : Firm w m f) (h' : w.cell? ⟨g, o, none⟩ = some v) : g ≠ m := by
  obtain ⟨l, c, h1, h2⟩ := h
  rintro rfl
  unfold MapIs at h1
  simp [World.cell?, h1] at h'
/-- A value of many cells is loaded, in a region that is gone through in the text's order. -/
theorem wpStill_loads {P : Program} {w : World} {ops : Array Oper} {rest : List Oper} {o : Oper} {a : Act} {Q : Act → Prop} (hgd : o.guard = none) (ty : TypeId) (x : Operand) (ho : o.op = .load ty x) (g f : Nat) (cs : List Value) (hx : a.eval x = .pointer (some ⟨g, f, none⟩)) (hc : Cells w (some ⟨g, f, none⟩) cs)
    (d : TypeDesc) (hu : P.underlying ty = some d) (hd : (match d with | .struct _ | .array _ _ => true | _ => false) = true) (hi : (P.info? ty).map (·.size) = some cs.length)
    (V : Value) (hV : V = .agg cs.toArray) (h : wpStill P ops w Q rest (a.put o.dst V)) : wpStill P ops w Q (o :: rest) a := by
  subst hV
  refine wpStill_step (fun K hK => ?_)
  have hw : Region.wanted o (yielded ops a.tmps) = true := by unfold Region.wanted; rw [hgd]
  rw [if_pos hw]
  unfold Oper.still execOp
  simp only [ho, hx, Instr.loadAt, Instr.sureAddr, Sem.run_bind, Sem.run_pure, Result.andThen_ok, run_loads hc hu hd hi]
  rw [Oper.stillUpon_value]
  exact hK _ h
/-- The firm part is told a block, in a walk. -/
theorem wpList_tells {w : World} {ops : Array Oper} {rest : List Oper} {o : Oper} {a : Act} {Q : Exit → Act → World → Prop} (hgd : o.guard = none) (x y z : Operand) (ho : o.op = .mapUpdate 39 x y z) (hdst : o.dst = none) (m : Nat) (k : Int) (b : Blk) (f : Int → Blk)
    (hx : a.eval x = .map (some m)) (hy : a.eval y = .int .i64 k) (hz : a.eval z = bv b) (hf : Firm w m f)
    (h : ∀ v, Firm v m (fun k' => if k' = k then b else f k') → Mod [m] w v → v.heap.size = w.heap.size → wpList Tryd.prog ops Q rest a v) : wpList Tryd.prog ops Q (o :: rest) a w := by
  obtain ⟨v, hrun, h1, h2, h3⟩ := run_tell hf k b
  refine wpList_plain hgd fun K hK => ?_
  unfold Oper.wp execOp
  simp only [ho, hx, hy, hz, Sem.run_bind, hrun, Result.andThen]
  have := h v h1 h2 h3
  refine hK _ _ ?_
  show wpList Tryd.prog ops Q rest (a.put o.dst undef) _
  rw [hdst]
  exact this

set_option maxRecDepth 100000 in
set_option maxHeartbeats 1000000 in
theorem settle_48 (S : St) (g m : Nat) (A : Option Addr) (c : Nat) (l : Story) (f : Int → Blk) (stays : Nat → Bool) (sel : Nat → Story) (w : World) (hn : l.length ≤ 1099511627776)
    (h0 : sel 0 = []) (h1 : ∀ k (hk : k < l.length), sel (k + 1) = sel k ++ (if stays k then [l[k]] else []))
    (h : Holds w g 45 (dc S m (.slice A l.length c))) (hf : Firm w m f) (hl : Cells w A (l.flatMap wc))
    (hst : ∀ v (k : Nat), Mod [m] w v → k < l.length → Calls Tryd.prog 56 #[.int .i64 (k : Int)] v fun e w' => e = .returned (.bool (stays k)) ∧ w' = v) :
    Calls Tryd.prog 55 #[.pointer (some ⟨g, 0, none⟩), .func (.func 56) #[] #[]] w fun e w' => e = .returned (.tuple #[]) ∧ Holds w' g 45 (dc S m (.slice none 0 0)) ∧ Firm w' m (app f (sel l.length)) ∧ Mod [g, m] w w' := by
  have c2 := (dc_cells h).2.2.1
  have hgm : g ≠ m := hf.ne_holds h
  obtain ⟨n, hnn⟩ : ∃ n, n = l.length := ⟨_, rfl⟩
  have hH := Lib.hid (And.intro h (And.intro hf (And.intro hl (And.intro hst (And.intro h0 (And.intro h1 hnn))))))
  clear hf hl hst h0 h1
  rw [← hnn] at hn c2 ⊢
  clear hnn h
  have hn' : (n : Int) ≤ 1099511627776 := by omega
  go_enter Tryd.func55, Tryd.ntmps55
  go_wp2_with fail
  go_loopw [11] (fun i wi => ∃ k : Nat, k ≤ n ∧ i = .int .i64 (k : Int) ∧ Firm wi m (app f (sel k)) ∧ Mod [m] w wi) (fun i _ => n - (intOf i).toNat)
  case atStart => exact ⟨0, by omega, rfl, by rw [hH.out.2.2.2.2.1]; exact hH.out.2.1, Mod.refl _ _⟩
  case round =>
    obtain ⟨k, hk, rfl, hfi, hmi⟩ := hrel
    by_cases hkn : k < n
    · obtain ⟨hA1, hA2, hA3, hA4, hA5, hA6, hA7⟩ := hH.out
      have hkl : k < l.length := by omega
      obtain ⟨ga, oa, rfl, hc⟩ := hA3.elem' wc 65 (by omega) wc_length k hkl
      have hne := hA2.ne_cell (hc.at 0 (by rw [wc_length]; omega))
      have hci := hc.keep hmi (by simpa using hne)
      have hs := hA6 k hkl
      have hcall := fun v hv => hA4 v k hv hkl
      clear hA1 hA2 hA3 hA4 hA5 hA6 hA7 hc
      obtain ⟨p, hp⟩ : ∃ p, p = l[k] := ⟨_, rfl⟩
      rw [← hp] at hci hs
      clear hp
      have hsz := hmi.size
      have hfl := hfi.lt
      go_wp2_with (first
        | (with_reducible refine wpList_loads (o := ⟨some 15, .load 92 (.tmp 14), _, _, _, _⟩) rfl 92 (.tmp 14) rfl ga (oa + k * 65) _ rfl hci _ Tryd.underlying92 rfl (by rw [wc_length]; exact size128) (wv p) rfl ?_)
        | (with_reducible refine wpList_allocs (o := ⟨some 5, .alloc 92, _, _, _, _⟩) rfl 92 rfl _ zero128 ?_; intro w1 hb1 m1 z1)
        | (with_reducible refine wpList_storesAll (o := ⟨none, .store 92 (.tmp 5) (.tmp 15), _, _, _, _⟩) rfl 92 (.tmp 5) (.tmp 15) rfl rfl wr.heap.size (wc p) rfl (wv p) rfl rfl 92 _ hb1 (by rw [wc_length, wc_length]) (wc_one p) (by rw [wc_length]; exact size128) ?_; intro w2 hb2 m2 z2))
      have m3 : Mod [] wr w2 := ⟨m2.os.trans m1.os, m2.tape.trans m1.tape, m2.output.trans m1.output, by omega, fun i hi hn => (m2.block i (by omega) (by simp; omega)).trans (m1.block i hi hn)⟩
      have hm2 := hmi.then m3
      have hfi2 := hfi.keep m3 (by simp)
      refine (hcall w2 hm2).mono ?_
      rintro e w3 ⟨rfl, rfl⟩
      clear hcall hci hb1 m1 m2 z1 hfi
      have k1 : Holds w3 g 45 _ := hH.out.1.keep hm2 (by simpa using hgm)
      have d1 := k1.cell 1
      simp only [dc, List.getElem?_cons_succ, List.getElem?_cons_zero] at d1
      have d2 := hb2.cell 0
      simp only [wc, List.getElem?_cons_zero] at d2
      clear k1
      obtain ⟨b, hb⟩ : ∃ b, b = wr.heap.size := ⟨_, rfl⟩
      rw [← hb] at hb2 d2 ⊢
      clear hb z2
      cases hsk : stays k
      · rw [hsk] at hs
        simp only [Bool.false_eq_true, if_false, List.append_nil] at hs
        rw [← hs] at hfi2
        clear hs
        go_wp2
        exact ⟨⟨k + 1, by omega, by go_num, hfi2, hm2⟩, by simp [intOf]; omega⟩
      · rw [hsk] at hs
        simp only [if_true] at hs
        have hHs := Lib.hid hs
        clear hs
        go_wp2_with fail
        refine wp_region_still_tail 8 (by kernel_rfl) (by kernel_rfl) ?_
        simp only [List.take_succ_cons, List.take_zero, List.drop_succ_cons, List.drop_zero]
        iterate 7 still_step
        have hbl : Cells w3.drew (some ⟨b, 1, none⟩) (bc p.2) := (Cells.of_holds hb2).part 1 (fun i hi => by simp [wc, Nat.add_comm 1 i, hi])
        refine wpStill_loads rfl 73 (.tmp 25) rfl b 1 (bc p.2) rfl hbl _ Tryd.underlying73 rfl (by rw [bc_length]; exact size110) (bv p.2) rfl ?_
        refine wpStill_nil ?_
        have hfd : Firm w3.drew m (app f (sel k)) := hfi2
        have hmd : Mod [m] w w3.drew := hm2.then (Mod.drew [] w3)
        change wpList _ _ _ _ _ w3.drew
        generalize w3.drew = w4 at *
        refine wpList_tells rfl (.tmp 22) (.tmp 24) (.tmp 26) rfl rfl m p.1 p.2 _ rfl rfl rfl hfd ?_
        intro w5 hf5 m5 z5
        have hF : Firm w5 m (app f (sel (k + 1))) := by rw [hHs.out, app_snoc]; exact hf5
        have hM : Mod [m] w w5 := hmd.trans m5 (fun _ _ h => h)
        clear hf5 m5 hfd hmd hfi2 hm2 m3 hbl hb2 d1 d2
        go_wp2
        exact ⟨⟨k + 1, by omega, by go_num, hF, hM⟩, by simp [intOf]; omega⟩
    · obtain rfl : n = k := by omega
      have d1 := (hH.out.1.keep hmi (by simpa using hgm)).cell 2
      have d2 := (hH.out.1.keep hmi (by simpa using hgm)).free 2
      simp only [dc, List.getElem?_cons_succ, List.getElem?_cons_zero] at d1
      have hE := Lib.hid ((hH.out.1.keep hmi (by simpa using hgm)).set 2 (.slice none 0 0))
      have hM : Mod [g, m] w (wr.setCell ⟨g, 2, none⟩ (.slice none 0 0)) := (hmi.wk (ns := [g, m]) (fun i _ h => by simp at h; simp [h])).trans (Mod.setCell (ms := [g, m]) wr (p := ⟨g, 2, none⟩) (by simp) _) (fun _ _ h => h)
      have hF : Firm (wr.setCell ⟨g, 2, none⟩ (.slice none 0 0)) m (app f (sel n)) := hfi.keep (Mod.setCell (ms := [g]) wr (p := ⟨g, 2, none⟩) (by simp) _) (by simpa using hgm.symm)
      clear hfi hmi hH
      go_wp2
      go_end0
      exact ⟨rfl, hE.out, hF, hM⟩
end
section
open Go.RowKit
end
section
open Go.RowKit Go.Shelf
attribute [local go_sem] Oper.semAt_some
/-- What a round keeps: the blocks below n, but for block b. -/
structure KeepB (b n : Nat) (W W' : World) : Prop where
  size : W.heap.size ≤ W'.heap.size
  same : ∀ k, k < n → k < W.heap.size → k ≠ b → W'.heap[k]? = W.heap[k]?
theorem KeepB.refl (b n : Nat) (W : World) : KeepB b n W W := ⟨Nat.le_refl _, fun _ _ _ _ => rfl⟩
theorem KeepB.trans {b n : Nat} {A B C : World} (h : KeepB b n A B) (k : KeepB b n B C) : KeepB b n A C :=
  ⟨Nat.le_trans h.size k.size, fun i h1 h2 h3 => (k.same i h1 (Nat.lt_of_lt_of_le h2 h.size) h3).trans (h.same i h1 h2 h3)⟩
theorem KeepB.cells {b n : Nat} {w v : World} {A : Option Addr} {cs : List Value} (h : Cells w A cs) (m : KeepB b n w v) (hn : ∀ a, A = some a → a.block < n ∧ a.block ≠ b) : Cells v A cs := by
  intro i hi
  obtain ⟨g, o, rfl, hc⟩ := h i hi
  obtain ⟨h1, h2⟩ := hn _ rfl
  have hlt : g < w.heap.size := by
    rcases Nat.lt_or_ge g w.heap.size with hlt | hge
    · exact hlt
    · simp [World.cell?, Array.getElem?_eq_none hge] at hc
  exact ⟨g, o, rfl, by rw [World.cell?_of_block (a := ⟨g, o + i, none⟩) (m.same g h1 hlt h2)]; exact hc⟩
section laws
variable {P : Program} {w : World} {ops : Array Oper} {rest : List Oper} {o : Oper} {a : Act} {Q : Exit → Act → World → Prop} {F : Fence} {n : Nat}
/-- A value of many cells is loaded, within a fence. -/
theorem wpListIn_loads (hgd : o.guard = none) (ty : TypeId) (x : Operand) (ho : o.op = .load ty x) (g f : Nat) (cs : List Value) (hx : a.eval x = .pointer (some ⟨g, f, none⟩)) (hc : Cells w (some ⟨g, f, none⟩) cs)
    (d : TypeDesc) (hu : P.underlying ty = some d) (hd : (match d with | .struct _ | .array _ _ => true | _ => false) = true) (hi : (P.info? ty).map (·.size) = some cs.length)
    (V : Value) (hV : V = .agg cs.toArray)
    (h : wpListIn F n P ops Q rest (a.put o.dst V) w) : wpListIn F n P ops Q (o :: rest) a w := by
  subst hV
  refine wpListIn_plain hgd fun K hK => ?_
  unfold Oper.wpIn
  refine ⟨by simp [Oper.about, ho], ?_⟩
  rw [Oper.semAt_plain F _ _ (by rw [ho]; intro c hc'; cases hc')]
  unfold execOp
  simp only [ho, hx, Instr.loadAt, Instr.sureAddr, Sem.run_bind, Sem.run_pure, Result.andThen_ok, run_loads hc hu hd hi]
  exact hK _ _ h
theorem wpListIn_storesAll (hgd : o.guard = none) (ty : TypeId) (x y : Operand) (ho : o.op = .store ty x y) (hdst : o.dst = none) (g : Nat) (cs : List Value) (hx : a.eval x = .pointer (some ⟨g, 0, none⟩)) (V : Value) (hy : a.eval y = V) (hV : V = .agg cs.toArray)
    (t : TypeId) (old : List Value) (hh : Holds w g t old) (hf : cs.length = old.length) (h1 : ∀ v ∈ cs, v.oneCell' = true) (hi : (P.info? ty).map (·.size) = some cs.length)
    (h : ∀ v, Holds v g t cs → Mod [g] w v → v.heap.size = w.heap.size → wpListIn F n P ops Q rest a v) : wpListIn F n P ops Q (o :: rest) a w := by
  subst hV
  obtain ⟨v, hrun, h2, h3, h4⟩ := run_stores (P := P) (ty := ty) (f := 0) hh (by omega) h1 hi
  refine wpListIn_plain hgd fun K hK => ?_
  unfold Oper.wpIn
  refine ⟨by simp [Oper.about, ho], ?_⟩
  rw [Oper.semAt_plain F _ _ (by rw [ho]; intro c hc'; cases hc')]
  unfold execOp
  simp only [ho, hx, hy, Instr.storeAt, Instr.sureAddr, Sem.run_bind, Sem.run_pure, Result.andThen_ok, hrun]
  refine hK _ _ ?_
  show wpListIn F n P ops Q rest (a.put o.dst undef) _
  rw [hdst]
  exact h v (by simpa [hf] using h2) h3 h4
theorem wpListIn_allocs (hgd : o.guard = none) (ty : TypeId) (ho : o.op = .alloc ty) (cs : List Value) (hz : ∀ w, (zeroValue ty).run P w = .ok (.agg cs.toArray) w)
    (h : ∀ v, Holds v w.heap.size ty cs → Mod [] w v → v.heap.size = w.heap.size + 1 → wpListIn F n P ops Q rest (a.put o.dst (.pointer (some ⟨w.heap.size, 0, none⟩))) v) : wpListIn F n P ops Q (o :: rest) a w := by
  refine wpListIn_plain hgd fun K hK => ?_
  have hrun : (Instr.alloc ty true (.tuple #[])).run P w = .ok (.pointer (some ⟨w.heap.size, 0, none⟩)) (w.alloc (.cells cs.toArray ty)) := by
    simp [Instr.alloc, hz, newVar, newRow, Value.cells, go_sem]
  unfold Oper.wpIn
  refine ⟨by simp [Oper.about, ho], ?_⟩
  rw [Oper.semAt_plain F _ _ (by rw [ho]; intro c hc'; cases hc')]
  unfold execOp
  simp only [ho, Sem.run_bind, hrun, Result.andThen]
  exact hK _ _ (h _ (Holds.made w ty cs) (Mod.alloc [] w _) (by simp))
end laws
set_option maxRecDepth 100000 in
set_option maxHeartbeats 2000000 in
theorem back_in (F : Fence) (n : Nat) (h57 : F.fn 77) (hro : F.round = none) (hn : 1 ≤ n) (y bx b5 n0 c : Nat) (A : Option Addr) (l : Story) (hl : l.length ≤ 1099511627776) (hbx : bx < n0 ∧ bx ≠ b5) (hA : 0 < l.length → ∀ a, A = some a → a.block < n0 ∧ a.block ≠ b5) (J Jx : Story → World → Prop)
    (hY : ∀ pre x W, J pre W → pre.length < l.length → YieldAt F (n - 1) Tryd.prog y #[wv x] W fun e W' =>
      (e = .returned (.bool true) ∧ J (pre ++ [x]) W' ∧ KeepB b5 n0 W W') ∨ (e = .returned (.bool false) ∧ Jx (pre ++ [x]) W'))
    (W : World) (hB : Cells W (some ⟨bx, 0, none⟩) [.slice A l.length c]) (hc : Cells W A (l.flatMap wc)) (h0 : J [] W) :
    CallsIn F n Tryd.prog 77 #[.func (.yield y) #[] #[], .pointer (some ⟨bx, 0, none⟩)] W fun e W' => (∃ v, e = .returned v) ∧ ((∃ ys, ys = l.reverse ∧ J ys W') ∨ (∃ pre, (∃ t, l.reverse = pre ++ t) ∧ Jx pre W')) := by
  refine callsIn_of_wp Tryd.func77 rfl h57 ?_ hro
  simp only [Tryd.ntmps77, List.size_toArray, List.length_cons, List.length_nil, Nat.reduceAdd, Nat.reduceSub, Array.replicate_succ, Array.replicate_zero, List.push_toArray, List.append_toArray, List.nil_append, List.cons_append]
  have hBc := hB.at 0 (by simp)
  simp only [Nat.add_zero, List.getElem_cons_zero] at hBc
  obtain ⟨N, hN⟩ : ∃ N, N = l.length := ⟨_, rfl⟩
  have HN := Lib.hid hN
  rw [← hN] at hl hBc
  clear hN
  have hlZ : (N : Int) ≤ 1099511627776 := by omega
  gi_wp2
  gi_loopw [3] (fun i wr => ∃ k : Nat, k ≤ N ∧ i = .int .i64 ((N : Int) - 1 - (k : Int)) ∧ J (l.reverse.take k) wr ∧ KeepB b5 n0 W wr) (fun i _ => ((intOf i) + 1).toNat)
  case atStart => exact ⟨0, Nat.zero_le _, by simp, by simpa using h0, KeepB.refl _ _ _⟩
  case round =>
    obtain ⟨k, hk, rfl, hJs, hnx⟩ := hrel
    by_cases hlt : k < N
    · have hkl : N - 1 - k < l.length := by have := HN.out; omega
      obtain ⟨ga, oa, rfl, hce⟩ := hc.elem' wc 65 (by omega) wc_length (N - 1 - k) hkl
      have hA0 := hA (by omega) ⟨ga, oa, none⟩ rfl
      have hcx := hnx.cells hce (fun a ha => by cases ha; exact hA0)
      have hbb := (hnx.cells hB (fun a ha => by cases ha; exact hbx)).at 0 (by simp)
      simp only [Nat.add_zero, List.getElem_cons_zero, ← HN.out] at hbb
      obtain ⟨j, hj⟩ : ∃ j, j = N - 1 - k := ⟨_, rfl⟩
      have hjZ : (N : Int) - 1 - (k : Int) = (j : Int) := by omega
      have hjN : j < N := by omega
      rw [hjZ]
      simp only [← hj] at hcx hkl
      obtain ⟨p, hp⟩ : ∃ p, p = l[j] := ⟨_, rfl⟩
      rw [← hp] at hcx
      have hq : l.reverse.take (k + 1) = l.reverse.take k ++ [p] := by
        rw [List.take_add_one]
        have : l.reverse[k]? = some p := by
          rw [List.getElem?_reverse (by have := HN.out; omega), hp, ← HN.out, show N - 1 - k = j from hj.symm]
          exact List.getElem?_eq_getElem hkl
        rw [this]
        rfl
      obtain ⟨fn, tmps, assign, body, hy, hR⟩ := hY _ p wr hJs (by rw [List.length_take, List.length_reverse, ← HN.out]; omega)
      have HZ := Lib.hid (And.intro hjZ (And.intro hq hnx))
      have hcZ := Lib.hid (And.intro hcx hce)
      clear hjZ hq hnx hcx hce hp hj hB hc
      gi_wp2_with (with_reducible refine wpListIn_loads (o := ⟨some 15, .load 92 (.tmp 14), _, _, _, _⟩) rfl 92 (.tmp 14) rfl ga (oa + j * 65) _ rfl hcZ.out.1 _ Tryd.underlying92 rfl (by rw [wc_length]; exact size128) (wv p) rfl ?_)
      refine hR.mono ?_
      rintro e W3 (⟨rfl, hJ3, hk3⟩ | ⟨rfl, hJx3⟩)
      · gi_wp2
        obtain ⟨z1, z2, z3⟩ := HZ.out
        exact ⟨⟨k + 1, by omega, by simp <;> omega, by rw [z2]; exact hJ3, z3.trans hk3⟩, by simp [intOf]⟩
      · gi_wp2
        refine bodyPost_ret (results_none rfl _ _ _) rfl ?_
        obtain ⟨z1, z2, z3⟩ := HZ.out
        exact ⟨⟨_, rfl⟩, .inr ⟨_, ⟨l.reverse.drop (k + 1), by rw [← z2, List.take_append_drop]⟩, hJx3⟩⟩
    · obtain rfl : N = k := by omega
      have hall : l.reverse.take N = l.reverse := List.take_of_length_le (by rw [List.length_reverse, ← HN.out]; omega)
      rw [hall] at hJs
      clear hall hnx
      gi_wp2
      go_end0
      exact ⟨⟨_, rfl⟩, .inl ⟨_, rfl, hJs⟩⟩
/-- Writes from the last one back: for every loop's body that keeps where they lie. -/
theorem back_stops (F : Fence) (n : Nat) (h57 : F.fn 77) (hro : F.round = none) (hn : 1 ≤ n) (bx b5 n0 c : Nat) (A : Option Addr) (l : Story) (hl : l.length ≤ 1099511627776) (hbx : bx < n0 ∧ bx ≠ b5) (hA : 0 < l.length → ∀ a, A = some a → a.block < n0 ∧ a.block ≠ b5)
    (w : World) (hB : Cells w (some ⟨bx, 0, none⟩) [.slice A l.length c]) (hc : Cells w A (l.flatMap wc)) (_ : n0 ≤ w.heap.size) :
    SeqStopsK F n Tryd.prog 77 #[.pointer (some ⟨bx, 0, none⟩)] (fun x => #[wv x]) (KeepB b5 n0) (fun xs => xs = l.reverse) (fun pre => ∃ t, l.reverse = pre ++ t) l.length w := fun y J Jx W hW hJ hJx hY h0 => by
  have hk : KeepB b5 n0 w W := ⟨hW.size, fun k h1 h2 _ => hW.block k (by omega)⟩
  exact back_in F n h57 hro hn y bx b5 n0 c A l hl hbx hA J Jx hY W (hk.cells hB (fun a ha => by cases ha; exact hbx)) (by
    rcases Nat.eq_zero_or_pos l.length with h0 | h0
    · rw [List.eq_nil_of_length_eq_zero h0]; exact Cells.nil _ _
    · exact hk.cells hc (hA h0)) h0
end
section
open Go.RowKit Go.Shelf
attribute [local go_sem] Oper.semAt_some
theorem zip_one (p : Tmp) (v : Value) (T : Array Value) : ((#[p] : Array Tmp).zip #[v]).foldl (fun t (p, v) => t.setIfInBounds p v) T = T.setIfInBounds p v := by simp
theorem holds_own {W W' : World} {g : Nat} {t : TypeId} {cs : List Value} {row : Option Nat} (h : Holds W g t cs) (hg : W.grownBy W' row) (hr : ∀ r, row = some r → ∃ o : Obj, W.heap[r]? = some o ∧ o.isCells = false) : Holds W' g t cs :=
  (hg.block g h.lt (fun e => by obtain ⟨o, ho, hc⟩ := hr g e.symm; unfold Holds at h; rw [h] at ho; cases ho; cases hc)).trans h
theorem mod_own {w W W' : World} {row : Option Nat} (h : Mod [] w W) (hg : W.grownBy W' row) (hr : ∀ r, row = some r → w.heap.size ≤ r) : Mod [] w W' :=
  ⟨hg.os.trans h.os, hg.tape.trans h.tape, hg.output.trans h.output, Nat.le_trans h.size hg.size, fun k hk hn => (hg.block k (Nat.lt_of_lt_of_le hk h.size) (fun e => by have := hr k e.symm; omega)).trans (h.block k hk hn)⟩
theorem Mod.keepsFrom {W W' : World} (h : Mod [] W W') (B : Nat) : KeepsFrom B W W' := ⟨h.size, fun k o _ hk _ => (h.block k (Array.getElem?_eq_some_iff.1 hk).1 (by simp)).trans hk⟩
theorem Mod.keepsFrom1 {W W' : World} {g : Nat} {t : TypeId} {cs : List Value} (h : Mod [g] W W') (hh : Holds W g t cs) (B : Nat) : KeepsFrom B W W' := ⟨h.size, fun k o _ hk hc => (h.block k (Array.getElem?_eq_some_iff.1 hk).1 (by
  simp only [List.mem_singleton]
  rintro rfl
  unfold Holds at hh
  rw [hh] at hk
  cases hk
  cases hc)).trans hk⟩
theorem Mod.keepB {W W' : World} {b : Nat} (h : Mod [b] W W') (n : Nat) : KeepB b n W W' := ⟨h.size, fun k _ h2 h3 => h.block k h2 (by simpa using h3)⟩

theorem backwards_c (A : Option Addr) (n c : Nat) (w : World) : Calls Tryd.prog 71 #[.slice A n c] w fun e w' => e = .returned (.func (.func 77) #[] #[.pointer (some ⟨w.heap.size, 0, none⟩)]) ∧ Holds w' w.heap.size 41 [.slice A n c] ∧ Mod [] w w' ∧ w'.heap.size = w.heap.size + 1 := by
  go_enter Tryd.func71, Tryd.ntmps71
  go_wp2_with (with_reducible refine wpList_boxes (o := ⟨some 1, .box 41 (.tmp 0), _, _, _, _⟩) rfl 41 (.tmp 0) rfl _ rfl [.slice A n c] rfl ?_; intro w1 hb1 m1 z1)
  go_ret
  exact ⟨rfl, hb1, m1, z1⟩
set_option maxRecDepth 100000 in
set_option maxHeartbeats 2000000 in
theorem holds_c (S : St) (g m : Nat) (A : Option Addr) (c : Nat) (i : Int) (w : World) (h : Holds w g 45 (dc S m (.slice A S.loose.length c))) (hf : Firm w m S.firm) (hl : Cells w A (S.loose.flatMap wc)) (hn : S.loose.length ≤ 1099511627776) :
    Calls Tryd.prog 62 #[.pointer (some ⟨g, 0, none⟩), .int .i64 i] w fun e w' => e = .returned (bv (S.holds i)) ∧ Mod [] w w' := by
  refine (callsIn_wide (n := 5)).1 ?_
  refine callsIn_of_wp_marks Tryd.func62 rfl trivial ?_ rfl
  simp only [Tryd.ntmps62, List.size_toArray, List.length_cons, List.length_nil, Nat.reduceAdd, Nat.reduceSub, Array.replicate_succ, Array.replicate_zero, List.push_toArray, List.append_toArray, List.nil_append, List.cons_append]
  refine wpIn_wide.2 ?_
  have d1 := (dc_cells h).2.1
  go_wp2_with (first
    | (with_reducible refine wpList_boxes (o := ⟨some 3, .box 3 (.tmp 1), _, _, _, _⟩) rfl 3 (.tmp 1) rfl _ rfl [.int .i64 i] rfl ?_; intro w1 hb1 m1 z1)
    | (with_reducible refine wpList_allocs (o := ⟨some 4, .alloc 73, _, _, _, _⟩) rfl 73 rfl _ zero110 ?_; intro w2 hb2 m2 z2))
  go_step3
  go_wp2_with fail
  simp only [Act.put, Array.setIfInBounds, List.size_toArray, List.length_cons, List.length_nil, Nat.reduceAdd, Nat.reduceLT, dite_true, List.set_toArray, List.set_cons_succ, List.set_cons_zero]
  have mm2 : Mod [] w w2 := m1.then m2
  have d1' : w2.cell? ⟨g, 1, none⟩ = some (.map (some m)) := (dc_cells (h.keep mm2 (by simp))).2.1
  have dI : w2.cell? ⟨w.heap.size, 0, none⟩ = some (.int .i64 i) := (hb1.keep m2 (by simp)).cell 0
  have hf2 : Firm w2 m S.firm := hf.keep mm2 (by simp)
  have hlt : g < w2.heap.size := Nat.lt_of_lt_of_le h.lt mm2.size
  clear d1
  have hE : (Instr.lookup 39 (.map (some m)) (.int .i64 i) false).run Tryd.prog w2.drew = .ok (bv (S.firm i)) w2.drew := run_look (w := w2.drew) hf2 i
  have hE2 : ∀ o, (Instr.lookup 39 (.map (some m)) (.int .i64 i) false).run Tryd.prog (w2.alloc o).drew = .ok (bv (S.firm i)) (w2.alloc o).drew := fun o => run_look (w := w2.drew.alloc o) ((Firm.keep (v := w2.drew.alloc o) (w := w2.drew) hf2 (Mod.alloc [] _ _) (by simp))) i
  obtain ⟨C, hC⟩ : ∃ C, C = (bc (S.firm i)).toArray := ⟨_, rfl⟩
  have hv : bv (S.firm i) = .agg C := by rw [hC]; rfl
  have hCs : C.size = 64 := by rw [hC, List.size_toArray, bc_length]
  have hC1 : C.all (·.oneCell') = true := by rw [hC]; simpa using bc_one (S.firm i)
  have hsz2 : w2.heap.size = w.heap.size + 1 + 1 := by omega
  have hS : ∀ zs : Array Value, zs.size = 64 → (storeCells ⟨w.heap.size + 1 + 1, 0, none⟩ C.toList 0).run Tryd.prog (w2.alloc (.cells zs 73)).drew = .ok () (w2.alloc (.cells C 73)).drew := fun zs hz => by
    have := run_storeCells_new (P := Tryd.prog) w2.drew 73 zs C (by rw [hCs]; exact size110) (by omega) hC1
    rw [show w2.drew.heap.size = w.heap.size + 1 + 1 from hsz2] at this
    exact this
  rw [hv] at hE hE2
  have dA : ∀ o, (w2.alloc o).cell? ⟨g, 1, none⟩ = some (.map (some m)) := fun o => Mod.cell (Mod.alloc [] w2 o) (by simp) d1'
  have dB : ∀ o, (w2.alloc o).cell? ⟨w.heap.size, 0, none⟩ = some (.int .i64 i) := fun o => Mod.cell (Mod.alloc [] w2 o) (by simp) dI
  have HC := Lib.hid (And.intro hC (And.intro hv (And.intro hC1 hf2)))
  have HH := Lib.hid (And.intro h (And.intro hf hl))
  clear hC hv hC1 hf2 hf h hl
  go_region
  have hb3 : Holds (w2.alloc (.cells C 73)).drew (w.heap.size + 1 + 1) 73 (bc (S.firm i)) := by
    have := Holds.made w2 73 (bc (S.firm i))
    rw [hsz2, ← HC.out.1] at this
    exact this
  have m3 : Mod [] w2 (w2.alloc (.cells C 73)).drew := (Mod.alloc [] w2 _).then (Mod.drew [] _)
  have z3 : (w2.alloc (.cells C 73)).drew.heap.size = w2.heap.size + 1 := by simp
  clear hE hE2 hS dA dB hCs d1' dI hlt HC
  generalize (w2.alloc (.cells C 73)).drew = w3 at *
  obtain ⟨b5, hb5⟩ : ∃ b, b = w.heap.size + 1 + 1 := ⟨_, rfl⟩
  obtain ⟨b4, hb4⟩ : ∃ b, b = w1.heap.size := ⟨_, rfl⟩
  obtain ⟨b3, hb3e⟩ : ∃ b, b = w.heap.size := ⟨_, rfl⟩
  have hB3 : Holds w3 b3 3 [.int .i64 i] := by rw [hb3e]; exact (hb1.keep m2 (by simp)).keep m3 (by simp)
  have hB4 : Holds w3 b4 73 (bc (fil 0)) := by rw [hb4]; exact hb2.keep m3 (by simp)
  rw [← hb5] at hb3
  have o1 : b3 < b4 := by omega
  have o2 : b4 < b5 := by omega
  have o3 : w3.heap.size = b5 + 1 := by omega
  have o4 : w.heap.size ≤ b3 := by omega
  rw [← hb5, ← hb4, ← hb3e]
  have mm3 : Mod [] w w3 := mm2.then m3
  clear hb5 hb4 hb3e hb1 hb2 m1 m2 z1 z2 z3 hsz2 m3 mm2
  have d2 := (dc_cells (HH.out.1.keep mm3 (by simp))).2.2.1
  go_wp2_with fail
  go_step3
  go_wp2_with (go_at_call 71; refine (backwards_c _ _ _ _).mono ?_; rintro e w4 ⟨rfl, hbx, m4, z4⟩)
  refine (wpIn_wide (n := 5)).1 ?_
  have hc4 : Cells w4 A (S.loose.flatMap wc) := (HH.out.2.2.keep mm3 (by simp)).keep m4 (by simp)
  have mm4 : Mod [] w w4 := mm3.then m4
  replace hB3 := hB3.keep m4 (by simp)
  replace hB4 := hB4.keep m4 (by simp)
  replace hb3 := hb3.keep m4 (by simp)
  have hAlt : 0 < S.loose.length → ∀ a, A = some a → a.block < w4.heap.size ∧ a.block ≠ b5 := fun hp a ha => by
    obtain ⟨ad, e1, e2⟩ := HH.out.2.2.first (by rw [flat_length wc 65 wc_length]; omega)
    rw [ha] at e1
    cases e1
    have h1 := block_lt_of_cell (e2 0 _ (List.getElem?_eq_getElem (by rw [flat_length wc 65 wc_length]; omega)))
    have : (a.add 0).block = a.block := by unfold Addr.add; rfl
    omega
  refine wpIn_rangeFunc_ownH (F := Fence.wide) (n := 5) rfl (by omega) (gf := 77) (lb := #[.pointer (some ⟨b5 + 1, 0, none⟩)]) rfl trivial (enters_of Tryd.func77 (by kernel_rfl) rfl)
    (back_stops Fence.wide 4 trivial rfl (by omega) (b5 + 1) b5 w4.heap.size c A S.loose hn ⟨by omega, by omega⟩ hAlt w4 (by rw [o3] at hbx; exact Cells.of_holds hbx) hc4 (Nat.le_refl _))
    (fun h k => h.trans k) (fun W l o o' hl ho h1 h2 => ?hKb) (Below.refl _ _) (fun _ => rfl)
    (fun pre W => Holds W b5 73 (bc (S.firm i)) ∧ Holds W b3 3 [.int .i64 i] ∧ Holds W b4 73 (bc (fil 0)) ∧ Mod [] w W ∧ ∀ p ∈ pre, p.1 ≠ i)
    (fun cd pre W => cd = .exit 0 ∧ ∃ q p, pre = q ++ [p] ∧ (∀ x ∈ q, x.1 ≠ i) ∧ p.1 = i ∧ Holds W b5 73 (bc p.2) ∧ Holds W b3 3 [.int .i64 i] ∧ Holds W b4 73 (bc (fil 0)) ∧ Mod [] w W)
    (fun s A B row hs hg hr => ?hI) (fun cd s A B row hs hg hr => ?hIx) ⟨hb3, hB3, hB4, mm4, by simp⟩
    (fun x a' W => ∃ Bx, b5 < Bx ∧ Holds W Bx 92 (wc x) ∧ a' = { tmps := #[.pointer (some ⟨g, 0, none⟩), .int .i64 i, undef, .pointer (some ⟨b3, 0, none⟩), .pointer (some ⟨b4, 0, none⟩), .pointer (some ⟨b5, 0, none⟩), .pointer (some ⟨Bx, 0, none⟩), .pointer (some ⟨g, 0, none⟩), .pointer (some ⟨g, 0, none⟩), .pointer (some ⟨g, 1, none⟩), .map (some m), .int .i64 i, .agg C, .pointer (some ⟨g, 0, none⟩), .pointer (some ⟨g, 0, none⟩), .pointer (some ⟨g, 2, none⟩), .slice A S.loose.length c, .func (.func 77) #[] #[.pointer (some ⟨b5 + 1, 0, none⟩)], wv x, undef, undef, undef, undef, undef, undef, undef], defers := [] })
    (fun x a' s A B row hs hg hr => ?hAx) ?assign ?body ?done ?stop
  case hKb =>
    refine ⟨by simp [World.putObj], fun k hk _ _ => World.putObj_heap_other (by omega)⟩
  case hI =>
    obtain ⟨h1, h2, h3, h4, h5⟩ := hs
    exact ⟨holds_own h1 hg (fun r e => (hr r e).2), holds_own h2 hg (fun r e => (hr r e).2), holds_own h3 hg (fun r e => (hr r e).2), mod_own h4 hg (fun r e => Nat.le_trans mm4.size (hr r e).1), h5⟩
  case hIx =>
    obtain ⟨h0, q, p, h5, h6, h7, h1, h2, h3, h4⟩ := hs
    exact ⟨h0, q, p, h5, h6, h7, holds_own h1 hg (fun r e => (hr r e).2), holds_own h2 hg (fun r e => (hr r e).2), holds_own h3 hg (fun r e => (hr r e).2), mod_own h4 hg (fun r e => Nat.le_trans mm4.size (hr r e).1)⟩
  case hAx =>
    obtain ⟨Bx, h1, h2, h3⟩ := hs
    exact ⟨Bx, h1, holds_own h2 hg (fun r e => (hr r e).2), h3⟩
  case assign =>
    rintro l pre x W K ⟨h1, h2, h3, h4, h5⟩ hK
    have hlt := h1.lt
    rw [zip_one]
    change Code.wpIn _ _ _ _ _ { tmps := #[.pointer (some ⟨g, 0, none⟩), .int .i64 i, undef, .pointer (some ⟨b3, 0, none⟩), .pointer (some ⟨b4, 0, none⟩), .pointer (some ⟨b5, 0, none⟩), undef, .pointer (some ⟨g, 0, none⟩), .pointer (some ⟨g, 0, none⟩), .pointer (some ⟨g, 1, none⟩), .map (some m), .int .i64 i, .agg C, .pointer (some ⟨g, 0, none⟩), .pointer (some ⟨g, 0, none⟩), .pointer (some ⟨g, 2, none⟩), .slice A S.loose.length c, .func (.func 77) #[] #[.pointer (some ⟨b5 + 1, 0, none⟩)], wv x, undef, undef, undef, undef, undef, undef, undef], defers := [] } W
    gi_wp2_with (first
      | (with_reducible refine wpListIn_allocs (o := ⟨some 6, .alloc 92, _, _, _, _⟩) rfl 92 rfl _ zero128 ?_; intro v1 hv1 mv1 zv1)
      | (with_reducible refine wpListIn_storesAll (o := ⟨none, .store 92 (.tmp 6) (.tmp 18), _, _, _, _⟩) rfl 92 (.tmp 6) (.tmp 18) rfl rfl W.heap.size (wc x) rfl (wv x) rfl rfl 92 _ hv1 (by rw [wc_length, wc_length]) (wc_one x) (by rw [wc_length]; exact size128) ?_; intro v2 hv2 mv2 zv2))
    have mv : Mod [] W v2 := ⟨mv2.os.trans mv1.os, mv2.tape.trans mv1.tape, mv2.output.trans mv1.output, by omega, fun i hi hn => (mv2.block i (by omega) (by simp; omega)).trans (mv1.block i hi hn)⟩
    exact hK _ _ (mv.keepsFrom _) ((mv.wk (ns := [b5]) (fun _ _ h => by cases h)).keepB _) ⟨h1.keep mv (by simp), h2.keep mv (by simp), h3.keep mv (by simp), h4.then mv, h5⟩ ⟨W.heap.size, hlt, hv2, rfl⟩
  case body =>
    rintro l pre x a' W hl _ ⟨h1, h2, h3, h4, h5⟩ ⟨Bx, hlt, hX, rfl⟩ _
    have e0 := hX.cell 0
    simp only [wc, List.getElem?_cons_zero] at e0
    have e1 := h2.cell 0
    simp only [List.getElem?_cons_zero] at e1
    by_cases hx : x.1 = i
    · have hbl : Cells W (some ⟨Bx, 1, none⟩) (bc x.2) := (Cells.of_holds hX).part 1 (fun i hi => by simp [wc, Nat.add_comm 1 i, hi])
      gi_wp2_with (first
        | (with_reducible refine wpListIn_loads (o := ⟨some 24, .load 73 (.tmp 23), _, _, _, _⟩) rfl 73 (.tmp 23) rfl Bx 1 _ rfl hbl _ Tryd.underlying73 rfl (by rw [bc_length]; exact size110) (bv x.2) rfl ?_)
        | (with_reducible refine wpListIn_storesAll (o := ⟨none, .store 73 (.tmp 5) (.tmp 24), _, _, _, _⟩) rfl 73 (.tmp 5) (.tmp 24) rfl rfl b5 (bc x.2) rfl (bv x.2) rfl rfl 73 _ h1 (by rw [bc_length, bc_length]) (bc_one x.2) (by rw [bc_length]; exact size110) ?_; intro v2 hv2 mv2 zv2))
      exact ⟨mv2.keepsFrom1 h1 _, rfl, pre, x, rfl, h5, hx, hv2, h2.keep mv2 (by simp; omega), h3.keep mv2 (by simp; omega), h4.trans mv2 (by simp; omega)⟩
    · gi_wp2
      exact ⟨KeepsFrom.refl _ _, KeepB.refl _ _ _, h1, h2, h3, h4, fun p hp => by
        rcases List.mem_append.1 hp with hp | hp
        · exact h5 p hp
        · simp at hp; subst hp; exact hx⟩
  case done =>
    rintro D xs W hD rfl ⟨h1, h2, h3, h4, h5⟩ hK
    have hD4 : D ≠ b4 := by have := hB4.lt; omega
    have hv : S.holds i = S.firm i := app_none i _ _ (fun p hp => h5 p (by simpa using hp))
    have HV := Lib.hid (And.intro hv (And.intro h4 (And.intro hK hD4)))
    clear hv h4 h5 hK hD4 h2
    go_wp2_with (first
      | (with_reducible refine wpList_loads (o := ⟨some 25, .load 73 (.tmp 5), _, _, _, _⟩) rfl 73 (.tmp 5) rfl b5 0 _ rfl (Cells.of_holds h1) _ Tryd.underlying73 rfl (by rw [bc_length]; exact size110) (bv (S.firm i)) rfl ?_)
      | (with_reducible refine wpList_storesAll (o := ⟨none, .store 73 (.tmp 4) (.tmp 25), _, _, _, _⟩) rfl 73 (.tmp 4) (.tmp 25) rfl rfl b4 (bc (S.firm i)) rfl (bv (S.firm i)) rfl rfl 73 _ h3 (by rw [bc_length, bc_length]) (bc_one _) (by rw [bc_length]; exact size110) ?_; intro v2 hv2 mv2 zv2))
    obtain ⟨hv, h4, hK, hD4⟩ := HV.out
    have hK2 : v2.heap[D]? = some (.deferred (some [])) := (mv2.block D (Array.getElem?_eq_some_iff.1 hK).1 (by simpa using hD4)).trans hK
    have hB : Holds (v2.putObj D (.deferred none)) b4 73 (bc (S.firm i)) := holds_own hv2 (grownBy_putObj' v2 D (.deferred none)) (fun r e => by cases e; exact ⟨_, hK2, rfl⟩)
    have hM : Mod [] w (v2.putObj D (.deferred none)) := mod_own (h4.trans mv2 (by simp; omega)) (grownBy_putObj' v2 D (.deferred none)) (fun r e => by cases e; have := mm4.size; omega)
    rw [Exit.noGoto_ret]
    refine ⟨by simp, .inl ⟨_, _, rfl, run_takeDeferred hK2, ?_⟩⟩
    refine ⟨_, results_cell_row rfl _ _ b4 73 _ (0, 0) _ rfl hB Tryd.underlying73 rfl (by rw [List.size_toArray, bc_length]; exact size110), ?_, hM⟩
    rw [hv]
    rfl
  case stop =>
    rintro D cd pre W hD ⟨t, ht⟩ ⟨rfl, q, p, h5, h6, h7, h1, h2, h3, h4⟩ hK
    have hD4 : D ≠ b4 := by have := hB4.lt; omega
    have hv : S.holds i = p.2 := by
      have e : S.loose = t.reverse ++ (i, p.2) :: q.reverse := by
        have := congrArg List.reverse ht
        rw [List.reverse_reverse, h5] at this
        rw [this, ← h7]
        simp
      unfold St.holds
      rw [e]
      exact app_found _ i _ _ _ (fun x hx => h6 x (by simpa using hx))
    have HV := Lib.hid (And.intro hv (And.intro h4 (And.intro hK hD4)))
    clear hv h4 h5 h6 h7 hK hD4 h2 ht
    refine wpIn_wide.2 ?_
    go_wp2_with (first
      | (with_reducible refine wpList_loads (o := ⟨some 25, .load 73 (.tmp 5), _, _, _, _⟩) rfl 73 (.tmp 5) rfl b5 0 _ rfl (Cells.of_holds h1) _ Tryd.underlying73 rfl (by rw [bc_length]; exact size110) (bv p.2) rfl ?_)
      | (with_reducible refine wpList_storesAll (o := ⟨none, .store 73 (.tmp 4) (.tmp 25), _, _, _, _⟩) rfl 73 (.tmp 4) (.tmp 25) rfl rfl b4 (bc p.2) rfl (bv p.2) rfl rfl 73 _ h3 (by rw [bc_length, bc_length]) (bc_one _) (by rw [bc_length]; exact size110) ?_; intro v2 hv2 mv2 zv2))
    obtain ⟨hv, h4, hK, hD4⟩ := HV.out
    have hK2 : v2.heap[D]? = some (.deferred (some [])) := (mv2.block D (Array.getElem?_eq_some_iff.1 hK).1 (by simpa using hD4)).trans hK
    have hB : Holds (v2.putObj D (.deferred none)) b4 73 (bc (p.2)) := holds_own hv2 (grownBy_putObj' v2 D (.deferred none)) (fun r e => by cases e; exact ⟨_, hK2, rfl⟩)
    have hM : Mod [] w (v2.putObj D (.deferred none)) := mod_own (h4.trans mv2 (by simp; omega)) (grownBy_putObj' v2 D (.deferred none)) (fun r e => by cases e; have := mm4.size; omega)
    rw [Exit.noGoto_ret]
    refine ⟨by simp, .inl ⟨_, _, rfl, run_takeDeferred hK2, ?_⟩⟩
    refine ⟨_, results_cell_row rfl _ _ b4 73 _ (0, 0) _ rfl hB Tryd.underlying73 rfl (by rw [List.size_toArray, bc_length]; exact size110), ?_, hM⟩
    rw [hv]
    rfl
end
end Go.Proofs.YtcoedhemlghjoaaDoor
