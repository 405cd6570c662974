/-
  Package disk: Arm, Fail. Contracts of mine.
-/
import Derived.Test.YtpdpahkhfilmpaaDiskA
import Derived.Test.YtpdpahkhfilmpaaDiskB
namespace Go.Proofs.Ytpdpahkhfilmpaa
open Go.RowKit

set_option maxHeartbeats 1000000 in
theorem arm_in (S : St) (g m b1 b2 : Nat) (L : Value) (n : Int) (w : World) (h : Holds w g 74 (dc S m L)) (a1 : w.cell? ⟨b2, 0, none⟩ = some (.pointer (some ⟨g, 0, none⟩))) (a2 : w.cell? ⟨b1, 0, none⟩ = some (.int .i64 n)) :
    Calls Try.prog 49 #[.pointer (some ⟨g, 0, none⟩), .func (.func 50) #[] #[.pointer (some ⟨b1, 0, none⟩), .pointer (some ⟨b2, 0, none⟩)]] w fun e w' => e = .returned (.int .i64 (S.arm n).1) ∧ Holds w' g 74 (dc (S.arm n).2 m L) ∧ Mod [g] w w' := by
  obtain ⟨c0, c1, c2, c3, c4, c5, c6⟩ := dc_cells h
  have f4 := h.free 4
  obtain ⟨r, hr⟩ : ∃ r, S.arm n = r := ⟨_, rfl⟩
  rw [hr]
  unfold St.arm at hr
  by_cases hd : S.dead = true
  · rw [if_pos hd] at hr
    subst hr
    go_enter Try.func49, Try.ntmps49
    go_wp2_with fail
    refine (power_c g S.dead _ c3).mono ?_
    rintro e w1 ⟨rfl, rfl⟩
    rw [hd]
    go_wp2
    go_ret
    exact ⟨rfl, h, Mod.refl _ _⟩
  · rw [if_neg hd] at hr
    have hd : S.dead = false := by simpa using hd
    subst hr
    have hs := h.set 4 (.int .i64 n)
    go_enter Try.func49, Try.ntmps49
    go_wp2_with fail
    refine (power_c g S.dead _ c3).mono ?_
    rintro e w1 ⟨rfl, rfl⟩
    rw [hd]
    go_wp2
    go_end0
    go_wp2
    go_ret
    exact ⟨rfl, hs, Mod.setCell _ (by simp) _⟩
set_option maxHeartbeats 1000000 in
theorem arm_c (S : St) (g m : Nat) (L : Value) (n : Int) (w : World) (h : Holds w g 74 (dc S m L)) :
    Calls Try.prog 24 #[.pointer (some ⟨g, 0, none⟩), .int .i64 n] w fun e w' => e = .returned (.int .i64 (S.arm n).1) ∧ Holds w' g 74 (dc (S.arm n).2 m L) ∧ Mod [g] w w' := by
  have hlt := h.lt
  go_enter Try.func24, Try.ntmps24
  go_wp2_with (first
    | (with_reducible refine wpList_boxes (o := ⟨some 2, .box 24 (.tmp 0), _, _, _, _⟩) rfl 24 (.tmp 0) rfl _ rfl [.pointer (some ⟨g, 0, none⟩)] rfl ?_; intro w1 hb1 m1 z1)
    | (with_reducible refine wpList_boxes (o := ⟨some 3, .box 3 (.tmp 1), _, _, _, _⟩) rfl 3 (.tmp 1) rfl _ rfl [.int .i64 n] rfl ?_; intro w2 hb2 m2 z2
       have a1 : w2.cell? ⟨w.heap.size, 0, none⟩ = some (.pointer (some ⟨g, 0, none⟩)) := (hb1.keep m2 (by simp)).cell 0
       have a2 : w2.cell? ⟨w1.heap.size, 0, none⟩ = some (.int .i64 n) := hb2.cell 0
       have mm : Mod [] w w2 := m1.then m2
       have hh := h.keep mm (by simp)
       rw [z1] at a2))
  refine (arm_in S g m _ _ L n _ hh a1 a2).mono ?_
  rintro e w3 ⟨rfl, h3, m3⟩
  have hm := mm.pre m3
  clear mm m3 hb1 hb2 m1 m2 hh a1 a2 z1 z2
  go_wp2
  go_ret
  exact ⟨rfl, h3, hm⟩
theorem arm_nil (n : Int) (w : World) : Calls Try.prog 24 #[.pointer none, .int .i64 n] w fun e w' => e = .returned (.int .i64 1) ∧ Mod [] w w' := by
  go_enter Try.func24, Try.ntmps24
  go_wp2_with (first
    | (with_reducible refine wpList_boxes (o := ⟨some 2, .box 24 (.tmp 0), _, _, _, _⟩) rfl 24 (.tmp 0) rfl _ rfl [.pointer none] rfl ?_; intro w1 hb1 m1 z1)
    | (with_reducible refine wpList_boxes (o := ⟨some 3, .box 3 (.tmp 1), _, _, _, _⟩) rfl 3 (.tmp 1) rfl _ rfl [.int .i64 n] rfl ?_; intro w2 hb2 m2 z2
       have a1 : w2.cell? ⟨w.heap.size, 0, none⟩ = some (.pointer none) := (hb1.keep m2 (by simp)).cell 0)
    | (go_at_call 53; refine (power_nil _).mono ?_; rintro e w3 ⟨rfl, rfl⟩)
    | go_in)
  go_ret
  exact ⟨rfl, m1.then m2⟩


set_option maxHeartbeats 1000000 in
theorem fail_in (S : St) (g m b1 b2 : Nat) (L : Value) (n : Int) (w : World) (h : Holds w g 74 (dc S m L)) (a1 : w.cell? ⟨b2, 0, none⟩ = some (.pointer (some ⟨g, 0, none⟩))) (a2 : w.cell? ⟨b1, 0, none⟩ = some (.int .i64 n)) :
    Calls Try.prog 49 #[.pointer (some ⟨g, 0, none⟩), .func (.func 51) #[] #[.pointer (some ⟨b1, 0, none⟩), .pointer (some ⟨b2, 0, none⟩)]] w fun e w' => e = .returned (.int .i64 (S.fail n).1) ∧ Holds w' g 74 (dc (S.fail n).2 m L) ∧ Mod [g] w w' := by
  obtain ⟨c0, c1, c2, c3, c4, c5, c6⟩ := dc_cells h
  have f4 := h.free 5
  obtain ⟨r, hr⟩ : ∃ r, S.fail n = r := ⟨_, rfl⟩
  rw [hr]
  unfold St.fail at hr
  by_cases hd : S.dead = true
  · rw [if_pos hd] at hr
    subst hr
    go_enter Try.func49, Try.ntmps49
    go_wp2_with fail
    refine (power_c g S.dead _ c3).mono ?_
    rintro e w1 ⟨rfl, rfl⟩
    rw [hd]
    go_wp2
    go_ret
    exact ⟨rfl, h, Mod.refl _ _⟩
  · rw [if_neg hd] at hr
    have hd : S.dead = false := by simpa using hd
    subst hr
    have hs := h.set 5 (.int .i64 n)
    go_enter Try.func49, Try.ntmps49
    go_wp2_with fail
    refine (power_c g S.dead _ c3).mono ?_
    rintro e w1 ⟨rfl, rfl⟩
    rw [hd]
    go_wp2
    go_end0
    go_wp2
    go_ret
    exact ⟨rfl, hs, Mod.setCell _ (by simp) _⟩
set_option maxHeartbeats 1000000 in
theorem fail_c (S : St) (g m : Nat) (L : Value) (n : Int) (w : World) (h : Holds w g 74 (dc S m L)) :
    Calls Try.prog 25 #[.pointer (some ⟨g, 0, none⟩), .int .i64 n] w fun e w' => e = .returned (.int .i64 (S.fail n).1) ∧ Holds w' g 74 (dc (S.fail n).2 m L) ∧ Mod [g] w w' := by
  have hlt := h.lt
  go_enter Try.func25, Try.ntmps25
  go_wp2_with (first
    | (with_reducible refine wpList_boxes (o := ⟨some 2, .box 24 (.tmp 0), _, _, _, _⟩) rfl 24 (.tmp 0) rfl _ rfl [.pointer (some ⟨g, 0, none⟩)] rfl ?_; intro w1 hb1 m1 z1)
    | (with_reducible refine wpList_boxes (o := ⟨some 3, .box 3 (.tmp 1), _, _, _, _⟩) rfl 3 (.tmp 1) rfl _ rfl [.int .i64 n] rfl ?_; intro w2 hb2 m2 z2
       have a1 : w2.cell? ⟨w.heap.size, 0, none⟩ = some (.pointer (some ⟨g, 0, none⟩)) := (hb1.keep m2 (by simp)).cell 0
       have a2 : w2.cell? ⟨w1.heap.size, 0, none⟩ = some (.int .i64 n) := hb2.cell 0
       have mm : Mod [] w w2 := m1.then m2
       have hh := h.keep mm (by simp)
       rw [z1] at a2))
  refine (fail_in S g m _ _ L n _ hh a1 a2).mono ?_
  rintro e w3 ⟨rfl, h3, m3⟩
  have hm := mm.pre m3
  clear mm m3 hb1 hb2 m1 m2 hh a1 a2 z1 z2
  go_wp2
  go_ret
  exact ⟨rfl, h3, hm⟩
theorem fail_nil (n : Int) (w : World) : Calls Try.prog 25 #[.pointer none, .int .i64 n] w fun e w' => e = .returned (.int .i64 1) ∧ Mod [] w w' := by
  go_enter Try.func25, Try.ntmps25
  go_wp2_with (first
    | (with_reducible refine wpList_boxes (o := ⟨some 2, .box 24 (.tmp 0), _, _, _, _⟩) rfl 24 (.tmp 0) rfl _ rfl [.pointer none] rfl ?_; intro w1 hb1 m1 z1)
    | (with_reducible refine wpList_boxes (o := ⟨some 3, .box 3 (.tmp 1), _, _, _, _⟩) rfl 3 (.tmp 1) rfl _ rfl [.int .i64 n] rfl ?_; intro w2 hb2 m2 z2
       have a1 : w2.cell? ⟨w.heap.size, 0, none⟩ = some (.pointer none) := (hb1.keep m2 (by simp)).cell 0)
    | (go_at_call 53; refine (power_nil _).mono ?_; rintro e w3 ⟨rfl, rfl⟩)
    | go_in)
  go_ret
  exact ⟨rfl, m1.then m2⟩

end Go.Proofs.Ytpdpahkhfilmpaa
