/-
  What is told of a disk that is not there. Contracts of mine.
-/
import Derived.Test.YtpdpahkhfilmpaaEq
namespace Go.Proofs.Ytpdpahkhfilmpaa
open Go.RowKit
theorem ask_nil (b l : Bool) (f : Value) (w : World) : Calls Try.prog 41 #[.pointer none, .bool b, .bool l, f] w fun e w' => e = .returned (.int .i64 1) ∧ w' = w := by
  go_enter Try.func41, Try.ntmps41
  go_wp2_with fail
  refine (power_nil _).mono ?_
  rintro e w1 ⟨rfl, rfl⟩
  go_wp2
  go_ret
  exact ⟨rfl, rfl⟩
set_option maxRecDepth 100000 in
set_option maxHeartbeats 2000000 in
theorem read_nil (i : Int) (w : World) : Calls Try.prog 17 #[.pointer none, .int .i64 i] w fun e w' => e = .returned (.tuple #[bv (fil 0), .int .i64 1]) ∧ Mod [] w w' := by
  go_enter Try.func17, Try.ntmps17
  go_wp2_with (first
    | (with_reducible refine wpList_boxes (o := ⟨some 2, .box 24 (.tmp 0), _, _, _, _⟩) rfl 24 (.tmp 0) rfl _ rfl [.pointer none] rfl ?_; intro w1 hb1 m1 z1; replace z1 := Lib.hid z1)
    | (with_reducible refine wpList_boxes (o := ⟨some 3, .box 3 (.tmp 1), _, _, _, _⟩) rfl 3 (.tmp 1) rfl _ rfl [.int .i64 i] rfl ?_; intro w2 hb2 m2 z2; replace z2 := Lib.hid z2)
    | (with_reducible refine wpList_allocs (o := ⟨some 4, .alloc 39, _, _, _, _⟩) rfl 39 rfl _ zero39 ?_; intro w3 hb3 m3 z3; replace z3 := Lib.hid z3)
    | (with_reducible refine wpList_allocs (o := ⟨some 6, .alloc 39, _, _, _, _⟩) rfl 39 rfl _ zero39 ?_; intro w4 hb4 m4 z4; replace z4 := Lib.hid z4))
  have mm : Mod [] w w4 := ((m1.then m2).then m3).then m4
  have k1 : Holds w4 w.heap.size 24 [.pointer none] := ((hb1.keep m2 (by simp)).keep m3 (by simp)).keep m4 (by simp)
  have k2 : Holds w4 w1.heap.size 3 [.int .i64 i] := (hb2.keep m3 (by simp)).keep m4 (by simp)
  have k3 : Holds w4 w2.heap.size 39 (bc (fil 0)) := hb3.keep m4 (by simp)
  have k4 : Holds w4 w3.heap.size 39 (bc (fil 0)) := hb4
  have a1 := k1.cell 0
  have a2 := k2.cell 0
  simp only [List.getElem?_cons_zero] at a1 a2
  have hH := has_nil i w4.drew
  have o3 : w3.heap.size ≠ w2.heap.size := by have := z3.out; omega
  have o4 : w.heap.size ≤ w2.heap.size := by have := z1.out; have := z2.out; omega
  have m5 : Mod [] w w4.drew := mm.then (Mod.drew [] w4)
  replace k3 := k3.keep (Mod.drew [] w4) (by simp)
  replace k4 := k4.keep (Mod.drew [] w4) (by simp)
  go_wp2_with fail
  refine wp_region_still_tail 5 (by kernel_rfl) (by kernel_rfl) ?_
  simp only [List.take_succ_cons, List.take_zero, List.drop_succ_cons, List.drop_zero]
  iterate 3 still_step
  still_call hH
  still_step
  refine wpStill_nil ?_
  clear a1 a2 hH mm k1 k2 hb1 hb2 hb3 hb4 m1 m2 m3 m4
  change wpList _ _ _ _ _ w4.drew
  generalize w4.drew = w5 at *
  go_wp2_with fail
  refine (ask_nil _ _ _ _).mono ?_
  rintro e w6 ⟨rfl, rfl⟩
  go_wp2_with (first
    | (with_reducible refine wpList_loads (o := ⟨some 14, .load 39 (.tmp 6), _, _, _, _⟩) rfl 39 (.tmp 6) rfl w3.heap.size 0 _ rfl (Cells.of_holds k4) _ Try.underlying39 rfl (by rw [bc_length]; exact size39) (bv (fil 0)) rfl ?_)
    | (with_reducible refine wpList_storesAll (o := ⟨none, .store 39 (.tmp 4) (.tmp 14), _, _, _, _⟩) rfl 39 (.tmp 4) (.tmp 14) rfl rfl w2.heap.size (bc (fil 0)) rfl (bv (fil 0)) rfl rfl 39 _ k3 rfl (bc_one _) (by rw [bc_length]; exact size39) ?_; intro w7 hw7 m7 z7))
  refine bodyPost_ret (results_cell_tmp rfl _ _ w2.heap.size (bc (fil 0)) (.int .i64 1) _ rfl rfl (Cells.of_holds hw7) Try.underlying39 rfl (by rw [bc_length]; exact size39)) rfl ?_
  exact ⟨rfl, ⟨m7.os.trans m5.os, m7.tape.trans m5.tape, m7.output.trans m5.output, Nat.le_trans m5.size m7.size, fun k hk hn => by
    rw [m7.block k (by have := m5.size; omega) (by simp; omega), m5.block k hk (by simp)]⟩⟩
set_option maxRecDepth 100000 in
set_option maxHeartbeats 2000000 in
theorem write_nil (i : Int) (b : Blk) (w : World) : Calls Try.prog 21 #[.pointer none, .int .i64 i, bv b] w fun e w' => e = .returned (.int .i64 1) ∧ Mod [] w w' := by
  go_enter Try.func21, Try.ntmps21
  go_wp2_with (first
    | (with_reducible refine wpList_boxes (o := ⟨some 3, .box 24 (.tmp 0), _, _, _, _⟩) rfl 24 (.tmp 0) rfl _ rfl [.pointer none] rfl ?_; intro w1 hb1 m1 z1; replace z1 := Lib.hid z1)
    | (with_reducible refine wpList_boxes (o := ⟨some 4, .box 3 (.tmp 1), _, _, _, _⟩) rfl 3 (.tmp 1) rfl _ rfl [.int .i64 i] rfl ?_; intro w2 hb2 m2 z2; replace z2 := Lib.hid z2)
    | (with_reducible refine wpList_boxes (o := ⟨some 5, .box 39 (.tmp 2), _, _, _, _⟩) rfl 39 (.tmp 2) rfl (bv b) rfl (bc b) (bv_cells b) ?_; intro w3 hb3 m3 z3; replace z3 := Lib.hid z3))
  have mm : Mod [] w w3 := (m1.then m2).then m3
  have k1 : Holds w3 w.heap.size 24 [.pointer none] := (hb1.keep m2 (by simp)).keep m3 (by simp)
  have k2 : Holds w3 w1.heap.size 3 [.int .i64 i] := hb2.keep m3 (by simp)
  have a1 := k1.cell 0
  have a2 := k2.cell 0
  simp only [List.getElem?_cons_zero] at a1 a2
  have hH := has_nil i w3.drew
  have m5 : Mod [] w w3.drew := mm.then (Mod.drew [] w3)
  go_wp2_with fail
  refine wp_region_still_tail 5 (by kernel_rfl) (by kernel_rfl) ?_
  simp only [List.take_succ_cons, List.take_zero, List.drop_succ_cons, List.drop_zero]
  iterate 3 still_step
  still_call hH
  still_step
  refine wpStill_nil ?_
  clear a1 a2 hH mm k1 k2 hb1 hb2 hb3 m1 m2 m3
  change wpList _ _ _ _ _ w3.drew
  generalize w3.drew = w5 at *
  go_wp2_with fail
  refine (ask_nil _ _ _ _).mono ?_
  rintro e w6 ⟨rfl, rfl⟩
  go_wp2
  go_ret
  exact ⟨rfl, m5⟩
theorem sync_nil (w : World) : Calls Try.prog 23 #[.pointer none] w fun e w' => e = .returned (.int .i64 1) ∧ Mod [] w w' := by
  go_enter Try.func23, Try.ntmps23
  go_wp2_with (first
    | (with_reducible refine wpList_boxes (o := ⟨some 1, .box 24 (.tmp 0), _, _, _, _⟩) rfl 24 (.tmp 0) rfl _ rfl [.pointer none] rfl ?_; intro w1 hb1 m1 z1; have a1 := hb1.cell 0; simp only [List.getElem?_cons_zero] at a1))
  refine (ask_nil _ _ _ _).mono ?_
  rintro e w6 ⟨rfl, rfl⟩
  go_wp2
  go_ret
  exact ⟨rfl, m1⟩
end Go.Proofs.Ytpdpahkhfilmpaa
