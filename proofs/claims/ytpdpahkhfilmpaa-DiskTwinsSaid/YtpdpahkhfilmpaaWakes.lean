/-
  Does the layer do anything? It does. Contracts of mine.
-/
import Derived.Test.YtpdpahkhfilmpaaEq
namespace Go.Proofs.Ytpdpahkhfilmpaa
open Go.RowKit
def S1 : St := { St.new 3 with ops := 1, loose := [(2, fil 7)] }
def S2 : St := { St.new 3 with ops := 2, loose := [(2, fil 7), (0, fil 8)] }
def S3 : St := { St.new 3 with ops := 3, loose := [(2, fil 7), (0, fil 8), (2, fil 8)] }
theorem e1 : (St.new 3).write 2 (fil 7) = (0, S1) := rfl
theorem e2 : S1.write 0 (fil 8) = (0, S2) := rfl
theorem e3 : S2.write 2 (fil 8) = (0, S3) := rfl
def S4 : St := S3.crash [true]
def S5 : St := { S4 with armed := 0 }
theorem e5 : S4.arm 0 = (0, S5) := rfl
def S6 : St := { S4 with armed := -1, dead := true }
theorem e6 : S5.sync = (9, S6) := rfl
def S7 : St := S6.crash []
def S8 : St := { S7 with ops := 4 }
def S9 : St := { S7 with ops := 5 }
theorem e8 : S7.read 2 = (fil 7, 0, S8) := rfl
theorem e9 : S8.read 0 = (fil 0, 0, S9) := rfl
set_option maxRecDepth 1000000 in
set_option maxHeartbeats 8000000 in
theorem wakes_c (w : World) : Calls Try.prog 10 #[] w fun e w' => e = .returned (.bool true) ∧ Mod [] w w' := by
  have f7 : ∀ w, Calls Try.prog 22 #[.int .u8 7] w fun e w' => e = .returned (bv (fil 7)) ∧ Mod [] w w' := fun w => filled_c 7 w
  have f8 : ∀ w, Calls Try.prog 22 #[.int .u8 8] w fun e w' => e = .returned (bv (fil 8)) ∧ Mod [] w w' := fun w => filled_c 8 w
  have hnew := new_good 3 w (by omega) (by omega)
  go_enter Try.func10, Try.ntmps10
  go_wp2_with fail
  refine hnew.mono ?_
  rintro e w1 ⟨g, m, rfl, D0, m1, hg, hm⟩
  have F0 : Far w w1 g m none 0 (St.new 3) := ⟨D0, m1, hg, hm, fun a ha => by cases ha⟩
  have l3 := len_c g 3 w1 (D0.blk.cell 0)
  clear D0 m1 hnew
  go_wp2_with fail
  refine l3.mono ?_
  rintro e w1 ⟨rfl, rfl⟩
  clear l3
  go_wp2_with fail
  refine (f7 _).mono ?_
  rintro e w2 ⟨rfl, m2⟩
  replace F0 := F0.keep m2
  clear m2
  go_wp2_with fail
  refine (f8 _).mono ?_
  rintro e w3 ⟨rfl, m3⟩
  replace F0 := F0.keep m3
  clear m3 f7 f8
  go_wp2_with (first
    | (with_reducible refine wpList_allocs (o := ⟨some 3, .alloc 39, _, _, _, _⟩) rfl 39 rfl _ zero39 ?_; intro w4 hb4 m4 z4; replace z4 := Lib.hid z4)
    | (with_reducible refine wpList_allocs (o := ⟨some 4, .alloc 39, _, _, _, _⟩) rfl 39 rfl _ zero39 ?_; intro w5 hb5 m5 z5; replace z5 := Lib.hid z5)
    | (with_reducible refine wpList_storesAll (o := ⟨none, .store 39 (.tmp 3) (.tmp 23), _, _, _, _⟩) rfl 39 (.tmp 3) (.tmp 23) rfl rfl w3.heap.size (bc (fil 7)) rfl (bv (fil 7)) rfl rfl 39 _ (hb4.keep m5 (by simp)) (by rw [bc_length, bc_length]) (bc_one _) (by rw [bc_length]; exact size39) ?_; intro w6 hb6 m6 z6; replace z6 := Lib.hid z6)
    | (with_reducible refine wpList_storesAll (o := ⟨none, .store 39 (.tmp 4) (.tmp 24), _, _, _, _⟩) rfl 39 (.tmp 4) (.tmp 24) rfl rfl w4.heap.size (bc (fil 8)) rfl (bv (fil 8)) rfl rfl 39 _ (hb5.keep m6 (by have := z4.out; simp; omega)) (by rw [bc_length, bc_length]) (bc_one _) (by rw [bc_length]; exact size39) ?_; intro w7 hb7 m7 z7; replace z7 := Lib.hid z7
       have mx : Mod [] w3 w7 := ⟨m7.os.trans (m6.os.trans (m5.os.trans m4.os)), m7.tape.trans (m6.tape.trans (m5.tape.trans m4.tape)), m7.output.trans (m6.output.trans (m5.output.trans m4.output)), Nat.le_trans m4.size (Nat.le_trans m5.size (Nat.le_trans m6.size m7.size)), fun k hk hn => by
         have s1 := m4.size
         have s2 := m5.size
         have s3 := m6.size
         rw [m7.block k (by omega) (by simp; omega), m6.block k (by omega) (by simp; omega), m5.block k (by omega) (by simp), m4.block k hk (by simp)]⟩
       have hX := hb6.keep m7 (by have := z4.out; simp; omega)
       replace F0 := F0.keep mx
       clear mx hb4 m4 hb5 m5 hb6 m6 m7)
    | (with_reducible refine wpList_loadsW (o := ⟨some 26, .load 39 (.tmp 3), _, _, _, _⟩) (by with_unfolding_all rfl) 39 (.tmp 3) rfl w3.heap.size 0 _ rfl (Cells.of_holds hX) _ Try.underlying39 rfl (by rw [bc_length]; exact size39) (bv (fil 7)) rfl ?_))
  have W1 := far_write F0 2 (fil 7) (by decide)
  rw [e1] at W1
  refine W1.mono ?_
  clear W1 z4 z5 z6 z7
  rintro e w8 ⟨rfl, ⟨A1, c1, F1⟩, kp⟩
  replace hX := kp _ _ _ (by decide) (by decide) hX
  replace hb7 := kp _ _ _ (by decide) (by decide) hb7
  clear kp F0
  obtain ⟨bx, hbx⟩ : ∃ b, b = w3.heap.size := ⟨_, rfl⟩
  obtain ⟨by', hby⟩ : ∃ b, b = w4.heap.size := ⟨_, rfl⟩
  rw [← hbx] at hX ⊢
  rw [← hby] at hb7 ⊢
  clear hbx hby
  go_wp2_with (with_reducible refine wpList_loadsW (o := ⟨some 31, .load 39 (.tmp 4), _, _, _, _⟩) (by with_unfolding_all rfl) 39 (.tmp 4) rfl by' 0 _ rfl (Cells.of_holds hb7) _ Try.underlying39 rfl (by rw [bc_length]; exact size39) (bv (fil 8)) rfl ?_)
  have W1 := far_write F1 0 (fil 8) (by decide)
  rw [e2] at W1
  refine W1.mono ?_
  clear W1
  rintro e w9 ⟨rfl, ⟨A2, c2, F2⟩, kp⟩
  replace hX := kp _ _ _ (by decide) (by decide) hX
  replace hb7 := kp _ _ _ (by decide) (by decide) hb7
  clear kp F1
  go_wp2_with (with_reducible refine wpList_loadsW (o := ⟨some 37, .load 39 (.tmp 4), _, _, _, _⟩) (by with_unfolding_all rfl) 39 (.tmp 4) rfl by' 0 _ rfl (Cells.of_holds hb7) _ Try.underlying39 rfl (by rw [bc_length]; exact size39) (bv (fil 8)) rfl ?_)
  have W1 := far_write F2 2 (fil 8) (by decide)
  rw [e3] at W1
  refine W1.mono ?_
  clear W1
  rintro e w10 ⟨rfl, ⟨A3, c3, F3⟩, kp⟩
  replace hX := kp _ _ _ (by decide) (by decide) hX
  replace hb7 := kp _ _ _ (by decide) (by decide) hb7
  clear kp F2
  go_wp2_with fail
  have P1 := pending_c S3 g m A3 c3 3 w10 F3.D rfl
  refine P1.mono ?_
  clear P1
  rintro e w11 ⟨gp, rfl, hp, m11, hgp⟩
  replace F3 := F3.keep m11
  replace hX := hX.keep m11 (by simp)
  replace hb7 := hb7.keep m11 (by simp)
  clear m11 hgp
  go_wp2_with fail
  have hL : Holds (w11.alloc (.cells #[.int .i64 2, .int .i64 0, .int .i64 2] 3)) w11.heap.size 3 [.int .i64 2, .int .i64 0, .int .i64 2] := Holds.made w11 3 [.int .i64 2, .int .i64 0, .int .i64 2]
  have mL : Mod [] w11 (w11.alloc (.cells #[.int .i64 2, .int .i64 0, .int .i64 2] 3)) := Mod.alloc [] w11 _
  replace F3 := F3.keep mL
  replace hX := hX.keep mL (by simp)
  replace hb7 := hb7.keep mL (by simp)
  replace hp := hp.keep mL (by simp)
  clear mL
  have E1 := eqints_c (some ⟨gp, 0, none⟩) (some ⟨w11.heap.size, 0, none⟩) 3 3 3 [2, 0, 2] _ rfl (by decide) (Cells.of_holds hp) (Cells.of_holds hL)
  refine E1.mono ?_
  clear E1
  rintro e w12 ⟨rfl, m12⟩
  replace F3 := F3.keep m12
  replace hX := hX.keep m12 (by simp)
  replace hb7 := hb7.keep m12 (by simp)
  clear m12 hp hL
  go_wp2_with fail
  have mB : Mod [] w12 (w12.alloc (.cells #[.bool true] 4)) := Mod.alloc [] w12 _
  have hB : Holds (w12.alloc (.cells #[.bool true] 4)) w12.heap.size 4 [.bool true] := Holds.made w12 4 [.bool true]
  replace F3 := F3.keep mB
  replace hX := hX.keep mB (by simp)
  clear hb7 mB
  have C1 := far_crash F3 (some ⟨w12.heap.size, 0, none⟩) 1 1 [true] (Cells.of_holds hB) rfl (by decide)
  refine C1.mono ?_
  clear C1
  rintro e w13 ⟨rfl, F4, kp⟩
  replace hX := kp _ _ _ (by decide) (by decide) hX
  clear kp F3 hB
  have F4 : Far w w13 g m none 0 S4 := F4
  go_wp2_with fail
  have A1' := far_arm F4 0 (by decide)
  rw [e5] at A1'
  refine A1'.mono ?_
  clear A1'
  rintro e w14 ⟨rfl, F5, kp⟩
  replace hX := kp _ _ _ (by decide) (by decide) hX
  clear kp F4
  go_wp2_with fail
  have Y1 := far_sync F5 (by decide)
  rw [e6] at Y1
  refine Y1.mono ?_
  clear Y1
  rintro e w15 ⟨rfl, ⟨A6, c6, F6⟩, kp⟩
  replace hX := kp _ _ _ (by decide) (by decide) hX
  clear kp F5
  go_wp2_with fail
  have X1 := dead_c g true w15 (F6.D.blk.cell 3)
  refine X1.mono ?_
  clear X1
  rintro e w15 ⟨rfl, rfl⟩
  go_wp2_with fail
  have C1 := far_crash F6 none 0 0 [] (Cells.nil _ _) rfl (by decide)
  refine C1.mono ?_
  clear C1
  rintro e w16 ⟨rfl, F7, kp⟩
  replace hX := kp _ _ _ (by decide) (by decide) hX
  clear kp F6
  have F7 : Far w w16 g m none 0 S7 := F7
  go_wp2_with fail
  have R1 := far_read F7 2 (by decide)
  rw [e8] at R1
  refine R1.mono ?_
  clear R1
  rintro e w17 ⟨rfl, F8, kp⟩
  replace hX := kp _ _ _ (by decide) (by decide) hX
  clear kp F7
  go_wp2_with (first
    | (with_reducible refine wpList_allocs (o := ⟨some 5, .alloc 39, _, _, _, _⟩) rfl 39 rfl _ zero39 ?_; intro w18 hb4 m4 z4; replace z4 := Lib.hid z4)
    | (with_reducible refine wpList_storesAll (o := ⟨none, .store 39 (.tmp 5) (.tmp 75), _, _, _, _⟩) rfl 39 (.tmp 5) (.tmp 75) rfl rfl w17.heap.size (bc (fil 7)) rfl (bv (fil 7)) rfl rfl 39 _ hb4 (by rw [bc_length, bc_length]) (bc_one _) (by rw [bc_length]; exact size39) ?_; intro w19 hb5 m5 z5; replace z5 := Lib.hid z5))
  have mx : Mod [] w17 w19 := ⟨m5.os.trans m4.os, m5.tape.trans m4.tape, m5.output.trans m4.output, Nat.le_trans m4.size m5.size, fun k hk hn => by
    have s1 := m4.size
    rw [m5.block k (by omega) (by simp; omega), m4.block k hk (by simp)]⟩
  replace F8 := F8.keep mx
  replace hX := hX.keep mx (by simp)
  obtain ⟨ba, hba⟩ : ∃ b, b = w17.heap.size := ⟨_, rfl⟩
  rw [← hba] at hb5 ⊢
  clear mx hb4 m4 m5 z4 z5 hba
  have R1 := far_read F8 0 (by decide)
  rw [e9] at R1
  refine R1.mono ?_
  clear R1
  rintro e w20 ⟨rfl, F9, kp⟩
  replace hX := kp _ _ _ (by decide) (by decide) hX
  replace hb5 := kp _ _ _ (by decide) (by decide) hb5
  clear kp F8
  go_wp2_with (first
    | (with_reducible refine wpList_allocs (o := ⟨some 6, .alloc 39, _, _, _, _⟩) rfl 39 rfl _ zero39 ?_; intro w18 hb4 m4 z4; replace z4 := Lib.hid z4)
    | (with_reducible refine wpList_storesAll (o := ⟨none, .store 39 (.tmp 6) (.tmp 80), _, _, _, _⟩) rfl 39 (.tmp 6) (.tmp 80) rfl rfl w20.heap.size (bc (fil 0)) rfl (bv (fil 0)) rfl rfl 39 _ hb4 rfl (bc_one _) (by rw [bc_length]; exact size39) ?_; intro w19 hb6 m5 z5; replace z5 := Lib.hid z5
       have mx : Mod [] w20 w19 := ⟨m5.os.trans m4.os, m5.tape.trans m4.tape, m5.output.trans m4.output, Nat.le_trans m4.size m5.size, fun k hk hn => by
         have s1 := m4.size
         rw [m5.block k (by omega) (by simp; omega), m4.block k hk (by simp)]⟩
       replace F9 := F9.keep mx
       replace hX := hX.keep mx (by simp)
       replace hb5 := hb5.keep mx (by simp)
       clear mx hb4 m4 m5 z4 z5)
    | (with_reducible refine wpList_loadsW (o := ⟨some 89, .load 39 (.tmp 5), _, _, _, _⟩) (by with_unfolding_all rfl) 39 (.tmp 5) rfl ba 0 _ rfl (Cells.of_holds hb5) _ Try.underlying39 rfl (by rw [bc_length]; exact size39) (bv (fil 7)) rfl ?_)
    | (with_reducible refine wpList_loadsW (o := ⟨some 90, .load 39 (.tmp 3), _, _, _, _⟩) (by with_unfolding_all rfl) 39 (.tmp 3) rfl bx 0 _ rfl (Cells.of_holds hX) _ Try.underlying39 rfl (by rw [bc_length]; exact size39) (bv (fil 7)) rfl ?_)
    | (with_reducible refine wpList_loadsW (o := ⟨some 94, .load 39 (.tmp 6), _, _, _, _⟩) (by with_unfolding_all rfl) 39 (.tmp 6) rfl w20.heap.size 0 _ rfl (Cells.of_holds hb6) _ Try.underlying39 rfl (by rw [bc_length]; exact size39) (bv (fil 0)) rfl ?_)
    | (with_reducible refine wpList_ranW (o := ⟨some 91, .binOp .eql 39 (.tmp 89) (.tmp 90) 39, _, _, _, _⟩) (by with_unfolding_all rfl) (.bool true) _ (exec_eql39 (b := fil 7) rfl rfl rfl) ?_)
    | (with_reducible refine wpList_ranW (o := ⟨some 95, .build 39 #[], _, _, _, _⟩) (by with_unfolding_all rfl) (bv (fil 0)) _ (exec_zero39 rfl) ?_)
    | (with_reducible refine wpList_ranW (o := ⟨some 96, .binOp .eql 39 (.tmp 94) (.tmp 95) 39, _, _, _, _⟩) (by with_unfolding_all rfl) (.bool true) _ (exec_eql39 (b := fil 0) rfl rfl rfl) ?_)
    | (go_at_call 27; refine (ops_c g 5 _ (F9.D.blk.cell 6)).mono ?_; rintro e w21 ⟨rfl, rfl⟩))
  go_ret
  exact ⟨rfl, F9.mm⟩
end Go.Proofs.Ytpdpahkhfilmpaa
