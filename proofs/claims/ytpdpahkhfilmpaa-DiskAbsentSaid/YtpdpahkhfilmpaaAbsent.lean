/-
  Of a disk that is not there nothing is told: the walk. My own work.
-/
import Derived.Test.YtpdpahkhfilmpaaNil
import Derived.Test.YtpdpahkhfilmpaaWakes
import Derived.Test.YtpdpahkhfilmpaaDiskD
import Derived.Test.YtpdpahkhfilmpaaCall
namespace Go.Proofs.Ytpdpahkhfilmpaa
open Go.RowKit
set_option maxRecDepth 1000000 in
set_option maxHeartbeats 8000000 in
theorem absent_w (kd at_ n : Int) (fl : UInt8) (KA : Option Addr) (kn kc : Nat) (w : World) :
    Calls Try.prog 5 #[.agg #[.int .i64 kd, .int .i64 at_, .int .i64 n, oct fl, .slice KA kn kc]] w fun e w' => e = .returned (.bool true) ∧ Mod [] w w' := by
  go_enter Try.func5, Try.ntmps5
  go_wp2_with (with_reducible refine wpList_boxes (o := ⟨some 1, .box 49 (.tmp 0), _, _, _, _⟩) rfl 49 (.tmp 0) rfl _ rfl [.int .i64 kd, .int .i64 at_, .int .i64 n, oct fl, .slice KA kn kc] rfl ?_; intro w1 hb1 m1 z1; replace z1 := Lib.hid z1)
  refine (wakes_c _).mono ?_
  rintro e w2 ⟨rfl, m2⟩
  obtain ⟨b1, e1⟩ : ∃ b, b = w.heap.size := ⟨_, rfl⟩
  rw [← e1] at hb1 ⊢
  replace hb1 := hb1.keep m2 (by simp)
  have mm := m1.then m2
  clear z1 m1 m2 e1
  have a1 := hb1.cell 1
  simp only [List.getElem?_cons_succ, List.getElem?_cons_zero] at a1
  go_wp2_with fail
  refine (read_nil at_ _).mono ?_
  rintro e w3 ⟨rfl, m3⟩
  replace hb1 := hb1.keep m3 (by simp)
  replace mm := mm.then m3
  clear m3 a1
  go_wp2_with (first
    | (with_reducible refine wpList_allocs (o := ⟨some 4, .alloc 39, _, _, _, _⟩) rfl 39 rfl _ zero39 ?_; intro w18 hb4 m4 z4; replace z4 := Lib.hid z4)
    | (with_reducible refine wpList_storesAll (o := ⟨none, .store 39 (.tmp 4) (.tmp 15), _, _, _, _⟩) rfl 39 (.tmp 4) (.tmp 15) rfl rfl w3.heap.size (bc (fil 0)) rfl (bv (fil 0)) rfl rfl 39 _ hb4 rfl (bc_one _) (by rw [bc_length]; exact size39) ?_; intro w19 hb6 m5 z5; replace z5 := Lib.hid z5
       have mx : Mod [] w3 w19 := ⟨m5.os.trans m4.os, m5.tape.trans m4.tape, m5.output.trans m4.output, Nat.le_trans m4.size m5.size, fun k hk hn => by
         have s1 := m4.size
         rw [m5.block k (by omega) (by simp; omega), m4.block k hk (by simp)]⟩
       replace mm := mm.then mx
       replace hb1 := hb1.keep mx (by simp)
       clear mx hb4 m4 m5 z4 z5)
    | (with_reducible refine wpList_loadsW (o := ⟨some 20, .load 39 (.tmp 4), _, _, _, _⟩) (by with_unfolding_all rfl) 39 (.tmp 4) rfl w3.heap.size 0 _ rfl (Cells.of_holds hb6) _ Try.underlying39 rfl (by rw [bc_length]; exact size39) (bv (fil 0)) rfl ?_)
    | (with_reducible refine wpList_ranW (o := ⟨some 21, .build 39 #[], _, _, _, _⟩) (by with_unfolding_all rfl) (bv (fil 0)) _ (exec_zero39 rfl) ?_)
    | (with_reducible refine wpList_ranW (o := ⟨some 22, .binOp .neq 39 (.tmp 20) (.tmp 21) 39, _, _, _, _⟩) (by with_unfolding_all rfl) (.bool false) _ (exec_neq39 (b := fil 0) rfl rfl rfl) ?_))
  have hb : ∀ v, Mod [] w19.drew v → ∀ k, v.cell? ⟨b1, k, none⟩ = [Value.int .i64 kd, .int .i64 at_, .int .i64 n, oct fl, .slice KA kn kc][k]? := fun v hv k => (Holds.keep (w := w19.drew) hb1 hv (by simp)).cell k
  have m6 : Mod [] w w19.drew := mm.then (Mod.drew [] w19)
  clear hb6 mm
  refine wp_region_det 76 (fun s => ([.agg #[.int .i64 kd, .int .i64 at_, .int .i64 n, oct fl, .slice KA kn kc], .pointer (some ⟨b1, 0, none⟩), .bool false, .pointer none, .pointer (some ⟨w3.heap.size, 0, none⟩), .int .i64 1, undef, undef, .bool true, .bool false, .tuple #[bv (fil 0), .int .i64 1], .pointer none, .pointer (some ⟨b1, 1, none⟩), .int .i64 at_, .tuple #[bv (fil 0), .int .i64 1], bv (fil 0), .int .i64 1, .int .i64 1, .bool false, .bool false, bv (fil 0), bv (fil 0), .bool false, .bool false, .pointer none, .pointer (some ⟨b1, 1, none⟩), .int .i64 at_, .pointer (some ⟨b1, 3, none⟩), oct fl, bv (fil fl), .int .i64 1, .pointer none, .int .i64 1, .pointer none, .pointer (some ⟨b1, 2, none⟩), .int .i64 n, .int .i64 1, .pointer none, .pointer (some ⟨b1, 2, none⟩), .int .i64 n, .int .i64 1, .pointer none, .pointer (some ⟨b1, 4, none⟩), .slice KA kn kc, .int .i64 1, .agg #[.int .i64 1, .int .i64 1, .int .i64 1, .int .i64 1, .int .i64 1], .int .i64 0, undef, undef, undef, undef, undef, undef, undef, undef, undef, undef, undef, undef, undef, undef, undef, undef, undef, undef, undef, undef, undef, undef, undef, undef, undef, undef, undef, undef, undef] : List Value).getD s undef) [0, 1, 2, 3, 4, 5, 6, 7, 8, 9, 10, 11, 12, 13, 14, 15, 16, 17, 18, 19, 20, 21, 22, 23, 47, 48, 49, 50, 51, 52, 53, 54, 55, 56, 57, 58, 59, 60, 61, 62, 63, 64, 65, 66, 67, 68, 69, 70, 71, 72, 73, 74, 75]
    (fun _ v => Mod [] w19.drew v) []
    (by kernel_rfl) rfl rfl (by intro s hs; simp at hs; rcases hs with rfl | rfl | rfl | rfl | rfl | rfl | rfl | rfl | rfl | rfl | rfl | rfl | rfl | rfl | rfl | rfl | rfl | rfl | rfl | rfl | rfl | rfl | rfl | rfl | rfl | rfl | rfl | rfl | rfl | rfl | rfl | rfl | rfl | rfl | rfl | rfl | rfl | rfl | rfl | rfl | rfl | rfl | rfl | rfl | rfl | rfl | rfl | rfl | rfl | rfl | rfl | rfl | rfl <;> rfl) (Mod.refl _ _) (drawnB_lt (nt := 76) (by kernel_rfl)) (drawnB_dst (by kernel_rfl)) ?step ?fin
  case step =>
    intro l T v j o hj hlj hdep hst hpar hgot K hK
    have hj15 : j < 23 := (Array.getElem?_eq_some_iff.1 hj).1
    obtain rfl | rfl | rfl | rfl | rfl | rfl | rfl | rfl | rfl | rfl | rfl | rfl | rfl | rfl | rfl | rfl | rfl | rfl | rfl | rfl | rfl | rfl | rfl : j = 0 ∨ j = 1 ∨ j = 2 ∨ j = 3 ∨ j = 4 ∨ j = 5 ∨ j = 6 ∨ j = 7 ∨ j = 8 ∨ j = 9 ∨ j = 10 ∨ j = 11 ∨ j = 12 ∨ j = 13 ∨ j = 14 ∨ j = 15 ∨ j = 16 ∨ j = 17 ∨ j = 18 ∨ j = 19 ∨ j = 20 ∨ j = 21 ∨ j = 22 := by omega
    all_goals (have hj' := Option.some.inj (hj : some _ = some o); subst hj'; clear hj)
    · exact wp_ran rfl (exec_move rfl (eval_tmp (hpar 3 (by simp)))) (hK _ _ (fun s hs => by cases hs; rfl) hst)
    · exact wp_ran rfl (exec_field49 (k := 1) (by decide) rfl (eval_tmp (hpar 1 (by simp)))) (hK _ _ (fun s hs => by cases hs; rfl) hst)
    · exact wp_ran rfl (exec_load rfl (eval_tmp (hgot 1 _ _ rfl (hdep ⟨1, .data⟩ (by simp) rfl) rfl)) (run_load1 Try.underlying3 rfl (hb v hst 1))) (hK _ _ (fun s hs => by cases hs; rfl) hst)
    · exact wp_ran rfl (exec_field49 (k := 3) (by decide) rfl (eval_tmp (hpar 1 (by simp)))) (hK _ _ (fun s hs => by cases hs; rfl) hst)
    · exact wp_ran rfl (exec_load rfl (eval_tmp (hgot 3 _ _ rfl (hdep ⟨3, .data⟩ (by simp) rfl) rfl)) (run_load1 Try.underlying5 rfl (hb v hst 3))) (hK _ _ (fun s hs => by cases hs; rfl) hst)
    · exact wp_called rfl (exec_call1 rfl rfl (eval_tmp (hgot 4 _ _ rfl (hdep ⟨4, .data⟩ (by simp) rfl) rfl)) (enters_of Try.func22 (by kernel_rfl) rfl)) ((filled_c fl _).mono (fun e v' hh => ⟨_, hh.1, hK _ _ (fun s hs => by cases hs; rfl) (hst.then hh.2)⟩))
    · exact wp_called rfl (exec_call3 rfl rfl (eval_tmp (hgot 0 _ _ rfl (hdep ⟨0, .data⟩ (by simp) rfl) rfl)) (eval_tmp (hgot 2 _ _ rfl (hdep ⟨2, .data⟩ (by simp) rfl) rfl)) (eval_tmp (hgot 5 _ _ rfl (hdep ⟨5, .data⟩ (by simp) rfl) rfl)) (enters_of Try.func21 (by kernel_rfl) rfl)) ((write_nil at_ (fil fl) _).mono (fun e v' hh => ⟨_, hh.1, hK _ _ (fun s hs => by cases hs; rfl) (hst.then hh.2)⟩))
    · exact wp_ran rfl (exec_move rfl (eval_tmp (hpar 3 (by simp)))) (hK _ _ (fun s hs => by cases hs; rfl) hst)
    · exact wp_called rfl (exec_call1 rfl rfl (eval_tmp (hgot 7 _ _ rfl (hdep ⟨7, .data⟩ (by simp) rfl) rfl)) (enters_of Try.func23 (by kernel_rfl) rfl)) ((sync_nil _).mono (fun e v' hh => ⟨_, hh.1, hK _ _ (fun s hs => by cases hs; rfl) (hst.then hh.2)⟩))
    · exact wp_ran rfl (exec_move rfl (eval_tmp (hpar 3 (by simp)))) (hK _ _ (fun s hs => by cases hs; rfl) hst)
    · exact wp_ran rfl (exec_field49 (k := 2) (by decide) rfl (eval_tmp (hpar 1 (by simp)))) (hK _ _ (fun s hs => by cases hs; rfl) hst)
    · exact wp_ran rfl (exec_load rfl (eval_tmp (hgot 10 _ _ rfl (hdep ⟨10, .data⟩ (by simp) rfl) rfl)) (run_load1 Try.underlying3 rfl (hb v hst 2))) (hK _ _ (fun s hs => by cases hs; rfl) hst)
    · exact wp_called rfl (exec_call2 rfl rfl (eval_tmp (hgot 9 _ _ rfl (hdep ⟨9, .data⟩ (by simp) rfl) rfl)) (eval_tmp (hgot 11 _ _ rfl (hdep ⟨11, .data⟩ (by simp) rfl) rfl)) (enters_of Try.func24 (by kernel_rfl) rfl)) ((arm_nil n _).mono (fun e v' hh => ⟨_, hh.1, hK _ _ (fun s hs => by cases hs; rfl) (hst.then hh.2)⟩))
    · exact wp_ran rfl (exec_move rfl (eval_tmp (hpar 3 (by simp)))) (hK _ _ (fun s hs => by cases hs; rfl) hst)
    · exact wp_ran rfl (exec_field49 (k := 2) (by decide) rfl (eval_tmp (hpar 1 (by simp)))) (hK _ _ (fun s hs => by cases hs; rfl) hst)
    · exact wp_ran rfl (exec_load rfl (eval_tmp (hgot 14 _ _ rfl (hdep ⟨14, .data⟩ (by simp) rfl) rfl)) (run_load1 Try.underlying3 rfl (hb v hst 2))) (hK _ _ (fun s hs => by cases hs; rfl) hst)
    · exact wp_called rfl (exec_call2 rfl rfl (eval_tmp (hgot 13 _ _ rfl (hdep ⟨13, .data⟩ (by simp) rfl) rfl)) (eval_tmp (hgot 15 _ _ rfl (hdep ⟨15, .data⟩ (by simp) rfl) rfl)) (enters_of Try.func25 (by kernel_rfl) rfl)) ((fail_nil n _).mono (fun e v' hh => ⟨_, hh.1, hK _ _ (fun s hs => by cases hs; rfl) (hst.then hh.2)⟩))
    · exact wp_ran rfl (exec_move rfl (eval_tmp (hpar 3 (by simp)))) (hK _ _ (fun s hs => by cases hs; rfl) hst)
    · exact wp_ran rfl (exec_field49 (k := 4) (by decide) rfl (eval_tmp (hpar 1 (by simp)))) (hK _ _ (fun s hs => by cases hs; rfl) hst)
    · exact wp_ran rfl (exec_load rfl (eval_tmp (hgot 18 _ _ rfl (hdep ⟨18, .data⟩ (by simp) rfl) rfl)) (run_load1 Try.underlying47 rfl (hb v hst 4))) (hK _ _ (fun s hs => by cases hs; rfl) hst)
    · exact wp_called rfl (exec_call2 rfl rfl (eval_tmp (hgot 17 _ _ rfl (hdep ⟨17, .data⟩ (by simp) rfl) rfl)) (eval_tmp (hgot 19 _ _ rfl (hdep ⟨19, .data⟩ (by simp) rfl) rfl)) (enters_of Try.func15 (by kernel_rfl) rfl)) ((crash_nil KA kn kc _).mono (fun e v' hh => ⟨_, hh.1, hK _ _ (fun s hs => by cases hs; rfl) (hst.then hh.2)⟩))
    · exact wp_ran rfl (exec_build54 rfl (eval_tmp (hgot 6 _ _ rfl (hdep ⟨6, .data⟩ (by simp) rfl) rfl)) (eval_tmp (hgot 8 _ _ rfl (hdep ⟨8, .data⟩ (by simp) rfl) rfl)) (eval_tmp (hgot 12 _ _ rfl (hdep ⟨12, .data⟩ (by simp) rfl) rfl)) (eval_tmp (hgot 16 _ _ rfl (hdep ⟨16, .data⟩ (by simp) rfl) rfl)) (eval_tmp (hgot 20 _ _ rfl (hdep ⟨20, .data⟩ (by simp) rfl) rfl))) (hK _ _ (fun s hs => by cases hs; rfl) hst)
    · exact wp_ran rfl (exec_move rfl rfl) (hK _ _ (fun s hs => by cases hs; rfl) hst)
  case fin =>
    intro l T v hl hst ht hd hpar hgot
    have hT : T = { tmps := #[.agg #[.int .i64 kd, .int .i64 at_, .int .i64 n, oct fl, .slice KA kn kc], .pointer (some ⟨b1, 0, none⟩), .bool false, .pointer none, .pointer (some ⟨w3.heap.size, 0, none⟩), .int .i64 1, undef, undef, .bool true, .bool false, .tuple #[bv (fil 0), .int .i64 1], .pointer none, .pointer (some ⟨b1, 1, none⟩), .int .i64 at_, .tuple #[bv (fil 0), .int .i64 1], bv (fil 0), .int .i64 1, .int .i64 1, .bool false, .bool false, bv (fil 0), bv (fil 0), .bool false, .bool false, .pointer none, .pointer (some ⟨b1, 1, none⟩), .int .i64 at_, .pointer (some ⟨b1, 3, none⟩), oct fl, bv (fil fl), .int .i64 1, .pointer none, .int .i64 1, .pointer none, .pointer (some ⟨b1, 2, none⟩), .int .i64 n, .int .i64 1, .pointer none, .pointer (some ⟨b1, 2, none⟩), .int .i64 n, .int .i64 1, .pointer none, .pointer (some ⟨b1, 4, none⟩), .slice KA kn kc, .int .i64 1, .agg #[.int .i64 1, .int .i64 1, .int .i64 1, .int .i64 1, .int .i64 1], .int .i64 0, undef, undef, undef, undef, undef, undef, undef, undef, undef, undef, undef, undef, undef, undef, undef, undef, undef, undef, undef, undef, undef, undef, undef, undef, undef, undef, undef, undef, undef], defers := [] } := by
      have hall : ∀ s, s < 76 → T.tmps[s]? = some (([.agg #[.int .i64 kd, .int .i64 at_, .int .i64 n, oct fl, .slice KA kn kc], .pointer (some ⟨b1, 0, none⟩), .bool false, .pointer none, .pointer (some ⟨w3.heap.size, 0, none⟩), .int .i64 1, undef, undef, .bool true, .bool false, .tuple #[bv (fil 0), .int .i64 1], .pointer none, .pointer (some ⟨b1, 1, none⟩), .int .i64 at_, .tuple #[bv (fil 0), .int .i64 1], bv (fil 0), .int .i64 1, .int .i64 1, .bool false, .bool false, bv (fil 0), bv (fil 0), .bool false, .bool false, .pointer none, .pointer (some ⟨b1, 1, none⟩), .int .i64 at_, .pointer (some ⟨b1, 3, none⟩), oct fl, bv (fil fl), .int .i64 1, .pointer none, .int .i64 1, .pointer none, .pointer (some ⟨b1, 2, none⟩), .int .i64 n, .int .i64 1, .pointer none, .pointer (some ⟨b1, 2, none⟩), .int .i64 n, .int .i64 1, .pointer none, .pointer (some ⟨b1, 4, none⟩), .slice KA kn kc, .int .i64 1, .agg #[.int .i64 1, .int .i64 1, .int .i64 1, .int .i64 1, .int .i64 1], .int .i64 0, undef, undef, undef, undef, undef, undef, undef, undef, undef, undef, undef, undef, undef, undef, undef, undef, undef, undef, undef, undef, undef, undef, undef, undef, undef, undef, undef, undef, undef] : List Value).getD s undef) := by
        intro s hs
        obtain rfl | rfl | rfl | rfl | rfl | rfl | rfl | rfl | rfl | rfl | rfl | rfl | rfl | rfl | rfl | rfl | rfl | rfl | rfl | rfl | rfl | rfl | rfl | rfl | rfl | rfl | rfl | rfl | rfl | rfl | rfl | rfl | rfl | rfl | rfl | rfl | rfl | rfl | rfl | rfl | rfl | rfl | rfl | rfl | rfl | rfl | rfl | rfl | rfl | rfl | rfl | rfl | rfl | rfl | rfl | rfl | rfl | rfl | rfl | rfl | rfl | rfl | rfl | rfl | rfl | rfl | rfl | rfl | rfl | rfl | rfl | rfl | rfl | rfl | rfl | rfl : s = 0 ∨ s = 1 ∨ s = 2 ∨ s = 3 ∨ s = 4 ∨ s = 5 ∨ s = 6 ∨ s = 7 ∨ s = 8 ∨ s = 9 ∨ s = 10 ∨ s = 11 ∨ s = 12 ∨ s = 13 ∨ s = 14 ∨ s = 15 ∨ s = 16 ∨ s = 17 ∨ s = 18 ∨ s = 19 ∨ s = 20 ∨ s = 21 ∨ s = 22 ∨ s = 23 ∨ s = 24 ∨ s = 25 ∨ s = 26 ∨ s = 27 ∨ s = 28 ∨ s = 29 ∨ s = 30 ∨ s = 31 ∨ s = 32 ∨ s = 33 ∨ s = 34 ∨ s = 35 ∨ s = 36 ∨ s = 37 ∨ s = 38 ∨ s = 39 ∨ s = 40 ∨ s = 41 ∨ s = 42 ∨ s = 43 ∨ s = 44 ∨ s = 45 ∨ s = 46 ∨ s = 47 ∨ s = 48 ∨ s = 49 ∨ s = 50 ∨ s = 51 ∨ s = 52 ∨ s = 53 ∨ s = 54 ∨ s = 55 ∨ s = 56 ∨ s = 57 ∨ s = 58 ∨ s = 59 ∨ s = 60 ∨ s = 61 ∨ s = 62 ∨ s = 63 ∨ s = 64 ∨ s = 65 ∨ s = 66 ∨ s = 67 ∨ s = 68 ∨ s = 69 ∨ s = 70 ∨ s = 71 ∨ s = 72 ∨ s = 73 ∨ s = 74 ∨ s = 75 := by omega
        · exact hpar 0 (by simp)
        · exact hpar 1 (by simp)
        · exact hpar 2 (by simp)
        · exact hpar 3 (by simp)
        · exact hpar 4 (by simp)
        · exact hpar 5 (by simp)
        · exact hpar 6 (by simp)
        · exact hpar 7 (by simp)
        · exact hpar 8 (by simp)
        · exact hpar 9 (by simp)
        · exact hpar 10 (by simp)
        · exact hpar 11 (by simp)
        · exact hpar 12 (by simp)
        · exact hpar 13 (by simp)
        · exact hpar 14 (by simp)
        · exact hpar 15 (by simp)
        · exact hpar 16 (by simp)
        · exact hpar 17 (by simp)
        · exact hpar 18 (by simp)
        · exact hpar 19 (by simp)
        · exact hpar 20 (by simp)
        · exact hpar 21 (by simp)
        · exact hpar 22 (by simp)
        · exact hpar 23 (by simp)
        · exact hgot 0 _ 24 rfl rfl
        · exact hgot 1 _ 25 rfl rfl
        · exact hgot 2 _ 26 rfl rfl
        · exact hgot 3 _ 27 rfl rfl
        · exact hgot 4 _ 28 rfl rfl
        · exact hgot 5 _ 29 rfl rfl
        · exact hgot 6 _ 30 rfl rfl
        · exact hgot 7 _ 31 rfl rfl
        · exact hgot 8 _ 32 rfl rfl
        · exact hgot 9 _ 33 rfl rfl
        · exact hgot 10 _ 34 rfl rfl
        · exact hgot 11 _ 35 rfl rfl
        · exact hgot 12 _ 36 rfl rfl
        · exact hgot 13 _ 37 rfl rfl
        · exact hgot 14 _ 38 rfl rfl
        · exact hgot 15 _ 39 rfl rfl
        · exact hgot 16 _ 40 rfl rfl
        · exact hgot 17 _ 41 rfl rfl
        · exact hgot 18 _ 42 rfl rfl
        · exact hgot 19 _ 43 rfl rfl
        · exact hgot 20 _ 44 rfl rfl
        · exact hgot 21 _ 45 rfl rfl
        · exact hgot 22 _ 46 rfl rfl
        · exact hpar 47 (by simp)
        · exact hpar 48 (by simp)
        · exact hpar 49 (by simp)
        · exact hpar 50 (by simp)
        · exact hpar 51 (by simp)
        · exact hpar 52 (by simp)
        · exact hpar 53 (by simp)
        · exact hpar 54 (by simp)
        · exact hpar 55 (by simp)
        · exact hpar 56 (by simp)
        · exact hpar 57 (by simp)
        · exact hpar 58 (by simp)
        · exact hpar 59 (by simp)
        · exact hpar 60 (by simp)
        · exact hpar 61 (by simp)
        · exact hpar 62 (by simp)
        · exact hpar 63 (by simp)
        · exact hpar 64 (by simp)
        · exact hpar 65 (by simp)
        · exact hpar 66 (by simp)
        · exact hpar 67 (by simp)
        · exact hpar 68 (by simp)
        · exact hpar 69 (by simp)
        · exact hpar 70 (by simp)
        · exact hpar 71 (by simp)
        · exact hpar 72 (by simp)
        · exact hpar 73 (by simp)
        · exact hpar 74 (by simp)
        · exact hpar 75 (by simp)
      obtain ⟨tm, df⟩ := T
      have h1 : tm = #[.agg #[.int .i64 kd, .int .i64 at_, .int .i64 n, oct fl, .slice KA kn kc], .pointer (some ⟨b1, 0, none⟩), .bool false, .pointer none, .pointer (some ⟨w3.heap.size, 0, none⟩), .int .i64 1, undef, undef, .bool true, .bool false, .tuple #[bv (fil 0), .int .i64 1], .pointer none, .pointer (some ⟨b1, 1, none⟩), .int .i64 at_, .tuple #[bv (fil 0), .int .i64 1], bv (fil 0), .int .i64 1, .int .i64 1, .bool false, .bool false, bv (fil 0), bv (fil 0), .bool false, .bool false, .pointer none, .pointer (some ⟨b1, 1, none⟩), .int .i64 at_, .pointer (some ⟨b1, 3, none⟩), oct fl, bv (fil fl), .int .i64 1, .pointer none, .int .i64 1, .pointer none, .pointer (some ⟨b1, 2, none⟩), .int .i64 n, .int .i64 1, .pointer none, .pointer (some ⟨b1, 2, none⟩), .int .i64 n, .int .i64 1, .pointer none, .pointer (some ⟨b1, 4, none⟩), .slice KA kn kc, .int .i64 1, .agg #[.int .i64 1, .int .i64 1, .int .i64 1, .int .i64 1, .int .i64 1], .int .i64 0, undef, undef, undef, undef, undef, undef, undef, undef, undef, undef, undef, undef, undef, undef, undef, undef, undef, undef, undef, undef, undef, undef, undef, undef, undef, undef, undef, undef, undef] := by
        apply Array.ext_getElem?
        intro s
        by_cases hs : s < 76
        · rw [show tm[s]? = _ from hall s hs]
          obtain rfl | rfl | rfl | rfl | rfl | rfl | rfl | rfl | rfl | rfl | rfl | rfl | rfl | rfl | rfl | rfl | rfl | rfl | rfl | rfl | rfl | rfl | rfl | rfl | rfl | rfl | rfl | rfl | rfl | rfl | rfl | rfl | rfl | rfl | rfl | rfl | rfl | rfl | rfl | rfl | rfl | rfl | rfl | rfl | rfl | rfl | rfl | rfl | rfl | rfl | rfl | rfl | rfl | rfl | rfl | rfl | rfl | rfl | rfl | rfl | rfl | rfl | rfl | rfl | rfl | rfl | rfl | rfl | rfl | rfl | rfl | rfl | rfl | rfl | rfl | rfl : s = 0 ∨ s = 1 ∨ s = 2 ∨ s = 3 ∨ s = 4 ∨ s = 5 ∨ s = 6 ∨ s = 7 ∨ s = 8 ∨ s = 9 ∨ s = 10 ∨ s = 11 ∨ s = 12 ∨ s = 13 ∨ s = 14 ∨ s = 15 ∨ s = 16 ∨ s = 17 ∨ s = 18 ∨ s = 19 ∨ s = 20 ∨ s = 21 ∨ s = 22 ∨ s = 23 ∨ s = 24 ∨ s = 25 ∨ s = 26 ∨ s = 27 ∨ s = 28 ∨ s = 29 ∨ s = 30 ∨ s = 31 ∨ s = 32 ∨ s = 33 ∨ s = 34 ∨ s = 35 ∨ s = 36 ∨ s = 37 ∨ s = 38 ∨ s = 39 ∨ s = 40 ∨ s = 41 ∨ s = 42 ∨ s = 43 ∨ s = 44 ∨ s = 45 ∨ s = 46 ∨ s = 47 ∨ s = 48 ∨ s = 49 ∨ s = 50 ∨ s = 51 ∨ s = 52 ∨ s = 53 ∨ s = 54 ∨ s = 55 ∨ s = 56 ∨ s = 57 ∨ s = 58 ∨ s = 59 ∨ s = 60 ∨ s = 61 ∨ s = 62 ∨ s = 63 ∨ s = 64 ∨ s = 65 ∨ s = 66 ∨ s = 67 ∨ s = 68 ∨ s = 69 ∨ s = 70 ∨ s = 71 ∨ s = 72 ∨ s = 73 ∨ s = 74 ∨ s = 75 := by omega
          all_goals rfl
        · rw [Array.getElem?_eq_none (by rw [show tm.size = 76 from ht]; omega), Array.getElem?_eq_none (by simp; omega)]
      rw [h1, show df = [] from hd]
    subst hT
    have mm2 := m6.then hst
    clear hpar hgot hl ht hd hb m6 hst hb1
    dsimp only
    go_wp2_with fail
    go_loopw [46] (fun i wi => ∃ k : Nat, k ≤ 5 ∧ i = .int .i64 (k : Int) ∧ Mod [] w wi) (fun i _ => 5 - (intOf i).toNat)
    case atStart => exact ⟨0, by omega, rfl, mm2⟩
    case round =>
      clear mm2
      obtain ⟨k, hk, rfl, hmi⟩ := hrel
      by_cases hk5 : k < 5
      · go_wp2_with (with_reducible refine wpList_ranW (o := ⟨some 48, .index 54 (.tmp 45) (.tmp 46), _, _, _, _⟩) (by with_unfolding_all rfl) (.int .i64 1) _ (exec_index54 k hk5 rfl rfl rfl) ?_)
        exact ⟨⟨k + 1, by omega, by go_num, hmi⟩, by simp [intOf]; omega⟩
      · obtain rfl : k = 5 := by omega
        go_wp2_with (first
          | (go_at_call 26; refine (len_nil _).mono ?_; rintro e w20 ⟨rfl, rfl⟩)
          | (go_at_call 27; refine (ops_nil _).mono ?_; rintro e w21 ⟨rfl, rfl⟩)
          | (go_at_call 28; refine (dead_nil _).mono ?_; rintro e w22 ⟨rfl, rfl⟩)
          | (go_at_call 29; refine (pending_nil _).mono ?_; rintro e w23 ⟨rfl, rfl⟩)
          | (go_at_call 19; refine (copy_nil _).mono ?_; rintro e w24 ⟨rfl, rfl⟩))
        go_ret
        exact ⟨rfl, hmi⟩
end Go.Proofs.Ytpdpahkhfilmpaa
