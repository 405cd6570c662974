/-
  Package merkle: Sign; where there is no such leaf. My own work.
-/
import Derived.Test.YtbacmeaeehhhfaaDoorMh
namespace Go.Proofs.YtbacmeaeehhhfaaDoor
open Go.RowKit Go.Shelf
set_option linter.unusedVariables false
set_option linter.unusedSimpArgs false
set_option maxRecDepth 100000 in
set_option maxHeartbeats 4000000 in
theorem Sign_yes (s m : Idv) (n : Nat) (hn : n < 8) (w : World) (Gl : Glob w) : Calls Tryd.prog 23 #[iv s, iv m, .int .i64 (n : Int)] w fun r w' => ∃ A c B d, r = .returned (.tuple #[.agg (sgc (n : Int) A 67 c B 3 d).toArray, .int .i64 0]) ∧ OwnG ic 23 32 w' A c (signI (lseedI s n) m) ∧ OwnG ic 23 32 w' B d (pathL s n 3) ∧ Mod [] w w' := by
  obtain ⟨ls, hls⟩ : ∃ d, d = lseedI s n := ⟨_, rfl⟩
  have LS := fun v (mv : Mod [] w v) => leafSeed_c s n (by omega) v (Gl.then mv)
  rw [← hls] at LS ⊢
  have SG := fun v (mv : Mod [] w v) => sign_c ls m v (Gl.then mv)
  have PO := fun v (mv : Mod [] w v) => pathOf_c s n hn v (Gl.then mv)
  obtain ⟨sg, hsg⟩ : ∃ d, d = signI ls m := ⟨_, rfl⟩
  obtain ⟨pt, hpt⟩ : ∃ d, d = pathL s n 3 := ⟨_, rfl⟩
  rw [← hsg] at SG ⊢
  rw [← hpt] at PO ⊢
  have LF := fun v => isLeaf_c (n : Int) v
  rw [lfOk_yes hn] at LF
  clear hls hsg hpt hn Gl
  go_enter Tryd.func23, Tryd.ntmps23
  go_wp2_with (first
    | (with_reducible refine wpList_boxes (o := ⟨some 3, .box 23 (.tmp 0), _, _, _, _⟩) rfl 23 (.tmp 0) rfl _ rfl (ic s) rfl ?_; intro w1 hb1 m1 z1)
    | (with_reducible refine wpList_boxes (o := ⟨some 4, .box 23 (.tmp 1), _, _, _, _⟩) rfl 23 (.tmp 1) rfl _ rfl (ic m) rfl ?_; intro w2 hb2 m2 z2)
    | (with_reducible refine wpList_allocs (o := ⟨some 6, .alloc 50, _, _, _, _⟩) rfl 50 rfl _ zero50 ?_; intro w3 hb3 m3 z3
       obtain ⟨b3, hq3⟩ : ∃ q, q = w.heap.size := ⟨_, rfl⟩
       obtain ⟨b4, hq4⟩ : ∃ q, q = w1.heap.size := ⟨_, rfl⟩
       obtain ⟨b6, hq6⟩ : ∃ q, q = w2.heap.size := ⟨_, rfl⟩
       have k3 : Holds w3 b3 23 (ic s) := by rw [hq3]; exact (hb1.keep m2 (by simp)).keep m3 (by simp)
       have k4 : Holds w3 b4 23 (ic m) := by rw [hq4]; exact hb2.keep m3 (by simp)
       have k6 : Holds w3 b6 50 (sgc 0 none 0 0 none 0 0) := by rw [hq6]; exact hb3
       have mm := (m1.then m2).then m3
       have h36 : ¬ b3 = b6 := by omega
       have h46 : ¬ b4 = b6 := by omega
       have hw6 : w.heap.size ≤ b6 := by omega
       rw [← hq3, ← hq4, ← hq6]
       clear hb1 m1 z1 hb2 m2 z2 hb3 m3 z3 hq3 hq4 hq6)
    | (go_at_call 39; refine (LF _).mono ?_; rintro e w4 ⟨rfl, rfl⟩))
  obtain ⟨wq, hwq⟩ : ∃ v, v = w4 := ⟨_, rfl⟩
  rw [← hwq] at k3 k4 k6 mm ⊢
  clear hwq
  have FM : ∀ v, Mod [b6] wq.drew v → Mod [] w v := fun v h => far_mod mm ((Mod.drew [b6] wq).trans h (fun i _ hi => hi)) (fun i hi => by simp at hi; omega)
  refine wp_region_upx (X := XS) ⟨none, 0, none, 0⟩ (fun x => [(12, .int .i64 (n : Int)), (13, iv s), (14, .int .i64 (n : Int)), (15, iv ls), (16, iv m), (17, .slice x.A 67 x.c), (18, iv s), (19, .int .i64 (n : Int)), (20, .slice x.B 3 x.d), (21, .agg (sgc (n : Int) x.A 67 x.c x.B 3 x.d).toArray), (7, .int .i64 0)]) 22 [12, 13, 14, 15, 16, 17, 18, 19, 20, 21, 7] rfl (fun _ => rfl) (by decide) (by kernel_rfl) (fun x lz v => Mod [b6] wq.drew v ∧ (lz 5 = true → OwnG ic 23 32 v x.A x.c sg ∧ ∀ i ∈ blk x.A, b6 < i) ∧ (lz 8 = true → OwnG ic 23 32 v x.B x.d pt ∧ ∀ i ∈ blk x.B, b6 < i) ∧ Holds v b6 50 (if lz 10 = true then sgc (n : Int) x.A 67 x.c x.B 3 x.d else sgc 0 none 0 0 none 0 0)) (by kernel_rfl) ⟨Mod.refl _ _, (fun h => by cases h), (fun h => by cases h), k6⟩ (by kernel_rfl) (by kernel_rfl) ?step ?fin
  case step =>
    intro x lz T v j o hj hlj hdep hst hpar hgot hcl Kq hK
    have mv : ∀ v, Mod [b6] wq.drew v → Mod [b6] wq v := fun v h => (Mod.drew [b6] wq).trans h (fun i _ hi => hi)
    have hjn : j < 12 := (Array.getElem?_eq_some_iff.1 hj).1
    obtain rfl | rfl | rfl | rfl | rfl | rfl | rfl | rfl | rfl | rfl | rfl | rfl : j = 0 ∨ j = 1 ∨ j = 2 ∨ j = 3 ∨ j = 4 ∨ j = 5 ∨ j = 6 ∨ j = 7 ∨ j = 8 ∨ j = 9 ∨ j = 10 ∨ j = 11 := by omega
    all_goals (have hj' := Option.some.inj (hj : some _ = some o); subst hj'; clear hj)
    · exact wp_ran rfl (exec_move rfl (eval_tmp ((hpar 2 rfl).trans rfl))) (hK x _ _ (fun _ _ _ _ _ _ => rfl) (fun s hs => by cases hs; rfl) (by simpa using hst))
    · exact wp_ran rfl (exec_load rfl (eval_tmp ((hpar 3 rfl).trans rfl)) (run_loads (Cells.of_holds (k3.keep (mv v hst.1) (by simpa using h36))) Tryd.underlying23 rfl (size25i s))) (hK x _ _ (fun _ _ _ _ _ _ => rfl) (fun s hs => by cases hs; rfl) (by simpa using hst))
    · exact wp_ran rfl (exec_move rfl (eval_tmp ((hpar 2 rfl).trans rfl))) (hK x _ _ (fun _ _ _ _ _ _ => rfl) (fun s hs => by cases hs; rfl) (by simpa using hst))
    · refine wp_called rfl (exec_call2 rfl rfl (eval_tmp (hgot 1 _ 13 rfl (hdep ⟨1, .data⟩ (by simp) rfl) rfl)) (eval_tmp (hgot 2 _ 14 rfl (hdep ⟨2, .data⟩ (by simp) rfl) rfl)) (enters_of Tryd.func40 (by kernel_rfl) rfl)) ((LS v (FM v hst.1)).mono ?_)
      rintro e v' ⟨rfl, m2⟩
      exact ⟨_, rfl, hK x _ _ (fun _ _ _ _ _ _ => rfl) (fun s hs => by cases hs; rfl) ⟨hst.1.then m2, fun h => ⟨(hst.2.1 (by simpa using h)).1.keep m2 (by simp), (hst.2.1 (by simpa using h)).2⟩, fun h => ⟨(hst.2.2.1 (by simpa using h)).1.keep m2 (by simp), (hst.2.2.1 (by simpa using h)).2⟩, by simpa using hst.2.2.2.keep m2 (by simp)⟩⟩
    · exact wp_ran rfl (exec_load rfl (eval_tmp ((hpar 4 rfl).trans rfl)) (run_loads (Cells.of_holds (k4.keep (mv v hst.1) (by simpa using h46))) Tryd.underlying23 rfl (size25i m))) (hK x _ _ (fun _ _ _ _ _ _ => rfl) (fun s hs => by cases hs; rfl) (by simpa using hst))
    · have l9 : lz 9 = false := (by cases hh : lz 9 with | false => rfl | true => exact absurd (hcl 9 _ rfl hh ⟨5, .data⟩ (by simp) rfl) (by rw [hlj]; simp))
      have l10 : lz 10 = false := (by cases hh : lz 10 with | false => rfl | true => exact absurd (hcl 10 _ rfl hh ⟨5, .phase⟩ (by simp) rfl) (by rw [hlj]; simp))
      refine wp_called rfl (exec_call2 rfl rfl (eval_tmp (hgot 3 _ 15 rfl (hdep ⟨3, .data⟩ (by simp) rfl) rfl)) (eval_tmp (hgot 4 _ 16 rfl (hdep ⟨4, .data⟩ (by simp) rfl) rfl)) (enters_of Tryd.func25 (by kernel_rfl) rfl)) ((SG v (FM v hst.1)).mono ?_)
      rintro e v' ⟨A', c', rfl, hO', m2, hb'⟩
      have hp := hst.2.2.2
      rw [if_neg (by rw [l10]; simp)] at hp
      exact ⟨_, rfl, hK { x with A := A', c := c' } _ _ (fun j' o' s' g1 g2 g3 => by
          have g4 : j' < 12 := (Array.getElem?_eq_some_iff.1 g1).1
          clear hpar hgot hdep hK
          obtain rfl | rfl | rfl | rfl | rfl | rfl | rfl | rfl | rfl | rfl | rfl | rfl : j' = 0 ∨ j' = 1 ∨ j' = 2 ∨ j' = 3 ∨ j' = 4 ∨ j' = 5 ∨ j' = 6 ∨ j' = 7 ∨ j' = 8 ∨ j' = 9 ∨ j' = 10 ∨ j' = 11 := by omega
          all_goals (cases g1; cases g3 <;> first | rfl | (rw [hlj] at g2; cases g2) | (rw [l9] at g2; cases g2))) (fun s hs => by cases hs; rfl) ⟨hst.1.then m2, fun h => ⟨hO', fun i hi => by have := hb' i hi; have := hp.lt; omega⟩, fun h => ⟨(hst.2.2.1 (by simpa using h)).1.keep m2 (by simp), (hst.2.2.1 (by simpa using h)).2⟩, by rw [if_neg (by simp [l10])]; exact hp.keep m2 (by simp)⟩⟩
    · exact wp_ran rfl (exec_load rfl (eval_tmp ((hpar 3 rfl).trans rfl)) (run_loads (Cells.of_holds (k3.keep (mv v hst.1) (by simpa using h36))) Tryd.underlying23 rfl (size25i s))) (hK x _ _ (fun _ _ _ _ _ _ => rfl) (fun s hs => by cases hs; rfl) (by simpa using hst))
    · exact wp_ran rfl (exec_move rfl (eval_tmp ((hpar 2 rfl).trans rfl))) (hK x _ _ (fun _ _ _ _ _ _ => rfl) (fun s hs => by cases hs; rfl) (by simpa using hst))
    · have l9 : lz 9 = false := (by cases hh : lz 9 with | false => rfl | true => exact absurd (hcl 9 _ rfl hh ⟨8, .data⟩ (by simp) rfl) (by rw [hlj]; simp))
      have l10 : lz 10 = false := (by cases hh : lz 10 with | false => rfl | true => exact absurd (hcl 10 _ rfl hh ⟨8, .phase⟩ (by simp) rfl) (by rw [hlj]; simp))
      refine wp_called rfl (exec_call2 rfl rfl (eval_tmp (hgot 6 _ 18 rfl (hdep ⟨6, .data⟩ (by simp) rfl) rfl)) (eval_tmp (hgot 7 _ 19 rfl (hdep ⟨7, .data⟩ (by simp) rfl) rfl)) (enters_of Tryd.func41 (by kernel_rfl) rfl)) ((PO v (FM v hst.1)).mono ?_)
      rintro e v' ⟨A', c', rfl, hO', m2, hb'⟩
      have hp := hst.2.2.2
      rw [if_neg (by rw [l10]; simp)] at hp
      exact ⟨_, rfl, hK { x with B := A', d := c' } _ _ (fun j' o' s' g1 g2 g3 => by
          have g4 : j' < 12 := (Array.getElem?_eq_some_iff.1 g1).1
          clear hpar hgot hdep hK
          obtain rfl | rfl | rfl | rfl | rfl | rfl | rfl | rfl | rfl | rfl | rfl | rfl : j' = 0 ∨ j' = 1 ∨ j' = 2 ∨ j' = 3 ∨ j' = 4 ∨ j' = 5 ∨ j' = 6 ∨ j' = 7 ∨ j' = 8 ∨ j' = 9 ∨ j' = 10 ∨ j' = 11 := by omega
          all_goals (cases g1; cases g3 <;> first | rfl | (rw [hlj] at g2; cases g2) | (rw [l9] at g2; cases g2))) (fun s hs => by cases hs; rfl) ⟨hst.1.then m2, fun h => ⟨(hst.2.1 (by simpa using h)).1.keep m2 (by simp), (hst.2.1 (by simpa using h)).2⟩, fun h => ⟨hO', fun i hi => by have := hb' i hi; have := hp.lt; omega⟩, by rw [if_neg (by simp [l10])]; exact hp.keep m2 (by simp)⟩⟩
    · exact wp_ran rfl (exec_build50 rfl (eval_tmp (hgot 0 _ 12 rfl (hdep ⟨0, .data⟩ (by simp) rfl) rfl)) (eval_tmp (hgot 5 _ 17 rfl (hdep ⟨5, .data⟩ (by simp) rfl) rfl)) (eval_tmp (hgot 8 _ 20 rfl (hdep ⟨8, .data⟩ (by simp) rfl) rfl))) (hK x _ _ (fun _ _ _ _ _ _ => rfl) (fun s hs => by cases hs; rfl) (by simpa using hst))
    · have hp := hst.2.2.2
      rw [if_neg (by rw [hlj]; simp)] at hp
      have a5 := hst.2.1 (hdep ⟨5, .phase⟩ (by simp) rfl)
      have a8 := hst.2.2.1 (hdep ⟨8, .phase⟩ (by simp) rfl)
      refine wp_stored (ty := 50) (V := .agg (sgc (n : Int) x.A 67 x.c x.B 3 x.d).toArray) (cs := sgc (n : Int) x.A 67 x.c x.B 3 x.d) rfl rfl (eval_tmp ((hpar 6 rfl).trans rfl)) (eval_tmp (hgot 9 _ 21 rfl (hdep ⟨9, .data⟩ (by simp) rfl) rfl)) rfl hp rfl (sgc_one _ _ _ _ _ _ _) (size50s _ _ _ _ _ _ _) (fun v' q1 q2 => hK x _ _ (fun _ _ _ _ _ _ => rfl) (fun s hs => by cases hs) ⟨Mod.trans hst.1 q2 (fun i _ hi => hi), fun _ => ⟨a5.1.keep q2 (fun a ha hm => by have := a5.2 a.block (by simp [blk, ha]); simp at hm; omega), a5.2⟩, fun _ => ⟨a8.1.keep q2 (fun a ha hm => by have := a8.2 a.block (by simp [blk, ha]); simp at hm; omega), a8.2⟩, by rw [if_pos (by simp)]; exact q1⟩)
    · exact wp_ran rfl (exec_assign rfl rfl) (hK x _ _ (fun _ _ _ _ _ _ => rfl) (fun s hs => by cases hs; rfl) (by simpa using hst))
  case fin =>
  intro x lz vr hlz hst
  have a5 := hst.2.1 (hlz 5 (by decide))
  have a8 := hst.2.2.1 (hlz 8 (by decide))
  have hp := hst.2.2.2
  rw [if_pos (hlz 10 (by decide))] at hp
  have mq := FM vr hst.1
  clear hst hlz
  simp only [setAll, List.foldl_cons, List.foldl_nil, List.set_cons_succ, List.set_cons_zero]
  go_wp2_with fail
  refine bodyPost_ret (results_cell_tmp rfl _ _ b6 (sgc (n : Int) x.A 67 x.c x.B 3 x.d) (.int .i64 0) _ rfl rfl (Cells.of_holds hp) Tryd.underlying50 rfl (size50s _ _ _ _ _ _ _)) rfl ?_
  exact ⟨_, _, _, _, rfl, a5.1, a8.1, mq⟩
set_option maxRecDepth 100000 in
set_option maxHeartbeats 4000000 in
theorem Sign_no (s m : Idv) (z : Int) (hn : lfOk z = false) (w : World) : Calls Tryd.prog 23 #[iv s, iv m, .int .i64 z] w fun r w' => r = .returned (.tuple #[.agg (sgc 0 none 0 0 none 0 0).toArray, .int .i64 2]) ∧ Mod [] w w' := by
  have LF := fun v => isLeaf_c z v
  rw [hn] at LF
  clear hn
  go_enter Tryd.func23, Tryd.ntmps23
  go_wp2_with (first
    | (with_reducible refine wpList_boxes (o := ⟨some 3, .box 23 (.tmp 0), _, _, _, _⟩) rfl 23 (.tmp 0) rfl _ rfl (ic s) rfl ?_; intro w1 hb1 m1 z1)
    | (with_reducible refine wpList_boxes (o := ⟨some 4, .box 23 (.tmp 1), _, _, _, _⟩) rfl 23 (.tmp 1) rfl _ rfl (ic m) rfl ?_; intro w2 hb2 m2 z2)
    | (with_reducible refine wpList_allocs (o := ⟨some 6, .alloc 50, _, _, _, _⟩) rfl 50 rfl _ zero50 ?_; intro w3 hb3 m3 z3
       obtain ⟨b6, hq6⟩ : ∃ q, q = w2.heap.size := ⟨_, rfl⟩
       have k6 : Holds w3 b6 50 (sgc 0 none 0 0 none 0 0) := by rw [hq6]; exact hb3
       have mm := (m1.then m2).then m3
       have hw6 : w.heap.size ≤ b6 := by omega
       rw [← hq6]
       clear hb1 m1 z1 hb2 m2 z2 hb3 m3 z3 hq6)
    | (go_at_call 39; refine (LF _).mono ?_; rintro e w4 ⟨rfl, rfl⟩)
    | (with_reducible refine wpList_ranW (o := ⟨some 11, .build 50 _, _, _, _, _⟩) (by with_unfolding_all rfl) (.agg (sgc 0 none 0 0 none 0 0).toArray) _ (exec_build50z rfl) ?_)
    | (with_reducible refine wpList_storesAll (o := ⟨none, .store 50 (.tmp 6) (.tmp 11), _, _, _, _⟩) rfl 50 (.tmp 6) (.tmp 11) rfl rfl b6 (sgc 0 none 0 0 none 0 0) rfl (.agg (sgc 0 none 0 0 none 0 0).toArray) rfl rfl 50 _ k6 rfl (sgc_one _ _ _ _ _ _ _) (size50s _ _ _ _ _ _ _) ?_
       intro w5 hb5 m5 z5))
  refine bodyPost_ret (results_cell_tmp rfl _ _ b6 (sgc 0 none 0 0 none 0 0) (.int .i64 2) _ rfl rfl (Cells.of_holds hb5) Tryd.underlying50 rfl (size50s _ _ _ _ _ _ _)) rfl ?_
  exact ⟨rfl, far_mod mm m5 (fun i hi => by simp at hi; omega)⟩
theorem keysL8 (s : Idv) : keysL s 8 = [keyI (lseedI s 0), keyI (lseedI s 1), keyI (lseedI s 2), keyI (lseedI s 3), keyI (lseedI s 4), keyI (lseedI s 5), keyI (lseedI s 6), keyI (lseedI s 7)] := by
  simp only [keysL, List.range_succ, List.range_zero, List.nil_append, List.cons_append, List.map_cons, List.map_nil]
theorem halfL4 (a b c d e f g h : Idv) : halfL [a, b, c, d, e, f, g, h] 4 = [joinI a b, joinI c d, joinI e f, joinI g h] := by
  simp only [halfL, List.range_succ, List.range_zero, List.nil_append, List.cons_append, List.map_cons, List.map_nil]
  simp only [Nat.zero_mul, Nat.one_mul, Nat.reduceMul, Nat.reduceAdd, List.getD_cons_zero, List.getD_cons_succ]
theorem halfL2 (a b c d : Idv) : halfL [a, b, c, d] 2 = [joinI a b, joinI c d] := by
  simp only [halfL, List.range_succ, List.range_zero, List.nil_append, List.cons_append, List.map_cons, List.map_nil]
  simp only [Nat.zero_mul, Nat.one_mul, Nat.reduceMul, Nat.reduceAdd, List.getD_cons_zero, List.getD_cons_succ]
theorem halfL1 (a b : Idv) : halfL [a, b] 1 = [joinI a b] := by
  simp only [halfL, List.range_succ, List.range_zero, List.nil_append, List.cons_append, List.map_cons, List.map_nil]
  simp only [Nat.zero_mul, Nat.one_mul, Nat.reduceMul, Nat.reduceAdd, List.getD_cons_zero, List.getD_cons_succ]
/-- Each leaf's path leads from its key to the root. -/
theorem climb_root (s : Idv) : ∀ n, n < 8 → climbI (keyI (lseedI s n)) n (pathL s n 3) = rootI s := by
  intro n hn
  have r0 : rowI s 0 = [(keyI (lseedI s 0)), (keyI (lseedI s 1)), (keyI (lseedI s 2)), (keyI (lseedI s 3)), (keyI (lseedI s 4)), (keyI (lseedI s 5)), (keyI (lseedI s 6)), (keyI (lseedI s 7))] := keysL8 s
  have r1 : rowI s 1 = [(joinI (keyI (lseedI s 0)) (keyI (lseedI s 1))), (joinI (keyI (lseedI s 2)) (keyI (lseedI s 3))), (joinI (keyI (lseedI s 4)) (keyI (lseedI s 5))), (joinI (keyI (lseedI s 6)) (keyI (lseedI s 7)))] := by rw [rowI, rowI_length s 0 (by decide), r0, show 8 / 2 ^ 0 / 2 = 4 from rfl, halfL4]
  have r2 : rowI s 2 = [(joinI (joinI (keyI (lseedI s 0)) (keyI (lseedI s 1))) (joinI (keyI (lseedI s 2)) (keyI (lseedI s 3)))), (joinI (joinI (keyI (lseedI s 4)) (keyI (lseedI s 5))) (joinI (keyI (lseedI s 6)) (keyI (lseedI s 7))))] := by rw [rowI, rowI_length s 1 (by decide), r1, show 8 / 2 ^ 1 / 2 = 2 from rfl, halfL2]
  have r3 : rowI s 3 = [(joinI (joinI (joinI (keyI (lseedI s 0)) (keyI (lseedI s 1))) (joinI (keyI (lseedI s 2)) (keyI (lseedI s 3)))) (joinI (joinI (keyI (lseedI s 4)) (keyI (lseedI s 5))) (joinI (keyI (lseedI s 6)) (keyI (lseedI s 7)))))] := by rw [rowI, rowI_length s 2 (by decide), r2, show 8 / 2 ^ 2 / 2 = 1 from rfl, halfL1]
  have hp : ∀ n, pathL s n 3 = [nbI s n 0, nbI s n 1, nbI s n 2] := fun n => by simp only [pathL, List.range_succ, List.range_zero, List.nil_append, List.cons_append, List.map_cons, List.map_nil]
  rw [rootI, r3, hp]
  unfold nbI
  rw [r0, r1, r2]
  obtain rfl | rfl | rfl | rfl | rfl | rfl | rfl | rfl : n = 0 ∨ n = 1 ∨ n = 2 ∨ n = 3 ∨ n = 4 ∨ n = 5 ∨ n = 6 ∨ n = 7 := by omega
  all_goals simp [climbI, climbK]
end Go.Proofs.YtbacmeaeehhhfaaDoor
