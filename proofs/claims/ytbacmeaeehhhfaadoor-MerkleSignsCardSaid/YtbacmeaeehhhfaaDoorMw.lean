/-
  MerkleLeads: Climb; the walk. My own work.
-/
import Derived.Test.YtbacmeaeehhhfaaDoorMj
namespace Go.Proofs.YtbacmeaeehhhfaaDoor
open Go.RowKit Go.Shelf
set_option linter.unusedVariables false
theorem exec_conv1 {v : World} {o : Oper} {ρ : Operand → Value} {x : Operand} {z u : Int} (hu : u = z % 18446744073709551616) (ho : o.op = .convert 3 73 x) (hx : ρ x = .int .i64 z) : (execOp ρ o).run Tryd.prog v = .ok (.value (.int .u64 u)) v := by
  subst hu
  unfold execOp
  simp [ho, hx, go_sem]
  rfl
theorem exec_rem8 {v : World} {o : Oper} {ρ : Operand → Value} {x : Operand} {u : Int} {n : Nat} (h0 : 0 ≤ u) (hn : (n : Int) = u % 8) (ho : o.op = .binOp .rem 73 x (.const (.int .u64 8)) 73) (hx : ρ x = .int .u64 u) (hc : ρ (.const (.int .u64 8)) = .int .u64 8) : (execOp ρ o).run Tryd.prog v = .ok (.value (.int .u64 (n : Int))) v := by
  have h : u.tmod 8 = (n : Int) := by rw [Int.tmod_eq_emod_of_nonneg h0, hn]
  unfold execOp
  simp [ho, hx, hc, go_sem]
  exact h
theorem exec_conv2 {v : World} {o : Oper} {ρ : Operand → Value} {x : Operand} {n : Nat} (hn : n < 8) (ho : o.op = .convert 73 3 x) (hx : ρ x = .int .u64 (n : Int)) : (execOp ρ o).run Tryd.prog v = .ok (.value (.int .i64 (n : Int))) v := by
  have h2 : IntKind.i64.wrap (n : Int) = (n : Int) := IntWalk.i64_in _ (by omega)
  unfold execOp
  simp [ho, hx, go_sem]
  exact h2
set_option maxRecDepth 100000 in
set_option maxHeartbeats 4000000 in
theorem Climb_yes (x : Idv) (n : Nat) (hn : n < 8) (A : Option Addr) (c : Nat) (l : List Idv) (hl : l.length = 3) (w : World) (Gl : Glob w) (RA : Cells w A (l.flatMap ic)) :
    Calls Tryd.prog 21 #[iv x, .int .i64 (n : Int), .slice A 3 c] w fun r w' => r = .returned (.tuple #[iv (climbI x n l), .int .i64 0]) ∧ Mod [] w w' := by
  obtain ⟨d, hd⟩ : ∃ d, d = climbI x n l := ⟨_, rfl⟩
  have CL := fun v (mv : Mod [] w v) => climbed_c x n A l 3 c hl.symm (by decide) v (Gl.then mv) (RA.keep mv (by simp))
  rw [← hd] at CL ⊢
  have LF := fun v => isLeaf_c (n : Int) v
  rw [lfOk_yes hn] at LF
  clear hd Gl RA hl hn
  go_enter Tryd.func21, Tryd.ntmps21
  go_wp2_with (first
    | (with_reducible refine wpList_boxes (o := ⟨some 3, .box 23 (.tmp 0), _, _, _, _⟩) rfl 23 (.tmp 0) rfl _ rfl (ic x) rfl ?_; intro w1 hb1 m1 z1)
    | (with_reducible refine wpList_allocs (o := ⟨some 6, .alloc 23, _, _, _, _⟩) rfl 23 rfl _ zeroI_25 ?_; intro w2 hb2 m2 z2
       obtain ⟨b3, hq3⟩ : ∃ q, q = w.heap.size := ⟨_, rfl⟩
       obtain ⟨b6, hq6⟩ : ∃ q, q = w1.heap.size := ⟨_, rfl⟩
       have k3 : Holds w2 b3 23 (ic x) := by rw [hq3]; exact hb1.keep m2 (by simp)
       have k6 : Holds w2 b6 23 (ic zeroI) := by rw [hq6]; exact hb2
       have mm := m1.then m2
       have hw6 : w.heap.size ≤ b6 := by omega
       rw [← hq3, ← hq6]
       clear hb1 m1 z1 hb2 m2 z2 hq3 hq6)
    | (go_at_call 39; refine (LF _).mono ?_; rintro e w4 ⟨rfl, rfl⟩))
  go_step3
  go_wp2_with (first
    | (go_at_call 39; refine (LF _).mono ?_; rintro e w4 ⟨rfl, rfl⟩)
    | (with_reducible refine wpList_loads (o := ⟨some 15, .load 23 (.tmp 3), _, _, _, _⟩) rfl 23 (.tmp 3) rfl b3 0 _ rfl (Cells.of_holds k3) _ Tryd.underlying23 rfl (size25i x) (iv x) rfl ?_)
    | (go_at_call 44; refine (CL _ mm).mono ?_; rintro e w5 ⟨rfl, m5⟩)
    | (with_reducible refine wpList_storesAll (o := ⟨none, .store 23 (.tmp 6) (.tmp 18), _, _, _, _⟩) rfl 23 (.tmp 6) (.tmp 18) rfl rfl b6 (ic d) rfl (iv d) rfl rfl 23 _ (k6.keep m5 (by simp)) (by rw [ic_length, ic_length]) (ic_one d) (size25i d) ?_
       intro w6 hb6 m6 z6))
  rw [Exit.noGoto_ret]
  refine bodyPost_ret (results_cell_tmp rfl _ _ b6 (ic d) (.int .i64 0) _ rfl rfl (Cells.of_holds hb6) Tryd.underlying23 rfl (size25i d)) rfl ?_
  exact ⟨rfl, far_mod (mm.then m5) m6 (fun i hi => by simp at hi; omega)⟩
theorem exec_ne25f {v : World} {o : Oper} {ρ : Operand → Value} {x y : Operand} {X : Idv} (ho : o.op = .binOp .neq 23 x y 23) (hx : ρ x = iv X) (hy : ρ y = iv X) : (execOp ρ o).run Tryd.prog v = .ok (.value (.bool false)) v := by
  have := exec_ne25 (v := v) ho hx hy
  rwa [decide_eq_true rfl] at this
theorem twin_lt : ∀ n, n < 8 → n ^^^ 1 < 8 ∧ (n ^^^ 1) / 2 ^ 1 = n / 2 ^ 1 ∧ (n ^^^ 1) / 2 ^ 2 = n / 2 ^ 2 ∧ (n ^^^ 1) / 2 ^ 0 ^^^ 1 = n := by decide
theorem path3 (s : Idv) (n : Nat) : pathL s n 3 = [nbI s n 0, nbI s n 1, nbI s n 2] := by simp only [pathL, List.range_succ, List.range_zero, List.nil_append, List.cons_append, List.map_cons, List.map_nil]
theorem key_at (s : Idv) : ∀ n, n < 8 → (rowI s 0).getD n zeroI = keyI (lseedI s n) := by
  intro n hn
  rw [show rowI s 0 = _ from keysL8 s]
  obtain rfl | rfl | rfl | rfl | rfl | rfl | rfl | rfl : n = 0 ∨ n = 1 ∨ n = 2 ∨ n = 3 ∨ n = 4 ∨ n = 5 ∨ n = 6 ∨ n = 7 := by omega
  all_goals rfl
theorem twin_path (s : Idv) (n : Nat) (hn : n < 8) : pathL s (n ^^^ 1) 3 = [keyI (lseedI s n), nbI s n 1, nbI s n 2] := by
  obtain ⟨h1, h2, h3, h4⟩ := twin_lt n hn
  rw [path3]
  unfold nbI
  rw [h2, h3, h4, key_at s n hn]
set_option maxRecDepth 100000 in
set_option maxHeartbeats 4000000 in
theorem leads_c (s : Idv) (z : Int) (n n1 : Nat) (hn : n < 8) (hz : (n : Int) = z % 8) (hn1 : n1 = n ^^^ 1) (w : World) (Gl : Glob w) : Calls Tryd.prog 8 #[iv s, .int .i64 z] w fun r w' => r = .returned (.bool true) ∧ Mod [] w w' := by
  have WK := fun v (mv : Mod [] w v) => wakes_c v (Gl.then mv)
  have SD := fun v (mv : Mod [] w v) => Seed_yes s n hn v (Gl.then mv)
  have PT := fun v (mv : Mod [] w v) => Path_yes s n hn v (Gl.then mv)
  have hn18 : n1 < 8 := by rw [hn1]; exact (twin_lt n hn).1
  have PU := fun v (mv : Mod [] w v) => Path_yes s n1 hn18 v (Gl.then mv)
  have RT := fun v (mv : Mod [] w v) => root_c s v (Gl.then mv)
  obtain ⟨x, hx⟩ : ∃ x, x = lseedI s n := ⟨_, rfl⟩
  rw [← hx] at SD
  have KC := fun v (mv : Mod [] w v) => key_c x v (Gl.then mv)
  obtain ⟨kk, hkk⟩ : ∃ x', x' = keyI x := ⟨_, rfl⟩
  rw [← hkk] at KC
  obtain ⟨p0, hp0⟩ : ∃ x, x = nbI s n 0 := ⟨_, rfl⟩
  obtain ⟨p1, hp1⟩ : ∃ x, x = nbI s n 1 := ⟨_, rfl⟩
  obtain ⟨p2, hp2⟩ : ∃ x, x = nbI s n 2 := ⟨_, rfl⟩
  have e1 := path3 s n
  have e2 := twin_path s n hn
  rw [← hn1, ← hx, ← hkk, ← hp1, ← hp2] at e2
  rw [← hp0, ← hp1, ← hp2] at e1
  have hcl := climb_root s n hn
  rw [← hx, ← hkk, e1] at hcl
  rw [e1] at PT
  rw [e2] at PU
  have CB := fun A c v (mv : Mod [] w v) RA => Climb_yes kk n hn A c [p0, p1, p2] rfl v (Gl.then mv) RA
  rw [hcl] at CB
  obtain ⟨rt, hrt⟩ : ∃ x, x = rootI s := ⟨_, rfl⟩
  rw [← hrt] at RT CB
  have hx1 := xor1i n hn
  rw [← hn1] at hx1
  have HZ : Hid ((n : Int) = z % 18446744073709551616 % 8 ∧ 0 ≤ z % 18446744073709551616 ∧ bits .xor .i64 (n : Int) 1 = (n1 : Int) ∧ n < 8) := Lib.hid ⟨by omega, by omega, hx1, hn⟩
  clear hn1 hn18 hx hkk hp0 hp1 hp2 e1 e2 hcl hrt hx1 hz hn Gl
  go_enter Tryd.func8, Tryd.ntmps8
  go_wp2_with (first
    | (with_reducible refine wpList_boxes (o := ⟨some 2, .box 23 (.tmp 0), _, _, _, _⟩) rfl 23 (.tmp 0) rfl _ rfl (ic s) rfl ?_; intro w1 k2 mm z1
       obtain ⟨b2, hq2⟩ : ∃ q, q = w.heap.size := ⟨_, rfl⟩
       rw [← hq2] at k2 ⊢
       clear z1 hq2)
    | (go_at_call 10; refine (WK _ mm).mono ?_
       rintro e w3 ⟨rfl, m3⟩
       replace k2 := k2.keep m3 (by simp)
       replace mm := mm.then m3
       clear WK m3)
    | (with_reducible refine wpList_ranW (o := ⟨some 14, .convert _ _ _, _, _, _, _⟩) (by with_unfolding_all rfl) (.int .u64 (z % 18446744073709551616)) w3 (exec_conv1 rfl rfl rfl) ?_)
    | (with_reducible refine wpList_ranW (o := ⟨some 15, .binOp _ _ _ _ _, _, _, _, _⟩) (by with_unfolding_all rfl) (.int .u64 (n : Int)) w3 (exec_rem8 HZ.out.2.1 HZ.out.1 rfl rfl rfl) ?_)
    | (with_reducible refine wpList_ranW (o := ⟨some 16, .convert _ _ _, _, _, _, _⟩) (by with_unfolding_all rfl) (.int .i64 (n : Int)) w3 (exec_conv2 HZ.out.2.2.2 rfl rfl) ?_)
    | (with_reducible refine wpList_loads (o := ⟨some 18, .load 23 (.tmp 2), _, _, _, _⟩) rfl 23 (.tmp 2) rfl b2 0 _ rfl (Cells.of_holds k2) _ Tryd.underlying23 rfl (size25i s) (iv s) rfl ?_)
    | (go_at_call 14; refine (SD _ mm).mono ?_
       rintro e w4 ⟨rfl, m4⟩
       replace k2 := k2.keep m4 (by simp)
       replace mm := mm.then m4
       clear SD m4)
    | (with_reducible refine wpList_allocs (o := ⟨some 5, .alloc 23, _, _, _, _⟩) rfl 23 rfl _ zeroI_25 ?_; intro y5 hy5 my5 zy5)
    | (with_reducible refine wpList_storesAll (o := ⟨none, .store 23 (.tmp 5) (.tmp 21), _, _, _, _⟩) rfl 23 (.tmp 5) (.tmp 21) rfl rfl w4.heap.size (ic x) rfl (iv x) rfl rfl 23 _ hy5 (by rw [ic_length, ic_length]) (ic_one x) (size25i x) ?_
       intro w5 k5 m5 z5
       have mx : Mod [] w4 w5 := my5.trans m5 (by intro i hi h; simp at h; omega)
       replace k2 := k2.keep mx (by simp)
       replace mm := mm.then mx
       obtain ⟨b5, hq5⟩ : ∃ q, q = w4.heap.size := ⟨_, rfl⟩
       rw [← hq5] at k5 ⊢
       clear hy5 my5 zy5 m5 z5 mx hq5)
    | (with_reducible refine wpList_loads (o := ⟨some 24, .load 23 (.tmp 2), _, _, _, _⟩) rfl 23 (.tmp 2) rfl b2 0 _ rfl (Cells.of_holds k2) _ Tryd.underlying23 rfl (size25i s) (iv s) rfl ?_)
    | (go_at_call 15; refine (PT _ mm).mono ?_
       rintro e w6 ⟨A0, c0, rfl, hOP, m6, _⟩
       replace k2 := k2.keep m6 (by simp)
       replace k5 := k5.keep m6 (by simp)
       replace mm := mm.then m6
       clear PT m6)
    | (with_reducible refine wpList_loads (o := ⟨some 36, .load 23 (.tmp 5), _, _, _, _⟩) rfl 23 (.tmp 5) rfl b5 0 _ rfl (Cells.of_holds k5) _ Tryd.underlying23 rfl (size25i x) (iv x) rfl ?_)
    | (go_at_call 35; refine (KC _ mm).mono ?_
       rintro e w7 ⟨rfl, m7⟩
       replace k2 := k2.keep m7 (by simp)
       replace k5 := k5.keep m7 (by simp)
       replace hOP := hOP.keep m7 (by simp)
       replace mm := mm.then m7
       clear m7)
    | (go_at_call 21; refine (CB _ c0 _ mm hOP.cells).mono ?_
       rintro e w8 ⟨rfl, m8⟩
       replace k2 := k2.keep m8 (by simp)
       replace k5 := k5.keep m8 (by simp)
       replace hOP := hOP.keep m8 (by simp)
       replace mm := mm.then m8
       clear CB m8)
    | (with_reducible refine wpList_allocs (o := ⟨some 9, .alloc 23, _, _, _, _⟩) rfl 23 rfl _ zeroI_25 ?_; intro y9 hy9 my9 zy9)
    | (with_reducible refine wpList_storesAll (o := ⟨none, .store 23 (.tmp 9) (.tmp 41), _, _, _, _⟩) rfl 23 (.tmp 9) (.tmp 41) rfl rfl w8.heap.size (ic rt) rfl (iv rt) rfl rfl 23 _ hy9 (by rw [ic_length, ic_length]) (ic_one rt) (size25i rt) ?_
       intro w9 k9 m9 z9
       have mx : Mod [] w8 w9 := my9.trans m9 (by intro i hi h; simp at h; omega)
       replace k2 := k2.keep mx (by simp)
       replace k5 := k5.keep mx (by simp)
       replace hOP := hOP.keep mx (by simp)
       replace mm := mm.then mx
       obtain ⟨b9, hq9⟩ : ∃ q, q = w8.heap.size := ⟨_, rfl⟩
       rw [← hq9] at k9 ⊢
       clear hy9 my9 zy9 m9 z9 mx hq9))
  obtain ⟨wq, hwq⟩ : ∃ v, v = w9 := ⟨_, rfl⟩
  rw [← hwq] at k2 k5 k9 hOP mm ⊢
  clear hwq
  refine wp_region_ups [(43, .int .i64 0), (44, .bool false), (45, .bool false), (46, iv rt), (47, iv s), (48, iv rt), (49, .bool false), (50, .bool false)] 96 [43, 44, 45, 46, 47, 48, 49, 50] rfl rfl (by decide) (by kernel_rfl) (fun lz v => Mod [] wq.drew v) (by kernel_rfl) (Mod.refl _ _) (by kernel_rfl) (by kernel_rfl) ?step ?fin
  case step =>
    intro lz T v j o hj hlj hdep hst hpar hgot hcl Kq hK
    have mv : ∀ v, Mod [] wq.drew v → Mod [] wq v := fun v h => (Mod.drew [] wq).then h
    have hjn : j < 8 := (Array.getElem?_eq_some_iff.1 hj).1
    obtain rfl | rfl | rfl | rfl | rfl | rfl | rfl | rfl : j = 0 ∨ j = 1 ∨ j = 2 ∨ j = 3 ∨ j = 4 ∨ j = 5 ∨ j = 6 ∨ j = 7 := by omega
    all_goals (have hj' := Option.some.inj (hj : some _ = some o); subst hj'; clear hj)
    · exact wp_ran rfl (exec_move rfl (eval_tmp ((hpar 6 rfl).trans rfl))) (hK _ _ (fun s hs => by cases hs; rfl) hst)
    · exact wp_ran rfl (exec_nei (rfl) rfl (eval_tmp (hgot 0 _ 43 rfl (hdep ⟨0, .data⟩ (by simp) rfl) rfl)) rfl) (hK _ _ (fun s hs => by cases hs; rfl) hst)
    · exact wp_ran rfl (exec_move rfl (eval_tmp (hgot 1 _ 44 rfl (hdep ⟨1, .data⟩ (by simp) rfl) rfl))) (hK _ _ (fun s hs => by cases hs; rfl) hst)
    · exact wp_ranW (wanted_yes rfl rfl rfl (hgot 2 _ 45 rfl (hdep ⟨2, .guard⟩ (by simp) rfl) rfl)) (exec_load rfl (eval_tmp ((hpar 9 rfl).trans rfl)) (run_loads (Cells.of_holds (k9.keep (mv v hst) (by simp))) Tryd.underlying23 rfl (size25i rt))) (hK _ _ (fun s hs => by cases hs; rfl) hst)
    · exact wp_ranW (wanted_yes rfl rfl rfl (hgot 2 _ 45 rfl (hdep ⟨2, .guard⟩ (by simp) rfl) rfl)) (exec_load rfl (eval_tmp ((hpar 2 rfl).trans rfl)) (run_loads (Cells.of_holds (k2.keep (mv v hst) (by simp))) Tryd.underlying23 rfl (size25i s))) (hK _ _ (fun s hs => by cases hs; rfl) hst)
    · exact wp_calledW (wanted_yes rfl rfl rfl (hgot 2 _ 45 rfl (hdep ⟨2, .guard⟩ (by simp) rfl) rfl)) (exec_call1 rfl rfl (eval_tmp (hgot 4 _ 47 rfl (hdep ⟨4, .data⟩ (by simp) rfl) rfl)) (enters_of Tryd.func12 (by kernel_rfl) rfl)) ((RT v (mm.then (mv v hst))).mono (fun e v' hh => ⟨_, hh.1, hK _ _ (fun s hs => by cases hs; rfl) (hst.then hh.2)⟩))
    · exact wp_ranW (wanted_yes rfl rfl rfl (hgot 2 _ 45 rfl (hdep ⟨2, .guard⟩ (by simp) rfl) rfl)) (exec_ne25f rfl (eval_tmp (hgot 3 _ 46 rfl (hdep ⟨3, .data⟩ (by simp) rfl) rfl)) (eval_tmp (hgot 5 _ 48 rfl (hdep ⟨5, .data⟩ (by simp) rfl) rfl))) (hK _ _ (fun s hs => by cases hs; rfl) hst)
    · exact wp_ran rfl (exec_pick rfl (eval_tmp (hgot 2 _ 45 rfl (hdep ⟨2, .data⟩ (by simp) rfl) rfl)) rfl (eval_tmp (hgot 6 _ 49 rfl (hdep ⟨6, .data⟩ (by simp) rfl) rfl)) rfl) (hK _ _ (fun s hs => by cases hs; rfl) hst)
  case fin =>
  intro lz vr hlz hst
  have mq := (Mod.drew [] wq).then hst
  replace mm := mm.then mq
  replace k2 := k2.keep mq (by simp)
  replace k5 := k5.keep mq (by simp)
  replace hOP := hOP.keep mq (by simp)
  simp only [setAll, List.foldl_cons, List.foldl_nil, List.set_cons_succ, List.set_cons_zero]
  obtain ⟨wq, hwq⟩ : ∃ v, v = vr := ⟨_, rfl⟩
  rw [← hwq] at k2 k5 hOP mm ⊢
  clear hwq hst hlz mq k9
  go_wp2_with (first
    | (with_reducible refine wpList_loads (o := ⟨some 52, .load 23 (.tmp 2), _, _, _, _⟩) rfl 23 (.tmp 2) rfl b2 0 _ rfl (Cells.of_holds k2) _ Tryd.underlying23 rfl (size25i s) (iv s) rfl ?_)
    | (with_reducible refine wpList_ranW (o := ⟨some 54, .binOp _ _ _ _ _, _, _, _, _⟩) (by with_unfolding_all rfl) (.int .i64 (n1 : Int)) _ (exec_xor rfl rfl rfl HZ.out.2.2.1) ?_)
    | (go_at_call 15; refine (PU _ mm).mono ?_
       rintro e w6 ⟨A1, c1, rfl, hOQ, m6, _⟩
       replace k2 := k2.keep m6 (by simp)
       replace k5 := k5.keep m6 (by simp)
       replace hOP := hOP.keep m6 (by simp)
       replace mm := mm.then m6
       clear PU m6))
  obtain ⟨g1, o1, rfl, q0⟩ := hOQ.cells.elem' ic 32 (by omega) ic_length 0 (by simp)
  obtain ⟨_, _, e, q1⟩ := hOQ.cells.elem' ic 32 (by omega) ic_length 1 (by simp)
  cases e
  obtain ⟨_, _, e, q2⟩ := hOQ.cells.elem' ic 32 (by omega) ic_length 2 (by simp)
  cases e
  obtain ⟨g0, o0, rfl, r1⟩ := hOP.cells.elem' ic 32 (by omega) ic_length 1 (by simp)
  obtain ⟨_, _, e, r2⟩ := hOP.cells.elem' ic 32 (by omega) ic_length 2 (by simp)
  cases e
  simp only [List.getElem_cons_zero, List.getElem_cons_succ] at q0 q1 q2 r1 r2
  obtain ⟨wq, hwq⟩ : ∃ v, v = w6 := ⟨_, rfl⟩
  rw [← hwq] at k5 mm q0 q1 q2 r1 r2 ⊢
  clear hwq hOP hOQ
  refine wp_region_ups [(58, .int .i64 0), (59, .bool true), (60, .bool true), (61, .slice (some ⟨g0, o0, none⟩) 3 c0), (62, .int .i64 3), (63, .bool true), (64, .bool true), (65, .bool true), (66, .slice (some ⟨g1, o1, none⟩) 3 c1), (67, .int .i64 3), (68, .bool true), (69, .bool true), (70, .bool true), (71, .slice (some ⟨g1, o1, none⟩) 3 c1), (72, .pointer (some ⟨g1, o1 + 0 * 32, none⟩)), (73, iv kk), (74, iv x), (75, iv kk), (76, .bool true), (77, .bool true), (78, .bool true), (79, .slice (some ⟨g1, o1, none⟩) 3 c1), (80, .pointer (some ⟨g1, o1 + 1 * 32, none⟩)), (81, iv p1), (82, .slice (some ⟨g0, o0, none⟩) 3 c0), (83, .pointer (some ⟨g0, o0 + 1 * 32, none⟩)), (84, iv p1), (85, .bool true), (86, .bool true), (87, .bool true), (88, .slice (some ⟨g1, o1, none⟩) 3 c1), (89, .pointer (some ⟨g1, o1 + 2 * 32, none⟩)), (90, iv p2), (91, .slice (some ⟨g0, o0, none⟩) 3 c0), (92, .pointer (some ⟨g0, o0 + 2 * 32, none⟩)), (93, iv p2), (94, .bool true), (95, .bool true), (4, .bool true)] 96 [58, 59, 60, 61, 62, 63, 64, 65, 66, 67, 68, 69, 70, 71, 72, 73, 74, 75, 76, 77, 78, 79, 80, 81, 82, 83, 84, 85, 86, 87, 88, 89, 90, 91, 92, 93, 94, 95, 4] rfl rfl (by decide) (by kernel_rfl) (fun lz v => Mod [] wq.drew v) (by kernel_rfl) (Mod.refl _ _) (by kernel_rfl) (by kernel_rfl) ?step ?fin
  case step =>
    intro lz T v j o hj hlj hdep hst hpar hgot hcl Kq hK
    have mv : ∀ v, Mod [] wq.drew v → Mod [] wq v := fun v h => (Mod.drew [] wq).then h
    have hjn : j < 39 := (Array.getElem?_eq_some_iff.1 hj).1
    obtain rfl | rfl | rfl | rfl | rfl | rfl | rfl | rfl | rfl | rfl | rfl | rfl | rfl | rfl | rfl | rfl | rfl | rfl | rfl | rfl | rfl | rfl | rfl | rfl | rfl | rfl | rfl | rfl | rfl | rfl | rfl | rfl | rfl | rfl | rfl | rfl | rfl | rfl | rfl : j = 0 ∨ j = 1 ∨ j = 2 ∨ j = 3 ∨ j = 4 ∨ j = 5 ∨ j = 6 ∨ j = 7 ∨ j = 8 ∨ j = 9 ∨ j = 10 ∨ j = 11 ∨ j = 12 ∨ j = 13 ∨ j = 14 ∨ j = 15 ∨ j = 16 ∨ j = 17 ∨ j = 18 ∨ j = 19 ∨ j = 20 ∨ j = 21 ∨ j = 22 ∨ j = 23 ∨ j = 24 ∨ j = 25 ∨ j = 26 ∨ j = 27 ∨ j = 28 ∨ j = 29 ∨ j = 30 ∨ j = 31 ∨ j = 32 ∨ j = 33 ∨ j = 34 ∨ j = 35 ∨ j = 36 ∨ j = 37 ∨ j = 38 := by omega
    all_goals (have hj' := Option.some.inj (hj : some _ = some o); subst hj'; clear hj)
    · exact wp_ran rfl (exec_move rfl (eval_tmp ((hpar 6 rfl).trans rfl))) (hK _ _ (fun s hs => by cases hs; rfl) hst)
    · exact wp_ran rfl (exec_eqi (rfl) rfl (eval_tmp (hgot 0 _ 58 rfl (hdep ⟨0, .data⟩ (by simp) rfl) rfl)) rfl) (hK _ _ (fun s hs => by cases hs; rfl) hst)
    · exact wp_ran rfl (exec_move rfl (eval_tmp (hgot 1 _ 59 rfl (hdep ⟨1, .data⟩ (by simp) rfl) rfl))) (hK _ _ (fun s hs => by cases hs; rfl) hst)
    · exact wp_ranW (wanted_yes rfl rfl rfl (hgot 2 _ 60 rfl (hdep ⟨2, .guard⟩ (by simp) rfl) rfl)) (exec_move rfl (eval_tmp ((hpar 7 rfl).trans rfl))) (hK _ _ (fun s hs => by cases hs; rfl) hst)
    · exact wp_ranW (wanted_yes rfl rfl rfl (hgot 2 _ 60 rfl (hdep ⟨2, .guard⟩ (by simp) rfl) rfl)) (exec_len Tryd.underlying33 rfl (eval_tmp (hgot 3 _ 61 rfl (hdep ⟨3, .data⟩ (by simp) rfl) rfl))) (hK _ _ (fun s hs => by cases hs; rfl) hst)
    · exact wp_ranW (wanted_yes rfl rfl rfl (hgot 2 _ 60 rfl (hdep ⟨2, .guard⟩ (by simp) rfl) rfl)) (exec_eqi (rfl) rfl (eval_tmp (hgot 4 _ 62 rfl (hdep ⟨4, .data⟩ (by simp) rfl) rfl)) rfl) (hK _ _ (fun s hs => by cases hs; rfl) hst)
    · exact wp_ran rfl (exec_pick rfl (eval_tmp (hgot 2 _ 60 rfl (hdep ⟨2, .data⟩ (by simp) rfl) rfl)) (eval_tmp (hgot 5 _ 63 rfl (hdep ⟨5, .data⟩ (by simp) rfl) rfl)) rfl rfl) (hK _ _ (fun s hs => by cases hs; rfl) hst)
    · exact wp_ran rfl (exec_move rfl (eval_tmp (hgot 6 _ 64 rfl (hdep ⟨6, .data⟩ (by simp) rfl) rfl))) (hK _ _ (fun s hs => by cases hs; rfl) hst)
    · exact wp_ranW (wanted_yes rfl rfl rfl (hgot 7 _ 65 rfl (hdep ⟨7, .guard⟩ (by simp) rfl) rfl)) (exec_move rfl (eval_tmp ((hpar 10 rfl).trans rfl))) (hK _ _ (fun s hs => by cases hs; rfl) hst)
    · exact wp_ranW (wanted_yes rfl rfl rfl (hgot 7 _ 65 rfl (hdep ⟨7, .guard⟩ (by simp) rfl) rfl)) (exec_len Tryd.underlying33 rfl (eval_tmp (hgot 8 _ 66 rfl (hdep ⟨8, .data⟩ (by simp) rfl) rfl))) (hK _ _ (fun s hs => by cases hs; rfl) hst)
    · exact wp_ranW (wanted_yes rfl rfl rfl (hgot 7 _ 65 rfl (hdep ⟨7, .guard⟩ (by simp) rfl) rfl)) (exec_eqi (rfl) rfl (eval_tmp (hgot 9 _ 67 rfl (hdep ⟨9, .data⟩ (by simp) rfl) rfl)) rfl) (hK _ _ (fun s hs => by cases hs; rfl) hst)
    · exact wp_ran rfl (exec_pick rfl (eval_tmp (hgot 7 _ 65 rfl (hdep ⟨7, .data⟩ (by simp) rfl) rfl)) (eval_tmp (hgot 10 _ 68 rfl (hdep ⟨10, .data⟩ (by simp) rfl) rfl)) rfl rfl) (hK _ _ (fun s hs => by cases hs; rfl) hst)
    · exact wp_ran rfl (exec_move rfl (eval_tmp (hgot 11 _ 69 rfl (hdep ⟨11, .data⟩ (by simp) rfl) rfl))) (hK _ _ (fun s hs => by cases hs; rfl) hst)
    · exact wp_ranW (wanted_yes rfl rfl rfl (hgot 12 _ 70 rfl (hdep ⟨12, .guard⟩ (by simp) rfl) rfl)) (exec_move rfl (eval_tmp ((hpar 10 rfl).trans rfl))) (hK _ _ (fun s hs => by cases hs; rfl) hst)
    · exact wp_ranW (wanted_yes rfl rfl rfl (hgot 12 _ 70 rfl (hdep ⟨12, .guard⟩ (by simp) rfl) rfl)) (exec_ixs Tryd.underlying33 size25 (by decide : 0 < 3) rfl (eval_tmp (hgot 13 _ 71 rfl (hdep ⟨13, .data⟩ (by simp) rfl) rfl)) rfl) (hK _ _ (fun s hs => by cases hs; rfl) hst)
    · exact wp_ranW (wanted_yes rfl rfl rfl (hgot 12 _ 70 rfl (hdep ⟨12, .guard⟩ (by simp) rfl) rfl)) (exec_load rfl (eval_tmp (hgot 14 _ 72 rfl (hdep ⟨14, .data⟩ (by simp) rfl) rfl)) (run_loads (q0.keep (mv v hst) (by simp)) Tryd.underlying23 rfl (size25i kk))) (hK _ _ (fun s hs => by cases hs; rfl) hst)
    · exact wp_ranW (wanted_yes rfl rfl rfl (hgot 12 _ 70 rfl (hdep ⟨12, .guard⟩ (by simp) rfl) rfl)) (exec_load rfl (eval_tmp ((hpar 5 rfl).trans rfl)) (run_loads (Cells.of_holds (k5.keep (mv v hst) (by simp))) Tryd.underlying23 rfl (size25i x))) (hK _ _ (fun s hs => by cases hs; rfl) hst)
    · exact wp_calledW (wanted_yes rfl rfl rfl (hgot 12 _ 70 rfl (hdep ⟨12, .guard⟩ (by simp) rfl) rfl)) (exec_call1 rfl rfl (eval_tmp (hgot 16 _ 74 rfl (hdep ⟨16, .data⟩ (by simp) rfl) rfl)) (enters_of Tryd.func35 (by kernel_rfl) rfl)) ((KC v (mm.then (mv v hst))).mono (fun e v' hh => ⟨_, hh.1, hK _ _ (fun s hs => by cases hs; rfl) (hst.then hh.2)⟩))
    · exact wp_ranW (wanted_yes rfl rfl rfl (hgot 12 _ 70 rfl (hdep ⟨12, .guard⟩ (by simp) rfl) rfl)) (exec_eq25b (decide_eq_true rfl).symm rfl (eval_tmp (hgot 15 _ 73 rfl (hdep ⟨15, .data⟩ (by simp) rfl) rfl)) (eval_tmp (hgot 17 _ 75 rfl (hdep ⟨17, .data⟩ (by simp) rfl) rfl))) (hK _ _ (fun s hs => by cases hs; rfl) hst)
    · exact wp_ran rfl (exec_pick rfl (eval_tmp (hgot 12 _ 70 rfl (hdep ⟨12, .data⟩ (by simp) rfl) rfl)) (eval_tmp (hgot 18 _ 76 rfl (hdep ⟨18, .data⟩ (by simp) rfl) rfl)) rfl rfl) (hK _ _ (fun s hs => by cases hs; rfl) hst)
    · exact wp_ran rfl (exec_move rfl (eval_tmp (hgot 19 _ 77 rfl (hdep ⟨19, .data⟩ (by simp) rfl) rfl))) (hK _ _ (fun s hs => by cases hs; rfl) hst)
    · exact wp_ranW (wanted_yes rfl rfl rfl (hgot 20 _ 78 rfl (hdep ⟨20, .guard⟩ (by simp) rfl) rfl)) (exec_move rfl (eval_tmp ((hpar 10 rfl).trans rfl))) (hK _ _ (fun s hs => by cases hs; rfl) hst)
    · exact wp_ranW (wanted_yes rfl rfl rfl (hgot 20 _ 78 rfl (hdep ⟨20, .guard⟩ (by simp) rfl) rfl)) (exec_ixs Tryd.underlying33 size25 (by decide : 1 < 3) rfl (eval_tmp (hgot 21 _ 79 rfl (hdep ⟨21, .data⟩ (by simp) rfl) rfl)) rfl) (hK _ _ (fun s hs => by cases hs; rfl) hst)
    · exact wp_ranW (wanted_yes rfl rfl rfl (hgot 20 _ 78 rfl (hdep ⟨20, .guard⟩ (by simp) rfl) rfl)) (exec_load rfl (eval_tmp (hgot 22 _ 80 rfl (hdep ⟨22, .data⟩ (by simp) rfl) rfl)) (run_loads (q1.keep (mv v hst) (by simp)) Tryd.underlying23 rfl (size25i p1))) (hK _ _ (fun s hs => by cases hs; rfl) hst)
    · exact wp_ranW (wanted_yes rfl rfl rfl (hgot 20 _ 78 rfl (hdep ⟨20, .guard⟩ (by simp) rfl) rfl)) (exec_move rfl (eval_tmp ((hpar 7 rfl).trans rfl))) (hK _ _ (fun s hs => by cases hs; rfl) hst)
    · exact wp_ranW (wanted_yes rfl rfl rfl (hgot 20 _ 78 rfl (hdep ⟨20, .guard⟩ (by simp) rfl) rfl)) (exec_ixs Tryd.underlying33 size25 (by decide : 1 < 3) rfl (eval_tmp (hgot 24 _ 82 rfl (hdep ⟨24, .data⟩ (by simp) rfl) rfl)) rfl) (hK _ _ (fun s hs => by cases hs; rfl) hst)
    · exact wp_ranW (wanted_yes rfl rfl rfl (hgot 20 _ 78 rfl (hdep ⟨20, .guard⟩ (by simp) rfl) rfl)) (exec_load rfl (eval_tmp (hgot 25 _ 83 rfl (hdep ⟨25, .data⟩ (by simp) rfl) rfl)) (run_loads (r1.keep (mv v hst) (by simp)) Tryd.underlying23 rfl (size25i p1))) (hK _ _ (fun s hs => by cases hs; rfl) hst)
    · exact wp_ranW (wanted_yes rfl rfl rfl (hgot 20 _ 78 rfl (hdep ⟨20, .guard⟩ (by simp) rfl) rfl)) (exec_eq25b (decide_eq_true rfl).symm rfl (eval_tmp (hgot 23 _ 81 rfl (hdep ⟨23, .data⟩ (by simp) rfl) rfl)) (eval_tmp (hgot 26 _ 84 rfl (hdep ⟨26, .data⟩ (by simp) rfl) rfl))) (hK _ _ (fun s hs => by cases hs; rfl) hst)
    · exact wp_ran rfl (exec_pick rfl (eval_tmp (hgot 20 _ 78 rfl (hdep ⟨20, .data⟩ (by simp) rfl) rfl)) (eval_tmp (hgot 27 _ 85 rfl (hdep ⟨27, .data⟩ (by simp) rfl) rfl)) rfl rfl) (hK _ _ (fun s hs => by cases hs; rfl) hst)
    · exact wp_ran rfl (exec_move rfl (eval_tmp (hgot 28 _ 86 rfl (hdep ⟨28, .data⟩ (by simp) rfl) rfl))) (hK _ _ (fun s hs => by cases hs; rfl) hst)
    · exact wp_ranW (wanted_yes rfl rfl rfl (hgot 29 _ 87 rfl (hdep ⟨29, .guard⟩ (by simp) rfl) rfl)) (exec_move rfl (eval_tmp ((hpar 10 rfl).trans rfl))) (hK _ _ (fun s hs => by cases hs; rfl) hst)
    · exact wp_ranW (wanted_yes rfl rfl rfl (hgot 29 _ 87 rfl (hdep ⟨29, .guard⟩ (by simp) rfl) rfl)) (exec_ixs Tryd.underlying33 size25 (by decide : 2 < 3) rfl (eval_tmp (hgot 30 _ 88 rfl (hdep ⟨30, .data⟩ (by simp) rfl) rfl)) rfl) (hK _ _ (fun s hs => by cases hs; rfl) hst)
    · exact wp_ranW (wanted_yes rfl rfl rfl (hgot 29 _ 87 rfl (hdep ⟨29, .guard⟩ (by simp) rfl) rfl)) (exec_load rfl (eval_tmp (hgot 31 _ 89 rfl (hdep ⟨31, .data⟩ (by simp) rfl) rfl)) (run_loads (q2.keep (mv v hst) (by simp)) Tryd.underlying23 rfl (size25i p2))) (hK _ _ (fun s hs => by cases hs; rfl) hst)
    · exact wp_ranW (wanted_yes rfl rfl rfl (hgot 29 _ 87 rfl (hdep ⟨29, .guard⟩ (by simp) rfl) rfl)) (exec_move rfl (eval_tmp ((hpar 7 rfl).trans rfl))) (hK _ _ (fun s hs => by cases hs; rfl) hst)
    · exact wp_ranW (wanted_yes rfl rfl rfl (hgot 29 _ 87 rfl (hdep ⟨29, .guard⟩ (by simp) rfl) rfl)) (exec_ixs Tryd.underlying33 size25 (by decide : 2 < 3) rfl (eval_tmp (hgot 33 _ 91 rfl (hdep ⟨33, .data⟩ (by simp) rfl) rfl)) rfl) (hK _ _ (fun s hs => by cases hs; rfl) hst)
    · exact wp_ranW (wanted_yes rfl rfl rfl (hgot 29 _ 87 rfl (hdep ⟨29, .guard⟩ (by simp) rfl) rfl)) (exec_load rfl (eval_tmp (hgot 34 _ 92 rfl (hdep ⟨34, .data⟩ (by simp) rfl) rfl)) (run_loads (r2.keep (mv v hst) (by simp)) Tryd.underlying23 rfl (size25i p2))) (hK _ _ (fun s hs => by cases hs; rfl) hst)
    · exact wp_ranW (wanted_yes rfl rfl rfl (hgot 29 _ 87 rfl (hdep ⟨29, .guard⟩ (by simp) rfl) rfl)) (exec_eq25b (decide_eq_true rfl).symm rfl (eval_tmp (hgot 32 _ 90 rfl (hdep ⟨32, .data⟩ (by simp) rfl) rfl)) (eval_tmp (hgot 35 _ 93 rfl (hdep ⟨35, .data⟩ (by simp) rfl) rfl))) (hK _ _ (fun s hs => by cases hs; rfl) hst)
    · exact wp_ran rfl (exec_pick rfl (eval_tmp (hgot 29 _ 87 rfl (hdep ⟨29, .data⟩ (by simp) rfl) rfl)) (eval_tmp (hgot 36 _ 94 rfl (hdep ⟨36, .data⟩ (by simp) rfl) rfl)) rfl rfl) (hK _ _ (fun s hs => by cases hs; rfl) hst)
    · exact wp_ran rfl (exec_assign rfl (eval_tmp (hgot 37 _ 95 rfl (hdep ⟨37, .data⟩ (by simp) rfl) rfl))) (hK _ _ (fun s hs => by cases hs; rfl) hst)
  case fin =>
  intro lz vr hlz hst
  have mq := (Mod.drew [] wq).then hst
  replace mm := mm.then mq
  simp only [setAll, List.foldl_cons, List.foldl_nil, List.set_cons_succ, List.set_cons_zero]
  go_wp2_with fail
  go_ret
  exact ⟨rfl, mm⟩
theorem leads_w (L0 : List UInt8) (z : Int) (h0 : L0.length = 32) (_ : (Lit.int .i64 z).wf = true) (w : World) (Gl : Glob w) :
    Calls Tryd.prog 8 #[.agg (L0.map oct).toArray, .int .i64 z] w fun r w' => r = .returned (.bool true) ∧ Mod [] w w' := by
  show Calls Tryd.prog 8 #[iv ⟨L0, h0⟩, .int .i64 z] w _
  obtain ⟨n, hn⟩ : ∃ n : Nat, (n : Int) = z % 8 := ⟨(z % 8).toNat, by omega⟩
  exact leads_c _ z n _ (by omega) hn rfl w Gl
end Go.Proofs.YtbacmeaeehhhfaaDoor
