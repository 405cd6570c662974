/-
  Package merkle: Seed, Path, Sign, Verify. My own work.
-/
import Derived.Test.YtbacmeaeehhhfaaDoorMg
namespace Go.Proofs.YtbacmeaeehhhfaaDoor
open Go.RowKit Go.Shelf
set_option linter.unusedVariables false
section
variable {P : Program} {v : World} {o : Oper} {ρ : Operand → Value} {x y : Operand}
theorem exec_eqi {t t' : TypeId} {k : IntKind} {a b : Int} {r : Bool} (hr : (a == b) = r) (ho : o.op = .binOp .eql t x y t') (hx : ρ x = .int k a) (hy : ρ y = .int k b) : (execOp ρ o).run P v = .ok (.value (.bool r)) v := by
  subst hr
  unfold execOp
  simp [ho, hx, hy, go_sem]
theorem exec_nei {t t' : TypeId} {k : IntKind} {a b : Int} {r : Bool} (hr : (!(a == b)) = r) (ho : o.op = .binOp .neq t x y t') (hx : ρ x = .int k a) (hy : ρ y = .int k b) : (execOp ρ o).run P v = .ok (.value (.bool r)) v := by
  subst hr
  unfold execOp
  simp [ho, hx, hy, go_sem]
  rfl
theorem exec_fg0 {g : Nat} (ho : o.op = .fieldAddr 50 x 0) (hx : ρ x = .pointer (some ⟨g, 0, none⟩)) : (execOp ρ o).run Tryd.prog v = .ok (.value (.pointer (some ⟨g, 0, none⟩))) v := by
  unfold execOp
  simp [ho, hx, go_sem]
  try rfl
theorem exec_fg1 {g : Nat} (ho : o.op = .fieldAddr 50 x 1) (hx : ρ x = .pointer (some ⟨g, 0, none⟩)) : (execOp ρ o).run Tryd.prog v = .ok (.value (.pointer (some ⟨g, 1, none⟩))) v := by
  unfold execOp
  simp [ho, hx, go_sem]
  try rfl
theorem exec_fg2 {g : Nat} (ho : o.op = .fieldAddr 50 x 2) (hx : ρ x = .pointer (some ⟨g, 0, none⟩)) : (execOp ρ o).run Tryd.prog v = .ok (.value (.pointer (some ⟨g, 2, none⟩))) v := by
  unfold execOp
  simp [ho, hx, go_sem]
  try rfl
end
/-- The cells of a signature. -/
def sgc (lf : Int) (C : Option Addr) (nC cC : Nat) (P : Option Addr) (nP cP : Nat) : List Value := [.int .i64 lf, .slice C nC cC, .slice P nP cP]
theorem sgc_len (lf : Int) (C : Option Addr) (nC cC : Nat) (P : Option Addr) (nP cP : Nat) : (sgc lf C nC cC P nP cP).length = 3 := rfl
theorem sgc_one (lf : Int) (C : Option Addr) (nC cC : Nat) (P : Option Addr) (nP cP : Nat) : ∀ v ∈ sgc lf C nC cC P nP cP, v.oneCell' = true := by
  intro v hv
  simp only [sgc, List.mem_cons, List.not_mem_nil, or_false] at hv
  rcases hv with rfl | rfl | rfl <;> rfl
theorem size50 : (Tryd.prog.info? 50).map (·.size) = some 3 := by kernel_rfl
theorem size50s (lf : Int) (C : Option Addr) (nC cC : Nat) (P : Option Addr) (nP cP : Nat) : (Tryd.prog.info? 50).map (·.size) = some (sgc lf C nC cC P nP cP).length := size50
theorem zero50 : ∀ w, (zeroValue 50).run Tryd.prog w = .ok (.agg (sgc 0 none 0 0 none 0 0).toArray) w := (zero_of_info (n := 3) (by kernel_rfl)).1
set_option maxRecDepth 100000 in
theorem run_build50 (lf : Int) (C : Option Addr) (nC cC : Nat) (P : Option Addr) (nP cP : Nat) (w : World) : (Instr.build 50 #[(0, .int .i64 lf), (1, .slice C nC cC), (2, .slice P nP cP)]).run Tryd.prog w = .ok (.agg (sgc lf C nC cC P nP cP).toArray) w := by
  refine run_build w _ _ _ ?_
  kernel_rfl
set_option maxRecDepth 100000 in
theorem run_build50z (w : World) : (Instr.build 50 #[]).run Tryd.prog w = .ok (.agg (sgc 0 none 0 0 none 0 0).toArray) w := by
  refine run_build w _ _ _ ?_
  kernel_rfl
theorem exec_build50 {v : World} {o : Oper} {ρ : Operand → Value} {x y z : Operand} {lf : Int} {C : Option Addr} {nC cC : Nat} {P : Option Addr} {nP cP : Nat} (ho : o.op = .build 50 #[(0, x), (1, y), (2, z)]) (hx : ρ x = .int .i64 lf) (hy : ρ y = .slice C nC cC) (hz : ρ z = .slice P nP cP) : (execOp ρ o).run Tryd.prog v = .ok (.value (.agg (sgc lf C nC cC P nP cP).toArray)) v := by
  unfold execOp
  simp only [ho, List.map_toArray, List.map_cons, List.map_nil, hx, hy, hz, Sem.run_bind, run_build50, Result.andThen, Sem.run_pure]
theorem exec_build50z {v : World} {o : Oper} {ρ : Operand → Value} (ho : o.op = .build 50 #[]) : (execOp ρ o).run Tryd.prog v = .ok (.value (.agg (sgc 0 none 0 0 none 0 0).toArray)) v := by
  unfold execOp
  simp only [ho, List.map_toArray, List.map_nil, Sem.run_bind, run_build50z, Result.andThen, Sem.run_pure]
theorem lfOk_yes {n : Nat} (h : n < 8) : lfOk (n : Int) = true := by unfold lfOk; rw [decide_eq_true (by omega), decide_eq_true (by omega)]; rfl
set_option maxRecDepth 100000 in
set_option maxHeartbeats 4000000 in
theorem Seed_yes (s : Idv) (n : Nat) (hn : n < 8) (w : World) (Gl : Glob w) : Calls Tryd.prog 14 #[iv s, .int .i64 (n : Int)] w fun r w' => r = .returned (.tuple #[iv (lseedI s n), .int .i64 0]) ∧ Mod [] w w' := by
  obtain ⟨d, hd⟩ : ∃ d, d = lseedI s n := ⟨_, rfl⟩
  have LS := fun v (mv : Mod [] w v) => leafSeed_c s n (by omega) v (Gl.then mv)
  rw [← hd] at LS ⊢
  have LF := fun v => isLeaf_c (n : Int) v
  rw [lfOk_yes hn] at LF
  clear hd Gl hn
  go_enter Tryd.func14, Tryd.ntmps14
  go_wp2_with (first
    | (with_reducible refine wpList_boxes (o := ⟨some 2, .box 23 (.tmp 0), _, _, _, _⟩) rfl 23 (.tmp 0) rfl _ rfl (ic s) rfl ?_; intro w1 hb1 m1 z1; replace z1 := Lib.hid z1)
    | (with_reducible refine wpList_allocs (o := ⟨some 4, .alloc 23, _, _, _, _⟩) rfl 23 rfl _ zeroI_25 ?_; intro w2 hb2 m2 z2; replace z2 := Lib.hid z2
       have k1 := hb1.keep m2 (by simp)
       have mm := m1.then m2)
    | (go_at_call 39; refine (LF _).mono ?_; rintro e w3 ⟨rfl, rfl⟩)
    | (with_reducible refine wpList_loads (o := ⟨some 10, .load 23 (.tmp 2), _, _, _, _⟩) rfl 23 (.tmp 2) rfl w.heap.size 0 _ rfl (Cells.of_holds k1) _ Tryd.underlying23 rfl (size25i s) (iv s) rfl ?_)
    | (go_at_call 40; refine (LS _ mm).mono ?_; rintro e w4 ⟨rfl, m4⟩)
    | (with_reducible refine wpList_storesAll (o := ⟨none, .store 23 (.tmp 4) (.tmp 12), _, _, _, _⟩) rfl 23 (.tmp 4) (.tmp 12) rfl rfl w1.heap.size (ic d) rfl (iv d) rfl rfl 23 _ (hb2.keep m4 (by simp)) (by rw [ic_length, ic_length]) (ic_one d) (size25i d) ?_
       intro w5 hb5 m5 z5))
  refine bodyPost_ret (results_cell_tmp rfl _ _ w1.heap.size (ic d) (.int .i64 0) _ rfl rfl (Cells.of_holds hb5) Tryd.underlying23 rfl (size25i d)) rfl ?_
  exact ⟨rfl, far_mod (mm.then m4) m5 (fun i hi => by have := m1.size; simp at hi; omega)⟩
set_option maxRecDepth 100000 in
set_option maxHeartbeats 4000000 in
theorem Path_yes (s : Idv) (n : Nat) (hn : n < 8) (w : World) (Gl : Glob w) : Calls Tryd.prog 15 #[iv s, .int .i64 (n : Int)] w fun r w' => ∃ A c, r = .returned (.tuple #[.slice A 3 c, .int .i64 0]) ∧ OwnG ic 23 32 w' A c (pathL s n 3) ∧ Mod [] w w' ∧ (∀ i ∈ blk A, w.heap.size ≤ i) := by
  have PO := fun v (mv : Mod [] w v) => pathOf_c s n hn v (Gl.then mv)
  have LF := fun v => isLeaf_c (n : Int) v
  rw [lfOk_yes hn] at LF
  clear Gl hn
  go_enter Tryd.func15, Tryd.ntmps15
  go_wp2_with (first
    | (with_reducible refine wpList_boxes (o := ⟨some 2, .box 23 (.tmp 0), _, _, _, _⟩) rfl 23 (.tmp 0) rfl _ rfl (ic s) rfl ?_; intro w1 hb1 m1 z1; replace z1 := Lib.hid z1)
    | (go_at_call 39; refine (LF _).mono ?_; rintro e w3 ⟨rfl, rfl⟩)
    | (with_reducible refine wpList_loads (o := ⟨some 9, .load 23 (.tmp 2), _, _, _, _⟩) rfl 23 (.tmp 2) rfl w.heap.size 0 _ rfl (Cells.of_holds hb1) _ Tryd.underlying23 rfl (size25i s) (iv s) rfl ?_)
    | (go_at_call 41; refine (PO _ m1).mono ?_; rintro e w4 ⟨A, c, rfl, hO, m4, hbl⟩))
  go_ret2
  exact ⟨A, c, rfl, hO, m1.then m4, fun i hi => Nat.le_trans m1.size (hbl i hi)⟩
/-- What a signature is made of. -/
structure XS where
  A : Option Addr
  c : Nat
  B : Option Addr
  d : Nat
set_option maxRecDepth 100000 in
set_option maxHeartbeats 4000000 in
theorem mayBe_yes (n : Nat) (hn : n < 8) (C : Option Addr) (cC : Nat) (P : Option Addr) (cP : Nat) (w : World) : Calls Tryd.prog 48 #[.agg (sgc (n : Int) C 67 cC P 3 cP).toArray] w fun r w' => r = .returned (.bool true) ∧ Mod [] w w' := by
  have LF := fun v => isLeaf_c (n : Int) v
  rw [lfOk_yes hn] at LF
  clear hn
  go_enter Tryd.func48, Tryd.ntmps48
  go_wp2_with (first
    | (with_reducible refine wpList_boxes (o := ⟨some 1, .box 50 (.tmp 0), _, _, _, _⟩) rfl 50 (.tmp 0) rfl _ rfl (sgc (n : Int) C 67 cC P 3 cP) rfl ?_; intro w1 hb1 m1 z1; replace z1 := Lib.hid z1
       have e0 := hb1.cell 0
       have e1 := hb1.cell 1
       have e2 := hb1.cell 2
       simp only [sgc, List.getElem?_cons_succ, List.getElem?_cons_zero] at e0 e1 e2)
    | (go_at_call 39; refine (LF _).mono ?_; rintro e w3 ⟨rfl, rfl⟩))
  go_ret
  exact ⟨rfl, m1⟩
theorem exec_eq25b {v : World} {o : Oper} {ρ : Operand → Value} {x y : Operand} {X Y : Idv} {b : Bool} (hb : b = decide (X = Y)) (ho : o.op = .binOp .eql 23 x y 23) (hx : ρ x = iv X) (hy : ρ y = iv Y) : (execOp ρ o).run Tryd.prog v = .ok (.value (.bool b)) v := by
  subst hb
  exact exec_eq25 ho hx hy
set_option maxRecDepth 100000 in
set_option maxHeartbeats 4000000 in
theorem Verify_yes (r m : Idv) (n : Nat) (hn : n < 8) (C : Option Addr) (cC : Nat) (P : Option Addr) (cP : Nat) (ch pt : List Idv) (hch : ch.length = 67) (hpt : pt.length = 3) (w : World) (Gl : Glob w) (RC : Cells w C (ch.flatMap ic)) (RP : Cells w P (pt.flatMap ic)) :
    Calls Tryd.prog 26 #[iv r, iv m, .agg (sgc (n : Int) C 67 cC P 3 cP).toArray] w fun e w' => e = .returned (.bool (decide (climbI (recI m ch) n pt = r))) ∧ Mod [] w w' := by
  obtain ⟨bb, hb0⟩ : ∃ b, b = decide (climbI (recI m ch) n pt = r) := ⟨_, rfl⟩
  rw [← hb0]
  obtain ⟨k, hk⟩ : ∃ k, k = recI m ch := ⟨_, rfl⟩
  rw [← hk] at hb0
  obtain ⟨d, hd⟩ : ∃ d, d = climbI k n pt := ⟨_, rfl⟩
  rw [← hd] at hb0
  have hbb := Lib.hid hb0
  have MB := fun v => mayBe_yes n hn C cC P cP v
  have RR := fun v (mv : Mod [] w v) => recover_c m ch C cC hch v (Gl.then mv) (RC.keep mv (by simp))
  rw [← hk] at RR
  have CL := fun v (mv : Mod [] w v) => climbed_c k n P pt 3 cP hpt.symm (by decide) v (Gl.then mv) (RP.keep mv (by simp))
  rw [← hd] at CL
  clear hb0 hk hd hn hch hpt Gl RC RP
  go_enter Tryd.func26, Tryd.ntmps26
  go_wp2_with (first
    | (with_reducible refine wpList_boxes (o := ⟨some 3, .box 23 (.tmp 0), _, _, _, _⟩) rfl 23 (.tmp 0) rfl _ rfl (ic r) rfl ?_; intro w1 hb1 m1 z1; replace z1 := Lib.hid z1)
    | (with_reducible refine wpList_boxes (o := ⟨some 4, .box 23 (.tmp 1), _, _, _, _⟩) rfl 23 (.tmp 1) rfl _ rfl (ic m) rfl ?_; intro w2 hb2 m2 z2; replace z2 := Lib.hid z2)
    | (with_reducible refine wpList_boxes (o := ⟨some 5, .box 50 (.tmp 2), _, _, _, _⟩) rfl 50 (.tmp 2) rfl _ rfl (sgc (n : Int) C 67 cC P 3 cP) rfl ?_; intro w3 hb3 m3 z3; replace z3 := Lib.hid z3
       obtain ⟨b3, hq3⟩ : ∃ q, q = w.heap.size := ⟨_, rfl⟩
       obtain ⟨b4, hq4⟩ : ∃ q, q = w1.heap.size := ⟨_, rfl⟩
       obtain ⟨b5, hq5⟩ : ∃ q, q = w2.heap.size := ⟨_, rfl⟩
       have k3 : Holds w3 b3 23 (ic r) := by rw [hq3]; exact (hb1.keep m2 (by simp)).keep m3 (by simp)
       have k4 : Holds w3 b4 23 (ic m) := by rw [hq4]; exact hb2.keep m3 (by simp)
       have k5 : Holds w3 b5 50 (sgc (n : Int) C 67 cC P 3 cP) := by rw [hq5]; exact hb3
       have mm := (m1.then m2).then m3
       rw [← hq3, ← hq4, ← hq5]
       clear hb1 m1 z1 hb2 m2 z2 hb3 m3 z3 hq3 hq4 hq5)
    | (with_reducible refine wpList_loads (o := ⟨some 9, .load 50 (.tmp 5), _, _, _, _⟩) rfl 50 (.tmp 5) rfl b5 0 _ rfl (Cells.of_holds k5) _ Tryd.underlying50 rfl (size50s _ _ _ _ _ _ _) (.agg (sgc (n : Int) C 67 cC P 3 cP).toArray) rfl ?_)
    | (go_at_call 48; refine (MB _).mono ?_
       rintro e w4 ⟨rfl, m4⟩
       replace k3 := k3.keep m4 (by simp)
       replace k4 := k4.keep m4 (by simp)
       replace k5 := k5.keep m4 (by simp)
       replace mm := mm.then m4
       have e1 := k5.cell 1
       simp only [sgc, List.getElem?_cons_succ, List.getElem?_cons_zero] at e1
       clear MB m4)
    | (with_reducible refine wpList_loads (o := ⟨some 13, .load 23 (.tmp 4), _, _, _, _⟩) rfl 23 (.tmp 4) rfl b4 0 _ rfl (Cells.of_holds k4) _ Tryd.underlying23 rfl (size25i m) (iv m) rfl ?_)
    | (go_at_call 49; refine (RR _ mm).mono ?_
       rintro e w5 ⟨rfl, m5⟩
       replace k3 := k3.keep m5 (by simp)
       replace k5 := k5.keep m5 (by simp)
       replace mm := mm.then m5
       clear RR m5 e1 k4)
    | (with_reducible refine wpList_allocs (o := ⟨some 7, .alloc 23, _, _, _, _⟩) rfl 23 rfl _ zeroI_25 ?_; intro y6 hy6 my6 zy6)
    | (with_reducible refine wpList_storesAll (o := ⟨none, .store 23 (.tmp 7) (.tmp 17), _, _, _, _⟩) rfl 23 (.tmp 7) (.tmp 17) rfl rfl w5.heap.size (ic k) rfl (iv k) rfl rfl 23 _ hy6 (by rw [ic_length, ic_length]) (ic_one k) (size25i k) ?_
       intro w6 hb6 m6 z6
       have mx : Mod [] w5 w6 := my6.trans m6 (by intro i hi h; simp at h; omega)
       replace k3 := k3.keep mx (by simp)
       replace k5 := k5.keep mx (by simp)
       replace mm := mm.then mx
       obtain ⟨b7, hq7⟩ : ∃ q, q = w5.heap.size := ⟨_, rfl⟩
       rw [← hq7] at hb6 ⊢
       clear hy6 my6 zy6 m6 z6 mx hq7))
  obtain ⟨wq, hwq⟩ : ∃ v, v = w6 := ⟨_, rfl⟩
  rw [← hwq] at k3 k5 hb6 mm ⊢
  clear hwq
  have hk3 := k3
  have hk5 := k5
  have hk7 := hb6
  refine wp_region_ups [(19, .int .i64 0), (20, .bool true), (21, .bool true), (22, iv k), (23, .pointer (some ⟨b5, 0, none⟩)), (24, .int .i64 (n : Int)), (25, .pointer (some ⟨b5, 2, none⟩)), (26, .slice P 3 cP), (27, iv d), (28, iv r), (29, .bool bb), (30, .bool bb), (6, .bool bb)] 31 [19, 20, 21, 22, 23, 24, 25, 26, 27, 28, 29, 30, 6] rfl rfl (by decide) (by kernel_rfl) (fun lz v => Mod [] wq.drew v) (by kernel_rfl) (Mod.refl _ _) (by kernel_rfl) (by kernel_rfl) ?step ?fin
  case step =>
    intro lz T v j o hj hlj hdep hst hpar hgot hcl Kq hK
    have mv : ∀ v, Mod [] wq.drew v → Mod [] wq v := fun v h => (Mod.drew [] wq).then h
    have hjn : j < 13 := (Array.getElem?_eq_some_iff.1 hj).1
    obtain rfl | rfl | rfl | rfl | rfl | rfl | rfl | rfl | rfl | rfl | rfl | rfl | rfl : j = 0 ∨ j = 1 ∨ j = 2 ∨ j = 3 ∨ j = 4 ∨ j = 5 ∨ j = 6 ∨ j = 7 ∨ j = 8 ∨ j = 9 ∨ j = 10 ∨ j = 11 ∨ j = 12 := by omega
    all_goals (have hj' := Option.some.inj (hj : some _ = some o); subst hj'; clear hj)
    · exact wp_ran rfl (exec_move rfl (eval_tmp ((hpar 8 rfl).trans rfl))) (hK _ _ (fun s hs => by cases hs; rfl) hst)
    · exact wp_ran rfl (exec_eqi (rfl) rfl (eval_tmp (hgot 0 _ 19 rfl (hdep ⟨0, .data⟩ (by simp) rfl) rfl)) rfl) (hK _ _ (fun s hs => by cases hs; rfl) hst)
    · exact wp_ran rfl (exec_move rfl (eval_tmp (hgot 1 _ 20 rfl (hdep ⟨1, .data⟩ (by simp) rfl) rfl))) (hK _ _ (fun s hs => by cases hs; rfl) hst)
    · exact wp_ranW (wanted_yes rfl rfl rfl (hgot 2 _ 21 rfl (hdep ⟨2, .guard⟩ (by simp) rfl) rfl)) (exec_load rfl (eval_tmp ((hpar 7 rfl).trans rfl)) (run_loads (Cells.of_holds (hk7.keep (mv v hst) (by simp))) Tryd.underlying23 rfl (size25i k))) (hK _ _ (fun s hs => by cases hs; rfl) hst)
    · exact wp_ranW (wanted_yes rfl rfl rfl (hgot 2 _ 21 rfl (hdep ⟨2, .guard⟩ (by simp) rfl) rfl)) (exec_fg0 rfl (eval_tmp ((hpar 5 rfl).trans rfl))) (hK _ _ (fun s hs => by cases hs; rfl) hst)
    · exact wp_ranW (wanted_yes rfl rfl rfl (hgot 2 _ 21 rfl (hdep ⟨2, .guard⟩ (by simp) rfl) rfl)) (exec_load rfl (eval_tmp (hgot 4 _ 23 rfl (hdep ⟨4, .data⟩ (by simp) rfl) rfl)) (run_load1 Tryd.underlying3 rfl (by simpa [sgc] using (hk5.keep (mv v hst) (by simp)).cell 0))) (hK _ _ (fun s hs => by cases hs; rfl) hst)
    · exact wp_ranW (wanted_yes rfl rfl rfl (hgot 2 _ 21 rfl (hdep ⟨2, .guard⟩ (by simp) rfl) rfl)) (exec_fg2 rfl (eval_tmp ((hpar 5 rfl).trans rfl))) (hK _ _ (fun s hs => by cases hs; rfl) hst)
    · exact wp_ranW (wanted_yes rfl rfl rfl (hgot 2 _ 21 rfl (hdep ⟨2, .guard⟩ (by simp) rfl) rfl)) (exec_load rfl (eval_tmp (hgot 6 _ 25 rfl (hdep ⟨6, .data⟩ (by simp) rfl) rfl)) (run_load1 Tryd.underlying33 rfl (by simpa [sgc] using (hk5.keep (mv v hst) (by simp)).cell 2))) (hK _ _ (fun s hs => by cases hs; rfl) hst)
    · exact wp_calledW (wanted_yes rfl rfl rfl (hgot 2 _ 21 rfl (hdep ⟨2, .guard⟩ (by simp) rfl) rfl)) (exec_call3 rfl rfl (eval_tmp (hgot 3 _ 22 rfl (hdep ⟨3, .data⟩ (by simp) rfl) rfl)) (eval_tmp (hgot 5 _ 24 rfl (hdep ⟨5, .data⟩ (by simp) rfl) rfl)) (eval_tmp (hgot 7 _ 26 rfl (hdep ⟨7, .data⟩ (by simp) rfl) rfl)) (enters_of Tryd.func44 (by kernel_rfl) rfl)) ((CL v (mm.then (mv v hst))).mono (fun e v' hh => ⟨_, hh.1, hK _ _ (fun s hs => by cases hs; rfl) (hst.then hh.2)⟩))
    · exact wp_ranW (wanted_yes rfl rfl rfl (hgot 2 _ 21 rfl (hdep ⟨2, .guard⟩ (by simp) rfl) rfl)) (exec_load rfl (eval_tmp ((hpar 3 rfl).trans rfl)) (run_loads (Cells.of_holds (hk3.keep (mv v hst) (by simp))) Tryd.underlying23 rfl (size25i r))) (hK _ _ (fun s hs => by cases hs; rfl) hst)
    · exact wp_ranW (wanted_yes rfl rfl rfl (hgot 2 _ 21 rfl (hdep ⟨2, .guard⟩ (by simp) rfl) rfl)) (exec_eq25b hbb.out rfl (eval_tmp (hgot 8 _ 27 rfl (hdep ⟨8, .data⟩ (by simp) rfl) rfl)) (eval_tmp (hgot 9 _ 28 rfl (hdep ⟨9, .data⟩ (by simp) rfl) rfl))) (hK _ _ (fun s hs => by cases hs; rfl) hst)
    · exact wp_ran rfl (exec_pick rfl (eval_tmp (hgot 2 _ 21 rfl (hdep ⟨2, .data⟩ (by simp) rfl) rfl)) (eval_tmp (hgot 10 _ 29 rfl (hdep ⟨10, .data⟩ (by simp) rfl) rfl)) rfl rfl) (hK _ _ (fun s hs => by cases hs; rfl) hst)
    · exact wp_ran rfl (exec_assign rfl (eval_tmp (hgot 11 _ 30 rfl (hdep ⟨11, .data⟩ (by simp) rfl) rfl))) (hK _ _ (fun s hs => by cases hs; rfl) hst)
  case fin =>
  intro lz vr hlz hst
  have mq := (Mod.drew [] wq).then hst
  replace mm := mm.then mq
  simp only [setAll, List.foldl_cons, List.foldl_nil, List.set_cons_succ, List.set_cons_zero]
  go_wp2_with fail
  go_ret
  exact ⟨rfl, mm⟩
end Go.Proofs.YtbacmeaeehhhfaaDoor
