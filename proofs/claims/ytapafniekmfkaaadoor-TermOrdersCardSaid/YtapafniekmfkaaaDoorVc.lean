/-
  TermOrders: Less where one may not be; the walks. My own work.
-/
import Derived.Test.YtapafniekmfkaaaDoorVb2
import Derived.Test.YtapafniekmfkaaaDoorTm2
namespace Go.Proofs.YtapafniekmfkaaaDoor
open Go.RowKit Go.Shelf
set_option linter.unusedVariables false
set_option linter.unusedSimpArgs false
theorem exec_eqbs {v : World} {o : Oper} {ρ : Operand → Value} {x y : Operand} {b : Bool} (ho : o.op = .binOp .eql 4 x y 4) (hx : ρ x = .bool b) (hy : ρ y = .bool b) : (execOp ρ o).run Tryd.prog v = .ok (.value (.bool true)) v := by
  unfold execOp
  cases b <;> simp [ho, hx, hy, go_sem]
theorem exec_nebs {v : World} {o : Oper} {ρ : Operand → Value} {x y : Operand} {b : Bool} (ho : o.op = .binOp .neq 4 x y 4) (hx : ρ x = .bool b) (hy : ρ y = .bool b) : (execOp ρ o).run Tryd.prog v = .ok (.value (.bool false)) v := by
  have h := exec_neb (v := v) (P := Tryd.prog) Tryd.underlying4 ho hx hy
  cases b <;> exact h
set_option maxRecDepth 1000000 in
set_option maxHeartbeats 4000000 in
theorem less_no1 (a b : Tm) (ca cb : List Value) (Sa Sb : Nat → Prop) (w : World) (hA : TIs w Sa a ca) (hB : TIs w Sb b cb) (G : Glob w) (ra : a.right = false) :
    Calls Tryd.prog 25 #[.agg ca.toArray, .agg cb.toArray] w fun e w' => e = .returned (.bool false) ∧ Mod [] w w' := by
  have hca := hA.len
  have hcb := hB.len
  have EA := fun v (mv : Mod [] w v) => encode_no a ca _ v (hA.keep mv (by simp)) (G.then mv) ra
  clear hA hB G ra
  go_enter Tryd.func25, Tryd.ntmps25
  go_wp2_with (first
    | (with_reducible refine wpList_boxes (o := ⟨some 2, .box 24 (.tmp 0), _, _, _, _⟩) rfl 24 (.tmp 0) rfl _ rfl ca rfl ?_; intro w1 hb1 m1 z1
       obtain ⟨b1, hq1⟩ : ∃ b, b = w.heap.size := ⟨_, rfl⟩
       rw [← hq1] at hb1 ⊢
       clear hq1 z1)
    | (with_reducible refine wpList_boxes (o := ⟨some 3, .box 24 (.tmp 1), _, _, _, _⟩) rfl 24 (.tmp 1) rfl _ rfl cb rfl ?_; intro w2 hb2 m2 z2
       obtain ⟨b2, hq2⟩ : ∃ b, b = w1.heap.size := ⟨_, rfl⟩
       rw [← hq2] at hb2 ⊢
       replace hb1 := hb1.keep m2 (by simp)
       have mm := m1.then m2
       clear hq2 z2 m1 m2)
    | (with_reducible refine wpList_loads (o := ⟨some 9, .load 24 (.tmp 2), _, _, _, _⟩) rfl 24 (.tmp 2) rfl b1 (0) (ca) rfl (Cells.of_holds hb1) _ Tryd.underlying24 rfl (size24' hca) (.agg (ca).toArray) rfl ?_)
    | (go_at_call 15; with_reducible refine Calls.mono (EA _ mm) ?_
       rintro e wz ⟨rfl, mz⟩
       replace hb1 := hb1.keep mz (by simp)
       replace hb2 := hb2.keep mz (by simp)
       replace mm := mm.then mz
       clear mz))
  go_ret
  exact ⟨rfl, mm⟩
set_option maxRecDepth 1000000 in
set_option maxHeartbeats 4000000 in
theorem less_no2 (a b : Tm) (ca cb : List Value) (Sa Sb : Nat → Prop) (w : World) (hA : TIs w Sa a ca) (hB : TIs w Sb b cb) (hSa : ∀ g, Sa g → g < w.heap.size) (G : Glob w) (ra : a.right = true) (rb : b.right = false) :
    Calls Tryd.prog 25 #[.agg ca.toArray, .agg cb.toArray] w fun e w' => e = .returned (.bool false) ∧ Mod [] w w' := by
  have hca := hA.len
  have hcb := hB.len
  have EA := fun v (mv : Mod [] w v) => encode_yes a ca _ v (hA.keep mv (by simp)) (fun g hg => Nat.lt_of_lt_of_le (hSa g hg) mv.size) (G.then mv) ra
  have EB := fun v (mv : Mod [] w v) => encode_no b cb _ v (hB.keep mv (by simp)) (G.then mv) rb
  clear hA hB G ra rb hSa
  go_enter Tryd.func25, Tryd.ntmps25
  go_wp2_with (first
    | (with_reducible refine wpList_boxes (o := ⟨some 2, .box 24 (.tmp 0), _, _, _, _⟩) rfl 24 (.tmp 0) rfl _ rfl ca rfl ?_; intro w1 hb1 m1 z1
       obtain ⟨b1, hq1⟩ : ∃ b, b = w.heap.size := ⟨_, rfl⟩
       rw [← hq1] at hb1 ⊢
       clear hq1 z1)
    | (with_reducible refine wpList_boxes (o := ⟨some 3, .box 24 (.tmp 1), _, _, _, _⟩) rfl 24 (.tmp 1) rfl _ rfl cb rfl ?_; intro w2 hb2 m2 z2
       obtain ⟨b2, hq2⟩ : ∃ b, b = w1.heap.size := ⟨_, rfl⟩
       rw [← hq2] at hb2 ⊢
       replace hb1 := hb1.keep m2 (by simp)
       have mm := m1.then m2
       clear hq2 z2 m1 m2)
    | (with_reducible refine wpList_loads (o := ⟨some 9, .load 24 (.tmp 2), _, _, _, _⟩) rfl 24 (.tmp 2) rfl b1 (0) (ca) rfl (Cells.of_holds hb1) _ Tryd.underlying24 rfl (size24' hca) (.agg (ca).toArray) rfl ?_)
    | (go_at_call 15; with_reducible refine Calls.mono (EA _ mm) ?_
       rintro e wz ⟨A1, c1, rfl, o1, mz, f1⟩
       replace hb1 := hb1.keep mz (by simp)
       replace hb2 := hb2.keep mz (by simp)
       replace mm := mm.then mz
       clear mz EA o1 f1)
    | (with_reducible refine wpList_loads (o := ⟨some 16, .load 24 (.tmp 3), _, _, _, _⟩) rfl 24 (.tmp 3) rfl b2 (0) (cb) rfl (Cells.of_holds hb2) _ Tryd.underlying24 rfl (size24' hcb) (.agg (cb).toArray) rfl ?_)
    | (go_at_call 15; with_reducible refine Calls.mono (EB _ mm) ?_
       rintro e wz ⟨rfl, mz⟩
       replace hb1 := hb1.keep mz (by simp)
       replace hb2 := hb2.keep mz (by simp)
       replace mm := mm.then mz
       clear mz))
  go_ret
  exact ⟨rfl, mm⟩
/-- What is made: the bytes of both. -/
structure XO where
  A : Option Addr
  c : Nat
  B : Option Addr
  d : Nat
set_option maxRecDepth 1000000 in
set_option maxHeartbeats 4000000 in
theorem ord_n1 (a b : Tm) (ca cb : List Value) (w : World) (hA : TIs w (Btw 0 w.heap.size) a ca) (hB : TIs w (Btw 0 w.heap.size) b cb) (G : Glob w) (ra : a.right = false) :
    Calls Tryd.prog 4 #[.agg ca.toArray, .agg cb.toArray] w fun e w' => e = .returned (.bool true) ∧ Mod [] w w' := by
  have hca := hA.len
  have hcb := hB.len
  have WK := fun v (mv : Mod [] w v) => wakes_c v (G.then mv)
  have OVA := fun v (mv : Mod [] w v) => over_c a ca w.heap.size v (hA.keep mv (by simp)) mv.size
  have OVB := fun v (mv : Mod [] w v) => over_c b cb w.heap.size v (hB.keep mv (by simp)) mv.size
  have SM := fun v (mv : Mod [] w v) => psame_all _ a b ca cb _ _ v (Nat.le_refl _) (hA.keep mv (by simp)) (hB.keep mv (by simp))
  have RM := fun v (mv : Mod [] w v) => rsame_all _ a b ca cb _ _ v (Nat.le_refl _) (hA.keep mv (by simp)) (hB.keep mv (by simp))
  have CP := fun v (mv : Mod [] w v) => rcopy_all _ a ca _ v (Nat.le_refl _) (hA.keep mv (by simp))
  have SC := fun (x : List Value) (S2 : Nat → Prop) v (mv : Mod [] w v) (h2 : TIs v S2 a x) => psame_all _ a a ca x _ S2 v (Nat.le_refl _) (hA.keep mv (by simp)) h2
  rw [(Tm.same_iff a a).2 rfl] at SC
  have RA := fun v (mv : Mod [] w v) => rright_c a ca _ v (hA.keep mv (by simp))
  rw [ra] at RA
  have LS := fun v (mv : Mod [] w v) => less_no1 a b ca cb _ _ v (hA.keep mv (by simp)) (hB.keep mv (by simp)) (G.then mv) ra
  obtain ⟨sm, hsm⟩ : ∃ sm, sm = Tm.same a b := ⟨_, rfl⟩
  rw [← hsm] at SM RM
  clear hsm hA hB G ra
  go_enter Tryd.func4, Tryd.ntmps4
  go_wp2_with (first
    | (with_reducible refine wpList_boxes (o := ⟨some 2, .box 24 (.tmp 0), _, _, _, _⟩) rfl 24 (.tmp 0) rfl _ rfl ca rfl ?_; intro w1 hb1 m1 z1
       obtain ⟨b1, hq1⟩ : ∃ b, b = w.heap.size := ⟨_, rfl⟩
       rw [← hq1] at hb1 ⊢
       clear hq1 z1)
    | (with_reducible refine wpList_boxes (o := ⟨some 3, .box 24 (.tmp 1), _, _, _, _⟩) rfl 24 (.tmp 1) rfl _ rfl cb rfl ?_; intro w2 hb2 m2 z2
       obtain ⟨b2, hq2⟩ : ∃ b, b = w1.heap.size := ⟨_, rfl⟩
       rw [← hq2] at hb2 ⊢
       replace hb1 := hb1.keep m2 (by simp)
       have mm := m1.then m2
       clear hq2 z2 m1 m2)
    | (go_at_call 13; with_reducible refine Calls.mono (WK _ mm) ?_
       rintro e wz ⟨rfl, mz⟩
       replace hb1 := hb1.keep mz (by simp)
       replace hb2 := hb2.keep mz (by simp)
       replace mm := mm.then mz
       clear mz)
    | (with_reducible refine wpList_loads (o := ⟨some 7, .load 24 (.tmp 2), _, _, _, _⟩) rfl 24 (.tmp 2) rfl b1 (0) (ca) rfl (Cells.of_holds hb1) _ Tryd.underlying24 rfl (size24' hca) (.agg (ca).toArray) rfl ?_))
  refine (OVA _ mm).mono ?_
  rintro e wz ⟨ov, rfl, mz⟩
  replace hb1 := hb1.keep mz (by simp)
  replace hb2 := hb2.keep mz (by simp)
  replace mm := mm.then mz
  clear OVA mz
  cases ov with
  | true =>
    go_wp2_with fail
    go_ret
    exact ⟨rfl, mm⟩
  | false =>
  go_wp2_with (first
    | (with_reducible refine wpList_loadsW (o := ⟨some 10, .load 24 (.tmp 3), _, _, _, _⟩) ?_ 24 (.tmp 3) rfl b2 0 (cb) rfl (Cells.of_holds hb2) _ Tryd.underlying24 rfl (size24' hcb) (.agg (cb).toArray) rfl ?_
       · exact wanted_yes rfl rfl rfl rfl))
  refine (OVB _ mm).mono ?_
  rintro e wz ⟨ov, rfl, mz⟩
  replace hb1 := hb1.keep mz (by simp)
  replace hb2 := hb2.keep mz (by simp)
  replace mm := mm.then mz
  clear OVB mz
  cases ov with
  | true =>
    go_wp2_with fail
    go_ret
    exact ⟨rfl, mm⟩
  | false =>
  go_wp2_with fail
  obtain ⟨wq, hwq⟩ : ∃ v, v = wz := ⟨_, rfl⟩
  rw [← hwq] at hb1 hb2 mm ⊢
  clear hwq
  refine wp_region_upxd (X := List Value) [] (fun x => [(13, .agg ca.toArray), (14, .agg cb.toArray), (15, .bool sm), (16, .agg ca.toArray), (17, .agg cb.toArray), (18, .bool sm), (19, .bool false), (20, .bool false), (21, .agg ca.toArray), (22, .agg ca.toArray), (23, .agg x.toArray), (24, .bool true), (25, .bool false), (26, .bool false)]) 48 [13, 14, 15, 16, 17, 18, 19, 20, 21, 22, 23, 24, 25, 26] rfl (fun _ => rfl) (by decide) (by kernel_rfl) (fun x lz v => Mod [] wq.drew v ∧ (lz 10 = true → ∃ S : Nat → Prop, TIs v S a x)) (by kernel_rfl) ⟨Mod.refl _ _, fun h => by cases h⟩ (by kernel_rfl) (by kernel_rfl) ?step ?fin
  case step =>
    intro x lz T v j o hj hlj hdep hst hpar hgot hcl hdf Kq hK
    have mv : ∀ v, Mod [] wq.drew v → Mod [] wq v := fun v h => (Mod.drew [] wq).then h
    have hjn : j < 14 := (Array.getElem?_eq_some_iff.1 hj).1
    obtain rfl | rfl | rfl | rfl | rfl | rfl | rfl | rfl | rfl | rfl | rfl | rfl | rfl | rfl : j = 0 ∨ j = 1 ∨ j = 2 ∨ j = 3 ∨ j = 4 ∨ j = 5 ∨ j = 6 ∨ j = 7 ∨ j = 8 ∨ j = 9 ∨ j = 10 ∨ j = 11 ∨ j = 12 ∨ j = 13 := by omega
    all_goals (have hj' := Option.some.inj (hj : some _ = some o); subst hj'; clear hj)
    · exact wp_ran rfl (exec_load rfl (eval_tmp ((hpar 2 rfl).trans rfl)) (run_loads (Cells.of_holds (hb1.keep (mv v hst.1) (by simp))) Tryd.underlying24 rfl (size24' hca))) (hK x _ _ (fun _ _ _ _ _ _ => rfl) (fun s hs => by cases hs; rfl) (by simpa using hst))
    · exact wp_ran rfl (exec_load rfl (eval_tmp ((hpar 3 rfl).trans rfl)) (run_loads (Cells.of_holds (hb2.keep (mv v hst.1) (by simp))) Tryd.underlying24 rfl (size24' hcb))) (hK x _ _ (fun _ _ _ _ _ _ => rfl) (fun s hs => by cases hs; rfl) (by simpa using hst))
    · refine wp_called rfl (exec_call2 rfl rfl (eval_tmp (hgot 0 _ 13 rfl (hdep ⟨0, .data⟩ (by simp) rfl) rfl)) (eval_tmp (hgot 1 _ 14 rfl (hdep ⟨1, .data⟩ (by simp) rfl) rfl)) (enters_of Tryd.func21 (by kernel_rfl) rfl)) ((SM v (mm.then (mv v hst.1))).mono ?_)
      rintro e v' ⟨rfl, m2⟩
      exact ⟨_, rfl, hK x _ _ (fun _ _ _ _ _ _ => rfl) (fun s hs => by cases hs; rfl) ⟨hst.1.then m2, fun h => by obtain ⟨S2, h2⟩ := hst.2 (by simpa using h); exact ⟨S2, h2.keep m2 (by simp)⟩⟩⟩
    · exact wp_ran rfl (exec_load rfl (eval_tmp ((hpar 2 rfl).trans rfl)) (run_loads (Cells.of_holds (hb1.keep (mv v hst.1) (by simp))) Tryd.underlying24 rfl (size24' hca))) (hK x _ _ (fun _ _ _ _ _ _ => rfl) (fun s hs => by cases hs; rfl) (by simpa using hst))
    · exact wp_ran rfl (exec_load rfl (eval_tmp ((hpar 3 rfl).trans rfl)) (run_loads (Cells.of_holds (hb2.keep (mv v hst.1) (by simp))) Tryd.underlying24 rfl (size24' hcb))) (hK x _ _ (fun _ _ _ _ _ _ => rfl) (fun s hs => by cases hs; rfl) (by simpa using hst))
    · refine wp_called rfl (exec_call2 rfl rfl (eval_tmp (hgot 3 _ 16 rfl (hdep ⟨3, .data⟩ (by simp) rfl) rfl)) (eval_tmp (hgot 4 _ 17 rfl (hdep ⟨4, .data⟩ (by simp) rfl) rfl)) (enters_of Tryd.func22 (by kernel_rfl) rfl)) ((RM v (mm.then (mv v hst.1))).mono ?_)
      rintro e v' ⟨rfl, m2⟩
      exact ⟨_, rfl, hK x _ _ (fun _ _ _ _ _ _ => rfl) (fun s hs => by cases hs; rfl) ⟨hst.1.then m2, fun h => by obtain ⟨S2, h2⟩ := hst.2 (by simpa using h); exact ⟨S2, h2.keep m2 (by simp)⟩⟩⟩
    · exact wp_ran rfl (exec_nebs rfl (eval_tmp (hgot 2 _ 15 rfl (hdep ⟨2, .data⟩ (by simp) rfl) rfl)) (eval_tmp (hgot 5 _ 18 rfl (hdep ⟨5, .data⟩ (by simp) rfl) rfl))) (hK x _ _ (fun _ _ _ _ _ _ => rfl) (fun s hs => by cases hs; rfl) (by simpa using hst))
    · exact wp_ran rfl (exec_move rfl (eval_tmp (hgot 6 _ 19 rfl (hdep ⟨6, .data⟩ (by simp) rfl) rfl))) (hK x _ _ (fun _ _ _ _ _ _ => rfl) (fun s hs => by cases hs; rfl) (by simpa using hst))
    · exact wp_ranW (wanted_yes rfl rfl rfl (hgot 7 _ 20 rfl (hdep ⟨7, .guard⟩ (by simp) rfl) rfl)) (exec_load rfl (eval_tmp ((hpar 2 rfl).trans rfl)) (run_loads (Cells.of_holds (hb1.keep (mv v hst.1) (by simp))) Tryd.underlying24 rfl (size24' hca))) (hK x _ _ (fun _ _ _ _ _ _ => rfl) (fun s hs => by cases hs; rfl) (by simpa using hst))
    · exact wp_ranW (wanted_yes rfl rfl rfl (hgot 7 _ 20 rfl (hdep ⟨7, .guard⟩ (by simp) rfl) rfl)) (exec_load rfl (eval_tmp ((hpar 2 rfl).trans rfl)) (run_loads (Cells.of_holds (hb1.keep (mv v hst.1) (by simp))) Tryd.underlying24 rfl (size24' hca))) (hK x _ _ (fun _ _ _ _ _ _ => rfl) (fun s hs => by cases hs; rfl) (by simpa using hst))
    · refine wp_calledW (wanted_yes rfl rfl rfl (hgot 7 _ 20 rfl (hdep ⟨7, .guard⟩ (by simp) rfl) rfl)) (exec_call1 rfl rfl (eval_tmp (hgot 9 _ 22 rfl (hdep ⟨9, .data⟩ (by simp) rfl) rfl)) (enters_of Tryd.func23 (by kernel_rfl) rfl)) ((CP v (mm.then (mv v hst.1))).mono ?_)
      rintro e v' ⟨c2, rfl, hT2, m2⟩
      exact ⟨_, rfl, hK c2 _ _ (fun j' o' s' g1 g2 g3 => by
          have g4 : j' < 14 := (Array.getElem?_eq_some_iff.1 g1).1
          clear hpar hgot hdep hcl hK
          obtain rfl | rfl | rfl | rfl | rfl | rfl | rfl | rfl | rfl | rfl | rfl | rfl | rfl | rfl : j' = 0 ∨ j' = 1 ∨ j' = 2 ∨ j' = 3 ∨ j' = 4 ∨ j' = 5 ∨ j' = 6 ∨ j' = 7 ∨ j' = 8 ∨ j' = 9 ∨ j' = 10 ∨ j' = 11 ∨ j' = 12 ∨ j' = 13 := by omega
          all_goals (cases g1; cases g3 <;> first | rfl | (rw [hlj] at g2; cases g2))) (fun s hs => by cases hs; rfl) ⟨hst.1.then m2, fun _ => ⟨_, hT2⟩⟩⟩
    · obtain ⟨S2, hT2⟩ := hst.2 (hdep ⟨10, .data⟩ (by simp) rfl)
      refine wp_calledW (wanted_yes rfl rfl rfl (hgot 7 _ 20 rfl (hdep ⟨7, .guard⟩ (by simp) rfl) rfl)) (exec_call2 rfl rfl (eval_tmp (hgot 8 _ 21 rfl (hdep ⟨8, .data⟩ (by simp) rfl) rfl)) (eval_tmp (hgot 10 _ 23 rfl (hdep ⟨10, .data⟩ (by simp) rfl) rfl)) (enters_of Tryd.func21 (by kernel_rfl) rfl)) ((SC x S2 v (mm.then (mv v hst.1)) hT2).mono ?_)
      rintro e v' ⟨rfl, m2⟩
      exact ⟨_, rfl, hK x _ _ (fun _ _ _ _ _ _ => rfl) (fun s hs => by cases hs; rfl) ⟨hst.1.then m2, fun h => ⟨S2, hT2.keep m2 (by simp)⟩⟩⟩
    · exact wp_ranW (wanted_yes rfl rfl rfl (hgot 7 _ 20 rfl (hdep ⟨7, .guard⟩ (by simp) rfl) rfl)) (exec_not rfl (eval_tmp (hgot 11 _ 24 rfl (hdep ⟨11, .data⟩ (by simp) rfl) rfl))) (hK x _ _ (fun _ _ _ _ _ _ => rfl) (fun s hs => by cases hs; rfl) (by simpa using hst))
    · exact wp_ran rfl (exec_pick rfl (eval_tmp (hgot 7 _ 20 rfl (hdep ⟨7, .data⟩ (by simp) rfl) rfl)) rfl (eval_tmp (hgot 12 _ 25 rfl (hdep ⟨12, .data⟩ (by simp) rfl) rfl)) rfl) (hK x _ _ (fun _ _ _ _ _ _ => rfl) (fun s hs => by cases hs; rfl) (by simpa using hst))
  case fin =>
  intro x lz vr hlz hst
  have mq := (Mod.drew [] wq).then hst.1
  replace hb1 := hb1.keep mq (by simp)
  replace hb2 := hb2.keep mq (by simp)
  replace mm := mm.then mq
  clear hst hlz mq
  simp only [setAll, List.foldl_cons, List.foldl_nil, List.set_cons_succ, List.set_cons_zero]
  obtain ⟨wq, hwq⟩ : ∃ v, v = vr := ⟨_, rfl⟩
  rw [← hwq] at hb1 hb2 mm ⊢
  clear hwq
  go_wp2_with (first
    | (with_reducible refine wpList_loads (o := ⟨some 27, .load 24 (.tmp 2), _, _, _, _⟩) rfl 24 (.tmp 2) rfl b1 (0) (ca) rfl (Cells.of_holds hb1) _ Tryd.underlying24 rfl (size24' hca) (.agg (ca).toArray) rfl ?_)
    | (go_at_call 24; with_reducible refine Calls.mono (RA _ mm) ?_
       rintro e wz ⟨rfl, mz⟩
       replace hb1 := hb1.keep mz (by simp)
       replace hb2 := hb2.keep mz (by simp)
       replace mm := mm.then mz
       clear mz)
    | (with_reducible refine wpList_loads (o := ⟨some 35, .load 24 (.tmp 2), _, _, _, _⟩) rfl 24 (.tmp 2) rfl b1 (0) (ca) rfl (Cells.of_holds hb1) _ Tryd.underlying24 rfl (size24' hca) (.agg (ca).toArray) rfl ?_)
    | (with_reducible refine wpList_loads (o := ⟨some 36, .load 24 (.tmp 3), _, _, _, _⟩) rfl 24 (.tmp 3) rfl b2 (0) (cb) rfl (Cells.of_holds hb2) _ Tryd.underlying24 rfl (size24' hcb) (.agg (cb).toArray) rfl ?_)
    | (go_at_call 25; with_reducible refine Calls.mono (LS _ mm) ?_
       rintro e wz ⟨rfl, mz⟩
       replace hb1 := hb1.keep mz (by simp)
       replace hb2 := hb2.keep mz (by simp)
       replace mm := mm.then mz
       clear mz))
  go_ret
  exact ⟨rfl, mm⟩
set_option maxRecDepth 1000000 in
set_option maxHeartbeats 4000000 in
theorem ord_n2 (a b : Tm) (ca cb : List Value) (w : World) (hA : TIs w (Btw 0 w.heap.size) a ca) (hB : TIs w (Btw 0 w.heap.size) b cb) (G : Glob w) (ra : a.right = true) (rb : b.right = false) :
    Calls Tryd.prog 4 #[.agg ca.toArray, .agg cb.toArray] w fun e w' => e = .returned (.bool true) ∧ Mod [] w w' := by
  have hca := hA.len
  have hcb := hB.len
  have WK := fun v (mv : Mod [] w v) => wakes_c v (G.then mv)
  have OVA := fun v (mv : Mod [] w v) => over_c a ca w.heap.size v (hA.keep mv (by simp)) mv.size
  have OVB := fun v (mv : Mod [] w v) => over_c b cb w.heap.size v (hB.keep mv (by simp)) mv.size
  have SM := fun v (mv : Mod [] w v) => psame_all _ a b ca cb _ _ v (Nat.le_refl _) (hA.keep mv (by simp)) (hB.keep mv (by simp))
  have RM := fun v (mv : Mod [] w v) => rsame_all _ a b ca cb _ _ v (Nat.le_refl _) (hA.keep mv (by simp)) (hB.keep mv (by simp))
  have CP := fun v (mv : Mod [] w v) => rcopy_all _ a ca _ v (Nat.le_refl _) (hA.keep mv (by simp))
  have SC := fun (x : List Value) (S2 : Nat → Prop) v (mv : Mod [] w v) (h2 : TIs v S2 a x) => psame_all _ a a ca x _ S2 v (Nat.le_refl _) (hA.keep mv (by simp)) h2
  rw [(Tm.same_iff a a).2 rfl] at SC
  have RA := fun v (mv : Mod [] w v) => rright_c a ca _ v (hA.keep mv (by simp))
  rw [ra] at RA
  have RB := fun v (mv : Mod [] w v) => rright_c b cb _ v (hB.keep mv (by simp))
  rw [rb] at RB
  have LS := fun v (mv : Mod [] w v) => less_no2 a b ca cb _ _ v (hA.keep mv (by simp)) (hB.keep mv (by simp)) (fun g hg => Nat.lt_of_lt_of_le hg.2 mv.size) (G.then mv) ra rb
  obtain ⟨sm, hsm⟩ : ∃ sm, sm = Tm.same a b := ⟨_, rfl⟩
  rw [← hsm] at SM RM
  clear hsm hA hB G ra rb
  go_enter Tryd.func4, Tryd.ntmps4
  go_wp2_with (first
    | (with_reducible refine wpList_boxes (o := ⟨some 2, .box 24 (.tmp 0), _, _, _, _⟩) rfl 24 (.tmp 0) rfl _ rfl ca rfl ?_; intro w1 hb1 m1 z1
       obtain ⟨b1, hq1⟩ : ∃ b, b = w.heap.size := ⟨_, rfl⟩
       rw [← hq1] at hb1 ⊢
       clear hq1 z1)
    | (with_reducible refine wpList_boxes (o := ⟨some 3, .box 24 (.tmp 1), _, _, _, _⟩) rfl 24 (.tmp 1) rfl _ rfl cb rfl ?_; intro w2 hb2 m2 z2
       obtain ⟨b2, hq2⟩ : ∃ b, b = w1.heap.size := ⟨_, rfl⟩
       rw [← hq2] at hb2 ⊢
       replace hb1 := hb1.keep m2 (by simp)
       have mm := m1.then m2
       clear hq2 z2 m1 m2)
    | (go_at_call 13; with_reducible refine Calls.mono (WK _ mm) ?_
       rintro e wz ⟨rfl, mz⟩
       replace hb1 := hb1.keep mz (by simp)
       replace hb2 := hb2.keep mz (by simp)
       replace mm := mm.then mz
       clear mz)
    | (with_reducible refine wpList_loads (o := ⟨some 7, .load 24 (.tmp 2), _, _, _, _⟩) rfl 24 (.tmp 2) rfl b1 (0) (ca) rfl (Cells.of_holds hb1) _ Tryd.underlying24 rfl (size24' hca) (.agg (ca).toArray) rfl ?_))
  refine (OVA _ mm).mono ?_
  rintro e wz ⟨ov, rfl, mz⟩
  replace hb1 := hb1.keep mz (by simp)
  replace hb2 := hb2.keep mz (by simp)
  replace mm := mm.then mz
  clear OVA mz
  cases ov with
  | true =>
    go_wp2_with fail
    go_ret
    exact ⟨rfl, mm⟩
  | false =>
  go_wp2_with (first
    | (with_reducible refine wpList_loadsW (o := ⟨some 10, .load 24 (.tmp 3), _, _, _, _⟩) ?_ 24 (.tmp 3) rfl b2 0 (cb) rfl (Cells.of_holds hb2) _ Tryd.underlying24 rfl (size24' hcb) (.agg (cb).toArray) rfl ?_
       · exact wanted_yes rfl rfl rfl rfl))
  refine (OVB _ mm).mono ?_
  rintro e wz ⟨ov, rfl, mz⟩
  replace hb1 := hb1.keep mz (by simp)
  replace hb2 := hb2.keep mz (by simp)
  replace mm := mm.then mz
  clear OVB mz
  cases ov with
  | true =>
    go_wp2_with fail
    go_ret
    exact ⟨rfl, mm⟩
  | false =>
  go_wp2_with fail
  obtain ⟨wq, hwq⟩ : ∃ v, v = wz := ⟨_, rfl⟩
  rw [← hwq] at hb1 hb2 mm ⊢
  clear hwq
  refine wp_region_upxd (X := List Value) [] (fun x => [(13, .agg ca.toArray), (14, .agg cb.toArray), (15, .bool sm), (16, .agg ca.toArray), (17, .agg cb.toArray), (18, .bool sm), (19, .bool false), (20, .bool false), (21, .agg ca.toArray), (22, .agg ca.toArray), (23, .agg x.toArray), (24, .bool true), (25, .bool false), (26, .bool false)]) 48 [13, 14, 15, 16, 17, 18, 19, 20, 21, 22, 23, 24, 25, 26] rfl (fun _ => rfl) (by decide) (by kernel_rfl) (fun x lz v => Mod [] wq.drew v ∧ (lz 10 = true → ∃ S : Nat → Prop, TIs v S a x)) (by kernel_rfl) ⟨Mod.refl _ _, fun h => by cases h⟩ (by kernel_rfl) (by kernel_rfl) ?step ?fin
  case step =>
    intro x lz T v j o hj hlj hdep hst hpar hgot hcl hdf Kq hK
    have mv : ∀ v, Mod [] wq.drew v → Mod [] wq v := fun v h => (Mod.drew [] wq).then h
    have hjn : j < 14 := (Array.getElem?_eq_some_iff.1 hj).1
    obtain rfl | rfl | rfl | rfl | rfl | rfl | rfl | rfl | rfl | rfl | rfl | rfl | rfl | rfl : j = 0 ∨ j = 1 ∨ j = 2 ∨ j = 3 ∨ j = 4 ∨ j = 5 ∨ j = 6 ∨ j = 7 ∨ j = 8 ∨ j = 9 ∨ j = 10 ∨ j = 11 ∨ j = 12 ∨ j = 13 := by omega
    all_goals (have hj' := Option.some.inj (hj : some _ = some o); subst hj'; clear hj)
    · exact wp_ran rfl (exec_load rfl (eval_tmp ((hpar 2 rfl).trans rfl)) (run_loads (Cells.of_holds (hb1.keep (mv v hst.1) (by simp))) Tryd.underlying24 rfl (size24' hca))) (hK x _ _ (fun _ _ _ _ _ _ => rfl) (fun s hs => by cases hs; rfl) (by simpa using hst))
    · exact wp_ran rfl (exec_load rfl (eval_tmp ((hpar 3 rfl).trans rfl)) (run_loads (Cells.of_holds (hb2.keep (mv v hst.1) (by simp))) Tryd.underlying24 rfl (size24' hcb))) (hK x _ _ (fun _ _ _ _ _ _ => rfl) (fun s hs => by cases hs; rfl) (by simpa using hst))
    · refine wp_called rfl (exec_call2 rfl rfl (eval_tmp (hgot 0 _ 13 rfl (hdep ⟨0, .data⟩ (by simp) rfl) rfl)) (eval_tmp (hgot 1 _ 14 rfl (hdep ⟨1, .data⟩ (by simp) rfl) rfl)) (enters_of Tryd.func21 (by kernel_rfl) rfl)) ((SM v (mm.then (mv v hst.1))).mono ?_)
      rintro e v' ⟨rfl, m2⟩
      exact ⟨_, rfl, hK x _ _ (fun _ _ _ _ _ _ => rfl) (fun s hs => by cases hs; rfl) ⟨hst.1.then m2, fun h => by obtain ⟨S2, h2⟩ := hst.2 (by simpa using h); exact ⟨S2, h2.keep m2 (by simp)⟩⟩⟩
    · exact wp_ran rfl (exec_load rfl (eval_tmp ((hpar 2 rfl).trans rfl)) (run_loads (Cells.of_holds (hb1.keep (mv v hst.1) (by simp))) Tryd.underlying24 rfl (size24' hca))) (hK x _ _ (fun _ _ _ _ _ _ => rfl) (fun s hs => by cases hs; rfl) (by simpa using hst))
    · exact wp_ran rfl (exec_load rfl (eval_tmp ((hpar 3 rfl).trans rfl)) (run_loads (Cells.of_holds (hb2.keep (mv v hst.1) (by simp))) Tryd.underlying24 rfl (size24' hcb))) (hK x _ _ (fun _ _ _ _ _ _ => rfl) (fun s hs => by cases hs; rfl) (by simpa using hst))
    · refine wp_called rfl (exec_call2 rfl rfl (eval_tmp (hgot 3 _ 16 rfl (hdep ⟨3, .data⟩ (by simp) rfl) rfl)) (eval_tmp (hgot 4 _ 17 rfl (hdep ⟨4, .data⟩ (by simp) rfl) rfl)) (enters_of Tryd.func22 (by kernel_rfl) rfl)) ((RM v (mm.then (mv v hst.1))).mono ?_)
      rintro e v' ⟨rfl, m2⟩
      exact ⟨_, rfl, hK x _ _ (fun _ _ _ _ _ _ => rfl) (fun s hs => by cases hs; rfl) ⟨hst.1.then m2, fun h => by obtain ⟨S2, h2⟩ := hst.2 (by simpa using h); exact ⟨S2, h2.keep m2 (by simp)⟩⟩⟩
    · exact wp_ran rfl (exec_nebs rfl (eval_tmp (hgot 2 _ 15 rfl (hdep ⟨2, .data⟩ (by simp) rfl) rfl)) (eval_tmp (hgot 5 _ 18 rfl (hdep ⟨5, .data⟩ (by simp) rfl) rfl))) (hK x _ _ (fun _ _ _ _ _ _ => rfl) (fun s hs => by cases hs; rfl) (by simpa using hst))
    · exact wp_ran rfl (exec_move rfl (eval_tmp (hgot 6 _ 19 rfl (hdep ⟨6, .data⟩ (by simp) rfl) rfl))) (hK x _ _ (fun _ _ _ _ _ _ => rfl) (fun s hs => by cases hs; rfl) (by simpa using hst))
    · exact wp_ranW (wanted_yes rfl rfl rfl (hgot 7 _ 20 rfl (hdep ⟨7, .guard⟩ (by simp) rfl) rfl)) (exec_load rfl (eval_tmp ((hpar 2 rfl).trans rfl)) (run_loads (Cells.of_holds (hb1.keep (mv v hst.1) (by simp))) Tryd.underlying24 rfl (size24' hca))) (hK x _ _ (fun _ _ _ _ _ _ => rfl) (fun s hs => by cases hs; rfl) (by simpa using hst))
    · exact wp_ranW (wanted_yes rfl rfl rfl (hgot 7 _ 20 rfl (hdep ⟨7, .guard⟩ (by simp) rfl) rfl)) (exec_load rfl (eval_tmp ((hpar 2 rfl).trans rfl)) (run_loads (Cells.of_holds (hb1.keep (mv v hst.1) (by simp))) Tryd.underlying24 rfl (size24' hca))) (hK x _ _ (fun _ _ _ _ _ _ => rfl) (fun s hs => by cases hs; rfl) (by simpa using hst))
    · refine wp_calledW (wanted_yes rfl rfl rfl (hgot 7 _ 20 rfl (hdep ⟨7, .guard⟩ (by simp) rfl) rfl)) (exec_call1 rfl rfl (eval_tmp (hgot 9 _ 22 rfl (hdep ⟨9, .data⟩ (by simp) rfl) rfl)) (enters_of Tryd.func23 (by kernel_rfl) rfl)) ((CP v (mm.then (mv v hst.1))).mono ?_)
      rintro e v' ⟨c2, rfl, hT2, m2⟩
      exact ⟨_, rfl, hK c2 _ _ (fun j' o' s' g1 g2 g3 => by
          have g4 : j' < 14 := (Array.getElem?_eq_some_iff.1 g1).1
          clear hpar hgot hdep hcl hK
          obtain rfl | rfl | rfl | rfl | rfl | rfl | rfl | rfl | rfl | rfl | rfl | rfl | rfl | rfl : j' = 0 ∨ j' = 1 ∨ j' = 2 ∨ j' = 3 ∨ j' = 4 ∨ j' = 5 ∨ j' = 6 ∨ j' = 7 ∨ j' = 8 ∨ j' = 9 ∨ j' = 10 ∨ j' = 11 ∨ j' = 12 ∨ j' = 13 := by omega
          all_goals (cases g1; cases g3 <;> first | rfl | (rw [hlj] at g2; cases g2))) (fun s hs => by cases hs; rfl) ⟨hst.1.then m2, fun _ => ⟨_, hT2⟩⟩⟩
    · obtain ⟨S2, hT2⟩ := hst.2 (hdep ⟨10, .data⟩ (by simp) rfl)
      refine wp_calledW (wanted_yes rfl rfl rfl (hgot 7 _ 20 rfl (hdep ⟨7, .guard⟩ (by simp) rfl) rfl)) (exec_call2 rfl rfl (eval_tmp (hgot 8 _ 21 rfl (hdep ⟨8, .data⟩ (by simp) rfl) rfl)) (eval_tmp (hgot 10 _ 23 rfl (hdep ⟨10, .data⟩ (by simp) rfl) rfl)) (enters_of Tryd.func21 (by kernel_rfl) rfl)) ((SC x S2 v (mm.then (mv v hst.1)) hT2).mono ?_)
      rintro e v' ⟨rfl, m2⟩
      exact ⟨_, rfl, hK x _ _ (fun _ _ _ _ _ _ => rfl) (fun s hs => by cases hs; rfl) ⟨hst.1.then m2, fun h => ⟨S2, hT2.keep m2 (by simp)⟩⟩⟩
    · exact wp_ranW (wanted_yes rfl rfl rfl (hgot 7 _ 20 rfl (hdep ⟨7, .guard⟩ (by simp) rfl) rfl)) (exec_not rfl (eval_tmp (hgot 11 _ 24 rfl (hdep ⟨11, .data⟩ (by simp) rfl) rfl))) (hK x _ _ (fun _ _ _ _ _ _ => rfl) (fun s hs => by cases hs; rfl) (by simpa using hst))
    · exact wp_ran rfl (exec_pick rfl (eval_tmp (hgot 7 _ 20 rfl (hdep ⟨7, .data⟩ (by simp) rfl) rfl)) rfl (eval_tmp (hgot 12 _ 25 rfl (hdep ⟨12, .data⟩ (by simp) rfl) rfl)) rfl) (hK x _ _ (fun _ _ _ _ _ _ => rfl) (fun s hs => by cases hs; rfl) (by simpa using hst))
  case fin =>
  intro x lz vr hlz hst
  have mq := (Mod.drew [] wq).then hst.1
  replace hb1 := hb1.keep mq (by simp)
  replace hb2 := hb2.keep mq (by simp)
  replace mm := mm.then mq
  clear hst hlz mq
  simp only [setAll, List.foldl_cons, List.foldl_nil, List.set_cons_succ, List.set_cons_zero]
  obtain ⟨wq, hwq⟩ : ∃ v, v = vr := ⟨_, rfl⟩
  rw [← hwq] at hb1 hb2 mm ⊢
  clear hwq
  go_wp2_with (first
    | (with_reducible refine wpList_loads (o := ⟨some 27, .load 24 (.tmp 2), _, _, _, _⟩) rfl 24 (.tmp 2) rfl b1 (0) (ca) rfl (Cells.of_holds hb1) _ Tryd.underlying24 rfl (size24' hca) (.agg (ca).toArray) rfl ?_)
    | (go_at_call 24; with_reducible refine Calls.mono (RA _ mm) ?_
       rintro e wz ⟨rfl, mz⟩
       replace hb1 := hb1.keep mz (by simp)
       replace hb2 := hb2.keep mz (by simp)
       replace mm := mm.then mz
       clear mz)
    | (with_reducible refine wpList_loadsW (o := ⟨some 31, .load 24 (.tmp 3), _, _, _, _⟩) ?_ 24 (.tmp 3) rfl b2 0 (cb) rfl (Cells.of_holds hb2) _ Tryd.underlying24 rfl (size24' hcb) (.agg (cb).toArray) rfl ?_
       · exact wanted_yes rfl rfl rfl rfl)
    | (go_at_call 24; with_reducible refine Calls.mono (RB _ mm) ?_
       rintro e wz ⟨rfl, mz⟩
       replace hb1 := hb1.keep mz (by simp)
       replace hb2 := hb2.keep mz (by simp)
       replace mm := mm.then mz
       clear mz)
    | (with_reducible refine wpList_loads (o := ⟨some 35, .load 24 (.tmp 2), _, _, _, _⟩) rfl 24 (.tmp 2) rfl b1 (0) (ca) rfl (Cells.of_holds hb1) _ Tryd.underlying24 rfl (size24' hca) (.agg (ca).toArray) rfl ?_)
    | (with_reducible refine wpList_loads (o := ⟨some 36, .load 24 (.tmp 3), _, _, _, _⟩) rfl 24 (.tmp 3) rfl b2 (0) (cb) rfl (Cells.of_holds hb2) _ Tryd.underlying24 rfl (size24' hcb) (.agg (cb).toArray) rfl ?_)
    | (go_at_call 25; with_reducible refine Calls.mono (LS _ mm) ?_
       rintro e wz ⟨rfl, mz⟩
       replace hb1 := hb1.keep mz (by simp)
       replace hb2 := hb2.keep mz (by simp)
       replace mm := mm.then mz
       clear mz))
  go_ret
  exact ⟨rfl, mm⟩
set_option maxRecDepth 1000000 in
set_option maxHeartbeats 4000000 in
theorem ord_yy (a b : Tm) (ca cb : List Value) (w : World) (hA : TIs w (Btw 0 w.heap.size) a ca) (hB : TIs w (Btw 0 w.heap.size) b cb) (G : Glob w) (ra : a.right = true) (rb : b.right = true) :
    Calls Tryd.prog 4 #[.agg ca.toArray, .agg cb.toArray] w fun e w' => e = .returned (.bool true) ∧ Mod [] w w' := by
  have hca := hA.len
  have hcb := hB.len
  have WK := fun v (mv : Mod [] w v) => wakes_c v (G.then mv)
  have OVA := fun v (mv : Mod [] w v) => over_c a ca w.heap.size v (hA.keep mv (by simp)) mv.size
  have OVB := fun v (mv : Mod [] w v) => over_c b cb w.heap.size v (hB.keep mv (by simp)) mv.size
  have SM := fun v (mv : Mod [] w v) => psame_all _ a b ca cb _ _ v (Nat.le_refl _) (hA.keep mv (by simp)) (hB.keep mv (by simp))
  have RM := fun v (mv : Mod [] w v) => rsame_all _ a b ca cb _ _ v (Nat.le_refl _) (hA.keep mv (by simp)) (hB.keep mv (by simp))
  have CP := fun v (mv : Mod [] w v) => rcopy_all _ a ca _ v (Nat.le_refl _) (hA.keep mv (by simp))
  have SC := fun (x : List Value) (S2 : Nat → Prop) v (mv : Mod [] w v) (h2 : TIs v S2 a x) => psame_all _ a a ca x _ S2 v (Nat.le_refl _) (hA.keep mv (by simp)) h2
  rw [(Tm.same_iff a a).2 rfl] at SC
  have RA := fun v (mv : Mod [] w v) => rright_c a ca _ v (hA.keep mv (by simp))
  rw [ra] at RA
  have RB := fun v (mv : Mod [] w v) => rright_c b cb _ v (hB.keep mv (by simp))
  rw [rb] at RB
  have LS := fun v (mv : Mod [] w v) => less_yes a b ca cb _ _ v (hA.keep mv (by simp)) (hB.keep mv (by simp)) (fun g hg => Nat.lt_of_lt_of_le hg.2 mv.size) (fun g hg => Nat.lt_of_lt_of_le hg.2 mv.size) (G.then mv) ra rb
  obtain ⟨oka, bla⟩ := right_bytes ra
  obtain ⟨okb, blb⟩ := right_bytes rb
  have BA := fun v (mv : Mod [] w v) => rbytes_all _ a ca _ v (Nat.le_refl _) oka bla (hA.keep mv (by simp))
  have BB := fun v (mv : Mod [] w v) => rbytes_all _ b cb _ v (Nat.le_refl _) okb blb (hB.keep mv (by simp))
  obtain ⟨na, hna⟩ : ∃ nb, nb = a.bytes.length := ⟨_, rfl⟩
  obtain ⟨nb, hnb⟩ : ∃ nb, nb = b.bytes.length := ⟨_, rfl⟩
  have RL := fun A B c d v (h : Reads v A a.bytes) (h' : Reads v B b.bytes) => rless_c A B a.bytes b.bytes na nb c d v hna hnb (by unfold maxLen; omega) (by unfold maxLen; omega) h h'
  obtain ⟨L, hL⟩ : ∃ L, L = Tm.lessB a.bytes b.bytes := ⟨_, rfl⟩
  rw [← hL] at LS RL
  rw [← hna] at BA
  rw [← hnb] at BB
  clear oka bla okb blb hna hnb hL
  obtain ⟨sm, hsm⟩ : ∃ sm, sm = Tm.same a b := ⟨_, rfl⟩
  rw [← hsm] at SM RM
  clear hsm hA hB G ra rb
  go_enter Tryd.func4, Tryd.ntmps4
  go_wp2_with (first
    | (with_reducible refine wpList_boxes (o := ⟨some 2, .box 24 (.tmp 0), _, _, _, _⟩) rfl 24 (.tmp 0) rfl _ rfl ca rfl ?_; intro w1 hb1 m1 z1
       obtain ⟨b1, hq1⟩ : ∃ b, b = w.heap.size := ⟨_, rfl⟩
       rw [← hq1] at hb1 ⊢
       clear hq1 z1)
    | (with_reducible refine wpList_boxes (o := ⟨some 3, .box 24 (.tmp 1), _, _, _, _⟩) rfl 24 (.tmp 1) rfl _ rfl cb rfl ?_; intro w2 hb2 m2 z2
       obtain ⟨b2, hq2⟩ : ∃ b, b = w1.heap.size := ⟨_, rfl⟩
       rw [← hq2] at hb2 ⊢
       replace hb1 := hb1.keep m2 (by simp)
       have mm := m1.then m2
       clear hq2 z2 m1 m2)
    | (go_at_call 13; with_reducible refine Calls.mono (WK _ mm) ?_
       rintro e wz ⟨rfl, mz⟩
       replace hb1 := hb1.keep mz (by simp)
       replace hb2 := hb2.keep mz (by simp)
       replace mm := mm.then mz
       clear mz)
    | (with_reducible refine wpList_loads (o := ⟨some 7, .load 24 (.tmp 2), _, _, _, _⟩) rfl 24 (.tmp 2) rfl b1 (0) (ca) rfl (Cells.of_holds hb1) _ Tryd.underlying24 rfl (size24' hca) (.agg (ca).toArray) rfl ?_))
  refine (OVA _ mm).mono ?_
  rintro e wz ⟨ov, rfl, mz⟩
  replace hb1 := hb1.keep mz (by simp)
  replace hb2 := hb2.keep mz (by simp)
  replace mm := mm.then mz
  clear OVA mz
  cases ov with
  | true =>
    go_wp2_with fail
    go_ret
    exact ⟨rfl, mm⟩
  | false =>
  go_wp2_with (first
    | (with_reducible refine wpList_loadsW (o := ⟨some 10, .load 24 (.tmp 3), _, _, _, _⟩) ?_ 24 (.tmp 3) rfl b2 0 (cb) rfl (Cells.of_holds hb2) _ Tryd.underlying24 rfl (size24' hcb) (.agg (cb).toArray) rfl ?_
       · exact wanted_yes rfl rfl rfl rfl))
  refine (OVB _ mm).mono ?_
  rintro e wz ⟨ov, rfl, mz⟩
  replace hb1 := hb1.keep mz (by simp)
  replace hb2 := hb2.keep mz (by simp)
  replace mm := mm.then mz
  clear OVB mz
  cases ov with
  | true =>
    go_wp2_with fail
    go_ret
    exact ⟨rfl, mm⟩
  | false =>
  go_wp2_with fail
  obtain ⟨wq, hwq⟩ : ∃ v, v = wz := ⟨_, rfl⟩
  rw [← hwq] at hb1 hb2 mm ⊢
  clear hwq
  refine wp_region_upxd (X := List Value) [] (fun x => [(13, .agg ca.toArray), (14, .agg cb.toArray), (15, .bool sm), (16, .agg ca.toArray), (17, .agg cb.toArray), (18, .bool sm), (19, .bool false), (20, .bool false), (21, .agg ca.toArray), (22, .agg ca.toArray), (23, .agg x.toArray), (24, .bool true), (25, .bool false), (26, .bool false)]) 48 [13, 14, 15, 16, 17, 18, 19, 20, 21, 22, 23, 24, 25, 26] rfl (fun _ => rfl) (by decide) (by kernel_rfl) (fun x lz v => Mod [] wq.drew v ∧ (lz 10 = true → ∃ S : Nat → Prop, TIs v S a x)) (by kernel_rfl) ⟨Mod.refl _ _, fun h => by cases h⟩ (by kernel_rfl) (by kernel_rfl) ?step ?fin
  case step =>
    intro x lz T v j o hj hlj hdep hst hpar hgot hcl hdf Kq hK
    have mv : ∀ v, Mod [] wq.drew v → Mod [] wq v := fun v h => (Mod.drew [] wq).then h
    have hjn : j < 14 := (Array.getElem?_eq_some_iff.1 hj).1
    obtain rfl | rfl | rfl | rfl | rfl | rfl | rfl | rfl | rfl | rfl | rfl | rfl | rfl | rfl : j = 0 ∨ j = 1 ∨ j = 2 ∨ j = 3 ∨ j = 4 ∨ j = 5 ∨ j = 6 ∨ j = 7 ∨ j = 8 ∨ j = 9 ∨ j = 10 ∨ j = 11 ∨ j = 12 ∨ j = 13 := by omega
    all_goals (have hj' := Option.some.inj (hj : some _ = some o); subst hj'; clear hj)
    · exact wp_ran rfl (exec_load rfl (eval_tmp ((hpar 2 rfl).trans rfl)) (run_loads (Cells.of_holds (hb1.keep (mv v hst.1) (by simp))) Tryd.underlying24 rfl (size24' hca))) (hK x _ _ (fun _ _ _ _ _ _ => rfl) (fun s hs => by cases hs; rfl) (by simpa using hst))
    · exact wp_ran rfl (exec_load rfl (eval_tmp ((hpar 3 rfl).trans rfl)) (run_loads (Cells.of_holds (hb2.keep (mv v hst.1) (by simp))) Tryd.underlying24 rfl (size24' hcb))) (hK x _ _ (fun _ _ _ _ _ _ => rfl) (fun s hs => by cases hs; rfl) (by simpa using hst))
    · refine wp_called rfl (exec_call2 rfl rfl (eval_tmp (hgot 0 _ 13 rfl (hdep ⟨0, .data⟩ (by simp) rfl) rfl)) (eval_tmp (hgot 1 _ 14 rfl (hdep ⟨1, .data⟩ (by simp) rfl) rfl)) (enters_of Tryd.func21 (by kernel_rfl) rfl)) ((SM v (mm.then (mv v hst.1))).mono ?_)
      rintro e v' ⟨rfl, m2⟩
      exact ⟨_, rfl, hK x _ _ (fun _ _ _ _ _ _ => rfl) (fun s hs => by cases hs; rfl) ⟨hst.1.then m2, fun h => by obtain ⟨S2, h2⟩ := hst.2 (by simpa using h); exact ⟨S2, h2.keep m2 (by simp)⟩⟩⟩
    · exact wp_ran rfl (exec_load rfl (eval_tmp ((hpar 2 rfl).trans rfl)) (run_loads (Cells.of_holds (hb1.keep (mv v hst.1) (by simp))) Tryd.underlying24 rfl (size24' hca))) (hK x _ _ (fun _ _ _ _ _ _ => rfl) (fun s hs => by cases hs; rfl) (by simpa using hst))
    · exact wp_ran rfl (exec_load rfl (eval_tmp ((hpar 3 rfl).trans rfl)) (run_loads (Cells.of_holds (hb2.keep (mv v hst.1) (by simp))) Tryd.underlying24 rfl (size24' hcb))) (hK x _ _ (fun _ _ _ _ _ _ => rfl) (fun s hs => by cases hs; rfl) (by simpa using hst))
    · refine wp_called rfl (exec_call2 rfl rfl (eval_tmp (hgot 3 _ 16 rfl (hdep ⟨3, .data⟩ (by simp) rfl) rfl)) (eval_tmp (hgot 4 _ 17 rfl (hdep ⟨4, .data⟩ (by simp) rfl) rfl)) (enters_of Tryd.func22 (by kernel_rfl) rfl)) ((RM v (mm.then (mv v hst.1))).mono ?_)
      rintro e v' ⟨rfl, m2⟩
      exact ⟨_, rfl, hK x _ _ (fun _ _ _ _ _ _ => rfl) (fun s hs => by cases hs; rfl) ⟨hst.1.then m2, fun h => by obtain ⟨S2, h2⟩ := hst.2 (by simpa using h); exact ⟨S2, h2.keep m2 (by simp)⟩⟩⟩
    · exact wp_ran rfl (exec_nebs rfl (eval_tmp (hgot 2 _ 15 rfl (hdep ⟨2, .data⟩ (by simp) rfl) rfl)) (eval_tmp (hgot 5 _ 18 rfl (hdep ⟨5, .data⟩ (by simp) rfl) rfl))) (hK x _ _ (fun _ _ _ _ _ _ => rfl) (fun s hs => by cases hs; rfl) (by simpa using hst))
    · exact wp_ran rfl (exec_move rfl (eval_tmp (hgot 6 _ 19 rfl (hdep ⟨6, .data⟩ (by simp) rfl) rfl))) (hK x _ _ (fun _ _ _ _ _ _ => rfl) (fun s hs => by cases hs; rfl) (by simpa using hst))
    · exact wp_ranW (wanted_yes rfl rfl rfl (hgot 7 _ 20 rfl (hdep ⟨7, .guard⟩ (by simp) rfl) rfl)) (exec_load rfl (eval_tmp ((hpar 2 rfl).trans rfl)) (run_loads (Cells.of_holds (hb1.keep (mv v hst.1) (by simp))) Tryd.underlying24 rfl (size24' hca))) (hK x _ _ (fun _ _ _ _ _ _ => rfl) (fun s hs => by cases hs; rfl) (by simpa using hst))
    · exact wp_ranW (wanted_yes rfl rfl rfl (hgot 7 _ 20 rfl (hdep ⟨7, .guard⟩ (by simp) rfl) rfl)) (exec_load rfl (eval_tmp ((hpar 2 rfl).trans rfl)) (run_loads (Cells.of_holds (hb1.keep (mv v hst.1) (by simp))) Tryd.underlying24 rfl (size24' hca))) (hK x _ _ (fun _ _ _ _ _ _ => rfl) (fun s hs => by cases hs; rfl) (by simpa using hst))
    · refine wp_calledW (wanted_yes rfl rfl rfl (hgot 7 _ 20 rfl (hdep ⟨7, .guard⟩ (by simp) rfl) rfl)) (exec_call1 rfl rfl (eval_tmp (hgot 9 _ 22 rfl (hdep ⟨9, .data⟩ (by simp) rfl) rfl)) (enters_of Tryd.func23 (by kernel_rfl) rfl)) ((CP v (mm.then (mv v hst.1))).mono ?_)
      rintro e v' ⟨c2, rfl, hT2, m2⟩
      exact ⟨_, rfl, hK c2 _ _ (fun j' o' s' g1 g2 g3 => by
          have g4 : j' < 14 := (Array.getElem?_eq_some_iff.1 g1).1
          clear hpar hgot hdep hcl hK
          obtain rfl | rfl | rfl | rfl | rfl | rfl | rfl | rfl | rfl | rfl | rfl | rfl | rfl | rfl : j' = 0 ∨ j' = 1 ∨ j' = 2 ∨ j' = 3 ∨ j' = 4 ∨ j' = 5 ∨ j' = 6 ∨ j' = 7 ∨ j' = 8 ∨ j' = 9 ∨ j' = 10 ∨ j' = 11 ∨ j' = 12 ∨ j' = 13 := by omega
          all_goals (cases g1; cases g3 <;> first | rfl | (rw [hlj] at g2; cases g2))) (fun s hs => by cases hs; rfl) ⟨hst.1.then m2, fun _ => ⟨_, hT2⟩⟩⟩
    · obtain ⟨S2, hT2⟩ := hst.2 (hdep ⟨10, .data⟩ (by simp) rfl)
      refine wp_calledW (wanted_yes rfl rfl rfl (hgot 7 _ 20 rfl (hdep ⟨7, .guard⟩ (by simp) rfl) rfl)) (exec_call2 rfl rfl (eval_tmp (hgot 8 _ 21 rfl (hdep ⟨8, .data⟩ (by simp) rfl) rfl)) (eval_tmp (hgot 10 _ 23 rfl (hdep ⟨10, .data⟩ (by simp) rfl) rfl)) (enters_of Tryd.func21 (by kernel_rfl) rfl)) ((SC x S2 v (mm.then (mv v hst.1)) hT2).mono ?_)
      rintro e v' ⟨rfl, m2⟩
      exact ⟨_, rfl, hK x _ _ (fun _ _ _ _ _ _ => rfl) (fun s hs => by cases hs; rfl) ⟨hst.1.then m2, fun h => ⟨S2, hT2.keep m2 (by simp)⟩⟩⟩
    · exact wp_ranW (wanted_yes rfl rfl rfl (hgot 7 _ 20 rfl (hdep ⟨7, .guard⟩ (by simp) rfl) rfl)) (exec_not rfl (eval_tmp (hgot 11 _ 24 rfl (hdep ⟨11, .data⟩ (by simp) rfl) rfl))) (hK x _ _ (fun _ _ _ _ _ _ => rfl) (fun s hs => by cases hs; rfl) (by simpa using hst))
    · exact wp_ran rfl (exec_pick rfl (eval_tmp (hgot 7 _ 20 rfl (hdep ⟨7, .data⟩ (by simp) rfl) rfl)) rfl (eval_tmp (hgot 12 _ 25 rfl (hdep ⟨12, .data⟩ (by simp) rfl) rfl)) rfl) (hK x _ _ (fun _ _ _ _ _ _ => rfl) (fun s hs => by cases hs; rfl) (by simpa using hst))
  case fin =>
  intro x lz vr hlz hst
  have mq := (Mod.drew [] wq).then hst.1
  replace hb1 := hb1.keep mq (by simp)
  replace hb2 := hb2.keep mq (by simp)
  replace mm := mm.then mq
  clear hst hlz mq
  simp only [setAll, List.foldl_cons, List.foldl_nil, List.set_cons_succ, List.set_cons_zero]
  obtain ⟨wq, hwq⟩ : ∃ v, v = vr := ⟨_, rfl⟩
  rw [← hwq] at hb1 hb2 mm ⊢
  clear hwq
  go_wp2_with (first
    | (with_reducible refine wpList_loads (o := ⟨some 27, .load 24 (.tmp 2), _, _, _, _⟩) rfl 24 (.tmp 2) rfl b1 (0) (ca) rfl (Cells.of_holds hb1) _ Tryd.underlying24 rfl (size24' hca) (.agg (ca).toArray) rfl ?_)
    | (go_at_call 24; with_reducible refine Calls.mono (RA _ mm) ?_
       rintro e wz ⟨rfl, mz⟩
       replace hb1 := hb1.keep mz (by simp)
       replace hb2 := hb2.keep mz (by simp)
       replace mm := mm.then mz
       clear mz)
    | (with_reducible refine wpList_loadsW (o := ⟨some 31, .load 24 (.tmp 3), _, _, _, _⟩) ?_ 24 (.tmp 3) rfl b2 0 (cb) rfl (Cells.of_holds hb2) _ Tryd.underlying24 rfl (size24' hcb) (.agg (cb).toArray) rfl ?_
       · exact wanted_yes rfl rfl rfl rfl)
    | (go_at_call 24; with_reducible refine Calls.mono (RB _ mm) ?_
       rintro e wz ⟨rfl, mz⟩
       replace hb1 := hb1.keep mz (by simp)
       replace hb2 := hb2.keep mz (by simp)
       replace mm := mm.then mz
       clear mz))
  obtain ⟨wq, hwq⟩ : ∃ v, v = wz := ⟨_, rfl⟩
  rw [← hwq] at hb1 hb2 mm ⊢
  clear hwq
  refine wp_region_upxd (X := XO) ⟨none, 0, none, 0⟩ (fun x => [(39, .agg ca.toArray), (40, .agg cb.toArray), (41, .bool L), (42, .agg ca.toArray), (43, .slice x.A na x.c), (44, .agg cb.toArray), (45, .slice x.B nb x.d), (46, .bool L), (47, .bool true), (4, .bool true)]) 48 [39, 40, 41, 42, 43, 44, 45, 46, 47, 4] rfl (fun _ => rfl) (by decide) (by kernel_rfl) (fun x lz v => Mod [] wq.drew v ∧ (lz 4 = true → Reads v x.A a.bytes) ∧ (lz 6 = true → Reads v x.B b.bytes)) (by kernel_rfl) ⟨Mod.refl _ _, (fun h => by cases h), fun h => by cases h⟩ (by kernel_rfl) (by kernel_rfl) ?step ?fin
  case step =>
    intro x lz T v j o hj hlj hdep hst hpar hgot hcl hdf Kq hK
    have mv : ∀ v, Mod [] wq.drew v → Mod [] wq v := fun v h => (Mod.drew [] wq).then h
    have hjn : j < 10 := (Array.getElem?_eq_some_iff.1 hj).1
    obtain rfl | rfl | rfl | rfl | rfl | rfl | rfl | rfl | rfl | rfl : j = 0 ∨ j = 1 ∨ j = 2 ∨ j = 3 ∨ j = 4 ∨ j = 5 ∨ j = 6 ∨ j = 7 ∨ j = 8 ∨ j = 9 := by omega
    all_goals (have hj' := Option.some.inj (hj : some _ = some o); subst hj'; clear hj)
    · exact wp_ran rfl (exec_load rfl (eval_tmp ((hpar 2 rfl).trans rfl)) (run_loads (Cells.of_holds (hb1.keep (mv v hst.1) (by simp))) Tryd.underlying24 rfl (size24' hca))) (hK x _ _ (fun _ _ _ _ _ _ => rfl) (fun s hs => by cases hs; rfl) (by simpa using hst))
    · exact wp_ran rfl (exec_load rfl (eval_tmp ((hpar 3 rfl).trans rfl)) (run_loads (Cells.of_holds (hb2.keep (mv v hst.1) (by simp))) Tryd.underlying24 rfl (size24' hcb))) (hK x _ _ (fun _ _ _ _ _ _ => rfl) (fun s hs => by cases hs; rfl) (by simpa using hst))
    · refine wp_called rfl (exec_call2 rfl rfl (eval_tmp (hgot 0 _ 39 rfl (hdep ⟨0, .data⟩ (by simp) rfl) rfl)) (eval_tmp (hgot 1 _ 40 rfl (hdep ⟨1, .data⟩ (by simp) rfl) rfl)) (enters_of Tryd.func25 (by kernel_rfl) rfl)) ((LS v (mm.then (mv v hst.1))).mono ?_)
      rintro e v' ⟨rfl, m2⟩
      exact ⟨_, rfl, hK x _ _ (fun _ _ _ _ _ _ => rfl) (fun s hs => by cases hs; rfl) ⟨hst.1.then m2, fun h => (hst.2.1 (by simpa using h)).keep m2 (fun _ _ => by simp), fun h => (hst.2.2 (by simpa using h)).keep m2 (fun _ _ => by simp)⟩⟩
    · exact wp_ran rfl (exec_load rfl (eval_tmp ((hpar 2 rfl).trans rfl)) (run_loads (Cells.of_holds (hb1.keep (mv v hst.1) (by simp))) Tryd.underlying24 rfl (size24' hca))) (hK x _ _ (fun _ _ _ _ _ _ => rfl) (fun s hs => by cases hs; rfl) (by simpa using hst))
    · refine wp_called rfl (exec_call1 rfl rfl (eval_tmp (hgot 3 _ 42 rfl (hdep ⟨3, .data⟩ (by simp) rfl) rfl)) (enters_of Tryd.func20 (by kernel_rfl) rfl)) ((BA v (mm.then (mv v hst.1))).mono ?_)
      rintro e v' ⟨X2, d2, rfl, M2⟩
      have m2 := Made.mod M2
      have r2 := M2.own.reads
      exact ⟨_, rfl, hK { x with A := X2, c := d2 } _ _ (fun j' o' s' g1 g2 g3 => by
          have g4 : j' < 10 := (Array.getElem?_eq_some_iff.1 g1).1
          clear hpar hgot hdep hcl hK
          obtain rfl | rfl | rfl | rfl | rfl | rfl | rfl | rfl | rfl | rfl : j' = 0 ∨ j' = 1 ∨ j' = 2 ∨ j' = 3 ∨ j' = 4 ∨ j' = 5 ∨ j' = 6 ∨ j' = 7 ∨ j' = 8 ∨ j' = 9 := by omega
          all_goals (cases g1; cases g3 <;> first | rfl | (rw [hlj] at g2; cases g2))) (fun s hs => by cases hs; rfl) ⟨hst.1.then m2, fun h => r2, fun h => (hst.2.2 (by simpa using h)).keep m2 (fun _ _ => by simp)⟩⟩
    · exact wp_ran rfl (exec_load rfl (eval_tmp ((hpar 3 rfl).trans rfl)) (run_loads (Cells.of_holds (hb2.keep (mv v hst.1) (by simp))) Tryd.underlying24 rfl (size24' hcb))) (hK x _ _ (fun _ _ _ _ _ _ => rfl) (fun s hs => by cases hs; rfl) (by simpa using hst))
    · refine wp_called rfl (exec_call1 rfl rfl (eval_tmp (hgot 5 _ 44 rfl (hdep ⟨5, .data⟩ (by simp) rfl) rfl)) (enters_of Tryd.func20 (by kernel_rfl) rfl)) ((BB v (mm.then (mv v hst.1))).mono ?_)
      rintro e v' ⟨X2, d2, rfl, M2⟩
      have m2 := Made.mod M2
      have r2 := M2.own.reads
      exact ⟨_, rfl, hK { x with B := X2, d := d2 } _ _ (fun j' o' s' g1 g2 g3 => by
          have g4 : j' < 10 := (Array.getElem?_eq_some_iff.1 g1).1
          clear hpar hgot hdep hcl hK
          obtain rfl | rfl | rfl | rfl | rfl | rfl | rfl | rfl | rfl | rfl : j' = 0 ∨ j' = 1 ∨ j' = 2 ∨ j' = 3 ∨ j' = 4 ∨ j' = 5 ∨ j' = 6 ∨ j' = 7 ∨ j' = 8 ∨ j' = 9 := by omega
          all_goals (cases g1; cases g3 <;> first | rfl | (rw [hlj] at g2; cases g2))) (fun s hs => by cases hs; rfl) ⟨hst.1.then m2, fun h => (hst.2.1 (by simpa using h)).keep m2 (fun _ _ => by simp), fun h => r2⟩⟩
    · refine wp_called rfl (exec_call2 rfl rfl (eval_tmp (hgot 4 _ 43 rfl (hdep ⟨4, .data⟩ (by simp) rfl) rfl)) (eval_tmp (hgot 6 _ 45 rfl (hdep ⟨6, .data⟩ (by simp) rfl) rfl)) (enters_of Tryd.func26 (by kernel_rfl) rfl)) ((RL x.A x.B x.c x.d v (hst.2.1 (hdep ⟨4, .data⟩ (by simp) rfl)) (hst.2.2 (hdep ⟨6, .data⟩ (by simp) rfl))).mono ?_)
      rintro e v' ⟨rfl, m2⟩
      exact ⟨_, rfl, hK x _ _ (fun _ _ _ _ _ _ => rfl) (fun s hs => by cases hs; rfl) ⟨hst.1.then m2, fun h => (hst.2.1 (by simpa using h)).keep m2 (fun _ _ => by simp), fun h => (hst.2.2 (by simpa using h)).keep m2 (fun _ _ => by simp)⟩⟩
    · exact wp_ran rfl (exec_eqbs rfl (eval_tmp (hgot 2 _ 41 rfl (hdep ⟨2, .data⟩ (by simp) rfl) rfl)) (eval_tmp (hgot 7 _ 46 rfl (hdep ⟨7, .data⟩ (by simp) rfl) rfl))) (hK x _ _ (fun _ _ _ _ _ _ => rfl) (fun s hs => by cases hs; rfl) (by simpa using hst))
    · exact wp_ran rfl (exec_assign rfl (eval_tmp (hgot 8 _ 47 rfl (hdep ⟨8, .data⟩ (by simp) rfl) rfl))) (hK x _ _ (fun _ _ _ _ _ _ => rfl) (fun s hs => by cases hs; rfl) (by simpa using hst))
  case fin =>
  intro x lz vr hlz hst
  have mq := (Mod.drew [] wq).then hst.1
  replace mm := mm.then mq
  clear hst hlz mq
  simp only [setAll, List.foldl_cons, List.foldl_nil, List.set_cons_succ, List.set_cons_zero]
  go_wp2_with fail
  go_ret
  exact ⟨rfl, mm⟩
theorem ord_c (a b : Tm) (ca cb : List Value) (w : World) (hA : TIs w (Btw 0 w.heap.size) a ca) (hB : TIs w (Btw 0 w.heap.size) b cb) (G : Glob w) :
    Calls Tryd.prog 4 #[.agg ca.toArray, .agg cb.toArray] w fun e w' => e = .returned (.bool true) ∧ Mod [] w w' := by
  cases ra : a.right with
  | false => exact ord_n1 a b ca cb w hA hB G ra
  | true =>
    cases rb : b.right with
    | false => exact ord_n2 a b ca cb w hA hB G ra rb
    | true => exact ord_yy a b ca cb w hA hB G ra rb
end Go.Proofs.YtapafniekmfkaaaDoor
