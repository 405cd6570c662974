/-
  WotsVerifies' walk. My own work.
-/
import Derived.Test.YtdolihecjomjiaaDoorWo
namespace Go.Proofs.YtdolihecjomjiaaDoor
open Go.RowKit Go.Shelf
theorem exec_eq25s {v : World} {o : Oper} {ρ : Operand → Value} {x y : Operand} {X : Idv} (ho : o.op = .binOp .eql 25 x y 25) (hx : ρ x = iv X) (hy : ρ y = iv X) : (execOp ρ o).run Tryd.prog v = .ok (.value (.bool true)) v := by
  have := exec_eq25 (v := v) ho hx hy
  rwa [decide_eq_true rfl] at this
theorem exec_eqi32 {v : World} {o : Oper} {ρ : Operand → Value} {x y : Operand} {a b : Int} (ho : o.op = .binOp .eql 32 x y 32) (hx : ρ x = .int .i64 a) (hy : ρ y = .int .i64 b) : (execOp ρ o).run Tryd.prog v = .ok (.value (.bool (a == b))) v := by
  unfold execOp
  simp [ho, hx, hy, go_sem]
theorem exec_nei32 {v : World} {o : Oper} {ρ : Operand → Value} {x y : Operand} {a b : Int} (ho : o.op = .binOp .neq 32 x y 32) (hx : ρ x = .int .i64 a) (hy : ρ y = .int .i64 b) : (execOp ρ o).run Tryd.prog v = .ok (.value (.bool (!(a == b)))) v := by
  unfold execOp
  simp [ho, hx, hy, go_sem]
  rfl
set_option maxRecDepth 100000 in
set_option maxHeartbeats 4000000 in
theorem verifies_w (L0 : List UInt8) (L1 : List UInt8) (h0 : L0.length = 32) (h1 : L1.length = 32) (w : World) (Gl : Glob w) :
    Calls Tryd.prog 7 #[.agg (L0.map oct).toArray, .agg (L1.map oct).toArray] w fun r w' => r = .returned (.bool true) ∧ Mod [] w w' := by
  obtain ⟨x, hx⟩ : ∃ x : Idv, x = ⟨L0, h0⟩ := ⟨_, rfl⟩
  obtain ⟨m, hm⟩ : ∃ x : Idv, x = ⟨L1, h1⟩ := ⟨_, rfl⟩
  rw [show Value.agg (L0.map oct).toArray = iv x by rw [hx]; rfl, show Value.agg (L1.map oct).toArray = iv m by rw [hm]; rfl]
  clear hx hm h0 h1
  have WK := fun v (mv : Mod [] w v) => wakes_c v (Gl.then mv)
  have S := fun v (mv : Mod [] w v) => sign_c x m v (Gl.then mv)
  obtain ⟨s, hs⟩ : ∃ s, s = signI x m := ⟨_, rfl⟩
  have hsl : s.length = 67 := by rw [hs]; exact signI_length x m
  obtain ⟨k, hk⟩ : ∃ k, k = keyI x := ⟨_, rfl⟩
  have hrec : recI m s = k := by rw [hs, hk]; exact rec_sign x m
  rw [← hs] at S
  have R := fun v (mv : Mod [] w v) (A : Option Addr) c (h : OwnG ic 25 32 v A c s) => recover_c m s A c hsl v (Gl.then mv) h.cells
  have V := fun v (mv : Mod [] w v) (A : Option Addr) c (h : OwnG ic 25 32 v A c s) => verify_c k m s A c hsl v (Gl.then mv) h.cells
  have K := fun v (mv : Mod [] w v) => key_c x v (Gl.then mv)
  rw [hrec] at R V
  rw [← hk] at K
  rw [show decide (k = k) = true from decide_eq_true rfl] at V
  clear hs hsl hk hrec Gl
  go_enter Tryd.func7, Tryd.ntmps7
  go_wp2_with (first
    | (with_reducible refine wpList_boxes (o := ⟨some 2, .box 25 (.tmp 0), _, _, _, _⟩) rfl 25 (.tmp 0) rfl _ rfl (ic x) rfl ?_; intro w1 hb1 m1 z1; replace z1 := Lib.hid z1)
    | (with_reducible refine wpList_boxes (o := ⟨some 3, .box 25 (.tmp 1), _, _, _, _⟩) rfl 25 (.tmp 1) rfl _ rfl (ic m) rfl ?_; intro w2 hb2 m2 z2; replace z2 := Lib.hid z2)
    | (go_at_call 10; refine (WK w2 (m1.then m2)).mono ?_
       rintro e w3 ⟨rfl, m3⟩
       obtain ⟨b2, hq2⟩ : ∃ q, q = w.heap.size := ⟨_, rfl⟩
       obtain ⟨b3, hq3⟩ : ∃ q, q = w1.heap.size := ⟨_, rfl⟩
       have k2 : Holds w3 b2 25 (ic x) := by rw [hq2]; exact (hb1.keep m2 (by simp)).keep m3 (by simp)
       have k3 : Holds w3 b3 25 (ic m) := by rw [hq3]; exact hb2.keep m3 (by simp)
       have mm3 : Mod [] w w3 := (m1.then m2).then m3
       rw [← hq2, ← hq3]
       clear hb1 hb2 m1 m2 z1 z2 m3 hq2 hq3 WK)
    | (with_reducible refine wpList_loads (o := ⟨some 10, .load 25 (.tmp 2), _, _, _, _⟩) rfl 25 (.tmp 2) rfl b2 0 _ rfl (Cells.of_holds k2) _ Tryd.underlying25 rfl (size25i x) (iv x) rfl ?_)
    | (with_reducible refine wpList_loads (o := ⟨some 11, .load 25 (.tmp 3), _, _, _, _⟩) rfl 25 (.tmp 3) rfl b3 0 _ rfl (Cells.of_holds k3) _ Tryd.underlying25 rfl (size25i m) (iv m) rfl ?_)
    | (go_at_call 19; refine (S w3 mm3).mono ?_
       rintro e w4 ⟨A, c, rfl, hs4, m4, q4⟩
       have k2' := k2.keep m4 (by simp)
       have k3' := k3.keep m4 (by simp)
       have mm4 := mm3.then m4
       clear S k2 k3 m4 q4 mm3)
    | (with_reducible refine wpList_loads (o := ⟨some 14, .load 25 (.tmp 3), _, _, _, _⟩) rfl 25 (.tmp 3) rfl b3 0 _ rfl (Cells.of_holds k3') _ Tryd.underlying25 rfl (size25i m) (iv m) rfl ?_)
    | (go_at_call 24; refine (R w4 mm4 A c hs4).mono ?_
       rintro e w5 ⟨rfl, m5⟩
       have k2 := k2'.keep m5 (by simp)
       have k3 := k3'.keep m5 (by simp)
       have hs5 := hs4.keep m5 (by simp)
       have mm5 := mm4.then m5
       clear R k2' k3' m5 mm4 hs4)
    | (with_reducible refine wpList_allocs (o := ⟨some 6, .alloc 25, _, _, _, _⟩) rfl 25 rfl _ zeroI_25 ?_; intro w6 hb6 m6 z6; replace z6 := Lib.hid z6)
    | (with_reducible refine wpList_storesAll (o := ⟨none, .store 25 (.tmp 6) (.tmp 17), _, _, _, _⟩) rfl 25 (.tmp 6) (.tmp 17) rfl rfl w5.heap.size (ic k) rfl (iv k) rfl rfl 25 _ hb6 (by rw [ic_length, ic_length]) (ic_one _) (size25i _) ?_
       intro w7 hb7 m7 z7
       replace z7 := Lib.hid z7
       obtain ⟨b6, hq6⟩ : ∃ q, q = w5.heap.size := ⟨_, rfl⟩
       have mx : Mod [] w5 w7 := m6.trans m7 (by intro i hi h; simp at h; omega)
       rw [← hq6] at hb7 ⊢
       have HK := Lib.hid (And.intro (k2.keep mx (by simp)) (And.intro (k3.keep mx (by simp)) (And.intro (hs5.keep mx (by simp)) (And.intro (mm5.then mx) hb7))))
       clear hb6 m6 z6 m7 z7 mx hq6 k2 k3 hs5 mm5 hb7))
  refine wp_region_lit1 [iv x, iv m, .pointer (some ⟨b2, 0, none⟩), .pointer (some ⟨b3, 0, none⟩), .bool true, .slice A 67 c, .pointer (some ⟨b6, 0, none⟩), .int .i64 0, .bool true, .bool false, iv x, iv m, .slice A 67 c, .tuple #[iv k, .int .i64 0], iv m, .slice A 67 c, .tuple #[iv k, .int .i64 0], iv k, .int .i64 0, .int .i64 0, .bool true, .bool true, iv k, iv x, iv k, .bool true, .bool true, .bool true, iv k, iv m, .slice A 67 c, .bool true, .bool true] 33 [0, 1, 2, 3, 5, 6, 7, 8, 9, 10, 11, 12, 13, 14, 15, 16, 17, 18]
    (fun lz v => Mod [] w7.drew v) []
    (by kernel_rfl) rfl rfl rfl rfl (Mod.refl _ _) (by kernel_rfl) (by kernel_rfl) ?step ?fin
  case step =>
    intro lz T v j o hj hlj hdep hst hpar hgot hcl Kq hK
    have mv : ∀ v, Mod [] w7.drew v → Mod [] w7 v := fun v h => (Mod.drew [] w7).then h
    have hjn : j < 15 := (Array.getElem?_eq_some_iff.1 hj).1
    obtain rfl | rfl | rfl | rfl | rfl | rfl | rfl | rfl | rfl | rfl | rfl | rfl | rfl | rfl | rfl : j = 0 ∨ j = 1 ∨ j = 2 ∨ j = 3 ∨ j = 4 ∨ j = 5 ∨ j = 6 ∨ j = 7 ∨ j = 8 ∨ j = 9 ∨ j = 10 ∨ j = 11 ∨ j = 12 ∨ j = 13 ∨ j = 14 := by omega
    all_goals (have hj' := Option.some.inj (hj : some _ = some o); subst hj'; clear hj)
    · exact wp_ran rfl (exec_move rfl (eval_tmp (hpar 7 (by simp)))) (hK _ _ (fun s hs => by cases hs; rfl) hst)
    · exact wp_ran rfl (exec_eqi32 rfl (eval_tmp (hgot 0 _ 19 rfl (hdep ⟨0, .data⟩ (by simp) rfl) rfl)) rfl) (hK _ _ (fun s hs => by cases hs; rfl) hst)
    · exact wp_ran rfl (exec_move rfl (eval_tmp (hgot 1 _ 20 rfl (hdep ⟨1, .data⟩ (by simp) rfl) rfl))) (hK _ _ (fun s hs => by cases hs; rfl) hst)
    · exact wp_ranW (wanted_yes rfl rfl rfl (hgot 2 _ 21 rfl (hdep ⟨2, .guard⟩ (by simp) rfl) rfl)) (exec_load rfl (eval_tmp (hpar 6 (by simp))) (run_loads (Cells.of_holds (HK.out.2.2.2.2.keep (mv v hst) (by simp))) Tryd.underlying25 rfl (size25i k))) (hK _ _ (fun s hs => by cases hs; rfl) hst)
    · exact wp_ranW (wanted_yes rfl rfl rfl (hgot 2 _ 21 rfl (hdep ⟨2, .guard⟩ (by simp) rfl) rfl)) (exec_load rfl (eval_tmp (hpar 2 (by simp))) (run_loads (Cells.of_holds (HK.out.1.keep (mv v hst) (by simp))) Tryd.underlying25 rfl (size25i x))) (hK _ _ (fun s hs => by cases hs; rfl) hst)
    · exact wp_calledW (wanted_yes rfl rfl rfl (hgot 2 _ 21 rfl (hdep ⟨2, .guard⟩ (by simp) rfl) rfl)) (exec_call1 rfl rfl (eval_tmp (hgot 4 _ 23 rfl (hdep ⟨4, .data⟩ (by simp) rfl) rfl)) (enters_of Tryd.func23 (by kernel_rfl) rfl)) ((K v (HK.out.2.2.2.1.then (mv v hst))).mono (fun e v' hh => ⟨_, hh.1, hK _ _ (fun s hs => by cases hs; rfl) (hst.then hh.2)⟩))
    · exact wp_ranW (wanted_yes rfl rfl rfl (hgot 2 _ 21 rfl (hdep ⟨2, .guard⟩ (by simp) rfl) rfl)) (exec_eq25s rfl (eval_tmp (hgot 3 _ 22 rfl (hdep ⟨3, .data⟩ (by simp) rfl) rfl)) (eval_tmp (hgot 5 _ 24 rfl (hdep ⟨5, .data⟩ (by simp) rfl) rfl))) (hK _ _ (fun s hs => by cases hs; rfl) hst)
    · exact wp_ran rfl (exec_pick rfl (eval_tmp (hgot 2 _ 21 rfl (hdep ⟨2, .data⟩ (by simp) rfl) rfl)) (eval_tmp (hgot 6 _ 25 rfl (hdep ⟨6, .data⟩ (by simp) rfl) rfl)) rfl rfl) (hK _ _ (fun s hs => by cases hs; rfl) hst)
    · exact wp_ran rfl (exec_move rfl (eval_tmp (hgot 7 _ 26 rfl (hdep ⟨7, .data⟩ (by simp) rfl) rfl))) (hK _ _ (fun s hs => by cases hs; rfl) hst)
    · exact wp_ranW (wanted_yes rfl rfl rfl (hgot 8 _ 27 rfl (hdep ⟨8, .guard⟩ (by simp) rfl) rfl)) (exec_load rfl (eval_tmp (hpar 6 (by simp))) (run_loads (Cells.of_holds (HK.out.2.2.2.2.keep (mv v hst) (by simp))) Tryd.underlying25 rfl (size25i k))) (hK _ _ (fun s hs => by cases hs; rfl) hst)
    · exact wp_ranW (wanted_yes rfl rfl rfl (hgot 8 _ 27 rfl (hdep ⟨8, .guard⟩ (by simp) rfl) rfl)) (exec_load rfl (eval_tmp (hpar 3 (by simp))) (run_loads (Cells.of_holds (HK.out.2.1.keep (mv v hst) (by simp))) Tryd.underlying25 rfl (size25i m))) (hK _ _ (fun s hs => by cases hs; rfl) hst)
    · exact wp_ranW (wanted_yes rfl rfl rfl (hgot 8 _ 27 rfl (hdep ⟨8, .guard⟩ (by simp) rfl) rfl)) (exec_move rfl (eval_tmp (hpar 5 (by simp)))) (hK _ _ (fun s hs => by cases hs; rfl) hst)
    · exact wp_calledW (wanted_yes rfl rfl rfl (hgot 8 _ 27 rfl (hdep ⟨8, .guard⟩ (by simp) rfl) rfl)) (exec_call3 rfl rfl (eval_tmp (hgot 9 _ 28 rfl (hdep ⟨9, .data⟩ (by simp) rfl) rfl)) (eval_tmp (hgot 10 _ 29 rfl (hdep ⟨10, .data⟩ (by simp) rfl) rfl)) (eval_tmp (hgot 11 _ 30 rfl (hdep ⟨11, .data⟩ (by simp) rfl) rfl)) (enters_of Tryd.func26 (by kernel_rfl) rfl)) ((V v (HK.out.2.2.2.1.then (mv v hst)) A c (HK.out.2.2.1.keep (mv v hst) (by simp))).mono (fun e v' hh => ⟨_, hh.1, hK _ _ (fun s hs => by cases hs; rfl) (hst.then hh.2)⟩))
    · exact wp_ran rfl (exec_pick rfl (eval_tmp (hgot 8 _ 27 rfl (hdep ⟨8, .data⟩ (by simp) rfl) rfl)) (eval_tmp (hgot 12 _ 31 rfl (hdep ⟨12, .data⟩ (by simp) rfl) rfl)) rfl rfl) (hK _ _ (fun s hs => by cases hs; rfl) hst)
    · exact wp_ran rfl (exec_assign rfl (eval_tmp (hgot 13 _ 32 rfl (hdep ⟨13, .data⟩ (by simp) rfl) rfl))) (hK _ _ (fun s hs => by cases hs; rfl) hst)
  case fin =>
    intro lz v hl hst
    have mv : Mod [] w7 v := (Mod.drew [] w7).then hst
    clear hl hst
    go_wp2
    go_ret
    exact ⟨rfl, HK.out.2.2.2.1.then mv⟩
end Go.Proofs.YtdolihecjomjiaaDoor
