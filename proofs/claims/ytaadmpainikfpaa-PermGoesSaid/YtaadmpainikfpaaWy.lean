/-
  PermTells: the walk. My own work.
-/
import Derived.Test.YtaadmpainikfpaaWx
import Derived.Test.YtaadmpainikfpaaYc
namespace Go.Proofs.Ytaadmpainikfpaa
open Go.RowKit Go.Shelf
attribute [local go_sem] Oper.semAt_some
set_option linter.unusedVariables false
set_option linter.unusedSimpArgs false
section
variable {o : Oper} {x y : Operand} {ρ : Operand → Value} {v : World}
theorem exec_eqb4 {a : Bool} (ho : o.op = .binOp .eql 4 x y 4) (hx : ρ x = .bool a) (hy : ρ y = .bool a) : (execOp ρ o).run Try.prog v = .ok (.value (.bool true)) v := by
  have h := run_eql_bool (P := Try.prog) v 4 a a Try.underlying4
  unfold execOp
  simp [ho, hx, hy, go_sem, h]
theorem exec_fp39_0 {g : Nat} (ho : o.op = .fieldAddr 39 x 0) (hx : ρ x = .pointer (some ⟨g, 0, none⟩)) : (execOp ρ o).run Try.prog v = .ok (.value (.pointer (some ⟨g, 0, none⟩))) v := by
  unfold execOp
  simp [ho, hx, go_sem]
theorem exec_fp39_1 {g : Nat} (ho : o.op = .fieldAddr 39 x 1) (hx : ρ x = .pointer (some ⟨g, 0, none⟩)) : (execOp ρ o).run Try.prog v = .ok (.value (.pointer (some ⟨g, 1, none⟩))) v := by
  unfold execOp
  simp [ho, hx, go_sem]
end
theorem CgS.mod {w v : World} {base TB : List Th} {p q : Pm} {lc lr la ls : Bool} {x : XC} (h : CgS w base TB p q lc lr la ls x v) : Mod [] w v := by
  obtain ⟨ts, F, _⟩ := h
  exact F.m
theorem Fm.weak {w0 w : World} {os ts : List Th} {t : Th} (F : Fm w0 w os (t :: ts)) : Fm w0 w os ts :=
  ⟨F.m, fun x hx => F.k x (hx.imp id (List.mem_cons_of_mem _)), F.lo, F.d, fun y hy z hz => F.e y hy z (List.mem_cons_of_mem _ hz)⟩
theorem mayR_q {w : World} {S : Nat → Prop} {p : Pm} {cs : List Value} (h : PIs w S p cs) (hS : ∀ g, S g → g < w.heap.size) (u : Int) (A : Option Addr) (n c : Nat) (m : List (Int × Int)) (hm : BelR w A n c m) (b : Bool) (hb : Hid (p.mayR u m = b)) : Calls Try.prog 20 #[.agg cs.toArray, ci u, .slice A n c] w fun r w' => r = .returned (.bool b) ∧ Mod [] w w' := by
  obtain rfl := hm.len
  exact mayR_p h hS u A c m hm b hb
theorem rmayR_q {w : World} {S : Nat → Prop} {p : Pm} {cs : List Value} (h : PIs w S p cs) (hS : ∀ g, S g → g < w.heap.size) (u : Int) (A : Option Addr) (n c : Nat) (m : List (Int × Int)) (hm : BelR w A n c m) (b : Bool) (hb : Hid (p.mayR u m = b)) : Calls Try.prog 21 #[.agg cs.toArray, ci u, .slice A n c] w fun r w' => r = .returned (.bool b) ∧ Mod [] w w' := by
  obtain rfl := hm.len
  exact rmayR_p h hS u A c m hm b hb
set_option maxRecDepth 100000 in
set_option maxHeartbeats 16000000 in
theorem tells_w {w : World} {S T : Nat → Prop} {p0 q0 : Pm} {cs ds : List Value} (h : PIs w S p0 cs) (hS : ∀ g, S g → g < w.heap.size) (h' : PIs w T q0 ds) (hT : ∀ g, T g → g < w.heap.size) (u : Int) (A : Option Addr) (n c : Nat) (m : List (Int × Int)) (hm : BelR w A n c m) : Calls Try.prog 4 #[.agg cs.toArray, .agg ds.toArray, .agg #[ci u, .slice A n c]] w fun e w' => e = .returned (.bool true) ∧ Mod [] w w' := by
  have FA := ((Fm.nil w).arg (tP S p0 cs) (keeps_tP _ _ _) h hS).arg (tP T q0 ds) (keeps_tP _ _ _) h' hT
  have h5 := h.len
  have h5q := h'.len
  have hcap := hm.cap
  have hbig := hm.big
  have HM := Lib.hid hm
  obtain ⟨TB, hTB⟩ : ∃ TB, TB = [tP T q0 ds, tP S p0 cs] := ⟨_, rfl⟩
  have HTS : Hid (tP S p0 cs ∈ TB) := Lib.hid (by rw [hTB]; simp)
  have HTT : Hid (tP T q0 ds ∈ TB) := Lib.hid (by rw [hTB]; simp)
  rw [← hTB] at FA
  obtain ⟨lg, hlg⟩ : ∃ x, p0.large = x := ⟨_, rfl⟩
  have HLG := Lib.hid hlg
  obtain ⟨lq, hlq⟩ : ∃ x, q0.large = x := ⟨_, rfl⟩
  have HLQ := Lib.hid hlq
  obtain ⟨b0, hb0⟩ : ∃ x, p0.rightB = x := ⟨_, rfl⟩
  have HB0 := Lib.hid hb0
  obtain ⟨s0, hs0⟩ : ∃ x, sameB p0 q0 = x := ⟨_, rfl⟩
  have HS0 := Lib.hid hs0
  obtain ⟨mw, hmw⟩ : ∃ x, p0.mayW u = x := ⟨_, rfl⟩
  have HMW := Lib.hid hmw
  obtain ⟨mr, hmr⟩ : ∃ x, p0.mayR u m = x := ⟨_, rfl⟩
  have HMR := Lib.hid hmr
  have HSP : Hid (sameB p0 p0 = true) := Lib.hid ((sameB_iff _ _).2 rfl)
  have NW : Hid (∀ v, Calls Try.prog 14 #[ci u] v (ResR (newR u) v)) := Lib.hid fun v => new_c u v
  clear h h' hm hTB hlg hlq hb0 hs0 hmw hmr
  cases lg
  case true =>
    go_enter Try.func4, Try.ntmps4
    go_wp2_with (first
      | (with_reducible refine fm_box FA (o := ⟨some 3, .box 24 (.tmp 0), _, _, _, _⟩) rfl 24 (.tmp 0) rfl cs rfl ?_; intro b3 w1 F1; clear FA)
      | (with_reducible refine fm_box F1 (o := ⟨some 4, .box 24 (.tmp 1), _, _, _, _⟩) rfl 24 (.tmp 1) rfl ds rfl ?_; intro b4 w2 F2; clear F1)
      | (with_reducible refine fm_box F2 (o := ⟨some 5, .box 39 (.tmp 2), _, _, _, _⟩) rfl 39 (.tmp 2) rfl [ci u, .slice A n c] rfl ?_; intro b5 w3 F3; clear F2)
      | (go_at_call 7; refine (wakes_c w3).mono ?_; rintro e w4 ⟨rfl, m4⟩; have F4 := F3.call m4; clear F3 m4)
      | (with_reducible refine fm_load F4 2 rfl (o := ⟨some 12, .load 24 (.tmp 3), _, _, _, _⟩) rfl (.tmp 3) rfl rfl h5 ?_)
      | (go_at_call 8; refine (large_p (F4.k _ (.inr HTS.out)).2.1 _ HLG).mono ?_; rintro e w5 ⟨rfl, m5⟩; have F5 := F4.call m5; clear F4 m5)
      | (with_reducible refine fm_loadG F5 1 rfl (o := ⟨some 15, .load 24 (.tmp 4), _, _, _, _⟩) (by with_unfolding_all rfl) (.tmp 4) rfl rfl h5q ?_)
      | (go_at_call 8; refine (large_p (F5.k _ (.inr HTT.out)).2.1 _ HLQ).mono ?_
         rintro e w6 ⟨rfl, m6⟩
         have F6 := F5.call m6
         have q5 : w6.cell? ⟨b5, 0, none⟩ = some (ci u) := (F6.blk 0 rfl : Holds w6 b5 39 [ci u, .slice A n c]).cell 0
         have q6 : w6.cell? ⟨b5, 1, none⟩ = some (.slice A n c) := (F6.blk 0 rfl : Holds w6 b5 39 [ci u, .slice A n c]).cell 1
         clear F5 m6))
    go_ret
    exact ⟨rfl, F5.m⟩
  cases lq
  case true =>
    go_enter Try.func4, Try.ntmps4
    go_wp2_with (first
      | (with_reducible refine fm_box FA (o := ⟨some 3, .box 24 (.tmp 0), _, _, _, _⟩) rfl 24 (.tmp 0) rfl cs rfl ?_; intro b3 w1 F1; clear FA)
      | (with_reducible refine fm_box F1 (o := ⟨some 4, .box 24 (.tmp 1), _, _, _, _⟩) rfl 24 (.tmp 1) rfl ds rfl ?_; intro b4 w2 F2; clear F1)
      | (with_reducible refine fm_box F2 (o := ⟨some 5, .box 39 (.tmp 2), _, _, _, _⟩) rfl 39 (.tmp 2) rfl [ci u, .slice A n c] rfl ?_; intro b5 w3 F3; clear F2)
      | (go_at_call 7; refine (wakes_c w3).mono ?_; rintro e w4 ⟨rfl, m4⟩; have F4 := F3.call m4; clear F3 m4)
      | (with_reducible refine fm_load F4 2 rfl (o := ⟨some 12, .load 24 (.tmp 3), _, _, _, _⟩) rfl (.tmp 3) rfl rfl h5 ?_)
      | (go_at_call 8; refine (large_p (F4.k _ (.inr HTS.out)).2.1 _ HLG).mono ?_; rintro e w5 ⟨rfl, m5⟩; have F5 := F4.call m5; clear F4 m5)
      | (with_reducible refine fm_loadG F5 1 rfl (o := ⟨some 15, .load 24 (.tmp 4), _, _, _, _⟩) (by with_unfolding_all rfl) (.tmp 4) rfl rfl h5q ?_)
      | (go_at_call 8; refine (large_p (F5.k _ (.inr HTT.out)).2.1 _ HLQ).mono ?_
         rintro e w6 ⟨rfl, m6⟩
         have F6 := F5.call m6
         have q5 : w6.cell? ⟨b5, 0, none⟩ = some (ci u) := (F6.blk 0 rfl : Holds w6 b5 39 [ci u, .slice A n c]).cell 0
         have q6 : w6.cell? ⟨b5, 1, none⟩ = some (.slice A n c) := (F6.blk 0 rfl : Holds w6 b5 39 [ci u, .slice A n c]).cell 1
         clear F5 m6))
    go_ret
    exact ⟨rfl, F6.m⟩
  by_cases g : 100 < n
  case pos =>
    have dg : decide (100 < (n : Int)) = true := decide_eq_true (by omega)
    go_enter Try.func4, Try.ntmps4
    go_wp2_with (first
      | (with_reducible refine fm_box FA (o := ⟨some 3, .box 24 (.tmp 0), _, _, _, _⟩) rfl 24 (.tmp 0) rfl cs rfl ?_; intro b3 w1 F1; clear FA)
      | (with_reducible refine fm_box F1 (o := ⟨some 4, .box 24 (.tmp 1), _, _, _, _⟩) rfl 24 (.tmp 1) rfl ds rfl ?_; intro b4 w2 F2; clear F1)
      | (with_reducible refine fm_box F2 (o := ⟨some 5, .box 39 (.tmp 2), _, _, _, _⟩) rfl 39 (.tmp 2) rfl [ci u, .slice A n c] rfl ?_; intro b5 w3 F3; clear F2)
      | (go_at_call 7; refine (wakes_c w3).mono ?_; rintro e w4 ⟨rfl, m4⟩; have F4 := F3.call m4; clear F3 m4)
      | (with_reducible refine fm_load F4 2 rfl (o := ⟨some 12, .load 24 (.tmp 3), _, _, _, _⟩) rfl (.tmp 3) rfl rfl h5 ?_)
      | (go_at_call 8; refine (large_p (F4.k _ (.inr HTS.out)).2.1 _ HLG).mono ?_; rintro e w5 ⟨rfl, m5⟩; have F5 := F4.call m5; clear F4 m5)
      | (with_reducible refine fm_loadG F5 1 rfl (o := ⟨some 15, .load 24 (.tmp 4), _, _, _, _⟩) (by with_unfolding_all rfl) (.tmp 4) rfl rfl h5q ?_)
      | (go_at_call 8; refine (large_p (F5.k _ (.inr HTT.out)).2.1 _ HLQ).mono ?_
         rintro e w6 ⟨rfl, m6⟩
         have F6 := F5.call m6
         have q5 : w6.cell? ⟨b5, 0, none⟩ = some (ci u) := (F6.blk 0 rfl : Holds w6 b5 39 [ci u, .slice A n c]).cell 0
         have q6 : w6.cell? ⟨b5, 1, none⟩ = some (.slice A n c) := (F6.blk 0 rfl : Holds w6 b5 39 [ci u, .slice A n c]).cell 1
         clear F5 m6))
    go_ret
    exact ⟨rfl, F6.m⟩
  have dg : decide (100 < (n : Int)) = false := decide_eq_false (by omega)
  by_cases z1 : u < 1
  case pos =>
    have dz1 : decide (u < 1) = true := decide_eq_true z1
    have f : newR u = (2, zp) := by
      unfold newR upTo
      rw [decide_eq_false (show ¬ 1 ≤ u by omega)]; rfl
    rw [f] at NW
    clear f z1
    have HN : Hid (sameB zp zp = true) := Lib.hid ((sameB_iff _ _).2 rfl)
    go_enter Try.func4, Try.ntmps4
    go_wp2_with (first
      | (with_reducible refine fm_box FA (o := ⟨some 3, .box 24 (.tmp 0), _, _, _, _⟩) rfl 24 (.tmp 0) rfl cs rfl ?_; intro b3 w1 F1; clear FA)
      | (with_reducible refine fm_box F1 (o := ⟨some 4, .box 24 (.tmp 1), _, _, _, _⟩) rfl 24 (.tmp 1) rfl ds rfl ?_; intro b4 w2 F2; clear F1)
      | (with_reducible refine fm_box F2 (o := ⟨some 5, .box 39 (.tmp 2), _, _, _, _⟩) rfl 39 (.tmp 2) rfl [ci u, .slice A n c] rfl ?_; intro b5 w3 F3; clear F2)
      | (go_at_call 7; refine (wakes_c w3).mono ?_; rintro e w4 ⟨rfl, m4⟩; have F4 := F3.call m4; clear F3 m4)
      | (with_reducible refine fm_load F4 2 rfl (o := ⟨some 12, .load 24 (.tmp 3), _, _, _, _⟩) rfl (.tmp 3) rfl rfl h5 ?_)
      | (go_at_call 8; refine (large_p (F4.k _ (.inr HTS.out)).2.1 _ HLG).mono ?_; rintro e w5 ⟨rfl, m5⟩; have F5 := F4.call m5; clear F4 m5)
      | (with_reducible refine fm_loadG F5 1 rfl (o := ⟨some 15, .load 24 (.tmp 4), _, _, _, _⟩) (by with_unfolding_all rfl) (.tmp 4) rfl rfl h5q ?_)
      | (go_at_call 8; refine (large_p (F5.k _ (.inr HTT.out)).2.1 _ HLQ).mono ?_
         rintro e w6 ⟨rfl, m6⟩
         have F6 := F5.call m6
         have q5 : w6.cell? ⟨b5, 0, none⟩ = some (ci u) := (F6.blk 0 rfl : Holds w6 b5 39 [ci u, .slice A n c]).cell 0
         have q6 : w6.cell? ⟨b5, 1, none⟩ = some (.slice A n c) := (F6.blk 0 rfl : Holds w6 b5 39 [ci u, .slice A n c]).cell 1
         clear F5 m6)
      | (go_at_call 14; refine (NW.out w6).mono ?_
         rintro e w7 ⟨cs7, rfl, hP7, m7⟩
         simp only at hP7
         have F7 := (F6.put m7 (tP _ _ cs7) (keeps_tP _ _ _) hP7 (fun g hg => .inl hg))
         have h57 := hP7.len
         have h1 := hP7.one
         have HP7 := Lib.hid hP7
         clear F6 m7 hP7 q5 q6)
      | (with_reducible refine fm_alloc F7 (o := ⟨some 7, .alloc 24, _, _, _, _⟩) rfl 24 rfl _ zero24 ?_; intro b7 w8 F8; clear F7)
      | (with_reducible refine fm_store F8 0 rfl (o := ⟨none, .store 24 (.tmp 7) (.tmp 28), _, _, _, _⟩) rfl (.tmp 7) (.tmp 28) rfl rfl cs7 rfl rfl h57 rfl h1 ?_
         intro w9 F9
         have q5 : w9.cell? ⟨b5, 0, none⟩ = some (ci u) := (F9.blk 1 rfl : Holds w9 b5 39 [ci u, .slice A n c]).cell 0
         have q6 : w9.cell? ⟨b5, 1, none⟩ = some (.slice A n c) := (F9.blk 1 rfl : Holds w9 b5 39 [ci u, .slice A n c]).cell 1
         clear F8)
      | (with_reducible refine fm_loadG F9 0 rfl (o := ⟨some 41, .load 24 (.tmp 7), _, _, _, _⟩) (by with_unfolding_all rfl) (.tmp 7) rfl rfl h57 ?_)
      | (go_at_call 13; refine (rsame_p (F9.s 0 rfl) (PIs.zero _ (fun _ => False)) true HN).mono ?_
         rintro e w10 ⟨rfl, m10⟩
         have G11 := (F9.call m10).weak
         clear F9 m10 q5 q6))
    clear HP7 h57 h1
    cases b0
    · refine wp_region_upx (X := XC) (⟨0, [], []⟩) (fun x => [(56, .agg cs.toArray), (57, .agg x.2.1.toArray), (58, .int .i64 210), (59, .bool false), (60, .agg cs.toArray), (61, .bool false), (62, .bool true), (63, .bool true), (64, .agg cs.toArray), (65, .bool false), (66, .bool false), (67, .agg cs.toArray), (68, .int .i64 210), (69, .bool true), (70, .bool true), (71, .bool true), (9, .bool true)]) 115 [56, 57, 58, 59, 60, 61, 62, 63, 64, 65, 66, 67, 68, 69, 70, 71, 9] rfl (fun _ => rfl) (by decide) (by kernel_rfl) (fun x lz v => CgS w [oB b7 24 cs7, oB b5 39 [ci u, .slice A n c], oB b4 24 ds, oB b3 24 cs] TB p0 p0 (lz 1) false false false x v) (by kernel_rfl) (CgS.begin (G11.call (Mod.drew [] _)) _) (by kernel_rfl) (by kernel_rfl) ?_ ?_
      · skip
        intro x lz T v j o hj hlj hdep hst hpar hgot hcl Kq hK
        have hjn : j < 17 := (Array.getElem?_eq_some_iff.1 hj).1
        obtain rfl | rfl | rfl | rfl | rfl | rfl | rfl | rfl | rfl | rfl | rfl | rfl | rfl | rfl | rfl | rfl | rfl : j = 0 ∨ j = 1 ∨ j = 2 ∨ j = 3 ∨ j = 4 ∨ j = 5 ∨ j = 6 ∨ j = 7 ∨ j = 8 ∨ j = 9 ∨ j = 10 ∨ j = 11 ∨ j = 12 ∨ j = 13 ∨ j = 14 ∨ j = 15 ∨ j = 16 := by omega
        all_goals (have hj' := Option.some.inj (hj : some _ = some o); subst hj'; clear hj)
        · exact wp_ran rfl (exec_load rfl (eval_tmp ((hpar 3 rfl).trans rfl)) (run_loads (Cells.of_holds (hst.own (y := oB b3 24 cs) (by simp))) Try.underlying24 rfl (size24' h5))) (hK x _ _ (fun _ _ _ _ _ _ => rfl) (fun s hs => by cases hs; rfl) (by simpa using hst))
        · obtain ⟨hP, hS⟩ := hst.std HTS.out
          rw [hlj] at hst
          refine wp_called rfl (exec_call1 rfl rfl (eval_tmp (hgot 0 _ 56 rfl (hdep ⟨0, .data⟩ (by simp) rfl) rfl)) (enters_of Try.func10 (by kernel_rfl) rfl)) ((copied_p hP hS HLG.out).mono ?_)
          rintro e v' ⟨cs1, rfl, hP1, m1⟩
          refine ⟨_, rfl, hK ⟨x.1, cs1, x.2.2⟩ _ _ (fun j' o' s' g1 g2 g3 => by
              have g4 : j' < 17 := (Array.getElem?_eq_some_iff.1 g1).1
              clear hpar hgot hdep hK
              obtain rfl | rfl | rfl | rfl | rfl | rfl | rfl | rfl | rfl | rfl | rfl | rfl | rfl | rfl | rfl | rfl | rfl : j' = 0 ∨ j' = 1 ∨ j' = 2 ∨ j' = 3 ∨ j' = 4 ∨ j' = 5 ∨ j' = 6 ∨ j' = 7 ∨ j' = 8 ∨ j' = 9 ∨ j' = 10 ∨ j' = 11 ∨ j' = 12 ∨ j' = 13 ∨ j' = 14 ∨ j' = 15 ∨ j' = 16 := by omega
              all_goals (cases g1; cases g3 <;> first | rfl | (rw [hlj] at g2; cases g2))) (fun s hs => by cases hs; rfl) ?_⟩
          simpa using hst.copied hP1 m1
        · have t1 : lz 1 = true := (hdep ⟨1, .data⟩ (by simp) rfl)
          rw [t1] at hst
          obtain ⟨S1, hC, hS1⟩ := hst.copy
          refine wp_called rfl (exec_call1 rfl rfl (eval_tmp (hgot 1 _ 57 rfl (hdep ⟨1, .data⟩ (by simp) rfl) rfl)) (enters_of Try.func15 (by kernel_rfl) rfl)) ((check_p hC false HB0).mono ?_)
          rintro e v' ⟨rfl, m1⟩
          exact ⟨_, rfl, hK x _ _ (fun _ _ _ _ _ _ => rfl) (fun s hs => by cases hs; rfl) (by simpa [t1] using hst.call m1)⟩
        · exact wp_ran rfl (exec_eqi rfl rfl (eval_tmp (hgot 2 _ 58 rfl (hdep ⟨2, .data⟩ (by simp) rfl) rfl)) rfl) (hK x _ _ (fun _ _ _ _ _ _ => rfl) (fun s hs => by cases hs; rfl) (by simpa using hst))
        · exact wp_ran rfl (exec_load rfl (eval_tmp ((hpar 3 rfl).trans rfl)) (run_loads (Cells.of_holds (hst.own (y := oB b3 24 cs) (by simp))) Try.underlying24 rfl (size24' h5))) (hK x _ _ (fun _ _ _ _ _ _ => rfl) (fun s hs => by cases hs; rfl) (by simpa using hst))
        · obtain ⟨hP, hS⟩ := hst.std HTS.out
          refine wp_called rfl (exec_call1 rfl rfl (eval_tmp (hgot 4 _ 60 rfl (hdep ⟨4, .data⟩ (by simp) rfl) rfl)) (enters_of Try.func16 (by kernel_rfl) rfl)) ((right_p hP false HB0).mono ?_)
          rintro e v' ⟨rfl, m1⟩
          exact ⟨_, rfl, hK x _ _ (fun _ _ _ _ _ _ => rfl) (fun s hs => by cases hs; rfl) (by simpa using hst.call m1)⟩
        · exact wp_ran rfl (exec_eqb4 rfl (eval_tmp (hgot 3 _ 59 rfl (hdep ⟨3, .data⟩ (by simp) rfl) rfl)) (eval_tmp (hgot 5 _ 61 rfl (hdep ⟨5, .data⟩ (by simp) rfl) rfl))) (hK x _ _ (fun _ _ _ _ _ _ => rfl) (fun s hs => by cases hs; rfl) (by simpa using hst))
        · exact wp_ran rfl (exec_move rfl (eval_tmp (hgot 6 _ 62 rfl (hdep ⟨6, .data⟩ (by simp) rfl) rfl))) (hK x _ _ (fun _ _ _ _ _ _ => rfl) (fun s hs => by cases hs; rfl) (by simpa using hst))
        · exact wp_ranW (wanted_yes rfl rfl rfl (hgot 7 _ 63 rfl (hdep ⟨7, .guard⟩ (by simp) rfl) rfl)) (exec_load rfl (eval_tmp ((hpar 3 rfl).trans rfl)) (run_loads (Cells.of_holds (hst.own (y := oB b3 24 cs) (by simp))) Try.underlying24 rfl (size24' h5))) (hK x _ _ (fun _ _ _ _ _ _ => rfl) (fun s hs => by cases hs; rfl) (by simpa using hst))
        · obtain ⟨hP, hS⟩ := hst.std HTS.out
          refine wp_calledW (wanted_yes rfl rfl rfl (hgot 7 _ 63 rfl (hdep ⟨7, .chain⟩ (by simp) rfl) rfl)) (exec_call1 rfl rfl (eval_tmp (hgot 8 _ 64 rfl (hdep ⟨8, .data⟩ (by simp) rfl) rfl)) (enters_of Try.func16 (by kernel_rfl) rfl)) ((right_p hP false HB0).mono ?_)
          rintro e v' ⟨rfl, m1⟩
          exact ⟨_, rfl, hK x _ _ (fun _ _ _ _ _ _ => rfl) (fun s hs => by cases hs; rfl) (by simpa using hst.call m1)⟩
        · exact wp_ranW (wanted_yes rfl rfl rfl (hgot 7 _ 63 rfl (hdep ⟨7, .guard⟩ (by simp) rfl) rfl)) (exec_move rfl (eval_tmp (hgot 9 _ 65 rfl (hdep ⟨9, .data⟩ (by simp) rfl) rfl))) (hK x _ _ (fun _ _ _ _ _ _ => rfl) (fun s hs => by cases hs; rfl) (by simpa using hst))
        · exact wp_ranW (wanted_yes rfl rfl rfl (hgot 10 _ 66 rfl (hdep ⟨10, .guard⟩ (by simp) rfl) rfl)) (exec_load rfl (eval_tmp ((hpar 3 rfl).trans rfl)) (run_loads (Cells.of_holds (hst.own (y := oB b3 24 cs) (by simp))) Try.underlying24 rfl (size24' h5))) (hK x _ _ (fun _ _ _ _ _ _ => rfl) (fun s hs => by cases hs; rfl) (by simpa using hst))
        · obtain ⟨hP, hS⟩ := hst.std HTS.out
          refine wp_calledW (wanted_yes rfl rfl rfl (hgot 10 _ 66 rfl (hdep ⟨10, .chain⟩ (by simp) rfl) rfl)) (exec_call1 rfl rfl (eval_tmp (hgot 11 _ 67 rfl (hdep ⟨11, .data⟩ (by simp) rfl) rfl)) (enters_of Try.func15 (by kernel_rfl) rfl)) ((check_p hP false HB0).mono ?_)
          rintro e v' ⟨rfl, m1⟩
          exact ⟨_, rfl, hK x _ _ (fun _ _ _ _ _ _ => rfl) (fun s hs => by cases hs; rfl) (by simpa using hst.call m1)⟩
        · exact wp_ranW (wanted_yes rfl rfl rfl (hgot 10 _ 66 rfl (hdep ⟨10, .guard⟩ (by simp) rfl) rfl)) (exec_eqi rfl rfl (eval_tmp (hgot 12 _ 68 rfl (hdep ⟨12, .data⟩ (by simp) rfl) rfl)) rfl) (hK x _ _ (fun _ _ _ _ _ _ => rfl) (fun s hs => by cases hs; rfl) (by simpa using hst))
        · exact wp_ranW (wanted_yes rfl rfl rfl (hgot 7 _ 63 rfl (hdep ⟨7, .guard⟩ (by simp) rfl) rfl)) (exec_pick rfl (eval_tmp (hgot 10 _ 66 rfl (hdep ⟨10, .data⟩ (by simp) rfl) rfl)) rfl (eval_tmp (hgot 13 _ 69 rfl (hdep ⟨13, .data⟩ (by simp) rfl) rfl)) rfl) (hK x _ _ (fun _ _ _ _ _ _ => rfl) (fun s hs => by cases hs; rfl) (by simpa using hst))
        · exact wp_ran rfl (exec_pick rfl (eval_tmp (hgot 7 _ 63 rfl (hdep ⟨7, .data⟩ (by simp) rfl) rfl)) (eval_tmp (hgot 14 _ 70 rfl (hdep ⟨14, .data⟩ (by simp) rfl) rfl)) rfl rfl) (hK x _ _ (fun _ _ _ _ _ _ => rfl) (fun s hs => by cases hs; rfl) (by simpa using hst))
        · exact wp_ran rfl (exec_assign rfl (eval_tmp (hgot 15 _ 71 rfl (hdep ⟨15, .data⟩ (by simp) rfl) rfl))) (hK x _ _ (fun _ _ _ _ _ _ => rfl) (fun s hs => by cases hs; rfl) (by simpa using hst))
      intro x lz v11 hlz hst
      rw [hlz 1 (by decide)] at hst
      obtain ⟨T12, F12, hTB12, hc12⟩ := hst
      have G12 : Fm w v11 [oB b7 24 cs7, oB b5 39 [ci u, .slice A n c], oB b4 24 ds, oB b3 24 cs] T12 := F12
      have HTS2 : Hid (tP S p0 cs ∈ T12) := Lib.hid (hTB12 _ HTS.out)
      have HTT2 : Hid (tP T q0 ds ∈ T12) := Lib.hid (hTB12 _ HTT.out)
      clear hlz F12 hTB12 hc12 G11
      simp only [setAll, Act.put, List.foldl_cons, List.foldl_nil, List.setIfInBounds_toArray, List.set_cons_succ, List.set_cons_zero]
      go_wp2_with fail
      refine wp_region_upxo (X := XC) (⟨0, [], []⟩) (fun x => [(72, .bool true), (73, .bool true), (74, .agg cs.toArray), (75, .agg ds.toArray), (76, .bool s0), (77, .agg cs.toArray), (78, .agg ds.toArray), (79, .bool s0), (80, .bool true), (81, .bool true), (82, .bool true), (83, .agg cs.toArray), (84, .agg cs.toArray), (85, .agg x.2.1.toArray), (86, .bool true), (87, .bool true), (9, .bool true)]) 115 [72, 73, 74, 75, 76, 77, 78, 79, 80, 81, 82, 83, 84, 85, 86, 87, 9] rfl (fun _ => rfl) (by decide) (by kernel_rfl) (fun x lz v => CgS w [oB b7 24 cs7, oB b5 39 [ci u, .slice A n c], oB b4 24 ds, oB b3 24 cs] T12 p0 p0 (lz 13) false false false x v) (by kernel_rfl) (CgS.begin (G12.call (Mod.drew [] _)) _) (by kernel_rfl) (by kernel_rfl) ?_ ?_
      · skip
        intro x lz T v j o hj hlj hdep hst hpar hgot hcl hdf hold Kq hK
        have hjn : j < 17 := (Array.getElem?_eq_some_iff.1 hj).1
        obtain rfl | rfl | rfl | rfl | rfl | rfl | rfl | rfl | rfl | rfl | rfl | rfl | rfl | rfl | rfl | rfl | rfl : j = 0 ∨ j = 1 ∨ j = 2 ∨ j = 3 ∨ j = 4 ∨ j = 5 ∨ j = 6 ∨ j = 7 ∨ j = 8 ∨ j = 9 ∨ j = 10 ∨ j = 11 ∨ j = 12 ∨ j = 13 ∨ j = 14 ∨ j = 15 ∨ j = 16 := by omega
        all_goals (have hj' := Option.some.inj (hj : some _ = some o); subst hj'; clear hj)
        · have l16 : lz 16 = false := (by cases hh : lz 16 with | false => rfl | true => exact absurd (hcl 16 _ rfl hh ⟨0, .phase⟩ (by simp) rfl) (by rw [hlj]; simp))
          have h9 : T.tmps[9]? = some (.bool true) := (hold 9 (fun j o' h1 h2 h3 => by
            have g4 : j < 17 := (Array.getElem?_eq_some_iff.1 h1).1
            clear hpar hgot hdep hK hold
            obtain rfl | rfl | rfl | rfl | rfl | rfl | rfl | rfl | rfl | rfl | rfl | rfl | rfl | rfl | rfl | rfl | rfl : j = 0 ∨ j = 1 ∨ j = 2 ∨ j = 3 ∨ j = 4 ∨ j = 5 ∨ j = 6 ∨ j = 7 ∨ j = 8 ∨ j = 9 ∨ j = 10 ∨ j = 11 ∨ j = 12 ∨ j = 13 ∨ j = 14 ∨ j = 15 ∨ j = 16 := by omega
            all_goals (cases h1; first | (cases h3; done) | (rw [l16] at h2; cases h2)))).trans rfl
          exact wp_ran rfl (exec_move rfl (eval_tmp h9)) (hK x _ _ (fun _ _ _ _ _ _ => rfl) (fun s hs => by cases hs; rfl) (by simpa using hst))
        · exact wp_ran rfl (exec_move rfl (eval_tmp (hgot 0 _ 72 rfl (hdep ⟨0, .data⟩ (by simp) rfl) rfl))) (hK x _ _ (fun _ _ _ _ _ _ => rfl) (fun s hs => by cases hs; rfl) (by simpa using hst))
        · exact wp_ranW (wanted_yes rfl rfl rfl (hgot 1 _ 73 rfl (hdep ⟨1, .guard⟩ (by simp) rfl) rfl)) (exec_load rfl (eval_tmp ((hpar 3 rfl).trans rfl)) (run_loads (Cells.of_holds (hst.own (y := oB b3 24 cs) (by simp))) Try.underlying24 rfl (size24' h5))) (hK x _ _ (fun _ _ _ _ _ _ => rfl) (fun s hs => by cases hs; rfl) (by simpa using hst))
        · exact wp_ranW (wanted_yes rfl rfl rfl (hgot 1 _ 73 rfl (hdep ⟨1, .guard⟩ (by simp) rfl) rfl)) (exec_load rfl (eval_tmp ((hpar 4 rfl).trans rfl)) (run_loads (Cells.of_holds (hst.own (y := oB b4 24 ds) (by simp))) Try.underlying24 rfl (size24' h5q))) (hK x _ _ (fun _ _ _ _ _ _ => rfl) (fun s hs => by cases hs; rfl) (by simpa using hst))
        · obtain ⟨hP, hS⟩ := hst.std HTS2.out
          obtain ⟨hQ, hS2⟩ := hst.std HTT2.out
          refine wp_calledW (wanted_yes rfl rfl rfl (hgot 1 _ 73 rfl (hdep ⟨1, .chain⟩ (by simp) rfl) rfl)) (exec_call2 rfl rfl (eval_tmp (hgot 2 _ 74 rfl (hdep ⟨2, .data⟩ (by simp) rfl) rfl)) (eval_tmp (hgot 3 _ 75 rfl (hdep ⟨3, .data⟩ (by simp) rfl) rfl)) (enters_of Try.func17 (by kernel_rfl) rfl)) ((psame_p hP hQ s0 HS0).mono ?_)
          rintro e v' ⟨rfl, m1⟩
          exact ⟨_, rfl, hK x _ _ (fun _ _ _ _ _ _ => rfl) (fun s hs => by cases hs; rfl) (by simpa using hst.call m1)⟩
        · exact wp_ranW (wanted_yes rfl rfl rfl (hgot 1 _ 73 rfl (hdep ⟨1, .guard⟩ (by simp) rfl) rfl)) (exec_load rfl (eval_tmp ((hpar 3 rfl).trans rfl)) (run_loads (Cells.of_holds (hst.own (y := oB b3 24 cs) (by simp))) Try.underlying24 rfl (size24' h5))) (hK x _ _ (fun _ _ _ _ _ _ => rfl) (fun s hs => by cases hs; rfl) (by simpa using hst))
        · exact wp_ranW (wanted_yes rfl rfl rfl (hgot 1 _ 73 rfl (hdep ⟨1, .guard⟩ (by simp) rfl) rfl)) (exec_load rfl (eval_tmp ((hpar 4 rfl).trans rfl)) (run_loads (Cells.of_holds (hst.own (y := oB b4 24 ds) (by simp))) Try.underlying24 rfl (size24' h5q))) (hK x _ _ (fun _ _ _ _ _ _ => rfl) (fun s hs => by cases hs; rfl) (by simpa using hst))
        · obtain ⟨hP, hS⟩ := hst.std HTS2.out
          obtain ⟨hQ, hS2⟩ := hst.std HTT2.out
          refine wp_calledW (wanted_yes rfl rfl rfl (hgot 1 _ 73 rfl (hdep ⟨1, .guard⟩ (by simp) rfl) rfl)) (exec_call2 rfl rfl (eval_tmp (hgot 5 _ 77 rfl (hdep ⟨5, .data⟩ (by simp) rfl) rfl)) (eval_tmp (hgot 6 _ 78 rfl (hdep ⟨6, .data⟩ (by simp) rfl) rfl)) (enters_of Try.func13 (by kernel_rfl) rfl)) ((rsame_p hP hQ s0 HS0).mono ?_)
          rintro e v' ⟨rfl, m1⟩
          exact ⟨_, rfl, hK x _ _ (fun _ _ _ _ _ _ => rfl) (fun s hs => by cases hs; rfl) (by simpa using hst.call m1)⟩
        · exact wp_ranW (wanted_yes rfl rfl rfl (hgot 1 _ 73 rfl (hdep ⟨1, .guard⟩ (by simp) rfl) rfl)) (exec_eqb4 rfl (eval_tmp (hgot 4 _ 76 rfl (hdep ⟨4, .data⟩ (by simp) rfl) rfl)) (eval_tmp (hgot 7 _ 79 rfl (hdep ⟨7, .data⟩ (by simp) rfl) rfl))) (hK x _ _ (fun _ _ _ _ _ _ => rfl) (fun s hs => by cases hs; rfl) (by simpa using hst))
        · exact wp_ran rfl (exec_pick rfl (eval_tmp (hgot 1 _ 73 rfl (hdep ⟨1, .data⟩ (by simp) rfl) rfl)) (eval_tmp (hgot 8 _ 80 rfl (hdep ⟨8, .data⟩ (by simp) rfl) rfl)) rfl rfl) (hK x _ _ (fun _ _ _ _ _ _ => rfl) (fun s hs => by cases hs; rfl) (by simpa using hst))
        · exact wp_ran rfl (exec_move rfl (eval_tmp (hgot 9 _ 81 rfl (hdep ⟨9, .data⟩ (by simp) rfl) rfl))) (hK x _ _ (fun _ _ _ _ _ _ => rfl) (fun s hs => by cases hs; rfl) (by simpa using hst))
        · exact wp_ranW (wanted_yes rfl rfl rfl (hgot 10 _ 82 rfl (hdep ⟨10, .guard⟩ (by simp) rfl) rfl)) (exec_load rfl (eval_tmp ((hpar 3 rfl).trans rfl)) (run_loads (Cells.of_holds (hst.own (y := oB b3 24 cs) (by simp))) Try.underlying24 rfl (size24' h5))) (hK x _ _ (fun _ _ _ _ _ _ => rfl) (fun s hs => by cases hs; rfl) (by simpa using hst))
        · exact wp_ranW (wanted_yes rfl rfl rfl (hgot 10 _ 82 rfl (hdep ⟨10, .guard⟩ (by simp) rfl) rfl)) (exec_load rfl (eval_tmp ((hpar 3 rfl).trans rfl)) (run_loads (Cells.of_holds (hst.own (y := oB b3 24 cs) (by simp))) Try.underlying24 rfl (size24' h5))) (hK x _ _ (fun _ _ _ _ _ _ => rfl) (fun s hs => by cases hs; rfl) (by simpa using hst))
        · obtain ⟨hP, hS⟩ := hst.std HTS2.out
          rw [hlj] at hst
          refine wp_calledW (wanted_yes rfl rfl rfl (hgot 10 _ 82 rfl (hdep ⟨10, .chain⟩ (by simp) rfl) rfl)) (exec_call1 rfl rfl (eval_tmp (hgot 12 _ 84 rfl (hdep ⟨12, .data⟩ (by simp) rfl) rfl)) (enters_of Try.func10 (by kernel_rfl) rfl)) ((copied_p hP hS HLG.out).mono ?_)
          rintro e v' ⟨cs1, rfl, hP1, m1⟩
          refine ⟨_, rfl, hK ⟨x.1, cs1, x.2.2⟩ _ _ (fun j' o' s' g1 g2 g3 => by
              have g4 : j' < 17 := (Array.getElem?_eq_some_iff.1 g1).1
              clear hpar hgot hdep hK
              obtain rfl | rfl | rfl | rfl | rfl | rfl | rfl | rfl | rfl | rfl | rfl | rfl | rfl | rfl | rfl | rfl | rfl : j' = 0 ∨ j' = 1 ∨ j' = 2 ∨ j' = 3 ∨ j' = 4 ∨ j' = 5 ∨ j' = 6 ∨ j' = 7 ∨ j' = 8 ∨ j' = 9 ∨ j' = 10 ∨ j' = 11 ∨ j' = 12 ∨ j' = 13 ∨ j' = 14 ∨ j' = 15 ∨ j' = 16 := by omega
              all_goals (cases g1; cases g3 <;> first | rfl | (rw [hlj] at g2; cases g2))) (fun s hs => by cases hs; rfl) ?_⟩
          simpa using hst.copied hP1 m1
        · have t1 : lz 13 = true := (hdep ⟨13, .data⟩ (by simp) rfl)
          rw [t1] at hst
          obtain ⟨S1, hC, hS1⟩ := hst.copy
          obtain ⟨hP, hS⟩ := hst.std HTS2.out
          refine wp_calledW (wanted_yes rfl rfl rfl (hgot 10 _ 82 rfl (hdep ⟨10, .guard⟩ (by simp) rfl) rfl)) (exec_call2 rfl rfl (eval_tmp (hgot 11 _ 83 rfl (hdep ⟨11, .data⟩ (by simp) rfl) rfl)) (eval_tmp (hgot 13 _ 85 rfl (hdep ⟨13, .data⟩ (by simp) rfl) rfl)) (enters_of Try.func17 (by kernel_rfl) rfl)) ((psame_p hP hC true HSP).mono ?_)
          rintro e v' ⟨rfl, m1⟩
          exact ⟨_, rfl, hK x _ _ (fun _ _ _ _ _ _ => rfl) (fun s hs => by cases hs; rfl) (by simpa [t1] using hst.call m1)⟩
        · exact wp_ran rfl (exec_pick rfl (eval_tmp (hgot 10 _ 82 rfl (hdep ⟨10, .data⟩ (by simp) rfl) rfl)) (eval_tmp (hgot 14 _ 86 rfl (hdep ⟨14, .data⟩ (by simp) rfl) rfl)) rfl rfl) (hK x _ _ (fun _ _ _ _ _ _ => rfl) (fun s hs => by cases hs; rfl) (by simpa using hst))
        · exact wp_ran rfl (exec_assign rfl (eval_tmp (hgot 15 _ 87 rfl (hdep ⟨15, .data⟩ (by simp) rfl) rfl))) (hK x _ _ (fun _ _ _ _ _ _ => rfl) (fun s hs => by cases hs; rfl) (by simpa using hst))
      intro x lz v12 hlz hst
      rw [hlz 13 (by decide)] at hst
      obtain ⟨T13, F13, hTB13, hc13⟩ := hst
      have G13 : Fm w v12 [oB b7 24 cs7, oB b5 39 [ci u, .slice A n c], oB b4 24 ds, oB b3 24 cs] T13 := F13
      have HTS3 : Hid (tP S p0 cs ∈ T13) := Lib.hid (hTB13 _ HTS2.out)
      clear hlz F13 hTB13 hc13 G12
      simp only [setAll, Act.put, List.foldl_cons, List.foldl_nil, List.setIfInBounds_toArray, List.set_cons_succ, List.set_cons_zero]
      go_wp2_with fail
      refine wp_region_upx (X := XC) (⟨0, [], []⟩) (fun x => [(88, .bool true), (89, .bool true), (90, .agg cs.toArray), (91, .pointer (some ⟨b5, 0, none⟩)), (92, ci u), (93, .bool mw), (94, .agg cs.toArray), (95, .pointer (some ⟨b5, 0, none⟩)), (96, ci u), (97, .bool mw), (98, .bool true), (99, .bool true), (100, .bool true), (101, .agg cs.toArray), (102, .pointer (some ⟨b5, 0, none⟩)), (103, ci u), (104, .pointer (some ⟨b5, 1, none⟩)), (105, .slice A n c), (106, .bool mr), (107, .agg cs.toArray), (108, .pointer (some ⟨b5, 0, none⟩)), (109, ci u), (110, .pointer (some ⟨b5, 1, none⟩)), (111, .slice A n c), (112, .bool mr), (113, .bool true), (114, .bool true), (6, .bool true)]) 115 [88, 89, 90, 91, 92, 93, 94, 95, 96, 97, 98, 99, 100, 101, 102, 103, 104, 105, 106, 107, 108, 109, 110, 111, 112, 113, 114, 6] rfl (fun _ => rfl) (by decide) (by kernel_rfl) (fun x lz v => CgS w [oB b7 24 cs7, oB b5 39 [ci u, .slice A n c], oB b4 24 ds, oB b3 24 cs] T13 p0 p0 false false false false x v) (by kernel_rfl) (CgS.begin (G13.call (Mod.drew [] _)) _) (by kernel_rfl) (by kernel_rfl) ?_ ?_
      · skip
        intro x lz T v j o hj hlj hdep hst hpar hgot hcl Kq hK
        have hjn : j < 28 := (Array.getElem?_eq_some_iff.1 hj).1
        obtain rfl | rfl | rfl | rfl | rfl | rfl | rfl | rfl | rfl | rfl | rfl | rfl | rfl | rfl | rfl | rfl | rfl | rfl | rfl | rfl | rfl | rfl | rfl | rfl | rfl | rfl | rfl | rfl : j = 0 ∨ j = 1 ∨ j = 2 ∨ j = 3 ∨ j = 4 ∨ j = 5 ∨ j = 6 ∨ j = 7 ∨ j = 8 ∨ j = 9 ∨ j = 10 ∨ j = 11 ∨ j = 12 ∨ j = 13 ∨ j = 14 ∨ j = 15 ∨ j = 16 ∨ j = 17 ∨ j = 18 ∨ j = 19 ∨ j = 20 ∨ j = 21 ∨ j = 22 ∨ j = 23 ∨ j = 24 ∨ j = 25 ∨ j = 26 ∨ j = 27 := by omega
        all_goals (have hj' := Option.some.inj (hj : some _ = some o); subst hj'; clear hj)
        · exact wp_ran rfl (exec_move rfl (eval_tmp ((hpar 9 rfl).trans rfl))) (hK x _ _ (fun _ _ _ _ _ _ => rfl) (fun s hs => by cases hs; rfl) (by simpa using hst))
        · exact wp_ran rfl (exec_move rfl (eval_tmp (hgot 0 _ 88 rfl (hdep ⟨0, .data⟩ (by simp) rfl) rfl))) (hK x _ _ (fun _ _ _ _ _ _ => rfl) (fun s hs => by cases hs; rfl) (by simpa using hst))
        · exact wp_ranW (wanted_yes rfl rfl rfl (hgot 1 _ 89 rfl (hdep ⟨1, .guard⟩ (by simp) rfl) rfl)) (exec_load rfl (eval_tmp ((hpar 3 rfl).trans rfl)) (run_loads (Cells.of_holds (hst.own (y := oB b3 24 cs) (by simp))) Try.underlying24 rfl (size24' h5))) (hK x _ _ (fun _ _ _ _ _ _ => rfl) (fun s hs => by cases hs; rfl) (by simpa using hst))
        · exact wp_ranW (wanted_yes rfl rfl rfl (hgot 1 _ 89 rfl (hdep ⟨1, .guard⟩ (by simp) rfl) rfl)) (exec_fp39_0 rfl (eval_tmp ((hpar 5 rfl).trans rfl))) (hK x _ _ (fun _ _ _ _ _ _ => rfl) (fun s hs => by cases hs; rfl) (by simpa using hst))
        · exact wp_ranW (wanted_yes rfl rfl rfl (hgot 1 _ 89 rfl (hdep ⟨1, .guard⟩ (by simp) rfl) rfl)) (exec_load rfl (eval_tmp (hgot 3 _ 91 rfl (hdep ⟨3, .data⟩ (by simp) rfl) rfl)) (run_load1 Try.underlying3 rfl ((hst.own (y := oB b5 39 [ci u, .slice A n c]) (by simp) : Holds v b5 39 _).cell 0))) (hK x _ _ (fun _ _ _ _ _ _ => rfl) (fun s hs => by cases hs; rfl) (by simpa using hst))
        · obtain ⟨hP, hS⟩ := hst.std HTS3.out
          refine wp_calledW (wanted_yes rfl rfl rfl (hgot 1 _ 89 rfl (hdep ⟨1, .chain⟩ (by simp) rfl) rfl)) (exec_call2 rfl rfl (eval_tmp (hgot 2 _ 90 rfl (hdep ⟨2, .data⟩ (by simp) rfl) rfl)) (eval_tmp (hgot 4 _ 92 rfl (hdep ⟨4, .data⟩ (by simp) rfl) rfl)) (enters_of Try.func18 (by kernel_rfl) rfl)) ((mayW_p hP hS u mw HMW).mono ?_)
          rintro e v' ⟨rfl, m1⟩
          exact ⟨_, rfl, hK x _ _ (fun _ _ _ _ _ _ => rfl) (fun s hs => by cases hs; rfl) (by simpa using hst.call m1)⟩
        · exact wp_ranW (wanted_yes rfl rfl rfl (hgot 1 _ 89 rfl (hdep ⟨1, .guard⟩ (by simp) rfl) rfl)) (exec_load rfl (eval_tmp ((hpar 3 rfl).trans rfl)) (run_loads (Cells.of_holds (hst.own (y := oB b3 24 cs) (by simp))) Try.underlying24 rfl (size24' h5))) (hK x _ _ (fun _ _ _ _ _ _ => rfl) (fun s hs => by cases hs; rfl) (by simpa using hst))
        · exact wp_ranW (wanted_yes rfl rfl rfl (hgot 1 _ 89 rfl (hdep ⟨1, .guard⟩ (by simp) rfl) rfl)) (exec_fp39_0 rfl (eval_tmp ((hpar 5 rfl).trans rfl))) (hK x _ _ (fun _ _ _ _ _ _ => rfl) (fun s hs => by cases hs; rfl) (by simpa using hst))
        · exact wp_ranW (wanted_yes rfl rfl rfl (hgot 1 _ 89 rfl (hdep ⟨1, .guard⟩ (by simp) rfl) rfl)) (exec_load rfl (eval_tmp (hgot 7 _ 95 rfl (hdep ⟨7, .data⟩ (by simp) rfl) rfl)) (run_load1 Try.underlying3 rfl ((hst.own (y := oB b5 39 [ci u, .slice A n c]) (by simp) : Holds v b5 39 _).cell 0))) (hK x _ _ (fun _ _ _ _ _ _ => rfl) (fun s hs => by cases hs; rfl) (by simpa using hst))
        · obtain ⟨hP, hS⟩ := hst.std HTS3.out
          refine wp_calledW (wanted_yes rfl rfl rfl (hgot 1 _ 89 rfl (hdep ⟨1, .guard⟩ (by simp) rfl) rfl)) (exec_call2 rfl rfl (eval_tmp (hgot 6 _ 94 rfl (hdep ⟨6, .data⟩ (by simp) rfl) rfl)) (eval_tmp (hgot 8 _ 96 rfl (hdep ⟨8, .data⟩ (by simp) rfl) rfl)) (enters_of Try.func19 (by kernel_rfl) rfl)) ((rmayW_p hP hS u mw HMW).mono ?_)
          rintro e v' ⟨rfl, m1⟩
          exact ⟨_, rfl, hK x _ _ (fun _ _ _ _ _ _ => rfl) (fun s hs => by cases hs; rfl) (by simpa using hst.call m1)⟩
        · exact wp_ranW (wanted_yes rfl rfl rfl (hgot 1 _ 89 rfl (hdep ⟨1, .guard⟩ (by simp) rfl) rfl)) (exec_eqb4 rfl (eval_tmp (hgot 5 _ 93 rfl (hdep ⟨5, .data⟩ (by simp) rfl) rfl)) (eval_tmp (hgot 9 _ 97 rfl (hdep ⟨9, .data⟩ (by simp) rfl) rfl))) (hK x _ _ (fun _ _ _ _ _ _ => rfl) (fun s hs => by cases hs; rfl) (by simpa using hst))
        · exact wp_ran rfl (exec_pick rfl (eval_tmp (hgot 1 _ 89 rfl (hdep ⟨1, .data⟩ (by simp) rfl) rfl)) (eval_tmp (hgot 10 _ 98 rfl (hdep ⟨10, .data⟩ (by simp) rfl) rfl)) rfl rfl) (hK x _ _ (fun _ _ _ _ _ _ => rfl) (fun s hs => by cases hs; rfl) (by simpa using hst))
        · exact wp_ran rfl (exec_move rfl (eval_tmp (hgot 11 _ 99 rfl (hdep ⟨11, .data⟩ (by simp) rfl) rfl))) (hK x _ _ (fun _ _ _ _ _ _ => rfl) (fun s hs => by cases hs; rfl) (by simpa using hst))
        · exact wp_ranW (wanted_yes rfl rfl rfl (hgot 12 _ 100 rfl (hdep ⟨12, .guard⟩ (by simp) rfl) rfl)) (exec_load rfl (eval_tmp ((hpar 3 rfl).trans rfl)) (run_loads (Cells.of_holds (hst.own (y := oB b3 24 cs) (by simp))) Try.underlying24 rfl (size24' h5))) (hK x _ _ (fun _ _ _ _ _ _ => rfl) (fun s hs => by cases hs; rfl) (by simpa using hst))
        · exact wp_ranW (wanted_yes rfl rfl rfl (hgot 12 _ 100 rfl (hdep ⟨12, .guard⟩ (by simp) rfl) rfl)) (exec_fp39_0 rfl (eval_tmp ((hpar 5 rfl).trans rfl))) (hK x _ _ (fun _ _ _ _ _ _ => rfl) (fun s hs => by cases hs; rfl) (by simpa using hst))
        · exact wp_ranW (wanted_yes rfl rfl rfl (hgot 12 _ 100 rfl (hdep ⟨12, .guard⟩ (by simp) rfl) rfl)) (exec_load rfl (eval_tmp (hgot 14 _ 102 rfl (hdep ⟨14, .data⟩ (by simp) rfl) rfl)) (run_load1 Try.underlying3 rfl ((hst.own (y := oB b5 39 [ci u, .slice A n c]) (by simp) : Holds v b5 39 _).cell 0))) (hK x _ _ (fun _ _ _ _ _ _ => rfl) (fun s hs => by cases hs; rfl) (by simpa using hst))
        · exact wp_ranW (wanted_yes rfl rfl rfl (hgot 12 _ 100 rfl (hdep ⟨12, .guard⟩ (by simp) rfl) rfl)) (exec_fp39_1 rfl (eval_tmp ((hpar 5 rfl).trans rfl))) (hK x _ _ (fun _ _ _ _ _ _ => rfl) (fun s hs => by cases hs; rfl) (by simpa using hst))
        · exact wp_ranW (wanted_yes rfl rfl rfl (hgot 12 _ 100 rfl (hdep ⟨12, .guard⟩ (by simp) rfl) rfl)) (exec_load rfl (eval_tmp (hgot 16 _ 104 rfl (hdep ⟨16, .data⟩ (by simp) rfl) rfl)) (run_load1 Try.underlying37 rfl ((hst.own (y := oB b5 39 [ci u, .slice A n c]) (by simp) : Holds v b5 39 _).cell 1))) (hK x _ _ (fun _ _ _ _ _ _ => rfl) (fun s hs => by cases hs; rfl) (by simpa using hst))
        · obtain ⟨hP, hS⟩ := hst.std HTS3.out
          refine wp_calledW (wanted_yes rfl rfl rfl (hgot 12 _ 100 rfl (hdep ⟨12, .chain⟩ (by simp) rfl) rfl)) (exec_call3 rfl rfl (eval_tmp (hgot 13 _ 101 rfl (hdep ⟨13, .data⟩ (by simp) rfl) rfl)) (eval_tmp (hgot 15 _ 103 rfl (hdep ⟨15, .data⟩ (by simp) rfl) rfl)) (eval_tmp (hgot 17 _ 105 rfl (hdep ⟨17, .data⟩ (by simp) rfl) rfl)) (enters_of Try.func20 (by kernel_rfl) rfl)) ((mayR_q hP hS u A n c m (HM.out.call hst.mod) mr HMR).mono ?_)
          rintro e v' ⟨rfl, m1⟩
          exact ⟨_, rfl, hK x _ _ (fun _ _ _ _ _ _ => rfl) (fun s hs => by cases hs; rfl) (by simpa using hst.call m1)⟩
        · exact wp_ranW (wanted_yes rfl rfl rfl (hgot 12 _ 100 rfl (hdep ⟨12, .guard⟩ (by simp) rfl) rfl)) (exec_load rfl (eval_tmp ((hpar 3 rfl).trans rfl)) (run_loads (Cells.of_holds (hst.own (y := oB b3 24 cs) (by simp))) Try.underlying24 rfl (size24' h5))) (hK x _ _ (fun _ _ _ _ _ _ => rfl) (fun s hs => by cases hs; rfl) (by simpa using hst))
        · exact wp_ranW (wanted_yes rfl rfl rfl (hgot 12 _ 100 rfl (hdep ⟨12, .guard⟩ (by simp) rfl) rfl)) (exec_fp39_0 rfl (eval_tmp ((hpar 5 rfl).trans rfl))) (hK x _ _ (fun _ _ _ _ _ _ => rfl) (fun s hs => by cases hs; rfl) (by simpa using hst))
        · exact wp_ranW (wanted_yes rfl rfl rfl (hgot 12 _ 100 rfl (hdep ⟨12, .guard⟩ (by simp) rfl) rfl)) (exec_load rfl (eval_tmp (hgot 20 _ 108 rfl (hdep ⟨20, .data⟩ (by simp) rfl) rfl)) (run_load1 Try.underlying3 rfl ((hst.own (y := oB b5 39 [ci u, .slice A n c]) (by simp) : Holds v b5 39 _).cell 0))) (hK x _ _ (fun _ _ _ _ _ _ => rfl) (fun s hs => by cases hs; rfl) (by simpa using hst))
        · exact wp_ranW (wanted_yes rfl rfl rfl (hgot 12 _ 100 rfl (hdep ⟨12, .guard⟩ (by simp) rfl) rfl)) (exec_fp39_1 rfl (eval_tmp ((hpar 5 rfl).trans rfl))) (hK x _ _ (fun _ _ _ _ _ _ => rfl) (fun s hs => by cases hs; rfl) (by simpa using hst))
        · exact wp_ranW (wanted_yes rfl rfl rfl (hgot 12 _ 100 rfl (hdep ⟨12, .guard⟩ (by simp) rfl) rfl)) (exec_load rfl (eval_tmp (hgot 22 _ 110 rfl (hdep ⟨22, .data⟩ (by simp) rfl) rfl)) (run_load1 Try.underlying37 rfl ((hst.own (y := oB b5 39 [ci u, .slice A n c]) (by simp) : Holds v b5 39 _).cell 1))) (hK x _ _ (fun _ _ _ _ _ _ => rfl) (fun s hs => by cases hs; rfl) (by simpa using hst))
        · obtain ⟨hP, hS⟩ := hst.std HTS3.out
          refine wp_calledW (wanted_yes rfl rfl rfl (hgot 12 _ 100 rfl (hdep ⟨12, .guard⟩ (by simp) rfl) rfl)) (exec_call3 rfl rfl (eval_tmp (hgot 19 _ 107 rfl (hdep ⟨19, .data⟩ (by simp) rfl) rfl)) (eval_tmp (hgot 21 _ 109 rfl (hdep ⟨21, .data⟩ (by simp) rfl) rfl)) (eval_tmp (hgot 23 _ 111 rfl (hdep ⟨23, .data⟩ (by simp) rfl) rfl)) (enters_of Try.func21 (by kernel_rfl) rfl)) ((rmayR_q hP hS u A n c m (HM.out.call hst.mod) mr HMR).mono ?_)
          rintro e v' ⟨rfl, m1⟩
          exact ⟨_, rfl, hK x _ _ (fun _ _ _ _ _ _ => rfl) (fun s hs => by cases hs; rfl) (by simpa using hst.call m1)⟩
        · exact wp_ranW (wanted_yes rfl rfl rfl (hgot 12 _ 100 rfl (hdep ⟨12, .guard⟩ (by simp) rfl) rfl)) (exec_eqb4 rfl (eval_tmp (hgot 18 _ 106 rfl (hdep ⟨18, .data⟩ (by simp) rfl) rfl)) (eval_tmp (hgot 24 _ 112 rfl (hdep ⟨24, .data⟩ (by simp) rfl) rfl))) (hK x _ _ (fun _ _ _ _ _ _ => rfl) (fun s hs => by cases hs; rfl) (by simpa using hst))
        · exact wp_ran rfl (exec_pick rfl (eval_tmp (hgot 12 _ 100 rfl (hdep ⟨12, .data⟩ (by simp) rfl) rfl)) (eval_tmp (hgot 25 _ 113 rfl (hdep ⟨25, .data⟩ (by simp) rfl) rfl)) rfl rfl) (hK x _ _ (fun _ _ _ _ _ _ => rfl) (fun s hs => by cases hs; rfl) (by simpa using hst))
        · exact wp_ran rfl (exec_assign rfl (eval_tmp (hgot 26 _ 114 rfl (hdep ⟨26, .data⟩ (by simp) rfl) rfl))) (hK x _ _ (fun _ _ _ _ _ _ => rfl) (fun s hs => by cases hs; rfl) (by simpa using hst))
      intro x lz v13 hlz hst
      have MM := hst.mod
      clear hst hlz
      simp only [setAll, Act.put, List.foldl_cons, List.foldl_nil, List.setIfInBounds_toArray, List.set_cons_succ, List.set_cons_zero]
      go_wp2_with fail
      go_ret
      exact ⟨rfl, MM⟩
    · refine wp_region_upx (X := XC) (⟨0, [], []⟩) (fun x => [(56, .agg cs.toArray), (57, .agg x.2.1.toArray), (58, .int .i64 0), (59, .bool true), (60, .agg cs.toArray), (61, .bool true), (62, .bool true), (63, .bool true), (64, .agg cs.toArray), (65, .bool true), (66, .bool true), (67, undef), (68, undef), (69, undef), (70, .bool true), (71, .bool true), (9, .bool true)]) 115 [56, 57, 58, 59, 60, 61, 62, 63, 64, 65, 66, 67, 68, 69, 70, 71, 9] rfl (fun _ => rfl) (by decide) (by kernel_rfl) (fun x lz v => CgS w [oB b7 24 cs7, oB b5 39 [ci u, .slice A n c], oB b4 24 ds, oB b3 24 cs] TB p0 p0 (lz 1) false false false x v) (by kernel_rfl) (CgS.begin (G11.call (Mod.drew [] _)) _) (by kernel_rfl) (by kernel_rfl) ?_ ?_
      · skip
        intro x lz T v j o hj hlj hdep hst hpar hgot hcl Kq hK
        have hjn : j < 17 := (Array.getElem?_eq_some_iff.1 hj).1
        obtain rfl | rfl | rfl | rfl | rfl | rfl | rfl | rfl | rfl | rfl | rfl | rfl | rfl | rfl | rfl | rfl | rfl : j = 0 ∨ j = 1 ∨ j = 2 ∨ j = 3 ∨ j = 4 ∨ j = 5 ∨ j = 6 ∨ j = 7 ∨ j = 8 ∨ j = 9 ∨ j = 10 ∨ j = 11 ∨ j = 12 ∨ j = 13 ∨ j = 14 ∨ j = 15 ∨ j = 16 := by omega
        all_goals (have hj' := Option.some.inj (hj : some _ = some o); subst hj'; clear hj)
        · exact wp_ran rfl (exec_load rfl (eval_tmp ((hpar 3 rfl).trans rfl)) (run_loads (Cells.of_holds (hst.own (y := oB b3 24 cs) (by simp))) Try.underlying24 rfl (size24' h5))) (hK x _ _ (fun _ _ _ _ _ _ => rfl) (fun s hs => by cases hs; rfl) (by simpa using hst))
        · obtain ⟨hP, hS⟩ := hst.std HTS.out
          rw [hlj] at hst
          refine wp_called rfl (exec_call1 rfl rfl (eval_tmp (hgot 0 _ 56 rfl (hdep ⟨0, .data⟩ (by simp) rfl) rfl)) (enters_of Try.func10 (by kernel_rfl) rfl)) ((copied_p hP hS HLG.out).mono ?_)
          rintro e v' ⟨cs1, rfl, hP1, m1⟩
          refine ⟨_, rfl, hK ⟨x.1, cs1, x.2.2⟩ _ _ (fun j' o' s' g1 g2 g3 => by
              have g4 : j' < 17 := (Array.getElem?_eq_some_iff.1 g1).1
              clear hpar hgot hdep hK
              obtain rfl | rfl | rfl | rfl | rfl | rfl | rfl | rfl | rfl | rfl | rfl | rfl | rfl | rfl | rfl | rfl | rfl : j' = 0 ∨ j' = 1 ∨ j' = 2 ∨ j' = 3 ∨ j' = 4 ∨ j' = 5 ∨ j' = 6 ∨ j' = 7 ∨ j' = 8 ∨ j' = 9 ∨ j' = 10 ∨ j' = 11 ∨ j' = 12 ∨ j' = 13 ∨ j' = 14 ∨ j' = 15 ∨ j' = 16 := by omega
              all_goals (cases g1; cases g3 <;> first | rfl | (rw [hlj] at g2; cases g2))) (fun s hs => by cases hs; rfl) ?_⟩
          simpa using hst.copied hP1 m1
        · have t1 : lz 1 = true := (hdep ⟨1, .data⟩ (by simp) rfl)
          rw [t1] at hst
          obtain ⟨S1, hC, hS1⟩ := hst.copy
          refine wp_called rfl (exec_call1 rfl rfl (eval_tmp (hgot 1 _ 57 rfl (hdep ⟨1, .data⟩ (by simp) rfl) rfl)) (enters_of Try.func15 (by kernel_rfl) rfl)) ((check_p hC true HB0).mono ?_)
          rintro e v' ⟨rfl, m1⟩
          exact ⟨_, rfl, hK x _ _ (fun _ _ _ _ _ _ => rfl) (fun s hs => by cases hs; rfl) (by simpa [t1] using hst.call m1)⟩
        · exact wp_ran rfl (exec_eqi rfl rfl (eval_tmp (hgot 2 _ 58 rfl (hdep ⟨2, .data⟩ (by simp) rfl) rfl)) rfl) (hK x _ _ (fun _ _ _ _ _ _ => rfl) (fun s hs => by cases hs; rfl) (by simpa using hst))
        · exact wp_ran rfl (exec_load rfl (eval_tmp ((hpar 3 rfl).trans rfl)) (run_loads (Cells.of_holds (hst.own (y := oB b3 24 cs) (by simp))) Try.underlying24 rfl (size24' h5))) (hK x _ _ (fun _ _ _ _ _ _ => rfl) (fun s hs => by cases hs; rfl) (by simpa using hst))
        · obtain ⟨hP, hS⟩ := hst.std HTS.out
          refine wp_called rfl (exec_call1 rfl rfl (eval_tmp (hgot 4 _ 60 rfl (hdep ⟨4, .data⟩ (by simp) rfl) rfl)) (enters_of Try.func16 (by kernel_rfl) rfl)) ((right_p hP true HB0).mono ?_)
          rintro e v' ⟨rfl, m1⟩
          exact ⟨_, rfl, hK x _ _ (fun _ _ _ _ _ _ => rfl) (fun s hs => by cases hs; rfl) (by simpa using hst.call m1)⟩
        · exact wp_ran rfl (exec_eqb4 rfl (eval_tmp (hgot 3 _ 59 rfl (hdep ⟨3, .data⟩ (by simp) rfl) rfl)) (eval_tmp (hgot 5 _ 61 rfl (hdep ⟨5, .data⟩ (by simp) rfl) rfl))) (hK x _ _ (fun _ _ _ _ _ _ => rfl) (fun s hs => by cases hs; rfl) (by simpa using hst))
        · exact wp_ran rfl (exec_move rfl (eval_tmp (hgot 6 _ 62 rfl (hdep ⟨6, .data⟩ (by simp) rfl) rfl))) (hK x _ _ (fun _ _ _ _ _ _ => rfl) (fun s hs => by cases hs; rfl) (by simpa using hst))
        · exact wp_ranW (wanted_yes rfl rfl rfl (hgot 7 _ 63 rfl (hdep ⟨7, .guard⟩ (by simp) rfl) rfl)) (exec_load rfl (eval_tmp ((hpar 3 rfl).trans rfl)) (run_loads (Cells.of_holds (hst.own (y := oB b3 24 cs) (by simp))) Try.underlying24 rfl (size24' h5))) (hK x _ _ (fun _ _ _ _ _ _ => rfl) (fun s hs => by cases hs; rfl) (by simpa using hst))
        · obtain ⟨hP, hS⟩ := hst.std HTS.out
          refine wp_calledW (wanted_yes rfl rfl rfl (hgot 7 _ 63 rfl (hdep ⟨7, .chain⟩ (by simp) rfl) rfl)) (exec_call1 rfl rfl (eval_tmp (hgot 8 _ 64 rfl (hdep ⟨8, .data⟩ (by simp) rfl) rfl)) (enters_of Try.func16 (by kernel_rfl) rfl)) ((right_p hP true HB0).mono ?_)
          rintro e v' ⟨rfl, m1⟩
          exact ⟨_, rfl, hK x _ _ (fun _ _ _ _ _ _ => rfl) (fun s hs => by cases hs; rfl) (by simpa using hst.call m1)⟩
        · exact wp_ranW (wanted_yes rfl rfl rfl (hgot 7 _ 63 rfl (hdep ⟨7, .guard⟩ (by simp) rfl) rfl)) (exec_move rfl (eval_tmp (hgot 9 _ 65 rfl (hdep ⟨9, .data⟩ (by simp) rfl) rfl))) (hK x _ _ (fun _ _ _ _ _ _ => rfl) (fun s hs => by cases hs; rfl) (by simpa using hst))
        · exact wp_skip (wanted_no rfl rfl rfl rfl (hgot 10 _ 66 rfl (hdep ⟨10, .guard⟩ (by simp) rfl) rfl)) (hK x _ _ (fun _ _ _ _ _ _ => rfl) (fun s hs => by cases hs; rfl) (by simpa using hst))
        · exact wp_skip (wanted_no rfl rfl rfl rfl (hgot 10 _ 66 rfl (hdep ⟨10, .chain⟩ (by simp) rfl) rfl)) (hK x _ _ (fun _ _ _ _ _ _ => rfl) (fun s hs => by cases hs; rfl) (by simpa using hst))
        · exact wp_skip (wanted_no rfl rfl rfl rfl (hgot 10 _ 66 rfl (hdep ⟨10, .guard⟩ (by simp) rfl) rfl)) (hK x _ _ (fun _ _ _ _ _ _ => rfl) (fun s hs => by cases hs; rfl) (by simpa using hst))
        · exact wp_ranW (wanted_yes rfl rfl rfl (hgot 7 _ 63 rfl (hdep ⟨7, .guard⟩ (by simp) rfl) rfl)) (exec_pick rfl (eval_tmp (hgot 10 _ 66 rfl (hdep ⟨10, .data⟩ (by simp) rfl) rfl)) rfl (eval_tmp (hgot 13 _ 69 rfl (hdep ⟨13, .data⟩ (by simp) rfl) rfl)) rfl) (hK x _ _ (fun _ _ _ _ _ _ => rfl) (fun s hs => by cases hs; rfl) (by simpa using hst))
        · exact wp_ran rfl (exec_pick rfl (eval_tmp (hgot 7 _ 63 rfl (hdep ⟨7, .data⟩ (by simp) rfl) rfl)) (eval_tmp (hgot 14 _ 70 rfl (hdep ⟨14, .data⟩ (by simp) rfl) rfl)) rfl rfl) (hK x _ _ (fun _ _ _ _ _ _ => rfl) (fun s hs => by cases hs; rfl) (by simpa using hst))
        · exact wp_ran rfl (exec_assign rfl (eval_tmp (hgot 15 _ 71 rfl (hdep ⟨15, .data⟩ (by simp) rfl) rfl))) (hK x _ _ (fun _ _ _ _ _ _ => rfl) (fun s hs => by cases hs; rfl) (by simpa using hst))
      intro x lz v11 hlz hst
      rw [hlz 1 (by decide)] at hst
      obtain ⟨T12, F12, hTB12, hc12⟩ := hst
      have G12 : Fm w v11 [oB b7 24 cs7, oB b5 39 [ci u, .slice A n c], oB b4 24 ds, oB b3 24 cs] T12 := F12
      have HTS2 : Hid (tP S p0 cs ∈ T12) := Lib.hid (hTB12 _ HTS.out)
      have HTT2 : Hid (tP T q0 ds ∈ T12) := Lib.hid (hTB12 _ HTT.out)
      clear hlz F12 hTB12 hc12 G11
      simp only [setAll, Act.put, List.foldl_cons, List.foldl_nil, List.setIfInBounds_toArray, List.set_cons_succ, List.set_cons_zero]
      go_wp2_with fail
      refine wp_region_upxo (X := XC) (⟨0, [], []⟩) (fun x => [(72, .bool true), (73, .bool true), (74, .agg cs.toArray), (75, .agg ds.toArray), (76, .bool s0), (77, .agg cs.toArray), (78, .agg ds.toArray), (79, .bool s0), (80, .bool true), (81, .bool true), (82, .bool true), (83, .agg cs.toArray), (84, .agg cs.toArray), (85, .agg x.2.1.toArray), (86, .bool true), (87, .bool true), (9, .bool true)]) 115 [72, 73, 74, 75, 76, 77, 78, 79, 80, 81, 82, 83, 84, 85, 86, 87, 9] rfl (fun _ => rfl) (by decide) (by kernel_rfl) (fun x lz v => CgS w [oB b7 24 cs7, oB b5 39 [ci u, .slice A n c], oB b4 24 ds, oB b3 24 cs] T12 p0 p0 (lz 13) false false false x v) (by kernel_rfl) (CgS.begin (G12.call (Mod.drew [] _)) _) (by kernel_rfl) (by kernel_rfl) ?_ ?_
      · skip
        intro x lz T v j o hj hlj hdep hst hpar hgot hcl hdf hold Kq hK
        have hjn : j < 17 := (Array.getElem?_eq_some_iff.1 hj).1
        obtain rfl | rfl | rfl | rfl | rfl | rfl | rfl | rfl | rfl | rfl | rfl | rfl | rfl | rfl | rfl | rfl | rfl : j = 0 ∨ j = 1 ∨ j = 2 ∨ j = 3 ∨ j = 4 ∨ j = 5 ∨ j = 6 ∨ j = 7 ∨ j = 8 ∨ j = 9 ∨ j = 10 ∨ j = 11 ∨ j = 12 ∨ j = 13 ∨ j = 14 ∨ j = 15 ∨ j = 16 := by omega
        all_goals (have hj' := Option.some.inj (hj : some _ = some o); subst hj'; clear hj)
        · have l16 : lz 16 = false := (by cases hh : lz 16 with | false => rfl | true => exact absurd (hcl 16 _ rfl hh ⟨0, .phase⟩ (by simp) rfl) (by rw [hlj]; simp))
          have h9 : T.tmps[9]? = some (.bool true) := (hold 9 (fun j o' h1 h2 h3 => by
            have g4 : j < 17 := (Array.getElem?_eq_some_iff.1 h1).1
            clear hpar hgot hdep hK hold
            obtain rfl | rfl | rfl | rfl | rfl | rfl | rfl | rfl | rfl | rfl | rfl | rfl | rfl | rfl | rfl | rfl | rfl : j = 0 ∨ j = 1 ∨ j = 2 ∨ j = 3 ∨ j = 4 ∨ j = 5 ∨ j = 6 ∨ j = 7 ∨ j = 8 ∨ j = 9 ∨ j = 10 ∨ j = 11 ∨ j = 12 ∨ j = 13 ∨ j = 14 ∨ j = 15 ∨ j = 16 := by omega
            all_goals (cases h1; first | (cases h3; done) | (rw [l16] at h2; cases h2)))).trans rfl
          exact wp_ran rfl (exec_move rfl (eval_tmp h9)) (hK x _ _ (fun _ _ _ _ _ _ => rfl) (fun s hs => by cases hs; rfl) (by simpa using hst))
        · exact wp_ran rfl (exec_move rfl (eval_tmp (hgot 0 _ 72 rfl (hdep ⟨0, .data⟩ (by simp) rfl) rfl))) (hK x _ _ (fun _ _ _ _ _ _ => rfl) (fun s hs => by cases hs; rfl) (by simpa using hst))
        · exact wp_ranW (wanted_yes rfl rfl rfl (hgot 1 _ 73 rfl (hdep ⟨1, .guard⟩ (by simp) rfl) rfl)) (exec_load rfl (eval_tmp ((hpar 3 rfl).trans rfl)) (run_loads (Cells.of_holds (hst.own (y := oB b3 24 cs) (by simp))) Try.underlying24 rfl (size24' h5))) (hK x _ _ (fun _ _ _ _ _ _ => rfl) (fun s hs => by cases hs; rfl) (by simpa using hst))
        · exact wp_ranW (wanted_yes rfl rfl rfl (hgot 1 _ 73 rfl (hdep ⟨1, .guard⟩ (by simp) rfl) rfl)) (exec_load rfl (eval_tmp ((hpar 4 rfl).trans rfl)) (run_loads (Cells.of_holds (hst.own (y := oB b4 24 ds) (by simp))) Try.underlying24 rfl (size24' h5q))) (hK x _ _ (fun _ _ _ _ _ _ => rfl) (fun s hs => by cases hs; rfl) (by simpa using hst))
        · obtain ⟨hP, hS⟩ := hst.std HTS2.out
          obtain ⟨hQ, hS2⟩ := hst.std HTT2.out
          refine wp_calledW (wanted_yes rfl rfl rfl (hgot 1 _ 73 rfl (hdep ⟨1, .chain⟩ (by simp) rfl) rfl)) (exec_call2 rfl rfl (eval_tmp (hgot 2 _ 74 rfl (hdep ⟨2, .data⟩ (by simp) rfl) rfl)) (eval_tmp (hgot 3 _ 75 rfl (hdep ⟨3, .data⟩ (by simp) rfl) rfl)) (enters_of Try.func17 (by kernel_rfl) rfl)) ((psame_p hP hQ s0 HS0).mono ?_)
          rintro e v' ⟨rfl, m1⟩
          exact ⟨_, rfl, hK x _ _ (fun _ _ _ _ _ _ => rfl) (fun s hs => by cases hs; rfl) (by simpa using hst.call m1)⟩
        · exact wp_ranW (wanted_yes rfl rfl rfl (hgot 1 _ 73 rfl (hdep ⟨1, .guard⟩ (by simp) rfl) rfl)) (exec_load rfl (eval_tmp ((hpar 3 rfl).trans rfl)) (run_loads (Cells.of_holds (hst.own (y := oB b3 24 cs) (by simp))) Try.underlying24 rfl (size24' h5))) (hK x _ _ (fun _ _ _ _ _ _ => rfl) (fun s hs => by cases hs; rfl) (by simpa using hst))
        · exact wp_ranW (wanted_yes rfl rfl rfl (hgot 1 _ 73 rfl (hdep ⟨1, .guard⟩ (by simp) rfl) rfl)) (exec_load rfl (eval_tmp ((hpar 4 rfl).trans rfl)) (run_loads (Cells.of_holds (hst.own (y := oB b4 24 ds) (by simp))) Try.underlying24 rfl (size24' h5q))) (hK x _ _ (fun _ _ _ _ _ _ => rfl) (fun s hs => by cases hs; rfl) (by simpa using hst))
        · obtain ⟨hP, hS⟩ := hst.std HTS2.out
          obtain ⟨hQ, hS2⟩ := hst.std HTT2.out
          refine wp_calledW (wanted_yes rfl rfl rfl (hgot 1 _ 73 rfl (hdep ⟨1, .guard⟩ (by simp) rfl) rfl)) (exec_call2 rfl rfl (eval_tmp (hgot 5 _ 77 rfl (hdep ⟨5, .data⟩ (by simp) rfl) rfl)) (eval_tmp (hgot 6 _ 78 rfl (hdep ⟨6, .data⟩ (by simp) rfl) rfl)) (enters_of Try.func13 (by kernel_rfl) rfl)) ((rsame_p hP hQ s0 HS0).mono ?_)
          rintro e v' ⟨rfl, m1⟩
          exact ⟨_, rfl, hK x _ _ (fun _ _ _ _ _ _ => rfl) (fun s hs => by cases hs; rfl) (by simpa using hst.call m1)⟩
        · exact wp_ranW (wanted_yes rfl rfl rfl (hgot 1 _ 73 rfl (hdep ⟨1, .guard⟩ (by simp) rfl) rfl)) (exec_eqb4 rfl (eval_tmp (hgot 4 _ 76 rfl (hdep ⟨4, .data⟩ (by simp) rfl) rfl)) (eval_tmp (hgot 7 _ 79 rfl (hdep ⟨7, .data⟩ (by simp) rfl) rfl))) (hK x _ _ (fun _ _ _ _ _ _ => rfl) (fun s hs => by cases hs; rfl) (by simpa using hst))
        · exact wp_ran rfl (exec_pick rfl (eval_tmp (hgot 1 _ 73 rfl (hdep ⟨1, .data⟩ (by simp) rfl) rfl)) (eval_tmp (hgot 8 _ 80 rfl (hdep ⟨8, .data⟩ (by simp) rfl) rfl)) rfl rfl) (hK x _ _ (fun _ _ _ _ _ _ => rfl) (fun s hs => by cases hs; rfl) (by simpa using hst))
        · exact wp_ran rfl (exec_move rfl (eval_tmp (hgot 9 _ 81 rfl (hdep ⟨9, .data⟩ (by simp) rfl) rfl))) (hK x _ _ (fun _ _ _ _ _ _ => rfl) (fun s hs => by cases hs; rfl) (by simpa using hst))
        · exact wp_ranW (wanted_yes rfl rfl rfl (hgot 10 _ 82 rfl (hdep ⟨10, .guard⟩ (by simp) rfl) rfl)) (exec_load rfl (eval_tmp ((hpar 3 rfl).trans rfl)) (run_loads (Cells.of_holds (hst.own (y := oB b3 24 cs) (by simp))) Try.underlying24 rfl (size24' h5))) (hK x _ _ (fun _ _ _ _ _ _ => rfl) (fun s hs => by cases hs; rfl) (by simpa using hst))
        · exact wp_ranW (wanted_yes rfl rfl rfl (hgot 10 _ 82 rfl (hdep ⟨10, .guard⟩ (by simp) rfl) rfl)) (exec_load rfl (eval_tmp ((hpar 3 rfl).trans rfl)) (run_loads (Cells.of_holds (hst.own (y := oB b3 24 cs) (by simp))) Try.underlying24 rfl (size24' h5))) (hK x _ _ (fun _ _ _ _ _ _ => rfl) (fun s hs => by cases hs; rfl) (by simpa using hst))
        · obtain ⟨hP, hS⟩ := hst.std HTS2.out
          rw [hlj] at hst
          refine wp_calledW (wanted_yes rfl rfl rfl (hgot 10 _ 82 rfl (hdep ⟨10, .chain⟩ (by simp) rfl) rfl)) (exec_call1 rfl rfl (eval_tmp (hgot 12 _ 84 rfl (hdep ⟨12, .data⟩ (by simp) rfl) rfl)) (enters_of Try.func10 (by kernel_rfl) rfl)) ((copied_p hP hS HLG.out).mono ?_)
          rintro e v' ⟨cs1, rfl, hP1, m1⟩
          refine ⟨_, rfl, hK ⟨x.1, cs1, x.2.2⟩ _ _ (fun j' o' s' g1 g2 g3 => by
              have g4 : j' < 17 := (Array.getElem?_eq_some_iff.1 g1).1
              clear hpar hgot hdep hK
              obtain rfl | rfl | rfl | rfl | rfl | rfl | rfl | rfl | rfl | rfl | rfl | rfl | rfl | rfl | rfl | rfl | rfl : j' = 0 ∨ j' = 1 ∨ j' = 2 ∨ j' = 3 ∨ j' = 4 ∨ j' = 5 ∨ j' = 6 ∨ j' = 7 ∨ j' = 8 ∨ j' = 9 ∨ j' = 10 ∨ j' = 11 ∨ j' = 12 ∨ j' = 13 ∨ j' = 14 ∨ j' = 15 ∨ j' = 16 := by omega
              all_goals (cases g1; cases g3 <;> first | rfl | (rw [hlj] at g2; cases g2))) (fun s hs => by cases hs; rfl) ?_⟩
          simpa using hst.copied hP1 m1
        · have t1 : lz 13 = true := (hdep ⟨13, .data⟩ (by simp) rfl)
          rw [t1] at hst
          obtain ⟨S1, hC, hS1⟩ := hst.copy
          obtain ⟨hP, hS⟩ := hst.std HTS2.out
          refine wp_calledW (wanted_yes rfl rfl rfl (hgot 10 _ 82 rfl (hdep ⟨10, .guard⟩ (by simp) rfl) rfl)) (exec_call2 rfl rfl (eval_tmp (hgot 11 _ 83 rfl (hdep ⟨11, .data⟩ (by simp) rfl) rfl)) (eval_tmp (hgot 13 _ 85 rfl (hdep ⟨13, .data⟩ (by simp) rfl) rfl)) (enters_of Try.func17 (by kernel_rfl) rfl)) ((psame_p hP hC true HSP).mono ?_)
          rintro e v' ⟨rfl, m1⟩
          exact ⟨_, rfl, hK x _ _ (fun _ _ _ _ _ _ => rfl) (fun s hs => by cases hs; rfl) (by simpa [t1] using hst.call m1)⟩
        · exact wp_ran rfl (exec_pick rfl (eval_tmp (hgot 10 _ 82 rfl (hdep ⟨10, .data⟩ (by simp) rfl) rfl)) (eval_tmp (hgot 14 _ 86 rfl (hdep ⟨14, .data⟩ (by simp) rfl) rfl)) rfl rfl) (hK x _ _ (fun _ _ _ _ _ _ => rfl) (fun s hs => by cases hs; rfl) (by simpa using hst))
        · exact wp_ran rfl (exec_assign rfl (eval_tmp (hgot 15 _ 87 rfl (hdep ⟨15, .data⟩ (by simp) rfl) rfl))) (hK x _ _ (fun _ _ _ _ _ _ => rfl) (fun s hs => by cases hs; rfl) (by simpa using hst))
      intro x lz v12 hlz hst
      rw [hlz 13 (by decide)] at hst
      obtain ⟨T13, F13, hTB13, hc13⟩ := hst
      have G13 : Fm w v12 [oB b7 24 cs7, oB b5 39 [ci u, .slice A n c], oB b4 24 ds, oB b3 24 cs] T13 := F13
      have HTS3 : Hid (tP S p0 cs ∈ T13) := Lib.hid (hTB13 _ HTS2.out)
      clear hlz F13 hTB13 hc13 G12
      simp only [setAll, Act.put, List.foldl_cons, List.foldl_nil, List.setIfInBounds_toArray, List.set_cons_succ, List.set_cons_zero]
      go_wp2_with fail
      refine wp_region_upx (X := XC) (⟨0, [], []⟩) (fun x => [(88, .bool true), (89, .bool true), (90, .agg cs.toArray), (91, .pointer (some ⟨b5, 0, none⟩)), (92, ci u), (93, .bool mw), (94, .agg cs.toArray), (95, .pointer (some ⟨b5, 0, none⟩)), (96, ci u), (97, .bool mw), (98, .bool true), (99, .bool true), (100, .bool true), (101, .agg cs.toArray), (102, .pointer (some ⟨b5, 0, none⟩)), (103, ci u), (104, .pointer (some ⟨b5, 1, none⟩)), (105, .slice A n c), (106, .bool mr), (107, .agg cs.toArray), (108, .pointer (some ⟨b5, 0, none⟩)), (109, ci u), (110, .pointer (some ⟨b5, 1, none⟩)), (111, .slice A n c), (112, .bool mr), (113, .bool true), (114, .bool true), (6, .bool true)]) 115 [88, 89, 90, 91, 92, 93, 94, 95, 96, 97, 98, 99, 100, 101, 102, 103, 104, 105, 106, 107, 108, 109, 110, 111, 112, 113, 114, 6] rfl (fun _ => rfl) (by decide) (by kernel_rfl) (fun x lz v => CgS w [oB b7 24 cs7, oB b5 39 [ci u, .slice A n c], oB b4 24 ds, oB b3 24 cs] T13 p0 p0 false false false false x v) (by kernel_rfl) (CgS.begin (G13.call (Mod.drew [] _)) _) (by kernel_rfl) (by kernel_rfl) ?_ ?_
      · skip
        intro x lz T v j o hj hlj hdep hst hpar hgot hcl Kq hK
        have hjn : j < 28 := (Array.getElem?_eq_some_iff.1 hj).1
        obtain rfl | rfl | rfl | rfl | rfl | rfl | rfl | rfl | rfl | rfl | rfl | rfl | rfl | rfl | rfl | rfl | rfl | rfl | rfl | rfl | rfl | rfl | rfl | rfl | rfl | rfl | rfl | rfl : j = 0 ∨ j = 1 ∨ j = 2 ∨ j = 3 ∨ j = 4 ∨ j = 5 ∨ j = 6 ∨ j = 7 ∨ j = 8 ∨ j = 9 ∨ j = 10 ∨ j = 11 ∨ j = 12 ∨ j = 13 ∨ j = 14 ∨ j = 15 ∨ j = 16 ∨ j = 17 ∨ j = 18 ∨ j = 19 ∨ j = 20 ∨ j = 21 ∨ j = 22 ∨ j = 23 ∨ j = 24 ∨ j = 25 ∨ j = 26 ∨ j = 27 := by omega
        all_goals (have hj' := Option.some.inj (hj : some _ = some o); subst hj'; clear hj)
        · exact wp_ran rfl (exec_move rfl (eval_tmp ((hpar 9 rfl).trans rfl))) (hK x _ _ (fun _ _ _ _ _ _ => rfl) (fun s hs => by cases hs; rfl) (by simpa using hst))
        · exact wp_ran rfl (exec_move rfl (eval_tmp (hgot 0 _ 88 rfl (hdep ⟨0, .data⟩ (by simp) rfl) rfl))) (hK x _ _ (fun _ _ _ _ _ _ => rfl) (fun s hs => by cases hs; rfl) (by simpa using hst))
        · exact wp_ranW (wanted_yes rfl rfl rfl (hgot 1 _ 89 rfl (hdep ⟨1, .guard⟩ (by simp) rfl) rfl)) (exec_load rfl (eval_tmp ((hpar 3 rfl).trans rfl)) (run_loads (Cells.of_holds (hst.own (y := oB b3 24 cs) (by simp))) Try.underlying24 rfl (size24' h5))) (hK x _ _ (fun _ _ _ _ _ _ => rfl) (fun s hs => by cases hs; rfl) (by simpa using hst))
        · exact wp_ranW (wanted_yes rfl rfl rfl (hgot 1 _ 89 rfl (hdep ⟨1, .guard⟩ (by simp) rfl) rfl)) (exec_fp39_0 rfl (eval_tmp ((hpar 5 rfl).trans rfl))) (hK x _ _ (fun _ _ _ _ _ _ => rfl) (fun s hs => by cases hs; rfl) (by simpa using hst))
        · exact wp_ranW (wanted_yes rfl rfl rfl (hgot 1 _ 89 rfl (hdep ⟨1, .guard⟩ (by simp) rfl) rfl)) (exec_load rfl (eval_tmp (hgot 3 _ 91 rfl (hdep ⟨3, .data⟩ (by simp) rfl) rfl)) (run_load1 Try.underlying3 rfl ((hst.own (y := oB b5 39 [ci u, .slice A n c]) (by simp) : Holds v b5 39 _).cell 0))) (hK x _ _ (fun _ _ _ _ _ _ => rfl) (fun s hs => by cases hs; rfl) (by simpa using hst))
        · obtain ⟨hP, hS⟩ := hst.std HTS3.out
          refine wp_calledW (wanted_yes rfl rfl rfl (hgot 1 _ 89 rfl (hdep ⟨1, .chain⟩ (by simp) rfl) rfl)) (exec_call2 rfl rfl (eval_tmp (hgot 2 _ 90 rfl (hdep ⟨2, .data⟩ (by simp) rfl) rfl)) (eval_tmp (hgot 4 _ 92 rfl (hdep ⟨4, .data⟩ (by simp) rfl) rfl)) (enters_of Try.func18 (by kernel_rfl) rfl)) ((mayW_p hP hS u mw HMW).mono ?_)
          rintro e v' ⟨rfl, m1⟩
          exact ⟨_, rfl, hK x _ _ (fun _ _ _ _ _ _ => rfl) (fun s hs => by cases hs; rfl) (by simpa using hst.call m1)⟩
        · exact wp_ranW (wanted_yes rfl rfl rfl (hgot 1 _ 89 rfl (hdep ⟨1, .guard⟩ (by simp) rfl) rfl)) (exec_load rfl (eval_tmp ((hpar 3 rfl).trans rfl)) (run_loads (Cells.of_holds (hst.own (y := oB b3 24 cs) (by simp))) Try.underlying24 rfl (size24' h5))) (hK x _ _ (fun _ _ _ _ _ _ => rfl) (fun s hs => by cases hs; rfl) (by simpa using hst))
        · exact wp_ranW (wanted_yes rfl rfl rfl (hgot 1 _ 89 rfl (hdep ⟨1, .guard⟩ (by simp) rfl) rfl)) (exec_fp39_0 rfl (eval_tmp ((hpar 5 rfl).trans rfl))) (hK x _ _ (fun _ _ _ _ _ _ => rfl) (fun s hs => by cases hs; rfl) (by simpa using hst))
        · exact wp_ranW (wanted_yes rfl rfl rfl (hgot 1 _ 89 rfl (hdep ⟨1, .guard⟩ (by simp) rfl) rfl)) (exec_load rfl (eval_tmp (hgot 7 _ 95 rfl (hdep ⟨7, .data⟩ (by simp) rfl) rfl)) (run_load1 Try.underlying3 rfl ((hst.own (y := oB b5 39 [ci u, .slice A n c]) (by simp) : Holds v b5 39 _).cell 0))) (hK x _ _ (fun _ _ _ _ _ _ => rfl) (fun s hs => by cases hs; rfl) (by simpa using hst))
        · obtain ⟨hP, hS⟩ := hst.std HTS3.out
          refine wp_calledW (wanted_yes rfl rfl rfl (hgot 1 _ 89 rfl (hdep ⟨1, .guard⟩ (by simp) rfl) rfl)) (exec_call2 rfl rfl (eval_tmp (hgot 6 _ 94 rfl (hdep ⟨6, .data⟩ (by simp) rfl) rfl)) (eval_tmp (hgot 8 _ 96 rfl (hdep ⟨8, .data⟩ (by simp) rfl) rfl)) (enters_of Try.func19 (by kernel_rfl) rfl)) ((rmayW_p hP hS u mw HMW).mono ?_)
          rintro e v' ⟨rfl, m1⟩
          exact ⟨_, rfl, hK x _ _ (fun _ _ _ _ _ _ => rfl) (fun s hs => by cases hs; rfl) (by simpa using hst.call m1)⟩
        · exact wp_ranW (wanted_yes rfl rfl rfl (hgot 1 _ 89 rfl (hdep ⟨1, .guard⟩ (by simp) rfl) rfl)) (exec_eqb4 rfl (eval_tmp (hgot 5 _ 93 rfl (hdep ⟨5, .data⟩ (by simp) rfl) rfl)) (eval_tmp (hgot 9 _ 97 rfl (hdep ⟨9, .data⟩ (by simp) rfl) rfl))) (hK x _ _ (fun _ _ _ _ _ _ => rfl) (fun s hs => by cases hs; rfl) (by simpa using hst))
        · exact wp_ran rfl (exec_pick rfl (eval_tmp (hgot 1 _ 89 rfl (hdep ⟨1, .data⟩ (by simp) rfl) rfl)) (eval_tmp (hgot 10 _ 98 rfl (hdep ⟨10, .data⟩ (by simp) rfl) rfl)) rfl rfl) (hK x _ _ (fun _ _ _ _ _ _ => rfl) (fun s hs => by cases hs; rfl) (by simpa using hst))
        · exact wp_ran rfl (exec_move rfl (eval_tmp (hgot 11 _ 99 rfl (hdep ⟨11, .data⟩ (by simp) rfl) rfl))) (hK x _ _ (fun _ _ _ _ _ _ => rfl) (fun s hs => by cases hs; rfl) (by simpa using hst))
        · exact wp_ranW (wanted_yes rfl rfl rfl (hgot 12 _ 100 rfl (hdep ⟨12, .guard⟩ (by simp) rfl) rfl)) (exec_load rfl (eval_tmp ((hpar 3 rfl).trans rfl)) (run_loads (Cells.of_holds (hst.own (y := oB b3 24 cs) (by simp))) Try.underlying24 rfl (size24' h5))) (hK x _ _ (fun _ _ _ _ _ _ => rfl) (fun s hs => by cases hs; rfl) (by simpa using hst))
        · exact wp_ranW (wanted_yes rfl rfl rfl (hgot 12 _ 100 rfl (hdep ⟨12, .guard⟩ (by simp) rfl) rfl)) (exec_fp39_0 rfl (eval_tmp ((hpar 5 rfl).trans rfl))) (hK x _ _ (fun _ _ _ _ _ _ => rfl) (fun s hs => by cases hs; rfl) (by simpa using hst))
        · exact wp_ranW (wanted_yes rfl rfl rfl (hgot 12 _ 100 rfl (hdep ⟨12, .guard⟩ (by simp) rfl) rfl)) (exec_load rfl (eval_tmp (hgot 14 _ 102 rfl (hdep ⟨14, .data⟩ (by simp) rfl) rfl)) (run_load1 Try.underlying3 rfl ((hst.own (y := oB b5 39 [ci u, .slice A n c]) (by simp) : Holds v b5 39 _).cell 0))) (hK x _ _ (fun _ _ _ _ _ _ => rfl) (fun s hs => by cases hs; rfl) (by simpa using hst))
        · exact wp_ranW (wanted_yes rfl rfl rfl (hgot 12 _ 100 rfl (hdep ⟨12, .guard⟩ (by simp) rfl) rfl)) (exec_fp39_1 rfl (eval_tmp ((hpar 5 rfl).trans rfl))) (hK x _ _ (fun _ _ _ _ _ _ => rfl) (fun s hs => by cases hs; rfl) (by simpa using hst))
        · exact wp_ranW (wanted_yes rfl rfl rfl (hgot 12 _ 100 rfl (hdep ⟨12, .guard⟩ (by simp) rfl) rfl)) (exec_load rfl (eval_tmp (hgot 16 _ 104 rfl (hdep ⟨16, .data⟩ (by simp) rfl) rfl)) (run_load1 Try.underlying37 rfl ((hst.own (y := oB b5 39 [ci u, .slice A n c]) (by simp) : Holds v b5 39 _).cell 1))) (hK x _ _ (fun _ _ _ _ _ _ => rfl) (fun s hs => by cases hs; rfl) (by simpa using hst))
        · obtain ⟨hP, hS⟩ := hst.std HTS3.out
          refine wp_calledW (wanted_yes rfl rfl rfl (hgot 12 _ 100 rfl (hdep ⟨12, .chain⟩ (by simp) rfl) rfl)) (exec_call3 rfl rfl (eval_tmp (hgot 13 _ 101 rfl (hdep ⟨13, .data⟩ (by simp) rfl) rfl)) (eval_tmp (hgot 15 _ 103 rfl (hdep ⟨15, .data⟩ (by simp) rfl) rfl)) (eval_tmp (hgot 17 _ 105 rfl (hdep ⟨17, .data⟩ (by simp) rfl) rfl)) (enters_of Try.func20 (by kernel_rfl) rfl)) ((mayR_q hP hS u A n c m (HM.out.call hst.mod) mr HMR).mono ?_)
          rintro e v' ⟨rfl, m1⟩
          exact ⟨_, rfl, hK x _ _ (fun _ _ _ _ _ _ => rfl) (fun s hs => by cases hs; rfl) (by simpa using hst.call m1)⟩
        · exact wp_ranW (wanted_yes rfl rfl rfl (hgot 12 _ 100 rfl (hdep ⟨12, .guard⟩ (by simp) rfl) rfl)) (exec_load rfl (eval_tmp ((hpar 3 rfl).trans rfl)) (run_loads (Cells.of_holds (hst.own (y := oB b3 24 cs) (by simp))) Try.underlying24 rfl (size24' h5))) (hK x _ _ (fun _ _ _ _ _ _ => rfl) (fun s hs => by cases hs; rfl) (by simpa using hst))
        · exact wp_ranW (wanted_yes rfl rfl rfl (hgot 12 _ 100 rfl (hdep ⟨12, .guard⟩ (by simp) rfl) rfl)) (exec_fp39_0 rfl (eval_tmp ((hpar 5 rfl).trans rfl))) (hK x _ _ (fun _ _ _ _ _ _ => rfl) (fun s hs => by cases hs; rfl) (by simpa using hst))
        · exact wp_ranW (wanted_yes rfl rfl rfl (hgot 12 _ 100 rfl (hdep ⟨12, .guard⟩ (by simp) rfl) rfl)) (exec_load rfl (eval_tmp (hgot 20 _ 108 rfl (hdep ⟨20, .data⟩ (by simp) rfl) rfl)) (run_load1 Try.underlying3 rfl ((hst.own (y := oB b5 39 [ci u, .slice A n c]) (by simp) : Holds v b5 39 _).cell 0))) (hK x _ _ (fun _ _ _ _ _ _ => rfl) (fun s hs => by cases hs; rfl) (by simpa using hst))
        · exact wp_ranW (wanted_yes rfl rfl rfl (hgot 12 _ 100 rfl (hdep ⟨12, .guard⟩ (by simp) rfl) rfl)) (exec_fp39_1 rfl (eval_tmp ((hpar 5 rfl).trans rfl))) (hK x _ _ (fun _ _ _ _ _ _ => rfl) (fun s hs => by cases hs; rfl) (by simpa using hst))
        · exact wp_ranW (wanted_yes rfl rfl rfl (hgot 12 _ 100 rfl (hdep ⟨12, .guard⟩ (by simp) rfl) rfl)) (exec_load rfl (eval_tmp (hgot 22 _ 110 rfl (hdep ⟨22, .data⟩ (by simp) rfl) rfl)) (run_load1 Try.underlying37 rfl ((hst.own (y := oB b5 39 [ci u, .slice A n c]) (by simp) : Holds v b5 39 _).cell 1))) (hK x _ _ (fun _ _ _ _ _ _ => rfl) (fun s hs => by cases hs; rfl) (by simpa using hst))
        · obtain ⟨hP, hS⟩ := hst.std HTS3.out
          refine wp_calledW (wanted_yes rfl rfl rfl (hgot 12 _ 100 rfl (hdep ⟨12, .guard⟩ (by simp) rfl) rfl)) (exec_call3 rfl rfl (eval_tmp (hgot 19 _ 107 rfl (hdep ⟨19, .data⟩ (by simp) rfl) rfl)) (eval_tmp (hgot 21 _ 109 rfl (hdep ⟨21, .data⟩ (by simp) rfl) rfl)) (eval_tmp (hgot 23 _ 111 rfl (hdep ⟨23, .data⟩ (by simp) rfl) rfl)) (enters_of Try.func21 (by kernel_rfl) rfl)) ((rmayR_q hP hS u A n c m (HM.out.call hst.mod) mr HMR).mono ?_)
          rintro e v' ⟨rfl, m1⟩
          exact ⟨_, rfl, hK x _ _ (fun _ _ _ _ _ _ => rfl) (fun s hs => by cases hs; rfl) (by simpa using hst.call m1)⟩
        · exact wp_ranW (wanted_yes rfl rfl rfl (hgot 12 _ 100 rfl (hdep ⟨12, .guard⟩ (by simp) rfl) rfl)) (exec_eqb4 rfl (eval_tmp (hgot 18 _ 106 rfl (hdep ⟨18, .data⟩ (by simp) rfl) rfl)) (eval_tmp (hgot 24 _ 112 rfl (hdep ⟨24, .data⟩ (by simp) rfl) rfl))) (hK x _ _ (fun _ _ _ _ _ _ => rfl) (fun s hs => by cases hs; rfl) (by simpa using hst))
        · exact wp_ran rfl (exec_pick rfl (eval_tmp (hgot 12 _ 100 rfl (hdep ⟨12, .data⟩ (by simp) rfl) rfl)) (eval_tmp (hgot 25 _ 113 rfl (hdep ⟨25, .data⟩ (by simp) rfl) rfl)) rfl rfl) (hK x _ _ (fun _ _ _ _ _ _ => rfl) (fun s hs => by cases hs; rfl) (by simpa using hst))
        · exact wp_ran rfl (exec_assign rfl (eval_tmp (hgot 26 _ 114 rfl (hdep ⟨26, .data⟩ (by simp) rfl) rfl))) (hK x _ _ (fun _ _ _ _ _ _ => rfl) (fun s hs => by cases hs; rfl) (by simpa using hst))
      intro x lz v13 hlz hst
      have MM := hst.mod
      clear hst hlz
      simp only [setAll, Act.put, List.foldl_cons, List.foldl_nil, List.setIfInBounds_toArray, List.set_cons_succ, List.set_cons_zero]
      go_wp2_with fail
      go_ret
      exact ⟨rfl, MM⟩
  have dz1 : decide (u < 1) = false := decide_eq_false z1
  by_cases z2 : 6 < u
  case pos =>
    have dz2 : decide (6 < u) = true := decide_eq_true z2
    have f : newR u = (2, zp) := by
      unfold newR upTo
      rw [decide_eq_false (show ¬ u ≤ 6 by omega), Bool.and_false]; rfl
    rw [f] at NW
    clear f z2
    have HN : Hid (sameB zp zp = true) := Lib.hid ((sameB_iff _ _).2 rfl)
    go_enter Try.func4, Try.ntmps4
    go_wp2_with (first
      | (with_reducible refine fm_box FA (o := ⟨some 3, .box 24 (.tmp 0), _, _, _, _⟩) rfl 24 (.tmp 0) rfl cs rfl ?_; intro b3 w1 F1; clear FA)
      | (with_reducible refine fm_box F1 (o := ⟨some 4, .box 24 (.tmp 1), _, _, _, _⟩) rfl 24 (.tmp 1) rfl ds rfl ?_; intro b4 w2 F2; clear F1)
      | (with_reducible refine fm_box F2 (o := ⟨some 5, .box 39 (.tmp 2), _, _, _, _⟩) rfl 39 (.tmp 2) rfl [ci u, .slice A n c] rfl ?_; intro b5 w3 F3; clear F2)
      | (go_at_call 7; refine (wakes_c w3).mono ?_; rintro e w4 ⟨rfl, m4⟩; have F4 := F3.call m4; clear F3 m4)
      | (with_reducible refine fm_load F4 2 rfl (o := ⟨some 12, .load 24 (.tmp 3), _, _, _, _⟩) rfl (.tmp 3) rfl rfl h5 ?_)
      | (go_at_call 8; refine (large_p (F4.k _ (.inr HTS.out)).2.1 _ HLG).mono ?_; rintro e w5 ⟨rfl, m5⟩; have F5 := F4.call m5; clear F4 m5)
      | (with_reducible refine fm_loadG F5 1 rfl (o := ⟨some 15, .load 24 (.tmp 4), _, _, _, _⟩) (by with_unfolding_all rfl) (.tmp 4) rfl rfl h5q ?_)
      | (go_at_call 8; refine (large_p (F5.k _ (.inr HTT.out)).2.1 _ HLQ).mono ?_
         rintro e w6 ⟨rfl, m6⟩
         have F6 := F5.call m6
         have q5 : w6.cell? ⟨b5, 0, none⟩ = some (ci u) := (F6.blk 0 rfl : Holds w6 b5 39 [ci u, .slice A n c]).cell 0
         have q6 : w6.cell? ⟨b5, 1, none⟩ = some (.slice A n c) := (F6.blk 0 rfl : Holds w6 b5 39 [ci u, .slice A n c]).cell 1
         clear F5 m6)
      | (go_at_call 14; refine (NW.out w6).mono ?_
         rintro e w7 ⟨cs7, rfl, hP7, m7⟩
         simp only at hP7
         have F7 := (F6.put m7 (tP _ _ cs7) (keeps_tP _ _ _) hP7 (fun g hg => .inl hg))
         have h57 := hP7.len
         have h1 := hP7.one
         have HP7 := Lib.hid hP7
         clear F6 m7 hP7 q5 q6)
      | (with_reducible refine fm_alloc F7 (o := ⟨some 7, .alloc 24, _, _, _, _⟩) rfl 24 rfl _ zero24 ?_; intro b7 w8 F8; clear F7)
      | (with_reducible refine fm_store F8 0 rfl (o := ⟨none, .store 24 (.tmp 7) (.tmp 28), _, _, _, _⟩) rfl (.tmp 7) (.tmp 28) rfl rfl cs7 rfl rfl h57 rfl h1 ?_
         intro w9 F9
         have q5 : w9.cell? ⟨b5, 0, none⟩ = some (ci u) := (F9.blk 1 rfl : Holds w9 b5 39 [ci u, .slice A n c]).cell 0
         have q6 : w9.cell? ⟨b5, 1, none⟩ = some (.slice A n c) := (F9.blk 1 rfl : Holds w9 b5 39 [ci u, .slice A n c]).cell 1
         clear F8)
      | (with_reducible refine fm_loadG F9 0 rfl (o := ⟨some 41, .load 24 (.tmp 7), _, _, _, _⟩) (by with_unfolding_all rfl) (.tmp 7) rfl rfl h57 ?_)
      | (go_at_call 13; refine (rsame_p (F9.s 0 rfl) (PIs.zero _ (fun _ => False)) true HN).mono ?_
         rintro e w10 ⟨rfl, m10⟩
         have G11 := (F9.call m10).weak
         clear F9 m10 q5 q6))
    clear HP7 h57 h1
    cases b0
    · refine wp_region_upx (X := XC) (⟨0, [], []⟩) (fun x => [(56, .agg cs.toArray), (57, .agg x.2.1.toArray), (58, .int .i64 210), (59, .bool false), (60, .agg cs.toArray), (61, .bool false), (62, .bool true), (63, .bool true), (64, .agg cs.toArray), (65, .bool false), (66, .bool false), (67, .agg cs.toArray), (68, .int .i64 210), (69, .bool true), (70, .bool true), (71, .bool true), (9, .bool true)]) 115 [56, 57, 58, 59, 60, 61, 62, 63, 64, 65, 66, 67, 68, 69, 70, 71, 9] rfl (fun _ => rfl) (by decide) (by kernel_rfl) (fun x lz v => CgS w [oB b7 24 cs7, oB b5 39 [ci u, .slice A n c], oB b4 24 ds, oB b3 24 cs] TB p0 p0 (lz 1) false false false x v) (by kernel_rfl) (CgS.begin (G11.call (Mod.drew [] _)) _) (by kernel_rfl) (by kernel_rfl) ?_ ?_
      · skip
        intro x lz T v j o hj hlj hdep hst hpar hgot hcl Kq hK
        have hjn : j < 17 := (Array.getElem?_eq_some_iff.1 hj).1
        obtain rfl | rfl | rfl | rfl | rfl | rfl | rfl | rfl | rfl | rfl | rfl | rfl | rfl | rfl | rfl | rfl | rfl : j = 0 ∨ j = 1 ∨ j = 2 ∨ j = 3 ∨ j = 4 ∨ j = 5 ∨ j = 6 ∨ j = 7 ∨ j = 8 ∨ j = 9 ∨ j = 10 ∨ j = 11 ∨ j = 12 ∨ j = 13 ∨ j = 14 ∨ j = 15 ∨ j = 16 := by omega
        all_goals (have hj' := Option.some.inj (hj : some _ = some o); subst hj'; clear hj)
        · exact wp_ran rfl (exec_load rfl (eval_tmp ((hpar 3 rfl).trans rfl)) (run_loads (Cells.of_holds (hst.own (y := oB b3 24 cs) (by simp))) Try.underlying24 rfl (size24' h5))) (hK x _ _ (fun _ _ _ _ _ _ => rfl) (fun s hs => by cases hs; rfl) (by simpa using hst))
        · obtain ⟨hP, hS⟩ := hst.std HTS.out
          rw [hlj] at hst
          refine wp_called rfl (exec_call1 rfl rfl (eval_tmp (hgot 0 _ 56 rfl (hdep ⟨0, .data⟩ (by simp) rfl) rfl)) (enters_of Try.func10 (by kernel_rfl) rfl)) ((copied_p hP hS HLG.out).mono ?_)
          rintro e v' ⟨cs1, rfl, hP1, m1⟩
          refine ⟨_, rfl, hK ⟨x.1, cs1, x.2.2⟩ _ _ (fun j' o' s' g1 g2 g3 => by
              have g4 : j' < 17 := (Array.getElem?_eq_some_iff.1 g1).1
              clear hpar hgot hdep hK
              obtain rfl | rfl | rfl | rfl | rfl | rfl | rfl | rfl | rfl | rfl | rfl | rfl | rfl | rfl | rfl | rfl | rfl : j' = 0 ∨ j' = 1 ∨ j' = 2 ∨ j' = 3 ∨ j' = 4 ∨ j' = 5 ∨ j' = 6 ∨ j' = 7 ∨ j' = 8 ∨ j' = 9 ∨ j' = 10 ∨ j' = 11 ∨ j' = 12 ∨ j' = 13 ∨ j' = 14 ∨ j' = 15 ∨ j' = 16 := by omega
              all_goals (cases g1; cases g3 <;> first | rfl | (rw [hlj] at g2; cases g2))) (fun s hs => by cases hs; rfl) ?_⟩
          simpa using hst.copied hP1 m1
        · have t1 : lz 1 = true := (hdep ⟨1, .data⟩ (by simp) rfl)
          rw [t1] at hst
          obtain ⟨S1, hC, hS1⟩ := hst.copy
          refine wp_called rfl (exec_call1 rfl rfl (eval_tmp (hgot 1 _ 57 rfl (hdep ⟨1, .data⟩ (by simp) rfl) rfl)) (enters_of Try.func15 (by kernel_rfl) rfl)) ((check_p hC false HB0).mono ?_)
          rintro e v' ⟨rfl, m1⟩
          exact ⟨_, rfl, hK x _ _ (fun _ _ _ _ _ _ => rfl) (fun s hs => by cases hs; rfl) (by simpa [t1] using hst.call m1)⟩
        · exact wp_ran rfl (exec_eqi rfl rfl (eval_tmp (hgot 2 _ 58 rfl (hdep ⟨2, .data⟩ (by simp) rfl) rfl)) rfl) (hK x _ _ (fun _ _ _ _ _ _ => rfl) (fun s hs => by cases hs; rfl) (by simpa using hst))
        · exact wp_ran rfl (exec_load rfl (eval_tmp ((hpar 3 rfl).trans rfl)) (run_loads (Cells.of_holds (hst.own (y := oB b3 24 cs) (by simp))) Try.underlying24 rfl (size24' h5))) (hK x _ _ (fun _ _ _ _ _ _ => rfl) (fun s hs => by cases hs; rfl) (by simpa using hst))
        · obtain ⟨hP, hS⟩ := hst.std HTS.out
          refine wp_called rfl (exec_call1 rfl rfl (eval_tmp (hgot 4 _ 60 rfl (hdep ⟨4, .data⟩ (by simp) rfl) rfl)) (enters_of Try.func16 (by kernel_rfl) rfl)) ((right_p hP false HB0).mono ?_)
          rintro e v' ⟨rfl, m1⟩
          exact ⟨_, rfl, hK x _ _ (fun _ _ _ _ _ _ => rfl) (fun s hs => by cases hs; rfl) (by simpa using hst.call m1)⟩
        · exact wp_ran rfl (exec_eqb4 rfl (eval_tmp (hgot 3 _ 59 rfl (hdep ⟨3, .data⟩ (by simp) rfl) rfl)) (eval_tmp (hgot 5 _ 61 rfl (hdep ⟨5, .data⟩ (by simp) rfl) rfl))) (hK x _ _ (fun _ _ _ _ _ _ => rfl) (fun s hs => by cases hs; rfl) (by simpa using hst))
        · exact wp_ran rfl (exec_move rfl (eval_tmp (hgot 6 _ 62 rfl (hdep ⟨6, .data⟩ (by simp) rfl) rfl))) (hK x _ _ (fun _ _ _ _ _ _ => rfl) (fun s hs => by cases hs; rfl) (by simpa using hst))
        · exact wp_ranW (wanted_yes rfl rfl rfl (hgot 7 _ 63 rfl (hdep ⟨7, .guard⟩ (by simp) rfl) rfl)) (exec_load rfl (eval_tmp ((hpar 3 rfl).trans rfl)) (run_loads (Cells.of_holds (hst.own (y := oB b3 24 cs) (by simp))) Try.underlying24 rfl (size24' h5))) (hK x _ _ (fun _ _ _ _ _ _ => rfl) (fun s hs => by cases hs; rfl) (by simpa using hst))
        · obtain ⟨hP, hS⟩ := hst.std HTS.out
          refine wp_calledW (wanted_yes rfl rfl rfl (hgot 7 _ 63 rfl (hdep ⟨7, .chain⟩ (by simp) rfl) rfl)) (exec_call1 rfl rfl (eval_tmp (hgot 8 _ 64 rfl (hdep ⟨8, .data⟩ (by simp) rfl) rfl)) (enters_of Try.func16 (by kernel_rfl) rfl)) ((right_p hP false HB0).mono ?_)
          rintro e v' ⟨rfl, m1⟩
          exact ⟨_, rfl, hK x _ _ (fun _ _ _ _ _ _ => rfl) (fun s hs => by cases hs; rfl) (by simpa using hst.call m1)⟩
        · exact wp_ranW (wanted_yes rfl rfl rfl (hgot 7 _ 63 rfl (hdep ⟨7, .guard⟩ (by simp) rfl) rfl)) (exec_move rfl (eval_tmp (hgot 9 _ 65 rfl (hdep ⟨9, .data⟩ (by simp) rfl) rfl))) (hK x _ _ (fun _ _ _ _ _ _ => rfl) (fun s hs => by cases hs; rfl) (by simpa using hst))
        · exact wp_ranW (wanted_yes rfl rfl rfl (hgot 10 _ 66 rfl (hdep ⟨10, .guard⟩ (by simp) rfl) rfl)) (exec_load rfl (eval_tmp ((hpar 3 rfl).trans rfl)) (run_loads (Cells.of_holds (hst.own (y := oB b3 24 cs) (by simp))) Try.underlying24 rfl (size24' h5))) (hK x _ _ (fun _ _ _ _ _ _ => rfl) (fun s hs => by cases hs; rfl) (by simpa using hst))
        · obtain ⟨hP, hS⟩ := hst.std HTS.out
          refine wp_calledW (wanted_yes rfl rfl rfl (hgot 10 _ 66 rfl (hdep ⟨10, .chain⟩ (by simp) rfl) rfl)) (exec_call1 rfl rfl (eval_tmp (hgot 11 _ 67 rfl (hdep ⟨11, .data⟩ (by simp) rfl) rfl)) (enters_of Try.func15 (by kernel_rfl) rfl)) ((check_p hP false HB0).mono ?_)
          rintro e v' ⟨rfl, m1⟩
          exact ⟨_, rfl, hK x _ _ (fun _ _ _ _ _ _ => rfl) (fun s hs => by cases hs; rfl) (by simpa using hst.call m1)⟩
        · exact wp_ranW (wanted_yes rfl rfl rfl (hgot 10 _ 66 rfl (hdep ⟨10, .guard⟩ (by simp) rfl) rfl)) (exec_eqi rfl rfl (eval_tmp (hgot 12 _ 68 rfl (hdep ⟨12, .data⟩ (by simp) rfl) rfl)) rfl) (hK x _ _ (fun _ _ _ _ _ _ => rfl) (fun s hs => by cases hs; rfl) (by simpa using hst))
        · exact wp_ranW (wanted_yes rfl rfl rfl (hgot 7 _ 63 rfl (hdep ⟨7, .guard⟩ (by simp) rfl) rfl)) (exec_pick rfl (eval_tmp (hgot 10 _ 66 rfl (hdep ⟨10, .data⟩ (by simp) rfl) rfl)) rfl (eval_tmp (hgot 13 _ 69 rfl (hdep ⟨13, .data⟩ (by simp) rfl) rfl)) rfl) (hK x _ _ (fun _ _ _ _ _ _ => rfl) (fun s hs => by cases hs; rfl) (by simpa using hst))
        · exact wp_ran rfl (exec_pick rfl (eval_tmp (hgot 7 _ 63 rfl (hdep ⟨7, .data⟩ (by simp) rfl) rfl)) (eval_tmp (hgot 14 _ 70 rfl (hdep ⟨14, .data⟩ (by simp) rfl) rfl)) rfl rfl) (hK x _ _ (fun _ _ _ _ _ _ => rfl) (fun s hs => by cases hs; rfl) (by simpa using hst))
        · exact wp_ran rfl (exec_assign rfl (eval_tmp (hgot 15 _ 71 rfl (hdep ⟨15, .data⟩ (by simp) rfl) rfl))) (hK x _ _ (fun _ _ _ _ _ _ => rfl) (fun s hs => by cases hs; rfl) (by simpa using hst))
      intro x lz v11 hlz hst
      rw [hlz 1 (by decide)] at hst
      obtain ⟨T12, F12, hTB12, hc12⟩ := hst
      have G12 : Fm w v11 [oB b7 24 cs7, oB b5 39 [ci u, .slice A n c], oB b4 24 ds, oB b3 24 cs] T12 := F12
      have HTS2 : Hid (tP S p0 cs ∈ T12) := Lib.hid (hTB12 _ HTS.out)
      have HTT2 : Hid (tP T q0 ds ∈ T12) := Lib.hid (hTB12 _ HTT.out)
      clear hlz F12 hTB12 hc12 G11
      simp only [setAll, Act.put, List.foldl_cons, List.foldl_nil, List.setIfInBounds_toArray, List.set_cons_succ, List.set_cons_zero]
      go_wp2_with fail
      refine wp_region_upxo (X := XC) (⟨0, [], []⟩) (fun x => [(72, .bool true), (73, .bool true), (74, .agg cs.toArray), (75, .agg ds.toArray), (76, .bool s0), (77, .agg cs.toArray), (78, .agg ds.toArray), (79, .bool s0), (80, .bool true), (81, .bool true), (82, .bool true), (83, .agg cs.toArray), (84, .agg cs.toArray), (85, .agg x.2.1.toArray), (86, .bool true), (87, .bool true), (9, .bool true)]) 115 [72, 73, 74, 75, 76, 77, 78, 79, 80, 81, 82, 83, 84, 85, 86, 87, 9] rfl (fun _ => rfl) (by decide) (by kernel_rfl) (fun x lz v => CgS w [oB b7 24 cs7, oB b5 39 [ci u, .slice A n c], oB b4 24 ds, oB b3 24 cs] T12 p0 p0 (lz 13) false false false x v) (by kernel_rfl) (CgS.begin (G12.call (Mod.drew [] _)) _) (by kernel_rfl) (by kernel_rfl) ?_ ?_
      · skip
        intro x lz T v j o hj hlj hdep hst hpar hgot hcl hdf hold Kq hK
        have hjn : j < 17 := (Array.getElem?_eq_some_iff.1 hj).1
        obtain rfl | rfl | rfl | rfl | rfl | rfl | rfl | rfl | rfl | rfl | rfl | rfl | rfl | rfl | rfl | rfl | rfl : j = 0 ∨ j = 1 ∨ j = 2 ∨ j = 3 ∨ j = 4 ∨ j = 5 ∨ j = 6 ∨ j = 7 ∨ j = 8 ∨ j = 9 ∨ j = 10 ∨ j = 11 ∨ j = 12 ∨ j = 13 ∨ j = 14 ∨ j = 15 ∨ j = 16 := by omega
        all_goals (have hj' := Option.some.inj (hj : some _ = some o); subst hj'; clear hj)
        · have l16 : lz 16 = false := (by cases hh : lz 16 with | false => rfl | true => exact absurd (hcl 16 _ rfl hh ⟨0, .phase⟩ (by simp) rfl) (by rw [hlj]; simp))
          have h9 : T.tmps[9]? = some (.bool true) := (hold 9 (fun j o' h1 h2 h3 => by
            have g4 : j < 17 := (Array.getElem?_eq_some_iff.1 h1).1
            clear hpar hgot hdep hK hold
            obtain rfl | rfl | rfl | rfl | rfl | rfl | rfl | rfl | rfl | rfl | rfl | rfl | rfl | rfl | rfl | rfl | rfl : j = 0 ∨ j = 1 ∨ j = 2 ∨ j = 3 ∨ j = 4 ∨ j = 5 ∨ j = 6 ∨ j = 7 ∨ j = 8 ∨ j = 9 ∨ j = 10 ∨ j = 11 ∨ j = 12 ∨ j = 13 ∨ j = 14 ∨ j = 15 ∨ j = 16 := by omega
            all_goals (cases h1; first | (cases h3; done) | (rw [l16] at h2; cases h2)))).trans rfl
          exact wp_ran rfl (exec_move rfl (eval_tmp h9)) (hK x _ _ (fun _ _ _ _ _ _ => rfl) (fun s hs => by cases hs; rfl) (by simpa using hst))
        · exact wp_ran rfl (exec_move rfl (eval_tmp (hgot 0 _ 72 rfl (hdep ⟨0, .data⟩ (by simp) rfl) rfl))) (hK x _ _ (fun _ _ _ _ _ _ => rfl) (fun s hs => by cases hs; rfl) (by simpa using hst))
        · exact wp_ranW (wanted_yes rfl rfl rfl (hgot 1 _ 73 rfl (hdep ⟨1, .guard⟩ (by simp) rfl) rfl)) (exec_load rfl (eval_tmp ((hpar 3 rfl).trans rfl)) (run_loads (Cells.of_holds (hst.own (y := oB b3 24 cs) (by simp))) Try.underlying24 rfl (size24' h5))) (hK x _ _ (fun _ _ _ _ _ _ => rfl) (fun s hs => by cases hs; rfl) (by simpa using hst))
        · exact wp_ranW (wanted_yes rfl rfl rfl (hgot 1 _ 73 rfl (hdep ⟨1, .guard⟩ (by simp) rfl) rfl)) (exec_load rfl (eval_tmp ((hpar 4 rfl).trans rfl)) (run_loads (Cells.of_holds (hst.own (y := oB b4 24 ds) (by simp))) Try.underlying24 rfl (size24' h5q))) (hK x _ _ (fun _ _ _ _ _ _ => rfl) (fun s hs => by cases hs; rfl) (by simpa using hst))
        · obtain ⟨hP, hS⟩ := hst.std HTS2.out
          obtain ⟨hQ, hS2⟩ := hst.std HTT2.out
          refine wp_calledW (wanted_yes rfl rfl rfl (hgot 1 _ 73 rfl (hdep ⟨1, .chain⟩ (by simp) rfl) rfl)) (exec_call2 rfl rfl (eval_tmp (hgot 2 _ 74 rfl (hdep ⟨2, .data⟩ (by simp) rfl) rfl)) (eval_tmp (hgot 3 _ 75 rfl (hdep ⟨3, .data⟩ (by simp) rfl) rfl)) (enters_of Try.func17 (by kernel_rfl) rfl)) ((psame_p hP hQ s0 HS0).mono ?_)
          rintro e v' ⟨rfl, m1⟩
          exact ⟨_, rfl, hK x _ _ (fun _ _ _ _ _ _ => rfl) (fun s hs => by cases hs; rfl) (by simpa using hst.call m1)⟩
        · exact wp_ranW (wanted_yes rfl rfl rfl (hgot 1 _ 73 rfl (hdep ⟨1, .guard⟩ (by simp) rfl) rfl)) (exec_load rfl (eval_tmp ((hpar 3 rfl).trans rfl)) (run_loads (Cells.of_holds (hst.own (y := oB b3 24 cs) (by simp))) Try.underlying24 rfl (size24' h5))) (hK x _ _ (fun _ _ _ _ _ _ => rfl) (fun s hs => by cases hs; rfl) (by simpa using hst))
        · exact wp_ranW (wanted_yes rfl rfl rfl (hgot 1 _ 73 rfl (hdep ⟨1, .guard⟩ (by simp) rfl) rfl)) (exec_load rfl (eval_tmp ((hpar 4 rfl).trans rfl)) (run_loads (Cells.of_holds (hst.own (y := oB b4 24 ds) (by simp))) Try.underlying24 rfl (size24' h5q))) (hK x _ _ (fun _ _ _ _ _ _ => rfl) (fun s hs => by cases hs; rfl) (by simpa using hst))
        · obtain ⟨hP, hS⟩ := hst.std HTS2.out
          obtain ⟨hQ, hS2⟩ := hst.std HTT2.out
          refine wp_calledW (wanted_yes rfl rfl rfl (hgot 1 _ 73 rfl (hdep ⟨1, .guard⟩ (by simp) rfl) rfl)) (exec_call2 rfl rfl (eval_tmp (hgot 5 _ 77 rfl (hdep ⟨5, .data⟩ (by simp) rfl) rfl)) (eval_tmp (hgot 6 _ 78 rfl (hdep ⟨6, .data⟩ (by simp) rfl) rfl)) (enters_of Try.func13 (by kernel_rfl) rfl)) ((rsame_p hP hQ s0 HS0).mono ?_)
          rintro e v' ⟨rfl, m1⟩
          exact ⟨_, rfl, hK x _ _ (fun _ _ _ _ _ _ => rfl) (fun s hs => by cases hs; rfl) (by simpa using hst.call m1)⟩
        · exact wp_ranW (wanted_yes rfl rfl rfl (hgot 1 _ 73 rfl (hdep ⟨1, .guard⟩ (by simp) rfl) rfl)) (exec_eqb4 rfl (eval_tmp (hgot 4 _ 76 rfl (hdep ⟨4, .data⟩ (by simp) rfl) rfl)) (eval_tmp (hgot 7 _ 79 rfl (hdep ⟨7, .data⟩ (by simp) rfl) rfl))) (hK x _ _ (fun _ _ _ _ _ _ => rfl) (fun s hs => by cases hs; rfl) (by simpa using hst))
        · exact wp_ran rfl (exec_pick rfl (eval_tmp (hgot 1 _ 73 rfl (hdep ⟨1, .data⟩ (by simp) rfl) rfl)) (eval_tmp (hgot 8 _ 80 rfl (hdep ⟨8, .data⟩ (by simp) rfl) rfl)) rfl rfl) (hK x _ _ (fun _ _ _ _ _ _ => rfl) (fun s hs => by cases hs; rfl) (by simpa using hst))
        · exact wp_ran rfl (exec_move rfl (eval_tmp (hgot 9 _ 81 rfl (hdep ⟨9, .data⟩ (by simp) rfl) rfl))) (hK x _ _ (fun _ _ _ _ _ _ => rfl) (fun s hs => by cases hs; rfl) (by simpa using hst))
        · exact wp_ranW (wanted_yes rfl rfl rfl (hgot 10 _ 82 rfl (hdep ⟨10, .guard⟩ (by simp) rfl) rfl)) (exec_load rfl (eval_tmp ((hpar 3 rfl).trans rfl)) (run_loads (Cells.of_holds (hst.own (y := oB b3 24 cs) (by simp))) Try.underlying24 rfl (size24' h5))) (hK x _ _ (fun _ _ _ _ _ _ => rfl) (fun s hs => by cases hs; rfl) (by simpa using hst))
        · exact wp_ranW (wanted_yes rfl rfl rfl (hgot 10 _ 82 rfl (hdep ⟨10, .guard⟩ (by simp) rfl) rfl)) (exec_load rfl (eval_tmp ((hpar 3 rfl).trans rfl)) (run_loads (Cells.of_holds (hst.own (y := oB b3 24 cs) (by simp))) Try.underlying24 rfl (size24' h5))) (hK x _ _ (fun _ _ _ _ _ _ => rfl) (fun s hs => by cases hs; rfl) (by simpa using hst))
        · obtain ⟨hP, hS⟩ := hst.std HTS2.out
          rw [hlj] at hst
          refine wp_calledW (wanted_yes rfl rfl rfl (hgot 10 _ 82 rfl (hdep ⟨10, .chain⟩ (by simp) rfl) rfl)) (exec_call1 rfl rfl (eval_tmp (hgot 12 _ 84 rfl (hdep ⟨12, .data⟩ (by simp) rfl) rfl)) (enters_of Try.func10 (by kernel_rfl) rfl)) ((copied_p hP hS HLG.out).mono ?_)
          rintro e v' ⟨cs1, rfl, hP1, m1⟩
          refine ⟨_, rfl, hK ⟨x.1, cs1, x.2.2⟩ _ _ (fun j' o' s' g1 g2 g3 => by
              have g4 : j' < 17 := (Array.getElem?_eq_some_iff.1 g1).1
              clear hpar hgot hdep hK
              obtain rfl | rfl | rfl | rfl | rfl | rfl | rfl | rfl | rfl | rfl | rfl | rfl | rfl | rfl | rfl | rfl | rfl : j' = 0 ∨ j' = 1 ∨ j' = 2 ∨ j' = 3 ∨ j' = 4 ∨ j' = 5 ∨ j' = 6 ∨ j' = 7 ∨ j' = 8 ∨ j' = 9 ∨ j' = 10 ∨ j' = 11 ∨ j' = 12 ∨ j' = 13 ∨ j' = 14 ∨ j' = 15 ∨ j' = 16 := by omega
              all_goals (cases g1; cases g3 <;> first | rfl | (rw [hlj] at g2; cases g2))) (fun s hs => by cases hs; rfl) ?_⟩
          simpa using hst.copied hP1 m1
        · have t1 : lz 13 = true := (hdep ⟨13, .data⟩ (by simp) rfl)
          rw [t1] at hst
          obtain ⟨S1, hC, hS1⟩ := hst.copy
          obtain ⟨hP, hS⟩ := hst.std HTS2.out
          refine wp_calledW (wanted_yes rfl rfl rfl (hgot 10 _ 82 rfl (hdep ⟨10, .guard⟩ (by simp) rfl) rfl)) (exec_call2 rfl rfl (eval_tmp (hgot 11 _ 83 rfl (hdep ⟨11, .data⟩ (by simp) rfl) rfl)) (eval_tmp (hgot 13 _ 85 rfl (hdep ⟨13, .data⟩ (by simp) rfl) rfl)) (enters_of Try.func17 (by kernel_rfl) rfl)) ((psame_p hP hC true HSP).mono ?_)
          rintro e v' ⟨rfl, m1⟩
          exact ⟨_, rfl, hK x _ _ (fun _ _ _ _ _ _ => rfl) (fun s hs => by cases hs; rfl) (by simpa [t1] using hst.call m1)⟩
        · exact wp_ran rfl (exec_pick rfl (eval_tmp (hgot 10 _ 82 rfl (hdep ⟨10, .data⟩ (by simp) rfl) rfl)) (eval_tmp (hgot 14 _ 86 rfl (hdep ⟨14, .data⟩ (by simp) rfl) rfl)) rfl rfl) (hK x _ _ (fun _ _ _ _ _ _ => rfl) (fun s hs => by cases hs; rfl) (by simpa using hst))
        · exact wp_ran rfl (exec_assign rfl (eval_tmp (hgot 15 _ 87 rfl (hdep ⟨15, .data⟩ (by simp) rfl) rfl))) (hK x _ _ (fun _ _ _ _ _ _ => rfl) (fun s hs => by cases hs; rfl) (by simpa using hst))
      intro x lz v12 hlz hst
      rw [hlz 13 (by decide)] at hst
      obtain ⟨T13, F13, hTB13, hc13⟩ := hst
      have G13 : Fm w v12 [oB b7 24 cs7, oB b5 39 [ci u, .slice A n c], oB b4 24 ds, oB b3 24 cs] T13 := F13
      have HTS3 : Hid (tP S p0 cs ∈ T13) := Lib.hid (hTB13 _ HTS2.out)
      clear hlz F13 hTB13 hc13 G12
      simp only [setAll, Act.put, List.foldl_cons, List.foldl_nil, List.setIfInBounds_toArray, List.set_cons_succ, List.set_cons_zero]
      go_wp2_with fail
      refine wp_region_upx (X := XC) (⟨0, [], []⟩) (fun x => [(88, .bool true), (89, .bool true), (90, .agg cs.toArray), (91, .pointer (some ⟨b5, 0, none⟩)), (92, ci u), (93, .bool mw), (94, .agg cs.toArray), (95, .pointer (some ⟨b5, 0, none⟩)), (96, ci u), (97, .bool mw), (98, .bool true), (99, .bool true), (100, .bool true), (101, .agg cs.toArray), (102, .pointer (some ⟨b5, 0, none⟩)), (103, ci u), (104, .pointer (some ⟨b5, 1, none⟩)), (105, .slice A n c), (106, .bool mr), (107, .agg cs.toArray), (108, .pointer (some ⟨b5, 0, none⟩)), (109, ci u), (110, .pointer (some ⟨b5, 1, none⟩)), (111, .slice A n c), (112, .bool mr), (113, .bool true), (114, .bool true), (6, .bool true)]) 115 [88, 89, 90, 91, 92, 93, 94, 95, 96, 97, 98, 99, 100, 101, 102, 103, 104, 105, 106, 107, 108, 109, 110, 111, 112, 113, 114, 6] rfl (fun _ => rfl) (by decide) (by kernel_rfl) (fun x lz v => CgS w [oB b7 24 cs7, oB b5 39 [ci u, .slice A n c], oB b4 24 ds, oB b3 24 cs] T13 p0 p0 false false false false x v) (by kernel_rfl) (CgS.begin (G13.call (Mod.drew [] _)) _) (by kernel_rfl) (by kernel_rfl) ?_ ?_
      · skip
        intro x lz T v j o hj hlj hdep hst hpar hgot hcl Kq hK
        have hjn : j < 28 := (Array.getElem?_eq_some_iff.1 hj).1
        obtain rfl | rfl | rfl | rfl | rfl | rfl | rfl | rfl | rfl | rfl | rfl | rfl | rfl | rfl | rfl | rfl | rfl | rfl | rfl | rfl | rfl | rfl | rfl | rfl | rfl | rfl | rfl | rfl : j = 0 ∨ j = 1 ∨ j = 2 ∨ j = 3 ∨ j = 4 ∨ j = 5 ∨ j = 6 ∨ j = 7 ∨ j = 8 ∨ j = 9 ∨ j = 10 ∨ j = 11 ∨ j = 12 ∨ j = 13 ∨ j = 14 ∨ j = 15 ∨ j = 16 ∨ j = 17 ∨ j = 18 ∨ j = 19 ∨ j = 20 ∨ j = 21 ∨ j = 22 ∨ j = 23 ∨ j = 24 ∨ j = 25 ∨ j = 26 ∨ j = 27 := by omega
        all_goals (have hj' := Option.some.inj (hj : some _ = some o); subst hj'; clear hj)
        · exact wp_ran rfl (exec_move rfl (eval_tmp ((hpar 9 rfl).trans rfl))) (hK x _ _ (fun _ _ _ _ _ _ => rfl) (fun s hs => by cases hs; rfl) (by simpa using hst))
        · exact wp_ran rfl (exec_move rfl (eval_tmp (hgot 0 _ 88 rfl (hdep ⟨0, .data⟩ (by simp) rfl) rfl))) (hK x _ _ (fun _ _ _ _ _ _ => rfl) (fun s hs => by cases hs; rfl) (by simpa using hst))
        · exact wp_ranW (wanted_yes rfl rfl rfl (hgot 1 _ 89 rfl (hdep ⟨1, .guard⟩ (by simp) rfl) rfl)) (exec_load rfl (eval_tmp ((hpar 3 rfl).trans rfl)) (run_loads (Cells.of_holds (hst.own (y := oB b3 24 cs) (by simp))) Try.underlying24 rfl (size24' h5))) (hK x _ _ (fun _ _ _ _ _ _ => rfl) (fun s hs => by cases hs; rfl) (by simpa using hst))
        · exact wp_ranW (wanted_yes rfl rfl rfl (hgot 1 _ 89 rfl (hdep ⟨1, .guard⟩ (by simp) rfl) rfl)) (exec_fp39_0 rfl (eval_tmp ((hpar 5 rfl).trans rfl))) (hK x _ _ (fun _ _ _ _ _ _ => rfl) (fun s hs => by cases hs; rfl) (by simpa using hst))
        · exact wp_ranW (wanted_yes rfl rfl rfl (hgot 1 _ 89 rfl (hdep ⟨1, .guard⟩ (by simp) rfl) rfl)) (exec_load rfl (eval_tmp (hgot 3 _ 91 rfl (hdep ⟨3, .data⟩ (by simp) rfl) rfl)) (run_load1 Try.underlying3 rfl ((hst.own (y := oB b5 39 [ci u, .slice A n c]) (by simp) : Holds v b5 39 _).cell 0))) (hK x _ _ (fun _ _ _ _ _ _ => rfl) (fun s hs => by cases hs; rfl) (by simpa using hst))
        · obtain ⟨hP, hS⟩ := hst.std HTS3.out
          refine wp_calledW (wanted_yes rfl rfl rfl (hgot 1 _ 89 rfl (hdep ⟨1, .chain⟩ (by simp) rfl) rfl)) (exec_call2 rfl rfl (eval_tmp (hgot 2 _ 90 rfl (hdep ⟨2, .data⟩ (by simp) rfl) rfl)) (eval_tmp (hgot 4 _ 92 rfl (hdep ⟨4, .data⟩ (by simp) rfl) rfl)) (enters_of Try.func18 (by kernel_rfl) rfl)) ((mayW_p hP hS u mw HMW).mono ?_)
          rintro e v' ⟨rfl, m1⟩
          exact ⟨_, rfl, hK x _ _ (fun _ _ _ _ _ _ => rfl) (fun s hs => by cases hs; rfl) (by simpa using hst.call m1)⟩
        · exact wp_ranW (wanted_yes rfl rfl rfl (hgot 1 _ 89 rfl (hdep ⟨1, .guard⟩ (by simp) rfl) rfl)) (exec_load rfl (eval_tmp ((hpar 3 rfl).trans rfl)) (run_loads (Cells.of_holds (hst.own (y := oB b3 24 cs) (by simp))) Try.underlying24 rfl (size24' h5))) (hK x _ _ (fun _ _ _ _ _ _ => rfl) (fun s hs => by cases hs; rfl) (by simpa using hst))
        · exact wp_ranW (wanted_yes rfl rfl rfl (hgot 1 _ 89 rfl (hdep ⟨1, .guard⟩ (by simp) rfl) rfl)) (exec_fp39_0 rfl (eval_tmp ((hpar 5 rfl).trans rfl))) (hK x _ _ (fun _ _ _ _ _ _ => rfl) (fun s hs => by cases hs; rfl) (by simpa using hst))
        · exact wp_ranW (wanted_yes rfl rfl rfl (hgot 1 _ 89 rfl (hdep ⟨1, .guard⟩ (by simp) rfl) rfl)) (exec_load rfl (eval_tmp (hgot 7 _ 95 rfl (hdep ⟨7, .data⟩ (by simp) rfl) rfl)) (run_load1 Try.underlying3 rfl ((hst.own (y := oB b5 39 [ci u, .slice A n c]) (by simp) : Holds v b5 39 _).cell 0))) (hK x _ _ (fun _ _ _ _ _ _ => rfl) (fun s hs => by cases hs; rfl) (by simpa using hst))
        · obtain ⟨hP, hS⟩ := hst.std HTS3.out
          refine wp_calledW (wanted_yes rfl rfl rfl (hgot 1 _ 89 rfl (hdep ⟨1, .guard⟩ (by simp) rfl) rfl)) (exec_call2 rfl rfl (eval_tmp (hgot 6 _ 94 rfl (hdep ⟨6, .data⟩ (by simp) rfl) rfl)) (eval_tmp (hgot 8 _ 96 rfl (hdep ⟨8, .data⟩ (by simp) rfl) rfl)) (enters_of Try.func19 (by kernel_rfl) rfl)) ((rmayW_p hP hS u mw HMW).mono ?_)
          rintro e v' ⟨rfl, m1⟩
          exact ⟨_, rfl, hK x _ _ (fun _ _ _ _ _ _ => rfl) (fun s hs => by cases hs; rfl) (by simpa using hst.call m1)⟩
        · exact wp_ranW (wanted_yes rfl rfl rfl (hgot 1 _ 89 rfl (hdep ⟨1, .guard⟩ (by simp) rfl) rfl)) (exec_eqb4 rfl (eval_tmp (hgot 5 _ 93 rfl (hdep ⟨5, .data⟩ (by simp) rfl) rfl)) (eval_tmp (hgot 9 _ 97 rfl (hdep ⟨9, .data⟩ (by simp) rfl) rfl))) (hK x _ _ (fun _ _ _ _ _ _ => rfl) (fun s hs => by cases hs; rfl) (by simpa using hst))
        · exact wp_ran rfl (exec_pick rfl (eval_tmp (hgot 1 _ 89 rfl (hdep ⟨1, .data⟩ (by simp) rfl) rfl)) (eval_tmp (hgot 10 _ 98 rfl (hdep ⟨10, .data⟩ (by simp) rfl) rfl)) rfl rfl) (hK x _ _ (fun _ _ _ _ _ _ => rfl) (fun s hs => by cases hs; rfl) (by simpa using hst))
        · exact wp_ran rfl (exec_move rfl (eval_tmp (hgot 11 _ 99 rfl (hdep ⟨11, .data⟩ (by simp) rfl) rfl))) (hK x _ _ (fun _ _ _ _ _ _ => rfl) (fun s hs => by cases hs; rfl) (by simpa using hst))
        · exact wp_ranW (wanted_yes rfl rfl rfl (hgot 12 _ 100 rfl (hdep ⟨12, .guard⟩ (by simp) rfl) rfl)) (exec_load rfl (eval_tmp ((hpar 3 rfl).trans rfl)) (run_loads (Cells.of_holds (hst.own (y := oB b3 24 cs) (by simp))) Try.underlying24 rfl (size24' h5))) (hK x _ _ (fun _ _ _ _ _ _ => rfl) (fun s hs => by cases hs; rfl) (by simpa using hst))
        · exact wp_ranW (wanted_yes rfl rfl rfl (hgot 12 _ 100 rfl (hdep ⟨12, .guard⟩ (by simp) rfl) rfl)) (exec_fp39_0 rfl (eval_tmp ((hpar 5 rfl).trans rfl))) (hK x _ _ (fun _ _ _ _ _ _ => rfl) (fun s hs => by cases hs; rfl) (by simpa using hst))
        · exact wp_ranW (wanted_yes rfl rfl rfl (hgot 12 _ 100 rfl (hdep ⟨12, .guard⟩ (by simp) rfl) rfl)) (exec_load rfl (eval_tmp (hgot 14 _ 102 rfl (hdep ⟨14, .data⟩ (by simp) rfl) rfl)) (run_load1 Try.underlying3 rfl ((hst.own (y := oB b5 39 [ci u, .slice A n c]) (by simp) : Holds v b5 39 _).cell 0))) (hK x _ _ (fun _ _ _ _ _ _ => rfl) (fun s hs => by cases hs; rfl) (by simpa using hst))
        · exact wp_ranW (wanted_yes rfl rfl rfl (hgot 12 _ 100 rfl (hdep ⟨12, .guard⟩ (by simp) rfl) rfl)) (exec_fp39_1 rfl (eval_tmp ((hpar 5 rfl).trans rfl))) (hK x _ _ (fun _ _ _ _ _ _ => rfl) (fun s hs => by cases hs; rfl) (by simpa using hst))
        · exact wp_ranW (wanted_yes rfl rfl rfl (hgot 12 _ 100 rfl (hdep ⟨12, .guard⟩ (by simp) rfl) rfl)) (exec_load rfl (eval_tmp (hgot 16 _ 104 rfl (hdep ⟨16, .data⟩ (by simp) rfl) rfl)) (run_load1 Try.underlying37 rfl ((hst.own (y := oB b5 39 [ci u, .slice A n c]) (by simp) : Holds v b5 39 _).cell 1))) (hK x _ _ (fun _ _ _ _ _ _ => rfl) (fun s hs => by cases hs; rfl) (by simpa using hst))
        · obtain ⟨hP, hS⟩ := hst.std HTS3.out
          refine wp_calledW (wanted_yes rfl rfl rfl (hgot 12 _ 100 rfl (hdep ⟨12, .chain⟩ (by simp) rfl) rfl)) (exec_call3 rfl rfl (eval_tmp (hgot 13 _ 101 rfl (hdep ⟨13, .data⟩ (by simp) rfl) rfl)) (eval_tmp (hgot 15 _ 103 rfl (hdep ⟨15, .data⟩ (by simp) rfl) rfl)) (eval_tmp (hgot 17 _ 105 rfl (hdep ⟨17, .data⟩ (by simp) rfl) rfl)) (enters_of Try.func20 (by kernel_rfl) rfl)) ((mayR_q hP hS u A n c m (HM.out.call hst.mod) mr HMR).mono ?_)
          rintro e v' ⟨rfl, m1⟩
          exact ⟨_, rfl, hK x _ _ (fun _ _ _ _ _ _ => rfl) (fun s hs => by cases hs; rfl) (by simpa using hst.call m1)⟩
        · exact wp_ranW (wanted_yes rfl rfl rfl (hgot 12 _ 100 rfl (hdep ⟨12, .guard⟩ (by simp) rfl) rfl)) (exec_load rfl (eval_tmp ((hpar 3 rfl).trans rfl)) (run_loads (Cells.of_holds (hst.own (y := oB b3 24 cs) (by simp))) Try.underlying24 rfl (size24' h5))) (hK x _ _ (fun _ _ _ _ _ _ => rfl) (fun s hs => by cases hs; rfl) (by simpa using hst))
        · exact wp_ranW (wanted_yes rfl rfl rfl (hgot 12 _ 100 rfl (hdep ⟨12, .guard⟩ (by simp) rfl) rfl)) (exec_fp39_0 rfl (eval_tmp ((hpar 5 rfl).trans rfl))) (hK x _ _ (fun _ _ _ _ _ _ => rfl) (fun s hs => by cases hs; rfl) (by simpa using hst))
        · exact wp_ranW (wanted_yes rfl rfl rfl (hgot 12 _ 100 rfl (hdep ⟨12, .guard⟩ (by simp) rfl) rfl)) (exec_load rfl (eval_tmp (hgot 20 _ 108 rfl (hdep ⟨20, .data⟩ (by simp) rfl) rfl)) (run_load1 Try.underlying3 rfl ((hst.own (y := oB b5 39 [ci u, .slice A n c]) (by simp) : Holds v b5 39 _).cell 0))) (hK x _ _ (fun _ _ _ _ _ _ => rfl) (fun s hs => by cases hs; rfl) (by simpa using hst))
        · exact wp_ranW (wanted_yes rfl rfl rfl (hgot 12 _ 100 rfl (hdep ⟨12, .guard⟩ (by simp) rfl) rfl)) (exec_fp39_1 rfl (eval_tmp ((hpar 5 rfl).trans rfl))) (hK x _ _ (fun _ _ _ _ _ _ => rfl) (fun s hs => by cases hs; rfl) (by simpa using hst))
        · exact wp_ranW (wanted_yes rfl rfl rfl (hgot 12 _ 100 rfl (hdep ⟨12, .guard⟩ (by simp) rfl) rfl)) (exec_load rfl (eval_tmp (hgot 22 _ 110 rfl (hdep ⟨22, .data⟩ (by simp) rfl) rfl)) (run_load1 Try.underlying37 rfl ((hst.own (y := oB b5 39 [ci u, .slice A n c]) (by simp) : Holds v b5 39 _).cell 1))) (hK x _ _ (fun _ _ _ _ _ _ => rfl) (fun s hs => by cases hs; rfl) (by simpa using hst))
        · obtain ⟨hP, hS⟩ := hst.std HTS3.out
          refine wp_calledW (wanted_yes rfl rfl rfl (hgot 12 _ 100 rfl (hdep ⟨12, .guard⟩ (by simp) rfl) rfl)) (exec_call3 rfl rfl (eval_tmp (hgot 19 _ 107 rfl (hdep ⟨19, .data⟩ (by simp) rfl) rfl)) (eval_tmp (hgot 21 _ 109 rfl (hdep ⟨21, .data⟩ (by simp) rfl) rfl)) (eval_tmp (hgot 23 _ 111 rfl (hdep ⟨23, .data⟩ (by simp) rfl) rfl)) (enters_of Try.func21 (by kernel_rfl) rfl)) ((rmayR_q hP hS u A n c m (HM.out.call hst.mod) mr HMR).mono ?_)
          rintro e v' ⟨rfl, m1⟩
          exact ⟨_, rfl, hK x _ _ (fun _ _ _ _ _ _ => rfl) (fun s hs => by cases hs; rfl) (by simpa using hst.call m1)⟩
        · exact wp_ranW (wanted_yes rfl rfl rfl (hgot 12 _ 100 rfl (hdep ⟨12, .guard⟩ (by simp) rfl) rfl)) (exec_eqb4 rfl (eval_tmp (hgot 18 _ 106 rfl (hdep ⟨18, .data⟩ (by simp) rfl) rfl)) (eval_tmp (hgot 24 _ 112 rfl (hdep ⟨24, .data⟩ (by simp) rfl) rfl))) (hK x _ _ (fun _ _ _ _ _ _ => rfl) (fun s hs => by cases hs; rfl) (by simpa using hst))
        · exact wp_ran rfl (exec_pick rfl (eval_tmp (hgot 12 _ 100 rfl (hdep ⟨12, .data⟩ (by simp) rfl) rfl)) (eval_tmp (hgot 25 _ 113 rfl (hdep ⟨25, .data⟩ (by simp) rfl) rfl)) rfl rfl) (hK x _ _ (fun _ _ _ _ _ _ => rfl) (fun s hs => by cases hs; rfl) (by simpa using hst))
        · exact wp_ran rfl (exec_assign rfl (eval_tmp (hgot 26 _ 114 rfl (hdep ⟨26, .data⟩ (by simp) rfl) rfl))) (hK x _ _ (fun _ _ _ _ _ _ => rfl) (fun s hs => by cases hs; rfl) (by simpa using hst))
      intro x lz v13 hlz hst
      have MM := hst.mod
      clear hst hlz
      simp only [setAll, Act.put, List.foldl_cons, List.foldl_nil, List.setIfInBounds_toArray, List.set_cons_succ, List.set_cons_zero]
      go_wp2_with fail
      go_ret
      exact ⟨rfl, MM⟩
    · refine wp_region_upx (X := XC) (⟨0, [], []⟩) (fun x => [(56, .agg cs.toArray), (57, .agg x.2.1.toArray), (58, .int .i64 0), (59, .bool true), (60, .agg cs.toArray), (61, .bool true), (62, .bool true), (63, .bool true), (64, .agg cs.toArray), (65, .bool true), (66, .bool true), (67, undef), (68, undef), (69, undef), (70, .bool true), (71, .bool true), (9, .bool true)]) 115 [56, 57, 58, 59, 60, 61, 62, 63, 64, 65, 66, 67, 68, 69, 70, 71, 9] rfl (fun _ => rfl) (by decide) (by kernel_rfl) (fun x lz v => CgS w [oB b7 24 cs7, oB b5 39 [ci u, .slice A n c], oB b4 24 ds, oB b3 24 cs] TB p0 p0 (lz 1) false false false x v) (by kernel_rfl) (CgS.begin (G11.call (Mod.drew [] _)) _) (by kernel_rfl) (by kernel_rfl) ?_ ?_
      · skip
        intro x lz T v j o hj hlj hdep hst hpar hgot hcl Kq hK
        have hjn : j < 17 := (Array.getElem?_eq_some_iff.1 hj).1
        obtain rfl | rfl | rfl | rfl | rfl | rfl | rfl | rfl | rfl | rfl | rfl | rfl | rfl | rfl | rfl | rfl | rfl : j = 0 ∨ j = 1 ∨ j = 2 ∨ j = 3 ∨ j = 4 ∨ j = 5 ∨ j = 6 ∨ j = 7 ∨ j = 8 ∨ j = 9 ∨ j = 10 ∨ j = 11 ∨ j = 12 ∨ j = 13 ∨ j = 14 ∨ j = 15 ∨ j = 16 := by omega
        all_goals (have hj' := Option.some.inj (hj : some _ = some o); subst hj'; clear hj)
        · exact wp_ran rfl (exec_load rfl (eval_tmp ((hpar 3 rfl).trans rfl)) (run_loads (Cells.of_holds (hst.own (y := oB b3 24 cs) (by simp))) Try.underlying24 rfl (size24' h5))) (hK x _ _ (fun _ _ _ _ _ _ => rfl) (fun s hs => by cases hs; rfl) (by simpa using hst))
        · obtain ⟨hP, hS⟩ := hst.std HTS.out
          rw [hlj] at hst
          refine wp_called rfl (exec_call1 rfl rfl (eval_tmp (hgot 0 _ 56 rfl (hdep ⟨0, .data⟩ (by simp) rfl) rfl)) (enters_of Try.func10 (by kernel_rfl) rfl)) ((copied_p hP hS HLG.out).mono ?_)
          rintro e v' ⟨cs1, rfl, hP1, m1⟩
          refine ⟨_, rfl, hK ⟨x.1, cs1, x.2.2⟩ _ _ (fun j' o' s' g1 g2 g3 => by
              have g4 : j' < 17 := (Array.getElem?_eq_some_iff.1 g1).1
              clear hpar hgot hdep hK
              obtain rfl | rfl | rfl | rfl | rfl | rfl | rfl | rfl | rfl | rfl | rfl | rfl | rfl | rfl | rfl | rfl | rfl : j' = 0 ∨ j' = 1 ∨ j' = 2 ∨ j' = 3 ∨ j' = 4 ∨ j' = 5 ∨ j' = 6 ∨ j' = 7 ∨ j' = 8 ∨ j' = 9 ∨ j' = 10 ∨ j' = 11 ∨ j' = 12 ∨ j' = 13 ∨ j' = 14 ∨ j' = 15 ∨ j' = 16 := by omega
              all_goals (cases g1; cases g3 <;> first | rfl | (rw [hlj] at g2; cases g2))) (fun s hs => by cases hs; rfl) ?_⟩
          simpa using hst.copied hP1 m1
        · have t1 : lz 1 = true := (hdep ⟨1, .data⟩ (by simp) rfl)
          rw [t1] at hst
          obtain ⟨S1, hC, hS1⟩ := hst.copy
          refine wp_called rfl (exec_call1 rfl rfl (eval_tmp (hgot 1 _ 57 rfl (hdep ⟨1, .data⟩ (by simp) rfl) rfl)) (enters_of Try.func15 (by kernel_rfl) rfl)) ((check_p hC true HB0).mono ?_)
          rintro e v' ⟨rfl, m1⟩
          exact ⟨_, rfl, hK x _ _ (fun _ _ _ _ _ _ => rfl) (fun s hs => by cases hs; rfl) (by simpa [t1] using hst.call m1)⟩
        · exact wp_ran rfl (exec_eqi rfl rfl (eval_tmp (hgot 2 _ 58 rfl (hdep ⟨2, .data⟩ (by simp) rfl) rfl)) rfl) (hK x _ _ (fun _ _ _ _ _ _ => rfl) (fun s hs => by cases hs; rfl) (by simpa using hst))
        · exact wp_ran rfl (exec_load rfl (eval_tmp ((hpar 3 rfl).trans rfl)) (run_loads (Cells.of_holds (hst.own (y := oB b3 24 cs) (by simp))) Try.underlying24 rfl (size24' h5))) (hK x _ _ (fun _ _ _ _ _ _ => rfl) (fun s hs => by cases hs; rfl) (by simpa using hst))
        · obtain ⟨hP, hS⟩ := hst.std HTS.out
          refine wp_called rfl (exec_call1 rfl rfl (eval_tmp (hgot 4 _ 60 rfl (hdep ⟨4, .data⟩ (by simp) rfl) rfl)) (enters_of Try.func16 (by kernel_rfl) rfl)) ((right_p hP true HB0).mono ?_)
          rintro e v' ⟨rfl, m1⟩
          exact ⟨_, rfl, hK x _ _ (fun _ _ _ _ _ _ => rfl) (fun s hs => by cases hs; rfl) (by simpa using hst.call m1)⟩
        · exact wp_ran rfl (exec_eqb4 rfl (eval_tmp (hgot 3 _ 59 rfl (hdep ⟨3, .data⟩ (by simp) rfl) rfl)) (eval_tmp (hgot 5 _ 61 rfl (hdep ⟨5, .data⟩ (by simp) rfl) rfl))) (hK x _ _ (fun _ _ _ _ _ _ => rfl) (fun s hs => by cases hs; rfl) (by simpa using hst))
        · exact wp_ran rfl (exec_move rfl (eval_tmp (hgot 6 _ 62 rfl (hdep ⟨6, .data⟩ (by simp) rfl) rfl))) (hK x _ _ (fun _ _ _ _ _ _ => rfl) (fun s hs => by cases hs; rfl) (by simpa using hst))
        · exact wp_ranW (wanted_yes rfl rfl rfl (hgot 7 _ 63 rfl (hdep ⟨7, .guard⟩ (by simp) rfl) rfl)) (exec_load rfl (eval_tmp ((hpar 3 rfl).trans rfl)) (run_loads (Cells.of_holds (hst.own (y := oB b3 24 cs) (by simp))) Try.underlying24 rfl (size24' h5))) (hK x _ _ (fun _ _ _ _ _ _ => rfl) (fun s hs => by cases hs; rfl) (by simpa using hst))
        · obtain ⟨hP, hS⟩ := hst.std HTS.out
          refine wp_calledW (wanted_yes rfl rfl rfl (hgot 7 _ 63 rfl (hdep ⟨7, .chain⟩ (by simp) rfl) rfl)) (exec_call1 rfl rfl (eval_tmp (hgot 8 _ 64 rfl (hdep ⟨8, .data⟩ (by simp) rfl) rfl)) (enters_of Try.func16 (by kernel_rfl) rfl)) ((right_p hP true HB0).mono ?_)
          rintro e v' ⟨rfl, m1⟩
          exact ⟨_, rfl, hK x _ _ (fun _ _ _ _ _ _ => rfl) (fun s hs => by cases hs; rfl) (by simpa using hst.call m1)⟩
        · exact wp_ranW (wanted_yes rfl rfl rfl (hgot 7 _ 63 rfl (hdep ⟨7, .guard⟩ (by simp) rfl) rfl)) (exec_move rfl (eval_tmp (hgot 9 _ 65 rfl (hdep ⟨9, .data⟩ (by simp) rfl) rfl))) (hK x _ _ (fun _ _ _ _ _ _ => rfl) (fun s hs => by cases hs; rfl) (by simpa using hst))
        · exact wp_skip (wanted_no rfl rfl rfl rfl (hgot 10 _ 66 rfl (hdep ⟨10, .guard⟩ (by simp) rfl) rfl)) (hK x _ _ (fun _ _ _ _ _ _ => rfl) (fun s hs => by cases hs; rfl) (by simpa using hst))
        · exact wp_skip (wanted_no rfl rfl rfl rfl (hgot 10 _ 66 rfl (hdep ⟨10, .chain⟩ (by simp) rfl) rfl)) (hK x _ _ (fun _ _ _ _ _ _ => rfl) (fun s hs => by cases hs; rfl) (by simpa using hst))
        · exact wp_skip (wanted_no rfl rfl rfl rfl (hgot 10 _ 66 rfl (hdep ⟨10, .guard⟩ (by simp) rfl) rfl)) (hK x _ _ (fun _ _ _ _ _ _ => rfl) (fun s hs => by cases hs; rfl) (by simpa using hst))
        · exact wp_ranW (wanted_yes rfl rfl rfl (hgot 7 _ 63 rfl (hdep ⟨7, .guard⟩ (by simp) rfl) rfl)) (exec_pick rfl (eval_tmp (hgot 10 _ 66 rfl (hdep ⟨10, .data⟩ (by simp) rfl) rfl)) rfl (eval_tmp (hgot 13 _ 69 rfl (hdep ⟨13, .data⟩ (by simp) rfl) rfl)) rfl) (hK x _ _ (fun _ _ _ _ _ _ => rfl) (fun s hs => by cases hs; rfl) (by simpa using hst))
        · exact wp_ran rfl (exec_pick rfl (eval_tmp (hgot 7 _ 63 rfl (hdep ⟨7, .data⟩ (by simp) rfl) rfl)) (eval_tmp (hgot 14 _ 70 rfl (hdep ⟨14, .data⟩ (by simp) rfl) rfl)) rfl rfl) (hK x _ _ (fun _ _ _ _ _ _ => rfl) (fun s hs => by cases hs; rfl) (by simpa using hst))
        · exact wp_ran rfl (exec_assign rfl (eval_tmp (hgot 15 _ 71 rfl (hdep ⟨15, .data⟩ (by simp) rfl) rfl))) (hK x _ _ (fun _ _ _ _ _ _ => rfl) (fun s hs => by cases hs; rfl) (by simpa using hst))
      intro x lz v11 hlz hst
      rw [hlz 1 (by decide)] at hst
      obtain ⟨T12, F12, hTB12, hc12⟩ := hst
      have G12 : Fm w v11 [oB b7 24 cs7, oB b5 39 [ci u, .slice A n c], oB b4 24 ds, oB b3 24 cs] T12 := F12
      have HTS2 : Hid (tP S p0 cs ∈ T12) := Lib.hid (hTB12 _ HTS.out)
      have HTT2 : Hid (tP T q0 ds ∈ T12) := Lib.hid (hTB12 _ HTT.out)
      clear hlz F12 hTB12 hc12 G11
      simp only [setAll, Act.put, List.foldl_cons, List.foldl_nil, List.setIfInBounds_toArray, List.set_cons_succ, List.set_cons_zero]
      go_wp2_with fail
      refine wp_region_upxo (X := XC) (⟨0, [], []⟩) (fun x => [(72, .bool true), (73, .bool true), (74, .agg cs.toArray), (75, .agg ds.toArray), (76, .bool s0), (77, .agg cs.toArray), (78, .agg ds.toArray), (79, .bool s0), (80, .bool true), (81, .bool true), (82, .bool true), (83, .agg cs.toArray), (84, .agg cs.toArray), (85, .agg x.2.1.toArray), (86, .bool true), (87, .bool true), (9, .bool true)]) 115 [72, 73, 74, 75, 76, 77, 78, 79, 80, 81, 82, 83, 84, 85, 86, 87, 9] rfl (fun _ => rfl) (by decide) (by kernel_rfl) (fun x lz v => CgS w [oB b7 24 cs7, oB b5 39 [ci u, .slice A n c], oB b4 24 ds, oB b3 24 cs] T12 p0 p0 (lz 13) false false false x v) (by kernel_rfl) (CgS.begin (G12.call (Mod.drew [] _)) _) (by kernel_rfl) (by kernel_rfl) ?_ ?_
      · skip
        intro x lz T v j o hj hlj hdep hst hpar hgot hcl hdf hold Kq hK
        have hjn : j < 17 := (Array.getElem?_eq_some_iff.1 hj).1
        obtain rfl | rfl | rfl | rfl | rfl | rfl | rfl | rfl | rfl | rfl | rfl | rfl | rfl | rfl | rfl | rfl | rfl : j = 0 ∨ j = 1 ∨ j = 2 ∨ j = 3 ∨ j = 4 ∨ j = 5 ∨ j = 6 ∨ j = 7 ∨ j = 8 ∨ j = 9 ∨ j = 10 ∨ j = 11 ∨ j = 12 ∨ j = 13 ∨ j = 14 ∨ j = 15 ∨ j = 16 := by omega
        all_goals (have hj' := Option.some.inj (hj : some _ = some o); subst hj'; clear hj)
        · have l16 : lz 16 = false := (by cases hh : lz 16 with | false => rfl | true => exact absurd (hcl 16 _ rfl hh ⟨0, .phase⟩ (by simp) rfl) (by rw [hlj]; simp))
          have h9 : T.tmps[9]? = some (.bool true) := (hold 9 (fun j o' h1 h2 h3 => by
            have g4 : j < 17 := (Array.getElem?_eq_some_iff.1 h1).1
            clear hpar hgot hdep hK hold
            obtain rfl | rfl | rfl | rfl | rfl | rfl | rfl | rfl | rfl | rfl | rfl | rfl | rfl | rfl | rfl | rfl | rfl : j = 0 ∨ j = 1 ∨ j = 2 ∨ j = 3 ∨ j = 4 ∨ j = 5 ∨ j = 6 ∨ j = 7 ∨ j = 8 ∨ j = 9 ∨ j = 10 ∨ j = 11 ∨ j = 12 ∨ j = 13 ∨ j = 14 ∨ j = 15 ∨ j = 16 := by omega
            all_goals (cases h1; first | (cases h3; done) | (rw [l16] at h2; cases h2)))).trans rfl
          exact wp_ran rfl (exec_move rfl (eval_tmp h9)) (hK x _ _ (fun _ _ _ _ _ _ => rfl) (fun s hs => by cases hs; rfl) (by simpa using hst))
        · exact wp_ran rfl (exec_move rfl (eval_tmp (hgot 0 _ 72 rfl (hdep ⟨0, .data⟩ (by simp) rfl) rfl))) (hK x _ _ (fun _ _ _ _ _ _ => rfl) (fun s hs => by cases hs; rfl) (by simpa using hst))
        · exact wp_ranW (wanted_yes rfl rfl rfl (hgot 1 _ 73 rfl (hdep ⟨1, .guard⟩ (by simp) rfl) rfl)) (exec_load rfl (eval_tmp ((hpar 3 rfl).trans rfl)) (run_loads (Cells.of_holds (hst.own (y := oB b3 24 cs) (by simp))) Try.underlying24 rfl (size24' h5))) (hK x _ _ (fun _ _ _ _ _ _ => rfl) (fun s hs => by cases hs; rfl) (by simpa using hst))
        · exact wp_ranW (wanted_yes rfl rfl rfl (hgot 1 _ 73 rfl (hdep ⟨1, .guard⟩ (by simp) rfl) rfl)) (exec_load rfl (eval_tmp ((hpar 4 rfl).trans rfl)) (run_loads (Cells.of_holds (hst.own (y := oB b4 24 ds) (by simp))) Try.underlying24 rfl (size24' h5q))) (hK x _ _ (fun _ _ _ _ _ _ => rfl) (fun s hs => by cases hs; rfl) (by simpa using hst))
        · obtain ⟨hP, hS⟩ := hst.std HTS2.out
          obtain ⟨hQ, hS2⟩ := hst.std HTT2.out
          refine wp_calledW (wanted_yes rfl rfl rfl (hgot 1 _ 73 rfl (hdep ⟨1, .chain⟩ (by simp) rfl) rfl)) (exec_call2 rfl rfl (eval_tmp (hgot 2 _ 74 rfl (hdep ⟨2, .data⟩ (by simp) rfl) rfl)) (eval_tmp (hgot 3 _ 75 rfl (hdep ⟨3, .data⟩ (by simp) rfl) rfl)) (enters_of Try.func17 (by kernel_rfl) rfl)) ((psame_p hP hQ s0 HS0).mono ?_)
          rintro e v' ⟨rfl, m1⟩
          exact ⟨_, rfl, hK x _ _ (fun _ _ _ _ _ _ => rfl) (fun s hs => by cases hs; rfl) (by simpa using hst.call m1)⟩
        · exact wp_ranW (wanted_yes rfl rfl rfl (hgot 1 _ 73 rfl (hdep ⟨1, .guard⟩ (by simp) rfl) rfl)) (exec_load rfl (eval_tmp ((hpar 3 rfl).trans rfl)) (run_loads (Cells.of_holds (hst.own (y := oB b3 24 cs) (by simp))) Try.underlying24 rfl (size24' h5))) (hK x _ _ (fun _ _ _ _ _ _ => rfl) (fun s hs => by cases hs; rfl) (by simpa using hst))
        · exact wp_ranW (wanted_yes rfl rfl rfl (hgot 1 _ 73 rfl (hdep ⟨1, .guard⟩ (by simp) rfl) rfl)) (exec_load rfl (eval_tmp ((hpar 4 rfl).trans rfl)) (run_loads (Cells.of_holds (hst.own (y := oB b4 24 ds) (by simp))) Try.underlying24 rfl (size24' h5q))) (hK x _ _ (fun _ _ _ _ _ _ => rfl) (fun s hs => by cases hs; rfl) (by simpa using hst))
        · obtain ⟨hP, hS⟩ := hst.std HTS2.out
          obtain ⟨hQ, hS2⟩ := hst.std HTT2.out
          refine wp_calledW (wanted_yes rfl rfl rfl (hgot 1 _ 73 rfl (hdep ⟨1, .guard⟩ (by simp) rfl) rfl)) (exec_call2 rfl rfl (eval_tmp (hgot 5 _ 77 rfl (hdep ⟨5, .data⟩ (by simp) rfl) rfl)) (eval_tmp (hgot 6 _ 78 rfl (hdep ⟨6, .data⟩ (by simp) rfl) rfl)) (enters_of Try.func13 (by kernel_rfl) rfl)) ((rsame_p hP hQ s0 HS0).mono ?_)
          rintro e v' ⟨rfl, m1⟩
          exact ⟨_, rfl, hK x _ _ (fun _ _ _ _ _ _ => rfl) (fun s hs => by cases hs; rfl) (by simpa using hst.call m1)⟩
        · exact wp_ranW (wanted_yes rfl rfl rfl (hgot 1 _ 73 rfl (hdep ⟨1, .guard⟩ (by simp) rfl) rfl)) (exec_eqb4 rfl (eval_tmp (hgot 4 _ 76 rfl (hdep ⟨4, .data⟩ (by simp) rfl) rfl)) (eval_tmp (hgot 7 _ 79 rfl (hdep ⟨7, .data⟩ (by simp) rfl) rfl))) (hK x _ _ (fun _ _ _ _ _ _ => rfl) (fun s hs => by cases hs; rfl) (by simpa using hst))
        · exact wp_ran rfl (exec_pick rfl (eval_tmp (hgot 1 _ 73 rfl (hdep ⟨1, .data⟩ (by simp) rfl) rfl)) (eval_tmp (hgot 8 _ 80 rfl (hdep ⟨8, .data⟩ (by simp) rfl) rfl)) rfl rfl) (hK x _ _ (fun _ _ _ _ _ _ => rfl) (fun s hs => by cases hs; rfl) (by simpa using hst))
        · exact wp_ran rfl (exec_move rfl (eval_tmp (hgot 9 _ 81 rfl (hdep ⟨9, .data⟩ (by simp) rfl) rfl))) (hK x _ _ (fun _ _ _ _ _ _ => rfl) (fun s hs => by cases hs; rfl) (by simpa using hst))
        · exact wp_ranW (wanted_yes rfl rfl rfl (hgot 10 _ 82 rfl (hdep ⟨10, .guard⟩ (by simp) rfl) rfl)) (exec_load rfl (eval_tmp ((hpar 3 rfl).trans rfl)) (run_loads (Cells.of_holds (hst.own (y := oB b3 24 cs) (by simp))) Try.underlying24 rfl (size24' h5))) (hK x _ _ (fun _ _ _ _ _ _ => rfl) (fun s hs => by cases hs; rfl) (by simpa using hst))
        · exact wp_ranW (wanted_yes rfl rfl rfl (hgot 10 _ 82 rfl (hdep ⟨10, .guard⟩ (by simp) rfl) rfl)) (exec_load rfl (eval_tmp ((hpar 3 rfl).trans rfl)) (run_loads (Cells.of_holds (hst.own (y := oB b3 24 cs) (by simp))) Try.underlying24 rfl (size24' h5))) (hK x _ _ (fun _ _ _ _ _ _ => rfl) (fun s hs => by cases hs; rfl) (by simpa using hst))
        · obtain ⟨hP, hS⟩ := hst.std HTS2.out
          rw [hlj] at hst
          refine wp_calledW (wanted_yes rfl rfl rfl (hgot 10 _ 82 rfl (hdep ⟨10, .chain⟩ (by simp) rfl) rfl)) (exec_call1 rfl rfl (eval_tmp (hgot 12 _ 84 rfl (hdep ⟨12, .data⟩ (by simp) rfl) rfl)) (enters_of Try.func10 (by kernel_rfl) rfl)) ((copied_p hP hS HLG.out).mono ?_)
          rintro e v' ⟨cs1, rfl, hP1, m1⟩
          refine ⟨_, rfl, hK ⟨x.1, cs1, x.2.2⟩ _ _ (fun j' o' s' g1 g2 g3 => by
              have g4 : j' < 17 := (Array.getElem?_eq_some_iff.1 g1).1
              clear hpar hgot hdep hK
              obtain rfl | rfl | rfl | rfl | rfl | rfl | rfl | rfl | rfl | rfl | rfl | rfl | rfl | rfl | rfl | rfl | rfl : j' = 0 ∨ j' = 1 ∨ j' = 2 ∨ j' = 3 ∨ j' = 4 ∨ j' = 5 ∨ j' = 6 ∨ j' = 7 ∨ j' = 8 ∨ j' = 9 ∨ j' = 10 ∨ j' = 11 ∨ j' = 12 ∨ j' = 13 ∨ j' = 14 ∨ j' = 15 ∨ j' = 16 := by omega
              all_goals (cases g1; cases g3 <;> first | rfl | (rw [hlj] at g2; cases g2))) (fun s hs => by cases hs; rfl) ?_⟩
          simpa using hst.copied hP1 m1
        · have t1 : lz 13 = true := (hdep ⟨13, .data⟩ (by simp) rfl)
          rw [t1] at hst
          obtain ⟨S1, hC, hS1⟩ := hst.copy
          obtain ⟨hP, hS⟩ := hst.std HTS2.out
          refine wp_calledW (wanted_yes rfl rfl rfl (hgot 10 _ 82 rfl (hdep ⟨10, .guard⟩ (by simp) rfl) rfl)) (exec_call2 rfl rfl (eval_tmp (hgot 11 _ 83 rfl (hdep ⟨11, .data⟩ (by simp) rfl) rfl)) (eval_tmp (hgot 13 _ 85 rfl (hdep ⟨13, .data⟩ (by simp) rfl) rfl)) (enters_of Try.func17 (by kernel_rfl) rfl)) ((psame_p hP hC true HSP).mono ?_)
          rintro e v' ⟨rfl, m1⟩
          exact ⟨_, rfl, hK x _ _ (fun _ _ _ _ _ _ => rfl) (fun s hs => by cases hs; rfl) (by simpa [t1] using hst.call m1)⟩
        · exact wp_ran rfl (exec_pick rfl (eval_tmp (hgot 10 _ 82 rfl (hdep ⟨10, .data⟩ (by simp) rfl) rfl)) (eval_tmp (hgot 14 _ 86 rfl (hdep ⟨14, .data⟩ (by simp) rfl) rfl)) rfl rfl) (hK x _ _ (fun _ _ _ _ _ _ => rfl) (fun s hs => by cases hs; rfl) (by simpa using hst))
        · exact wp_ran rfl (exec_assign rfl (eval_tmp (hgot 15 _ 87 rfl (hdep ⟨15, .data⟩ (by simp) rfl) rfl))) (hK x _ _ (fun _ _ _ _ _ _ => rfl) (fun s hs => by cases hs; rfl) (by simpa using hst))
      intro x lz v12 hlz hst
      rw [hlz 13 (by decide)] at hst
      obtain ⟨T13, F13, hTB13, hc13⟩ := hst
      have G13 : Fm w v12 [oB b7 24 cs7, oB b5 39 [ci u, .slice A n c], oB b4 24 ds, oB b3 24 cs] T13 := F13
      have HTS3 : Hid (tP S p0 cs ∈ T13) := Lib.hid (hTB13 _ HTS2.out)
      clear hlz F13 hTB13 hc13 G12
      simp only [setAll, Act.put, List.foldl_cons, List.foldl_nil, List.setIfInBounds_toArray, List.set_cons_succ, List.set_cons_zero]
      go_wp2_with fail
      refine wp_region_upx (X := XC) (⟨0, [], []⟩) (fun x => [(88, .bool true), (89, .bool true), (90, .agg cs.toArray), (91, .pointer (some ⟨b5, 0, none⟩)), (92, ci u), (93, .bool mw), (94, .agg cs.toArray), (95, .pointer (some ⟨b5, 0, none⟩)), (96, ci u), (97, .bool mw), (98, .bool true), (99, .bool true), (100, .bool true), (101, .agg cs.toArray), (102, .pointer (some ⟨b5, 0, none⟩)), (103, ci u), (104, .pointer (some ⟨b5, 1, none⟩)), (105, .slice A n c), (106, .bool mr), (107, .agg cs.toArray), (108, .pointer (some ⟨b5, 0, none⟩)), (109, ci u), (110, .pointer (some ⟨b5, 1, none⟩)), (111, .slice A n c), (112, .bool mr), (113, .bool true), (114, .bool true), (6, .bool true)]) 115 [88, 89, 90, 91, 92, 93, 94, 95, 96, 97, 98, 99, 100, 101, 102, 103, 104, 105, 106, 107, 108, 109, 110, 111, 112, 113, 114, 6] rfl (fun _ => rfl) (by decide) (by kernel_rfl) (fun x lz v => CgS w [oB b7 24 cs7, oB b5 39 [ci u, .slice A n c], oB b4 24 ds, oB b3 24 cs] T13 p0 p0 false false false false x v) (by kernel_rfl) (CgS.begin (G13.call (Mod.drew [] _)) _) (by kernel_rfl) (by kernel_rfl) ?_ ?_
      · skip
        intro x lz T v j o hj hlj hdep hst hpar hgot hcl Kq hK
        have hjn : j < 28 := (Array.getElem?_eq_some_iff.1 hj).1
        obtain rfl | rfl | rfl | rfl | rfl | rfl | rfl | rfl | rfl | rfl | rfl | rfl | rfl | rfl | rfl | rfl | rfl | rfl | rfl | rfl | rfl | rfl | rfl | rfl | rfl | rfl | rfl | rfl : j = 0 ∨ j = 1 ∨ j = 2 ∨ j = 3 ∨ j = 4 ∨ j = 5 ∨ j = 6 ∨ j = 7 ∨ j = 8 ∨ j = 9 ∨ j = 10 ∨ j = 11 ∨ j = 12 ∨ j = 13 ∨ j = 14 ∨ j = 15 ∨ j = 16 ∨ j = 17 ∨ j = 18 ∨ j = 19 ∨ j = 20 ∨ j = 21 ∨ j = 22 ∨ j = 23 ∨ j = 24 ∨ j = 25 ∨ j = 26 ∨ j = 27 := by omega
        all_goals (have hj' := Option.some.inj (hj : some _ = some o); subst hj'; clear hj)
        · exact wp_ran rfl (exec_move rfl (eval_tmp ((hpar 9 rfl).trans rfl))) (hK x _ _ (fun _ _ _ _ _ _ => rfl) (fun s hs => by cases hs; rfl) (by simpa using hst))
        · exact wp_ran rfl (exec_move rfl (eval_tmp (hgot 0 _ 88 rfl (hdep ⟨0, .data⟩ (by simp) rfl) rfl))) (hK x _ _ (fun _ _ _ _ _ _ => rfl) (fun s hs => by cases hs; rfl) (by simpa using hst))
        · exact wp_ranW (wanted_yes rfl rfl rfl (hgot 1 _ 89 rfl (hdep ⟨1, .guard⟩ (by simp) rfl) rfl)) (exec_load rfl (eval_tmp ((hpar 3 rfl).trans rfl)) (run_loads (Cells.of_holds (hst.own (y := oB b3 24 cs) (by simp))) Try.underlying24 rfl (size24' h5))) (hK x _ _ (fun _ _ _ _ _ _ => rfl) (fun s hs => by cases hs; rfl) (by simpa using hst))
        · exact wp_ranW (wanted_yes rfl rfl rfl (hgot 1 _ 89 rfl (hdep ⟨1, .guard⟩ (by simp) rfl) rfl)) (exec_fp39_0 rfl (eval_tmp ((hpar 5 rfl).trans rfl))) (hK x _ _ (fun _ _ _ _ _ _ => rfl) (fun s hs => by cases hs; rfl) (by simpa using hst))
        · exact wp_ranW (wanted_yes rfl rfl rfl (hgot 1 _ 89 rfl (hdep ⟨1, .guard⟩ (by simp) rfl) rfl)) (exec_load rfl (eval_tmp (hgot 3 _ 91 rfl (hdep ⟨3, .data⟩ (by simp) rfl) rfl)) (run_load1 Try.underlying3 rfl ((hst.own (y := oB b5 39 [ci u, .slice A n c]) (by simp) : Holds v b5 39 _).cell 0))) (hK x _ _ (fun _ _ _ _ _ _ => rfl) (fun s hs => by cases hs; rfl) (by simpa using hst))
        · obtain ⟨hP, hS⟩ := hst.std HTS3.out
          refine wp_calledW (wanted_yes rfl rfl rfl (hgot 1 _ 89 rfl (hdep ⟨1, .chain⟩ (by simp) rfl) rfl)) (exec_call2 rfl rfl (eval_tmp (hgot 2 _ 90 rfl (hdep ⟨2, .data⟩ (by simp) rfl) rfl)) (eval_tmp (hgot 4 _ 92 rfl (hdep ⟨4, .data⟩ (by simp) rfl) rfl)) (enters_of Try.func18 (by kernel_rfl) rfl)) ((mayW_p hP hS u mw HMW).mono ?_)
          rintro e v' ⟨rfl, m1⟩
          exact ⟨_, rfl, hK x _ _ (fun _ _ _ _ _ _ => rfl) (fun s hs => by cases hs; rfl) (by simpa using hst.call m1)⟩
        · exact wp_ranW (wanted_yes rfl rfl rfl (hgot 1 _ 89 rfl (hdep ⟨1, .guard⟩ (by simp) rfl) rfl)) (exec_load rfl (eval_tmp ((hpar 3 rfl).trans rfl)) (run_loads (Cells.of_holds (hst.own (y := oB b3 24 cs) (by simp))) Try.underlying24 rfl (size24' h5))) (hK x _ _ (fun _ _ _ _ _ _ => rfl) (fun s hs => by cases hs; rfl) (by simpa using hst))
        · exact wp_ranW (wanted_yes rfl rfl rfl (hgot 1 _ 89 rfl (hdep ⟨1, .guard⟩ (by simp) rfl) rfl)) (exec_fp39_0 rfl (eval_tmp ((hpar 5 rfl).trans rfl))) (hK x _ _ (fun _ _ _ _ _ _ => rfl) (fun s hs => by cases hs; rfl) (by simpa using hst))
        · exact wp_ranW (wanted_yes rfl rfl rfl (hgot 1 _ 89 rfl (hdep ⟨1, .guard⟩ (by simp) rfl) rfl)) (exec_load rfl (eval_tmp (hgot 7 _ 95 rfl (hdep ⟨7, .data⟩ (by simp) rfl) rfl)) (run_load1 Try.underlying3 rfl ((hst.own (y := oB b5 39 [ci u, .slice A n c]) (by simp) : Holds v b5 39 _).cell 0))) (hK x _ _ (fun _ _ _ _ _ _ => rfl) (fun s hs => by cases hs; rfl) (by simpa using hst))
        · obtain ⟨hP, hS⟩ := hst.std HTS3.out
          refine wp_calledW (wanted_yes rfl rfl rfl (hgot 1 _ 89 rfl (hdep ⟨1, .guard⟩ (by simp) rfl) rfl)) (exec_call2 rfl rfl (eval_tmp (hgot 6 _ 94 rfl (hdep ⟨6, .data⟩ (by simp) rfl) rfl)) (eval_tmp (hgot 8 _ 96 rfl (hdep ⟨8, .data⟩ (by simp) rfl) rfl)) (enters_of Try.func19 (by kernel_rfl) rfl)) ((rmayW_p hP hS u mw HMW).mono ?_)
          rintro e v' ⟨rfl, m1⟩
          exact ⟨_, rfl, hK x _ _ (fun _ _ _ _ _ _ => rfl) (fun s hs => by cases hs; rfl) (by simpa using hst.call m1)⟩
        · exact wp_ranW (wanted_yes rfl rfl rfl (hgot 1 _ 89 rfl (hdep ⟨1, .guard⟩ (by simp) rfl) rfl)) (exec_eqb4 rfl (eval_tmp (hgot 5 _ 93 rfl (hdep ⟨5, .data⟩ (by simp) rfl) rfl)) (eval_tmp (hgot 9 _ 97 rfl (hdep ⟨9, .data⟩ (by simp) rfl) rfl))) (hK x _ _ (fun _ _ _ _ _ _ => rfl) (fun s hs => by cases hs; rfl) (by simpa using hst))
        · exact wp_ran rfl (exec_pick rfl (eval_tmp (hgot 1 _ 89 rfl (hdep ⟨1, .data⟩ (by simp) rfl) rfl)) (eval_tmp (hgot 10 _ 98 rfl (hdep ⟨10, .data⟩ (by simp) rfl) rfl)) rfl rfl) (hK x _ _ (fun _ _ _ _ _ _ => rfl) (fun s hs => by cases hs; rfl) (by simpa using hst))
        · exact wp_ran rfl (exec_move rfl (eval_tmp (hgot 11 _ 99 rfl (hdep ⟨11, .data⟩ (by simp) rfl) rfl))) (hK x _ _ (fun _ _ _ _ _ _ => rfl) (fun s hs => by cases hs; rfl) (by simpa using hst))
        · exact wp_ranW (wanted_yes rfl rfl rfl (hgot 12 _ 100 rfl (hdep ⟨12, .guard⟩ (by simp) rfl) rfl)) (exec_load rfl (eval_tmp ((hpar 3 rfl).trans rfl)) (run_loads (Cells.of_holds (hst.own (y := oB b3 24 cs) (by simp))) Try.underlying24 rfl (size24' h5))) (hK x _ _ (fun _ _ _ _ _ _ => rfl) (fun s hs => by cases hs; rfl) (by simpa using hst))
        · exact wp_ranW (wanted_yes rfl rfl rfl (hgot 12 _ 100 rfl (hdep ⟨12, .guard⟩ (by simp) rfl) rfl)) (exec_fp39_0 rfl (eval_tmp ((hpar 5 rfl).trans rfl))) (hK x _ _ (fun _ _ _ _ _ _ => rfl) (fun s hs => by cases hs; rfl) (by simpa using hst))
        · exact wp_ranW (wanted_yes rfl rfl rfl (hgot 12 _ 100 rfl (hdep ⟨12, .guard⟩ (by simp) rfl) rfl)) (exec_load rfl (eval_tmp (hgot 14 _ 102 rfl (hdep ⟨14, .data⟩ (by simp) rfl) rfl)) (run_load1 Try.underlying3 rfl ((hst.own (y := oB b5 39 [ci u, .slice A n c]) (by simp) : Holds v b5 39 _).cell 0))) (hK x _ _ (fun _ _ _ _ _ _ => rfl) (fun s hs => by cases hs; rfl) (by simpa using hst))
        · exact wp_ranW (wanted_yes rfl rfl rfl (hgot 12 _ 100 rfl (hdep ⟨12, .guard⟩ (by simp) rfl) rfl)) (exec_fp39_1 rfl (eval_tmp ((hpar 5 rfl).trans rfl))) (hK x _ _ (fun _ _ _ _ _ _ => rfl) (fun s hs => by cases hs; rfl) (by simpa using hst))
        · exact wp_ranW (wanted_yes rfl rfl rfl (hgot 12 _ 100 rfl (hdep ⟨12, .guard⟩ (by simp) rfl) rfl)) (exec_load rfl (eval_tmp (hgot 16 _ 104 rfl (hdep ⟨16, .data⟩ (by simp) rfl) rfl)) (run_load1 Try.underlying37 rfl ((hst.own (y := oB b5 39 [ci u, .slice A n c]) (by simp) : Holds v b5 39 _).cell 1))) (hK x _ _ (fun _ _ _ _ _ _ => rfl) (fun s hs => by cases hs; rfl) (by simpa using hst))
        · obtain ⟨hP, hS⟩ := hst.std HTS3.out
          refine wp_calledW (wanted_yes rfl rfl rfl (hgot 12 _ 100 rfl (hdep ⟨12, .chain⟩ (by simp) rfl) rfl)) (exec_call3 rfl rfl (eval_tmp (hgot 13 _ 101 rfl (hdep ⟨13, .data⟩ (by simp) rfl) rfl)) (eval_tmp (hgot 15 _ 103 rfl (hdep ⟨15, .data⟩ (by simp) rfl) rfl)) (eval_tmp (hgot 17 _ 105 rfl (hdep ⟨17, .data⟩ (by simp) rfl) rfl)) (enters_of Try.func20 (by kernel_rfl) rfl)) ((mayR_q hP hS u A n c m (HM.out.call hst.mod) mr HMR).mono ?_)
          rintro e v' ⟨rfl, m1⟩
          exact ⟨_, rfl, hK x _ _ (fun _ _ _ _ _ _ => rfl) (fun s hs => by cases hs; rfl) (by simpa using hst.call m1)⟩
        · exact wp_ranW (wanted_yes rfl rfl rfl (hgot 12 _ 100 rfl (hdep ⟨12, .guard⟩ (by simp) rfl) rfl)) (exec_load rfl (eval_tmp ((hpar 3 rfl).trans rfl)) (run_loads (Cells.of_holds (hst.own (y := oB b3 24 cs) (by simp))) Try.underlying24 rfl (size24' h5))) (hK x _ _ (fun _ _ _ _ _ _ => rfl) (fun s hs => by cases hs; rfl) (by simpa using hst))
        · exact wp_ranW (wanted_yes rfl rfl rfl (hgot 12 _ 100 rfl (hdep ⟨12, .guard⟩ (by simp) rfl) rfl)) (exec_fp39_0 rfl (eval_tmp ((hpar 5 rfl).trans rfl))) (hK x _ _ (fun _ _ _ _ _ _ => rfl) (fun s hs => by cases hs; rfl) (by simpa using hst))
        · exact wp_ranW (wanted_yes rfl rfl rfl (hgot 12 _ 100 rfl (hdep ⟨12, .guard⟩ (by simp) rfl) rfl)) (exec_load rfl (eval_tmp (hgot 20 _ 108 rfl (hdep ⟨20, .data⟩ (by simp) rfl) rfl)) (run_load1 Try.underlying3 rfl ((hst.own (y := oB b5 39 [ci u, .slice A n c]) (by simp) : Holds v b5 39 _).cell 0))) (hK x _ _ (fun _ _ _ _ _ _ => rfl) (fun s hs => by cases hs; rfl) (by simpa using hst))
        · exact wp_ranW (wanted_yes rfl rfl rfl (hgot 12 _ 100 rfl (hdep ⟨12, .guard⟩ (by simp) rfl) rfl)) (exec_fp39_1 rfl (eval_tmp ((hpar 5 rfl).trans rfl))) (hK x _ _ (fun _ _ _ _ _ _ => rfl) (fun s hs => by cases hs; rfl) (by simpa using hst))
        · exact wp_ranW (wanted_yes rfl rfl rfl (hgot 12 _ 100 rfl (hdep ⟨12, .guard⟩ (by simp) rfl) rfl)) (exec_load rfl (eval_tmp (hgot 22 _ 110 rfl (hdep ⟨22, .data⟩ (by simp) rfl) rfl)) (run_load1 Try.underlying37 rfl ((hst.own (y := oB b5 39 [ci u, .slice A n c]) (by simp) : Holds v b5 39 _).cell 1))) (hK x _ _ (fun _ _ _ _ _ _ => rfl) (fun s hs => by cases hs; rfl) (by simpa using hst))
        · obtain ⟨hP, hS⟩ := hst.std HTS3.out
          refine wp_calledW (wanted_yes rfl rfl rfl (hgot 12 _ 100 rfl (hdep ⟨12, .guard⟩ (by simp) rfl) rfl)) (exec_call3 rfl rfl (eval_tmp (hgot 19 _ 107 rfl (hdep ⟨19, .data⟩ (by simp) rfl) rfl)) (eval_tmp (hgot 21 _ 109 rfl (hdep ⟨21, .data⟩ (by simp) rfl) rfl)) (eval_tmp (hgot 23 _ 111 rfl (hdep ⟨23, .data⟩ (by simp) rfl) rfl)) (enters_of Try.func21 (by kernel_rfl) rfl)) ((rmayR_q hP hS u A n c m (HM.out.call hst.mod) mr HMR).mono ?_)
          rintro e v' ⟨rfl, m1⟩
          exact ⟨_, rfl, hK x _ _ (fun _ _ _ _ _ _ => rfl) (fun s hs => by cases hs; rfl) (by simpa using hst.call m1)⟩
        · exact wp_ranW (wanted_yes rfl rfl rfl (hgot 12 _ 100 rfl (hdep ⟨12, .guard⟩ (by simp) rfl) rfl)) (exec_eqb4 rfl (eval_tmp (hgot 18 _ 106 rfl (hdep ⟨18, .data⟩ (by simp) rfl) rfl)) (eval_tmp (hgot 24 _ 112 rfl (hdep ⟨24, .data⟩ (by simp) rfl) rfl))) (hK x _ _ (fun _ _ _ _ _ _ => rfl) (fun s hs => by cases hs; rfl) (by simpa using hst))
        · exact wp_ran rfl (exec_pick rfl (eval_tmp (hgot 12 _ 100 rfl (hdep ⟨12, .data⟩ (by simp) rfl) rfl)) (eval_tmp (hgot 25 _ 113 rfl (hdep ⟨25, .data⟩ (by simp) rfl) rfl)) rfl rfl) (hK x _ _ (fun _ _ _ _ _ _ => rfl) (fun s hs => by cases hs; rfl) (by simpa using hst))
        · exact wp_ran rfl (exec_assign rfl (eval_tmp (hgot 26 _ 114 rfl (hdep ⟨26, .data⟩ (by simp) rfl) rfl))) (hK x _ _ (fun _ _ _ _ _ _ => rfl) (fun s hs => by cases hs; rfl) (by simpa using hst))
      intro x lz v13 hlz hst
      have MM := hst.mod
      clear hst hlz
      simp only [setAll, Act.put, List.foldl_cons, List.foldl_nil, List.setIfInBounds_toArray, List.set_cons_succ, List.set_cons_zero]
      go_wp2_with fail
      go_ret
      exact ⟨rfl, MM⟩
  have dz2 : decide (6 < u) = false := decide_eq_false z2
  have f : newR u = (0, ⟨u, 1, [], [], []⟩) := by
    unfold newR upTo
    rw [decide_eq_true (show 1 ≤ u by omega), decide_eq_true (show u ≤ 6 by omega)]
    rfl
  rw [f] at NW
  clear f z1 z2
  have HN : Hid (sameB (⟨u, 1, [], [], []⟩ : Pm) ⟨u, 1, [], [], []⟩ = true) := Lib.hid ((sameB_iff _ _).2 rfl)
  go_enter Try.func4, Try.ntmps4
  go_wp2_with (first
    | (with_reducible refine fm_box FA (o := ⟨some 3, .box 24 (.tmp 0), _, _, _, _⟩) rfl 24 (.tmp 0) rfl cs rfl ?_; intro b3 w1 F1; clear FA)
    | (with_reducible refine fm_box F1 (o := ⟨some 4, .box 24 (.tmp 1), _, _, _, _⟩) rfl 24 (.tmp 1) rfl ds rfl ?_; intro b4 w2 F2; clear F1)
    | (with_reducible refine fm_box F2 (o := ⟨some 5, .box 39 (.tmp 2), _, _, _, _⟩) rfl 39 (.tmp 2) rfl [ci u, .slice A n c] rfl ?_; intro b5 w3 F3; clear F2)
    | (go_at_call 7; refine (wakes_c w3).mono ?_; rintro e w4 ⟨rfl, m4⟩; have F4 := F3.call m4; clear F3 m4)
    | (with_reducible refine fm_load F4 2 rfl (o := ⟨some 12, .load 24 (.tmp 3), _, _, _, _⟩) rfl (.tmp 3) rfl rfl h5 ?_)
    | (go_at_call 8; refine (large_p (F4.k _ (.inr HTS.out)).2.1 _ HLG).mono ?_; rintro e w5 ⟨rfl, m5⟩; have F5 := F4.call m5; clear F4 m5)
    | (with_reducible refine fm_loadG F5 1 rfl (o := ⟨some 15, .load 24 (.tmp 4), _, _, _, _⟩) (by with_unfolding_all rfl) (.tmp 4) rfl rfl h5q ?_)
    | (go_at_call 8; refine (large_p (F5.k _ (.inr HTT.out)).2.1 _ HLQ).mono ?_
       rintro e w6 ⟨rfl, m6⟩
       have F6 := F5.call m6
       have q5 : w6.cell? ⟨b5, 0, none⟩ = some (ci u) := (F6.blk 0 rfl : Holds w6 b5 39 [ci u, .slice A n c]).cell 0
       have q6 : w6.cell? ⟨b5, 1, none⟩ = some (.slice A n c) := (F6.blk 0 rfl : Holds w6 b5 39 [ci u, .slice A n c]).cell 1
       clear F5 m6)
    | (go_at_call 14; refine (NW.out w6).mono ?_
       rintro e w7 ⟨cs7, rfl, hP7, m7⟩
       simp only at hP7
       have F7 := (F6.put m7 (tP _ _ cs7) (keeps_tP _ _ _) hP7 (fun g hg => .inl hg))
       have h57 := hP7.len
       have h1 := hP7.one
       have HP7 := Lib.hid hP7
       clear F6 m7 hP7 q5 q6)
    | (with_reducible refine fm_alloc F7 (o := ⟨some 7, .alloc 24, _, _, _, _⟩) rfl 24 rfl _ zero24 ?_; intro b7 w8 F8; clear F7)
    | (with_reducible refine fm_store F8 0 rfl (o := ⟨none, .store 24 (.tmp 7) (.tmp 28), _, _, _, _⟩) rfl (.tmp 7) (.tmp 28) rfl rfl cs7 rfl rfl h57 rfl h1 ?_
       intro w9 F9
       have q5 : w9.cell? ⟨b5, 0, none⟩ = some (ci u) := (F9.blk 1 rfl : Holds w9 b5 39 [ci u, .slice A n c]).cell 0
       have q6 : w9.cell? ⟨b5, 1, none⟩ = some (.slice A n c) := (F9.blk 1 rfl : Holds w9 b5 39 [ci u, .slice A n c]).cell 1
       clear F8)
    | (with_reducible refine fm_loadG F9 0 rfl (o := ⟨some 49, .load 24 (.tmp 7), _, _, _, _⟩) (by with_unfolding_all rfl) (.tmp 7) rfl rfl h57 ?_)
    | (go_at_call 13; refine (rsame_p (F9.s 0 rfl) (PIs.bare _ (fun _ => False) u 1) true HN).mono ?_
       rintro e w10 ⟨rfl, m10⟩
       have G11 := (F9.call m10).weak
       clear F9 m10 q5 q6))
  clear HP7 h57 h1
  cases b0
  · refine wp_region_upx (X := XC) (⟨0, [], []⟩) (fun x => [(56, .agg cs.toArray), (57, .agg x.2.1.toArray), (58, .int .i64 210), (59, .bool false), (60, .agg cs.toArray), (61, .bool false), (62, .bool true), (63, .bool true), (64, .agg cs.toArray), (65, .bool false), (66, .bool false), (67, .agg cs.toArray), (68, .int .i64 210), (69, .bool true), (70, .bool true), (71, .bool true), (9, .bool true)]) 115 [56, 57, 58, 59, 60, 61, 62, 63, 64, 65, 66, 67, 68, 69, 70, 71, 9] rfl (fun _ => rfl) (by decide) (by kernel_rfl) (fun x lz v => CgS w [oB b7 24 cs7, oB b5 39 [ci u, .slice A n c], oB b4 24 ds, oB b3 24 cs] TB p0 p0 (lz 1) false false false x v) (by kernel_rfl) (CgS.begin (G11.call (Mod.drew [] _)) _) (by kernel_rfl) (by kernel_rfl) ?_ ?_
    · skip
      intro x lz T v j o hj hlj hdep hst hpar hgot hcl Kq hK
      have hjn : j < 17 := (Array.getElem?_eq_some_iff.1 hj).1
      obtain rfl | rfl | rfl | rfl | rfl | rfl | rfl | rfl | rfl | rfl | rfl | rfl | rfl | rfl | rfl | rfl | rfl : j = 0 ∨ j = 1 ∨ j = 2 ∨ j = 3 ∨ j = 4 ∨ j = 5 ∨ j = 6 ∨ j = 7 ∨ j = 8 ∨ j = 9 ∨ j = 10 ∨ j = 11 ∨ j = 12 ∨ j = 13 ∨ j = 14 ∨ j = 15 ∨ j = 16 := by omega
      all_goals (have hj' := Option.some.inj (hj : some _ = some o); subst hj'; clear hj)
      · exact wp_ran rfl (exec_load rfl (eval_tmp ((hpar 3 rfl).trans rfl)) (run_loads (Cells.of_holds (hst.own (y := oB b3 24 cs) (by simp))) Try.underlying24 rfl (size24' h5))) (hK x _ _ (fun _ _ _ _ _ _ => rfl) (fun s hs => by cases hs; rfl) (by simpa using hst))
      · obtain ⟨hP, hS⟩ := hst.std HTS.out
        rw [hlj] at hst
        refine wp_called rfl (exec_call1 rfl rfl (eval_tmp (hgot 0 _ 56 rfl (hdep ⟨0, .data⟩ (by simp) rfl) rfl)) (enters_of Try.func10 (by kernel_rfl) rfl)) ((copied_p hP hS HLG.out).mono ?_)
        rintro e v' ⟨cs1, rfl, hP1, m1⟩
        refine ⟨_, rfl, hK ⟨x.1, cs1, x.2.2⟩ _ _ (fun j' o' s' g1 g2 g3 => by
            have g4 : j' < 17 := (Array.getElem?_eq_some_iff.1 g1).1
            clear hpar hgot hdep hK
            obtain rfl | rfl | rfl | rfl | rfl | rfl | rfl | rfl | rfl | rfl | rfl | rfl | rfl | rfl | rfl | rfl | rfl : j' = 0 ∨ j' = 1 ∨ j' = 2 ∨ j' = 3 ∨ j' = 4 ∨ j' = 5 ∨ j' = 6 ∨ j' = 7 ∨ j' = 8 ∨ j' = 9 ∨ j' = 10 ∨ j' = 11 ∨ j' = 12 ∨ j' = 13 ∨ j' = 14 ∨ j' = 15 ∨ j' = 16 := by omega
            all_goals (cases g1; cases g3 <;> first | rfl | (rw [hlj] at g2; cases g2))) (fun s hs => by cases hs; rfl) ?_⟩
        simpa using hst.copied hP1 m1
      · have t1 : lz 1 = true := (hdep ⟨1, .data⟩ (by simp) rfl)
        rw [t1] at hst
        obtain ⟨S1, hC, hS1⟩ := hst.copy
        refine wp_called rfl (exec_call1 rfl rfl (eval_tmp (hgot 1 _ 57 rfl (hdep ⟨1, .data⟩ (by simp) rfl) rfl)) (enters_of Try.func15 (by kernel_rfl) rfl)) ((check_p hC false HB0).mono ?_)
        rintro e v' ⟨rfl, m1⟩
        exact ⟨_, rfl, hK x _ _ (fun _ _ _ _ _ _ => rfl) (fun s hs => by cases hs; rfl) (by simpa [t1] using hst.call m1)⟩
      · exact wp_ran rfl (exec_eqi rfl rfl (eval_tmp (hgot 2 _ 58 rfl (hdep ⟨2, .data⟩ (by simp) rfl) rfl)) rfl) (hK x _ _ (fun _ _ _ _ _ _ => rfl) (fun s hs => by cases hs; rfl) (by simpa using hst))
      · exact wp_ran rfl (exec_load rfl (eval_tmp ((hpar 3 rfl).trans rfl)) (run_loads (Cells.of_holds (hst.own (y := oB b3 24 cs) (by simp))) Try.underlying24 rfl (size24' h5))) (hK x _ _ (fun _ _ _ _ _ _ => rfl) (fun s hs => by cases hs; rfl) (by simpa using hst))
      · obtain ⟨hP, hS⟩ := hst.std HTS.out
        refine wp_called rfl (exec_call1 rfl rfl (eval_tmp (hgot 4 _ 60 rfl (hdep ⟨4, .data⟩ (by simp) rfl) rfl)) (enters_of Try.func16 (by kernel_rfl) rfl)) ((right_p hP false HB0).mono ?_)
        rintro e v' ⟨rfl, m1⟩
        exact ⟨_, rfl, hK x _ _ (fun _ _ _ _ _ _ => rfl) (fun s hs => by cases hs; rfl) (by simpa using hst.call m1)⟩
      · exact wp_ran rfl (exec_eqb4 rfl (eval_tmp (hgot 3 _ 59 rfl (hdep ⟨3, .data⟩ (by simp) rfl) rfl)) (eval_tmp (hgot 5 _ 61 rfl (hdep ⟨5, .data⟩ (by simp) rfl) rfl))) (hK x _ _ (fun _ _ _ _ _ _ => rfl) (fun s hs => by cases hs; rfl) (by simpa using hst))
      · exact wp_ran rfl (exec_move rfl (eval_tmp (hgot 6 _ 62 rfl (hdep ⟨6, .data⟩ (by simp) rfl) rfl))) (hK x _ _ (fun _ _ _ _ _ _ => rfl) (fun s hs => by cases hs; rfl) (by simpa using hst))
      · exact wp_ranW (wanted_yes rfl rfl rfl (hgot 7 _ 63 rfl (hdep ⟨7, .guard⟩ (by simp) rfl) rfl)) (exec_load rfl (eval_tmp ((hpar 3 rfl).trans rfl)) (run_loads (Cells.of_holds (hst.own (y := oB b3 24 cs) (by simp))) Try.underlying24 rfl (size24' h5))) (hK x _ _ (fun _ _ _ _ _ _ => rfl) (fun s hs => by cases hs; rfl) (by simpa using hst))
      · obtain ⟨hP, hS⟩ := hst.std HTS.out
        refine wp_calledW (wanted_yes rfl rfl rfl (hgot 7 _ 63 rfl (hdep ⟨7, .chain⟩ (by simp) rfl) rfl)) (exec_call1 rfl rfl (eval_tmp (hgot 8 _ 64 rfl (hdep ⟨8, .data⟩ (by simp) rfl) rfl)) (enters_of Try.func16 (by kernel_rfl) rfl)) ((right_p hP false HB0).mono ?_)
        rintro e v' ⟨rfl, m1⟩
        exact ⟨_, rfl, hK x _ _ (fun _ _ _ _ _ _ => rfl) (fun s hs => by cases hs; rfl) (by simpa using hst.call m1)⟩
      · exact wp_ranW (wanted_yes rfl rfl rfl (hgot 7 _ 63 rfl (hdep ⟨7, .guard⟩ (by simp) rfl) rfl)) (exec_move rfl (eval_tmp (hgot 9 _ 65 rfl (hdep ⟨9, .data⟩ (by simp) rfl) rfl))) (hK x _ _ (fun _ _ _ _ _ _ => rfl) (fun s hs => by cases hs; rfl) (by simpa using hst))
      · exact wp_ranW (wanted_yes rfl rfl rfl (hgot 10 _ 66 rfl (hdep ⟨10, .guard⟩ (by simp) rfl) rfl)) (exec_load rfl (eval_tmp ((hpar 3 rfl).trans rfl)) (run_loads (Cells.of_holds (hst.own (y := oB b3 24 cs) (by simp))) Try.underlying24 rfl (size24' h5))) (hK x _ _ (fun _ _ _ _ _ _ => rfl) (fun s hs => by cases hs; rfl) (by simpa using hst))
      · obtain ⟨hP, hS⟩ := hst.std HTS.out
        refine wp_calledW (wanted_yes rfl rfl rfl (hgot 10 _ 66 rfl (hdep ⟨10, .chain⟩ (by simp) rfl) rfl)) (exec_call1 rfl rfl (eval_tmp (hgot 11 _ 67 rfl (hdep ⟨11, .data⟩ (by simp) rfl) rfl)) (enters_of Try.func15 (by kernel_rfl) rfl)) ((check_p hP false HB0).mono ?_)
        rintro e v' ⟨rfl, m1⟩
        exact ⟨_, rfl, hK x _ _ (fun _ _ _ _ _ _ => rfl) (fun s hs => by cases hs; rfl) (by simpa using hst.call m1)⟩
      · exact wp_ranW (wanted_yes rfl rfl rfl (hgot 10 _ 66 rfl (hdep ⟨10, .guard⟩ (by simp) rfl) rfl)) (exec_eqi rfl rfl (eval_tmp (hgot 12 _ 68 rfl (hdep ⟨12, .data⟩ (by simp) rfl) rfl)) rfl) (hK x _ _ (fun _ _ _ _ _ _ => rfl) (fun s hs => by cases hs; rfl) (by simpa using hst))
      · exact wp_ranW (wanted_yes rfl rfl rfl (hgot 7 _ 63 rfl (hdep ⟨7, .guard⟩ (by simp) rfl) rfl)) (exec_pick rfl (eval_tmp (hgot 10 _ 66 rfl (hdep ⟨10, .data⟩ (by simp) rfl) rfl)) rfl (eval_tmp (hgot 13 _ 69 rfl (hdep ⟨13, .data⟩ (by simp) rfl) rfl)) rfl) (hK x _ _ (fun _ _ _ _ _ _ => rfl) (fun s hs => by cases hs; rfl) (by simpa using hst))
      · exact wp_ran rfl (exec_pick rfl (eval_tmp (hgot 7 _ 63 rfl (hdep ⟨7, .data⟩ (by simp) rfl) rfl)) (eval_tmp (hgot 14 _ 70 rfl (hdep ⟨14, .data⟩ (by simp) rfl) rfl)) rfl rfl) (hK x _ _ (fun _ _ _ _ _ _ => rfl) (fun s hs => by cases hs; rfl) (by simpa using hst))
      · exact wp_ran rfl (exec_assign rfl (eval_tmp (hgot 15 _ 71 rfl (hdep ⟨15, .data⟩ (by simp) rfl) rfl))) (hK x _ _ (fun _ _ _ _ _ _ => rfl) (fun s hs => by cases hs; rfl) (by simpa using hst))
    intro x lz v11 hlz hst
    rw [hlz 1 (by decide)] at hst
    obtain ⟨T12, F12, hTB12, hc12⟩ := hst
    have G12 : Fm w v11 [oB b7 24 cs7, oB b5 39 [ci u, .slice A n c], oB b4 24 ds, oB b3 24 cs] T12 := F12
    have HTS2 : Hid (tP S p0 cs ∈ T12) := Lib.hid (hTB12 _ HTS.out)
    have HTT2 : Hid (tP T q0 ds ∈ T12) := Lib.hid (hTB12 _ HTT.out)
    clear hlz F12 hTB12 hc12 G11
    simp only [setAll, Act.put, List.foldl_cons, List.foldl_nil, List.setIfInBounds_toArray, List.set_cons_succ, List.set_cons_zero]
    go_wp2_with fail
    refine wp_region_upxo (X := XC) (⟨0, [], []⟩) (fun x => [(72, .bool true), (73, .bool true), (74, .agg cs.toArray), (75, .agg ds.toArray), (76, .bool s0), (77, .agg cs.toArray), (78, .agg ds.toArray), (79, .bool s0), (80, .bool true), (81, .bool true), (82, .bool true), (83, .agg cs.toArray), (84, .agg cs.toArray), (85, .agg x.2.1.toArray), (86, .bool true), (87, .bool true), (9, .bool true)]) 115 [72, 73, 74, 75, 76, 77, 78, 79, 80, 81, 82, 83, 84, 85, 86, 87, 9] rfl (fun _ => rfl) (by decide) (by kernel_rfl) (fun x lz v => CgS w [oB b7 24 cs7, oB b5 39 [ci u, .slice A n c], oB b4 24 ds, oB b3 24 cs] T12 p0 p0 (lz 13) false false false x v) (by kernel_rfl) (CgS.begin (G12.call (Mod.drew [] _)) _) (by kernel_rfl) (by kernel_rfl) ?_ ?_
    · skip
      intro x lz T v j o hj hlj hdep hst hpar hgot hcl hdf hold Kq hK
      have hjn : j < 17 := (Array.getElem?_eq_some_iff.1 hj).1
      obtain rfl | rfl | rfl | rfl | rfl | rfl | rfl | rfl | rfl | rfl | rfl | rfl | rfl | rfl | rfl | rfl | rfl : j = 0 ∨ j = 1 ∨ j = 2 ∨ j = 3 ∨ j = 4 ∨ j = 5 ∨ j = 6 ∨ j = 7 ∨ j = 8 ∨ j = 9 ∨ j = 10 ∨ j = 11 ∨ j = 12 ∨ j = 13 ∨ j = 14 ∨ j = 15 ∨ j = 16 := by omega
      all_goals (have hj' := Option.some.inj (hj : some _ = some o); subst hj'; clear hj)
      · have l16 : lz 16 = false := (by cases hh : lz 16 with | false => rfl | true => exact absurd (hcl 16 _ rfl hh ⟨0, .phase⟩ (by simp) rfl) (by rw [hlj]; simp))
        have h9 : T.tmps[9]? = some (.bool true) := (hold 9 (fun j o' h1 h2 h3 => by
          have g4 : j < 17 := (Array.getElem?_eq_some_iff.1 h1).1
          clear hpar hgot hdep hK hold
          obtain rfl | rfl | rfl | rfl | rfl | rfl | rfl | rfl | rfl | rfl | rfl | rfl | rfl | rfl | rfl | rfl | rfl : j = 0 ∨ j = 1 ∨ j = 2 ∨ j = 3 ∨ j = 4 ∨ j = 5 ∨ j = 6 ∨ j = 7 ∨ j = 8 ∨ j = 9 ∨ j = 10 ∨ j = 11 ∨ j = 12 ∨ j = 13 ∨ j = 14 ∨ j = 15 ∨ j = 16 := by omega
          all_goals (cases h1; first | (cases h3; done) | (rw [l16] at h2; cases h2)))).trans rfl
        exact wp_ran rfl (exec_move rfl (eval_tmp h9)) (hK x _ _ (fun _ _ _ _ _ _ => rfl) (fun s hs => by cases hs; rfl) (by simpa using hst))
      · exact wp_ran rfl (exec_move rfl (eval_tmp (hgot 0 _ 72 rfl (hdep ⟨0, .data⟩ (by simp) rfl) rfl))) (hK x _ _ (fun _ _ _ _ _ _ => rfl) (fun s hs => by cases hs; rfl) (by simpa using hst))
      · exact wp_ranW (wanted_yes rfl rfl rfl (hgot 1 _ 73 rfl (hdep ⟨1, .guard⟩ (by simp) rfl) rfl)) (exec_load rfl (eval_tmp ((hpar 3 rfl).trans rfl)) (run_loads (Cells.of_holds (hst.own (y := oB b3 24 cs) (by simp))) Try.underlying24 rfl (size24' h5))) (hK x _ _ (fun _ _ _ _ _ _ => rfl) (fun s hs => by cases hs; rfl) (by simpa using hst))
      · exact wp_ranW (wanted_yes rfl rfl rfl (hgot 1 _ 73 rfl (hdep ⟨1, .guard⟩ (by simp) rfl) rfl)) (exec_load rfl (eval_tmp ((hpar 4 rfl).trans rfl)) (run_loads (Cells.of_holds (hst.own (y := oB b4 24 ds) (by simp))) Try.underlying24 rfl (size24' h5q))) (hK x _ _ (fun _ _ _ _ _ _ => rfl) (fun s hs => by cases hs; rfl) (by simpa using hst))
      · obtain ⟨hP, hS⟩ := hst.std HTS2.out
        obtain ⟨hQ, hS2⟩ := hst.std HTT2.out
        refine wp_calledW (wanted_yes rfl rfl rfl (hgot 1 _ 73 rfl (hdep ⟨1, .chain⟩ (by simp) rfl) rfl)) (exec_call2 rfl rfl (eval_tmp (hgot 2 _ 74 rfl (hdep ⟨2, .data⟩ (by simp) rfl) rfl)) (eval_tmp (hgot 3 _ 75 rfl (hdep ⟨3, .data⟩ (by simp) rfl) rfl)) (enters_of Try.func17 (by kernel_rfl) rfl)) ((psame_p hP hQ s0 HS0).mono ?_)
        rintro e v' ⟨rfl, m1⟩
        exact ⟨_, rfl, hK x _ _ (fun _ _ _ _ _ _ => rfl) (fun s hs => by cases hs; rfl) (by simpa using hst.call m1)⟩
      · exact wp_ranW (wanted_yes rfl rfl rfl (hgot 1 _ 73 rfl (hdep ⟨1, .guard⟩ (by simp) rfl) rfl)) (exec_load rfl (eval_tmp ((hpar 3 rfl).trans rfl)) (run_loads (Cells.of_holds (hst.own (y := oB b3 24 cs) (by simp))) Try.underlying24 rfl (size24' h5))) (hK x _ _ (fun _ _ _ _ _ _ => rfl) (fun s hs => by cases hs; rfl) (by simpa using hst))
      · exact wp_ranW (wanted_yes rfl rfl rfl (hgot 1 _ 73 rfl (hdep ⟨1, .guard⟩ (by simp) rfl) rfl)) (exec_load rfl (eval_tmp ((hpar 4 rfl).trans rfl)) (run_loads (Cells.of_holds (hst.own (y := oB b4 24 ds) (by simp))) Try.underlying24 rfl (size24' h5q))) (hK x _ _ (fun _ _ _ _ _ _ => rfl) (fun s hs => by cases hs; rfl) (by simpa using hst))
      · obtain ⟨hP, hS⟩ := hst.std HTS2.out
        obtain ⟨hQ, hS2⟩ := hst.std HTT2.out
        refine wp_calledW (wanted_yes rfl rfl rfl (hgot 1 _ 73 rfl (hdep ⟨1, .guard⟩ (by simp) rfl) rfl)) (exec_call2 rfl rfl (eval_tmp (hgot 5 _ 77 rfl (hdep ⟨5, .data⟩ (by simp) rfl) rfl)) (eval_tmp (hgot 6 _ 78 rfl (hdep ⟨6, .data⟩ (by simp) rfl) rfl)) (enters_of Try.func13 (by kernel_rfl) rfl)) ((rsame_p hP hQ s0 HS0).mono ?_)
        rintro e v' ⟨rfl, m1⟩
        exact ⟨_, rfl, hK x _ _ (fun _ _ _ _ _ _ => rfl) (fun s hs => by cases hs; rfl) (by simpa using hst.call m1)⟩
      · exact wp_ranW (wanted_yes rfl rfl rfl (hgot 1 _ 73 rfl (hdep ⟨1, .guard⟩ (by simp) rfl) rfl)) (exec_eqb4 rfl (eval_tmp (hgot 4 _ 76 rfl (hdep ⟨4, .data⟩ (by simp) rfl) rfl)) (eval_tmp (hgot 7 _ 79 rfl (hdep ⟨7, .data⟩ (by simp) rfl) rfl))) (hK x _ _ (fun _ _ _ _ _ _ => rfl) (fun s hs => by cases hs; rfl) (by simpa using hst))
      · exact wp_ran rfl (exec_pick rfl (eval_tmp (hgot 1 _ 73 rfl (hdep ⟨1, .data⟩ (by simp) rfl) rfl)) (eval_tmp (hgot 8 _ 80 rfl (hdep ⟨8, .data⟩ (by simp) rfl) rfl)) rfl rfl) (hK x _ _ (fun _ _ _ _ _ _ => rfl) (fun s hs => by cases hs; rfl) (by simpa using hst))
      · exact wp_ran rfl (exec_move rfl (eval_tmp (hgot 9 _ 81 rfl (hdep ⟨9, .data⟩ (by simp) rfl) rfl))) (hK x _ _ (fun _ _ _ _ _ _ => rfl) (fun s hs => by cases hs; rfl) (by simpa using hst))
      · exact wp_ranW (wanted_yes rfl rfl rfl (hgot 10 _ 82 rfl (hdep ⟨10, .guard⟩ (by simp) rfl) rfl)) (exec_load rfl (eval_tmp ((hpar 3 rfl).trans rfl)) (run_loads (Cells.of_holds (hst.own (y := oB b3 24 cs) (by simp))) Try.underlying24 rfl (size24' h5))) (hK x _ _ (fun _ _ _ _ _ _ => rfl) (fun s hs => by cases hs; rfl) (by simpa using hst))
      · exact wp_ranW (wanted_yes rfl rfl rfl (hgot 10 _ 82 rfl (hdep ⟨10, .guard⟩ (by simp) rfl) rfl)) (exec_load rfl (eval_tmp ((hpar 3 rfl).trans rfl)) (run_loads (Cells.of_holds (hst.own (y := oB b3 24 cs) (by simp))) Try.underlying24 rfl (size24' h5))) (hK x _ _ (fun _ _ _ _ _ _ => rfl) (fun s hs => by cases hs; rfl) (by simpa using hst))
      · obtain ⟨hP, hS⟩ := hst.std HTS2.out
        rw [hlj] at hst
        refine wp_calledW (wanted_yes rfl rfl rfl (hgot 10 _ 82 rfl (hdep ⟨10, .chain⟩ (by simp) rfl) rfl)) (exec_call1 rfl rfl (eval_tmp (hgot 12 _ 84 rfl (hdep ⟨12, .data⟩ (by simp) rfl) rfl)) (enters_of Try.func10 (by kernel_rfl) rfl)) ((copied_p hP hS HLG.out).mono ?_)
        rintro e v' ⟨cs1, rfl, hP1, m1⟩
        refine ⟨_, rfl, hK ⟨x.1, cs1, x.2.2⟩ _ _ (fun j' o' s' g1 g2 g3 => by
            have g4 : j' < 17 := (Array.getElem?_eq_some_iff.1 g1).1
            clear hpar hgot hdep hK
            obtain rfl | rfl | rfl | rfl | rfl | rfl | rfl | rfl | rfl | rfl | rfl | rfl | rfl | rfl | rfl | rfl | rfl : j' = 0 ∨ j' = 1 ∨ j' = 2 ∨ j' = 3 ∨ j' = 4 ∨ j' = 5 ∨ j' = 6 ∨ j' = 7 ∨ j' = 8 ∨ j' = 9 ∨ j' = 10 ∨ j' = 11 ∨ j' = 12 ∨ j' = 13 ∨ j' = 14 ∨ j' = 15 ∨ j' = 16 := by omega
            all_goals (cases g1; cases g3 <;> first | rfl | (rw [hlj] at g2; cases g2))) (fun s hs => by cases hs; rfl) ?_⟩
        simpa using hst.copied hP1 m1
      · have t1 : lz 13 = true := (hdep ⟨13, .data⟩ (by simp) rfl)
        rw [t1] at hst
        obtain ⟨S1, hC, hS1⟩ := hst.copy
        obtain ⟨hP, hS⟩ := hst.std HTS2.out
        refine wp_calledW (wanted_yes rfl rfl rfl (hgot 10 _ 82 rfl (hdep ⟨10, .guard⟩ (by simp) rfl) rfl)) (exec_call2 rfl rfl (eval_tmp (hgot 11 _ 83 rfl (hdep ⟨11, .data⟩ (by simp) rfl) rfl)) (eval_tmp (hgot 13 _ 85 rfl (hdep ⟨13, .data⟩ (by simp) rfl) rfl)) (enters_of Try.func17 (by kernel_rfl) rfl)) ((psame_p hP hC true HSP).mono ?_)
        rintro e v' ⟨rfl, m1⟩
        exact ⟨_, rfl, hK x _ _ (fun _ _ _ _ _ _ => rfl) (fun s hs => by cases hs; rfl) (by simpa [t1] using hst.call m1)⟩
      · exact wp_ran rfl (exec_pick rfl (eval_tmp (hgot 10 _ 82 rfl (hdep ⟨10, .data⟩ (by simp) rfl) rfl)) (eval_tmp (hgot 14 _ 86 rfl (hdep ⟨14, .data⟩ (by simp) rfl) rfl)) rfl rfl) (hK x _ _ (fun _ _ _ _ _ _ => rfl) (fun s hs => by cases hs; rfl) (by simpa using hst))
      · exact wp_ran rfl (exec_assign rfl (eval_tmp (hgot 15 _ 87 rfl (hdep ⟨15, .data⟩ (by simp) rfl) rfl))) (hK x _ _ (fun _ _ _ _ _ _ => rfl) (fun s hs => by cases hs; rfl) (by simpa using hst))
    intro x lz v12 hlz hst
    rw [hlz 13 (by decide)] at hst
    obtain ⟨T13, F13, hTB13, hc13⟩ := hst
    have G13 : Fm w v12 [oB b7 24 cs7, oB b5 39 [ci u, .slice A n c], oB b4 24 ds, oB b3 24 cs] T13 := F13
    have HTS3 : Hid (tP S p0 cs ∈ T13) := Lib.hid (hTB13 _ HTS2.out)
    clear hlz F13 hTB13 hc13 G12
    simp only [setAll, Act.put, List.foldl_cons, List.foldl_nil, List.setIfInBounds_toArray, List.set_cons_succ, List.set_cons_zero]
    go_wp2_with fail
    refine wp_region_upx (X := XC) (⟨0, [], []⟩) (fun x => [(88, .bool true), (89, .bool true), (90, .agg cs.toArray), (91, .pointer (some ⟨b5, 0, none⟩)), (92, ci u), (93, .bool mw), (94, .agg cs.toArray), (95, .pointer (some ⟨b5, 0, none⟩)), (96, ci u), (97, .bool mw), (98, .bool true), (99, .bool true), (100, .bool true), (101, .agg cs.toArray), (102, .pointer (some ⟨b5, 0, none⟩)), (103, ci u), (104, .pointer (some ⟨b5, 1, none⟩)), (105, .slice A n c), (106, .bool mr), (107, .agg cs.toArray), (108, .pointer (some ⟨b5, 0, none⟩)), (109, ci u), (110, .pointer (some ⟨b5, 1, none⟩)), (111, .slice A n c), (112, .bool mr), (113, .bool true), (114, .bool true), (6, .bool true)]) 115 [88, 89, 90, 91, 92, 93, 94, 95, 96, 97, 98, 99, 100, 101, 102, 103, 104, 105, 106, 107, 108, 109, 110, 111, 112, 113, 114, 6] rfl (fun _ => rfl) (by decide) (by kernel_rfl) (fun x lz v => CgS w [oB b7 24 cs7, oB b5 39 [ci u, .slice A n c], oB b4 24 ds, oB b3 24 cs] T13 p0 p0 false false false false x v) (by kernel_rfl) (CgS.begin (G13.call (Mod.drew [] _)) _) (by kernel_rfl) (by kernel_rfl) ?_ ?_
    · skip
      intro x lz T v j o hj hlj hdep hst hpar hgot hcl Kq hK
      have hjn : j < 28 := (Array.getElem?_eq_some_iff.1 hj).1
      obtain rfl | rfl | rfl | rfl | rfl | rfl | rfl | rfl | rfl | rfl | rfl | rfl | rfl | rfl | rfl | rfl | rfl | rfl | rfl | rfl | rfl | rfl | rfl | rfl | rfl | rfl | rfl | rfl : j = 0 ∨ j = 1 ∨ j = 2 ∨ j = 3 ∨ j = 4 ∨ j = 5 ∨ j = 6 ∨ j = 7 ∨ j = 8 ∨ j = 9 ∨ j = 10 ∨ j = 11 ∨ j = 12 ∨ j = 13 ∨ j = 14 ∨ j = 15 ∨ j = 16 ∨ j = 17 ∨ j = 18 ∨ j = 19 ∨ j = 20 ∨ j = 21 ∨ j = 22 ∨ j = 23 ∨ j = 24 ∨ j = 25 ∨ j = 26 ∨ j = 27 := by omega
      all_goals (have hj' := Option.some.inj (hj : some _ = some o); subst hj'; clear hj)
      · exact wp_ran rfl (exec_move rfl (eval_tmp ((hpar 9 rfl).trans rfl))) (hK x _ _ (fun _ _ _ _ _ _ => rfl) (fun s hs => by cases hs; rfl) (by simpa using hst))
      · exact wp_ran rfl (exec_move rfl (eval_tmp (hgot 0 _ 88 rfl (hdep ⟨0, .data⟩ (by simp) rfl) rfl))) (hK x _ _ (fun _ _ _ _ _ _ => rfl) (fun s hs => by cases hs; rfl) (by simpa using hst))
      · exact wp_ranW (wanted_yes rfl rfl rfl (hgot 1 _ 89 rfl (hdep ⟨1, .guard⟩ (by simp) rfl) rfl)) (exec_load rfl (eval_tmp ((hpar 3 rfl).trans rfl)) (run_loads (Cells.of_holds (hst.own (y := oB b3 24 cs) (by simp))) Try.underlying24 rfl (size24' h5))) (hK x _ _ (fun _ _ _ _ _ _ => rfl) (fun s hs => by cases hs; rfl) (by simpa using hst))
      · exact wp_ranW (wanted_yes rfl rfl rfl (hgot 1 _ 89 rfl (hdep ⟨1, .guard⟩ (by simp) rfl) rfl)) (exec_fp39_0 rfl (eval_tmp ((hpar 5 rfl).trans rfl))) (hK x _ _ (fun _ _ _ _ _ _ => rfl) (fun s hs => by cases hs; rfl) (by simpa using hst))
      · exact wp_ranW (wanted_yes rfl rfl rfl (hgot 1 _ 89 rfl (hdep ⟨1, .guard⟩ (by simp) rfl) rfl)) (exec_load rfl (eval_tmp (hgot 3 _ 91 rfl (hdep ⟨3, .data⟩ (by simp) rfl) rfl)) (run_load1 Try.underlying3 rfl ((hst.own (y := oB b5 39 [ci u, .slice A n c]) (by simp) : Holds v b5 39 _).cell 0))) (hK x _ _ (fun _ _ _ _ _ _ => rfl) (fun s hs => by cases hs; rfl) (by simpa using hst))
      · obtain ⟨hP, hS⟩ := hst.std HTS3.out
        refine wp_calledW (wanted_yes rfl rfl rfl (hgot 1 _ 89 rfl (hdep ⟨1, .chain⟩ (by simp) rfl) rfl)) (exec_call2 rfl rfl (eval_tmp (hgot 2 _ 90 rfl (hdep ⟨2, .data⟩ (by simp) rfl) rfl)) (eval_tmp (hgot 4 _ 92 rfl (hdep ⟨4, .data⟩ (by simp) rfl) rfl)) (enters_of Try.func18 (by kernel_rfl) rfl)) ((mayW_p hP hS u mw HMW).mono ?_)
        rintro e v' ⟨rfl, m1⟩
        exact ⟨_, rfl, hK x _ _ (fun _ _ _ _ _ _ => rfl) (fun s hs => by cases hs; rfl) (by simpa using hst.call m1)⟩
      · exact wp_ranW (wanted_yes rfl rfl rfl (hgot 1 _ 89 rfl (hdep ⟨1, .guard⟩ (by simp) rfl) rfl)) (exec_load rfl (eval_tmp ((hpar 3 rfl).trans rfl)) (run_loads (Cells.of_holds (hst.own (y := oB b3 24 cs) (by simp))) Try.underlying24 rfl (size24' h5))) (hK x _ _ (fun _ _ _ _ _ _ => rfl) (fun s hs => by cases hs; rfl) (by simpa using hst))
      · exact wp_ranW (wanted_yes rfl rfl rfl (hgot 1 _ 89 rfl (hdep ⟨1, .guard⟩ (by simp) rfl) rfl)) (exec_fp39_0 rfl (eval_tmp ((hpar 5 rfl).trans rfl))) (hK x _ _ (fun _ _ _ _ _ _ => rfl) (fun s hs => by cases hs; rfl) (by simpa using hst))
      · exact wp_ranW (wanted_yes rfl rfl rfl (hgot 1 _ 89 rfl (hdep ⟨1, .guard⟩ (by simp) rfl) rfl)) (exec_load rfl (eval_tmp (hgot 7 _ 95 rfl (hdep ⟨7, .data⟩ (by simp) rfl) rfl)) (run_load1 Try.underlying3 rfl ((hst.own (y := oB b5 39 [ci u, .slice A n c]) (by simp) : Holds v b5 39 _).cell 0))) (hK x _ _ (fun _ _ _ _ _ _ => rfl) (fun s hs => by cases hs; rfl) (by simpa using hst))
      · obtain ⟨hP, hS⟩ := hst.std HTS3.out
        refine wp_calledW (wanted_yes rfl rfl rfl (hgot 1 _ 89 rfl (hdep ⟨1, .guard⟩ (by simp) rfl) rfl)) (exec_call2 rfl rfl (eval_tmp (hgot 6 _ 94 rfl (hdep ⟨6, .data⟩ (by simp) rfl) rfl)) (eval_tmp (hgot 8 _ 96 rfl (hdep ⟨8, .data⟩ (by simp) rfl) rfl)) (enters_of Try.func19 (by kernel_rfl) rfl)) ((rmayW_p hP hS u mw HMW).mono ?_)
        rintro e v' ⟨rfl, m1⟩
        exact ⟨_, rfl, hK x _ _ (fun _ _ _ _ _ _ => rfl) (fun s hs => by cases hs; rfl) (by simpa using hst.call m1)⟩
      · exact wp_ranW (wanted_yes rfl rfl rfl (hgot 1 _ 89 rfl (hdep ⟨1, .guard⟩ (by simp) rfl) rfl)) (exec_eqb4 rfl (eval_tmp (hgot 5 _ 93 rfl (hdep ⟨5, .data⟩ (by simp) rfl) rfl)) (eval_tmp (hgot 9 _ 97 rfl (hdep ⟨9, .data⟩ (by simp) rfl) rfl))) (hK x _ _ (fun _ _ _ _ _ _ => rfl) (fun s hs => by cases hs; rfl) (by simpa using hst))
      · exact wp_ran rfl (exec_pick rfl (eval_tmp (hgot 1 _ 89 rfl (hdep ⟨1, .data⟩ (by simp) rfl) rfl)) (eval_tmp (hgot 10 _ 98 rfl (hdep ⟨10, .data⟩ (by simp) rfl) rfl)) rfl rfl) (hK x _ _ (fun _ _ _ _ _ _ => rfl) (fun s hs => by cases hs; rfl) (by simpa using hst))
      · exact wp_ran rfl (exec_move rfl (eval_tmp (hgot 11 _ 99 rfl (hdep ⟨11, .data⟩ (by simp) rfl) rfl))) (hK x _ _ (fun _ _ _ _ _ _ => rfl) (fun s hs => by cases hs; rfl) (by simpa using hst))
      · exact wp_ranW (wanted_yes rfl rfl rfl (hgot 12 _ 100 rfl (hdep ⟨12, .guard⟩ (by simp) rfl) rfl)) (exec_load rfl (eval_tmp ((hpar 3 rfl).trans rfl)) (run_loads (Cells.of_holds (hst.own (y := oB b3 24 cs) (by simp))) Try.underlying24 rfl (size24' h5))) (hK x _ _ (fun _ _ _ _ _ _ => rfl) (fun s hs => by cases hs; rfl) (by simpa using hst))
      · exact wp_ranW (wanted_yes rfl rfl rfl (hgot 12 _ 100 rfl (hdep ⟨12, .guard⟩ (by simp) rfl) rfl)) (exec_fp39_0 rfl (eval_tmp ((hpar 5 rfl).trans rfl))) (hK x _ _ (fun _ _ _ _ _ _ => rfl) (fun s hs => by cases hs; rfl) (by simpa using hst))
      · exact wp_ranW (wanted_yes rfl rfl rfl (hgot 12 _ 100 rfl (hdep ⟨12, .guard⟩ (by simp) rfl) rfl)) (exec_load rfl (eval_tmp (hgot 14 _ 102 rfl (hdep ⟨14, .data⟩ (by simp) rfl) rfl)) (run_load1 Try.underlying3 rfl ((hst.own (y := oB b5 39 [ci u, .slice A n c]) (by simp) : Holds v b5 39 _).cell 0))) (hK x _ _ (fun _ _ _ _ _ _ => rfl) (fun s hs => by cases hs; rfl) (by simpa using hst))
      · exact wp_ranW (wanted_yes rfl rfl rfl (hgot 12 _ 100 rfl (hdep ⟨12, .guard⟩ (by simp) rfl) rfl)) (exec_fp39_1 rfl (eval_tmp ((hpar 5 rfl).trans rfl))) (hK x _ _ (fun _ _ _ _ _ _ => rfl) (fun s hs => by cases hs; rfl) (by simpa using hst))
      · exact wp_ranW (wanted_yes rfl rfl rfl (hgot 12 _ 100 rfl (hdep ⟨12, .guard⟩ (by simp) rfl) rfl)) (exec_load rfl (eval_tmp (hgot 16 _ 104 rfl (hdep ⟨16, .data⟩ (by simp) rfl) rfl)) (run_load1 Try.underlying37 rfl ((hst.own (y := oB b5 39 [ci u, .slice A n c]) (by simp) : Holds v b5 39 _).cell 1))) (hK x _ _ (fun _ _ _ _ _ _ => rfl) (fun s hs => by cases hs; rfl) (by simpa using hst))
      · obtain ⟨hP, hS⟩ := hst.std HTS3.out
        refine wp_calledW (wanted_yes rfl rfl rfl (hgot 12 _ 100 rfl (hdep ⟨12, .chain⟩ (by simp) rfl) rfl)) (exec_call3 rfl rfl (eval_tmp (hgot 13 _ 101 rfl (hdep ⟨13, .data⟩ (by simp) rfl) rfl)) (eval_tmp (hgot 15 _ 103 rfl (hdep ⟨15, .data⟩ (by simp) rfl) rfl)) (eval_tmp (hgot 17 _ 105 rfl (hdep ⟨17, .data⟩ (by simp) rfl) rfl)) (enters_of Try.func20 (by kernel_rfl) rfl)) ((mayR_q hP hS u A n c m (HM.out.call hst.mod) mr HMR).mono ?_)
        rintro e v' ⟨rfl, m1⟩
        exact ⟨_, rfl, hK x _ _ (fun _ _ _ _ _ _ => rfl) (fun s hs => by cases hs; rfl) (by simpa using hst.call m1)⟩
      · exact wp_ranW (wanted_yes rfl rfl rfl (hgot 12 _ 100 rfl (hdep ⟨12, .guard⟩ (by simp) rfl) rfl)) (exec_load rfl (eval_tmp ((hpar 3 rfl).trans rfl)) (run_loads (Cells.of_holds (hst.own (y := oB b3 24 cs) (by simp))) Try.underlying24 rfl (size24' h5))) (hK x _ _ (fun _ _ _ _ _ _ => rfl) (fun s hs => by cases hs; rfl) (by simpa using hst))
      · exact wp_ranW (wanted_yes rfl rfl rfl (hgot 12 _ 100 rfl (hdep ⟨12, .guard⟩ (by simp) rfl) rfl)) (exec_fp39_0 rfl (eval_tmp ((hpar 5 rfl).trans rfl))) (hK x _ _ (fun _ _ _ _ _ _ => rfl) (fun s hs => by cases hs; rfl) (by simpa using hst))
      · exact wp_ranW (wanted_yes rfl rfl rfl (hgot 12 _ 100 rfl (hdep ⟨12, .guard⟩ (by simp) rfl) rfl)) (exec_load rfl (eval_tmp (hgot 20 _ 108 rfl (hdep ⟨20, .data⟩ (by simp) rfl) rfl)) (run_load1 Try.underlying3 rfl ((hst.own (y := oB b5 39 [ci u, .slice A n c]) (by simp) : Holds v b5 39 _).cell 0))) (hK x _ _ (fun _ _ _ _ _ _ => rfl) (fun s hs => by cases hs; rfl) (by simpa using hst))
      · exact wp_ranW (wanted_yes rfl rfl rfl (hgot 12 _ 100 rfl (hdep ⟨12, .guard⟩ (by simp) rfl) rfl)) (exec_fp39_1 rfl (eval_tmp ((hpar 5 rfl).trans rfl))) (hK x _ _ (fun _ _ _ _ _ _ => rfl) (fun s hs => by cases hs; rfl) (by simpa using hst))
      · exact wp_ranW (wanted_yes rfl rfl rfl (hgot 12 _ 100 rfl (hdep ⟨12, .guard⟩ (by simp) rfl) rfl)) (exec_load rfl (eval_tmp (hgot 22 _ 110 rfl (hdep ⟨22, .data⟩ (by simp) rfl) rfl)) (run_load1 Try.underlying37 rfl ((hst.own (y := oB b5 39 [ci u, .slice A n c]) (by simp) : Holds v b5 39 _).cell 1))) (hK x _ _ (fun _ _ _ _ _ _ => rfl) (fun s hs => by cases hs; rfl) (by simpa using hst))
      · obtain ⟨hP, hS⟩ := hst.std HTS3.out
        refine wp_calledW (wanted_yes rfl rfl rfl (hgot 12 _ 100 rfl (hdep ⟨12, .guard⟩ (by simp) rfl) rfl)) (exec_call3 rfl rfl (eval_tmp (hgot 19 _ 107 rfl (hdep ⟨19, .data⟩ (by simp) rfl) rfl)) (eval_tmp (hgot 21 _ 109 rfl (hdep ⟨21, .data⟩ (by simp) rfl) rfl)) (eval_tmp (hgot 23 _ 111 rfl (hdep ⟨23, .data⟩ (by simp) rfl) rfl)) (enters_of Try.func21 (by kernel_rfl) rfl)) ((rmayR_q hP hS u A n c m (HM.out.call hst.mod) mr HMR).mono ?_)
        rintro e v' ⟨rfl, m1⟩
        exact ⟨_, rfl, hK x _ _ (fun _ _ _ _ _ _ => rfl) (fun s hs => by cases hs; rfl) (by simpa using hst.call m1)⟩
      · exact wp_ranW (wanted_yes rfl rfl rfl (hgot 12 _ 100 rfl (hdep ⟨12, .guard⟩ (by simp) rfl) rfl)) (exec_eqb4 rfl (eval_tmp (hgot 18 _ 106 rfl (hdep ⟨18, .data⟩ (by simp) rfl) rfl)) (eval_tmp (hgot 24 _ 112 rfl (hdep ⟨24, .data⟩ (by simp) rfl) rfl))) (hK x _ _ (fun _ _ _ _ _ _ => rfl) (fun s hs => by cases hs; rfl) (by simpa using hst))
      · exact wp_ran rfl (exec_pick rfl (eval_tmp (hgot 12 _ 100 rfl (hdep ⟨12, .data⟩ (by simp) rfl) rfl)) (eval_tmp (hgot 25 _ 113 rfl (hdep ⟨25, .data⟩ (by simp) rfl) rfl)) rfl rfl) (hK x _ _ (fun _ _ _ _ _ _ => rfl) (fun s hs => by cases hs; rfl) (by simpa using hst))
      · exact wp_ran rfl (exec_assign rfl (eval_tmp (hgot 26 _ 114 rfl (hdep ⟨26, .data⟩ (by simp) rfl) rfl))) (hK x _ _ (fun _ _ _ _ _ _ => rfl) (fun s hs => by cases hs; rfl) (by simpa using hst))
    intro x lz v13 hlz hst
    have MM := hst.mod
    clear hst hlz
    simp only [setAll, Act.put, List.foldl_cons, List.foldl_nil, List.setIfInBounds_toArray, List.set_cons_succ, List.set_cons_zero]
    go_wp2_with fail
    go_ret
    exact ⟨rfl, MM⟩
  · refine wp_region_upx (X := XC) (⟨0, [], []⟩) (fun x => [(56, .agg cs.toArray), (57, .agg x.2.1.toArray), (58, .int .i64 0), (59, .bool true), (60, .agg cs.toArray), (61, .bool true), (62, .bool true), (63, .bool true), (64, .agg cs.toArray), (65, .bool true), (66, .bool true), (67, undef), (68, undef), (69, undef), (70, .bool true), (71, .bool true), (9, .bool true)]) 115 [56, 57, 58, 59, 60, 61, 62, 63, 64, 65, 66, 67, 68, 69, 70, 71, 9] rfl (fun _ => rfl) (by decide) (by kernel_rfl) (fun x lz v => CgS w [oB b7 24 cs7, oB b5 39 [ci u, .slice A n c], oB b4 24 ds, oB b3 24 cs] TB p0 p0 (lz 1) false false false x v) (by kernel_rfl) (CgS.begin (G11.call (Mod.drew [] _)) _) (by kernel_rfl) (by kernel_rfl) ?_ ?_
    · skip
      intro x lz T v j o hj hlj hdep hst hpar hgot hcl Kq hK
      have hjn : j < 17 := (Array.getElem?_eq_some_iff.1 hj).1
      obtain rfl | rfl | rfl | rfl | rfl | rfl | rfl | rfl | rfl | rfl | rfl | rfl | rfl | rfl | rfl | rfl | rfl : j = 0 ∨ j = 1 ∨ j = 2 ∨ j = 3 ∨ j = 4 ∨ j = 5 ∨ j = 6 ∨ j = 7 ∨ j = 8 ∨ j = 9 ∨ j = 10 ∨ j = 11 ∨ j = 12 ∨ j = 13 ∨ j = 14 ∨ j = 15 ∨ j = 16 := by omega
      all_goals (have hj' := Option.some.inj (hj : some _ = some o); subst hj'; clear hj)
      · exact wp_ran rfl (exec_load rfl (eval_tmp ((hpar 3 rfl).trans rfl)) (run_loads (Cells.of_holds (hst.own (y := oB b3 24 cs) (by simp))) Try.underlying24 rfl (size24' h5))) (hK x _ _ (fun _ _ _ _ _ _ => rfl) (fun s hs => by cases hs; rfl) (by simpa using hst))
      · obtain ⟨hP, hS⟩ := hst.std HTS.out
        rw [hlj] at hst
        refine wp_called rfl (exec_call1 rfl rfl (eval_tmp (hgot 0 _ 56 rfl (hdep ⟨0, .data⟩ (by simp) rfl) rfl)) (enters_of Try.func10 (by kernel_rfl) rfl)) ((copied_p hP hS HLG.out).mono ?_)
        rintro e v' ⟨cs1, rfl, hP1, m1⟩
        refine ⟨_, rfl, hK ⟨x.1, cs1, x.2.2⟩ _ _ (fun j' o' s' g1 g2 g3 => by
            have g4 : j' < 17 := (Array.getElem?_eq_some_iff.1 g1).1
            clear hpar hgot hdep hK
            obtain rfl | rfl | rfl | rfl | rfl | rfl | rfl | rfl | rfl | rfl | rfl | rfl | rfl | rfl | rfl | rfl | rfl : j' = 0 ∨ j' = 1 ∨ j' = 2 ∨ j' = 3 ∨ j' = 4 ∨ j' = 5 ∨ j' = 6 ∨ j' = 7 ∨ j' = 8 ∨ j' = 9 ∨ j' = 10 ∨ j' = 11 ∨ j' = 12 ∨ j' = 13 ∨ j' = 14 ∨ j' = 15 ∨ j' = 16 := by omega
            all_goals (cases g1; cases g3 <;> first | rfl | (rw [hlj] at g2; cases g2))) (fun s hs => by cases hs; rfl) ?_⟩
        simpa using hst.copied hP1 m1
      · have t1 : lz 1 = true := (hdep ⟨1, .data⟩ (by simp) rfl)
        rw [t1] at hst
        obtain ⟨S1, hC, hS1⟩ := hst.copy
        refine wp_called rfl (exec_call1 rfl rfl (eval_tmp (hgot 1 _ 57 rfl (hdep ⟨1, .data⟩ (by simp) rfl) rfl)) (enters_of Try.func15 (by kernel_rfl) rfl)) ((check_p hC true HB0).mono ?_)
        rintro e v' ⟨rfl, m1⟩
        exact ⟨_, rfl, hK x _ _ (fun _ _ _ _ _ _ => rfl) (fun s hs => by cases hs; rfl) (by simpa [t1] using hst.call m1)⟩
      · exact wp_ran rfl (exec_eqi rfl rfl (eval_tmp (hgot 2 _ 58 rfl (hdep ⟨2, .data⟩ (by simp) rfl) rfl)) rfl) (hK x _ _ (fun _ _ _ _ _ _ => rfl) (fun s hs => by cases hs; rfl) (by simpa using hst))
      · exact wp_ran rfl (exec_load rfl (eval_tmp ((hpar 3 rfl).trans rfl)) (run_loads (Cells.of_holds (hst.own (y := oB b3 24 cs) (by simp))) Try.underlying24 rfl (size24' h5))) (hK x _ _ (fun _ _ _ _ _ _ => rfl) (fun s hs => by cases hs; rfl) (by simpa using hst))
      · obtain ⟨hP, hS⟩ := hst.std HTS.out
        refine wp_called rfl (exec_call1 rfl rfl (eval_tmp (hgot 4 _ 60 rfl (hdep ⟨4, .data⟩ (by simp) rfl) rfl)) (enters_of Try.func16 (by kernel_rfl) rfl)) ((right_p hP true HB0).mono ?_)
        rintro e v' ⟨rfl, m1⟩
        exact ⟨_, rfl, hK x _ _ (fun _ _ _ _ _ _ => rfl) (fun s hs => by cases hs; rfl) (by simpa using hst.call m1)⟩
      · exact wp_ran rfl (exec_eqb4 rfl (eval_tmp (hgot 3 _ 59 rfl (hdep ⟨3, .data⟩ (by simp) rfl) rfl)) (eval_tmp (hgot 5 _ 61 rfl (hdep ⟨5, .data⟩ (by simp) rfl) rfl))) (hK x _ _ (fun _ _ _ _ _ _ => rfl) (fun s hs => by cases hs; rfl) (by simpa using hst))
      · exact wp_ran rfl (exec_move rfl (eval_tmp (hgot 6 _ 62 rfl (hdep ⟨6, .data⟩ (by simp) rfl) rfl))) (hK x _ _ (fun _ _ _ _ _ _ => rfl) (fun s hs => by cases hs; rfl) (by simpa using hst))
      · exact wp_ranW (wanted_yes rfl rfl rfl (hgot 7 _ 63 rfl (hdep ⟨7, .guard⟩ (by simp) rfl) rfl)) (exec_load rfl (eval_tmp ((hpar 3 rfl).trans rfl)) (run_loads (Cells.of_holds (hst.own (y := oB b3 24 cs) (by simp))) Try.underlying24 rfl (size24' h5))) (hK x _ _ (fun _ _ _ _ _ _ => rfl) (fun s hs => by cases hs; rfl) (by simpa using hst))
      · obtain ⟨hP, hS⟩ := hst.std HTS.out
        refine wp_calledW (wanted_yes rfl rfl rfl (hgot 7 _ 63 rfl (hdep ⟨7, .chain⟩ (by simp) rfl) rfl)) (exec_call1 rfl rfl (eval_tmp (hgot 8 _ 64 rfl (hdep ⟨8, .data⟩ (by simp) rfl) rfl)) (enters_of Try.func16 (by kernel_rfl) rfl)) ((right_p hP true HB0).mono ?_)
        rintro e v' ⟨rfl, m1⟩
        exact ⟨_, rfl, hK x _ _ (fun _ _ _ _ _ _ => rfl) (fun s hs => by cases hs; rfl) (by simpa using hst.call m1)⟩
      · exact wp_ranW (wanted_yes rfl rfl rfl (hgot 7 _ 63 rfl (hdep ⟨7, .guard⟩ (by simp) rfl) rfl)) (exec_move rfl (eval_tmp (hgot 9 _ 65 rfl (hdep ⟨9, .data⟩ (by simp) rfl) rfl))) (hK x _ _ (fun _ _ _ _ _ _ => rfl) (fun s hs => by cases hs; rfl) (by simpa using hst))
      · exact wp_skip (wanted_no rfl rfl rfl rfl (hgot 10 _ 66 rfl (hdep ⟨10, .guard⟩ (by simp) rfl) rfl)) (hK x _ _ (fun _ _ _ _ _ _ => rfl) (fun s hs => by cases hs; rfl) (by simpa using hst))
      · exact wp_skip (wanted_no rfl rfl rfl rfl (hgot 10 _ 66 rfl (hdep ⟨10, .chain⟩ (by simp) rfl) rfl)) (hK x _ _ (fun _ _ _ _ _ _ => rfl) (fun s hs => by cases hs; rfl) (by simpa using hst))
      · exact wp_skip (wanted_no rfl rfl rfl rfl (hgot 10 _ 66 rfl (hdep ⟨10, .guard⟩ (by simp) rfl) rfl)) (hK x _ _ (fun _ _ _ _ _ _ => rfl) (fun s hs => by cases hs; rfl) (by simpa using hst))
      · exact wp_ranW (wanted_yes rfl rfl rfl (hgot 7 _ 63 rfl (hdep ⟨7, .guard⟩ (by simp) rfl) rfl)) (exec_pick rfl (eval_tmp (hgot 10 _ 66 rfl (hdep ⟨10, .data⟩ (by simp) rfl) rfl)) rfl (eval_tmp (hgot 13 _ 69 rfl (hdep ⟨13, .data⟩ (by simp) rfl) rfl)) rfl) (hK x _ _ (fun _ _ _ _ _ _ => rfl) (fun s hs => by cases hs; rfl) (by simpa using hst))
      · exact wp_ran rfl (exec_pick rfl (eval_tmp (hgot 7 _ 63 rfl (hdep ⟨7, .data⟩ (by simp) rfl) rfl)) (eval_tmp (hgot 14 _ 70 rfl (hdep ⟨14, .data⟩ (by simp) rfl) rfl)) rfl rfl) (hK x _ _ (fun _ _ _ _ _ _ => rfl) (fun s hs => by cases hs; rfl) (by simpa using hst))
      · exact wp_ran rfl (exec_assign rfl (eval_tmp (hgot 15 _ 71 rfl (hdep ⟨15, .data⟩ (by simp) rfl) rfl))) (hK x _ _ (fun _ _ _ _ _ _ => rfl) (fun s hs => by cases hs; rfl) (by simpa using hst))
    intro x lz v11 hlz hst
    rw [hlz 1 (by decide)] at hst
    obtain ⟨T12, F12, hTB12, hc12⟩ := hst
    have G12 : Fm w v11 [oB b7 24 cs7, oB b5 39 [ci u, .slice A n c], oB b4 24 ds, oB b3 24 cs] T12 := F12
    have HTS2 : Hid (tP S p0 cs ∈ T12) := Lib.hid (hTB12 _ HTS.out)
    have HTT2 : Hid (tP T q0 ds ∈ T12) := Lib.hid (hTB12 _ HTT.out)
    clear hlz F12 hTB12 hc12 G11
    simp only [setAll, Act.put, List.foldl_cons, List.foldl_nil, List.setIfInBounds_toArray, List.set_cons_succ, List.set_cons_zero]
    go_wp2_with fail
    refine wp_region_upxo (X := XC) (⟨0, [], []⟩) (fun x => [(72, .bool true), (73, .bool true), (74, .agg cs.toArray), (75, .agg ds.toArray), (76, .bool s0), (77, .agg cs.toArray), (78, .agg ds.toArray), (79, .bool s0), (80, .bool true), (81, .bool true), (82, .bool true), (83, .agg cs.toArray), (84, .agg cs.toArray), (85, .agg x.2.1.toArray), (86, .bool true), (87, .bool true), (9, .bool true)]) 115 [72, 73, 74, 75, 76, 77, 78, 79, 80, 81, 82, 83, 84, 85, 86, 87, 9] rfl (fun _ => rfl) (by decide) (by kernel_rfl) (fun x lz v => CgS w [oB b7 24 cs7, oB b5 39 [ci u, .slice A n c], oB b4 24 ds, oB b3 24 cs] T12 p0 p0 (lz 13) false false false x v) (by kernel_rfl) (CgS.begin (G12.call (Mod.drew [] _)) _) (by kernel_rfl) (by kernel_rfl) ?_ ?_
    · skip
      intro x lz T v j o hj hlj hdep hst hpar hgot hcl hdf hold Kq hK
      have hjn : j < 17 := (Array.getElem?_eq_some_iff.1 hj).1
      obtain rfl | rfl | rfl | rfl | rfl | rfl | rfl | rfl | rfl | rfl | rfl | rfl | rfl | rfl | rfl | rfl | rfl : j = 0 ∨ j = 1 ∨ j = 2 ∨ j = 3 ∨ j = 4 ∨ j = 5 ∨ j = 6 ∨ j = 7 ∨ j = 8 ∨ j = 9 ∨ j = 10 ∨ j = 11 ∨ j = 12 ∨ j = 13 ∨ j = 14 ∨ j = 15 ∨ j = 16 := by omega
      all_goals (have hj' := Option.some.inj (hj : some _ = some o); subst hj'; clear hj)
      · have l16 : lz 16 = false := (by cases hh : lz 16 with | false => rfl | true => exact absurd (hcl 16 _ rfl hh ⟨0, .phase⟩ (by simp) rfl) (by rw [hlj]; simp))
        have h9 : T.tmps[9]? = some (.bool true) := (hold 9 (fun j o' h1 h2 h3 => by
          have g4 : j < 17 := (Array.getElem?_eq_some_iff.1 h1).1
          clear hpar hgot hdep hK hold
          obtain rfl | rfl | rfl | rfl | rfl | rfl | rfl | rfl | rfl | rfl | rfl | rfl | rfl | rfl | rfl | rfl | rfl : j = 0 ∨ j = 1 ∨ j = 2 ∨ j = 3 ∨ j = 4 ∨ j = 5 ∨ j = 6 ∨ j = 7 ∨ j = 8 ∨ j = 9 ∨ j = 10 ∨ j = 11 ∨ j = 12 ∨ j = 13 ∨ j = 14 ∨ j = 15 ∨ j = 16 := by omega
          all_goals (cases h1; first | (cases h3; done) | (rw [l16] at h2; cases h2)))).trans rfl
        exact wp_ran rfl (exec_move rfl (eval_tmp h9)) (hK x _ _ (fun _ _ _ _ _ _ => rfl) (fun s hs => by cases hs; rfl) (by simpa using hst))
      · exact wp_ran rfl (exec_move rfl (eval_tmp (hgot 0 _ 72 rfl (hdep ⟨0, .data⟩ (by simp) rfl) rfl))) (hK x _ _ (fun _ _ _ _ _ _ => rfl) (fun s hs => by cases hs; rfl) (by simpa using hst))
      · exact wp_ranW (wanted_yes rfl rfl rfl (hgot 1 _ 73 rfl (hdep ⟨1, .guard⟩ (by simp) rfl) rfl)) (exec_load rfl (eval_tmp ((hpar 3 rfl).trans rfl)) (run_loads (Cells.of_holds (hst.own (y := oB b3 24 cs) (by simp))) Try.underlying24 rfl (size24' h5))) (hK x _ _ (fun _ _ _ _ _ _ => rfl) (fun s hs => by cases hs; rfl) (by simpa using hst))
      · exact wp_ranW (wanted_yes rfl rfl rfl (hgot 1 _ 73 rfl (hdep ⟨1, .guard⟩ (by simp) rfl) rfl)) (exec_load rfl (eval_tmp ((hpar 4 rfl).trans rfl)) (run_loads (Cells.of_holds (hst.own (y := oB b4 24 ds) (by simp))) Try.underlying24 rfl (size24' h5q))) (hK x _ _ (fun _ _ _ _ _ _ => rfl) (fun s hs => by cases hs; rfl) (by simpa using hst))
      · obtain ⟨hP, hS⟩ := hst.std HTS2.out
        obtain ⟨hQ, hS2⟩ := hst.std HTT2.out
        refine wp_calledW (wanted_yes rfl rfl rfl (hgot 1 _ 73 rfl (hdep ⟨1, .chain⟩ (by simp) rfl) rfl)) (exec_call2 rfl rfl (eval_tmp (hgot 2 _ 74 rfl (hdep ⟨2, .data⟩ (by simp) rfl) rfl)) (eval_tmp (hgot 3 _ 75 rfl (hdep ⟨3, .data⟩ (by simp) rfl) rfl)) (enters_of Try.func17 (by kernel_rfl) rfl)) ((psame_p hP hQ s0 HS0).mono ?_)
        rintro e v' ⟨rfl, m1⟩
        exact ⟨_, rfl, hK x _ _ (fun _ _ _ _ _ _ => rfl) (fun s hs => by cases hs; rfl) (by simpa using hst.call m1)⟩
      · exact wp_ranW (wanted_yes rfl rfl rfl (hgot 1 _ 73 rfl (hdep ⟨1, .guard⟩ (by simp) rfl) rfl)) (exec_load rfl (eval_tmp ((hpar 3 rfl).trans rfl)) (run_loads (Cells.of_holds (hst.own (y := oB b3 24 cs) (by simp))) Try.underlying24 rfl (size24' h5))) (hK x _ _ (fun _ _ _ _ _ _ => rfl) (fun s hs => by cases hs; rfl) (by simpa using hst))
      · exact wp_ranW (wanted_yes rfl rfl rfl (hgot 1 _ 73 rfl (hdep ⟨1, .guard⟩ (by simp) rfl) rfl)) (exec_load rfl (eval_tmp ((hpar 4 rfl).trans rfl)) (run_loads (Cells.of_holds (hst.own (y := oB b4 24 ds) (by simp))) Try.underlying24 rfl (size24' h5q))) (hK x _ _ (fun _ _ _ _ _ _ => rfl) (fun s hs => by cases hs; rfl) (by simpa using hst))
      · obtain ⟨hP, hS⟩ := hst.std HTS2.out
        obtain ⟨hQ, hS2⟩ := hst.std HTT2.out
        refine wp_calledW (wanted_yes rfl rfl rfl (hgot 1 _ 73 rfl (hdep ⟨1, .guard⟩ (by simp) rfl) rfl)) (exec_call2 rfl rfl (eval_tmp (hgot 5 _ 77 rfl (hdep ⟨5, .data⟩ (by simp) rfl) rfl)) (eval_tmp (hgot 6 _ 78 rfl (hdep ⟨6, .data⟩ (by simp) rfl) rfl)) (enters_of Try.func13 (by kernel_rfl) rfl)) ((rsame_p hP hQ s0 HS0).mono ?_)
        rintro e v' ⟨rfl, m1⟩
        exact ⟨_, rfl, hK x _ _ (fun _ _ _ _ _ _ => rfl) (fun s hs => by cases hs; rfl) (by simpa using hst.call m1)⟩
      · exact wp_ranW (wanted_yes rfl rfl rfl (hgot 1 _ 73 rfl (hdep ⟨1, .guard⟩ (by simp) rfl) rfl)) (exec_eqb4 rfl (eval_tmp (hgot 4 _ 76 rfl (hdep ⟨4, .data⟩ (by simp) rfl) rfl)) (eval_tmp (hgot 7 _ 79 rfl (hdep ⟨7, .data⟩ (by simp) rfl) rfl))) (hK x _ _ (fun _ _ _ _ _ _ => rfl) (fun s hs => by cases hs; rfl) (by simpa using hst))
      · exact wp_ran rfl (exec_pick rfl (eval_tmp (hgot 1 _ 73 rfl (hdep ⟨1, .data⟩ (by simp) rfl) rfl)) (eval_tmp (hgot 8 _ 80 rfl (hdep ⟨8, .data⟩ (by simp) rfl) rfl)) rfl rfl) (hK x _ _ (fun _ _ _ _ _ _ => rfl) (fun s hs => by cases hs; rfl) (by simpa using hst))
      · exact wp_ran rfl (exec_move rfl (eval_tmp (hgot 9 _ 81 rfl (hdep ⟨9, .data⟩ (by simp) rfl) rfl))) (hK x _ _ (fun _ _ _ _ _ _ => rfl) (fun s hs => by cases hs; rfl) (by simpa using hst))
      · exact wp_ranW (wanted_yes rfl rfl rfl (hgot 10 _ 82 rfl (hdep ⟨10, .guard⟩ (by simp) rfl) rfl)) (exec_load rfl (eval_tmp ((hpar 3 rfl).trans rfl)) (run_loads (Cells.of_holds (hst.own (y := oB b3 24 cs) (by simp))) Try.underlying24 rfl (size24' h5))) (hK x _ _ (fun _ _ _ _ _ _ => rfl) (fun s hs => by cases hs; rfl) (by simpa using hst))
      · exact wp_ranW (wanted_yes rfl rfl rfl (hgot 10 _ 82 rfl (hdep ⟨10, .guard⟩ (by simp) rfl) rfl)) (exec_load rfl (eval_tmp ((hpar 3 rfl).trans rfl)) (run_loads (Cells.of_holds (hst.own (y := oB b3 24 cs) (by simp))) Try.underlying24 rfl (size24' h5))) (hK x _ _ (fun _ _ _ _ _ _ => rfl) (fun s hs => by cases hs; rfl) (by simpa using hst))
      · obtain ⟨hP, hS⟩ := hst.std HTS2.out
        rw [hlj] at hst
        refine wp_calledW (wanted_yes rfl rfl rfl (hgot 10 _ 82 rfl (hdep ⟨10, .chain⟩ (by simp) rfl) rfl)) (exec_call1 rfl rfl (eval_tmp (hgot 12 _ 84 rfl (hdep ⟨12, .data⟩ (by simp) rfl) rfl)) (enters_of Try.func10 (by kernel_rfl) rfl)) ((copied_p hP hS HLG.out).mono ?_)
        rintro e v' ⟨cs1, rfl, hP1, m1⟩
        refine ⟨_, rfl, hK ⟨x.1, cs1, x.2.2⟩ _ _ (fun j' o' s' g1 g2 g3 => by
            have g4 : j' < 17 := (Array.getElem?_eq_some_iff.1 g1).1
            clear hpar hgot hdep hK
            obtain rfl | rfl | rfl | rfl | rfl | rfl | rfl | rfl | rfl | rfl | rfl | rfl | rfl | rfl | rfl | rfl | rfl : j' = 0 ∨ j' = 1 ∨ j' = 2 ∨ j' = 3 ∨ j' = 4 ∨ j' = 5 ∨ j' = 6 ∨ j' = 7 ∨ j' = 8 ∨ j' = 9 ∨ j' = 10 ∨ j' = 11 ∨ j' = 12 ∨ j' = 13 ∨ j' = 14 ∨ j' = 15 ∨ j' = 16 := by omega
            all_goals (cases g1; cases g3 <;> first | rfl | (rw [hlj] at g2; cases g2))) (fun s hs => by cases hs; rfl) ?_⟩
        simpa using hst.copied hP1 m1
      · have t1 : lz 13 = true := (hdep ⟨13, .data⟩ (by simp) rfl)
        rw [t1] at hst
        obtain ⟨S1, hC, hS1⟩ := hst.copy
        obtain ⟨hP, hS⟩ := hst.std HTS2.out
        refine wp_calledW (wanted_yes rfl rfl rfl (hgot 10 _ 82 rfl (hdep ⟨10, .guard⟩ (by simp) rfl) rfl)) (exec_call2 rfl rfl (eval_tmp (hgot 11 _ 83 rfl (hdep ⟨11, .data⟩ (by simp) rfl) rfl)) (eval_tmp (hgot 13 _ 85 rfl (hdep ⟨13, .data⟩ (by simp) rfl) rfl)) (enters_of Try.func17 (by kernel_rfl) rfl)) ((psame_p hP hC true HSP).mono ?_)
        rintro e v' ⟨rfl, m1⟩
        exact ⟨_, rfl, hK x _ _ (fun _ _ _ _ _ _ => rfl) (fun s hs => by cases hs; rfl) (by simpa [t1] using hst.call m1)⟩
      · exact wp_ran rfl (exec_pick rfl (eval_tmp (hgot 10 _ 82 rfl (hdep ⟨10, .data⟩ (by simp) rfl) rfl)) (eval_tmp (hgot 14 _ 86 rfl (hdep ⟨14, .data⟩ (by simp) rfl) rfl)) rfl rfl) (hK x _ _ (fun _ _ _ _ _ _ => rfl) (fun s hs => by cases hs; rfl) (by simpa using hst))
      · exact wp_ran rfl (exec_assign rfl (eval_tmp (hgot 15 _ 87 rfl (hdep ⟨15, .data⟩ (by simp) rfl) rfl))) (hK x _ _ (fun _ _ _ _ _ _ => rfl) (fun s hs => by cases hs; rfl) (by simpa using hst))
    intro x lz v12 hlz hst
    rw [hlz 13 (by decide)] at hst
    obtain ⟨T13, F13, hTB13, hc13⟩ := hst
    have G13 : Fm w v12 [oB b7 24 cs7, oB b5 39 [ci u, .slice A n c], oB b4 24 ds, oB b3 24 cs] T13 := F13
    have HTS3 : Hid (tP S p0 cs ∈ T13) := Lib.hid (hTB13 _ HTS2.out)
    clear hlz F13 hTB13 hc13 G12
    simp only [setAll, Act.put, List.foldl_cons, List.foldl_nil, List.setIfInBounds_toArray, List.set_cons_succ, List.set_cons_zero]
    go_wp2_with fail
    refine wp_region_upx (X := XC) (⟨0, [], []⟩) (fun x => [(88, .bool true), (89, .bool true), (90, .agg cs.toArray), (91, .pointer (some ⟨b5, 0, none⟩)), (92, ci u), (93, .bool mw), (94, .agg cs.toArray), (95, .pointer (some ⟨b5, 0, none⟩)), (96, ci u), (97, .bool mw), (98, .bool true), (99, .bool true), (100, .bool true), (101, .agg cs.toArray), (102, .pointer (some ⟨b5, 0, none⟩)), (103, ci u), (104, .pointer (some ⟨b5, 1, none⟩)), (105, .slice A n c), (106, .bool mr), (107, .agg cs.toArray), (108, .pointer (some ⟨b5, 0, none⟩)), (109, ci u), (110, .pointer (some ⟨b5, 1, none⟩)), (111, .slice A n c), (112, .bool mr), (113, .bool true), (114, .bool true), (6, .bool true)]) 115 [88, 89, 90, 91, 92, 93, 94, 95, 96, 97, 98, 99, 100, 101, 102, 103, 104, 105, 106, 107, 108, 109, 110, 111, 112, 113, 114, 6] rfl (fun _ => rfl) (by decide) (by kernel_rfl) (fun x lz v => CgS w [oB b7 24 cs7, oB b5 39 [ci u, .slice A n c], oB b4 24 ds, oB b3 24 cs] T13 p0 p0 false false false false x v) (by kernel_rfl) (CgS.begin (G13.call (Mod.drew [] _)) _) (by kernel_rfl) (by kernel_rfl) ?_ ?_
    · skip
      intro x lz T v j o hj hlj hdep hst hpar hgot hcl Kq hK
      have hjn : j < 28 := (Array.getElem?_eq_some_iff.1 hj).1
      obtain rfl | rfl | rfl | rfl | rfl | rfl | rfl | rfl | rfl | rfl | rfl | rfl | rfl | rfl | rfl | rfl | rfl | rfl | rfl | rfl | rfl | rfl | rfl | rfl | rfl | rfl | rfl | rfl : j = 0 ∨ j = 1 ∨ j = 2 ∨ j = 3 ∨ j = 4 ∨ j = 5 ∨ j = 6 ∨ j = 7 ∨ j = 8 ∨ j = 9 ∨ j = 10 ∨ j = 11 ∨ j = 12 ∨ j = 13 ∨ j = 14 ∨ j = 15 ∨ j = 16 ∨ j = 17 ∨ j = 18 ∨ j = 19 ∨ j = 20 ∨ j = 21 ∨ j = 22 ∨ j = 23 ∨ j = 24 ∨ j = 25 ∨ j = 26 ∨ j = 27 := by omega
      all_goals (have hj' := Option.some.inj (hj : some _ = some o); subst hj'; clear hj)
      · exact wp_ran rfl (exec_move rfl (eval_tmp ((hpar 9 rfl).trans rfl))) (hK x _ _ (fun _ _ _ _ _ _ => rfl) (fun s hs => by cases hs; rfl) (by simpa using hst))
      · exact wp_ran rfl (exec_move rfl (eval_tmp (hgot 0 _ 88 rfl (hdep ⟨0, .data⟩ (by simp) rfl) rfl))) (hK x _ _ (fun _ _ _ _ _ _ => rfl) (fun s hs => by cases hs; rfl) (by simpa using hst))
      · exact wp_ranW (wanted_yes rfl rfl rfl (hgot 1 _ 89 rfl (hdep ⟨1, .guard⟩ (by simp) rfl) rfl)) (exec_load rfl (eval_tmp ((hpar 3 rfl).trans rfl)) (run_loads (Cells.of_holds (hst.own (y := oB b3 24 cs) (by simp))) Try.underlying24 rfl (size24' h5))) (hK x _ _ (fun _ _ _ _ _ _ => rfl) (fun s hs => by cases hs; rfl) (by simpa using hst))
      · exact wp_ranW (wanted_yes rfl rfl rfl (hgot 1 _ 89 rfl (hdep ⟨1, .guard⟩ (by simp) rfl) rfl)) (exec_fp39_0 rfl (eval_tmp ((hpar 5 rfl).trans rfl))) (hK x _ _ (fun _ _ _ _ _ _ => rfl) (fun s hs => by cases hs; rfl) (by simpa using hst))
      · exact wp_ranW (wanted_yes rfl rfl rfl (hgot 1 _ 89 rfl (hdep ⟨1, .guard⟩ (by simp) rfl) rfl)) (exec_load rfl (eval_tmp (hgot 3 _ 91 rfl (hdep ⟨3, .data⟩ (by simp) rfl) rfl)) (run_load1 Try.underlying3 rfl ((hst.own (y := oB b5 39 [ci u, .slice A n c]) (by simp) : Holds v b5 39 _).cell 0))) (hK x _ _ (fun _ _ _ _ _ _ => rfl) (fun s hs => by cases hs; rfl) (by simpa using hst))
      · obtain ⟨hP, hS⟩ := hst.std HTS3.out
        refine wp_calledW (wanted_yes rfl rfl rfl (hgot 1 _ 89 rfl (hdep ⟨1, .chain⟩ (by simp) rfl) rfl)) (exec_call2 rfl rfl (eval_tmp (hgot 2 _ 90 rfl (hdep ⟨2, .data⟩ (by simp) rfl) rfl)) (eval_tmp (hgot 4 _ 92 rfl (hdep ⟨4, .data⟩ (by simp) rfl) rfl)) (enters_of Try.func18 (by kernel_rfl) rfl)) ((mayW_p hP hS u mw HMW).mono ?_)
        rintro e v' ⟨rfl, m1⟩
        exact ⟨_, rfl, hK x _ _ (fun _ _ _ _ _ _ => rfl) (fun s hs => by cases hs; rfl) (by simpa using hst.call m1)⟩
      · exact wp_ranW (wanted_yes rfl rfl rfl (hgot 1 _ 89 rfl (hdep ⟨1, .guard⟩ (by simp) rfl) rfl)) (exec_load rfl (eval_tmp ((hpar 3 rfl).trans rfl)) (run_loads (Cells.of_holds (hst.own (y := oB b3 24 cs) (by simp))) Try.underlying24 rfl (size24' h5))) (hK x _ _ (fun _ _ _ _ _ _ => rfl) (fun s hs => by cases hs; rfl) (by simpa using hst))
      · exact wp_ranW (wanted_yes rfl rfl rfl (hgot 1 _ 89 rfl (hdep ⟨1, .guard⟩ (by simp) rfl) rfl)) (exec_fp39_0 rfl (eval_tmp ((hpar 5 rfl).trans rfl))) (hK x _ _ (fun _ _ _ _ _ _ => rfl) (fun s hs => by cases hs; rfl) (by simpa using hst))
      · exact wp_ranW (wanted_yes rfl rfl rfl (hgot 1 _ 89 rfl (hdep ⟨1, .guard⟩ (by simp) rfl) rfl)) (exec_load rfl (eval_tmp (hgot 7 _ 95 rfl (hdep ⟨7, .data⟩ (by simp) rfl) rfl)) (run_load1 Try.underlying3 rfl ((hst.own (y := oB b5 39 [ci u, .slice A n c]) (by simp) : Holds v b5 39 _).cell 0))) (hK x _ _ (fun _ _ _ _ _ _ => rfl) (fun s hs => by cases hs; rfl) (by simpa using hst))
      · obtain ⟨hP, hS⟩ := hst.std HTS3.out
        refine wp_calledW (wanted_yes rfl rfl rfl (hgot 1 _ 89 rfl (hdep ⟨1, .guard⟩ (by simp) rfl) rfl)) (exec_call2 rfl rfl (eval_tmp (hgot 6 _ 94 rfl (hdep ⟨6, .data⟩ (by simp) rfl) rfl)) (eval_tmp (hgot 8 _ 96 rfl (hdep ⟨8, .data⟩ (by simp) rfl) rfl)) (enters_of Try.func19 (by kernel_rfl) rfl)) ((rmayW_p hP hS u mw HMW).mono ?_)
        rintro e v' ⟨rfl, m1⟩
        exact ⟨_, rfl, hK x _ _ (fun _ _ _ _ _ _ => rfl) (fun s hs => by cases hs; rfl) (by simpa using hst.call m1)⟩
      · exact wp_ranW (wanted_yes rfl rfl rfl (hgot 1 _ 89 rfl (hdep ⟨1, .guard⟩ (by simp) rfl) rfl)) (exec_eqb4 rfl (eval_tmp (hgot 5 _ 93 rfl (hdep ⟨5, .data⟩ (by simp) rfl) rfl)) (eval_tmp (hgot 9 _ 97 rfl (hdep ⟨9, .data⟩ (by simp) rfl) rfl))) (hK x _ _ (fun _ _ _ _ _ _ => rfl) (fun s hs => by cases hs; rfl) (by simpa using hst))
      · exact wp_ran rfl (exec_pick rfl (eval_tmp (hgot 1 _ 89 rfl (hdep ⟨1, .data⟩ (by simp) rfl) rfl)) (eval_tmp (hgot 10 _ 98 rfl (hdep ⟨10, .data⟩ (by simp) rfl) rfl)) rfl rfl) (hK x _ _ (fun _ _ _ _ _ _ => rfl) (fun s hs => by cases hs; rfl) (by simpa using hst))
      · exact wp_ran rfl (exec_move rfl (eval_tmp (hgot 11 _ 99 rfl (hdep ⟨11, .data⟩ (by simp) rfl) rfl))) (hK x _ _ (fun _ _ _ _ _ _ => rfl) (fun s hs => by cases hs; rfl) (by simpa using hst))
      · exact wp_ranW (wanted_yes rfl rfl rfl (hgot 12 _ 100 rfl (hdep ⟨12, .guard⟩ (by simp) rfl) rfl)) (exec_load rfl (eval_tmp ((hpar 3 rfl).trans rfl)) (run_loads (Cells.of_holds (hst.own (y := oB b3 24 cs) (by simp))) Try.underlying24 rfl (size24' h5))) (hK x _ _ (fun _ _ _ _ _ _ => rfl) (fun s hs => by cases hs; rfl) (by simpa using hst))
      · exact wp_ranW (wanted_yes rfl rfl rfl (hgot 12 _ 100 rfl (hdep ⟨12, .guard⟩ (by simp) rfl) rfl)) (exec_fp39_0 rfl (eval_tmp ((hpar 5 rfl).trans rfl))) (hK x _ _ (fun _ _ _ _ _ _ => rfl) (fun s hs => by cases hs; rfl) (by simpa using hst))
      · exact wp_ranW (wanted_yes rfl rfl rfl (hgot 12 _ 100 rfl (hdep ⟨12, .guard⟩ (by simp) rfl) rfl)) (exec_load rfl (eval_tmp (hgot 14 _ 102 rfl (hdep ⟨14, .data⟩ (by simp) rfl) rfl)) (run_load1 Try.underlying3 rfl ((hst.own (y := oB b5 39 [ci u, .slice A n c]) (by simp) : Holds v b5 39 _).cell 0))) (hK x _ _ (fun _ _ _ _ _ _ => rfl) (fun s hs => by cases hs; rfl) (by simpa using hst))
      · exact wp_ranW (wanted_yes rfl rfl rfl (hgot 12 _ 100 rfl (hdep ⟨12, .guard⟩ (by simp) rfl) rfl)) (exec_fp39_1 rfl (eval_tmp ((hpar 5 rfl).trans rfl))) (hK x _ _ (fun _ _ _ _ _ _ => rfl) (fun s hs => by cases hs; rfl) (by simpa using hst))
      · exact wp_ranW (wanted_yes rfl rfl rfl (hgot 12 _ 100 rfl (hdep ⟨12, .guard⟩ (by simp) rfl) rfl)) (exec_load rfl (eval_tmp (hgot 16 _ 104 rfl (hdep ⟨16, .data⟩ (by simp) rfl) rfl)) (run_load1 Try.underlying37 rfl ((hst.own (y := oB b5 39 [ci u, .slice A n c]) (by simp) : Holds v b5 39 _).cell 1))) (hK x _ _ (fun _ _ _ _ _ _ => rfl) (fun s hs => by cases hs; rfl) (by simpa using hst))
      · obtain ⟨hP, hS⟩ := hst.std HTS3.out
        refine wp_calledW (wanted_yes rfl rfl rfl (hgot 12 _ 100 rfl (hdep ⟨12, .chain⟩ (by simp) rfl) rfl)) (exec_call3 rfl rfl (eval_tmp (hgot 13 _ 101 rfl (hdep ⟨13, .data⟩ (by simp) rfl) rfl)) (eval_tmp (hgot 15 _ 103 rfl (hdep ⟨15, .data⟩ (by simp) rfl) rfl)) (eval_tmp (hgot 17 _ 105 rfl (hdep ⟨17, .data⟩ (by simp) rfl) rfl)) (enters_of Try.func20 (by kernel_rfl) rfl)) ((mayR_q hP hS u A n c m (HM.out.call hst.mod) mr HMR).mono ?_)
        rintro e v' ⟨rfl, m1⟩
        exact ⟨_, rfl, hK x _ _ (fun _ _ _ _ _ _ => rfl) (fun s hs => by cases hs; rfl) (by simpa using hst.call m1)⟩
      · exact wp_ranW (wanted_yes rfl rfl rfl (hgot 12 _ 100 rfl (hdep ⟨12, .guard⟩ (by simp) rfl) rfl)) (exec_load rfl (eval_tmp ((hpar 3 rfl).trans rfl)) (run_loads (Cells.of_holds (hst.own (y := oB b3 24 cs) (by simp))) Try.underlying24 rfl (size24' h5))) (hK x _ _ (fun _ _ _ _ _ _ => rfl) (fun s hs => by cases hs; rfl) (by simpa using hst))
      · exact wp_ranW (wanted_yes rfl rfl rfl (hgot 12 _ 100 rfl (hdep ⟨12, .guard⟩ (by simp) rfl) rfl)) (exec_fp39_0 rfl (eval_tmp ((hpar 5 rfl).trans rfl))) (hK x _ _ (fun _ _ _ _ _ _ => rfl) (fun s hs => by cases hs; rfl) (by simpa using hst))
      · exact wp_ranW (wanted_yes rfl rfl rfl (hgot 12 _ 100 rfl (hdep ⟨12, .guard⟩ (by simp) rfl) rfl)) (exec_load rfl (eval_tmp (hgot 20 _ 108 rfl (hdep ⟨20, .data⟩ (by simp) rfl) rfl)) (run_load1 Try.underlying3 rfl ((hst.own (y := oB b5 39 [ci u, .slice A n c]) (by simp) : Holds v b5 39 _).cell 0))) (hK x _ _ (fun _ _ _ _ _ _ => rfl) (fun s hs => by cases hs; rfl) (by simpa using hst))
      · exact wp_ranW (wanted_yes rfl rfl rfl (hgot 12 _ 100 rfl (hdep ⟨12, .guard⟩ (by simp) rfl) rfl)) (exec_fp39_1 rfl (eval_tmp ((hpar 5 rfl).trans rfl))) (hK x _ _ (fun _ _ _ _ _ _ => rfl) (fun s hs => by cases hs; rfl) (by simpa using hst))
      · exact wp_ranW (wanted_yes rfl rfl rfl (hgot 12 _ 100 rfl (hdep ⟨12, .guard⟩ (by simp) rfl) rfl)) (exec_load rfl (eval_tmp (hgot 22 _ 110 rfl (hdep ⟨22, .data⟩ (by simp) rfl) rfl)) (run_load1 Try.underlying37 rfl ((hst.own (y := oB b5 39 [ci u, .slice A n c]) (by simp) : Holds v b5 39 _).cell 1))) (hK x _ _ (fun _ _ _ _ _ _ => rfl) (fun s hs => by cases hs; rfl) (by simpa using hst))
      · obtain ⟨hP, hS⟩ := hst.std HTS3.out
        refine wp_calledW (wanted_yes rfl rfl rfl (hgot 12 _ 100 rfl (hdep ⟨12, .guard⟩ (by simp) rfl) rfl)) (exec_call3 rfl rfl (eval_tmp (hgot 19 _ 107 rfl (hdep ⟨19, .data⟩ (by simp) rfl) rfl)) (eval_tmp (hgot 21 _ 109 rfl (hdep ⟨21, .data⟩ (by simp) rfl) rfl)) (eval_tmp (hgot 23 _ 111 rfl (hdep ⟨23, .data⟩ (by simp) rfl) rfl)) (enters_of Try.func21 (by kernel_rfl) rfl)) ((rmayR_q hP hS u A n c m (HM.out.call hst.mod) mr HMR).mono ?_)
        rintro e v' ⟨rfl, m1⟩
        exact ⟨_, rfl, hK x _ _ (fun _ _ _ _ _ _ => rfl) (fun s hs => by cases hs; rfl) (by simpa using hst.call m1)⟩
      · exact wp_ranW (wanted_yes rfl rfl rfl (hgot 12 _ 100 rfl (hdep ⟨12, .guard⟩ (by simp) rfl) rfl)) (exec_eqb4 rfl (eval_tmp (hgot 18 _ 106 rfl (hdep ⟨18, .data⟩ (by simp) rfl) rfl)) (eval_tmp (hgot 24 _ 112 rfl (hdep ⟨24, .data⟩ (by simp) rfl) rfl))) (hK x _ _ (fun _ _ _ _ _ _ => rfl) (fun s hs => by cases hs; rfl) (by simpa using hst))
      · exact wp_ran rfl (exec_pick rfl (eval_tmp (hgot 12 _ 100 rfl (hdep ⟨12, .data⟩ (by simp) rfl) rfl)) (eval_tmp (hgot 25 _ 113 rfl (hdep ⟨25, .data⟩ (by simp) rfl) rfl)) rfl rfl) (hK x _ _ (fun _ _ _ _ _ _ => rfl) (fun s hs => by cases hs; rfl) (by simpa using hst))
      · exact wp_ran rfl (exec_assign rfl (eval_tmp (hgot 26 _ 114 rfl (hdep ⟨26, .data⟩ (by simp) rfl) rfl))) (hK x _ _ (fun _ _ _ _ _ _ => rfl) (fun s hs => by cases hs; rfl) (by simpa using hst))
    intro x lz v13 hlz hst
    have MM := hst.mod
    clear hst hlz
    simp only [setAll, Act.put, List.foldl_cons, List.foldl_nil, List.setIfInBounds_toArray, List.set_cons_succ, List.set_cons_zero]
    go_wp2_with fail
    go_ret
    exact ⟨rfl, MM⟩
theorem permTells_w {W : World} {p q : Pm} {cs ds : List Value} {A : Option Addr} {c : Nat} {m : List (Int × Int)} (h : PIs W (Btw 0 W.heap.size) p cs) (h' : PIs W (Btw 0 W.heap.size) q ds) (hm : BelR W A m.length c m) (u : Int) : Calls Try.prog 4 #[.agg cs.toArray, .agg ds.toArray, .agg #[ci u, .slice A m.length c]] W fun e w' => e = .returned (.bool true) ∧ Mod [] W w' :=
  tells_w h (fun g hg => hg.2) h' (fun g hg => hg.2) u A m.length c m hm
end Go.Proofs.Ytaadmpainikfpaa
