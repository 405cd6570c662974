/-
  the document's Back and Key. My own work.
-/
import Derived.Test.YtchanildogjhgaaDoorRc
namespace Go.Proofs.YtchanildogjhgaaDoor
open Go.RowKit Go.Shelf
set_option linter.unusedVariables false
set_option linter.unusedSimpArgs false
set_option maxRecDepth 1000000 in
set_option maxHeartbeats 2000000 in
theorem rkey_no (t : Tm) (ca : List Value) (S : Nat → Prop) (w : World) (hT : TIs w S t ca) (hS : ∀ g, S g → g < w.heap.size) (HR : t.right = false) : Calls Tryd.prog 48 #[.agg ca.toArray] w (ResR w S (keyR t) (keyE t)) := by
  have hca := hT.ones
  have FA := (Fm.nil w).argL (Ov S w.heap.size) hT hS (fun _ h => .inl h)
  clear hT hS
  have RR := fun v S h => rright_c t ca S v h
  have RK := fun v cs S h => rright_c (keyT t) cs S v h
  rw [HR] at RR
  obtain ⟨e1, e2⟩ : keyR t = nilT ∧ keyE t = 150 := by simp [keyR, keyE, HR, orNil, chk]
  rw [e1, e2]
  clear e1 e2
  clear HR
  go_enter Tryd.func48, Tryd.ntmps48
  go_wp2_with (first
    | (with_reducible refine fm_box FA (o := ⟨some 1, .box 24 (.tmp 0), _, _, _, _⟩) rfl 24 (.tmp 0) rfl (ca) rfl ?_; intro b1 w1 F1; clear FA)
    | (with_reducible refine fm_alloc F1 (o := ⟨some 2, .alloc 24, _, _, _, _⟩) rfl 24 rfl _ zero24 ?_; intro b2 w2 F2; clear F1)
    | (with_reducible refine fm_load F2 1 rfl (o := ⟨some 4, .load 24 (.tmp 1), _, _, _, _⟩) rfl (.tmp 1) rfl rfl hca.1 ?_)
    | (go_at_call 29; refine (RR w2 _ (F2.ist (F2.mem 0 rfl))).mono ?_
       rintro e w3 ⟨rfl, m3⟩
       have F3 := F2.call m3
       clear m3 F2)
    | (with_reducible refine wpList_ran (o := ⟨some 13, .build 24 _, _, _, _, _⟩) rfl (.agg (tmc 0 0 0 ⟨#[]⟩ none 0 0).toArray) (exec_bF rfl) ?_)
    | (with_reducible refine fm_store F3 0 rfl (o := ⟨none, .store 24 (.tmp 2) (.tmp 13), _, _, _, _⟩) rfl (.tmp 2) (.tmp 13) rfl rfl (tmc 0 0 0 ⟨#[]⟩ none 0 0) rfl rfl (tmc_len _ _ _ _ _ _ _) (tmc_len _ _ _ _ _ _ _) (tmc_one _ _ _ _ _ _ _) ?_; intro w4 F4; clear F3))
  refine bodyPost_ret (results_ct rfl _ _ b2 _ (.int .i64 150) rfl rfl (F4.ret 0 rfl) (tmc_len _ _ _ _ _ _ _)) rfl ?_
  exact ⟨_, rfl, ⟨fun _ => False, nil_tis _ _, fun _ h => h.elim⟩, F4.m⟩
set_option maxRecDepth 1000000 in
set_option maxHeartbeats 2000000 in
theorem rkey_mid (t : Tm) (ca : List Value) (S : Nat → Prop) (w : World) (hT : TIs w S t ca) (hS : ∀ g, S g → g < w.heap.size) (HR : t.right = true) (HK : (keyT t).right = false) : Calls Tryd.prog 48 #[.agg ca.toArray] w (ResR w S (keyR t) (keyE t)) := by
  have hca := hT.ones
  have FA := (Fm.nil w).argL (Ov S w.heap.size) hT hS (fun _ h => .inl h)
  clear hT hS
  have RR := fun v S h => rright_c t ca S v h
  have RK := fun v cs S h => rright_c (keyT t) cs S v h
  rw [HR] at RR
  obtain ⟨e1, e2⟩ : keyR t = nilT ∧ keyE t = 150 := by simp [keyR, keyE, HR, orNil, chk, HK]
  rw [e1, e2]
  clear e1 e2
  rw [HK] at RK
  clear HK
  clear HR
  go_enter Tryd.func48, Tryd.ntmps48
  go_wp2_with (first
    | (with_reducible refine fm_box FA (o := ⟨some 1, .box 24 (.tmp 0), _, _, _, _⟩) rfl 24 (.tmp 0) rfl (ca) rfl ?_; intro b1 w1 F1; clear FA)
    | (with_reducible refine fm_alloc F1 (o := ⟨some 2, .alloc 24, _, _, _, _⟩) rfl 24 rfl _ zero24 ?_; intro b2 w2 F2; clear F1)
    | (with_reducible refine fm_load F2 1 rfl (o := ⟨some 4, .load 24 (.tmp 1), _, _, _, _⟩) rfl (.tmp 1) rfl rfl hca.1 ?_)
    | (go_at_call 29; refine (RR w2 _ (F2.ist (F2.mem 0 rfl))).mono ?_
       rintro e w3 ⟨rfl, m3⟩
       have F3 := F2.call m3
       clear m3 F2)
    | (with_reducible refine fm_loadG F3 1 rfl (o := ⟨some 8, .load 24 (.tmp 1), _, _, _, _⟩) (by with_unfolding_all rfl) (.tmp 1) rfl rfl hca.1 ?_)
    | (go_at_call 69; refine (rhash_c wKey (by decide) _ _ _ w3 (F3.ist (F3.mem 0 rfl)) (F3.ltm (F3.mem 0 rfl))).mono ?_
       rintro e w4 ⟨c4, rfl, h4, m4⟩
       have hc4 := h4.elim fun _ h => h.1.ones
       obtain ⟨S4, F4⟩ := F3.madeR m4 h4 (fun g hg => ⟨_, (F3.mem 0 rfl), hg⟩) (L := (Ov S w.heap.size)) (F3.within (F3.mem 0 rfl)) (fun g hg => .inr hg)
       clear h4 m4 F3)
    | (go_at_call 29; refine (RK w4 _ _ (F4.ist (F4.mem 0 rfl))).mono ?_
       rintro e w5 ⟨rfl, m5⟩
       have F5 := F4.call m5
       clear m5 F4)
    | (with_reducible refine wpList_ran (o := ⟨some 13, .build 24 _, _, _, _, _⟩) rfl (.agg (tmc 0 0 0 ⟨#[]⟩ none 0 0).toArray) (exec_bF rfl) ?_)
    | (with_reducible refine fm_store F5 0 rfl (o := ⟨none, .store 24 (.tmp 2) (.tmp 13), _, _, _, _⟩) rfl (.tmp 2) (.tmp 13) rfl rfl (tmc 0 0 0 ⟨#[]⟩ none 0 0) rfl rfl (tmc_len _ _ _ _ _ _ _) (tmc_len _ _ _ _ _ _ _) (tmc_one _ _ _ _ _ _ _) ?_; intro w6 F6; clear F5))
  refine bodyPost_ret (results_ct rfl _ _ b2 _ (.int .i64 150) rfl rfl (F6.ret 0 rfl) (tmc_len _ _ _ _ _ _ _)) rfl ?_
  exact ⟨_, rfl, ⟨fun _ => False, nil_tis _ _, fun _ h => h.elim⟩, F6.m⟩
set_option maxRecDepth 1000000 in
set_option maxHeartbeats 2000000 in
theorem rkey_yes (t : Tm) (ca : List Value) (S : Nat → Prop) (w : World) (hT : TIs w S t ca) (hS : ∀ g, S g → g < w.heap.size) (HR : t.right = true) (HK : (keyT t).right = true) : Calls Tryd.prog 48 #[.agg ca.toArray] w (ResR w S (keyR t) (keyE t)) := by
  have hca := hT.ones
  have FA := (Fm.nil w).argL (Ov S w.heap.size) hT hS (fun _ h => .inl h)
  clear hT hS
  have RR := fun v S h => rright_c t ca S v h
  have RK := fun v cs S h => rright_c (keyT t) cs S v h
  rw [HR] at RR
  obtain ⟨e1, e2⟩ : keyR t = keyT t ∧ keyE t = 0 := by simp [keyR, keyE, HR, orNil, chk, HK]
  rw [e1, e2]
  clear e1 e2
  rw [HK] at RK
  clear HK
  clear HR
  go_enter Tryd.func48, Tryd.ntmps48
  go_wp2_with (first
    | (with_reducible refine fm_box FA (o := ⟨some 1, .box 24 (.tmp 0), _, _, _, _⟩) rfl 24 (.tmp 0) rfl (ca) rfl ?_; intro b1 w1 F1; clear FA)
    | (with_reducible refine fm_alloc F1 (o := ⟨some 2, .alloc 24, _, _, _, _⟩) rfl 24 rfl _ zero24 ?_; intro b2 w2 F2; clear F1)
    | (with_reducible refine fm_load F2 1 rfl (o := ⟨some 4, .load 24 (.tmp 1), _, _, _, _⟩) rfl (.tmp 1) rfl rfl hca.1 ?_)
    | (go_at_call 29; refine (RR w2 _ (F2.ist (F2.mem 0 rfl))).mono ?_
       rintro e w3 ⟨rfl, m3⟩
       have F3 := F2.call m3
       clear m3 F2)
    | (with_reducible refine fm_loadG F3 1 rfl (o := ⟨some 8, .load 24 (.tmp 1), _, _, _, _⟩) (by with_unfolding_all rfl) (.tmp 1) rfl rfl hca.1 ?_)
    | (go_at_call 69; refine (rhash_c wKey (by decide) _ _ _ w3 (F3.ist (F3.mem 0 rfl)) (F3.ltm (F3.mem 0 rfl))).mono ?_
       rintro e w4 ⟨c4, rfl, h4, m4⟩
       have hc4 := h4.elim fun _ h => h.1.ones
       obtain ⟨S4, F4⟩ := F3.madeR m4 h4 (fun g hg => ⟨_, (F3.mem 0 rfl), hg⟩) (L := (Ov S w.heap.size)) (F3.within (F3.mem 0 rfl)) (fun g hg => .inr hg)
       clear h4 m4 F3)
    | (go_at_call 29; refine (RK w4 _ _ (F4.ist (F4.mem 0 rfl))).mono ?_
       rintro e w5 ⟨rfl, m5⟩
       have F5 := F4.call m5
       clear m5 F4)
    | (with_reducible refine fm_load F5 1 rfl (o := ⟨some 14, .load 24 (.tmp 1), _, _, _, _⟩) rfl (.tmp 1) rfl rfl hca.1 ?_)
    | (go_at_call 69; refine (rhash_c wKey (by decide) _ _ _ w5 (F5.ist (F5.mem 1 rfl)) (F5.ltm (F5.mem 1 rfl))).mono ?_
       rintro e w6 ⟨c6, rfl, h6, m6⟩
       have hc6 := h6.elim fun _ h => h.1.ones
       obtain ⟨S6, F6⟩ := F5.madeR m6 h6 (fun g hg => ⟨_, (F5.mem 1 rfl), hg⟩) (L := (Ov S w.heap.size)) (F5.within (F5.mem 1 rfl)) (fun g hg => .inr hg)
       clear h6 m6 F5)
    | (with_reducible refine fm_store F6 0 rfl (o := ⟨none, .store 24 (.tmp 2) (.tmp 15), _, _, _, _⟩) rfl (.tmp 2) (.tmp 15) rfl rfl (c6) rfl rfl hc6.1 (tmc_len _ _ _ _ _ _ _) hc6.2 ?_; intro w7 F7; clear F6))
  refine bodyPost_ret (results_ct rfl _ _ b2 _ (.int .i64 0) rfl rfl (F7.ret 0 rfl) hc6.1) rfl ?_
  exact ⟨_, rfl, F7.mr (F7.mem 0 rfl), F7.m⟩
theorem rkey_c (t : Tm) (ca : List Value) (S : Nat → Prop) (w : World) (hT : TIs w S t ca) (hS : ∀ g, S g → g < w.heap.size) : Calls Tryd.prog 48 #[.agg ca.toArray] w (ResR w S (keyR t) (keyE t)) := by
  cases HR : t.right with
  | false => exact rkey_no t ca S w hT hS HR
  | true =>
  cases HK : (keyT t).right with
  | false => exact rkey_mid t ca S w hT hS HR HK
  | true => exact rkey_yes t ca S w hT hS HR HK
theorem back_end_no {w w' : World} {S : Nat → Prop} {t tt : Tm} {f to : Int} (e1 : backT t f to = orNil tt) (e2 : backE t f to = chk tt) (hr : tt.right = false) (m : Mod [] w w') : ResR w S (backT t f to) (backE t f to) (.returned (.tuple #[.agg (tmc 0 0 0 ⟨#[]⟩ none 0 0).toArray, .int .i64 150])) w' := by
  rw [e1, e2]
  exact ⟨_, by rw [chk, hr]; rfl, ⟨fun _ => False, by rw [orNil, hr]; exact nil_tis _ _, fun _ h => h.elim⟩, m⟩
theorem back_end_yes {w w' : World} {S : Nat → Prop} {t tt : Tm} {f to : Int} {cs : List Value} (e1 : backT t f to = orNil tt) (e2 : backE t f to = chk tt) (hr : tt.right = true) (h : ∃ Sx, TIs w' Sx tt cs ∧ ∀ g, Sx g → S g ∨ (w.heap.size ≤ g ∧ g < w'.heap.size)) (m : Mod [] w w') : ResR w S (backT t f to) (backE t f to) (.returned (.tuple #[.agg cs.toArray, .int .i64 0])) w' := by
  rw [e1, e2]
  exact ⟨_, by rw [chk, hr]; rfl, by rw [orNil, hr]; exact h, m⟩
set_option maxRecDepth 1000000 in
set_option maxHeartbeats 2000000 in
theorem rback_no (t : Tm) (ca : List Value) (S : Nat → Prop) (w : World) (hT : TIs w S t ca) (hS : ∀ g, S g → g < w.heap.size) (f to : Int) (HR : t.right = false) : Calls Tryd.prog 45 #[.agg ca.toArray, .int .i64 f, .int .i64 to] w (ResR w S (backT t f to) (backE t f to)) := by
  have hca := hT.ones
  have FA := (Fm.nil w).argL (Ov S w.heap.size) hT hS (fun _ h => .inl h)
  clear hT hS
  have RR := fun v S h => rright_c t ca S v h
  rw [HR] at RR
  obtain ⟨e1, e2⟩ := back_no (f := f) (to := to) HR
  rw [e1, e2]
  clear e1 e2 HR
  go_enter Tryd.func45, Tryd.ntmps45
  go_wp2_with (first
    | (with_reducible refine fm_box FA (o := ⟨some 3, .box 24 (.tmp 0), _, _, _, _⟩) rfl 24 (.tmp 0) rfl (ca) rfl ?_; intro b1 w1 F1; clear FA)
    | (with_reducible refine fm_alloc F1 (o := ⟨some 6, .alloc 24, _, _, _, _⟩) rfl 24 rfl _ zero24 ?_; intro b2 w2 F2; clear F1)
    | (with_reducible refine fm_load F2 1 rfl (o := ⟨some 9, .load 24 (.tmp 3), _, _, _, _⟩) rfl (.tmp 3) rfl rfl hca.1 ?_)
    | (go_at_call 29; refine (RR w2 _ (F2.ist (F2.mem 0 rfl))).mono ?_
       rintro e w3 ⟨rfl, m3⟩
       have F3 := F2.call m3
       clear m3 F2)
    | (with_reducible refine wpList_ran (o := ⟨some 12, .build 24 _, _, _, _, _⟩) rfl (.agg (tmc 0 0 0 ⟨#[]⟩ none 0 0).toArray) (exec_bF rfl) ?_)
    | (with_reducible refine fm_store F3 0 rfl (o := ⟨none, .store 24 (.tmp 6) (.tmp 12), _, _, _, _⟩) rfl (.tmp 6) (.tmp 12) rfl rfl (tmc 0 0 0 ⟨#[]⟩ none 0 0) rfl rfl (tmc_len _ _ _ _ _ _ _) (tmc_len _ _ _ _ _ _ _) (tmc_one _ _ _ _ _ _ _) ?_; intro w4 F4; clear F3))
  refine bodyPost_ret (results_ct rfl _ _ b2 _ (.int .i64 150) rfl rfl (F4.ret 0 rfl) (tmc_len _ _ _ _ _ _ _)) rfl ?_
  exact ⟨_, rfl, ⟨fun _ => False, nil_tis _ _, fun _ h => h.elim⟩, F4.m⟩
set_option maxRecDepth 1000000 in
set_option maxHeartbeats 2000000 in
theorem rback_a (t : Tm) (ca : List Value) (S : Nat → Prop) (w : World) (hT : TIs w S t ca) (hS : ∀ g, S g → g < w.heap.size) (f to : Int) (HR : t.right = true) (h1 : f < 1) : Calls Tryd.prog 45 #[.agg ca.toArray, .int .i64 f, .int .i64 to] w (ResR w S (backT t f to) (backE t f to)) := by
  have hca := hT.ones
  have FA := (Fm.nil w).argL (Ov S w.heap.size) hT hS (fun _ h => .inl h)
  clear hT hS
  have RR := fun v S h => rright_c t ca S v h
  rw [HR] at RR
  obtain ⟨e1, e2⟩ := back_out (t := t) (f := f) (to := to) (fun h => by have q1 := inE_le h.1; have q2 := inE_le h.2.1; omega) HR
  rw [e1, e2]
  have d1 : decide (f < 1) = true := by simp; omega
  clear e1 e2 HR
  go_enter Tryd.func45, Tryd.ntmps45
  go_wp2_with (first
    | (with_reducible refine fm_box FA (o := ⟨some 3, .box 24 (.tmp 0), _, _, _, _⟩) rfl 24 (.tmp 0) rfl (ca) rfl ?_; intro b1 w1 F1; clear FA)
    | (with_reducible refine fm_alloc F1 (o := ⟨some 6, .alloc 24, _, _, _, _⟩) rfl 24 rfl _ zero24 ?_; intro b2 w2 F2; clear F1)
    | (with_reducible refine fm_load F2 1 rfl (o := ⟨some 9, .load 24 (.tmp 3), _, _, _, _⟩) rfl (.tmp 3) rfl rfl hca.1 ?_)
    | (go_at_call 29; refine (RR w2 _ (F2.ist (F2.mem 0 rfl))).mono ?_
       rintro e w3 ⟨rfl, m3⟩
       have F3 := F2.call m3
       clear m3 F2)
    | (with_reducible refine wpList_ran (o := ⟨some 28, .build 24 _, _, _, _, _⟩) rfl (.agg (tmc 0 0 0 ⟨#[]⟩ none 0 0).toArray) (exec_bF rfl) ?_)
    | (with_reducible refine fm_store F3 0 rfl (o := ⟨none, .store 24 (.tmp 6) (.tmp 28), _, _, _, _⟩) rfl (.tmp 6) (.tmp 28) rfl rfl (tmc 0 0 0 ⟨#[]⟩ none 0 0) rfl rfl (tmc_len _ _ _ _ _ _ _) (tmc_len _ _ _ _ _ _ _) (tmc_one _ _ _ _ _ _ _) ?_; intro w4 F4; clear F3))
  refine bodyPost_ret (results_ct rfl _ _ b2 _ (.int .i64 2) rfl rfl (F4.ret 0 rfl) (tmc_len _ _ _ _ _ _ _)) rfl ?_
  exact ⟨_, rfl, ⟨fun _ => False, nil_tis _ _, fun _ h => h.elim⟩, F4.m⟩
set_option maxRecDepth 1000000 in
set_option maxHeartbeats 2000000 in
theorem rback_b (t : Tm) (ca : List Value) (S : Nat → Prop) (w : World) (hT : TIs w S t ca) (hS : ∀ g, S g → g < w.heap.size) (f to : Int) (HR : t.right = true) (h1 : 1 ≤ f) (h2 : 8 < f) : Calls Tryd.prog 45 #[.agg ca.toArray, .int .i64 f, .int .i64 to] w (ResR w S (backT t f to) (backE t f to)) := by
  have hca := hT.ones
  have FA := (Fm.nil w).argL (Ov S w.heap.size) hT hS (fun _ h => .inl h)
  clear hT hS
  have RR := fun v S h => rright_c t ca S v h
  rw [HR] at RR
  obtain ⟨e1, e2⟩ := back_out (t := t) (f := f) (to := to) (fun h => by have q1 := inE_le h.1; have q2 := inE_le h.2.1; omega) HR
  rw [e1, e2]
  have d1 : decide (f < 1) = false := by simp; omega
  have d2 : decide (8 < f) = true := by simp; omega
  clear e1 e2 HR
  go_enter Tryd.func45, Tryd.ntmps45
  go_wp2_with (first
    | (with_reducible refine fm_box FA (o := ⟨some 3, .box 24 (.tmp 0), _, _, _, _⟩) rfl 24 (.tmp 0) rfl (ca) rfl ?_; intro b1 w1 F1; clear FA)
    | (with_reducible refine fm_alloc F1 (o := ⟨some 6, .alloc 24, _, _, _, _⟩) rfl 24 rfl _ zero24 ?_; intro b2 w2 F2; clear F1)
    | (with_reducible refine fm_load F2 1 rfl (o := ⟨some 9, .load 24 (.tmp 3), _, _, _, _⟩) rfl (.tmp 3) rfl rfl hca.1 ?_)
    | (go_at_call 29; refine (RR w2 _ (F2.ist (F2.mem 0 rfl))).mono ?_
       rintro e w3 ⟨rfl, m3⟩
       have F3 := F2.call m3
       clear m3 F2)
    | (with_reducible refine wpList_ran (o := ⟨some 28, .build 24 _, _, _, _, _⟩) rfl (.agg (tmc 0 0 0 ⟨#[]⟩ none 0 0).toArray) (exec_bF rfl) ?_)
    | (with_reducible refine fm_store F3 0 rfl (o := ⟨none, .store 24 (.tmp 6) (.tmp 28), _, _, _, _⟩) rfl (.tmp 6) (.tmp 28) rfl rfl (tmc 0 0 0 ⟨#[]⟩ none 0 0) rfl rfl (tmc_len _ _ _ _ _ _ _) (tmc_len _ _ _ _ _ _ _) (tmc_one _ _ _ _ _ _ _) ?_; intro w4 F4; clear F3))
  refine bodyPost_ret (results_ct rfl _ _ b2 _ (.int .i64 2) rfl rfl (F4.ret 0 rfl) (tmc_len _ _ _ _ _ _ _)) rfl ?_
  exact ⟨_, rfl, ⟨fun _ => False, nil_tis _ _, fun _ h => h.elim⟩, F4.m⟩
set_option maxRecDepth 1000000 in
set_option maxHeartbeats 2000000 in
theorem rback_c' (t : Tm) (ca : List Value) (S : Nat → Prop) (w : World) (hT : TIs w S t ca) (hS : ∀ g, S g → g < w.heap.size) (f to : Int) (HR : t.right = true) (h1 : 1 ≤ f) (h2 : f ≤ 8) (h3 : to < 1) : Calls Tryd.prog 45 #[.agg ca.toArray, .int .i64 f, .int .i64 to] w (ResR w S (backT t f to) (backE t f to)) := by
  have hca := hT.ones
  have FA := (Fm.nil w).argL (Ov S w.heap.size) hT hS (fun _ h => .inl h)
  clear hT hS
  have RR := fun v S h => rright_c t ca S v h
  rw [HR] at RR
  obtain ⟨e1, e2⟩ := back_out (t := t) (f := f) (to := to) (fun h => by have q1 := inE_le h.1; have q2 := inE_le h.2.1; omega) HR
  rw [e1, e2]
  have d1 : decide (f < 1) = false := by simp; omega
  have d2 : decide (8 < f) = false := by simp; omega
  have d3 : decide (to < 1) = true := by simp; omega
  clear e1 e2 HR
  go_enter Tryd.func45, Tryd.ntmps45
  go_wp2_with (first
    | (with_reducible refine fm_box FA (o := ⟨some 3, .box 24 (.tmp 0), _, _, _, _⟩) rfl 24 (.tmp 0) rfl (ca) rfl ?_; intro b1 w1 F1; clear FA)
    | (with_reducible refine fm_alloc F1 (o := ⟨some 6, .alloc 24, _, _, _, _⟩) rfl 24 rfl _ zero24 ?_; intro b2 w2 F2; clear F1)
    | (with_reducible refine fm_load F2 1 rfl (o := ⟨some 9, .load 24 (.tmp 3), _, _, _, _⟩) rfl (.tmp 3) rfl rfl hca.1 ?_)
    | (go_at_call 29; refine (RR w2 _ (F2.ist (F2.mem 0 rfl))).mono ?_
       rintro e w3 ⟨rfl, m3⟩
       have F3 := F2.call m3
       clear m3 F2)
    | (with_reducible refine wpList_ran (o := ⟨some 28, .build 24 _, _, _, _, _⟩) rfl (.agg (tmc 0 0 0 ⟨#[]⟩ none 0 0).toArray) (exec_bF rfl) ?_)
    | (with_reducible refine fm_store F3 0 rfl (o := ⟨none, .store 24 (.tmp 6) (.tmp 28), _, _, _, _⟩) rfl (.tmp 6) (.tmp 28) rfl rfl (tmc 0 0 0 ⟨#[]⟩ none 0 0) rfl rfl (tmc_len _ _ _ _ _ _ _) (tmc_len _ _ _ _ _ _ _) (tmc_one _ _ _ _ _ _ _) ?_; intro w4 F4; clear F3))
  refine bodyPost_ret (results_ct rfl _ _ b2 _ (.int .i64 2) rfl rfl (F4.ret 0 rfl) (tmc_len _ _ _ _ _ _ _)) rfl ?_
  exact ⟨_, rfl, ⟨fun _ => False, nil_tis _ _, fun _ h => h.elim⟩, F4.m⟩
set_option maxRecDepth 1000000 in
set_option maxHeartbeats 2000000 in
theorem rback_d (t : Tm) (ca : List Value) (S : Nat → Prop) (w : World) (hT : TIs w S t ca) (hS : ∀ g, S g → g < w.heap.size) (f to : Int) (HR : t.right = true) (h1 : 1 ≤ f) (h2 : f ≤ 8) (h3 : 1 ≤ to) (h4 : f < to) : Calls Tryd.prog 45 #[.agg ca.toArray, .int .i64 f, .int .i64 to] w (ResR w S (backT t f to) (backE t f to)) := by
  have hca := hT.ones
  have FA := (Fm.nil w).argL (Ov S w.heap.size) hT hS (fun _ h => .inl h)
  clear hT hS
  have RR := fun v S h => rright_c t ca S v h
  rw [HR] at RR
  obtain ⟨e1, e2⟩ := back_out (t := t) (f := f) (to := to) (fun h => by have q1 := inE_le h.1; have q2 := inE_le h.2.1; omega) HR
  rw [e1, e2]
  have d1 : decide (f < 1) = false := by simp; omega
  have d2 : decide (8 < f) = false := by simp; omega
  have d3 : decide (to < 1) = false := by simp; omega
  have d4 : decide (f < to) = true := by simp; omega
  clear e1 e2 HR
  go_enter Tryd.func45, Tryd.ntmps45
  go_wp2_with (first
    | (with_reducible refine fm_box FA (o := ⟨some 3, .box 24 (.tmp 0), _, _, _, _⟩) rfl 24 (.tmp 0) rfl (ca) rfl ?_; intro b1 w1 F1; clear FA)
    | (with_reducible refine fm_alloc F1 (o := ⟨some 6, .alloc 24, _, _, _, _⟩) rfl 24 rfl _ zero24 ?_; intro b2 w2 F2; clear F1)
    | (with_reducible refine fm_load F2 1 rfl (o := ⟨some 9, .load 24 (.tmp 3), _, _, _, _⟩) rfl (.tmp 3) rfl rfl hca.1 ?_)
    | (go_at_call 29; refine (RR w2 _ (F2.ist (F2.mem 0 rfl))).mono ?_
       rintro e w3 ⟨rfl, m3⟩
       have F3 := F2.call m3
       clear m3 F2)
    | (with_reducible refine wpList_ran (o := ⟨some 28, .build 24 _, _, _, _, _⟩) rfl (.agg (tmc 0 0 0 ⟨#[]⟩ none 0 0).toArray) (exec_bF rfl) ?_)
    | (with_reducible refine fm_store F3 0 rfl (o := ⟨none, .store 24 (.tmp 6) (.tmp 28), _, _, _, _⟩) rfl (.tmp 6) (.tmp 28) rfl rfl (tmc 0 0 0 ⟨#[]⟩ none 0 0) rfl rfl (tmc_len _ _ _ _ _ _ _) (tmc_len _ _ _ _ _ _ _) (tmc_one _ _ _ _ _ _ _) ?_; intro w4 F4; clear F3))
  refine bodyPost_ret (results_ct rfl _ _ b2 _ (.int .i64 2) rfl rfl (F4.ret 0 rfl) (tmc_len _ _ _ _ _ _ _)) rfl ?_
  exact ⟨_, rfl, ⟨fun _ => False, nil_tis _ _, fun _ h => h.elim⟩, F4.m⟩
set_option maxRecDepth 1000000 in
set_option maxHeartbeats 2000000 in
theorem rback_ok (t : Tm) (ca : List Value) (S : Nat → Prop) (w : World) (hT : TIs w S t ca) (hS : ∀ g, S g → g < w.heap.size) (f to : Int) (HR : t.right = true) (h1 : 1 ≤ f) (h2 : f ≤ 8) (h3 : 1 ≤ to) (h4 : to ≤ f) : Calls Tryd.prog 45 #[.agg ca.toArray, .int .i64 f, .int .i64 to] w (ResR w S (backT t f to) (backE t f to)) := by
  have hca := hT.ones
  have FA := (Fm.nil w).argL (Ov S w.heap.size) hT hS (fun _ h => .inl h)
  clear hT hS
  have RR := fun v S h => rright_c t ca S v h
  rw [HR] at RR
  have d1 : decide (f < 1) = false := by simp; omega
  have d2 : decide (8 < f) = false := by simp; omega
  have d3 : decide (to < 1) = false := by simp; omega
  have d4 : decide (f < to) = false := by simp; omega
  obtain ⟨n, hn⟩ : ∃ n : Nat, (n : Int) = f - to := ⟨(f - to).toNat, by omega⟩
  have HN := Lib.hid hn
  have hin : inE f = true ∧ inE to = true ∧ to ≤ f := ⟨by simp [inE]; omega, by simp [inE]; omega, h4⟩
  have HB : Hid (∀ k, k = n → backT t f to = orNil (iter stA k t) ∧ backE t f to = chk (iter stA k t)) := Lib.hid (fun k hk => by subst hk; exact back_in hin HR hn)
  clear hn hin HR
  go_enter Tryd.func45, Tryd.ntmps45
  go_wp2_with (first
    | (with_reducible refine fm_box FA (o := ⟨some 3, .box 24 (.tmp 0), _, _, _, _⟩) rfl 24 (.tmp 0) rfl (ca) rfl ?_; intro b1 w1 F1; clear FA)
    | (with_reducible refine fm_alloc F1 (o := ⟨some 6, .alloc 24, _, _, _, _⟩) rfl 24 rfl _ zero24 ?_; intro b2 w2 F2; clear F1)
    | (with_reducible refine fm_load F2 1 rfl (o := ⟨some 9, .load 24 (.tmp 3), _, _, _, _⟩) rfl (.tmp 3) rfl rfl hca.1 ?_)
    | (go_at_call 29; refine (RR w2 _ (F2.ist (F2.mem 0 rfl))).mono ?_
       rintro e w3 ⟨rfl, m3⟩
       have F3 := F2.call m3
       clear m3 F2))
  go_loopw [8] (fun i wr => ∃ (j : Nat) (z : Int) (cs : List Value) (Sj : Nat → Prop), i = .int .i64 z ∧ Hid (z + j = f) ∧ to ≤ z ∧ z ≤ f ∧ (cs.length = 5 ∧ ∀ v ∈ cs, v.oneCell' = true) ∧ Fm w wr [oB b2 24 (tmc 0 0 0 ⟨#[]⟩ none 0 0), oB b1 24 cs] [tT (Ov S w.heap.size) Sj (iter stA j t) cs]) (fun i _ => (intOf i - to).toNat)
  case atStart => exact ⟨0, f, ca, S, rfl, Lib.hid (by omega), (by omega), Int.le_refl _, (by assumption), F3⟩
  case round =>
  obtain ⟨j, z, cj, Sj, rfl, hz, hz1, hz2, hcj, FJ⟩ := hrel
  by_cases hzt : to < z
  case neg =>
    have hdz : decide (to < z) = false := by simp; omega
    have hj : j = n := by have := hz.out; have := HN.out; omega
    subst hj
    have HB := HB
    cases HR : (iter stA j t).right
    case false =>
      have RJ := fun v S h => rright_c (iter stA j t) cj S v h
      rw [HR] at RJ
      obtain ⟨e1, e2⟩ := HB.out j rfl
      have HE := Lib.hid (And.intro e1 (And.intro e2 HR))
      clear HR e1 e2
      go_wp2_with (first
        | (with_reducible refine fm_load FJ 1 rfl (o := ⟨some 37, .load 24 (.tmp 3), _, _, _, _⟩) rfl (.tmp 3) rfl rfl hcj.1 ?_)
        | (go_at_call 29; refine (RJ wr _ (FJ.ist (FJ.mem 0 rfl))).mono ?_
           rintro e w51 ⟨rfl, m51⟩
           have F51 := FJ.call m51
           clear m51 FJ)
        | (with_reducible refine wpList_ran (o := ⟨some 40, .build 24 _, _, _, _, _⟩) rfl (.agg (tmc 0 0 0 ⟨#[]⟩ none 0 0).toArray) (exec_bF rfl) ?_)
        | (with_reducible refine fm_store F51 0 rfl (o := ⟨none, .store 24 (.tmp 6) (.tmp 40), _, _, _, _⟩) rfl (.tmp 6) (.tmp 40) rfl rfl (tmc 0 0 0 ⟨#[]⟩ none 0 0) rfl rfl (tmc_len _ _ _ _ _ _ _) (tmc_len _ _ _ _ _ _ _) (tmc_one _ _ _ _ _ _ _) ?_; intro w52 F52; clear F51))
      refine bodyPost_ret (results_ct rfl _ _ b2 _ (.int .i64 150) rfl rfl (F52.ret 0 rfl) (tmc_len _ _ _ _ _ _ _)) rfl ?_
      exact back_end_no HE.out.1 HE.out.2.1 HE.out.2.2 F52.m
    case true =>
      have RJ := fun v S h => rright_c (iter stA j t) cj S v h
      rw [HR] at RJ
      obtain ⟨e1, e2⟩ := HB.out j rfl
      have HE := Lib.hid (And.intro e1 (And.intro e2 HR))
      clear HR e1 e2
      go_wp2_with (first
        | (with_reducible refine fm_load FJ 1 rfl (o := ⟨some 37, .load 24 (.tmp 3), _, _, _, _⟩) rfl (.tmp 3) rfl rfl hcj.1 ?_)
        | (go_at_call 29; refine (RJ wr _ (FJ.ist (FJ.mem 0 rfl))).mono ?_
           rintro e w71 ⟨rfl, m71⟩
           have F71 := FJ.call m71
           clear m71 FJ)
        | (with_reducible refine fm_load F71 1 rfl (o := ⟨some 41, .load 24 (.tmp 3), _, _, _, _⟩) rfl (.tmp 3) rfl rfl hcj.1 ?_)
        | (with_reducible refine fm_store F71 0 rfl (o := ⟨none, .store 24 (.tmp 6) (.tmp 41), _, _, _, _⟩) rfl (.tmp 6) (.tmp 41) rfl rfl (cj) rfl rfl hcj.1 (tmc_len _ _ _ _ _ _ _) hcj.2 ?_; intro w72 F72; clear F71))
      refine bodyPost_ret (results_ct rfl _ _ b2 _ (.int .i64 0) rfl rfl (F72.ret 0 rfl) hcj.1) rfl ?_
      exact back_end_yes HE.out.1 HE.out.2.1 HE.out.2.2 (F72.mr (F72.mem 0 rfl)) F72.m
  have hdz : decide (to < z) = true := by simpa using hzt
  go_wp2_with (first
    | (with_reducible refine fm_load FJ 1 rfl (o := ⟨some 35, .load 24 (.tmp 3), _, _, _, _⟩) rfl (.tmp 3) rfl rfl hcj.1 ?_)
    | (go_at_call 69; refine (rhash_c wState (by decide) _ _ _ wr (FJ.ist (FJ.mem 0 rfl)) (FJ.ltm (FJ.mem 0 rfl))).mono ?_
       rintro e w31 ⟨c31, rfl, h31, m31⟩
       have hc31 := h31.elim fun _ h => h.1.ones
       obtain ⟨S31, F31⟩ := FJ.madeR m31 h31 (fun g hg => ⟨_, (FJ.mem 0 rfl), hg⟩) (L := (Ov S w.heap.size)) (FJ.within (FJ.mem 0 rfl)) (fun g hg => .inr hg)
       clear h31 m31 FJ)
    | (with_reducible refine fm_store F31 1 rfl (o := ⟨none, .store 24 (.tmp 3) (.tmp 36), _, _, _, _⟩) rfl (.tmp 3) (.tmp 36) rfl rfl (c31) rfl rfl hc31.1 hcj.1 hc31.2 ?_; intro w32 F32; clear F31))
  exact ⟨⟨j + 1, z - 1, _, _, by go_num, Lib.hid (by have := hz.out; omega), by omega, by omega, hc31, (F32.sub (ts' := [_]) (List.Sublist.refl _) (fun y hy => by rw [List.mem_singleton] at hy; subst hy; exact List.mem_cons_self ..))⟩, by simp [intOf]; omega⟩
theorem rback_c (t : Tm) (ca : List Value) (S : Nat → Prop) (w : World) (hT : TIs w S t ca) (hS : ∀ g, S g → g < w.heap.size) (f to : Int) : Calls Tryd.prog 45 #[.agg ca.toArray, .int .i64 f, .int .i64 to] w (ResR w S (backT t f to) (backE t f to)) := by
  cases HR : t.right with
  | false => exact rback_no t ca S w hT hS f to HR
  | true =>
  by_cases h1 : f < 1
  · exact rback_a t ca S w hT hS f to HR h1
  by_cases h2 : 8 < f
  · exact rback_b t ca S w hT hS f to HR (by omega) h2
  by_cases h3 : to < 1
  · exact rback_c' t ca S w hT hS f to HR (by omega) (by omega) h3
  by_cases h4 : f < to
  · exact rback_d t ca S w hT hS f to HR (by omega) (by omega) (by omega) h4
  exact rback_ok t ca S w hT hS f to HR (by omega) (by omega) (by omega) (by omega)
end Go.Proofs.YtchanildogjhgaaDoor
