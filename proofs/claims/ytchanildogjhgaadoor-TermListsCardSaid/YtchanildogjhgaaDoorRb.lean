/-
  regress: State, Back, Key, and the document's own. My own work.
-/
import Derived.Test.YtchanildogjhgaaDoorRa
namespace Go.Proofs.YtchanildogjhgaaDoor
open Go.RowKit Go.Shelf
set_option linter.unusedVariables false
set_option linter.unusedSimpArgs false
theorem isEpoch_c (e : Int) (w : World) : Calls Tryd.prog 70 #[.int .i64 e] w fun r w' => r = .returned (.bool (decide (1 ≤ e) && decide (e ≤ 8))) ∧ Mod [] w w' := by
  cases h1 : decide (1 ≤ e)
  · go_enter Tryd.func70, Tryd.ntmps70
    go_wp2_with fail
    go_ret
    exact ⟨rfl, Mod.refl _ _⟩
  · go_enter Tryd.func70, Tryd.ntmps70
    go_wp2_with fail
    go_ret
    exact ⟨rfl, Mod.refl _ _⟩
/-- A term and what is wrong, told; the term in new memory. -/
def Res (w : World) (t : Tm) (k : Int) (e : Ending) (w' : World) : Prop := ∃ cs, e = .returned (.tuple #[.agg cs.toArray, .int .i64 k]) ∧ TIs w' (Btw w.heap.size w'.heap.size) t cs ∧ Mod [] w w'
/-- The same, where memory may be shared. -/
def ResR (w : World) (S0 : Nat → Prop) (t : Tm) (k : Int) (e : Ending) (w' : World) : Prop := ∃ cs, e = .returned (.tuple #[.agg cs.toArray, .int .i64 k]) ∧ (∃ S, TIs w' S t cs ∧ ∀ g, S g → S0 g ∨ (w.heap.size ≤ g ∧ g < w'.heap.size)) ∧ Mod [] w w'
def MadeR (w : World) (S0 : Nat → Prop) (t : Tm) (e : Ending) (w' : World) : Prop := ∃ cs, e = .returned (.agg cs.toArray) ∧ (∃ S, TIs w' S t cs ∧ ∀ g, S g → S0 g ∨ (w.heap.size ≤ g ∧ g < w'.heap.size)) ∧ Mod [] w w'
theorem Ans.res {w w' : World} {t : Tm} {e : Ending} (h : Ans w t e w') : Res w (orNil t) (chk t) e w' := h
def inE (e : Int) : Bool := decide (1 ≤ e) && decide (e ≤ 8)
/-- Back, as the document says it. -/
def backT (t : Tm) (f to : Int) : Tm := if t.right = true ∧ inE f = true ∧ inE to = true ∧ to ≤ f then orNil (iter stA (f - to).toNat t) else nilT
def backE (t : Tm) (f to : Int) : Int := if t.right = false then 150 else if inE f = true ∧ inE to = true ∧ to ≤ f then chk (iter stA (f - to).toNat t) else 2
theorem Fm.mr {w0 w : World} {os ts : List Th} (F : Fm w0 w os ts) {S S0 : Nat → Prop} {t : Tm} {cs : List Value} (h : tT (Ov S0 w0.heap.size) S t cs ∈ ts) : ∃ S, TIs w S t cs ∧ ∀ g, S g → S0 g ∨ (w0.heap.size ≤ g ∧ g < w.heap.size) :=
  ⟨S, F.ist h, fun g hg => (F.within h g hg).imp_right fun h' => ⟨h', F.ltm h g hg⟩⟩
/-- Key, as the document says it. -/
def keyR (t : Tm) : Tm := if t.right = true then orNil (keyT t) else nilT
def keyE (t : Tm) : Int := if t.right = true then chk (keyT t) else 150
set_option maxRecDepth 1000000 in
set_option maxHeartbeats 2000000 in
theorem key_c (t : Tm) (ca : List Value) (S : Nat → Prop) (w : World) (hT : TIs w S t ca) (hS : ∀ g, S g → g < w.heap.size) (G : Glob w) : Calls Tryd.prog 47 #[.agg ca.toArray] w (Res w (keyR t) (keyE t)) := by
  have hca := hT.ones
  have FA := (Fm.nil w).argT hT hS
  clear hT hS
  have CK := fun v S h G => check_c t ca S v h G
  unfold keyR keyE
  cases HR : t.right with
  | false =>
    rw [show chk t = 150 by rw [chk, HR]; rfl] at CK
    simp only [Bool.false_eq_true, if_false]
    clear HR
    go_enter Tryd.func47, Tryd.ntmps47
    go_wp2_with (first
      | (with_reducible refine fm_box FA (o := ⟨some 1, .box 24 (.tmp 0), _, _, _, _⟩) rfl 24 (.tmp 0) rfl (ca) rfl ?_; intro b1 w1 F1; clear FA)
      | (with_reducible refine fm_alloc F1 (o := ⟨some 2, .alloc 24, _, _, _, _⟩) rfl 24 rfl _ zero24 ?_; intro b2 w2 F2; clear F1)
      | (with_reducible refine fm_load F2 1 rfl (o := ⟨some 5, .load 24 (.tmp 1), _, _, _, _⟩) rfl (.tmp 1) rfl rfl hca.1 ?_)
      | (go_at_call 32; refine (CK w2 _ (F2.ist (F2.mem 0 rfl)) (F2.glob G)).mono ?_
         rintro e w3 ⟨rfl, m3⟩
         have F3 := F2.call m3
         clear m3 F2)
      | (with_reducible refine wpList_ran (o := ⟨some 9, .build 24 _, _, _, _, _⟩) rfl (.agg (tmc 0 0 0 ⟨#[]⟩ none 0 0).toArray) (exec_bF rfl) ?_)
      | (with_reducible refine fm_store F3 0 rfl (o := ⟨none, .store 24 (.tmp 2) (.tmp 9), _, _, _, _⟩) rfl (.tmp 2) (.tmp 9) rfl rfl (tmc 0 0 0 ⟨#[]⟩ none 0 0) rfl rfl (tmc_len _ _ _ _ _ _ _) (tmc_len _ _ _ _ _ _ _) (tmc_one _ _ _ _ _ _ _) ?_; intro w4 F4; clear F3))
    refine bodyPost_ret (results_ct rfl _ _ b2 _ (.int .i64 150) rfl rfl (F4.ret 0 rfl) (tmc_len _ _ _ _ _ _ _)) rfl ?_
    exact ⟨_, rfl, nil_tis _ _, F4.m⟩
  | true =>
    rw [show chk t = 0 by rw [chk, HR]; rfl] at CK
    simp only [if_true]
    clear HR
    go_enter Tryd.func47, Tryd.ntmps47
    go_wp2_with (first
      | (with_reducible refine fm_box FA (o := ⟨some 1, .box 24 (.tmp 0), _, _, _, _⟩) rfl 24 (.tmp 0) rfl (ca) rfl ?_; intro b1 w1 F1; clear FA)
      | (with_reducible refine fm_alloc F1 (o := ⟨some 2, .alloc 24, _, _, _, _⟩) rfl 24 rfl _ zero24 ?_; intro b2 w2 F2; clear F1)
      | (with_reducible refine fm_load F2 1 rfl (o := ⟨some 5, .load 24 (.tmp 1), _, _, _, _⟩) rfl (.tmp 1) rfl rfl hca.1 ?_)
      | (go_at_call 32; refine (CK w2 _ (F2.ist (F2.mem 0 rfl)) (F2.glob G)).mono ?_
         rintro e w3 ⟨rfl, m3⟩
         have F3 := F2.call m3
         clear m3 F2)
      | (with_reducible refine fm_load F3 1 rfl (o := ⟨some 11, .load 24 (.tmp 1), _, _, _, _⟩) rfl (.tmp 1) rfl rfl hca.1 ?_)
      | (go_at_call 71; refine (walked_key 1 (by decide) _ _ _ w3 (F3.ist (F3.mem 0 rfl)) (F3.ltm (F3.mem 0 rfl)) (F3.glob G)).mono ?_
         rintro e w4 ⟨c4, rfl, h4, m4⟩
         have hc4 := h4.ones
         have F4 := F3.made m4 h4
         clear h4 m4
         clear F3)
      | (with_reducible refine fm_store F4 0 rfl (o := ⟨none, .store 24 (.tmp 2) (.tmp 13), _, _, _, _⟩) rfl (.tmp 2) (.tmp 13) rfl rfl (c4) rfl rfl hc4.1 (tmc_len _ _ _ _ _ _ _) hc4.2 ?_; intro w5 F5; clear F4))
    refine bodyPost_ret (results_ct rfl _ _ b2 _ (.int .i64 (chk (iter keyT 1 t))) rfl rfl (F5.ret 0 rfl) hc4.1) rfl ?_
    exact ⟨_, rfl, F5.mt 0 rfl, F5.m⟩
theorem back_out {t : Tm} {f to : Int} (h : ¬ (inE f = true ∧ inE to = true ∧ to ≤ f)) (hr : t.right = true) : backT t f to = nilT ∧ backE t f to = 2 := by
  constructor
  · exact if_neg fun h' => h h'.2
  · unfold backE
    rw [if_neg (by rw [hr]; decide), if_neg h]
theorem back_no {t : Tm} {f to : Int} (hr : t.right = false) : backT t f to = nilT ∧ backE t f to = 150 :=
  ⟨if_neg fun h' => (by rw [hr] at h'; exact absurd h'.1 (by decide)), if_pos hr⟩
theorem back_in {t : Tm} {f to : Int} {n : Nat} (h : inE f = true ∧ inE to = true ∧ to ≤ f) (hr : t.right = true) (hn : (n : Int) = f - to) : backT t f to = orNil (iter stA n t) ∧ backE t f to = chk (iter stA n t) := by
  have e : (f - to).toNat = n := by omega
  constructor
  · unfold backT
    rw [if_pos ⟨hr, h⟩, e]
  · unfold backE
    rw [if_neg (by rw [hr]; decide), if_pos h, e]
theorem inE_le {e : Int} (h : inE e = true) : 1 ≤ e ∧ e ≤ 8 := by simpa [inE] using h
set_option maxRecDepth 1000000 in
set_option maxHeartbeats 2000000 in
theorem back_no' (t : Tm) (ca : List Value) (S : Nat → Prop) (w : World) (hT : TIs w S t ca) (hS : ∀ g, S g → g < w.heap.size) (G : Glob w) (f to : Int) (HR : t.right = false) : Calls Tryd.prog 46 #[.agg ca.toArray, .int .i64 f, .int .i64 to] w (Res w (backT t f to) (backE t f to)) := by
  have hca := hT.ones
  have FA := (Fm.nil w).argT hT hS
  clear hT hS
  have CK := fun v S h G => check_c t ca S v h G
  rw [show chk t = 150 by rw [chk, HR]; rfl] at CK
  obtain ⟨e1, e2⟩ := back_no (f := f) (to := to) HR
  rw [e1, e2]
  clear e1 e2 HR
  go_enter Tryd.func46, Tryd.ntmps46
  go_wp2_with (first
    | (with_reducible refine fm_box FA (o := ⟨some 3, .box 24 (.tmp 0), _, _, _, _⟩) rfl 24 (.tmp 0) rfl (ca) rfl ?_; intro b1 w1 F1; clear FA)
    | (with_reducible refine fm_alloc F1 (o := ⟨some 6, .alloc 24, _, _, _, _⟩) rfl 24 rfl _ zero24 ?_; intro b2 w2 F2; clear F1)
    | (with_reducible refine fm_load F2 1 rfl (o := ⟨some 9, .load 24 (.tmp 3), _, _, _, _⟩) rfl (.tmp 3) rfl rfl hca.1 ?_)
    | (go_at_call 32; refine (CK w2 _ (F2.ist (F2.mem 0 rfl)) (F2.glob G)).mono ?_
       rintro e w3 ⟨rfl, m3⟩
       have F3 := F2.call m3
       clear m3 F2)
    | (with_reducible refine wpList_ran (o := ⟨some 13, .build 24 _, _, _, _, _⟩) rfl (.agg (tmc 0 0 0 ⟨#[]⟩ none 0 0).toArray) (exec_bF rfl) ?_)
    | (with_reducible refine fm_store F3 0 rfl (o := ⟨none, .store 24 (.tmp 6) (.tmp 13), _, _, _, _⟩) rfl (.tmp 6) (.tmp 13) rfl rfl (tmc 0 0 0 ⟨#[]⟩ none 0 0) rfl rfl (tmc_len _ _ _ _ _ _ _) (tmc_len _ _ _ _ _ _ _) (tmc_one _ _ _ _ _ _ _) ?_; intro w4 F4; clear F3))
  refine bodyPost_ret (results_ct rfl _ _ b2 _ (.int .i64 150) rfl rfl (F4.ret 0 rfl) (tmc_len _ _ _ _ _ _ _)) rfl ?_
  exact ⟨_, rfl, nil_tis _ _, F4.m⟩
set_option maxRecDepth 1000000 in
set_option maxHeartbeats 2000000 in
theorem back_f (t : Tm) (ca : List Value) (S : Nat → Prop) (w : World) (hT : TIs w S t ca) (hS : ∀ g, S g → g < w.heap.size) (G : Glob w) (f to : Int) (HR : t.right = true) (hf : inE f = false) : Calls Tryd.prog 46 #[.agg ca.toArray, .int .i64 f, .int .i64 to] w (Res w (backT t f to) (backE t f to)) := by
  have hca := hT.ones
  have FA := (Fm.nil w).argT hT hS
  clear hT hS
  have CK := fun v S h G => check_c t ca S v h G
  rw [show chk t = 0 by rw [chk, HR]; rfl] at CK
  have IF := fun v => isEpoch_c f v
  have IT := fun v => isEpoch_c to v
  have hf' : (decide (1 ≤ f) && decide (f ≤ 8)) = false := hf
  rw [hf'] at IF
  obtain ⟨e1, e2⟩ := back_out (t := t) (f := f) (to := to) (by rw [hf]; simp) HR
  rw [e1, e2]
  clear e1 e2 HR hf hf'
  go_enter Tryd.func46, Tryd.ntmps46
  go_wp2_with (first
    | (with_reducible refine fm_box FA (o := ⟨some 3, .box 24 (.tmp 0), _, _, _, _⟩) rfl 24 (.tmp 0) rfl (ca) rfl ?_; intro b1 w1 F1; clear FA)
    | (with_reducible refine fm_alloc F1 (o := ⟨some 6, .alloc 24, _, _, _, _⟩) rfl 24 rfl _ zero24 ?_; intro b2 w2 F2; clear F1)
    | (with_reducible refine fm_load F2 1 rfl (o := ⟨some 9, .load 24 (.tmp 3), _, _, _, _⟩) rfl (.tmp 3) rfl rfl hca.1 ?_)
    | (go_at_call 32; refine (CK w2 _ (F2.ist (F2.mem 0 rfl)) (F2.glob G)).mono ?_
       rintro e w3 ⟨rfl, m3⟩
       have F3 := F2.call m3
       clear m3 F2)
    | (go_at_call 70; refine (IF w3).mono ?_
       rintro e w4 ⟨rfl, m4⟩
       have F4 := F3.call m4
       clear m4 F3)
    | (with_reducible refine wpList_ran (o := ⟨some 28, .build 24 _, _, _, _, _⟩) rfl (.agg (tmc 0 0 0 ⟨#[]⟩ none 0 0).toArray) (exec_bF rfl) ?_)
    | (with_reducible refine fm_store F4 0 rfl (o := ⟨none, .store 24 (.tmp 6) (.tmp 28), _, _, _, _⟩) rfl (.tmp 6) (.tmp 28) rfl rfl (tmc 0 0 0 ⟨#[]⟩ none 0 0) rfl rfl (tmc_len _ _ _ _ _ _ _) (tmc_len _ _ _ _ _ _ _) (tmc_one _ _ _ _ _ _ _) ?_; intro w5 F5; clear F4))
  refine bodyPost_ret (results_ct rfl _ _ b2 _ (.int .i64 2) rfl rfl (F5.ret 0 rfl) (tmc_len _ _ _ _ _ _ _)) rfl ?_
  exact ⟨_, rfl, nil_tis _ _, F5.m⟩
set_option maxRecDepth 1000000 in
set_option maxHeartbeats 2000000 in
theorem back_t (t : Tm) (ca : List Value) (S : Nat → Prop) (w : World) (hT : TIs w S t ca) (hS : ∀ g, S g → g < w.heap.size) (G : Glob w) (f to : Int) (HR : t.right = true) (hf : inE f = true) (ht : inE to = false) : Calls Tryd.prog 46 #[.agg ca.toArray, .int .i64 f, .int .i64 to] w (Res w (backT t f to) (backE t f to)) := by
  have hca := hT.ones
  have FA := (Fm.nil w).argT hT hS
  clear hT hS
  have CK := fun v S h G => check_c t ca S v h G
  rw [show chk t = 0 by rw [chk, HR]; rfl] at CK
  have IF := fun v => isEpoch_c f v
  have IT := fun v => isEpoch_c to v
  have hf' : (decide (1 ≤ f) && decide (f ≤ 8)) = true := hf
  rw [hf'] at IF
  have ht' : (decide (1 ≤ to) && decide (to ≤ 8)) = false := ht
  rw [ht'] at IT
  obtain ⟨e1, e2⟩ := back_out (t := t) (f := f) (to := to) (by rw [ht]; simp) HR
  rw [e1, e2]
  clear e1 e2 HR hf hf' ht ht'
  go_enter Tryd.func46, Tryd.ntmps46
  go_wp2_with (first
    | (with_reducible refine fm_box FA (o := ⟨some 3, .box 24 (.tmp 0), _, _, _, _⟩) rfl 24 (.tmp 0) rfl (ca) rfl ?_; intro b1 w1 F1; clear FA)
    | (with_reducible refine fm_alloc F1 (o := ⟨some 6, .alloc 24, _, _, _, _⟩) rfl 24 rfl _ zero24 ?_; intro b2 w2 F2; clear F1)
    | (with_reducible refine fm_load F2 1 rfl (o := ⟨some 9, .load 24 (.tmp 3), _, _, _, _⟩) rfl (.tmp 3) rfl rfl hca.1 ?_)
    | (go_at_call 32; refine (CK w2 _ (F2.ist (F2.mem 0 rfl)) (F2.glob G)).mono ?_
       rintro e w3 ⟨rfl, m3⟩
       have F3 := F2.call m3
       clear m3 F2)
    | (go_at_call 70; refine (IF w3).mono ?_
       rintro e w4 ⟨rfl, m4⟩
       have F4 := F3.call m4
       clear m4 F3)
    | (go_at_call 70; refine (IT w4).mono ?_
       rintro e w5 ⟨rfl, m5⟩
       have F5 := F4.call m5
       clear m5 F4)
    | (with_reducible refine wpList_ran (o := ⟨some 28, .build 24 _, _, _, _, _⟩) rfl (.agg (tmc 0 0 0 ⟨#[]⟩ none 0 0).toArray) (exec_bF rfl) ?_)
    | (with_reducible refine fm_store F5 0 rfl (o := ⟨none, .store 24 (.tmp 6) (.tmp 28), _, _, _, _⟩) rfl (.tmp 6) (.tmp 28) rfl rfl (tmc 0 0 0 ⟨#[]⟩ none 0 0) rfl rfl (tmc_len _ _ _ _ _ _ _) (tmc_len _ _ _ _ _ _ _) (tmc_one _ _ _ _ _ _ _) ?_; intro w6 F6; clear F5))
  refine bodyPost_ret (results_ct rfl _ _ b2 _ (.int .i64 2) rfl rfl (F6.ret 0 rfl) (tmc_len _ _ _ _ _ _ _)) rfl ?_
  exact ⟨_, rfl, nil_tis _ _, F6.m⟩
set_option maxRecDepth 1000000 in
set_option maxHeartbeats 2000000 in
theorem back_g (t : Tm) (ca : List Value) (S : Nat → Prop) (w : World) (hT : TIs w S t ca) (hS : ∀ g, S g → g < w.heap.size) (G : Glob w) (f to : Int) (HR : t.right = true) (hf : inE f = true) (ht : inE to = true) (hg : f < to) : Calls Tryd.prog 46 #[.agg ca.toArray, .int .i64 f, .int .i64 to] w (Res w (backT t f to) (backE t f to)) := by
  have hca := hT.ones
  have FA := (Fm.nil w).argT hT hS
  clear hT hS
  have CK := fun v S h G => check_c t ca S v h G
  rw [show chk t = 0 by rw [chk, HR]; rfl] at CK
  have IF := fun v => isEpoch_c f v
  have IT := fun v => isEpoch_c to v
  have hf' : (decide (1 ≤ f) && decide (f ≤ 8)) = true := hf
  rw [hf'] at IF
  have ht' : (decide (1 ≤ to) && decide (to ≤ 8)) = true := ht
  rw [ht'] at IT
  obtain ⟨e1, e2⟩ := back_out (t := t) (f := f) (to := to) (by omega) HR
  rw [e1, e2]
  have hd : decide (f < to) = true := by simpa using hg
  clear e1 e2 HR hf hf' ht ht'
  go_enter Tryd.func46, Tryd.ntmps46
  go_wp2_with (first
    | (with_reducible refine fm_box FA (o := ⟨some 3, .box 24 (.tmp 0), _, _, _, _⟩) rfl 24 (.tmp 0) rfl (ca) rfl ?_; intro b1 w1 F1; clear FA)
    | (with_reducible refine fm_alloc F1 (o := ⟨some 6, .alloc 24, _, _, _, _⟩) rfl 24 rfl _ zero24 ?_; intro b2 w2 F2; clear F1)
    | (with_reducible refine fm_load F2 1 rfl (o := ⟨some 9, .load 24 (.tmp 3), _, _, _, _⟩) rfl (.tmp 3) rfl rfl hca.1 ?_)
    | (go_at_call 32; refine (CK w2 _ (F2.ist (F2.mem 0 rfl)) (F2.glob G)).mono ?_
       rintro e w3 ⟨rfl, m3⟩
       have F3 := F2.call m3
       clear m3 F2)
    | (go_at_call 70; refine (IF w3).mono ?_
       rintro e w4 ⟨rfl, m4⟩
       have F4 := F3.call m4
       clear m4 F3)
    | (go_at_call 70; refine (IT w4).mono ?_
       rintro e w5 ⟨rfl, m5⟩
       have F5 := F4.call m5
       clear m5 F4)
    | (with_reducible refine wpList_ran (o := ⟨some 28, .build 24 _, _, _, _, _⟩) rfl (.agg (tmc 0 0 0 ⟨#[]⟩ none 0 0).toArray) (exec_bF rfl) ?_)
    | (with_reducible refine fm_store F5 0 rfl (o := ⟨none, .store 24 (.tmp 6) (.tmp 28), _, _, _, _⟩) rfl (.tmp 6) (.tmp 28) rfl rfl (tmc 0 0 0 ⟨#[]⟩ none 0 0) rfl rfl (tmc_len _ _ _ _ _ _ _) (tmc_len _ _ _ _ _ _ _) (tmc_one _ _ _ _ _ _ _) ?_; intro w6 F6; clear F5))
  refine bodyPost_ret (results_ct rfl _ _ b2 _ (.int .i64 2) rfl rfl (F6.ret 0 rfl) (tmc_len _ _ _ _ _ _ _)) rfl ?_
  exact ⟨_, rfl, nil_tis _ _, F6.m⟩
set_option maxRecDepth 1000000 in
set_option maxHeartbeats 2000000 in
theorem back_ok (t : Tm) (ca : List Value) (S : Nat → Prop) (w : World) (hT : TIs w S t ca) (hS : ∀ g, S g → g < w.heap.size) (G : Glob w) (f to : Int) (HR : t.right = true) (hf : inE f = true) (ht : inE to = true) (hg : to ≤ f) : Calls Tryd.prog 46 #[.agg ca.toArray, .int .i64 f, .int .i64 to] w (Res w (backT t f to) (backE t f to)) := by
  have hca := hT.ones
  have FA := (Fm.nil w).argT hT hS
  clear hT hS
  have CK := fun v S h G => check_c t ca S v h G
  rw [show chk t = 0 by rw [chk, HR]; rfl] at CK
  have IF := fun v => isEpoch_c f v
  have IT := fun v => isEpoch_c to v
  have hf' : (decide (1 ≤ f) && decide (f ≤ 8)) = true := hf
  rw [hf'] at IF
  have ht' : (decide (1 ≤ to) && decide (to ≤ 8)) = true := ht
  rw [ht'] at IT
  have hd : decide (f < to) = false := by simp; omega
  have r1 := inE_le hf
  have r2 := inE_le ht
  obtain ⟨n, hn⟩ : ∃ n : Nat, (n : Int) = f - to := ⟨(f - to).toNat, by omega⟩
  have WK := fun v S h1 h2 h3 => walked_st n (by omega) t ca S v h1 h2 h3
  rw [hn] at WK
  obtain ⟨e1, e2⟩ := back_in ⟨hf, ht, hg⟩ HR hn
  rw [e1, e2]
  have b1 : 1 ≤ f := r1.1
  have b2 : f ≤ 8 := r1.2
  have b3 : 1 ≤ to := r2.1
  have b4 : to ≤ 8 := r2.2
  clear e1 e2 HR hn r1 r2 hf ht hf' ht'
  go_enter Tryd.func46, Tryd.ntmps46
  go_wp2_with (first
    | (with_reducible refine fm_box FA (o := ⟨some 3, .box 24 (.tmp 0), _, _, _, _⟩) rfl 24 (.tmp 0) rfl (ca) rfl ?_; intro b1 w1 F1; clear FA)
    | (with_reducible refine fm_alloc F1 (o := ⟨some 6, .alloc 24, _, _, _, _⟩) rfl 24 rfl _ zero24 ?_; intro b2 w2 F2; clear F1)
    | (with_reducible refine fm_load F2 1 rfl (o := ⟨some 9, .load 24 (.tmp 3), _, _, _, _⟩) rfl (.tmp 3) rfl rfl hca.1 ?_)
    | (go_at_call 32; refine (CK w2 _ (F2.ist (F2.mem 0 rfl)) (F2.glob G)).mono ?_
       rintro e w3 ⟨rfl, m3⟩
       have F3 := F2.call m3
       clear m3 F2)
    | (go_at_call 70; refine (IF w3).mono ?_
       rintro e w4 ⟨rfl, m4⟩
       have F4 := F3.call m4
       clear m4 F3)
    | (go_at_call 70; refine (IT w4).mono ?_
       rintro e w5 ⟨rfl, m5⟩
       have F5 := F4.call m5
       clear m5 F4)
    | (with_reducible refine fm_load F5 1 rfl (o := ⟨some 29, .load 24 (.tmp 3), _, _, _, _⟩) rfl (.tmp 3) rfl rfl hca.1 ?_)
    | (go_at_call 71; refine (WK w5 _ (F5.ist (F5.mem 0 rfl)) (F5.ltm (F5.mem 0 rfl)) (F5.glob G)).mono ?_
       rintro e w6 ⟨c6, rfl, h6, m6⟩
       have hc6 := h6.ones
       have F6 := F5.made m6 h6
       clear h6 m6
       clear F5)
    | (with_reducible refine fm_store F6 0 rfl (o := ⟨none, .store 24 (.tmp 6) (.tmp 34), _, _, _, _⟩) rfl (.tmp 6) (.tmp 34) rfl rfl (c6) rfl rfl hc6.1 (tmc_len _ _ _ _ _ _ _) hc6.2 ?_; intro w7 F7; clear F6))
  refine bodyPost_ret (results_ct rfl _ _ b2 _ (.int .i64 (chk (iter stA n t))) rfl rfl (F7.ret 0 rfl) hc6.1) rfl ?_
  exact ⟨_, rfl, F7.mt 0 rfl, F7.m⟩
theorem back_c (t : Tm) (ca : List Value) (S : Nat → Prop) (w : World) (hT : TIs w S t ca) (hS : ∀ g, S g → g < w.heap.size) (G : Glob w) (f to : Int) : Calls Tryd.prog 46 #[.agg ca.toArray, .int .i64 f, .int .i64 to] w (Res w (backT t f to) (backE t f to)) := by
  cases HR : t.right with
  | false => exact back_no' t ca S w hT hS G f to HR
  | true =>
  cases hf : inE f with
  | false => exact back_f t ca S w hT hS G f to HR hf
  | true =>
  cases ht : inE to with
  | false => exact back_t t ca S w hT hS G f to HR hf ht
  | true =>
  by_cases hg : to ≤ f
  · exact back_ok t ca S w hT hS G f to HR hf ht hg
  · exact back_g t ca S w hT hS G f to HR hf ht (by omega)
set_option maxRecDepth 1000000 in
set_option maxHeartbeats 1000000 in
theorem state_c (t : Tm) (ca : List Value) (S : Nat → Prop) (w : World) (hT : TIs w S t ca) (hS : ∀ g, S g → g < w.heap.size) (G : Glob w) (to : Int) : Calls Tryd.prog 44 #[.agg ca.toArray, .int .i64 to] w (Res w (backT t 8 to) (backE t 8 to)) := by
  have hca := hT.ones
  have FA := (Fm.nil w).argT hT hS
  clear hT hS
  go_enter Tryd.func44, Tryd.ntmps44
  go_wp2_with (first
    | (with_reducible refine fm_box FA (o := ⟨some 2, .box 24 (.tmp 0), _, _, _, _⟩) rfl 24 (.tmp 0) rfl (ca) rfl ?_; intro b1 w1 F1; clear FA)
    | (with_reducible refine fm_alloc F1 (o := ⟨some 4, .alloc 24, _, _, _, _⟩) rfl 24 rfl _ zero24 ?_; intro b2 w2 F2; clear F1)
    | (with_reducible refine fm_load F2 1 rfl (o := ⟨some 6, .load 24 (.tmp 2), _, _, _, _⟩) rfl (.tmp 2) rfl rfl hca.1 ?_)
    | (go_at_call 46; refine (back_c _ _ _ w2 (F2.ist (F2.mem 0 rfl)) (F2.ltm (F2.mem 0 rfl)) (F2.glob G) 8 to).mono ?_
       rintro e w3 ⟨c3, rfl, h3, m3⟩
       have hc3 := h3.ones
       have F3 := F2.made m3 h3
       clear h3 m3
       clear F2)
    | (with_reducible refine fm_store F3 0 rfl (o := ⟨none, .store 24 (.tmp 4) (.tmp 9), _, _, _, _⟩) rfl (.tmp 4) (.tmp 9) rfl rfl (c3) rfl rfl hc3.1 (tmc_len _ _ _ _ _ _ _) hc3.2 ?_; intro w4 F4; clear F3))
  refine bodyPost_ret (results_ct rfl _ _ b2 _ (.int .i64 (backE t 8 to)) rfl rfl (F4.ret 0 rfl) hc3.1) rfl ?_
  exact ⟨_, rfl, F4.mt 0 rfl, F4.m⟩
end Go.Proofs.YtchanildogjhgaaDoor
