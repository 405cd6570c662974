/-
  do, wakes: what the laws do. My own work.
-/
import Derived.Test.YtaadmpainikfpaaWt
namespace Go.Proofs.Ytaadmpainikfpaa
open Go.RowKit Go.Shelf
attribute [local go_sem] Oper.semAt_some
set_option linter.unusedVariables false
set_option linter.unusedSimpArgs false

theorem size26 : (Try.prog.info? 26).map (·.size) = some 3 := by kernel_rfl
theorem size26' (a b c : Value) : (Try.prog.info? 26).map (·.size) = some ([a, b, c] : List Value).length := size26
set_option maxHeartbeats 4000000 in
theorem do0_p {w : World} {S : Nat → Prop} {p : Pm} {cs : List Value} (h : PIs w S p cs) (hS : ∀ g, S g → g < w.heap.size) (z y x : Int) (hk : Hid (z.emod 6 = 0)) : Calls Try.prog 9 #[.agg cs.toArray, .agg #[ci z, ci y, ci x]] w (ResR (chg 0 p y x) w) := by
  have h5 := h.len
  have FA := (Fm.nil w).arg (tP S p cs) (keeps_tP _ _ _) h hS
  have CH : Hid (∀ (w4 : World) os, Fm w w4 os [tP S p cs] → Calls Try.prog 22 #[.agg cs.toArray, ci y, ci x, .bool false] w4 (ResR (chg 0 p y x) w4)) := Lib.hid fun w4 os F3 => by
    have hh := share_p (F3.s 0 rfl : PIs w4 S p cs) (F3.slt 0 rfl) y x false
    simpa [chg] using hh
  obtain ⟨r, hr⟩ : ∃ r, chg 0 p y x = r := ⟨_, rfl⟩
  rw [hr] at CH ⊢
  clear h hr
  go_enter Try.func9, Try.ntmps9
  go_wp2_with (first
    | (with_reducible refine fm_box FA (o := ⟨some 2, .box 24 (.tmp 0), _, _, _, _⟩) rfl 24 (.tmp 0) rfl cs rfl ?_; intro b2 w1 F1; clear FA)
    | (with_reducible refine fm_box F1 (o := ⟨some 3, .box 26 (.tmp 1), _, _, _, _⟩) rfl 26 (.tmp 1) rfl [ci z, ci y, ci x] rfl ?_; intro b3 w2 F2; clear F1)
    | (with_reducible refine fm_alloc F2 (o := ⟨some 4, .alloc 24, _, _, _, _⟩) rfl 24 rfl _ zero24 ?_; intro b4 w3 F3; clear F2)
    | (with_reducible refine wpList_loads (o := ⟨some 7, .load 26 (.tmp 3), _, _, _, _⟩) rfl 26 (.tmp 3) rfl b3 0 [ci z, ci y, ci x] rfl (Cells.of_holds (F3.blk 1 rfl)) _ Try.underlying26 rfl (size26' _ _ _) _ rfl ?_)
    | (go_at_call 12; refine (kind_c z y x 0 hk w3).mono ?_
       rintro e w4 ⟨rfl, m4⟩
       have F4 := F3.call m4
       have k1 : w4.cell? ⟨b3, 1, none⟩ = some (ci y) := F4.cellO 1 rfl 1 rfl
       have k2 : w4.cell? ⟨b3, 2, none⟩ = some (ci x) := F4.cellO 1 rfl 2 rfl
       clear F3 m4)
    | (with_reducible refine fm_load F4 2 rfl (o := ⟨some 13, .load 24 (.tmp 2), _, _, _, _⟩) rfl (.tmp 2) rfl rfl h5 ?_)
    | (go_at_call 22; refine (CH.out w4 _ F4).mono ?_
       rintro e w6 ⟨cs6, rfl, hP6, m6⟩
       have F6 := F4.tell hP6 m6
       have h65 := hP6.len
       have h61 := hP6.one
       have hlo := F4.m.size
       clear F4 m6 hP6 CH k1 k2)
    | (with_reducible refine fm_store F6 0 rfl (o := ⟨none, .store 24 (.tmp 4) (.tmp 21), _, _, _, _⟩) rfl (.tmp 4) (.tmp 21) rfl rfl cs6 rfl rfl h65 rfl h61 ?_; intro w7 F7; clear F6))
  refine bodyPost_ret (results_ct rfl _ _ b4 _ (.int .i64 r.1) rfl rfl (F7.ret 0 rfl) h65) rfl ?_
  exact ⟨cs6, rfl, F7.ends fun g hg => Nat.le_trans hlo hg.1, F7.m⟩
set_option maxHeartbeats 4000000 in
theorem do1_p {w : World} {S : Nat → Prop} {p : Pm} {cs : List Value} (h : PIs w S p cs) (hS : ∀ g, S g → g < w.heap.size) (z y x : Int) (hk : Hid (z.emod 6 = 1)) : Calls Try.prog 9 #[.agg cs.toArray, .agg #[ci z, ci y, ci x]] w (ResR (chg 1 p y x) w) := by
  have h5 := h.len
  have FA := (Fm.nil w).arg (tP S p cs) (keeps_tP _ _ _) h hS
  have CH : Hid (∀ (w4 : World) os, Fm w w4 os [tP S p cs] → Calls Try.prog 22 #[.agg cs.toArray, ci y, ci x, .bool true] w4 (ResR (chg 1 p y x) w4)) := Lib.hid fun w4 os F3 => by
    have hh := share_p (F3.s 0 rfl : PIs w4 S p cs) (F3.slt 0 rfl) y x true
    simpa [chg] using hh
  obtain ⟨r, hr⟩ : ∃ r, chg 1 p y x = r := ⟨_, rfl⟩
  rw [hr] at CH ⊢
  clear h hr
  go_enter Try.func9, Try.ntmps9
  go_wp2_with (first
    | (with_reducible refine fm_box FA (o := ⟨some 2, .box 24 (.tmp 0), _, _, _, _⟩) rfl 24 (.tmp 0) rfl cs rfl ?_; intro b2 w1 F1; clear FA)
    | (with_reducible refine fm_box F1 (o := ⟨some 3, .box 26 (.tmp 1), _, _, _, _⟩) rfl 26 (.tmp 1) rfl [ci z, ci y, ci x] rfl ?_; intro b3 w2 F2; clear F1)
    | (with_reducible refine fm_alloc F2 (o := ⟨some 4, .alloc 24, _, _, _, _⟩) rfl 24 rfl _ zero24 ?_; intro b4 w3 F3; clear F2)
    | (with_reducible refine wpList_loads (o := ⟨some 7, .load 26 (.tmp 3), _, _, _, _⟩) rfl 26 (.tmp 3) rfl b3 0 [ci z, ci y, ci x] rfl (Cells.of_holds (F3.blk 1 rfl)) _ Try.underlying26 rfl (size26' _ _ _) _ rfl ?_)
    | (go_at_call 12; refine (kind_c z y x 1 hk w3).mono ?_
       rintro e w4 ⟨rfl, m4⟩
       have F4 := F3.call m4
       have k1 : w4.cell? ⟨b3, 1, none⟩ = some (ci y) := F4.cellO 1 rfl 1 rfl
       have k2 : w4.cell? ⟨b3, 2, none⟩ = some (ci x) := F4.cellO 1 rfl 2 rfl
       clear F3 m4)
    | (with_reducible refine fm_load F4 2 rfl (o := ⟨some 13, .load 24 (.tmp 2), _, _, _, _⟩) rfl (.tmp 2) rfl rfl h5 ?_)
    | (go_at_call 22; refine (CH.out w4 _ F4).mono ?_
       rintro e w6 ⟨cs6, rfl, hP6, m6⟩
       have F6 := F4.tell hP6 m6
       have h65 := hP6.len
       have h61 := hP6.one
       have hlo := F4.m.size
       clear F4 m6 hP6 CH k1 k2)
    | (with_reducible refine fm_store F6 0 rfl (o := ⟨none, .store 24 (.tmp 4) (.tmp 21), _, _, _, _⟩) rfl (.tmp 4) (.tmp 21) rfl rfl cs6 rfl rfl h65 rfl h61 ?_; intro w7 F7; clear F6))
  refine bodyPost_ret (results_ct rfl _ _ b4 _ (.int .i64 r.1) rfl rfl (F7.ret 0 rfl) h65) rfl ?_
  exact ⟨cs6, rfl, F7.ends fun g hg => Nat.le_trans hlo hg.1, F7.m⟩
set_option maxHeartbeats 4000000 in
theorem do2_p {w : World} {S : Nat → Prop} {p : Pm} {cs : List Value} (h : PIs w S p cs) (hS : ∀ g, S g → g < w.heap.size) (z y x : Int) (hk : Hid (z.emod 6 = 2)) : Calls Try.prog 9 #[.agg cs.toArray, .agg #[ci z, ci y, ci x]] w (ResR (chg 2 p y x) w) := by
  have h5 := h.len
  have FA := (Fm.nil w).arg (tP S p cs) (keeps_tP _ _ _) h hS
  have CH : Hid (∀ (w4 : World) os, Fm w w4 os [tP S p cs] → Calls Try.prog 23 #[.agg cs.toArray, ci y, ci x] w4 (ResR (chg 2 p y x) w4)) := Lib.hid fun w4 os F3 => by
    have hh := back_p (F3.s 0 rfl : PIs w4 S p cs) (F3.slt 0 rfl) y x
    simpa [chg] using hh
  obtain ⟨r, hr⟩ : ∃ r, chg 2 p y x = r := ⟨_, rfl⟩
  rw [hr] at CH ⊢
  clear h hr
  go_enter Try.func9, Try.ntmps9
  go_wp2_with (first
    | (with_reducible refine fm_box FA (o := ⟨some 2, .box 24 (.tmp 0), _, _, _, _⟩) rfl 24 (.tmp 0) rfl cs rfl ?_; intro b2 w1 F1; clear FA)
    | (with_reducible refine fm_box F1 (o := ⟨some 3, .box 26 (.tmp 1), _, _, _, _⟩) rfl 26 (.tmp 1) rfl [ci z, ci y, ci x] rfl ?_; intro b3 w2 F2; clear F1)
    | (with_reducible refine fm_alloc F2 (o := ⟨some 4, .alloc 24, _, _, _, _⟩) rfl 24 rfl _ zero24 ?_; intro b4 w3 F3; clear F2)
    | (with_reducible refine wpList_loads (o := ⟨some 7, .load 26 (.tmp 3), _, _, _, _⟩) rfl 26 (.tmp 3) rfl b3 0 [ci z, ci y, ci x] rfl (Cells.of_holds (F3.blk 1 rfl)) _ Try.underlying26 rfl (size26' _ _ _) _ rfl ?_)
    | (go_at_call 12; refine (kind_c z y x 2 hk w3).mono ?_
       rintro e w4 ⟨rfl, m4⟩
       have F4 := F3.call m4
       have k1 : w4.cell? ⟨b3, 1, none⟩ = some (ci y) := F4.cellO 1 rfl 1 rfl
       have k2 : w4.cell? ⟨b3, 2, none⟩ = some (ci x) := F4.cellO 1 rfl 2 rfl
       clear F3 m4)
    | (with_reducible refine fm_load F4 2 rfl (o := ⟨some 25, .load 24 (.tmp 2), _, _, _, _⟩) rfl (.tmp 2) rfl rfl h5 ?_)
    | (go_at_call 23; refine (CH.out w4 _ F4).mono ?_
       rintro e w6 ⟨cs6, rfl, hP6, m6⟩
       have F6 := F4.tell hP6 m6
       have h65 := hP6.len
       have h61 := hP6.one
       have hlo := F4.m.size
       clear F4 m6 hP6 CH k1 k2)
    | (with_reducible refine fm_store F6 0 rfl (o := ⟨none, .store 24 (.tmp 4) (.tmp 31), _, _, _, _⟩) rfl (.tmp 4) (.tmp 31) rfl rfl cs6 rfl rfl h65 rfl h61 ?_; intro w7 F7; clear F6))
  refine bodyPost_ret (results_ct rfl _ _ b4 _ (.int .i64 r.1) rfl rfl (F7.ret 0 rfl) h65) rfl ?_
  exact ⟨cs6, rfl, F7.ends fun g hg => Nat.le_trans hlo hg.1, F7.m⟩
set_option maxHeartbeats 4000000 in
theorem do3_p {w : World} {S : Nat → Prop} {p : Pm} {cs : List Value} (h : PIs w S p cs) (hS : ∀ g, S g → g < w.heap.size) (z y x : Int) (hk : Hid (z.emod 6 = 3)) : Calls Try.prog 9 #[.agg cs.toArray, .agg #[ci z, ci y, ci x]] w (ResR (chg 3 p y x) w) := by
  have h5 := h.len
  have FA := (Fm.nil w).arg (tP S p cs) (keeps_tP _ _ _) h hS
  have CH : Hid (∀ (w4 : World) os, Fm w w4 os [tP S p cs] → Calls Try.prog 24 #[.agg cs.toArray, ci y, ci x] w4 (ResR (chg 3 p y x) w4)) := Lib.hid fun w4 os F3 => by
    have hh := shareG_p (F3.s 0 rfl : PIs w4 S p cs) (F3.slt 0 rfl) y x
    simpa [chg] using hh
  obtain ⟨r, hr⟩ : ∃ r, chg 3 p y x = r := ⟨_, rfl⟩
  rw [hr] at CH ⊢
  clear h hr
  go_enter Try.func9, Try.ntmps9
  go_wp2_with (first
    | (with_reducible refine fm_box FA (o := ⟨some 2, .box 24 (.tmp 0), _, _, _, _⟩) rfl 24 (.tmp 0) rfl cs rfl ?_; intro b2 w1 F1; clear FA)
    | (with_reducible refine fm_box F1 (o := ⟨some 3, .box 26 (.tmp 1), _, _, _, _⟩) rfl 26 (.tmp 1) rfl [ci z, ci y, ci x] rfl ?_; intro b3 w2 F2; clear F1)
    | (with_reducible refine fm_alloc F2 (o := ⟨some 4, .alloc 24, _, _, _, _⟩) rfl 24 rfl _ zero24 ?_; intro b4 w3 F3; clear F2)
    | (with_reducible refine wpList_loads (o := ⟨some 7, .load 26 (.tmp 3), _, _, _, _⟩) rfl 26 (.tmp 3) rfl b3 0 [ci z, ci y, ci x] rfl (Cells.of_holds (F3.blk 1 rfl)) _ Try.underlying26 rfl (size26' _ _ _) _ rfl ?_)
    | (go_at_call 12; refine (kind_c z y x 3 hk w3).mono ?_
       rintro e w4 ⟨rfl, m4⟩
       have F4 := F3.call m4
       have k1 : w4.cell? ⟨b3, 1, none⟩ = some (ci y) := F4.cellO 1 rfl 1 rfl
       have k2 : w4.cell? ⟨b3, 2, none⟩ = some (ci x) := F4.cellO 1 rfl 2 rfl
       clear F3 m4)
    | (with_reducible refine fm_load F4 2 rfl (o := ⟨some 35, .load 24 (.tmp 2), _, _, _, _⟩) rfl (.tmp 2) rfl rfl h5 ?_)
    | (go_at_call 24; refine (CH.out w4 _ F4).mono ?_
       rintro e w6 ⟨cs6, rfl, hP6, m6⟩
       have F6 := F4.tell hP6 m6
       have h65 := hP6.len
       have h61 := hP6.one
       have hlo := F4.m.size
       clear F4 m6 hP6 CH k1 k2)
    | (with_reducible refine fm_store F6 0 rfl (o := ⟨none, .store 24 (.tmp 4) (.tmp 41), _, _, _, _⟩) rfl (.tmp 4) (.tmp 41) rfl rfl cs6 rfl rfl h65 rfl h61 ?_; intro w7 F7; clear F6))
  refine bodyPost_ret (results_ct rfl _ _ b4 _ (.int .i64 r.1) rfl rfl (F7.ret 0 rfl) h65) rfl ?_
  exact ⟨cs6, rfl, F7.ends fun g hg => Nat.le_trans hlo hg.1, F7.m⟩
set_option maxHeartbeats 4000000 in
theorem do4_p {w : World} {S : Nat → Prop} {p : Pm} {cs : List Value} (h : PIs w S p cs) (hS : ∀ g, S g → g < w.heap.size) (z y x : Int) (hk : Hid (z.emod 6 = 4)) : Calls Try.prog 9 #[.agg cs.toArray, .agg #[ci z, ci y, ci x]] w (ResR (chg 4 p y x) w) := by
  have h5 := h.len
  have FA := (Fm.nil w).arg (tP S p cs) (keeps_tP _ _ _) h hS
  have CH : Hid (∀ (w4 : World) os, Fm w w4 os [tP S p cs] → Calls Try.prog 25 #[.agg cs.toArray, ci y, ci x] w4 (ResR (chg 4 p y x) w4)) := Lib.hid fun w4 os F3 => by
    have hh := backG_p (F3.s 0 rfl : PIs w4 S p cs) (F3.slt 0 rfl) y x
    simpa [chg] using hh
  obtain ⟨r, hr⟩ : ∃ r, chg 4 p y x = r := ⟨_, rfl⟩
  rw [hr] at CH ⊢
  clear h hr
  go_enter Try.func9, Try.ntmps9
  go_wp2_with (first
    | (with_reducible refine fm_box FA (o := ⟨some 2, .box 24 (.tmp 0), _, _, _, _⟩) rfl 24 (.tmp 0) rfl cs rfl ?_; intro b2 w1 F1; clear FA)
    | (with_reducible refine fm_box F1 (o := ⟨some 3, .box 26 (.tmp 1), _, _, _, _⟩) rfl 26 (.tmp 1) rfl [ci z, ci y, ci x] rfl ?_; intro b3 w2 F2; clear F1)
    | (with_reducible refine fm_alloc F2 (o := ⟨some 4, .alloc 24, _, _, _, _⟩) rfl 24 rfl _ zero24 ?_; intro b4 w3 F3; clear F2)
    | (with_reducible refine wpList_loads (o := ⟨some 7, .load 26 (.tmp 3), _, _, _, _⟩) rfl 26 (.tmp 3) rfl b3 0 [ci z, ci y, ci x] rfl (Cells.of_holds (F3.blk 1 rfl)) _ Try.underlying26 rfl (size26' _ _ _) _ rfl ?_)
    | (go_at_call 12; refine (kind_c z y x 4 hk w3).mono ?_
       rintro e w4 ⟨rfl, m4⟩
       have F4 := F3.call m4
       have k1 : w4.cell? ⟨b3, 1, none⟩ = some (ci y) := F4.cellO 1 rfl 1 rfl
       have k2 : w4.cell? ⟨b3, 2, none⟩ = some (ci x) := F4.cellO 1 rfl 2 rfl
       clear F3 m4)
    | (with_reducible refine fm_load F4 2 rfl (o := ⟨some 45, .load 24 (.tmp 2), _, _, _, _⟩) rfl (.tmp 2) rfl rfl h5 ?_)
    | (go_at_call 25; refine (CH.out w4 _ F4).mono ?_
       rintro e w6 ⟨cs6, rfl, hP6, m6⟩
       have F6 := F4.tell hP6 m6
       have h65 := hP6.len
       have h61 := hP6.one
       have hlo := F4.m.size
       clear F4 m6 hP6 CH k1 k2)
    | (with_reducible refine fm_store F6 0 rfl (o := ⟨none, .store 24 (.tmp 4) (.tmp 51), _, _, _, _⟩) rfl (.tmp 4) (.tmp 51) rfl rfl cs6 rfl rfl h65 rfl h61 ?_; intro w7 F7; clear F6))
  refine bodyPost_ret (results_ct rfl _ _ b4 _ (.int .i64 r.1) rfl rfl (F7.ret 0 rfl) h65) rfl ?_
  exact ⟨cs6, rfl, F7.ends fun g hg => Nat.le_trans hlo hg.1, F7.m⟩
set_option maxHeartbeats 4000000 in
theorem do5_p {w : World} {S : Nat → Prop} {p : Pm} {cs : List Value} (h : PIs w S p cs) (hS : ∀ g, S g → g < w.heap.size) (z y x : Int) (hk : Hid (z.emod 6 = 5)) : Calls Try.prog 9 #[.agg cs.toArray, .agg #[ci z, ci y, ci x]] w (ResR (chg 5 p y x) w) := by
  have h5 := h.len
  have FA := (Fm.nil w).arg (tP S p cs) (keeps_tP _ _ _) h hS
  have CH : Hid (∀ (w4 : World) os, Fm w w4 os [tP S p cs] → Calls Try.prog 26 #[.agg cs.toArray] w4 (ResR (chg 5 p y x) w4)) := Lib.hid fun w4 os F3 => by
    have hh := next_p (F3.s 0 rfl : PIs w4 S p cs) (F3.slt 0 rfl)
    simpa [chg] using hh
  obtain ⟨r, hr⟩ : ∃ r, chg 5 p y x = r := ⟨_, rfl⟩
  rw [hr] at CH ⊢
  clear h hr
  go_enter Try.func9, Try.ntmps9
  go_wp2_with (first
    | (with_reducible refine fm_box FA (o := ⟨some 2, .box 24 (.tmp 0), _, _, _, _⟩) rfl 24 (.tmp 0) rfl cs rfl ?_; intro b2 w1 F1; clear FA)
    | (with_reducible refine fm_box F1 (o := ⟨some 3, .box 26 (.tmp 1), _, _, _, _⟩) rfl 26 (.tmp 1) rfl [ci z, ci y, ci x] rfl ?_; intro b3 w2 F2; clear F1)
    | (with_reducible refine fm_alloc F2 (o := ⟨some 4, .alloc 24, _, _, _, _⟩) rfl 24 rfl _ zero24 ?_; intro b4 w3 F3; clear F2)
    | (with_reducible refine wpList_loads (o := ⟨some 7, .load 26 (.tmp 3), _, _, _, _⟩) rfl 26 (.tmp 3) rfl b3 0 [ci z, ci y, ci x] rfl (Cells.of_holds (F3.blk 1 rfl)) _ Try.underlying26 rfl (size26' _ _ _) _ rfl ?_)
    | (go_at_call 12; refine (kind_c z y x 5 hk w3).mono ?_
       rintro e w4 ⟨rfl, m4⟩
       have F4 := F3.call m4
       have k1 : w4.cell? ⟨b3, 1, none⟩ = some (ci y) := F4.cellO 1 rfl 1 rfl
       have k2 : w4.cell? ⟨b3, 2, none⟩ = some (ci x) := F4.cellO 1 rfl 2 rfl
       clear F3 m4)
    | (with_reducible refine fm_load F4 2 rfl (o := ⟨some 53, .load 24 (.tmp 2), _, _, _, _⟩) rfl (.tmp 2) rfl rfl h5 ?_)
    | (go_at_call 26; refine (CH.out w4 _ F4).mono ?_
       rintro e w6 ⟨cs6, rfl, hP6, m6⟩
       have F6 := F4.tell hP6 m6
       have h65 := hP6.len
       have h61 := hP6.one
       have hlo := F4.m.size
       clear F4 m6 hP6 CH k1 k2)
    | (with_reducible refine fm_store F6 0 rfl (o := ⟨none, .store 24 (.tmp 4) (.tmp 55), _, _, _, _⟩) rfl (.tmp 4) (.tmp 55) rfl rfl cs6 rfl rfl h65 rfl h61 ?_; intro w7 F7; clear F6))
  refine bodyPost_ret (results_ct rfl _ _ b4 _ (.int .i64 r.1) rfl rfl (F7.ret 0 rfl) h65) rfl ?_
  exact ⟨cs6, rfl, F7.ends fun g hg => Nat.le_trans hlo hg.1, F7.m⟩
/-- do. -/
theorem do_p {w : World} {S : Nat → Prop} {p : Pm} {cs : List Value} (h : PIs w S p cs) (hS : ∀ g, S g → g < w.heap.size) (z y x k : Int) (hk : Hid (z.emod 6 = k)) : Calls Try.prog 9 #[.agg cs.toArray, .agg #[ci z, ci y, ci x]] w (ResR (chg k p y x) w) := by
  have h0 := Int.emod_nonneg z (show (6 : Int) ≠ 0 by omega)
  have h6 := Int.emod_lt_of_pos z (show (0 : Int) < 6 by omega)
  have hk2 : z % 6 = k := hk.out
  rw [hk2] at h0 h6
  obtain rfl | rfl | rfl | rfl | rfl | rfl : k = 0 ∨ k = 1 ∨ k = 2 ∨ k = 3 ∨ k = 4 ∨ k = 5 := by omega
  · exact do0_p h hS z y x hk
  · exact do1_p h hS z y x hk
  · exact do2_p h hS z y x hk
  · exact do3_p h hS z y x hk
  · exact do4_p h hS z y x hk
  · exact do5_p h hS z y x hk
/-- Change: the document's. -/
theorem rchange_p {w : World} {S : Nat → Prop} {p : Pm} {cs : List Value} (h : PIs w S p cs) (hS : ∀ g, S g → g < w.heap.size) (k y x : Int) (h0 : 0 ≤ k) (h6 : k < 6) : Calls Try.prog 11 #[.agg cs.toArray, ci k, ci y, ci x] w (ResS S (chg k p y x) w) := by
  obtain rfl | rfl | rfl | rfl | rfl | rfl : k = 0 ∨ k = 1 ∨ k = 2 ∨ k = 3 ∨ k = 4 ∨ k = 5 := by omega
  · exact rchange0_p h hS y x
  · exact rchange1_p h hS y x
  · exact rchange2_p h hS y x
  · exact rchange3_p h hS y x
  · exact rchange4_p h hS y x
  · exact rchange5_p h hS y x
def pmA : Pm := ⟨1, 1, [], [], []⟩
def pmB : Pm := ⟨1, 1, [3], [3], []⟩
def pmC : Pm := ⟨1, 2, [], [], []⟩
set_option maxHeartbeats 4000000 in
theorem wakes_c (w : World) : Calls Try.prog 7 #[] w fun e w' => e = .returned (.bool true) ∧ Mod [] w w' := by
  have n1 : newR 1 = (0, pmA) := rfl
  have n2 : byOwner pmA 1 (pmA.other 3) (shared pmA 3 true) = (0, pmB) := rfl
  have n3 : byOwner pmB 1 (pmB.other 3) (backed pmB 3) = (0, pmC) := rfl
  have B3 : Hid (pmB.mayW 3 = true) := Lib.hid (by decide)
  have C3 : Hid (pmC.mayW 3 = false) := Lib.hid (by decide)
  have FA := Fm.nil w
  have C1 : ∀ v, Calls Try.prog 14 #[ci 1] v (ResR (0, pmA) v) := fun v => by have := new_c 1 v; rwa [n1] at this
  have C2 : ∀ {v : World} {S : Nat → Prop} {cs : List Value}, PIs v S pmA cs → (∀ g, S g → g < v.heap.size) → Calls Try.prog 22 #[.agg cs.toArray, ci 1, ci 3, .bool true] v (ResR (0, pmB) v) := fun h hS => by have := share_p h hS 1 3 true; rwa [n2] at this
  have C4 : ∀ {v : World} {S : Nat → Prop} {cs : List Value}, PIs v S pmB cs → (∀ g, S g → g < v.heap.size) → Calls Try.prog 23 #[.agg cs.toArray, ci 1, ci 3] v (ResR (0, pmC) v) := fun h hS => by have := back_p h hS 1 3; rwa [n3] at this
  have C1 := Lib.hid C1
  have C2' : Hid (∀ (v : World) (S : Nat → Prop) (cs : List Value), PIs v S pmA cs → (∀ g, S g → g < v.heap.size) → Calls Try.prog 22 #[.agg cs.toArray, ci 1, ci 3, .bool true] v (ResR (0, pmB) v)) := Lib.hid fun _ _ _ h hS => C2 h hS
  have C4' : Hid (∀ (v : World) (S : Nat → Prop) (cs : List Value), PIs v S pmB cs → (∀ g, S g → g < v.heap.size) → Calls Try.prog 23 #[.agg cs.toArray, ci 1, ci 3] v (ResR (0, pmC) v)) := Lib.hid fun _ _ _ h hS => C4 h hS
  clear n1 n2 n3 C2 C4
  go_enter Try.func7, Try.ntmps7
  go_wp2_with (first
    | (go_at_call 14; refine (C1.out w).mono ?_
       rintro e w1 ⟨cs1, rfl, hP1, m1⟩
       have F1 := FA.tell hP1 m1
       have h15 := hP1.len
       have h11 := hP1.one
       clear FA m1 hP1)
    | (with_reducible refine fm_alloc F1 (o := ⟨some 1, .alloc 24, _, _, _, _⟩) rfl 24 rfl _ zero24 ?_; intro b1 w2 F2; clear F1)
    | (with_reducible refine fm_store F2 0 rfl (o := ⟨none, .store 24 (.tmp 1) (.tmp 8), _, _, _, _⟩) rfl (.tmp 1) (.tmp 8) rfl rfl cs1 rfl rfl h15 rfl h11 ?_; intro w3 F3; clear F2)
    | (with_reducible refine fm_load F3 0 rfl (o := ⟨some 11, .load 24 (.tmp 1), _, _, _, _⟩) rfl (.tmp 1) rfl rfl h15 ?_)
    | (go_at_call 22; refine (C2'.out w3 _ _ (F3.s 0 rfl) (F3.slt 0 rfl)).mono ?_
       rintro e w4 ⟨cs4, rfl, hP4, m4⟩
       have F4 := F3.tell hP4 m4
       have h45 := hP4.len
       have h41 := hP4.one
       clear F3 m4 hP4)
    | (with_reducible refine fm_store F4 0 rfl (o := ⟨none, .store 24 (.tmp 1) (.tmp 13), _, _, _, _⟩) rfl (.tmp 1) (.tmp 13) rfl rfl cs4 rfl rfl h45 h15 h41 ?_; intro w5 F5; clear F4)
    | (with_reducible refine fm_load F5 0 rfl (o := ⟨some 16, .load 24 (.tmp 1), _, _, _, _⟩) rfl (.tmp 1) rfl rfl h45 ?_)
    | (go_at_call 23; refine (C4'.out w5 _ _ (F5.s 0 rfl) (F5.slt 0 rfl)).mono ?_
       rintro e w6 ⟨cs6, rfl, hP6, m6⟩
       have F6 := F5.tell hP6 m6
       obtain ⟨A1, c1, A2, c2, A3, c3, hcs6, _⟩ := hP6
       subst hcs6
       clear F5 m6)
    | (with_reducible refine fm_alloc F6 (o := ⟨some 4, .alloc 24, _, _, _, _⟩) rfl 24 rfl _ zero24 ?_; intro b4 w7 F7; clear F6)
    | (with_reducible refine fm_store F7 0 rfl (o := ⟨none, .store 24 (.tmp 4) (.tmp 18), _, _, _, _⟩) rfl (.tmp 4) (.tmp 18) rfl rfl (pmc pmC A1 c1 A2 c2 A3 c3) rfl rfl rfl rfl (ones5 _ _ _ _ _ _ _ _ _ _ _) ?_; intro w8 F8; clear F7)
    | (with_reducible refine fm_loadG F8 1 rfl (o := ⟨some 31, .load 24 (.tmp 1), _, _, _, _⟩) (by with_unfolding_all rfl) (.tmp 1) rfl rfl h45 ?_)
    | (go_at_call 18; with_reducible refine (mayW_p (F8.s 1 rfl : PIs w8 _ pmB cs4) (F8.slt 1 rfl) 3 _ B3).mono ?_
       rintro e w9 ⟨rfl, m9⟩
       have F9 := F8.call m9
       clear F8 m9)
    | (with_reducible refine fm_loadG F9 0 rfl (o := ⟨some 35, .load 24 (.tmp 4), _, _, _, _⟩) (by with_unfolding_all rfl) (.tmp 4) rfl rfl rfl ?_)
    | (go_at_call 18; with_reducible refine (mayW_p (F9.s 0 rfl : PIs w9 _ pmC (pmc pmC A1 c1 A2 c2 A3 c3)) (F9.slt 0 rfl) 3 _ C3).mono ?_
       rintro e w10 ⟨rfl, m10⟩
       have F10 := F9.call m10
       have kk : w10.cell? ⟨b4, 1, none⟩ = some (ci 2) := F10.cellO 0 rfl 1 rfl
       clear F9 m10))
  go_ret
  exact ⟨rfl, F10.m⟩
end Go.Proofs.Ytaadmpainikfpaa
