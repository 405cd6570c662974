/-
  size: how many terms a term is. My own work.
-/
import Derived.Test.YtchanildogjhgaaDoorA3
import Derived.Test.YtchanildogjhgaaDoorA1
namespace Go.Proofs.YtchanildogjhgaaDoor
open Go.RowKit Go.Shelf
set_option linter.unusedVariables false
/-- What size does with the terms of a depth. -/
def SizeAll (m : Nat) : Prop := ∀ (t : Tm) (cs : List Value) (S : Nat → Prop) (deep room : Int) (w : World), t.depth ≤ m → TIs w S t cs → Glob w → 0 ≤ deep → deep ≤ 61 → 0 ≤ room → room ≤ 1200 →
  Calls Tryd.prog 74 #[.agg cs.toArray, .int .i64 deep, .int .i64 room] w fun e w' => e = .returned (.int .i64 (t.sz deep room)) ∧ Mod [] w w'
/-- What a fold over the Kids has, j of them done. -/
def SzPre (l : List Tm) (j : Nat) (deep q : Int) : Prop := Tm.okAll (l.take j) = true ∧ deep + Tm.depthAll (l.take j) ≤ 60 ∧ q = 1 + (Tm.countAll (l.take j) : Int)
theorem szPre_0 (l : List Tm) (deep : Int) (d : deep ≤ 60) : SzPre l 0 deep 1 := ⟨rfl, by simpa [Tm.depthAll] using d, rfl⟩
theorem szPre_end {l : List Tm} {deep q room : Int} (h : SzPre l l.length deep q) (hq : q ≤ room) : (if Tm.okAll l = true ∧ deep + Tm.depthAll l ≤ 60 ∧ 1 + (Tm.countAll l : Int) ≤ room then 1 + (Tm.countAll l : Int) else 0) = q := by
  obtain ⟨h1, h2, h3⟩ := h
  rw [List.take_length] at h1 h2 h3
  rw [if_pos ⟨h1, h2, by omega⟩, h3]
theorem take_next' (l : List Tm) (j : Nat) (hj : j < l.length) : l.take (j + 1) = l.take j ++ [l[j]] := by rw [List.take_succ_eq_append_getElem hj]
theorem countAll_take (l : List Tm) (j : Nat) (hj : j < l.length) : Tm.countAll (l.take j) + l[j].count ≤ Tm.countAll l := by
  have h := congrArg Tm.countAll (List.take_append_drop (j + 1) l)
  rw [Tm.countAll_append, take_next' l j hj, Tm.countAll_append] at h
  simp only [Tm.countAll] at h
  omega
theorem szPre_stop {l : List Tm} {j : Nat} {deep q room : Int} (h : SzPre l j deep q) (hj : j < l.length) (hr : Tm.sz l[j] (deep + 1) (room - q) = 0) :
    (if Tm.okAll l = true ∧ deep + Tm.depthAll l ≤ 60 ∧ 1 + (Tm.countAll l : Int) ≤ room then 1 + (Tm.countAll l : Int) else 0) = 0 := by
  refine if_neg ?_
  rintro ⟨a, b, c⟩
  have h1 := Tm.mem_depth (List.getElem_mem hj)
  have h2 := countAll_take l j hj
  have h3 := h.2.2
  exact Tm.sz_zero hr ⟨Tm.mem_ok (List.getElem_mem hj) a, by omega, by omega⟩
theorem szPre_next {l : List Tm} {j : Nat} {deep q room r : Int} (h : SzPre l j deep q) (hj : j < l.length) (hq : q ≤ room) (hr : r = Tm.sz l[j] (deep + 1) (room - q)) (h0 : ¬ r = 0) :
    SzPre l (j + 1) deep (q + r) ∧ 0 ≤ r ∧ q + r ≤ room := by
  obtain ⟨a, b, c, d⟩ := Tm.sz_pos (hr ▸ h0)
  obtain ⟨h1, h2, h3⟩ := h
  rw [← hr] at d
  refine ⟨⟨?_, ?_, ?_⟩, by omega, by omega⟩
  · rw [take_next' l j hj, Tm.okAll_append, h1]
    simp [Tm.okAll, a]
  · rw [take_next' l j hj, Tm.depthAll_append]
    simp only [Tm.depthAll]
    omega
  · rw [take_next' l j hj, Tm.countAll_append]
    simp only [Tm.countAll]
    omega
set_option maxRecDepth 1000000 in
set_option maxHeartbeats 4000000 in
theorem size_1 (k u n : Int) (s : ByteArray) (A : Option Addr) (len c : Nat) (deep room : Int) (w : World) (G : Glob w) (h1 : (flds k == 0) = true) :
    Calls Tryd.prog 74 #[.agg (tmc k u n s A len c).toArray, .int .i64 deep, .int .i64 room] w fun e w' => e = .returned (.int .i64 0) ∧ Mod [] w w' := by
  have MH := fun v => mayHave_c k u n s A len c v
  have KC := fun v => kids_c k v
  have FC := fun v (g : Glob v) => fieldsOf_c k v g
  obtain ⟨F, hF⟩ : ∃ F, F = flds k := ⟨_, rfl⟩
  rw [← hF] at h1 MH KC FC
  have HG := Lib.hid G
  clear hF G
  go_enter Tryd.func74, Tryd.ntmps74
  go_wp2_with (first
    | (with_reducible refine wpList_boxes (o := ⟨some 3, .box 24 (.tmp 0), _, _, _, _⟩) rfl 24 (.tmp 0) rfl _ rfl (tmc k u n s A len c) rfl ?_; intro w1 hb1 m1 z1; replace z1 := Lib.hid z1
       obtain ⟨b1, hq1⟩ : ∃ b, b = w.heap.size := ⟨_, rfl⟩
       rw [← hq1] at hb1 ⊢
       have e0 := hb1.cell 0
       have e4 := hb1.cell 4
       simp only [tmc, List.getElem?_cons_succ, List.getElem?_cons_zero] at e0 e4
       clear z1 hq1)
    | (go_at_call 91; refine (FC w1 (HG.out.then m1)).mono ?_; rintro e w2 ⟨rfl, rfl⟩))
  clear e0
  refine wp_region_ups [(15, .int .u8 F), (16, .bool true), (17, .bool true), (18, undef), (19, undef), (20, undef), (21, undef), (22, .bool true), (23, .bool true), (24, undef), (25, undef), (26, undef), (27, undef), (28, undef), (29, undef), (30, .bool true), (31, .bool true), (32, undef), (33, undef), (34, .bool true), (35, .bool true), (36, undef), (37, undef), (38, .bool true)] 60 [15, 16, 17, 18, 19, 20, 21, 22, 23, 24, 25, 26, 27, 28, 29, 30, 31, 32, 33, 34, 35, 36, 37, 38] rfl rfl (by decide) (by kernel_rfl) (fun lz v => Mod [] w1.drew v) (by kernel_rfl) (Mod.refl _ _) (by kernel_rfl) (by kernel_rfl) ?step ?fin
  case step =>
    intro lz T v j o hj hlj hdep hst hpar hgot hcl Kq hK
    have mv : ∀ v, Mod [] w1.drew v → Mod [] w1 v := fun v h => (Mod.drew [] w1).then h
    have hjn : j < 24 := (Array.getElem?_eq_some_iff.1 hj).1
    obtain rfl | rfl | rfl | rfl | rfl | rfl | rfl | rfl | rfl | rfl | rfl | rfl | rfl | rfl | rfl | rfl | rfl | rfl | rfl | rfl | rfl | rfl | rfl | rfl : j = 0 ∨ j = 1 ∨ j = 2 ∨ j = 3 ∨ j = 4 ∨ j = 5 ∨ j = 6 ∨ j = 7 ∨ j = 8 ∨ j = 9 ∨ j = 10 ∨ j = 11 ∨ j = 12 ∨ j = 13 ∨ j = 14 ∨ j = 15 ∨ j = 16 ∨ j = 17 ∨ j = 18 ∨ j = 19 ∨ j = 20 ∨ j = 21 ∨ j = 22 ∨ j = 23 := by omega
    all_goals (have hj' := Option.some.inj (hj : some _ = some o); subst hj'; clear hj)
    · exact wp_ran rfl (exec_move rfl (eval_tmp ((hpar 7 rfl).trans rfl))) (hK _ _ (fun s hs => by cases hs; rfl) hst)
    · exact wp_ran rfl (exec_eqi (h1) rfl (eval_tmp (hgot 0 _ 15 rfl (hdep ⟨0, .data⟩ (by simp) rfl) rfl)) rfl) (hK _ _ (fun s hs => by cases hs; rfl) hst)
    · exact wp_ran rfl (exec_move rfl (eval_tmp (hgot 1 _ 16 rfl (hdep ⟨1, .data⟩ (by simp) rfl) rfl))) (hK _ _ (fun s hs => by cases hs; rfl) hst)
    · exact wp_skip (wanted_no rfl rfl rfl rfl (hgot 2 _ 17 rfl (hdep ⟨2, .guard⟩ (by simp) rfl) rfl)) (hK undef _ (fun s hs => by cases hs; rfl) hst)
    · exact wp_skip (wanted_no rfl rfl rfl rfl (hgot 2 _ 17 rfl (hdep ⟨2, .guard⟩ (by simp) rfl) rfl)) (hK undef _ (fun s hs => by cases hs; rfl) hst)
    · exact wp_skip (wanted_no rfl rfl rfl rfl (hgot 2 _ 17 rfl (hdep ⟨2, .guard⟩ (by simp) rfl) rfl)) (hK undef _ (fun s hs => by cases hs; rfl) hst)
    · exact wp_skip (wanted_no rfl rfl rfl rfl (hgot 2 _ 17 rfl (hdep ⟨2, .guard⟩ (by simp) rfl) rfl)) (hK undef _ (fun s hs => by cases hs; rfl) hst)
    · exact wp_ran rfl (exec_pick rfl (eval_tmp (hgot 2 _ 17 rfl (hdep ⟨2, .data⟩ (by simp) rfl) rfl)) rfl (eval_tmp (hgot 6 _ 21 rfl (hdep ⟨6, .data⟩ (by simp) rfl) rfl)) rfl) (hK _ _ (fun s hs => by cases hs; rfl) hst)
    · exact wp_ran rfl (exec_move rfl (eval_tmp (hgot 7 _ 22 rfl (hdep ⟨7, .data⟩ (by simp) rfl) rfl))) (hK _ _ (fun s hs => by cases hs; rfl) hst)
    · exact wp_skip (wanted_no rfl rfl rfl rfl (hgot 8 _ 23 rfl (hdep ⟨8, .guard⟩ (by simp) rfl) rfl)) (hK undef _ (fun s hs => by cases hs; rfl) hst)
    · exact wp_skip (wanted_no rfl rfl rfl rfl (hgot 8 _ 23 rfl (hdep ⟨8, .guard⟩ (by simp) rfl) rfl)) (hK undef _ (fun s hs => by cases hs; rfl) hst)
    · exact wp_skip (wanted_no rfl rfl rfl rfl (hgot 8 _ 23 rfl (hdep ⟨8, .guard⟩ (by simp) rfl) rfl)) (hK undef _ (fun s hs => by cases hs; rfl) hst)
    · exact wp_skip (wanted_no rfl rfl rfl rfl (hgot 8 _ 23 rfl (hdep ⟨8, .guard⟩ (by simp) rfl) rfl)) (hK undef _ (fun s hs => by cases hs; rfl) hst)
    · exact wp_skip (wanted_no rfl rfl rfl rfl (hgot 8 _ 23 rfl (hdep ⟨8, .guard⟩ (by simp) rfl) rfl)) (hK undef _ (fun s hs => by cases hs; rfl) hst)
    · exact wp_skip (wanted_no rfl rfl rfl rfl (hgot 8 _ 23 rfl (hdep ⟨8, .guard⟩ (by simp) rfl) rfl)) (hK undef _ (fun s hs => by cases hs; rfl) hst)
    · exact wp_ran rfl (exec_pick rfl (eval_tmp (hgot 8 _ 23 rfl (hdep ⟨8, .data⟩ (by simp) rfl) rfl)) rfl (eval_tmp (hgot 14 _ 29 rfl (hdep ⟨14, .data⟩ (by simp) rfl) rfl)) rfl) (hK _ _ (fun s hs => by cases hs; rfl) hst)
    · exact wp_ran rfl (exec_move rfl (eval_tmp (hgot 15 _ 30 rfl (hdep ⟨15, .data⟩ (by simp) rfl) rfl))) (hK _ _ (fun s hs => by cases hs; rfl) hst)
    · exact wp_skip (wanted_no rfl rfl rfl rfl (hgot 16 _ 31 rfl (hdep ⟨16, .guard⟩ (by simp) rfl) rfl)) (hK undef _ (fun s hs => by cases hs; rfl) hst)
    · exact wp_skip (wanted_no rfl rfl rfl rfl (hgot 16 _ 31 rfl (hdep ⟨16, .guard⟩ (by simp) rfl) rfl)) (hK undef _ (fun s hs => by cases hs; rfl) hst)
    · exact wp_ran rfl (exec_pick rfl (eval_tmp (hgot 16 _ 31 rfl (hdep ⟨16, .data⟩ (by simp) rfl) rfl)) rfl (eval_tmp (hgot 18 _ 33 rfl (hdep ⟨18, .data⟩ (by simp) rfl) rfl)) rfl) (hK _ _ (fun s hs => by cases hs; rfl) hst)
    · exact wp_ran rfl (exec_move rfl (eval_tmp (hgot 19 _ 34 rfl (hdep ⟨19, .data⟩ (by simp) rfl) rfl))) (hK _ _ (fun s hs => by cases hs; rfl) hst)
    · exact wp_skip (wanted_no rfl rfl rfl rfl (hgot 20 _ 35 rfl (hdep ⟨20, .guard⟩ (by simp) rfl) rfl)) (hK undef _ (fun s hs => by cases hs; rfl) hst)
    · exact wp_skip (wanted_no rfl rfl rfl rfl (hgot 20 _ 35 rfl (hdep ⟨20, .guard⟩ (by simp) rfl) rfl)) (hK undef _ (fun s hs => by cases hs; rfl) hst)
    · exact wp_ran rfl (exec_pick rfl (eval_tmp (hgot 20 _ 35 rfl (hdep ⟨20, .data⟩ (by simp) rfl) rfl)) rfl (eval_tmp (hgot 22 _ 37 rfl (hdep ⟨22, .data⟩ (by simp) rfl) rfl)) rfl) (hK _ _ (fun s hs => by cases hs; rfl) hst)
  case fin =>
  intro lz vr hlz hst
  simp only [setAll, List.foldl_cons, List.foldl_nil, List.set_cons_succ, List.set_cons_zero]
  replace hst : Mod [] w vr := m1.then ((Mod.drew [] w1).then hst)
  clear hlz
  go_wp2_with fail
  go_ret
  exact ⟨rfl, hst⟩
set_option maxRecDepth 1000000 in
set_option maxHeartbeats 4000000 in
theorem size_2 (k u n : Int) (s : ByteArray) (A : Option Addr) (len c : Nat) (deep room : Int) (w : World) (G : Glob w) (h1 : (flds k == 0) = false) (h2 : Tm.may k u n s.size = false) :
    Calls Tryd.prog 74 #[.agg (tmc k u n s A len c).toArray, .int .i64 deep, .int .i64 room] w fun e w' => e = .returned (.int .i64 0) ∧ Mod [] w w' := by
  have MH := fun v => mayHave_c k u n s A len c v
  have KC := fun v => kids_c k v
  have FC := fun v (g : Glob v) => fieldsOf_c k v g
  obtain ⟨F, hF⟩ : ∃ F, F = flds k := ⟨_, rfl⟩
  rw [← hF] at h1 MH KC FC
  have HG := Lib.hid G
  clear hF G
  rw [h2] at MH
  replace h2 := Lib.hid h2
  go_enter Tryd.func74, Tryd.ntmps74
  go_wp2_with (first
    | (with_reducible refine wpList_boxes (o := ⟨some 3, .box 24 (.tmp 0), _, _, _, _⟩) rfl 24 (.tmp 0) rfl _ rfl (tmc k u n s A len c) rfl ?_; intro w1 hb1 m1 z1; replace z1 := Lib.hid z1
       obtain ⟨b1, hq1⟩ : ∃ b, b = w.heap.size := ⟨_, rfl⟩
       rw [← hq1] at hb1 ⊢
       have e0 := hb1.cell 0
       have e4 := hb1.cell 4
       simp only [tmc, List.getElem?_cons_succ, List.getElem?_cons_zero] at e0 e4
       clear z1 hq1)
    | (go_at_call 91; refine (FC w1 (HG.out.then m1)).mono ?_; rintro e w2 ⟨rfl, rfl⟩))
  clear e0
  refine wp_region_ups [(15, .int .u8 F), (16, .bool false), (17, .bool false), (18, .int .u8 F), (19, .agg (tmc k u n s A len c).toArray), (20, .bool false), (21, .bool true), (22, .bool true), (23, .bool true), (24, undef), (25, undef), (26, undef), (27, undef), (28, undef), (29, undef), (30, .bool true), (31, .bool true), (32, undef), (33, undef), (34, .bool true), (35, .bool true), (36, undef), (37, undef), (38, .bool true)] 60 [15, 16, 17, 18, 19, 20, 21, 22, 23, 24, 25, 26, 27, 28, 29, 30, 31, 32, 33, 34, 35, 36, 37, 38] rfl rfl (by decide) (by kernel_rfl) (fun lz v => Mod [] w1.drew v) (by kernel_rfl) (Mod.refl _ _) (by kernel_rfl) (by kernel_rfl) ?step ?fin
  case step =>
    intro lz T v j o hj hlj hdep hst hpar hgot hcl Kq hK
    have mv : ∀ v, Mod [] w1.drew v → Mod [] w1 v := fun v h => (Mod.drew [] w1).then h
    have hjn : j < 24 := (Array.getElem?_eq_some_iff.1 hj).1
    obtain rfl | rfl | rfl | rfl | rfl | rfl | rfl | rfl | rfl | rfl | rfl | rfl | rfl | rfl | rfl | rfl | rfl | rfl | rfl | rfl | rfl | rfl | rfl | rfl : j = 0 ∨ j = 1 ∨ j = 2 ∨ j = 3 ∨ j = 4 ∨ j = 5 ∨ j = 6 ∨ j = 7 ∨ j = 8 ∨ j = 9 ∨ j = 10 ∨ j = 11 ∨ j = 12 ∨ j = 13 ∨ j = 14 ∨ j = 15 ∨ j = 16 ∨ j = 17 ∨ j = 18 ∨ j = 19 ∨ j = 20 ∨ j = 21 ∨ j = 22 ∨ j = 23 := by omega
    all_goals (have hj' := Option.some.inj (hj : some _ = some o); subst hj'; clear hj)
    · exact wp_ran rfl (exec_move rfl (eval_tmp ((hpar 7 rfl).trans rfl))) (hK _ _ (fun s hs => by cases hs; rfl) hst)
    · exact wp_ran rfl (exec_eqi (h1) rfl (eval_tmp (hgot 0 _ 15 rfl (hdep ⟨0, .data⟩ (by simp) rfl) rfl)) rfl) (hK _ _ (fun s hs => by cases hs; rfl) hst)
    · exact wp_ran rfl (exec_move rfl (eval_tmp (hgot 1 _ 16 rfl (hdep ⟨1, .data⟩ (by simp) rfl) rfl))) (hK _ _ (fun s hs => by cases hs; rfl) hst)
    · exact wp_ranW (wanted_yes rfl rfl rfl (hgot 2 _ 17 rfl (hdep ⟨2, .guard⟩ (by simp) rfl) rfl)) (exec_move rfl (eval_tmp ((hpar 7 rfl).trans rfl))) (hK _ _ (fun s hs => by cases hs; rfl) hst)
    · exact wp_ranW (wanted_yes rfl rfl rfl (hgot 2 _ 17 rfl (hdep ⟨2, .guard⟩ (by simp) rfl) rfl)) (exec_load rfl (eval_tmp ((hpar 3 rfl).trans rfl)) (run_loads (Cells.of_holds (hb1.keep (mv v hst) (by simp))) Tryd.underlying24 rfl size24)) (hK _ _ (fun s hs => by cases hs; rfl) hst)
    · exact wp_calledW (wanted_yes rfl rfl rfl (hgot 2 _ 17 rfl (hdep ⟨2, .guard⟩ (by simp) rfl) rfl)) (exec_call2 rfl rfl (eval_tmp (hgot 3 _ 18 rfl (hdep ⟨3, .data⟩ (by simp) rfl) rfl)) (eval_tmp (hgot 4 _ 19 rfl (hdep ⟨4, .data⟩ (by simp) rfl) rfl)) (enters_of Tryd.func92 (by kernel_rfl) rfl)) ((MH v).mono (fun e v' hh => ⟨_, hh.1, hK _ _ (fun s hs => by cases hs; rfl) (hst.then hh.2)⟩))
    · exact wp_ranW (wanted_yes rfl rfl rfl (hgot 2 _ 17 rfl (hdep ⟨2, .guard⟩ (by simp) rfl) rfl)) (exec_not rfl (eval_tmp (hgot 5 _ 20 rfl (hdep ⟨5, .data⟩ (by simp) rfl) rfl))) (hK _ _ (fun s hs => by cases hs; rfl) hst)
    · exact wp_ran rfl (exec_pick rfl (eval_tmp (hgot 2 _ 17 rfl (hdep ⟨2, .data⟩ (by simp) rfl) rfl)) rfl (eval_tmp (hgot 6 _ 21 rfl (hdep ⟨6, .data⟩ (by simp) rfl) rfl)) rfl) (hK _ _ (fun s hs => by cases hs; rfl) hst)
    · exact wp_ran rfl (exec_move rfl (eval_tmp (hgot 7 _ 22 rfl (hdep ⟨7, .data⟩ (by simp) rfl) rfl))) (hK _ _ (fun s hs => by cases hs; rfl) hst)
    · exact wp_skip (wanted_no rfl rfl rfl rfl (hgot 8 _ 23 rfl (hdep ⟨8, .guard⟩ (by simp) rfl) rfl)) (hK undef _ (fun s hs => by cases hs; rfl) hst)
    · exact wp_skip (wanted_no rfl rfl rfl rfl (hgot 8 _ 23 rfl (hdep ⟨8, .guard⟩ (by simp) rfl) rfl)) (hK undef _ (fun s hs => by cases hs; rfl) hst)
    · exact wp_skip (wanted_no rfl rfl rfl rfl (hgot 8 _ 23 rfl (hdep ⟨8, .guard⟩ (by simp) rfl) rfl)) (hK undef _ (fun s hs => by cases hs; rfl) hst)
    · exact wp_skip (wanted_no rfl rfl rfl rfl (hgot 8 _ 23 rfl (hdep ⟨8, .guard⟩ (by simp) rfl) rfl)) (hK undef _ (fun s hs => by cases hs; rfl) hst)
    · exact wp_skip (wanted_no rfl rfl rfl rfl (hgot 8 _ 23 rfl (hdep ⟨8, .guard⟩ (by simp) rfl) rfl)) (hK undef _ (fun s hs => by cases hs; rfl) hst)
    · exact wp_skip (wanted_no rfl rfl rfl rfl (hgot 8 _ 23 rfl (hdep ⟨8, .guard⟩ (by simp) rfl) rfl)) (hK undef _ (fun s hs => by cases hs; rfl) hst)
    · exact wp_ran rfl (exec_pick rfl (eval_tmp (hgot 8 _ 23 rfl (hdep ⟨8, .data⟩ (by simp) rfl) rfl)) rfl (eval_tmp (hgot 14 _ 29 rfl (hdep ⟨14, .data⟩ (by simp) rfl) rfl)) rfl) (hK _ _ (fun s hs => by cases hs; rfl) hst)
    · exact wp_ran rfl (exec_move rfl (eval_tmp (hgot 15 _ 30 rfl (hdep ⟨15, .data⟩ (by simp) rfl) rfl))) (hK _ _ (fun s hs => by cases hs; rfl) hst)
    · exact wp_skip (wanted_no rfl rfl rfl rfl (hgot 16 _ 31 rfl (hdep ⟨16, .guard⟩ (by simp) rfl) rfl)) (hK undef _ (fun s hs => by cases hs; rfl) hst)
    · exact wp_skip (wanted_no rfl rfl rfl rfl (hgot 16 _ 31 rfl (hdep ⟨16, .guard⟩ (by simp) rfl) rfl)) (hK undef _ (fun s hs => by cases hs; rfl) hst)
    · exact wp_ran rfl (exec_pick rfl (eval_tmp (hgot 16 _ 31 rfl (hdep ⟨16, .data⟩ (by simp) rfl) rfl)) rfl (eval_tmp (hgot 18 _ 33 rfl (hdep ⟨18, .data⟩ (by simp) rfl) rfl)) rfl) (hK _ _ (fun s hs => by cases hs; rfl) hst)
    · exact wp_ran rfl (exec_move rfl (eval_tmp (hgot 19 _ 34 rfl (hdep ⟨19, .data⟩ (by simp) rfl) rfl))) (hK _ _ (fun s hs => by cases hs; rfl) hst)
    · exact wp_skip (wanted_no rfl rfl rfl rfl (hgot 20 _ 35 rfl (hdep ⟨20, .guard⟩ (by simp) rfl) rfl)) (hK undef _ (fun s hs => by cases hs; rfl) hst)
    · exact wp_skip (wanted_no rfl rfl rfl rfl (hgot 20 _ 35 rfl (hdep ⟨20, .guard⟩ (by simp) rfl) rfl)) (hK undef _ (fun s hs => by cases hs; rfl) hst)
    · exact wp_ran rfl (exec_pick rfl (eval_tmp (hgot 20 _ 35 rfl (hdep ⟨20, .data⟩ (by simp) rfl) rfl)) rfl (eval_tmp (hgot 22 _ 37 rfl (hdep ⟨22, .data⟩ (by simp) rfl) rfl)) rfl) (hK _ _ (fun s hs => by cases hs; rfl) hst)
  case fin =>
  intro lz vr hlz hst
  simp only [setAll, List.foldl_cons, List.foldl_nil, List.set_cons_succ, List.set_cons_zero]
  replace hst : Mod [] w vr := m1.then ((Mod.drew [] w1).then hst)
  clear hlz
  go_wp2_with fail
  go_ret
  exact ⟨rfl, hst⟩
set_option maxRecDepth 1000000 in
set_option maxHeartbeats 4000000 in
theorem size_3 (k u n : Int) (s : ByteArray) (A : Option Addr) (len c : Nat) (deep room : Int) (w : World) (G : Glob w) (h1 : (flds k == 0) = false) (h2 : Tm.may k u n s.size = true) (h3 : (!((len : Int) == (Tm.nk k : Int))) = true) :
    Calls Tryd.prog 74 #[.agg (tmc k u n s A len c).toArray, .int .i64 deep, .int .i64 room] w fun e w' => e = .returned (.int .i64 0) ∧ Mod [] w w' := by
  have MH := fun v => mayHave_c k u n s A len c v
  have KC := fun v => kids_c k v
  have FC := fun v (g : Glob v) => fieldsOf_c k v g
  obtain ⟨F, hF⟩ : ∃ F, F = flds k := ⟨_, rfl⟩
  rw [← hF] at h1 MH KC FC
  have HG := Lib.hid G
  clear hF G
  rw [h2] at MH
  replace h2 := Lib.hid h2
  go_enter Tryd.func74, Tryd.ntmps74
  go_wp2_with (first
    | (with_reducible refine wpList_boxes (o := ⟨some 3, .box 24 (.tmp 0), _, _, _, _⟩) rfl 24 (.tmp 0) rfl _ rfl (tmc k u n s A len c) rfl ?_; intro w1 hb1 m1 z1; replace z1 := Lib.hid z1
       obtain ⟨b1, hq1⟩ : ∃ b, b = w.heap.size := ⟨_, rfl⟩
       rw [← hq1] at hb1 ⊢
       have e0 := hb1.cell 0
       have e4 := hb1.cell 4
       simp only [tmc, List.getElem?_cons_succ, List.getElem?_cons_zero] at e0 e4
       clear z1 hq1)
    | (go_at_call 91; refine (FC w1 (HG.out.then m1)).mono ?_; rintro e w2 ⟨rfl, rfl⟩))
  clear e0
  refine wp_region_ups [(15, .int .u8 F), (16, .bool false), (17, .bool false), (18, .int .u8 F), (19, .agg (tmc k u n s A len c).toArray), (20, .bool true), (21, .bool false), (22, .bool false), (23, .bool false), (24, .pointer (some ⟨b1, 4, none⟩)), (25, .slice A len c), (26, .int .i64 (len : Int)), (27, .int .u8 F), (28, .int .i64 (Tm.nk k : Int)), (29, .bool true), (30, .bool true), (31, .bool true), (32, undef), (33, undef), (34, .bool true), (35, .bool true), (36, undef), (37, undef), (38, .bool true)] 60 [15, 16, 17, 18, 19, 20, 21, 22, 23, 24, 25, 26, 27, 28, 29, 30, 31, 32, 33, 34, 35, 36, 37, 38] rfl rfl (by decide) (by kernel_rfl) (fun lz v => Mod [] w1.drew v) (by kernel_rfl) (Mod.refl _ _) (by kernel_rfl) (by kernel_rfl) ?step ?fin
  case step =>
    intro lz T v j o hj hlj hdep hst hpar hgot hcl Kq hK
    have mv : ∀ v, Mod [] w1.drew v → Mod [] w1 v := fun v h => (Mod.drew [] w1).then h
    have hjn : j < 24 := (Array.getElem?_eq_some_iff.1 hj).1
    obtain rfl | rfl | rfl | rfl | rfl | rfl | rfl | rfl | rfl | rfl | rfl | rfl | rfl | rfl | rfl | rfl | rfl | rfl | rfl | rfl | rfl | rfl | rfl | rfl : j = 0 ∨ j = 1 ∨ j = 2 ∨ j = 3 ∨ j = 4 ∨ j = 5 ∨ j = 6 ∨ j = 7 ∨ j = 8 ∨ j = 9 ∨ j = 10 ∨ j = 11 ∨ j = 12 ∨ j = 13 ∨ j = 14 ∨ j = 15 ∨ j = 16 ∨ j = 17 ∨ j = 18 ∨ j = 19 ∨ j = 20 ∨ j = 21 ∨ j = 22 ∨ j = 23 := by omega
    all_goals (have hj' := Option.some.inj (hj : some _ = some o); subst hj'; clear hj)
    · exact wp_ran rfl (exec_move rfl (eval_tmp ((hpar 7 rfl).trans rfl))) (hK _ _ (fun s hs => by cases hs; rfl) hst)
    · exact wp_ran rfl (exec_eqi (h1) rfl (eval_tmp (hgot 0 _ 15 rfl (hdep ⟨0, .data⟩ (by simp) rfl) rfl)) rfl) (hK _ _ (fun s hs => by cases hs; rfl) hst)
    · exact wp_ran rfl (exec_move rfl (eval_tmp (hgot 1 _ 16 rfl (hdep ⟨1, .data⟩ (by simp) rfl) rfl))) (hK _ _ (fun s hs => by cases hs; rfl) hst)
    · exact wp_ranW (wanted_yes rfl rfl rfl (hgot 2 _ 17 rfl (hdep ⟨2, .guard⟩ (by simp) rfl) rfl)) (exec_move rfl (eval_tmp ((hpar 7 rfl).trans rfl))) (hK _ _ (fun s hs => by cases hs; rfl) hst)
    · exact wp_ranW (wanted_yes rfl rfl rfl (hgot 2 _ 17 rfl (hdep ⟨2, .guard⟩ (by simp) rfl) rfl)) (exec_load rfl (eval_tmp ((hpar 3 rfl).trans rfl)) (run_loads (Cells.of_holds (hb1.keep (mv v hst) (by simp))) Tryd.underlying24 rfl size24)) (hK _ _ (fun s hs => by cases hs; rfl) hst)
    · exact wp_calledW (wanted_yes rfl rfl rfl (hgot 2 _ 17 rfl (hdep ⟨2, .guard⟩ (by simp) rfl) rfl)) (exec_call2 rfl rfl (eval_tmp (hgot 3 _ 18 rfl (hdep ⟨3, .data⟩ (by simp) rfl) rfl)) (eval_tmp (hgot 4 _ 19 rfl (hdep ⟨4, .data⟩ (by simp) rfl) rfl)) (enters_of Tryd.func92 (by kernel_rfl) rfl)) ((MH v).mono (fun e v' hh => ⟨_, hh.1, hK _ _ (fun s hs => by cases hs; rfl) (hst.then hh.2)⟩))
    · exact wp_ranW (wanted_yes rfl rfl rfl (hgot 2 _ 17 rfl (hdep ⟨2, .guard⟩ (by simp) rfl) rfl)) (exec_not rfl (eval_tmp (hgot 5 _ 20 rfl (hdep ⟨5, .data⟩ (by simp) rfl) rfl))) (hK _ _ (fun s hs => by cases hs; rfl) hst)
    · exact wp_ran rfl (exec_pick rfl (eval_tmp (hgot 2 _ 17 rfl (hdep ⟨2, .data⟩ (by simp) rfl) rfl)) rfl (eval_tmp (hgot 6 _ 21 rfl (hdep ⟨6, .data⟩ (by simp) rfl) rfl)) rfl) (hK _ _ (fun s hs => by cases hs; rfl) hst)
    · exact wp_ran rfl (exec_move rfl (eval_tmp (hgot 7 _ 22 rfl (hdep ⟨7, .data⟩ (by simp) rfl) rfl))) (hK _ _ (fun s hs => by cases hs; rfl) hst)
    · exact wp_ranW (wanted_yes rfl rfl rfl (hgot 8 _ 23 rfl (hdep ⟨8, .guard⟩ (by simp) rfl) rfl)) (exec_fa4 rfl (eval_tmp ((hpar 3 rfl).trans rfl))) (hK _ _ (fun s hs => by cases hs; rfl) hst)
    · exact wp_ranW (wanted_yes rfl rfl rfl (hgot 8 _ 23 rfl (hdep ⟨8, .guard⟩ (by simp) rfl) rfl)) (exec_load rfl (eval_tmp (hgot 9 _ 24 rfl (hdep ⟨9, .data⟩ (by simp) rfl) rfl)) (run_load1 Tryd.underlying22 rfl (show v.cell? ⟨b1, 4, none⟩ = some (.slice A len c) from (hb1.keep (mv v hst) (by simp)).cell 4))) (hK _ _ (fun s hs => by cases hs; rfl) hst)
    · exact wp_ranW (wanted_yes rfl rfl rfl (hgot 8 _ 23 rfl (hdep ⟨8, .guard⟩ (by simp) rfl) rfl)) (exec_len Tryd.underlying22 rfl (eval_tmp (hgot 10 _ 25 rfl (hdep ⟨10, .data⟩ (by simp) rfl) rfl))) (hK _ _ (fun s hs => by cases hs; rfl) hst)
    · exact wp_ranW (wanted_yes rfl rfl rfl (hgot 8 _ 23 rfl (hdep ⟨8, .guard⟩ (by simp) rfl) rfl)) (exec_move rfl (eval_tmp ((hpar 7 rfl).trans rfl))) (hK _ _ (fun s hs => by cases hs; rfl) hst)
    · exact wp_calledW (wanted_yes rfl rfl rfl (hgot 8 _ 23 rfl (hdep ⟨8, .guard⟩ (by simp) rfl) rfl)) (exec_call1 rfl rfl (eval_tmp (hgot 12 _ 27 rfl (hdep ⟨12, .data⟩ (by simp) rfl) rfl)) (enters_of Tryd.func93 (by kernel_rfl) rfl)) ((KC v).mono (fun e v' hh => ⟨_, hh.1, hK _ _ (fun s hs => by cases hs; rfl) (hh.2 ▸ hst)⟩))
    · exact wp_ranW (wanted_yes rfl rfl rfl (hgot 8 _ 23 rfl (hdep ⟨8, .guard⟩ (by simp) rfl) rfl)) (exec_nei (h3) rfl (eval_tmp (hgot 11 _ 26 rfl (hdep ⟨11, .data⟩ (by simp) rfl) rfl)) (eval_tmp (hgot 13 _ 28 rfl (hdep ⟨13, .data⟩ (by simp) rfl) rfl))) (hK _ _ (fun s hs => by cases hs; rfl) hst)
    · exact wp_ran rfl (exec_pick rfl (eval_tmp (hgot 8 _ 23 rfl (hdep ⟨8, .data⟩ (by simp) rfl) rfl)) rfl (eval_tmp (hgot 14 _ 29 rfl (hdep ⟨14, .data⟩ (by simp) rfl) rfl)) rfl) (hK _ _ (fun s hs => by cases hs; rfl) hst)
    · exact wp_ran rfl (exec_move rfl (eval_tmp (hgot 15 _ 30 rfl (hdep ⟨15, .data⟩ (by simp) rfl) rfl))) (hK _ _ (fun s hs => by cases hs; rfl) hst)
    · exact wp_skip (wanted_no rfl rfl rfl rfl (hgot 16 _ 31 rfl (hdep ⟨16, .guard⟩ (by simp) rfl) rfl)) (hK undef _ (fun s hs => by cases hs; rfl) hst)
    · exact wp_skip (wanted_no rfl rfl rfl rfl (hgot 16 _ 31 rfl (hdep ⟨16, .guard⟩ (by simp) rfl) rfl)) (hK undef _ (fun s hs => by cases hs; rfl) hst)
    · exact wp_ran rfl (exec_pick rfl (eval_tmp (hgot 16 _ 31 rfl (hdep ⟨16, .data⟩ (by simp) rfl) rfl)) rfl (eval_tmp (hgot 18 _ 33 rfl (hdep ⟨18, .data⟩ (by simp) rfl) rfl)) rfl) (hK _ _ (fun s hs => by cases hs; rfl) hst)
    · exact wp_ran rfl (exec_move rfl (eval_tmp (hgot 19 _ 34 rfl (hdep ⟨19, .data⟩ (by simp) rfl) rfl))) (hK _ _ (fun s hs => by cases hs; rfl) hst)
    · exact wp_skip (wanted_no rfl rfl rfl rfl (hgot 20 _ 35 rfl (hdep ⟨20, .guard⟩ (by simp) rfl) rfl)) (hK undef _ (fun s hs => by cases hs; rfl) hst)
    · exact wp_skip (wanted_no rfl rfl rfl rfl (hgot 20 _ 35 rfl (hdep ⟨20, .guard⟩ (by simp) rfl) rfl)) (hK undef _ (fun s hs => by cases hs; rfl) hst)
    · exact wp_ran rfl (exec_pick rfl (eval_tmp (hgot 20 _ 35 rfl (hdep ⟨20, .data⟩ (by simp) rfl) rfl)) rfl (eval_tmp (hgot 22 _ 37 rfl (hdep ⟨22, .data⟩ (by simp) rfl) rfl)) rfl) (hK _ _ (fun s hs => by cases hs; rfl) hst)
  case fin =>
  intro lz vr hlz hst
  simp only [setAll, List.foldl_cons, List.foldl_nil, List.set_cons_succ, List.set_cons_zero]
  replace hst : Mod [] w vr := m1.then ((Mod.drew [] w1).then hst)
  clear hlz
  go_wp2_with fail
  go_ret
  exact ⟨rfl, hst⟩
set_option maxRecDepth 1000000 in
set_option maxHeartbeats 4000000 in
theorem size_4 (k u n : Int) (s : ByteArray) (A : Option Addr) (len c : Nat) (deep room : Int) (w : World) (G : Glob w) (h1 : (flds k == 0) = false) (h2 : Tm.may k u n s.size = true) (h3 : (!((len : Int) == (Tm.nk k : Int))) = false) (h4 : decide (60 < deep) = true) :
    Calls Tryd.prog 74 #[.agg (tmc k u n s A len c).toArray, .int .i64 deep, .int .i64 room] w fun e w' => e = .returned (.int .i64 0) ∧ Mod [] w w' := by
  have MH := fun v => mayHave_c k u n s A len c v
  have KC := fun v => kids_c k v
  have FC := fun v (g : Glob v) => fieldsOf_c k v g
  obtain ⟨F, hF⟩ : ∃ F, F = flds k := ⟨_, rfl⟩
  rw [← hF] at h1 MH KC FC
  have HG := Lib.hid G
  clear hF G
  rw [h2] at MH
  replace h2 := Lib.hid h2
  go_enter Tryd.func74, Tryd.ntmps74
  go_wp2_with (first
    | (with_reducible refine wpList_boxes (o := ⟨some 3, .box 24 (.tmp 0), _, _, _, _⟩) rfl 24 (.tmp 0) rfl _ rfl (tmc k u n s A len c) rfl ?_; intro w1 hb1 m1 z1; replace z1 := Lib.hid z1
       obtain ⟨b1, hq1⟩ : ∃ b, b = w.heap.size := ⟨_, rfl⟩
       rw [← hq1] at hb1 ⊢
       have e0 := hb1.cell 0
       have e4 := hb1.cell 4
       simp only [tmc, List.getElem?_cons_succ, List.getElem?_cons_zero] at e0 e4
       clear z1 hq1)
    | (go_at_call 91; refine (FC w1 (HG.out.then m1)).mono ?_; rintro e w2 ⟨rfl, rfl⟩))
  clear e0
  refine wp_region_ups [(15, .int .u8 F), (16, .bool false), (17, .bool false), (18, .int .u8 F), (19, .agg (tmc k u n s A len c).toArray), (20, .bool true), (21, .bool false), (22, .bool false), (23, .bool false), (24, .pointer (some ⟨b1, 4, none⟩)), (25, .slice A len c), (26, .int .i64 (len : Int)), (27, .int .u8 F), (28, .int .i64 (Tm.nk k : Int)), (29, .bool false), (30, .bool false), (31, .bool false), (32, .int .i64 deep), (33, .bool true), (34, .bool true), (35, .bool true), (36, undef), (37, undef), (38, .bool true)] 60 [15, 16, 17, 18, 19, 20, 21, 22, 23, 24, 25, 26, 27, 28, 29, 30, 31, 32, 33, 34, 35, 36, 37, 38] rfl rfl (by decide) (by kernel_rfl) (fun lz v => Mod [] w1.drew v) (by kernel_rfl) (Mod.refl _ _) (by kernel_rfl) (by kernel_rfl) ?step ?fin
  case step =>
    intro lz T v j o hj hlj hdep hst hpar hgot hcl Kq hK
    have mv : ∀ v, Mod [] w1.drew v → Mod [] w1 v := fun v h => (Mod.drew [] w1).then h
    have hjn : j < 24 := (Array.getElem?_eq_some_iff.1 hj).1
    obtain rfl | rfl | rfl | rfl | rfl | rfl | rfl | rfl | rfl | rfl | rfl | rfl | rfl | rfl | rfl | rfl | rfl | rfl | rfl | rfl | rfl | rfl | rfl | rfl : j = 0 ∨ j = 1 ∨ j = 2 ∨ j = 3 ∨ j = 4 ∨ j = 5 ∨ j = 6 ∨ j = 7 ∨ j = 8 ∨ j = 9 ∨ j = 10 ∨ j = 11 ∨ j = 12 ∨ j = 13 ∨ j = 14 ∨ j = 15 ∨ j = 16 ∨ j = 17 ∨ j = 18 ∨ j = 19 ∨ j = 20 ∨ j = 21 ∨ j = 22 ∨ j = 23 := by omega
    all_goals (have hj' := Option.some.inj (hj : some _ = some o); subst hj'; clear hj)
    · exact wp_ran rfl (exec_move rfl (eval_tmp ((hpar 7 rfl).trans rfl))) (hK _ _ (fun s hs => by cases hs; rfl) hst)
    · exact wp_ran rfl (exec_eqi (h1) rfl (eval_tmp (hgot 0 _ 15 rfl (hdep ⟨0, .data⟩ (by simp) rfl) rfl)) rfl) (hK _ _ (fun s hs => by cases hs; rfl) hst)
    · exact wp_ran rfl (exec_move rfl (eval_tmp (hgot 1 _ 16 rfl (hdep ⟨1, .data⟩ (by simp) rfl) rfl))) (hK _ _ (fun s hs => by cases hs; rfl) hst)
    · exact wp_ranW (wanted_yes rfl rfl rfl (hgot 2 _ 17 rfl (hdep ⟨2, .guard⟩ (by simp) rfl) rfl)) (exec_move rfl (eval_tmp ((hpar 7 rfl).trans rfl))) (hK _ _ (fun s hs => by cases hs; rfl) hst)
    · exact wp_ranW (wanted_yes rfl rfl rfl (hgot 2 _ 17 rfl (hdep ⟨2, .guard⟩ (by simp) rfl) rfl)) (exec_load rfl (eval_tmp ((hpar 3 rfl).trans rfl)) (run_loads (Cells.of_holds (hb1.keep (mv v hst) (by simp))) Tryd.underlying24 rfl size24)) (hK _ _ (fun s hs => by cases hs; rfl) hst)
    · exact wp_calledW (wanted_yes rfl rfl rfl (hgot 2 _ 17 rfl (hdep ⟨2, .guard⟩ (by simp) rfl) rfl)) (exec_call2 rfl rfl (eval_tmp (hgot 3 _ 18 rfl (hdep ⟨3, .data⟩ (by simp) rfl) rfl)) (eval_tmp (hgot 4 _ 19 rfl (hdep ⟨4, .data⟩ (by simp) rfl) rfl)) (enters_of Tryd.func92 (by kernel_rfl) rfl)) ((MH v).mono (fun e v' hh => ⟨_, hh.1, hK _ _ (fun s hs => by cases hs; rfl) (hst.then hh.2)⟩))
    · exact wp_ranW (wanted_yes rfl rfl rfl (hgot 2 _ 17 rfl (hdep ⟨2, .guard⟩ (by simp) rfl) rfl)) (exec_not rfl (eval_tmp (hgot 5 _ 20 rfl (hdep ⟨5, .data⟩ (by simp) rfl) rfl))) (hK _ _ (fun s hs => by cases hs; rfl) hst)
    · exact wp_ran rfl (exec_pick rfl (eval_tmp (hgot 2 _ 17 rfl (hdep ⟨2, .data⟩ (by simp) rfl) rfl)) rfl (eval_tmp (hgot 6 _ 21 rfl (hdep ⟨6, .data⟩ (by simp) rfl) rfl)) rfl) (hK _ _ (fun s hs => by cases hs; rfl) hst)
    · exact wp_ran rfl (exec_move rfl (eval_tmp (hgot 7 _ 22 rfl (hdep ⟨7, .data⟩ (by simp) rfl) rfl))) (hK _ _ (fun s hs => by cases hs; rfl) hst)
    · exact wp_ranW (wanted_yes rfl rfl rfl (hgot 8 _ 23 rfl (hdep ⟨8, .guard⟩ (by simp) rfl) rfl)) (exec_fa4 rfl (eval_tmp ((hpar 3 rfl).trans rfl))) (hK _ _ (fun s hs => by cases hs; rfl) hst)
    · exact wp_ranW (wanted_yes rfl rfl rfl (hgot 8 _ 23 rfl (hdep ⟨8, .guard⟩ (by simp) rfl) rfl)) (exec_load rfl (eval_tmp (hgot 9 _ 24 rfl (hdep ⟨9, .data⟩ (by simp) rfl) rfl)) (run_load1 Tryd.underlying22 rfl (show v.cell? ⟨b1, 4, none⟩ = some (.slice A len c) from (hb1.keep (mv v hst) (by simp)).cell 4))) (hK _ _ (fun s hs => by cases hs; rfl) hst)
    · exact wp_ranW (wanted_yes rfl rfl rfl (hgot 8 _ 23 rfl (hdep ⟨8, .guard⟩ (by simp) rfl) rfl)) (exec_len Tryd.underlying22 rfl (eval_tmp (hgot 10 _ 25 rfl (hdep ⟨10, .data⟩ (by simp) rfl) rfl))) (hK _ _ (fun s hs => by cases hs; rfl) hst)
    · exact wp_ranW (wanted_yes rfl rfl rfl (hgot 8 _ 23 rfl (hdep ⟨8, .guard⟩ (by simp) rfl) rfl)) (exec_move rfl (eval_tmp ((hpar 7 rfl).trans rfl))) (hK _ _ (fun s hs => by cases hs; rfl) hst)
    · exact wp_calledW (wanted_yes rfl rfl rfl (hgot 8 _ 23 rfl (hdep ⟨8, .guard⟩ (by simp) rfl) rfl)) (exec_call1 rfl rfl (eval_tmp (hgot 12 _ 27 rfl (hdep ⟨12, .data⟩ (by simp) rfl) rfl)) (enters_of Tryd.func93 (by kernel_rfl) rfl)) ((KC v).mono (fun e v' hh => ⟨_, hh.1, hK _ _ (fun s hs => by cases hs; rfl) (hh.2 ▸ hst)⟩))
    · exact wp_ranW (wanted_yes rfl rfl rfl (hgot 8 _ 23 rfl (hdep ⟨8, .guard⟩ (by simp) rfl) rfl)) (exec_nei (h3) rfl (eval_tmp (hgot 11 _ 26 rfl (hdep ⟨11, .data⟩ (by simp) rfl) rfl)) (eval_tmp (hgot 13 _ 28 rfl (hdep ⟨13, .data⟩ (by simp) rfl) rfl))) (hK _ _ (fun s hs => by cases hs; rfl) hst)
    · exact wp_ran rfl (exec_pick rfl (eval_tmp (hgot 8 _ 23 rfl (hdep ⟨8, .data⟩ (by simp) rfl) rfl)) rfl (eval_tmp (hgot 14 _ 29 rfl (hdep ⟨14, .data⟩ (by simp) rfl) rfl)) rfl) (hK _ _ (fun s hs => by cases hs; rfl) hst)
    · exact wp_ran rfl (exec_move rfl (eval_tmp (hgot 15 _ 30 rfl (hdep ⟨15, .data⟩ (by simp) rfl) rfl))) (hK _ _ (fun s hs => by cases hs; rfl) hst)
    · exact wp_ranW (wanted_yes rfl rfl rfl (hgot 16 _ 31 rfl (hdep ⟨16, .guard⟩ (by simp) rfl) rfl)) (exec_move rfl (eval_tmp ((hpar 1 rfl).trans rfl))) (hK _ _ (fun s hs => by cases hs; rfl) hst)
    · exact wp_ranW (wanted_yes rfl rfl rfl (hgot 16 _ 31 rfl (hdep ⟨16, .guard⟩ (by simp) rfl) rfl)) (exec_gtr (h4) rfl (eval_tmp (hgot 17 _ 32 rfl (hdep ⟨17, .data⟩ (by simp) rfl) rfl)) rfl) (hK _ _ (fun s hs => by cases hs; rfl) hst)
    · exact wp_ran rfl (exec_pick rfl (eval_tmp (hgot 16 _ 31 rfl (hdep ⟨16, .data⟩ (by simp) rfl) rfl)) rfl (eval_tmp (hgot 18 _ 33 rfl (hdep ⟨18, .data⟩ (by simp) rfl) rfl)) rfl) (hK _ _ (fun s hs => by cases hs; rfl) hst)
    · exact wp_ran rfl (exec_move rfl (eval_tmp (hgot 19 _ 34 rfl (hdep ⟨19, .data⟩ (by simp) rfl) rfl))) (hK _ _ (fun s hs => by cases hs; rfl) hst)
    · exact wp_skip (wanted_no rfl rfl rfl rfl (hgot 20 _ 35 rfl (hdep ⟨20, .guard⟩ (by simp) rfl) rfl)) (hK undef _ (fun s hs => by cases hs; rfl) hst)
    · exact wp_skip (wanted_no rfl rfl rfl rfl (hgot 20 _ 35 rfl (hdep ⟨20, .guard⟩ (by simp) rfl) rfl)) (hK undef _ (fun s hs => by cases hs; rfl) hst)
    · exact wp_ran rfl (exec_pick rfl (eval_tmp (hgot 20 _ 35 rfl (hdep ⟨20, .data⟩ (by simp) rfl) rfl)) rfl (eval_tmp (hgot 22 _ 37 rfl (hdep ⟨22, .data⟩ (by simp) rfl) rfl)) rfl) (hK _ _ (fun s hs => by cases hs; rfl) hst)
  case fin =>
  intro lz vr hlz hst
  simp only [setAll, List.foldl_cons, List.foldl_nil, List.set_cons_succ, List.set_cons_zero]
  replace hst : Mod [] w vr := m1.then ((Mod.drew [] w1).then hst)
  clear hlz
  go_wp2_with fail
  go_ret
  exact ⟨rfl, hst⟩
set_option maxRecDepth 1000000 in
set_option maxHeartbeats 4000000 in
theorem size_5 (k u n : Int) (s : ByteArray) (A : Option Addr) (len c : Nat) (deep room : Int) (w : World) (G : Glob w) (h1 : (flds k == 0) = false) (h2 : Tm.may k u n s.size = true) (h3 : (!((len : Int) == (Tm.nk k : Int))) = false) (h4 : decide (60 < deep) = false) (h5 : decide (room < 1) = true) :
    Calls Tryd.prog 74 #[.agg (tmc k u n s A len c).toArray, .int .i64 deep, .int .i64 room] w fun e w' => e = .returned (.int .i64 0) ∧ Mod [] w w' := by
  have MH := fun v => mayHave_c k u n s A len c v
  have KC := fun v => kids_c k v
  have FC := fun v (g : Glob v) => fieldsOf_c k v g
  obtain ⟨F, hF⟩ : ∃ F, F = flds k := ⟨_, rfl⟩
  rw [← hF] at h1 MH KC FC
  have HG := Lib.hid G
  clear hF G
  rw [h2] at MH
  replace h2 := Lib.hid h2
  go_enter Tryd.func74, Tryd.ntmps74
  go_wp2_with (first
    | (with_reducible refine wpList_boxes (o := ⟨some 3, .box 24 (.tmp 0), _, _, _, _⟩) rfl 24 (.tmp 0) rfl _ rfl (tmc k u n s A len c) rfl ?_; intro w1 hb1 m1 z1; replace z1 := Lib.hid z1
       obtain ⟨b1, hq1⟩ : ∃ b, b = w.heap.size := ⟨_, rfl⟩
       rw [← hq1] at hb1 ⊢
       have e0 := hb1.cell 0
       have e4 := hb1.cell 4
       simp only [tmc, List.getElem?_cons_succ, List.getElem?_cons_zero] at e0 e4
       clear z1 hq1)
    | (go_at_call 91; refine (FC w1 (HG.out.then m1)).mono ?_; rintro e w2 ⟨rfl, rfl⟩))
  clear e0
  refine wp_region_ups [(15, .int .u8 F), (16, .bool false), (17, .bool false), (18, .int .u8 F), (19, .agg (tmc k u n s A len c).toArray), (20, .bool true), (21, .bool false), (22, .bool false), (23, .bool false), (24, .pointer (some ⟨b1, 4, none⟩)), (25, .slice A len c), (26, .int .i64 (len : Int)), (27, .int .u8 F), (28, .int .i64 (Tm.nk k : Int)), (29, .bool false), (30, .bool false), (31, .bool false), (32, .int .i64 deep), (33, .bool false), (34, .bool false), (35, .bool false), (36, .int .i64 room), (37, .bool true), (38, .bool true)] 60 [15, 16, 17, 18, 19, 20, 21, 22, 23, 24, 25, 26, 27, 28, 29, 30, 31, 32, 33, 34, 35, 36, 37, 38] rfl rfl (by decide) (by kernel_rfl) (fun lz v => Mod [] w1.drew v) (by kernel_rfl) (Mod.refl _ _) (by kernel_rfl) (by kernel_rfl) ?step ?fin
  case step =>
    intro lz T v j o hj hlj hdep hst hpar hgot hcl Kq hK
    have mv : ∀ v, Mod [] w1.drew v → Mod [] w1 v := fun v h => (Mod.drew [] w1).then h
    have hjn : j < 24 := (Array.getElem?_eq_some_iff.1 hj).1
    obtain rfl | rfl | rfl | rfl | rfl | rfl | rfl | rfl | rfl | rfl | rfl | rfl | rfl | rfl | rfl | rfl | rfl | rfl | rfl | rfl | rfl | rfl | rfl | rfl : j = 0 ∨ j = 1 ∨ j = 2 ∨ j = 3 ∨ j = 4 ∨ j = 5 ∨ j = 6 ∨ j = 7 ∨ j = 8 ∨ j = 9 ∨ j = 10 ∨ j = 11 ∨ j = 12 ∨ j = 13 ∨ j = 14 ∨ j = 15 ∨ j = 16 ∨ j = 17 ∨ j = 18 ∨ j = 19 ∨ j = 20 ∨ j = 21 ∨ j = 22 ∨ j = 23 := by omega
    all_goals (have hj' := Option.some.inj (hj : some _ = some o); subst hj'; clear hj)
    · exact wp_ran rfl (exec_move rfl (eval_tmp ((hpar 7 rfl).trans rfl))) (hK _ _ (fun s hs => by cases hs; rfl) hst)
    · exact wp_ran rfl (exec_eqi (h1) rfl (eval_tmp (hgot 0 _ 15 rfl (hdep ⟨0, .data⟩ (by simp) rfl) rfl)) rfl) (hK _ _ (fun s hs => by cases hs; rfl) hst)
    · exact wp_ran rfl (exec_move rfl (eval_tmp (hgot 1 _ 16 rfl (hdep ⟨1, .data⟩ (by simp) rfl) rfl))) (hK _ _ (fun s hs => by cases hs; rfl) hst)
    · exact wp_ranW (wanted_yes rfl rfl rfl (hgot 2 _ 17 rfl (hdep ⟨2, .guard⟩ (by simp) rfl) rfl)) (exec_move rfl (eval_tmp ((hpar 7 rfl).trans rfl))) (hK _ _ (fun s hs => by cases hs; rfl) hst)
    · exact wp_ranW (wanted_yes rfl rfl rfl (hgot 2 _ 17 rfl (hdep ⟨2, .guard⟩ (by simp) rfl) rfl)) (exec_load rfl (eval_tmp ((hpar 3 rfl).trans rfl)) (run_loads (Cells.of_holds (hb1.keep (mv v hst) (by simp))) Tryd.underlying24 rfl size24)) (hK _ _ (fun s hs => by cases hs; rfl) hst)
    · exact wp_calledW (wanted_yes rfl rfl rfl (hgot 2 _ 17 rfl (hdep ⟨2, .guard⟩ (by simp) rfl) rfl)) (exec_call2 rfl rfl (eval_tmp (hgot 3 _ 18 rfl (hdep ⟨3, .data⟩ (by simp) rfl) rfl)) (eval_tmp (hgot 4 _ 19 rfl (hdep ⟨4, .data⟩ (by simp) rfl) rfl)) (enters_of Tryd.func92 (by kernel_rfl) rfl)) ((MH v).mono (fun e v' hh => ⟨_, hh.1, hK _ _ (fun s hs => by cases hs; rfl) (hst.then hh.2)⟩))
    · exact wp_ranW (wanted_yes rfl rfl rfl (hgot 2 _ 17 rfl (hdep ⟨2, .guard⟩ (by simp) rfl) rfl)) (exec_not rfl (eval_tmp (hgot 5 _ 20 rfl (hdep ⟨5, .data⟩ (by simp) rfl) rfl))) (hK _ _ (fun s hs => by cases hs; rfl) hst)
    · exact wp_ran rfl (exec_pick rfl (eval_tmp (hgot 2 _ 17 rfl (hdep ⟨2, .data⟩ (by simp) rfl) rfl)) rfl (eval_tmp (hgot 6 _ 21 rfl (hdep ⟨6, .data⟩ (by simp) rfl) rfl)) rfl) (hK _ _ (fun s hs => by cases hs; rfl) hst)
    · exact wp_ran rfl (exec_move rfl (eval_tmp (hgot 7 _ 22 rfl (hdep ⟨7, .data⟩ (by simp) rfl) rfl))) (hK _ _ (fun s hs => by cases hs; rfl) hst)
    · exact wp_ranW (wanted_yes rfl rfl rfl (hgot 8 _ 23 rfl (hdep ⟨8, .guard⟩ (by simp) rfl) rfl)) (exec_fa4 rfl (eval_tmp ((hpar 3 rfl).trans rfl))) (hK _ _ (fun s hs => by cases hs; rfl) hst)
    · exact wp_ranW (wanted_yes rfl rfl rfl (hgot 8 _ 23 rfl (hdep ⟨8, .guard⟩ (by simp) rfl) rfl)) (exec_load rfl (eval_tmp (hgot 9 _ 24 rfl (hdep ⟨9, .data⟩ (by simp) rfl) rfl)) (run_load1 Tryd.underlying22 rfl (show v.cell? ⟨b1, 4, none⟩ = some (.slice A len c) from (hb1.keep (mv v hst) (by simp)).cell 4))) (hK _ _ (fun s hs => by cases hs; rfl) hst)
    · exact wp_ranW (wanted_yes rfl rfl rfl (hgot 8 _ 23 rfl (hdep ⟨8, .guard⟩ (by simp) rfl) rfl)) (exec_len Tryd.underlying22 rfl (eval_tmp (hgot 10 _ 25 rfl (hdep ⟨10, .data⟩ (by simp) rfl) rfl))) (hK _ _ (fun s hs => by cases hs; rfl) hst)
    · exact wp_ranW (wanted_yes rfl rfl rfl (hgot 8 _ 23 rfl (hdep ⟨8, .guard⟩ (by simp) rfl) rfl)) (exec_move rfl (eval_tmp ((hpar 7 rfl).trans rfl))) (hK _ _ (fun s hs => by cases hs; rfl) hst)
    · exact wp_calledW (wanted_yes rfl rfl rfl (hgot 8 _ 23 rfl (hdep ⟨8, .guard⟩ (by simp) rfl) rfl)) (exec_call1 rfl rfl (eval_tmp (hgot 12 _ 27 rfl (hdep ⟨12, .data⟩ (by simp) rfl) rfl)) (enters_of Tryd.func93 (by kernel_rfl) rfl)) ((KC v).mono (fun e v' hh => ⟨_, hh.1, hK _ _ (fun s hs => by cases hs; rfl) (hh.2 ▸ hst)⟩))
    · exact wp_ranW (wanted_yes rfl rfl rfl (hgot 8 _ 23 rfl (hdep ⟨8, .guard⟩ (by simp) rfl) rfl)) (exec_nei (h3) rfl (eval_tmp (hgot 11 _ 26 rfl (hdep ⟨11, .data⟩ (by simp) rfl) rfl)) (eval_tmp (hgot 13 _ 28 rfl (hdep ⟨13, .data⟩ (by simp) rfl) rfl))) (hK _ _ (fun s hs => by cases hs; rfl) hst)
    · exact wp_ran rfl (exec_pick rfl (eval_tmp (hgot 8 _ 23 rfl (hdep ⟨8, .data⟩ (by simp) rfl) rfl)) rfl (eval_tmp (hgot 14 _ 29 rfl (hdep ⟨14, .data⟩ (by simp) rfl) rfl)) rfl) (hK _ _ (fun s hs => by cases hs; rfl) hst)
    · exact wp_ran rfl (exec_move rfl (eval_tmp (hgot 15 _ 30 rfl (hdep ⟨15, .data⟩ (by simp) rfl) rfl))) (hK _ _ (fun s hs => by cases hs; rfl) hst)
    · exact wp_ranW (wanted_yes rfl rfl rfl (hgot 16 _ 31 rfl (hdep ⟨16, .guard⟩ (by simp) rfl) rfl)) (exec_move rfl (eval_tmp ((hpar 1 rfl).trans rfl))) (hK _ _ (fun s hs => by cases hs; rfl) hst)
    · exact wp_ranW (wanted_yes rfl rfl rfl (hgot 16 _ 31 rfl (hdep ⟨16, .guard⟩ (by simp) rfl) rfl)) (exec_gtr (h4) rfl (eval_tmp (hgot 17 _ 32 rfl (hdep ⟨17, .data⟩ (by simp) rfl) rfl)) rfl) (hK _ _ (fun s hs => by cases hs; rfl) hst)
    · exact wp_ran rfl (exec_pick rfl (eval_tmp (hgot 16 _ 31 rfl (hdep ⟨16, .data⟩ (by simp) rfl) rfl)) rfl (eval_tmp (hgot 18 _ 33 rfl (hdep ⟨18, .data⟩ (by simp) rfl) rfl)) rfl) (hK _ _ (fun s hs => by cases hs; rfl) hst)
    · exact wp_ran rfl (exec_move rfl (eval_tmp (hgot 19 _ 34 rfl (hdep ⟨19, .data⟩ (by simp) rfl) rfl))) (hK _ _ (fun s hs => by cases hs; rfl) hst)
    · exact wp_ranW (wanted_yes rfl rfl rfl (hgot 20 _ 35 rfl (hdep ⟨20, .guard⟩ (by simp) rfl) rfl)) (exec_move rfl (eval_tmp ((hpar 2 rfl).trans rfl))) (hK _ _ (fun s hs => by cases hs; rfl) hst)
    · exact wp_ranW (wanted_yes rfl rfl rfl (hgot 20 _ 35 rfl (hdep ⟨20, .guard⟩ (by simp) rfl) rfl)) (exec_lss (h5) rfl (eval_tmp (hgot 21 _ 36 rfl (hdep ⟨21, .data⟩ (by simp) rfl) rfl)) rfl) (hK _ _ (fun s hs => by cases hs; rfl) hst)
    · exact wp_ran rfl (exec_pick rfl (eval_tmp (hgot 20 _ 35 rfl (hdep ⟨20, .data⟩ (by simp) rfl) rfl)) rfl (eval_tmp (hgot 22 _ 37 rfl (hdep ⟨22, .data⟩ (by simp) rfl) rfl)) rfl) (hK _ _ (fun s hs => by cases hs; rfl) hst)
  case fin =>
  intro lz vr hlz hst
  simp only [setAll, List.foldl_cons, List.foldl_nil, List.set_cons_succ, List.set_cons_zero]
  replace hst : Mod [] w vr := m1.then ((Mod.drew [] w1).then hst)
  clear hlz
  go_wp2_with fail
  go_ret
  exact ⟨rfl, hst⟩
set_option maxRecDepth 1000000 in
set_option maxHeartbeats 4000000 in
theorem size_6 (m : Nat) (ih : SizeAll m) (k u n : Int) (s : ByteArray) (A : Option Addr) (len c : Nat) (l : List Tm) (vs : List (List Value)) (S : Nat → Prop) (deep room : Int) (w : World) (G : Glob w) (hlen : len = l.length) (hr : RowT w S A vs l) (hd : ∀ t ∈ l, t.depth ≤ m)
    (d0 : 0 ≤ deep) (d1 : deep ≤ 60) (r0 : 1 ≤ room) (r1 : room ≤ 1200) (hlm : len ≤ 2199023255552) (h1 : (flds k == 0) = false) (h2 : Tm.may k u n s.size = true) (h3 : (!((len : Int) == (Tm.nk k : Int))) = false) (h4 : decide (60 < deep) = false) (h5 : decide (room < 1) = false) :
    Calls Tryd.prog 74 #[.agg (tmc k u n s A len c).toArray, .int .i64 deep, .int .i64 room] w fun e w' => e = .returned (.int .i64 (if Tm.okAll l = true ∧ deep + Tm.depthAll l ≤ 60 ∧ 1 + (Tm.countAll l : Int) ≤ room then 1 + (Tm.countAll l : Int) else 0)) ∧ Mod [] w w' := by
  have HR := Lib.hid (And.intro hlen (And.intro hr (And.intro hd ih)))
  have MH := fun v => mayHave_c k u n s A len c v
  have KC := fun v => kids_c k v
  have FC := fun v (g : Glob v) => fieldsOf_c k v g
  obtain ⟨F, hF⟩ : ∃ F, F = flds k := ⟨_, rfl⟩
  rw [← hF] at h1 MH KC FC
  have HG := Lib.hid G
  clear hF G
  rw [h2] at MH
  replace h2 := Lib.hid h2
  clear hlen hr hd ih
  obtain ⟨Z, hZ⟩ : ∃ Z : Int, Z = (if Tm.okAll l = true ∧ deep + Tm.depthAll l ≤ 60 ∧ 1 + (Tm.countAll l : Int) ≤ room then 1 + (Tm.countAll l : Int) else 0) := ⟨_, rfl⟩
  rw [← hZ]
  replace hZ := Lib.hid hZ
  go_enter Tryd.func74, Tryd.ntmps74
  go_wp2_with (first
    | (with_reducible refine wpList_boxes (o := ⟨some 3, .box 24 (.tmp 0), _, _, _, _⟩) rfl 24 (.tmp 0) rfl _ rfl (tmc k u n s A len c) rfl ?_; intro w1 hb1 m1 z1; replace z1 := Lib.hid z1
       obtain ⟨b1, hq1⟩ : ∃ b, b = w.heap.size := ⟨_, rfl⟩
       rw [← hq1] at hb1 ⊢
       have e0 := hb1.cell 0
       have e4 := hb1.cell 4
       simp only [tmc, List.getElem?_cons_succ, List.getElem?_cons_zero] at e0 e4
       clear z1 hq1)
    | (go_at_call 91; refine (FC w1 (HG.out.then m1)).mono ?_; rintro e w2 ⟨rfl, rfl⟩))
  clear e0
  refine wp_region_ups [(15, .int .u8 F), (16, .bool false), (17, .bool false), (18, .int .u8 F), (19, .agg (tmc k u n s A len c).toArray), (20, .bool true), (21, .bool false), (22, .bool false), (23, .bool false), (24, .pointer (some ⟨b1, 4, none⟩)), (25, .slice A len c), (26, .int .i64 (len : Int)), (27, .int .u8 F), (28, .int .i64 (Tm.nk k : Int)), (29, .bool false), (30, .bool false), (31, .bool false), (32, .int .i64 deep), (33, .bool false), (34, .bool false), (35, .bool false), (36, .int .i64 room), (37, .bool false), (38, .bool false)] 60 [15, 16, 17, 18, 19, 20, 21, 22, 23, 24, 25, 26, 27, 28, 29, 30, 31, 32, 33, 34, 35, 36, 37, 38] rfl rfl (by decide) (by kernel_rfl) (fun lz v => Mod [] w1.drew v) (by kernel_rfl) (Mod.refl _ _) (by kernel_rfl) (by kernel_rfl) ?step ?fin
  case step =>
    intro lz T v j o hj hlj hdep hst hpar hgot hcl Kq hK
    have mv : ∀ v, Mod [] w1.drew v → Mod [] w1 v := fun v h => (Mod.drew [] w1).then h
    have hjn : j < 24 := (Array.getElem?_eq_some_iff.1 hj).1
    obtain rfl | rfl | rfl | rfl | rfl | rfl | rfl | rfl | rfl | rfl | rfl | rfl | rfl | rfl | rfl | rfl | rfl | rfl | rfl | rfl | rfl | rfl | rfl | rfl : j = 0 ∨ j = 1 ∨ j = 2 ∨ j = 3 ∨ j = 4 ∨ j = 5 ∨ j = 6 ∨ j = 7 ∨ j = 8 ∨ j = 9 ∨ j = 10 ∨ j = 11 ∨ j = 12 ∨ j = 13 ∨ j = 14 ∨ j = 15 ∨ j = 16 ∨ j = 17 ∨ j = 18 ∨ j = 19 ∨ j = 20 ∨ j = 21 ∨ j = 22 ∨ j = 23 := by omega
    all_goals (have hj' := Option.some.inj (hj : some _ = some o); subst hj'; clear hj)
    · exact wp_ran rfl (exec_move rfl (eval_tmp ((hpar 7 rfl).trans rfl))) (hK _ _ (fun s hs => by cases hs; rfl) hst)
    · exact wp_ran rfl (exec_eqi (h1) rfl (eval_tmp (hgot 0 _ 15 rfl (hdep ⟨0, .data⟩ (by simp) rfl) rfl)) rfl) (hK _ _ (fun s hs => by cases hs; rfl) hst)
    · exact wp_ran rfl (exec_move rfl (eval_tmp (hgot 1 _ 16 rfl (hdep ⟨1, .data⟩ (by simp) rfl) rfl))) (hK _ _ (fun s hs => by cases hs; rfl) hst)
    · exact wp_ranW (wanted_yes rfl rfl rfl (hgot 2 _ 17 rfl (hdep ⟨2, .guard⟩ (by simp) rfl) rfl)) (exec_move rfl (eval_tmp ((hpar 7 rfl).trans rfl))) (hK _ _ (fun s hs => by cases hs; rfl) hst)
    · exact wp_ranW (wanted_yes rfl rfl rfl (hgot 2 _ 17 rfl (hdep ⟨2, .guard⟩ (by simp) rfl) rfl)) (exec_load rfl (eval_tmp ((hpar 3 rfl).trans rfl)) (run_loads (Cells.of_holds (hb1.keep (mv v hst) (by simp))) Tryd.underlying24 rfl size24)) (hK _ _ (fun s hs => by cases hs; rfl) hst)
    · exact wp_calledW (wanted_yes rfl rfl rfl (hgot 2 _ 17 rfl (hdep ⟨2, .guard⟩ (by simp) rfl) rfl)) (exec_call2 rfl rfl (eval_tmp (hgot 3 _ 18 rfl (hdep ⟨3, .data⟩ (by simp) rfl) rfl)) (eval_tmp (hgot 4 _ 19 rfl (hdep ⟨4, .data⟩ (by simp) rfl) rfl)) (enters_of Tryd.func92 (by kernel_rfl) rfl)) ((MH v).mono (fun e v' hh => ⟨_, hh.1, hK _ _ (fun s hs => by cases hs; rfl) (hst.then hh.2)⟩))
    · exact wp_ranW (wanted_yes rfl rfl rfl (hgot 2 _ 17 rfl (hdep ⟨2, .guard⟩ (by simp) rfl) rfl)) (exec_not rfl (eval_tmp (hgot 5 _ 20 rfl (hdep ⟨5, .data⟩ (by simp) rfl) rfl))) (hK _ _ (fun s hs => by cases hs; rfl) hst)
    · exact wp_ran rfl (exec_pick rfl (eval_tmp (hgot 2 _ 17 rfl (hdep ⟨2, .data⟩ (by simp) rfl) rfl)) rfl (eval_tmp (hgot 6 _ 21 rfl (hdep ⟨6, .data⟩ (by simp) rfl) rfl)) rfl) (hK _ _ (fun s hs => by cases hs; rfl) hst)
    · exact wp_ran rfl (exec_move rfl (eval_tmp (hgot 7 _ 22 rfl (hdep ⟨7, .data⟩ (by simp) rfl) rfl))) (hK _ _ (fun s hs => by cases hs; rfl) hst)
    · exact wp_ranW (wanted_yes rfl rfl rfl (hgot 8 _ 23 rfl (hdep ⟨8, .guard⟩ (by simp) rfl) rfl)) (exec_fa4 rfl (eval_tmp ((hpar 3 rfl).trans rfl))) (hK _ _ (fun s hs => by cases hs; rfl) hst)
    · exact wp_ranW (wanted_yes rfl rfl rfl (hgot 8 _ 23 rfl (hdep ⟨8, .guard⟩ (by simp) rfl) rfl)) (exec_load rfl (eval_tmp (hgot 9 _ 24 rfl (hdep ⟨9, .data⟩ (by simp) rfl) rfl)) (run_load1 Tryd.underlying22 rfl (show v.cell? ⟨b1, 4, none⟩ = some (.slice A len c) from (hb1.keep (mv v hst) (by simp)).cell 4))) (hK _ _ (fun s hs => by cases hs; rfl) hst)
    · exact wp_ranW (wanted_yes rfl rfl rfl (hgot 8 _ 23 rfl (hdep ⟨8, .guard⟩ (by simp) rfl) rfl)) (exec_len Tryd.underlying22 rfl (eval_tmp (hgot 10 _ 25 rfl (hdep ⟨10, .data⟩ (by simp) rfl) rfl))) (hK _ _ (fun s hs => by cases hs; rfl) hst)
    · exact wp_ranW (wanted_yes rfl rfl rfl (hgot 8 _ 23 rfl (hdep ⟨8, .guard⟩ (by simp) rfl) rfl)) (exec_move rfl (eval_tmp ((hpar 7 rfl).trans rfl))) (hK _ _ (fun s hs => by cases hs; rfl) hst)
    · exact wp_calledW (wanted_yes rfl rfl rfl (hgot 8 _ 23 rfl (hdep ⟨8, .guard⟩ (by simp) rfl) rfl)) (exec_call1 rfl rfl (eval_tmp (hgot 12 _ 27 rfl (hdep ⟨12, .data⟩ (by simp) rfl) rfl)) (enters_of Tryd.func93 (by kernel_rfl) rfl)) ((KC v).mono (fun e v' hh => ⟨_, hh.1, hK _ _ (fun s hs => by cases hs; rfl) (hh.2 ▸ hst)⟩))
    · exact wp_ranW (wanted_yes rfl rfl rfl (hgot 8 _ 23 rfl (hdep ⟨8, .guard⟩ (by simp) rfl) rfl)) (exec_nei (h3) rfl (eval_tmp (hgot 11 _ 26 rfl (hdep ⟨11, .data⟩ (by simp) rfl) rfl)) (eval_tmp (hgot 13 _ 28 rfl (hdep ⟨13, .data⟩ (by simp) rfl) rfl))) (hK _ _ (fun s hs => by cases hs; rfl) hst)
    · exact wp_ran rfl (exec_pick rfl (eval_tmp (hgot 8 _ 23 rfl (hdep ⟨8, .data⟩ (by simp) rfl) rfl)) rfl (eval_tmp (hgot 14 _ 29 rfl (hdep ⟨14, .data⟩ (by simp) rfl) rfl)) rfl) (hK _ _ (fun s hs => by cases hs; rfl) hst)
    · exact wp_ran rfl (exec_move rfl (eval_tmp (hgot 15 _ 30 rfl (hdep ⟨15, .data⟩ (by simp) rfl) rfl))) (hK _ _ (fun s hs => by cases hs; rfl) hst)
    · exact wp_ranW (wanted_yes rfl rfl rfl (hgot 16 _ 31 rfl (hdep ⟨16, .guard⟩ (by simp) rfl) rfl)) (exec_move rfl (eval_tmp ((hpar 1 rfl).trans rfl))) (hK _ _ (fun s hs => by cases hs; rfl) hst)
    · exact wp_ranW (wanted_yes rfl rfl rfl (hgot 16 _ 31 rfl (hdep ⟨16, .guard⟩ (by simp) rfl) rfl)) (exec_gtr (h4) rfl (eval_tmp (hgot 17 _ 32 rfl (hdep ⟨17, .data⟩ (by simp) rfl) rfl)) rfl) (hK _ _ (fun s hs => by cases hs; rfl) hst)
    · exact wp_ran rfl (exec_pick rfl (eval_tmp (hgot 16 _ 31 rfl (hdep ⟨16, .data⟩ (by simp) rfl) rfl)) rfl (eval_tmp (hgot 18 _ 33 rfl (hdep ⟨18, .data⟩ (by simp) rfl) rfl)) rfl) (hK _ _ (fun s hs => by cases hs; rfl) hst)
    · exact wp_ran rfl (exec_move rfl (eval_tmp (hgot 19 _ 34 rfl (hdep ⟨19, .data⟩ (by simp) rfl) rfl))) (hK _ _ (fun s hs => by cases hs; rfl) hst)
    · exact wp_ranW (wanted_yes rfl rfl rfl (hgot 20 _ 35 rfl (hdep ⟨20, .guard⟩ (by simp) rfl) rfl)) (exec_move rfl (eval_tmp ((hpar 2 rfl).trans rfl))) (hK _ _ (fun s hs => by cases hs; rfl) hst)
    · exact wp_ranW (wanted_yes rfl rfl rfl (hgot 20 _ 35 rfl (hdep ⟨20, .guard⟩ (by simp) rfl) rfl)) (exec_lss (h5) rfl (eval_tmp (hgot 21 _ 36 rfl (hdep ⟨21, .data⟩ (by simp) rfl) rfl)) rfl) (hK _ _ (fun s hs => by cases hs; rfl) hst)
    · exact wp_ran rfl (exec_pick rfl (eval_tmp (hgot 20 _ 35 rfl (hdep ⟨20, .data⟩ (by simp) rfl) rfl)) rfl (eval_tmp (hgot 22 _ 37 rfl (hdep ⟨22, .data⟩ (by simp) rfl) rfl)) rfl) (hK _ _ (fun s hs => by cases hs; rfl) hst)
  case fin =>
  intro lz vr hlz hst
  simp only [setAll, List.foldl_cons, List.foldl_nil, List.set_cons_succ, List.set_cons_zero]
  have hb2 := hb1.keep ((Mod.drew [] w1).then hst) (by simp)
  clear e4
  have e4 := hb2.cell 4
  simp only [tmc, List.getElem?_cons_succ, List.getElem?_cons_zero] at e4
  replace hst : Mod [] w vr := m1.then ((Mod.drew [] w1).then hst)
  clear hlz m1 hb1 hb2 MH KC FC h1 h2 h3 h4 h5
  go_wp2_with fail
  clear e4
  go_loopw [8, 42] (fun v i wr => ∃ (j : Nat) (q : Int), i = .int .i64 j ∧ j ≤ len ∧ v = .int .i64 q ∧ 1 ≤ q ∧ q ≤ room ∧ SzPre l j deep q ∧ Mod [] w wr) (fun _ i _ => len - (intOf i).toNat)
  case atStart => exact ⟨0, 1, rfl, by omega, rfl, by omega, by omega, szPre_0 l deep d1, hst⟩
  case round =>
  obtain ⟨j, q, rfl, hj, rfl, q1, q2, hpre, mr⟩ := hrel
  by_cases hjl : j < len
  case neg =>
    obtain rfl : len = j := by omega
    have hq := szPre_end (HR.out.1 ▸ hpre) q2
    have HQ := Lib.hid (hZ.out.trans hq)
    clear hq hpre
    go_wp2_with fail
    go_ret
    exact ⟨congrArg (fun z => Ending.returned (Value.int .i64 z)) HQ.out.symm, mr⟩
  have hjl' : j < l.length := by rw [← HR.out.1]; exact hjl
  obtain ⟨g, o, cs, rfl, hcE, hT, hcs, hSg⟩ := HR.out.2.1.elem j hjl'
  replace hcE := hcE.keep mr (by simp)
  have hone := hT.one
  obtain ⟨r, hrz⟩ : ∃ r, r = Tm.sz l[j] (deep + 1) (room - q) := ⟨_, rfl⟩
  have IHC := fun v (mv : Mod [] w v) => HR.out.2.2.2 l[j] cs S (deep + 1) (room - q) v (HR.out.2.2.1 _ (List.getElem_mem _)) (hT.keep mv (by simp)) (HG.out.then mv) (by omega) (by omega) (by omega) (by omega)
  rw [← hrz] at IHC
  by_cases hr0 : r = 0
  · have HQ := Lib.hid (hZ.out.trans (szPre_stop hpre hjl' (hrz ▸ hr0)))
    subst hr0
    clear hrz hpre hT hSg hjl'
    go_wp2_with (first
    | (with_reducible refine wpList_loads (o := ⟨some 45, .load 24 (.tmp 44), _, _, _, _⟩) rfl 24 (.tmp 44) rfl g (o + j * 5) (cs) rfl (hcE) _ Tryd.underlying24 rfl (size24' hcs) (.agg (cs).toArray) rfl ?_)
    | (with_reducible refine wpList_allocs (o := ⟨some 10, .alloc 24, _, _, _, _⟩) rfl 24 rfl _ zero24 ?_; intro y2 hy2 my2 zy2; replace zy2 := Lib.hid zy2)
    | (with_reducible refine wpList_storesAll (o := ⟨none, .store 24 (.tmp 10) (.tmp 45), _, _, _, _⟩) rfl 24 (.tmp 10) (.tmp 45) rfl rfl wr.heap.size (cs) rfl (.agg (cs).toArray) rfl rfl 24 _ hy2 (zlen hcs) (hone) (size24' hcs) ?_
       intro u3 hu3 mu3 zu3
       clear zu3
       have m3 : Mod [] w u3 := mr.then (my2.trans mu3 (by intro i hi h; simp at h; omega))
       obtain ⟨b3, hb3⟩ : ∃ b, b = wr.heap.size := ⟨_, rfl⟩
       rw [← hb3] at hu3 ⊢
       clear hy2 my2 zy2 mu3 hb3)
    | (with_reducible refine wpList_loads (o := ⟨some 46, .load 24 (.tmp 10), _, _, _, _⟩) rfl 24 (.tmp 10) rfl b3 (0) (cs) rfl (Cells.of_holds hu3) _ Tryd.underlying24 rfl (size24' hcs) (.agg (cs).toArray) rfl ?_)
    | (go_at_call 74
       refine (IHC u3 m3).mono ?_
       rintro e w5 ⟨rfl, m5⟩
       have m4 := m3.then m5
       clear m3 m5 hu3 IHC))
    go_ret
    exact ⟨congrArg (fun z => Ending.returned (Value.int .i64 z)) HQ.out.symm, m4⟩
  have hnx := szPre_next hpre hjl' q2 hrz hr0
  obtain ⟨n1, n2, n3⟩ := hnx
  have hb0 : (r == 0) = false := by simpa using hr0
  replace n1 := Lib.hid n1
  clear hrz hpre hT hSg hjl' hr0
  go_wp2_with (first
    | (with_reducible refine wpList_loads (o := ⟨some 45, .load 24 (.tmp 44), _, _, _, _⟩) rfl 24 (.tmp 44) rfl g (o + j * 5) (cs) rfl (hcE) _ Tryd.underlying24 rfl (size24' hcs) (.agg (cs).toArray) rfl ?_)
    | (with_reducible refine wpList_allocs (o := ⟨some 10, .alloc 24, _, _, _, _⟩) rfl 24 rfl _ zero24 ?_; intro y2 hy2 my2 zy2; replace zy2 := Lib.hid zy2)
    | (with_reducible refine wpList_storesAll (o := ⟨none, .store 24 (.tmp 10) (.tmp 45), _, _, _, _⟩) rfl 24 (.tmp 10) (.tmp 45) rfl rfl wr.heap.size (cs) rfl (.agg (cs).toArray) rfl rfl 24 _ hy2 (zlen hcs) (hone) (size24' hcs) ?_
       intro u3 hu3 mu3 zu3
       clear zu3
       have m3 : Mod [] w u3 := mr.then (my2.trans mu3 (by intro i hi h; simp at h; omega))
       obtain ⟨b3, hb3⟩ : ∃ b, b = wr.heap.size := ⟨_, rfl⟩
       rw [← hb3] at hu3 ⊢
       clear hy2 my2 zy2 mu3 hb3)
    | (with_reducible refine wpList_loads (o := ⟨some 46, .load 24 (.tmp 10), _, _, _, _⟩) rfl 24 (.tmp 10) rfl b3 (0) (cs) rfl (Cells.of_holds hu3) _ Tryd.underlying24 rfl (size24' hcs) (.agg (cs).toArray) rfl ?_)
    | (go_at_call 74
       refine (IHC u3 m3).mono ?_
       rintro e w5 ⟨rfl, m5⟩
       have m4 := m3.then m5
       clear m3 m5 hu3 IHC))
  exact ⟨⟨j + 1, q + r, by go_num, by omega, rfl, by omega, by omega, n1.out, m4⟩, by simp [intOf]; omega⟩
end Go.Proofs.YtchanildogjhgaaDoor

