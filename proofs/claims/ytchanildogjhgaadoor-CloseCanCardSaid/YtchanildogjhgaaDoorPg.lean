/-
  wakes: the layer does something. My own work.
-/
import Derived.Test.YtchanildogjhgaaDoorPf
namespace Go.Proofs.YtchanildogjhgaaDoor
section
open Go.RowKit Go.Shelf
attribute [local go_sem] Oper.semAt_some
set_option linter.unusedVariables false
set_option linter.unusedSimpArgs false
def WkS (w : World) (b2 b1 : Nat) (nc kc : List Value) (ts0 : List Th) (K : List Tm) (l2 l3 : Bool) (x : List Value × Nat × Nat) (v : World) : Prop :=
  if l3 then ∃ S vs, Fm w v [oB b2 24 nc, oB b1 24 kc] (tR Any S (some ⟨x.2.1, 0, none⟩) vs K :: ts0)
  else if l2 then ∃ S, Fm w v [oB b2 24 nc, oB b1 24 kc] (tT Any S wkL x.1 :: ts0)
  else Fm w v [oB b2 24 nc, oB b1 24 kc] ts0
theorem WkS.any {w : World} {b2 b1 : Nat} {nc kc : List Value} {ts0 : List Th} {K : List Tm} {l2 l3 : Bool} {x : List Value × Nat × Nat} {v : World} (h : WkS w b2 b1 nc kc ts0 K l2 l3 x v) : ∃ ts, Fm w v [oB b2 24 nc, oB b1 24 kc] ts := by
  unfold WkS at h
  split at h
  · obtain ⟨S, vs, F⟩ := h; exact ⟨_, F⟩
  · split at h
    · obtain ⟨S, F⟩ := h; exact ⟨_, F⟩
    · exact ⟨_, h⟩
theorem WkS.blk1 {w : World} {b2 b1 : Nat} {nc kc : List Value} {ts0 : List Th} {K : List Tm} {l2 l3 : Bool} {x : List Value × Nat × Nat} {v : World} (h : WkS w b2 b1 nc kc ts0 K l2 l3 x v) : Holds v b1 24 kc := by obtain ⟨ts, F⟩ := h.any; exact F.blk 1 rfl
theorem WkS.blk2 {w : World} {b2 b1 : Nat} {nc kc : List Value} {ts0 : List Th} {K : List Tm} {l2 l3 : Bool} {x : List Value × Nat × Nat} {v : World} (h : WkS w b2 b1 nc kc ts0 K l2 l3 x v) : Holds v b2 24 nc := by obtain ⟨ts, F⟩ := h.any; exact F.blk 0 rfl
theorem rfE_of {K T : List Tm} (h1 : K.length ≤ 500) (h2 : ∀ x ∈ K, x.right = true) (h3 : ∀ x ∈ T, x.right = true) : rfE K T = 0 := by
  unfold rfE fwE
  rw [if_neg (by omega)]
  have e : K.all Tm.right = true := List.all_eq_true.2 h2
  have e2 : T.all Tm.right = true := List.all_eq_true.2 h3
  simp [e, e2]
theorem wk_rf1 : ∀ x ∈ [wkL], x.right = true := by simp [wk_right.1]
theorem wk_rf2 : ∀ x ∈ [wkL, wkK], x.right = true := by simp [wk_right.1, wk_right.2.1]
theorem wk_call36a (g : Nat) (vs : List (List Value)) (S : Nat → Prop) (nc : List Value) (Sn : Nat → Prop) (w : World) (hR : RowT w S (some ⟨g, 0, none⟩) vs [wkL]) (hS : ∀ g, S g → g < w.heap.size) (hT : TIs w Sn wkN nc) (hSn : ∀ g, Sn g → g < w.heap.size) (G : Glob w) :
    Calls Tryd.prog 36 #[.slice (some ⟨g, 0, none⟩) 1 1, .agg nc.toArray] w fun e w' => e = .returned (.tuple #[.bool false, .int .i64 0]) ∧ Mod [] w w' := by
  refine (can_ok _ 1 1 vs [wkL] S nc wkN Sn w rfl hR hT hS hSn G (rfE_of (by simp) wk_rf1 (by simp [wk_right.2.2])) (by simp [Tm.countAll, Tm.count])).mono ?_
  rintro e w' ⟨bb, rfl, hbb, m⟩
  cases bb with
  | false => exact ⟨rfl, m⟩
  | true => exact absurd (hbb.1 rfl) wk_no
theorem wk_call36b (g : Nat) (vs : List (List Value)) (S : Nat → Prop) (nc : List Value) (Sn : Nat → Prop) (w : World) (hR : RowT w S (some ⟨g, 0, none⟩) vs [wkL, wkK]) (hS : ∀ g, S g → g < w.heap.size) (hT : TIs w Sn wkN nc) (hSn : ∀ g, Sn g → g < w.heap.size) (G : Glob w) :
    Calls Tryd.prog 36 #[.slice (some ⟨g, 0, none⟩) 2 2, .agg nc.toArray] w fun e w' => e = .returned (.tuple #[.bool true, .int .i64 0]) ∧ Mod [] w w' := by
  refine (can_ok _ 2 2 vs [wkL, wkK] S nc wkN Sn w rfl hR hT hS hSn G (rfE_of (by simp) wk_rf2 (by simp [wk_right.2.2])) (by simp [Tm.countAll, Tm.count])).mono ?_
  rintro e w' ⟨bb, rfl, hbb, m⟩
  cases bb with
  | true => exact ⟨rfl, m⟩
  | false => exact absurd (hbb.2 (.weak wk_open)) (by simp)
theorem wk_call57 (g : Nat) (vs : List (List Value)) (S : Nat → Prop) (w : World) (hR : RowT w S (some ⟨g, 0, none⟩) vs [wkL, wkK]) (hS : ∀ g, S g → g < w.heap.size) (G : Glob w) :
    Calls Tryd.prog 57 #[.slice (some ⟨g, 0, none⟩) 2 2] w fun e w' => ∃ R, e = .returned (.tuple #[.slice (some ⟨R, 0, none⟩) 3 3, .int .i64 0]) ∧ Mod [] w w' := by
  refine (parts_ok _ 2 2 vs [wkL, wkK] S w rfl hR hS G (rfE_of (by simp) wk_rf2 (by simp)) (by simp [Tm.countAll, Tm.count])).mono ?_
  rintro e w' ⟨R, m, vs', l, rfl, hm, h1, h2, h3, h4, h5⟩
  have : m = 3 := hm.1.trans (wk_parts h2 h3)
  subst this
  exact ⟨R, rfl, h5⟩
set_option maxRecDepth 1000000 in
set_option maxHeartbeats 4000000 in
theorem wakes07_c (w : World) (G : Glob w) : Calls Tryd.prog 34 #[] w fun e w' => e = .returned (.bool true) ∧ Mod [] w w' := by
  have FA := Fm.nil w
  have HG := Lib.hid G
  clear G
  go_enter Tryd.func34, Tryd.ntmps34
  go_wp2_with (first
    | (go_at_call 18; refine (fresh_c 1 1 w).mono ?_
       rintro e w1 ⟨kc, rfl, hT1, m1⟩
       have hk5 := hT1.ones.1
       have hk1 := hT1.ones.2
       have F1 := FA.made m1 hT1
       clear hT1 m1 FA)
    | (go_at_call 18; refine (fresh_c 1 2 w1).mono ?_
       rintro e w2 ⟨nc, rfl, hT2, m2⟩
       have hn5 := hT2.ones.1
       have hn1 := hT2.ones.2
       have F2 := F1.made m2 hT2
       clear hT2 m2 F1)
    | (with_reducible refine fm_alloc F2 (o := ⟨some 1, .alloc 24, _, _, _, _⟩) rfl 24 rfl _ zero24 ?_; intro b1 w3 F3; clear F2)
    | (with_reducible refine fm_alloc F3 (o := ⟨some 2, .alloc 24, _, _, _, _⟩) rfl 24 rfl _ zero24 ?_; intro b2 w4 F4; clear F3)
    | (with_reducible refine fm_store F4 1 rfl (o := ⟨none, .store 24 (.tmp 1) (.tmp 9), _, _, _, _⟩) rfl (.tmp 1) (.tmp 9) rfl rfl kc rfl rfl hk5 (tmc_len _ _ _ _ _ _ _) hk1 ?_; intro w5 F5; clear F4)
    | (with_reducible refine fm_store F5 0 rfl (o := ⟨none, .store 24 (.tmp 2) (.tmp 10), _, _, _, _⟩) rfl (.tmp 2) (.tmp 10) rfl rfl nc rfl rfl hn5 (tmc_len _ _ _ _ _ _ _) hn1 ?_; intro w6 F6; clear F5))
  obtain ⟨ts0, FS, HTK, HTN⟩ : ∃ ts0, Fm w w6 [oB b2 24 nc, oB b1 24 kc] ts0 ∧ Hid (∃ L S, tT L S wkK kc ∈ ts0) ∧ Hid (∃ L S, tT L S wkN nc ∈ ts0) := ⟨_, F6, Lib.hid ⟨_, _, F6.mem 1 rfl⟩, Lib.hid ⟨_, _, F6.mem 0 rfl⟩⟩
  obtain ⟨LK, SK, HTK⟩ := HTK.out
  obtain ⟨LN, SN, HTN⟩ := HTN.out
  replace HTK := Lib.hid HTK
  replace HTN := Lib.hid HTN
  clear F6
  refine wp_region_upx (X := List Value × Nat × Nat) (⟨[], 0, 0⟩) (fun x => [(12, .agg kc.toArray), (13, .agg nc.toArray), (14, .agg x.1.toArray), (15, .slice (some ⟨x.2.1, 0, none⟩) 1 1), (16, .agg nc.toArray), (17, .tuple #[.bool false, .int .i64 0]), (11, .tuple #[.bool false, .int .i64 0]), (18, .bool false), (19, .int .i64 0), (3, .bool false), (4, .int .i64 0)]) 61 [12, 13, 14, 15, 16, 17, 11, 18, 19, 3, 4] rfl (fun _ => rfl) (by decide) (by kernel_rfl) (fun x lz v => WkS w b2 b1 nc kc ts0 [wkL] (lz 2) (lz 3) x v) (by kernel_rfl) (by simpa [WkS] using FS.call (Mod.drew [] _)) (by kernel_rfl) (by kernel_rfl) ?_ ?_
  · skip
    intro x lz T v j o hj hlj hdep hst hpar hgot hcl Kq hK
    have hjn : j < 11 := (Array.getElem?_eq_some_iff.1 hj).1
    obtain rfl | rfl | rfl | rfl | rfl | rfl | rfl | rfl | rfl | rfl | rfl : j = 0 ∨ j = 1 ∨ j = 2 ∨ j = 3 ∨ j = 4 ∨ j = 5 ∨ j = 6 ∨ j = 7 ∨ j = 8 ∨ j = 9 ∨ j = 10 := by omega
    all_goals (have hj' := Option.some.inj (hj : some _ = some o); subst hj'; clear hj)
    · exact wp_ran rfl (exec_load rfl (eval_tmp ((hpar 1 rfl).trans rfl)) (run_loads (Cells.of_holds hst.blk1) Tryd.underlying24 rfl (size24' hk5))) (hK x _ _ (fun _ _ _ _ _ _ => rfl) (fun s hs => by cases hs; rfl) (by simpa using hst))
    · exact wp_ran rfl (exec_load rfl (eval_tmp ((hpar 2 rfl).trans rfl)) (run_loads (Cells.of_holds hst.blk2) Tryd.underlying24 rfl (size24' hn5))) (hK x _ _ (fun _ _ _ _ _ _ => rfl) (fun s hs => by cases hs; rfl) (by simpa using hst))
    · have l3 : lz 3 = false := (by cases hh : lz 3 with | false => rfl | true => exact absurd (hcl 3 _ rfl hh ⟨2, .data⟩ (by simp) rfl) (by rw [hlj]; simp))
      have hst2 : Fm w v [oB b2 24 nc, oB b1 24 kc] ts0 := by simpa [WkS, hlj, l3] using hst
      refine wp_called rfl (exec_call2 rfl rfl (eval_tmp (hgot 0 _ 12 rfl (hdep ⟨0, .data⟩ (by simp) rfl) rfl)) (eval_tmp (hgot 1 _ 13 rfl (hdep ⟨1, .data⟩ (by simp) rfl) rfl)) (enters_of Tryd.func22 (by kernel_rfl) rfl)) ((lock_c wkK kc _ wkN nc _ v (hst2.ist HTK.out) (hst2.ist HTN.out)).mono ?_)
      rintro e v' ⟨lc, rfl, hT, m⟩
      refine ⟨_, rfl, hK ⟨lc, x.2.1, x.2.2⟩ _ _ (fun j' o' s' g1 g2 g3 => by
          have g4 : j' < 11 := (Array.getElem?_eq_some_iff.1 g1).1
          clear hpar hgot hdep hK
          obtain rfl | rfl | rfl | rfl | rfl | rfl | rfl | rfl | rfl | rfl | rfl : j' = 0 ∨ j' = 1 ∨ j' = 2 ∨ j' = 3 ∨ j' = 4 ∨ j' = 5 ∨ j' = 6 ∨ j' = 7 ∨ j' = 8 ∨ j' = 9 ∨ j' = 10 := by omega
          all_goals (cases g1; cases g3 <;> first | rfl | (rw [hlj] at g2; cases g2) | (rw [lq] at g2; cases g2))) (fun s hs => by cases hs; rfl) ?_⟩
      have hst3 : ∃ S, Fm w v' [oB b2 24 nc, oB b1 24 kc] (tT Any S wkL lc :: ts0) := hst2.madeL m hT (fun _ _ => trivial)
      simpa [WkS, l3] using hst3
    · have t2 : lz 2 = true := (hdep ⟨2, .data⟩ (by simp) rfl)
      have lq : lz 5 = false := (by cases hh : lz 5 with | false => rfl | true => exact absurd (hcl 5 _ rfl hh ⟨3, .data⟩ (by simp) rfl) (by rw [hlj]; simp))
      have hst2 : ∃ S, Fm w v [oB b2 24 nc, oB b1 24 kc] (tT Any S wkL x.1 :: ts0) := by simpa [WkS, hlj, t2] using hst
      obtain ⟨S1, F1⟩ := hst2
      obtain ⟨S2, F2⟩ := (F1.row1 (F1.mem 0 rfl) Any (fun _ _ => trivial) (fun _ _ => trivial))
      exact wp_ran rfl (exec_lit1 (F1.ist (F1.mem 0 rfl)).len rfl (eval_tmp (hgot 2 _ 14 rfl (hdep ⟨2, .data⟩ (by simp) rfl) rfl))) (hK ⟨x.1, v.heap.size, x.2.2⟩ _ _ (fun j' o' s' g1 g2 g3 => by
          have g4 : j' < 11 := (Array.getElem?_eq_some_iff.1 g1).1
          clear hpar hgot hdep hK
          obtain rfl | rfl | rfl | rfl | rfl | rfl | rfl | rfl | rfl | rfl | rfl : j' = 0 ∨ j' = 1 ∨ j' = 2 ∨ j' = 3 ∨ j' = 4 ∨ j' = 5 ∨ j' = 6 ∨ j' = 7 ∨ j' = 8 ∨ j' = 9 ∨ j' = 10 := by omega
          all_goals (cases g1; cases g3 <;> first | rfl | (rw [hlj] at g2; cases g2) | (rw [lq] at g2; cases g2))) (fun s hs => by cases hs; rfl) (by
        have hst3 : ∃ S vs, Fm w (v.alloc (.cells x.1.toArray 24)) [oB b2 24 nc, oB b1 24 kc] (tR Any S (some ⟨v.heap.size, 0, none⟩) vs [wkL] :: ts0) := ⟨S2, _, F2.sub (List.Sublist.refl _) (fun y hy => by
          simp only [List.mem_cons] at hy ⊢
          rcases hy with h | h
          · exact .inl h
          · exact .inr (.inr h))⟩
        simpa [WkS] using hst3))
    · exact wp_ran rfl (exec_load rfl (eval_tmp ((hpar 2 rfl).trans rfl)) (run_loads (Cells.of_holds hst.blk2) Tryd.underlying24 rfl (size24' hn5))) (hK x _ _ (fun _ _ _ _ _ _ => rfl) (fun s hs => by cases hs; rfl) (by simpa using hst))
    · have tb : lz 3 = true := (hdep ⟨3, .data⟩ (by simp) rfl)
      have hst2 : ∃ S vs, Fm w v [oB b2 24 nc, oB b1 24 kc] (tR Any S (some ⟨x.2.1, 0, none⟩) vs [wkL] :: ts0) := by simpa [WkS, tb] using hst
      obtain ⟨S1, vs1, F1⟩ := hst2
      refine wp_called rfl (exec_call2 rfl rfl (eval_tmp (hgot 3 _ 15 rfl (hdep ⟨3, .data⟩ (by simp) rfl) rfl)) (eval_tmp (hgot 4 _ 16 rfl (hdep ⟨4, .data⟩ (by simp) rfl) rfl)) (enters_of Tryd.func36 (by kernel_rfl) rfl)) ((wk_call36a x.2.1 vs1 _ nc _ v (F1.s 0 rfl).1 (F1.slt 0 rfl) (F1.ist (List.mem_cons_of_mem _ HTN.out)) (F1.ltm (List.mem_cons_of_mem _ HTN.out)) (F1.glob HG.out)).mono ?_)
      rintro e v' ⟨rfl, m⟩
      refine ⟨_, rfl, hK x _ _ (fun _ _ _ _ _ _ => rfl) (fun s hs => by cases hs; rfl) ?_⟩
      have hst3 : ∃ S vs, Fm w v' [oB b2 24 nc, oB b1 24 kc] (tR Any S (some ⟨x.2.1, 0, none⟩) vs [wkL] :: ts0) := ⟨S1, vs1, F1.call m⟩
      simpa [WkS, tb] using hst3
    · exact wp_ran rfl (exec_move rfl (eval_tmp (hgot 5 _ 17 rfl (hdep ⟨5, .data⟩ (by simp) rfl) rfl))) (hK x _ _ (fun _ _ _ _ _ _ => rfl) (fun s hs => by cases hs; rfl) (by simpa using hst))
    · exact wp_ran rfl (exec_extract0 rfl (eval_tmp (hgot 6 _ 11 rfl (hdep ⟨6, .data⟩ (by simp) rfl) rfl))) (hK x _ _ (fun _ _ _ _ _ _ => rfl) (fun s hs => by cases hs; rfl) (by simpa using hst))
    · exact wp_ran rfl (exec_extract1 rfl (eval_tmp (hgot 6 _ 11 rfl (hdep ⟨6, .data⟩ (by simp) rfl) rfl))) (hK x _ _ (fun _ _ _ _ _ _ => rfl) (fun s hs => by cases hs; rfl) (by simpa using hst))
    · exact wp_ran rfl (exec_assign rfl (eval_tmp (hgot 7 _ 18 rfl (hdep ⟨7, .data⟩ (by simp) rfl) rfl))) (hK x _ _ (fun _ _ _ _ _ _ => rfl) (fun s hs => by cases hs; rfl) (by simpa using hst))
    · exact wp_ran rfl (exec_assign rfl (eval_tmp (hgot 8 _ 19 rfl (hdep ⟨8, .data⟩ (by simp) rfl) rfl))) (hK x _ _ (fun _ _ _ _ _ _ => rfl) (fun s hs => by cases hs; rfl) (by simpa using hst))
  intro x2 lz v2 hlz hst
  have hst2 : ∃ S vs, Fm w v2 [oB b2 24 nc, oB b1 24 kc] (tR Any S (some ⟨x2.2.1, 0, none⟩) vs [wkL] :: ts0) := by simpa [WkS, hlz 3 (by decide)] using hst
  obtain ⟨S2, vs2, F2⟩ := hst2
  replace F2 := F2.sub (ts' := ts0) (List.Sublist.refl _) (fun y hy => List.mem_cons_of_mem _ hy)
  obtain ⟨lc2, g2, R2⟩ := x2
  clear hst hlz FS
  simp only [setAll, Act.put, List.foldl_cons, List.foldl_nil, List.setIfInBounds_toArray, List.set_cons_succ, List.set_cons_zero]
  go_wp2_with fail
  refine wp_region_upx (X := List Value × Nat × Nat) (⟨[], 0, 0⟩) (fun x => [(21, .agg kc.toArray), (22, .agg nc.toArray), (23, .agg x.1.toArray), (24, .agg kc.toArray), (25, .slice (some ⟨x.2.1, 0, none⟩) 2 2), (26, .agg nc.toArray), (27, .tuple #[.bool true, .int .i64 0]), (20, .tuple #[.bool true, .int .i64 0]), (28, .bool true), (29, .int .i64 0), (5, .bool true), (6, .int .i64 0)]) 61 [21, 22, 23, 24, 25, 26, 27, 20, 28, 29, 5, 6] rfl (fun _ => rfl) (by decide) (by kernel_rfl) (fun x lz v => WkS w b2 b1 nc kc ts0 [wkL, wkK] (lz 2) (lz 4) x v) (by kernel_rfl) (by simpa [WkS] using F2.call (Mod.drew [] _)) (by kernel_rfl) (by kernel_rfl) ?_ ?_
  · skip
    intro x lz T v j o hj hlj hdep hst hpar hgot hcl Kq hK
    have hjn : j < 12 := (Array.getElem?_eq_some_iff.1 hj).1
    obtain rfl | rfl | rfl | rfl | rfl | rfl | rfl | rfl | rfl | rfl | rfl | rfl : j = 0 ∨ j = 1 ∨ j = 2 ∨ j = 3 ∨ j = 4 ∨ j = 5 ∨ j = 6 ∨ j = 7 ∨ j = 8 ∨ j = 9 ∨ j = 10 ∨ j = 11 := by omega
    all_goals (have hj' := Option.some.inj (hj : some _ = some o); subst hj'; clear hj)
    · exact wp_ran rfl (exec_load rfl (eval_tmp ((hpar 1 rfl).trans rfl)) (run_loads (Cells.of_holds hst.blk1) Tryd.underlying24 rfl (size24' hk5))) (hK x _ _ (fun _ _ _ _ _ _ => rfl) (fun s hs => by cases hs; rfl) (by simpa using hst))
    · exact wp_ran rfl (exec_load rfl (eval_tmp ((hpar 2 rfl).trans rfl)) (run_loads (Cells.of_holds hst.blk2) Tryd.underlying24 rfl (size24' hn5))) (hK x _ _ (fun _ _ _ _ _ _ => rfl) (fun s hs => by cases hs; rfl) (by simpa using hst))
    · have l4 : lz 4 = false := (by cases hh : lz 4 with | false => rfl | true => exact absurd (hcl 4 _ rfl hh ⟨2, .data⟩ (by simp) rfl) (by rw [hlj]; simp))
      have hst2 : Fm w v [oB b2 24 nc, oB b1 24 kc] ts0 := by simpa [WkS, hlj, l4] using hst
      refine wp_called rfl (exec_call2 rfl rfl (eval_tmp (hgot 0 _ 21 rfl (hdep ⟨0, .data⟩ (by simp) rfl) rfl)) (eval_tmp (hgot 1 _ 22 rfl (hdep ⟨1, .data⟩ (by simp) rfl) rfl)) (enters_of Tryd.func22 (by kernel_rfl) rfl)) ((lock_c wkK kc _ wkN nc _ v (hst2.ist HTK.out) (hst2.ist HTN.out)).mono ?_)
      rintro e v' ⟨lc, rfl, hT, m⟩
      refine ⟨_, rfl, hK ⟨lc, x.2.1, x.2.2⟩ _ _ (fun j' o' s' g1 g2 g3 => by
          have g4 : j' < 12 := (Array.getElem?_eq_some_iff.1 g1).1
          clear hpar hgot hdep hK
          obtain rfl | rfl | rfl | rfl | rfl | rfl | rfl | rfl | rfl | rfl | rfl | rfl : j' = 0 ∨ j' = 1 ∨ j' = 2 ∨ j' = 3 ∨ j' = 4 ∨ j' = 5 ∨ j' = 6 ∨ j' = 7 ∨ j' = 8 ∨ j' = 9 ∨ j' = 10 ∨ j' = 11 := by omega
          all_goals (cases g1; cases g3 <;> first | rfl | (rw [hlj] at g2; cases g2) | (rw [lq] at g2; cases g2))) (fun s hs => by cases hs; rfl) ?_⟩
      have hst3 : ∃ S, Fm w v' [oB b2 24 nc, oB b1 24 kc] (tT Any S wkL lc :: ts0) := hst2.madeL m hT (fun _ _ => trivial)
      simpa [WkS, l4] using hst3
    · exact wp_ran rfl (exec_load rfl (eval_tmp ((hpar 1 rfl).trans rfl)) (run_loads (Cells.of_holds hst.blk1) Tryd.underlying24 rfl (size24' hk5))) (hK x _ _ (fun _ _ _ _ _ _ => rfl) (fun s hs => by cases hs; rfl) (by simpa using hst))
    · have t2 : lz 2 = true := (hdep ⟨2, .data⟩ (by simp) rfl)
      have lq : lz 6 = false := (by cases hh : lz 6 with | false => rfl | true => exact absurd (hcl 6 _ rfl hh ⟨4, .data⟩ (by simp) rfl) (by rw [hlj]; simp))
      have hst2 : ∃ S, Fm w v [oB b2 24 nc, oB b1 24 kc] (tT Any S wkL x.1 :: ts0) := by simpa [WkS, hlj, t2] using hst
      obtain ⟨S1, F1⟩ := hst2
      obtain ⟨S2, F2⟩ := (F1.row2 (F1.mem 0 rfl) (List.mem_cons_of_mem _ HTK.out) Any (fun _ _ => trivial) (fun _ _ => trivial) (fun _ _ => trivial))
      exact wp_ran rfl (exec_lit2 (F1.ist (F1.mem 0 rfl)).len hk5 rfl (eval_tmp (hgot 2 _ 23 rfl (hdep ⟨2, .data⟩ (by simp) rfl) rfl)) (eval_tmp (hgot 3 _ 24 rfl (hdep ⟨3, .data⟩ (by simp) rfl) rfl))) (hK ⟨x.1, v.heap.size, x.2.2⟩ _ _ (fun j' o' s' g1 g2 g3 => by
          have g4 : j' < 12 := (Array.getElem?_eq_some_iff.1 g1).1
          clear hpar hgot hdep hK
          obtain rfl | rfl | rfl | rfl | rfl | rfl | rfl | rfl | rfl | rfl | rfl | rfl : j' = 0 ∨ j' = 1 ∨ j' = 2 ∨ j' = 3 ∨ j' = 4 ∨ j' = 5 ∨ j' = 6 ∨ j' = 7 ∨ j' = 8 ∨ j' = 9 ∨ j' = 10 ∨ j' = 11 := by omega
          all_goals (cases g1; cases g3 <;> first | rfl | (rw [hlj] at g2; cases g2) | (rw [lq] at g2; cases g2))) (fun s hs => by cases hs; rfl) (by
        have hst3 : ∃ S vs, Fm w (v.alloc (.cells (x.1 ++ kc).toArray 24)) [oB b2 24 nc, oB b1 24 kc] (tR Any S (some ⟨v.heap.size, 0, none⟩) vs [wkL, wkK] :: ts0) := ⟨S2, _, F2.sub (List.Sublist.refl _) (fun y hy => by
          simp only [List.mem_cons] at hy ⊢
          rcases hy with h | h
          · exact .inl h
          · exact .inr (.inr h))⟩
        simpa [WkS] using hst3))
    · exact wp_ran rfl (exec_load rfl (eval_tmp ((hpar 2 rfl).trans rfl)) (run_loads (Cells.of_holds hst.blk2) Tryd.underlying24 rfl (size24' hn5))) (hK x _ _ (fun _ _ _ _ _ _ => rfl) (fun s hs => by cases hs; rfl) (by simpa using hst))
    · have tb : lz 4 = true := (hdep ⟨4, .data⟩ (by simp) rfl)
      have hst2 : ∃ S vs, Fm w v [oB b2 24 nc, oB b1 24 kc] (tR Any S (some ⟨x.2.1, 0, none⟩) vs [wkL, wkK] :: ts0) := by simpa [WkS, tb] using hst
      obtain ⟨S1, vs1, F1⟩ := hst2
      refine wp_called rfl (exec_call2 rfl rfl (eval_tmp (hgot 4 _ 25 rfl (hdep ⟨4, .data⟩ (by simp) rfl) rfl)) (eval_tmp (hgot 5 _ 26 rfl (hdep ⟨5, .data⟩ (by simp) rfl) rfl)) (enters_of Tryd.func36 (by kernel_rfl) rfl)) ((wk_call36b x.2.1 vs1 _ nc _ v (F1.s 0 rfl).1 (F1.slt 0 rfl) (F1.ist (List.mem_cons_of_mem _ HTN.out)) (F1.ltm (List.mem_cons_of_mem _ HTN.out)) (F1.glob HG.out)).mono ?_)
      rintro e v' ⟨rfl, m⟩
      refine ⟨_, rfl, hK x _ _ (fun _ _ _ _ _ _ => rfl) (fun s hs => by cases hs; rfl) ?_⟩
      have hst3 : ∃ S vs, Fm w v' [oB b2 24 nc, oB b1 24 kc] (tR Any S (some ⟨x.2.1, 0, none⟩) vs [wkL, wkK] :: ts0) := ⟨S1, vs1, F1.call m⟩
      simpa [WkS, tb] using hst3
    · exact wp_ran rfl (exec_move rfl (eval_tmp (hgot 6 _ 27 rfl (hdep ⟨6, .data⟩ (by simp) rfl) rfl))) (hK x _ _ (fun _ _ _ _ _ _ => rfl) (fun s hs => by cases hs; rfl) (by simpa using hst))
    · exact wp_ran rfl (exec_extract0 rfl (eval_tmp (hgot 7 _ 20 rfl (hdep ⟨7, .data⟩ (by simp) rfl) rfl))) (hK x _ _ (fun _ _ _ _ _ _ => rfl) (fun s hs => by cases hs; rfl) (by simpa using hst))
    · exact wp_ran rfl (exec_extract1 rfl (eval_tmp (hgot 7 _ 20 rfl (hdep ⟨7, .data⟩ (by simp) rfl) rfl))) (hK x _ _ (fun _ _ _ _ _ _ => rfl) (fun s hs => by cases hs; rfl) (by simpa using hst))
    · exact wp_ran rfl (exec_assign rfl (eval_tmp (hgot 8 _ 28 rfl (hdep ⟨8, .data⟩ (by simp) rfl) rfl))) (hK x _ _ (fun _ _ _ _ _ _ => rfl) (fun s hs => by cases hs; rfl) (by simpa using hst))
    · exact wp_ran rfl (exec_assign rfl (eval_tmp (hgot 9 _ 29 rfl (hdep ⟨9, .data⟩ (by simp) rfl) rfl))) (hK x _ _ (fun _ _ _ _ _ _ => rfl) (fun s hs => by cases hs; rfl) (by simpa using hst))
  intro x3 lz v3 hlz hst
  have hst2 : ∃ S vs, Fm w v3 [oB b2 24 nc, oB b1 24 kc] (tR Any S (some ⟨x3.2.1, 0, none⟩) vs [wkL, wkK] :: ts0) := by simpa [WkS, hlz 4 (by decide)] using hst
  obtain ⟨S3, vs3, F3⟩ := hst2
  replace F3 := F3.sub (ts' := ts0) (List.Sublist.refl _) (fun y hy => List.mem_cons_of_mem _ hy)
  obtain ⟨lc3, g3, R3⟩ := x3
  clear hst hlz F2
  simp only [setAll, Act.put, List.foldl_cons, List.foldl_nil, List.setIfInBounds_toArray, List.set_cons_succ, List.set_cons_zero]
  go_wp2_with fail
  refine wp_region_upx (X := List Value × Nat × Nat) (⟨[], 0, 0⟩) (fun x => [(31, .agg kc.toArray), (32, .agg nc.toArray), (33, .agg x.1.toArray), (34, .agg kc.toArray), (35, .slice (some ⟨x.2.1, 0, none⟩) 2 2), (36, .tuple #[.slice (some ⟨x.2.2, 0, none⟩) 3 3, .int .i64 0]), (30, .tuple #[.slice (some ⟨x.2.2, 0, none⟩) 3 3, .int .i64 0]), (37, .slice (some ⟨x.2.2, 0, none⟩) 3 3), (38, .int .i64 0), (7, .slice (some ⟨x.2.2, 0, none⟩) 3 3), (8, .int .i64 0)]) 61 [31, 32, 33, 34, 35, 36, 30, 37, 38, 7, 8] rfl (fun _ => rfl) (by decide) (by kernel_rfl) (fun x lz v => WkS w b2 b1 nc kc ts0 [wkL, wkK] (lz 2) (lz 4) x v) (by kernel_rfl) (by simpa [WkS] using F3.call (Mod.drew [] _)) (by kernel_rfl) (by kernel_rfl) ?_ ?_
  · skip
    intro x lz T v j o hj hlj hdep hst hpar hgot hcl Kq hK
    have hjn : j < 11 := (Array.getElem?_eq_some_iff.1 hj).1
    obtain rfl | rfl | rfl | rfl | rfl | rfl | rfl | rfl | rfl | rfl | rfl : j = 0 ∨ j = 1 ∨ j = 2 ∨ j = 3 ∨ j = 4 ∨ j = 5 ∨ j = 6 ∨ j = 7 ∨ j = 8 ∨ j = 9 ∨ j = 10 := by omega
    all_goals (have hj' := Option.some.inj (hj : some _ = some o); subst hj'; clear hj)
    · exact wp_ran rfl (exec_load rfl (eval_tmp ((hpar 1 rfl).trans rfl)) (run_loads (Cells.of_holds hst.blk1) Tryd.underlying24 rfl (size24' hk5))) (hK x _ _ (fun _ _ _ _ _ _ => rfl) (fun s hs => by cases hs; rfl) (by simpa using hst))
    · exact wp_ran rfl (exec_load rfl (eval_tmp ((hpar 2 rfl).trans rfl)) (run_loads (Cells.of_holds hst.blk2) Tryd.underlying24 rfl (size24' hn5))) (hK x _ _ (fun _ _ _ _ _ _ => rfl) (fun s hs => by cases hs; rfl) (by simpa using hst))
    · have l4 : lz 4 = false := (by cases hh : lz 4 with | false => rfl | true => exact absurd (hcl 4 _ rfl hh ⟨2, .data⟩ (by simp) rfl) (by rw [hlj]; simp))
      have hst2 : Fm w v [oB b2 24 nc, oB b1 24 kc] ts0 := by simpa [WkS, hlj, l4] using hst
      refine wp_called rfl (exec_call2 rfl rfl (eval_tmp (hgot 0 _ 31 rfl (hdep ⟨0, .data⟩ (by simp) rfl) rfl)) (eval_tmp (hgot 1 _ 32 rfl (hdep ⟨1, .data⟩ (by simp) rfl) rfl)) (enters_of Tryd.func22 (by kernel_rfl) rfl)) ((lock_c wkK kc _ wkN nc _ v (hst2.ist HTK.out) (hst2.ist HTN.out)).mono ?_)
      rintro e v' ⟨lc, rfl, hT, m⟩
      refine ⟨_, rfl, hK ⟨lc, x.2.1, x.2.2⟩ _ _ (fun j' o' s' g1 g2 g3 => by
          have g4 : j' < 11 := (Array.getElem?_eq_some_iff.1 g1).1
          clear hpar hgot hdep hK
          obtain rfl | rfl | rfl | rfl | rfl | rfl | rfl | rfl | rfl | rfl | rfl : j' = 0 ∨ j' = 1 ∨ j' = 2 ∨ j' = 3 ∨ j' = 4 ∨ j' = 5 ∨ j' = 6 ∨ j' = 7 ∨ j' = 8 ∨ j' = 9 ∨ j' = 10 := by omega
          all_goals (cases g1; cases g3 <;> first | rfl | (rw [hlj] at g2; cases g2) | (rw [lq] at g2; cases g2))) (fun s hs => by cases hs; rfl) ?_⟩
      have hst3 : ∃ S, Fm w v' [oB b2 24 nc, oB b1 24 kc] (tT Any S wkL lc :: ts0) := hst2.madeL m hT (fun _ _ => trivial)
      simpa [WkS, l4] using hst3
    · exact wp_ran rfl (exec_load rfl (eval_tmp ((hpar 1 rfl).trans rfl)) (run_loads (Cells.of_holds hst.blk1) Tryd.underlying24 rfl (size24' hk5))) (hK x _ _ (fun _ _ _ _ _ _ => rfl) (fun s hs => by cases hs; rfl) (by simpa using hst))
    · have t2 : lz 2 = true := (hdep ⟨2, .data⟩ (by simp) rfl)
      have lq : lz 5 = false := (by cases hh : lz 5 with | false => rfl | true => exact absurd (hcl 5 _ rfl hh ⟨4, .data⟩ (by simp) rfl) (by rw [hlj]; simp))
      have hst2 : ∃ S, Fm w v [oB b2 24 nc, oB b1 24 kc] (tT Any S wkL x.1 :: ts0) := by simpa [WkS, hlj, t2] using hst
      obtain ⟨S1, F1⟩ := hst2
      obtain ⟨S2, F2⟩ := (F1.row2 (F1.mem 0 rfl) (List.mem_cons_of_mem _ HTK.out) Any (fun _ _ => trivial) (fun _ _ => trivial) (fun _ _ => trivial))
      exact wp_ran rfl (exec_lit2 (F1.ist (F1.mem 0 rfl)).len hk5 rfl (eval_tmp (hgot 2 _ 33 rfl (hdep ⟨2, .data⟩ (by simp) rfl) rfl)) (eval_tmp (hgot 3 _ 34 rfl (hdep ⟨3, .data⟩ (by simp) rfl) rfl))) (hK ⟨x.1, v.heap.size, x.2.2⟩ _ _ (fun j' o' s' g1 g2 g3 => by
          have g4 : j' < 11 := (Array.getElem?_eq_some_iff.1 g1).1
          clear hpar hgot hdep hK
          obtain rfl | rfl | rfl | rfl | rfl | rfl | rfl | rfl | rfl | rfl | rfl : j' = 0 ∨ j' = 1 ∨ j' = 2 ∨ j' = 3 ∨ j' = 4 ∨ j' = 5 ∨ j' = 6 ∨ j' = 7 ∨ j' = 8 ∨ j' = 9 ∨ j' = 10 := by omega
          all_goals (cases g1; cases g3 <;> first | rfl | (rw [hlj] at g2; cases g2) | (rw [lq] at g2; cases g2))) (fun s hs => by cases hs; rfl) (by
        have hst3 : ∃ S vs, Fm w (v.alloc (.cells (x.1 ++ kc).toArray 24)) [oB b2 24 nc, oB b1 24 kc] (tR Any S (some ⟨v.heap.size, 0, none⟩) vs [wkL, wkK] :: ts0) := ⟨S2, _, F2.sub (List.Sublist.refl _) (fun y hy => by
          simp only [List.mem_cons] at hy ⊢
          rcases hy with h | h
          · exact .inl h
          · exact .inr (.inr h))⟩
        simpa [WkS] using hst3))
    · have tb : lz 4 = true := (hdep ⟨4, .data⟩ (by simp) rfl)
      have hst2 : ∃ S vs, Fm w v [oB b2 24 nc, oB b1 24 kc] (tR Any S (some ⟨x.2.1, 0, none⟩) vs [wkL, wkK] :: ts0) := by simpa [WkS, tb] using hst
      obtain ⟨S1, vs1, F1⟩ := hst2
      have l6 : lz 6 = false := (by cases hh : lz 6 with | false => rfl | true => exact absurd (hcl 6 _ rfl hh ⟨5, .data⟩ (by simp) rfl) (by rw [hlj]; simp))
      have l7 : lz 7 = false := (by cases hh : lz 7 with | false => rfl | true => exact absurd (hcl 6 _ rfl (hcl 7 _ rfl hh ⟨6, .data⟩ (by simp) rfl) ⟨5, .data⟩ (by simp) rfl) (by rw [hlj]; simp))
      have l8 : lz 8 = false := (by cases hh : lz 8 with | false => rfl | true => exact absurd (hcl 6 _ rfl (hcl 8 _ rfl hh ⟨6, .data⟩ (by simp) rfl) ⟨5, .data⟩ (by simp) rfl) (by rw [hlj]; simp))
      have l9 : lz 9 = false := (by cases hh : lz 9 with | false => rfl | true => exact absurd (hcl 9 _ rfl hh ⟨5, .chain⟩ (by simp) rfl) (by rw [hlj]; simp))
      have l10 : lz 10 = false := (by cases hh : lz 10 with | false => rfl | true => exact absurd (hcl 10 _ rfl hh ⟨5, .phase⟩ (by simp) rfl) (by rw [hlj]; simp))
      refine wp_called rfl (exec_call1 rfl rfl (eval_tmp (hgot 4 _ 35 rfl (hdep ⟨4, .data⟩ (by simp) rfl) rfl)) (enters_of Tryd.func57 (by kernel_rfl) rfl)) ((wk_call57 x.2.1 vs1 _ v (F1.s 0 rfl).1 (F1.slt 0 rfl) (F1.glob HG.out)).mono ?_)
      rintro e v' ⟨R, rfl, m⟩
      refine ⟨_, rfl, hK ⟨x.1, x.2.1, R⟩ _ _ (fun j' o' s' g1 g2 g3 => by
          have g4 : j' < 11 := (Array.getElem?_eq_some_iff.1 g1).1
          clear hpar hgot hdep hK
          obtain rfl | rfl | rfl | rfl | rfl | rfl | rfl | rfl | rfl | rfl | rfl : j' = 0 ∨ j' = 1 ∨ j' = 2 ∨ j' = 3 ∨ j' = 4 ∨ j' = 5 ∨ j' = 6 ∨ j' = 7 ∨ j' = 8 ∨ j' = 9 ∨ j' = 10 := by omega
          all_goals (cases g1; cases g3 <;> first | rfl | (rw [hlj] at g2; cases g2) | (rw [l6] at g2; cases g2) | (rw [l7] at g2; cases g2) | (rw [l8] at g2; cases g2) | (rw [l9] at g2; cases g2) | (rw [l10] at g2; cases g2))) (fun s hs => by cases hs; rfl) ?_⟩
      have hst3 : ∃ S vs, Fm w v' [oB b2 24 nc, oB b1 24 kc] (tR Any S (some ⟨x.2.1, 0, none⟩) vs [wkL, wkK] :: ts0) := ⟨S1, vs1, F1.call m⟩
      simpa [WkS, tb] using hst3
    · exact wp_ran rfl (exec_move rfl (eval_tmp (hgot 5 _ 36 rfl (hdep ⟨5, .data⟩ (by simp) rfl) rfl))) (hK x _ _ (fun _ _ _ _ _ _ => rfl) (fun s hs => by cases hs; rfl) (by simpa using hst))
    · exact wp_ran rfl (exec_extract0 rfl (eval_tmp (hgot 6 _ 30 rfl (hdep ⟨6, .data⟩ (by simp) rfl) rfl))) (hK x _ _ (fun _ _ _ _ _ _ => rfl) (fun s hs => by cases hs; rfl) (by simpa using hst))
    · exact wp_ran rfl (exec_extract1 rfl (eval_tmp (hgot 6 _ 30 rfl (hdep ⟨6, .data⟩ (by simp) rfl) rfl))) (hK x _ _ (fun _ _ _ _ _ _ => rfl) (fun s hs => by cases hs; rfl) (by simpa using hst))
    · exact wp_ran rfl (exec_assign rfl (eval_tmp (hgot 7 _ 37 rfl (hdep ⟨7, .data⟩ (by simp) rfl) rfl))) (hK x _ _ (fun _ _ _ _ _ _ => rfl) (fun s hs => by cases hs; rfl) (by simpa using hst))
    · exact wp_ran rfl (exec_assign rfl (eval_tmp (hgot 8 _ 38 rfl (hdep ⟨8, .data⟩ (by simp) rfl) rfl))) (hK x _ _ (fun _ _ _ _ _ _ => rfl) (fun s hs => by cases hs; rfl) (by simpa using hst))
  intro x4 lz v4 hlz hst
  have hst2 : ∃ S vs, Fm w v4 [oB b2 24 nc, oB b1 24 kc] (tR Any S (some ⟨x4.2.1, 0, none⟩) vs [wkL, wkK] :: ts0) := by simpa [WkS, hlz 4 (by decide)] using hst
  obtain ⟨S4, vs4, F4⟩ := hst2
  replace F4 := F4.sub (ts' := ts0) (List.Sublist.refl _) (fun y hy => List.mem_cons_of_mem _ hy)
  obtain ⟨lc4, g4, R4⟩ := x4
  clear hst hlz F3
  simp only [setAll, Act.put, List.foldl_cons, List.foldl_nil, List.setIfInBounds_toArray, List.set_cons_succ, List.set_cons_zero]
  go_wp2_with fail
  go_ret
  exact ⟨rfl, F4.m⟩
end
end Go.Proofs.YtchanildogjhgaaDoor

