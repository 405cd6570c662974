/-
  wakes of layer 9; RegressKeys. My own work.
-/
import Derived.Test.YtchanildogjhgaaDoorR2
import Derived.Test.YtchanildogjhgaaDoorRov
import Derived.Test.YtchanildogjhgaaDoorA5
import Derived.Test.YtchanildogjhgaaDoorA8
namespace Go.Proofs.YtchanildogjhgaaDoor
open Go.RowKit Go.Shelf
set_option linter.unusedVariables false
set_option linter.unusedSimpArgs false
abbrev fr11 : Tm := .mk 2 1 1 ⟨#[]⟩ []
theorem fr_back : backT fr11 8 7 = stA fr11 ∧ backE fr11 8 7 = 0 := by
  have h : (1 : Int) = 8 - 7 := by decide
  obtain ⟨e1, e2⟩ := back_in (t := fr11) (f := 8) (to := 7) (n := 1) ⟨rfl, rfl, by decide⟩ (by kernel_rfl) (by decide)
  rw [e1, e2]
  have hr : (iter stA 1 fr11).right = true := by kernel_rfl
  exact ⟨by rw [orNil, hr]; rfl, by rw [chk, hr]; rfl⟩
theorem fr_key : keyR fr11 = keyT fr11 ∧ keyE fr11 = 0 := by
  have h1 : fr11.right = true := by kernel_rfl
  have h2 : (keyT fr11).right = true := by kernel_rfl
  simp [keyR, keyE, orNil, chk, h1, h2]
theorem psame_c (a b : Tm) (ca cb : List Value) (Sa Sb : Nat → Prop) (r : Bool) (w : World) (hr : Tm.same a b = r) (hA : TIs w Sa a ca) (hB : TIs w Sb b cb) : Calls Tryd.prog 33 #[.agg ca.toArray, .agg cb.toArray] w fun e w' => e = .returned (.bool r) ∧ Mod [] w w' := by
  subst hr
  exact psame_all _ a b ca cb Sa Sb w (Nat.le_refl _) hA hB
theorem rsame_c (a b : Tm) (ca cb : List Value) (Sa Sb : Nat → Prop) (r : Bool) (w : World) (hr : Tm.same a b = r) (hA : TIs w Sa a ca) (hB : TIs w Sb b cb) : Calls Tryd.prog 15 #[.agg ca.toArray, .agg cb.toArray] w fun e w' => e = .returned (.bool r) ∧ Mod [] w w' := by
  subst hr
  exact rsame_all _ a b ca cb Sa Sb w (Nat.le_refl _) hA hB
theorem same_rfl (a : Tm) : Tm.same a a = true := (Tm.same_iff a a).2 rfl
set_option maxRecDepth 1000000 in
set_option maxHeartbeats 4000000 in
theorem wakes9_c (w : World) (G : Glob w) : Calls Tryd.prog 42 #[] w fun e w' => e = .returned (.bool true) ∧ Mod [] w w' := by
  have FA := Fm.nil w
  have ST := fun cs S v h1 h2 h3 => state_c fr11 cs S v h1 h2 h3 7
  have KY := fun cs S v h1 h2 h3 => key_c fr11 cs S v h1 h2 h3
  rw [fr_back.1, fr_back.2] at ST
  rw [fr_key.1, fr_key.2] at KY
  go_enter Tryd.func42, Tryd.ntmps42
  go_wp2_with (first
    | (go_at_call 18; refine (fresh_c 1 1 w).mono ?_
       rintro e w1 ⟨c1, rfl, h1, m1⟩
       have hc1 := h1.ones
       have F1 := FA.made m1 h1
       clear h1 m1 FA)
    | (with_reducible refine fm_alloc F1 (o := ⟨some 1, .alloc 24, _, _, _, _⟩) rfl 24 rfl _ zero24 ?_; intro b2 w2 F2; clear F1)
    | (with_reducible refine fm_store F2 0 rfl (o := ⟨none, .store 24 (.tmp 1) (.tmp 6), _, _, _, _⟩) rfl (.tmp 1) (.tmp 6) rfl rfl (c1) rfl rfl hc1.1 (tmc_len _ _ _ _ _ _ _) hc1.2 ?_; intro w3 F3; clear F2)
    | (with_reducible refine fm_load F3 0 rfl (o := ⟨some 8, .load 24 (.tmp 1), _, _, _, _⟩) rfl (.tmp 1) rfl rfl hc1.1 ?_)
    | (go_at_call 44; refine (ST _ _ w3 (F3.ist (F3.mem 0 rfl)) (F3.ltm (F3.mem 0 rfl)) (F3.glob G)).mono ?_
       rintro e w4 ⟨c4, rfl, h4, m4⟩
       have hc4 := h4.ones
       have F4 := F3.made m4 h4
       clear h4 m4
       clear F3)
    | (with_reducible refine fm_alloc F4 (o := ⟨some 2, .alloc 24, _, _, _, _⟩) rfl 24 rfl _ zero24 ?_; intro b5 w5 F5; clear F4)
    | (with_reducible refine fm_store F5 0 rfl (o := ⟨none, .store 24 (.tmp 2) (.tmp 10), _, _, _, _⟩) rfl (.tmp 2) (.tmp 10) rfl rfl (c4) rfl rfl hc4.1 (tmc_len _ _ _ _ _ _ _) hc4.2 ?_; intro w6 F6; clear F5)
    | (with_reducible refine fm_load F6 1 rfl (o := ⟨some 13, .load 24 (.tmp 1), _, _, _, _⟩) rfl (.tmp 1) rfl rfl hc1.1 ?_)
    | (go_at_call 47; refine (KY _ _ w6 (F6.ist (F6.mem 1 rfl)) (F6.ltm (F6.mem 1 rfl)) (F6.glob G)).mono ?_
       rintro e w7 ⟨c7, rfl, h7, m7⟩
       have hc7 := h7.ones
       have F7 := F6.made m7 h7
       clear h7 m7
       clear F6)
    | (with_reducible refine fm_alloc F7 (o := ⟨some 4, .alloc 24, _, _, _, _⟩) rfl 24 rfl _ zero24 ?_; intro b8 w8 F8; clear F7)
    | (with_reducible refine fm_store F8 0 rfl (o := ⟨none, .store 24 (.tmp 4) (.tmp 15), _, _, _, _⟩) rfl (.tmp 4) (.tmp 15) rfl rfl (c7) rfl rfl hc7.1 (tmc_len _ _ _ _ _ _ _) hc7.2 ?_; intro w9 F9; clear F8))
  obtain ⟨Ts10, hTs10, FZ⟩ := (F9.call (Mod.drew [] w9)).name
  have in0 := F9.mem 0 rfl
  have in1 := F9.mem 1 rfl
  have in2 := F9.mem 2 rfl
  rw [← hTs10] at in0
  rw [← hTs10] at in1
  rw [← hTs10] at in2
  refine wp_region_upxd (X := (Nat → List Value) × (Nat → Nat)) (fun _ => [], fun _ => 0) (fun x => [(17, .int .i64 0), (18, .bool true), (19, .bool true), (20, .int .i64 0), (21, .bool true), (22, .bool true), (23, .bool true), (24, .agg (c4).toArray), (25, .agg ((x.1 8)).toArray), (26, .agg (c1).toArray), (27, .agg ((x.1 10)).toArray), (28, .agg ((x.1 11)).toArray), (29, .bool true), (30, .bool true), (31, .bool true), (32, .agg (c7).toArray), (33, .agg ((x.1 16)).toArray), (34, .agg (c1).toArray), (35, .agg ((x.1 18)).toArray), (36, .agg ((x.1 19)).toArray), (37, .bool true), (38, .bool true), (0, .bool true)]) 39 [17, 18, 19, 20, 21, 22, 23, 24, 25, 26, 27, 28, 29, 30, 31, 32, 33, 34, 35, 36, 37, 38, 0] rfl (fun _ => rfl) (by decide) (by kernel_rfl) (fun x lz v => ∃ ts, Fm w v [oB b8 24 (c7), oB b5 24 (c4), oB b2 24 (c1)] ts ∧ Ts10 ⊆ ts ∧ (lz 8 = true → ∃ Sx, tT (Up w.heap.size) Sx ((.mk 1 0 0 wState [])) (x.1 8) ∈ ts) ∧ (lz 10 = true → ∃ Sx, tT (Up w.heap.size) Sx ((.mk 4 0 0 ⟨#[]⟩ [(.mk 1 0 0 wState []), (.mk 2 1 1 ⟨#[]⟩ [])])) (x.1 10) ∈ ts) ∧ (lz 11 = true → ∃ Sx, tT (Up w.heap.size) Sx ((hdT wState fr11)) (x.1 11) ∈ ts) ∧ (lz 16 = true → ∃ Sx, tT (Up w.heap.size) Sx ((.mk 1 0 0 wKey [])) (x.1 16) ∈ ts) ∧ (lz 18 = true → ∃ Sx, tT (Up w.heap.size) Sx ((.mk 4 0 0 ⟨#[]⟩ [(.mk 1 0 0 wKey []), (.mk 2 1 1 ⟨#[]⟩ [])])) (x.1 18) ∈ ts) ∧ (lz 19 = true → ∃ Sx, tT (Up w.heap.size) Sx ((hdT wKey fr11)) (x.1 19) ∈ ts)) (by kernel_rfl) ⟨_, FZ, List.Subset.refl _, (fun h => by cases h), (fun h => by cases h), (fun h => by cases h), (fun h => by cases h), (fun h => by cases h), (fun h => by cases h)⟩ (by kernel_rfl) (by kernel_rfl) ?step ?fin
  case step =>
    intro x lz T v j o hj hlj hdep hst hpar hgot hcl hdf Kq hK
    have hjn : j < 23 := (Array.getElem?_eq_some_iff.1 hj).1
    obtain rfl | rfl | rfl | rfl | rfl | rfl | rfl | rfl | rfl | rfl | rfl | rfl | rfl | rfl | rfl | rfl | rfl | rfl | rfl | rfl | rfl | rfl | rfl : j = 0 ∨ j = 1 ∨ j = 2 ∨ j = 3 ∨ j = 4 ∨ j = 5 ∨ j = 6 ∨ j = 7 ∨ j = 8 ∨ j = 9 ∨ j = 10 ∨ j = 11 ∨ j = 12 ∨ j = 13 ∨ j = 14 ∨ j = 15 ∨ j = 16 ∨ j = 17 ∨ j = 18 ∨ j = 19 ∨ j = 20 ∨ j = 21 ∨ j = 22 := by omega
    all_goals (have hj' := Option.some.inj (hj : some _ = some o); subst hj'; clear hj)
    · exact wp_ran rfl (exec_move rfl (eval_tmp ((hpar 3 rfl).trans rfl))) (hK x _ _ (fun _ _ _ _ _ _ => rfl) (fun s hs => by cases hs; rfl) (by simpa using hst))
    · exact wp_ran rfl (exec_eqi (rfl) rfl (eval_tmp (hgot 0 _ 17 rfl (hdep ⟨0, .data⟩ (by simp) rfl) rfl)) rfl) (hK x _ _ (fun _ _ _ _ _ _ => rfl) (fun s hs => by cases hs; rfl) (by simpa using hst))
    · exact wp_ran rfl (exec_move rfl (eval_tmp (hgot 1 _ 18 rfl (hdep ⟨1, .data⟩ (by simp) rfl) rfl))) (hK x _ _ (fun _ _ _ _ _ _ => rfl) (fun s hs => by cases hs; rfl) (by simpa using hst))
    · exact wp_ranW (wanted_yes rfl rfl rfl (hgot 2 _ 19 rfl (hdep ⟨2, .guard⟩ (by simp) rfl) rfl)) (exec_move rfl (eval_tmp ((hpar 5 rfl).trans rfl))) (hK x _ _ (fun _ _ _ _ _ _ => rfl) (fun s hs => by cases hs; rfl) (by simpa using hst))
    · exact wp_ranW (wanted_yes rfl rfl rfl (hgot 2 _ 19 rfl (hdep ⟨2, .guard⟩ (by simp) rfl) rfl)) (exec_eqi (rfl) rfl (eval_tmp (hgot 3 _ 20 rfl (hdep ⟨3, .data⟩ (by simp) rfl) rfl)) rfl) (hK x _ _ (fun _ _ _ _ _ _ => rfl) (fun s hs => by cases hs; rfl) (by simpa using hst))
    · exact wp_ran rfl (exec_pick rfl (eval_tmp (hgot 2 _ 19 rfl (hdep ⟨2, .data⟩ (by simp) rfl) rfl)) (eval_tmp (hgot 4 _ 21 rfl (hdep ⟨4, .data⟩ (by simp) rfl) rfl)) rfl rfl) (hK x _ _ (fun _ _ _ _ _ _ => rfl) (fun s hs => by cases hs; rfl) (by simpa using hst))
    · exact wp_ran rfl (exec_move rfl (eval_tmp (hgot 5 _ 22 rfl (hdep ⟨5, .data⟩ (by simp) rfl) rfl))) (hK x _ _ (fun _ _ _ _ _ _ => rfl) (fun s hs => by cases hs; rfl) (by simpa using hst))
    · obtain ⟨ts, FT, hts⟩ := hst
      have hL := FT.blk 1 rfl
      exact wp_ranW (wanted_yes rfl rfl rfl (hgot 6 _ 23 rfl (hdep ⟨6, .guard⟩ (by simp) rfl) rfl)) (exec_load rfl (eval_tmp ((hpar 2 rfl).trans rfl)) (run_loads (Cells.of_holds hL) Tryd.underlying24 rfl (size24' hc4.1))) (hK x _ _ (fun _ _ _ _ _ _ => rfl) (fun s hs => by cases hs; rfl) (by simpa using (show ∃ ts, _ from ⟨ts, FT, hts⟩)))
    · obtain ⟨ts, FT, hs, g8, g10, g11, g16, g18, g19⟩ := hst
      refine wp_calledW (wanted_yes rfl rfl rfl (hgot 6 _ 23 rfl (hdep ⟨6, .guard⟩ (by simp) rfl) rfl)) (exec_call1 rfl rfl rfl (enters_of Tryd.func16 (by kernel_rfl) rfl)) ((text_c wState (by decide) v).mono ?_)
      rintro e v' ⟨cs, rfl, hT, m⟩
      have FT' := FT.made m hT
      refine ⟨_, rfl, hK (fun i => if i = 8 then cs else x.1 i, x.2) _ _ (fun j' o' s' q1 q2 q3 => by
          have q4 : j' < 23 := (Array.getElem?_eq_some_iff.1 q1).1
          clear hpar hgot hdep hK
          obtain rfl | rfl | rfl | rfl | rfl | rfl | rfl | rfl | rfl | rfl | rfl | rfl | rfl | rfl | rfl | rfl | rfl | rfl | rfl | rfl | rfl | rfl | rfl : j' = 0 ∨ j' = 1 ∨ j' = 2 ∨ j' = 3 ∨ j' = 4 ∨ j' = 5 ∨ j' = 6 ∨ j' = 7 ∨ j' = 8 ∨ j' = 9 ∨ j' = 10 ∨ j' = 11 ∨ j' = 12 ∨ j' = 13 ∨ j' = 14 ∨ j' = 15 ∨ j' = 16 ∨ j' = 17 ∨ j' = 18 ∨ j' = 19 ∨ j' = 20 ∨ j' = 21 ∨ j' = 22 := by omega
          all_goals (cases q1; cases q3 <;> first | rfl | (rw [hlj] at q2; cases q2))) (fun s hs => by cases hs; rfl) ?_⟩
      refine ⟨_, (by simpa using FT'), (fun y hy => List.mem_cons_of_mem _ (hs hy)), (fun _ => ⟨_, List.mem_cons_self ..⟩), (fun h => by obtain ⟨Sx, h⟩ := g10 (by simpa using h); exact ⟨Sx, List.mem_cons_of_mem _ h⟩), (fun h => by obtain ⟨Sx, h⟩ := g11 (by simpa using h); exact ⟨Sx, List.mem_cons_of_mem _ h⟩), (fun h => by obtain ⟨Sx, h⟩ := g16 (by simpa using h); exact ⟨Sx, List.mem_cons_of_mem _ h⟩), (fun h => by obtain ⟨Sx, h⟩ := g18 (by simpa using h); exact ⟨Sx, List.mem_cons_of_mem _ h⟩), (fun h => by obtain ⟨Sx, h⟩ := g19 (by simpa using h); exact ⟨Sx, List.mem_cons_of_mem _ h⟩)⟩
    · obtain ⟨ts, FT, hts⟩ := hst
      have hL := FT.blk 2 rfl
      exact wp_ranW (wanted_yes rfl rfl rfl (hgot 6 _ 23 rfl (hdep ⟨6, .guard⟩ (by simp) rfl) rfl)) (exec_load rfl (eval_tmp ((hpar 1 rfl).trans rfl)) (run_loads (Cells.of_holds hL) Tryd.underlying24 rfl (size24' hc1.1))) (hK x _ _ (fun _ _ _ _ _ _ => rfl) (fun s hs => by cases hs; rfl) (by simpa using (show ∃ ts, _ from ⟨ts, FT, hts⟩)))
    · obtain ⟨ts, FT, hs, g8, g10, g11, g16, g18, g19⟩ := hst
      obtain ⟨S8, e8⟩ := g8 (hdep ⟨8, .data⟩ (by simp) rfl)
      refine wp_calledW (wanted_yes rfl rfl rfl (hgot 6 _ 23 rfl (hdep ⟨6, .guard⟩ (by simp) rfl) rfl)) (exec_call2 rfl rfl (eval_tmp (hgot 8 _ 25 rfl (hdep ⟨8, .data⟩ (by simp) rfl) rfl)) (eval_tmp (hgot 9 _ 26 rfl (hdep ⟨9, .data⟩ (by simp) rfl) rfl)) (enters_of Tryd.func20 (by kernel_rfl) rfl)) ((pair_c _ _ _ _ _ _ v (FT.ist e8) (FT.ist (hs in2))).mono ?_)
      rintro e v' ⟨cs, rfl, hT, m⟩
      have FT' := FT.made m hT
      refine ⟨_, rfl, hK (fun i => if i = 10 then cs else x.1 i, x.2) _ _ (fun j' o' s' q1 q2 q3 => by
          have q4 : j' < 23 := (Array.getElem?_eq_some_iff.1 q1).1
          clear hpar hgot hdep hK
          obtain rfl | rfl | rfl | rfl | rfl | rfl | rfl | rfl | rfl | rfl | rfl | rfl | rfl | rfl | rfl | rfl | rfl | rfl | rfl | rfl | rfl | rfl | rfl : j' = 0 ∨ j' = 1 ∨ j' = 2 ∨ j' = 3 ∨ j' = 4 ∨ j' = 5 ∨ j' = 6 ∨ j' = 7 ∨ j' = 8 ∨ j' = 9 ∨ j' = 10 ∨ j' = 11 ∨ j' = 12 ∨ j' = 13 ∨ j' = 14 ∨ j' = 15 ∨ j' = 16 ∨ j' = 17 ∨ j' = 18 ∨ j' = 19 ∨ j' = 20 ∨ j' = 21 ∨ j' = 22 := by omega
          all_goals (cases q1; cases q3 <;> first | rfl | (rw [hlj] at q2; cases q2))) (fun s hs => by cases hs; rfl) ?_⟩
      refine ⟨_, (by simpa using FT'), (fun y hy => List.mem_cons_of_mem _ (hs hy)), (fun h => by obtain ⟨Sx, h⟩ := g8 (by simpa using h); exact ⟨Sx, List.mem_cons_of_mem _ h⟩), (fun _ => ⟨_, List.mem_cons_self ..⟩), (fun h => by obtain ⟨Sx, h⟩ := g11 (by simpa using h); exact ⟨Sx, List.mem_cons_of_mem _ h⟩), (fun h => by obtain ⟨Sx, h⟩ := g16 (by simpa using h); exact ⟨Sx, List.mem_cons_of_mem _ h⟩), (fun h => by obtain ⟨Sx, h⟩ := g18 (by simpa using h); exact ⟨Sx, List.mem_cons_of_mem _ h⟩), (fun h => by obtain ⟨Sx, h⟩ := g19 (by simpa using h); exact ⟨Sx, List.mem_cons_of_mem _ h⟩)⟩
    · obtain ⟨ts, FT, hs, g8, g10, g11, g16, g18, g19⟩ := hst
      obtain ⟨S10, e10⟩ := g10 (hdep ⟨10, .data⟩ (by simp) rfl)
      refine wp_calledW (wanted_yes rfl rfl rfl (hgot 6 _ 23 rfl (hdep ⟨6, .guard⟩ (by simp) rfl) rfl)) (exec_call1 rfl rfl (eval_tmp (hgot 10 _ 27 rfl (hdep ⟨10, .data⟩ (by simp) rfl) rfl)) (enters_of Tryd.func23 (by kernel_rfl) rfl)) ((hash_c _ _ _ v (FT.ist e10)).mono ?_)
      rintro e v' ⟨cs, rfl, hT, m⟩
      have FT' := FT.made m hT
      refine ⟨_, rfl, hK (fun i => if i = 11 then cs else x.1 i, x.2) _ _ (fun j' o' s' q1 q2 q3 => by
          have q4 : j' < 23 := (Array.getElem?_eq_some_iff.1 q1).1
          clear hpar hgot hdep hK
          obtain rfl | rfl | rfl | rfl | rfl | rfl | rfl | rfl | rfl | rfl | rfl | rfl | rfl | rfl | rfl | rfl | rfl | rfl | rfl | rfl | rfl | rfl | rfl : j' = 0 ∨ j' = 1 ∨ j' = 2 ∨ j' = 3 ∨ j' = 4 ∨ j' = 5 ∨ j' = 6 ∨ j' = 7 ∨ j' = 8 ∨ j' = 9 ∨ j' = 10 ∨ j' = 11 ∨ j' = 12 ∨ j' = 13 ∨ j' = 14 ∨ j' = 15 ∨ j' = 16 ∨ j' = 17 ∨ j' = 18 ∨ j' = 19 ∨ j' = 20 ∨ j' = 21 ∨ j' = 22 := by omega
          all_goals (cases q1; cases q3 <;> first | rfl | (rw [hlj] at q2; cases q2))) (fun s hs => by cases hs; rfl) ?_⟩
      refine ⟨_, (by simpa using FT'), (fun y hy => List.mem_cons_of_mem _ (hs hy)), (fun h => by obtain ⟨Sx, h⟩ := g8 (by simpa using h); exact ⟨Sx, List.mem_cons_of_mem _ h⟩), (fun h => by obtain ⟨Sx, h⟩ := g10 (by simpa using h); exact ⟨Sx, List.mem_cons_of_mem _ h⟩), (fun _ => ⟨_, List.mem_cons_self ..⟩), (fun h => by obtain ⟨Sx, h⟩ := g16 (by simpa using h); exact ⟨Sx, List.mem_cons_of_mem _ h⟩), (fun h => by obtain ⟨Sx, h⟩ := g18 (by simpa using h); exact ⟨Sx, List.mem_cons_of_mem _ h⟩), (fun h => by obtain ⟨Sx, h⟩ := g19 (by simpa using h); exact ⟨Sx, List.mem_cons_of_mem _ h⟩)⟩
    · obtain ⟨ts, FT, hs, g8, g10, g11, g16, g18, g19⟩ := hst
      obtain ⟨S11, e11⟩ := g11 (hdep ⟨11, .data⟩ (by simp) rfl)
      refine wp_calledW (wanted_yes rfl rfl rfl (hgot 6 _ 23 rfl (hdep ⟨6, .guard⟩ (by simp) rfl) rfl)) (exec_call2 rfl rfl (eval_tmp (hgot 7 _ 24 rfl (hdep ⟨7, .data⟩ (by simp) rfl) rfl)) (eval_tmp (hgot 11 _ 28 rfl (hdep ⟨11, .data⟩ (by simp) rfl) rfl)) (enters_of Tryd.func33 (by kernel_rfl) rfl)) ((psame_c _ _ _ _ _ _ true v (same_rfl _) (FT.ist (hs in1)) (FT.ist e11)).mono ?_)
      rintro e v' ⟨rfl, m⟩
      refine ⟨_, rfl, hK x _ _ (fun _ _ _ _ _ _ => rfl) (fun s hs => by cases hs; rfl) ?_⟩
      exact ⟨_, (by simpa using FT.call m), hs, (by simpa using g8), (by simpa using g10), (by simpa using g11), (by simpa using g16), (by simpa using g18), (by simpa using g19)⟩
    · exact wp_ran rfl (exec_pick rfl (eval_tmp (hgot 6 _ 23 rfl (hdep ⟨6, .data⟩ (by simp) rfl) rfl)) (eval_tmp (hgot 12 _ 29 rfl (hdep ⟨12, .data⟩ (by simp) rfl) rfl)) rfl rfl) (hK x _ _ (fun _ _ _ _ _ _ => rfl) (fun s hs => by cases hs; rfl) (by simpa using hst))
    · exact wp_ran rfl (exec_move rfl (eval_tmp (hgot 13 _ 30 rfl (hdep ⟨13, .data⟩ (by simp) rfl) rfl))) (hK x _ _ (fun _ _ _ _ _ _ => rfl) (fun s hs => by cases hs; rfl) (by simpa using hst))
    · obtain ⟨ts, FT, hts⟩ := hst
      have hL := FT.blk 0 rfl
      exact wp_ranW (wanted_yes rfl rfl rfl (hgot 14 _ 31 rfl (hdep ⟨14, .guard⟩ (by simp) rfl) rfl)) (exec_load rfl (eval_tmp ((hpar 4 rfl).trans rfl)) (run_loads (Cells.of_holds hL) Tryd.underlying24 rfl (size24' hc7.1))) (hK x _ _ (fun _ _ _ _ _ _ => rfl) (fun s hs => by cases hs; rfl) (by simpa using (show ∃ ts, _ from ⟨ts, FT, hts⟩)))
    · obtain ⟨ts, FT, hs, g8, g10, g11, g16, g18, g19⟩ := hst
      refine wp_calledW (wanted_yes rfl rfl rfl (hgot 14 _ 31 rfl (hdep ⟨14, .guard⟩ (by simp) rfl) rfl)) (exec_call1 rfl rfl rfl (enters_of Tryd.func16 (by kernel_rfl) rfl)) ((text_c wKey (by decide) v).mono ?_)
      rintro e v' ⟨cs, rfl, hT, m⟩
      have FT' := FT.made m hT
      refine ⟨_, rfl, hK (fun i => if i = 16 then cs else x.1 i, x.2) _ _ (fun j' o' s' q1 q2 q3 => by
          have q4 : j' < 23 := (Array.getElem?_eq_some_iff.1 q1).1
          clear hpar hgot hdep hK
          obtain rfl | rfl | rfl | rfl | rfl | rfl | rfl | rfl | rfl | rfl | rfl | rfl | rfl | rfl | rfl | rfl | rfl | rfl | rfl | rfl | rfl | rfl | rfl : j' = 0 ∨ j' = 1 ∨ j' = 2 ∨ j' = 3 ∨ j' = 4 ∨ j' = 5 ∨ j' = 6 ∨ j' = 7 ∨ j' = 8 ∨ j' = 9 ∨ j' = 10 ∨ j' = 11 ∨ j' = 12 ∨ j' = 13 ∨ j' = 14 ∨ j' = 15 ∨ j' = 16 ∨ j' = 17 ∨ j' = 18 ∨ j' = 19 ∨ j' = 20 ∨ j' = 21 ∨ j' = 22 := by omega
          all_goals (cases q1; cases q3 <;> first | rfl | (rw [hlj] at q2; cases q2))) (fun s hs => by cases hs; rfl) ?_⟩
      refine ⟨_, (by simpa using FT'), (fun y hy => List.mem_cons_of_mem _ (hs hy)), (fun h => by obtain ⟨Sx, h⟩ := g8 (by simpa using h); exact ⟨Sx, List.mem_cons_of_mem _ h⟩), (fun h => by obtain ⟨Sx, h⟩ := g10 (by simpa using h); exact ⟨Sx, List.mem_cons_of_mem _ h⟩), (fun h => by obtain ⟨Sx, h⟩ := g11 (by simpa using h); exact ⟨Sx, List.mem_cons_of_mem _ h⟩), (fun _ => ⟨_, List.mem_cons_self ..⟩), (fun h => by obtain ⟨Sx, h⟩ := g18 (by simpa using h); exact ⟨Sx, List.mem_cons_of_mem _ h⟩), (fun h => by obtain ⟨Sx, h⟩ := g19 (by simpa using h); exact ⟨Sx, List.mem_cons_of_mem _ h⟩)⟩
    · obtain ⟨ts, FT, hts⟩ := hst
      have hL := FT.blk 2 rfl
      exact wp_ranW (wanted_yes rfl rfl rfl (hgot 14 _ 31 rfl (hdep ⟨14, .guard⟩ (by simp) rfl) rfl)) (exec_load rfl (eval_tmp ((hpar 1 rfl).trans rfl)) (run_loads (Cells.of_holds hL) Tryd.underlying24 rfl (size24' hc1.1))) (hK x _ _ (fun _ _ _ _ _ _ => rfl) (fun s hs => by cases hs; rfl) (by simpa using (show ∃ ts, _ from ⟨ts, FT, hts⟩)))
    · obtain ⟨ts, FT, hs, g8, g10, g11, g16, g18, g19⟩ := hst
      obtain ⟨S16, e16⟩ := g16 (hdep ⟨16, .data⟩ (by simp) rfl)
      refine wp_calledW (wanted_yes rfl rfl rfl (hgot 14 _ 31 rfl (hdep ⟨14, .guard⟩ (by simp) rfl) rfl)) (exec_call2 rfl rfl (eval_tmp (hgot 16 _ 33 rfl (hdep ⟨16, .data⟩ (by simp) rfl) rfl)) (eval_tmp (hgot 17 _ 34 rfl (hdep ⟨17, .data⟩ (by simp) rfl) rfl)) (enters_of Tryd.func20 (by kernel_rfl) rfl)) ((pair_c _ _ _ _ _ _ v (FT.ist e16) (FT.ist (hs in2))).mono ?_)
      rintro e v' ⟨cs, rfl, hT, m⟩
      have FT' := FT.made m hT
      refine ⟨_, rfl, hK (fun i => if i = 18 then cs else x.1 i, x.2) _ _ (fun j' o' s' q1 q2 q3 => by
          have q4 : j' < 23 := (Array.getElem?_eq_some_iff.1 q1).1
          clear hpar hgot hdep hK
          obtain rfl | rfl | rfl | rfl | rfl | rfl | rfl | rfl | rfl | rfl | rfl | rfl | rfl | rfl | rfl | rfl | rfl | rfl | rfl | rfl | rfl | rfl | rfl : j' = 0 ∨ j' = 1 ∨ j' = 2 ∨ j' = 3 ∨ j' = 4 ∨ j' = 5 ∨ j' = 6 ∨ j' = 7 ∨ j' = 8 ∨ j' = 9 ∨ j' = 10 ∨ j' = 11 ∨ j' = 12 ∨ j' = 13 ∨ j' = 14 ∨ j' = 15 ∨ j' = 16 ∨ j' = 17 ∨ j' = 18 ∨ j' = 19 ∨ j' = 20 ∨ j' = 21 ∨ j' = 22 := by omega
          all_goals (cases q1; cases q3 <;> first | rfl | (rw [hlj] at q2; cases q2))) (fun s hs => by cases hs; rfl) ?_⟩
      refine ⟨_, (by simpa using FT'), (fun y hy => List.mem_cons_of_mem _ (hs hy)), (fun h => by obtain ⟨Sx, h⟩ := g8 (by simpa using h); exact ⟨Sx, List.mem_cons_of_mem _ h⟩), (fun h => by obtain ⟨Sx, h⟩ := g10 (by simpa using h); exact ⟨Sx, List.mem_cons_of_mem _ h⟩), (fun h => by obtain ⟨Sx, h⟩ := g11 (by simpa using h); exact ⟨Sx, List.mem_cons_of_mem _ h⟩), (fun h => by obtain ⟨Sx, h⟩ := g16 (by simpa using h); exact ⟨Sx, List.mem_cons_of_mem _ h⟩), (fun _ => ⟨_, List.mem_cons_self ..⟩), (fun h => by obtain ⟨Sx, h⟩ := g19 (by simpa using h); exact ⟨Sx, List.mem_cons_of_mem _ h⟩)⟩
    · obtain ⟨ts, FT, hs, g8, g10, g11, g16, g18, g19⟩ := hst
      obtain ⟨S18, e18⟩ := g18 (hdep ⟨18, .data⟩ (by simp) rfl)
      refine wp_calledW (wanted_yes rfl rfl rfl (hgot 14 _ 31 rfl (hdep ⟨14, .guard⟩ (by simp) rfl) rfl)) (exec_call1 rfl rfl (eval_tmp (hgot 18 _ 35 rfl (hdep ⟨18, .data⟩ (by simp) rfl) rfl)) (enters_of Tryd.func23 (by kernel_rfl) rfl)) ((hash_c _ _ _ v (FT.ist e18)).mono ?_)
      rintro e v' ⟨cs, rfl, hT, m⟩
      have FT' := FT.made m hT
      refine ⟨_, rfl, hK (fun i => if i = 19 then cs else x.1 i, x.2) _ _ (fun j' o' s' q1 q2 q3 => by
          have q4 : j' < 23 := (Array.getElem?_eq_some_iff.1 q1).1
          clear hpar hgot hdep hK
          obtain rfl | rfl | rfl | rfl | rfl | rfl | rfl | rfl | rfl | rfl | rfl | rfl | rfl | rfl | rfl | rfl | rfl | rfl | rfl | rfl | rfl | rfl | rfl : j' = 0 ∨ j' = 1 ∨ j' = 2 ∨ j' = 3 ∨ j' = 4 ∨ j' = 5 ∨ j' = 6 ∨ j' = 7 ∨ j' = 8 ∨ j' = 9 ∨ j' = 10 ∨ j' = 11 ∨ j' = 12 ∨ j' = 13 ∨ j' = 14 ∨ j' = 15 ∨ j' = 16 ∨ j' = 17 ∨ j' = 18 ∨ j' = 19 ∨ j' = 20 ∨ j' = 21 ∨ j' = 22 := by omega
          all_goals (cases q1; cases q3 <;> first | rfl | (rw [hlj] at q2; cases q2))) (fun s hs => by cases hs; rfl) ?_⟩
      refine ⟨_, (by simpa using FT'), (fun y hy => List.mem_cons_of_mem _ (hs hy)), (fun h => by obtain ⟨Sx, h⟩ := g8 (by simpa using h); exact ⟨Sx, List.mem_cons_of_mem _ h⟩), (fun h => by obtain ⟨Sx, h⟩ := g10 (by simpa using h); exact ⟨Sx, List.mem_cons_of_mem _ h⟩), (fun h => by obtain ⟨Sx, h⟩ := g11 (by simpa using h); exact ⟨Sx, List.mem_cons_of_mem _ h⟩), (fun h => by obtain ⟨Sx, h⟩ := g16 (by simpa using h); exact ⟨Sx, List.mem_cons_of_mem _ h⟩), (fun h => by obtain ⟨Sx, h⟩ := g18 (by simpa using h); exact ⟨Sx, List.mem_cons_of_mem _ h⟩), (fun _ => ⟨_, List.mem_cons_self ..⟩)⟩
    · obtain ⟨ts, FT, hs, g8, g10, g11, g16, g18, g19⟩ := hst
      obtain ⟨S19, e19⟩ := g19 (hdep ⟨19, .data⟩ (by simp) rfl)
      refine wp_calledW (wanted_yes rfl rfl rfl (hgot 14 _ 31 rfl (hdep ⟨14, .guard⟩ (by simp) rfl) rfl)) (exec_call2 rfl rfl (eval_tmp (hgot 15 _ 32 rfl (hdep ⟨15, .data⟩ (by simp) rfl) rfl)) (eval_tmp (hgot 19 _ 36 rfl (hdep ⟨19, .data⟩ (by simp) rfl) rfl)) (enters_of Tryd.func33 (by kernel_rfl) rfl)) ((psame_c _ _ _ _ _ _ true v (same_rfl _) (FT.ist (hs in0)) (FT.ist e19)).mono ?_)
      rintro e v' ⟨rfl, m⟩
      refine ⟨_, rfl, hK x _ _ (fun _ _ _ _ _ _ => rfl) (fun s hs => by cases hs; rfl) ?_⟩
      exact ⟨_, (by simpa using FT.call m), hs, (by simpa using g8), (by simpa using g10), (by simpa using g11), (by simpa using g16), (by simpa using g18), (by simpa using g19)⟩
    · exact wp_ran rfl (exec_pick rfl (eval_tmp (hgot 14 _ 31 rfl (hdep ⟨14, .data⟩ (by simp) rfl) rfl)) (eval_tmp (hgot 20 _ 37 rfl (hdep ⟨20, .data⟩ (by simp) rfl) rfl)) rfl rfl) (hK x _ _ (fun _ _ _ _ _ _ => rfl) (fun s hs => by cases hs; rfl) (by simpa using hst))
    · exact wp_ran rfl (exec_assign rfl (eval_tmp (hgot 21 _ 38 rfl (hdep ⟨21, .data⟩ (by simp) rfl) rfl))) (hK x _ _ (fun _ _ _ _ _ _ => rfl) (fun s hs => by cases hs; rfl) (by simpa using hst))
  case fin =>
  intro x lz w10 hlz hst
  obtain ⟨ts, FT, hs, g8, g10, g11, g16, g18, g19⟩ := hst
  obtain ⟨S10_8, e8⟩ := g8 (hlz 8 (by decide))
  obtain ⟨S10_10, e10⟩ := g10 (hlz 10 (by decide))
  obtain ⟨S10_11, e11⟩ := g11 (hlz 11 (by decide))
  obtain ⟨S10_16, e16⟩ := g16 (hlz 16 (by decide))
  obtain ⟨S10_18, e18⟩ := g18 (hlz 18 (by decide))
  obtain ⟨S10_19, e19⟩ := g19 (hlz 19 (by decide))
  obtain ⟨c10_8, hx8⟩ : ∃ c, c = x.1 8 := ⟨_, rfl⟩
  obtain ⟨c10_10, hx10⟩ : ∃ c, c = x.1 10 := ⟨_, rfl⟩
  obtain ⟨c10_11, hx11⟩ : ∃ c, c = x.1 11 := ⟨_, rfl⟩
  obtain ⟨c10_16, hx16⟩ : ∃ c, c = x.1 16 := ⟨_, rfl⟩
  obtain ⟨c10_18, hx18⟩ : ∃ c, c = x.1 18 := ⟨_, rfl⟩
  obtain ⟨c10_19, hx19⟩ : ∃ c, c = x.1 19 := ⟨_, rfl⟩
  have F10 := FT.sub (ts' := [tT (Up w.heap.size) S10_8 ((.mk 1 0 0 wState [])) (x.1 8), tT (Up w.heap.size) S10_10 ((.mk 4 0 0 ⟨#[]⟩ [(.mk 1 0 0 wState []), (.mk 2 1 1 ⟨#[]⟩ [])])) (x.1 10), tT (Up w.heap.size) S10_11 ((hdT wState fr11)) (x.1 11), tT (Up w.heap.size) S10_16 ((.mk 1 0 0 wKey [])) (x.1 16), tT (Up w.heap.size) S10_18 ((.mk 4 0 0 ⟨#[]⟩ [(.mk 1 0 0 wKey []), (.mk 2 1 1 ⟨#[]⟩ [])])) (x.1 18), tT (Up w.heap.size) S10_19 ((hdT wKey fr11)) (x.1 19)] ++ Ts10) (List.Sublist.refl _) (fun y hy => by
    rcases List.mem_append.1 hy with hy | hy
    · simp only [List.mem_cons, List.not_mem_nil, or_false] at hy
      rcases hy with rfl | rfl | rfl | rfl | rfl | rfl
      all_goals assumption
    · exact hs hy)
  rw [hTs10] at F10
  simp only [List.cons_append, List.nil_append] at F10
  have hc10_8 := (F10.tis 0 rfl).ones
  have hc10_10 := (F10.tis 1 rfl).ones
  have hc10_11 := (F10.tis 2 rfl).ones
  have hc10_16 := (F10.tis 3 rfl).ones
  have hc10_18 := (F10.tis 4 rfl).ones
  have hc10_19 := (F10.tis 5 rfl).ones
  dsimp only [setAll, List.foldl_cons, List.foldl_nil, List.set_cons_succ, List.set_cons_zero]
  rw [← hx8] at F10 hc10_8 ⊢
  rw [← hx10] at F10 hc10_10 ⊢
  rw [← hx11] at F10 hc10_11 ⊢
  rw [← hx16] at F10 hc10_16 ⊢
  rw [← hx18] at F10 hc10_18 ⊢
  rw [← hx19] at F10 hc10_19 ⊢
  clear FT hs hlz hTs10 FZ e8 g8 hx8 e10 g10 hx10 e11 g11 hx11 e16 g16 hx16 e18 g18 hx18 e19 g19 hx19 in0 in1 in2 F9
  go_wp2_with fail
  go_ret
  exact ⟨rfl, F10.m⟩
set_option maxRecDepth 1000000 in
set_option maxHeartbeats 4000000 in
theorem keys_w (t : Tm) (la : List Value) (W : World) (hT : TIs W (Btw 0 W.heap.size) t la) (G : Glob W) : Calls Tryd.prog 10 #[.agg la.toArray] W fun e w' => e = .returned (.bool true) ∧ Mod [] W w' := by
  obtain ⟨w, hw⟩ : ∃ x, x = W := ⟨_, rfl⟩
  rw [← hw] at hT G ⊢
  obtain ⟨ca, hca'⟩ : ∃ x, x = la := ⟨_, rfl⟩
  rw [← hca'] at hT ⊢
  clear hw hca'
  have hca := hT.ones
  have OV := fun v (mv : Mod [] w v) => R9.over_c t ca w.heap.size v (hT.keep mv (by simp)) mv.size
  have FA := (Fm.nil w).argT hT (fun g hg => hg.2)
  clear hT
  have KY := fun v S h1 h2 h3 => key_c t ca S v h1 h2 h3
  have RY := fun v S h1 h2 => rkey_c t ca S v h1 h2
  obtain ⟨T, hT⟩ : ∃ x, x = keyR t := ⟨_, rfl⟩
  obtain ⟨K, hK⟩ : ∃ x, x = keyE t := ⟨_, rfl⟩
  rw [← hT, ← hK] at KY RY
  have hKK : (K == K) = true := by simp
  clear hT hK
  go_enter Tryd.func10, Tryd.ntmps10
  go_wp2_with (first
    | (with_reducible refine fm_box FA (o := ⟨some 1, .box 24 (.tmp 0), _, _, _, _⟩) rfl 24 (.tmp 0) rfl (ca) rfl ?_; intro b1 w1 F1; clear FA)
    | (go_at_call 42; refine (wakes9_c w1 (F1.glob G)).mono ?_
       rintro e w2 ⟨rfl, m2⟩
       have F2 := F1.call m2
       clear m2 F1)
    | (with_reducible refine fm_load F2 0 rfl (o := ⟨some 9, .load 24 (.tmp 1), _, _, _, _⟩) rfl (.tmp 1) rfl rfl hca.1 ?_))
  refine (OV w2 F2.m).mono ?_
  rintro e w3 ⟨ov3, rfl, m3⟩
  have F3 := F2.call m3
  clear m3
  clear F2
  cases ov3 with
  | true =>
    go_wp2_with fail
    go_ret
    exact ⟨rfl, F3.m⟩
  | false =>
    go_wp2_with (first
      | (with_reducible refine fm_load F3 0 rfl (o := ⟨some 12, .load 24 (.tmp 1), _, _, _, _⟩) rfl (.tmp 1) rfl rfl hca.1 ?_)
      | (go_at_call 47; refine (KY w3 _ (F3.ist (F3.mem 0 rfl)) (F3.ltm (F3.mem 0 rfl)) (F3.glob G)).mono ?_
         rintro e w4 ⟨c4, rfl, h4, m4⟩
         have hc4 := h4.ones
         have F4 := F3.made m4 h4
         clear h4 m4
         clear F3)
      | (with_reducible refine fm_alloc F4 (o := ⟨some 3, .alloc 24, _, _, _, _⟩) rfl 24 rfl _ zero24 ?_; intro b5 w5 F5; clear F4)
      | (with_reducible refine fm_store F5 0 rfl (o := ⟨none, .store 24 (.tmp 3) (.tmp 14), _, _, _, _⟩) rfl (.tmp 3) (.tmp 14) rfl rfl (c4) rfl rfl hc4.1 (tmc_len _ _ _ _ _ _ _) hc4.2 ?_; intro w6 F6; clear F5)
      | (with_reducible refine fm_load F6 1 rfl (o := ⟨some 17, .load 24 (.tmp 1), _, _, _, _⟩) rfl (.tmp 1) rfl rfl hca.1 ?_)
      | (go_at_call 48; refine (RY w6 _ (F6.ist (F6.mem 1 rfl)) (F6.ltm (F6.mem 1 rfl))).mono ?_
         rintro e w7 ⟨c7, rfl, h7, m7⟩
         have hc7 := h7.elim fun _ h => h.1.ones
         obtain ⟨S7, F7⟩ := F6.madeR m7 h7 (fun g hg => ⟨_, (F6.mem 1 rfl), hg⟩) (L := Any) (fun _ _ => trivial) (fun _ _ => trivial)
         clear h7 m7
         clear F6)
      | (with_reducible refine fm_alloc F7 (o := ⟨some 5, .alloc 24, _, _, _, _⟩) rfl 24 rfl _ zero24 ?_; intro b8 w8 F8; clear F7)
      | (with_reducible refine fm_store F8 0 rfl (o := ⟨none, .store 24 (.tmp 5) (.tmp 19), _, _, _, _⟩) rfl (.tmp 5) (.tmp 19) rfl rfl (c7) rfl rfl hc7.1 (tmc_len _ _ _ _ _ _ _) hc7.2 ?_; intro w9 F9; clear F8)
      | (with_reducible refine fm_loadG F9 1 rfl (o := ⟨some 25, .load 24 (.tmp 3), _, _, _, _⟩) (by with_unfolding_all rfl) (.tmp 3) rfl rfl hc4.1 ?_)
      | (with_reducible refine fm_loadG F9 0 rfl (o := ⟨some 26, .load 24 (.tmp 5), _, _, _, _⟩) (by with_unfolding_all rfl) (.tmp 5) rfl rfl hc7.1 ?_)
      | (go_at_call 15; refine (rsame_c _ _ _ _ _ _ true w9 (same_rfl _) (F9.ist (F9.mem 1 rfl)) (F9.ist (F9.mem 0 rfl))).mono ?_
         rintro e w10 ⟨rfl, m10⟩
         have F10 := F9.call m10
         clear m10 F9))
    go_ret
    exact ⟨rfl, F10.m⟩
end Go.Proofs.YtchanildogjhgaaDoor
