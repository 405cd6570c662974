/-
  My own texts Rc Rd, one behind the other.
-/
import Derived.Test.YtchanildogjhgaaDoorR1
namespace Go.Proofs.YtchanildogjhgaaDoor
section
open Go.RowKit Go.Shelf
set_option linter.unusedVariables false
set_option linter.unusedSimpArgs false
set_option maxRecDepth 1000000 in
set_option maxHeartbeats 1000000 in
theorem rtext_c (s : ByteArray) (hss : s.size ≤ 140737488355328) (S : Nat → Prop) (w : World) : Calls Tryd.prog 17 #[.string s] w (MadeR w S (.mk 1 0 0 s [])) := by
  have FA := Fm.nil w
  go_enter Tryd.func17, Tryd.ntmps17
  go_wp2_with (first
    | (with_reducible refine fm_alloc FA (o := ⟨some 2, .alloc 24, _, _, _, _⟩) rfl 24 rfl _ zero24 ?_; intro b1 w1 F1; clear FA)
    | (with_reducible refine wpList_ran (o := ⟨some 4, .build 24 _, _, _, _, _⟩) rfl (.agg (tmc (1) 0 0 (s) none 0 0).toArray) (exec_bB rfl rfl rfl) ?_)
    | (with_reducible refine fm_store F1 0 rfl (o := ⟨none, .store 24 (.tmp 2) (.tmp 4), _, _, _, _⟩) rfl (.tmp 2) (.tmp 4) rfl rfl (tmc (1) 0 0 (s) none 0 0) rfl rfl (tmc_len _ _ _ _ _ _ _) (tmc_len _ _ _ _ _ _ _) (tmc_one _ _ _ _ _ _ _) ?_; intro w2 F2; clear F1))
  refine bodyPost_ret (results_cell1 rfl _ _ b1 _ rfl (F2.ret 0 rfl) (tmc_len _ _ _ _ _ _ _)) rfl ?_
  exact ⟨_, rfl, ⟨fun _ => False, .mk 1 0 0 s [] none 0 [] hss (Nat.le_refl _) (by decide) (by decide) (fun _ h => by cases h) rfl (by simp) (Cells.nil _ _) (fun i h => by simp at h), fun _ h => h.elim⟩, F2.m⟩
set_option maxRecDepth 1000000 in
set_option maxHeartbeats 1000000 in
theorem rpair_c (a : Tm) (ca : List Value) (Sa : Nat → Prop) (b : Tm) (cb : List Value) (Sb : Nat → Prop) (S : Nat → Prop) (w : World) (hTa : TIs w Sa a ca) (hTb : TIs w Sb b cb) (hSa : ∀ g, Sa g → g < w.heap.size) (hSb : ∀ g, Sb g → g < w.heap.size) (hA : ∀ g, Sa g → S g) (hB : ∀ g, Sb g → S g) : Calls Tryd.prog 21 #[.agg ca.toArray, .agg cb.toArray] w (MadeR w S (.mk 4 0 0 ⟨#[]⟩ [a, b])) := by
  have hca := hTa.ones
  have hcb := hTb.ones
  have FA := ((Fm.nil w).argL (Ov S w.heap.size) hTa hSa (fun g h => .inl (hA g h))).argL (Ov S w.heap.size) hTb hSb (fun g h => .inl (hB g h))
  clear hTa hTb hSa hSb hA hB
  go_enter Tryd.func21, Tryd.ntmps21
  go_wp2_with (first
    | (with_reducible refine fm_box FA (o := ⟨some 2, .box 24 (.tmp 0), _, _, _, _⟩) rfl 24 (.tmp 0) rfl (ca) rfl ?_; intro b1 w1 F1; clear FA)
    | (with_reducible refine fm_box F1 (o := ⟨some 3, .box 24 (.tmp 1), _, _, _, _⟩) rfl 24 (.tmp 1) rfl (cb) rfl ?_; intro b2 w2 F2; clear F1)
    | (with_reducible refine fm_alloc F2 (o := ⟨some 4, .alloc 24, _, _, _, _⟩) rfl 24 rfl _ zero24 ?_; intro b3 w3 F3; clear F2)
    | (with_reducible refine fm_load F3 2 rfl (o := ⟨some 5, .load 24 (.tmp 2), _, _, _, _⟩) rfl (.tmp 2) rfl rfl hca.1 ?_)
    | (with_reducible refine fm_load F3 1 rfl (o := ⟨some 6, .load 24 (.tmp 3), _, _, _, _⟩) rfl (.tmp 3) rfl rfl hcb.1 ?_)
    | (with_reducible refine fm_row2 F3 (F3.mem 1 rfl) (F3.mem 0 rfl) (Ov S w.heap.size) (fun _ h => h) (fun _ h => h) (fun g hg => .inr hg) rfl (.tmp 5) (.tmp 6) rfl rfl rfl ?_; intro g4 S4 w4 F4; clear F3)
    | (with_reducible refine wpList_ran (o := ⟨some 8, .build 24 _, _, _, _, _⟩) rfl (.agg (tmc (4) 0 0 ⟨#[]⟩ (some ⟨g4, 0, none⟩) 2 2).toArray) (exec_bH rfl rfl rfl) ?_; have F5 := F4.term (F4.mem 0 rfl) (4) 0 0 ⟨#[]⟩ 2 2 rfl (by decide) (by decide) (by decide); clear F4)
    | (with_reducible refine fm_store F5 0 rfl (o := ⟨none, .store 24 (.tmp 4) (.tmp 8), _, _, _, _⟩) rfl (.tmp 4) (.tmp 8) rfl rfl (tmc (4) 0 0 ⟨#[]⟩ (some ⟨g4, 0, none⟩) 2 2) rfl rfl (tmc_len _ _ _ _ _ _ _) (tmc_len _ _ _ _ _ _ _) (tmc_one _ _ _ _ _ _ _) ?_; intro w6 F6; clear F5))
  refine bodyPost_ret (results_cell1 rfl _ _ b3 _ rfl (F6.ret 0 rfl) (tmc_len _ _ _ _ _ _ _)) rfl ?_
  exact ⟨_, rfl, F6.mr (F6.mem 0 rfl), F6.m⟩
set_option maxRecDepth 1000000 in
set_option maxHeartbeats 1000000 in
theorem rhash_c (s : ByteArray) (hss : s.size ≤ 140737488355328) (t : Tm) (ca : List Value) (S : Nat → Prop) (w : World) (hT : TIs w S t ca) (hS : ∀ g, S g → g < w.heap.size) : Calls Tryd.prog 69 #[.string s, .agg ca.toArray] w (MadeR w S (hdT s t)) := by
  have hca := hT.ones
  have FA := (Fm.nil w).argL (Ov S w.heap.size) hT hS (fun _ h => .inl h)
  clear hT hS
  go_enter Tryd.func69, Tryd.ntmps69
  go_wp2_with (first
    | (with_reducible refine fm_box FA (o := ⟨some 3, .box 24 (.tmp 1), _, _, _, _⟩) rfl 24 (.tmp 1) rfl (ca) rfl ?_; intro b1 w1 F1; clear FA)
    | (with_reducible refine fm_alloc F1 (o := ⟨some 4, .alloc 24, _, _, _, _⟩) rfl 24 rfl _ zero24 ?_; intro b2 w2 F2; clear F1))
  obtain ⟨Ts3, hTs3, FZ⟩ := (F2.call (Mod.drew [] w2)).name
  have in0 := F2.mem 0 rfl
  rw [← hTs3] at in0
  refine wp_region_upxd (X := (Nat → List Value) × (Nat → Nat)) (fun _ => [], fun _ => 0) (fun x => [(5, .string s), (6, .agg ((x.1 1)).toArray), (7, .agg (ca).toArray), (8, .agg ((x.1 3)).toArray), (9, .slice (some ⟨x.2 4, 0, none⟩) 1 1), (10, .agg (tmc (5) 0 0 ⟨#[]⟩ (some ⟨x.2 4, 0, none⟩) 1 1).toArray)]) 11 [5, 6, 7, 8, 9, 10] rfl (fun _ => rfl) (by decide) (by kernel_rfl) (fun x lz v => ∃ ts, Fm w v [oB b2 24 (if lz 6 = true then tmc (5) 0 0 ⟨#[]⟩ (some ⟨x.2 4, 0, none⟩) 1 1 else tmc 0 0 0 ⟨#[]⟩ none 0 0), oB b1 24 (ca)] ts ∧ Ts3 ⊆ ts ∧ (lz 1 = true → ∃ Sx, tT (Ov S w.heap.size) Sx ((.mk 1 0 0 s [])) (x.1 1) ∈ ts) ∧ (lz 3 = true → ∃ Sx, tT (Ov S w.heap.size) Sx ((.mk 4 0 0 ⟨#[]⟩ [(.mk 1 0 0 s []), t])) (x.1 3) ∈ ts) ∧ (lz 4 = true → ∃ Sx, tR (Ov S w.heap.size) Sx (some ⟨x.2 4, 0, none⟩) [(x.1 3)] [(.mk 4 0 0 ⟨#[]⟩ [(.mk 1 0 0 s []), t])] ∈ ts)) (by kernel_rfl) ⟨_, FZ, List.Subset.refl _, (fun h => by cases h), (fun h => by cases h), (fun h => by cases h)⟩ (by kernel_rfl) (by kernel_rfl) ?step ?fin
  case step =>
    intro x lz T v j o hj hlj hdep hst hpar hgot hcl hdf Kq hK
    have hjn : j < 7 := (Array.getElem?_eq_some_iff.1 hj).1
    obtain rfl | rfl | rfl | rfl | rfl | rfl | rfl : j = 0 ∨ j = 1 ∨ j = 2 ∨ j = 3 ∨ j = 4 ∨ j = 5 ∨ j = 6 := by omega
    all_goals (have hj' := Option.some.inj (hj : some _ = some o); subst hj'; clear hj)
    · exact wp_ran rfl (exec_move rfl (eval_tmp ((hpar 0 rfl).trans rfl))) (hK x _ _ (fun _ _ _ _ _ _ => rfl) (fun s hs => by cases hs; rfl) (by simpa using hst))
    · obtain ⟨ts, FT, hs, g1, g3, g4⟩ := hst
      refine wp_called rfl (exec_call1 rfl rfl (eval_tmp (hgot 0 _ 5 rfl (hdep ⟨0, .data⟩ (by simp) rfl) rfl)) (enters_of Tryd.func17 (by kernel_rfl) rfl)) ((rtext_c s hss (fun _ => False) v).mono ?_)
      rintro e v' ⟨cs, rfl, hT, m⟩
      obtain ⟨S', FT'⟩ := FT.madeR m hT (fun _ h => h.elim) (L := (Ov S w.heap.size)) (fun _ h => h.elim) (fun g hg => .inr hg)
      refine ⟨_, rfl, hK (fun i => if i = 1 then cs else x.1 i, x.2) _ _ (fun j' o' s' q1 q2 q3 => by
          have q4 : j' < 7 := (Array.getElem?_eq_some_iff.1 q1).1
          clear hpar hgot hdep hK
          obtain rfl | rfl | rfl | rfl | rfl | rfl | rfl : j' = 0 ∨ j' = 1 ∨ j' = 2 ∨ j' = 3 ∨ j' = 4 ∨ j' = 5 ∨ j' = 6 := by omega
          all_goals (cases q1; cases q3 <;> first | rfl | (rw [hlj] at q2; cases q2))) (fun s hs => by cases hs; rfl) ?_⟩
      refine ⟨_, (by simpa using FT'), (fun y hy => List.mem_cons_of_mem _ (hs hy)), (fun _ => ⟨_, List.mem_cons_self ..⟩), (fun h => by obtain ⟨Sx, h⟩ := g3 (by simpa using h); exact ⟨Sx, List.mem_cons_of_mem _ h⟩), (fun h => by obtain ⟨Sx, h⟩ := g4 (by simpa using h); exact ⟨Sx, List.mem_cons_of_mem _ h⟩)⟩
    · obtain ⟨ts, FT, hts⟩ := hst
      have hL := FT.blk 1 rfl
      exact wp_ran rfl (exec_load rfl (eval_tmp ((hpar 3 rfl).trans rfl)) (run_loads (Cells.of_holds hL) Tryd.underlying24 rfl (size24' hca.1))) (hK x _ _ (fun _ _ _ _ _ _ => rfl) (fun s hs => by cases hs; rfl) (by simpa using (show ∃ ts, _ from ⟨ts, FT, hts⟩)))
    · obtain ⟨ts, FT, hs, g1, g3, g4⟩ := hst
      obtain ⟨S1, e1⟩ := g1 (hdep ⟨1, .data⟩ (by simp) rfl)
      have l4 : lz 4 = false := (by cases hh : lz 4 with | false => rfl | true => exact absurd (hcl 4 _ rfl hh ⟨3, .data⟩ (by simp) rfl) (by rw [hlj]; simp))
      refine wp_called rfl (exec_call2 rfl rfl (eval_tmp (hgot 1 _ 6 rfl (hdep ⟨1, .data⟩ (by simp) rfl) rfl)) (eval_tmp (hgot 2 _ 7 rfl (hdep ⟨2, .data⟩ (by simp) rfl) rfl)) (enters_of Tryd.func21 (by kernel_rfl) rfl)) ((rpair_c _ _ _ _ _ _ (fun g => (∃ y ∈ ts, y.1 g) ∧ Ov S w.heap.size g) v (FT.ist e1) (FT.ist (hs in0)) (FT.ltm e1) (FT.ltm (hs in0)) (fun g hg => ⟨⟨_, e1, hg⟩, FT.within e1 g hg⟩) (fun g hg => ⟨⟨_, (hs in0), hg⟩, FT.within (hs in0) g hg⟩)).mono ?_)
      rintro e v' ⟨cs, rfl, hT, m⟩
      obtain ⟨S', FT'⟩ := FT.madeR m hT (fun g hg => hg.1) (L := (Ov S w.heap.size)) (fun g hg => hg.2) (fun g hg => .inr hg)
      refine ⟨_, rfl, hK (fun i => if i = 3 then cs else x.1 i, x.2) _ _ (fun j' o' s' q1 q2 q3 => by
          have q4 : j' < 7 := (Array.getElem?_eq_some_iff.1 q1).1
          clear hpar hgot hdep hK
          obtain rfl | rfl | rfl | rfl | rfl | rfl | rfl : j' = 0 ∨ j' = 1 ∨ j' = 2 ∨ j' = 3 ∨ j' = 4 ∨ j' = 5 ∨ j' = 6 := by omega
          all_goals (cases q1; cases q3 <;> first | rfl | (rw [hlj] at q2; cases q2))) (fun s hs => by cases hs; rfl) ?_⟩
      refine ⟨_, (by simpa using FT'), (fun y hy => List.mem_cons_of_mem _ (hs hy)), (fun h => by obtain ⟨Sx, h⟩ := g1 (by simpa using h); exact ⟨Sx, List.mem_cons_of_mem _ h⟩), (fun _ => ⟨_, List.mem_cons_self ..⟩), ((fun h => absurd h (by simp [l4])))⟩
    · obtain ⟨ts, FT, hs, g1, g3, g4⟩ := hst
      obtain ⟨S3, e3⟩ := g3 (hdep ⟨3, .data⟩ (by simp) rfl)
      have l5 : lz 5 = false := (by cases hh : lz 5 with | false => rfl | true => exact absurd (hcl 5 _ rfl hh ⟨4, .data⟩ (by simp) rfl) (by rw [hlj]; simp))
      have l6 : lz 6 = false := (by cases hh : lz 6 with | false => rfl | true => exact absurd (hcl 6 _ rfl hh ⟨4, .phase⟩ (by simp) rfl) (by rw [hlj]; simp))
      obtain ⟨S', FT'⟩ := FT.row1 e3 (Ov S w.heap.size) (fun _ h => h) (fun g hg => .inr hg)
      refine wp_ran rfl (exec_lit1 (FT.ist e3).len rfl (eval_tmp (hgot 3 _ 8 rfl (hdep ⟨3, .data⟩ (by simp) rfl) rfl))) (hK (x.1, fun i => if i = 4 then v.heap.size else x.2 i) _ _ (fun j' o' s' q1 q2 q3 => by
          have q4 : j' < 7 := (Array.getElem?_eq_some_iff.1 q1).1
          clear hpar hgot hdep hK
          obtain rfl | rfl | rfl | rfl | rfl | rfl | rfl : j' = 0 ∨ j' = 1 ∨ j' = 2 ∨ j' = 3 ∨ j' = 4 ∨ j' = 5 ∨ j' = 6 := by omega
          all_goals (cases q1; cases q3 <;> first | rfl | (rw [hlj] at q2; cases q2) | (rw [l5] at q2; cases q2))) (fun s hs => by cases hs; rfl) ?_)
      exact ⟨_, (by simpa [l6] using FT'), (fun y hy => List.mem_cons_of_mem _ (hs hy)), (fun h => by obtain ⟨Sx, h⟩ := g1 (by simpa using h); exact ⟨Sx, List.mem_cons_of_mem _ h⟩), (fun h => by obtain ⟨Sx, h⟩ := g3 (by simpa using h); exact ⟨Sx, List.mem_cons_of_mem _ h⟩), (fun _ => ⟨_, List.mem_cons_self ..⟩)⟩
    · exact wp_ran rfl (exec_bH rfl rfl (eval_tmp (hgot 4 _ 9 rfl (hdep ⟨4, .data⟩ (by simp) rfl) rfl))) (hK x _ _ (fun _ _ _ _ _ _ => rfl) (fun s hs => by cases hs; rfl) (by simpa using hst))
    · obtain ⟨ts, FT, hs, g1, g3, g4⟩ := hst
      rw [if_neg (by rw [hlj]; decide)] at FT
      refine wp_stored rfl rfl (eval_tmp ((hpar 4 rfl).trans rfl)) (eval_tmp (hgot 5 _ 10 rfl (hdep ⟨5, .data⟩ (by simp) rfl) rfl)) rfl (FT.blk 0 rfl) ((tmc_len _ _ _ _ _ _ _).trans ((tmc_len _ _ _ _ _ _ _)).symm) (tmc_one _ _ _ _ _ _ _) (size24' (tmc_len _ _ _ _ _ _ _)) fun v' hv m => hK x undef _ (fun _ _ _ _ _ _ => rfl) (fun s hs => by cases hs) ?_
      have FT' := FT.turn m 0 rfl (fun g hg => List.mem_singleton.1 hg) _ (keeps_oB _ _ _) hv (fun g hg => ⟨.inl hg, by have : g = b2 := hg; have := hv.lt; omega⟩)
      exact ⟨_, (by simpa using FT'), hs, (by simpa using g1), (by simpa using g3), (by simpa using g4)⟩
  case fin =>
  intro x lz w3 hlz hst
  obtain ⟨ts, FT, hs, g1, g3, g4⟩ := hst
  obtain ⟨S3_1, e1⟩ := g1 (hlz 1 (by decide))
  obtain ⟨S3_3, e3⟩ := g3 (hlz 3 (by decide))
  obtain ⟨S3_4, e4⟩ := g4 (hlz 4 (by decide))
  obtain ⟨c3_1, hx1⟩ : ∃ c, c = x.1 1 := ⟨_, rfl⟩
  obtain ⟨c3_3, hx3⟩ : ∃ c, c = x.1 3 := ⟨_, rfl⟩
  obtain ⟨g3_4, hx4⟩ : ∃ c, c = x.2 4 := ⟨_, rfl⟩
  rw [if_pos (hlz 6 (by decide))] at FT
  have F3 := FT.sub (ts' := [tT (Ov S w.heap.size) S3_1 ((.mk 1 0 0 s [])) (x.1 1), tT (Ov S w.heap.size) S3_3 ((.mk 4 0 0 ⟨#[]⟩ [(.mk 1 0 0 s []), t])) (x.1 3), tR (Ov S w.heap.size) S3_4 (some ⟨x.2 4, 0, none⟩) [(x.1 3)] [(.mk 4 0 0 ⟨#[]⟩ [(.mk 1 0 0 s []), t])]] ++ Ts3) (List.Sublist.refl _) (fun y hy => by
    rcases List.mem_append.1 hy with hy | hy
    · simp only [List.mem_cons, List.not_mem_nil, or_false] at hy
      rcases hy with rfl | rfl | rfl
      all_goals assumption
    · exact hs hy)
  rw [hTs3] at F3
  simp only [List.cons_append, List.nil_append] at F3
  have hc3_1 := (F3.tis 0 rfl).ones
  have hc3_3 := (F3.tis 1 rfl).ones
  dsimp only [setAll, List.foldl_cons, List.foldl_nil, List.set_cons_succ, List.set_cons_zero]
  rw [← hx1] at F3 hc3_1 ⊢
  rw [← hx3] at F3 hc3_3 ⊢
  rw [← hx4] at F3 ⊢
  clear FT hs hlz hTs3 FZ e1 g1 hx1 e3 g3 hx3 e4 g4 hx4 in0 F2
  have F4 := F3.term (F3.mem 2 rfl) (5) 0 0 ⟨#[]⟩ 1 1 rfl (by decide) (by decide) (by decide)
  clear F3
  go_wp2_with fail
  refine bodyPost_ret (results_cell1 rfl _ _ b2 _ rfl (F4.ret 0 rfl) (tmc_len _ _ _ _ _ _ _)) rfl ?_
  exact ⟨_, rfl, F4.mr (F4.mem 0 rfl), F4.m⟩
end
section
open Go.RowKit Go.Shelf
set_option linter.unusedVariables false
set_option linter.unusedSimpArgs false
set_option maxRecDepth 1000000 in
set_option maxHeartbeats 2000000 in
theorem rkey_no (t : Tm) (ca : List Value) (S : Nat → Prop) (w : World) (hT : TIs w S t ca) (hS : ∀ g, S g → g < w.heap.size) (HR : t.right = false) : Calls Tryd.prog 48 #[.agg ca.toArray] w (ResR w S (keyR t) (keyE t)) := by
  have hca := hT.ones
  have FA := (Fm.nil w).argL (Ov S w.heap.size) hT hS (fun _ h => .inl h)
  clear hT hS
  have RR := fun v S h => rright_c t ca S v h
  have RK := fun v cs S h => rright_c (keyT t) cs S v h
  rw [HR] at RR
  obtain ⟨e1, e2⟩ : keyR t = nilT ∧ keyE t = 150 := by simp [keyR, keyE, HR, orNil, chk]
  rw [e1, e2]
  clear e1 e2
  clear HR
  go_enter Tryd.func48, Tryd.ntmps48
  go_wp2_with (first
    | (with_reducible refine fm_box FA (o := ⟨some 1, .box 24 (.tmp 0), _, _, _, _⟩) rfl 24 (.tmp 0) rfl (ca) rfl ?_; intro b1 w1 F1; clear FA)
    | (with_reducible refine fm_alloc F1 (o := ⟨some 2, .alloc 24, _, _, _, _⟩) rfl 24 rfl _ zero24 ?_; intro b2 w2 F2; clear F1)
    | (with_reducible refine fm_load F2 1 rfl (o := ⟨some 4, .load 24 (.tmp 1), _, _, _, _⟩) rfl (.tmp 1) rfl rfl hca.1 ?_)
    | (go_at_call 29; refine (RR w2 _ (F2.ist (F2.mem 0 rfl))).mono ?_
       rintro e w3 ⟨rfl, m3⟩
       have F3 := F2.call m3
       clear m3 F2)
    | (with_reducible refine wpList_ran (o := ⟨some 13, .build 24 _, _, _, _, _⟩) rfl (.agg (tmc 0 0 0 ⟨#[]⟩ none 0 0).toArray) (exec_bF rfl) ?_)
    | (with_reducible refine fm_store F3 0 rfl (o := ⟨none, .store 24 (.tmp 2) (.tmp 13), _, _, _, _⟩) rfl (.tmp 2) (.tmp 13) rfl rfl (tmc 0 0 0 ⟨#[]⟩ none 0 0) rfl rfl (tmc_len _ _ _ _ _ _ _) (tmc_len _ _ _ _ _ _ _) (tmc_one _ _ _ _ _ _ _) ?_; intro w4 F4; clear F3))
  refine bodyPost_ret (results_ct rfl _ _ b2 _ (.int .i64 150) rfl rfl (F4.ret 0 rfl) (tmc_len _ _ _ _ _ _ _)) rfl ?_
  exact ⟨_, rfl, ⟨fun _ => False, nil_tis _ _, fun _ h => h.elim⟩, F4.m⟩
set_option maxRecDepth 1000000 in
set_option maxHeartbeats 2000000 in
theorem rkey_mid (t : Tm) (ca : List Value) (S : Nat → Prop) (w : World) (hT : TIs w S t ca) (hS : ∀ g, S g → g < w.heap.size) (HR : t.right = true) (HK : (keyT t).right = false) : Calls Tryd.prog 48 #[.agg ca.toArray] w (ResR w S (keyR t) (keyE t)) := by
  have hca := hT.ones
  have FA := (Fm.nil w).argL (Ov S w.heap.size) hT hS (fun _ h => .inl h)
  clear hT hS
  have RR := fun v S h => rright_c t ca S v h
  have RK := fun v cs S h => rright_c (keyT t) cs S v h
  rw [HR] at RR
  obtain ⟨e1, e2⟩ : keyR t = nilT ∧ keyE t = 150 := by simp [keyR, keyE, HR, orNil, chk, HK]
  rw [e1, e2]
  clear e1 e2
  rw [HK] at RK
  clear HK
  clear HR
  go_enter Tryd.func48, Tryd.ntmps48
  go_wp2_with (first
    | (with_reducible refine fm_box FA (o := ⟨some 1, .box 24 (.tmp 0), _, _, _, _⟩) rfl 24 (.tmp 0) rfl (ca) rfl ?_; intro b1 w1 F1; clear FA)
    | (with_reducible refine fm_alloc F1 (o := ⟨some 2, .alloc 24, _, _, _, _⟩) rfl 24 rfl _ zero24 ?_; intro b2 w2 F2; clear F1)
    | (with_reducible refine fm_load F2 1 rfl (o := ⟨some 4, .load 24 (.tmp 1), _, _, _, _⟩) rfl (.tmp 1) rfl rfl hca.1 ?_)
    | (go_at_call 29; refine (RR w2 _ (F2.ist (F2.mem 0 rfl))).mono ?_
       rintro e w3 ⟨rfl, m3⟩
       have F3 := F2.call m3
       clear m3 F2)
    | (with_reducible refine fm_loadG F3 1 rfl (o := ⟨some 8, .load 24 (.tmp 1), _, _, _, _⟩) (by with_unfolding_all rfl) (.tmp 1) rfl rfl hca.1 ?_)
    | (go_at_call 69; refine (rhash_c wKey (by decide) _ _ _ w3 (F3.ist (F3.mem 0 rfl)) (F3.ltm (F3.mem 0 rfl))).mono ?_
       rintro e w4 ⟨c4, rfl, h4, m4⟩
       have hc4 := h4.elim fun _ h => h.1.ones
       obtain ⟨S4, F4⟩ := F3.madeR m4 h4 (fun g hg => ⟨_, (F3.mem 0 rfl), hg⟩) (L := (Ov S w.heap.size)) (F3.within (F3.mem 0 rfl)) (fun g hg => .inr hg)
       clear h4 m4 F3)
    | (go_at_call 29; refine (RK w4 _ _ (F4.ist (F4.mem 0 rfl))).mono ?_
       rintro e w5 ⟨rfl, m5⟩
       have F5 := F4.call m5
       clear m5 F4)
    | (with_reducible refine wpList_ran (o := ⟨some 13, .build 24 _, _, _, _, _⟩) rfl (.agg (tmc 0 0 0 ⟨#[]⟩ none 0 0).toArray) (exec_bF rfl) ?_)
    | (with_reducible refine fm_store F5 0 rfl (o := ⟨none, .store 24 (.tmp 2) (.tmp 13), _, _, _, _⟩) rfl (.tmp 2) (.tmp 13) rfl rfl (tmc 0 0 0 ⟨#[]⟩ none 0 0) rfl rfl (tmc_len _ _ _ _ _ _ _) (tmc_len _ _ _ _ _ _ _) (tmc_one _ _ _ _ _ _ _) ?_; intro w6 F6; clear F5))
  refine bodyPost_ret (results_ct rfl _ _ b2 _ (.int .i64 150) rfl rfl (F6.ret 0 rfl) (tmc_len _ _ _ _ _ _ _)) rfl ?_
  exact ⟨_, rfl, ⟨fun _ => False, nil_tis _ _, fun _ h => h.elim⟩, F6.m⟩
set_option maxRecDepth 1000000 in
set_option maxHeartbeats 2000000 in
theorem rkey_yes (t : Tm) (ca : List Value) (S : Nat → Prop) (w : World) (hT : TIs w S t ca) (hS : ∀ g, S g → g < w.heap.size) (HR : t.right = true) (HK : (keyT t).right = true) : Calls Tryd.prog 48 #[.agg ca.toArray] w (ResR w S (keyR t) (keyE t)) := by
  have hca := hT.ones
  have FA := (Fm.nil w).argL (Ov S w.heap.size) hT hS (fun _ h => .inl h)
  clear hT hS
  have RR := fun v S h => rright_c t ca S v h
  have RK := fun v cs S h => rright_c (keyT t) cs S v h
  rw [HR] at RR
  obtain ⟨e1, e2⟩ : keyR t = keyT t ∧ keyE t = 0 := by simp [keyR, keyE, HR, orNil, chk, HK]
  rw [e1, e2]
  clear e1 e2
  rw [HK] at RK
  clear HK
  clear HR
  go_enter Tryd.func48, Tryd.ntmps48
  go_wp2_with (first
    | (with_reducible refine fm_box FA (o := ⟨some 1, .box 24 (.tmp 0), _, _, _, _⟩) rfl 24 (.tmp 0) rfl (ca) rfl ?_; intro b1 w1 F1; clear FA)
    | (with_reducible refine fm_alloc F1 (o := ⟨some 2, .alloc 24, _, _, _, _⟩) rfl 24 rfl _ zero24 ?_; intro b2 w2 F2; clear F1)
    | (with_reducible refine fm_load F2 1 rfl (o := ⟨some 4, .load 24 (.tmp 1), _, _, _, _⟩) rfl (.tmp 1) rfl rfl hca.1 ?_)
    | (go_at_call 29; refine (RR w2 _ (F2.ist (F2.mem 0 rfl))).mono ?_
       rintro e w3 ⟨rfl, m3⟩
       have F3 := F2.call m3
       clear m3 F2)
    | (with_reducible refine fm_loadG F3 1 rfl (o := ⟨some 8, .load 24 (.tmp 1), _, _, _, _⟩) (by with_unfolding_all rfl) (.tmp 1) rfl rfl hca.1 ?_)
    | (go_at_call 69; refine (rhash_c wKey (by decide) _ _ _ w3 (F3.ist (F3.mem 0 rfl)) (F3.ltm (F3.mem 0 rfl))).mono ?_
       rintro e w4 ⟨c4, rfl, h4, m4⟩
       have hc4 := h4.elim fun _ h => h.1.ones
       obtain ⟨S4, F4⟩ := F3.madeR m4 h4 (fun g hg => ⟨_, (F3.mem 0 rfl), hg⟩) (L := (Ov S w.heap.size)) (F3.within (F3.mem 0 rfl)) (fun g hg => .inr hg)
       clear h4 m4 F3)
    | (go_at_call 29; refine (RK w4 _ _ (F4.ist (F4.mem 0 rfl))).mono ?_
       rintro e w5 ⟨rfl, m5⟩
       have F5 := F4.call m5
       clear m5 F4)
    | (with_reducible refine fm_load F5 1 rfl (o := ⟨some 14, .load 24 (.tmp 1), _, _, _, _⟩) rfl (.tmp 1) rfl rfl hca.1 ?_)
    | (go_at_call 69; refine (rhash_c wKey (by decide) _ _ _ w5 (F5.ist (F5.mem 1 rfl)) (F5.ltm (F5.mem 1 rfl))).mono ?_
       rintro e w6 ⟨c6, rfl, h6, m6⟩
       have hc6 := h6.elim fun _ h => h.1.ones
       obtain ⟨S6, F6⟩ := F5.madeR m6 h6 (fun g hg => ⟨_, (F5.mem 1 rfl), hg⟩) (L := (Ov S w.heap.size)) (F5.within (F5.mem 1 rfl)) (fun g hg => .inr hg)
       clear h6 m6 F5)
    | (with_reducible refine fm_store F6 0 rfl (o := ⟨none, .store 24 (.tmp 2) (.tmp 15), _, _, _, _⟩) rfl (.tmp 2) (.tmp 15) rfl rfl (c6) rfl rfl hc6.1 (tmc_len _ _ _ _ _ _ _) hc6.2 ?_; intro w7 F7; clear F6))
  refine bodyPost_ret (results_ct rfl _ _ b2 _ (.int .i64 0) rfl rfl (F7.ret 0 rfl) hc6.1) rfl ?_
  exact ⟨_, rfl, F7.mr (F7.mem 0 rfl), F7.m⟩
theorem rkey_c (t : Tm) (ca : List Value) (S : Nat → Prop) (w : World) (hT : TIs w S t ca) (hS : ∀ g, S g → g < w.heap.size) : Calls Tryd.prog 48 #[.agg ca.toArray] w (ResR w S (keyR t) (keyE t)) := by
  cases HR : t.right with
  | false => exact rkey_no t ca S w hT hS HR
  | true =>
  cases HK : (keyT t).right with
  | false => exact rkey_mid t ca S w hT hS HR HK
  | true => exact rkey_yes t ca S w hT hS HR HK
theorem back_end_no {w w' : World} {S : Nat → Prop} {t tt : Tm} {f to : Int} (e1 : backT t f to = orNil tt) (e2 : backE t f to = chk tt) (hr : tt.right = false) (m : Mod [] w w') : ResR w S (backT t f to) (backE t f to) (.returned (.tuple #[.agg (tmc 0 0 0 ⟨#[]⟩ none 0 0).toArray, .int .i64 150])) w' := by
  rw [e1, e2]
  exact ⟨_, by rw [chk, hr]; rfl, ⟨fun _ => False, by rw [orNil, hr]; exact nil_tis _ _, fun _ h => h.elim⟩, m⟩
theorem back_end_yes {w w' : World} {S : Nat → Prop} {t tt : Tm} {f to : Int} {cs : List Value} (e1 : backT t f to = orNil tt) (e2 : backE t f to = chk tt) (hr : tt.right = true) (h : ∃ Sx, TIs w' Sx tt cs ∧ ∀ g, Sx g → S g ∨ (w.heap.size ≤ g ∧ g < w'.heap.size)) (m : Mod [] w w') : ResR w S (backT t f to) (backE t f to) (.returned (.tuple #[.agg cs.toArray, .int .i64 0])) w' := by
  rw [e1, e2]
  exact ⟨_, by rw [chk, hr]; rfl, by rw [orNil, hr]; exact h, m⟩
set_option maxRecDepth 1000000 in
set_option maxHeartbeats 2000000 in
theorem rback_no (t : Tm) (ca : List Value) (S : Nat → Prop) (w : World) (hT : TIs w S t ca) (hS : ∀ g, S g → g < w.heap.size) (f to : Int) (HR : t.right = false) : Calls Tryd.prog 45 #[.agg ca.toArray, .int .i64 f, .int .i64 to] w (ResR w S (backT t f to) (backE t f to)) := by
  have hca := hT.ones
  have FA := (Fm.nil w).argL (Ov S w.heap.size) hT hS (fun _ h => .inl h)
  clear hT hS
  have RR := fun v S h => rright_c t ca S v h
  rw [HR] at RR
  obtain ⟨e1, e2⟩ := back_no (f := f) (to := to) HR
  rw [e1, e2]
  clear e1 e2 HR
  go_enter Tryd.func45, Tryd.ntmps45
  go_wp2_with (first
    | (with_reducible refine fm_box FA (o := ⟨some 3, .box 24 (.tmp 0), _, _, _, _⟩) rfl 24 (.tmp 0) rfl (ca) rfl ?_; intro b1 w1 F1; clear FA)
    | (with_reducible refine fm_alloc F1 (o := ⟨some 6, .alloc 24, _, _, _, _⟩) rfl 24 rfl _ zero24 ?_; intro b2 w2 F2; clear F1)
    | (with_reducible refine fm_load F2 1 rfl (o := ⟨some 9, .load 24 (.tmp 3), _, _, _, _⟩) rfl (.tmp 3) rfl rfl hca.1 ?_)
    | (go_at_call 29; refine (RR w2 _ (F2.ist (F2.mem 0 rfl))).mono ?_
       rintro e w3 ⟨rfl, m3⟩
       have F3 := F2.call m3
       clear m3 F2)
    | (with_reducible refine wpList_ran (o := ⟨some 12, .build 24 _, _, _, _, _⟩) rfl (.agg (tmc 0 0 0 ⟨#[]⟩ none 0 0).toArray) (exec_bF rfl) ?_)
    | (with_reducible refine fm_store F3 0 rfl (o := ⟨none, .store 24 (.tmp 6) (.tmp 12), _, _, _, _⟩) rfl (.tmp 6) (.tmp 12) rfl rfl (tmc 0 0 0 ⟨#[]⟩ none 0 0) rfl rfl (tmc_len _ _ _ _ _ _ _) (tmc_len _ _ _ _ _ _ _) (tmc_one _ _ _ _ _ _ _) ?_; intro w4 F4; clear F3))
  refine bodyPost_ret (results_ct rfl _ _ b2 _ (.int .i64 150) rfl rfl (F4.ret 0 rfl) (tmc_len _ _ _ _ _ _ _)) rfl ?_
  exact ⟨_, rfl, ⟨fun _ => False, nil_tis _ _, fun _ h => h.elim⟩, F4.m⟩
set_option maxRecDepth 1000000 in
set_option maxHeartbeats 2000000 in
theorem rback_a (t : Tm) (ca : List Value) (S : Nat → Prop) (w : World) (hT : TIs w S t ca) (hS : ∀ g, S g → g < w.heap.size) (f to : Int) (HR : t.right = true) (h1 : f < 1) : Calls Tryd.prog 45 #[.agg ca.toArray, .int .i64 f, .int .i64 to] w (ResR w S (backT t f to) (backE t f to)) := by
  have hca := hT.ones
  have FA := (Fm.nil w).argL (Ov S w.heap.size) hT hS (fun _ h => .inl h)
  clear hT hS
  have RR := fun v S h => rright_c t ca S v h
  rw [HR] at RR
  obtain ⟨e1, e2⟩ := back_out (t := t) (f := f) (to := to) (fun h => by have q1 := inE_le h.1; have q2 := inE_le h.2.1; omega) HR
  rw [e1, e2]
  have d1 : decide (f < 1) = true := by simp; omega
  clear e1 e2 HR
  go_enter Tryd.func45, Tryd.ntmps45
  go_wp2_with (first
    | (with_reducible refine fm_box FA (o := ⟨some 3, .box 24 (.tmp 0), _, _, _, _⟩) rfl 24 (.tmp 0) rfl (ca) rfl ?_; intro b1 w1 F1; clear FA)
    | (with_reducible refine fm_alloc F1 (o := ⟨some 6, .alloc 24, _, _, _, _⟩) rfl 24 rfl _ zero24 ?_; intro b2 w2 F2; clear F1)
    | (with_reducible refine fm_load F2 1 rfl (o := ⟨some 9, .load 24 (.tmp 3), _, _, _, _⟩) rfl (.tmp 3) rfl rfl hca.1 ?_)
    | (go_at_call 29; refine (RR w2 _ (F2.ist (F2.mem 0 rfl))).mono ?_
       rintro e w3 ⟨rfl, m3⟩
       have F3 := F2.call m3
       clear m3 F2)
    | (with_reducible refine wpList_ran (o := ⟨some 28, .build 24 _, _, _, _, _⟩) rfl (.agg (tmc 0 0 0 ⟨#[]⟩ none 0 0).toArray) (exec_bF rfl) ?_)
    | (with_reducible refine fm_store F3 0 rfl (o := ⟨none, .store 24 (.tmp 6) (.tmp 28), _, _, _, _⟩) rfl (.tmp 6) (.tmp 28) rfl rfl (tmc 0 0 0 ⟨#[]⟩ none 0 0) rfl rfl (tmc_len _ _ _ _ _ _ _) (tmc_len _ _ _ _ _ _ _) (tmc_one _ _ _ _ _ _ _) ?_; intro w4 F4; clear F3))
  refine bodyPost_ret (results_ct rfl _ _ b2 _ (.int .i64 2) rfl rfl (F4.ret 0 rfl) (tmc_len _ _ _ _ _ _ _)) rfl ?_
  exact ⟨_, rfl, ⟨fun _ => False, nil_tis _ _, fun _ h => h.elim⟩, F4.m⟩
set_option maxRecDepth 1000000 in
set_option maxHeartbeats 2000000 in
theorem rback_b (t : Tm) (ca : List Value) (S : Nat → Prop) (w : World) (hT : TIs w S t ca) (hS : ∀ g, S g → g < w.heap.size) (f to : Int) (HR : t.right = true) (h1 : 1 ≤ f) (h2 : 8 < f) : Calls Tryd.prog 45 #[.agg ca.toArray, .int .i64 f, .int .i64 to] w (ResR w S (backT t f to) (backE t f to)) := by
  have hca := hT.ones
  have FA := (Fm.nil w).argL (Ov S w.heap.size) hT hS (fun _ h => .inl h)
  clear hT hS
  have RR := fun v S h => rright_c t ca S v h
  rw [HR] at RR
  obtain ⟨e1, e2⟩ := back_out (t := t) (f := f) (to := to) (fun h => by have q1 := inE_le h.1; have q2 := inE_le h.2.1; omega) HR
  rw [e1, e2]
  have d1 : decide (f < 1) = false := by simp; omega
  have d2 : decide (8 < f) = true := by simp; omega
  clear e1 e2 HR
  go_enter Tryd.func45, Tryd.ntmps45
  go_wp2_with (first
    | (with_reducible refine fm_box FA (o := ⟨some 3, .box 24 (.tmp 0), _, _, _, _⟩) rfl 24 (.tmp 0) rfl (ca) rfl ?_; intro b1 w1 F1; clear FA)
    | (with_reducible refine fm_alloc F1 (o := ⟨some 6, .alloc 24, _, _, _, _⟩) rfl 24 rfl _ zero24 ?_; intro b2 w2 F2; clear F1)
    | (with_reducible refine fm_load F2 1 rfl (o := ⟨some 9, .load 24 (.tmp 3), _, _, _, _⟩) rfl (.tmp 3) rfl rfl hca.1 ?_)
    | (go_at_call 29; refine (RR w2 _ (F2.ist (F2.mem 0 rfl))).mono ?_
       rintro e w3 ⟨rfl, m3⟩
       have F3 := F2.call m3
       clear m3 F2)
    | (with_reducible refine wpList_ran (o := ⟨some 28, .build 24 _, _, _, _, _⟩) rfl (.agg (tmc 0 0 0 ⟨#[]⟩ none 0 0).toArray) (exec_bF rfl) ?_)
    | (with_reducible refine fm_store F3 0 rfl (o := ⟨none, .store 24 (.tmp 6) (.tmp 28), _, _, _, _⟩) rfl (.tmp 6) (.tmp 28) rfl rfl (tmc 0 0 0 ⟨#[]⟩ none 0 0) rfl rfl (tmc_len _ _ _ _ _ _ _) (tmc_len _ _ _ _ _ _ _) (tmc_one _ _ _ _ _ _ _) ?_; intro w4 F4; clear F3))
  refine bodyPost_ret (results_ct rfl _ _ b2 _ (.int .i64 2) rfl rfl (F4.ret 0 rfl) (tmc_len _ _ _ _ _ _ _)) rfl ?_
  exact ⟨_, rfl, ⟨fun _ => False, nil_tis _ _, fun _ h => h.elim⟩, F4.m⟩
set_option maxRecDepth 1000000 in
set_option maxHeartbeats 2000000 in
theorem rback_c' (t : Tm) (ca : List Value) (S : Nat → Prop) (w : World) (hT : TIs w S t ca) (hS : ∀ g, S g → g < w.heap.size) (f to : Int) (HR : t.right = true) (h1 : 1 ≤ f) (h2 : f ≤ 8) (h3 : to < 1) : Calls Tryd.prog 45 #[.agg ca.toArray, .int .i64 f, .int .i64 to] w (ResR w S (backT t f to) (backE t f to)) := by
  have hca := hT.ones
  have FA := (Fm.nil w).argL (Ov S w.heap.size) hT hS (fun _ h => .inl h)
  clear hT hS
  have RR := fun v S h => rright_c t ca S v h
  rw [HR] at RR
  obtain ⟨e1, e2⟩ := back_out (t := t) (f := f) (to := to) (fun h => by have q1 := inE_le h.1; have q2 := inE_le h.2.1; omega) HR
  rw [e1, e2]
  have d1 : decide (f < 1) = false := by simp; omega
  have d2 : decide (8 < f) = false := by simp; omega
  have d3 : decide (to < 1) = true := by simp; omega
  clear e1 e2 HR
  go_enter Tryd.func45, Tryd.ntmps45
  go_wp2_with (first
    | (with_reducible refine fm_box FA (o := ⟨some 3, .box 24 (.tmp 0), _, _, _, _⟩) rfl 24 (.tmp 0) rfl (ca) rfl ?_; intro b1 w1 F1; clear FA)
    | (with_reducible refine fm_alloc F1 (o := ⟨some 6, .alloc 24, _, _, _, _⟩) rfl 24 rfl _ zero24 ?_; intro b2 w2 F2; clear F1)
    | (with_reducible refine fm_load F2 1 rfl (o := ⟨some 9, .load 24 (.tmp 3), _, _, _, _⟩) rfl (.tmp 3) rfl rfl hca.1 ?_)
    | (go_at_call 29; refine (RR w2 _ (F2.ist (F2.mem 0 rfl))).mono ?_
       rintro e w3 ⟨rfl, m3⟩
       have F3 := F2.call m3
       clear m3 F2)
    | (with_reducible refine wpList_ran (o := ⟨some 28, .build 24 _, _, _, _, _⟩) rfl (.agg (tmc 0 0 0 ⟨#[]⟩ none 0 0).toArray) (exec_bF rfl) ?_)
    | (with_reducible refine fm_store F3 0 rfl (o := ⟨none, .store 24 (.tmp 6) (.tmp 28), _, _, _, _⟩) rfl (.tmp 6) (.tmp 28) rfl rfl (tmc 0 0 0 ⟨#[]⟩ none 0 0) rfl rfl (tmc_len _ _ _ _ _ _ _) (tmc_len _ _ _ _ _ _ _) (tmc_one _ _ _ _ _ _ _) ?_; intro w4 F4; clear F3))
  refine bodyPost_ret (results_ct rfl _ _ b2 _ (.int .i64 2) rfl rfl (F4.ret 0 rfl) (tmc_len _ _ _ _ _ _ _)) rfl ?_
  exact ⟨_, rfl, ⟨fun _ => False, nil_tis _ _, fun _ h => h.elim⟩, F4.m⟩
set_option maxRecDepth 1000000 in
set_option maxHeartbeats 2000000 in
theorem rback_d (t : Tm) (ca : List Value) (S : Nat → Prop) (w : World) (hT : TIs w S t ca) (hS : ∀ g, S g → g < w.heap.size) (f to : Int) (HR : t.right = true) (h1 : 1 ≤ f) (h2 : f ≤ 8) (h3 : 1 ≤ to) (h4 : f < to) : Calls Tryd.prog 45 #[.agg ca.toArray, .int .i64 f, .int .i64 to] w (ResR w S (backT t f to) (backE t f to)) := by
  have hca := hT.ones
  have FA := (Fm.nil w).argL (Ov S w.heap.size) hT hS (fun _ h => .inl h)
  clear hT hS
  have RR := fun v S h => rright_c t ca S v h
  rw [HR] at RR
  obtain ⟨e1, e2⟩ := back_out (t := t) (f := f) (to := to) (fun h => by have q1 := inE_le h.1; have q2 := inE_le h.2.1; omega) HR
  rw [e1, e2]
  have d1 : decide (f < 1) = false := by simp; omega
  have d2 : decide (8 < f) = false := by simp; omega
  have d3 : decide (to < 1) = false := by simp; omega
  have d4 : decide (f < to) = true := by simp; omega
  clear e1 e2 HR
  go_enter Tryd.func45, Tryd.ntmps45
  go_wp2_with (first
    | (with_reducible refine fm_box FA (o := ⟨some 3, .box 24 (.tmp 0), _, _, _, _⟩) rfl 24 (.tmp 0) rfl (ca) rfl ?_; intro b1 w1 F1; clear FA)
    | (with_reducible refine fm_alloc F1 (o := ⟨some 6, .alloc 24, _, _, _, _⟩) rfl 24 rfl _ zero24 ?_; intro b2 w2 F2; clear F1)
    | (with_reducible refine fm_load F2 1 rfl (o := ⟨some 9, .load 24 (.tmp 3), _, _, _, _⟩) rfl (.tmp 3) rfl rfl hca.1 ?_)
    | (go_at_call 29; refine (RR w2 _ (F2.ist (F2.mem 0 rfl))).mono ?_
       rintro e w3 ⟨rfl, m3⟩
       have F3 := F2.call m3
       clear m3 F2)
    | (with_reducible refine wpList_ran (o := ⟨some 28, .build 24 _, _, _, _, _⟩) rfl (.agg (tmc 0 0 0 ⟨#[]⟩ none 0 0).toArray) (exec_bF rfl) ?_)
    | (with_reducible refine fm_store F3 0 rfl (o := ⟨none, .store 24 (.tmp 6) (.tmp 28), _, _, _, _⟩) rfl (.tmp 6) (.tmp 28) rfl rfl (tmc 0 0 0 ⟨#[]⟩ none 0 0) rfl rfl (tmc_len _ _ _ _ _ _ _) (tmc_len _ _ _ _ _ _ _) (tmc_one _ _ _ _ _ _ _) ?_; intro w4 F4; clear F3))
  refine bodyPost_ret (results_ct rfl _ _ b2 _ (.int .i64 2) rfl rfl (F4.ret 0 rfl) (tmc_len _ _ _ _ _ _ _)) rfl ?_
  exact ⟨_, rfl, ⟨fun _ => False, nil_tis _ _, fun _ h => h.elim⟩, F4.m⟩
set_option maxRecDepth 1000000 in
set_option maxHeartbeats 2000000 in
theorem rback_ok (t : Tm) (ca : List Value) (S : Nat → Prop) (w : World) (hT : TIs w S t ca) (hS : ∀ g, S g → g < w.heap.size) (f to : Int) (HR : t.right = true) (h1 : 1 ≤ f) (h2 : f ≤ 8) (h3 : 1 ≤ to) (h4 : to ≤ f) : Calls Tryd.prog 45 #[.agg ca.toArray, .int .i64 f, .int .i64 to] w (ResR w S (backT t f to) (backE t f to)) := by
  have hca := hT.ones
  have FA := (Fm.nil w).argL (Ov S w.heap.size) hT hS (fun _ h => .inl h)
  clear hT hS
  have RR := fun v S h => rright_c t ca S v h
  rw [HR] at RR
  have d1 : decide (f < 1) = false := by simp; omega
  have d2 : decide (8 < f) = false := by simp; omega
  have d3 : decide (to < 1) = false := by simp; omega
  have d4 : decide (f < to) = false := by simp; omega
  obtain ⟨n, hn⟩ : ∃ n : Nat, (n : Int) = f - to := ⟨(f - to).toNat, by omega⟩
  have HN := Lib.hid hn
  have hin : inE f = true ∧ inE to = true ∧ to ≤ f := ⟨by simp [inE]; omega, by simp [inE]; omega, h4⟩
  have HB : Hid (∀ k, k = n → backT t f to = orNil (iter stA k t) ∧ backE t f to = chk (iter stA k t)) := Lib.hid (fun k hk => by subst hk; exact back_in hin HR hn)
  clear hn hin HR
  go_enter Tryd.func45, Tryd.ntmps45
  go_wp2_with (first
    | (with_reducible refine fm_box FA (o := ⟨some 3, .box 24 (.tmp 0), _, _, _, _⟩) rfl 24 (.tmp 0) rfl (ca) rfl ?_; intro b1 w1 F1; clear FA)
    | (with_reducible refine fm_alloc F1 (o := ⟨some 6, .alloc 24, _, _, _, _⟩) rfl 24 rfl _ zero24 ?_; intro b2 w2 F2; clear F1)
    | (with_reducible refine fm_load F2 1 rfl (o := ⟨some 9, .load 24 (.tmp 3), _, _, _, _⟩) rfl (.tmp 3) rfl rfl hca.1 ?_)
    | (go_at_call 29; refine (RR w2 _ (F2.ist (F2.mem 0 rfl))).mono ?_
       rintro e w3 ⟨rfl, m3⟩
       have F3 := F2.call m3
       clear m3 F2))
  go_loopw [8] (fun i wr => ∃ (j : Nat) (z : Int) (cs : List Value) (Sj : Nat → Prop), i = .int .i64 z ∧ Hid (z + j = f) ∧ to ≤ z ∧ z ≤ f ∧ (cs.length = 5 ∧ ∀ v ∈ cs, v.oneCell' = true) ∧ Fm w wr [oB b2 24 (tmc 0 0 0 ⟨#[]⟩ none 0 0), oB b1 24 cs] [tT (Ov S w.heap.size) Sj (iter stA j t) cs]) (fun i _ => (intOf i - to).toNat)
  case atStart => exact ⟨0, f, ca, S, rfl, Lib.hid (by omega), (by omega), Int.le_refl _, (by assumption), F3⟩
  case round =>
  obtain ⟨j, z, cj, Sj, rfl, hz, hz1, hz2, hcj, FJ⟩ := hrel
  by_cases hzt : to < z
  case neg =>
    have hdz : decide (to < z) = false := by simp; omega
    have hj : j = n := by have := hz.out; have := HN.out; omega
    subst hj
    have HB := HB
    cases HR : (iter stA j t).right
    case false =>
      have RJ := fun v S h => rright_c (iter stA j t) cj S v h
      rw [HR] at RJ
      obtain ⟨e1, e2⟩ := HB.out j rfl
      have HE := Lib.hid (And.intro e1 (And.intro e2 HR))
      clear HR e1 e2
      go_wp2_with (first
        | (with_reducible refine fm_load FJ 1 rfl (o := ⟨some 37, .load 24 (.tmp 3), _, _, _, _⟩) rfl (.tmp 3) rfl rfl hcj.1 ?_)
        | (go_at_call 29; refine (RJ wr _ (FJ.ist (FJ.mem 0 rfl))).mono ?_
           rintro e w51 ⟨rfl, m51⟩
           have F51 := FJ.call m51
           clear m51 FJ)
        | (with_reducible refine wpList_ran (o := ⟨some 40, .build 24 _, _, _, _, _⟩) rfl (.agg (tmc 0 0 0 ⟨#[]⟩ none 0 0).toArray) (exec_bF rfl) ?_)
        | (with_reducible refine fm_store F51 0 rfl (o := ⟨none, .store 24 (.tmp 6) (.tmp 40), _, _, _, _⟩) rfl (.tmp 6) (.tmp 40) rfl rfl (tmc 0 0 0 ⟨#[]⟩ none 0 0) rfl rfl (tmc_len _ _ _ _ _ _ _) (tmc_len _ _ _ _ _ _ _) (tmc_one _ _ _ _ _ _ _) ?_; intro w52 F52; clear F51))
      refine bodyPost_ret (results_ct rfl _ _ b2 _ (.int .i64 150) rfl rfl (F52.ret 0 rfl) (tmc_len _ _ _ _ _ _ _)) rfl ?_
      exact back_end_no HE.out.1 HE.out.2.1 HE.out.2.2 F52.m
    case true =>
      have RJ := fun v S h => rright_c (iter stA j t) cj S v h
      rw [HR] at RJ
      obtain ⟨e1, e2⟩ := HB.out j rfl
      have HE := Lib.hid (And.intro e1 (And.intro e2 HR))
      clear HR e1 e2
      go_wp2_with (first
        | (with_reducible refine fm_load FJ 1 rfl (o := ⟨some 37, .load 24 (.tmp 3), _, _, _, _⟩) rfl (.tmp 3) rfl rfl hcj.1 ?_)
        | (go_at_call 29; refine (RJ wr _ (FJ.ist (FJ.mem 0 rfl))).mono ?_
           rintro e w71 ⟨rfl, m71⟩
           have F71 := FJ.call m71
           clear m71 FJ)
        | (with_reducible refine fm_load F71 1 rfl (o := ⟨some 41, .load 24 (.tmp 3), _, _, _, _⟩) rfl (.tmp 3) rfl rfl hcj.1 ?_)
        | (with_reducible refine fm_store F71 0 rfl (o := ⟨none, .store 24 (.tmp 6) (.tmp 41), _, _, _, _⟩) rfl (.tmp 6) (.tmp 41) rfl rfl (cj) rfl rfl hcj.1 (tmc_len _ _ _ _ _ _ _) hcj.2 ?_; intro w72 F72; clear F71))
      refine bodyPost_ret (results_ct rfl _ _ b2 _ (.int .i64 0) rfl rfl (F72.ret 0 rfl) hcj.1) rfl ?_
      exact back_end_yes HE.out.1 HE.out.2.1 HE.out.2.2 (F72.mr (F72.mem 0 rfl)) F72.m
  have hdz : decide (to < z) = true := by simpa using hzt
  go_wp2_with (first
    | (with_reducible refine fm_load FJ 1 rfl (o := ⟨some 35, .load 24 (.tmp 3), _, _, _, _⟩) rfl (.tmp 3) rfl rfl hcj.1 ?_)
    | (go_at_call 69; refine (rhash_c wState (by decide) _ _ _ wr (FJ.ist (FJ.mem 0 rfl)) (FJ.ltm (FJ.mem 0 rfl))).mono ?_
       rintro e w31 ⟨c31, rfl, h31, m31⟩
       have hc31 := h31.elim fun _ h => h.1.ones
       obtain ⟨S31, F31⟩ := FJ.madeR m31 h31 (fun g hg => ⟨_, (FJ.mem 0 rfl), hg⟩) (L := (Ov S w.heap.size)) (FJ.within (FJ.mem 0 rfl)) (fun g hg => .inr hg)
       clear h31 m31 FJ)
    | (with_reducible refine fm_store F31 1 rfl (o := ⟨none, .store 24 (.tmp 3) (.tmp 36), _, _, _, _⟩) rfl (.tmp 3) (.tmp 36) rfl rfl (c31) rfl rfl hc31.1 hcj.1 hc31.2 ?_; intro w32 F32; clear F31))
  exact ⟨⟨j + 1, z - 1, _, _, by go_num, Lib.hid (by have := hz.out; omega), by omega, by omega, hc31, (F32.sub (ts' := [_]) (List.Sublist.refl _) (fun y hy => by rw [List.mem_singleton] at hy; subst hy; exact List.mem_cons_self ..))⟩, by simp [intOf]; omega⟩
theorem rback_c (t : Tm) (ca : List Value) (S : Nat → Prop) (w : World) (hT : TIs w S t ca) (hS : ∀ g, S g → g < w.heap.size) (f to : Int) : Calls Tryd.prog 45 #[.agg ca.toArray, .int .i64 f, .int .i64 to] w (ResR w S (backT t f to) (backE t f to)) := by
  cases HR : t.right with
  | false => exact rback_no t ca S w hT hS f to HR
  | true =>
  by_cases h1 : f < 1
  · exact rback_a t ca S w hT hS f to HR h1
  by_cases h2 : 8 < f
  · exact rback_b t ca S w hT hS f to HR (by omega) h2
  by_cases h3 : to < 1
  · exact rback_c' t ca S w hT hS f to HR (by omega) (by omega) h3
  by_cases h4 : f < to
  · exact rback_d t ca S w hT hS f to HR (by omega) (by omega) (by omega) h4
  exact rback_ok t ca S w hT hS f to HR (by omega) (by omega) (by omega) (by omega)
end
end Go.Proofs.YtchanildogjhgaaDoor
