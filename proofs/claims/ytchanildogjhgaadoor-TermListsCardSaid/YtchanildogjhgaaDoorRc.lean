/-
  the document's texts, pairs, digests, states and keys. My own work.
-/
import Derived.Test.YtchanildogjhgaaDoorRb
namespace Go.Proofs.YtchanildogjhgaaDoor
open Go.RowKit Go.Shelf
set_option linter.unusedVariables false
set_option linter.unusedSimpArgs false
set_option maxRecDepth 1000000 in
set_option maxHeartbeats 1000000 in
theorem rtext_c (s : ByteArray) (hss : s.size ≤ 140737488355328) (S : Nat → Prop) (w : World) : Calls Tryd.prog 17 #[.string s] w (MadeR w S (.mk 1 0 0 s [])) := by
  have FA := Fm.nil w
  go_enter Tryd.func17, Tryd.ntmps17
  go_wp2_with (first
    | (with_reducible refine fm_alloc FA (o := ⟨some 2, .alloc 24, _, _, _, _⟩) rfl 24 rfl _ zero24 ?_; intro b1 w1 F1; clear FA)
    | (with_reducible refine wpList_ran (o := ⟨some 4, .build 24 _, _, _, _, _⟩) rfl (.agg (tmc (1) 0 0 (s) none 0 0).toArray) (exec_bB rfl rfl rfl) ?_)
    | (with_reducible refine fm_store F1 0 rfl (o := ⟨none, .store 24 (.tmp 2) (.tmp 4), _, _, _, _⟩) rfl (.tmp 2) (.tmp 4) rfl rfl (tmc (1) 0 0 (s) none 0 0) rfl rfl (tmc_len _ _ _ _ _ _ _) (tmc_len _ _ _ _ _ _ _) (tmc_one _ _ _ _ _ _ _) ?_; intro w2 F2; clear F1))
  refine bodyPost_ret (results_cell1 rfl _ _ b1 _ rfl (F2.ret 0 rfl) (tmc_len _ _ _ _ _ _ _)) rfl ?_
  exact ⟨_, rfl, ⟨fun _ => False, .mk 1 0 0 s [] none 0 [] hss (Nat.le_refl _) (by decide) (by decide) (fun _ h => by cases h) rfl (by simp) (Cells.nil _ _) (fun i h => by simp at h), fun _ h => h.elim⟩, F2.m⟩
set_option maxRecDepth 1000000 in
set_option maxHeartbeats 1000000 in
theorem rpair_c (a : Tm) (ca : List Value) (Sa : Nat → Prop) (b : Tm) (cb : List Value) (Sb : Nat → Prop) (S : Nat → Prop) (w : World) (hTa : TIs w Sa a ca) (hTb : TIs w Sb b cb) (hSa : ∀ g, Sa g → g < w.heap.size) (hSb : ∀ g, Sb g → g < w.heap.size) (hA : ∀ g, Sa g → S g) (hB : ∀ g, Sb g → S g) : Calls Tryd.prog 21 #[.agg ca.toArray, .agg cb.toArray] w (MadeR w S (.mk 4 0 0 ⟨#[]⟩ [a, b])) := by
  have hca := hTa.ones
  have hcb := hTb.ones
  have FA := ((Fm.nil w).argL (Ov S w.heap.size) hTa hSa (fun g h => .inl (hA g h))).argL (Ov S w.heap.size) hTb hSb (fun g h => .inl (hB g h))
  clear hTa hTb hSa hSb hA hB
  go_enter Tryd.func21, Tryd.ntmps21
  go_wp2_with (first
    | (with_reducible refine fm_box FA (o := ⟨some 2, .box 24 (.tmp 0), _, _, _, _⟩) rfl 24 (.tmp 0) rfl (ca) rfl ?_; intro b1 w1 F1; clear FA)
    | (with_reducible refine fm_box F1 (o := ⟨some 3, .box 24 (.tmp 1), _, _, _, _⟩) rfl 24 (.tmp 1) rfl (cb) rfl ?_; intro b2 w2 F2; clear F1)
    | (with_reducible refine fm_alloc F2 (o := ⟨some 4, .alloc 24, _, _, _, _⟩) rfl 24 rfl _ zero24 ?_; intro b3 w3 F3; clear F2)
    | (with_reducible refine fm_load F3 2 rfl (o := ⟨some 5, .load 24 (.tmp 2), _, _, _, _⟩) rfl (.tmp 2) rfl rfl hca.1 ?_)
    | (with_reducible refine fm_load F3 1 rfl (o := ⟨some 6, .load 24 (.tmp 3), _, _, _, _⟩) rfl (.tmp 3) rfl rfl hcb.1 ?_)
    | (with_reducible refine fm_row2 F3 (F3.mem 1 rfl) (F3.mem 0 rfl) (Ov S w.heap.size) (fun _ h => h) (fun _ h => h) (fun g hg => .inr hg) rfl (.tmp 5) (.tmp 6) rfl rfl rfl ?_; intro g4 S4 w4 F4; clear F3)
    | (with_reducible refine wpList_ran (o := ⟨some 8, .build 24 _, _, _, _, _⟩) rfl (.agg (tmc (4) 0 0 ⟨#[]⟩ (some ⟨g4, 0, none⟩) 2 2).toArray) (exec_bH rfl rfl rfl) ?_; have F5 := F4.term (F4.mem 0 rfl) (4) 0 0 ⟨#[]⟩ 2 2 rfl (by decide) (by decide) (by decide); clear F4)
    | (with_reducible refine fm_store F5 0 rfl (o := ⟨none, .store 24 (.tmp 4) (.tmp 8), _, _, _, _⟩) rfl (.tmp 4) (.tmp 8) rfl rfl (tmc (4) 0 0 ⟨#[]⟩ (some ⟨g4, 0, none⟩) 2 2) rfl rfl (tmc_len _ _ _ _ _ _ _) (tmc_len _ _ _ _ _ _ _) (tmc_one _ _ _ _ _ _ _) ?_; intro w6 F6; clear F5))
  refine bodyPost_ret (results_cell1 rfl _ _ b3 _ rfl (F6.ret 0 rfl) (tmc_len _ _ _ _ _ _ _)) rfl ?_
  exact ⟨_, rfl, F6.mr (F6.mem 0 rfl), F6.m⟩
set_option maxRecDepth 1000000 in
set_option maxHeartbeats 1000000 in
theorem rhash_c (s : ByteArray) (hss : s.size ≤ 140737488355328) (t : Tm) (ca : List Value) (S : Nat → Prop) (w : World) (hT : TIs w S t ca) (hS : ∀ g, S g → g < w.heap.size) : Calls Tryd.prog 69 #[.string s, .agg ca.toArray] w (MadeR w S (hdT s t)) := by
  have hca := hT.ones
  have FA := (Fm.nil w).argL (Ov S w.heap.size) hT hS (fun _ h => .inl h)
  clear hT hS
  go_enter Tryd.func69, Tryd.ntmps69
  go_wp2_with (first
    | (with_reducible refine fm_box FA (o := ⟨some 3, .box 24 (.tmp 1), _, _, _, _⟩) rfl 24 (.tmp 1) rfl (ca) rfl ?_; intro b1 w1 F1; clear FA)
    | (with_reducible refine fm_alloc F1 (o := ⟨some 4, .alloc 24, _, _, _, _⟩) rfl 24 rfl _ zero24 ?_; intro b2 w2 F2; clear F1))
  obtain ⟨Ts3, hTs3, FZ⟩ := (F2.call (Mod.drew [] w2)).name
  have in0 := F2.mem 0 rfl
  rw [← hTs3] at in0
  refine wp_region_upxd (X := (Nat → List Value) × (Nat → Nat)) (fun _ => [], fun _ => 0) (fun x => [(5, .string s), (6, .agg ((x.1 1)).toArray), (7, .agg (ca).toArray), (8, .agg ((x.1 3)).toArray), (9, .slice (some ⟨x.2 4, 0, none⟩) 1 1), (10, .agg (tmc (5) 0 0 ⟨#[]⟩ (some ⟨x.2 4, 0, none⟩) 1 1).toArray)]) 11 [5, 6, 7, 8, 9, 10] rfl (fun _ => rfl) (by decide) (by kernel_rfl) (fun x lz v => ∃ ts, Fm w v [oB b2 24 (if lz 6 = true then tmc (5) 0 0 ⟨#[]⟩ (some ⟨x.2 4, 0, none⟩) 1 1 else tmc 0 0 0 ⟨#[]⟩ none 0 0), oB b1 24 (ca)] ts ∧ Ts3 ⊆ ts ∧ (lz 1 = true → ∃ Sx, tT (Ov S w.heap.size) Sx ((.mk 1 0 0 s [])) (x.1 1) ∈ ts) ∧ (lz 3 = true → ∃ Sx, tT (Ov S w.heap.size) Sx ((.mk 4 0 0 ⟨#[]⟩ [(.mk 1 0 0 s []), t])) (x.1 3) ∈ ts) ∧ (lz 4 = true → ∃ Sx, tR (Ov S w.heap.size) Sx (some ⟨x.2 4, 0, none⟩) [(x.1 3)] [(.mk 4 0 0 ⟨#[]⟩ [(.mk 1 0 0 s []), t])] ∈ ts)) (by kernel_rfl) ⟨_, FZ, List.Subset.refl _, (fun h => by cases h), (fun h => by cases h), (fun h => by cases h)⟩ (by kernel_rfl) (by kernel_rfl) ?step ?fin
  case step =>
    intro x lz T v j o hj hlj hdep hst hpar hgot hcl hdf Kq hK
    have hjn : j < 7 := (Array.getElem?_eq_some_iff.1 hj).1
    obtain rfl | rfl | rfl | rfl | rfl | rfl | rfl : j = 0 ∨ j = 1 ∨ j = 2 ∨ j = 3 ∨ j = 4 ∨ j = 5 ∨ j = 6 := by omega
    all_goals (have hj' := Option.some.inj (hj : some _ = some o); subst hj'; clear hj)
    · exact wp_ran rfl (exec_move rfl (eval_tmp ((hpar 0 rfl).trans rfl))) (hK x _ _ (fun _ _ _ _ _ _ => rfl) (fun s hs => by cases hs; rfl) (by simpa using hst))
    · obtain ⟨ts, FT, hs, g1, g3, g4⟩ := hst
      refine wp_called rfl (exec_call1 rfl rfl (eval_tmp (hgot 0 _ 5 rfl (hdep ⟨0, .data⟩ (by simp) rfl) rfl)) (enters_of Tryd.func17 (by kernel_rfl) rfl)) ((rtext_c s hss (fun _ => False) v).mono ?_)
      rintro e v' ⟨cs, rfl, hT, m⟩
      obtain ⟨S', FT'⟩ := FT.madeR m hT (fun _ h => h.elim) (L := (Ov S w.heap.size)) (fun _ h => h.elim) (fun g hg => .inr hg)
      refine ⟨_, rfl, hK (fun i => if i = 1 then cs else x.1 i, x.2) _ _ (fun j' o' s' q1 q2 q3 => by
          have q4 : j' < 7 := (Array.getElem?_eq_some_iff.1 q1).1
          clear hpar hgot hdep hK
          obtain rfl | rfl | rfl | rfl | rfl | rfl | rfl : j' = 0 ∨ j' = 1 ∨ j' = 2 ∨ j' = 3 ∨ j' = 4 ∨ j' = 5 ∨ j' = 6 := by omega
          all_goals (cases q1; cases q3 <;> first | rfl | (rw [hlj] at q2; cases q2))) (fun s hs => by cases hs; rfl) ?_⟩
      refine ⟨_, (by simpa using FT'), (fun y hy => List.mem_cons_of_mem _ (hs hy)), (fun _ => ⟨_, List.mem_cons_self ..⟩), (fun h => by obtain ⟨Sx, h⟩ := g3 (by simpa using h); exact ⟨Sx, List.mem_cons_of_mem _ h⟩), (fun h => by obtain ⟨Sx, h⟩ := g4 (by simpa using h); exact ⟨Sx, List.mem_cons_of_mem _ h⟩)⟩
    · obtain ⟨ts, FT, hts⟩ := hst
      have hL := FT.blk 1 rfl
      exact wp_ran rfl (exec_load rfl (eval_tmp ((hpar 3 rfl).trans rfl)) (run_loads (Cells.of_holds hL) Tryd.underlying24 rfl (size24' hca.1))) (hK x _ _ (fun _ _ _ _ _ _ => rfl) (fun s hs => by cases hs; rfl) (by simpa using (show ∃ ts, _ from ⟨ts, FT, hts⟩)))
    · obtain ⟨ts, FT, hs, g1, g3, g4⟩ := hst
      obtain ⟨S1, e1⟩ := g1 (hdep ⟨1, .data⟩ (by simp) rfl)
      have l4 : lz 4 = false := (by cases hh : lz 4 with | false => rfl | true => exact absurd (hcl 4 _ rfl hh ⟨3, .data⟩ (by simp) rfl) (by rw [hlj]; simp))
      refine wp_called rfl (exec_call2 rfl rfl (eval_tmp (hgot 1 _ 6 rfl (hdep ⟨1, .data⟩ (by simp) rfl) rfl)) (eval_tmp (hgot 2 _ 7 rfl (hdep ⟨2, .data⟩ (by simp) rfl) rfl)) (enters_of Tryd.func21 (by kernel_rfl) rfl)) ((rpair_c _ _ _ _ _ _ (fun g => (∃ y ∈ ts, y.1 g) ∧ Ov S w.heap.size g) v (FT.ist e1) (FT.ist (hs in0)) (FT.ltm e1) (FT.ltm (hs in0)) (fun g hg => ⟨⟨_, e1, hg⟩, FT.within e1 g hg⟩) (fun g hg => ⟨⟨_, (hs in0), hg⟩, FT.within (hs in0) g hg⟩)).mono ?_)
      rintro e v' ⟨cs, rfl, hT, m⟩
      obtain ⟨S', FT'⟩ := FT.madeR m hT (fun g hg => hg.1) (L := (Ov S w.heap.size)) (fun g hg => hg.2) (fun g hg => .inr hg)
      refine ⟨_, rfl, hK (fun i => if i = 3 then cs else x.1 i, x.2) _ _ (fun j' o' s' q1 q2 q3 => by
          have q4 : j' < 7 := (Array.getElem?_eq_some_iff.1 q1).1
          clear hpar hgot hdep hK
          obtain rfl | rfl | rfl | rfl | rfl | rfl | rfl : j' = 0 ∨ j' = 1 ∨ j' = 2 ∨ j' = 3 ∨ j' = 4 ∨ j' = 5 ∨ j' = 6 := by omega
          all_goals (cases q1; cases q3 <;> first | rfl | (rw [hlj] at q2; cases q2))) (fun s hs => by cases hs; rfl) ?_⟩
      refine ⟨_, (by simpa using FT'), (fun y hy => List.mem_cons_of_mem _ (hs hy)), (fun h => by obtain ⟨Sx, h⟩ := g1 (by simpa using h); exact ⟨Sx, List.mem_cons_of_mem _ h⟩), (fun _ => ⟨_, List.mem_cons_self ..⟩), ((fun h => absurd h (by simp [l4])))⟩
    · obtain ⟨ts, FT, hs, g1, g3, g4⟩ := hst
      obtain ⟨S3, e3⟩ := g3 (hdep ⟨3, .data⟩ (by simp) rfl)
      have l5 : lz 5 = false := (by cases hh : lz 5 with | false => rfl | true => exact absurd (hcl 5 _ rfl hh ⟨4, .data⟩ (by simp) rfl) (by rw [hlj]; simp))
      have l6 : lz 6 = false := (by cases hh : lz 6 with | false => rfl | true => exact absurd (hcl 6 _ rfl hh ⟨4, .phase⟩ (by simp) rfl) (by rw [hlj]; simp))
      obtain ⟨S', FT'⟩ := FT.row1 e3 (Ov S w.heap.size) (fun _ h => h) (fun g hg => .inr hg)
      refine wp_ran rfl (exec_lit1 (FT.ist e3).len rfl (eval_tmp (hgot 3 _ 8 rfl (hdep ⟨3, .data⟩ (by simp) rfl) rfl))) (hK (x.1, fun i => if i = 4 then v.heap.size else x.2 i) _ _ (fun j' o' s' q1 q2 q3 => by
          have q4 : j' < 7 := (Array.getElem?_eq_some_iff.1 q1).1
          clear hpar hgot hdep hK
          obtain rfl | rfl | rfl | rfl | rfl | rfl | rfl : j' = 0 ∨ j' = 1 ∨ j' = 2 ∨ j' = 3 ∨ j' = 4 ∨ j' = 5 ∨ j' = 6 := by omega
          all_goals (cases q1; cases q3 <;> first | rfl | (rw [hlj] at q2; cases q2) | (rw [l5] at q2; cases q2))) (fun s hs => by cases hs; rfl) ?_)
      exact ⟨_, (by simpa [l6] using FT'), (fun y hy => List.mem_cons_of_mem _ (hs hy)), (fun h => by obtain ⟨Sx, h⟩ := g1 (by simpa using h); exact ⟨Sx, List.mem_cons_of_mem _ h⟩), (fun h => by obtain ⟨Sx, h⟩ := g3 (by simpa using h); exact ⟨Sx, List.mem_cons_of_mem _ h⟩), (fun _ => ⟨_, List.mem_cons_self ..⟩)⟩
    · exact wp_ran rfl (exec_bH rfl rfl (eval_tmp (hgot 4 _ 9 rfl (hdep ⟨4, .data⟩ (by simp) rfl) rfl))) (hK x _ _ (fun _ _ _ _ _ _ => rfl) (fun s hs => by cases hs; rfl) (by simpa using hst))
    · obtain ⟨ts, FT, hs, g1, g3, g4⟩ := hst
      rw [if_neg (by rw [hlj]; decide)] at FT
      refine wp_stored rfl rfl (eval_tmp ((hpar 4 rfl).trans rfl)) (eval_tmp (hgot 5 _ 10 rfl (hdep ⟨5, .data⟩ (by simp) rfl) rfl)) rfl (FT.blk 0 rfl) ((tmc_len _ _ _ _ _ _ _).trans ((tmc_len _ _ _ _ _ _ _)).symm) (tmc_one _ _ _ _ _ _ _) (size24' (tmc_len _ _ _ _ _ _ _)) fun v' hv m => hK x undef _ (fun _ _ _ _ _ _ => rfl) (fun s hs => by cases hs) ?_
      have FT' := FT.turn m 0 rfl (fun g hg => List.mem_singleton.1 hg) _ (keeps_oB _ _ _) hv (fun g hg => ⟨.inl hg, by have : g = b2 := hg; have := hv.lt; omega⟩)
      exact ⟨_, (by simpa using FT'), hs, (by simpa using g1), (by simpa using g3), (by simpa using g4)⟩
  case fin =>
  intro x lz w3 hlz hst
  obtain ⟨ts, FT, hs, g1, g3, g4⟩ := hst
  obtain ⟨S3_1, e1⟩ := g1 (hlz 1 (by decide))
  obtain ⟨S3_3, e3⟩ := g3 (hlz 3 (by decide))
  obtain ⟨S3_4, e4⟩ := g4 (hlz 4 (by decide))
  obtain ⟨c3_1, hx1⟩ : ∃ c, c = x.1 1 := ⟨_, rfl⟩
  obtain ⟨c3_3, hx3⟩ : ∃ c, c = x.1 3 := ⟨_, rfl⟩
  obtain ⟨g3_4, hx4⟩ : ∃ c, c = x.2 4 := ⟨_, rfl⟩
  rw [if_pos (hlz 6 (by decide))] at FT
  have F3 := FT.sub (ts' := [tT (Ov S w.heap.size) S3_1 ((.mk 1 0 0 s [])) (x.1 1), tT (Ov S w.heap.size) S3_3 ((.mk 4 0 0 ⟨#[]⟩ [(.mk 1 0 0 s []), t])) (x.1 3), tR (Ov S w.heap.size) S3_4 (some ⟨x.2 4, 0, none⟩) [(x.1 3)] [(.mk 4 0 0 ⟨#[]⟩ [(.mk 1 0 0 s []), t])]] ++ Ts3) (List.Sublist.refl _) (fun y hy => by
    rcases List.mem_append.1 hy with hy | hy
    · simp only [List.mem_cons, List.not_mem_nil, or_false] at hy
      rcases hy with rfl | rfl | rfl
      all_goals assumption
    · exact hs hy)
  rw [hTs3] at F3
  simp only [List.cons_append, List.nil_append] at F3
  have hc3_1 := (F3.tis 0 rfl).ones
  have hc3_3 := (F3.tis 1 rfl).ones
  dsimp only [setAll, List.foldl_cons, List.foldl_nil, List.set_cons_succ, List.set_cons_zero]
  rw [← hx1] at F3 hc3_1 ⊢
  rw [← hx3] at F3 hc3_3 ⊢
  rw [← hx4] at F3 ⊢
  clear FT hs hlz hTs3 FZ e1 g1 hx1 e3 g3 hx3 e4 g4 hx4 in0 F2
  have F4 := F3.term (F3.mem 2 rfl) (5) 0 0 ⟨#[]⟩ 1 1 rfl (by decide) (by decide) (by decide)
  clear F3
  go_wp2_with fail
  refine bodyPost_ret (results_cell1 rfl _ _ b2 _ rfl (F4.ret 0 rfl) (tmc_len _ _ _ _ _ _ _)) rfl ?_
  exact ⟨_, rfl, F4.mr (F4.mem 0 rfl), F4.m⟩
end Go.Proofs.YtchanildogjhgaaDoor
