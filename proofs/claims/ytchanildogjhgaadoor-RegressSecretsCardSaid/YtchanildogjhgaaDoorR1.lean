/-
  My own texts Ra Rb, one behind the other.
-/
import Derived.Test.YtchanildogjhgaaDoorFm
namespace Go.Proofs.YtchanildogjhgaaDoor
section
open Go.RowKit Go.Shelf
set_option linter.unusedVariables false
set_option linter.unusedSimpArgs false
abbrev hdT (s : ByteArray) (t : Tm) : Tm := .mk 5 0 0 ⟨#[]⟩ [.mk 4 0 0 ⟨#[]⟩ [.mk 1 0 0 s [], t]]
abbrev wState : ByteArray := ⟨#[115, 116, 97, 116, 101]⟩
abbrev wKey : ByteArray := ⟨#[107, 101, 121]⟩
def stA (t : Tm) : Tm := hdT wState t
def keyT (t : Tm) : Tm := hdT wKey t
def iter (f : Tm → Tm) : Nat → Tm → Tm
  | 0, t => t
  | n + 1, t => f (iter f n t)
abbrev nilT : Tm := .mk 0 0 0 ⟨#[]⟩ []
/-- A term that may be; else none. -/
def orNil (t : Tm) : Tm := if t.right = true then t else nilT
theorem nil_tis (w : World) (S : Nat → Prop) : TIs w S nilT (tmc 0 0 0 ⟨#[]⟩ none 0 0) := .mk 0 0 0 ⟨#[]⟩ [] none 0 [] (by decide) (Nat.le_refl _) (by decide) (by decide) (fun _ h => by cases h) rfl (by simp) (Cells.nil _ _) (fun i h => by simp at h)
def Ans (w : World) (t : Tm) (e : Ending) (w' : World) : Prop := ∃ cs, e = .returned (.tuple #[.agg cs.toArray, .int .i64 (chk t)]) ∧ TIs w' (Btw w.heap.size w'.heap.size) (orNil t) cs ∧ Mod [] w w'
theorem Ans_no {w w' : World} {t' tt : Tm} (h : tt = t') (HR : tt.right = false) (m : Mod [] w w') : Ans w t' (.returned (.tuple #[.agg (tmc 0 0 0 ⟨#[]⟩ none 0 0).toArray, .int .i64 150])) w' := by
  subst h
  exact ⟨_, by rw [chk, HR]; rfl, by rw [orNil, HR]; exact nil_tis _ _, m⟩
theorem Ans_yes {w w' : World} {t' tt : Tm} {cs : List Value} (h : tt = t') (HR : tt.right = true) (hT : TIs w' (Btw w.heap.size w'.heap.size) tt cs) (m : Mod [] w w') : Ans w t' (.returned (.tuple #[.agg cs.toArray, .int .i64 0])) w' := by
  subst h
  exact ⟨_, by rw [chk, HR]; rfl, by rw [orNil, HR]; exact hT, m⟩
set_option maxRecDepth 1000000 in
set_option maxHeartbeats 1000000 in
theorem digest_c (s : ByteArray) (hss : s.size ≤ 140737488355328) (t : Tm) (ca : List Value) (S : Nat → Prop) (w : World) (hT : TIs w S t ca) (hS : ∀ g, S g → g < w.heap.size) : Calls Tryd.prog 90 #[.string s, .agg ca.toArray] w (MadeT w (hdT s t)) := by
  have hca := hT.ones
  have FA := (Fm.nil w).argT hT hS
  clear hT hS
  go_enter Tryd.func90, Tryd.ntmps90
  go_wp2_with (first
    | (with_reducible refine fm_box FA (o := ⟨some 3, .box 24 (.tmp 1), _, _, _, _⟩) rfl 24 (.tmp 1) rfl (ca) rfl ?_; intro b1 w1 F1; clear FA)
    | (with_reducible refine fm_alloc F1 (o := ⟨some 4, .alloc 24, _, _, _, _⟩) rfl 24 rfl _ zero24 ?_; intro b2 w2 F2; clear F1))
  obtain ⟨Ts3, hTs3, FZ⟩ := (F2.call (Mod.drew [] w2)).name
  have in0 := F2.mem 0 rfl
  rw [← hTs3] at in0
  refine wp_region_upxd (X := (Nat → List Value) × (Nat → Nat)) (fun _ => [], fun _ => 0) (fun x => [(5, .string s), (6, .agg ((x.1 1)).toArray), (7, .agg (ca).toArray), (8, .agg ((x.1 3)).toArray), (9, .agg ((x.1 4)).toArray)]) 10 [5, 6, 7, 8, 9] rfl (fun _ => rfl) (by decide) (by kernel_rfl) (fun x lz v => ∃ ts, Fm w v [oB b2 24 (if lz 5 = true then (x.1 4) else tmc 0 0 0 ⟨#[]⟩ none 0 0), oB b1 24 (ca)] ts ∧ Ts3 ⊆ ts ∧ (lz 1 = true → ∃ S, tT (Up w.heap.size) S ((.mk 1 0 0 s [])) (x.1 1) ∈ ts) ∧ (lz 3 = true → ∃ S, tT (Up w.heap.size) S ((.mk 4 0 0 ⟨#[]⟩ [(.mk 1 0 0 s []), t])) (x.1 3) ∈ ts) ∧ (lz 4 = true → ∃ S, tT (Up w.heap.size) S ((hdT s t)) (x.1 4) ∈ ts)) (by kernel_rfl) ⟨_, FZ, List.Subset.refl _, (fun h => by cases h), (fun h => by cases h), (fun h => by cases h)⟩ (by kernel_rfl) (by kernel_rfl) ?step ?fin
  case step =>
    intro x lz T v j o hj hlj hdep hst hpar hgot hcl hdf Kq hK
    have hjn : j < 6 := (Array.getElem?_eq_some_iff.1 hj).1
    obtain rfl | rfl | rfl | rfl | rfl | rfl : j = 0 ∨ j = 1 ∨ j = 2 ∨ j = 3 ∨ j = 4 ∨ j = 5 := by omega
    all_goals (have hj' := Option.some.inj (hj : some _ = some o); subst hj'; clear hj)
    · exact wp_ran rfl (exec_move rfl (eval_tmp ((hpar 0 rfl).trans rfl))) (hK x _ _ (fun _ _ _ _ _ _ => rfl) (fun s hs => by cases hs; rfl) (by simpa using hst))
    · obtain ⟨ts, FT, hs, g1, g3, g4⟩ := hst
      refine wp_called rfl (exec_call1 rfl rfl (eval_tmp (hgot 0 _ 5 rfl (hdep ⟨0, .data⟩ (by simp) rfl) rfl)) (enters_of Tryd.func16 (by kernel_rfl) rfl)) ((text_c s hss v).mono ?_)
      rintro e v' ⟨cs, rfl, hT, m⟩
      have FT' := FT.made m hT
      refine ⟨_, rfl, hK (fun i => if i = 1 then cs else x.1 i, x.2) _ _ (fun j' o' s' q1 q2 q3 => by
          have q4 : j' < 6 := (Array.getElem?_eq_some_iff.1 q1).1
          clear hpar hgot hdep hK
          obtain rfl | rfl | rfl | rfl | rfl | rfl : j' = 0 ∨ j' = 1 ∨ j' = 2 ∨ j' = 3 ∨ j' = 4 ∨ j' = 5 := by omega
          all_goals (cases q1; cases q3 <;> first | rfl | (rw [hlj] at q2; cases q2))) (fun s hs => by cases hs; rfl) ?_⟩
      refine ⟨_, (by simpa using FT'), (fun y hy => List.mem_cons_of_mem _ (hs hy)), (fun _ => ⟨_, List.mem_cons_self ..⟩), (fun h => by obtain ⟨S, h⟩ := g3 (by simpa using h); exact ⟨S, List.mem_cons_of_mem _ h⟩), (fun h => by obtain ⟨S, h⟩ := g4 (by simpa using h); exact ⟨S, List.mem_cons_of_mem _ h⟩)⟩
    · obtain ⟨ts, FT, hts⟩ := hst
      have hL := FT.blk 1 rfl
      exact wp_ran rfl (exec_load rfl (eval_tmp ((hpar 3 rfl).trans rfl)) (run_loads (Cells.of_holds hL) Tryd.underlying24 rfl (size24' hca.1))) (hK x _ _ (fun _ _ _ _ _ _ => rfl) (fun s hs => by cases hs; rfl) (by simpa using (show ∃ ts, _ from ⟨ts, FT, hts⟩)))
    · obtain ⟨ts, FT, hs, g1, g3, g4⟩ := hst
      obtain ⟨S1, e1⟩ := g1 (hdep ⟨1, .data⟩ (by simp) rfl)
      refine wp_called rfl (exec_call2 rfl rfl (eval_tmp (hgot 1 _ 6 rfl (hdep ⟨1, .data⟩ (by simp) rfl) rfl)) (eval_tmp (hgot 2 _ 7 rfl (hdep ⟨2, .data⟩ (by simp) rfl) rfl)) (enters_of Tryd.func20 (by kernel_rfl) rfl)) ((pair_c _ _ _ _ _ _ v (FT.ist e1) (FT.ist (hs in0))).mono ?_)
      rintro e v' ⟨cs, rfl, hT, m⟩
      have FT' := FT.made m hT
      refine ⟨_, rfl, hK (fun i => if i = 3 then cs else x.1 i, x.2) _ _ (fun j' o' s' q1 q2 q3 => by
          have q4 : j' < 6 := (Array.getElem?_eq_some_iff.1 q1).1
          clear hpar hgot hdep hK
          obtain rfl | rfl | rfl | rfl | rfl | rfl : j' = 0 ∨ j' = 1 ∨ j' = 2 ∨ j' = 3 ∨ j' = 4 ∨ j' = 5 := by omega
          all_goals (cases q1; cases q3 <;> first | rfl | (rw [hlj] at q2; cases q2))) (fun s hs => by cases hs; rfl) ?_⟩
      refine ⟨_, (by simpa using FT'), (fun y hy => List.mem_cons_of_mem _ (hs hy)), (fun h => by obtain ⟨S, h⟩ := g1 (by simpa using h); exact ⟨S, List.mem_cons_of_mem _ h⟩), (fun _ => ⟨_, List.mem_cons_self ..⟩), (fun h => by obtain ⟨S, h⟩ := g4 (by simpa using h); exact ⟨S, List.mem_cons_of_mem _ h⟩)⟩
    · obtain ⟨ts, FT, hs, g1, g3, g4⟩ := hst
      obtain ⟨S3, e3⟩ := g3 (hdep ⟨3, .data⟩ (by simp) rfl)
      have l5 : lz 5 = false := (by cases hh : lz 5 with | false => rfl | true => exact absurd (hcl 5 _ rfl hh ⟨4, .data⟩ (by simp) rfl) (by rw [hlj]; simp))
      refine wp_called rfl (exec_call1 rfl rfl (eval_tmp (hgot 3 _ 8 rfl (hdep ⟨3, .data⟩ (by simp) rfl) rfl)) (enters_of Tryd.func23 (by kernel_rfl) rfl)) ((hash_c _ _ _ v (FT.ist e3)).mono ?_)
      rintro e v' ⟨cs, rfl, hT, m⟩
      have FT' := FT.made m hT
      refine ⟨_, rfl, hK (fun i => if i = 4 then cs else x.1 i, x.2) _ _ (fun j' o' s' q1 q2 q3 => by
          have q4 : j' < 6 := (Array.getElem?_eq_some_iff.1 q1).1
          clear hpar hgot hdep hK
          obtain rfl | rfl | rfl | rfl | rfl | rfl : j' = 0 ∨ j' = 1 ∨ j' = 2 ∨ j' = 3 ∨ j' = 4 ∨ j' = 5 := by omega
          all_goals (cases q1; cases q3 <;> first | rfl | (rw [hlj] at q2; cases q2))) (fun s hs => by cases hs; rfl) ?_⟩
      refine ⟨_, (by simpa [l5] using FT'), (fun y hy => List.mem_cons_of_mem _ (hs hy)), (fun h => by obtain ⟨S, h⟩ := g1 (by simpa using h); exact ⟨S, List.mem_cons_of_mem _ h⟩), (fun h => by obtain ⟨S, h⟩ := g3 (by simpa using h); exact ⟨S, List.mem_cons_of_mem _ h⟩), (fun _ => ⟨_, List.mem_cons_self ..⟩)⟩
    · obtain ⟨ts, FT, hs, g1, g3, g4⟩ := hst
      obtain ⟨S4, e4⟩ := g4 (hdep ⟨4, .data⟩ (by simp) rfl)
      rw [if_neg (by rw [hlj]; decide)] at FT
      refine wp_stored rfl rfl (eval_tmp ((hpar 4 rfl).trans rfl)) (eval_tmp (hgot 4 _ 9 rfl (hdep ⟨4, .data⟩ (by simp) rfl) rfl)) rfl (FT.blk 0 rfl) ((FT.ist e4).len.trans ((tmc_len _ _ _ _ _ _ _)).symm) (FT.ist e4).one (size24' (FT.ist e4).len) fun v' hv m => hK x undef _ (fun _ _ _ _ _ _ => rfl) (fun s hs => by cases hs) ?_
      have FT' := FT.turn m 0 rfl (fun g hg => List.mem_singleton.1 hg) _ (keeps_oB _ _ _) hv (fun g hg => ⟨.inl hg, by have : g = b2 := hg; have := hv.lt; omega⟩)
      exact ⟨_, (by simpa using FT'), hs, (by simpa using g1), (by simpa using g3), (by simpa using g4)⟩
  case fin =>
  intro x lz w3 hlz hst
  obtain ⟨ts, FT, hs, g1, g3, g4⟩ := hst
  obtain ⟨S3_1, e1⟩ := g1 (hlz 1 (by decide))
  obtain ⟨S3_3, e3⟩ := g3 (hlz 3 (by decide))
  obtain ⟨S3_4, e4⟩ := g4 (hlz 4 (by decide))
  obtain ⟨c3_1, hx1⟩ : ∃ c, c = x.1 1 := ⟨_, rfl⟩
  obtain ⟨c3_3, hx3⟩ : ∃ c, c = x.1 3 := ⟨_, rfl⟩
  obtain ⟨c3_4, hx4⟩ : ∃ c, c = x.1 4 := ⟨_, rfl⟩
  rw [if_pos (hlz 5 (by decide))] at FT
  have F3 := FT.sub (ts' := [tT (Up w.heap.size) S3_1 ((.mk 1 0 0 s [])) (x.1 1), tT (Up w.heap.size) S3_3 ((.mk 4 0 0 ⟨#[]⟩ [(.mk 1 0 0 s []), t])) (x.1 3), tT (Up w.heap.size) S3_4 ((hdT s t)) (x.1 4)] ++ Ts3) (List.Sublist.refl _) (fun y hy => by
    rcases List.mem_append.1 hy with hy | hy
    · simp only [List.mem_cons, List.not_mem_nil, or_false] at hy
      rcases hy with rfl | rfl | rfl
      all_goals assumption
    · exact hs hy)
  rw [hTs3] at F3
  simp only [List.cons_append, List.nil_append] at F3
  have hc3_1 := (F3.tis 0 rfl).ones
  have hc3_3 := (F3.tis 1 rfl).ones
  have hc3_4 := (F3.tis 2 rfl).ones
  dsimp only [setAll, List.foldl_cons, List.foldl_nil, List.set_cons_succ, List.set_cons_zero]
  rw [← hx1] at F3 hc3_1 ⊢
  rw [← hx3] at F3 hc3_3 ⊢
  rw [← hx4] at F3 hc3_4 ⊢
  clear FT hs hlz hTs3 FZ e1 g1 hx1 e3 g3 hx3 e4 g4 hx4 in0 F2
  go_wp2_with fail
  refine bodyPost_ret (results_cell1 rfl _ _ b2 _ rfl (F3.ret 0 rfl) hc3_4.1) rfl ?_
  exact ⟨_, rfl, F3.mt 2 rfl, F3.m⟩
set_option maxRecDepth 1000000 in
set_option maxHeartbeats 1000000 in
theorem ahead_c (t : Tm) (ca : List Value) (S : Nat → Prop) (w : World) (hT : TIs w S t ca) (hS : ∀ g, S g → g < w.heap.size) : Calls Tryd.prog 72 #[.agg ca.toArray] w (MadeT w (stA t)) := by
  have hca := hT.ones
  have FA := (Fm.nil w).argT hT hS
  clear hT hS
  go_enter Tryd.func72, Tryd.ntmps72
  go_wp2_with (first
    | (with_reducible refine fm_box FA (o := ⟨some 1, .box 24 (.tmp 0), _, _, _, _⟩) rfl 24 (.tmp 0) rfl (ca) rfl ?_; intro b1 w1 F1; clear FA)
    | (with_reducible refine fm_alloc F1 (o := ⟨some 2, .alloc 24, _, _, _, _⟩) rfl 24 rfl _ zero24 ?_; intro b2 w2 F2; clear F1)
    | (with_reducible refine fm_load F2 1 rfl (o := ⟨some 3, .load 24 (.tmp 1), _, _, _, _⟩) rfl (.tmp 1) rfl rfl hca.1 ?_)
    | (go_at_call 90; refine (digest_c wState (by decide) _ _ _ w2 (F2.tis 0 rfl) (F2.slt 0 rfl)).mono ?_
       rintro e w3 ⟨c3, rfl, h3, m3⟩
       have hc3 := h3.ones
       have F3 := F2.made m3 h3
       clear h3 m3 F2)
    | (with_reducible refine fm_store F3 0 rfl (o := ⟨none, .store 24 (.tmp 2) (.tmp 4), _, _, _, _⟩) rfl (.tmp 2) (.tmp 4) rfl rfl (c3) rfl rfl hc3.1 (tmc_len _ _ _ _ _ _ _) hc3.2 ?_; intro w4 F4; clear F3))
  refine bodyPost_ret (results_cell1 rfl _ _ b2 _ rfl (F4.ret 0 rfl) hc3.1) rfl ?_
  exact ⟨_, rfl, F4.mt 0 rfl, F4.m⟩
set_option maxRecDepth 1000000 in
set_option maxHeartbeats 1000000 in
theorem keyOf_c (t : Tm) (ca : List Value) (S : Nat → Prop) (w : World) (hT : TIs w S t ca) (hS : ∀ g, S g → g < w.heap.size) : Calls Tryd.prog 73 #[.agg ca.toArray] w (MadeT w (keyT t)) := by
  have hca := hT.ones
  have FA := (Fm.nil w).argT hT hS
  clear hT hS
  go_enter Tryd.func73, Tryd.ntmps73
  go_wp2_with (first
    | (with_reducible refine fm_box FA (o := ⟨some 1, .box 24 (.tmp 0), _, _, _, _⟩) rfl 24 (.tmp 0) rfl (ca) rfl ?_; intro b1 w1 F1; clear FA)
    | (with_reducible refine fm_alloc F1 (o := ⟨some 2, .alloc 24, _, _, _, _⟩) rfl 24 rfl _ zero24 ?_; intro b2 w2 F2; clear F1)
    | (with_reducible refine fm_load F2 1 rfl (o := ⟨some 3, .load 24 (.tmp 1), _, _, _, _⟩) rfl (.tmp 1) rfl rfl hca.1 ?_)
    | (go_at_call 90; refine (digest_c wKey (by decide) _ _ _ w2 (F2.tis 0 rfl) (F2.slt 0 rfl)).mono ?_
       rintro e w3 ⟨c3, rfl, h3, m3⟩
       have hc3 := h3.ones
       have F3 := F2.made m3 h3
       clear h3 m3 F2)
    | (with_reducible refine fm_store F3 0 rfl (o := ⟨none, .store 24 (.tmp 2) (.tmp 4), _, _, _, _⟩) rfl (.tmp 2) (.tmp 4) rfl rfl (c3) rfl rfl hc3.1 (tmc_len _ _ _ _ _ _ _) hc3.2 ?_; intro w4 F4; clear F3))
  refine bodyPost_ret (results_cell1 rfl _ _ b2 _ rfl (F4.ret 0 rfl) hc3.1) rfl ?_
  exact ⟨_, rfl, F4.mt 0 rfl, F4.m⟩
set_option maxRecDepth 1000000 in
set_option maxHeartbeats 2000000 in
theorem walked_st (n : Nat) (hn : n ≤ 8) (t : Tm) (ca : List Value) (S : Nat → Prop) (w : World) (hT : TIs w S t ca) (hS : ∀ g, S g → g < w.heap.size) (G : Glob w) : Calls Tryd.prog 71 #[.agg ca.toArray, .int .i64 n, .func (.func 72) #[] #[]] w (Ans w (iter stA n t)) := by
  have hca := hT.ones
  have FA := (Fm.nil w).argT hT hS
  clear hT hS
  go_enter Tryd.func71, Tryd.ntmps71
  go_wp2_with (first
    | (with_reducible refine fm_box FA (o := ⟨some 3, .box 24 (.tmp 0), _, _, _, _⟩) rfl 24 (.tmp 0) rfl (ca) rfl ?_; intro b1 w1 F1; clear FA)
    | (with_reducible refine fm_alloc F1 (o := ⟨some 6, .alloc 24, _, _, _, _⟩) rfl 24 rfl _ zero24 ?_; intro b2 w2 F2; clear F1))
  go_loopw [10] (fun i wr => ∃ (j : Nat) (cs : List Value) (S : Nat → Prop), i = .int .i64 j ∧ j ≤ n ∧ (cs.length = 5 ∧ ∀ v ∈ cs, v.oneCell' = true) ∧ Fm w wr [oB b2 24 (tmc 0 0 0 ⟨#[]⟩ none 0 0), oB b1 24 cs] [tT Any S (iter stA j t) cs]) (fun i _ => n - (intOf i).toNat)
  case atStart => exact ⟨0, ca, S, rfl, Nat.zero_le _, (by assumption), F2⟩
  case round =>
  obtain ⟨j, cj, Sj, rfl, hj, hcj, FJ⟩ := hrel
  by_cases hjl : j < n
  case neg =>
    obtain rfl : n = j := by omega
    obtain ⟨tt, htt⟩ : ∃ x, x = iter stA n t := ⟨_, rfl⟩
    rw [← htt] at FJ
    have HT := Lib.hid htt
    clear htt
    cases HR : tt.right
    case false =>
      go_wp2_with (first
        | (with_reducible refine fm_load FJ 1 rfl (o := ⟨some 17, .load 24 (.tmp 3), _, _, _, _⟩) rfl (.tmp 3) rfl rfl hcj.1 ?_)
        | (go_at_call 50; refine (encode_no _ _ _ wr (FJ.tis 0 rfl) (FJ.glob G) HR).mono ?_
           rintro e w51 ⟨rfl, m51⟩
           have F51 := FJ.call m51
           clear m51 FJ)
        | (with_reducible refine fm_load F51 0 rfl (o := ⟨some 29, .load 24 (.tmp 6), _, _, _, _⟩) rfl (.tmp 6) rfl rfl (tmc_len _ _ _ _ _ _ _) ?_)
        | (with_reducible refine fm_store F51 0 rfl (o := ⟨none, .store 24 (.tmp 6) (.tmp 29), _, _, _, _⟩) rfl (.tmp 6) (.tmp 29) rfl rfl (tmc 0 0 0 ⟨#[]⟩ none 0 0) rfl rfl (tmc_len _ _ _ _ _ _ _) (tmc_len _ _ _ _ _ _ _) (tmc_one _ _ _ _ _ _ _) ?_; intro w52 F52; clear F51))
      refine bodyPost_ret (results_ct rfl _ _ b2 _ (.int .i64 150) rfl rfl (F52.ret 0 rfl) (tmc_len _ _ _ _ _ _ _)) rfl ?_
      exact Ans_no HT.out HR F52.m
    case true =>
      obtain ⟨nn, hnn⟩ : ∃ x, x = tt.bytes.length := ⟨_, rfl⟩
      have EN := fun v S h1 h2 h3 => encode_yes tt cj S v h1 h2 h3 HR
      simp only [← hnn] at EN
      have hB := (back_again HR []).1
      rw [List.append_nil] at hB
      have hl := right_len HR
      rw [← hnn] at hl
      have DE := fun A c v h G => decode_yes A tt.bytes [] tt (0 + tt.count) nn c nn v hnn (by omega) h G hB (by simp)
      have HH := Lib.hid HR
      clear hnn hB hl HR
      go_wp2_with (first
        | (with_reducible refine fm_load FJ 1 rfl (o := ⟨some 17, .load 24 (.tmp 3), _, _, _, _⟩) rfl (.tmp 3) rfl rfl hcj.1 ?_)
        | (go_at_call 50; refine (EN wr _ (FJ.tis 0 rfl) (FJ.slt 0 rfl) (FJ.glob G)).mono ?_
           rintro e w71 ⟨A5, k5, rfl, ho5, m71, _⟩
           have hr5 := ho5.reads
           have F71 := FJ.call m71
           clear ho5 m71 EN
           clear FJ)
        | (go_at_call 51; refine (DE A5 k5 w71 hr5 (F71.glob G)).mono ?_
           rintro e w72 ⟨c72, rfl, h72, m72⟩
           have hc72 := h72.ones
           have F72 := F71.made m72 h72
           clear h72 m72 DE hr5
           clear F71)
        | (with_reducible refine fm_store F72 0 rfl (o := ⟨none, .store 24 (.tmp 6) (.tmp 26), _, _, _, _⟩) rfl (.tmp 6) (.tmp 26) rfl rfl (c72) rfl rfl hc72.1 (tmc_len _ _ _ _ _ _ _) hc72.2 ?_; intro w73 F73; clear F72)
        | (with_reducible refine fm_load F73 0 rfl (o := ⟨some 29, .load 24 (.tmp 6), _, _, _, _⟩) rfl (.tmp 6) rfl rfl hc72.1 ?_)
        | (with_reducible refine fm_store F73 0 rfl (o := ⟨none, .store 24 (.tmp 6) (.tmp 29), _, _, _, _⟩) rfl (.tmp 6) (.tmp 29) rfl rfl (c72) rfl rfl hc72.1 hc72.1 hc72.2 ?_; intro w74 F74; clear F73))
      refine bodyPost_ret (results_ct rfl _ _ b2 _ (.int .i64 0) rfl rfl (F74.ret 0 rfl) hc72.1) rfl ?_
      exact Ans_yes HT.out HH.out (F74.mt 0 rfl) F74.m
  go_wp2_with (first
    | (with_reducible refine fm_load FJ 1 rfl (o := ⟨some 13, .load 24 (.tmp 3), _, _, _, _⟩) rfl (.tmp 3) rfl rfl hcj.1 ?_)
    | (go_at_call 72; refine (ahead_c _ _ _ wr (FJ.tis 0 rfl) (FJ.slt 0 rfl)).mono ?_
       rintro e w31 ⟨c31, rfl, h31, m31⟩
       have hc31 := h31.ones
       have F31 := FJ.made m31 h31
       clear h31 m31 FJ)
    | (with_reducible refine fm_store F31 1 rfl (o := ⟨none, .store 24 (.tmp 3) (.tmp 14), _, _, _, _⟩) rfl (.tmp 3) (.tmp 14) rfl rfl (c31) rfl rfl hc31.1 hcj.1 hc31.2 ?_; intro w32 F32; clear F31))
  exact ⟨⟨j + 1, _, _, by go_num, by omega, hc31, (F32.sub (ts' := [_]) (List.Sublist.refl _) (fun y hy => by rw [List.mem_singleton] at hy; subst hy; exact List.mem_cons_self ..)).weak⟩, by simp [intOf]; omega⟩
set_option maxRecDepth 1000000 in
set_option maxHeartbeats 2000000 in
theorem walked_key (n : Nat) (hn : n ≤ 8) (t : Tm) (ca : List Value) (S : Nat → Prop) (w : World) (hT : TIs w S t ca) (hS : ∀ g, S g → g < w.heap.size) (G : Glob w) : Calls Tryd.prog 71 #[.agg ca.toArray, .int .i64 n, .func (.func 73) #[] #[]] w (Ans w (iter keyT n t)) := by
  have hca := hT.ones
  have FA := (Fm.nil w).argT hT hS
  clear hT hS
  go_enter Tryd.func71, Tryd.ntmps71
  go_wp2_with (first
    | (with_reducible refine fm_box FA (o := ⟨some 3, .box 24 (.tmp 0), _, _, _, _⟩) rfl 24 (.tmp 0) rfl (ca) rfl ?_; intro b1 w1 F1; clear FA)
    | (with_reducible refine fm_alloc F1 (o := ⟨some 6, .alloc 24, _, _, _, _⟩) rfl 24 rfl _ zero24 ?_; intro b2 w2 F2; clear F1))
  go_loopw [10] (fun i wr => ∃ (j : Nat) (cs : List Value) (S : Nat → Prop), i = .int .i64 j ∧ j ≤ n ∧ (cs.length = 5 ∧ ∀ v ∈ cs, v.oneCell' = true) ∧ Fm w wr [oB b2 24 (tmc 0 0 0 ⟨#[]⟩ none 0 0), oB b1 24 cs] [tT Any S (iter keyT j t) cs]) (fun i _ => n - (intOf i).toNat)
  case atStart => exact ⟨0, ca, S, rfl, Nat.zero_le _, (by assumption), F2⟩
  case round =>
  obtain ⟨j, cj, Sj, rfl, hj, hcj, FJ⟩ := hrel
  by_cases hjl : j < n
  case neg =>
    obtain rfl : n = j := by omega
    obtain ⟨tt, htt⟩ : ∃ x, x = iter keyT n t := ⟨_, rfl⟩
    rw [← htt] at FJ
    have HT := Lib.hid htt
    clear htt
    cases HR : tt.right
    case false =>
      go_wp2_with (first
        | (with_reducible refine fm_load FJ 1 rfl (o := ⟨some 17, .load 24 (.tmp 3), _, _, _, _⟩) rfl (.tmp 3) rfl rfl hcj.1 ?_)
        | (go_at_call 50; refine (encode_no _ _ _ wr (FJ.tis 0 rfl) (FJ.glob G) HR).mono ?_
           rintro e w51 ⟨rfl, m51⟩
           have F51 := FJ.call m51
           clear m51 FJ)
        | (with_reducible refine fm_load F51 0 rfl (o := ⟨some 29, .load 24 (.tmp 6), _, _, _, _⟩) rfl (.tmp 6) rfl rfl (tmc_len _ _ _ _ _ _ _) ?_)
        | (with_reducible refine fm_store F51 0 rfl (o := ⟨none, .store 24 (.tmp 6) (.tmp 29), _, _, _, _⟩) rfl (.tmp 6) (.tmp 29) rfl rfl (tmc 0 0 0 ⟨#[]⟩ none 0 0) rfl rfl (tmc_len _ _ _ _ _ _ _) (tmc_len _ _ _ _ _ _ _) (tmc_one _ _ _ _ _ _ _) ?_; intro w52 F52; clear F51))
      refine bodyPost_ret (results_ct rfl _ _ b2 _ (.int .i64 150) rfl rfl (F52.ret 0 rfl) (tmc_len _ _ _ _ _ _ _)) rfl ?_
      exact Ans_no HT.out HR F52.m
    case true =>
      obtain ⟨nn, hnn⟩ : ∃ x, x = tt.bytes.length := ⟨_, rfl⟩
      have EN := fun v S h1 h2 h3 => encode_yes tt cj S v h1 h2 h3 HR
      simp only [← hnn] at EN
      have hB := (back_again HR []).1
      rw [List.append_nil] at hB
      have hl := right_len HR
      rw [← hnn] at hl
      have DE := fun A c v h G => decode_yes A tt.bytes [] tt (0 + tt.count) nn c nn v hnn (by omega) h G hB (by simp)
      have HH := Lib.hid HR
      clear hnn hB hl HR
      go_wp2_with (first
        | (with_reducible refine fm_load FJ 1 rfl (o := ⟨some 17, .load 24 (.tmp 3), _, _, _, _⟩) rfl (.tmp 3) rfl rfl hcj.1 ?_)
        | (go_at_call 50; refine (EN wr _ (FJ.tis 0 rfl) (FJ.slt 0 rfl) (FJ.glob G)).mono ?_
           rintro e w71 ⟨A5, k5, rfl, ho5, m71, _⟩
           have hr5 := ho5.reads
           have F71 := FJ.call m71
           clear ho5 m71 EN
           clear FJ)
        | (go_at_call 51; refine (DE A5 k5 w71 hr5 (F71.glob G)).mono ?_
           rintro e w72 ⟨c72, rfl, h72, m72⟩
           have hc72 := h72.ones
           have F72 := F71.made m72 h72
           clear h72 m72 DE hr5
           clear F71)
        | (with_reducible refine fm_store F72 0 rfl (o := ⟨none, .store 24 (.tmp 6) (.tmp 26), _, _, _, _⟩) rfl (.tmp 6) (.tmp 26) rfl rfl (c72) rfl rfl hc72.1 (tmc_len _ _ _ _ _ _ _) hc72.2 ?_; intro w73 F73; clear F72)
        | (with_reducible refine fm_load F73 0 rfl (o := ⟨some 29, .load 24 (.tmp 6), _, _, _, _⟩) rfl (.tmp 6) rfl rfl hc72.1 ?_)
        | (with_reducible refine fm_store F73 0 rfl (o := ⟨none, .store 24 (.tmp 6) (.tmp 29), _, _, _, _⟩) rfl (.tmp 6) (.tmp 29) rfl rfl (c72) rfl rfl hc72.1 hc72.1 hc72.2 ?_; intro w74 F74; clear F73))
      refine bodyPost_ret (results_ct rfl _ _ b2 _ (.int .i64 0) rfl rfl (F74.ret 0 rfl) hc72.1) rfl ?_
      exact Ans_yes HT.out HH.out (F74.mt 0 rfl) F74.m
  go_wp2_with (first
    | (with_reducible refine fm_load FJ 1 rfl (o := ⟨some 13, .load 24 (.tmp 3), _, _, _, _⟩) rfl (.tmp 3) rfl rfl hcj.1 ?_)
    | (go_at_call 73; refine (keyOf_c _ _ _ wr (FJ.tis 0 rfl) (FJ.slt 0 rfl)).mono ?_
       rintro e w31 ⟨c31, rfl, h31, m31⟩
       have hc31 := h31.ones
       have F31 := FJ.made m31 h31
       clear h31 m31 FJ)
    | (with_reducible refine fm_store F31 1 rfl (o := ⟨none, .store 24 (.tmp 3) (.tmp 14), _, _, _, _⟩) rfl (.tmp 3) (.tmp 14) rfl rfl (c31) rfl rfl hc31.1 hcj.1 hc31.2 ?_; intro w32 F32; clear F31))
  exact ⟨⟨j + 1, _, _, by go_num, by omega, hc31, (F32.sub (ts' := [_]) (List.Sublist.refl _) (fun y hy => by rw [List.mem_singleton] at hy; subst hy; exact List.mem_cons_self ..)).weak⟩, by simp [intOf]; omega⟩
end
section
open Go.RowKit Go.Shelf
set_option linter.unusedVariables false
set_option linter.unusedSimpArgs false
theorem isEpoch_c (e : Int) (w : World) : Calls Tryd.prog 70 #[.int .i64 e] w fun r w' => r = .returned (.bool (decide (1 ≤ e) && decide (e ≤ 8))) ∧ Mod [] w w' := by
  cases h1 : decide (1 ≤ e)
  · go_enter Tryd.func70, Tryd.ntmps70
    go_wp2_with fail
    go_ret
    exact ⟨rfl, Mod.refl _ _⟩
  · go_enter Tryd.func70, Tryd.ntmps70
    go_wp2_with fail
    go_ret
    exact ⟨rfl, Mod.refl _ _⟩
/-- A term and what is wrong, told; the term in new memory. -/
def Res (w : World) (t : Tm) (k : Int) (e : Ending) (w' : World) : Prop := ∃ cs, e = .returned (.tuple #[.agg cs.toArray, .int .i64 k]) ∧ TIs w' (Btw w.heap.size w'.heap.size) t cs ∧ Mod [] w w'
/-- The same, where memory may be shared. -/
def ResR (w : World) (S0 : Nat → Prop) (t : Tm) (k : Int) (e : Ending) (w' : World) : Prop := ∃ cs, e = .returned (.tuple #[.agg cs.toArray, .int .i64 k]) ∧ (∃ S, TIs w' S t cs ∧ ∀ g, S g → S0 g ∨ (w.heap.size ≤ g ∧ g < w'.heap.size)) ∧ Mod [] w w'
def MadeR (w : World) (S0 : Nat → Prop) (t : Tm) (e : Ending) (w' : World) : Prop := ∃ cs, e = .returned (.agg cs.toArray) ∧ (∃ S, TIs w' S t cs ∧ ∀ g, S g → S0 g ∨ (w.heap.size ≤ g ∧ g < w'.heap.size)) ∧ Mod [] w w'
theorem Ans.res {w w' : World} {t : Tm} {e : Ending} (h : Ans w t e w') : Res w (orNil t) (chk t) e w' := h
def inE (e : Int) : Bool := decide (1 ≤ e) && decide (e ≤ 8)
/-- Back, as the document says it. -/
def backT (t : Tm) (f to : Int) : Tm := if t.right = true ∧ inE f = true ∧ inE to = true ∧ to ≤ f then orNil (iter stA (f - to).toNat t) else nilT
def backE (t : Tm) (f to : Int) : Int := if t.right = false then 150 else if inE f = true ∧ inE to = true ∧ to ≤ f then chk (iter stA (f - to).toNat t) else 2
theorem Fm.mr {w0 w : World} {os ts : List Th} (F : Fm w0 w os ts) {S S0 : Nat → Prop} {t : Tm} {cs : List Value} (h : tT (Ov S0 w0.heap.size) S t cs ∈ ts) : ∃ S, TIs w S t cs ∧ ∀ g, S g → S0 g ∨ (w0.heap.size ≤ g ∧ g < w.heap.size) :=
  ⟨S, F.ist h, fun g hg => (F.within h g hg).imp_right fun h' => ⟨h', F.ltm h g hg⟩⟩
/-- Key, as the document says it. -/
def keyR (t : Tm) : Tm := if t.right = true then orNil (keyT t) else nilT
def keyE (t : Tm) : Int := if t.right = true then chk (keyT t) else 150
set_option maxRecDepth 1000000 in
set_option maxHeartbeats 2000000 in
theorem key_c (t : Tm) (ca : List Value) (S : Nat → Prop) (w : World) (hT : TIs w S t ca) (hS : ∀ g, S g → g < w.heap.size) (G : Glob w) : Calls Tryd.prog 47 #[.agg ca.toArray] w (Res w (keyR t) (keyE t)) := by
  have hca := hT.ones
  have FA := (Fm.nil w).argT hT hS
  clear hT hS
  have CK := fun v S h G => check_c t ca S v h G
  unfold keyR keyE
  cases HR : t.right with
  | false =>
    rw [show chk t = 150 by rw [chk, HR]; rfl] at CK
    simp only [Bool.false_eq_true, if_false]
    clear HR
    go_enter Tryd.func47, Tryd.ntmps47
    go_wp2_with (first
      | (with_reducible refine fm_box FA (o := ⟨some 1, .box 24 (.tmp 0), _, _, _, _⟩) rfl 24 (.tmp 0) rfl (ca) rfl ?_; intro b1 w1 F1; clear FA)
      | (with_reducible refine fm_alloc F1 (o := ⟨some 2, .alloc 24, _, _, _, _⟩) rfl 24 rfl _ zero24 ?_; intro b2 w2 F2; clear F1)
      | (with_reducible refine fm_load F2 1 rfl (o := ⟨some 5, .load 24 (.tmp 1), _, _, _, _⟩) rfl (.tmp 1) rfl rfl hca.1 ?_)
      | (go_at_call 32; refine (CK w2 _ (F2.ist (F2.mem 0 rfl)) (F2.glob G)).mono ?_
         rintro e w3 ⟨rfl, m3⟩
         have F3 := F2.call m3
         clear m3 F2)
      | (with_reducible refine wpList_ran (o := ⟨some 9, .build 24 _, _, _, _, _⟩) rfl (.agg (tmc 0 0 0 ⟨#[]⟩ none 0 0).toArray) (exec_bF rfl) ?_)
      | (with_reducible refine fm_store F3 0 rfl (o := ⟨none, .store 24 (.tmp 2) (.tmp 9), _, _, _, _⟩) rfl (.tmp 2) (.tmp 9) rfl rfl (tmc 0 0 0 ⟨#[]⟩ none 0 0) rfl rfl (tmc_len _ _ _ _ _ _ _) (tmc_len _ _ _ _ _ _ _) (tmc_one _ _ _ _ _ _ _) ?_; intro w4 F4; clear F3))
    refine bodyPost_ret (results_ct rfl _ _ b2 _ (.int .i64 150) rfl rfl (F4.ret 0 rfl) (tmc_len _ _ _ _ _ _ _)) rfl ?_
    exact ⟨_, rfl, nil_tis _ _, F4.m⟩
  | true =>
    rw [show chk t = 0 by rw [chk, HR]; rfl] at CK
    simp only [if_true]
    clear HR
    go_enter Tryd.func47, Tryd.ntmps47
    go_wp2_with (first
      | (with_reducible refine fm_box FA (o := ⟨some 1, .box 24 (.tmp 0), _, _, _, _⟩) rfl 24 (.tmp 0) rfl (ca) rfl ?_; intro b1 w1 F1; clear FA)
      | (with_reducible refine fm_alloc F1 (o := ⟨some 2, .alloc 24, _, _, _, _⟩) rfl 24 rfl _ zero24 ?_; intro b2 w2 F2; clear F1)
      | (with_reducible refine fm_load F2 1 rfl (o := ⟨some 5, .load 24 (.tmp 1), _, _, _, _⟩) rfl (.tmp 1) rfl rfl hca.1 ?_)
      | (go_at_call 32; refine (CK w2 _ (F2.ist (F2.mem 0 rfl)) (F2.glob G)).mono ?_
         rintro e w3 ⟨rfl, m3⟩
         have F3 := F2.call m3
         clear m3 F2)
      | (with_reducible refine fm_load F3 1 rfl (o := ⟨some 11, .load 24 (.tmp 1), _, _, _, _⟩) rfl (.tmp 1) rfl rfl hca.1 ?_)
      | (go_at_call 71; refine (walked_key 1 (by decide) _ _ _ w3 (F3.ist (F3.mem 0 rfl)) (F3.ltm (F3.mem 0 rfl)) (F3.glob G)).mono ?_
         rintro e w4 ⟨c4, rfl, h4, m4⟩
         have hc4 := h4.ones
         have F4 := F3.made m4 h4
         clear h4 m4
         clear F3)
      | (with_reducible refine fm_store F4 0 rfl (o := ⟨none, .store 24 (.tmp 2) (.tmp 13), _, _, _, _⟩) rfl (.tmp 2) (.tmp 13) rfl rfl (c4) rfl rfl hc4.1 (tmc_len _ _ _ _ _ _ _) hc4.2 ?_; intro w5 F5; clear F4))
    refine bodyPost_ret (results_ct rfl _ _ b2 _ (.int .i64 (chk (iter keyT 1 t))) rfl rfl (F5.ret 0 rfl) hc4.1) rfl ?_
    exact ⟨_, rfl, F5.mt 0 rfl, F5.m⟩
theorem back_out {t : Tm} {f to : Int} (h : ¬ (inE f = true ∧ inE to = true ∧ to ≤ f)) (hr : t.right = true) : backT t f to = nilT ∧ backE t f to = 2 := by
  constructor
  · exact if_neg fun h' => h h'.2
  · unfold backE
    rw [if_neg (by rw [hr]; decide), if_neg h]
theorem back_no {t : Tm} {f to : Int} (hr : t.right = false) : backT t f to = nilT ∧ backE t f to = 150 :=
  ⟨if_neg fun h' => (by rw [hr] at h'; exact absurd h'.1 (by decide)), if_pos hr⟩
theorem back_in {t : Tm} {f to : Int} {n : Nat} (h : inE f = true ∧ inE to = true ∧ to ≤ f) (hr : t.right = true) (hn : (n : Int) = f - to) : backT t f to = orNil (iter stA n t) ∧ backE t f to = chk (iter stA n t) := by
  have e : (f - to).toNat = n := by omega
  constructor
  · unfold backT
    rw [if_pos ⟨hr, h⟩, e]
  · unfold backE
    rw [if_neg (by rw [hr]; decide), if_pos h, e]
theorem inE_le {e : Int} (h : inE e = true) : 1 ≤ e ∧ e ≤ 8 := by simpa [inE] using h
set_option maxRecDepth 1000000 in
set_option maxHeartbeats 2000000 in
theorem back_no' (t : Tm) (ca : List Value) (S : Nat → Prop) (w : World) (hT : TIs w S t ca) (hS : ∀ g, S g → g < w.heap.size) (G : Glob w) (f to : Int) (HR : t.right = false) : Calls Tryd.prog 46 #[.agg ca.toArray, .int .i64 f, .int .i64 to] w (Res w (backT t f to) (backE t f to)) := by
  have hca := hT.ones
  have FA := (Fm.nil w).argT hT hS
  clear hT hS
  have CK := fun v S h G => check_c t ca S v h G
  rw [show chk t = 150 by rw [chk, HR]; rfl] at CK
  obtain ⟨e1, e2⟩ := back_no (f := f) (to := to) HR
  rw [e1, e2]
  clear e1 e2 HR
  go_enter Tryd.func46, Tryd.ntmps46
  go_wp2_with (first
    | (with_reducible refine fm_box FA (o := ⟨some 3, .box 24 (.tmp 0), _, _, _, _⟩) rfl 24 (.tmp 0) rfl (ca) rfl ?_; intro b1 w1 F1; clear FA)
    | (with_reducible refine fm_alloc F1 (o := ⟨some 6, .alloc 24, _, _, _, _⟩) rfl 24 rfl _ zero24 ?_; intro b2 w2 F2; clear F1)
    | (with_reducible refine fm_load F2 1 rfl (o := ⟨some 9, .load 24 (.tmp 3), _, _, _, _⟩) rfl (.tmp 3) rfl rfl hca.1 ?_)
    | (go_at_call 32; refine (CK w2 _ (F2.ist (F2.mem 0 rfl)) (F2.glob G)).mono ?_
       rintro e w3 ⟨rfl, m3⟩
       have F3 := F2.call m3
       clear m3 F2)
    | (with_reducible refine wpList_ran (o := ⟨some 13, .build 24 _, _, _, _, _⟩) rfl (.agg (tmc 0 0 0 ⟨#[]⟩ none 0 0).toArray) (exec_bF rfl) ?_)
    | (with_reducible refine fm_store F3 0 rfl (o := ⟨none, .store 24 (.tmp 6) (.tmp 13), _, _, _, _⟩) rfl (.tmp 6) (.tmp 13) rfl rfl (tmc 0 0 0 ⟨#[]⟩ none 0 0) rfl rfl (tmc_len _ _ _ _ _ _ _) (tmc_len _ _ _ _ _ _ _) (tmc_one _ _ _ _ _ _ _) ?_; intro w4 F4; clear F3))
  refine bodyPost_ret (results_ct rfl _ _ b2 _ (.int .i64 150) rfl rfl (F4.ret 0 rfl) (tmc_len _ _ _ _ _ _ _)) rfl ?_
  exact ⟨_, rfl, nil_tis _ _, F4.m⟩
set_option maxRecDepth 1000000 in
set_option maxHeartbeats 2000000 in
theorem back_f (t : Tm) (ca : List Value) (S : Nat → Prop) (w : World) (hT : TIs w S t ca) (hS : ∀ g, S g → g < w.heap.size) (G : Glob w) (f to : Int) (HR : t.right = true) (hf : inE f = false) : Calls Tryd.prog 46 #[.agg ca.toArray, .int .i64 f, .int .i64 to] w (Res w (backT t f to) (backE t f to)) := by
  have hca := hT.ones
  have FA := (Fm.nil w).argT hT hS
  clear hT hS
  have CK := fun v S h G => check_c t ca S v h G
  rw [show chk t = 0 by rw [chk, HR]; rfl] at CK
  have IF := fun v => isEpoch_c f v
  have IT := fun v => isEpoch_c to v
  have hf' : (decide (1 ≤ f) && decide (f ≤ 8)) = false := hf
  rw [hf'] at IF
  obtain ⟨e1, e2⟩ := back_out (t := t) (f := f) (to := to) (by rw [hf]; simp) HR
  rw [e1, e2]
  clear e1 e2 HR hf hf'
  go_enter Tryd.func46, Tryd.ntmps46
  go_wp2_with (first
    | (with_reducible refine fm_box FA (o := ⟨some 3, .box 24 (.tmp 0), _, _, _, _⟩) rfl 24 (.tmp 0) rfl (ca) rfl ?_; intro b1 w1 F1; clear FA)
    | (with_reducible refine fm_alloc F1 (o := ⟨some 6, .alloc 24, _, _, _, _⟩) rfl 24 rfl _ zero24 ?_; intro b2 w2 F2; clear F1)
    | (with_reducible refine fm_load F2 1 rfl (o := ⟨some 9, .load 24 (.tmp 3), _, _, _, _⟩) rfl (.tmp 3) rfl rfl hca.1 ?_)
    | (go_at_call 32; refine (CK w2 _ (F2.ist (F2.mem 0 rfl)) (F2.glob G)).mono ?_
       rintro e w3 ⟨rfl, m3⟩
       have F3 := F2.call m3
       clear m3 F2)
    | (go_at_call 70; refine (IF w3).mono ?_
       rintro e w4 ⟨rfl, m4⟩
       have F4 := F3.call m4
       clear m4 F3)
    | (with_reducible refine wpList_ran (o := ⟨some 28, .build 24 _, _, _, _, _⟩) rfl (.agg (tmc 0 0 0 ⟨#[]⟩ none 0 0).toArray) (exec_bF rfl) ?_)
    | (with_reducible refine fm_store F4 0 rfl (o := ⟨none, .store 24 (.tmp 6) (.tmp 28), _, _, _, _⟩) rfl (.tmp 6) (.tmp 28) rfl rfl (tmc 0 0 0 ⟨#[]⟩ none 0 0) rfl rfl (tmc_len _ _ _ _ _ _ _) (tmc_len _ _ _ _ _ _ _) (tmc_one _ _ _ _ _ _ _) ?_; intro w5 F5; clear F4))
  refine bodyPost_ret (results_ct rfl _ _ b2 _ (.int .i64 2) rfl rfl (F5.ret 0 rfl) (tmc_len _ _ _ _ _ _ _)) rfl ?_
  exact ⟨_, rfl, nil_tis _ _, F5.m⟩
set_option maxRecDepth 1000000 in
set_option maxHeartbeats 2000000 in
theorem back_t (t : Tm) (ca : List Value) (S : Nat → Prop) (w : World) (hT : TIs w S t ca) (hS : ∀ g, S g → g < w.heap.size) (G : Glob w) (f to : Int) (HR : t.right = true) (hf : inE f = true) (ht : inE to = false) : Calls Tryd.prog 46 #[.agg ca.toArray, .int .i64 f, .int .i64 to] w (Res w (backT t f to) (backE t f to)) := by
  have hca := hT.ones
  have FA := (Fm.nil w).argT hT hS
  clear hT hS
  have CK := fun v S h G => check_c t ca S v h G
  rw [show chk t = 0 by rw [chk, HR]; rfl] at CK
  have IF := fun v => isEpoch_c f v
  have IT := fun v => isEpoch_c to v
  have hf' : (decide (1 ≤ f) && decide (f ≤ 8)) = true := hf
  rw [hf'] at IF
  have ht' : (decide (1 ≤ to) && decide (to ≤ 8)) = false := ht
  rw [ht'] at IT
  obtain ⟨e1, e2⟩ := back_out (t := t) (f := f) (to := to) (by rw [ht]; simp) HR
  rw [e1, e2]
  clear e1 e2 HR hf hf' ht ht'
  go_enter Tryd.func46, Tryd.ntmps46
  go_wp2_with (first
    | (with_reducible refine fm_box FA (o := ⟨some 3, .box 24 (.tmp 0), _, _, _, _⟩) rfl 24 (.tmp 0) rfl (ca) rfl ?_; intro b1 w1 F1; clear FA)
    | (with_reducible refine fm_alloc F1 (o := ⟨some 6, .alloc 24, _, _, _, _⟩) rfl 24 rfl _ zero24 ?_; intro b2 w2 F2; clear F1)
    | (with_reducible refine fm_load F2 1 rfl (o := ⟨some 9, .load 24 (.tmp 3), _, _, _, _⟩) rfl (.tmp 3) rfl rfl hca.1 ?_)
    | (go_at_call 32; refine (CK w2 _ (F2.ist (F2.mem 0 rfl)) (F2.glob G)).mono ?_
       rintro e w3 ⟨rfl, m3⟩
       have F3 := F2.call m3
       clear m3 F2)
    | (go_at_call 70; refine (IF w3).mono ?_
       rintro e w4 ⟨rfl, m4⟩
       have F4 := F3.call m4
       clear m4 F3)
    | (go_at_call 70; refine (IT w4).mono ?_
       rintro e w5 ⟨rfl, m5⟩
       have F5 := F4.call m5
       clear m5 F4)
    | (with_reducible refine wpList_ran (o := ⟨some 28, .build 24 _, _, _, _, _⟩) rfl (.agg (tmc 0 0 0 ⟨#[]⟩ none 0 0).toArray) (exec_bF rfl) ?_)
    | (with_reducible refine fm_store F5 0 rfl (o := ⟨none, .store 24 (.tmp 6) (.tmp 28), _, _, _, _⟩) rfl (.tmp 6) (.tmp 28) rfl rfl (tmc 0 0 0 ⟨#[]⟩ none 0 0) rfl rfl (tmc_len _ _ _ _ _ _ _) (tmc_len _ _ _ _ _ _ _) (tmc_one _ _ _ _ _ _ _) ?_; intro w6 F6; clear F5))
  refine bodyPost_ret (results_ct rfl _ _ b2 _ (.int .i64 2) rfl rfl (F6.ret 0 rfl) (tmc_len _ _ _ _ _ _ _)) rfl ?_
  exact ⟨_, rfl, nil_tis _ _, F6.m⟩
set_option maxRecDepth 1000000 in
set_option maxHeartbeats 2000000 in
theorem back_g (t : Tm) (ca : List Value) (S : Nat → Prop) (w : World) (hT : TIs w S t ca) (hS : ∀ g, S g → g < w.heap.size) (G : Glob w) (f to : Int) (HR : t.right = true) (hf : inE f = true) (ht : inE to = true) (hg : f < to) : Calls Tryd.prog 46 #[.agg ca.toArray, .int .i64 f, .int .i64 to] w (Res w (backT t f to) (backE t f to)) := by
  have hca := hT.ones
  have FA := (Fm.nil w).argT hT hS
  clear hT hS
  have CK := fun v S h G => check_c t ca S v h G
  rw [show chk t = 0 by rw [chk, HR]; rfl] at CK
  have IF := fun v => isEpoch_c f v
  have IT := fun v => isEpoch_c to v
  have hf' : (decide (1 ≤ f) && decide (f ≤ 8)) = true := hf
  rw [hf'] at IF
  have ht' : (decide (1 ≤ to) && decide (to ≤ 8)) = true := ht
  rw [ht'] at IT
  obtain ⟨e1, e2⟩ := back_out (t := t) (f := f) (to := to) (by omega) HR
  rw [e1, e2]
  have hd : decide (f < to) = true := by simpa using hg
  clear e1 e2 HR hf hf' ht ht'
  go_enter Tryd.func46, Tryd.ntmps46
  go_wp2_with (first
    | (with_reducible refine fm_box FA (o := ⟨some 3, .box 24 (.tmp 0), _, _, _, _⟩) rfl 24 (.tmp 0) rfl (ca) rfl ?_; intro b1 w1 F1; clear FA)
    | (with_reducible refine fm_alloc F1 (o := ⟨some 6, .alloc 24, _, _, _, _⟩) rfl 24 rfl _ zero24 ?_; intro b2 w2 F2; clear F1)
    | (with_reducible refine fm_load F2 1 rfl (o := ⟨some 9, .load 24 (.tmp 3), _, _, _, _⟩) rfl (.tmp 3) rfl rfl hca.1 ?_)
    | (go_at_call 32; refine (CK w2 _ (F2.ist (F2.mem 0 rfl)) (F2.glob G)).mono ?_
       rintro e w3 ⟨rfl, m3⟩
       have F3 := F2.call m3
       clear m3 F2)
    | (go_at_call 70; refine (IF w3).mono ?_
       rintro e w4 ⟨rfl, m4⟩
       have F4 := F3.call m4
       clear m4 F3)
    | (go_at_call 70; refine (IT w4).mono ?_
       rintro e w5 ⟨rfl, m5⟩
       have F5 := F4.call m5
       clear m5 F4)
    | (with_reducible refine wpList_ran (o := ⟨some 28, .build 24 _, _, _, _, _⟩) rfl (.agg (tmc 0 0 0 ⟨#[]⟩ none 0 0).toArray) (exec_bF rfl) ?_)
    | (with_reducible refine fm_store F5 0 rfl (o := ⟨none, .store 24 (.tmp 6) (.tmp 28), _, _, _, _⟩) rfl (.tmp 6) (.tmp 28) rfl rfl (tmc 0 0 0 ⟨#[]⟩ none 0 0) rfl rfl (tmc_len _ _ _ _ _ _ _) (tmc_len _ _ _ _ _ _ _) (tmc_one _ _ _ _ _ _ _) ?_; intro w6 F6; clear F5))
  refine bodyPost_ret (results_ct rfl _ _ b2 _ (.int .i64 2) rfl rfl (F6.ret 0 rfl) (tmc_len _ _ _ _ _ _ _)) rfl ?_
  exact ⟨_, rfl, nil_tis _ _, F6.m⟩
set_option maxRecDepth 1000000 in
set_option maxHeartbeats 2000000 in
theorem back_ok (t : Tm) (ca : List Value) (S : Nat → Prop) (w : World) (hT : TIs w S t ca) (hS : ∀ g, S g → g < w.heap.size) (G : Glob w) (f to : Int) (HR : t.right = true) (hf : inE f = true) (ht : inE to = true) (hg : to ≤ f) : Calls Tryd.prog 46 #[.agg ca.toArray, .int .i64 f, .int .i64 to] w (Res w (backT t f to) (backE t f to)) := by
  have hca := hT.ones
  have FA := (Fm.nil w).argT hT hS
  clear hT hS
  have CK := fun v S h G => check_c t ca S v h G
  rw [show chk t = 0 by rw [chk, HR]; rfl] at CK
  have IF := fun v => isEpoch_c f v
  have IT := fun v => isEpoch_c to v
  have hf' : (decide (1 ≤ f) && decide (f ≤ 8)) = true := hf
  rw [hf'] at IF
  have ht' : (decide (1 ≤ to) && decide (to ≤ 8)) = true := ht
  rw [ht'] at IT
  have hd : decide (f < to) = false := by simp; omega
  have r1 := inE_le hf
  have r2 := inE_le ht
  obtain ⟨n, hn⟩ : ∃ n : Nat, (n : Int) = f - to := ⟨(f - to).toNat, by omega⟩
  have WK := fun v S h1 h2 h3 => walked_st n (by omega) t ca S v h1 h2 h3
  rw [hn] at WK
  obtain ⟨e1, e2⟩ := back_in ⟨hf, ht, hg⟩ HR hn
  rw [e1, e2]
  have b1 : 1 ≤ f := r1.1
  have b2 : f ≤ 8 := r1.2
  have b3 : 1 ≤ to := r2.1
  have b4 : to ≤ 8 := r2.2
  clear e1 e2 HR hn r1 r2 hf ht hf' ht'
  go_enter Tryd.func46, Tryd.ntmps46
  go_wp2_with (first
    | (with_reducible refine fm_box FA (o := ⟨some 3, .box 24 (.tmp 0), _, _, _, _⟩) rfl 24 (.tmp 0) rfl (ca) rfl ?_; intro b1 w1 F1; clear FA)
    | (with_reducible refine fm_alloc F1 (o := ⟨some 6, .alloc 24, _, _, _, _⟩) rfl 24 rfl _ zero24 ?_; intro b2 w2 F2; clear F1)
    | (with_reducible refine fm_load F2 1 rfl (o := ⟨some 9, .load 24 (.tmp 3), _, _, _, _⟩) rfl (.tmp 3) rfl rfl hca.1 ?_)
    | (go_at_call 32; refine (CK w2 _ (F2.ist (F2.mem 0 rfl)) (F2.glob G)).mono ?_
       rintro e w3 ⟨rfl, m3⟩
       have F3 := F2.call m3
       clear m3 F2)
    | (go_at_call 70; refine (IF w3).mono ?_
       rintro e w4 ⟨rfl, m4⟩
       have F4 := F3.call m4
       clear m4 F3)
    | (go_at_call 70; refine (IT w4).mono ?_
       rintro e w5 ⟨rfl, m5⟩
       have F5 := F4.call m5
       clear m5 F4)
    | (with_reducible refine fm_load F5 1 rfl (o := ⟨some 29, .load 24 (.tmp 3), _, _, _, _⟩) rfl (.tmp 3) rfl rfl hca.1 ?_)
    | (go_at_call 71; refine (WK w5 _ (F5.ist (F5.mem 0 rfl)) (F5.ltm (F5.mem 0 rfl)) (F5.glob G)).mono ?_
       rintro e w6 ⟨c6, rfl, h6, m6⟩
       have hc6 := h6.ones
       have F6 := F5.made m6 h6
       clear h6 m6
       clear F5)
    | (with_reducible refine fm_store F6 0 rfl (o := ⟨none, .store 24 (.tmp 6) (.tmp 34), _, _, _, _⟩) rfl (.tmp 6) (.tmp 34) rfl rfl (c6) rfl rfl hc6.1 (tmc_len _ _ _ _ _ _ _) hc6.2 ?_; intro w7 F7; clear F6))
  refine bodyPost_ret (results_ct rfl _ _ b2 _ (.int .i64 (chk (iter stA n t))) rfl rfl (F7.ret 0 rfl) hc6.1) rfl ?_
  exact ⟨_, rfl, F7.mt 0 rfl, F7.m⟩
theorem back_c (t : Tm) (ca : List Value) (S : Nat → Prop) (w : World) (hT : TIs w S t ca) (hS : ∀ g, S g → g < w.heap.size) (G : Glob w) (f to : Int) : Calls Tryd.prog 46 #[.agg ca.toArray, .int .i64 f, .int .i64 to] w (Res w (backT t f to) (backE t f to)) := by
  cases HR : t.right with
  | false => exact back_no' t ca S w hT hS G f to HR
  | true =>
  cases hf : inE f with
  | false => exact back_f t ca S w hT hS G f to HR hf
  | true =>
  cases ht : inE to with
  | false => exact back_t t ca S w hT hS G f to HR hf ht
  | true =>
  by_cases hg : to ≤ f
  · exact back_ok t ca S w hT hS G f to HR hf ht hg
  · exact back_g t ca S w hT hS G f to HR hf ht (by omega)
set_option maxRecDepth 1000000 in
set_option maxHeartbeats 1000000 in
theorem state_c (t : Tm) (ca : List Value) (S : Nat → Prop) (w : World) (hT : TIs w S t ca) (hS : ∀ g, S g → g < w.heap.size) (G : Glob w) (to : Int) : Calls Tryd.prog 44 #[.agg ca.toArray, .int .i64 to] w (Res w (backT t 8 to) (backE t 8 to)) := by
  have hca := hT.ones
  have FA := (Fm.nil w).argT hT hS
  clear hT hS
  go_enter Tryd.func44, Tryd.ntmps44
  go_wp2_with (first
    | (with_reducible refine fm_box FA (o := ⟨some 2, .box 24 (.tmp 0), _, _, _, _⟩) rfl 24 (.tmp 0) rfl (ca) rfl ?_; intro b1 w1 F1; clear FA)
    | (with_reducible refine fm_alloc F1 (o := ⟨some 4, .alloc 24, _, _, _, _⟩) rfl 24 rfl _ zero24 ?_; intro b2 w2 F2; clear F1)
    | (with_reducible refine fm_load F2 1 rfl (o := ⟨some 6, .load 24 (.tmp 2), _, _, _, _⟩) rfl (.tmp 2) rfl rfl hca.1 ?_)
    | (go_at_call 46; refine (back_c _ _ _ w2 (F2.ist (F2.mem 0 rfl)) (F2.ltm (F2.mem 0 rfl)) (F2.glob G) 8 to).mono ?_
       rintro e w3 ⟨c3, rfl, h3, m3⟩
       have hc3 := h3.ones
       have F3 := F2.made m3 h3
       clear h3 m3
       clear F2)
    | (with_reducible refine fm_store F3 0 rfl (o := ⟨none, .store 24 (.tmp 4) (.tmp 9), _, _, _, _⟩) rfl (.tmp 4) (.tmp 9) rfl rfl (c3) rfl rfl hc3.1 (tmc_len _ _ _ _ _ _ _) hc3.2 ?_; intro w4 F4; clear F3))
  refine bodyPost_ret (results_ct rfl _ _ b2 _ (.int .i64 (backE t 8 to)) rfl rfl (F4.ret 0 rfl) hc3.1) rfl ?_
  exact ⟨_, rfl, F4.mt 0 rfl, F4.m⟩
end
end Go.Proofs.YtchanildogjhgaaDoor
