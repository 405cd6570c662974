/-
  My own texts Se Sf, one behind the other.
-/
import Derived.Test.YtchanildogjhgaaDoorS2
namespace Go.Proofs.YtchanildogjhgaaDoor
section
open Go.RowKit Go.Shelf
set_option linter.unusedVariables false
set_option linter.unusedSimpArgs false
set_option maxRecDepth 1000000 in
set_option maxHeartbeats 4000000 in
theorem rlist_c (A0 : Option Addr) (n c0 : Nat) (vs0 : List (List Value)) (l : List Tm) (S0 : Nat → Prop) (w : World) (hl : n = l.length) (hn5 : n ≤ 100000) (hr : RowT w S0 A0 vs0 l) (hS : ∀ g, S0 g → g < w.heap.size) : Calls Tryd.prog 27 #[.slice A0 n c0] w (MadeR w S0 (listT l)) := by
  have FA : Fm w w [] [tR (Ov S0 w.heap.size) S0 A0 vs0 l] := (Fm.nil w).arg _ (keeps_tR _ _ _ _ _) ⟨hr, fun _ h => .inl h⟩ hS
  have HL := Lib.hid hl
  have hnZ : (n : Int) ≤ 100000 := by omega
  clear hr hS hl
  go_enter Tryd.func27, Tryd.ntmps27
  go_wp2_with (first
    | (with_reducible refine fm_alloc FA (o := ⟨some 2, .alloc 24, _, _, _, _⟩) rfl 24 rfl _ zero24 ?_; intro b1 w1 F1; clear FA)
    | (go_at_call 17; refine (rtext_c ⟨#[]⟩ (by decide) (fun _ => False) w1).mono ?_
       rintro e w2 ⟨c2, rfl, h2, m2⟩
       have hc2 := h2.elim fun _ h => h.1.ones
       obtain ⟨S2, F2⟩ := F1.madeR m2 h2 (fun _ h => h.elim) (L := (Ov S0 w.heap.size)) (fun _ h => h.elim) (fun g hg => .inr hg)
       clear h2 m2 F1)
    | (with_reducible refine fm_alloc F2 (o := ⟨some 3, .alloc 24, _, _, _, _⟩) rfl 24 rfl _ zero24 ?_; intro b3 w3 F3; clear F2)
    | (with_reducible refine fm_store F3 0 rfl (o := ⟨none, .store 24 (.tmp 3) (.tmp 5), _, _, _, _⟩) rfl (.tmp 3) (.tmp 5) rfl rfl (c2) rfl rfl hc2.1 (tmc_len _ _ _ _ _ _ _) hc2.2 ?_; intro w4 F4; clear F3))
  obtain ⟨SX, FX⟩ : ∃ SX, Fm w w4 [oB b3 24 c2, oB b1 24 (tmc 0 0 0 ⟨#[]⟩ none 0 0)] [tT (Ov S0 w.heap.size) SX nilX c2, tR (Ov S0 w.heap.size) S0 A0 vs0 l] := ⟨_, F4⟩
  clear F4
  go_loopw [4] (fun i wr => ∃ (z : Int) (k : Nat) (cs : List Value) (S : Nat → Prop), i = .int .i64 z ∧ Hid (z + 1 = k) ∧ k ≤ n ∧ (cs.length = 5 ∧ ∀ v ∈ cs, v.oneCell' = true) ∧ Fm w wr [oB b3 24 cs, oB b1 24 (tmc 0 0 0 ⟨#[]⟩ none 0 0)] [tT (Ov S0 w.heap.size) S (listT (l.drop k)) cs, tR (Ov S0 w.heap.size) S0 A0 vs0 l]) (fun i _ => (intOf i + 1).toNat)
  case atStart => exact ⟨_, n, c2, SX, rfl, Lib.hid (by simp), Nat.le_refl _, hc2, by rw [HL.out, List.drop_length]; exact FX⟩
  case round =>
  obtain ⟨z, k, cs, S, rfl, hz, hk, hcs, FJ⟩ := hrel
  by_cases hk0 : 0 < k
  case pos =>
    obtain ⟨m, rfl⟩ : ∃ m, k = m + 1 := ⟨k - 1, by omega⟩
    have hzm : z = (m : Int) := by have := hz.out; omega
    subst hzm
    have hmn : m < n := by omega
    have hm0 : (0 : Int) ≤ (m : Int) := by omega
    obtain ⟨g, q, ce, rfl, h5, h1, F0⟩ := FJ.elemR (FJ.mem 1 rfl) m (by rw [← HL.out]; exact hmn)
    have hce : ce.length = 5 ∧ ∀ v ∈ ce, v.oneCell' = true := ⟨h5, h1⟩
    have F4 := F0.eT (F0.mem 0 rfl)
    clear F0 FJ h5 h1
    go_wp2_with fail
    obtain ⟨Ts31, hTs31, FZ⟩ := (F4.call (Mod.drew [] wr)).name
    have in0 := F4.mem 0 rfl
    have in1 := F4.mem 1 rfl
    have in2 := F4.mem 2 rfl
    have in3 := F4.mem 3 rfl
    rw [← hTs31] at in0
    rw [← hTs31] at in1
    rw [← hTs31] at in2
    rw [← hTs31] at in3
    refine wp_region_upxd (X := (Nat → List Value) × (Nat → Nat)) (fun _ => [], fun _ => 0) (fun x => [(13, .slice (some ⟨g, q, none⟩) n c0), (14, .int .i64 (m : Int)), (15, .pointer (some ⟨g, q + m * 5, none⟩)), (16, .agg (ce).toArray), (17, .agg (cs).toArray), (18, .agg ((x.1 5)).toArray)]) 20 [13, 14, 15, 16, 17, 18] rfl (fun _ => rfl) (by decide) (by kernel_rfl) (fun x lz v => ∃ ts, Fm w v [oB b3 24 (if lz 6 = true then (x.1 5) else cs), oB b1 24 (tmc 0 0 0 ⟨#[]⟩ none 0 0)] ts ∧ Ts31 ⊆ ts ∧ (lz 5 = true → ∃ Sx, tT (Ov S0 w.heap.size) Sx ((.mk 4 0 0 ⟨#[]⟩ [l[m], listT (l.drop (m + 1))])) (x.1 5) ∈ ts)) (by kernel_rfl) ⟨_, FZ, List.Subset.refl _, (fun h => by cases h)⟩ (by kernel_rfl) (by kernel_rfl) ?step ?fin
    case step =>
      intro x lz T v j o hj hlj hdep hst hpar hgot hcl hdf Kq hK
      have hjn : j < 7 := (Array.getElem?_eq_some_iff.1 hj).1
      obtain rfl | rfl | rfl | rfl | rfl | rfl | rfl : j = 0 ∨ j = 1 ∨ j = 2 ∨ j = 3 ∨ j = 4 ∨ j = 5 ∨ j = 6 := by omega
      all_goals (have hj' := Option.some.inj (hj : some _ = some o); subst hj'; clear hj)
      · exact wp_ran rfl (exec_move rfl (eval_tmp ((hpar 0 rfl).trans rfl))) (hK x _ _ (fun _ _ _ _ _ _ => rfl) (fun s hs => by cases hs; rfl) (by simpa using hst))
      · exact wp_ran rfl (exec_move rfl (eval_tmp ((hpar 4 rfl).trans rfl))) (hK x _ _ (fun _ _ _ _ _ _ => rfl) (fun s hs => by cases hs; rfl) (by simpa using hst))
      · exact wp_ran rfl (exec_ixs Tryd.underlying22 size24 (hmn) rfl (eval_tmp (hgot 0 _ 13 rfl (hdep ⟨0, .data⟩ (by simp) rfl) rfl)) (eval_tmp (hgot 1 _ 14 rfl (hdep ⟨1, .data⟩ (by simp) rfl) rfl))) (hK x _ _ (fun _ _ _ _ _ _ => rfl) (fun s hs => by cases hs; rfl) (by simpa using hst))
      · obtain ⟨ts, FT, hs, hts⟩ := hst
        have hL := FT.ec (hs in1)
        exact wp_ran rfl (exec_load rfl (eval_tmp (hgot 2 _ 15 rfl (hdep ⟨2, .data⟩ (by simp) rfl) rfl)) (run_loads hL Tryd.underlying24 rfl (size24' hce.1))) (hK x _ _ (fun _ _ _ _ _ _ => rfl) (fun s hs => by cases hs; rfl) (by simpa using (show ∃ ts, _ from ⟨ts, FT, hs, hts⟩)))
      · obtain ⟨ts, FT, hts⟩ := hst
        have l6 : lz 6 = false := (by cases hh : lz 6 with | false => rfl | true => exact absurd (hcl 6 _ rfl hh ⟨4, .phase⟩ (by simp) rfl) (by rw [hlj]; simp))
        have FL := FT
        rw [if_neg (by rw [l6]; decide)] at FL
        have hL := FL.blk 0 rfl
        exact wp_ran rfl (exec_load rfl (eval_tmp ((hpar 3 rfl).trans rfl)) (run_loads (Cells.of_holds hL) Tryd.underlying24 rfl (size24' hcs.1))) (hK x _ _ (fun _ _ _ _ _ _ => rfl) (fun s hs => by cases hs; rfl) (by simpa using (show ∃ ts, _ from ⟨ts, FT, hts⟩)))
      · obtain ⟨ts, FT, hs, g5⟩ := hst
        have l6 : lz 6 = false := (by cases hh : lz 6 with | false => rfl | true => exact absurd (hcl 6 _ rfl hh ⟨5, .data⟩ (by simp) rfl) (by rw [hlj]; simp))
        refine wp_called rfl (exec_call2 rfl rfl (eval_tmp (hgot 3 _ 16 rfl (hdep ⟨3, .data⟩ (by simp) rfl) rfl)) (eval_tmp (hgot 4 _ 17 rfl (hdep ⟨4, .data⟩ (by simp) rfl) rfl)) (enters_of Tryd.func21 (by kernel_rfl) rfl)) ((rpair_c _ _ _ _ _ _ (fun g => (∃ y ∈ ts, y.1 g) ∧ (Ov S0 w.heap.size) g) v (FT.ist (hs in0)) (FT.ist (hs in2)) (FT.ltm (hs in0)) (FT.ltm (hs in2)) (fun g hg => ⟨⟨_, (hs in0), hg⟩, FT.within (hs in0) g hg⟩) (fun g hg => ⟨⟨_, (hs in2), hg⟩, FT.within (hs in2) g hg⟩)).mono ?_)
        rintro e v' ⟨cs, rfl, hT, m⟩
        obtain ⟨S', FT'⟩ := FT.madeR m hT (fun g hg => hg.1) (L := (Ov S0 w.heap.size)) (fun g hg => hg.2) (fun g hg => .inr hg)
        refine ⟨_, rfl, hK (fun i => if i = 5 then cs else x.1 i, x.2) _ _ (fun j' o' s' q1 q2 q3 => by
            have q4 : j' < 7 := (Array.getElem?_eq_some_iff.1 q1).1
            clear hpar hgot hdep hK
            obtain rfl | rfl | rfl | rfl | rfl | rfl | rfl : j' = 0 ∨ j' = 1 ∨ j' = 2 ∨ j' = 3 ∨ j' = 4 ∨ j' = 5 ∨ j' = 6 := by omega
            all_goals (cases q1; cases q3 <;> first | rfl | (rw [hlj] at q2; cases q2))) (fun s hs => by cases hs; rfl) ?_⟩
        refine ⟨_, (by simpa [l6] using FT'), (fun y hy => List.mem_cons_of_mem _ (hs hy)), (fun _ => ⟨_, List.mem_cons_self ..⟩)⟩
      · obtain ⟨ts, FT, hs, g5⟩ := hst
        obtain ⟨S5, e5⟩ := g5 (hdep ⟨5, .data⟩ (by simp) rfl)
        rw [if_neg (by rw [hlj]; decide)] at FT
        refine wp_stored rfl rfl (eval_tmp ((hpar 3 rfl).trans rfl)) (eval_tmp (hgot 5 _ 18 rfl (hdep ⟨5, .data⟩ (by simp) rfl) rfl)) rfl (FT.blk 0 rfl) ((FT.ist e5).len.trans (hcs.1).symm) (FT.ist e5).one (size24' (FT.ist e5).len) fun v' hv m => hK x undef _ (fun _ _ _ _ _ _ => rfl) (fun s hs => by cases hs) ?_
        have FT' := FT.turn m 0 rfl (fun g hg => List.mem_singleton.1 hg) _ (keeps_oB _ _ _) hv (fun g hg => ⟨.inl hg, by have : g = b3 := hg; have := hv.lt; omega⟩)
        exact ⟨_, (by simpa using FT'), hs, (by simpa using g5)⟩
    case fin =>
    intro x lz w31 hlz hst
    obtain ⟨ts, FT, hs, g5⟩ := hst
    obtain ⟨S31_5, e5⟩ := g5 (hlz 5 (by decide))
    obtain ⟨c31_5, hx5⟩ : ∃ c, c = x.1 5 := ⟨_, rfl⟩
    rw [if_pos (hlz 6 (by decide))] at FT
    have F31 := FT.sub (ts' := [tT (Ov S0 w.heap.size) S31_5 ((.mk 4 0 0 ⟨#[]⟩ [l[m], listT (l.drop (m + 1))])) (x.1 5)] ++ Ts31) (List.Sublist.refl _) (fun y hy => by
      rcases List.mem_append.1 hy with hy | hy
      · simp only [List.mem_cons, List.not_mem_nil, or_false] at hy
        rcases hy with rfl
        all_goals assumption
      · exact hs hy)
    rw [hTs31] at F31
    simp only [List.cons_append, List.nil_append] at F31
    have hc31_5 := (F31.tis 0 rfl).ones
    dsimp only [setAll, List.foldl_cons, List.foldl_nil, List.set_cons_succ, List.set_cons_zero]
    rw [← hx5] at F31 hc31_5 ⊢
    clear FT hs hlz hTs31 FZ e5 g5 hx5 in0 in1 in2 in3 F4
    go_wp2_with fail
    exact ⟨⟨(m : Int) - 1, m, c31_5, _, by go_num, Lib.hid (by omega), by omega, hc31_5, by rw [listT_drop l m (by rw [← HL.out]; exact hmn)]; exact F31.sub (List.Sublist.refl _) (fun y hy => by
      rcases List.mem_cons.1 hy with rfl | hy
      · exact F31.mem 0 rfl
      · rw [List.mem_singleton] at hy
        subst hy
        exact F31.mem 4 rfl)⟩, by simp [intOf]⟩
  case neg =>
    obtain rfl : k = 0 := by omega
    have hzm : z = -1 := by have := hz.out; omega
    subst hzm
    rw [List.drop_zero] at FJ
    go_wp2_with (first
      | (with_reducible refine fm_load FJ 0 rfl (o := ⟨some 19, .load 24 (.tmp 3), _, _, _, _⟩) rfl (.tmp 3) rfl rfl hcs.1 ?_)
      | (with_reducible refine fm_store FJ 1 rfl (o := ⟨none, .store 24 (.tmp 2) (.tmp 19), _, _, _, _⟩) rfl (.tmp 2) (.tmp 19) rfl rfl (cs) rfl rfl hcs.1 (tmc_len _ _ _ _ _ _ _) hcs.2 ?_; intro w61 F61; clear FJ))
    refine bodyPost_ret (results_cell1 rfl _ _ b1 _ rfl (F61.ret 1 rfl) hcs.1) rfl ?_
    exact ⟨_, rfl, F61.mr (F61.mem 0 rfl), F61.m⟩
theorem sameAll_drop : ∀ (l m : List Tm) (j : Nat) (h1 : j < l.length) (h2 : j < m.length), Tm.sameAll (l.drop j) (m.drop j) = (Tm.same l[j] m[j] && Tm.sameAll (l.drop (j + 1)) (m.drop (j + 1))) := fun l m j h1 h2 => by
  rw [List.drop_eq_getElem_cons h1, List.drop_eq_getElem_cons h2, Tm.sameAll]
set_option maxRecDepth 1000000 in
set_option maxHeartbeats 4000000 in
theorem sameAll_c (A B : Option Addr) (n k c0 e0 : Nat) (va vb : List (List Value)) (l m : List Tm) (Sa Sb : Nat → Prop) (w : World) (hl : n = l.length) (hm : k = m.length) (hn5 : n ≤ 2199023255552) (hk5 : k ≤ 2199023255552) (ha : RowT w Sa A va l) (hb : RowT w Sb B vb m) (hSa : ∀ g, Sa g → g < w.heap.size) (hSb : ∀ g, Sb g → g < w.heap.size) : Calls Tryd.prog 31 #[.slice A n c0, .slice B k e0] w fun e w' => e = .returned (.bool (Tm.sameAll l m)) ∧ Mod [] w w' := by
  have FA := ((Fm.nil w).argR hb hSb).argR ha hSa
  by_cases hnk : n = k
  case neg =>
    have hne : (((n : Int)) != (k : Int)) = true := by simp; omega
    have hs := sameAll_len (l := l) (l' := m) (by omega)
    rw [hs]
    clear ha hb hSa hSb hl hm hs
    go_enter Tryd.func31, Tryd.ntmps31
    go_wp2_with fail
    go_ret
    exact ⟨rfl, Mod.refl _ _⟩
  obtain rfl := hnk
  have HL := Lib.hid (And.intro hl hm)
  have hne : (((n : Int)) != (n : Int)) = false := by simp
  obtain ⟨R, hR⟩ : ∃ r, r = Tm.sameAll l m := ⟨_, rfl⟩
  rw [← hR]
  have HR := Lib.hid hR
  clear ha hb hSa hSb hl hm hR
  go_enter Tryd.func31, Tryd.ntmps31
  go_wp2_with fail
  go_loopw [5] (fun i wr => ∃ j : Nat, i = .int .i64 j ∧ j ≤ n ∧ Hid (R = Tm.sameAll (l.drop j) (m.drop j)) ∧ Fm w wr [] [tR Any Sa A va l, tR Any Sb B vb m]) (fun i _ => n - (intOf i).toNat)
  case atStart => exact ⟨0, rfl, Nat.zero_le _, HR, FA⟩
  case round =>
  obtain ⟨j, rfl, hj, hr, FJ⟩ := hrel
  by_cases hjn : j < n
  case neg =>
    obtain rfl : n = j := by omega
    have hR1 : R = true := by
      rw [hr.out]
      have h1 := HL.out.1
      have h2 := HL.out.2
      have e1 : l.drop n = [] := by rw [h1]; exact List.drop_length
      have e2 : m.drop n = [] := by rw [h2]; exact List.drop_length
      rw [e1, e2]
      rfl
    subst hR1
    go_wp2_with fail
    go_ret
    exact ⟨rfl, FJ.m⟩
  case pos =>
    obtain ⟨g2, q2, d2, rfl, h52, h12, F1⟩ := FJ.elemR (FJ.mem 1 rfl) j (by rw [← HL.out.2]; exact hjn)
    obtain ⟨g, q, d0, rfl, h50, h10, F2⟩ := F1.elemR (F1.mem 1 rfl) j (by rw [← HL.out.1]; exact hjn)
    have hd2 : d2.length = 5 ∧ ∀ v ∈ d2, v.oneCell' = true := ⟨h52, h12⟩
    have hd0 : d0.length = 5 ∧ ∀ v ∈ d0, v.oneCell' = true := ⟨h50, h10⟩
    have hjl1 : j < l.length := by rw [← HL.out.1]; exact hjn
    have hjq := hjn
    have hjm1 : j < m.length := by rw [← HL.out.2]; exact hjn
    have F3 := F2.eT (F2.mem 0 rfl)
    have F4' := F3.eT (F3.mem 2 rfl)
    have F4 := F4'.sub (ts' := [tT Any Sb m[j] d2, tT Any Sa l[j] d0, tE Any Sb (some ⟨g2, q2 + j * 5, none⟩) d2 m[j], tE Any Sa (some ⟨g, q + j * 5, none⟩) d0 l[j], tR Any Sa (some ⟨g, q, none⟩) va l, tR Any Sb (some ⟨g2, q2, none⟩) vb m]) (List.Sublist.refl _) (fun y hy => by
      simp only [List.mem_cons, List.not_mem_nil, or_false] at hy ⊢
      rcases hy with rfl | rfl | rfl | rfl | rfl | rfl <;> simp)
    have HI := Lib.hid (And.intro hj (hr.out.trans (sameAll_drop l m j (by rw [← HL.out.1]; exact hjn) (by rw [← HL.out.2]; exact hjn))))
    clear F1 F2 F3 F4' FJ h52 h12 h50 h10 hr
    cases hsm : Tm.same l[j] m[j] with
    | false =>
      go_wp2_with fail
      obtain ⟨Ts31, hTs31, FZ⟩ := (F4.call (Mod.drew [] wr)).name
      have in0 := F4.mem 0 rfl
      have in1 := F4.mem 1 rfl
      have in2 := F4.mem 2 rfl
      have in3 := F4.mem 3 rfl
      have in4 := F4.mem 4 rfl
      have in5 := F4.mem 5 rfl
      rw [← hTs31] at in0
      rw [← hTs31] at in1
      rw [← hTs31] at in2
      rw [← hTs31] at in3
      rw [← hTs31] at in4
      rw [← hTs31] at in5
      refine wp_region_upxd (X := (Nat → List Value) × (Nat → Nat)) (fun _ => [], fun _ => 0) (fun x => [(17, .slice (some ⟨g, q, none⟩) n c0), (18, .int .i64 (j : Int)), (19, .pointer (some ⟨g, q + j * 5, none⟩)), (20, .agg (d0).toArray), (21, .slice (some ⟨g2, q2, none⟩) n e0), (22, .int .i64 (j : Int)), (23, .pointer (some ⟨g2, q2 + j * 5, none⟩)), (24, .agg (d2).toArray), (25, .bool false), (26, .bool true)]) 27 [17, 18, 19, 20, 21, 22, 23, 24, 25, 26] rfl (fun _ => rfl) (by decide) (by kernel_rfl) (fun x lz v => ∃ ts, Fm w v [] ts ∧ Ts31 ⊆ ts) (by kernel_rfl) ⟨_, FZ, List.Subset.refl _⟩ (by kernel_rfl) (by kernel_rfl) ?step ?fin
      case step =>
        intro x lz T v j o hj hlj hdep hst hpar hgot hcl hdf Kq hK
        have hjn : j < 10 := (Array.getElem?_eq_some_iff.1 hj).1
        obtain rfl | rfl | rfl | rfl | rfl | rfl | rfl | rfl | rfl | rfl : j = 0 ∨ j = 1 ∨ j = 2 ∨ j = 3 ∨ j = 4 ∨ j = 5 ∨ j = 6 ∨ j = 7 ∨ j = 8 ∨ j = 9 := by omega
        all_goals (have hj' := Option.some.inj (hj : some _ = some o); subst hj'; clear hj)
        · exact wp_ran rfl (exec_move rfl (eval_tmp ((hpar 0 rfl).trans rfl))) (hK x _ _ (fun _ _ _ _ _ _ => rfl) (fun s hs => by cases hs; rfl) (by simpa using hst))
        · exact wp_ran rfl (exec_move rfl (eval_tmp ((hpar 5 rfl).trans rfl))) (hK x _ _ (fun _ _ _ _ _ _ => rfl) (fun s hs => by cases hs; rfl) (by simpa using hst))
        · exact wp_ran rfl (exec_ixs Tryd.underlying22 size24 (hjq) rfl (eval_tmp (hgot 0 _ 17 rfl (hdep ⟨0, .data⟩ (by simp) rfl) rfl)) (eval_tmp (hgot 1 _ 18 rfl (hdep ⟨1, .data⟩ (by simp) rfl) rfl))) (hK x _ _ (fun _ _ _ _ _ _ => rfl) (fun s hs => by cases hs; rfl) (by simpa using hst))
        · obtain ⟨ts, FT, hs⟩ := hst
          have hL := FT.ec (hs in3)
          exact wp_ran rfl (exec_load rfl (eval_tmp (hgot 2 _ 19 rfl (hdep ⟨2, .data⟩ (by simp) rfl) rfl)) (run_loads hL Tryd.underlying24 rfl (size24' hd0.1))) (hK x _ _ (fun _ _ _ _ _ _ => rfl) (fun s hs => by cases hs; rfl) (by simpa using (show ∃ ts, _ from ⟨ts, FT, hs⟩)))
        · exact wp_ran rfl (exec_move rfl (eval_tmp ((hpar 1 rfl).trans rfl))) (hK x _ _ (fun _ _ _ _ _ _ => rfl) (fun s hs => by cases hs; rfl) (by simpa using hst))
        · exact wp_ran rfl (exec_move rfl (eval_tmp ((hpar 5 rfl).trans rfl))) (hK x _ _ (fun _ _ _ _ _ _ => rfl) (fun s hs => by cases hs; rfl) (by simpa using hst))
        · exact wp_ran rfl (exec_ixs Tryd.underlying22 size24 (hjq) rfl (eval_tmp (hgot 4 _ 21 rfl (hdep ⟨4, .data⟩ (by simp) rfl) rfl)) (eval_tmp (hgot 5 _ 22 rfl (hdep ⟨5, .data⟩ (by simp) rfl) rfl))) (hK x _ _ (fun _ _ _ _ _ _ => rfl) (fun s hs => by cases hs; rfl) (by simpa using hst))
        · obtain ⟨ts, FT, hs⟩ := hst
          have hL := FT.ec (hs in2)
          exact wp_ran rfl (exec_load rfl (eval_tmp (hgot 6 _ 23 rfl (hdep ⟨6, .data⟩ (by simp) rfl) rfl)) (run_loads hL Tryd.underlying24 rfl (size24' hd2.1))) (hK x _ _ (fun _ _ _ _ _ _ => rfl) (fun s hs => by cases hs; rfl) (by simpa using (show ∃ ts, _ from ⟨ts, FT, hs⟩)))
        · obtain ⟨ts, FT, hs⟩ := hst
          refine wp_called rfl (exec_call2 rfl rfl (eval_tmp (hgot 3 _ 20 rfl (hdep ⟨3, .data⟩ (by simp) rfl) rfl)) (eval_tmp (hgot 7 _ 24 rfl (hdep ⟨7, .data⟩ (by simp) rfl) rfl)) (enters_of Tryd.func15 (by kernel_rfl) rfl)) ((rsame_c _ _ _ _ _ _ false v hsm (FT.ist (hs in1)) (FT.ist (hs in0))).mono ?_)
          rintro e v' ⟨rfl, m⟩
          refine ⟨_, rfl, hK x _ _ (fun _ _ _ _ _ _ => rfl) (fun s hs => by cases hs; rfl) ?_⟩
          exact ⟨_, (by simpa using FT.call m), hs⟩
        · exact wp_ran rfl (exec_not rfl (eval_tmp (hgot 8 _ 25 rfl (hdep ⟨8, .data⟩ (by simp) rfl) rfl))) (hK x _ _ (fun _ _ _ _ _ _ => rfl) (fun s hs => by cases hs; rfl) (by simpa using hst))
      case fin =>
      intro x lz w31 hlz hst
      obtain ⟨ts, FT, hs⟩ := hst
      have F31 := FT.sub (ts' := [] ++ Ts31) (List.Sublist.refl _) (fun y hy => by
        rcases List.mem_append.1 hy with hy | hy
        · simp only [List.mem_cons, List.not_mem_nil, or_false] at hy
        · exact hs hy)
      rw [hTs31] at F31
      simp only [List.cons_append, List.nil_append] at F31
      dsimp only [setAll, List.foldl_cons, List.foldl_nil, List.set_cons_succ, List.set_cons_zero]
      clear FT hs hlz hTs31 FZ  in0 in1 in2 in3 in4 in5 F4
      go_wp2_with fail
      go_ret
      have hRf : R = false := by rw [HI.out.2, hsm]; rfl
      exact ⟨by rw [hRf]; rfl, F31.m⟩
    | true =>
      go_wp2_with fail
      obtain ⟨Ts31, hTs31, FZ⟩ := (F4.call (Mod.drew [] wr)).name
      have in0 := F4.mem 0 rfl
      have in1 := F4.mem 1 rfl
      have in2 := F4.mem 2 rfl
      have in3 := F4.mem 3 rfl
      have in4 := F4.mem 4 rfl
      have in5 := F4.mem 5 rfl
      rw [← hTs31] at in0
      rw [← hTs31] at in1
      rw [← hTs31] at in2
      rw [← hTs31] at in3
      rw [← hTs31] at in4
      rw [← hTs31] at in5
      refine wp_region_upxd (X := (Nat → List Value) × (Nat → Nat)) (fun _ => [], fun _ => 0) (fun x => [(17, .slice (some ⟨g, q, none⟩) n c0), (18, .int .i64 (j : Int)), (19, .pointer (some ⟨g, q + j * 5, none⟩)), (20, .agg (d0).toArray), (21, .slice (some ⟨g2, q2, none⟩) n e0), (22, .int .i64 (j : Int)), (23, .pointer (some ⟨g2, q2 + j * 5, none⟩)), (24, .agg (d2).toArray), (25, .bool true), (26, .bool false)]) 27 [17, 18, 19, 20, 21, 22, 23, 24, 25, 26] rfl (fun _ => rfl) (by decide) (by kernel_rfl) (fun x lz v => ∃ ts, Fm w v [] ts ∧ Ts31 ⊆ ts) (by kernel_rfl) ⟨_, FZ, List.Subset.refl _⟩ (by kernel_rfl) (by kernel_rfl) ?step ?fin
      case step =>
        intro x lz T v j o hj hlj hdep hst hpar hgot hcl hdf Kq hK
        have hjn : j < 10 := (Array.getElem?_eq_some_iff.1 hj).1
        obtain rfl | rfl | rfl | rfl | rfl | rfl | rfl | rfl | rfl | rfl : j = 0 ∨ j = 1 ∨ j = 2 ∨ j = 3 ∨ j = 4 ∨ j = 5 ∨ j = 6 ∨ j = 7 ∨ j = 8 ∨ j = 9 := by omega
        all_goals (have hj' := Option.some.inj (hj : some _ = some o); subst hj'; clear hj)
        · exact wp_ran rfl (exec_move rfl (eval_tmp ((hpar 0 rfl).trans rfl))) (hK x _ _ (fun _ _ _ _ _ _ => rfl) (fun s hs => by cases hs; rfl) (by simpa using hst))
        · exact wp_ran rfl (exec_move rfl (eval_tmp ((hpar 5 rfl).trans rfl))) (hK x _ _ (fun _ _ _ _ _ _ => rfl) (fun s hs => by cases hs; rfl) (by simpa using hst))
        · exact wp_ran rfl (exec_ixs Tryd.underlying22 size24 (hjq) rfl (eval_tmp (hgot 0 _ 17 rfl (hdep ⟨0, .data⟩ (by simp) rfl) rfl)) (eval_tmp (hgot 1 _ 18 rfl (hdep ⟨1, .data⟩ (by simp) rfl) rfl))) (hK x _ _ (fun _ _ _ _ _ _ => rfl) (fun s hs => by cases hs; rfl) (by simpa using hst))
        · obtain ⟨ts, FT, hs⟩ := hst
          have hL := FT.ec (hs in3)
          exact wp_ran rfl (exec_load rfl (eval_tmp (hgot 2 _ 19 rfl (hdep ⟨2, .data⟩ (by simp) rfl) rfl)) (run_loads hL Tryd.underlying24 rfl (size24' hd0.1))) (hK x _ _ (fun _ _ _ _ _ _ => rfl) (fun s hs => by cases hs; rfl) (by simpa using (show ∃ ts, _ from ⟨ts, FT, hs⟩)))
        · exact wp_ran rfl (exec_move rfl (eval_tmp ((hpar 1 rfl).trans rfl))) (hK x _ _ (fun _ _ _ _ _ _ => rfl) (fun s hs => by cases hs; rfl) (by simpa using hst))
        · exact wp_ran rfl (exec_move rfl (eval_tmp ((hpar 5 rfl).trans rfl))) (hK x _ _ (fun _ _ _ _ _ _ => rfl) (fun s hs => by cases hs; rfl) (by simpa using hst))
        · exact wp_ran rfl (exec_ixs Tryd.underlying22 size24 (hjq) rfl (eval_tmp (hgot 4 _ 21 rfl (hdep ⟨4, .data⟩ (by simp) rfl) rfl)) (eval_tmp (hgot 5 _ 22 rfl (hdep ⟨5, .data⟩ (by simp) rfl) rfl))) (hK x _ _ (fun _ _ _ _ _ _ => rfl) (fun s hs => by cases hs; rfl) (by simpa using hst))
        · obtain ⟨ts, FT, hs⟩ := hst
          have hL := FT.ec (hs in2)
          exact wp_ran rfl (exec_load rfl (eval_tmp (hgot 6 _ 23 rfl (hdep ⟨6, .data⟩ (by simp) rfl) rfl)) (run_loads hL Tryd.underlying24 rfl (size24' hd2.1))) (hK x _ _ (fun _ _ _ _ _ _ => rfl) (fun s hs => by cases hs; rfl) (by simpa using (show ∃ ts, _ from ⟨ts, FT, hs⟩)))
        · obtain ⟨ts, FT, hs⟩ := hst
          refine wp_called rfl (exec_call2 rfl rfl (eval_tmp (hgot 3 _ 20 rfl (hdep ⟨3, .data⟩ (by simp) rfl) rfl)) (eval_tmp (hgot 7 _ 24 rfl (hdep ⟨7, .data⟩ (by simp) rfl) rfl)) (enters_of Tryd.func15 (by kernel_rfl) rfl)) ((rsame_c _ _ _ _ _ _ true v hsm (FT.ist (hs in1)) (FT.ist (hs in0))).mono ?_)
          rintro e v' ⟨rfl, m⟩
          refine ⟨_, rfl, hK x _ _ (fun _ _ _ _ _ _ => rfl) (fun s hs => by cases hs; rfl) ?_⟩
          exact ⟨_, (by simpa using FT.call m), hs⟩
        · exact wp_ran rfl (exec_not rfl (eval_tmp (hgot 8 _ 25 rfl (hdep ⟨8, .data⟩ (by simp) rfl) rfl))) (hK x _ _ (fun _ _ _ _ _ _ => rfl) (fun s hs => by cases hs; rfl) (by simpa using hst))
      case fin =>
      intro x lz w31 hlz hst
      obtain ⟨ts, FT, hs⟩ := hst
      have F31 := FT.sub (ts' := [] ++ Ts31) (List.Sublist.refl _) (fun y hy => by
        rcases List.mem_append.1 hy with hy | hy
        · simp only [List.mem_cons, List.not_mem_nil, or_false] at hy
        · exact hs hy)
      rw [hTs31] at F31
      simp only [List.cons_append, List.nil_append] at F31
      dsimp only [setAll, List.foldl_cons, List.foldl_nil, List.set_cons_succ, List.set_cons_zero]
      clear FT hs hlz hTs31 FZ  in0 in1 in2 in3 in4 in5 F4
      go_wp2_with fail
      exact ⟨⟨j + 1, by go_num, by omega, Lib.hid (by have := HI.out.2; rw [hsm, Bool.true_and] at this; exact this), F31.sub (List.Sublist.refl _) (fun y hy => by
        rcases List.mem_cons.1 hy with rfl | hy
        · exact F31.mem 4 rfl
        · rw [List.mem_singleton] at hy
          subst hy
          exact F31.mem 5 rfl)⟩, by simp [intOf]; omega⟩
end
section
open Go.RowKit Go.Shelf
set_option linter.unusedVariables false
set_option linter.unusedSimpArgs false
theorem fm_load1G {w0 w : World} {os ts : List Th} {ops : Array Oper} {rest : List Oper} {o : Oper} {a : Act} {Q : Exit → Act → World → Prop} (F : Fm w0 w os ts) (i k : Nat) {b : Nat} {t : TypeId} {cs : List Value} (hi : os[i]? = some (oB b t cs)) (V : Value) (hk : cs[k]? = some V) (hw : Region.wanted o (yielded ops a.tmps) = true) (ty : TypeId) (x : Operand) (ho : o.op = .load ty x) (hx : a.eval x = .pointer (some ⟨b, k, none⟩)) (hr : w.cell? ⟨b, k, none⟩ = some V → (loadVar ty ⟨b, k, none⟩).run Tryd.prog w = .ok V w)
    (h : wpList Tryd.prog ops Q rest (a.put o.dst V) w) : wpList Tryd.prog ops Q (o :: rest) a w := by
  have hc : w.cell? ⟨b, k, none⟩ = some V := ((F.blk i hi).cell k).trans hk
  exact fm_ranW hw V w (exec_load ho hx (hr hc)) h
/-- What the document's Unlist answers. -/
def RUnl (w : World) (S0 : Nat → Prop) (t : Tm) (e : Ending) (w' : World) : Prop := (∃ l A c vs S, t = listT l ∧ e = .returned (.tuple #[.slice A l.length c, .bool true]) ∧ RowT w' S A vs l ∧ (∀ g, S g → S0 g ∨ (w.heap.size ≤ g ∧ g < w'.heap.size)) ∧ Mod [] w w') ∨ ((∀ l, t ≠ listT l) ∧ e = .returned (.tuple #[.slice none 0 0, .bool false]) ∧ Mod [] w w')
def RUnlAll (m : Nat) : Prop := ∀ (t : Tm) (ca : List Value) (S : Nat → Prop) (w : World), t.depth ≤ m → t.ok = true → t.count ≤ 1200 → TIs w S t ca → (∀ g, S g → g < w.heap.size) → Calls Tryd.prog 30 #[.agg ca.toArray] w (RUnl w S t)
theorem ok_text {u n : Int} {s : ByteArray} {l : List Tm} (h : (Tm.mk 1 u n s l).ok = true) : u = 0 ∧ n = 0 ∧ l = [] := by
  rw [ok_mk, Bool.and_eq_true, Tm.one_iff] at h
  obtain ⟨⟨_, ⟨_, h2, h3⟩, h4⟩, _⟩ := h
  simp [Tm.hasU, Tm.hasN, Tm.nk] at h2 h3 h4
  exact ⟨by omega, by omega, h4⟩
theorem listT_kind (l : List Tm) : (listT l).kind = 1 ∨ (listT l).kind = 4 := by
  cases l
  · exact .inl rfl
  · exact .inr rfl
theorem listT_len {l : List Tm} : l.length + 1 ≤ (listT l).count := by
  rw [listT_pairs]
  exact pairs_count l nilX
set_option maxRecDepth 1000000 in
set_option maxHeartbeats 2000000 in
theorem runl_nil (k u n : Int) (s : ByteArray) (A : Option Addr) (len c : Nat) (l' : List Tm) (S : Nat → Prop) (w : World) (hl : len = l'.length) (hT : TIs w S (.mk k u n s l') (tmc k u n s A len c)) (hS : ∀ g, S g → g < w.heap.size) (hk : (k == 1) = true) (hs : (s.toList == ([] : List UInt8)) = true) : Calls Tryd.prog 30 #[.agg (tmc k u n s A len c).toArray] w fun e w' => e = .returned (.tuple #[.slice none 0 0, .bool true]) ∧ Mod [] w w' := by
  have FA := (Fm.nil w).argL (Ov S w.heap.size) hT hS (fun _ h => .inl h)
  have HL := Lib.hid hl
  clear hT hS hl
  go_enter Tryd.func30, Tryd.ntmps30
  go_wp2_with (first
    | (with_reducible refine fm_box FA (o := ⟨some 1, .box 24 (.tmp 0), _, _, _, _⟩) rfl 24 (.tmp 0) rfl (tmc k u n s A len c) rfl ?_; intro b1 w1 F1; clear FA)
    | (with_reducible refine fm_load1 F1 0 0 rfl (.int .i64 k) rfl (o := ⟨some 9, _, _, _, _, _⟩) rfl 3 (.tmp 8) rfl rfl (fun h => run_load1 Tryd.underlying3 rfl h) ?_)
    | (with_reducible refine fm_load1G F1 0 3 rfl (.string s) rfl (o := ⟨some 13, _, _, _, _, _⟩) (by with_unfolding_all rfl) 9 (.tmp 12) rfl rfl (fun h => run_load1 Tryd.underlying9 rfl h) ?_))
  go_ret2
  exact ⟨rfl, F1.m⟩
set_option maxRecDepth 1000000 in
set_option maxHeartbeats 2000000 in
theorem runl_text (k u n : Int) (s : ByteArray) (A : Option Addr) (len c : Nat) (l' : List Tm) (S : Nat → Prop) (w : World) (hl : len = l'.length) (hT : TIs w S (.mk k u n s l') (tmc k u n s A len c)) (hS : ∀ g, S g → g < w.heap.size) (hk : (k == 1) = true) (hs : (s.toList == ([] : List UInt8)) = false) (hk4 : (k != 4) = true) : Calls Tryd.prog 30 #[.agg (tmc k u n s A len c).toArray] w fun e w' => e = .returned (.tuple #[.slice none 0 0, .bool false]) ∧ Mod [] w w' := by
  have FA := (Fm.nil w).argL (Ov S w.heap.size) hT hS (fun _ h => .inl h)
  have HL := Lib.hid hl
  clear hT hS hl
  go_enter Tryd.func30, Tryd.ntmps30
  go_wp2_with (first
    | (with_reducible refine fm_box FA (o := ⟨some 1, .box 24 (.tmp 0), _, _, _, _⟩) rfl 24 (.tmp 0) rfl (tmc k u n s A len c) rfl ?_; intro b1 w1 F1; clear FA)
    | (with_reducible refine fm_load1 F1 0 0 rfl (.int .i64 k) rfl (o := ⟨some 9, _, _, _, _, _⟩) rfl 3 (.tmp 8) rfl rfl (fun h => run_load1 Tryd.underlying3 rfl h) ?_)
    | (with_reducible refine fm_load1G F1 0 3 rfl (.string s) rfl (o := ⟨some 13, _, _, _, _, _⟩) (by with_unfolding_all rfl) 9 (.tmp 12) rfl rfl (fun h => run_load1 Tryd.underlying9 rfl h) ?_)
    | (with_reducible refine fm_load1 F1 0 0 rfl (.int .i64 k) rfl (o := ⟨some 17, _, _, _, _, _⟩) rfl 3 (.tmp 16) rfl rfl (fun h => run_load1 Tryd.underlying3 rfl h) ?_))
  go_ret2
  exact ⟨rfl, F1.m⟩
set_option maxRecDepth 1000000 in
set_option maxHeartbeats 2000000 in
theorem runl_other (k u n : Int) (s : ByteArray) (A : Option Addr) (len c : Nat) (l' : List Tm) (S : Nat → Prop) (w : World) (hl : len = l'.length) (hT : TIs w S (.mk k u n s l') (tmc k u n s A len c)) (hS : ∀ g, S g → g < w.heap.size) (hk : (k == 1) = false) (hk4 : (k != 4) = true) : Calls Tryd.prog 30 #[.agg (tmc k u n s A len c).toArray] w fun e w' => e = .returned (.tuple #[.slice none 0 0, .bool false]) ∧ Mod [] w w' := by
  have FA := (Fm.nil w).argL (Ov S w.heap.size) hT hS (fun _ h => .inl h)
  have HL := Lib.hid hl
  clear hT hS hl
  go_enter Tryd.func30, Tryd.ntmps30
  go_wp2_with (first
    | (with_reducible refine fm_box FA (o := ⟨some 1, .box 24 (.tmp 0), _, _, _, _⟩) rfl 24 (.tmp 0) rfl (tmc k u n s A len c) rfl ?_; intro b1 w1 F1; clear FA)
    | (with_reducible refine fm_load1 F1 0 0 rfl (.int .i64 k) rfl (o := ⟨some 9, _, _, _, _, _⟩) rfl 3 (.tmp 8) rfl rfl (fun h => run_load1 Tryd.underlying3 rfl h) ?_)
    | (with_reducible refine fm_load1 F1 0 0 rfl (.int .i64 k) rfl (o := ⟨some 17, _, _, _, _, _⟩) rfl 3 (.tmp 16) rfl rfl (fun h => run_load1 Tryd.underlying3 rfl h) ?_))
  go_ret2
  exact ⟨rfl, F1.m⟩
/-- A row of one, made anew, as one of the call's own. -/
theorem Fm.rowOwn {w0 w : World} {os ts : List Th} (F : Fm w0 w os ts) {L1 S : Nat → Prop} {t : Tm} {cs : List Value} (h1 : tT L1 S t cs ∈ ts) (L : Nat → Prop) (k1 : ∀ g, L1 g → L g) : ∃ xs, Fm w0 (w.alloc (.cells cs.toArray 24)) (oR (some ⟨w.heap.size, 0, none⟩) 1 xs :: os) (tLs L S [t] xs :: ts) := by
  obtain ⟨_, ⟨hT, hq⟩, hlt⟩ := F.k _ (.inr h1)
  have m : Mod [] w (w.alloc (.cells cs.toArray 24)) := Mod.alloc [] w _
  have h5 := hT.ones
  have hO : OwnG f5 24 5 (w.alloc (.cells cs.toArray 24)) (some ⟨w.heap.size, 0, none⟩) 1 [(⟨cs, h5⟩ : Q5)] := OwnG.of_holds (by simpa [f5] using Holds.made w 24 cs) f5_len (by simp [maxLen])
  have F' := F.own m (oR (some ⟨w.heap.size, 0, none⟩) 1 [(⟨cs, h5⟩ : Q5)]) (keeps_oR _ _ _) hO (fun g hg => by
    simp [oR, blkOf, Go.Proofs.YtchanildogjhgaaDoor.blk] at hg
    subst hg
    exact ⟨Nat.le_refl _, by simp⟩)
  refine ⟨_, F'.also _ (keeps_tLs _ _ _ _) ⟨rfl, fun i a b => ?_, fun g hg => k1 _ (hq g hg)⟩ fun g hg => ⟨_, h1, hg⟩⟩
  match i, a, b with
  | 0, _, _ => exact hT.keep m (by simp)
theorem fm_rowOwn {w0 w : World} {os ts : List Th} {ops : Array Oper} {rest : List Oper} {o : Oper} {a : Act} {Q : Exit → Act → World → Prop} (F : Fm w0 w os ts) {L1 S1 : Nat → Prop} {t1 : Tm} {c1 : List Value} (h1 : tT L1 S1 t1 c1 ∈ ts) (L : Nat → Prop) (k1 : ∀ g, L1 g → L g) (hgd : o.guard = none) (x : Operand) (ho : o.op = .buildSlice 22 1 #[(0, x)]) (hx : a.eval x = .agg c1.toArray)
    (h : ∀ g xs v, Fm w0 v (oR (some ⟨g, 0, none⟩) 1 xs :: os) (tLs L S1 [t1] xs :: ts) → wpList Tryd.prog ops Q rest (a.put o.dst (.slice (some ⟨g, 0, none⟩) 1 1)) v) : wpList Tryd.prog ops Q (o :: rest) a w := by
  obtain ⟨xs, F'⟩ := F.rowOwn h1 L k1
  exact wpList_ran_w hgd _ (exec_lit1 (F.ist h1).len ho hx) (h _ _ _ F')
set_option maxRecDepth 1000000 in
set_option maxHeartbeats 4000000 in
theorem runl_pair (m : Nat) (ih : RUnlAll m) (ta tb : Tm) (u n : Int) (s : ByteArray) (A : Option Addr) (c : Nat) (S : Nat → Prop) (w : World) (hda : tb.depth ≤ m) (hok : (Tm.mk 4 u n s [ta, tb]).ok = true) (hct : (Tm.mk 4 u n s [ta, tb]).count ≤ 1200) (hT : TIs w S (.mk 4 u n s [ta, tb]) (tmc 4 u n s A 2 c)) (hS : ∀ g, S g → g < w.heap.size) : Calls Tryd.prog 30 #[.agg (tmc 4 u n s A 2 c).toArray] w (RUnl w S (.mk 4 u n s [ta, tb])) := by
  obtain ⟨rfl, rfl, rfl, _, _, e0, _, hob⟩ := ok_pair hok
  simp only [List.cons.injEq, and_true] at e0
  obtain ⟨rfl, rfl⟩ := e0
  have hcb : tb.count ≤ 1200 := by simp [Tm.count, Tm.countAll] at hct; omega
  have hdb := hda
  have FA := (Fm.nil w).argL (Ov S w.heap.size) hT hS (fun _ h => .inl h)
  obtain ⟨g, q, c1, rfl, h51, h11, F1⟩ := FA.elem (FA.mem 0 rfl) 0 (by simp)
  obtain ⟨g', q', c2, e', h52, h12, F2⟩ := F1.elem (F1.mem 1 rfl) 1 (by simp)
  cases e'
  have hc1 : c1.length = 5 ∧ ∀ v ∈ c1, v.oneCell' = true := ⟨h51, h11⟩
  have hc2 : c2.length = 5 ∧ ∀ v ∈ c2, v.oneCell' = true := ⟨h52, h12⟩
  simp only [List.getElem_cons_zero, List.getElem_cons_succ] at F1 F2
  have F3 := F2.eT (F2.mem 1 rfl)
  have F4 := F3.eT (F3.mem 1 rfl)
  have HW := Lib.hid (And.intro hok hct)
  clear FA F1 F2 F3 hT hS hok hct h51 h11 h52 h12 hda
  go_enter Tryd.func30, Tryd.ntmps30
  go_wp2_with (first
    | (with_reducible refine fm_box F4 (o := ⟨some 1, .box 24 (.tmp 0), _, _, _, _⟩) rfl 24 (.tmp 0) rfl (tmc 4 0 0 ⟨#[]⟩ (some ⟨g, q, none⟩) 2 c) rfl ?_; intro b1 w1 F1; clear F4)
    | (with_reducible refine fm_load1 F1 0 0 rfl (.int .i64 4) rfl (o := ⟨some 9, _, _, _, _, _⟩) rfl 3 (.tmp 8) rfl rfl (fun h => run_load1 Tryd.underlying3 rfl h) ?_)
    | (with_reducible refine fm_load1 F1 0 0 rfl (.int .i64 4) rfl (o := ⟨some 17, _, _, _, _, _⟩) rfl 3 (.tmp 16) rfl rfl (fun h => run_load1 Tryd.underlying3 rfl h) ?_)
    | (with_reducible refine fm_load1G F1 0 4 rfl (.slice (some ⟨g, q, none⟩) 2 c) rfl (o := ⟨some 21, _, _, _, _, _⟩) (by with_unfolding_all rfl) 22 (.tmp 20) rfl rfl (fun h => run_load1 Tryd.underlying22 rfl h) ?_)
    | (with_reducible refine fm_load1 F1 0 4 rfl (.slice (some ⟨g, q, none⟩) 2 c) rfl (o := ⟨some 27, _, _, _, _, _⟩) rfl 22 (.tmp 26) rfl rfl (fun h => run_load1 Tryd.underlying22 rfl h) ?_)
    | (with_reducible refine wpList_ran (o := ⟨some 28, _, _, _, _, _⟩) rfl (.pointer (some ⟨g, q + 1 * 5, none⟩)) (exec_ixs Tryd.underlying22 size24 (by decide) rfl rfl rfl) ?_)
    | (with_reducible refine fm_loadE F1 (F1.mem 2 rfl) (o := ⟨some 29, .load 24 (.tmp 28), _, _, _, _⟩) rfl (.tmp 28) rfl rfl hc2.1 ?_))
  refine (ih tb c2 _ w1 hdb hob hcb (F1.ist (F1.mem 0 rfl)) (F1.ltm (F1.mem 0 rfl))).mono ?_
  rintro e w2 (⟨lr, A2, k2, vs2, S2, hlr, rfl, hR2, hS2, m2⟩ | ⟨hno, rfl, m2⟩)

  · have F60 : Fm w w2 [oB b1 24 (tmc 4 0 0 ⟨#[]⟩ (some ⟨g, q, none⟩) 2 c)] [tR (Ov S w.heap.size) S2 A2 vs2 lr, tE (Ov S w.heap.size) S (some ⟨g, q + 0 * 5, none⟩) c1 ta, tT (Ov S w.heap.size) S ta c1] := by
      have hSx := fun g' (h : S g') => F1.within (F1.mem 0 rfl) g' h
      have FX := F1.put m2 (tR (Ov S w.heap.size) S2 A2 vs2 lr) (keeps_tR _ _ _ _ _) ⟨hR2, fun g' hg' => (hS2 g' hg').elim (hSx g') (fun h => .inr (Nat.le_trans F1.m.size h.1))⟩ (fun g' hg' => (hS2 g' hg').elim (fun h => .inr ⟨_, F1.mem 0 rfl, h⟩) .inl)
      refine FX.sub (List.Sublist.refl _) (fun y hy => ?_)
      simp only [List.mem_cons, List.not_mem_nil, or_false] at hy
      rcases hy with rfl | rfl | rfl
      · exact FX.mem 0 rfl
      · exact FX.mem 4 rfl
      · exact FX.mem 2 rfl
    have hlc : lr.length ≤ 1200 := by have := (show lr.length + 1 ≤ tb.count by rw [hlr]; exact listT_len); omega
    obtain ⟨nr, hnr⟩ : ∃ q, q = lr.length := ⟨_, rfl⟩
    rw [← hnr] at hlc ⊢
    have HLR := Lib.hid (And.intro hlr hnr)
    clear F1 hR2 hS2 m2 hlr hnr
    go_wp2_with (first
      | (with_reducible refine fm_load1 F60 0 4 rfl (.slice (some ⟨g, q, none⟩) 2 c) rfl (o := ⟨some 36, _, _, _, _, _⟩) rfl 22 (.tmp 35) rfl rfl (fun h => run_load1 Tryd.underlying22 rfl h) ?_)
      | (with_reducible refine wpList_ran (o := ⟨some 37, _, _, _, _, _⟩) rfl (.pointer (some ⟨g, q + 0 * 5, none⟩)) (exec_ixs Tryd.underlying22 size24 (by decide) rfl rfl rfl) ?_)
      | (with_reducible refine fm_loadE F60 (F60.mem 1 rfl) (o := ⟨some 38, .load 24 (.tmp 37), _, _, _, _⟩) rfl (.tmp 37) rfl rfl hc1.1 ?_)
      | (with_reducible refine fm_rowOwn F60 (F60.mem 2 rfl) (Ov S w.heap.size) (fun _ h => h) rfl (.tmp 38) rfl rfl ?_; intro g6 xs6 w61 F61; clear F60))
    go_loopw [6, 7] (fun v i wr => ∃ (j : Nat) (A6 : Option Addr) (c6 nn : Nat) (xs : List Q5) (S6 : Nat → Prop), v = .slice A6 nn c6 ∧ i = .int .i64 j ∧ j ≤ nr ∧ Hid (nn = j + 1) ∧ Fm w wr [oR A6 c6 xs, oB b1 24 (tmc 4 0 0 ⟨#[]⟩ (some ⟨g, q, none⟩) 2 c)] [tLs (Ov S w.heap.size) S6 (ta :: lr.take j) xs, tR (Ov S w.heap.size) S2 A2 vs2 lr]) (fun _ i _ => nr - (intOf i).toNat)
    case atStart => exact ⟨0, _, 1, 1, xs6, S, rfl, rfl, Nat.zero_le _, Lib.hid rfl, F61.sub (List.Sublist.refl _) (fun y hy => by
      simp only [List.mem_cons, List.not_mem_nil, or_false] at hy
      rcases hy with rfl | rfl
      · exact F61.mem 0 rfl
      · exact F61.mem 1 rfl)⟩
    case round =>
    obtain ⟨j, A6, c6, nn, xs, S6, rfl, rfl, hj, hnn, FJ⟩ := hrel
    by_cases hjl : j < nr
    case neg =>
      obtain rfl : nr = j := by omega
      go_wp2_with fail
      go_ret2
      have hrow := FJ.asRow (i := 0) rfl (FJ.mem 0 rfl)
      have hSS := fun g' (h : S6 g') => (FJ.s 0 rfl).2.2 g' h
      refine .inl ⟨ta :: lr.take nr, A6, c6, _, _, ?_, ?_, hrow, fun g' hg' => ?_, FJ.m⟩
      · rw [HLR.out.2, List.take_length, HLR.out.1, listT]
      · have : (ta :: lr.take nr).length = nn := by rw [hnn.out, HLR.out.2, List.take_length]; rfl
        rw [this]
        rfl
      · rcases hg' with h | h
        · exact (hSS g' h).imp_right fun h' => ⟨h', FJ.slt 0 rfl g' h⟩
        · have h1 := FJ.lo (oR A6 c6 xs) (List.mem_cons_self ..) g' h
          exact .inr ⟨h1, (FJ.k (oR A6 c6 xs) (.inl (List.mem_cons_self ..))).2.2 g' h⟩
    case pos =>
      obtain ⟨g2, q2, d2, rfl, h5, h1, F1⟩ := FJ.elemR (FJ.mem 1 rfl) j (by rw [← HLR.out.2]; exact hjl)
      have F2 := F1.eT (F1.mem 0 rfl)
      have hjl2 : j < lr.length := by rw [← HLR.out.2]; exact hjl
      clear F1 FJ
      go_wp2_with (first
        | (with_reducible refine wpList_ran (o := ⟨some 49, _, _, _, _, _⟩) rfl (.pointer (some ⟨g2, q2 + j * 5, none⟩)) (exec_ixs Tryd.underlying22 size24 hjl rfl rfl rfl) ?_)
        | (with_reducible refine fm_loadE F2 (F2.mem 1 rfl) (o := ⟨some 50, .load 24 (.tmp 49), _, _, _, _⟩) rfl (.tmp 49) rfl rfl h5 ?_)
        | (with_reducible refine fm_row1 F2 (F2.mem 0 rfl) (Ov S w.heap.size) (fun _ h => h) (fun _ h => .inr h) rfl (.tmp 50) rfl rfl ?_; intro g5 S5 w5' F5)
        | (with_reducible refine fm_append1 F5 0 rfl (F5.mem 3 rfl) (F5.mem 0 rfl) (fun _ h => h) nn ((hnn.out.trans (by simp; omega))) (by have := hnn.out; omega) (o := ⟨some 52, _, _, _, _, _⟩) rfl (.tmp 46) (.tmp 51) rfl rfl rfl ?_; intro A7 c7 xs7 S7 w7 F7; clear F5))
      have e7 : (ta :: lr.take j) ++ [lr[j]] = ta :: lr.take (j + 1) := by rw [List.cons_append, List.take_append_getElem]
      exact ⟨⟨j + 1, A7, c7, nn + 1, xs7, S7, rfl, by go_num, by omega, Lib.hid (by have := hnn.out; omega), F7.sub (List.Sublist.refl _) (fun y hy => by
        simp only [List.mem_cons, List.not_mem_nil, or_false] at hy
        rcases hy with rfl | rfl
        · rw [← e7]; exact F7.mem 0 rfl
        · exact F7.mem 5 rfl)⟩, by simp [intOf]; omega⟩
  · go_wp2_with fail
    go_ret2
    refine .inr ⟨fun l hl => ?_, rfl, F1.m.then m2⟩
    cases l with
    | nil => rw [listT] at hl; cases hl
    | cons x l =>
      rw [listT] at hl
      simp only [Tm.mk.injEq, List.cons.injEq, and_true, true_and] at hl
      exact hno l hl.2
theorem runl_all : ∀ m, RUnlAll m
  | 0, t, _, _, _, h, _, _, _, _ => by have := Tm.depth_pos t; omega
  | m + 1, .mk k u n s l, ca, S, w, h, hok, hct, hT, hS => by
    obtain ⟨A, c, vs, rfl, -⟩ := hT.row
    by_cases hk1 : k = 1
    · subst hk1
      obtain ⟨rfl, rfl, rfl⟩ := ok_text hok
      cases hs : (s.toList == ([] : List UInt8)) with
      | true =>
        refine (runl_nil 1 0 0 s A 0 c [] S w rfl hT hS rfl hs).mono ?_
        rintro e w' ⟨rfl, m⟩
        have hs0 : s = ⟨#[]⟩ := by
          have : s.toList = ([] : List UInt8) := by simpa using hs
          have h2 := toList_beq s ⟨#[]⟩
          simpa [this] using h2
        exact .inl ⟨[], none, 0, [], fun _ => False, by rw [hs0]; rfl, rfl, RowT.nil _ _ _, fun _ h => h.elim, m⟩
      | false =>
        refine (runl_text 1 0 0 s A 0 c [] S w rfl hT hS rfl hs rfl).mono ?_
        rintro e w' ⟨rfl, m⟩
        refine .inr ⟨fun l hl => ?_, rfl, m⟩
        cases l with
        | nil =>
          rw [listT] at hl
          cases hl
          simp at hs
        | cons x l => rw [listT] at hl; cases hl
    · by_cases hk4 : k = 4
      · subst hk4
        obtain ⟨_, _, _, ta, tb, rfl, _, _⟩ := ok_pair hok
        exact runl_pair m (runl_all m) ta tb u n s A c S w (by simp [Tm.depth, Tm.depthAll] at h; omega) hok hct hT hS
      · refine (runl_other k u n s A l.length c l S w rfl hT hS (by simpa using hk1) (by simpa using hk4)).mono ?_
        rintro e w' ⟨rfl, m⟩
        refine .inr ⟨fun l' hl => ?_, rfl, m⟩
        have := listT_kind l'
        rw [← hl] at this
        simp [Tm.kind] at this
        omega
end
end Go.Proofs.YtchanildogjhgaaDoor
