/-
  TermLists. My own work.
-/
import Derived.Test.YtchanildogjhgaaDoorSc
namespace Go.Proofs.YtchanildogjhgaaDoor
open Go.RowKit Go.Shelf
set_option linter.unusedVariables false
set_option linter.unusedSimpArgs false
theorem unlist_list (l : List Tm) (n : Nat) (hn : n = l.length) (HR : (listT l).right = true) (ca : List Value) (S : Nat → Prop) (w : World) (hT : TIs w S (listT l) ca) (hS : ∀ g, S g → g < w.heap.size) (G : Glob w) : Calls Tryd.prog 28 #[.agg ca.toArray] w fun e w' => ∃ A vs, e = .returned (.tuple #[.slice A n n, .bool true]) ∧ RowT w' (Btw w.heap.size w'.heap.size) A vs l ∧ Mod [] w w' := by
  subst hn
  refine (unlist_yes (listT l) ca S w hT hS G HR).mono ?_
  rintro e w' (⟨m, A, vs, h1, h2, h3, h4⟩ | ⟨h, _⟩)
  · obtain rfl := listT_inj h1
    exact ⟨A, vs, h2, h3, h4⟩
  · exact absurd rfl (h l)
theorem Fm.argR {w0 w : World} {os ts : List Th} (F : Fm w0 w os ts) {S : Nat → Prop} {A : Option Addr} {vs : List (List Value)} {l : List Tm} (hR : RowT w S A vs l) (hS : ∀ g, S g → g < w0.heap.size) : Fm w0 w os (tR Any S A vs l :: ts) :=
  F.arg _ (keeps_tR _ _ _ _ _) ⟨hR, fun _ _ => trivial⟩ hS
theorem Fm.row {w0 w : World} {os ts : List Th} (F : Fm w0 w os ts) {L S : Nat → Prop} {A : Option Addr} {vs : List (List Value)} {l : List Tm} (h : tR L S A vs l ∈ ts) : RowT w S A vs l := (F.k _ (.inr h)).2.1.1
theorem Fm.madeRow {w0 w v : World} {os ts : List Th} (F : Fm w0 w os ts) (m : Mod [] w v) {A : Option Addr} {vs : List (List Value)} {l : List Tm} (hR : RowT v (Btw w.heap.size v.heap.size) A vs l) : Fm w0 v os (tR Any (Btw w.heap.size v.heap.size) A vs l :: ts) :=
  F.put m _ (keeps_tR _ _ _ _ _) ⟨hR, fun _ _ => trivial⟩ fun g hg => .inl hg
set_option maxRecDepth 1000000 in
set_option maxHeartbeats 2000000 in
theorem lists_long (A0 : Option Addr) (c0 : Nat) (vs0 : List (List Value)) (l : List Tm) (n : Nat) (w : World) (hl : n = l.length) (hR : RowT w (Btw 0 w.heap.size) A0 vs0 l) (G : Glob w) (hb : 100 < n) (hb2 : n ≤ 2199023255552) : Calls Tryd.prog 4 #[.slice A0 n c0] w fun e w' => e = .returned (.bool true) ∧ Mod [] w w' := by
  have FA := (Fm.nil w).argR hR (fun g hg => hg.2)
  have HL := Lib.hid hl
  clear hR hl
  have hd : decide ((100 : Int) < (n : Int)) = true := by simp; omega
  go_enter Tryd.func4, Tryd.ntmps4
  go_wp2_with (first
    | (go_at_call 13; refine (wakes_c w (FA.glob G)).mono ?_
       rintro e w1 ⟨rfl, m1⟩
       have F1 := FA.call m1
       clear m1 FA))
  go_ret
  exact ⟨rfl, F1.m⟩
set_option maxRecDepth 1000000 in
set_option maxHeartbeats 4000000 in
theorem lists_short (A0 : Option Addr) (c0 : Nat) (vs0 : List (List Value)) (l : List Tm) (n : Nat) (w : World) (hl : n = l.length) (hR : RowT w (Btw 0 w.heap.size) A0 vs0 l) (G : Glob w) (hb : n ≤ 100) : Calls Tryd.prog 4 #[.slice A0 n c0] w fun e w' => e = .returned (.bool true) ∧ Mod [] w w' := by
  have FA := (Fm.nil w).argR hR (fun g hg => hg.2)
  have HL := Lib.hid hl
  clear hR hl
  have hd : decide ((100 : Int) < (n : Int)) = false := by simp; omega
  go_enter Tryd.func4, Tryd.ntmps4
  go_wp2_with (first
    | (go_at_call 13; refine (wakes_c w (FA.glob G)).mono ?_
       rintro e w1 ⟨rfl, m1⟩
       have F1 := FA.call m1
       clear m1 FA))
  go_loopw [16] (fun i wr => ∃ j : Nat, i = .int .i64 j ∧ j ≤ n ∧ Fm w wr [] [tR Any (Btw 0 w.heap.size) A0 vs0 l]) (fun i _ => n - (intOf i).toNat)
  case atStart => exact ⟨0, rfl, Nat.zero_le _, F1⟩
  case round =>
  obtain ⟨j, rfl, hj, FJ⟩ := hrel
  by_cases hjl : j < n
  case pos =>
    obtain ⟨g, q, cj, rfl, h5, h1, F0⟩ := FJ.elemR (FJ.mem 0 rfl) j (by rw [← HL.out]; exact hjl)
    have hcj : cj.length = 5 ∧ ∀ v ∈ cj, v.oneCell' = true := ⟨h5, h1⟩
    replace F0 := F0.eT (F0.mem 0 rfl)
    clear h5 h1
    go_wp2_with (first
      | (with_reducible refine wpList_ran (o := ⟨some 18, _, _, _, _, _⟩) rfl (.pointer (some ⟨g, q + j * 5, none⟩)) (exec_ixs Tryd.underlying22 size24 hjl rfl rfl rfl) ?_)
      | (with_reducible refine fm_loadE F0 (F0.mem 1 rfl) (o := ⟨some 19, .load 24 (.tmp 18), _, _, _, _⟩) rfl (.tmp 18) rfl rfl hcj.1 ?_)
      | (with_reducible refine fm_alloc F0 (o := ⟨some 4, .alloc 24, _, _, _, _⟩) rfl 24 rfl _ zero24 ?_; intro b21 w21 F21; clear F0)
      | (with_reducible refine fm_store F21 0 rfl (o := ⟨none, .store 24 (.tmp 4) (.tmp 19), _, _, _, _⟩) rfl (.tmp 4) (.tmp 19) rfl rfl (cj) rfl rfl hcj.1 (tmc_len _ _ _ _ _ _ _) hcj.2 ?_; intro w22 F22; clear F21)
      | (with_reducible refine fm_load F22 0 rfl (o := ⟨some 20, .load 24 (.tmp 4), _, _, _, _⟩) rfl (.tmp 4) rfl rfl hcj.1 ?_))
    refine (over_c _ _ w.heap.size w22 (F22.tis 0 rfl) F22.m.size).mono ?_
    rintro e w23 ⟨ov23, rfl, m23⟩
    have F23 := F22.call m23
    clear m23
    clear F22
    cases ov23 with
    | true =>
      go_wp2_with fail
      go_ret
      exact ⟨rfl, F23.m⟩
    | false =>
      go_wp2_with fail
      exact ⟨⟨j + 1, by go_num, by omega, F23.sub (List.nil_sublist _) (fun y hy => by rw [List.mem_singleton] at hy; subst hy; exact F23.mem 2 rfl)⟩, by simp [intOf]; omega⟩
  case neg =>
    obtain rfl : n = j := by omega
    have LC := fun v S hr => list_c A0 n c0 vs0 l S v HL.out (by omega) hr
    cases HR : (listT l).right with
    | false =>
      have UN := fun v cs S h1 h2 h3 => unlist_no (listT l) cs S v h1 h2 h3 HR
      have CK := fun v cs S h G => check_c (listT l) cs S v h G
      rw [show chk (listT l) = 150 by rw [chk, HR]; rfl] at CK
      clear HR
      go_wp2_with (first
        | (go_at_call 26; refine (LC wr _ (FJ.row (FJ.mem 0 rfl))).mono ?_
           rintro e w41 ⟨c41, rfl, h41, m41⟩
           have hc41 := h41.ones
           have F41 := FJ.made m41 h41
           clear h41 m41 FJ)
        | (with_reducible refine fm_alloc F41 (o := ⟨some 5, .alloc 24, _, _, _, _⟩) rfl 24 rfl _ zero24 ?_; intro b42 w42 F42; clear F41)
        | (with_reducible refine fm_store F42 0 rfl (o := ⟨none, .store 24 (.tmp 5) (.tmp 24), _, _, _, _⟩) rfl (.tmp 5) (.tmp 24) rfl rfl (c41) rfl rfl hc41.1 (tmc_len _ _ _ _ _ _ _) hc41.2 ?_; intro w43 F43; clear F42)
        | (with_reducible refine fm_load F43 0 rfl (o := ⟨some 26, .load 24 (.tmp 5), _, _, _, _⟩) rfl (.tmp 5) rfl rfl hc41.1 ?_)
        | (go_at_call 28; refine (UN w43 _ _ (F43.ist (F43.mem 0 rfl)) (F43.ltm (F43.mem 0 rfl)) (F43.glob G)).mono ?_
           rintro e w44 ⟨rfl, m44⟩
           have F44 := F43.call m44
           clear m44 F43)
        | (with_reducible refine fm_load F44 0 rfl (o := ⟨some 30, .load 24 (.tmp 5), _, _, _, _⟩) rfl (.tmp 5) rfl rfl hc41.1 ?_)
        | (go_at_call 32; refine (CK w44 _ _ (F44.ist (F44.mem 0 rfl)) (F44.glob G)).mono ?_
           rintro e w45 ⟨rfl, m45⟩
           have F45 := F44.call m45
           clear m45 F44))
      go_ret
      exact ⟨rfl, F45.m⟩
    | true =>
      have UN := fun v cs S h1 h2 h3 => unlist_list l n HL.out HR cs S v h1 h2 h3
      have CK := fun v cs S h G => check_c (listT l) cs S v h G
      rw [show chk (listT l) = 0 by rw [chk, HR]; rfl] at CK
      have hnn : (((n : Int)) != (n : Int)) = false := by simp
      clear HR
      go_wp2_with (first
        | (go_at_call 26; refine (LC wr _ (FJ.row (FJ.mem 0 rfl))).mono ?_
           rintro e w41 ⟨c41, rfl, h41, m41⟩
           have hc41 := h41.ones
           have F41 := FJ.made m41 h41
           clear h41 m41 FJ)
        | (with_reducible refine fm_alloc F41 (o := ⟨some 5, .alloc 24, _, _, _, _⟩) rfl 24 rfl _ zero24 ?_; intro b42 w42 F42; clear F41)
        | (with_reducible refine fm_store F42 0 rfl (o := ⟨none, .store 24 (.tmp 5) (.tmp 24), _, _, _, _⟩) rfl (.tmp 5) (.tmp 24) rfl rfl (c41) rfl rfl hc41.1 (tmc_len _ _ _ _ _ _ _) hc41.2 ?_; intro w43 F43; clear F42)
        | (with_reducible refine fm_load F43 0 rfl (o := ⟨some 26, .load 24 (.tmp 5), _, _, _, _⟩) rfl (.tmp 5) rfl rfl hc41.1 ?_)
        | (go_at_call 28; refine (UN w43 _ _ (F43.ist (F43.mem 0 rfl)) (F43.ltm (F43.mem 0 rfl)) (F43.glob G)).mono ?_
           rintro e w44 ⟨A2, vs2, rfl, h44, m44⟩
           have F44 := F43.madeRow m44 h44
           clear h44 m44
           clear F43)
        | (with_reducible refine fm_load F44 0 rfl (o := ⟨some 30, .load 24 (.tmp 5), _, _, _, _⟩) rfl (.tmp 5) rfl rfl hc41.1 ?_)
        | (go_at_call 32; refine (CK w44 _ _ (F44.ist (F44.mem 1 rfl)) (F44.glob G)).mono ?_
           rintro e w45 ⟨rfl, m45⟩
           have F45 := F44.call m45
           clear m45 F44))
      obtain ⟨SS, FS⟩ : ∃ SS, Fm w w45 [] [tR Any SS A2 vs2 l, tR Any (Btw 0 w.heap.size) A0 vs0 l] := ⟨_, F45.sub (List.nil_sublist _) (fun y hy => by
        rcases List.mem_cons.1 hy with rfl | hy
        · exact F45.mem 0 rfl
        · rw [List.mem_singleton] at hy
          subst hy
          exact F45.mem 2 rfl)⟩
      clear F45 hnn
      go_loopw [51] (fun i wr => ∃ j : Nat, i = .int .i64 j ∧ j ≤ n ∧ Fm w wr [] [tR Any SS A2 vs2 l, tR Any (Btw 0 w.heap.size) A0 vs0 l]) (fun i _ => n - (intOf i).toNat)
      case atStart => exact ⟨0, rfl, Nat.zero_le _, FS⟩
      case round =>
      obtain ⟨j, rfl, hj', FJ⟩ := hrel
      by_cases hjl : j < n
      case neg =>
        go_wp2_with fail
        go_ret
        exact ⟨rfl, FJ.m⟩
      obtain ⟨g2, q2, d2, rfl, h52, h12, F1⟩ := FJ.elemR (FJ.mem 0 rfl) j (by rw [← HL.out]; exact hjl)
      obtain ⟨g, q, d0, rfl, h50, h10, F2⟩ := F1.elemR (F1.mem 2 rfl) j (by rw [← HL.out]; exact hjl)
      have hd2 : d2.length = 5 ∧ ∀ v ∈ d2, v.oneCell' = true := ⟨h52, h12⟩
      have hd0 : d0.length = 5 ∧ ∀ v ∈ d0, v.oneCell' = true := ⟨h50, h10⟩
      have F3 := F2.eT (F2.mem 0 rfl)
      have F4 := F3.eT (F3.mem 2 rfl)
      clear F1 F2 F3 FJ h52 h12 h50 h10
      go_wp2_with fail
      obtain ⟨Ts71, hTs71, FZ⟩ := (F4.call (Mod.drew [] wr)).name
      have in0 := F4.mem 0 rfl
      have in1 := F4.mem 1 rfl
      have in2 := F4.mem 2 rfl
      have in3 := F4.mem 3 rfl
      have in4 := F4.mem 4 rfl
      have in5 := F4.mem 5 rfl
      rw [← hTs71] at in0
      rw [← hTs71] at in1
      rw [← hTs71] at in2
      rw [← hTs71] at in3
      rw [← hTs71] at in4
      rw [← hTs71] at in5
      refine wp_region_upxd (X := (Nat → List Value) × (Nat → Nat)) (fun _ => [], fun _ => 0) (fun x => [(54, .slice (some ⟨g2, q2, none⟩) n n), (55, .int .i64 (j : Int)), (56, .pointer (some ⟨g2, q2 + j * 5, none⟩)), (57, .agg (d2).toArray), (58, .slice (some ⟨g, q, none⟩) n c0), (59, .int .i64 (j : Int)), (60, .pointer (some ⟨g, q + j * 5, none⟩)), (61, .agg (d0).toArray), (62, .bool true), (63, .bool false)]) 65 [54, 55, 56, 57, 58, 59, 60, 61, 62, 63] rfl (fun _ => rfl) (by decide) (by kernel_rfl) (fun x lz v => ∃ ts, Fm w v [] ts ∧ Ts71 ⊆ ts) (by kernel_rfl) ⟨_, FZ, List.Subset.refl _⟩ (by kernel_rfl) (by kernel_rfl) ?step ?fin
      case step =>
        intro x lz T v j o hj hlj hdep hst hpar hgot hcl hdf Kq hK
        have hjn : j < 10 := (Array.getElem?_eq_some_iff.1 hj).1
        obtain rfl | rfl | rfl | rfl | rfl | rfl | rfl | rfl | rfl | rfl : j = 0 ∨ j = 1 ∨ j = 2 ∨ j = 3 ∨ j = 4 ∨ j = 5 ∨ j = 6 ∨ j = 7 ∨ j = 8 ∨ j = 9 := by omega
        all_goals (have hj' := Option.some.inj (hj : some _ = some o); subst hj'; clear hj)
        · exact wp_ran rfl (exec_move rfl (eval_tmp ((hpar 6 rfl).trans rfl))) (hK x _ _ (fun _ _ _ _ _ _ => rfl) (fun s hs => by cases hs; rfl) (by simpa using hst))
        · exact wp_ran rfl (exec_move rfl (eval_tmp ((hpar 8 rfl).trans rfl))) (hK x _ _ (fun _ _ _ _ _ _ => rfl) (fun s hs => by cases hs; rfl) (by simpa using hst))
        · exact wp_ran rfl (exec_ixs Tryd.underlying22 size24 (hjl) rfl (eval_tmp (hgot 0 _ 54 rfl (hdep ⟨0, .data⟩ (by simp) rfl) rfl)) (eval_tmp (hgot 1 _ 55 rfl (hdep ⟨1, .data⟩ (by simp) rfl) rfl))) (hK x _ _ (fun _ _ _ _ _ _ => rfl) (fun s hs => by cases hs; rfl) (by simpa using hst))
        · obtain ⟨ts, FT, hs⟩ := hst
          have hL := FT.ec (hs in3)
          exact wp_ran rfl (exec_load rfl (eval_tmp (hgot 2 _ 56 rfl (hdep ⟨2, .data⟩ (by simp) rfl) rfl)) (run_loads hL Tryd.underlying24 rfl (size24' hd2.1))) (hK x _ _ (fun _ _ _ _ _ _ => rfl) (fun s hs => by cases hs; rfl) (by simpa using (show ∃ ts, _ from ⟨ts, FT, hs⟩)))
        · exact wp_ran rfl (exec_move rfl (eval_tmp ((hpar 0 rfl).trans rfl))) (hK x _ _ (fun _ _ _ _ _ _ => rfl) (fun s hs => by cases hs; rfl) (by simpa using hst))
        · exact wp_ran rfl (exec_move rfl (eval_tmp ((hpar 8 rfl).trans rfl))) (hK x _ _ (fun _ _ _ _ _ _ => rfl) (fun s hs => by cases hs; rfl) (by simpa using hst))
        · exact wp_ran rfl (exec_ixs Tryd.underlying22 size24 (hjl) rfl (eval_tmp (hgot 4 _ 58 rfl (hdep ⟨4, .data⟩ (by simp) rfl) rfl)) (eval_tmp (hgot 5 _ 59 rfl (hdep ⟨5, .data⟩ (by simp) rfl) rfl))) (hK x _ _ (fun _ _ _ _ _ _ => rfl) (fun s hs => by cases hs; rfl) (by simpa using hst))
        · obtain ⟨ts, FT, hs⟩ := hst
          have hL := FT.ec (hs in2)
          exact wp_ran rfl (exec_load rfl (eval_tmp (hgot 6 _ 60 rfl (hdep ⟨6, .data⟩ (by simp) rfl) rfl)) (run_loads hL Tryd.underlying24 rfl (size24' hd0.1))) (hK x _ _ (fun _ _ _ _ _ _ => rfl) (fun s hs => by cases hs; rfl) (by simpa using (show ∃ ts, _ from ⟨ts, FT, hs⟩)))
        · obtain ⟨ts, FT, hs⟩ := hst
          refine wp_called rfl (exec_call2 rfl rfl (eval_tmp (hgot 3 _ 57 rfl (hdep ⟨3, .data⟩ (by simp) rfl) rfl)) (eval_tmp (hgot 7 _ 61 rfl (hdep ⟨7, .data⟩ (by simp) rfl) rfl)) (enters_of Tryd.func33 (by kernel_rfl) rfl)) ((psame_c _ _ _ _ _ _ true v (same_rfl _) (FT.ist (hs in0)) (FT.ist (hs in1))).mono ?_)
          rintro e v' ⟨rfl, m⟩
          refine ⟨_, rfl, hK x _ _ (fun _ _ _ _ _ _ => rfl) (fun s hs => by cases hs; rfl) ?_⟩
          exact ⟨_, (by simpa using FT.call m), hs⟩
        · exact wp_ran rfl (exec_not rfl (eval_tmp (hgot 8 _ 62 rfl (hdep ⟨8, .data⟩ (by simp) rfl) rfl))) (hK x _ _ (fun _ _ _ _ _ _ => rfl) (fun s hs => by cases hs; rfl) (by simpa using hst))
      case fin =>
      intro x lz w71 hlz hst
      obtain ⟨ts, FT, hs⟩ := hst
      have F71 := FT.sub (ts' := [] ++ Ts71) (List.Sublist.refl _) (fun y hy => by
        rcases List.mem_append.1 hy with hy | hy
        · simp only [List.mem_cons, List.not_mem_nil, or_false] at hy
        · exact hs hy)
      rw [hTs71] at F71
      simp only [List.cons_append, List.nil_append] at F71
      dsimp only [setAll, List.foldl_cons, List.foldl_nil, List.set_cons_succ, List.set_cons_zero]
      clear FT hs hlz hTs71 FZ  in0 in1 in2 in3 in4 in5 F4
      go_wp2_with fail
      exact ⟨⟨j + 1, by go_num, by omega, F71.sub (List.Sublist.refl _) (fun y hy => by
        rcases List.mem_cons.1 hy with rfl | hy
        · exact F71.mem 4 rfl
        · rw [List.mem_singleton] at hy
          subst hy
          exact F71.mem 5 rfl)⟩, by simp [intOf]; omega⟩

theorem lists_w (A0 : Option Addr) (c0 : Nat) (vs0 : List (List Value)) (l : List Tm) (W : World) (hl : l.length ≤ c0) (hm : c0 ≤ maxLen) (hb : l.length ≤ 2199023255552) (hR : RowT W (Btw 0 W.heap.size) A0 vs0 l) (G : Glob W) : Calls Tryd.prog 4 #[.slice A0 l.length c0] W fun e w' => e = .returned (.bool true) ∧ Mod [] W w' := by
  by_cases h : 100 < l.length
  · exact lists_long A0 c0 vs0 l l.length W rfl hR G h hb
  · exact lists_short A0 c0 vs0 l l.length W rfl hR G (by omega)
end Go.Proofs.YtchanildogjhgaaDoor
