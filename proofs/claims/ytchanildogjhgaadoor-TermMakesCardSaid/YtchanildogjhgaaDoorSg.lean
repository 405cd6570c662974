/-
  TermMakes. My own work.
-/
import Derived.Test.YtchanildogjhgaaDoorS3
import Derived.Test.YtchanildogjhgaaDoorA1
namespace Go.Proofs.YtchanildogjhgaaDoor
open Go.RowKit Go.Shelf
set_option linter.unusedVariables false
set_option linter.unusedSimpArgs false
theorem exec_fp26_0 {v : World} {o : Oper} {ρ : Operand → Value} {x : Operand} {g : Nat} (ho : o.op = .fieldAddr 26 x 0) (hx : ρ x = .pointer (some ⟨g, 0, none⟩)) : (execOp ρ o).run Tryd.prog v = .ok (.value (.pointer (some ⟨g, 0, none⟩))) v := by
  unfold execOp
  simp [ho, hx, go_sem]
theorem exec_fp26_1 {v : World} {o : Oper} {ρ : Operand → Value} {x : Operand} {g : Nat} (ho : o.op = .fieldAddr 26 x 1) (hx : ρ x = .pointer (some ⟨g, 0, none⟩)) : (execOp ρ o).run Tryd.prog v = .ok (.value (.pointer (some ⟨g, 1, none⟩))) v := by
  unfold execOp
  simp [ho, hx, go_sem]
theorem exec_fp26_2 {v : World} {o : Oper} {ρ : Operand → Value} {x : Operand} {g : Nat} (ho : o.op = .fieldAddr 26 x 2) (hx : ρ x = .pointer (some ⟨g, 0, none⟩)) : (execOp ρ o).run Tryd.prog v = .ok (.value (.pointer (some ⟨g, 2, none⟩))) v := by
  unfold execOp
  simp [ho, hx, go_sem]
theorem run_buildI (k u : Int) (A : Option Addr) (l c : Nat) (w : World) : (Instr.build 24 #[(0, .int .i64 k), (1, .int .i64 u), (4, .slice A l c)]).run Tryd.prog w = .ok (.agg (tmc k u 0 ⟨#[]⟩ A l c).toArray) w := by
  refine run_build w _ _ _ ?_
  kernel_rfl
theorem run_buildJ (k u n : Int) (A : Option Addr) (l c : Nat) (w : World) : (Instr.build 24 #[(0, .int .i64 k), (1, .int .i64 u), (2, .int .i64 n), (4, .slice A l c)]).run Tryd.prog w = .ok (.agg (tmc k u n ⟨#[]⟩ A l c).toArray) w := by
  refine run_build w _ _ _ ?_
  kernel_rfl
theorem exec_bI {v : World} {o : Oper} {ρ : Operand → Value} {x y z : Operand} {k u : Int} {A : Option Addr} {l c : Nat} (ho : o.op = .build 24 #[(0, x), (1, y), (4, z)]) (hx : ρ x = .int .i64 k) (hy : ρ y = .int .i64 u) (hz : ρ z = .slice A l c) : (execOp ρ o).run Tryd.prog v = .ok (.value (.agg (tmc k u 0 ⟨#[]⟩ A l c).toArray)) v := by
  unfold execOp
  simp only [ho, List.map_toArray, List.map_cons, List.map_nil, hx, hy, hz, Sem.run_bind, run_buildI, Result.andThen, Sem.run_pure]
theorem exec_bJ {v : World} {o : Oper} {ρ : Operand → Value} {x y z t : Operand} {k u n : Int} {A : Option Addr} {l c : Nat} (ho : o.op = .build 24 #[(0, x), (1, y), (2, z), (4, t)]) (hx : ρ x = .int .i64 k) (hy : ρ y = .int .i64 u) (hz : ρ z = .int .i64 n) (ht : ρ t = .slice A l c) : (execOp ρ o).run Tryd.prog v = .ok (.value (.agg (tmc k u n ⟨#[]⟩ A l c).toArray)) v := by
  unfold execOp
  simp only [ho, List.map_toArray, List.map_cons, List.map_nil, hx, hy, hz, ht, Sem.run_bind, run_buildJ, Result.andThen, Sem.run_pure]
theorem exec_pre22 {v : World} {o : Oper} {ρ : Operand → Value} {x y : Operand} {g f n c k : Nat} (hk : k ≤ c) (ho : o.op = .slice 22 x none (some y) none) (hx : ρ x = .slice (some ⟨g, f, none⟩) n c) (hy : ρ y = .int .i64 (k : Int)) : (execOp ρ o).run Tryd.prog v = .ok (.value (.slice (some ⟨g, f, none⟩) k c)) v := by
  unfold execOp
  simp [ho, hx, hy, go_sem, run_underlying Tryd.underlying22]
  intro h
  omega
theorem Fm.take1 {w0 w : World} {os ts : List Th} (F : Fm w0 w os ts) {L S : Nat → Prop} {A : Option Addr} {x y : List Value} {a b : Tm} (h : tR L S A [x, y] [a, b] ∈ ts) : Fm w0 w os (tR L S A [x] [a] :: ts) := by
  obtain ⟨_, ⟨hr, hL⟩, _⟩ := F.k _ (.inr h)
  refine F.also _ (keeps_tR _ _ _ _ _) ⟨⟨fun q hq _ => hr.hA q hq (by simp), rfl, fun v hv => hr.hz v (by simp at hv; simp [hv]), ?_, fun i h1 h2 => ?_⟩, hL⟩ fun g hg => ⟨_, h, hg⟩
  · intro i hi
    have hi' : i < ([x, y].flatMap id).length := by simp at hi ⊢; omega
    obtain ⟨g, o, e, hc⟩ := hr.hC i hi'
    refine ⟨g, o, e, hc.trans ?_⟩
    congr 1
    simp at hi
    simp [List.getElem_append_left hi]
  · match i, h1, h2 with
    | 0, _, _ => exact hr.hk 0 (by simp) (by simp)
theorem Fm.leaf {w0 w : World} {os ts : List Th} (F : Fm w0 w os ts) (L : Nat → Prop) (k u n : Int) (s : ByteArray) (hs : s.size ≤ 140737488355328) : Fm w0 w os (tT L (fun _ => False) (.mk k u n s []) (tmc k u n s none 0 0) :: ts) :=
  F.also _ (keeps_tT _ _ _ _) ⟨.mk k u n s [] none 0 [] hs (Nat.le_refl _) (by decide) (by decide) (fun _ h => by cases h) rfl (by simp) (Cells.nil _ _) (fun i h => by simp at h), fun _ h => h.elim⟩ fun _ h => h.elim
set_option maxRecDepth 1000000 in
set_option maxHeartbeats 2000000 in
theorem makes_long (A0 : Option Addr) (c0 : Nat) (vs0 : List (List Value)) (l : List Tm) (n : Nat) (t : Tm) (ca : List Value) (U N : Int) (s : ByteArray) (w : World) (hl : n = l.length) (hR : RowT w (Btw 0 w.heap.size) A0 vs0 l) (hT : TIs w (Btw 0 w.heap.size) t ca) (G : Glob w) (hb : 100 < n) : Calls Tryd.prog 3 #[.slice A0 n c0, .agg ca.toArray, .agg ([.int .i64 U, .int .i64 N, .string s] : List Value).toArray] w fun e w' => e = .returned (.bool true) ∧ Mod [] w w' := by
  have hca := hT.ones
  have OV := fun v (mv : Mod [] w v) => over_c t ca w.heap.size v (hT.keep mv (by simp)) mv.size
  have FA := ((Fm.nil w).argR hR (fun g hg => hg.2)).argT hT (fun g hg => hg.2)
  have HL := Lib.hid hl
  clear hR hT hl
  have hd : decide ((100 : Int) < (n : Int)) = true := by simp; omega
  go_enter Tryd.func3, Tryd.ntmps3
  go_wp2_with (first
    | (with_reducible refine fm_box FA (o := ⟨some 4, .box 24 (.tmp 1), _, _, _, _⟩) rfl 24 (.tmp 1) rfl (ca) rfl ?_; intro b1 w1 F1; clear FA)
    | (with_reducible refine fm_box F1 (o := ⟨some 5, .box 26 (.tmp 2), _, _, _, _⟩) rfl 26 (.tmp 2) rfl ([.int .i64 U, .int .i64 N, .string s]) rfl ?_; intro b2 w2 F2; clear F1)
    | (go_at_call 13; refine (wakes_c w2 (F2.glob G)).mono ?_
       rintro e w3 ⟨rfl, m3⟩
       have F3 := F2.call m3
       clear m3 F2))
  go_ret
  exact ⟨rfl, F3.m⟩
set_option maxRecDepth 1000000 in
set_option maxHeartbeats 4000000 in
theorem makes_short (A0 : Option Addr) (c0 : Nat) (vs0 : List (List Value)) (l : List Tm) (n : Nat) (t : Tm) (ca : List Value) (U N : Int) (s : ByteArray) (w : World) (hl : n = l.length) (hR : RowT w (Btw 0 w.heap.size) A0 vs0 l) (hT : TIs w (Btw 0 w.heap.size) t ca) (G : Glob w) (hb : n ≤ 100) : Calls Tryd.prog 3 #[.slice A0 n c0, .agg ca.toArray, .agg ([.int .i64 U, .int .i64 N, .string s] : List Value).toArray] w fun e w' => e = .returned (.bool true) ∧ Mod [] w w' := by
  have hca := hT.ones
  have OV := fun v (mv : Mod [] w v) => over_c t ca w.heap.size v (hT.keep mv (by simp)) mv.size
  have FA := ((Fm.nil w).argR hR (fun g hg => hg.2)).argT hT (fun g hg => hg.2)
  have HL := Lib.hid hl
  clear hR hT hl
  have hd : decide ((100 : Int) < (n : Int)) = false := by simp; omega
  go_enter Tryd.func3, Tryd.ntmps3
  go_wp2_with (first
    | (with_reducible refine fm_box FA (o := ⟨some 4, .box 24 (.tmp 1), _, _, _, _⟩) rfl 24 (.tmp 1) rfl (ca) rfl ?_; intro b1 w1 F1; clear FA)
    | (with_reducible refine fm_box F1 (o := ⟨some 5, .box 26 (.tmp 2), _, _, _, _⟩) rfl 26 (.tmp 2) rfl ([.int .i64 U, .int .i64 N, .string s]) rfl ?_; intro b2 w2 F2; clear F1)
    | (go_at_call 13; refine (wakes_c w2 (F2.glob G)).mono ?_
       rintro e w3 ⟨rfl, m3⟩
       have F3 := F2.call m3
       clear m3 F2)
    | (with_reducible refine fm_loadG F3 1 rfl (o := ⟨some 22, .load 24 (.tmp 4), _, _, _, _⟩) (by with_unfolding_all rfl) (.tmp 4) rfl rfl hca.1 ?_))
  refine (OV w3 F3.m).mono ?_
  rintro e w4 ⟨ov4, rfl, m4⟩
  have F4 := F3.call m4
  clear m4
  clear F3
  cases ov4 with
  | true =>
    go_wp2_with fail
    go_ret
    exact ⟨rfl, F4.m⟩
  | false =>
    cases hs1 : decide (1000 < (s.size : Int)) with
    | true =>
      go_wp2_with (first
        | (with_reducible refine fm_load1G F4 0 2 rfl (.string s) rfl (o := ⟨some 27, _, _, _, _, _⟩) (by with_unfolding_all rfl) 9 (.tmp 26) rfl rfl (fun h => run_load1 Tryd.underlying9 rfl h) ?_))
      go_ret
      exact ⟨rfl, F4.m⟩
    | false =>
      have hss : s.size ≤ 1000 := by have := of_decide_eq_false hs1; omega
      go_wp2_with (first
        | (with_reducible refine fm_load1G F4 0 2 rfl (.string s) rfl (o := ⟨some 27, _, _, _, _, _⟩) (by with_unfolding_all rfl) 9 (.tmp 26) rfl rfl (fun h => run_load1 Tryd.underlying9 rfl h) ?_))
      go_loopw [33] (fun i wr => ∃ j : Nat, i = .int .i64 j ∧ j ≤ n ∧ Fm w wr [oB b2 26 [.int .i64 U, .int .i64 N, .string s], oB b1 24 ca] [tT Any (Btw 0 w.heap.size) t ca, tR Any (Btw 0 w.heap.size) A0 vs0 l]) (fun i _ => n - (intOf i).toNat)
      case atStart => exact ⟨0, rfl, Nat.zero_le _, F4⟩
      case round =>
      obtain ⟨j, rfl, hj, FJ⟩ := hrel
      by_cases hjl : j < n
      case pos =>
        obtain ⟨g, q, cj, rfl, h5, h1, F0⟩ := FJ.elemR (FJ.mem 1 rfl) j (by rw [← HL.out]; exact hjl)
        have hcj : cj.length = 5 ∧ ∀ v ∈ cj, v.oneCell' = true := ⟨h5, h1⟩
        replace F0 := F0.eT (F0.mem 0 rfl)
        clear h5 h1
        go_wp2_with (first
          | (with_reducible refine wpList_ran (o := ⟨some 35, _, _, _, _, _⟩) rfl (.pointer (some ⟨g, q + j * 5, none⟩)) (exec_ixs Tryd.underlying22 size24 hjl rfl rfl rfl) ?_)
          | (with_reducible refine fm_loadE F0 (F0.mem 1 rfl) (o := ⟨some 36, .load 24 (.tmp 35), _, _, _, _⟩) rfl (.tmp 35) rfl rfl hcj.1 ?_)
          | (with_reducible refine fm_alloc F0 (o := ⟨some 8, .alloc 24, _, _, _, _⟩) rfl 24 rfl _ zero24 ?_; intro b21 w21 F21; clear F0)
          | (with_reducible refine fm_store F21 0 rfl (o := ⟨none, .store 24 (.tmp 8) (.tmp 36), _, _, _, _⟩) rfl (.tmp 8) (.tmp 36) rfl rfl (cj) rfl rfl hcj.1 (tmc_len _ _ _ _ _ _ _) hcj.2 ?_; intro w22 F22; clear F21)
          | (with_reducible refine fm_load F22 0 rfl (o := ⟨some 37, .load 24 (.tmp 8), _, _, _, _⟩) rfl (.tmp 8) rfl rfl hcj.1 ?_))
        refine (over_c _ _ w.heap.size w22 (F22.tis 0 rfl) F22.m.size).mono ?_
        rintro e w23 ⟨ov23, rfl, m23⟩
        have F23 := F22.call m23
        clear m23
        clear F22
        cases ov23 with
        | true =>
          go_wp2_with fail
          go_ret
          exact ⟨rfl, F23.m⟩
        | false =>
          go_wp2_with fail
          exact ⟨⟨j + 1, by go_num, by omega, F23.sub (List.sublist_cons_self _ _) (fun y hy => by
            rcases List.mem_cons.1 hy with rfl | hy
            · exact F23.mem 2 rfl
            · rw [List.mem_singleton] at hy
              subst hy
              exact F23.mem 3 rfl)⟩, by simp [intOf]; omega⟩
      case neg =>
        obtain rfl : n = j := by omega
        go_wp2_with (first
          | (with_reducible refine fm_load1 FJ 0 0 rfl (.int .i64 U) rfl (o := ⟨some 41, _, _, _, _, _⟩) rfl 3 (.tmp 40) rfl rfl (fun h => run_load1 Tryd.underlying3 rfl h) ?_)
          | (with_reducible refine fm_load1 FJ 0 1 rfl (.int .i64 N) rfl (o := ⟨some 43, _, _, _, _, _⟩) rfl 3 (.tmp 42) rfl rfl (fun h => run_load1 Tryd.underlying3 rfl h) ?_)
          | (with_reducible refine wpList_ran (o := ⟨some 44, .build 24 _, _, _, _, _⟩) rfl (.agg (tmc (2) (U) (N) ⟨#[]⟩ none 0 0).toArray) (exec_bC rfl rfl rfl rfl) ?_)
          | (with_reducible refine fm_alloc FJ (o := ⟨some 9, .alloc 24, _, _, _, _⟩) rfl 24 rfl _ zero24 ?_; intro b41 w41 F41; clear FJ)
          | (with_reducible refine fm_store F41 0 rfl (o := ⟨none, .store 24 (.tmp 9) (.tmp 44), _, _, _, _⟩) rfl (.tmp 9) (.tmp 44) rfl rfl (tmc (2) (U) (N) ⟨#[]⟩ none 0 0) rfl rfl (tmc_len _ _ _ _ _ _ _) (tmc_len _ _ _ _ _ _ _) (tmc_one _ _ _ _ _ _ _) ?_; intro w42 F42; clear F41; have FL := (F42.leaf Any 2 U N ⟨#[]⟩ (by decide)).leaf Any 3 U 0 ⟨#[]⟩ (by decide); clear F42)
          | (with_reducible refine fm_load FL 2 rfl (o := ⟨some 45, .load 24 (.tmp 4), _, _, _, _⟩) rfl (.tmp 4) rfl rfl hca.1 ?_)
          | (with_reducible refine fm_load FL 0 rfl (o := ⟨some 46, .load 24 (.tmp 9), _, _, _, _⟩) rfl (.tmp 9) rfl rfl (tmc_len _ _ _ _ _ _ _) ?_)
          | (with_reducible refine fm_row2 FL (FL.mem 2 rfl) (FL.mem 1 rfl) Any (fun _ h => h) (fun _ h => h) (fun _ _ => trivial) rfl (.tmp 45) (.tmp 46) rfl rfl rfl ?_; intro g43 S43 w43 F43; clear FL))
        have FK1 := F43.take1 (F43.mem 0 rfl)
        have FK2 := FK1.term (FK1.mem 0 rfl) 5 0 0 ⟨#[]⟩ 1 2 rfl (by decide) (by decide) (by decide)
        have FK3 := FK2.term (FK2.mem 1 rfl) 7 U 0 ⟨#[]⟩ 1 2 rfl (by decide) (by decide) (by decide)
        have FK4 := FK3.term (FK3.mem 2 rfl) 8 U N ⟨#[]⟩ 1 2 rfl (by decide) (by decide) (by decide)
        have FK5 := FK4.term (FK4.mem 4 rfl) 6 0 0 ⟨#[]⟩ 2 2 rfl (by decide) (by decide) (by decide)
        clear FK1 FK2 FK3 FK4 F43
        go_wp2_with fail
        obtain ⟨Ts44, hTs44, FZ⟩ := (FK5.call (Mod.drew [] w43)).name
        have in0 := FK5.mem 0 rfl
        have in1 := FK5.mem 1 rfl
        have in2 := FK5.mem 2 rfl
        have in3 := FK5.mem 3 rfl
        have in4 := FK5.mem 4 rfl
        have in5 := FK5.mem 5 rfl
        have in6 := FK5.mem 6 rfl
        have in7 := FK5.mem 7 rfl
        have in8 := FK5.mem 8 rfl
        have in9 := FK5.mem 9 rfl
        rw [← hTs44] at in0
        rw [← hTs44] at in1
        rw [← hTs44] at in2
        rw [← hTs44] at in3
        rw [← hTs44] at in4
        rw [← hTs44] at in5
        rw [← hTs44] at in6
        rw [← hTs44] at in7
        rw [← hTs44] at in8
        rw [← hTs44] at in9
        refine wp_region_upxd (X := (Nat → List Value) × (Nat → Nat)) (fun _ => [], fun _ => 0) (fun x => [(48, .pointer (some ⟨b2, 2, none⟩)), (49, .string s), (50, .agg ((x.1 2)).toArray), (51, .pointer (some ⟨b2, 2, none⟩)), (52, .string s), (53, .agg ((x.1 5)).toArray), (54, .bool true), (55, .bool true), (56, .pointer (some ⟨b2, 0, none⟩)), (57, .int .i64 U), (58, .pointer (some ⟨b2, 1, none⟩)), (59, .int .i64 N), (60, .agg ((x.1 12)).toArray), (61, .agg (tmc (2) (U) (N) ⟨#[]⟩ none 0 0).toArray), (62, .bool true), (63, .bool true), (11, .bool true)]) 169 [48, 49, 50, 51, 52, 53, 54, 55, 56, 57, 58, 59, 60, 61, 62, 63, 11] rfl (fun _ => rfl) (by decide) (by kernel_rfl) (fun x lz v => ∃ ts, Fm w v [oB b41 24 (tmc (2) (U) (N) ⟨#[]⟩ none 0 0), oB b2 26 ([.int .i64 U, .int .i64 N, .string s]), oB b1 24 (ca)] ts ∧ Ts44 ⊆ ts ∧ (lz 2 = true → ∃ Sx, tT (Up w.heap.size) Sx ((.mk 1 0 0 s [])) (x.1 2) ∈ ts) ∧ (lz 5 = true → ∃ Sx, tT Any Sx ((.mk 1 0 0 s [])) (x.1 5) ∈ ts) ∧ (lz 12 = true → ∃ Sx, tT (Up w.heap.size) Sx ((.mk 2 U N ⟨#[]⟩ [])) (x.1 12) ∈ ts)) (by kernel_rfl) ⟨_, FZ, List.Subset.refl _, (fun h => by cases h), (fun h => by cases h), (fun h => by cases h)⟩ (by kernel_rfl) (by kernel_rfl) ?step ?fin
        case step =>
          intro x lz T v j o hj hlj hdep hst hpar hgot hcl hdf Kq hK
          have hjn : j < 17 := (Array.getElem?_eq_some_iff.1 hj).1
          obtain rfl | rfl | rfl | rfl | rfl | rfl | rfl | rfl | rfl | rfl | rfl | rfl | rfl | rfl | rfl | rfl | rfl : j = 0 ∨ j = 1 ∨ j = 2 ∨ j = 3 ∨ j = 4 ∨ j = 5 ∨ j = 6 ∨ j = 7 ∨ j = 8 ∨ j = 9 ∨ j = 10 ∨ j = 11 ∨ j = 12 ∨ j = 13 ∨ j = 14 ∨ j = 15 ∨ j = 16 := by omega
          all_goals (have hj' := Option.some.inj (hj : some _ = some o); subst hj'; clear hj)
          · exact wp_ran rfl (exec_fp26_2 rfl (eval_tmp ((hpar 5 rfl).trans rfl))) (hK x _ _ (fun _ _ _ _ _ _ => rfl) (fun s hs => by cases hs; rfl) (by simpa using hst))
          · obtain ⟨ts, FT, hts⟩ := hst
            have hL := (FT.blk 1 rfl).cell 2
            exact wp_ran rfl (exec_load rfl (eval_tmp (hgot 0 _ 48 rfl (hdep ⟨0, .data⟩ (by simp) rfl) rfl)) (run_load1 Tryd.underlying9 rfl hL)) (hK x _ _ (fun _ _ _ _ _ _ => rfl) (fun s hs => by cases hs; rfl) (by simpa using (show ∃ ts, _ from ⟨ts, FT, hts⟩)))
          · obtain ⟨ts, FT, hs, g2, g5, g12⟩ := hst
            refine wp_called rfl (exec_call1 rfl rfl (eval_tmp (hgot 1 _ 49 rfl (hdep ⟨1, .data⟩ (by simp) rfl) rfl)) (enters_of Tryd.func16 (by kernel_rfl) rfl)) ((text_c s (by omega) v).mono ?_)
            rintro e v' ⟨cs, rfl, hT, m⟩
            have FT' := FT.made m hT
            refine ⟨_, rfl, hK (fun i => if i = 2 then cs else x.1 i, x.2) _ _ (fun j' o' s' q1 q2 q3 => by
                have q4 : j' < 17 := (Array.getElem?_eq_some_iff.1 q1).1
                clear hpar hgot hdep hK
                obtain rfl | rfl | rfl | rfl | rfl | rfl | rfl | rfl | rfl | rfl | rfl | rfl | rfl | rfl | rfl | rfl | rfl : j' = 0 ∨ j' = 1 ∨ j' = 2 ∨ j' = 3 ∨ j' = 4 ∨ j' = 5 ∨ j' = 6 ∨ j' = 7 ∨ j' = 8 ∨ j' = 9 ∨ j' = 10 ∨ j' = 11 ∨ j' = 12 ∨ j' = 13 ∨ j' = 14 ∨ j' = 15 ∨ j' = 16 := by omega
                all_goals (cases q1; cases q3 <;> first | rfl | (rw [hlj] at q2; cases q2))) (fun s hs => by cases hs; rfl) ?_⟩
            refine ⟨_, (by simpa using FT'), (fun y hy => List.mem_cons_of_mem _ (hs hy)), (fun _ => ⟨_, List.mem_cons_self ..⟩), (fun h => by obtain ⟨Sx, h⟩ := g5 (by simpa using h); exact ⟨Sx, List.mem_cons_of_mem _ h⟩), (fun h => by obtain ⟨Sx, h⟩ := g12 (by simpa using h); exact ⟨Sx, List.mem_cons_of_mem _ h⟩)⟩
          · exact wp_ran rfl (exec_fp26_2 rfl (eval_tmp ((hpar 5 rfl).trans rfl))) (hK x _ _ (fun _ _ _ _ _ _ => rfl) (fun s hs => by cases hs; rfl) (by simpa using hst))
          · obtain ⟨ts, FT, hts⟩ := hst
            have hL := (FT.blk 1 rfl).cell 2
            exact wp_ran rfl (exec_load rfl (eval_tmp (hgot 3 _ 51 rfl (hdep ⟨3, .data⟩ (by simp) rfl) rfl)) (run_load1 Tryd.underlying9 rfl hL)) (hK x _ _ (fun _ _ _ _ _ _ => rfl) (fun s hs => by cases hs; rfl) (by simpa using (show ∃ ts, _ from ⟨ts, FT, hts⟩)))
          · obtain ⟨ts, FT, hs, g2, g5, g12⟩ := hst
            refine wp_called rfl (exec_call1 rfl rfl (eval_tmp (hgot 4 _ 52 rfl (hdep ⟨4, .data⟩ (by simp) rfl) rfl)) (enters_of Tryd.func17 (by kernel_rfl) rfl)) ((rtext_c s (by omega) (fun _ => False) v).mono ?_)
            rintro e v' ⟨cs, rfl, hT, m⟩
            obtain ⟨S', FT'⟩ := FT.madeR m hT (fun _ h => h.elim) (L := Any) (fun _ h => h.elim) (fun _ _ => trivial)
            refine ⟨_, rfl, hK (fun i => if i = 5 then cs else x.1 i, x.2) _ _ (fun j' o' s' q1 q2 q3 => by
                have q4 : j' < 17 := (Array.getElem?_eq_some_iff.1 q1).1
                clear hpar hgot hdep hK
                obtain rfl | rfl | rfl | rfl | rfl | rfl | rfl | rfl | rfl | rfl | rfl | rfl | rfl | rfl | rfl | rfl | rfl : j' = 0 ∨ j' = 1 ∨ j' = 2 ∨ j' = 3 ∨ j' = 4 ∨ j' = 5 ∨ j' = 6 ∨ j' = 7 ∨ j' = 8 ∨ j' = 9 ∨ j' = 10 ∨ j' = 11 ∨ j' = 12 ∨ j' = 13 ∨ j' = 14 ∨ j' = 15 ∨ j' = 16 := by omega
                all_goals (cases q1; cases q3 <;> first | rfl | (rw [hlj] at q2; cases q2))) (fun s hs => by cases hs; rfl) ?_⟩
            refine ⟨_, (by simpa using FT'), (fun y hy => List.mem_cons_of_mem _ (hs hy)), (fun h => by obtain ⟨Sx, h⟩ := g2 (by simpa using h); exact ⟨Sx, List.mem_cons_of_mem _ h⟩), (fun _ => ⟨_, List.mem_cons_self ..⟩), (fun h => by obtain ⟨Sx, h⟩ := g12 (by simpa using h); exact ⟨Sx, List.mem_cons_of_mem _ h⟩)⟩
          · obtain ⟨ts, FT, hs, g2, g5, g12⟩ := hst
            obtain ⟨S2, e2⟩ := g2 (hdep ⟨2, .data⟩ (by simp) rfl)
            obtain ⟨S5, e5⟩ := g5 (hdep ⟨5, .data⟩ (by simp) rfl)
            refine wp_called rfl (exec_call2 rfl rfl (eval_tmp (hgot 2 _ 50 rfl (hdep ⟨2, .data⟩ (by simp) rfl) rfl)) (eval_tmp (hgot 5 _ 53 rfl (hdep ⟨5, .data⟩ (by simp) rfl) rfl)) (enters_of Tryd.func15 (by kernel_rfl) rfl)) ((rsame_c _ _ _ _ _ _ true v (same_rfl _) (FT.ist e2) (FT.ist e5)).mono ?_)
            rintro e v' ⟨rfl, m⟩
            refine ⟨_, rfl, hK x _ _ (fun _ _ _ _ _ _ => rfl) (fun s hs => by cases hs; rfl) ?_⟩
            exact ⟨_, (by simpa using FT.call m), hs, (by simpa using g2), (by simpa using g5), (by simpa using g12)⟩
          · exact wp_ran rfl (exec_move rfl (eval_tmp (hgot 6 _ 54 rfl (hdep ⟨6, .data⟩ (by simp) rfl) rfl))) (hK x _ _ (fun _ _ _ _ _ _ => rfl) (fun s hs => by cases hs; rfl) (by simpa using hst))
          · exact wp_ranW (wanted_yes rfl rfl rfl (hgot 7 _ 55 rfl (hdep ⟨7, .guard⟩ (by simp) rfl) rfl)) (exec_fp26_0 rfl (eval_tmp ((hpar 5 rfl).trans rfl))) (hK x _ _ (fun _ _ _ _ _ _ => rfl) (fun s hs => by cases hs; rfl) (by simpa using hst))
          · obtain ⟨ts, FT, hts⟩ := hst
            have hL := (FT.blk 1 rfl).cell 0
            exact wp_ranW (wanted_yes rfl rfl rfl (hgot 7 _ 55 rfl (hdep ⟨7, .guard⟩ (by simp) rfl) rfl)) (exec_load rfl (eval_tmp (hgot 8 _ 56 rfl (hdep ⟨8, .data⟩ (by simp) rfl) rfl)) (run_load1 Tryd.underlying3 rfl hL)) (hK x _ _ (fun _ _ _ _ _ _ => rfl) (fun s hs => by cases hs; rfl) (by simpa using (show ∃ ts, _ from ⟨ts, FT, hts⟩)))
          · exact wp_ranW (wanted_yes rfl rfl rfl (hgot 7 _ 55 rfl (hdep ⟨7, .guard⟩ (by simp) rfl) rfl)) (exec_fp26_1 rfl (eval_tmp ((hpar 5 rfl).trans rfl))) (hK x _ _ (fun _ _ _ _ _ _ => rfl) (fun s hs => by cases hs; rfl) (by simpa using hst))
          · obtain ⟨ts, FT, hts⟩ := hst
            have hL := (FT.blk 1 rfl).cell 1
            exact wp_ranW (wanted_yes rfl rfl rfl (hgot 7 _ 55 rfl (hdep ⟨7, .guard⟩ (by simp) rfl) rfl)) (exec_load rfl (eval_tmp (hgot 10 _ 58 rfl (hdep ⟨10, .data⟩ (by simp) rfl) rfl)) (run_load1 Tryd.underlying3 rfl hL)) (hK x _ _ (fun _ _ _ _ _ _ => rfl) (fun s hs => by cases hs; rfl) (by simpa using (show ∃ ts, _ from ⟨ts, FT, hts⟩)))
          · obtain ⟨ts, FT, hs, g2, g5, g12⟩ := hst
            refine wp_calledW (wanted_yes rfl rfl rfl (hgot 7 _ 55 rfl (hdep ⟨7, .guard⟩ (by simp) rfl) rfl)) (exec_call2 rfl rfl (eval_tmp (hgot 9 _ 57 rfl (hdep ⟨9, .data⟩ (by simp) rfl) rfl)) (eval_tmp (hgot 11 _ 59 rfl (hdep ⟨11, .data⟩ (by simp) rfl) rfl)) (enters_of Tryd.func18 (by kernel_rfl) rfl)) ((fresh_c U N v).mono ?_)
            rintro e v' ⟨cs, rfl, hT, m⟩
            have FT' := FT.made m hT
            refine ⟨_, rfl, hK (fun i => if i = 12 then cs else x.1 i, x.2) _ _ (fun j' o' s' q1 q2 q3 => by
                have q4 : j' < 17 := (Array.getElem?_eq_some_iff.1 q1).1
                clear hpar hgot hdep hK
                obtain rfl | rfl | rfl | rfl | rfl | rfl | rfl | rfl | rfl | rfl | rfl | rfl | rfl | rfl | rfl | rfl | rfl : j' = 0 ∨ j' = 1 ∨ j' = 2 ∨ j' = 3 ∨ j' = 4 ∨ j' = 5 ∨ j' = 6 ∨ j' = 7 ∨ j' = 8 ∨ j' = 9 ∨ j' = 10 ∨ j' = 11 ∨ j' = 12 ∨ j' = 13 ∨ j' = 14 ∨ j' = 15 ∨ j' = 16 := by omega
                all_goals (cases q1; cases q3 <;> first | rfl | (rw [hlj] at q2; cases q2))) (fun s hs => by cases hs; rfl) ?_⟩
            refine ⟨_, (by simpa using FT'), (fun y hy => List.mem_cons_of_mem _ (hs hy)), (fun h => by obtain ⟨Sx, h⟩ := g2 (by simpa using h); exact ⟨Sx, List.mem_cons_of_mem _ h⟩), (fun h => by obtain ⟨Sx, h⟩ := g5 (by simpa using h); exact ⟨Sx, List.mem_cons_of_mem _ h⟩), (fun _ => ⟨_, List.mem_cons_self ..⟩)⟩
          · obtain ⟨ts, FT, hts⟩ := hst
            have hL := FT.blk 0 rfl
            exact wp_ranW (wanted_yes rfl rfl rfl (hgot 7 _ 55 rfl (hdep ⟨7, .guard⟩ (by simp) rfl) rfl)) (exec_load rfl (eval_tmp ((hpar 9 rfl).trans rfl)) (run_loads (Cells.of_holds hL) Tryd.underlying24 rfl (size24' (tmc_len _ _ _ _ _ _ _)))) (hK x _ _ (fun _ _ _ _ _ _ => rfl) (fun s hs => by cases hs; rfl) (by simpa using (show ∃ ts, _ from ⟨ts, FT, hts⟩)))
          · obtain ⟨ts, FT, hs, g2, g5, g12⟩ := hst
            obtain ⟨S12, e12⟩ := g12 (hdep ⟨12, .data⟩ (by simp) rfl)
            refine wp_calledW (wanted_yes rfl rfl rfl (hgot 7 _ 55 rfl (hdep ⟨7, .guard⟩ (by simp) rfl) rfl)) (exec_call2 rfl rfl (eval_tmp (hgot 12 _ 60 rfl (hdep ⟨12, .data⟩ (by simp) rfl) rfl)) (eval_tmp (hgot 13 _ 61 rfl (hdep ⟨13, .data⟩ (by simp) rfl) rfl)) (enters_of Tryd.func15 (by kernel_rfl) rfl)) ((rsame_c _ _ _ _ _ _ true v (same_rfl _) (FT.ist e12) (FT.ist (hs in7))).mono ?_)
            rintro e v' ⟨rfl, m⟩
            refine ⟨_, rfl, hK x _ _ (fun _ _ _ _ _ _ => rfl) (fun s hs => by cases hs; rfl) ?_⟩
            exact ⟨_, (by simpa using FT.call m), hs, (by simpa using g2), (by simpa using g5), (by simpa using g12)⟩
          · exact wp_ran rfl (exec_pick rfl (eval_tmp (hgot 7 _ 55 rfl (hdep ⟨7, .data⟩ (by simp) rfl) rfl)) (eval_tmp (hgot 14 _ 62 rfl (hdep ⟨14, .data⟩ (by simp) rfl) rfl)) rfl rfl) (hK x _ _ (fun _ _ _ _ _ _ => rfl) (fun s hs => by cases hs; rfl) (by simpa using hst))
          · exact wp_ran rfl (exec_assign rfl (eval_tmp (hgot 15 _ 63 rfl (hdep ⟨15, .data⟩ (by simp) rfl) rfl))) (hK x _ _ (fun _ _ _ _ _ _ => rfl) (fun s hs => by cases hs; rfl) (by simpa using hst))
        case fin =>
        intro x lz w44 hlz hst
        obtain ⟨ts, FT, hs, g2, g5, g12⟩ := hst
        obtain ⟨S44_2, e2⟩ := g2 (hlz 2 (by decide))
        obtain ⟨S44_5, e5⟩ := g5 (hlz 5 (by decide))
        obtain ⟨S44_12, e12⟩ := g12 (hlz 12 (by decide))
        obtain ⟨c44_2, hx2⟩ : ∃ c, c = x.1 2 := ⟨_, rfl⟩
        obtain ⟨c44_5, hx5⟩ : ∃ c, c = x.1 5 := ⟨_, rfl⟩
        obtain ⟨c44_12, hx12⟩ : ∃ c, c = x.1 12 := ⟨_, rfl⟩
        have F44 := FT.sub (ts' := [tT (Up w.heap.size) S44_2 ((.mk 1 0 0 s [])) (x.1 2), tT Any S44_5 ((.mk 1 0 0 s [])) (x.1 5), tT (Up w.heap.size) S44_12 ((.mk 2 U N ⟨#[]⟩ [])) (x.1 12)] ++ Ts44) (List.Sublist.refl _) (fun y hy => by
          rcases List.mem_append.1 hy with hy | hy
          · simp only [List.mem_cons, List.not_mem_nil, or_false] at hy
            rcases hy with rfl | rfl | rfl
            all_goals assumption
          · exact hs hy)
        rw [hTs44] at F44
        simp only [List.cons_append, List.nil_append] at F44
        have hc44_2 := (F44.tis 0 rfl).ones
        have hc44_5 := (F44.tis 1 rfl).ones
        have hc44_12 := (F44.tis 2 rfl).ones
        dsimp only [setAll, List.foldl_cons, List.foldl_nil, List.set_cons_succ, List.set_cons_zero]
        rw [← hx2] at F44 hc44_2 ⊢
        rw [← hx5] at F44 hc44_5 ⊢
        rw [← hx12] at F44 hc44_12 ⊢
        clear FT hs hlz hTs44 FZ e2 g2 hx2 e5 g5 hx5 e12 g12 hx12 in0 in1 in2 in3 in4 in5 in6 in7 in8 in9 FK5
        go_wp2_with fail
        obtain ⟨Ts45, hTs45, FZ⟩ := (F44.call (Mod.drew [] w44)).name
        have in0 := F44.mem 0 rfl
        have in1 := F44.mem 1 rfl
        have in2 := F44.mem 2 rfl
        have in3 := F44.mem 3 rfl
        have in4 := F44.mem 4 rfl
        have in5 := F44.mem 5 rfl
        have in6 := F44.mem 6 rfl
        have in7 := F44.mem 7 rfl
        have in8 := F44.mem 8 rfl
        have in9 := F44.mem 9 rfl
        have in10 := F44.mem 10 rfl
        have in11 := F44.mem 11 rfl
        have in12 := F44.mem 12 rfl
        rw [← hTs45] at in0
        rw [← hTs45] at in1
        rw [← hTs45] at in2
        rw [← hTs45] at in3
        rw [← hTs45] at in4
        rw [← hTs45] at in5
        rw [← hTs45] at in6
        rw [← hTs45] at in7
        rw [← hTs45] at in8
        rw [← hTs45] at in9
        rw [← hTs45] at in10
        rw [← hTs45] at in11
        rw [← hTs45] at in12
        refine wp_region_upxo (X := (Nat → List Value) × (Nat → Nat)) (fun _ => [], fun _ => 0) (fun x => [(64, .bool true), (65, .bool true), (66, .pointer (some ⟨b2, 0, none⟩)), (67, .int .i64 U), (68, .agg ((x.1 4)).toArray), (69, .pointer (some ⟨b2, 0, none⟩)), (70, .int .i64 U), (71, .agg (tmc (3) (U) 0 ⟨#[]⟩ none 0 0).toArray), (72, .bool true), (73, .bool true), (11, .bool true)]) 169 [64, 65, 66, 67, 68, 69, 70, 71, 72, 73, 11] rfl (fun _ => rfl) (by decide) (by kernel_rfl) (fun x lz v => ∃ ts, Fm w v [oB b41 24 (tmc (2) (U) (N) ⟨#[]⟩ none 0 0), oB b2 26 ([.int .i64 U, .int .i64 N, .string s]), oB b1 24 (ca)] ts ∧ Ts45 ⊆ ts ∧ (lz 4 = true → ∃ Sx, tT (Up w.heap.size) Sx ((.mk 3 U 0 ⟨#[]⟩ [])) (x.1 4) ∈ ts)) (by kernel_rfl) ⟨_, FZ, List.Subset.refl _, (fun h => by cases h)⟩ (by kernel_rfl) (by kernel_rfl) ?step ?fin
        case step =>
          intro x lz T v j o hj hlj hdep hst hpar hgot hcl hdf hold Kq hK
          have hjn : j < 11 := (Array.getElem?_eq_some_iff.1 hj).1
          obtain rfl | rfl | rfl | rfl | rfl | rfl | rfl | rfl | rfl | rfl | rfl : j = 0 ∨ j = 1 ∨ j = 2 ∨ j = 3 ∨ j = 4 ∨ j = 5 ∨ j = 6 ∨ j = 7 ∨ j = 8 ∨ j = 9 ∨ j = 10 := by omega
          all_goals (have hj' := Option.some.inj (hj : some _ = some o); subst hj'; clear hj)
          · have l10 : lz 10 = false := (by cases hh : lz 10 with | false => rfl | true => exact absurd (hcl 10 _ rfl hh ⟨0, .phase⟩ (by simp) rfl) (by rw [hlj]; simp))
            exact wp_ran rfl (exec_move rfl (eval_tmp ((hold 11 (fun j' o' g1 g2 g3 => by
              have g4 : j' < 11 := (Array.getElem?_eq_some_iff.1 g1).1
              clear hpar hgot hdep hK
              obtain rfl | rfl | rfl | rfl | rfl | rfl | rfl | rfl | rfl | rfl | rfl : j' = 0 ∨ j' = 1 ∨ j' = 2 ∨ j' = 3 ∨ j' = 4 ∨ j' = 5 ∨ j' = 6 ∨ j' = 7 ∨ j' = 8 ∨ j' = 9 ∨ j' = 10 := by omega
              all_goals (cases g1; first | (cases g3; done) | (rw [l10] at g2; cases g2)))).trans rfl))) (hK x _ _ (fun _ _ _ _ _ _ => rfl) (fun s hs => by cases hs; rfl) (by simpa using hst))
          · exact wp_ran rfl (exec_move rfl (eval_tmp (hgot 0 _ 64 rfl (hdep ⟨0, .data⟩ (by simp) rfl) rfl))) (hK x _ _ (fun _ _ _ _ _ _ => rfl) (fun s hs => by cases hs; rfl) (by simpa using hst))
          · exact wp_ranW (wanted_yes rfl rfl rfl (hgot 1 _ 65 rfl (hdep ⟨1, .guard⟩ (by simp) rfl) rfl)) (exec_fp26_0 rfl (eval_tmp ((hpar 5 rfl).trans rfl))) (hK x _ _ (fun _ _ _ _ _ _ => rfl) (fun s hs => by cases hs; rfl) (by simpa using hst))
          · obtain ⟨ts, FT, hts⟩ := hst
            have hL := (FT.blk 1 rfl).cell 0
            exact wp_ranW (wanted_yes rfl rfl rfl (hgot 1 _ 65 rfl (hdep ⟨1, .guard⟩ (by simp) rfl) rfl)) (exec_load rfl (eval_tmp (hgot 2 _ 66 rfl (hdep ⟨2, .data⟩ (by simp) rfl) rfl)) (run_load1 Tryd.underlying3 rfl hL)) (hK x _ _ (fun _ _ _ _ _ _ => rfl) (fun s hs => by cases hs; rfl) (by simpa using (show ∃ ts, _ from ⟨ts, FT, hts⟩)))
          · obtain ⟨ts, FT, hs, g4⟩ := hst
            refine wp_calledW (wanted_yes rfl rfl rfl (hgot 1 _ 65 rfl (hdep ⟨1, .guard⟩ (by simp) rfl) rfl)) (exec_call1 rfl rfl (eval_tmp (hgot 3 _ 67 rfl (hdep ⟨3, .data⟩ (by simp) rfl) rfl)) (enters_of Tryd.func19 (by kernel_rfl) rfl)) ((secret_c U v).mono ?_)
            rintro e v' ⟨cs, rfl, hT, m⟩
            have FT' := FT.made m hT
            refine ⟨_, rfl, hK (fun i => if i = 4 then cs else x.1 i, x.2) _ _ (fun j' o' s' q1 q2 q3 => by
                have q4 : j' < 11 := (Array.getElem?_eq_some_iff.1 q1).1
                clear hpar hgot hdep hK
                obtain rfl | rfl | rfl | rfl | rfl | rfl | rfl | rfl | rfl | rfl | rfl : j' = 0 ∨ j' = 1 ∨ j' = 2 ∨ j' = 3 ∨ j' = 4 ∨ j' = 5 ∨ j' = 6 ∨ j' = 7 ∨ j' = 8 ∨ j' = 9 ∨ j' = 10 := by omega
                all_goals (cases q1; cases q3 <;> first | rfl | (rw [hlj] at q2; cases q2))) (fun s hs => by cases hs; rfl) ?_⟩
            refine ⟨_, (by simpa using FT'), (fun y hy => List.mem_cons_of_mem _ (hs hy)), (fun _ => ⟨_, List.mem_cons_self ..⟩)⟩
          · exact wp_ranW (wanted_yes rfl rfl rfl (hgot 1 _ 65 rfl (hdep ⟨1, .guard⟩ (by simp) rfl) rfl)) (exec_fp26_0 rfl (eval_tmp ((hpar 5 rfl).trans rfl))) (hK x _ _ (fun _ _ _ _ _ _ => rfl) (fun s hs => by cases hs; rfl) (by simpa using hst))
          · obtain ⟨ts, FT, hts⟩ := hst
            have hL := (FT.blk 1 rfl).cell 0
            exact wp_ranW (wanted_yes rfl rfl rfl (hgot 1 _ 65 rfl (hdep ⟨1, .guard⟩ (by simp) rfl) rfl)) (exec_load rfl (eval_tmp (hgot 5 _ 69 rfl (hdep ⟨5, .data⟩ (by simp) rfl) rfl)) (run_load1 Tryd.underlying3 rfl hL)) (hK x _ _ (fun _ _ _ _ _ _ => rfl) (fun s hs => by cases hs; rfl) (by simpa using (show ∃ ts, _ from ⟨ts, FT, hts⟩)))
          · exact wp_ranW (wanted_yes rfl rfl rfl (hgot 1 _ 65 rfl (hdep ⟨1, .guard⟩ (by simp) rfl) rfl)) (exec_bD rfl rfl (eval_tmp (hgot 6 _ 70 rfl (hdep ⟨6, .data⟩ (by simp) rfl) rfl))) (hK x _ _ (fun _ _ _ _ _ _ => rfl) (fun s hs => by cases hs; rfl) (by simpa using hst))
          · obtain ⟨ts, FT, hs, g4⟩ := hst
            obtain ⟨S4, e4⟩ := g4 (hdep ⟨4, .data⟩ (by simp) rfl)
            refine wp_calledW (wanted_yes rfl rfl rfl (hgot 1 _ 65 rfl (hdep ⟨1, .guard⟩ (by simp) rfl) rfl)) (exec_call2 rfl rfl (eval_tmp (hgot 4 _ 68 rfl (hdep ⟨4, .data⟩ (by simp) rfl) rfl)) (eval_tmp (hgot 7 _ 71 rfl (hdep ⟨7, .data⟩ (by simp) rfl) rfl)) (enters_of Tryd.func15 (by kernel_rfl) rfl)) ((rsame_c _ _ _ _ _ _ true v (same_rfl _) (FT.ist e4) (FT.ist (hs in9))).mono ?_)
            rintro e v' ⟨rfl, m⟩
            refine ⟨_, rfl, hK x _ _ (fun _ _ _ _ _ _ => rfl) (fun s hs => by cases hs; rfl) ?_⟩
            exact ⟨_, (by simpa using FT.call m), hs, (by simpa using g4)⟩
          · exact wp_ran rfl (exec_pick rfl (eval_tmp (hgot 1 _ 65 rfl (hdep ⟨1, .data⟩ (by simp) rfl) rfl)) (eval_tmp (hgot 8 _ 72 rfl (hdep ⟨8, .data⟩ (by simp) rfl) rfl)) rfl rfl) (hK x _ _ (fun _ _ _ _ _ _ => rfl) (fun s hs => by cases hs; rfl) (by simpa using hst))
          · exact wp_ran rfl (exec_assign rfl (eval_tmp (hgot 9 _ 73 rfl (hdep ⟨9, .data⟩ (by simp) rfl) rfl))) (hK x _ _ (fun _ _ _ _ _ _ => rfl) (fun s hs => by cases hs; rfl) (by simpa using hst))
        case fin =>
        intro x lz w45 hlz hst
        obtain ⟨ts, FT, hs, g4⟩ := hst
        obtain ⟨S45_4, e4⟩ := g4 (hlz 4 (by decide))
        obtain ⟨c45_4, hx4⟩ : ∃ c, c = x.1 4 := ⟨_, rfl⟩
        have F45 := FT.sub (ts' := [tT (Up w.heap.size) S45_4 ((.mk 3 U 0 ⟨#[]⟩ [])) (x.1 4)] ++ Ts45) (List.Sublist.refl _) (fun y hy => by
          rcases List.mem_append.1 hy with hy | hy
          · simp only [List.mem_cons, List.not_mem_nil, or_false] at hy
            rcases hy with rfl
            all_goals assumption
          · exact hs hy)
        rw [hTs45] at F45
        simp only [List.cons_append, List.nil_append] at F45
        have hc45_4 := (F45.tis 0 rfl).ones
        dsimp only [setAll, List.foldl_cons, List.foldl_nil, List.set_cons_succ, List.set_cons_zero]
        rw [← hx4] at F45 hc45_4 ⊢
        clear FT hs hlz hTs45 FZ e4 g4 hx4 in0 in1 in2 in3 in4 in5 in6 in7 in8 in9 in10 in11 in12 F44
        go_wp2_with fail
        obtain ⟨Ts46, hTs46, FZ⟩ := (F45.call (Mod.drew [] w45)).name
        have in0 := F45.mem 0 rfl
        have in1 := F45.mem 1 rfl
        have in2 := F45.mem 2 rfl
        have in3 := F45.mem 3 rfl
        have in4 := F45.mem 4 rfl
        have in5 := F45.mem 5 rfl
        have in6 := F45.mem 6 rfl
        have in7 := F45.mem 7 rfl
        have in8 := F45.mem 8 rfl
        have in9 := F45.mem 9 rfl
        have in10 := F45.mem 10 rfl
        have in11 := F45.mem 11 rfl
        have in12 := F45.mem 12 rfl
        have in13 := F45.mem 13 rfl
        rw [← hTs46] at in0
        rw [← hTs46] at in1
        rw [← hTs46] at in2
        rw [← hTs46] at in3
        rw [← hTs46] at in4
        rw [← hTs46] at in5
        rw [← hTs46] at in6
        rw [← hTs46] at in7
        rw [← hTs46] at in8
        rw [← hTs46] at in9
        rw [← hTs46] at in10
        rw [← hTs46] at in11
        rw [← hTs46] at in12
        rw [← hTs46] at in13
        refine wp_region_upxo (X := (Nat → List Value) × (Nat → Nat)) (fun _ => [], fun _ => 0) (fun x => [(74, .bool true), (75, .bool true), (76, .agg (ca).toArray), (77, .agg (tmc (2) (U) (N) ⟨#[]⟩ none 0 0).toArray), (78, .agg ((x.1 4)).toArray), (79, .agg (ca).toArray), (80, .agg (tmc (2) (U) (N) ⟨#[]⟩ none 0 0).toArray), (81, .agg ((x.1 7)).toArray), (82, .bool true), (83, .bool true), (84, .bool true), (85, .agg (ca).toArray), (86, .agg (tmc (2) (U) (N) ⟨#[]⟩ none 0 0).toArray), (87, .agg ((x.1 13)).toArray), (88, .slice (some ⟨g43, 0, none⟩) 2 2), (89, .agg (tmc (6) 0 0 ⟨#[]⟩ (some ⟨g43, 0, none⟩) 2 2).toArray), (90, .bool true), (91, .bool true), (11, .bool true)]) 169 [74, 75, 76, 77, 78, 79, 80, 81, 82, 83, 84, 85, 86, 87, 88, 89, 90, 91, 11] rfl (fun _ => rfl) (by decide) (by kernel_rfl) (fun x lz v => ∃ ts, Fm w v [oB b41 24 (tmc (2) (U) (N) ⟨#[]⟩ none 0 0), oB b2 26 ([.int .i64 U, .int .i64 N, .string s]), oB b1 24 (ca)] ts ∧ Ts46 ⊆ ts ∧ (lz 4 = true → ∃ Sx, tT (Up w.heap.size) Sx ((.mk 4 0 0 ⟨#[]⟩ [t, (.mk 2 U N ⟨#[]⟩ [])])) (x.1 4) ∈ ts) ∧ (lz 7 = true → ∃ Sx, tT Any Sx ((.mk 4 0 0 ⟨#[]⟩ [t, (.mk 2 U N ⟨#[]⟩ [])])) (x.1 7) ∈ ts) ∧ (lz 13 = true → ∃ Sx, tT (Up w.heap.size) Sx ((.mk 6 0 0 ⟨#[]⟩ [t, (.mk 2 U N ⟨#[]⟩ [])])) (x.1 13) ∈ ts)) (by kernel_rfl) ⟨_, FZ, List.Subset.refl _, (fun h => by cases h), (fun h => by cases h), (fun h => by cases h)⟩ (by kernel_rfl) (by kernel_rfl) ?step ?fin
        case step =>
          intro x lz T v j o hj hlj hdep hst hpar hgot hcl hdf hold Kq hK
          have hjn : j < 19 := (Array.getElem?_eq_some_iff.1 hj).1
          obtain rfl | rfl | rfl | rfl | rfl | rfl | rfl | rfl | rfl | rfl | rfl | rfl | rfl | rfl | rfl | rfl | rfl | rfl | rfl : j = 0 ∨ j = 1 ∨ j = 2 ∨ j = 3 ∨ j = 4 ∨ j = 5 ∨ j = 6 ∨ j = 7 ∨ j = 8 ∨ j = 9 ∨ j = 10 ∨ j = 11 ∨ j = 12 ∨ j = 13 ∨ j = 14 ∨ j = 15 ∨ j = 16 ∨ j = 17 ∨ j = 18 := by omega
          all_goals (have hj' := Option.some.inj (hj : some _ = some o); subst hj'; clear hj)
          · have l18 : lz 18 = false := (by cases hh : lz 18 with | false => rfl | true => exact absurd (hcl 18 _ rfl hh ⟨0, .phase⟩ (by simp) rfl) (by rw [hlj]; simp))
            exact wp_ran rfl (exec_move rfl (eval_tmp ((hold 11 (fun j' o' g1 g2 g3 => by
              have g4 : j' < 19 := (Array.getElem?_eq_some_iff.1 g1).1
              clear hpar hgot hdep hK
              obtain rfl | rfl | rfl | rfl | rfl | rfl | rfl | rfl | rfl | rfl | rfl | rfl | rfl | rfl | rfl | rfl | rfl | rfl | rfl : j' = 0 ∨ j' = 1 ∨ j' = 2 ∨ j' = 3 ∨ j' = 4 ∨ j' = 5 ∨ j' = 6 ∨ j' = 7 ∨ j' = 8 ∨ j' = 9 ∨ j' = 10 ∨ j' = 11 ∨ j' = 12 ∨ j' = 13 ∨ j' = 14 ∨ j' = 15 ∨ j' = 16 ∨ j' = 17 ∨ j' = 18 := by omega
              all_goals (cases g1; first | (cases g3; done) | (rw [l18] at g2; cases g2)))).trans rfl))) (hK x _ _ (fun _ _ _ _ _ _ => rfl) (fun s hs => by cases hs; rfl) (by simpa using hst))
          · exact wp_ran rfl (exec_move rfl (eval_tmp (hgot 0 _ 74 rfl (hdep ⟨0, .data⟩ (by simp) rfl) rfl))) (hK x _ _ (fun _ _ _ _ _ _ => rfl) (fun s hs => by cases hs; rfl) (by simpa using hst))
          · obtain ⟨ts, FT, hts⟩ := hst
            have hL := FT.blk 2 rfl
            exact wp_ranW (wanted_yes rfl rfl rfl (hgot 1 _ 75 rfl (hdep ⟨1, .guard⟩ (by simp) rfl) rfl)) (exec_load rfl (eval_tmp ((hpar 4 rfl).trans rfl)) (run_loads (Cells.of_holds hL) Tryd.underlying24 rfl (size24' hca.1))) (hK x _ _ (fun _ _ _ _ _ _ => rfl) (fun s hs => by cases hs; rfl) (by simpa using (show ∃ ts, _ from ⟨ts, FT, hts⟩)))
          · obtain ⟨ts, FT, hts⟩ := hst
            have hL := FT.blk 0 rfl
            exact wp_ranW (wanted_yes rfl rfl rfl (hgot 1 _ 75 rfl (hdep ⟨1, .guard⟩ (by simp) rfl) rfl)) (exec_load rfl (eval_tmp ((hpar 9 rfl).trans rfl)) (run_loads (Cells.of_holds hL) Tryd.underlying24 rfl (size24' (tmc_len _ _ _ _ _ _ _)))) (hK x _ _ (fun _ _ _ _ _ _ => rfl) (fun s hs => by cases hs; rfl) (by simpa using (show ∃ ts, _ from ⟨ts, FT, hts⟩)))
          · obtain ⟨ts, FT, hs, g4, g7, g13⟩ := hst
            refine wp_calledW (wanted_yes rfl rfl rfl (hgot 1 _ 75 rfl (hdep ⟨1, .guard⟩ (by simp) rfl) rfl)) (exec_call2 rfl rfl (eval_tmp (hgot 2 _ 76 rfl (hdep ⟨2, .data⟩ (by simp) rfl) rfl)) (eval_tmp (hgot 3 _ 77 rfl (hdep ⟨3, .data⟩ (by simp) rfl) rfl)) (enters_of Tryd.func20 (by kernel_rfl) rfl)) ((pair_c _ _ _ _ _ _ v (FT.ist (hs in12)) (FT.ist (hs in11))).mono ?_)
            rintro e v' ⟨cs, rfl, hT, m⟩
            have FT' := FT.made m hT
            refine ⟨_, rfl, hK (fun i => if i = 4 then cs else x.1 i, x.2) _ _ (fun j' o' s' q1 q2 q3 => by
                have q4 : j' < 19 := (Array.getElem?_eq_some_iff.1 q1).1
                clear hpar hgot hdep hK
                obtain rfl | rfl | rfl | rfl | rfl | rfl | rfl | rfl | rfl | rfl | rfl | rfl | rfl | rfl | rfl | rfl | rfl | rfl | rfl : j' = 0 ∨ j' = 1 ∨ j' = 2 ∨ j' = 3 ∨ j' = 4 ∨ j' = 5 ∨ j' = 6 ∨ j' = 7 ∨ j' = 8 ∨ j' = 9 ∨ j' = 10 ∨ j' = 11 ∨ j' = 12 ∨ j' = 13 ∨ j' = 14 ∨ j' = 15 ∨ j' = 16 ∨ j' = 17 ∨ j' = 18 := by omega
                all_goals (cases q1; cases q3 <;> first | rfl | (rw [hlj] at q2; cases q2))) (fun s hs => by cases hs; rfl) ?_⟩
            refine ⟨_, (by simpa using FT'), (fun y hy => List.mem_cons_of_mem _ (hs hy)), (fun _ => ⟨_, List.mem_cons_self ..⟩), (fun h => by obtain ⟨Sx, h⟩ := g7 (by simpa using h); exact ⟨Sx, List.mem_cons_of_mem _ h⟩), (fun h => by obtain ⟨Sx, h⟩ := g13 (by simpa using h); exact ⟨Sx, List.mem_cons_of_mem _ h⟩)⟩
          · obtain ⟨ts, FT, hts⟩ := hst
            have hL := FT.blk 2 rfl
            exact wp_ranW (wanted_yes rfl rfl rfl (hgot 1 _ 75 rfl (hdep ⟨1, .guard⟩ (by simp) rfl) rfl)) (exec_load rfl (eval_tmp ((hpar 4 rfl).trans rfl)) (run_loads (Cells.of_holds hL) Tryd.underlying24 rfl (size24' hca.1))) (hK x _ _ (fun _ _ _ _ _ _ => rfl) (fun s hs => by cases hs; rfl) (by simpa using (show ∃ ts, _ from ⟨ts, FT, hts⟩)))
          · obtain ⟨ts, FT, hts⟩ := hst
            have hL := FT.blk 0 rfl
            exact wp_ranW (wanted_yes rfl rfl rfl (hgot 1 _ 75 rfl (hdep ⟨1, .guard⟩ (by simp) rfl) rfl)) (exec_load rfl (eval_tmp ((hpar 9 rfl).trans rfl)) (run_loads (Cells.of_holds hL) Tryd.underlying24 rfl (size24' (tmc_len _ _ _ _ _ _ _)))) (hK x _ _ (fun _ _ _ _ _ _ => rfl) (fun s hs => by cases hs; rfl) (by simpa using (show ∃ ts, _ from ⟨ts, FT, hts⟩)))
          · obtain ⟨ts, FT, hs, g4, g7, g13⟩ := hst
            refine wp_calledW (wanted_yes rfl rfl rfl (hgot 1 _ 75 rfl (hdep ⟨1, .guard⟩ (by simp) rfl) rfl)) (exec_call2 rfl rfl (eval_tmp (hgot 5 _ 79 rfl (hdep ⟨5, .data⟩ (by simp) rfl) rfl)) (eval_tmp (hgot 6 _ 80 rfl (hdep ⟨6, .data⟩ (by simp) rfl) rfl)) (enters_of Tryd.func21 (by kernel_rfl) rfl)) ((rpair_c _ _ _ _ _ _ (fun g => ∃ y ∈ ts, y.1 g) v (FT.ist (hs in12)) (FT.ist (hs in11)) (FT.ltm (hs in12)) (FT.ltm (hs in11)) (fun g hg => ⟨_, (hs in12), hg⟩) (fun g hg => ⟨_, (hs in11), hg⟩)).mono ?_)
            rintro e v' ⟨cs, rfl, hT, m⟩
            obtain ⟨S', FT'⟩ := FT.madeR m hT (fun g hg => hg) (L := Any) (fun _ _ => trivial) (fun _ _ => trivial)
            refine ⟨_, rfl, hK (fun i => if i = 7 then cs else x.1 i, x.2) _ _ (fun j' o' s' q1 q2 q3 => by
                have q4 : j' < 19 := (Array.getElem?_eq_some_iff.1 q1).1
                clear hpar hgot hdep hK
                obtain rfl | rfl | rfl | rfl | rfl | rfl | rfl | rfl | rfl | rfl | rfl | rfl | rfl | rfl | rfl | rfl | rfl | rfl | rfl : j' = 0 ∨ j' = 1 ∨ j' = 2 ∨ j' = 3 ∨ j' = 4 ∨ j' = 5 ∨ j' = 6 ∨ j' = 7 ∨ j' = 8 ∨ j' = 9 ∨ j' = 10 ∨ j' = 11 ∨ j' = 12 ∨ j' = 13 ∨ j' = 14 ∨ j' = 15 ∨ j' = 16 ∨ j' = 17 ∨ j' = 18 := by omega
                all_goals (cases q1; cases q3 <;> first | rfl | (rw [hlj] at q2; cases q2))) (fun s hs => by cases hs; rfl) ?_⟩
            refine ⟨_, (by simpa using FT'), (fun y hy => List.mem_cons_of_mem _ (hs hy)), (fun h => by obtain ⟨Sx, h⟩ := g4 (by simpa using h); exact ⟨Sx, List.mem_cons_of_mem _ h⟩), (fun _ => ⟨_, List.mem_cons_self ..⟩), (fun h => by obtain ⟨Sx, h⟩ := g13 (by simpa using h); exact ⟨Sx, List.mem_cons_of_mem _ h⟩)⟩
          · obtain ⟨ts, FT, hs, g4, g7, g13⟩ := hst
            obtain ⟨S4, e4⟩ := g4 (hdep ⟨4, .data⟩ (by simp) rfl)
            obtain ⟨S7, e7⟩ := g7 (hdep ⟨7, .data⟩ (by simp) rfl)
            refine wp_calledW (wanted_yes rfl rfl rfl (hgot 1 _ 75 rfl (hdep ⟨1, .guard⟩ (by simp) rfl) rfl)) (exec_call2 rfl rfl (eval_tmp (hgot 4 _ 78 rfl (hdep ⟨4, .data⟩ (by simp) rfl) rfl)) (eval_tmp (hgot 7 _ 81 rfl (hdep ⟨7, .data⟩ (by simp) rfl) rfl)) (enters_of Tryd.func15 (by kernel_rfl) rfl)) ((rsame_c _ _ _ _ _ _ true v (same_rfl _) (FT.ist e4) (FT.ist e7)).mono ?_)
            rintro e v' ⟨rfl, m⟩
            refine ⟨_, rfl, hK x _ _ (fun _ _ _ _ _ _ => rfl) (fun s hs => by cases hs; rfl) ?_⟩
            exact ⟨_, (by simpa using FT.call m), hs, (by simpa using g4), (by simpa using g7), (by simpa using g13)⟩
          · exact wp_ran rfl (exec_pick rfl (eval_tmp (hgot 1 _ 75 rfl (hdep ⟨1, .data⟩ (by simp) rfl) rfl)) (eval_tmp (hgot 8 _ 82 rfl (hdep ⟨8, .data⟩ (by simp) rfl) rfl)) rfl rfl) (hK x _ _ (fun _ _ _ _ _ _ => rfl) (fun s hs => by cases hs; rfl) (by simpa using hst))
          · exact wp_ran rfl (exec_move rfl (eval_tmp (hgot 9 _ 83 rfl (hdep ⟨9, .data⟩ (by simp) rfl) rfl))) (hK x _ _ (fun _ _ _ _ _ _ => rfl) (fun s hs => by cases hs; rfl) (by simpa using hst))
          · obtain ⟨ts, FT, hts⟩ := hst
            have hL := FT.blk 2 rfl
            exact wp_ranW (wanted_yes rfl rfl rfl (hgot 10 _ 84 rfl (hdep ⟨10, .guard⟩ (by simp) rfl) rfl)) (exec_load rfl (eval_tmp ((hpar 4 rfl).trans rfl)) (run_loads (Cells.of_holds hL) Tryd.underlying24 rfl (size24' hca.1))) (hK x _ _ (fun _ _ _ _ _ _ => rfl) (fun s hs => by cases hs; rfl) (by simpa using (show ∃ ts, _ from ⟨ts, FT, hts⟩)))
          · obtain ⟨ts, FT, hts⟩ := hst
            have hL := FT.blk 0 rfl
            exact wp_ranW (wanted_yes rfl rfl rfl (hgot 10 _ 84 rfl (hdep ⟨10, .guard⟩ (by simp) rfl) rfl)) (exec_load rfl (eval_tmp ((hpar 9 rfl).trans rfl)) (run_loads (Cells.of_holds hL) Tryd.underlying24 rfl (size24' (tmc_len _ _ _ _ _ _ _)))) (hK x _ _ (fun _ _ _ _ _ _ => rfl) (fun s hs => by cases hs; rfl) (by simpa using (show ∃ ts, _ from ⟨ts, FT, hts⟩)))
          · obtain ⟨ts, FT, hs, g4, g7, g13⟩ := hst
            refine wp_calledW (wanted_yes rfl rfl rfl (hgot 10 _ 84 rfl (hdep ⟨10, .guard⟩ (by simp) rfl) rfl)) (exec_call2 rfl rfl (eval_tmp (hgot 11 _ 85 rfl (hdep ⟨11, .data⟩ (by simp) rfl) rfl)) (eval_tmp (hgot 12 _ 86 rfl (hdep ⟨12, .data⟩ (by simp) rfl) rfl)) (enters_of Tryd.func22 (by kernel_rfl) rfl)) ((lock_c _ _ _ _ _ _ v (FT.ist (hs in12)) (FT.ist (hs in11))).mono ?_)
            rintro e v' ⟨cs, rfl, hT, m⟩
            have FT' := FT.made m hT
            refine ⟨_, rfl, hK (fun i => if i = 13 then cs else x.1 i, x.2) _ _ (fun j' o' s' q1 q2 q3 => by
                have q4 : j' < 19 := (Array.getElem?_eq_some_iff.1 q1).1
                clear hpar hgot hdep hK
                obtain rfl | rfl | rfl | rfl | rfl | rfl | rfl | rfl | rfl | rfl | rfl | rfl | rfl | rfl | rfl | rfl | rfl | rfl | rfl : j' = 0 ∨ j' = 1 ∨ j' = 2 ∨ j' = 3 ∨ j' = 4 ∨ j' = 5 ∨ j' = 6 ∨ j' = 7 ∨ j' = 8 ∨ j' = 9 ∨ j' = 10 ∨ j' = 11 ∨ j' = 12 ∨ j' = 13 ∨ j' = 14 ∨ j' = 15 ∨ j' = 16 ∨ j' = 17 ∨ j' = 18 := by omega
                all_goals (cases q1; cases q3 <;> first | rfl | (rw [hlj] at q2; cases q2))) (fun s hs => by cases hs; rfl) ?_⟩
            refine ⟨_, (by simpa using FT'), (fun y hy => List.mem_cons_of_mem _ (hs hy)), (fun h => by obtain ⟨Sx, h⟩ := g4 (by simpa using h); exact ⟨Sx, List.mem_cons_of_mem _ h⟩), (fun h => by obtain ⟨Sx, h⟩ := g7 (by simpa using h); exact ⟨Sx, List.mem_cons_of_mem _ h⟩), (fun _ => ⟨_, List.mem_cons_self ..⟩)⟩
          · exact wp_ranW (wanted_yes rfl rfl rfl (hgot 10 _ 84 rfl (hdep ⟨10, .guard⟩ (by simp) rfl) rfl)) (exec_move rfl (eval_tmp ((hpar 10 rfl).trans rfl))) (hK x _ _ (fun _ _ _ _ _ _ => rfl) (fun s hs => by cases hs; rfl) (by simpa using hst))
          · exact wp_ranW (wanted_yes rfl rfl rfl (hgot 10 _ 84 rfl (hdep ⟨10, .guard⟩ (by simp) rfl) rfl)) (exec_bH rfl rfl (eval_tmp (hgot 14 _ 88 rfl (hdep ⟨14, .data⟩ (by simp) rfl) rfl))) (hK x _ _ (fun _ _ _ _ _ _ => rfl) (fun s hs => by cases hs; rfl) (by simpa using hst))
          · obtain ⟨ts, FT, hs, g4, g7, g13⟩ := hst
            obtain ⟨S13, e13⟩ := g13 (hdep ⟨13, .data⟩ (by simp) rfl)
            refine wp_calledW (wanted_yes rfl rfl rfl (hgot 10 _ 84 rfl (hdep ⟨10, .guard⟩ (by simp) rfl) rfl)) (exec_call2 rfl rfl (eval_tmp (hgot 13 _ 87 rfl (hdep ⟨13, .data⟩ (by simp) rfl) rfl)) (eval_tmp (hgot 15 _ 89 rfl (hdep ⟨15, .data⟩ (by simp) rfl) rfl)) (enters_of Tryd.func15 (by kernel_rfl) rfl)) ((rsame_c _ _ _ _ _ _ true v (same_rfl _) (FT.ist e13) (FT.ist (hs in4))).mono ?_)
            rintro e v' ⟨rfl, m⟩
            refine ⟨_, rfl, hK x _ _ (fun _ _ _ _ _ _ => rfl) (fun s hs => by cases hs; rfl) ?_⟩
            exact ⟨_, (by simpa using FT.call m), hs, (by simpa using g4), (by simpa using g7), (by simpa using g13)⟩
          · exact wp_ran rfl (exec_pick rfl (eval_tmp (hgot 10 _ 84 rfl (hdep ⟨10, .data⟩ (by simp) rfl) rfl)) (eval_tmp (hgot 16 _ 90 rfl (hdep ⟨16, .data⟩ (by simp) rfl) rfl)) rfl rfl) (hK x _ _ (fun _ _ _ _ _ _ => rfl) (fun s hs => by cases hs; rfl) (by simpa using hst))
          · exact wp_ran rfl (exec_assign rfl (eval_tmp (hgot 17 _ 91 rfl (hdep ⟨17, .data⟩ (by simp) rfl) rfl))) (hK x _ _ (fun _ _ _ _ _ _ => rfl) (fun s hs => by cases hs; rfl) (by simpa using hst))
        case fin =>
        intro x lz w46 hlz hst
        obtain ⟨ts, FT, hs, g4, g7, g13⟩ := hst
        obtain ⟨S46_4, e4⟩ := g4 (hlz 4 (by decide))
        obtain ⟨S46_7, e7⟩ := g7 (hlz 7 (by decide))
        obtain ⟨S46_13, e13⟩ := g13 (hlz 13 (by decide))
        obtain ⟨c46_4, hx4⟩ : ∃ c, c = x.1 4 := ⟨_, rfl⟩
        obtain ⟨c46_7, hx7⟩ : ∃ c, c = x.1 7 := ⟨_, rfl⟩
        obtain ⟨c46_13, hx13⟩ : ∃ c, c = x.1 13 := ⟨_, rfl⟩
        have F46 := FT.sub (ts' := [tT (Up w.heap.size) S46_4 ((.mk 4 0 0 ⟨#[]⟩ [t, (.mk 2 U N ⟨#[]⟩ [])])) (x.1 4), tT Any S46_7 ((.mk 4 0 0 ⟨#[]⟩ [t, (.mk 2 U N ⟨#[]⟩ [])])) (x.1 7), tT (Up w.heap.size) S46_13 ((.mk 6 0 0 ⟨#[]⟩ [t, (.mk 2 U N ⟨#[]⟩ [])])) (x.1 13)] ++ Ts46) (List.Sublist.refl _) (fun y hy => by
          rcases List.mem_append.1 hy with hy | hy
          · simp only [List.mem_cons, List.not_mem_nil, or_false] at hy
            rcases hy with rfl | rfl | rfl
            all_goals assumption
          · exact hs hy)
        rw [hTs46] at F46
        simp only [List.cons_append, List.nil_append] at F46
        have hc46_4 := (F46.tis 0 rfl).ones
        have hc46_7 := (F46.tis 1 rfl).ones
        have hc46_13 := (F46.tis 2 rfl).ones
        dsimp only [setAll, List.foldl_cons, List.foldl_nil, List.set_cons_succ, List.set_cons_zero]
        rw [← hx4] at F46 hc46_4 ⊢
        rw [← hx7] at F46 hc46_7 ⊢
        rw [← hx13] at F46 hc46_13 ⊢
        clear FT hs hlz hTs46 FZ e4 g4 hx4 e7 g7 hx7 e13 g13 hx13 in0 in1 in2 in3 in4 in5 in6 in7 in8 in9 in10 in11 in12 in13 F45
        have F47 := F46.term (F46.mem 12 rfl) (6) 0 0 ⟨#[]⟩ 2 2 rfl (by decide) (by decide) (by decide)
        clear F46
        go_wp2_with fail
        obtain ⟨Ts48, hTs48, FZ⟩ := (F47.call (Mod.drew [] w46)).name
        have in0 := F47.mem 0 rfl
        have in1 := F47.mem 1 rfl
        have in2 := F47.mem 2 rfl
        have in3 := F47.mem 3 rfl
        have in4 := F47.mem 4 rfl
        have in5 := F47.mem 5 rfl
        have in6 := F47.mem 6 rfl
        have in7 := F47.mem 7 rfl
        have in8 := F47.mem 8 rfl
        have in9 := F47.mem 9 rfl
        have in10 := F47.mem 10 rfl
        have in11 := F47.mem 11 rfl
        have in12 := F47.mem 12 rfl
        have in13 := F47.mem 13 rfl
        have in14 := F47.mem 14 rfl
        have in15 := F47.mem 15 rfl
        have in16 := F47.mem 16 rfl
        have in17 := F47.mem 17 rfl
        rw [← hTs48] at in0
        rw [← hTs48] at in1
        rw [← hTs48] at in2
        rw [← hTs48] at in3
        rw [← hTs48] at in4
        rw [← hTs48] at in5
        rw [← hTs48] at in6
        rw [← hTs48] at in7
        rw [← hTs48] at in8
        rw [← hTs48] at in9
        rw [← hTs48] at in10
        rw [← hTs48] at in11
        rw [← hTs48] at in12
        rw [← hTs48] at in13
        rw [← hTs48] at in14
        rw [← hTs48] at in15
        rw [← hTs48] at in16
        rw [← hTs48] at in17
        refine wp_region_upxo (X := (Nat → List Value) × (Nat → Nat)) (fun _ => [], fun _ => 0) (fun x => [(92, .bool true), (93, .bool true), (94, .agg (ca).toArray), (95, .agg ((x.1 3)).toArray), (96, .slice (some ⟨g43, 0, none⟩) 2 2), (97, .slice (some ⟨g43, 0, none⟩) 1 2), (98, .agg (tmc (5) 0 0 ⟨#[]⟩ (some ⟨g43, 0, none⟩) 1 2).toArray), (99, .bool true), (100, .bool true), (11, .bool true)]) 169 [92, 93, 94, 95, 96, 97, 98, 99, 100, 11] rfl (fun _ => rfl) (by decide) (by kernel_rfl) (fun x lz v => ∃ ts, Fm w v [oB b41 24 (tmc (2) (U) (N) ⟨#[]⟩ none 0 0), oB b2 26 ([.int .i64 U, .int .i64 N, .string s]), oB b1 24 (ca)] ts ∧ Ts48 ⊆ ts ∧ (lz 3 = true → ∃ Sx, tT (Up w.heap.size) Sx ((.mk 5 0 0 ⟨#[]⟩ [t])) (x.1 3) ∈ ts)) (by kernel_rfl) ⟨_, FZ, List.Subset.refl _, (fun h => by cases h)⟩ (by kernel_rfl) (by kernel_rfl) ?step ?fin
        case step =>
          intro x lz T v j o hj hlj hdep hst hpar hgot hcl hdf hold Kq hK
          have hjn : j < 10 := (Array.getElem?_eq_some_iff.1 hj).1
          obtain rfl | rfl | rfl | rfl | rfl | rfl | rfl | rfl | rfl | rfl : j = 0 ∨ j = 1 ∨ j = 2 ∨ j = 3 ∨ j = 4 ∨ j = 5 ∨ j = 6 ∨ j = 7 ∨ j = 8 ∨ j = 9 := by omega
          all_goals (have hj' := Option.some.inj (hj : some _ = some o); subst hj'; clear hj)
          · have l9 : lz 9 = false := (by cases hh : lz 9 with | false => rfl | true => exact absurd (hcl 9 _ rfl hh ⟨0, .phase⟩ (by simp) rfl) (by rw [hlj]; simp))
            exact wp_ran rfl (exec_move rfl (eval_tmp ((hold 11 (fun j' o' g1 g2 g3 => by
              have g4 : j' < 10 := (Array.getElem?_eq_some_iff.1 g1).1
              clear hpar hgot hdep hK
              obtain rfl | rfl | rfl | rfl | rfl | rfl | rfl | rfl | rfl | rfl : j' = 0 ∨ j' = 1 ∨ j' = 2 ∨ j' = 3 ∨ j' = 4 ∨ j' = 5 ∨ j' = 6 ∨ j' = 7 ∨ j' = 8 ∨ j' = 9 := by omega
              all_goals (cases g1; first | (cases g3; done) | (rw [l9] at g2; cases g2)))).trans rfl))) (hK x _ _ (fun _ _ _ _ _ _ => rfl) (fun s hs => by cases hs; rfl) (by simpa using hst))
          · exact wp_ran rfl (exec_move rfl (eval_tmp (hgot 0 _ 92 rfl (hdep ⟨0, .data⟩ (by simp) rfl) rfl))) (hK x _ _ (fun _ _ _ _ _ _ => rfl) (fun s hs => by cases hs; rfl) (by simpa using hst))
          · obtain ⟨ts, FT, hts⟩ := hst
            have hL := FT.blk 2 rfl
            exact wp_ranW (wanted_yes rfl rfl rfl (hgot 1 _ 93 rfl (hdep ⟨1, .guard⟩ (by simp) rfl) rfl)) (exec_load rfl (eval_tmp ((hpar 4 rfl).trans rfl)) (run_loads (Cells.of_holds hL) Tryd.underlying24 rfl (size24' hca.1))) (hK x _ _ (fun _ _ _ _ _ _ => rfl) (fun s hs => by cases hs; rfl) (by simpa using (show ∃ ts, _ from ⟨ts, FT, hts⟩)))
          · obtain ⟨ts, FT, hs, g3⟩ := hst
            refine wp_calledW (wanted_yes rfl rfl rfl (hgot 1 _ 93 rfl (hdep ⟨1, .guard⟩ (by simp) rfl) rfl)) (exec_call1 rfl rfl (eval_tmp (hgot 2 _ 94 rfl (hdep ⟨2, .data⟩ (by simp) rfl) rfl)) (enters_of Tryd.func23 (by kernel_rfl) rfl)) ((hash_c _ _ _ v (FT.ist (hs in16))).mono ?_)
            rintro e v' ⟨cs, rfl, hT, m⟩
            have FT' := FT.made m hT
            refine ⟨_, rfl, hK (fun i => if i = 3 then cs else x.1 i, x.2) _ _ (fun j' o' s' q1 q2 q3 => by
                have q4 : j' < 10 := (Array.getElem?_eq_some_iff.1 q1).1
                clear hpar hgot hdep hK
                obtain rfl | rfl | rfl | rfl | rfl | rfl | rfl | rfl | rfl | rfl : j' = 0 ∨ j' = 1 ∨ j' = 2 ∨ j' = 3 ∨ j' = 4 ∨ j' = 5 ∨ j' = 6 ∨ j' = 7 ∨ j' = 8 ∨ j' = 9 := by omega
                all_goals (cases q1; cases q3 <;> first | rfl | (rw [hlj] at q2; cases q2))) (fun s hs => by cases hs; rfl) ?_⟩
            refine ⟨_, (by simpa using FT'), (fun y hy => List.mem_cons_of_mem _ (hs hy)), (fun _ => ⟨_, List.mem_cons_self ..⟩)⟩
          · exact wp_ranW (wanted_yes rfl rfl rfl (hgot 1 _ 93 rfl (hdep ⟨1, .guard⟩ (by simp) rfl) rfl)) (exec_move rfl (eval_tmp ((hpar 10 rfl).trans rfl))) (hK x _ _ (fun _ _ _ _ _ _ => rfl) (fun s hs => by cases hs; rfl) (by simpa using hst))
          · exact wp_ranW (wanted_yes rfl rfl rfl (hgot 1 _ 93 rfl (hdep ⟨1, .guard⟩ (by simp) rfl) rfl)) (exec_pre22 (by decide) rfl (eval_tmp (hgot 4 _ 96 rfl (hdep ⟨4, .data⟩ (by simp) rfl) rfl)) rfl) (hK x _ _ (fun _ _ _ _ _ _ => rfl) (fun s hs => by cases hs; rfl) (by simpa using hst))
          · exact wp_ranW (wanted_yes rfl rfl rfl (hgot 1 _ 93 rfl (hdep ⟨1, .guard⟩ (by simp) rfl) rfl)) (exec_bH rfl rfl (eval_tmp (hgot 5 _ 97 rfl (hdep ⟨5, .data⟩ (by simp) rfl) rfl))) (hK x _ _ (fun _ _ _ _ _ _ => rfl) (fun s hs => by cases hs; rfl) (by simpa using hst))
          · obtain ⟨ts, FT, hs, g3⟩ := hst
            obtain ⟨S3, e3⟩ := g3 (hdep ⟨3, .data⟩ (by simp) rfl)
            refine wp_calledW (wanted_yes rfl rfl rfl (hgot 1 _ 93 rfl (hdep ⟨1, .guard⟩ (by simp) rfl) rfl)) (exec_call2 rfl rfl (eval_tmp (hgot 3 _ 95 rfl (hdep ⟨3, .data⟩ (by simp) rfl) rfl)) (eval_tmp (hgot 6 _ 98 rfl (hdep ⟨6, .data⟩ (by simp) rfl) rfl)) (enters_of Tryd.func15 (by kernel_rfl) rfl)) ((rsame_c _ _ _ _ _ _ true v (same_rfl _) (FT.ist e3) (FT.ist (hs in11))).mono ?_)
            rintro e v' ⟨rfl, m⟩
            refine ⟨_, rfl, hK x _ _ (fun _ _ _ _ _ _ => rfl) (fun s hs => by cases hs; rfl) ?_⟩
            exact ⟨_, (by simpa using FT.call m), hs, (by simpa using g3)⟩
          · exact wp_ran rfl (exec_pick rfl (eval_tmp (hgot 1 _ 93 rfl (hdep ⟨1, .data⟩ (by simp) rfl) rfl)) (eval_tmp (hgot 7 _ 99 rfl (hdep ⟨7, .data⟩ (by simp) rfl) rfl)) rfl rfl) (hK x _ _ (fun _ _ _ _ _ _ => rfl) (fun s hs => by cases hs; rfl) (by simpa using hst))
          · exact wp_ran rfl (exec_assign rfl (eval_tmp (hgot 8 _ 100 rfl (hdep ⟨8, .data⟩ (by simp) rfl) rfl))) (hK x _ _ (fun _ _ _ _ _ _ => rfl) (fun s hs => by cases hs; rfl) (by simpa using hst))
        case fin =>
        intro x lz w48 hlz hst
        obtain ⟨ts, FT, hs, g3⟩ := hst
        obtain ⟨S48_3, e3⟩ := g3 (hlz 3 (by decide))
        obtain ⟨c48_3, hx3⟩ : ∃ c, c = x.1 3 := ⟨_, rfl⟩
        have F48 := FT.sub (ts' := [tT (Up w.heap.size) S48_3 ((.mk 5 0 0 ⟨#[]⟩ [t])) (x.1 3)] ++ Ts48) (List.Sublist.refl _) (fun y hy => by
          rcases List.mem_append.1 hy with hy | hy
          · simp only [List.mem_cons, List.not_mem_nil, or_false] at hy
            rcases hy with rfl
            all_goals assumption
          · exact hs hy)
        rw [hTs48] at F48
        simp only [List.cons_append, List.nil_append] at F48
        have hc48_3 := (F48.tis 0 rfl).ones
        dsimp only [setAll, List.foldl_cons, List.foldl_nil, List.set_cons_succ, List.set_cons_zero]
        rw [← hx3] at F48 hc48_3 ⊢
        clear FT hs hlz hTs48 FZ e3 g3 hx3 in0 in1 in2 in3 in4 in5 in6 in7 in8 in9 in10 in11 in12 in13 in14 in15 in16 in17 F47
        go_wp2_with fail
        obtain ⟨Ts49, hTs49, FZ⟩ := (F48.call (Mod.drew [] w48)).name
        have in0 := F48.mem 0 rfl
        have in1 := F48.mem 1 rfl
        have in2 := F48.mem 2 rfl
        have in3 := F48.mem 3 rfl
        have in4 := F48.mem 4 rfl
        have in5 := F48.mem 5 rfl
        have in6 := F48.mem 6 rfl
        have in7 := F48.mem 7 rfl
        have in8 := F48.mem 8 rfl
        have in9 := F48.mem 9 rfl
        have in10 := F48.mem 10 rfl
        have in11 := F48.mem 11 rfl
        have in12 := F48.mem 12 rfl
        have in13 := F48.mem 13 rfl
        have in14 := F48.mem 14 rfl
        have in15 := F48.mem 15 rfl
        have in16 := F48.mem 16 rfl
        have in17 := F48.mem 17 rfl
        have in18 := F48.mem 18 rfl
        rw [← hTs49] at in0
        rw [← hTs49] at in1
        rw [← hTs49] at in2
        rw [← hTs49] at in3
        rw [← hTs49] at in4
        rw [← hTs49] at in5
        rw [← hTs49] at in6
        rw [← hTs49] at in7
        rw [← hTs49] at in8
        rw [← hTs49] at in9
        rw [← hTs49] at in10
        rw [← hTs49] at in11
        rw [← hTs49] at in12
        rw [← hTs49] at in13
        rw [← hTs49] at in14
        rw [← hTs49] at in15
        rw [← hTs49] at in16
        rw [← hTs49] at in17
        rw [← hTs49] at in18
        refine wp_region_upxo (X := (Nat → List Value) × (Nat → Nat)) (fun _ => [], fun _ => 0) (fun x => [(101, .bool true), (102, .bool true), (103, .pointer (some ⟨b2, 0, none⟩)), (104, .int .i64 U), (105, .agg (ca).toArray), (106, .agg ((x.1 5)).toArray), (107, .pointer (some ⟨b2, 0, none⟩)), (108, .int .i64 U), (109, .slice (some ⟨g43, 0, none⟩) 2 2), (110, .slice (some ⟨g43, 0, none⟩) 1 2), (111, .agg (tmc (7) (U) 0 ⟨#[]⟩ (some ⟨g43, 0, none⟩) 1 2).toArray), (112, .bool true), (113, .bool true), (11, .bool true)]) 169 [101, 102, 103, 104, 105, 106, 107, 108, 109, 110, 111, 112, 113, 11] rfl (fun _ => rfl) (by decide) (by kernel_rfl) (fun x lz v => ∃ ts, Fm w v [oB b41 24 (tmc (2) (U) (N) ⟨#[]⟩ none 0 0), oB b2 26 ([.int .i64 U, .int .i64 N, .string s]), oB b1 24 (ca)] ts ∧ Ts49 ⊆ ts ∧ (lz 5 = true → ∃ Sx, tT (Up w.heap.size) Sx ((.mk 7 U 0 ⟨#[]⟩ [t])) (x.1 5) ∈ ts)) (by kernel_rfl) ⟨_, FZ, List.Subset.refl _, (fun h => by cases h)⟩ (by kernel_rfl) (by kernel_rfl) ?step ?fin
        case step =>
          intro x lz T v j o hj hlj hdep hst hpar hgot hcl hdf hold Kq hK
          have hjn : j < 14 := (Array.getElem?_eq_some_iff.1 hj).1
          obtain rfl | rfl | rfl | rfl | rfl | rfl | rfl | rfl | rfl | rfl | rfl | rfl | rfl | rfl : j = 0 ∨ j = 1 ∨ j = 2 ∨ j = 3 ∨ j = 4 ∨ j = 5 ∨ j = 6 ∨ j = 7 ∨ j = 8 ∨ j = 9 ∨ j = 10 ∨ j = 11 ∨ j = 12 ∨ j = 13 := by omega
          all_goals (have hj' := Option.some.inj (hj : some _ = some o); subst hj'; clear hj)
          · have l13 : lz 13 = false := (by cases hh : lz 13 with | false => rfl | true => exact absurd (hcl 13 _ rfl hh ⟨0, .phase⟩ (by simp) rfl) (by rw [hlj]; simp))
            exact wp_ran rfl (exec_move rfl (eval_tmp ((hold 11 (fun j' o' g1 g2 g3 => by
              have g4 : j' < 14 := (Array.getElem?_eq_some_iff.1 g1).1
              clear hpar hgot hdep hK
              obtain rfl | rfl | rfl | rfl | rfl | rfl | rfl | rfl | rfl | rfl | rfl | rfl | rfl | rfl : j' = 0 ∨ j' = 1 ∨ j' = 2 ∨ j' = 3 ∨ j' = 4 ∨ j' = 5 ∨ j' = 6 ∨ j' = 7 ∨ j' = 8 ∨ j' = 9 ∨ j' = 10 ∨ j' = 11 ∨ j' = 12 ∨ j' = 13 := by omega
              all_goals (cases g1; first | (cases g3; done) | (rw [l13] at g2; cases g2)))).trans rfl))) (hK x _ _ (fun _ _ _ _ _ _ => rfl) (fun s hs => by cases hs; rfl) (by simpa using hst))
          · exact wp_ran rfl (exec_move rfl (eval_tmp (hgot 0 _ 101 rfl (hdep ⟨0, .data⟩ (by simp) rfl) rfl))) (hK x _ _ (fun _ _ _ _ _ _ => rfl) (fun s hs => by cases hs; rfl) (by simpa using hst))
          · exact wp_ranW (wanted_yes rfl rfl rfl (hgot 1 _ 102 rfl (hdep ⟨1, .guard⟩ (by simp) rfl) rfl)) (exec_fp26_0 rfl (eval_tmp ((hpar 5 rfl).trans rfl))) (hK x _ _ (fun _ _ _ _ _ _ => rfl) (fun s hs => by cases hs; rfl) (by simpa using hst))
          · obtain ⟨ts, FT, hts⟩ := hst
            have hL := (FT.blk 1 rfl).cell 0
            exact wp_ranW (wanted_yes rfl rfl rfl (hgot 1 _ 102 rfl (hdep ⟨1, .guard⟩ (by simp) rfl) rfl)) (exec_load rfl (eval_tmp (hgot 2 _ 103 rfl (hdep ⟨2, .data⟩ (by simp) rfl) rfl)) (run_load1 Tryd.underlying3 rfl hL)) (hK x _ _ (fun _ _ _ _ _ _ => rfl) (fun s hs => by cases hs; rfl) (by simpa using (show ∃ ts, _ from ⟨ts, FT, hts⟩)))
          · obtain ⟨ts, FT, hts⟩ := hst
            have hL := FT.blk 2 rfl
            exact wp_ranW (wanted_yes rfl rfl rfl (hgot 1 _ 102 rfl (hdep ⟨1, .guard⟩ (by simp) rfl) rfl)) (exec_load rfl (eval_tmp ((hpar 4 rfl).trans rfl)) (run_loads (Cells.of_holds hL) Tryd.underlying24 rfl (size24' hca.1))) (hK x _ _ (fun _ _ _ _ _ _ => rfl) (fun s hs => by cases hs; rfl) (by simpa using (show ∃ ts, _ from ⟨ts, FT, hts⟩)))
          · obtain ⟨ts, FT, hs, g5⟩ := hst
            refine wp_calledW (wanted_yes rfl rfl rfl (hgot 1 _ 102 rfl (hdep ⟨1, .guard⟩ (by simp) rfl) rfl)) (exec_call2 rfl rfl (eval_tmp (hgot 3 _ 104 rfl (hdep ⟨3, .data⟩ (by simp) rfl) rfl)) (eval_tmp (hgot 4 _ 105 rfl (hdep ⟨4, .data⟩ (by simp) rfl) rfl)) (enters_of Tryd.func24 (by kernel_rfl) rfl)) ((seal_c U _ _ _ v (FT.ist (hs in17))).mono ?_)
            rintro e v' ⟨cs, rfl, hT, m⟩
            have FT' := FT.made m hT
            refine ⟨_, rfl, hK (fun i => if i = 5 then cs else x.1 i, x.2) _ _ (fun j' o' s' q1 q2 q3 => by
                have q4 : j' < 14 := (Array.getElem?_eq_some_iff.1 q1).1
                clear hpar hgot hdep hK
                obtain rfl | rfl | rfl | rfl | rfl | rfl | rfl | rfl | rfl | rfl | rfl | rfl | rfl | rfl : j' = 0 ∨ j' = 1 ∨ j' = 2 ∨ j' = 3 ∨ j' = 4 ∨ j' = 5 ∨ j' = 6 ∨ j' = 7 ∨ j' = 8 ∨ j' = 9 ∨ j' = 10 ∨ j' = 11 ∨ j' = 12 ∨ j' = 13 := by omega
                all_goals (cases q1; cases q3 <;> first | rfl | (rw [hlj] at q2; cases q2))) (fun s hs => by cases hs; rfl) ?_⟩
            refine ⟨_, (by simpa using FT'), (fun y hy => List.mem_cons_of_mem _ (hs hy)), (fun _ => ⟨_, List.mem_cons_self ..⟩)⟩
          · exact wp_ranW (wanted_yes rfl rfl rfl (hgot 1 _ 102 rfl (hdep ⟨1, .guard⟩ (by simp) rfl) rfl)) (exec_fp26_0 rfl (eval_tmp ((hpar 5 rfl).trans rfl))) (hK x _ _ (fun _ _ _ _ _ _ => rfl) (fun s hs => by cases hs; rfl) (by simpa using hst))
          · obtain ⟨ts, FT, hts⟩ := hst
            have hL := (FT.blk 1 rfl).cell 0
            exact wp_ranW (wanted_yes rfl rfl rfl (hgot 1 _ 102 rfl (hdep ⟨1, .guard⟩ (by simp) rfl) rfl)) (exec_load rfl (eval_tmp (hgot 6 _ 107 rfl (hdep ⟨6, .data⟩ (by simp) rfl) rfl)) (run_load1 Tryd.underlying3 rfl hL)) (hK x _ _ (fun _ _ _ _ _ _ => rfl) (fun s hs => by cases hs; rfl) (by simpa using (show ∃ ts, _ from ⟨ts, FT, hts⟩)))
          · exact wp_ranW (wanted_yes rfl rfl rfl (hgot 1 _ 102 rfl (hdep ⟨1, .guard⟩ (by simp) rfl) rfl)) (exec_move rfl (eval_tmp ((hpar 10 rfl).trans rfl))) (hK x _ _ (fun _ _ _ _ _ _ => rfl) (fun s hs => by cases hs; rfl) (by simpa using hst))
          · exact wp_ranW (wanted_yes rfl rfl rfl (hgot 1 _ 102 rfl (hdep ⟨1, .guard⟩ (by simp) rfl) rfl)) (exec_pre22 (by decide) rfl (eval_tmp (hgot 8 _ 109 rfl (hdep ⟨8, .data⟩ (by simp) rfl) rfl)) rfl) (hK x _ _ (fun _ _ _ _ _ _ => rfl) (fun s hs => by cases hs; rfl) (by simpa using hst))
          · exact wp_ranW (wanted_yes rfl rfl rfl (hgot 1 _ 102 rfl (hdep ⟨1, .guard⟩ (by simp) rfl) rfl)) (exec_bI rfl rfl (eval_tmp (hgot 7 _ 108 rfl (hdep ⟨7, .data⟩ (by simp) rfl) rfl)) (eval_tmp (hgot 9 _ 110 rfl (hdep ⟨9, .data⟩ (by simp) rfl) rfl))) (hK x _ _ (fun _ _ _ _ _ _ => rfl) (fun s hs => by cases hs; rfl) (by simpa using hst))
          · obtain ⟨ts, FT, hs, g5⟩ := hst
            obtain ⟨S5, e5⟩ := g5 (hdep ⟨5, .data⟩ (by simp) rfl)
            refine wp_calledW (wanted_yes rfl rfl rfl (hgot 1 _ 102 rfl (hdep ⟨1, .guard⟩ (by simp) rfl) rfl)) (exec_call2 rfl rfl (eval_tmp (hgot 5 _ 106 rfl (hdep ⟨5, .data⟩ (by simp) rfl) rfl)) (eval_tmp (hgot 10 _ 111 rfl (hdep ⟨10, .data⟩ (by simp) rfl) rfl)) (enters_of Tryd.func15 (by kernel_rfl) rfl)) ((rsame_c _ _ _ _ _ _ true v (same_rfl _) (FT.ist e5) (FT.ist (hs in11))).mono ?_)
            rintro e v' ⟨rfl, m⟩
            refine ⟨_, rfl, hK x _ _ (fun _ _ _ _ _ _ => rfl) (fun s hs => by cases hs; rfl) ?_⟩
            exact ⟨_, (by simpa using FT.call m), hs, (by simpa using g5)⟩
          · exact wp_ran rfl (exec_pick rfl (eval_tmp (hgot 1 _ 102 rfl (hdep ⟨1, .data⟩ (by simp) rfl) rfl)) (eval_tmp (hgot 11 _ 112 rfl (hdep ⟨11, .data⟩ (by simp) rfl) rfl)) rfl rfl) (hK x _ _ (fun _ _ _ _ _ _ => rfl) (fun s hs => by cases hs; rfl) (by simpa using hst))
          · exact wp_ran rfl (exec_assign rfl (eval_tmp (hgot 12 _ 113 rfl (hdep ⟨12, .data⟩ (by simp) rfl) rfl))) (hK x _ _ (fun _ _ _ _ _ _ => rfl) (fun s hs => by cases hs; rfl) (by simpa using hst))
        case fin =>
        intro x lz w49 hlz hst
        obtain ⟨ts, FT, hs, g5⟩ := hst
        obtain ⟨S49_5, e5⟩ := g5 (hlz 5 (by decide))
        obtain ⟨c49_5, hx5⟩ : ∃ c, c = x.1 5 := ⟨_, rfl⟩
        have F49 := FT.sub (ts' := [tT (Up w.heap.size) S49_5 ((.mk 7 U 0 ⟨#[]⟩ [t])) (x.1 5)] ++ Ts49) (List.Sublist.refl _) (fun y hy => by
          rcases List.mem_append.1 hy with hy | hy
          · simp only [List.mem_cons, List.not_mem_nil, or_false] at hy
            rcases hy with rfl
            all_goals assumption
          · exact hs hy)
        rw [hTs49] at F49
        simp only [List.cons_append, List.nil_append] at F49
        have hc49_5 := (F49.tis 0 rfl).ones
        dsimp only [setAll, List.foldl_cons, List.foldl_nil, List.set_cons_succ, List.set_cons_zero]
        rw [← hx5] at F49 hc49_5 ⊢
        clear FT hs hlz hTs49 FZ e5 g5 hx5 in0 in1 in2 in3 in4 in5 in6 in7 in8 in9 in10 in11 in12 in13 in14 in15 in16 in17 in18 F48
        go_wp2_with fail
        obtain ⟨Ts50, hTs50, FZ⟩ := (F49.call (Mod.drew [] w49)).name
        have in0 := F49.mem 0 rfl
        have in1 := F49.mem 1 rfl
        have in2 := F49.mem 2 rfl
        have in3 := F49.mem 3 rfl
        have in4 := F49.mem 4 rfl
        have in5 := F49.mem 5 rfl
        have in6 := F49.mem 6 rfl
        have in7 := F49.mem 7 rfl
        have in8 := F49.mem 8 rfl
        have in9 := F49.mem 9 rfl
        have in10 := F49.mem 10 rfl
        have in11 := F49.mem 11 rfl
        have in12 := F49.mem 12 rfl
        have in13 := F49.mem 13 rfl
        have in14 := F49.mem 14 rfl
        have in15 := F49.mem 15 rfl
        have in16 := F49.mem 16 rfl
        have in17 := F49.mem 17 rfl
        have in18 := F49.mem 18 rfl
        have in19 := F49.mem 19 rfl
        rw [← hTs50] at in0
        rw [← hTs50] at in1
        rw [← hTs50] at in2
        rw [← hTs50] at in3
        rw [← hTs50] at in4
        rw [← hTs50] at in5
        rw [← hTs50] at in6
        rw [← hTs50] at in7
        rw [← hTs50] at in8
        rw [← hTs50] at in9
        rw [← hTs50] at in10
        rw [← hTs50] at in11
        rw [← hTs50] at in12
        rw [← hTs50] at in13
        rw [← hTs50] at in14
        rw [← hTs50] at in15
        rw [← hTs50] at in16
        rw [← hTs50] at in17
        rw [← hTs50] at in18
        rw [← hTs50] at in19
        refine wp_region_upxo (X := (Nat → List Value) × (Nat → Nat)) (fun _ => [], fun _ => 0) (fun x => [(114, .bool true), (115, .bool true), (116, .pointer (some ⟨b2, 0, none⟩)), (117, .int .i64 U), (118, .pointer (some ⟨b2, 1, none⟩)), (119, .int .i64 N), (120, .agg (ca).toArray), (121, .agg ((x.1 7)).toArray), (122, .pointer (some ⟨b2, 0, none⟩)), (123, .int .i64 U), (124, .pointer (some ⟨b2, 1, none⟩)), (125, .int .i64 N), (126, .slice (some ⟨g43, 0, none⟩) 2 2), (127, .slice (some ⟨g43, 0, none⟩) 1 2), (128, .agg (tmc (8) (U) (N) ⟨#[]⟩ (some ⟨g43, 0, none⟩) 1 2).toArray), (129, .bool true), (130, .bool true), (11, .bool true)]) 169 [114, 115, 116, 117, 118, 119, 120, 121, 122, 123, 124, 125, 126, 127, 128, 129, 130, 11] rfl (fun _ => rfl) (by decide) (by kernel_rfl) (fun x lz v => ∃ ts, Fm w v [oB b41 24 (tmc (2) (U) (N) ⟨#[]⟩ none 0 0), oB b2 26 ([.int .i64 U, .int .i64 N, .string s]), oB b1 24 (ca)] ts ∧ Ts50 ⊆ ts ∧ (lz 7 = true → ∃ Sx, tT (Up w.heap.size) Sx ((.mk 8 U N ⟨#[]⟩ [t])) (x.1 7) ∈ ts)) (by kernel_rfl) ⟨_, FZ, List.Subset.refl _, (fun h => by cases h)⟩ (by kernel_rfl) (by kernel_rfl) ?step ?fin
        case step =>
          intro x lz T v j o hj hlj hdep hst hpar hgot hcl hdf hold Kq hK
          have hjn : j < 18 := (Array.getElem?_eq_some_iff.1 hj).1
          obtain rfl | rfl | rfl | rfl | rfl | rfl | rfl | rfl | rfl | rfl | rfl | rfl | rfl | rfl | rfl | rfl | rfl | rfl : j = 0 ∨ j = 1 ∨ j = 2 ∨ j = 3 ∨ j = 4 ∨ j = 5 ∨ j = 6 ∨ j = 7 ∨ j = 8 ∨ j = 9 ∨ j = 10 ∨ j = 11 ∨ j = 12 ∨ j = 13 ∨ j = 14 ∨ j = 15 ∨ j = 16 ∨ j = 17 := by omega
          all_goals (have hj' := Option.some.inj (hj : some _ = some o); subst hj'; clear hj)
          · have l17 : lz 17 = false := (by cases hh : lz 17 with | false => rfl | true => exact absurd (hcl 17 _ rfl hh ⟨0, .phase⟩ (by simp) rfl) (by rw [hlj]; simp))
            exact wp_ran rfl (exec_move rfl (eval_tmp ((hold 11 (fun j' o' g1 g2 g3 => by
              have g4 : j' < 18 := (Array.getElem?_eq_some_iff.1 g1).1
              clear hpar hgot hdep hK
              obtain rfl | rfl | rfl | rfl | rfl | rfl | rfl | rfl | rfl | rfl | rfl | rfl | rfl | rfl | rfl | rfl | rfl | rfl : j' = 0 ∨ j' = 1 ∨ j' = 2 ∨ j' = 3 ∨ j' = 4 ∨ j' = 5 ∨ j' = 6 ∨ j' = 7 ∨ j' = 8 ∨ j' = 9 ∨ j' = 10 ∨ j' = 11 ∨ j' = 12 ∨ j' = 13 ∨ j' = 14 ∨ j' = 15 ∨ j' = 16 ∨ j' = 17 := by omega
              all_goals (cases g1; first | (cases g3; done) | (rw [l17] at g2; cases g2)))).trans rfl))) (hK x _ _ (fun _ _ _ _ _ _ => rfl) (fun s hs => by cases hs; rfl) (by simpa using hst))
          · exact wp_ran rfl (exec_move rfl (eval_tmp (hgot 0 _ 114 rfl (hdep ⟨0, .data⟩ (by simp) rfl) rfl))) (hK x _ _ (fun _ _ _ _ _ _ => rfl) (fun s hs => by cases hs; rfl) (by simpa using hst))
          · exact wp_ranW (wanted_yes rfl rfl rfl (hgot 1 _ 115 rfl (hdep ⟨1, .guard⟩ (by simp) rfl) rfl)) (exec_fp26_0 rfl (eval_tmp ((hpar 5 rfl).trans rfl))) (hK x _ _ (fun _ _ _ _ _ _ => rfl) (fun s hs => by cases hs; rfl) (by simpa using hst))
          · obtain ⟨ts, FT, hts⟩ := hst
            have hL := (FT.blk 1 rfl).cell 0
            exact wp_ranW (wanted_yes rfl rfl rfl (hgot 1 _ 115 rfl (hdep ⟨1, .guard⟩ (by simp) rfl) rfl)) (exec_load rfl (eval_tmp (hgot 2 _ 116 rfl (hdep ⟨2, .data⟩ (by simp) rfl) rfl)) (run_load1 Tryd.underlying3 rfl hL)) (hK x _ _ (fun _ _ _ _ _ _ => rfl) (fun s hs => by cases hs; rfl) (by simpa using (show ∃ ts, _ from ⟨ts, FT, hts⟩)))
          · exact wp_ranW (wanted_yes rfl rfl rfl (hgot 1 _ 115 rfl (hdep ⟨1, .guard⟩ (by simp) rfl) rfl)) (exec_fp26_1 rfl (eval_tmp ((hpar 5 rfl).trans rfl))) (hK x _ _ (fun _ _ _ _ _ _ => rfl) (fun s hs => by cases hs; rfl) (by simpa using hst))
          · obtain ⟨ts, FT, hts⟩ := hst
            have hL := (FT.blk 1 rfl).cell 1
            exact wp_ranW (wanted_yes rfl rfl rfl (hgot 1 _ 115 rfl (hdep ⟨1, .guard⟩ (by simp) rfl) rfl)) (exec_load rfl (eval_tmp (hgot 4 _ 118 rfl (hdep ⟨4, .data⟩ (by simp) rfl) rfl)) (run_load1 Tryd.underlying3 rfl hL)) (hK x _ _ (fun _ _ _ _ _ _ => rfl) (fun s hs => by cases hs; rfl) (by simpa using (show ∃ ts, _ from ⟨ts, FT, hts⟩)))
          · obtain ⟨ts, FT, hts⟩ := hst
            have hL := FT.blk 2 rfl
            exact wp_ranW (wanted_yes rfl rfl rfl (hgot 1 _ 115 rfl (hdep ⟨1, .guard⟩ (by simp) rfl) rfl)) (exec_load rfl (eval_tmp ((hpar 4 rfl).trans rfl)) (run_loads (Cells.of_holds hL) Tryd.underlying24 rfl (size24' hca.1))) (hK x _ _ (fun _ _ _ _ _ _ => rfl) (fun s hs => by cases hs; rfl) (by simpa using (show ∃ ts, _ from ⟨ts, FT, hts⟩)))
          · obtain ⟨ts, FT, hs, g7⟩ := hst
            refine wp_calledW (wanted_yes rfl rfl rfl (hgot 1 _ 115 rfl (hdep ⟨1, .guard⟩ (by simp) rfl) rfl)) (exec_call3 rfl rfl (eval_tmp (hgot 3 _ 117 rfl (hdep ⟨3, .data⟩ (by simp) rfl) rfl)) (eval_tmp (hgot 5 _ 119 rfl (hdep ⟨5, .data⟩ (by simp) rfl) rfl)) (eval_tmp (hgot 6 _ 120 rfl (hdep ⟨6, .data⟩ (by simp) rfl) rfl)) (enters_of Tryd.func25 (by kernel_rfl) rfl)) ((sign_c U N _ _ _ v (FT.ist (hs in18))).mono ?_)
            rintro e v' ⟨cs, rfl, hT, m⟩
            have FT' := FT.made m hT
            refine ⟨_, rfl, hK (fun i => if i = 7 then cs else x.1 i, x.2) _ _ (fun j' o' s' q1 q2 q3 => by
                have q4 : j' < 18 := (Array.getElem?_eq_some_iff.1 q1).1
                clear hpar hgot hdep hK
                obtain rfl | rfl | rfl | rfl | rfl | rfl | rfl | rfl | rfl | rfl | rfl | rfl | rfl | rfl | rfl | rfl | rfl | rfl : j' = 0 ∨ j' = 1 ∨ j' = 2 ∨ j' = 3 ∨ j' = 4 ∨ j' = 5 ∨ j' = 6 ∨ j' = 7 ∨ j' = 8 ∨ j' = 9 ∨ j' = 10 ∨ j' = 11 ∨ j' = 12 ∨ j' = 13 ∨ j' = 14 ∨ j' = 15 ∨ j' = 16 ∨ j' = 17 := by omega
                all_goals (cases q1; cases q3 <;> first | rfl | (rw [hlj] at q2; cases q2))) (fun s hs => by cases hs; rfl) ?_⟩
            refine ⟨_, (by simpa using FT'), (fun y hy => List.mem_cons_of_mem _ (hs hy)), (fun _ => ⟨_, List.mem_cons_self ..⟩)⟩
          · exact wp_ranW (wanted_yes rfl rfl rfl (hgot 1 _ 115 rfl (hdep ⟨1, .guard⟩ (by simp) rfl) rfl)) (exec_fp26_0 rfl (eval_tmp ((hpar 5 rfl).trans rfl))) (hK x _ _ (fun _ _ _ _ _ _ => rfl) (fun s hs => by cases hs; rfl) (by simpa using hst))
          · obtain ⟨ts, FT, hts⟩ := hst
            have hL := (FT.blk 1 rfl).cell 0
            exact wp_ranW (wanted_yes rfl rfl rfl (hgot 1 _ 115 rfl (hdep ⟨1, .guard⟩ (by simp) rfl) rfl)) (exec_load rfl (eval_tmp (hgot 8 _ 122 rfl (hdep ⟨8, .data⟩ (by simp) rfl) rfl)) (run_load1 Tryd.underlying3 rfl hL)) (hK x _ _ (fun _ _ _ _ _ _ => rfl) (fun s hs => by cases hs; rfl) (by simpa using (show ∃ ts, _ from ⟨ts, FT, hts⟩)))
          · exact wp_ranW (wanted_yes rfl rfl rfl (hgot 1 _ 115 rfl (hdep ⟨1, .guard⟩ (by simp) rfl) rfl)) (exec_fp26_1 rfl (eval_tmp ((hpar 5 rfl).trans rfl))) (hK x _ _ (fun _ _ _ _ _ _ => rfl) (fun s hs => by cases hs; rfl) (by simpa using hst))
          · obtain ⟨ts, FT, hts⟩ := hst
            have hL := (FT.blk 1 rfl).cell 1
            exact wp_ranW (wanted_yes rfl rfl rfl (hgot 1 _ 115 rfl (hdep ⟨1, .guard⟩ (by simp) rfl) rfl)) (exec_load rfl (eval_tmp (hgot 10 _ 124 rfl (hdep ⟨10, .data⟩ (by simp) rfl) rfl)) (run_load1 Tryd.underlying3 rfl hL)) (hK x _ _ (fun _ _ _ _ _ _ => rfl) (fun s hs => by cases hs; rfl) (by simpa using (show ∃ ts, _ from ⟨ts, FT, hts⟩)))
          · exact wp_ranW (wanted_yes rfl rfl rfl (hgot 1 _ 115 rfl (hdep ⟨1, .guard⟩ (by simp) rfl) rfl)) (exec_move rfl (eval_tmp ((hpar 10 rfl).trans rfl))) (hK x _ _ (fun _ _ _ _ _ _ => rfl) (fun s hs => by cases hs; rfl) (by simpa using hst))
          · exact wp_ranW (wanted_yes rfl rfl rfl (hgot 1 _ 115 rfl (hdep ⟨1, .guard⟩ (by simp) rfl) rfl)) (exec_pre22 (by decide) rfl (eval_tmp (hgot 12 _ 126 rfl (hdep ⟨12, .data⟩ (by simp) rfl) rfl)) rfl) (hK x _ _ (fun _ _ _ _ _ _ => rfl) (fun s hs => by cases hs; rfl) (by simpa using hst))
          · exact wp_ranW (wanted_yes rfl rfl rfl (hgot 1 _ 115 rfl (hdep ⟨1, .guard⟩ (by simp) rfl) rfl)) (exec_bJ rfl rfl (eval_tmp (hgot 9 _ 123 rfl (hdep ⟨9, .data⟩ (by simp) rfl) rfl)) (eval_tmp (hgot 11 _ 125 rfl (hdep ⟨11, .data⟩ (by simp) rfl) rfl)) (eval_tmp (hgot 13 _ 127 rfl (hdep ⟨13, .data⟩ (by simp) rfl) rfl))) (hK x _ _ (fun _ _ _ _ _ _ => rfl) (fun s hs => by cases hs; rfl) (by simpa using hst))
          · obtain ⟨ts, FT, hs, g7⟩ := hst
            obtain ⟨S7, e7⟩ := g7 (hdep ⟨7, .data⟩ (by simp) rfl)
            refine wp_calledW (wanted_yes rfl rfl rfl (hgot 1 _ 115 rfl (hdep ⟨1, .guard⟩ (by simp) rfl) rfl)) (exec_call2 rfl rfl (eval_tmp (hgot 7 _ 121 rfl (hdep ⟨7, .data⟩ (by simp) rfl) rfl)) (eval_tmp (hgot 14 _ 128 rfl (hdep ⟨14, .data⟩ (by simp) rfl) rfl)) (enters_of Tryd.func15 (by kernel_rfl) rfl)) ((rsame_c _ _ _ _ _ _ true v (same_rfl _) (FT.ist e7) (FT.ist (hs in11))).mono ?_)
            rintro e v' ⟨rfl, m⟩
            refine ⟨_, rfl, hK x _ _ (fun _ _ _ _ _ _ => rfl) (fun s hs => by cases hs; rfl) ?_⟩
            exact ⟨_, (by simpa using FT.call m), hs, (by simpa using g7)⟩
          · exact wp_ran rfl (exec_pick rfl (eval_tmp (hgot 1 _ 115 rfl (hdep ⟨1, .data⟩ (by simp) rfl) rfl)) (eval_tmp (hgot 15 _ 129 rfl (hdep ⟨15, .data⟩ (by simp) rfl) rfl)) rfl rfl) (hK x _ _ (fun _ _ _ _ _ _ => rfl) (fun s hs => by cases hs; rfl) (by simpa using hst))
          · exact wp_ran rfl (exec_assign rfl (eval_tmp (hgot 16 _ 130 rfl (hdep ⟨16, .data⟩ (by simp) rfl) rfl))) (hK x _ _ (fun _ _ _ _ _ _ => rfl) (fun s hs => by cases hs; rfl) (by simpa using hst))
        case fin =>
        intro x lz w50 hlz hst
        obtain ⟨ts, FT, hs, g7⟩ := hst
        obtain ⟨S50_7, e7⟩ := g7 (hlz 7 (by decide))
        obtain ⟨c50_7, hx7⟩ : ∃ c, c = x.1 7 := ⟨_, rfl⟩
        have F50 := FT.sub (ts' := [tT (Up w.heap.size) S50_7 ((.mk 8 U N ⟨#[]⟩ [t])) (x.1 7)] ++ Ts50) (List.Sublist.refl _) (fun y hy => by
          rcases List.mem_append.1 hy with hy | hy
          · simp only [List.mem_cons, List.not_mem_nil, or_false] at hy
            rcases hy with rfl
            all_goals assumption
          · exact hs hy)
        rw [hTs50] at F50
        simp only [List.cons_append, List.nil_append] at F50
        have hc50_7 := (F50.tis 0 rfl).ones
        dsimp only [setAll, List.foldl_cons, List.foldl_nil, List.set_cons_succ, List.set_cons_zero]
        rw [← hx7] at F50 hc50_7 ⊢
        clear FT hs hlz hTs50 FZ e7 g7 hx7 in0 in1 in2 in3 in4 in5 in6 in7 in8 in9 in10 in11 in12 in13 in14 in15 in16 in17 in18 in19 F49
        cases HR : t.right with
        | false =>
          have RR := fun v S h => rright_c t ca S v h
          rw [HR] at RR
          have UN := fun v S h1 h2 h3 => unlist_no t ca S v h1 h2 h3 HR
          go_wp2_with (first
            | (go_at_call 26; refine (list_c A0 n c0 vs0 l _ w50 HL.out (by omega) (F50.row (F50.mem 20 rfl))).mono ?_
               rintro e w51 ⟨c51, rfl, h51, m51⟩
               have hc51 := h51.ones
               have F51 := F50.made m51 h51
               clear h51 m51 F50)
            | (go_at_call 27; refine (rlist_c A0 n c0 vs0 l _ w51 HL.out (by omega) (F51.row (F51.mem 21 rfl)) (F51.ltm (F51.mem 21 rfl))).mono ?_
               rintro e w52 ⟨c52, rfl, h52, m52⟩
               have hc52 := h52.elim fun _ h => h.1.ones
               obtain ⟨S52, F52⟩ := F51.madeR m52 h52 (fun g hg => ⟨_, (F51.mem 21 rfl), hg⟩) (L := Any) (fun _ _ => trivial) (fun _ _ => trivial)
               clear h52 m52 F51)
            | (go_at_call 15; refine (rsame_c _ _ _ _ _ _ true w52 (same_rfl _) (F52.ist (F52.mem 1 rfl)) (F52.ist (F52.mem 0 rfl))).mono ?_
               rintro e w53 ⟨rfl, m53⟩
               have F53 := F52.call m53
               clear m53 F52)
            | (with_reducible refine fm_load F53 2 rfl (o := ⟨some 142, .load 24 (.tmp 4), _, _, _, _⟩) rfl (.tmp 4) rfl rfl hca.1 ?_)
            | (go_at_call 28; refine (UN w53 _ (F53.ist (F53.mem 21 rfl)) (F53.ltm (F53.mem 21 rfl)) (F53.glob G)).mono ?_
               rintro e w54 ⟨rfl, m54⟩
               have F54 := F53.call m54
               clear m54 F53)
            | (with_reducible refine fm_load F54 2 rfl (o := ⟨some 146, .load 24 (.tmp 4), _, _, _, _⟩) rfl (.tmp 4) rfl rfl hca.1 ?_)
            | (go_at_call 29; refine (RR w54 _ (F54.ist (F54.mem 21 rfl))).mono ?_
               rintro e w55 ⟨rfl, m55⟩
               have F55 := F54.call m55
               clear m55 F54))
          go_ret
          exact ⟨rfl, F55.m⟩
        | true =>
          have RR := fun v S h => rright_c t ca S v h
          rw [HR] at RR
          have hrt := HR
          simp only [Tm.right, Bool.and_eq_true, decide_eq_true_eq] at hrt
          by_cases hlt : ∃ lt, t = listT lt
          case pos =>
            obtain ⟨lt, hlt⟩ := hlt
            have hltn : lt.length ≤ 1200 := by
              have h1 := listT_len (l := lt)
              rw [← hlt] at h1
              omega
            obtain ⟨nl, hnl⟩ : ∃ q, q = lt.length := ⟨_, rfl⟩
            have UN : ∀ v S, TIs v S t ca → (∀ g, S g → g < v.heap.size) → Glob v → Calls Tryd.prog 28 #[.agg ca.toArray] v fun e w' => ∃ A vs, e = .returned (.tuple #[.slice A nl nl, .bool true]) ∧ RowT w' (Btw v.heap.size w'.heap.size) A vs lt ∧ Mod [] v w' := by
              subst hlt
              exact fun v S h1 h2 h3 => unlist_list lt nl hnl HR ca S v h1 h2 h3
            have RU : ∀ v S, TIs v S t ca → (∀ g, S g → g < v.heap.size) → Calls Tryd.prog 30 #[.agg ca.toArray] v fun e w' => ∃ A c vs S', e = .returned (.tuple #[.slice A nl c, .bool true]) ∧ RowT w' S' A vs lt ∧ (∀ g, S' g → S g ∨ (v.heap.size ≤ g ∧ g < w'.heap.size)) ∧ Mod [] v w' := fun v S h1 h2 => by
              refine (runl_all _ t ca S v (Nat.le_refl _) hrt.1.1 hrt.2 h1 h2).mono ?_
              rintro e w' (⟨l2, A, c, vs, S', q1, q2, q3, q4, q5⟩ | ⟨q1, _⟩)
              · have : lt = l2 := listT_inj (hlt.symm.trans q1)
                subst this
                rw [← hnl] at q2
                exact ⟨A, c, vs, S', q2, q3, q4, q5⟩
              · exact absurd hlt (q1 lt)
            have SA := fun A1 A2 c2 va vb Sa Sb v h1 h2 h3 h4 => sameAll_c A1 A2 nl nl nl c2 va vb lt lt Sa Sb v hnl hnl (by omega) (by omega) h1 h2 h3 h4
            rw [(Tm.sameAll_iff lt lt).2 rfl] at SA
            clear hlt hnl HR hrt
            go_wp2_with (first
              | (go_at_call 26; refine (list_c A0 n c0 vs0 l _ w50 HL.out (by omega) (F50.row (F50.mem 20 rfl))).mono ?_
                 rintro e w51 ⟨c51, rfl, h51, m51⟩
                 have hc51 := h51.ones
                 have F51 := F50.made m51 h51
                 clear h51 m51 F50)
              | (go_at_call 27; refine (rlist_c A0 n c0 vs0 l _ w51 HL.out (by omega) (F51.row (F51.mem 21 rfl)) (F51.ltm (F51.mem 21 rfl))).mono ?_
                 rintro e w52 ⟨c52, rfl, h52, m52⟩
                 have hc52 := h52.elim fun _ h => h.1.ones
                 obtain ⟨S52, F52⟩ := F51.madeR m52 h52 (fun g hg => ⟨_, (F51.mem 21 rfl), hg⟩) (L := Any) (fun _ _ => trivial) (fun _ _ => trivial)
                 clear h52 m52 F51)
              | (go_at_call 15; refine (rsame_c _ _ _ _ _ _ true w52 (same_rfl _) (F52.ist (F52.mem 1 rfl)) (F52.ist (F52.mem 0 rfl))).mono ?_
                 rintro e w53 ⟨rfl, m53⟩
                 have F53 := F52.call m53
                 clear m53 F52)
              | (with_reducible refine fm_load F53 2 rfl (o := ⟨some 142, .load 24 (.tmp 4), _, _, _, _⟩) rfl (.tmp 4) rfl rfl hca.1 ?_)
              | (go_at_call 28; refine (UN w53 _ (F53.ist (F53.mem 21 rfl)) (F53.ltm (F53.mem 21 rfl)) (F53.glob G)).mono ?_
                 rintro e w54 ⟨A1, vs1, rfl, h54, m54⟩
                 have F54 := F53.madeRow m54 h54
                 clear h54 m54
                 clear F53)
              | (with_reducible refine fm_load F54 2 rfl (o := ⟨some 146, .load 24 (.tmp 4), _, _, _, _⟩) rfl (.tmp 4) rfl rfl hca.1 ?_)
              | (go_at_call 29; refine (RR w54 _ (F54.ist (F54.mem 22 rfl))).mono ?_
                 rintro e w55 ⟨rfl, m55⟩
                 have F55 := F54.call m55
                 clear m55 F54)
              | (with_reducible refine fm_load F55 2 rfl (o := ⟨some 157, .load 24 (.tmp 4), _, _, _, _⟩) rfl (.tmp 4) rfl rfl hca.1 ?_)
              | (go_at_call 30; refine (RU w55 _ (F55.ist (F55.mem 22 rfl)) (F55.ltm (F55.mem 22 rfl))).mono ?_
                 rintro e w56 ⟨A2, c2, vs2, S2, rfl, h56, hq56, m56⟩
                 have F56 := F55.put m56 (tR Any S2 A2 vs2 lt) (keeps_tR _ _ _ _ _) ⟨h56, fun _ _ => trivial⟩ (fun g hg => (hq56 g hg).elim (fun h => .inr ⟨_, F55.mem 22 rfl, h⟩) .inl)
                 clear h56 hq56 m56
                 clear F55)
              | (go_at_call 31; refine (SA A1 A2 c2 _ _ _ _ w56 (F56.row (F56.mem 1 rfl)) (F56.row (F56.mem 0 rfl)) (F56.ltm (F56.mem 1 rfl)) (F56.ltm (F56.mem 0 rfl))).mono ?_
                 rintro e w57 ⟨rfl, m57⟩
                 have F57 := F56.call m57
                 clear m57 F56))
            go_ret
            exact ⟨rfl, F57.m⟩
          case neg =>
            have UN : ∀ v S, TIs v S t ca → (∀ g, S g → g < v.heap.size) → Glob v → Calls Tryd.prog 28 #[.agg ca.toArray] v fun e w' => e = .returned (.tuple #[.slice none 0 0, .bool false]) ∧ Mod [] v w' := fun v S h1 h2 h3 => by
              refine (unlist_yes t ca S v h1 h2 h3 HR).mono ?_
              rintro e w' (⟨l2, A, vs, q1, _⟩ | ⟨_, q2, q3⟩)
              · exact absurd ⟨l2, q1⟩ hlt
              · exact ⟨q2, q3⟩
            have RU : ∀ v S, TIs v S t ca → (∀ g, S g → g < v.heap.size) → Calls Tryd.prog 30 #[.agg ca.toArray] v fun e w' => e = .returned (.tuple #[.slice none 0 0, .bool false]) ∧ Mod [] v w' := fun v S h1 h2 => by
              refine (runl_all _ t ca S v (Nat.le_refl _) hrt.1.1 hrt.2 h1 h2).mono ?_
              rintro e w' (⟨l2, A, c, vs, S', q1, _⟩ | ⟨_, q2, q3⟩)
              · exact absurd ⟨l2, q1⟩ hlt
              · exact ⟨q2, q3⟩
            have SA := fun v => sameAll_c none none 0 0 0 0 [] [] [] [] (fun _ => False) (fun _ => False) v rfl rfl (by decide) (by decide) (RowT.nil _ _ _) (RowT.nil _ _ _) (fun _ h => h.elim) (fun _ h => h.elim)
            rw [show Tm.sameAll [] [] = true from rfl] at SA
            clear HR hrt hlt
            go_wp2_with (first
              | (go_at_call 26; refine (list_c A0 n c0 vs0 l _ w50 HL.out (by omega) (F50.row (F50.mem 20 rfl))).mono ?_
                 rintro e w51 ⟨c51, rfl, h51, m51⟩
                 have hc51 := h51.ones
                 have F51 := F50.made m51 h51
                 clear h51 m51 F50)
              | (go_at_call 27; refine (rlist_c A0 n c0 vs0 l _ w51 HL.out (by omega) (F51.row (F51.mem 21 rfl)) (F51.ltm (F51.mem 21 rfl))).mono ?_
                 rintro e w52 ⟨c52, rfl, h52, m52⟩
                 have hc52 := h52.elim fun _ h => h.1.ones
                 obtain ⟨S52, F52⟩ := F51.madeR m52 h52 (fun g hg => ⟨_, (F51.mem 21 rfl), hg⟩) (L := Any) (fun _ _ => trivial) (fun _ _ => trivial)
                 clear h52 m52 F51)
              | (go_at_call 15; refine (rsame_c _ _ _ _ _ _ true w52 (same_rfl _) (F52.ist (F52.mem 1 rfl)) (F52.ist (F52.mem 0 rfl))).mono ?_
                 rintro e w53 ⟨rfl, m53⟩
                 have F53 := F52.call m53
                 clear m53 F52)
              | (with_reducible refine fm_load F53 2 rfl (o := ⟨some 142, .load 24 (.tmp 4), _, _, _, _⟩) rfl (.tmp 4) rfl rfl hca.1 ?_)
              | (go_at_call 28; refine (UN w53 _ (F53.ist (F53.mem 21 rfl)) (F53.ltm (F53.mem 21 rfl)) (F53.glob G)).mono ?_
                 rintro e w54 ⟨rfl, m54⟩
                 have F54 := F53.call m54
                 clear m54 F53)
              | (with_reducible refine fm_load F54 2 rfl (o := ⟨some 146, .load 24 (.tmp 4), _, _, _, _⟩) rfl (.tmp 4) rfl rfl hca.1 ?_)
              | (go_at_call 29; refine (RR w54 _ (F54.ist (F54.mem 21 rfl))).mono ?_
                 rintro e w55 ⟨rfl, m55⟩
                 have F55 := F54.call m55
                 clear m55 F54)
              | (with_reducible refine fm_load F55 2 rfl (o := ⟨some 157, .load 24 (.tmp 4), _, _, _, _⟩) rfl (.tmp 4) rfl rfl hca.1 ?_)
              | (go_at_call 30; refine (RU w55 _ (F55.ist (F55.mem 21 rfl)) (F55.ltm (F55.mem 21 rfl))).mono ?_
                 rintro e w56 ⟨rfl, m56⟩
                 have F56 := F55.call m56
                 clear m56 F55)
              | (go_at_call 31; refine (SA w56).mono ?_
                 rintro e w57 ⟨rfl, m57⟩
                 have F57 := F56.call m57
                 clear m57 F56))
            go_ret
            exact ⟨rfl, F57.m⟩
theorem makes_w (A0 : Option Addr) (c0 : Nat) (vs0 : List (List Value)) (l : List Tm) (t : Tm) (la : List Value) (U N : Int) (s : ByteArray) (W : World) (hl : l.length ≤ c0) (hm : c0 ≤ maxLen) (hb : l.length ≤ 2199023255552) (hR : RowT W (Btw 0 W.heap.size) A0 vs0 l) (hT : TIs W (Btw 0 W.heap.size) t la) (G : Glob W) : Calls Tryd.prog 3 #[.slice A0 l.length c0, .agg la.toArray, .agg ([.int .i64 U, .int .i64 N, .string s] : List Value).toArray] W fun e w' => e = .returned (.bool true) ∧ Mod [] W w' := by
  by_cases h : 100 < l.length
  · exact makes_long A0 c0 vs0 l l.length t la U N s W rfl hR hT G h
  · exact makes_short A0 c0 vs0 l l.length t la U N s W rfl hR hT G (by omega)
end Go.Proofs.YtchanildogjhgaaDoor
