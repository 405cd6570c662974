/-
  RegressBack. My own work.
-/
import Derived.Test.YtchanildogjhgaaDoorRf
namespace Go.Proofs.YtchanildogjhgaaDoor
open Go.RowKit Go.Shelf
set_option linter.unusedVariables false
set_option linter.unusedSimpArgs false
theorem iter_add (f : Tm → Tm) (t : Tm) (m : Nat) : ∀ n, iter f n (iter f m t) = iter f (m + n) t
  | 0 => rfl
  | n + 1 => by rw [iter, iter_add f t m n, ← Nat.add_assoc, iter]
theorem stA_count (t : Tm) : (stA t).count = t.count + 3 := by
  simp [stA, hdT, Tm.count, Tm.countAll]
  omega
theorem iter_count (t : Tm) : ∀ n, (iter stA n t).count = t.count + 3 * n
  | 0 => rfl
  | n + 1 => by rw [iter, stA_count, iter_count t n]; omega
theorem back_two {t : Tm} (hr : t.right = true) {A B : Int} (h1 : 1 ≤ B) (h2 : B ≤ A) (h3 : A ≤ 8) : ∃ X Y : Tm,
    (X.right = true → backT t 8 A = X ∧ backE t 8 A = 0) ∧ (X.right = false → backT t 8 A = nilT ∧ backE t 8 A = 150) ∧ (Y.right = true → backT t 8 B = Y ∧ backE t 8 B = 0) ∧ (Y.right = false → backT t 8 B = nilT ∧ backE t 8 B = 150) ∧
    (X.right = true → Y.right = true → backT X A B = Y ∧ backE X A B = 0) ∧ Tm.same X Y = (A == B) := by
  obtain ⟨n, hn⟩ : ∃ n : Nat, (n : Int) = 8 - A := ⟨(8 - A).toNat, by omega⟩
  obtain ⟨k, hk⟩ : ∃ n : Nat, (n : Int) = A - B := ⟨(A - B).toNat, by omega⟩
  have iA : inE A = true := by simp [inE]; omega
  have iB : inE B = true := by simp [inE]; omega
  obtain ⟨a1, a2⟩ := back_in (f := 8) (to := A) (n := n) ⟨rfl, iA, h3⟩ hr hn
  obtain ⟨b1, b2⟩ := back_in (f := 8) (to := B) (n := n + k) ⟨rfl, iB, by omega⟩ hr (by omega)
  refine ⟨iter stA n t, iter stA (n + k) t, fun h => ⟨by rw [a1, orNil, if_pos h], by rw [a2, chk, if_pos h]⟩, fun h => ⟨by rw [a1, orNil, h]; rfl, by rw [a2, chk, h]; rfl⟩, fun h => ⟨by rw [b1, orNil, if_pos h], by rw [b2, chk, if_pos h]⟩, fun h => ⟨by rw [b1, orNil, h]; rfl, by rw [b2, chk, h]; rfl⟩, fun h h' => ?_, ?_⟩
  · obtain ⟨c1, c2⟩ := back_in (f := A) (to := B) (n := k) ⟨iA, iB, h2⟩ h hk
    rw [iter_add] at c1 c2
    exact ⟨by rw [c1, orNil, if_pos h'], by rw [c2, chk, if_pos h']⟩
  · by_cases e : A = B
    · have : k = 0 := by omega
      subst this
      subst e
      simp [same_rfl]
    · rw [show (A == B) = false by simpa using e]
      cases hs : Tm.same (iter stA n t) (iter stA (n + k) t) with
      | false => rfl
      | true =>
        have h1 := iter_count t n
        have h2 := iter_count t (n + k)
        rw [← (Tm.same_iff _ _).1 hs] at h2
        omega
theorem exec_rem8 {v : World} {o : Oper} {ρ : Operand → Value} {x y : Operand} {a b : Int} (h0 : 0 ≤ a) (hb : a % 8 = b) (ho : o.op = .binOp .rem 3 x y 3) (hx : ρ x = .int .i64 a) (hy : ρ y = .int .i64 8) : (execOp ρ o).run Tryd.prog v = .ok (.value (.int .i64 b)) v := by
  subst hb
  unfold execOp
  simp [ho, hx, hy, go_sem]
  rw [Int.tmod_eq_emod_of_nonneg h0]
theorem exec_inc {v : World} {o : Oper} {ρ : Operand → Value} {x y : Operand} {a b : Int} (h0 : 0 ≤ a) (h1 : a < 8) (hb : a + 1 = b) (ho : o.op = .binOp .add 3 x y 3) (hx : ρ x = .int .i64 a) (hy : ρ y = .int .i64 1) : (execOp ρ o).run Tryd.prog v = .ok (.value (.int .i64 b)) v := by
  subst hb
  unfold execOp
  simp [ho, hx, hy, go_sem, IntKind.wrap]
  omega
set_option maxRecDepth 1000000 in
set_option maxHeartbeats 1500000 in
theorem backs_w (t : Tm) (la : List Value) (a b : Int) (W : World) (hT : TIs W (Btw 0 W.heap.size) t la) (G : Glob W) : Calls Tryd.prog 11 #[.agg la.toArray, .int .i64 a, .int .i64 b] W fun e w' => e = .returned (.bool true) ∧ Mod [] W w' := by
  obtain ⟨w, hw⟩ : ∃ x, x = W := ⟨_, rfl⟩
  rw [← hw] at hT G ⊢
  obtain ⟨ca, hca'⟩ : ∃ x, x = la := ⟨_, rfl⟩
  rw [← hca'] at hT ⊢
  clear hw hca'
  have hca := hT.ones
  have OV := fun v (mv : Mod [] w v) => R9.over_c t ca w.heap.size v (hT.keep mv (by simp)) mv.size
  have FA := (Fm.nil w).argT hT (fun g hg => hg.2)
  clear hT
  have SZ := fun v S h1 h2 => Size_c t ca S v h1 h2
  have hsr := sz_right t
  obtain ⟨Z, hZ⟩ : ∃ z, z = t.sz 1 1200 := ⟨_, rfl⟩
  rw [← hZ] at SZ hsr
  have HS := Lib.hid hsr
  clear hZ hsr
  obtain ⟨a1, ha1⟩ : ∃ x, x = max a 0 % 8 := ⟨_, rfl⟩
  obtain ⟨bm, hb1⟩ : ∃ x, x = max b 0 % 8 := ⟨_, rfl⟩
  obtain ⟨p, hp⟩ : ∃ x, x = a1 + 1 := ⟨_, rfl⟩
  obtain ⟨q, hq⟩ : ∃ x, x = bm + 1 := ⟨_, rfl⟩
  have hA : 0 ≤ a1 ∧ a1 < 8 := by omega
  have hB : 0 ≤ bm ∧ bm < 8 := by omega
  have hp1 : 1 ≤ p ∧ p ≤ 8 := by omega
  have hq1 : 1 ≤ q ∧ q ≤ 8 := by omega
  have RA : ∀ (v : World) (ρ : Operand → Value) {o : Oper} {x y : Operand}, o.op = .binOp .rem 3 x y 3 → ρ x = .int .i64 (max a 0) → ρ y = .int .i64 8 → (execOp ρ o).run Tryd.prog v = .ok (.value (.int .i64 (a1))) v := fun v ρ o x y h1 h2 h3 => exec_rem8 (by omega) ha1.symm h1 h2 h3
  have RB1 : ∀ (v : World) (ρ : Operand → Value) {o : Oper} {x y : Operand}, o.op = .binOp .rem 3 x y 3 → ρ x = .int .i64 (max b 0) → ρ y = .int .i64 8 → (execOp ρ o).run Tryd.prog v = .ok (.value (.int .i64 (bm))) v := fun v ρ o x y h1 h2 h3 => exec_rem8 (by omega) hb1.symm h1 h2 h3
  have PA : ∀ (v : World) (ρ : Operand → Value) {o : Oper} {x y : Operand}, o.op = .binOp .add 3 x y 3 → ρ x = .int .i64 (a1) → ρ y = .int .i64 1 → (execOp ρ o).run Tryd.prog v = .ok (.value (.int .i64 (p))) v := fun v ρ o x y h1 h2 h3 => exec_inc hA.1 hA.2 hp.symm h1 h2 h3
  have PB : ∀ (v : World) (ρ : Operand → Value) {o : Oper} {x y : Operand}, o.op = .binOp .add 3 x y 3 → ρ x = .int .i64 (bm) → ρ y = .int .i64 1 → (execOp ρ o).run Tryd.prog v = .ok (.value (.int .i64 (q))) v := fun v ρ o x y h1 h2 h3 => exec_inc hB.1 hB.2 hq.symm h1 h2 h3
  clear ha1 hb1 hp hq hA hB
  go_enter Tryd.func11, Tryd.ntmps11
  go_wp2_with (first
    | (with_reducible refine fm_box FA (o := ⟨some 3, .box 24 (.tmp 0), _, _, _, _⟩) rfl 24 (.tmp 0) rfl (ca) rfl ?_; intro b1 w1 F1; clear FA)
    | (go_at_call 42; refine (wakes9_c w1 (F1.glob G)).mono ?_
       rintro e w2 ⟨rfl, m2⟩
       have F2 := F1.call m2
       clear m2 F1)
    | (with_reducible refine fm_load F2 0 rfl (o := ⟨some 15, .load 24 (.tmp 3), _, _, _, _⟩) rfl (.tmp 3) rfl rfl hca.1 ?_))
  refine (OV w2 F2.m).mono ?_
  rintro e w3 ⟨ov3, rfl, m3⟩
  have F3 := F2.call m3
  clear m3
  clear F2
  cases ov3 with
  | true =>
    go_wp2_with fail
    go_ret
    exact ⟨rfl, F3.m⟩
  | false =>
    cases hz0 : (Z == 0) with
    | true =>
      go_wp2_with (first
        | (with_reducible refine fm_loadG F3 0 rfl (o := ⟨some 18, .load 24 (.tmp 3), _, _, _, _⟩) (by with_unfolding_all rfl) (.tmp 3) rfl rfl hca.1 ?_)
        | (go_at_call 49; refine (SZ w3 _ (F3.ist (F3.mem 0 rfl)) (F3.glob G)).mono ?_
           rintro e w4 ⟨rfl, m4⟩
           have F4 := F3.call m4
           clear m4 F3))
      go_ret
      exact ⟨rfl, F4.m⟩
    | false =>
      have HT : Hid (t.right = true) := Lib.hid (by have := HS.out; rw [hz0] at this; simpa using this.symm)
      cases hz1 : decide (100 < Z) with
      | true =>
        go_wp2_with (first
          | (with_reducible refine fm_loadG F3 0 rfl (o := ⟨some 18, .load 24 (.tmp 3), _, _, _, _⟩) (by with_unfolding_all rfl) (.tmp 3) rfl rfl hca.1 ?_)
          | (go_at_call 49; refine (SZ w3 _ (F3.ist (F3.mem 0 rfl)) (F3.glob G)).mono ?_
             rintro e w4 ⟨rfl, m4⟩
             have F4 := F3.call m4
             clear m4 F3)
          | (with_reducible refine fm_loadG F4 0 rfl (o := ⟨some 23, .load 24 (.tmp 3), _, _, _, _⟩) (by with_unfolding_all rfl) (.tmp 3) rfl rfl hca.1 ?_)
          | (go_at_call 49; refine (SZ w4 _ (F4.ist (F4.mem 0 rfl)) (F4.glob G)).mono ?_
             rintro e w5 ⟨rfl, m5⟩
             have F5 := F4.call m5
             clear m5 F4))
        go_ret
        exact ⟨rfl, F5.m⟩
      | false =>
        cases hpq : decide (p < q) with
        | true =>
          have hpq' : p < q := of_decide_eq_true hpq
          obtain ⟨X, Y, X1, X0, Y1, Y0, XY, hs⟩ := back_two HT.out (A := q) (B := p) (by omega) (by omega) (by omega)
          have SA := fun v S h1 h2 h3 => state_c t ca S v h1 h2 h3 q
          have SB := fun v S h1 h2 h3 => state_c t ca S v h1 h2 h3 p
          cases HX : X.right with
          | false =>
            rw [(X0 HX).1, (X0 HX).2] at SA
            clear X1 X0 Y1 Y0 XY hs HX
            go_wp2_with (first
              | (with_reducible refine fm_loadG F3 0 rfl (o := ⟨some 18, .load 24 (.tmp 3), _, _, _, _⟩) (by with_unfolding_all rfl) (.tmp 3) rfl rfl hca.1 ?_)
              | (go_at_call 49; refine (SZ w3 _ (F3.ist (F3.mem 0 rfl)) (F3.glob G)).mono ?_
                 rintro e w4 ⟨rfl, m4⟩
                 have F4 := F3.call m4
                 clear m4 F3)
              | (with_reducible refine fm_loadG F4 0 rfl (o := ⟨some 23, .load 24 (.tmp 3), _, _, _, _⟩) (by with_unfolding_all rfl) (.tmp 3) rfl rfl hca.1 ?_)
              | (go_at_call 49; refine (SZ w4 _ (F4.ist (F4.mem 0 rfl)) (F4.glob G)).mono ?_
                 rintro e w5 ⟨rfl, m5⟩
                 have F5 := F4.call m5
                 clear m5 F4)
              | (with_reducible refine wpList_ran (o := ⟨some 28, _, _, _, _, _⟩) rfl (.int .i64 (max a 0)) (exec_max1 rfl rfl rfl) ?_)
              | (with_reducible refine wpList_ran (o := ⟨some 29, _, _, _, _, _⟩) rfl (.int .i64 (a1)) (RA _ _ rfl rfl rfl) ?_)
              | (with_reducible refine wpList_ran (o := ⟨some 30, _, _, _, _, _⟩) rfl (.int .i64 (p)) (PA _ _ rfl rfl rfl) ?_)
              | (with_reducible refine wpList_ran (o := ⟨some 32, _, _, _, _, _⟩) rfl (.int .i64 (max b 0)) (exec_max1 rfl rfl rfl) ?_)
              | (with_reducible refine wpList_ran (o := ⟨some 33, _, _, _, _, _⟩) rfl (.int .i64 (bm)) (RB1 _ _ rfl rfl rfl) ?_)
              | (with_reducible refine wpList_ran (o := ⟨some 34, _, _, _, _, _⟩) rfl (.int .i64 (q)) (PB _ _ rfl rfl rfl) ?_)
              | (with_reducible refine fm_load F5 0 rfl (o := ⟨some 41, .load 24 (.tmp 3), _, _, _, _⟩) rfl (.tmp 3) rfl rfl hca.1 ?_)
              | (go_at_call 44; refine (SA w5 _ (F5.ist (F5.mem 0 rfl)) (F5.ltm (F5.mem 0 rfl)) (F5.glob G)).mono ?_
                 rintro e w6 ⟨c6, rfl, h6, m6⟩
                 have hc6 := h6.ones
                 have F6 := F5.made m6 h6
                 clear h6 m6
                 clear F5)
              | (with_reducible refine fm_alloc F6 (o := ⟨some 7, .alloc 24, _, _, _, _⟩) rfl 24 rfl _ zero24 ?_; intro b7 w7 F7; clear F6)
              | (with_reducible refine fm_store F7 0 rfl (o := ⟨none, .store 24 (.tmp 7) (.tmp 44), _, _, _, _⟩) rfl (.tmp 7) (.tmp 44) rfl rfl (c6) rfl rfl hc6.1 (tmc_len _ _ _ _ _ _ _) hc6.2 ?_; intro w8 F8; clear F7)
              | (with_reducible refine fm_load F8 1 rfl (o := ⟨some 47, .load 24 (.tmp 3), _, _, _, _⟩) rfl (.tmp 3) rfl rfl hca.1 ?_)
              | (go_at_call 44; refine (SB w8 _ (F8.ist (F8.mem 1 rfl)) (F8.ltm (F8.mem 1 rfl)) (F8.glob G)).mono ?_
                 rintro e w9 ⟨c9, rfl, h9, m9⟩
                 have hc9 := h9.ones
                 have F9 := F8.made m9 h9
                 clear h9 m9
                 clear F8)
              | (with_reducible refine fm_alloc F9 (o := ⟨some 9, .alloc 24, _, _, _, _⟩) rfl 24 rfl _ zero24 ?_; intro b10 w10 F10; clear F9)
              | (with_reducible refine fm_store F10 0 rfl (o := ⟨none, .store 24 (.tmp 9) (.tmp 50), _, _, _, _⟩) rfl (.tmp 9) (.tmp 50) rfl rfl (c9) rfl rfl hc9.1 (tmc_len _ _ _ _ _ _ _) hc9.2 ?_; intro w11 F11; clear F10))
            go_ret
            exact ⟨rfl, F11.m⟩
          | true =>
            rw [(X1 HX).1, (X1 HX).2] at SA
            cases HY : Y.right with
            | false =>
              rw [(Y0 HY).1, (Y0 HY).2] at SB
              clear X1 X0 Y1 Y0 XY hs HX HY
              go_wp2_with (first
                | (with_reducible refine fm_loadG F3 0 rfl (o := ⟨some 18, .load 24 (.tmp 3), _, _, _, _⟩) (by with_unfolding_all rfl) (.tmp 3) rfl rfl hca.1 ?_)
                | (go_at_call 49; refine (SZ w3 _ (F3.ist (F3.mem 0 rfl)) (F3.glob G)).mono ?_
                   rintro e w4 ⟨rfl, m4⟩
                   have F4 := F3.call m4
                   clear m4 F3)
                | (with_reducible refine fm_loadG F4 0 rfl (o := ⟨some 23, .load 24 (.tmp 3), _, _, _, _⟩) (by with_unfolding_all rfl) (.tmp 3) rfl rfl hca.1 ?_)
                | (go_at_call 49; refine (SZ w4 _ (F4.ist (F4.mem 0 rfl)) (F4.glob G)).mono ?_
                   rintro e w5 ⟨rfl, m5⟩
                   have F5 := F4.call m5
                   clear m5 F4)
                | (with_reducible refine wpList_ran (o := ⟨some 28, _, _, _, _, _⟩) rfl (.int .i64 (max a 0)) (exec_max1 rfl rfl rfl) ?_)
                | (with_reducible refine wpList_ran (o := ⟨some 29, _, _, _, _, _⟩) rfl (.int .i64 (a1)) (RA _ _ rfl rfl rfl) ?_)
                | (with_reducible refine wpList_ran (o := ⟨some 30, _, _, _, _, _⟩) rfl (.int .i64 (p)) (PA _ _ rfl rfl rfl) ?_)
                | (with_reducible refine wpList_ran (o := ⟨some 32, _, _, _, _, _⟩) rfl (.int .i64 (max b 0)) (exec_max1 rfl rfl rfl) ?_)
                | (with_reducible refine wpList_ran (o := ⟨some 33, _, _, _, _, _⟩) rfl (.int .i64 (bm)) (RB1 _ _ rfl rfl rfl) ?_)
                | (with_reducible refine wpList_ran (o := ⟨some 34, _, _, _, _, _⟩) rfl (.int .i64 (q)) (PB _ _ rfl rfl rfl) ?_)
                | (with_reducible refine fm_load F5 0 rfl (o := ⟨some 41, .load 24 (.tmp 3), _, _, _, _⟩) rfl (.tmp 3) rfl rfl hca.1 ?_)
                | (go_at_call 44; refine (SA w5 _ (F5.ist (F5.mem 0 rfl)) (F5.ltm (F5.mem 0 rfl)) (F5.glob G)).mono ?_
                   rintro e w6 ⟨c6, rfl, h6, m6⟩
                   have hc6 := h6.ones
                   have F6 := F5.made m6 h6
                   clear h6 m6
                   clear F5)
                | (with_reducible refine fm_alloc F6 (o := ⟨some 7, .alloc 24, _, _, _, _⟩) rfl 24 rfl _ zero24 ?_; intro b7 w7 F7; clear F6)
                | (with_reducible refine fm_store F7 0 rfl (o := ⟨none, .store 24 (.tmp 7) (.tmp 44), _, _, _, _⟩) rfl (.tmp 7) (.tmp 44) rfl rfl (c6) rfl rfl hc6.1 (tmc_len _ _ _ _ _ _ _) hc6.2 ?_; intro w8 F8; clear F7)
                | (with_reducible refine fm_load F8 1 rfl (o := ⟨some 47, .load 24 (.tmp 3), _, _, _, _⟩) rfl (.tmp 3) rfl rfl hca.1 ?_)
                | (go_at_call 44; refine (SB w8 _ (F8.ist (F8.mem 1 rfl)) (F8.ltm (F8.mem 1 rfl)) (F8.glob G)).mono ?_
                   rintro e w9 ⟨c9, rfl, h9, m9⟩
                   have hc9 := h9.ones
                   have F9 := F8.made m9 h9
                   clear h9 m9
                   clear F8)
                | (with_reducible refine fm_alloc F9 (o := ⟨some 9, .alloc 24, _, _, _, _⟩) rfl 24 rfl _ zero24 ?_; intro b10 w10 F10; clear F9)
                | (with_reducible refine fm_store F10 0 rfl (o := ⟨none, .store 24 (.tmp 9) (.tmp 50), _, _, _, _⟩) rfl (.tmp 9) (.tmp 50) rfl rfl (c9) rfl rfl hc9.1 (tmc_len _ _ _ _ _ _ _) hc9.2 ?_; intro w11 F11; clear F10))
              go_ret
              exact ⟨rfl, F11.m⟩
            | true =>
              rw [(Y1 HY).1, (Y1 HY).2] at SB
              have BK := fun v cs S h1 h2 h3 => back_c X cs S v h1 h2 h3 q p
              rw [(XY HX HY).1, (XY HX HY).2] at BK
              clear X1 X0 Y1 Y0 XY HX HY
              cases he : (q == p) with
              | true =>
                rw [he] at hs
                go_wp2_with (first
                  | (with_reducible refine fm_loadG F3 0 rfl (o := ⟨some 18, .load 24 (.tmp 3), _, _, _, _⟩) (by with_unfolding_all rfl) (.tmp 3) rfl rfl hca.1 ?_)
                  | (go_at_call 49; refine (SZ w3 _ (F3.ist (F3.mem 0 rfl)) (F3.glob G)).mono ?_
                     rintro e w4 ⟨rfl, m4⟩
                     have F4 := F3.call m4
                     clear m4 F3)
                  | (with_reducible refine fm_loadG F4 0 rfl (o := ⟨some 23, .load 24 (.tmp 3), _, _, _, _⟩) (by with_unfolding_all rfl) (.tmp 3) rfl rfl hca.1 ?_)
                  | (go_at_call 49; refine (SZ w4 _ (F4.ist (F4.mem 0 rfl)) (F4.glob G)).mono ?_
                     rintro e w5 ⟨rfl, m5⟩
                     have F5 := F4.call m5
                     clear m5 F4)
                  | (with_reducible refine wpList_ran (o := ⟨some 28, _, _, _, _, _⟩) rfl (.int .i64 (max a 0)) (exec_max1 rfl rfl rfl) ?_)
                  | (with_reducible refine wpList_ran (o := ⟨some 29, _, _, _, _, _⟩) rfl (.int .i64 (a1)) (RA _ _ rfl rfl rfl) ?_)
                  | (with_reducible refine wpList_ran (o := ⟨some 30, _, _, _, _, _⟩) rfl (.int .i64 (p)) (PA _ _ rfl rfl rfl) ?_)
                  | (with_reducible refine wpList_ran (o := ⟨some 32, _, _, _, _, _⟩) rfl (.int .i64 (max b 0)) (exec_max1 rfl rfl rfl) ?_)
                  | (with_reducible refine wpList_ran (o := ⟨some 33, _, _, _, _, _⟩) rfl (.int .i64 (bm)) (RB1 _ _ rfl rfl rfl) ?_)
                  | (with_reducible refine wpList_ran (o := ⟨some 34, _, _, _, _, _⟩) rfl (.int .i64 (q)) (PB _ _ rfl rfl rfl) ?_)
                  | (with_reducible refine fm_load F5 0 rfl (o := ⟨some 41, .load 24 (.tmp 3), _, _, _, _⟩) rfl (.tmp 3) rfl rfl hca.1 ?_)
                  | (go_at_call 44; refine (SA w5 _ (F5.ist (F5.mem 0 rfl)) (F5.ltm (F5.mem 0 rfl)) (F5.glob G)).mono ?_
                     rintro e w6 ⟨c6, rfl, h6, m6⟩
                     have hc6 := h6.ones
                     have F6 := F5.made m6 h6
                     clear h6 m6
                     clear F5)
                  | (with_reducible refine fm_alloc F6 (o := ⟨some 7, .alloc 24, _, _, _, _⟩) rfl 24 rfl _ zero24 ?_; intro b7 w7 F7; clear F6)
                  | (with_reducible refine fm_store F7 0 rfl (o := ⟨none, .store 24 (.tmp 7) (.tmp 44), _, _, _, _⟩) rfl (.tmp 7) (.tmp 44) rfl rfl (c6) rfl rfl hc6.1 (tmc_len _ _ _ _ _ _ _) hc6.2 ?_; intro w8 F8; clear F7)
                  | (with_reducible refine fm_load F8 1 rfl (o := ⟨some 47, .load 24 (.tmp 3), _, _, _, _⟩) rfl (.tmp 3) rfl rfl hca.1 ?_)
                  | (go_at_call 44; refine (SB w8 _ (F8.ist (F8.mem 1 rfl)) (F8.ltm (F8.mem 1 rfl)) (F8.glob G)).mono ?_
                     rintro e w9 ⟨c9, rfl, h9, m9⟩
                     have hc9 := h9.ones
                     have F9 := F8.made m9 h9
                     clear h9 m9
                     clear F8)
                  | (with_reducible refine fm_alloc F9 (o := ⟨some 9, .alloc 24, _, _, _, _⟩) rfl 24 rfl _ zero24 ?_; intro b10 w10 F10; clear F9)
                  | (with_reducible refine fm_store F10 0 rfl (o := ⟨none, .store 24 (.tmp 9) (.tmp 50), _, _, _, _⟩) rfl (.tmp 9) (.tmp 50) rfl rfl (c9) rfl rfl hc9.1 (tmc_len _ _ _ _ _ _ _) hc9.2 ?_; intro w11 F11; clear F10)
                  | (with_reducible refine fm_load F11 1 rfl (o := ⟨some 65, .load 24 (.tmp 7), _, _, _, _⟩) rfl (.tmp 7) rfl rfl hc6.1 ?_)
                  | (go_at_call 46; refine (BK w11 _ _ (F11.ist (F11.mem 1 rfl)) (F11.ltm (F11.mem 1 rfl)) (F11.glob G)).mono ?_
                     rintro e w12 ⟨c12, rfl, h12, m12⟩
                     have hc12 := h12.ones
                     have F12 := F11.made m12 h12
                     clear h12 m12
                     clear F11)
                  | (with_reducible refine fm_alloc F12 (o := ⟨some 11, .alloc 24, _, _, _, _⟩) rfl 24 rfl _ zero24 ?_; intro b13 w13 F13; clear F12)
                  | (with_reducible refine fm_store F13 0 rfl (o := ⟨none, .store 24 (.tmp 11) (.tmp 69), _, _, _, _⟩) rfl (.tmp 11) (.tmp 69) rfl rfl (c12) rfl rfl hc12.1 (tmc_len _ _ _ _ _ _ _) hc12.2 ?_; intro w14 F14; clear F13)
                  | (with_reducible refine fm_loadG F14 1 rfl (o := ⟨some 74, .load 24 (.tmp 9), _, _, _, _⟩) (by with_unfolding_all rfl) (.tmp 9) rfl rfl hc9.1 ?_)
                  | (with_reducible refine fm_loadG F14 0 rfl (o := ⟨some 75, .load 24 (.tmp 11), _, _, _, _⟩) (by with_unfolding_all rfl) (.tmp 11) rfl rfl hc12.1 ?_)
                  | (go_at_call 33; refine (psame_c _ _ _ _ _ _ true w14 (same_rfl _) (F14.ist (F14.mem 1 rfl)) (F14.ist (F14.mem 0 rfl))).mono ?_
                     rintro e w15 ⟨rfl, m15⟩
                     have F15 := F14.call m15
                     clear m15 F14)
                  | (with_reducible refine fm_loadG F15 2 rfl (o := ⟨some 82, .load 24 (.tmp 7), _, _, _, _⟩) (by with_unfolding_all rfl) (.tmp 7) rfl rfl hc6.1 ?_)
                  | (with_reducible refine fm_loadG F15 1 rfl (o := ⟨some 83, .load 24 (.tmp 9), _, _, _, _⟩) (by with_unfolding_all rfl) (.tmp 9) rfl rfl hc9.1 ?_)
                  | (go_at_call 33; refine (psame_c _ _ _ _ _ _ true w15 hs (F15.ist (F15.mem 2 rfl)) (F15.ist (F15.mem 1 rfl))).mono ?_
                     rintro e w16 ⟨rfl, m16⟩
                     have F16 := F15.call m16
                     clear m16 F15))
                go_ret
                exact ⟨rfl, F16.m⟩
              | false =>
                rw [he] at hs
                go_wp2_with (first
                  | (with_reducible refine fm_loadG F3 0 rfl (o := ⟨some 18, .load 24 (.tmp 3), _, _, _, _⟩) (by with_unfolding_all rfl) (.tmp 3) rfl rfl hca.1 ?_)
                  | (go_at_call 49; refine (SZ w3 _ (F3.ist (F3.mem 0 rfl)) (F3.glob G)).mono ?_
                     rintro e w4 ⟨rfl, m4⟩
                     have F4 := F3.call m4
                     clear m4 F3)
                  | (with_reducible refine fm_loadG F4 0 rfl (o := ⟨some 23, .load 24 (.tmp 3), _, _, _, _⟩) (by with_unfolding_all rfl) (.tmp 3) rfl rfl hca.1 ?_)
                  | (go_at_call 49; refine (SZ w4 _ (F4.ist (F4.mem 0 rfl)) (F4.glob G)).mono ?_
                     rintro e w5 ⟨rfl, m5⟩
                     have F5 := F4.call m5
                     clear m5 F4)
                  | (with_reducible refine wpList_ran (o := ⟨some 28, _, _, _, _, _⟩) rfl (.int .i64 (max a 0)) (exec_max1 rfl rfl rfl) ?_)
                  | (with_reducible refine wpList_ran (o := ⟨some 29, _, _, _, _, _⟩) rfl (.int .i64 (a1)) (RA _ _ rfl rfl rfl) ?_)
                  | (with_reducible refine wpList_ran (o := ⟨some 30, _, _, _, _, _⟩) rfl (.int .i64 (p)) (PA _ _ rfl rfl rfl) ?_)
                  | (with_reducible refine wpList_ran (o := ⟨some 32, _, _, _, _, _⟩) rfl (.int .i64 (max b 0)) (exec_max1 rfl rfl rfl) ?_)
                  | (with_reducible refine wpList_ran (o := ⟨some 33, _, _, _, _, _⟩) rfl (.int .i64 (bm)) (RB1 _ _ rfl rfl rfl) ?_)
                  | (with_reducible refine wpList_ran (o := ⟨some 34, _, _, _, _, _⟩) rfl (.int .i64 (q)) (PB _ _ rfl rfl rfl) ?_)
                  | (with_reducible refine fm_load F5 0 rfl (o := ⟨some 41, .load 24 (.tmp 3), _, _, _, _⟩) rfl (.tmp 3) rfl rfl hca.1 ?_)
                  | (go_at_call 44; refine (SA w5 _ (F5.ist (F5.mem 0 rfl)) (F5.ltm (F5.mem 0 rfl)) (F5.glob G)).mono ?_
                     rintro e w6 ⟨c6, rfl, h6, m6⟩
                     have hc6 := h6.ones
                     have F6 := F5.made m6 h6
                     clear h6 m6
                     clear F5)
                  | (with_reducible refine fm_alloc F6 (o := ⟨some 7, .alloc 24, _, _, _, _⟩) rfl 24 rfl _ zero24 ?_; intro b7 w7 F7; clear F6)
                  | (with_reducible refine fm_store F7 0 rfl (o := ⟨none, .store 24 (.tmp 7) (.tmp 44), _, _, _, _⟩) rfl (.tmp 7) (.tmp 44) rfl rfl (c6) rfl rfl hc6.1 (tmc_len _ _ _ _ _ _ _) hc6.2 ?_; intro w8 F8; clear F7)
                  | (with_reducible refine fm_load F8 1 rfl (o := ⟨some 47, .load 24 (.tmp 3), _, _, _, _⟩) rfl (.tmp 3) rfl rfl hca.1 ?_)
                  | (go_at_call 44; refine (SB w8 _ (F8.ist (F8.mem 1 rfl)) (F8.ltm (F8.mem 1 rfl)) (F8.glob G)).mono ?_
                     rintro e w9 ⟨c9, rfl, h9, m9⟩
                     have hc9 := h9.ones
                     have F9 := F8.made m9 h9
                     clear h9 m9
                     clear F8)
                  | (with_reducible refine fm_alloc F9 (o := ⟨some 9, .alloc 24, _, _, _, _⟩) rfl 24 rfl _ zero24 ?_; intro b10 w10 F10; clear F9)
                  | (with_reducible refine fm_store F10 0 rfl (o := ⟨none, .store 24 (.tmp 9) (.tmp 50), _, _, _, _⟩) rfl (.tmp 9) (.tmp 50) rfl rfl (c9) rfl rfl hc9.1 (tmc_len _ _ _ _ _ _ _) hc9.2 ?_; intro w11 F11; clear F10)
                  | (with_reducible refine fm_load F11 1 rfl (o := ⟨some 65, .load 24 (.tmp 7), _, _, _, _⟩) rfl (.tmp 7) rfl rfl hc6.1 ?_)
                  | (go_at_call 46; refine (BK w11 _ _ (F11.ist (F11.mem 1 rfl)) (F11.ltm (F11.mem 1 rfl)) (F11.glob G)).mono ?_
                     rintro e w12 ⟨c12, rfl, h12, m12⟩
                     have hc12 := h12.ones
                     have F12 := F11.made m12 h12
                     clear h12 m12
                     clear F11)
                  | (with_reducible refine fm_alloc F12 (o := ⟨some 11, .alloc 24, _, _, _, _⟩) rfl 24 rfl _ zero24 ?_; intro b13 w13 F13; clear F12)
                  | (with_reducible refine fm_store F13 0 rfl (o := ⟨none, .store 24 (.tmp 11) (.tmp 69), _, _, _, _⟩) rfl (.tmp 11) (.tmp 69) rfl rfl (c12) rfl rfl hc12.1 (tmc_len _ _ _ _ _ _ _) hc12.2 ?_; intro w14 F14; clear F13)
                  | (with_reducible refine fm_loadG F14 1 rfl (o := ⟨some 74, .load 24 (.tmp 9), _, _, _, _⟩) (by with_unfolding_all rfl) (.tmp 9) rfl rfl hc9.1 ?_)
                  | (with_reducible refine fm_loadG F14 0 rfl (o := ⟨some 75, .load 24 (.tmp 11), _, _, _, _⟩) (by with_unfolding_all rfl) (.tmp 11) rfl rfl hc12.1 ?_)
                  | (go_at_call 33; refine (psame_c _ _ _ _ _ _ true w14 (same_rfl _) (F14.ist (F14.mem 1 rfl)) (F14.ist (F14.mem 0 rfl))).mono ?_
                     rintro e w15 ⟨rfl, m15⟩
                     have F15 := F14.call m15
                     clear m15 F14)
                  | (with_reducible refine fm_loadG F15 2 rfl (o := ⟨some 82, .load 24 (.tmp 7), _, _, _, _⟩) (by with_unfolding_all rfl) (.tmp 7) rfl rfl hc6.1 ?_)
                  | (with_reducible refine fm_loadG F15 1 rfl (o := ⟨some 83, .load 24 (.tmp 9), _, _, _, _⟩) (by with_unfolding_all rfl) (.tmp 9) rfl rfl hc9.1 ?_)
                  | (go_at_call 33; refine (psame_c _ _ _ _ _ _ false w15 hs (F15.ist (F15.mem 2 rfl)) (F15.ist (F15.mem 1 rfl))).mono ?_
                     rintro e w16 ⟨rfl, m16⟩
                     have F16 := F15.call m16
                     clear m16 F15))
                go_ret
                exact ⟨rfl, F16.m⟩

        | false =>
          have hpq' : q ≤ p := by have := of_decide_eq_false hpq; omega
          obtain ⟨X, Y, X1, X0, Y1, Y0, XY, hs⟩ := back_two HT.out (A := p) (B := q) (by omega) (by omega) (by omega)
          have SA := fun v S h1 h2 h3 => state_c t ca S v h1 h2 h3 p
          have SB := fun v S h1 h2 h3 => state_c t ca S v h1 h2 h3 q
          cases HX : X.right with
          | false =>
            rw [(X0 HX).1, (X0 HX).2] at SA
            clear X1 X0 Y1 Y0 XY hs HX
            go_wp2_with (first
              | (with_reducible refine fm_loadG F3 0 rfl (o := ⟨some 18, .load 24 (.tmp 3), _, _, _, _⟩) (by with_unfolding_all rfl) (.tmp 3) rfl rfl hca.1 ?_)
              | (go_at_call 49; refine (SZ w3 _ (F3.ist (F3.mem 0 rfl)) (F3.glob G)).mono ?_
                 rintro e w4 ⟨rfl, m4⟩
                 have F4 := F3.call m4
                 clear m4 F3)
              | (with_reducible refine fm_loadG F4 0 rfl (o := ⟨some 23, .load 24 (.tmp 3), _, _, _, _⟩) (by with_unfolding_all rfl) (.tmp 3) rfl rfl hca.1 ?_)
              | (go_at_call 49; refine (SZ w4 _ (F4.ist (F4.mem 0 rfl)) (F4.glob G)).mono ?_
                 rintro e w5 ⟨rfl, m5⟩
                 have F5 := F4.call m5
                 clear m5 F4)
              | (with_reducible refine wpList_ran (o := ⟨some 28, _, _, _, _, _⟩) rfl (.int .i64 (max a 0)) (exec_max1 rfl rfl rfl) ?_)
              | (with_reducible refine wpList_ran (o := ⟨some 29, _, _, _, _, _⟩) rfl (.int .i64 (a1)) (RA _ _ rfl rfl rfl) ?_)
              | (with_reducible refine wpList_ran (o := ⟨some 30, _, _, _, _, _⟩) rfl (.int .i64 (p)) (PA _ _ rfl rfl rfl) ?_)
              | (with_reducible refine wpList_ran (o := ⟨some 32, _, _, _, _, _⟩) rfl (.int .i64 (max b 0)) (exec_max1 rfl rfl rfl) ?_)
              | (with_reducible refine wpList_ran (o := ⟨some 33, _, _, _, _, _⟩) rfl (.int .i64 (bm)) (RB1 _ _ rfl rfl rfl) ?_)
              | (with_reducible refine wpList_ran (o := ⟨some 34, _, _, _, _, _⟩) rfl (.int .i64 (q)) (PB _ _ rfl rfl rfl) ?_)
              | (with_reducible refine fm_load F5 0 rfl (o := ⟨some 41, .load 24 (.tmp 3), _, _, _, _⟩) rfl (.tmp 3) rfl rfl hca.1 ?_)
              | (go_at_call 44; refine (SA w5 _ (F5.ist (F5.mem 0 rfl)) (F5.ltm (F5.mem 0 rfl)) (F5.glob G)).mono ?_
                 rintro e w6 ⟨c6, rfl, h6, m6⟩
                 have hc6 := h6.ones
                 have F6 := F5.made m6 h6
                 clear h6 m6
                 clear F5)
              | (with_reducible refine fm_alloc F6 (o := ⟨some 7, .alloc 24, _, _, _, _⟩) rfl 24 rfl _ zero24 ?_; intro b7 w7 F7; clear F6)
              | (with_reducible refine fm_store F7 0 rfl (o := ⟨none, .store 24 (.tmp 7) (.tmp 44), _, _, _, _⟩) rfl (.tmp 7) (.tmp 44) rfl rfl (c6) rfl rfl hc6.1 (tmc_len _ _ _ _ _ _ _) hc6.2 ?_; intro w8 F8; clear F7)
              | (with_reducible refine fm_load F8 1 rfl (o := ⟨some 47, .load 24 (.tmp 3), _, _, _, _⟩) rfl (.tmp 3) rfl rfl hca.1 ?_)
              | (go_at_call 44; refine (SB w8 _ (F8.ist (F8.mem 1 rfl)) (F8.ltm (F8.mem 1 rfl)) (F8.glob G)).mono ?_
                 rintro e w9 ⟨c9, rfl, h9, m9⟩
                 have hc9 := h9.ones
                 have F9 := F8.made m9 h9
                 clear h9 m9
                 clear F8)
              | (with_reducible refine fm_alloc F9 (o := ⟨some 9, .alloc 24, _, _, _, _⟩) rfl 24 rfl _ zero24 ?_; intro b10 w10 F10; clear F9)
              | (with_reducible refine fm_store F10 0 rfl (o := ⟨none, .store 24 (.tmp 9) (.tmp 50), _, _, _, _⟩) rfl (.tmp 9) (.tmp 50) rfl rfl (c9) rfl rfl hc9.1 (tmc_len _ _ _ _ _ _ _) hc9.2 ?_; intro w11 F11; clear F10))
            go_ret
            exact ⟨rfl, F11.m⟩
          | true =>
            rw [(X1 HX).1, (X1 HX).2] at SA
            cases HY : Y.right with
            | false =>
              rw [(Y0 HY).1, (Y0 HY).2] at SB
              clear X1 X0 Y1 Y0 XY hs HX HY
              go_wp2_with (first
                | (with_reducible refine fm_loadG F3 0 rfl (o := ⟨some 18, .load 24 (.tmp 3), _, _, _, _⟩) (by with_unfolding_all rfl) (.tmp 3) rfl rfl hca.1 ?_)
                | (go_at_call 49; refine (SZ w3 _ (F3.ist (F3.mem 0 rfl)) (F3.glob G)).mono ?_
                   rintro e w4 ⟨rfl, m4⟩
                   have F4 := F3.call m4
                   clear m4 F3)
                | (with_reducible refine fm_loadG F4 0 rfl (o := ⟨some 23, .load 24 (.tmp 3), _, _, _, _⟩) (by with_unfolding_all rfl) (.tmp 3) rfl rfl hca.1 ?_)
                | (go_at_call 49; refine (SZ w4 _ (F4.ist (F4.mem 0 rfl)) (F4.glob G)).mono ?_
                   rintro e w5 ⟨rfl, m5⟩
                   have F5 := F4.call m5
                   clear m5 F4)
                | (with_reducible refine wpList_ran (o := ⟨some 28, _, _, _, _, _⟩) rfl (.int .i64 (max a 0)) (exec_max1 rfl rfl rfl) ?_)
                | (with_reducible refine wpList_ran (o := ⟨some 29, _, _, _, _, _⟩) rfl (.int .i64 (a1)) (RA _ _ rfl rfl rfl) ?_)
                | (with_reducible refine wpList_ran (o := ⟨some 30, _, _, _, _, _⟩) rfl (.int .i64 (p)) (PA _ _ rfl rfl rfl) ?_)
                | (with_reducible refine wpList_ran (o := ⟨some 32, _, _, _, _, _⟩) rfl (.int .i64 (max b 0)) (exec_max1 rfl rfl rfl) ?_)
                | (with_reducible refine wpList_ran (o := ⟨some 33, _, _, _, _, _⟩) rfl (.int .i64 (bm)) (RB1 _ _ rfl rfl rfl) ?_)
                | (with_reducible refine wpList_ran (o := ⟨some 34, _, _, _, _, _⟩) rfl (.int .i64 (q)) (PB _ _ rfl rfl rfl) ?_)
                | (with_reducible refine fm_load F5 0 rfl (o := ⟨some 41, .load 24 (.tmp 3), _, _, _, _⟩) rfl (.tmp 3) rfl rfl hca.1 ?_)
                | (go_at_call 44; refine (SA w5 _ (F5.ist (F5.mem 0 rfl)) (F5.ltm (F5.mem 0 rfl)) (F5.glob G)).mono ?_
                   rintro e w6 ⟨c6, rfl, h6, m6⟩
                   have hc6 := h6.ones
                   have F6 := F5.made m6 h6
                   clear h6 m6
                   clear F5)
                | (with_reducible refine fm_alloc F6 (o := ⟨some 7, .alloc 24, _, _, _, _⟩) rfl 24 rfl _ zero24 ?_; intro b7 w7 F7; clear F6)
                | (with_reducible refine fm_store F7 0 rfl (o := ⟨none, .store 24 (.tmp 7) (.tmp 44), _, _, _, _⟩) rfl (.tmp 7) (.tmp 44) rfl rfl (c6) rfl rfl hc6.1 (tmc_len _ _ _ _ _ _ _) hc6.2 ?_; intro w8 F8; clear F7)
                | (with_reducible refine fm_load F8 1 rfl (o := ⟨some 47, .load 24 (.tmp 3), _, _, _, _⟩) rfl (.tmp 3) rfl rfl hca.1 ?_)
                | (go_at_call 44; refine (SB w8 _ (F8.ist (F8.mem 1 rfl)) (F8.ltm (F8.mem 1 rfl)) (F8.glob G)).mono ?_
                   rintro e w9 ⟨c9, rfl, h9, m9⟩
                   have hc9 := h9.ones
                   have F9 := F8.made m9 h9
                   clear h9 m9
                   clear F8)
                | (with_reducible refine fm_alloc F9 (o := ⟨some 9, .alloc 24, _, _, _, _⟩) rfl 24 rfl _ zero24 ?_; intro b10 w10 F10; clear F9)
                | (with_reducible refine fm_store F10 0 rfl (o := ⟨none, .store 24 (.tmp 9) (.tmp 50), _, _, _, _⟩) rfl (.tmp 9) (.tmp 50) rfl rfl (c9) rfl rfl hc9.1 (tmc_len _ _ _ _ _ _ _) hc9.2 ?_; intro w11 F11; clear F10))
              go_ret
              exact ⟨rfl, F11.m⟩
            | true =>
              rw [(Y1 HY).1, (Y1 HY).2] at SB
              have BK := fun v cs S h1 h2 h3 => back_c X cs S v h1 h2 h3 p q
              rw [(XY HX HY).1, (XY HX HY).2] at BK
              clear X1 X0 Y1 Y0 XY HX HY
              cases he : (p == q) with
              | true =>
                rw [he] at hs
                go_wp2_with (first
                  | (with_reducible refine fm_loadG F3 0 rfl (o := ⟨some 18, .load 24 (.tmp 3), _, _, _, _⟩) (by with_unfolding_all rfl) (.tmp 3) rfl rfl hca.1 ?_)
                  | (go_at_call 49; refine (SZ w3 _ (F3.ist (F3.mem 0 rfl)) (F3.glob G)).mono ?_
                     rintro e w4 ⟨rfl, m4⟩
                     have F4 := F3.call m4
                     clear m4 F3)
                  | (with_reducible refine fm_loadG F4 0 rfl (o := ⟨some 23, .load 24 (.tmp 3), _, _, _, _⟩) (by with_unfolding_all rfl) (.tmp 3) rfl rfl hca.1 ?_)
                  | (go_at_call 49; refine (SZ w4 _ (F4.ist (F4.mem 0 rfl)) (F4.glob G)).mono ?_
                     rintro e w5 ⟨rfl, m5⟩
                     have F5 := F4.call m5
                     clear m5 F4)
                  | (with_reducible refine wpList_ran (o := ⟨some 28, _, _, _, _, _⟩) rfl (.int .i64 (max a 0)) (exec_max1 rfl rfl rfl) ?_)
                  | (with_reducible refine wpList_ran (o := ⟨some 29, _, _, _, _, _⟩) rfl (.int .i64 (a1)) (RA _ _ rfl rfl rfl) ?_)
                  | (with_reducible refine wpList_ran (o := ⟨some 30, _, _, _, _, _⟩) rfl (.int .i64 (p)) (PA _ _ rfl rfl rfl) ?_)
                  | (with_reducible refine wpList_ran (o := ⟨some 32, _, _, _, _, _⟩) rfl (.int .i64 (max b 0)) (exec_max1 rfl rfl rfl) ?_)
                  | (with_reducible refine wpList_ran (o := ⟨some 33, _, _, _, _, _⟩) rfl (.int .i64 (bm)) (RB1 _ _ rfl rfl rfl) ?_)
                  | (with_reducible refine wpList_ran (o := ⟨some 34, _, _, _, _, _⟩) rfl (.int .i64 (q)) (PB _ _ rfl rfl rfl) ?_)
                  | (with_reducible refine fm_load F5 0 rfl (o := ⟨some 41, .load 24 (.tmp 3), _, _, _, _⟩) rfl (.tmp 3) rfl rfl hca.1 ?_)
                  | (go_at_call 44; refine (SA w5 _ (F5.ist (F5.mem 0 rfl)) (F5.ltm (F5.mem 0 rfl)) (F5.glob G)).mono ?_
                     rintro e w6 ⟨c6, rfl, h6, m6⟩
                     have hc6 := h6.ones
                     have F6 := F5.made m6 h6
                     clear h6 m6
                     clear F5)
                  | (with_reducible refine fm_alloc F6 (o := ⟨some 7, .alloc 24, _, _, _, _⟩) rfl 24 rfl _ zero24 ?_; intro b7 w7 F7; clear F6)
                  | (with_reducible refine fm_store F7 0 rfl (o := ⟨none, .store 24 (.tmp 7) (.tmp 44), _, _, _, _⟩) rfl (.tmp 7) (.tmp 44) rfl rfl (c6) rfl rfl hc6.1 (tmc_len _ _ _ _ _ _ _) hc6.2 ?_; intro w8 F8; clear F7)
                  | (with_reducible refine fm_load F8 1 rfl (o := ⟨some 47, .load 24 (.tmp 3), _, _, _, _⟩) rfl (.tmp 3) rfl rfl hca.1 ?_)
                  | (go_at_call 44; refine (SB w8 _ (F8.ist (F8.mem 1 rfl)) (F8.ltm (F8.mem 1 rfl)) (F8.glob G)).mono ?_
                     rintro e w9 ⟨c9, rfl, h9, m9⟩
                     have hc9 := h9.ones
                     have F9 := F8.made m9 h9
                     clear h9 m9
                     clear F8)
                  | (with_reducible refine fm_alloc F9 (o := ⟨some 9, .alloc 24, _, _, _, _⟩) rfl 24 rfl _ zero24 ?_; intro b10 w10 F10; clear F9)
                  | (with_reducible refine fm_store F10 0 rfl (o := ⟨none, .store 24 (.tmp 9) (.tmp 50), _, _, _, _⟩) rfl (.tmp 9) (.tmp 50) rfl rfl (c9) rfl rfl hc9.1 (tmc_len _ _ _ _ _ _ _) hc9.2 ?_; intro w11 F11; clear F10)
                  | (with_reducible refine fm_load F11 1 rfl (o := ⟨some 65, .load 24 (.tmp 7), _, _, _, _⟩) rfl (.tmp 7) rfl rfl hc6.1 ?_)
                  | (go_at_call 46; refine (BK w11 _ _ (F11.ist (F11.mem 1 rfl)) (F11.ltm (F11.mem 1 rfl)) (F11.glob G)).mono ?_
                     rintro e w12 ⟨c12, rfl, h12, m12⟩
                     have hc12 := h12.ones
                     have F12 := F11.made m12 h12
                     clear h12 m12
                     clear F11)
                  | (with_reducible refine fm_alloc F12 (o := ⟨some 11, .alloc 24, _, _, _, _⟩) rfl 24 rfl _ zero24 ?_; intro b13 w13 F13; clear F12)
                  | (with_reducible refine fm_store F13 0 rfl (o := ⟨none, .store 24 (.tmp 11) (.tmp 69), _, _, _, _⟩) rfl (.tmp 11) (.tmp 69) rfl rfl (c12) rfl rfl hc12.1 (tmc_len _ _ _ _ _ _ _) hc12.2 ?_; intro w14 F14; clear F13)
                  | (with_reducible refine fm_loadG F14 1 rfl (o := ⟨some 74, .load 24 (.tmp 9), _, _, _, _⟩) (by with_unfolding_all rfl) (.tmp 9) rfl rfl hc9.1 ?_)
                  | (with_reducible refine fm_loadG F14 0 rfl (o := ⟨some 75, .load 24 (.tmp 11), _, _, _, _⟩) (by with_unfolding_all rfl) (.tmp 11) rfl rfl hc12.1 ?_)
                  | (go_at_call 33; refine (psame_c _ _ _ _ _ _ true w14 (same_rfl _) (F14.ist (F14.mem 1 rfl)) (F14.ist (F14.mem 0 rfl))).mono ?_
                     rintro e w15 ⟨rfl, m15⟩
                     have F15 := F14.call m15
                     clear m15 F14)
                  | (with_reducible refine fm_loadG F15 2 rfl (o := ⟨some 82, .load 24 (.tmp 7), _, _, _, _⟩) (by with_unfolding_all rfl) (.tmp 7) rfl rfl hc6.1 ?_)
                  | (with_reducible refine fm_loadG F15 1 rfl (o := ⟨some 83, .load 24 (.tmp 9), _, _, _, _⟩) (by with_unfolding_all rfl) (.tmp 9) rfl rfl hc9.1 ?_)
                  | (go_at_call 33; refine (psame_c _ _ _ _ _ _ true w15 hs (F15.ist (F15.mem 2 rfl)) (F15.ist (F15.mem 1 rfl))).mono ?_
                     rintro e w16 ⟨rfl, m16⟩
                     have F16 := F15.call m16
                     clear m16 F15))
                go_ret
                exact ⟨rfl, F16.m⟩
              | false =>
                rw [he] at hs
                go_wp2_with (first
                  | (with_reducible refine fm_loadG F3 0 rfl (o := ⟨some 18, .load 24 (.tmp 3), _, _, _, _⟩) (by with_unfolding_all rfl) (.tmp 3) rfl rfl hca.1 ?_)
                  | (go_at_call 49; refine (SZ w3 _ (F3.ist (F3.mem 0 rfl)) (F3.glob G)).mono ?_
                     rintro e w4 ⟨rfl, m4⟩
                     have F4 := F3.call m4
                     clear m4 F3)
                  | (with_reducible refine fm_loadG F4 0 rfl (o := ⟨some 23, .load 24 (.tmp 3), _, _, _, _⟩) (by with_unfolding_all rfl) (.tmp 3) rfl rfl hca.1 ?_)
                  | (go_at_call 49; refine (SZ w4 _ (F4.ist (F4.mem 0 rfl)) (F4.glob G)).mono ?_
                     rintro e w5 ⟨rfl, m5⟩
                     have F5 := F4.call m5
                     clear m5 F4)
                  | (with_reducible refine wpList_ran (o := ⟨some 28, _, _, _, _, _⟩) rfl (.int .i64 (max a 0)) (exec_max1 rfl rfl rfl) ?_)
                  | (with_reducible refine wpList_ran (o := ⟨some 29, _, _, _, _, _⟩) rfl (.int .i64 (a1)) (RA _ _ rfl rfl rfl) ?_)
                  | (with_reducible refine wpList_ran (o := ⟨some 30, _, _, _, _, _⟩) rfl (.int .i64 (p)) (PA _ _ rfl rfl rfl) ?_)
                  | (with_reducible refine wpList_ran (o := ⟨some 32, _, _, _, _, _⟩) rfl (.int .i64 (max b 0)) (exec_max1 rfl rfl rfl) ?_)
                  | (with_reducible refine wpList_ran (o := ⟨some 33, _, _, _, _, _⟩) rfl (.int .i64 (bm)) (RB1 _ _ rfl rfl rfl) ?_)
                  | (with_reducible refine wpList_ran (o := ⟨some 34, _, _, _, _, _⟩) rfl (.int .i64 (q)) (PB _ _ rfl rfl rfl) ?_)
                  | (with_reducible refine fm_load F5 0 rfl (o := ⟨some 41, .load 24 (.tmp 3), _, _, _, _⟩) rfl (.tmp 3) rfl rfl hca.1 ?_)
                  | (go_at_call 44; refine (SA w5 _ (F5.ist (F5.mem 0 rfl)) (F5.ltm (F5.mem 0 rfl)) (F5.glob G)).mono ?_
                     rintro e w6 ⟨c6, rfl, h6, m6⟩
                     have hc6 := h6.ones
                     have F6 := F5.made m6 h6
                     clear h6 m6
                     clear F5)
                  | (with_reducible refine fm_alloc F6 (o := ⟨some 7, .alloc 24, _, _, _, _⟩) rfl 24 rfl _ zero24 ?_; intro b7 w7 F7; clear F6)
                  | (with_reducible refine fm_store F7 0 rfl (o := ⟨none, .store 24 (.tmp 7) (.tmp 44), _, _, _, _⟩) rfl (.tmp 7) (.tmp 44) rfl rfl (c6) rfl rfl hc6.1 (tmc_len _ _ _ _ _ _ _) hc6.2 ?_; intro w8 F8; clear F7)
                  | (with_reducible refine fm_load F8 1 rfl (o := ⟨some 47, .load 24 (.tmp 3), _, _, _, _⟩) rfl (.tmp 3) rfl rfl hca.1 ?_)
                  | (go_at_call 44; refine (SB w8 _ (F8.ist (F8.mem 1 rfl)) (F8.ltm (F8.mem 1 rfl)) (F8.glob G)).mono ?_
                     rintro e w9 ⟨c9, rfl, h9, m9⟩
                     have hc9 := h9.ones
                     have F9 := F8.made m9 h9
                     clear h9 m9
                     clear F8)
                  | (with_reducible refine fm_alloc F9 (o := ⟨some 9, .alloc 24, _, _, _, _⟩) rfl 24 rfl _ zero24 ?_; intro b10 w10 F10; clear F9)
                  | (with_reducible refine fm_store F10 0 rfl (o := ⟨none, .store 24 (.tmp 9) (.tmp 50), _, _, _, _⟩) rfl (.tmp 9) (.tmp 50) rfl rfl (c9) rfl rfl hc9.1 (tmc_len _ _ _ _ _ _ _) hc9.2 ?_; intro w11 F11; clear F10)
                  | (with_reducible refine fm_load F11 1 rfl (o := ⟨some 65, .load 24 (.tmp 7), _, _, _, _⟩) rfl (.tmp 7) rfl rfl hc6.1 ?_)
                  | (go_at_call 46; refine (BK w11 _ _ (F11.ist (F11.mem 1 rfl)) (F11.ltm (F11.mem 1 rfl)) (F11.glob G)).mono ?_
                     rintro e w12 ⟨c12, rfl, h12, m12⟩
                     have hc12 := h12.ones
                     have F12 := F11.made m12 h12
                     clear h12 m12
                     clear F11)
                  | (with_reducible refine fm_alloc F12 (o := ⟨some 11, .alloc 24, _, _, _, _⟩) rfl 24 rfl _ zero24 ?_; intro b13 w13 F13; clear F12)
                  | (with_reducible refine fm_store F13 0 rfl (o := ⟨none, .store 24 (.tmp 11) (.tmp 69), _, _, _, _⟩) rfl (.tmp 11) (.tmp 69) rfl rfl (c12) rfl rfl hc12.1 (tmc_len _ _ _ _ _ _ _) hc12.2 ?_; intro w14 F14; clear F13)
                  | (with_reducible refine fm_loadG F14 1 rfl (o := ⟨some 74, .load 24 (.tmp 9), _, _, _, _⟩) (by with_unfolding_all rfl) (.tmp 9) rfl rfl hc9.1 ?_)
                  | (with_reducible refine fm_loadG F14 0 rfl (o := ⟨some 75, .load 24 (.tmp 11), _, _, _, _⟩) (by with_unfolding_all rfl) (.tmp 11) rfl rfl hc12.1 ?_)
                  | (go_at_call 33; refine (psame_c _ _ _ _ _ _ true w14 (same_rfl _) (F14.ist (F14.mem 1 rfl)) (F14.ist (F14.mem 0 rfl))).mono ?_
                     rintro e w15 ⟨rfl, m15⟩
                     have F15 := F14.call m15
                     clear m15 F14)
                  | (with_reducible refine fm_loadG F15 2 rfl (o := ⟨some 82, .load 24 (.tmp 7), _, _, _, _⟩) (by with_unfolding_all rfl) (.tmp 7) rfl rfl hc6.1 ?_)
                  | (with_reducible refine fm_loadG F15 1 rfl (o := ⟨some 83, .load 24 (.tmp 9), _, _, _, _⟩) (by with_unfolding_all rfl) (.tmp 9) rfl rfl hc9.1 ?_)
                  | (go_at_call 33; refine (psame_c _ _ _ _ _ _ false w15 hs (F15.ist (F15.mem 2 rfl)) (F15.ist (F15.mem 1 rfl))).mono ?_
                     rintro e w16 ⟨rfl, m16⟩
                     have F16 := F15.call m16
                     clear m16 F15))
                go_ret
                exact ⟨rfl, F16.m⟩

end Go.Proofs.YtchanildogjhgaaDoor
