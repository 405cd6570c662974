/-
  RegressStates. My own work.
-/
import Derived.Test.YtchanildogjhgaaDoorRe
namespace Go.Proofs.YtchanildogjhgaaDoor
open Go.RowKit Go.Shelf
set_option linter.unusedVariables false
set_option linter.unusedSimpArgs false
set_option maxRecDepth 1000000 in
set_option maxHeartbeats 4000000 in
theorem states_w (t : Tm) (la : List Value) (f to : Int) (W : World) (hT : TIs W (Btw 0 W.heap.size) t la) (G : Glob W) : Calls Tryd.prog 9 #[.agg la.toArray, .int .i64 f, .int .i64 to] W fun e w' => e = .returned (.bool true) ∧ Mod [] W w' := by
  obtain ⟨w, hw⟩ : ∃ x, x = W := ⟨_, rfl⟩
  rw [← hw] at hT G ⊢
  obtain ⟨ca, hca'⟩ : ∃ x, x = la := ⟨_, rfl⟩
  rw [← hca'] at hT ⊢
  clear hw hca'
  have hca := hT.ones
  have OV := fun v (mv : Mod [] w v) => R9.over_c t ca w.heap.size v (hT.keep mv (by simp)) mv.size
  have FA := (Fm.nil w).argT hT (fun g hg => hg.2)
  clear hT
  have ST := fun v S h1 h2 h3 => state_c t ca S v h1 h2 h3 to
  have RT := fun v S h1 h2 => rback_c t ca S v h1 h2 8 to
  have BK := fun v S h1 h2 h3 => back_c t ca S v h1 h2 h3 f to
  have RB := fun v S h1 h2 => rback_c t ca S v h1 h2 f to
  obtain ⟨T1, hT1⟩ : ∃ x, x = backT t 8 to := ⟨_, rfl⟩
  obtain ⟨K1, hK1⟩ : ∃ x, x = backE t 8 to := ⟨_, rfl⟩
  obtain ⟨T2, hT2⟩ : ∃ x, x = backT t f to := ⟨_, rfl⟩
  obtain ⟨K2, hK2⟩ : ∃ x, x = backE t f to := ⟨_, rfl⟩
  rw [← hT1, ← hK1] at ST RT
  rw [← hT2, ← hK2] at BK RB
  have hK1' : (K1 == K1) = true := by simp
  have hK2' : (K2 == K2) = true := by simp
  clear hT1 hK1 hT2 hK2
  go_enter Tryd.func9, Tryd.ntmps9
  go_wp2_with (first
    | (with_reducible refine fm_box FA (o := ⟨some 3, .box 24 (.tmp 0), _, _, _, _⟩) rfl 24 (.tmp 0) rfl (ca) rfl ?_; intro b1 w1 F1; clear FA)
    | (go_at_call 42; refine (wakes9_c w1 (F1.glob G)).mono ?_
       rintro e w2 ⟨rfl, m2⟩
       have F2 := F1.call m2
       clear m2 F1)
    | (with_reducible refine fm_load F2 0 rfl (o := ⟨some 17, .load 24 (.tmp 3), _, _, _, _⟩) rfl (.tmp 3) rfl rfl hca.1 ?_))
  refine (OV w2 F2.m).mono ?_
  rintro e w3 ⟨ov3, rfl, m3⟩
  have F3 := F2.call m3
  clear m3
  clear F2
  cases ov3 with
  | true =>
    go_wp2_with fail
    go_ret
    exact ⟨rfl, F3.m⟩
  | false =>
    go_wp2_with (first
      | (with_reducible refine fm_load F3 0 rfl (o := ⟨some 20, .load 24 (.tmp 3), _, _, _, _⟩) rfl (.tmp 3) rfl rfl hca.1 ?_)
      | (go_at_call 44; refine (ST w3 _ (F3.ist (F3.mem 0 rfl)) (F3.ltm (F3.mem 0 rfl)) (F3.glob G)).mono ?_
         rintro e w4 ⟨c4, rfl, h4, m4⟩
         have hc4 := h4.ones
         have F4 := F3.made m4 h4
         clear h4 m4
         clear F3)
      | (with_reducible refine fm_alloc F4 (o := ⟨some 7, .alloc 24, _, _, _, _⟩) rfl 24 rfl _ zero24 ?_; intro b5 w5 F5; clear F4)
      | (with_reducible refine fm_store F5 0 rfl (o := ⟨none, .store 24 (.tmp 7) (.tmp 23), _, _, _, _⟩) rfl (.tmp 7) (.tmp 23) rfl rfl (c4) rfl rfl hc4.1 (tmc_len _ _ _ _ _ _ _) hc4.2 ?_; intro w6 F6; clear F5)
      | (with_reducible refine fm_load F6 1 rfl (o := ⟨some 26, .load 24 (.tmp 3), _, _, _, _⟩) rfl (.tmp 3) rfl rfl hca.1 ?_)
      | (go_at_call 45; refine (RT w6 _ (F6.ist (F6.mem 1 rfl)) (F6.ltm (F6.mem 1 rfl))).mono ?_
         rintro e w7 ⟨c7, rfl, h7, m7⟩
         have hc7 := h7.elim fun _ h => h.1.ones
         obtain ⟨S7, F7⟩ := F6.madeR m7 h7 (fun g hg => ⟨_, (F6.mem 1 rfl), hg⟩) (L := Any) (fun _ _ => trivial) (fun _ _ => trivial)
         clear h7 m7
         clear F6)
      | (with_reducible refine fm_alloc F7 (o := ⟨some 9, .alloc 24, _, _, _, _⟩) rfl 24 rfl _ zero24 ?_; intro b8 w8 F8; clear F7)
      | (with_reducible refine fm_store F8 0 rfl (o := ⟨none, .store 24 (.tmp 9) (.tmp 29), _, _, _, _⟩) rfl (.tmp 9) (.tmp 29) rfl rfl (c7) rfl rfl hc7.1 (tmc_len _ _ _ _ _ _ _) hc7.2 ?_; intro w9 F9; clear F8)
      | (with_reducible refine fm_load F9 2 rfl (o := ⟨some 32, .load 24 (.tmp 3), _, _, _, _⟩) rfl (.tmp 3) rfl rfl hca.1 ?_)
      | (go_at_call 46; refine (BK w9 _ (F9.ist (F9.mem 2 rfl)) (F9.ltm (F9.mem 2 rfl)) (F9.glob G)).mono ?_
         rintro e w10 ⟨c10, rfl, h10, m10⟩
         have hc10 := h10.ones
         have F10 := F9.made m10 h10
         clear h10 m10
         clear F9)
      | (with_reducible refine fm_alloc F10 (o := ⟨some 11, .alloc 24, _, _, _, _⟩) rfl 24 rfl _ zero24 ?_; intro b11 w11 F11; clear F10)
      | (with_reducible refine fm_store F11 0 rfl (o := ⟨none, .store 24 (.tmp 11) (.tmp 36), _, _, _, _⟩) rfl (.tmp 11) (.tmp 36) rfl rfl (c10) rfl rfl hc10.1 (tmc_len _ _ _ _ _ _ _) hc10.2 ?_; intro w12 F12; clear F11)
      | (with_reducible refine fm_load F12 3 rfl (o := ⟨some 39, .load 24 (.tmp 3), _, _, _, _⟩) rfl (.tmp 3) rfl rfl hca.1 ?_)
      | (go_at_call 45; refine (RB w12 _ (F12.ist (F12.mem 3 rfl)) (F12.ltm (F12.mem 3 rfl))).mono ?_
         rintro e w13 ⟨c13, rfl, h13, m13⟩
         have hc13 := h13.elim fun _ h => h.1.ones
         obtain ⟨S13, F13⟩ := F12.madeR m13 h13 (fun g hg => ⟨_, (F12.mem 3 rfl), hg⟩) (L := Any) (fun _ _ => trivial) (fun _ _ => trivial)
         clear h13 m13
         clear F12)
      | (with_reducible refine fm_alloc F13 (o := ⟨some 13, .alloc 24, _, _, _, _⟩) rfl 24 rfl _ zero24 ?_; intro b14 w14 F14; clear F13)
      | (with_reducible refine fm_store F14 0 rfl (o := ⟨none, .store 24 (.tmp 13) (.tmp 43), _, _, _, _⟩) rfl (.tmp 13) (.tmp 43) rfl rfl (c13) rfl rfl hc13.1 (tmc_len _ _ _ _ _ _ _) hc13.2 ?_; intro w15 F15; clear F14)
      | (with_reducible refine fm_loadG F15 3 rfl (o := ⟨some 54, .load 24 (.tmp 7), _, _, _, _⟩) (by with_unfolding_all rfl) (.tmp 7) rfl rfl hc4.1 ?_)
      | (with_reducible refine fm_loadG F15 2 rfl (o := ⟨some 55, .load 24 (.tmp 9), _, _, _, _⟩) (by with_unfolding_all rfl) (.tmp 9) rfl rfl hc7.1 ?_)
      | (go_at_call 15; refine (rsame_c _ _ _ _ _ _ true w15 (same_rfl _) (F15.ist (F15.mem 3 rfl)) (F15.ist (F15.mem 2 rfl))).mono ?_
         rintro e w16 ⟨rfl, m16⟩
         have F16 := F15.call m16
         clear m16 F15)
      | (with_reducible refine fm_loadG F16 1 rfl (o := ⟨some 59, .load 24 (.tmp 11), _, _, _, _⟩) (by with_unfolding_all rfl) (.tmp 11) rfl rfl hc10.1 ?_)
      | (with_reducible refine fm_loadG F16 0 rfl (o := ⟨some 60, .load 24 (.tmp 13), _, _, _, _⟩) (by with_unfolding_all rfl) (.tmp 13) rfl rfl hc13.1 ?_)
      | (go_at_call 15; refine (rsame_c _ _ _ _ _ _ true w16 (same_rfl _) (F16.ist (F16.mem 1 rfl)) (F16.ist (F16.mem 0 rfl))).mono ?_
         rintro e w17 ⟨rfl, m17⟩
         have F17 := F16.call m17
         clear m17 F16))
    go_ret
    exact ⟨rfl, F17.m⟩
end Go.Proofs.YtchanildogjhgaaDoor
