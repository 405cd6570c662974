/-
  ShaDigests: the walk. My own work.
-/
import Derived.Test.YtgojheoelcmcpaaDoorRsm
import Derived.Test.YtgojheoelcmcpaaDoorDgw
namespace Go.Proofs.YtgojheoelcmcpaaDoor
open Go.RowKit
theorem exec_notb {P : Program} {v : World} {o : Oper} {ρ : Operand → Value} {x : Operand} {t : TypeId} {b : Bool} (ho : o.op = .unOp .not t x) (hx : ρ x = .bool b) : (execOp ρ o).run P v = .ok (.value (.bool (!b))) v := by
  unfold execOp
  simp [ho, hx, go_sem]
theorem beq_p (A B : Option Addr) (l : List UInt8) (n m c d : Nat) (w : World) (hn : n = l.length) (hm : m = l.length) (h : Reads w A l) (h' : Reads w B l) :
    Calls Tryd.prog 24 #[.slice A n c, .slice B m d] w fun e w' => e = .returned (.bool true) ∧ w = w' := by
  have X := beq_n A B l l n m c d w hn hm h h'
  rwa [decide_eq_true rfl] at X
def DSt (L Pd : List UInt8) (W : World) (x : Option Addr × Nat × Option Addr × Nat × Nat) (l2 l8 l9 : Bool) (v : World) : Prop :=
  Mod [] W v ∧ (l2 = true → Reads v x.1 L) ∧ (l8 = true → Reads v x.2.2.1 L) ∧ (l9 = true → Holds v x.2.2.2.2 5 (Pd.map oct))
theorem DSt.keep {L Pd : List UInt8} {W v v' : World} {x : Option Addr × Nat × Option Addr × Nat × Nat} {a b c : Bool} (h : DSt L Pd W x a b c v) (m : Mod [] v v') : DSt L Pd W x a b c v' :=
  ⟨h.1.then m, fun q => (h.2.1 q).keep m (by simp), fun q => (h.2.2.1 q).keep m (by simp), fun q => (h.2.2.2 q).keep m (by simp)⟩
set_option maxRecDepth 1000000 in
set_option maxHeartbeats 8000000 in
theorem digests_w (A0 : Option Addr) (l0 : List UInt8) (cap0 : Nat) (h0 : l0.length ≤ cap0) (hc0 : cap0 ≤ maxLen) (w : World) (R0 : Reads w A0 l0) (G : Cells w (some ⟨0, 0, none⟩) (Kc.map wd)) (G1 : Cells w (some ⟨1, 0, none⟩) (Sc.map wd)) :
    Calls Tryd.prog 5 #[.slice A0 l0.length cap0] w fun e w' => e = .returned (.bool true) ∧ Mod [] w w' := by
  obtain ⟨L, hL⟩ : ∃ L, L = l0.take 700 := ⟨_, rfl⟩
  have hL7 : L.length ≤ 700 := by rw [hL, List.length_take]; omega
  obtain ⟨M, hM⟩ : ∃ M, M = fillM L.length := ⟨_, rfl⟩
  obtain ⟨Pd, hPd⟩ : ∃ z, z = fillN L L.length := ⟨_, rfl⟩
  have hPl : M = Pd.length := by rw [hM, hPd, fillN_length]
  obtain ⟨D, hD⟩ : ∃ D, D = octs (sum2 Kc Sc L) := ⟨_, rfl⟩
  have hDl : D.length = 32 := by rw [hD, octs_length]; have := beh_length Kc Sc (fillN L L.length) Sc_length (fillM L.length / 64); rw [chains_eq] at this; omega
  have hW := fun (v : World) (m : Mod [] w v) => wakes_c v (G.keep m (by simp)) (G1.keep m (by simp))
  obtain ⟨n0, hn0⟩ : ∃ n, n = l0.length := ⟨_, rfl⟩
  have hRow : ∀ (v : World) (m : Mod [] w v), Calls Tryd.prog 20 #[.slice A0 n0 cap0] v fun e v' => ∃ A c, e = .returned (.slice A L.length c) ∧ Reads v' A L ∧ Mod [] v v' := fun v m => by
    rw [hn0]
    refine (row_c A0 l0 cap0 v h0 hc0 (R0.keep m (by simp))).mono ?_
    rintro e v' ⟨A, c, he, hO, hm⟩
    rw [← hL] at he hO
    exact ⟨A, c, he, hO.reads, hm⟩
  have hRow1 : ∀ (v : World) (m : Mod [] w v), Calls Tryd.prog 20 #[.slice A0 n0 cap0] v fun e v' => ∃ A c, e = .returned (.slice A L.length c) ∧ Reads v' A L ∧ L.length ≤ c ∧ (∀ a, A = some a → a.block < v'.heap.size) ∧ Mod [] v v' := fun v m => by
    rw [hn0]
    refine (row_c A0 l0 cap0 v h0 hc0 (R0.keep m (by simp))).mono ?_
    rintro e v' ⟨A, c, he, hO, hm⟩
    rw [← hL] at he hO
    exact ⟨A, c, he, hO.reads, hO.fits.1, fun a ha => (hO.fits.2.2 a ha).2, hm⟩
  have hPad := fun (v : World) (A : Option Addr) (c : Nat) (R : Reads v A L) => pad_c A L L.length c rfl (by omega) v R
  rw [← hM, ← hPd] at hPad
  have hSum := fun (v : World) (m : Mod [] w v) (A : Option Addr) (c : Nat) (hc : L.length ≤ c) (R : Reads v A L) => sum_c Kc Sc Kc_length Sc_length A L L.length c rfl hc (by omega) v (G.keep m (by simp)) (G1.keep m (by simp)) R
  rw [← hD] at hSum
  have hDig := fun (v : World) (A : Option Addr) (c : Nat) (R : Reads v A L) => digest_c A L L.length c v rfl hL7 R
  rw [← hD] at hDig
  have hFil := fun (v : World) (A : Option Addr) (c : Nat) (R : Reads v A L) => rfill_c A L L.length c v rfl hL7 R
  rw [← hM, ← hPd] at hFil
  have HL := Lib.hid (And.intro hL7 (And.intro hL (And.intro hDl hPl)))
  have HW := Lib.hid (And.intro hW (And.intro hRow1 (And.intro hSum hPad)))
  have HR := Lib.hid hRow
  have HD := Lib.hid hDig
  have HF := Lib.hid hFil
  have hM7 : (M : Int) ≤ 772 := by have := fillM_le L.length; omega
  rw [← hn0]
  clear hW hRow hRow1 hSum hPad hDig hFil hL7 hL hDl hPl hM hPd hD G G1 R0 h0 hc0 hn0
  go_enter Tryd.func5, Tryd.ntmps5
  go_wp2_with fail
  refine (HW.out.1 _ (Mod.refl _ _)).mono ?_
  rintro e w1 ⟨rfl, m1⟩
  go_wp2_with fail
  refine (HW.out.2.1 _ m1).mono ?_
  rintro e w2 ⟨A1, c1, rfl, hR1, hc1, hA1, m2⟩
  replace m2 := m1.then m2
  clear m1
  go_wp2_with fail
  refine (HW.out.2.2.1 _ m2 A1 c1 hc1 hR1).mono ?_
  rintro e w3 ⟨rfl, m3⟩
  replace hR1 := hR1.keep m3 (by simp)
  have hA1' : ∀ a, A1 = some a → a.block < w3.heap.size := fun a ha => by have := hA1 a ha; have := m3.size; omega
  replace m3 := m2.then m3
  clear m2 hA1
  go_wp2_with fail
  refine (HW.out.2.2.2 _ A1 c1 hR1).mono ?_
  rintro e w4 ⟨gP, rfl, qP, hDP, m4⟩
  replace hR1 := hR1.keep m4 (by simp)
  have hA1 : ∀ a, A1 = some a → a.block < gP := fun a ha => by have := hA1' a ha; omega
  have hgP : w.heap.size ≤ gP := by have := m3.size; omega
  replace m4 := m3.then m4
  clear m3 hA1' qP hc1
  have sz : (Tryd.prog.info? 40).map (·.size) = some (D.map oct).length := size40_of _ HL.out.2.2.1
  have lz : (D.map oct).length = ((List.replicate 32 (0 : UInt8)).map oct).length := by rw [List.length_map, HL.out.2.2.1]; rfl
  go_wp2_with (first
    | (with_reducible refine wpList_allocs (o := ⟨some 4, .alloc 40, _, _, _, _⟩) rfl 40 rfl _ zero40 ?_; intro w5 hb4 m5 z5; replace z5 := Lib.hid z5)
    | (with_reducible refine wpList_storesAll (o := ⟨none, .store 40 (.tmp 4) (.tmp 12), _, _, _, _⟩) rfl 40 (.tmp 4) (.tmp 12) rfl rfl w4.heap.size (D.map oct) rfl (.agg (D.map oct).toArray) rfl rfl 40 _ hb4 lz (octs_one _) sz ?_; intro wr hD4 m6 z6; replace z6 := Lib.hid z6))
  have m56 : Mod [] w4 wr := m5.trans m6 (by intro i hi h; simp at h; omega)
  replace hR1 := hR1.keep m56 (by simp)
  replace hDP := hDP.keep m56 (by simp)
  have mm := m4.then m56
  obtain ⟨g4, e4⟩ : ∃ b, b = w4.heap.size := ⟨_, rfl⟩
  rw [← e4] at hD4 ⊢
  have HA := Lib.hid (And.intro hA1 hgP)
  clear e4 m4 m5 m6 m56 z5 z6 hb4 lz sz hA1 hgP
  have hDP : Holds wr.drew gP 5 (Pd.map oct) := hDP
  have hD4 : Holds wr.drew g4 40 (D.map oct) := hD4
  have hR1 : Reads wr.drew A1 L := hR1
  refine wp_region_lit (X := Option Addr × Nat × Option Addr × Nat × Nat) (none, 0, none, 0, 0) (fun x => [.slice A0 n0 cap0, undef, .bool false, .slice A1 L.length c1, .pointer (some ⟨g4, 0, none⟩), .slice (some ⟨gP, 0, none⟩) M M, undef, .bool true, .bool false, .slice A0 n0 cap0, .slice A1 L.length c1, .slice A1 L.length c1, .agg (D.map oct).toArray, .slice A1 L.length c1, .slice (some ⟨gP, 0, none⟩) M M, .agg (D.map oct).toArray, .slice A0 n0 cap0, .slice x.1 L.length x.2.1, .agg (D.map oct).toArray, .bool false, .bool false, .slice (some ⟨gP, 0, none⟩) M M, .slice A0 n0 cap0, .slice x.2.2.1 L.length x.2.2.2.1, .slice (some ⟨x.2.2.2.2, 0, none⟩) M M, .bool true, .bool false, .bool false, undef, undef, undef, undef, undef, undef, undef, undef, undef, undef, undef, undef, undef, undef, undef, undef]) 44 [0, 1, 2, 3, 4, 5, 6, 7, 8, 9, 10, 11, 12, 13, 14, 28, 29, 30, 31, 32, 33, 34, 35, 36, 37, 38, 39, 40, 41, 42, 43]
    (fun x lz v => DSt L Pd wr.drew x (lz 2) (lz 8) (lz 9) v) []
    (by kernel_rfl) (fun _ => rfl) rfl rfl rfl (fun _ => by simp only [List.map_cons, List.map_nil, List.getD_cons_zero, List.getD_cons_succ]) (⟨Mod.refl _ _, (fun h => by cases h), (fun h => by cases h), (fun h => by cases h)⟩) (by kernel_rfl) (by kernel_rfl) ?step ?fin
  case step =>
    intro x lz T v j o hj hlj hdep hst hpar hgot hcl K hK
    have hjn : j < 13 := (Array.getElem?_eq_some_iff.1 hj).1
    obtain rfl | rfl | rfl | rfl | rfl | rfl | rfl | rfl | rfl | rfl | rfl | rfl | rfl : j = 0 ∨ j = 1 ∨ j = 2 ∨ j = 3 ∨ j = 4 ∨ j = 5 ∨ j = 6 ∨ j = 7 ∨ j = 8 ∨ j = 9 ∨ j = 10 ∨ j = 11 ∨ j = 12 := by omega
    all_goals (have hj' := Option.some.inj (hj : some _ = some o); subst hj'; clear hj)
    · exact wp_ran rfl (exec_load rfl (eval_tmp (hpar 4 (by simp))) (run_loads (Cells.of_holds (Holds.keep (w := wr.drew) hD4 hst.1 (by simp))) Tryd.underlying40 rfl (size40_of _ HL.out.2.2.1))) (hK x _ _ (fun _ _ _ _ _ _ => rfl) (fun s hs => by cases hs; rfl) hst)
    · exact wp_ran rfl (exec_move rfl (eval_tmp (hpar 0 (by simp)))) (hK x _ _ (fun _ _ _ _ _ _ => rfl) (fun s hs => by cases hs; rfl) hst)
    · refine wp_called rfl (exec_call1 rfl rfl (eval_tmp (hgot 1 _ 16 rfl (hdep ⟨1, .data⟩ (by simp) rfl) rfl)) (enters_of Tryd.func20 (by kernel_rfl) rfl)) ((HR.out _ (mm.then (Mod.drewed hst.1))).mono (fun e v' hh => ?_))
      obtain ⟨A, c, he, hO, hm⟩ := hh
      exact ⟨_, he, hK (A, c, x.2.2) _ _ (fun j' o' s' h1 h2 h3 => by
                        clear hst hpar hgot hdep hcl hK
                        have h4 : j' < 13 := (Array.getElem?_eq_some_iff.1 h1).1
                        obtain rfl | rfl | rfl | rfl | rfl | rfl | rfl | rfl | rfl | rfl | rfl | rfl | rfl : j' = 0 ∨ j' = 1 ∨ j' = 2 ∨ j' = 3 ∨ j' = 4 ∨ j' = 5 ∨ j' = 6 ∨ j' = 7 ∨ j' = 8 ∨ j' = 9 ∨ j' = 10 ∨ j' = 11 ∨ j' = 12 := by omega
                        all_goals (cases h1; cases h3 <;> first | rfl | (rw [hlj] at h2; cases h2))) (fun s hs => by cases hs; rfl) ⟨hst.1.then hm, fun _ => hO, fun h => (hst.2.2.1 h).keep hm (by simp), fun h => (hst.2.2.2 h).keep hm (by simp)⟩⟩
    · exact wp_called rfl (exec_call1 rfl rfl (eval_tmp (hgot 2 _ 17 rfl (hdep ⟨2, .data⟩ (by simp) rfl) rfl)) (enters_of Tryd.func23 (by kernel_rfl) rfl)) ((HD.out v x.1 x.2.1 (hst.2.1 (hdep ⟨2, .data⟩ (by simp) rfl))).mono (fun e v' hh => ⟨_, hh.1, hK x _ _ (fun _ _ _ _ _ _ => rfl) (fun s hs => by cases hs; rfl) (hst.keep hh.2)⟩))
    · exact wp_ran rfl (ne40_same HL.out.2.2.1 rfl (eval_tmp (hgot 0 _ 15 rfl (hdep ⟨0, .data⟩ (by simp) rfl) rfl)) (eval_tmp (hgot 3 _ 18 rfl (hdep ⟨3, .data⟩ (by simp) rfl) rfl))) (hK x _ _ (fun _ _ _ _ _ _ => rfl) (fun s hs => by cases hs; rfl) hst)
    · exact wp_ran rfl (exec_move rfl (eval_tmp (hgot 4 _ 19 rfl (hdep ⟨4, .data⟩ (by simp) rfl) rfl))) (hK x _ _ (fun _ _ _ _ _ _ => rfl) (fun s hs => by cases hs; rfl) hst)
    · exact wp_ranW (wanted_yes rfl rfl rfl (hgot 5 _ 20 rfl (hdep ⟨5, .guard⟩ (by simp) rfl) rfl)) (exec_move rfl (eval_tmp (hpar 5 (by simp)))) (hK x _ _ (fun _ _ _ _ _ _ => rfl) (fun s hs => by cases hs; rfl) hst)
    · exact wp_ranW (wanted_yes rfl rfl rfl (hgot 5 _ 20 rfl (hdep ⟨5, .guard⟩ (by simp) rfl) rfl)) (exec_move rfl (eval_tmp (hpar 0 (by simp)))) (hK x _ _ (fun _ _ _ _ _ _ => rfl) (fun s hs => by cases hs; rfl) hst)
    · refine wp_calledW (wanted_yes rfl rfl rfl (hgot 5 _ 20 rfl (hdep ⟨5, .guard⟩ (by simp) rfl) rfl)) (exec_call1 rfl rfl (eval_tmp (hgot 7 _ 22 rfl (hdep ⟨7, .data⟩ (by simp) rfl) rfl)) (enters_of Tryd.func20 (by kernel_rfl) rfl)) ((HR.out _ (mm.then (Mod.drewed hst.1))).mono (fun e v' hh => ?_))
      obtain ⟨A, c, he, hO, hm⟩ := hh
      exact ⟨_, he, hK (x.1, x.2.1, A, c, x.2.2.2.2) _ _ (fun j' o' s' h1 h2 h3 => by
                        clear hst hpar hgot hdep hcl hK
                        have h4 : j' < 13 := (Array.getElem?_eq_some_iff.1 h1).1
                        obtain rfl | rfl | rfl | rfl | rfl | rfl | rfl | rfl | rfl | rfl | rfl | rfl | rfl : j' = 0 ∨ j' = 1 ∨ j' = 2 ∨ j' = 3 ∨ j' = 4 ∨ j' = 5 ∨ j' = 6 ∨ j' = 7 ∨ j' = 8 ∨ j' = 9 ∨ j' = 10 ∨ j' = 11 ∨ j' = 12 := by omega
                        all_goals (cases h1; cases h3 <;> first | rfl | (rw [hlj] at h2; cases h2))) (fun s hs => by cases hs; rfl) ⟨hst.1.then hm, fun h => (hst.2.1 h).keep hm (by simp), fun _ => hO, fun h => (hst.2.2.2 h).keep hm (by simp)⟩⟩
    · refine wp_calledW (wanted_yes rfl rfl rfl (hgot 5 _ 20 rfl (hdep ⟨5, .guard⟩ (by simp) rfl) rfl)) (exec_call1 rfl rfl (eval_tmp (hgot 8 _ 23 rfl (hdep ⟨8, .data⟩ (by simp) rfl) rfl)) (enters_of Tryd.func25 (by kernel_rfl) rfl)) ((HF.out v x.2.2.1 x.2.2.2.1 (hst.2.2.1 (hdep ⟨8, .data⟩ (by simp) rfl))).mono (fun e v' hh => ?_))
      obtain ⟨g, he, hg, hO, hm⟩ := hh
      exact ⟨_, he, hK (x.1, x.2.1, x.2.2.1, x.2.2.2.1, g) _ _ (fun j' o' s' h1 h2 h3 => by
                        clear hst hpar hgot hdep hcl hK
                        have h4 : j' < 13 := (Array.getElem?_eq_some_iff.1 h1).1
                        obtain rfl | rfl | rfl | rfl | rfl | rfl | rfl | rfl | rfl | rfl | rfl | rfl | rfl : j' = 0 ∨ j' = 1 ∨ j' = 2 ∨ j' = 3 ∨ j' = 4 ∨ j' = 5 ∨ j' = 6 ∨ j' = 7 ∨ j' = 8 ∨ j' = 9 ∨ j' = 10 ∨ j' = 11 ∨ j' = 12 := by omega
                        all_goals (cases h1; cases h3 <;> first | rfl | (rw [hlj] at h2; cases h2))) (fun s hs => by cases hs; rfl) ⟨hst.1.then hm, fun h => (hst.2.1 h).keep hm (by simp), fun h => (hst.2.2.1 h).keep hm (by simp), fun _ => hO⟩⟩
    · exact wp_calledW (wanted_yes rfl rfl rfl (hgot 5 _ 20 rfl (hdep ⟨5, .guard⟩ (by simp) rfl) rfl)) (exec_call2 rfl rfl (eval_tmp (hgot 6 _ 21 rfl (hdep ⟨6, .data⟩ (by simp) rfl) rfl)) (eval_tmp (hgot 9 _ 24 rfl (hdep ⟨9, .data⟩ (by simp) rfl) rfl)) (enters_of Tryd.func24 (by kernel_rfl) rfl)) ((beq_p (some ⟨gP, 0, none⟩) (some ⟨x.2.2.2.2, 0, none⟩) Pd M M M M v HL.out.2.2.2 HL.out.2.2.2 (Reads.of_holds (Holds.keep (w := wr.drew) hDP hst.1 (by simp))) (Reads.of_holds (hst.2.2.2 (hdep ⟨9, .data⟩ (by simp) rfl)))).mono (fun e v' hh => ⟨_, hh.1, hK x _ _ (fun _ _ _ _ _ _ => rfl) (fun s hs => by cases hs; rfl) (by rw [← hh.2]; exact hst)⟩))
    · exact wp_ranW (wanted_yes rfl rfl rfl (hgot 5 _ 20 rfl (hdep ⟨5, .guard⟩ (by simp) rfl) rfl)) (exec_notb (b := true) rfl (eval_tmp (hgot 10 _ 25 rfl (hdep ⟨10, .data⟩ (by simp) rfl) rfl))) (hK x _ _ (fun _ _ _ _ _ _ => rfl) (fun s hs => by cases hs; rfl) hst)
    · exact wp_ran rfl (exec_pick rfl (eval_tmp (hgot 5 _ 20 rfl (hdep ⟨5, .data⟩ (by simp) rfl) rfl)) rfl (eval_tmp (hgot 11 _ 26 rfl (hdep ⟨11, .data⟩ (by simp) rfl) rfl)) rfl) (hK x _ _ (fun _ _ _ _ _ _ => rfl) (fun s hs => by cases hs; rfl) hst)
  case fin =>
    intro x lz v hl hst
    have mn := mm.then (Mod.drewed hst.1)
    have nP := Holds.keep (w := wr.drew) hDP hst.1 (by simp)
    have n1 := Reads.keep (w := wr.drew) hR1 hst.1 (by simp)
    clear hst hl
    try dsimp only
    go_wp2_with fail
    obtain ⟨xa, xb, xc, xd, xg⟩ := x
    dsimp only
    have hst0 : ∃ B : List UInt8, B.length = M ∧ Holds v gP 5 (B.map oct) := ⟨Pd, HL.out.2.2.2.symm, nP⟩
    clear nP hDP hD4 hR1 mm
    go_loopw [30] (fun i wi => ∃ j : Nat, j ≤ M ∧ i = .int .i64 (j : Int) ∧ (∃ B : List UInt8, B.length = M ∧ Holds wi gP 5 (B.map oct)) ∧ Reads wi A1 L ∧ Mod [] w wi) (fun i _ => M - (intOf i).toNat)
    case atStart => exact ⟨0, by omega, rfl, hst0, n1, mn⟩
    case round =>
      clear hst0 n1 mn
      obtain ⟨j, hj, rfl, ⟨B, hB, dB⟩, r1, mn⟩ := hrel
      by_cases hlt : j < M
      · have hjZ : (j : Int) < (M : Int) := by omega
        have hBl : j < B.length := by omega
        have cB : wr.cell? ⟨gP, j, none⟩ = some (oct (B.getD j 0)) := by
          rw [dB.cell j, List.getElem?_map, List.getElem?_eq_getElem hBl, at_getD _ _ hBl]; rfl
        have fB : wr.frozen? ⟨gP, j, none⟩ = false := dB.free j
        obtain ⟨b, hb⟩ : ∃ b, b = B.getD j 0 := ⟨_, rfl⟩
        rw [← hb] at cB
        have hval : Value.int .u8 (((b.toNat : Int) + 1) % 256) = oct (b + 1) := by
          show Value.int .u8 _ = Value.int .u8 _
          congr 1
        have HJ := Lib.hid (And.intro hlt (And.intro hB (And.intro dB (And.intro r1 (And.intro mn hval)))))
        clear hlt hB dB r1 mn hval hj hBl hb
        go_wp2_with fail
        rw [HJ.out.2.2.2.2.2]
        have nB := HJ.out.2.2.1.set j (oct (b + 1))
        rw [← List.map_set] at nB
        have mc : Mod [gP] wr (wr.setCell ⟨gP, j, none⟩ (oct (b + 1))) := Mod.setCell wr (p := ⟨gP, j, none⟩) (by simp) _
        have hj1 : j + 1 ≤ M := HJ.out.1
        exact ⟨⟨j + 1, hj1, by go_num, ⟨B.set j (b + 1), by rw [List.length_set]; exact HJ.out.2.1, nB⟩, HJ.out.2.2.2.1.keep mc (fun a ha => by have := HA.out.1 a ha; simp; omega), HJ.out.2.2.2.2.1.trans mc (by have := HA.out.2; intro i hi h; simp at h; omega)⟩, by simp [intOf]; omega⟩
      · obtain rfl : j = M := by omega
        clear dB hB
        go_wp2_with fail
        refine (HR.out _ mn).mono ?_
        rintro e wz ⟨A3, c3, rfl, r3, m3⟩
        replace r1 := r1.keep m3 (by simp)
        replace mn := mn.then m3
        have X := beq_p A1 A3 L L.length L.length c1 c3 wz rfl rfl r1 r3
        clear r1 r3 m3
        go_wp2_with fail
        refine X.mono ?_
        rintro e wy ⟨rfl, rfl⟩
        clear X
        go_wp2_with fail
        go_ret
        exact ⟨rfl, mn⟩
end Go.Proofs.YtgojheoelcmcpaaDoor
