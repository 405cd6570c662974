/-
  The document's Set (ref 07): a round's one place, kinds 8. My own work.
-/
import Derived.Test.YtchanildogjhgaaDoorQe
namespace Go.Proofs.YtchanildogjhgaaDoor
open Go.RowKit Go.Shelf
set_option linter.unusedVariables false
set_option linter.unusedSimpArgs false
set_option maxRecDepth 100000 in
set_option maxHeartbeats 40000000 in
theorem body_8 : bodyP.k8 := by
  intro w A n c vs K S B nb d vb T Sb hn9 hnb9 _ _ _ _ _ _ _ _ _ _ _ _ _ _ _ _ _ _ _ _ _ _ _ _ _ _ M1 _ _ _ _ _ _ _ _ _ _ _ _ _ _ m c1 xs S1 _ L hm hmb _ bc w10 bp w11 _ _ _ _ _ _ _ _ _ _ _ _ _ _ _ _ _ _ _ _ _ _ _ _ _ _ j hj s0 y0 _ _ _ hjZ _ _ _ _ _ _ _ _ _ _ _ _ _ _ _ _ _ _ _ _ _ _ _ _ _ _ _ _ _ _ _ _ _ _ _ _ _ _ _ _ _ _ _ _ _ _ _ _ _ _ _ _ _ _ _ _ _ _ _ _ _ _ _ _ _ _ _ _ _ _ _ _ _ _ _ _ _ _ _ _ _ _ _ _ _ _ _ _ _ _ _ _ _ _ _ _ _ _ _ _ _ _ _ _ _ _ _ _ _ _ _ _ _ _ _ _ _ _ _ _ _ _ _ _ _ _ _ _ _ _ _ _ _ _ _ r _ _ hr hw2 hrZ _ s1 wr _ _ _ _ _ _ _ _ _ _ _ _ _ _ _ _ _ _ _ _ _ _ _ _ _ _ _ _ _ _ _ _ _ _ _ _ _ _ _ _ _ _ _ _ _ _ _ _ _ _ _ _ _ _ _ _ _ _ _ _ _ _ _ _ _ _ _ _ _ _ _ _ _ _ _ _ _ _ _ _ _ _ _ _ _ _ _ _ _ _ _ _ _ _ _ _ _ _ _ _ _ _ _ _ _ _ _ _ _ _ _ _ _ _ _ _ _ _ _ _ _ _ _ _ _ _ k cb pb hk hkZ g oo _ _ _ _ _ _ u nm s ks KK cap vk kn hkb HM9 HKID HCL HKM hC' F0 h5 h51 HKN HOK HSEC HST
  obtain ⟨a, ha⟩ : ∃ a, a = Tm.allC L cb ks := ⟨_, rfl⟩
  have HA := Lib.hid ha.symm
  have hsi : Tm.sec u ∈ L := HSEC.out (.inr rfl)
  obtain ⟨ix, hix⟩ : ∃ i, i = Tm.idx L (Tm.sec u) := ⟨_, rfl⟩
  have hixm : ix < m := by rw [hm.out, hix]; exact Tm.idx_lt hsi
  have hixZ : (ix : Int) < (m : Int) := by omega
  have HSI := Lib.hid hsi
  have HIX := Lib.hid (And.intro hix hixm)
  obtain ⟨v, hv⟩ : ∃ v, v = Tm.gB cb ix := ⟨_, rfl⟩
  have HV := Lib.hid hv.symm
  clear ha hsi hix hixm hv
  cases a
  · go_wp2_with (first
      | (with_reducible refine wpList_loads (o := ⟨some 88, .load 24 (.tmp 87), _, _, _, _⟩) rfl 24 (.tmp 87) rfl g (oo + k * 5) (tmc 8 u nm s KK kn cap) rfl hC' _ Tryd.underlying24 rfl (size24' h5) (.agg (tmc 8 u nm s KK kn cap).toArray) rfl ?_)
      | (with_reducible refine fm_alloc F0 (o := ⟨some 15, .alloc 24, _, _, _, _⟩) rfl 24 rfl _ zero24 ?_; intro b15 w1 F1; clear F0)
      | (with_reducible refine fm_store F1 0 rfl (o := ⟨none, .store 24 (.tmp 15) (.tmp 88), _, _, _, _⟩) rfl (.tmp 15) (.tmp 88) rfl rfl (tmc 8 u nm s KK kn cap) rfl rfl h5 rfl h51 ?_
         intro w2 F2
         have e0 := (F2.blk 0 rfl).cell 0
         have e1 := (F2.blk 0 rfl).cell 1
         have e4 := (F2.blk 0 rfl).cell 4
         simp only [tmc, List.getElem?_cons_succ, List.getElem?_cons_zero] at e0 e1 e4
         clear F1)
      | (with_reducible refine fm_ranW (o := ⟨some 100, .load 3 _, _, _, _, _⟩) (by with_unfolding_all rfl) (.int .i64 8) _ (exec_load rfl rfl (run_load1 Tryd.underlying3 rfl e0)) ?_)
      | (with_reducible refine fm_ranW (o := ⟨some 118, .load 24 _, _, _, _, _⟩) (by with_unfolding_all rfl) (.agg (tmc 8 u nm s KK kn cap).toArray) _ (exec_load rfl rfl (run_loads (Cells.of_holds (F2.blk 0 rfl)) Tryd.underlying24 rfl (size24' h5))) ?_)
      | (go_at_call 88
         have HC := Fm.allR (L := Any) (S := S1) (l := L) (t := .mk 8 u nm s ks) F2 (hL := (List.mem_cons_of_mem _ (List.mem_cons_self ..))) (hT := List.mem_cons_self ..) m hm.out HM9.out HCL.out.1 HOK.out HKID.out
         rw [show Tm.allC L cb (Tm.mk 8 u nm s ks).kids = false from HA.out] at HC
         with_reducible refine Calls.mono HC ?_
         rintro e w3 ⟨rfl, mz⟩
         have F3 := F2.call mz
         replace e0 := (F3.blk 0 rfl).cell 0
         replace e1 := (F3.blk 0 rfl).cell 1
         replace e4 := (F3.blk 0 rfl).cell 4
         simp only [tmc, List.getElem?_cons_succ, List.getElem?_cons_zero] at e0 e1 e4
         clear HC F2 mz)
      | (with_reducible refine fm_ranW (o := ⟨some 139, .load 3 _, _, _, _, _⟩) (by with_unfolding_all rfl) (.int .i64 8) _ (exec_load rfl rfl (run_load1 Tryd.underlying3 rfl e0)) ?_))
    have HG : Hid (Tm.steps L s1 (k + 1) = Tm.give L k (ks.drop 0) (cb, pb)) := Lib.hid ((HST.out cb (by simp [Tm.step1, Tm.setIf, Tm.kind, Tm.kids, Tm.user, HA.out])).2 (by simp [Tm.opensC, Tm.kind, Tm.kids, Tm.user]))
    go_loopw [18] (fun i wi => ∃ (q : Nat) (cc pp : List Bool), i = .int .i64 (q : Int) ∧ q ≤ kn ∧ Hid (cc.length = m ∧ pp.length = m ∧ Tm.steps L s1 (k + 1) = Tm.give L k (ks.drop q) (cc, pp)) ∧ Fm w wi (oB b15 24 (tmc 8 u nm s KK kn cap) :: SetOs (some ⟨g, oo, none⟩) c1 xs bc bp cc pp) (tT Any S1 (.mk 8 u nm s ks) (tmc 8 u nm s KK kn cap) :: [tLs Any S1 L xs, tR Any S A vs K, tR Any Sb B vb T])) (fun i _ => kn - (intOf i).toNat)
    case atStart => exact ⟨0, cb, pb, rfl, (by rw [HKN.out.1, HKN.out.2]; decide), Lib.hid ⟨HCL.out.1, HCL.out.2, HG.out⟩, F3⟩
    case round =>
      clear F3 e0 e1 e4
      obtain ⟨q, cc, pp, rfl, hq, hg, FJ⟩ := hrel
      have e4 := (FJ.blk 0 rfl).cell 4
      simp only [tmc, List.getElem?_cons_succ, List.getElem?_cons_zero] at e4
      by_cases hqk : q < kn
      · have hqZ : (q : Int) < (kn : Int) := by omega
        have hql : q < ks.length := by rw [← HKN.out.1]; exact hqk
        obtain ⟨gq, oq, cq, hAq, h5q, h1q, FE⟩ := FJ.elem (List.mem_cons_self ..) q hql
        subst hAq
        have FE2 := FE.eT (List.mem_cons_self ..)
        have CE := FE.ec (List.mem_cons_self ..)
        have hin := HKID.out _ (List.getElem_mem hql)
        have hgd := give_drop L ks k q hql cc pp
        obtain ⟨tq, htq⟩ : ∃ t, t = ks[q] := ⟨_, rfl⟩
        rw [← htq] at FE2 hin hgd
        obtain ⟨iq, hiq⟩ : ∃ i, i = Tm.idx L tq := ⟨_, rfl⟩
        have hiqm : iq < m := by rw [hm.out, hiq]; exact Tm.idx_lt hin
        have hiqZ : (iq : Int) < (m : Int) := by omega
        rw [← hiq] at hgd
        obtain ⟨b1, hb1⟩ : ∃ b, b = Tm.gB cc k := ⟨_, rfl⟩
        obtain ⟨b2, hb2⟩ : ∃ b, b = Tm.gB pp k := ⟨_, rfl⟩
        rw [← hb1, ← hb2] at hgd
        have HGD := Lib.hid hgd
        have HB := Lib.hid (And.intro hb1 hb2)
        have HIN := Lib.hid (And.intro hin hiq)
        have HQK := Lib.hid hqk
        clear hgd hb1 hb2 hin hiq htq hqk hql FE FJ
        cases b1 <;> cases b2
        all_goals go_wp2_with (first
          | (with_reducible refine wpList_loads (o := ⟨some 184, .load 24 (.tmp 183), _, _, _, _⟩) rfl 24 (.tmp 183) rfl gq (oq + q * 5) cq rfl CE _ Tryd.underlying24 rfl (size24' h5q) (.agg cq.toArray) rfl ?_)
          | (go_at_call 65
             have HC := (FE2.sub (ts' := tT Any S1 tq cq :: [tLs Any S1 L xs, tR Any S A vs K, tR Any Sb B vb T]) (List.Sublist.refl _) (fun y hy => by
               rcases List.mem_cons.1 hy with h | h
               · rw [h]; exact List.mem_cons_self ..
               · exact List.mem_cons_of_mem _ (List.mem_cons_of_mem _ (List.mem_cons_of_mem _ h)))).hasT (S := S1) (L := Any) (l := L) (List.mem_cons_of_mem _ (List.mem_cons_self ..)) (List.mem_cons_self ..) m hm.out HM9.out HIN.out.1 iq HIN.out.2
             with_reducible refine Calls.mono HC ?_
             rintro e wa ⟨rfl, mz⟩
             have FA := FE2.call mz
             have ec := bools_cell (FA.blk 2 rfl) (i := k) (by rw [hg.out.1]; exact HKM.out) HB.out.1.symm
             have ep := bools_cell (FA.blk 3 rfl) (i := k) (by rw [hg.out.2.1]; exact HKM.out) HB.out.2.symm
             clear HC FE2 mz)
          | (with_reducible refine fm_store1 FA 2 iq rfl (by rw [List.length_map, hg.out.1]; exact hiqm) (o := ⟨none, .store 4 (.tmp 192) _, _, _, _, _⟩) 4 (.bool true) rfl one4 rfl (.tmp 192) _ rfl rfl rfl rfl ?_
             intro wb FX
             have FB := Fm.set1b FX
             replace ep := bools_cell (FB.blk 3 rfl) (i := k) (by rw [hg.out.2.1]; exact HKM.out) HB.out.2.symm
             clear FA FX ec)
          | (with_reducible refine fm_store1 FB 3 iq rfl (by rw [List.length_map, hg.out.2.1]; exact hiqm) (o := ⟨none, .store 4 (.tmp 199) _, _, _, _, _⟩) 4 (.bool true) rfl one4 rfl (.tmp 199) _ rfl rfl rfl rfl ?_
             intro wc FY
             have FC := Fm.set2b FY
             clear FB FY)
          | (with_reducible refine fm_store1 FA 3 iq rfl (by rw [List.length_map, hg.out.2.1]; exact hiqm) (o := ⟨none, .store 4 (.tmp 199) _, _, _, _, _⟩) 4 (.bool true) rfl one4 rfl (.tmp 199) _ rfl rfl rfl rfl ?_
             intro wc FY
             have FC := Fm.set2b FY
             clear FA FY))
        · have FZ := FA.sub (ts' := tT Any S1 (.mk 8 u nm s ks) (tmc 8 u nm s _ kn cap) :: [tLs Any S1 L xs, tR Any S A vs K, tR Any Sb B vb T]) (List.Sublist.refl _) (fun y hy => List.mem_cons_of_mem _ (List.mem_cons_of_mem _ hy))
          exact ⟨⟨q + 1, cc, pp, by go_num, by have := HQK.out; omega, Lib.hid ⟨hg.out.1, hg.out.2.1, by rw [hg.out.2.2, HGD.out]; rfl⟩, FZ⟩, by have := HQK.out; simp [intOf]; omega⟩
        · have FZ := FC.sub (ts' := tT Any S1 (.mk 8 u nm s ks) (tmc 8 u nm s _ kn cap) :: [tLs Any S1 L xs, tR Any S A vs K, tR Any Sb B vb T]) (List.Sublist.refl _) (fun y hy => List.mem_cons_of_mem _ (List.mem_cons_of_mem _ hy))
          exact ⟨⟨q + 1, cc, (pp.set iq true), by go_num, by have := HQK.out; omega, Lib.hid ⟨hg.out.1, (by rw [List.length_set]; exact hg.out.2.1), by rw [hg.out.2.2, HGD.out]; rfl⟩, FZ⟩, by have := HQK.out; simp [intOf]; omega⟩
        · have FZ := FB.sub (ts' := tT Any S1 (.mk 8 u nm s ks) (tmc 8 u nm s _ kn cap) :: [tLs Any S1 L xs, tR Any S A vs K, tR Any Sb B vb T]) (List.Sublist.refl _) (fun y hy => List.mem_cons_of_mem _ (List.mem_cons_of_mem _ hy))
          exact ⟨⟨q + 1, (cc.set iq true), pp, by go_num, by have := HQK.out; omega, Lib.hid ⟨(by rw [List.length_set]; exact hg.out.1), hg.out.2.1, by rw [hg.out.2.2, HGD.out]; rfl⟩, FZ⟩, by have := HQK.out; simp [intOf]; omega⟩
        · have FZ := FC.sub (ts' := tT Any S1 (.mk 8 u nm s ks) (tmc 8 u nm s _ kn cap) :: [tLs Any S1 L xs, tR Any S A vs K, tR Any Sb B vb T]) (List.Sublist.refl _) (fun y hy => List.mem_cons_of_mem _ (List.mem_cons_of_mem _ hy))
          exact ⟨⟨q + 1, (cc.set iq true), (pp.set iq true), by go_num, by have := HQK.out; omega, Lib.hid ⟨(by rw [List.length_set]; exact hg.out.1), (by rw [List.length_set]; exact hg.out.2.1), by rw [hg.out.2.2, HGD.out]; rfl⟩, FZ⟩, by have := HQK.out; simp [intOf]; omega⟩
      have hqZ : ¬ (q : Int) < (kn : Int) := by omega
      have e9 : ks.drop q = [] := List.drop_eq_nil_of_le (by have := HKN.out.1; omega)
      have hfin : Tm.steps L s1 (k + 1) = (cc, pp) := by rw [hg.out.2.2, e9]; rfl
      have HFI := Lib.hid (And.intro hfin (And.intro hg.out.1 hg.out.2.1))
      clear hfin e9 hqk
      go_wp2_with fail
      have FE := FJ.sub (os' := SetOs (some ⟨g, oo, none⟩) c1 xs bc bp cc pp) (ts' := [tLs Any S1 L xs, tR Any S A vs K, tR Any Sb B vb T]) (List.sublist_cons_self _ _) (fun y hy => List.mem_cons_of_mem _ hy)
      exact ⟨⟨k + 1, cc, pp, by go_num, by have := HKM.out; omega, HFI, FE⟩, by have := HKM.out; simp [intOf]; omega⟩
  cases v
  · go_wp2_with (first
      | (with_reducible refine wpList_loads (o := ⟨some 88, .load 24 (.tmp 87), _, _, _, _⟩) rfl 24 (.tmp 87) rfl g (oo + k * 5) (tmc 8 u nm s KK kn cap) rfl hC' _ Tryd.underlying24 rfl (size24' h5) (.agg (tmc 8 u nm s KK kn cap).toArray) rfl ?_)
      | (with_reducible refine fm_alloc F0 (o := ⟨some 15, .alloc 24, _, _, _, _⟩) rfl 24 rfl _ zero24 ?_; intro b15 w1 F1; clear F0)
      | (with_reducible refine fm_store F1 0 rfl (o := ⟨none, .store 24 (.tmp 15) (.tmp 88), _, _, _, _⟩) rfl (.tmp 15) (.tmp 88) rfl rfl (tmc 8 u nm s KK kn cap) rfl rfl h5 rfl h51 ?_
         intro w2 F2
         have e0 := (F2.blk 0 rfl).cell 0
         have e1 := (F2.blk 0 rfl).cell 1
         have e4 := (F2.blk 0 rfl).cell 4
         simp only [tmc, List.getElem?_cons_succ, List.getElem?_cons_zero] at e0 e1 e4
         clear F1)
      | (with_reducible refine fm_ranW (o := ⟨some 100, .load 3 _, _, _, _, _⟩) (by with_unfolding_all rfl) (.int .i64 8) _ (exec_load rfl rfl (run_load1 Tryd.underlying3 rfl e0)) ?_)
      | (with_reducible refine fm_ranW (o := ⟨some 118, .load 24 _, _, _, _, _⟩) (by with_unfolding_all rfl) (.agg (tmc 8 u nm s KK kn cap).toArray) _ (exec_load rfl rfl (run_loads (Cells.of_holds (F2.blk 0 rfl)) Tryd.underlying24 rfl (size24' h5))) ?_)
      | (go_at_call 88
         have HC := Fm.allR (L := Any) (S := S1) (l := L) (t := .mk 8 u nm s ks) F2 (hL := (List.mem_cons_of_mem _ (List.mem_cons_self ..))) (hT := List.mem_cons_self ..) m hm.out HM9.out HCL.out.1 HOK.out HKID.out
         rw [show Tm.allC L cb (Tm.mk 8 u nm s ks).kids = true from HA.out] at HC
         with_reducible refine Calls.mono HC ?_
         rintro e w3 ⟨rfl, mz⟩
         have F3 := F2.call mz
         replace e0 := (F3.blk 0 rfl).cell 0
         replace e1 := (F3.blk 0 rfl).cell 1
         replace e4 := (F3.blk 0 rfl).cell 4
         simp only [tmc, List.getElem?_cons_succ, List.getElem?_cons_zero] at e0 e1 e4
         clear HC F2 mz)
      | (with_reducible refine fm_ranW (o := ⟨some 125, .load 3 _, _, _, _, _⟩) (by with_unfolding_all rfl) (.int .i64 u) _ (exec_load rfl rfl (run_load1 Tryd.underlying3 rfl e1)) ?_)
      | (with_reducible refine fm_ranW (o := ⟨some 126, .build 24 _, _, _, _, _⟩) (by with_unfolding_all rfl) (.agg (tmc 3 u 0 ⟨#[]⟩ none 0 0).toArray) _ (exec_bD rfl rfl rfl) ?_)
      | (go_at_call 65
         have HC := F3.hasS (S := S1) (L := Any) (l := L) (List.mem_cons_of_mem _ (List.mem_cons_self ..)) u m hm.out HM9.out HSI.out ix HIX.out.1
         with_reducible refine Calls.mono HC ?_
         rintro e w4 ⟨rfl, mz⟩
         have F4 := F3.call mz
         replace e0 := (F4.blk 0 rfl).cell 0
         replace e1 := (F4.blk 0 rfl).cell 1
         replace e4 := (F4.blk 0 rfl).cell 4
         simp only [tmc, List.getElem?_cons_succ, List.getElem?_cons_zero] at e0 e1 e4
         have ec := bools_cell (F4.blk 2 rfl) (i := ix) (by rw [HCL.out.1]; exact HIX.out.2) (HV.out)
         clear HC F3 mz)
      | (with_reducible refine fm_ranW (o := ⟨some 129, .load 4 _, _, _, _, _⟩) (by with_unfolding_all rfl) (.bool false) _ (exec_load rfl rfl (run_load1 Tryd.underlying4 rfl ec)) ?_)
      | (with_reducible refine fm_ranW (o := ⟨some 139, .load 3 _, _, _, _, _⟩) (by with_unfolding_all rfl) (.int .i64 8) _ (exec_load rfl rfl (run_load1 Tryd.underlying3 rfl e0)) ?_))
    have HG : Hid (Tm.steps L s1 (k + 1) = Tm.give L k (ks.drop 0) (cb, pb)) := Lib.hid ((HST.out cb (by simp [Tm.step1, Tm.setIf, Tm.kind, Tm.kids, Tm.user, HA.out, Tm.canSec, ← HIX.out.1, HV.out])).2 (by simp [Tm.opensC, Tm.kind, Tm.kids, Tm.user]))
    go_loopw [18] (fun i wi => ∃ (q : Nat) (cc pp : List Bool), i = .int .i64 (q : Int) ∧ q ≤ kn ∧ Hid (cc.length = m ∧ pp.length = m ∧ Tm.steps L s1 (k + 1) = Tm.give L k (ks.drop q) (cc, pp)) ∧ Fm w wi (oB b15 24 (tmc 8 u nm s KK kn cap) :: SetOs (some ⟨g, oo, none⟩) c1 xs bc bp cc pp) (tT Any S1 (.mk 8 u nm s ks) (tmc 8 u nm s KK kn cap) :: [tLs Any S1 L xs, tR Any S A vs K, tR Any Sb B vb T])) (fun i _ => kn - (intOf i).toNat)
    case atStart => exact ⟨0, cb, pb, rfl, (by rw [HKN.out.1, HKN.out.2]; decide), Lib.hid ⟨HCL.out.1, HCL.out.2, HG.out⟩, F4⟩
    case round =>
      clear F4 e0 e1 e4 ec
      obtain ⟨q, cc, pp, rfl, hq, hg, FJ⟩ := hrel
      have e4 := (FJ.blk 0 rfl).cell 4
      simp only [tmc, List.getElem?_cons_succ, List.getElem?_cons_zero] at e4
      by_cases hqk : q < kn
      · have hqZ : (q : Int) < (kn : Int) := by omega
        have hql : q < ks.length := by rw [← HKN.out.1]; exact hqk
        obtain ⟨gq, oq, cq, hAq, h5q, h1q, FE⟩ := FJ.elem (List.mem_cons_self ..) q hql
        subst hAq
        have FE2 := FE.eT (List.mem_cons_self ..)
        have CE := FE.ec (List.mem_cons_self ..)
        have hin := HKID.out _ (List.getElem_mem hql)
        have hgd := give_drop L ks k q hql cc pp
        obtain ⟨tq, htq⟩ : ∃ t, t = ks[q] := ⟨_, rfl⟩
        rw [← htq] at FE2 hin hgd
        obtain ⟨iq, hiq⟩ : ∃ i, i = Tm.idx L tq := ⟨_, rfl⟩
        have hiqm : iq < m := by rw [hm.out, hiq]; exact Tm.idx_lt hin
        have hiqZ : (iq : Int) < (m : Int) := by omega
        rw [← hiq] at hgd
        obtain ⟨b1, hb1⟩ : ∃ b, b = Tm.gB cc k := ⟨_, rfl⟩
        obtain ⟨b2, hb2⟩ : ∃ b, b = Tm.gB pp k := ⟨_, rfl⟩
        rw [← hb1, ← hb2] at hgd
        have HGD := Lib.hid hgd
        have HB := Lib.hid (And.intro hb1 hb2)
        have HIN := Lib.hid (And.intro hin hiq)
        have HQK := Lib.hid hqk
        clear hgd hb1 hb2 hin hiq htq hqk hql FE FJ
        cases b1 <;> cases b2
        all_goals go_wp2_with (first
          | (with_reducible refine wpList_loads (o := ⟨some 184, .load 24 (.tmp 183), _, _, _, _⟩) rfl 24 (.tmp 183) rfl gq (oq + q * 5) cq rfl CE _ Tryd.underlying24 rfl (size24' h5q) (.agg cq.toArray) rfl ?_)
          | (go_at_call 65
             have HC := (FE2.sub (ts' := tT Any S1 tq cq :: [tLs Any S1 L xs, tR Any S A vs K, tR Any Sb B vb T]) (List.Sublist.refl _) (fun y hy => by
               rcases List.mem_cons.1 hy with h | h
               · rw [h]; exact List.mem_cons_self ..
               · exact List.mem_cons_of_mem _ (List.mem_cons_of_mem _ (List.mem_cons_of_mem _ h)))).hasT (S := S1) (L := Any) (l := L) (List.mem_cons_of_mem _ (List.mem_cons_self ..)) (List.mem_cons_self ..) m hm.out HM9.out HIN.out.1 iq HIN.out.2
             with_reducible refine Calls.mono HC ?_
             rintro e wa ⟨rfl, mz⟩
             have FA := FE2.call mz
             have ec := bools_cell (FA.blk 2 rfl) (i := k) (by rw [hg.out.1]; exact HKM.out) HB.out.1.symm
             have ep := bools_cell (FA.blk 3 rfl) (i := k) (by rw [hg.out.2.1]; exact HKM.out) HB.out.2.symm
             clear HC FE2 mz)
          | (with_reducible refine fm_store1 FA 2 iq rfl (by rw [List.length_map, hg.out.1]; exact hiqm) (o := ⟨none, .store 4 (.tmp 192) _, _, _, _, _⟩) 4 (.bool true) rfl one4 rfl (.tmp 192) _ rfl rfl rfl rfl ?_
             intro wb FX
             have FB := Fm.set1b FX
             replace ep := bools_cell (FB.blk 3 rfl) (i := k) (by rw [hg.out.2.1]; exact HKM.out) HB.out.2.symm
             clear FA FX ec)
          | (with_reducible refine fm_store1 FB 3 iq rfl (by rw [List.length_map, hg.out.2.1]; exact hiqm) (o := ⟨none, .store 4 (.tmp 199) _, _, _, _, _⟩) 4 (.bool true) rfl one4 rfl (.tmp 199) _ rfl rfl rfl rfl ?_
             intro wc FY
             have FC := Fm.set2b FY
             clear FB FY)
          | (with_reducible refine fm_store1 FA 3 iq rfl (by rw [List.length_map, hg.out.2.1]; exact hiqm) (o := ⟨none, .store 4 (.tmp 199) _, _, _, _, _⟩) 4 (.bool true) rfl one4 rfl (.tmp 199) _ rfl rfl rfl rfl ?_
             intro wc FY
             have FC := Fm.set2b FY
             clear FA FY))
        · have FZ := FA.sub (ts' := tT Any S1 (.mk 8 u nm s ks) (tmc 8 u nm s _ kn cap) :: [tLs Any S1 L xs, tR Any S A vs K, tR Any Sb B vb T]) (List.Sublist.refl _) (fun y hy => List.mem_cons_of_mem _ (List.mem_cons_of_mem _ hy))
          exact ⟨⟨q + 1, cc, pp, by go_num, by have := HQK.out; omega, Lib.hid ⟨hg.out.1, hg.out.2.1, by rw [hg.out.2.2, HGD.out]; rfl⟩, FZ⟩, by have := HQK.out; simp [intOf]; omega⟩
        · have FZ := FC.sub (ts' := tT Any S1 (.mk 8 u nm s ks) (tmc 8 u nm s _ kn cap) :: [tLs Any S1 L xs, tR Any S A vs K, tR Any Sb B vb T]) (List.Sublist.refl _) (fun y hy => List.mem_cons_of_mem _ (List.mem_cons_of_mem _ hy))
          exact ⟨⟨q + 1, cc, (pp.set iq true), by go_num, by have := HQK.out; omega, Lib.hid ⟨hg.out.1, (by rw [List.length_set]; exact hg.out.2.1), by rw [hg.out.2.2, HGD.out]; rfl⟩, FZ⟩, by have := HQK.out; simp [intOf]; omega⟩
        · have FZ := FB.sub (ts' := tT Any S1 (.mk 8 u nm s ks) (tmc 8 u nm s _ kn cap) :: [tLs Any S1 L xs, tR Any S A vs K, tR Any Sb B vb T]) (List.Sublist.refl _) (fun y hy => List.mem_cons_of_mem _ (List.mem_cons_of_mem _ hy))
          exact ⟨⟨q + 1, (cc.set iq true), pp, by go_num, by have := HQK.out; omega, Lib.hid ⟨(by rw [List.length_set]; exact hg.out.1), hg.out.2.1, by rw [hg.out.2.2, HGD.out]; rfl⟩, FZ⟩, by have := HQK.out; simp [intOf]; omega⟩
        · have FZ := FC.sub (ts' := tT Any S1 (.mk 8 u nm s ks) (tmc 8 u nm s _ kn cap) :: [tLs Any S1 L xs, tR Any S A vs K, tR Any Sb B vb T]) (List.Sublist.refl _) (fun y hy => List.mem_cons_of_mem _ (List.mem_cons_of_mem _ hy))
          exact ⟨⟨q + 1, (cc.set iq true), (pp.set iq true), by go_num, by have := HQK.out; omega, Lib.hid ⟨(by rw [List.length_set]; exact hg.out.1), (by rw [List.length_set]; exact hg.out.2.1), by rw [hg.out.2.2, HGD.out]; rfl⟩, FZ⟩, by have := HQK.out; simp [intOf]; omega⟩
      have hqZ : ¬ (q : Int) < (kn : Int) := by omega
      have e9 : ks.drop q = [] := List.drop_eq_nil_of_le (by have := HKN.out.1; omega)
      have hfin : Tm.steps L s1 (k + 1) = (cc, pp) := by rw [hg.out.2.2, e9]; rfl
      have HFI := Lib.hid (And.intro hfin (And.intro hg.out.1 hg.out.2.1))
      clear hfin e9 hqk
      go_wp2_with fail
      have FE := FJ.sub (os' := SetOs (some ⟨g, oo, none⟩) c1 xs bc bp cc pp) (ts' := [tLs Any S1 L xs, tR Any S A vs K, tR Any Sb B vb T]) (List.sublist_cons_self _ _) (fun y hy => List.mem_cons_of_mem _ hy)
      exact ⟨⟨k + 1, cc, pp, by go_num, by have := HKM.out; omega, HFI, FE⟩, by have := HKM.out; simp [intOf]; omega⟩
  · go_wp2_with (first
      | (with_reducible refine wpList_loads (o := ⟨some 88, .load 24 (.tmp 87), _, _, _, _⟩) rfl 24 (.tmp 87) rfl g (oo + k * 5) (tmc 8 u nm s KK kn cap) rfl hC' _ Tryd.underlying24 rfl (size24' h5) (.agg (tmc 8 u nm s KK kn cap).toArray) rfl ?_)
      | (with_reducible refine fm_alloc F0 (o := ⟨some 15, .alloc 24, _, _, _, _⟩) rfl 24 rfl _ zero24 ?_; intro b15 w1 F1; clear F0)
      | (with_reducible refine fm_store F1 0 rfl (o := ⟨none, .store 24 (.tmp 15) (.tmp 88), _, _, _, _⟩) rfl (.tmp 15) (.tmp 88) rfl rfl (tmc 8 u nm s KK kn cap) rfl rfl h5 rfl h51 ?_
         intro w2 F2
         have e0 := (F2.blk 0 rfl).cell 0
         have e1 := (F2.blk 0 rfl).cell 1
         have e4 := (F2.blk 0 rfl).cell 4
         simp only [tmc, List.getElem?_cons_succ, List.getElem?_cons_zero] at e0 e1 e4
         clear F1)
      | (with_reducible refine fm_ranW (o := ⟨some 100, .load 3 _, _, _, _, _⟩) (by with_unfolding_all rfl) (.int .i64 8) _ (exec_load rfl rfl (run_load1 Tryd.underlying3 rfl e0)) ?_)
      | (with_reducible refine fm_ranW (o := ⟨some 118, .load 24 _, _, _, _, _⟩) (by with_unfolding_all rfl) (.agg (tmc 8 u nm s KK kn cap).toArray) _ (exec_load rfl rfl (run_loads (Cells.of_holds (F2.blk 0 rfl)) Tryd.underlying24 rfl (size24' h5))) ?_)
      | (go_at_call 88
         have HC := Fm.allR (L := Any) (S := S1) (l := L) (t := .mk 8 u nm s ks) F2 (hL := (List.mem_cons_of_mem _ (List.mem_cons_self ..))) (hT := List.mem_cons_self ..) m hm.out HM9.out HCL.out.1 HOK.out HKID.out
         rw [show Tm.allC L cb (Tm.mk 8 u nm s ks).kids = true from HA.out] at HC
         with_reducible refine Calls.mono HC ?_
         rintro e w3 ⟨rfl, mz⟩
         have F3 := F2.call mz
         replace e0 := (F3.blk 0 rfl).cell 0
         replace e1 := (F3.blk 0 rfl).cell 1
         replace e4 := (F3.blk 0 rfl).cell 4
         simp only [tmc, List.getElem?_cons_succ, List.getElem?_cons_zero] at e0 e1 e4
         clear HC F2 mz)
      | (with_reducible refine fm_ranW (o := ⟨some 125, .load 3 _, _, _, _, _⟩) (by with_unfolding_all rfl) (.int .i64 u) _ (exec_load rfl rfl (run_load1 Tryd.underlying3 rfl e1)) ?_)
      | (with_reducible refine fm_ranW (o := ⟨some 126, .build 24 _, _, _, _, _⟩) (by with_unfolding_all rfl) (.agg (tmc 3 u 0 ⟨#[]⟩ none 0 0).toArray) _ (exec_bD rfl rfl rfl) ?_)
      | (go_at_call 65
         have HC := F3.hasS (S := S1) (L := Any) (l := L) (List.mem_cons_of_mem _ (List.mem_cons_self ..)) u m hm.out HM9.out HSI.out ix HIX.out.1
         with_reducible refine Calls.mono HC ?_
         rintro e w4 ⟨rfl, mz⟩
         have F4 := F3.call mz
         replace e0 := (F4.blk 0 rfl).cell 0
         replace e1 := (F4.blk 0 rfl).cell 1
         replace e4 := (F4.blk 0 rfl).cell 4
         simp only [tmc, List.getElem?_cons_succ, List.getElem?_cons_zero] at e0 e1 e4
         have ec := bools_cell (F4.blk 2 rfl) (i := ix) (by rw [HCL.out.1]; exact HIX.out.2) (HV.out)
         clear HC F3 mz)
      | (with_reducible refine fm_ranW (o := ⟨some 129, .load 4 _, _, _, _, _⟩) (by with_unfolding_all rfl) (.bool true) _ (exec_load rfl rfl (run_load1 Tryd.underlying4 rfl ec)) ?_)
      | (with_reducible refine fm_store1 F4 2 k rfl (by rw [List.length_map, HCL.out.1]; exact HKM.out) (o := ⟨none, .store 4 (.tmp 133) _, _, _, _, _⟩) 4 (.bool true) rfl one4 rfl (.tmp 133) _ rfl rfl rfl rfl ?_
         intro w5 FX
         have F5 := Fm.set1b FX
         replace e0 := (F5.blk 0 rfl).cell 0
         replace e1 := (F5.blk 0 rfl).cell 1
         replace e4 := (F5.blk 0 rfl).cell 4
         simp only [tmc, List.getElem?_cons_succ, List.getElem?_cons_zero] at e0 e1 e4
         clear F4 FX)
      | (with_reducible refine fm_ranW (o := ⟨some 139, .load 3 _, _, _, _, _⟩) (by with_unfolding_all rfl) (.int .i64 8) _ (exec_load rfl rfl (run_load1 Tryd.underlying3 rfl e0)) ?_))
    have HG : Hid (Tm.steps L s1 (k + 1) = Tm.give L k (ks.drop 0) ((cb.set k true), pb)) := Lib.hid ((HST.out (cb.set k true) (by simp [Tm.step1, Tm.setIf, Tm.kind, Tm.kids, Tm.user, HA.out, Tm.canSec, ← HIX.out.1, HV.out])).2 (by simp [Tm.opensC, Tm.kind, Tm.kids, Tm.user]))
    go_loopw [18] (fun i wi => ∃ (q : Nat) (cc pp : List Bool), i = .int .i64 (q : Int) ∧ q ≤ kn ∧ Hid (cc.length = m ∧ pp.length = m ∧ Tm.steps L s1 (k + 1) = Tm.give L k (ks.drop q) (cc, pp)) ∧ Fm w wi (oB b15 24 (tmc 8 u nm s KK kn cap) :: SetOs (some ⟨g, oo, none⟩) c1 xs bc bp cc pp) (tT Any S1 (.mk 8 u nm s ks) (tmc 8 u nm s KK kn cap) :: [tLs Any S1 L xs, tR Any S A vs K, tR Any Sb B vb T])) (fun i _ => kn - (intOf i).toNat)
    case atStart => exact ⟨0, (cb.set k true), pb, rfl, (by rw [HKN.out.1, HKN.out.2]; decide), Lib.hid ⟨(by rw [List.length_set]; exact HCL.out.1), HCL.out.2, HG.out⟩, F5⟩
    case round =>
      clear F5 e0 e1 e4 ec
      obtain ⟨q, cc, pp, rfl, hq, hg, FJ⟩ := hrel
      have e4 := (FJ.blk 0 rfl).cell 4
      simp only [tmc, List.getElem?_cons_succ, List.getElem?_cons_zero] at e4
      by_cases hqk : q < kn
      · have hqZ : (q : Int) < (kn : Int) := by omega
        have hql : q < ks.length := by rw [← HKN.out.1]; exact hqk
        obtain ⟨gq, oq, cq, hAq, h5q, h1q, FE⟩ := FJ.elem (List.mem_cons_self ..) q hql
        subst hAq
        have FE2 := FE.eT (List.mem_cons_self ..)
        have CE := FE.ec (List.mem_cons_self ..)
        have hin := HKID.out _ (List.getElem_mem hql)
        have hgd := give_drop L ks k q hql cc pp
        obtain ⟨tq, htq⟩ : ∃ t, t = ks[q] := ⟨_, rfl⟩
        rw [← htq] at FE2 hin hgd
        obtain ⟨iq, hiq⟩ : ∃ i, i = Tm.idx L tq := ⟨_, rfl⟩
        have hiqm : iq < m := by rw [hm.out, hiq]; exact Tm.idx_lt hin
        have hiqZ : (iq : Int) < (m : Int) := by omega
        rw [← hiq] at hgd
        obtain ⟨b1, hb1⟩ : ∃ b, b = Tm.gB cc k := ⟨_, rfl⟩
        obtain ⟨b2, hb2⟩ : ∃ b, b = Tm.gB pp k := ⟨_, rfl⟩
        rw [← hb1, ← hb2] at hgd
        have HGD := Lib.hid hgd
        have HB := Lib.hid (And.intro hb1 hb2)
        have HIN := Lib.hid (And.intro hin hiq)
        have HQK := Lib.hid hqk
        clear hgd hb1 hb2 hin hiq htq hqk hql FE FJ
        cases b1 <;> cases b2
        all_goals go_wp2_with (first
          | (with_reducible refine wpList_loads (o := ⟨some 184, .load 24 (.tmp 183), _, _, _, _⟩) rfl 24 (.tmp 183) rfl gq (oq + q * 5) cq rfl CE _ Tryd.underlying24 rfl (size24' h5q) (.agg cq.toArray) rfl ?_)
          | (go_at_call 65
             have HC := (FE2.sub (ts' := tT Any S1 tq cq :: [tLs Any S1 L xs, tR Any S A vs K, tR Any Sb B vb T]) (List.Sublist.refl _) (fun y hy => by
               rcases List.mem_cons.1 hy with h | h
               · rw [h]; exact List.mem_cons_self ..
               · exact List.mem_cons_of_mem _ (List.mem_cons_of_mem _ (List.mem_cons_of_mem _ h)))).hasT (S := S1) (L := Any) (l := L) (List.mem_cons_of_mem _ (List.mem_cons_self ..)) (List.mem_cons_self ..) m hm.out HM9.out HIN.out.1 iq HIN.out.2
             with_reducible refine Calls.mono HC ?_
             rintro e wa ⟨rfl, mz⟩
             have FA := FE2.call mz
             have ec := bools_cell (FA.blk 2 rfl) (i := k) (by rw [hg.out.1]; exact HKM.out) HB.out.1.symm
             have ep := bools_cell (FA.blk 3 rfl) (i := k) (by rw [hg.out.2.1]; exact HKM.out) HB.out.2.symm
             clear HC FE2 mz)
          | (with_reducible refine fm_store1 FA 2 iq rfl (by rw [List.length_map, hg.out.1]; exact hiqm) (o := ⟨none, .store 4 (.tmp 192) _, _, _, _, _⟩) 4 (.bool true) rfl one4 rfl (.tmp 192) _ rfl rfl rfl rfl ?_
             intro wb FX
             have FB := Fm.set1b FX
             replace ep := bools_cell (FB.blk 3 rfl) (i := k) (by rw [hg.out.2.1]; exact HKM.out) HB.out.2.symm
             clear FA FX ec)
          | (with_reducible refine fm_store1 FB 3 iq rfl (by rw [List.length_map, hg.out.2.1]; exact hiqm) (o := ⟨none, .store 4 (.tmp 199) _, _, _, _, _⟩) 4 (.bool true) rfl one4 rfl (.tmp 199) _ rfl rfl rfl rfl ?_
             intro wc FY
             have FC := Fm.set2b FY
             clear FB FY)
          | (with_reducible refine fm_store1 FA 3 iq rfl (by rw [List.length_map, hg.out.2.1]; exact hiqm) (o := ⟨none, .store 4 (.tmp 199) _, _, _, _, _⟩) 4 (.bool true) rfl one4 rfl (.tmp 199) _ rfl rfl rfl rfl ?_
             intro wc FY
             have FC := Fm.set2b FY
             clear FA FY))
        · have FZ := FA.sub (ts' := tT Any S1 (.mk 8 u nm s ks) (tmc 8 u nm s _ kn cap) :: [tLs Any S1 L xs, tR Any S A vs K, tR Any Sb B vb T]) (List.Sublist.refl _) (fun y hy => List.mem_cons_of_mem _ (List.mem_cons_of_mem _ hy))
          exact ⟨⟨q + 1, cc, pp, by go_num, by have := HQK.out; omega, Lib.hid ⟨hg.out.1, hg.out.2.1, by rw [hg.out.2.2, HGD.out]; rfl⟩, FZ⟩, by have := HQK.out; simp [intOf]; omega⟩
        · have FZ := FC.sub (ts' := tT Any S1 (.mk 8 u nm s ks) (tmc 8 u nm s _ kn cap) :: [tLs Any S1 L xs, tR Any S A vs K, tR Any Sb B vb T]) (List.Sublist.refl _) (fun y hy => List.mem_cons_of_mem _ (List.mem_cons_of_mem _ hy))
          exact ⟨⟨q + 1, cc, (pp.set iq true), by go_num, by have := HQK.out; omega, Lib.hid ⟨hg.out.1, (by rw [List.length_set]; exact hg.out.2.1), by rw [hg.out.2.2, HGD.out]; rfl⟩, FZ⟩, by have := HQK.out; simp [intOf]; omega⟩
        · have FZ := FB.sub (ts' := tT Any S1 (.mk 8 u nm s ks) (tmc 8 u nm s _ kn cap) :: [tLs Any S1 L xs, tR Any S A vs K, tR Any Sb B vb T]) (List.Sublist.refl _) (fun y hy => List.mem_cons_of_mem _ (List.mem_cons_of_mem _ hy))
          exact ⟨⟨q + 1, (cc.set iq true), pp, by go_num, by have := HQK.out; omega, Lib.hid ⟨(by rw [List.length_set]; exact hg.out.1), hg.out.2.1, by rw [hg.out.2.2, HGD.out]; rfl⟩, FZ⟩, by have := HQK.out; simp [intOf]; omega⟩
        · have FZ := FC.sub (ts' := tT Any S1 (.mk 8 u nm s ks) (tmc 8 u nm s _ kn cap) :: [tLs Any S1 L xs, tR Any S A vs K, tR Any Sb B vb T]) (List.Sublist.refl _) (fun y hy => List.mem_cons_of_mem _ (List.mem_cons_of_mem _ hy))
          exact ⟨⟨q + 1, (cc.set iq true), (pp.set iq true), by go_num, by have := HQK.out; omega, Lib.hid ⟨(by rw [List.length_set]; exact hg.out.1), (by rw [List.length_set]; exact hg.out.2.1), by rw [hg.out.2.2, HGD.out]; rfl⟩, FZ⟩, by have := HQK.out; simp [intOf]; omega⟩
      have hqZ : ¬ (q : Int) < (kn : Int) := by omega
      have e9 : ks.drop q = [] := List.drop_eq_nil_of_le (by have := HKN.out.1; omega)
      have hfin : Tm.steps L s1 (k + 1) = (cc, pp) := by rw [hg.out.2.2, e9]; rfl
      have HFI := Lib.hid (And.intro hfin (And.intro hg.out.1 hg.out.2.1))
      clear hfin e9 hqk
      go_wp2_with fail
      have FE := FJ.sub (os' := SetOs (some ⟨g, oo, none⟩) c1 xs bc bp cc pp) (ts' := [tLs Any S1 L xs, tR Any S A vs K, tR Any Sb B vb T]) (List.sublist_cons_self _ _) (fun y hy => List.mem_cons_of_mem _ hy)
      exact ⟨⟨k + 1, cc, pp, by go_num, by have := HKM.out; omega, HFI, FE⟩, by have := HKM.out; simp [intOf]; omega⟩
end Go.Proofs.YtchanildogjhgaaDoor

