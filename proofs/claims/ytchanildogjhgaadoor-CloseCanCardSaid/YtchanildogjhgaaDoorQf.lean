/-
  The document's Set (ref 07): a round's one place, kinds 1, 2, 3, 5. My own work.
-/
import Derived.Test.YtchanildogjhgaaDoorQe
namespace Go.Proofs.YtchanildogjhgaaDoor
open Go.RowKit Go.Shelf
set_option linter.unusedVariables false
set_option linter.unusedSimpArgs false
set_option maxRecDepth 100000 in
set_option maxHeartbeats 40000000 in
theorem body_1 : bodyP.k1 := by
  intro w A n c vs K S B nb d vb T Sb hn9 hnb9 _ _ _ _ _ _ _ _ _ _ _ _ _ _ _ _ _ _ _ _ _ _ _ _ _ _ M1 _ _ _ _ _ _ _ _ _ _ _ _ _ _ m c1 xs S1 _ L hm hmb _ bc w10 bp w11 _ _ _ _ _ _ _ _ _ _ _ _ _ _ _ _ _ _ _ _ _ _ _ _ _ _ j hj s0 y0 _ _ _ hjZ _ _ _ _ _ _ _ _ _ _ _ _ _ _ _ _ _ _ _ _ _ _ _ _ _ _ _ _ _ _ _ _ _ _ _ _ _ _ _ _ _ _ _ _ _ _ _ _ _ _ _ _ _ _ _ _ _ _ _ _ _ _ _ _ _ _ _ _ _ _ _ _ _ _ _ _ _ _ _ _ _ _ _ _ _ _ _ _ _ _ _ _ _ _ _ _ _ _ _ _ _ _ _ _ _ _ _ _ _ _ _ _ _ _ _ _ _ _ _ _ _ _ _ _ _ _ _ _ _ _ _ _ _ _ _ r _ _ hr hw2 hrZ _ s1 wr _ _ _ _ _ _ _ _ _ _ _ _ _ _ _ _ _ _ _ _ _ _ _ _ _ _ _ _ _ _ _ _ _ _ _ _ _ _ _ _ _ _ _ _ _ _ _ _ _ _ _ _ _ _ _ _ _ _ _ _ _ _ _ _ _ _ _ _ _ _ _ _ _ _ _ _ _ _ _ _ _ _ _ _ _ _ _ _ _ _ _ _ _ _ _ _ _ _ _ _ _ _ _ _ _ _ _ _ _ _ _ _ _ _ _ _ _ _ _ _ _ _ _ _ _ _ k cb pb hk hkZ g oo _ _ _ _ _ _ u nm s ks KK cap vk kn hkb HM9 HKID HCL HKM hC' F0 h5 h51 HKN HOK HSEC HST
  go_wp2_with (first
    | (with_reducible refine wpList_loads (o := ⟨some 88, .load 24 (.tmp 87), _, _, _, _⟩) rfl 24 (.tmp 87) rfl g (oo + k * 5) (tmc 1 u nm s KK kn cap) rfl hC' _ Tryd.underlying24 rfl (size24' h5) (.agg (tmc 1 u nm s KK kn cap).toArray) rfl ?_)
    | (with_reducible refine fm_alloc F0 (o := ⟨some 15, .alloc 24, _, _, _, _⟩) rfl 24 rfl _ zero24 ?_; intro b15 w1 F1; clear F0)
    | (with_reducible refine fm_store F1 0 rfl (o := ⟨none, .store 24 (.tmp 15) (.tmp 88), _, _, _, _⟩) rfl (.tmp 15) (.tmp 88) rfl rfl (tmc 1 u nm s KK kn cap) rfl rfl h5 rfl h51 ?_
       intro w2 F2
       have e0 := (F2.blk 0 rfl).cell 0
       have e1 := (F2.blk 0 rfl).cell 1
       have e4 := (F2.blk 0 rfl).cell 4
       simp only [tmc, List.getElem?_cons_succ, List.getElem?_cons_zero] at e0 e1 e4
       clear F1)
    | (with_reducible refine fm_store1 F2 2 k rfl (by rw [List.length_map, HCL.out.1]; exact HKM.out) (o := ⟨none, .store 4 (.tmp 94) _, _, _, _, _⟩) 4 (.bool true) rfl one4 rfl (.tmp 94) _ rfl rfl rfl rfl ?_
       intro w3 FX
       have F3 := Fm.set1b FX
       replace e0 := (F3.blk 0 rfl).cell 0
       replace e1 := (F3.blk 0 rfl).cell 1
       replace e4 := (F3.blk 0 rfl).cell 4
       simp only [tmc, List.getElem?_cons_succ, List.getElem?_cons_zero] at e0 e1 e4
       clear F2 FX))
  have FE := F3.sub (os' := SetOs (some ⟨g, oo, none⟩) c1 xs bc bp (cb.set k true) pb) (ts' := [tLs Any S1 L xs, tR Any S A vs K, tR Any Sb B vb T]) (List.sublist_cons_self _ _) (fun y hy => List.mem_cons_of_mem _ hy)
  exact ⟨⟨k + 1, (cb.set k true), pb, by go_num, by have := HKM.out; omega, Lib.hid ⟨(HST.out (cb.set k true) (by simp [Tm.step1, Tm.setIf, Tm.kind, Tm.kids, Tm.user])).1 (by simp [Tm.opensC, Tm.kind, Tm.kids, Tm.user]), (by rw [List.length_set]; exact HCL.out.1), HCL.out.2⟩, FE⟩, by have := HKM.out; simp [intOf]; omega⟩
set_option maxRecDepth 100000 in
set_option maxHeartbeats 40000000 in
theorem body_2 : bodyP.k2 := by
  intro w A n c vs K S B nb d vb T Sb hn9 hnb9 _ _ _ _ _ _ _ _ _ _ _ _ _ _ _ _ _ _ _ _ _ _ _ _ _ _ M1 _ _ _ _ _ _ _ _ _ _ _ _ _ _ m c1 xs S1 _ L hm hmb _ bc w10 bp w11 _ _ _ _ _ _ _ _ _ _ _ _ _ _ _ _ _ _ _ _ _ _ _ _ _ _ j hj s0 y0 _ _ _ hjZ _ _ _ _ _ _ _ _ _ _ _ _ _ _ _ _ _ _ _ _ _ _ _ _ _ _ _ _ _ _ _ _ _ _ _ _ _ _ _ _ _ _ _ _ _ _ _ _ _ _ _ _ _ _ _ _ _ _ _ _ _ _ _ _ _ _ _ _ _ _ _ _ _ _ _ _ _ _ _ _ _ _ _ _ _ _ _ _ _ _ _ _ _ _ _ _ _ _ _ _ _ _ _ _ _ _ _ _ _ _ _ _ _ _ _ _ _ _ _ _ _ _ _ _ _ _ _ _ _ _ _ _ _ _ _ r _ _ hr hw2 hrZ _ s1 wr _ _ _ _ _ _ _ _ _ _ _ _ _ _ _ _ _ _ _ _ _ _ _ _ _ _ _ _ _ _ _ _ _ _ _ _ _ _ _ _ _ _ _ _ _ _ _ _ _ _ _ _ _ _ _ _ _ _ _ _ _ _ _ _ _ _ _ _ _ _ _ _ _ _ _ _ _ _ _ _ _ _ _ _ _ _ _ _ _ _ _ _ _ _ _ _ _ _ _ _ _ _ _ _ _ _ _ _ _ _ _ _ _ _ _ _ _ _ _ _ _ _ _ _ _ _ k cb pb hk hkZ g oo _ _ _ _ _ _ u nm s ks KK cap vk kn hkb HM9 HKID HCL HKM hC' F0 h5 h51 HKN HOK HSEC HST
  go_wp2_with (first
    | (with_reducible refine wpList_loads (o := ⟨some 88, .load 24 (.tmp 87), _, _, _, _⟩) rfl 24 (.tmp 87) rfl g (oo + k * 5) (tmc 2 u nm s KK kn cap) rfl hC' _ Tryd.underlying24 rfl (size24' h5) (.agg (tmc 2 u nm s KK kn cap).toArray) rfl ?_)
    | (with_reducible refine fm_alloc F0 (o := ⟨some 15, .alloc 24, _, _, _, _⟩) rfl 24 rfl _ zero24 ?_; intro b15 w1 F1; clear F0)
    | (with_reducible refine fm_store F1 0 rfl (o := ⟨none, .store 24 (.tmp 15) (.tmp 88), _, _, _, _⟩) rfl (.tmp 15) (.tmp 88) rfl rfl (tmc 2 u nm s KK kn cap) rfl rfl h5 rfl h51 ?_
       intro w2 F2
       have e0 := (F2.blk 0 rfl).cell 0
       have e1 := (F2.blk 0 rfl).cell 1
       have e4 := (F2.blk 0 rfl).cell 4
       simp only [tmc, List.getElem?_cons_succ, List.getElem?_cons_zero] at e0 e1 e4
       clear F1)
    | (with_reducible refine fm_ranW (o := ⟨some 100, .load 3 _, _, _, _, _⟩) (by with_unfolding_all rfl) (.int .i64 2) _ (exec_load rfl rfl (run_load1 Tryd.underlying3 rfl e0)) ?_))
  have FE := F2.sub (os' := SetOs (some ⟨g, oo, none⟩) c1 xs bc bp cb pb) (ts' := [tLs Any S1 L xs, tR Any S A vs K, tR Any Sb B vb T]) (List.sublist_cons_self _ _) (fun y hy => List.mem_cons_of_mem _ hy)
  exact ⟨⟨k + 1, cb, pb, by go_num, by have := HKM.out; omega, Lib.hid ⟨(HST.out cb (by simp [Tm.step1, Tm.setIf, Tm.kind, Tm.kids, Tm.user])).1 (by simp [Tm.opensC, Tm.kind, Tm.kids, Tm.user]), HCL.out.1, HCL.out.2⟩, FE⟩, by have := HKM.out; simp [intOf]; omega⟩
set_option maxRecDepth 100000 in
set_option maxHeartbeats 40000000 in
theorem body_3 : bodyP.k3 := by
  intro w A n c vs K S B nb d vb T Sb hn9 hnb9 _ _ _ _ _ _ _ _ _ _ _ _ _ _ _ _ _ _ _ _ _ _ _ _ _ _ M1 _ _ _ _ _ _ _ _ _ _ _ _ _ _ m c1 xs S1 _ L hm hmb _ bc w10 bp w11 _ _ _ _ _ _ _ _ _ _ _ _ _ _ _ _ _ _ _ _ _ _ _ _ _ _ j hj s0 y0 _ _ _ hjZ _ _ _ _ _ _ _ _ _ _ _ _ _ _ _ _ _ _ _ _ _ _ _ _ _ _ _ _ _ _ _ _ _ _ _ _ _ _ _ _ _ _ _ _ _ _ _ _ _ _ _ _ _ _ _ _ _ _ _ _ _ _ _ _ _ _ _ _ _ _ _ _ _ _ _ _ _ _ _ _ _ _ _ _ _ _ _ _ _ _ _ _ _ _ _ _ _ _ _ _ _ _ _ _ _ _ _ _ _ _ _ _ _ _ _ _ _ _ _ _ _ _ _ _ _ _ _ _ _ _ _ _ _ _ _ r _ _ hr hw2 hrZ _ s1 wr _ _ _ _ _ _ _ _ _ _ _ _ _ _ _ _ _ _ _ _ _ _ _ _ _ _ _ _ _ _ _ _ _ _ _ _ _ _ _ _ _ _ _ _ _ _ _ _ _ _ _ _ _ _ _ _ _ _ _ _ _ _ _ _ _ _ _ _ _ _ _ _ _ _ _ _ _ _ _ _ _ _ _ _ _ _ _ _ _ _ _ _ _ _ _ _ _ _ _ _ _ _ _ _ _ _ _ _ _ _ _ _ _ _ _ _ _ _ _ _ _ _ _ _ _ _ k cb pb hk hkZ g oo _ _ _ _ _ _ u nm s ks KK cap vk kn hkb HM9 HKID HCL HKM hC' F0 h5 h51 HKN HOK HSEC HST
  go_wp2_with (first
    | (with_reducible refine wpList_loads (o := ⟨some 88, .load 24 (.tmp 87), _, _, _, _⟩) rfl 24 (.tmp 87) rfl g (oo + k * 5) (tmc 3 u nm s KK kn cap) rfl hC' _ Tryd.underlying24 rfl (size24' h5) (.agg (tmc 3 u nm s KK kn cap).toArray) rfl ?_)
    | (with_reducible refine fm_alloc F0 (o := ⟨some 15, .alloc 24, _, _, _, _⟩) rfl 24 rfl _ zero24 ?_; intro b15 w1 F1; clear F0)
    | (with_reducible refine fm_store F1 0 rfl (o := ⟨none, .store 24 (.tmp 15) (.tmp 88), _, _, _, _⟩) rfl (.tmp 15) (.tmp 88) rfl rfl (tmc 3 u nm s KK kn cap) rfl rfl h5 rfl h51 ?_
       intro w2 F2
       have e0 := (F2.blk 0 rfl).cell 0
       have e1 := (F2.blk 0 rfl).cell 1
       have e4 := (F2.blk 0 rfl).cell 4
       simp only [tmc, List.getElem?_cons_succ, List.getElem?_cons_zero] at e0 e1 e4
       clear F1)
    | (with_reducible refine fm_ranW (o := ⟨some 100, .load 3 _, _, _, _, _⟩) (by with_unfolding_all rfl) (.int .i64 3) _ (exec_load rfl rfl (run_load1 Tryd.underlying3 rfl e0)) ?_))
  have FE := F2.sub (os' := SetOs (some ⟨g, oo, none⟩) c1 xs bc bp cb pb) (ts' := [tLs Any S1 L xs, tR Any S A vs K, tR Any Sb B vb T]) (List.sublist_cons_self _ _) (fun y hy => List.mem_cons_of_mem _ hy)
  exact ⟨⟨k + 1, cb, pb, by go_num, by have := HKM.out; omega, Lib.hid ⟨(HST.out cb (by simp [Tm.step1, Tm.setIf, Tm.kind, Tm.kids, Tm.user])).1 (by simp [Tm.opensC, Tm.kind, Tm.kids, Tm.user]), HCL.out.1, HCL.out.2⟩, FE⟩, by have := HKM.out; simp [intOf]; omega⟩
set_option maxRecDepth 100000 in
set_option maxHeartbeats 40000000 in
theorem body_5 : bodyP.k5 := by
  intro w A n c vs K S B nb d vb T Sb hn9 hnb9 _ _ _ _ _ _ _ _ _ _ _ _ _ _ _ _ _ _ _ _ _ _ _ _ _ _ M1 _ _ _ _ _ _ _ _ _ _ _ _ _ _ m c1 xs S1 _ L hm hmb _ bc w10 bp w11 _ _ _ _ _ _ _ _ _ _ _ _ _ _ _ _ _ _ _ _ _ _ _ _ _ _ j hj s0 y0 _ _ _ hjZ _ _ _ _ _ _ _ _ _ _ _ _ _ _ _ _ _ _ _ _ _ _ _ _ _ _ _ _ _ _ _ _ _ _ _ _ _ _ _ _ _ _ _ _ _ _ _ _ _ _ _ _ _ _ _ _ _ _ _ _ _ _ _ _ _ _ _ _ _ _ _ _ _ _ _ _ _ _ _ _ _ _ _ _ _ _ _ _ _ _ _ _ _ _ _ _ _ _ _ _ _ _ _ _ _ _ _ _ _ _ _ _ _ _ _ _ _ _ _ _ _ _ _ _ _ _ _ _ _ _ _ _ _ _ _ r _ _ hr hw2 hrZ _ s1 wr _ _ _ _ _ _ _ _ _ _ _ _ _ _ _ _ _ _ _ _ _ _ _ _ _ _ _ _ _ _ _ _ _ _ _ _ _ _ _ _ _ _ _ _ _ _ _ _ _ _ _ _ _ _ _ _ _ _ _ _ _ _ _ _ _ _ _ _ _ _ _ _ _ _ _ _ _ _ _ _ _ _ _ _ _ _ _ _ _ _ _ _ _ _ _ _ _ _ _ _ _ _ _ _ _ _ _ _ _ _ _ _ _ _ _ _ _ _ _ _ _ _ _ _ _ _ k cb pb hk hkZ g oo _ _ _ _ _ _ u nm s ks KK cap vk kn hkb HM9 HKID HCL HKM hC' F0 h5 h51 HKN HOK HSEC HST
  obtain ⟨a, ha⟩ : ∃ a, a = Tm.allC L cb ks := ⟨_, rfl⟩
  have HA := Lib.hid ha.symm
  clear ha
  cases a
  · go_wp2_with (first
      | (with_reducible refine wpList_loads (o := ⟨some 88, .load 24 (.tmp 87), _, _, _, _⟩) rfl 24 (.tmp 87) rfl g (oo + k * 5) (tmc 5 u nm s KK kn cap) rfl hC' _ Tryd.underlying24 rfl (size24' h5) (.agg (tmc 5 u nm s KK kn cap).toArray) rfl ?_)
      | (with_reducible refine fm_alloc F0 (o := ⟨some 15, .alloc 24, _, _, _, _⟩) rfl 24 rfl _ zero24 ?_; intro b15 w1 F1; clear F0)
      | (with_reducible refine fm_store F1 0 rfl (o := ⟨none, .store 24 (.tmp 15) (.tmp 88), _, _, _, _⟩) rfl (.tmp 15) (.tmp 88) rfl rfl (tmc 5 u nm s KK kn cap) rfl rfl h5 rfl h51 ?_
         intro w2 F2
         have e0 := (F2.blk 0 rfl).cell 0
         have e1 := (F2.blk 0 rfl).cell 1
         have e4 := (F2.blk 0 rfl).cell 4
         simp only [tmc, List.getElem?_cons_succ, List.getElem?_cons_zero] at e0 e1 e4
         clear F1)
      | (with_reducible refine fm_ranW (o := ⟨some 100, .load 3 _, _, _, _, _⟩) (by with_unfolding_all rfl) (.int .i64 5) _ (exec_load rfl rfl (run_load1 Tryd.underlying3 rfl e0)) ?_)
      | (with_reducible refine fm_ranW (o := ⟨some 106, .load 24 _, _, _, _, _⟩) (by with_unfolding_all rfl) (.agg (tmc 5 u nm s KK kn cap).toArray) _ (exec_load rfl rfl (run_loads (Cells.of_holds (F2.blk 0 rfl)) Tryd.underlying24 rfl (size24' h5))) ?_)
      | (go_at_call 88
         have HC := Fm.allR (L := Any) (S := S1) (l := L) (t := .mk 5 u nm s ks) F2 (hL := (List.mem_cons_of_mem _ (List.mem_cons_self ..))) (hT := List.mem_cons_self ..) m hm.out HM9.out HCL.out.1 HOK.out HKID.out
         rw [show Tm.allC L cb (Tm.mk 5 u nm s ks).kids = false from HA.out] at HC
         with_reducible refine Calls.mono HC ?_
         rintro e w3 ⟨rfl, mz⟩
         have F3 := F2.call mz
         replace e0 := (F3.blk 0 rfl).cell 0
         replace e1 := (F3.blk 0 rfl).cell 1
         replace e4 := (F3.blk 0 rfl).cell 4
         simp only [tmc, List.getElem?_cons_succ, List.getElem?_cons_zero] at e0 e1 e4
         clear HC F2 mz)
      | (with_reducible refine fm_ranW (o := ⟨some 139, .load 3 _, _, _, _, _⟩) (by with_unfolding_all rfl) (.int .i64 5) _ (exec_load rfl rfl (run_load1 Tryd.underlying3 rfl e0)) ?_))
    have FE := F3.sub (os' := SetOs (some ⟨g, oo, none⟩) c1 xs bc bp cb pb) (ts' := [tLs Any S1 L xs, tR Any S A vs K, tR Any Sb B vb T]) (List.sublist_cons_self _ _) (fun y hy => List.mem_cons_of_mem _ hy)
    exact ⟨⟨k + 1, cb, pb, by go_num, by have := HKM.out; omega, Lib.hid ⟨(HST.out cb (by simp [Tm.step1, Tm.setIf, Tm.kind, Tm.kids, Tm.user, HA.out])).1 (by simp [Tm.opensC, Tm.kind, Tm.kids, Tm.user]), HCL.out.1, HCL.out.2⟩, FE⟩, by have := HKM.out; simp [intOf]; omega⟩
  · go_wp2_with (first
      | (with_reducible refine wpList_loads (o := ⟨some 88, .load 24 (.tmp 87), _, _, _, _⟩) rfl 24 (.tmp 87) rfl g (oo + k * 5) (tmc 5 u nm s KK kn cap) rfl hC' _ Tryd.underlying24 rfl (size24' h5) (.agg (tmc 5 u nm s KK kn cap).toArray) rfl ?_)
      | (with_reducible refine fm_alloc F0 (o := ⟨some 15, .alloc 24, _, _, _, _⟩) rfl 24 rfl _ zero24 ?_; intro b15 w1 F1; clear F0)
      | (with_reducible refine fm_store F1 0 rfl (o := ⟨none, .store 24 (.tmp 15) (.tmp 88), _, _, _, _⟩) rfl (.tmp 15) (.tmp 88) rfl rfl (tmc 5 u nm s KK kn cap) rfl rfl h5 rfl h51 ?_
         intro w2 F2
         have e0 := (F2.blk 0 rfl).cell 0
         have e1 := (F2.blk 0 rfl).cell 1
         have e4 := (F2.blk 0 rfl).cell 4
         simp only [tmc, List.getElem?_cons_succ, List.getElem?_cons_zero] at e0 e1 e4
         clear F1)
      | (with_reducible refine fm_ranW (o := ⟨some 100, .load 3 _, _, _, _, _⟩) (by with_unfolding_all rfl) (.int .i64 5) _ (exec_load rfl rfl (run_load1 Tryd.underlying3 rfl e0)) ?_)
      | (with_reducible refine fm_ranW (o := ⟨some 106, .load 24 _, _, _, _, _⟩) (by with_unfolding_all rfl) (.agg (tmc 5 u nm s KK kn cap).toArray) _ (exec_load rfl rfl (run_loads (Cells.of_holds (F2.blk 0 rfl)) Tryd.underlying24 rfl (size24' h5))) ?_)
      | (go_at_call 88
         have HC := Fm.allR (L := Any) (S := S1) (l := L) (t := .mk 5 u nm s ks) F2 (hL := (List.mem_cons_of_mem _ (List.mem_cons_self ..))) (hT := List.mem_cons_self ..) m hm.out HM9.out HCL.out.1 HOK.out HKID.out
         rw [show Tm.allC L cb (Tm.mk 5 u nm s ks).kids = true from HA.out] at HC
         with_reducible refine Calls.mono HC ?_
         rintro e w3 ⟨rfl, mz⟩
         have F3 := F2.call mz
         replace e0 := (F3.blk 0 rfl).cell 0
         replace e1 := (F3.blk 0 rfl).cell 1
         replace e4 := (F3.blk 0 rfl).cell 4
         simp only [tmc, List.getElem?_cons_succ, List.getElem?_cons_zero] at e0 e1 e4
         clear HC F2 mz)
      | (with_reducible refine fm_store1 F3 2 k rfl (by rw [List.length_map, HCL.out.1]; exact HKM.out) (o := ⟨none, .store 4 (.tmp 111) _, _, _, _, _⟩) 4 (.bool true) rfl one4 rfl (.tmp 111) _ rfl rfl rfl rfl ?_
         intro w4 FX
         have F4 := Fm.set1b FX
         replace e0 := (F4.blk 0 rfl).cell 0
         replace e1 := (F4.blk 0 rfl).cell 1
         replace e4 := (F4.blk 0 rfl).cell 4
         simp only [tmc, List.getElem?_cons_succ, List.getElem?_cons_zero] at e0 e1 e4
         clear F3 FX)
      | (with_reducible refine fm_ranW (o := ⟨some 139, .load 3 _, _, _, _, _⟩) (by with_unfolding_all rfl) (.int .i64 5) _ (exec_load rfl rfl (run_load1 Tryd.underlying3 rfl e0)) ?_))
    have FE := F4.sub (os' := SetOs (some ⟨g, oo, none⟩) c1 xs bc bp (cb.set k true) pb) (ts' := [tLs Any S1 L xs, tR Any S A vs K, tR Any Sb B vb T]) (List.sublist_cons_self _ _) (fun y hy => List.mem_cons_of_mem _ hy)
    exact ⟨⟨k + 1, (cb.set k true), pb, by go_num, by have := HKM.out; omega, Lib.hid ⟨(HST.out (cb.set k true) (by simp [Tm.step1, Tm.setIf, Tm.kind, Tm.kids, Tm.user, HA.out])).1 (by simp [Tm.opensC, Tm.kind, Tm.kids, Tm.user]), (by rw [List.length_set]; exact HCL.out.1), HCL.out.2⟩, FE⟩, by have := HKM.out; simp [intOf]; omega⟩
end Go.Proofs.YtchanildogjhgaaDoor

