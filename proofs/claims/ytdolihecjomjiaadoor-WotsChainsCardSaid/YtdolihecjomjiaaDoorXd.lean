/-
  WotsChains' walk. My own work.
-/
import Derived.Test.YtdolihecjomjiaaDoorXc
import Derived.Test.YtdolihecjomjiaaDoorWu
namespace Go.Proofs.YtdolihecjomjiaaDoor
open Go.RowKit Go.Shelf
theorem wk_x4 {v : World} {g : Nat} {x : Idv} {c f t : Int} (h : Holds v g 31 (wkc ⟨x, c, f, t⟩)) : Cells v (some ⟨g, 0, none⟩) (ic x) := wk_x h
theorem wk_c4 {v : World} {g : Nat} {x : Idv} {c f t : Int} (h : Holds v g 31 (wkc ⟨x, c, f, t⟩)) : v.cell? ⟨g, 32, none⟩ = some (.int .i64 c) := wk_c h
theorem wk_f4 {v : World} {g : Nat} {x : Idv} {c f t : Int} (h : Holds v g 31 (wkc ⟨x, c, f, t⟩)) : v.cell? ⟨g, 33, none⟩ = some (.int .i64 f) := wk_f h
theorem wk_t4 {v : World} {g : Nat} {x : Idv} {c f t : Int} (h : Holds v g 31 (wkc ⟨x, c, f, t⟩)) : v.cell? ⟨g, 34, none⟩ = some (.int .i64 t) := wk_t h
set_option maxRecDepth 100000 in
set_option maxHeartbeats 40000000 in
theorem chains_w (A : Option Addr) (cap : Nat) (l : List Wlk) (hl : l.length ≤ cap) (hm : cap ≤ maxLen) (w : World) (RA : Cells w A (l.flatMap wkc)) (Gl : Glob w) :
    Calls Tryd.prog 4 #[.slice A l.length cap] w fun r w' => r = .returned (.bool true) ∧ Mod [] w w' := by
  have WK := fun v (mv : Mod [] w v) => wakes_c v (Gl.then mv)
  obtain ⟨n, hn⟩ : ∃ n, n = l.length := ⟨_, rfl⟩
  rw [← hn] at hl ⊢
  have hm9 : maxLen ≤ 9223372036854775807 := by decide
  have hnZ : (n : Int) ≤ 9223372036854775807 := by omega
  have HL := Lib.hid (And.intro hn RA)
  clear hl hm hm9 hn RA
  go_enter Tryd.func4, Tryd.ntmps4
  go_wp2_with (first
    | (go_at_call 10; refine (WK w (Mod.refl _ _)).mono ?_
       rintro e w3 ⟨rfl, m3⟩
       clear WK))
  go_loopw [16] (fun i wi => ∃ k : Nat, k ≤ n ∧ k ≤ 20 ∧ i = .int .i64 (k : Int) ∧ Mod [] w wi) (fun i _ => n - (intOf i).toNat)
  case atStart => exact ⟨0, Nat.zero_le _, by omega, rfl, m3⟩
  case round =>
    obtain ⟨k, hk, hk20, rfl, mm⟩ := hrel
    clear m3
    by_cases hkn : k < n
    · have hkZ : (k : Int) < (n : Int) := by omega
      have hkl : k < l.length := by rw [← HL.out.1]; exact hkn
      obtain ⟨ga, oa, rfl, hce⟩ := HL.out.2.elem' wkc 35 (by omega) wkc_length k hkl
      obtain ⟨r, hr⟩ : ∃ p, p = l[k] := ⟨_, rfl⟩
      rw [← hr] at hce
      have hci := hce.keep mm (by simp)
      clear hce hr hkl
      by_cases h20 : k = 20
      · subst h20
        go_wp2_with (first
          | (with_reducible refine wpList_loads (o := ⟨some 20, .load 31 (.tmp 19), _, _, _, _⟩) rfl 31 (.tmp 19) rfl ga (oa + 20 * 35) _ rfl hci _ Tryd.underlying31 rfl (size31 r) (.agg (wkc r).toArray) rfl ?_)
          | (with_reducible refine wpList_allocs (o := ⟨some 4, .alloc 31, _, _, _, _⟩) rfl 31 rfl _ zero31 ?_; intro w1 hb1 m1 z1; replace z1 := Lib.hid z1)
          | (with_reducible refine wpList_storesAll (o := ⟨none, .store 31 (.tmp 4) (.tmp 20), _, _, _, _⟩) rfl 31 (.tmp 4) (.tmp 20) rfl rfl wr.heap.size (wkc r) rfl (.agg (wkc r).toArray) rfl rfl 31 _ hb1 (by rw [wkc_length, wkc_length]) (wkc_one r) (size31 r) ?_
             intro w2 hb2 m2 z2
             clear z2
             have mx : Mod [] wr w2 := m1.trans m2 (by intro i hi h; simp at h; omega)
             obtain ⟨b4, hb4e⟩ : ∃ q, q = wr.heap.size := ⟨_, rfl⟩
             rw [← hb4e] at hb2 ⊢
             have hb4 := hb2
             replace mm := mm.then mx
             clear hb1 hb2 m1 z1 m2 mx hb4e hci))
        go_ret
        exact ⟨rfl, mm⟩
      · have h20Z : ¬ (k : Int) = 20 := by omega
        obtain ⟨x, cI, fI, tI⟩ := r
        by_cases hc : chOk cI
        · obtain ⟨h1, h2⟩ := hc
          obtain ⟨i, rfl⟩ : ∃ n : Nat, cI = (n : Int) := ⟨cI.toNat, by omega⟩
          have hi : i < 67 := by omega
          clear h1
          by_cases f0 : fI < 0
          · skip
            have hso : ¬ (0 ≤ fI ∧ fI < 15) := fun h => by omega
            have hwo : ¬ (0 ≤ fI ∧ fI ≤ tI ∧ tI ≤ 15) := fun h => by omega
            have fN : ¬ fI ≥ 0 := by omega
            obtain ⟨a, ha⟩ : ∃ a, a = startI i x := ⟨_, rfl⟩
            have X1 := fun v (mv : Mod [] w v) => start_yes x i hi v (Gl.then mv)
            have L1 := fun v (mv : Mod [] w v) => lstart_c x i (by omega) v (Gl.then mv)
            rw [← ha] at X1 L1
            have X2 := fun v (_ : Mod [] w v) => step_no x (i : Int) fI (fun h => hso h.2) v
            have X3 := fun v (_ : Mod [] w v) => chain_no x (i : Int) fI tI (fun h => hwo h.2) v
            clear ha hso hwo 
            go_wp2_with (first
              | (with_reducible refine wpList_loads (o := ⟨some 20, .load 31 (.tmp 19), _, _, _, _⟩) rfl 31 (.tmp 19) rfl ga (oa + k * 35) _ rfl hci _ Tryd.underlying31 rfl (size31 ⟨x, (i : Int), fI, tI⟩) (.agg (wkc ⟨x, (i : Int), fI, tI⟩).toArray) rfl ?_)
              | (with_reducible refine wpList_allocs (o := ⟨some 4, .alloc 31, _, _, _, _⟩) rfl 31 rfl _ zero31 ?_; intro w1 hb1 m1 z1; replace z1 := Lib.hid z1)
              | (with_reducible refine wpList_storesAll (o := ⟨none, .store 31 (.tmp 4) (.tmp 20), _, _, _, _⟩) rfl 31 (.tmp 4) (.tmp 20) rfl rfl wr.heap.size (wkc ⟨x, (i : Int), fI, tI⟩) rfl (.agg (wkc ⟨x, (i : Int), fI, tI⟩).toArray) rfl rfl 31 _ hb1 (by rw [wkc_length, wkc_length]) (wkc_one ⟨x, (i : Int), fI, tI⟩) (size31 ⟨x, (i : Int), fI, tI⟩) ?_
                 intro w2 hb2 m2 z2
                 clear z2
                 have mx : Mod [] wr w2 := m1.trans m2 (by intro i hi h; simp at h; omega)
                 obtain ⟨b4, hb4e⟩ : ∃ q, q = wr.heap.size := ⟨_, rfl⟩
                 rw [← hb4e] at hb2 ⊢
                 have hb4 := hb2
                 replace mm := mm.then mx
                 have hb4 : Holds w2 b4 31 (wkc ⟨x, (i : Int), fI, tI⟩) := hb4
                 have c32 := wk_c4 hb4
                 have c33 := wk_f4 hb4
                 have c34 := wk_t4 hb4
                 clear hb1 hb2 m1 z1 m2 mx hb4e hci)
              | (with_reducible refine wpList_loads (o := ⟨some 25, .load 25 _, _, _, _, _⟩) rfl 25 _ rfl b4 0 _ rfl (wk_x4 hb4) _ Tryd.underlying25 rfl (size25i x) (iv x) rfl ?_)
              | (go_at_call 13; refine (X1 _ mm).mono ?_
                 rintro e v1 ⟨rfl, m1⟩
                 replace hb4 := hb4.keep m1 (by simp)
                 replace mm := mm.then m1
                 clear X1 m1 c32 c33 c34)
              | (with_reducible refine wpList_allocs (o := ⟨some 5, .alloc 25, _, _, _, _⟩) rfl 25 rfl _ zeroI_25 ?_; intro y1 hy1 my1 zy1; replace zy1 := Lib.hid zy1)
              | (with_reducible refine wpList_storesAll (o := ⟨none, .store 25 (.tmp 5) (.tmp 29), _, _, _, _⟩) rfl 25 (.tmp 5) (.tmp 29) rfl rfl v1.heap.size (ic a) rfl (iv a) rfl rfl 25 _ hy1 (by rw [ic_length, ic_length]) (ic_one _) (size25i _) ?_
                 intro u1 hu1 mu1 zu1
                 clear zu1
                 have q1 : Mod [] v1 u1 := my1.trans mu1 (by intro i hi h; simp at h; omega)
                 obtain ⟨d1, hd1⟩ : ∃ b, b = v1.heap.size := ⟨_, rfl⟩
                 rw [← hd1] at hu1 ⊢
                 replace hb4 := hb4.keep q1 (by simp)
                 replace mm := mm.then q1
                 have c32 := wk_c4 hb4
                 have c33 := wk_f4 hb4
                 have c34 := wk_t4 hb4
                 clear hy1 my1 zy1 mu1 q1 hd1)
              | (with_reducible refine wpList_loads (o := ⟨some 33, .load 25 _, _, _, _, _⟩) rfl 25 _ rfl b4 0 _ rfl (wk_x4 hb4) _ Tryd.underlying25 rfl (size25i x) (iv x) rfl ?_)
              | (go_at_call 14; refine (X2 _ mm).mono ?_
                 rintro e v2 ⟨rfl, m2⟩
                 replace hu1 := hu1.keep m2 (by simp)
                 replace hb4 := hb4.keep m2 (by simp)
                 replace mm := mm.then m2
                 clear X2 m2 c32 c33 c34)
              | (with_reducible refine wpList_allocs (o := ⟨some 7, .alloc 25, _, _, _, _⟩) rfl 25 rfl _ zeroI_25 ?_; intro y2 hy2 my2 zy2; replace zy2 := Lib.hid zy2)
              | (with_reducible refine wpList_storesAll (o := ⟨none, .store 25 (.tmp 7) (.tmp 39), _, _, _, _⟩) rfl 25 (.tmp 7) (.tmp 39) rfl rfl v2.heap.size (ic zeroI) rfl (iv zeroI) rfl rfl 25 _ hy2 (by rw [ic_length]) (ic_one _) (size25i _) ?_
                 intro u2 hu2 mu2 zu2
                 clear zu2
                 have q2 : Mod [] v2 u2 := my2.trans mu2 (by intro i hi h; simp at h; omega)
                 obtain ⟨d2, hd2⟩ : ∃ b, b = v2.heap.size := ⟨_, rfl⟩
                 rw [← hd2] at hu2 ⊢
                 replace hu1 := hu1.keep q2 (by simp)
                 replace hb4 := hb4.keep q2 (by simp)
                 replace mm := mm.then q2
                 have c32 := wk_c4 hb4
                 have c33 := wk_f4 hb4
                 have c34 := wk_t4 hb4
                 clear hy2 my2 zy2 mu2 q2 hd2)
              | (with_reducible refine wpList_loads (o := ⟨some 43, .load 25 _, _, _, _, _⟩) rfl 25 _ rfl b4 0 _ rfl (wk_x4 hb4) _ Tryd.underlying25 rfl (size25i x) (iv x) rfl ?_)
              | (go_at_call 15; refine (X3 _ mm).mono ?_
                 rintro e v3 ⟨rfl, m3⟩
                 replace hu1 := hu1.keep m3 (by simp)
                 replace hu2 := hu2.keep m3 (by simp)
                 replace hb4 := hb4.keep m3 (by simp)
                 replace mm := mm.then m3
                 clear X3 m3 c32 c33 c34)
              | (with_reducible refine wpList_allocs (o := ⟨some 9, .alloc 25, _, _, _, _⟩) rfl 25 rfl _ zeroI_25 ?_; intro y3 hy3 my3 zy3; replace zy3 := Lib.hid zy3)
              | (with_reducible refine wpList_storesAll (o := ⟨none, .store 25 (.tmp 9) (.tmp 51), _, _, _, _⟩) rfl 25 (.tmp 9) (.tmp 51) rfl rfl v3.heap.size (ic zeroI) rfl (iv zeroI) rfl rfl 25 _ hy3 (by rw [ic_length]) (ic_one _) (size25i _) ?_
                 intro u3 hu3 mu3 zu3
                 clear zu3
                 have q3 : Mod [] v3 u3 := my3.trans mu3 (by intro i hi h; simp at h; omega)
                 obtain ⟨d3, hd3⟩ : ∃ b, b = v3.heap.size := ⟨_, rfl⟩
                 rw [← hd3] at hu3 ⊢
                 replace hu1 := hu1.keep q3 (by simp)
                 replace hu2 := hu2.keep q3 (by simp)
                 replace hb4 := hb4.keep q3 (by simp)
                 replace mm := mm.then q3
                 have c32 := wk_c4 hb4
                 have c33 := wk_f4 hb4
                 have c34 := wk_t4 hb4
                 clear hy3 my3 zy3 mu3 q3 hd3))
            refine wp_region_ups [(62, .int .i64 0), (63, .bool false), (64, .bool false), (65, iv a), (66, .pointer (some ⟨b4, 0, none⟩)), (67, iv x), (68, .pointer (some ⟨b4, 32, none⟩)), (69, .int .i64 (i : Int)), (70, iv a), (71, .bool false), (72, .bool false)] 152 [62, 63, 64, 65, 66, 67, 68, 69, 70, 71, 72] rfl rfl (by decide) (by kernel_rfl) (fun lz v => Mod [] u3.drew v) (by kernel_rfl) (Mod.refl _ _) (by kernel_rfl) (by kernel_rfl) ?step ?fin
            case step =>
              intro lz T v j o hj hlj hdep hst hpar hgot hcl Kq hK
              have mv : ∀ v, Mod [] u3.drew v → Mod [] u3 v := fun v h => (Mod.drew [] u3).then h
              have hjn : j < 11 := (Array.getElem?_eq_some_iff.1 hj).1
              obtain rfl | rfl | rfl | rfl | rfl | rfl | rfl | rfl | rfl | rfl | rfl : j = 0 ∨ j = 1 ∨ j = 2 ∨ j = 3 ∨ j = 4 ∨ j = 5 ∨ j = 6 ∨ j = 7 ∨ j = 8 ∨ j = 9 ∨ j = 10 := by omega
              all_goals (have hj' := Option.some.inj (hj : some _ = some o); subst hj'; clear hj)
              · exact wp_ran rfl (exec_move rfl (eval_tmp ((hpar 6 rfl).trans rfl))) (hK _ _ (fun s hs => by cases hs; rfl) hst)
              · exact wp_ran rfl (exec_nei32 rfl (eval_tmp (hgot 0 _ 62 rfl (hdep ⟨0, .data⟩ (by simp) rfl) rfl)) rfl) (hK _ _ (fun s hs => by cases hs; rfl) hst)
              · exact wp_ran rfl (exec_move rfl (eval_tmp (hgot 1 _ 63 rfl (hdep ⟨1, .data⟩ (by simp) rfl) rfl))) (hK _ _ (fun s hs => by cases hs; rfl) hst)
              · exact wp_ranW (wanted_yes rfl rfl rfl (hgot 2 _ 64 rfl (hdep ⟨2, .guard⟩ (by simp) rfl) rfl)) (exec_load rfl (eval_tmp ((hpar 5 rfl).trans rfl)) (run_loads (Cells.of_holds (hu1.keep (mv v hst) (by simp))) Tryd.underlying25 rfl (size25i a))) (hK _ _ (fun s hs => by cases hs; rfl) hst)
              · exact wp_ranW (wanted_yes rfl rfl rfl (hgot 2 _ 64 rfl (hdep ⟨2, .guard⟩ (by simp) rfl) rfl)) (exec_fa0 rfl (eval_tmp ((hpar 4 rfl).trans rfl))) (hK _ _ (fun s hs => by cases hs; rfl) hst)
              · exact wp_ranW (wanted_yes rfl rfl rfl (hgot 2 _ 64 rfl (hdep ⟨2, .guard⟩ (by simp) rfl) rfl)) (exec_load rfl (eval_tmp (hgot 4 _ 66 rfl (hdep ⟨4, .data⟩ (by simp) rfl) rfl)) (run_loads (wk_x4 (hb4.keep (mv v hst) (by simp))) Tryd.underlying25 rfl (size25i x))) (hK _ _ (fun s hs => by cases hs; rfl) hst)
              · exact wp_ranW (wanted_yes rfl rfl rfl (hgot 2 _ 64 rfl (hdep ⟨2, .guard⟩ (by simp) rfl) rfl)) (exec_fa1 rfl (eval_tmp ((hpar 4 rfl).trans rfl))) (hK _ _ (fun s hs => by cases hs; rfl) hst)
              · exact wp_ranW (wanted_yes rfl rfl rfl (hgot 2 _ 64 rfl (hdep ⟨2, .guard⟩ (by simp) rfl) rfl)) (exec_load rfl (eval_tmp (hgot 6 _ 68 rfl (hdep ⟨6, .data⟩ (by simp) rfl) rfl)) (run_load1 Tryd.underlying3 rfl (wk_c4 (hb4.keep (mv v hst) (by simp))))) (hK _ _ (fun s hs => by cases hs; rfl) hst)
              · exact wp_calledW (wanted_yes rfl rfl rfl (hgot 2 _ 64 rfl (hdep ⟨2, .guard⟩ (by simp) rfl) rfl)) (exec_call2 rfl rfl (eval_tmp (hgot 5 _ 67 rfl (hdep ⟨5, .data⟩ (by simp) rfl) rfl)) (eval_tmp (hgot 7 _ 69 rfl (hdep ⟨7, .data⟩ (by simp) rfl) rfl)) (enters_of Tryd.func16 (by kernel_rfl) rfl)) ((L1 v (mm.then (mv v hst))).mono (fun e v' hh => ⟨_, hh.1, hK _ _ (fun s hs => by cases hs; rfl) (hst.then hh.2)⟩))
              · exact wp_ranW (wanted_yes rfl rfl rfl (hgot 2 _ 64 rfl (hdep ⟨2, .guard⟩ (by simp) rfl) rfl)) (exec_ne25s rfl (eval_tmp (hgot 3 _ 65 rfl (hdep ⟨3, .data⟩ (by simp) rfl) rfl)) (eval_tmp (hgot 8 _ 70 rfl (hdep ⟨8, .data⟩ (by simp) rfl) rfl))) (hK _ _ (fun s hs => by cases hs; rfl) hst)
              · exact wp_ran rfl (exec_pick rfl (eval_tmp (hgot 2 _ 64 rfl (hdep ⟨2, .data⟩ (by simp) rfl) rfl)) rfl (eval_tmp (hgot 9 _ 71 rfl (hdep ⟨9, .data⟩ (by simp) rfl) rfl)) rfl) (hK _ _ (fun s hs => by cases hs; rfl) hst)
            case fin =>
            intro lz vr hlz hst
            replace hst : Mod [] u3 vr := (Mod.drew [] u3).then hst
            replace hb4 := hb4.keep hst (by simp)
            replace mm := mm.then hst
            replace hu1 := hu1.keep hst (by simp)
            replace hu2 := hu2.keep hst (by simp)
            replace hu3 := hu3.keep hst (by simp)
            clear hst hlz c32 c33 c34
            have c32 := wk_c4 hb4
            have c33 := wk_f4 hb4
            have c34 := wk_t4 hb4
            simp only [setAll, List.foldl_cons, List.foldl_nil, List.toList_toArray, List.set_cons_succ, List.set_cons_zero]
            clear L1
            go_wp2_with (first
              | (with_reducible refine wpList_loadsW (o := ⟨some 107, .load 25 (.tmp 7), _, _, _, _⟩) (by with_unfolding_all rfl) 25 (.tmp 7) rfl d2 0 _ rfl (Cells.of_holds hu2) _ Tryd.underlying25 rfl (size25i zeroI) (iv zeroI) rfl ?_)
              | (with_reducible refine wpList_ranW (o := ⟨some 108, .build 25 _, _, _, _, _⟩) (by with_unfolding_all rfl) (iv zeroI) vr (exec_zero25 rfl) ?_)
              | (with_reducible refine wpList_ranW (o := ⟨some 109, .binOp .neq _ _ _ _, _, _, _, _⟩) (by with_unfolding_all rfl) (.bool false) vr (exec_ne25s rfl rfl rfl) ?_)
              | (with_reducible refine wpList_loadsW (o := ⟨some 147, .load 25 (.tmp 9), _, _, _, _⟩) (by with_unfolding_all rfl) 25 (.tmp 9) rfl d3 0 _ rfl (Cells.of_holds hu3) _ Tryd.underlying25 rfl (size25i zeroI) (iv zeroI) rfl ?_)
              | (with_reducible refine wpList_ranW (o := ⟨some 148, .build 25 _, _, _, _, _⟩) (by with_unfolding_all rfl) (iv zeroI) vr (exec_zero25 rfl) ?_)
              | (with_reducible refine wpList_ranW (o := ⟨some 149, .binOp .neq _ _ _ _, _, _, _, _⟩) (by with_unfolding_all rfl) (.bool false) vr (exec_ne25s rfl rfl rfl) ?_))
            refine ⟨⟨k + 1, by omega, by omega, by go_num, mm⟩, by simp [intOf]; omega⟩
          · obtain ⟨f, rfl⟩ : ∃ n : Nat, fI = (n : Int) := ⟨fI.toNat, by omega⟩
            clear f0
            by_cases hf15 : f < 15
            · have f15Z : (f : Int) < 15 := by omega
              by_cases ft : (f : Int) ≤ tI
              · by_cases t15 : tI ≤ 15
                · obtain ⟨t, rfl⟩ : ∃ n : Nat, tI = (n : Int) := ⟨tI.toNat, by omega⟩
                  have hft : f ≤ t := by omega
                  have ht15 : t ≤ 15 := by omega
                  obtain ⟨a, ha⟩ : ∃ a, a = startI i x := ⟨_, rfl⟩
                  have X1 := fun v (mv : Mod [] w v) => start_yes x i hi v (Gl.then mv)
                  have L1 := fun v (mv : Mod [] w v) => lstart_c x i (by omega) v (Gl.then mv)
                  rw [← ha] at X1 L1
                  obtain ⟨s, hs⟩ : ∃ s, s = stepI i f x := ⟨_, rfl⟩
                  have X2 := fun v (mv : Mod [] w v) => step_yes x i f hi hf15 v (Gl.then mv)
                  have L2 := fun v (mv : Mod [] w v) => lstep_c x i f (by omega) (by omega) v (Gl.then mv)
                  rw [← hs] at X2 L2
                  obtain ⟨q, hq⟩ : ∃ s, s = walkI i f (t - f) x := ⟨_, rfl⟩
                  have X3 := fun v (mv : Mod [] w v) => chain_yes x i f t hi hft ht15 v (Gl.then mv)
                  have L3 := fun v (mv : Mod [] w v) => lwalk_c x i f t (t - f) (by omega) (by omega) ht15 v (Gl.then mv)
                  rw [← hq] at X3 L3
                  clear ha hs hq 
                  go_wp2_with (first
                    | (with_reducible refine wpList_loads (o := ⟨some 20, .load 31 (.tmp 19), _, _, _, _⟩) rfl 31 (.tmp 19) rfl ga (oa + k * 35) _ rfl hci _ Tryd.underlying31 rfl (size31 ⟨x, (i : Int), (f : Int), (t : Int)⟩) (.agg (wkc ⟨x, (i : Int), (f : Int), (t : Int)⟩).toArray) rfl ?_)
                    | (with_reducible refine wpList_allocs (o := ⟨some 4, .alloc 31, _, _, _, _⟩) rfl 31 rfl _ zero31 ?_; intro w1 hb1 m1 z1; replace z1 := Lib.hid z1)
                    | (with_reducible refine wpList_storesAll (o := ⟨none, .store 31 (.tmp 4) (.tmp 20), _, _, _, _⟩) rfl 31 (.tmp 4) (.tmp 20) rfl rfl wr.heap.size (wkc ⟨x, (i : Int), (f : Int), (t : Int)⟩) rfl (.agg (wkc ⟨x, (i : Int), (f : Int), (t : Int)⟩).toArray) rfl rfl 31 _ hb1 (by rw [wkc_length, wkc_length]) (wkc_one ⟨x, (i : Int), (f : Int), (t : Int)⟩) (size31 ⟨x, (i : Int), (f : Int), (t : Int)⟩) ?_
                       intro w2 hb2 m2 z2
                       clear z2
                       have mx : Mod [] wr w2 := m1.trans m2 (by intro i hi h; simp at h; omega)
                       obtain ⟨b4, hb4e⟩ : ∃ q, q = wr.heap.size := ⟨_, rfl⟩
                       rw [← hb4e] at hb2 ⊢
                       have hb4 := hb2
                       replace mm := mm.then mx
                       have hb4 : Holds w2 b4 31 (wkc ⟨x, (i : Int), (f : Int), (t : Int)⟩) := hb4
                       have c32 := wk_c4 hb4
                       have c33 := wk_f4 hb4
                       have c34 := wk_t4 hb4
                       clear hb1 hb2 m1 z1 m2 mx hb4e hci)
                    | (with_reducible refine wpList_loads (o := ⟨some 25, .load 25 _, _, _, _, _⟩) rfl 25 _ rfl b4 0 _ rfl (wk_x4 hb4) _ Tryd.underlying25 rfl (size25i x) (iv x) rfl ?_)
                    | (go_at_call 13; refine (X1 _ mm).mono ?_
                       rintro e v1 ⟨rfl, m1⟩
                       replace hb4 := hb4.keep m1 (by simp)
                       replace mm := mm.then m1
                       clear X1 m1 c32 c33 c34)
                    | (with_reducible refine wpList_allocs (o := ⟨some 5, .alloc 25, _, _, _, _⟩) rfl 25 rfl _ zeroI_25 ?_; intro y1 hy1 my1 zy1; replace zy1 := Lib.hid zy1)
                    | (with_reducible refine wpList_storesAll (o := ⟨none, .store 25 (.tmp 5) (.tmp 29), _, _, _, _⟩) rfl 25 (.tmp 5) (.tmp 29) rfl rfl v1.heap.size (ic a) rfl (iv a) rfl rfl 25 _ hy1 (by rw [ic_length, ic_length]) (ic_one _) (size25i _) ?_
                       intro u1 hu1 mu1 zu1
                       clear zu1
                       have q1 : Mod [] v1 u1 := my1.trans mu1 (by intro i hi h; simp at h; omega)
                       obtain ⟨d1, hd1⟩ : ∃ b, b = v1.heap.size := ⟨_, rfl⟩
                       rw [← hd1] at hu1 ⊢
                       replace hb4 := hb4.keep q1 (by simp)
                       replace mm := mm.then q1
                       have c32 := wk_c4 hb4
                       have c33 := wk_f4 hb4
                       have c34 := wk_t4 hb4
                       clear hy1 my1 zy1 mu1 q1 hd1)
                    | (with_reducible refine wpList_loads (o := ⟨some 33, .load 25 _, _, _, _, _⟩) rfl 25 _ rfl b4 0 _ rfl (wk_x4 hb4) _ Tryd.underlying25 rfl (size25i x) (iv x) rfl ?_)
                    | (go_at_call 14; refine (X2 _ mm).mono ?_
                       rintro e v2 ⟨rfl, m2⟩
                       replace hu1 := hu1.keep m2 (by simp)
                       replace hb4 := hb4.keep m2 (by simp)
                       replace mm := mm.then m2
                       clear X2 m2 c32 c33 c34)
                    | (with_reducible refine wpList_allocs (o := ⟨some 7, .alloc 25, _, _, _, _⟩) rfl 25 rfl _ zeroI_25 ?_; intro y2 hy2 my2 zy2; replace zy2 := Lib.hid zy2)
                    | (with_reducible refine wpList_storesAll (o := ⟨none, .store 25 (.tmp 7) (.tmp 39), _, _, _, _⟩) rfl 25 (.tmp 7) (.tmp 39) rfl rfl v2.heap.size (ic s) rfl (iv s) rfl rfl 25 _ hy2 (by rw [ic_length, ic_length]) (ic_one _) (size25i _) ?_
                       intro u2 hu2 mu2 zu2
                       clear zu2
                       have q2 : Mod [] v2 u2 := my2.trans mu2 (by intro i hi h; simp at h; omega)
                       obtain ⟨d2, hd2⟩ : ∃ b, b = v2.heap.size := ⟨_, rfl⟩
                       rw [← hd2] at hu2 ⊢
                       replace hu1 := hu1.keep q2 (by simp)
                       replace hb4 := hb4.keep q2 (by simp)
                       replace mm := mm.then q2
                       have c32 := wk_c4 hb4
                       have c33 := wk_f4 hb4
                       have c34 := wk_t4 hb4
                       clear hy2 my2 zy2 mu2 q2 hd2)
                    | (with_reducible refine wpList_loads (o := ⟨some 43, .load 25 _, _, _, _, _⟩) rfl 25 _ rfl b4 0 _ rfl (wk_x4 hb4) _ Tryd.underlying25 rfl (size25i x) (iv x) rfl ?_)
                    | (go_at_call 15; refine (X3 _ mm).mono ?_
                       rintro e v3 ⟨rfl, m3⟩
                       replace hu1 := hu1.keep m3 (by simp)
                       replace hu2 := hu2.keep m3 (by simp)
                       replace hb4 := hb4.keep m3 (by simp)
                       replace mm := mm.then m3
                       clear X3 m3 c32 c33 c34)
                    | (with_reducible refine wpList_allocs (o := ⟨some 9, .alloc 25, _, _, _, _⟩) rfl 25 rfl _ zeroI_25 ?_; intro y3 hy3 my3 zy3; replace zy3 := Lib.hid zy3)
                    | (with_reducible refine wpList_storesAll (o := ⟨none, .store 25 (.tmp 9) (.tmp 51), _, _, _, _⟩) rfl 25 (.tmp 9) (.tmp 51) rfl rfl v3.heap.size (ic q) rfl (iv q) rfl rfl 25 _ hy3 (by rw [ic_length, ic_length]) (ic_one _) (size25i _) ?_
                       intro u3 hu3 mu3 zu3
                       clear zu3
                       have q3 : Mod [] v3 u3 := my3.trans mu3 (by intro i hi h; simp at h; omega)
                       obtain ⟨d3, hd3⟩ : ∃ b, b = v3.heap.size := ⟨_, rfl⟩
                       rw [← hd3] at hu3 ⊢
                       replace hu1 := hu1.keep q3 (by simp)
                       replace hu2 := hu2.keep q3 (by simp)
                       replace hb4 := hb4.keep q3 (by simp)
                       replace mm := mm.then q3
                       have c32 := wk_c4 hb4
                       have c33 := wk_f4 hb4
                       have c34 := wk_t4 hb4
                       clear hy3 my3 zy3 mu3 q3 hd3))
                  refine wp_region_ups [(62, .int .i64 0), (63, .bool false), (64, .bool false), (65, iv a), (66, .pointer (some ⟨b4, 0, none⟩)), (67, iv x), (68, .pointer (some ⟨b4, 32, none⟩)), (69, .int .i64 (i : Int)), (70, iv a), (71, .bool false), (72, .bool false)] 152 [62, 63, 64, 65, 66, 67, 68, 69, 70, 71, 72] rfl rfl (by decide) (by kernel_rfl) (fun lz v => Mod [] u3.drew v) (by kernel_rfl) (Mod.refl _ _) (by kernel_rfl) (by kernel_rfl) ?step ?fin
                  case step =>
                    intro lz T v j o hj hlj hdep hst hpar hgot hcl Kq hK
                    have mv : ∀ v, Mod [] u3.drew v → Mod [] u3 v := fun v h => (Mod.drew [] u3).then h
                    have hjn : j < 11 := (Array.getElem?_eq_some_iff.1 hj).1
                    obtain rfl | rfl | rfl | rfl | rfl | rfl | rfl | rfl | rfl | rfl | rfl : j = 0 ∨ j = 1 ∨ j = 2 ∨ j = 3 ∨ j = 4 ∨ j = 5 ∨ j = 6 ∨ j = 7 ∨ j = 8 ∨ j = 9 ∨ j = 10 := by omega
                    all_goals (have hj' := Option.some.inj (hj : some _ = some o); subst hj'; clear hj)
                    · exact wp_ran rfl (exec_move rfl (eval_tmp ((hpar 6 rfl).trans rfl))) (hK _ _ (fun s hs => by cases hs; rfl) hst)
                    · exact wp_ran rfl (exec_nei32 rfl (eval_tmp (hgot 0 _ 62 rfl (hdep ⟨0, .data⟩ (by simp) rfl) rfl)) rfl) (hK _ _ (fun s hs => by cases hs; rfl) hst)
                    · exact wp_ran rfl (exec_move rfl (eval_tmp (hgot 1 _ 63 rfl (hdep ⟨1, .data⟩ (by simp) rfl) rfl))) (hK _ _ (fun s hs => by cases hs; rfl) hst)
                    · exact wp_ranW (wanted_yes rfl rfl rfl (hgot 2 _ 64 rfl (hdep ⟨2, .guard⟩ (by simp) rfl) rfl)) (exec_load rfl (eval_tmp ((hpar 5 rfl).trans rfl)) (run_loads (Cells.of_holds (hu1.keep (mv v hst) (by simp))) Tryd.underlying25 rfl (size25i a))) (hK _ _ (fun s hs => by cases hs; rfl) hst)
                    · exact wp_ranW (wanted_yes rfl rfl rfl (hgot 2 _ 64 rfl (hdep ⟨2, .guard⟩ (by simp) rfl) rfl)) (exec_fa0 rfl (eval_tmp ((hpar 4 rfl).trans rfl))) (hK _ _ (fun s hs => by cases hs; rfl) hst)
                    · exact wp_ranW (wanted_yes rfl rfl rfl (hgot 2 _ 64 rfl (hdep ⟨2, .guard⟩ (by simp) rfl) rfl)) (exec_load rfl (eval_tmp (hgot 4 _ 66 rfl (hdep ⟨4, .data⟩ (by simp) rfl) rfl)) (run_loads (wk_x4 (hb4.keep (mv v hst) (by simp))) Tryd.underlying25 rfl (size25i x))) (hK _ _ (fun s hs => by cases hs; rfl) hst)
                    · exact wp_ranW (wanted_yes rfl rfl rfl (hgot 2 _ 64 rfl (hdep ⟨2, .guard⟩ (by simp) rfl) rfl)) (exec_fa1 rfl (eval_tmp ((hpar 4 rfl).trans rfl))) (hK _ _ (fun s hs => by cases hs; rfl) hst)
                    · exact wp_ranW (wanted_yes rfl rfl rfl (hgot 2 _ 64 rfl (hdep ⟨2, .guard⟩ (by simp) rfl) rfl)) (exec_load rfl (eval_tmp (hgot 6 _ 68 rfl (hdep ⟨6, .data⟩ (by simp) rfl) rfl)) (run_load1 Tryd.underlying3 rfl (wk_c4 (hb4.keep (mv v hst) (by simp))))) (hK _ _ (fun s hs => by cases hs; rfl) hst)
                    · exact wp_calledW (wanted_yes rfl rfl rfl (hgot 2 _ 64 rfl (hdep ⟨2, .guard⟩ (by simp) rfl) rfl)) (exec_call2 rfl rfl (eval_tmp (hgot 5 _ 67 rfl (hdep ⟨5, .data⟩ (by simp) rfl) rfl)) (eval_tmp (hgot 7 _ 69 rfl (hdep ⟨7, .data⟩ (by simp) rfl) rfl)) (enters_of Tryd.func16 (by kernel_rfl) rfl)) ((L1 v (mm.then (mv v hst))).mono (fun e v' hh => ⟨_, hh.1, hK _ _ (fun s hs => by cases hs; rfl) (hst.then hh.2)⟩))
                    · exact wp_ranW (wanted_yes rfl rfl rfl (hgot 2 _ 64 rfl (hdep ⟨2, .guard⟩ (by simp) rfl) rfl)) (exec_ne25s rfl (eval_tmp (hgot 3 _ 65 rfl (hdep ⟨3, .data⟩ (by simp) rfl) rfl)) (eval_tmp (hgot 8 _ 70 rfl (hdep ⟨8, .data⟩ (by simp) rfl) rfl))) (hK _ _ (fun s hs => by cases hs; rfl) hst)
                    · exact wp_ran rfl (exec_pick rfl (eval_tmp (hgot 2 _ 64 rfl (hdep ⟨2, .data⟩ (by simp) rfl) rfl)) rfl (eval_tmp (hgot 9 _ 71 rfl (hdep ⟨9, .data⟩ (by simp) rfl) rfl)) rfl) (hK _ _ (fun s hs => by cases hs; rfl) hst)
                  case fin =>
                  intro lz vr hlz hst
                  replace hst : Mod [] u3 vr := (Mod.drew [] u3).then hst
                  replace hb4 := hb4.keep hst (by simp)
                  replace mm := mm.then hst
                  replace hu1 := hu1.keep hst (by simp)
                  replace hu2 := hu2.keep hst (by simp)
                  replace hu3 := hu3.keep hst (by simp)
                  clear hst hlz c32 c33 c34
                  have c32 := wk_c4 hb4
                  have c33 := wk_f4 hb4
                  have c34 := wk_t4 hb4
                  simp only [setAll, List.foldl_cons, List.foldl_nil, List.toList_toArray, List.set_cons_succ, List.set_cons_zero]
                  clear L1
                  go_wp2_with fail
                  refine wp_region_ups [(91, .int .i64 0), (92, .bool false), (93, .bool false), (94, iv s), (95, .pointer (some ⟨b4, 0, none⟩)), (96, iv x), (97, .pointer (some ⟨b4, 32, none⟩)), (98, .int .i64 (i : Int)), (99, .pointer (some ⟨b4, 33, none⟩)), (100, .int .i64 (f : Int)), (101, iv s), (102, .bool false), (103, .bool false)] 152 [91, 92, 93, 94, 95, 96, 97, 98, 99, 100, 101, 102, 103] rfl rfl (by decide) (by kernel_rfl) (fun lz v => Mod [] vr.drew v) (by kernel_rfl) (Mod.refl _ _) (by kernel_rfl) (by kernel_rfl) ?step ?fin
                  case step =>
                    intro lz T v j o hj hlj hdep hst hpar hgot hcl Kq hK
                    have mv : ∀ v, Mod [] vr.drew v → Mod [] vr v := fun v h => (Mod.drew [] vr).then h
                    have hjn : j < 13 := (Array.getElem?_eq_some_iff.1 hj).1
                    obtain rfl | rfl | rfl | rfl | rfl | rfl | rfl | rfl | rfl | rfl | rfl | rfl | rfl : j = 0 ∨ j = 1 ∨ j = 2 ∨ j = 3 ∨ j = 4 ∨ j = 5 ∨ j = 6 ∨ j = 7 ∨ j = 8 ∨ j = 9 ∨ j = 10 ∨ j = 11 ∨ j = 12 := by omega
                    all_goals (have hj' := Option.some.inj (hj : some _ = some o); subst hj'; clear hj)
                    · exact wp_ran rfl (exec_move rfl (eval_tmp ((hpar 8 rfl).trans rfl))) (hK _ _ (fun s hs => by cases hs; rfl) hst)
                    · exact wp_ran rfl (exec_nei32 rfl (eval_tmp (hgot 0 _ 91 rfl (hdep ⟨0, .data⟩ (by simp) rfl) rfl)) rfl) (hK _ _ (fun s hs => by cases hs; rfl) hst)
                    · exact wp_ran rfl (exec_move rfl (eval_tmp (hgot 1 _ 92 rfl (hdep ⟨1, .data⟩ (by simp) rfl) rfl))) (hK _ _ (fun s hs => by cases hs; rfl) hst)
                    · exact wp_ranW (wanted_yes rfl rfl rfl (hgot 2 _ 93 rfl (hdep ⟨2, .guard⟩ (by simp) rfl) rfl)) (exec_load rfl (eval_tmp ((hpar 7 rfl).trans rfl)) (run_loads (Cells.of_holds (hu2.keep (mv v hst) (by simp))) Tryd.underlying25 rfl (size25i s))) (hK _ _ (fun s hs => by cases hs; rfl) hst)
                    · exact wp_ranW (wanted_yes rfl rfl rfl (hgot 2 _ 93 rfl (hdep ⟨2, .guard⟩ (by simp) rfl) rfl)) (exec_fa0 rfl (eval_tmp ((hpar 4 rfl).trans rfl))) (hK _ _ (fun s hs => by cases hs; rfl) hst)
                    · exact wp_ranW (wanted_yes rfl rfl rfl (hgot 2 _ 93 rfl (hdep ⟨2, .guard⟩ (by simp) rfl) rfl)) (exec_load rfl (eval_tmp (hgot 4 _ 95 rfl (hdep ⟨4, .data⟩ (by simp) rfl) rfl)) (run_loads (wk_x4 (hb4.keep (mv v hst) (by simp))) Tryd.underlying25 rfl (size25i x))) (hK _ _ (fun s hs => by cases hs; rfl) hst)
                    · exact wp_ranW (wanted_yes rfl rfl rfl (hgot 2 _ 93 rfl (hdep ⟨2, .guard⟩ (by simp) rfl) rfl)) (exec_fa1 rfl (eval_tmp ((hpar 4 rfl).trans rfl))) (hK _ _ (fun s hs => by cases hs; rfl) hst)
                    · exact wp_ranW (wanted_yes rfl rfl rfl (hgot 2 _ 93 rfl (hdep ⟨2, .guard⟩ (by simp) rfl) rfl)) (exec_load rfl (eval_tmp (hgot 6 _ 97 rfl (hdep ⟨6, .data⟩ (by simp) rfl) rfl)) (run_load1 Tryd.underlying3 rfl (wk_c4 (hb4.keep (mv v hst) (by simp))))) (hK _ _ (fun s hs => by cases hs; rfl) hst)
                    · exact wp_ranW (wanted_yes rfl rfl rfl (hgot 2 _ 93 rfl (hdep ⟨2, .guard⟩ (by simp) rfl) rfl)) (exec_fa2 rfl (eval_tmp ((hpar 4 rfl).trans rfl))) (hK _ _ (fun s hs => by cases hs; rfl) hst)
                    · exact wp_ranW (wanted_yes rfl rfl rfl (hgot 2 _ 93 rfl (hdep ⟨2, .guard⟩ (by simp) rfl) rfl)) (exec_load rfl (eval_tmp (hgot 8 _ 99 rfl (hdep ⟨8, .data⟩ (by simp) rfl) rfl)) (run_load1 Tryd.underlying3 rfl (wk_f4 (hb4.keep (mv v hst) (by simp))))) (hK _ _ (fun s hs => by cases hs; rfl) hst)
                    · exact wp_calledW (wanted_yes rfl rfl rfl (hgot 2 _ 93 rfl (hdep ⟨2, .guard⟩ (by simp) rfl) rfl)) (exec_call3 rfl rfl (eval_tmp (hgot 5 _ 96 rfl (hdep ⟨5, .data⟩ (by simp) rfl) rfl)) (eval_tmp (hgot 7 _ 98 rfl (hdep ⟨7, .data⟩ (by simp) rfl) rfl)) (eval_tmp (hgot 9 _ 100 rfl (hdep ⟨9, .data⟩ (by simp) rfl) rfl)) (enters_of Tryd.func17 (by kernel_rfl) rfl)) ((L2 v (mm.then (mv v hst))).mono (fun e v' hh => ⟨_, hh.1, hK _ _ (fun s hs => by cases hs; rfl) (hst.then hh.2)⟩))
                    · exact wp_ranW (wanted_yes rfl rfl rfl (hgot 2 _ 93 rfl (hdep ⟨2, .guard⟩ (by simp) rfl) rfl)) (exec_ne25s rfl (eval_tmp (hgot 3 _ 94 rfl (hdep ⟨3, .data⟩ (by simp) rfl) rfl)) (eval_tmp (hgot 10 _ 101 rfl (hdep ⟨10, .data⟩ (by simp) rfl) rfl))) (hK _ _ (fun s hs => by cases hs; rfl) hst)
                    · exact wp_ran rfl (exec_pick rfl (eval_tmp (hgot 2 _ 93 rfl (hdep ⟨2, .data⟩ (by simp) rfl) rfl)) rfl (eval_tmp (hgot 11 _ 102 rfl (hdep ⟨11, .data⟩ (by simp) rfl) rfl)) rfl) (hK _ _ (fun s hs => by cases hs; rfl) hst)
                  case fin =>
                  intro lz vs hlz hst
                  replace hst : Mod [] vr vs := (Mod.drew [] vr).then hst
                  replace hb4 := hb4.keep hst (by simp)
                  replace mm := mm.then hst
                  replace hu1 := hu1.keep hst (by simp)
                  replace hu2 := hu2.keep hst (by simp)
                  replace hu3 := hu3.keep hst (by simp)
                  clear hst hlz c32 c33 c34
                  have c32 := wk_c4 hb4
                  have c33 := wk_f4 hb4
                  have c34 := wk_t4 hb4
                  simp only [setAll, List.foldl_cons, List.foldl_nil, List.toList_toArray, List.set_cons_succ, List.set_cons_zero]
                  clear L2
                  go_wp2_with fail
                  refine wp_region_ups [(129, .int .i64 0), (130, .bool false), (131, .bool false), (132, iv q), (133, .pointer (some ⟨b4, 0, none⟩)), (134, iv x), (135, .pointer (some ⟨b4, 32, none⟩)), (136, .int .i64 (i : Int)), (137, .pointer (some ⟨b4, 33, none⟩)), (138, .int .i64 (f : Int)), (139, .pointer (some ⟨b4, 34, none⟩)), (140, .int .i64 (t : Int)), (141, iv q), (142, .bool false), (143, .bool false)] 152 [129, 130, 131, 132, 133, 134, 135, 136, 137, 138, 139, 140, 141, 142, 143] rfl rfl (by decide) (by kernel_rfl) (fun lz v => Mod [] vs.drew v) (by kernel_rfl) (Mod.refl _ _) (by kernel_rfl) (by kernel_rfl) ?step ?fin
                  case step =>
                    intro lz T v j o hj hlj hdep hst hpar hgot hcl Kq hK
                    have mv : ∀ v, Mod [] vs.drew v → Mod [] vs v := fun v h => (Mod.drew [] vs).then h
                    have hjn : j < 15 := (Array.getElem?_eq_some_iff.1 hj).1
                    obtain rfl | rfl | rfl | rfl | rfl | rfl | rfl | rfl | rfl | rfl | rfl | rfl | rfl | rfl | rfl : j = 0 ∨ j = 1 ∨ j = 2 ∨ j = 3 ∨ j = 4 ∨ j = 5 ∨ j = 6 ∨ j = 7 ∨ j = 8 ∨ j = 9 ∨ j = 10 ∨ j = 11 ∨ j = 12 ∨ j = 13 ∨ j = 14 := by omega
                    all_goals (have hj' := Option.some.inj (hj : some _ = some o); subst hj'; clear hj)
                    · exact wp_ran rfl (exec_move rfl (eval_tmp ((hpar 10 rfl).trans rfl))) (hK _ _ (fun s hs => by cases hs; rfl) hst)
                    · exact wp_ran rfl (exec_nei32 rfl (eval_tmp (hgot 0 _ 129 rfl (hdep ⟨0, .data⟩ (by simp) rfl) rfl)) rfl) (hK _ _ (fun s hs => by cases hs; rfl) hst)
                    · exact wp_ran rfl (exec_move rfl (eval_tmp (hgot 1 _ 130 rfl (hdep ⟨1, .data⟩ (by simp) rfl) rfl))) (hK _ _ (fun s hs => by cases hs; rfl) hst)
                    · exact wp_ranW (wanted_yes rfl rfl rfl (hgot 2 _ 131 rfl (hdep ⟨2, .guard⟩ (by simp) rfl) rfl)) (exec_load rfl (eval_tmp ((hpar 9 rfl).trans rfl)) (run_loads (Cells.of_holds (hu3.keep (mv v hst) (by simp))) Tryd.underlying25 rfl (size25i q))) (hK _ _ (fun s hs => by cases hs; rfl) hst)
                    · exact wp_ranW (wanted_yes rfl rfl rfl (hgot 2 _ 131 rfl (hdep ⟨2, .guard⟩ (by simp) rfl) rfl)) (exec_fa0 rfl (eval_tmp ((hpar 4 rfl).trans rfl))) (hK _ _ (fun s hs => by cases hs; rfl) hst)
                    · exact wp_ranW (wanted_yes rfl rfl rfl (hgot 2 _ 131 rfl (hdep ⟨2, .guard⟩ (by simp) rfl) rfl)) (exec_load rfl (eval_tmp (hgot 4 _ 133 rfl (hdep ⟨4, .data⟩ (by simp) rfl) rfl)) (run_loads (wk_x4 (hb4.keep (mv v hst) (by simp))) Tryd.underlying25 rfl (size25i x))) (hK _ _ (fun s hs => by cases hs; rfl) hst)
                    · exact wp_ranW (wanted_yes rfl rfl rfl (hgot 2 _ 131 rfl (hdep ⟨2, .guard⟩ (by simp) rfl) rfl)) (exec_fa1 rfl (eval_tmp ((hpar 4 rfl).trans rfl))) (hK _ _ (fun s hs => by cases hs; rfl) hst)
                    · exact wp_ranW (wanted_yes rfl rfl rfl (hgot 2 _ 131 rfl (hdep ⟨2, .guard⟩ (by simp) rfl) rfl)) (exec_load rfl (eval_tmp (hgot 6 _ 135 rfl (hdep ⟨6, .data⟩ (by simp) rfl) rfl)) (run_load1 Tryd.underlying3 rfl (wk_c4 (hb4.keep (mv v hst) (by simp))))) (hK _ _ (fun s hs => by cases hs; rfl) hst)
                    · exact wp_ranW (wanted_yes rfl rfl rfl (hgot 2 _ 131 rfl (hdep ⟨2, .guard⟩ (by simp) rfl) rfl)) (exec_fa2 rfl (eval_tmp ((hpar 4 rfl).trans rfl))) (hK _ _ (fun s hs => by cases hs; rfl) hst)
                    · exact wp_ranW (wanted_yes rfl rfl rfl (hgot 2 _ 131 rfl (hdep ⟨2, .guard⟩ (by simp) rfl) rfl)) (exec_load rfl (eval_tmp (hgot 8 _ 137 rfl (hdep ⟨8, .data⟩ (by simp) rfl) rfl)) (run_load1 Tryd.underlying3 rfl (wk_f4 (hb4.keep (mv v hst) (by simp))))) (hK _ _ (fun s hs => by cases hs; rfl) hst)
                    · exact wp_ranW (wanted_yes rfl rfl rfl (hgot 2 _ 131 rfl (hdep ⟨2, .guard⟩ (by simp) rfl) rfl)) (exec_fa3 rfl (eval_tmp ((hpar 4 rfl).trans rfl))) (hK _ _ (fun s hs => by cases hs; rfl) hst)
                    · exact wp_ranW (wanted_yes rfl rfl rfl (hgot 2 _ 131 rfl (hdep ⟨2, .guard⟩ (by simp) rfl) rfl)) (exec_load rfl (eval_tmp (hgot 10 _ 139 rfl (hdep ⟨10, .data⟩ (by simp) rfl) rfl)) (run_load1 Tryd.underlying3 rfl (wk_t4 (hb4.keep (mv v hst) (by simp))))) (hK _ _ (fun s hs => by cases hs; rfl) hst)
                    · exact wp_calledW (wanted_yes rfl rfl rfl (hgot 2 _ 131 rfl (hdep ⟨2, .guard⟩ (by simp) rfl) rfl)) (exec_call4 rfl rfl (eval_tmp (hgot 5 _ 134 rfl (hdep ⟨5, .data⟩ (by simp) rfl) rfl)) (eval_tmp (hgot 7 _ 136 rfl (hdep ⟨7, .data⟩ (by simp) rfl) rfl)) (eval_tmp (hgot 9 _ 138 rfl (hdep ⟨9, .data⟩ (by simp) rfl) rfl)) (eval_tmp (hgot 11 _ 140 rfl (hdep ⟨11, .data⟩ (by simp) rfl) rfl)) (enters_of Tryd.func18 (by kernel_rfl) rfl)) ((L3 v (mm.then (mv v hst))).mono (fun e v' hh => ⟨_, hh.1, hK _ _ (fun s hs => by cases hs; rfl) (hst.then hh.2)⟩))
                    · exact wp_ranW (wanted_yes rfl rfl rfl (hgot 2 _ 131 rfl (hdep ⟨2, .guard⟩ (by simp) rfl) rfl)) (exec_ne25s rfl (eval_tmp (hgot 3 _ 132 rfl (hdep ⟨3, .data⟩ (by simp) rfl) rfl)) (eval_tmp (hgot 12 _ 141 rfl (hdep ⟨12, .data⟩ (by simp) rfl) rfl))) (hK _ _ (fun s hs => by cases hs; rfl) hst)
                    · exact wp_ran rfl (exec_pick rfl (eval_tmp (hgot 2 _ 131 rfl (hdep ⟨2, .data⟩ (by simp) rfl) rfl)) rfl (eval_tmp (hgot 13 _ 142 rfl (hdep ⟨13, .data⟩ (by simp) rfl) rfl)) rfl) (hK _ _ (fun s hs => by cases hs; rfl) hst)
                  case fin =>
                  intro lz vt hlz hst
                  replace hst : Mod [] vs vt := (Mod.drew [] vs).then hst
                  replace hb4 := hb4.keep hst (by simp)
                  replace mm := mm.then hst
                  replace hu1 := hu1.keep hst (by simp)
                  replace hu2 := hu2.keep hst (by simp)
                  replace hu3 := hu3.keep hst (by simp)
                  clear hst hlz c32 c33 c34
                  have c32 := wk_c4 hb4
                  have c33 := wk_f4 hb4
                  have c34 := wk_t4 hb4
                  simp only [setAll, List.foldl_cons, List.foldl_nil, List.toList_toArray, List.set_cons_succ, List.set_cons_zero]
                  clear L3
                  go_wp2_with fail
                  refine ⟨⟨k + 1, by omega, by omega, by go_num, mm⟩, by simp [intOf]; omega⟩
                · skip
                  have hwo : ¬ (0 ≤ (f : Int) ∧ (f : Int) ≤ tI ∧ tI ≤ 15) := fun h => by omega
                  obtain ⟨a, ha⟩ : ∃ a, a = startI i x := ⟨_, rfl⟩
                  have X1 := fun v (mv : Mod [] w v) => start_yes x i hi v (Gl.then mv)
                  have L1 := fun v (mv : Mod [] w v) => lstart_c x i (by omega) v (Gl.then mv)
                  rw [← ha] at X1 L1
                  obtain ⟨s, hs⟩ : ∃ s, s = stepI i f x := ⟨_, rfl⟩
                  have X2 := fun v (mv : Mod [] w v) => step_yes x i f hi hf15 v (Gl.then mv)
                  have L2 := fun v (mv : Mod [] w v) => lstep_c x i f (by omega) (by omega) v (Gl.then mv)
                  rw [← hs] at X2 L2
                  have X3 := fun v (_ : Mod [] w v) => chain_no x (i : Int) (f : Int) tI (fun h => hwo h.2) v
                  clear ha hs hwo 
                  go_wp2_with (first
                    | (with_reducible refine wpList_loads (o := ⟨some 20, .load 31 (.tmp 19), _, _, _, _⟩) rfl 31 (.tmp 19) rfl ga (oa + k * 35) _ rfl hci _ Tryd.underlying31 rfl (size31 ⟨x, (i : Int), (f : Int), tI⟩) (.agg (wkc ⟨x, (i : Int), (f : Int), tI⟩).toArray) rfl ?_)
                    | (with_reducible refine wpList_allocs (o := ⟨some 4, .alloc 31, _, _, _, _⟩) rfl 31 rfl _ zero31 ?_; intro w1 hb1 m1 z1; replace z1 := Lib.hid z1)
                    | (with_reducible refine wpList_storesAll (o := ⟨none, .store 31 (.tmp 4) (.tmp 20), _, _, _, _⟩) rfl 31 (.tmp 4) (.tmp 20) rfl rfl wr.heap.size (wkc ⟨x, (i : Int), (f : Int), tI⟩) rfl (.agg (wkc ⟨x, (i : Int), (f : Int), tI⟩).toArray) rfl rfl 31 _ hb1 (by rw [wkc_length, wkc_length]) (wkc_one ⟨x, (i : Int), (f : Int), tI⟩) (size31 ⟨x, (i : Int), (f : Int), tI⟩) ?_
                       intro w2 hb2 m2 z2
                       clear z2
                       have mx : Mod [] wr w2 := m1.trans m2 (by intro i hi h; simp at h; omega)
                       obtain ⟨b4, hb4e⟩ : ∃ q, q = wr.heap.size := ⟨_, rfl⟩
                       rw [← hb4e] at hb2 ⊢
                       have hb4 := hb2
                       replace mm := mm.then mx
                       have hb4 : Holds w2 b4 31 (wkc ⟨x, (i : Int), (f : Int), tI⟩) := hb4
                       have c32 := wk_c4 hb4
                       have c33 := wk_f4 hb4
                       have c34 := wk_t4 hb4
                       clear hb1 hb2 m1 z1 m2 mx hb4e hci)
                    | (with_reducible refine wpList_loads (o := ⟨some 25, .load 25 _, _, _, _, _⟩) rfl 25 _ rfl b4 0 _ rfl (wk_x4 hb4) _ Tryd.underlying25 rfl (size25i x) (iv x) rfl ?_)
                    | (go_at_call 13; refine (X1 _ mm).mono ?_
                       rintro e v1 ⟨rfl, m1⟩
                       replace hb4 := hb4.keep m1 (by simp)
                       replace mm := mm.then m1
                       clear X1 m1 c32 c33 c34)
                    | (with_reducible refine wpList_allocs (o := ⟨some 5, .alloc 25, _, _, _, _⟩) rfl 25 rfl _ zeroI_25 ?_; intro y1 hy1 my1 zy1; replace zy1 := Lib.hid zy1)
                    | (with_reducible refine wpList_storesAll (o := ⟨none, .store 25 (.tmp 5) (.tmp 29), _, _, _, _⟩) rfl 25 (.tmp 5) (.tmp 29) rfl rfl v1.heap.size (ic a) rfl (iv a) rfl rfl 25 _ hy1 (by rw [ic_length, ic_length]) (ic_one _) (size25i _) ?_
                       intro u1 hu1 mu1 zu1
                       clear zu1
                       have q1 : Mod [] v1 u1 := my1.trans mu1 (by intro i hi h; simp at h; omega)
                       obtain ⟨d1, hd1⟩ : ∃ b, b = v1.heap.size := ⟨_, rfl⟩
                       rw [← hd1] at hu1 ⊢
                       replace hb4 := hb4.keep q1 (by simp)
                       replace mm := mm.then q1
                       have c32 := wk_c4 hb4
                       have c33 := wk_f4 hb4
                       have c34 := wk_t4 hb4
                       clear hy1 my1 zy1 mu1 q1 hd1)
                    | (with_reducible refine wpList_loads (o := ⟨some 33, .load 25 _, _, _, _, _⟩) rfl 25 _ rfl b4 0 _ rfl (wk_x4 hb4) _ Tryd.underlying25 rfl (size25i x) (iv x) rfl ?_)
                    | (go_at_call 14; refine (X2 _ mm).mono ?_
                       rintro e v2 ⟨rfl, m2⟩
                       replace hu1 := hu1.keep m2 (by simp)
                       replace hb4 := hb4.keep m2 (by simp)
                       replace mm := mm.then m2
                       clear X2 m2 c32 c33 c34)
                    | (with_reducible refine wpList_allocs (o := ⟨some 7, .alloc 25, _, _, _, _⟩) rfl 25 rfl _ zeroI_25 ?_; intro y2 hy2 my2 zy2; replace zy2 := Lib.hid zy2)
                    | (with_reducible refine wpList_storesAll (o := ⟨none, .store 25 (.tmp 7) (.tmp 39), _, _, _, _⟩) rfl 25 (.tmp 7) (.tmp 39) rfl rfl v2.heap.size (ic s) rfl (iv s) rfl rfl 25 _ hy2 (by rw [ic_length, ic_length]) (ic_one _) (size25i _) ?_
                       intro u2 hu2 mu2 zu2
                       clear zu2
                       have q2 : Mod [] v2 u2 := my2.trans mu2 (by intro i hi h; simp at h; omega)
                       obtain ⟨d2, hd2⟩ : ∃ b, b = v2.heap.size := ⟨_, rfl⟩
                       rw [← hd2] at hu2 ⊢
                       replace hu1 := hu1.keep q2 (by simp)
                       replace hb4 := hb4.keep q2 (by simp)
                       replace mm := mm.then q2
                       have c32 := wk_c4 hb4
                       have c33 := wk_f4 hb4
                       have c34 := wk_t4 hb4
                       clear hy2 my2 zy2 mu2 q2 hd2)
                    | (with_reducible refine wpList_loads (o := ⟨some 43, .load 25 _, _, _, _, _⟩) rfl 25 _ rfl b4 0 _ rfl (wk_x4 hb4) _ Tryd.underlying25 rfl (size25i x) (iv x) rfl ?_)
                    | (go_at_call 15; refine (X3 _ mm).mono ?_
                       rintro e v3 ⟨rfl, m3⟩
                       replace hu1 := hu1.keep m3 (by simp)
                       replace hu2 := hu2.keep m3 (by simp)
                       replace hb4 := hb4.keep m3 (by simp)
                       replace mm := mm.then m3
                       clear X3 m3 c32 c33 c34)
                    | (with_reducible refine wpList_allocs (o := ⟨some 9, .alloc 25, _, _, _, _⟩) rfl 25 rfl _ zeroI_25 ?_; intro y3 hy3 my3 zy3; replace zy3 := Lib.hid zy3)
                    | (with_reducible refine wpList_storesAll (o := ⟨none, .store 25 (.tmp 9) (.tmp 51), _, _, _, _⟩) rfl 25 (.tmp 9) (.tmp 51) rfl rfl v3.heap.size (ic zeroI) rfl (iv zeroI) rfl rfl 25 _ hy3 (by rw [ic_length]) (ic_one _) (size25i _) ?_
                       intro u3 hu3 mu3 zu3
                       clear zu3
                       have q3 : Mod [] v3 u3 := my3.trans mu3 (by intro i hi h; simp at h; omega)
                       obtain ⟨d3, hd3⟩ : ∃ b, b = v3.heap.size := ⟨_, rfl⟩
                       rw [← hd3] at hu3 ⊢
                       replace hu1 := hu1.keep q3 (by simp)
                       replace hu2 := hu2.keep q3 (by simp)
                       replace hb4 := hb4.keep q3 (by simp)
                       replace mm := mm.then q3
                       have c32 := wk_c4 hb4
                       have c33 := wk_f4 hb4
                       have c34 := wk_t4 hb4
                       clear hy3 my3 zy3 mu3 q3 hd3))
                  refine wp_region_ups [(62, .int .i64 0), (63, .bool false), (64, .bool false), (65, iv a), (66, .pointer (some ⟨b4, 0, none⟩)), (67, iv x), (68, .pointer (some ⟨b4, 32, none⟩)), (69, .int .i64 (i : Int)), (70, iv a), (71, .bool false), (72, .bool false)] 152 [62, 63, 64, 65, 66, 67, 68, 69, 70, 71, 72] rfl rfl (by decide) (by kernel_rfl) (fun lz v => Mod [] u3.drew v) (by kernel_rfl) (Mod.refl _ _) (by kernel_rfl) (by kernel_rfl) ?step ?fin
                  case step =>
                    intro lz T v j o hj hlj hdep hst hpar hgot hcl Kq hK
                    have mv : ∀ v, Mod [] u3.drew v → Mod [] u3 v := fun v h => (Mod.drew [] u3).then h
                    have hjn : j < 11 := (Array.getElem?_eq_some_iff.1 hj).1
                    obtain rfl | rfl | rfl | rfl | rfl | rfl | rfl | rfl | rfl | rfl | rfl : j = 0 ∨ j = 1 ∨ j = 2 ∨ j = 3 ∨ j = 4 ∨ j = 5 ∨ j = 6 ∨ j = 7 ∨ j = 8 ∨ j = 9 ∨ j = 10 := by omega
                    all_goals (have hj' := Option.some.inj (hj : some _ = some o); subst hj'; clear hj)
                    · exact wp_ran rfl (exec_move rfl (eval_tmp ((hpar 6 rfl).trans rfl))) (hK _ _ (fun s hs => by cases hs; rfl) hst)
                    · exact wp_ran rfl (exec_nei32 rfl (eval_tmp (hgot 0 _ 62 rfl (hdep ⟨0, .data⟩ (by simp) rfl) rfl)) rfl) (hK _ _ (fun s hs => by cases hs; rfl) hst)
                    · exact wp_ran rfl (exec_move rfl (eval_tmp (hgot 1 _ 63 rfl (hdep ⟨1, .data⟩ (by simp) rfl) rfl))) (hK _ _ (fun s hs => by cases hs; rfl) hst)
                    · exact wp_ranW (wanted_yes rfl rfl rfl (hgot 2 _ 64 rfl (hdep ⟨2, .guard⟩ (by simp) rfl) rfl)) (exec_load rfl (eval_tmp ((hpar 5 rfl).trans rfl)) (run_loads (Cells.of_holds (hu1.keep (mv v hst) (by simp))) Tryd.underlying25 rfl (size25i a))) (hK _ _ (fun s hs => by cases hs; rfl) hst)
                    · exact wp_ranW (wanted_yes rfl rfl rfl (hgot 2 _ 64 rfl (hdep ⟨2, .guard⟩ (by simp) rfl) rfl)) (exec_fa0 rfl (eval_tmp ((hpar 4 rfl).trans rfl))) (hK _ _ (fun s hs => by cases hs; rfl) hst)
                    · exact wp_ranW (wanted_yes rfl rfl rfl (hgot 2 _ 64 rfl (hdep ⟨2, .guard⟩ (by simp) rfl) rfl)) (exec_load rfl (eval_tmp (hgot 4 _ 66 rfl (hdep ⟨4, .data⟩ (by simp) rfl) rfl)) (run_loads (wk_x4 (hb4.keep (mv v hst) (by simp))) Tryd.underlying25 rfl (size25i x))) (hK _ _ (fun s hs => by cases hs; rfl) hst)
                    · exact wp_ranW (wanted_yes rfl rfl rfl (hgot 2 _ 64 rfl (hdep ⟨2, .guard⟩ (by simp) rfl) rfl)) (exec_fa1 rfl (eval_tmp ((hpar 4 rfl).trans rfl))) (hK _ _ (fun s hs => by cases hs; rfl) hst)
                    · exact wp_ranW (wanted_yes rfl rfl rfl (hgot 2 _ 64 rfl (hdep ⟨2, .guard⟩ (by simp) rfl) rfl)) (exec_load rfl (eval_tmp (hgot 6 _ 68 rfl (hdep ⟨6, .data⟩ (by simp) rfl) rfl)) (run_load1 Tryd.underlying3 rfl (wk_c4 (hb4.keep (mv v hst) (by simp))))) (hK _ _ (fun s hs => by cases hs; rfl) hst)
                    · exact wp_calledW (wanted_yes rfl rfl rfl (hgot 2 _ 64 rfl (hdep ⟨2, .guard⟩ (by simp) rfl) rfl)) (exec_call2 rfl rfl (eval_tmp (hgot 5 _ 67 rfl (hdep ⟨5, .data⟩ (by simp) rfl) rfl)) (eval_tmp (hgot 7 _ 69 rfl (hdep ⟨7, .data⟩ (by simp) rfl) rfl)) (enters_of Tryd.func16 (by kernel_rfl) rfl)) ((L1 v (mm.then (mv v hst))).mono (fun e v' hh => ⟨_, hh.1, hK _ _ (fun s hs => by cases hs; rfl) (hst.then hh.2)⟩))
                    · exact wp_ranW (wanted_yes rfl rfl rfl (hgot 2 _ 64 rfl (hdep ⟨2, .guard⟩ (by simp) rfl) rfl)) (exec_ne25s rfl (eval_tmp (hgot 3 _ 65 rfl (hdep ⟨3, .data⟩ (by simp) rfl) rfl)) (eval_tmp (hgot 8 _ 70 rfl (hdep ⟨8, .data⟩ (by simp) rfl) rfl))) (hK _ _ (fun s hs => by cases hs; rfl) hst)
                    · exact wp_ran rfl (exec_pick rfl (eval_tmp (hgot 2 _ 64 rfl (hdep ⟨2, .data⟩ (by simp) rfl) rfl)) rfl (eval_tmp (hgot 9 _ 71 rfl (hdep ⟨9, .data⟩ (by simp) rfl) rfl)) rfl) (hK _ _ (fun s hs => by cases hs; rfl) hst)
                  case fin =>
                  intro lz vr hlz hst
                  replace hst : Mod [] u3 vr := (Mod.drew [] u3).then hst
                  replace hb4 := hb4.keep hst (by simp)
                  replace mm := mm.then hst
                  replace hu1 := hu1.keep hst (by simp)
                  replace hu2 := hu2.keep hst (by simp)
                  replace hu3 := hu3.keep hst (by simp)
                  clear hst hlz c32 c33 c34
                  have c32 := wk_c4 hb4
                  have c33 := wk_f4 hb4
                  have c34 := wk_t4 hb4
                  simp only [setAll, List.foldl_cons, List.foldl_nil, List.toList_toArray, List.set_cons_succ, List.set_cons_zero]
                  clear L1
                  go_wp2_with fail
                  refine wp_region_ups [(91, .int .i64 0), (92, .bool false), (93, .bool false), (94, iv s), (95, .pointer (some ⟨b4, 0, none⟩)), (96, iv x), (97, .pointer (some ⟨b4, 32, none⟩)), (98, .int .i64 (i : Int)), (99, .pointer (some ⟨b4, 33, none⟩)), (100, .int .i64 (f : Int)), (101, iv s), (102, .bool false), (103, .bool false)] 152 [91, 92, 93, 94, 95, 96, 97, 98, 99, 100, 101, 102, 103] rfl rfl (by decide) (by kernel_rfl) (fun lz v => Mod [] vr.drew v) (by kernel_rfl) (Mod.refl _ _) (by kernel_rfl) (by kernel_rfl) ?step ?fin
                  case step =>
                    intro lz T v j o hj hlj hdep hst hpar hgot hcl Kq hK
                    have mv : ∀ v, Mod [] vr.drew v → Mod [] vr v := fun v h => (Mod.drew [] vr).then h
                    have hjn : j < 13 := (Array.getElem?_eq_some_iff.1 hj).1
                    obtain rfl | rfl | rfl | rfl | rfl | rfl | rfl | rfl | rfl | rfl | rfl | rfl | rfl : j = 0 ∨ j = 1 ∨ j = 2 ∨ j = 3 ∨ j = 4 ∨ j = 5 ∨ j = 6 ∨ j = 7 ∨ j = 8 ∨ j = 9 ∨ j = 10 ∨ j = 11 ∨ j = 12 := by omega
                    all_goals (have hj' := Option.some.inj (hj : some _ = some o); subst hj'; clear hj)
                    · exact wp_ran rfl (exec_move rfl (eval_tmp ((hpar 8 rfl).trans rfl))) (hK _ _ (fun s hs => by cases hs; rfl) hst)
                    · exact wp_ran rfl (exec_nei32 rfl (eval_tmp (hgot 0 _ 91 rfl (hdep ⟨0, .data⟩ (by simp) rfl) rfl)) rfl) (hK _ _ (fun s hs => by cases hs; rfl) hst)
                    · exact wp_ran rfl (exec_move rfl (eval_tmp (hgot 1 _ 92 rfl (hdep ⟨1, .data⟩ (by simp) rfl) rfl))) (hK _ _ (fun s hs => by cases hs; rfl) hst)
                    · exact wp_ranW (wanted_yes rfl rfl rfl (hgot 2 _ 93 rfl (hdep ⟨2, .guard⟩ (by simp) rfl) rfl)) (exec_load rfl (eval_tmp ((hpar 7 rfl).trans rfl)) (run_loads (Cells.of_holds (hu2.keep (mv v hst) (by simp))) Tryd.underlying25 rfl (size25i s))) (hK _ _ (fun s hs => by cases hs; rfl) hst)
                    · exact wp_ranW (wanted_yes rfl rfl rfl (hgot 2 _ 93 rfl (hdep ⟨2, .guard⟩ (by simp) rfl) rfl)) (exec_fa0 rfl (eval_tmp ((hpar 4 rfl).trans rfl))) (hK _ _ (fun s hs => by cases hs; rfl) hst)
                    · exact wp_ranW (wanted_yes rfl rfl rfl (hgot 2 _ 93 rfl (hdep ⟨2, .guard⟩ (by simp) rfl) rfl)) (exec_load rfl (eval_tmp (hgot 4 _ 95 rfl (hdep ⟨4, .data⟩ (by simp) rfl) rfl)) (run_loads (wk_x4 (hb4.keep (mv v hst) (by simp))) Tryd.underlying25 rfl (size25i x))) (hK _ _ (fun s hs => by cases hs; rfl) hst)
                    · exact wp_ranW (wanted_yes rfl rfl rfl (hgot 2 _ 93 rfl (hdep ⟨2, .guard⟩ (by simp) rfl) rfl)) (exec_fa1 rfl (eval_tmp ((hpar 4 rfl).trans rfl))) (hK _ _ (fun s hs => by cases hs; rfl) hst)
                    · exact wp_ranW (wanted_yes rfl rfl rfl (hgot 2 _ 93 rfl (hdep ⟨2, .guard⟩ (by simp) rfl) rfl)) (exec_load rfl (eval_tmp (hgot 6 _ 97 rfl (hdep ⟨6, .data⟩ (by simp) rfl) rfl)) (run_load1 Tryd.underlying3 rfl (wk_c4 (hb4.keep (mv v hst) (by simp))))) (hK _ _ (fun s hs => by cases hs; rfl) hst)
                    · exact wp_ranW (wanted_yes rfl rfl rfl (hgot 2 _ 93 rfl (hdep ⟨2, .guard⟩ (by simp) rfl) rfl)) (exec_fa2 rfl (eval_tmp ((hpar 4 rfl).trans rfl))) (hK _ _ (fun s hs => by cases hs; rfl) hst)
                    · exact wp_ranW (wanted_yes rfl rfl rfl (hgot 2 _ 93 rfl (hdep ⟨2, .guard⟩ (by simp) rfl) rfl)) (exec_load rfl (eval_tmp (hgot 8 _ 99 rfl (hdep ⟨8, .data⟩ (by simp) rfl) rfl)) (run_load1 Tryd.underlying3 rfl (wk_f4 (hb4.keep (mv v hst) (by simp))))) (hK _ _ (fun s hs => by cases hs; rfl) hst)
                    · exact wp_calledW (wanted_yes rfl rfl rfl (hgot 2 _ 93 rfl (hdep ⟨2, .guard⟩ (by simp) rfl) rfl)) (exec_call3 rfl rfl (eval_tmp (hgot 5 _ 96 rfl (hdep ⟨5, .data⟩ (by simp) rfl) rfl)) (eval_tmp (hgot 7 _ 98 rfl (hdep ⟨7, .data⟩ (by simp) rfl) rfl)) (eval_tmp (hgot 9 _ 100 rfl (hdep ⟨9, .data⟩ (by simp) rfl) rfl)) (enters_of Tryd.func17 (by kernel_rfl) rfl)) ((L2 v (mm.then (mv v hst))).mono (fun e v' hh => ⟨_, hh.1, hK _ _ (fun s hs => by cases hs; rfl) (hst.then hh.2)⟩))
                    · exact wp_ranW (wanted_yes rfl rfl rfl (hgot 2 _ 93 rfl (hdep ⟨2, .guard⟩ (by simp) rfl) rfl)) (exec_ne25s rfl (eval_tmp (hgot 3 _ 94 rfl (hdep ⟨3, .data⟩ (by simp) rfl) rfl)) (eval_tmp (hgot 10 _ 101 rfl (hdep ⟨10, .data⟩ (by simp) rfl) rfl))) (hK _ _ (fun s hs => by cases hs; rfl) hst)
                    · exact wp_ran rfl (exec_pick rfl (eval_tmp (hgot 2 _ 93 rfl (hdep ⟨2, .data⟩ (by simp) rfl) rfl)) rfl (eval_tmp (hgot 11 _ 102 rfl (hdep ⟨11, .data⟩ (by simp) rfl) rfl)) rfl) (hK _ _ (fun s hs => by cases hs; rfl) hst)
                  case fin =>
                  intro lz vs hlz hst
                  replace hst : Mod [] vr vs := (Mod.drew [] vr).then hst
                  replace hb4 := hb4.keep hst (by simp)
                  replace mm := mm.then hst
                  replace hu1 := hu1.keep hst (by simp)
                  replace hu2 := hu2.keep hst (by simp)
                  replace hu3 := hu3.keep hst (by simp)
                  clear hst hlz c32 c33 c34
                  have c32 := wk_c4 hb4
                  have c33 := wk_f4 hb4
                  have c34 := wk_t4 hb4
                  simp only [setAll, List.foldl_cons, List.foldl_nil, List.toList_toArray, List.set_cons_succ, List.set_cons_zero]
                  clear L2
                  go_wp2_with (first
                    | (with_reducible refine wpList_loadsW (o := ⟨some 147, .load 25 (.tmp 9), _, _, _, _⟩) (by with_unfolding_all rfl) 25 (.tmp 9) rfl d3 0 _ rfl (Cells.of_holds hu3) _ Tryd.underlying25 rfl (size25i zeroI) (iv zeroI) rfl ?_)
                    | (with_reducible refine wpList_ranW (o := ⟨some 148, .build 25 _, _, _, _, _⟩) (by with_unfolding_all rfl) (iv zeroI) vs (exec_zero25 rfl) ?_)
                    | (with_reducible refine wpList_ranW (o := ⟨some 149, .binOp .neq _ _ _ _, _, _, _, _⟩) (by with_unfolding_all rfl) (.bool false) vs (exec_ne25s rfl rfl rfl) ?_))
                  refine ⟨⟨k + 1, by omega, by omega, by go_num, mm⟩, by simp [intOf]; omega⟩
              · skip
                have hwo : ¬ (0 ≤ (f : Int) ∧ (f : Int) ≤ tI ∧ tI ≤ 15) := fun h => by omega
                obtain ⟨a, ha⟩ : ∃ a, a = startI i x := ⟨_, rfl⟩
                have X1 := fun v (mv : Mod [] w v) => start_yes x i hi v (Gl.then mv)
                have L1 := fun v (mv : Mod [] w v) => lstart_c x i (by omega) v (Gl.then mv)
                rw [← ha] at X1 L1
                obtain ⟨s, hs⟩ : ∃ s, s = stepI i f x := ⟨_, rfl⟩
                have X2 := fun v (mv : Mod [] w v) => step_yes x i f hi hf15 v (Gl.then mv)
                have L2 := fun v (mv : Mod [] w v) => lstep_c x i f (by omega) (by omega) v (Gl.then mv)
                rw [← hs] at X2 L2
                have X3 := fun v (_ : Mod [] w v) => chain_no x (i : Int) (f : Int) tI (fun h => hwo h.2) v
                clear ha hs hwo 
                go_wp2_with (first
                  | (with_reducible refine wpList_loads (o := ⟨some 20, .load 31 (.tmp 19), _, _, _, _⟩) rfl 31 (.tmp 19) rfl ga (oa + k * 35) _ rfl hci _ Tryd.underlying31 rfl (size31 ⟨x, (i : Int), (f : Int), tI⟩) (.agg (wkc ⟨x, (i : Int), (f : Int), tI⟩).toArray) rfl ?_)
                  | (with_reducible refine wpList_allocs (o := ⟨some 4, .alloc 31, _, _, _, _⟩) rfl 31 rfl _ zero31 ?_; intro w1 hb1 m1 z1; replace z1 := Lib.hid z1)
                  | (with_reducible refine wpList_storesAll (o := ⟨none, .store 31 (.tmp 4) (.tmp 20), _, _, _, _⟩) rfl 31 (.tmp 4) (.tmp 20) rfl rfl wr.heap.size (wkc ⟨x, (i : Int), (f : Int), tI⟩) rfl (.agg (wkc ⟨x, (i : Int), (f : Int), tI⟩).toArray) rfl rfl 31 _ hb1 (by rw [wkc_length, wkc_length]) (wkc_one ⟨x, (i : Int), (f : Int), tI⟩) (size31 ⟨x, (i : Int), (f : Int), tI⟩) ?_
                     intro w2 hb2 m2 z2
                     clear z2
                     have mx : Mod [] wr w2 := m1.trans m2 (by intro i hi h; simp at h; omega)
                     obtain ⟨b4, hb4e⟩ : ∃ q, q = wr.heap.size := ⟨_, rfl⟩
                     rw [← hb4e] at hb2 ⊢
                     have hb4 := hb2
                     replace mm := mm.then mx
                     have hb4 : Holds w2 b4 31 (wkc ⟨x, (i : Int), (f : Int), tI⟩) := hb4
                     have c32 := wk_c4 hb4
                     have c33 := wk_f4 hb4
                     have c34 := wk_t4 hb4
                     clear hb1 hb2 m1 z1 m2 mx hb4e hci)
                  | (with_reducible refine wpList_loads (o := ⟨some 25, .load 25 _, _, _, _, _⟩) rfl 25 _ rfl b4 0 _ rfl (wk_x4 hb4) _ Tryd.underlying25 rfl (size25i x) (iv x) rfl ?_)
                  | (go_at_call 13; refine (X1 _ mm).mono ?_
                     rintro e v1 ⟨rfl, m1⟩
                     replace hb4 := hb4.keep m1 (by simp)
                     replace mm := mm.then m1
                     clear X1 m1 c32 c33 c34)
                  | (with_reducible refine wpList_allocs (o := ⟨some 5, .alloc 25, _, _, _, _⟩) rfl 25 rfl _ zeroI_25 ?_; intro y1 hy1 my1 zy1; replace zy1 := Lib.hid zy1)
                  | (with_reducible refine wpList_storesAll (o := ⟨none, .store 25 (.tmp 5) (.tmp 29), _, _, _, _⟩) rfl 25 (.tmp 5) (.tmp 29) rfl rfl v1.heap.size (ic a) rfl (iv a) rfl rfl 25 _ hy1 (by rw [ic_length, ic_length]) (ic_one _) (size25i _) ?_
                     intro u1 hu1 mu1 zu1
                     clear zu1
                     have q1 : Mod [] v1 u1 := my1.trans mu1 (by intro i hi h; simp at h; omega)
                     obtain ⟨d1, hd1⟩ : ∃ b, b = v1.heap.size := ⟨_, rfl⟩
                     rw [← hd1] at hu1 ⊢
                     replace hb4 := hb4.keep q1 (by simp)
                     replace mm := mm.then q1
                     have c32 := wk_c4 hb4
                     have c33 := wk_f4 hb4
                     have c34 := wk_t4 hb4
                     clear hy1 my1 zy1 mu1 q1 hd1)
                  | (with_reducible refine wpList_loads (o := ⟨some 33, .load 25 _, _, _, _, _⟩) rfl 25 _ rfl b4 0 _ rfl (wk_x4 hb4) _ Tryd.underlying25 rfl (size25i x) (iv x) rfl ?_)
                  | (go_at_call 14; refine (X2 _ mm).mono ?_
                     rintro e v2 ⟨rfl, m2⟩
                     replace hu1 := hu1.keep m2 (by simp)
                     replace hb4 := hb4.keep m2 (by simp)
                     replace mm := mm.then m2
                     clear X2 m2 c32 c33 c34)
                  | (with_reducible refine wpList_allocs (o := ⟨some 7, .alloc 25, _, _, _, _⟩) rfl 25 rfl _ zeroI_25 ?_; intro y2 hy2 my2 zy2; replace zy2 := Lib.hid zy2)
                  | (with_reducible refine wpList_storesAll (o := ⟨none, .store 25 (.tmp 7) (.tmp 39), _, _, _, _⟩) rfl 25 (.tmp 7) (.tmp 39) rfl rfl v2.heap.size (ic s) rfl (iv s) rfl rfl 25 _ hy2 (by rw [ic_length, ic_length]) (ic_one _) (size25i _) ?_
                     intro u2 hu2 mu2 zu2
                     clear zu2
                     have q2 : Mod [] v2 u2 := my2.trans mu2 (by intro i hi h; simp at h; omega)
                     obtain ⟨d2, hd2⟩ : ∃ b, b = v2.heap.size := ⟨_, rfl⟩
                     rw [← hd2] at hu2 ⊢
                     replace hu1 := hu1.keep q2 (by simp)
                     replace hb4 := hb4.keep q2 (by simp)
                     replace mm := mm.then q2
                     have c32 := wk_c4 hb4
                     have c33 := wk_f4 hb4
                     have c34 := wk_t4 hb4
                     clear hy2 my2 zy2 mu2 q2 hd2)
                  | (with_reducible refine wpList_loads (o := ⟨some 43, .load 25 _, _, _, _, _⟩) rfl 25 _ rfl b4 0 _ rfl (wk_x4 hb4) _ Tryd.underlying25 rfl (size25i x) (iv x) rfl ?_)
                  | (go_at_call 15; refine (X3 _ mm).mono ?_
                     rintro e v3 ⟨rfl, m3⟩
                     replace hu1 := hu1.keep m3 (by simp)
                     replace hu2 := hu2.keep m3 (by simp)
                     replace hb4 := hb4.keep m3 (by simp)
                     replace mm := mm.then m3
                     clear X3 m3 c32 c33 c34)
                  | (with_reducible refine wpList_allocs (o := ⟨some 9, .alloc 25, _, _, _, _⟩) rfl 25 rfl _ zeroI_25 ?_; intro y3 hy3 my3 zy3; replace zy3 := Lib.hid zy3)
                  | (with_reducible refine wpList_storesAll (o := ⟨none, .store 25 (.tmp 9) (.tmp 51), _, _, _, _⟩) rfl 25 (.tmp 9) (.tmp 51) rfl rfl v3.heap.size (ic zeroI) rfl (iv zeroI) rfl rfl 25 _ hy3 (by rw [ic_length]) (ic_one _) (size25i _) ?_
                     intro u3 hu3 mu3 zu3
                     clear zu3
                     have q3 : Mod [] v3 u3 := my3.trans mu3 (by intro i hi h; simp at h; omega)
                     obtain ⟨d3, hd3⟩ : ∃ b, b = v3.heap.size := ⟨_, rfl⟩
                     rw [← hd3] at hu3 ⊢
                     replace hu1 := hu1.keep q3 (by simp)
                     replace hu2 := hu2.keep q3 (by simp)
                     replace hb4 := hb4.keep q3 (by simp)
                     replace mm := mm.then q3
                     have c32 := wk_c4 hb4
                     have c33 := wk_f4 hb4
                     have c34 := wk_t4 hb4
                     clear hy3 my3 zy3 mu3 q3 hd3))
                refine wp_region_ups [(62, .int .i64 0), (63, .bool false), (64, .bool false), (65, iv a), (66, .pointer (some ⟨b4, 0, none⟩)), (67, iv x), (68, .pointer (some ⟨b4, 32, none⟩)), (69, .int .i64 (i : Int)), (70, iv a), (71, .bool false), (72, .bool false)] 152 [62, 63, 64, 65, 66, 67, 68, 69, 70, 71, 72] rfl rfl (by decide) (by kernel_rfl) (fun lz v => Mod [] u3.drew v) (by kernel_rfl) (Mod.refl _ _) (by kernel_rfl) (by kernel_rfl) ?step ?fin
                case step =>
                  intro lz T v j o hj hlj hdep hst hpar hgot hcl Kq hK
                  have mv : ∀ v, Mod [] u3.drew v → Mod [] u3 v := fun v h => (Mod.drew [] u3).then h
                  have hjn : j < 11 := (Array.getElem?_eq_some_iff.1 hj).1
                  obtain rfl | rfl | rfl | rfl | rfl | rfl | rfl | rfl | rfl | rfl | rfl : j = 0 ∨ j = 1 ∨ j = 2 ∨ j = 3 ∨ j = 4 ∨ j = 5 ∨ j = 6 ∨ j = 7 ∨ j = 8 ∨ j = 9 ∨ j = 10 := by omega
                  all_goals (have hj' := Option.some.inj (hj : some _ = some o); subst hj'; clear hj)
                  · exact wp_ran rfl (exec_move rfl (eval_tmp ((hpar 6 rfl).trans rfl))) (hK _ _ (fun s hs => by cases hs; rfl) hst)
                  · exact wp_ran rfl (exec_nei32 rfl (eval_tmp (hgot 0 _ 62 rfl (hdep ⟨0, .data⟩ (by simp) rfl) rfl)) rfl) (hK _ _ (fun s hs => by cases hs; rfl) hst)
                  · exact wp_ran rfl (exec_move rfl (eval_tmp (hgot 1 _ 63 rfl (hdep ⟨1, .data⟩ (by simp) rfl) rfl))) (hK _ _ (fun s hs => by cases hs; rfl) hst)
                  · exact wp_ranW (wanted_yes rfl rfl rfl (hgot 2 _ 64 rfl (hdep ⟨2, .guard⟩ (by simp) rfl) rfl)) (exec_load rfl (eval_tmp ((hpar 5 rfl).trans rfl)) (run_loads (Cells.of_holds (hu1.keep (mv v hst) (by simp))) Tryd.underlying25 rfl (size25i a))) (hK _ _ (fun s hs => by cases hs; rfl) hst)
                  · exact wp_ranW (wanted_yes rfl rfl rfl (hgot 2 _ 64 rfl (hdep ⟨2, .guard⟩ (by simp) rfl) rfl)) (exec_fa0 rfl (eval_tmp ((hpar 4 rfl).trans rfl))) (hK _ _ (fun s hs => by cases hs; rfl) hst)
                  · exact wp_ranW (wanted_yes rfl rfl rfl (hgot 2 _ 64 rfl (hdep ⟨2, .guard⟩ (by simp) rfl) rfl)) (exec_load rfl (eval_tmp (hgot 4 _ 66 rfl (hdep ⟨4, .data⟩ (by simp) rfl) rfl)) (run_loads (wk_x4 (hb4.keep (mv v hst) (by simp))) Tryd.underlying25 rfl (size25i x))) (hK _ _ (fun s hs => by cases hs; rfl) hst)
                  · exact wp_ranW (wanted_yes rfl rfl rfl (hgot 2 _ 64 rfl (hdep ⟨2, .guard⟩ (by simp) rfl) rfl)) (exec_fa1 rfl (eval_tmp ((hpar 4 rfl).trans rfl))) (hK _ _ (fun s hs => by cases hs; rfl) hst)
                  · exact wp_ranW (wanted_yes rfl rfl rfl (hgot 2 _ 64 rfl (hdep ⟨2, .guard⟩ (by simp) rfl) rfl)) (exec_load rfl (eval_tmp (hgot 6 _ 68 rfl (hdep ⟨6, .data⟩ (by simp) rfl) rfl)) (run_load1 Tryd.underlying3 rfl (wk_c4 (hb4.keep (mv v hst) (by simp))))) (hK _ _ (fun s hs => by cases hs; rfl) hst)
                  · exact wp_calledW (wanted_yes rfl rfl rfl (hgot 2 _ 64 rfl (hdep ⟨2, .guard⟩ (by simp) rfl) rfl)) (exec_call2 rfl rfl (eval_tmp (hgot 5 _ 67 rfl (hdep ⟨5, .data⟩ (by simp) rfl) rfl)) (eval_tmp (hgot 7 _ 69 rfl (hdep ⟨7, .data⟩ (by simp) rfl) rfl)) (enters_of Tryd.func16 (by kernel_rfl) rfl)) ((L1 v (mm.then (mv v hst))).mono (fun e v' hh => ⟨_, hh.1, hK _ _ (fun s hs => by cases hs; rfl) (hst.then hh.2)⟩))
                  · exact wp_ranW (wanted_yes rfl rfl rfl (hgot 2 _ 64 rfl (hdep ⟨2, .guard⟩ (by simp) rfl) rfl)) (exec_ne25s rfl (eval_tmp (hgot 3 _ 65 rfl (hdep ⟨3, .data⟩ (by simp) rfl) rfl)) (eval_tmp (hgot 8 _ 70 rfl (hdep ⟨8, .data⟩ (by simp) rfl) rfl))) (hK _ _ (fun s hs => by cases hs; rfl) hst)
                  · exact wp_ran rfl (exec_pick rfl (eval_tmp (hgot 2 _ 64 rfl (hdep ⟨2, .data⟩ (by simp) rfl) rfl)) rfl (eval_tmp (hgot 9 _ 71 rfl (hdep ⟨9, .data⟩ (by simp) rfl) rfl)) rfl) (hK _ _ (fun s hs => by cases hs; rfl) hst)
                case fin =>
                intro lz vr hlz hst
                replace hst : Mod [] u3 vr := (Mod.drew [] u3).then hst
                replace hb4 := hb4.keep hst (by simp)
                replace mm := mm.then hst
                replace hu1 := hu1.keep hst (by simp)
                replace hu2 := hu2.keep hst (by simp)
                replace hu3 := hu3.keep hst (by simp)
                clear hst hlz c32 c33 c34
                have c32 := wk_c4 hb4
                have c33 := wk_f4 hb4
                have c34 := wk_t4 hb4
                simp only [setAll, List.foldl_cons, List.foldl_nil, List.toList_toArray, List.set_cons_succ, List.set_cons_zero]
                clear L1
                go_wp2_with fail
                refine wp_region_ups [(91, .int .i64 0), (92, .bool false), (93, .bool false), (94, iv s), (95, .pointer (some ⟨b4, 0, none⟩)), (96, iv x), (97, .pointer (some ⟨b4, 32, none⟩)), (98, .int .i64 (i : Int)), (99, .pointer (some ⟨b4, 33, none⟩)), (100, .int .i64 (f : Int)), (101, iv s), (102, .bool false), (103, .bool false)] 152 [91, 92, 93, 94, 95, 96, 97, 98, 99, 100, 101, 102, 103] rfl rfl (by decide) (by kernel_rfl) (fun lz v => Mod [] vr.drew v) (by kernel_rfl) (Mod.refl _ _) (by kernel_rfl) (by kernel_rfl) ?step ?fin
                case step =>
                  intro lz T v j o hj hlj hdep hst hpar hgot hcl Kq hK
                  have mv : ∀ v, Mod [] vr.drew v → Mod [] vr v := fun v h => (Mod.drew [] vr).then h
                  have hjn : j < 13 := (Array.getElem?_eq_some_iff.1 hj).1
                  obtain rfl | rfl | rfl | rfl | rfl | rfl | rfl | rfl | rfl | rfl | rfl | rfl | rfl : j = 0 ∨ j = 1 ∨ j = 2 ∨ j = 3 ∨ j = 4 ∨ j = 5 ∨ j = 6 ∨ j = 7 ∨ j = 8 ∨ j = 9 ∨ j = 10 ∨ j = 11 ∨ j = 12 := by omega
                  all_goals (have hj' := Option.some.inj (hj : some _ = some o); subst hj'; clear hj)
                  · exact wp_ran rfl (exec_move rfl (eval_tmp ((hpar 8 rfl).trans rfl))) (hK _ _ (fun s hs => by cases hs; rfl) hst)
                  · exact wp_ran rfl (exec_nei32 rfl (eval_tmp (hgot 0 _ 91 rfl (hdep ⟨0, .data⟩ (by simp) rfl) rfl)) rfl) (hK _ _ (fun s hs => by cases hs; rfl) hst)
                  · exact wp_ran rfl (exec_move rfl (eval_tmp (hgot 1 _ 92 rfl (hdep ⟨1, .data⟩ (by simp) rfl) rfl))) (hK _ _ (fun s hs => by cases hs; rfl) hst)
                  · exact wp_ranW (wanted_yes rfl rfl rfl (hgot 2 _ 93 rfl (hdep ⟨2, .guard⟩ (by simp) rfl) rfl)) (exec_load rfl (eval_tmp ((hpar 7 rfl).trans rfl)) (run_loads (Cells.of_holds (hu2.keep (mv v hst) (by simp))) Tryd.underlying25 rfl (size25i s))) (hK _ _ (fun s hs => by cases hs; rfl) hst)
                  · exact wp_ranW (wanted_yes rfl rfl rfl (hgot 2 _ 93 rfl (hdep ⟨2, .guard⟩ (by simp) rfl) rfl)) (exec_fa0 rfl (eval_tmp ((hpar 4 rfl).trans rfl))) (hK _ _ (fun s hs => by cases hs; rfl) hst)
                  · exact wp_ranW (wanted_yes rfl rfl rfl (hgot 2 _ 93 rfl (hdep ⟨2, .guard⟩ (by simp) rfl) rfl)) (exec_load rfl (eval_tmp (hgot 4 _ 95 rfl (hdep ⟨4, .data⟩ (by simp) rfl) rfl)) (run_loads (wk_x4 (hb4.keep (mv v hst) (by simp))) Tryd.underlying25 rfl (size25i x))) (hK _ _ (fun s hs => by cases hs; rfl) hst)
                  · exact wp_ranW (wanted_yes rfl rfl rfl (hgot 2 _ 93 rfl (hdep ⟨2, .guard⟩ (by simp) rfl) rfl)) (exec_fa1 rfl (eval_tmp ((hpar 4 rfl).trans rfl))) (hK _ _ (fun s hs => by cases hs; rfl) hst)
                  · exact wp_ranW (wanted_yes rfl rfl rfl (hgot 2 _ 93 rfl (hdep ⟨2, .guard⟩ (by simp) rfl) rfl)) (exec_load rfl (eval_tmp (hgot 6 _ 97 rfl (hdep ⟨6, .data⟩ (by simp) rfl) rfl)) (run_load1 Tryd.underlying3 rfl (wk_c4 (hb4.keep (mv v hst) (by simp))))) (hK _ _ (fun s hs => by cases hs; rfl) hst)
                  · exact wp_ranW (wanted_yes rfl rfl rfl (hgot 2 _ 93 rfl (hdep ⟨2, .guard⟩ (by simp) rfl) rfl)) (exec_fa2 rfl (eval_tmp ((hpar 4 rfl).trans rfl))) (hK _ _ (fun s hs => by cases hs; rfl) hst)
                  · exact wp_ranW (wanted_yes rfl rfl rfl (hgot 2 _ 93 rfl (hdep ⟨2, .guard⟩ (by simp) rfl) rfl)) (exec_load rfl (eval_tmp (hgot 8 _ 99 rfl (hdep ⟨8, .data⟩ (by simp) rfl) rfl)) (run_load1 Tryd.underlying3 rfl (wk_f4 (hb4.keep (mv v hst) (by simp))))) (hK _ _ (fun s hs => by cases hs; rfl) hst)
                  · exact wp_calledW (wanted_yes rfl rfl rfl (hgot 2 _ 93 rfl (hdep ⟨2, .guard⟩ (by simp) rfl) rfl)) (exec_call3 rfl rfl (eval_tmp (hgot 5 _ 96 rfl (hdep ⟨5, .data⟩ (by simp) rfl) rfl)) (eval_tmp (hgot 7 _ 98 rfl (hdep ⟨7, .data⟩ (by simp) rfl) rfl)) (eval_tmp (hgot 9 _ 100 rfl (hdep ⟨9, .data⟩ (by simp) rfl) rfl)) (enters_of Tryd.func17 (by kernel_rfl) rfl)) ((L2 v (mm.then (mv v hst))).mono (fun e v' hh => ⟨_, hh.1, hK _ _ (fun s hs => by cases hs; rfl) (hst.then hh.2)⟩))
                  · exact wp_ranW (wanted_yes rfl rfl rfl (hgot 2 _ 93 rfl (hdep ⟨2, .guard⟩ (by simp) rfl) rfl)) (exec_ne25s rfl (eval_tmp (hgot 3 _ 94 rfl (hdep ⟨3, .data⟩ (by simp) rfl) rfl)) (eval_tmp (hgot 10 _ 101 rfl (hdep ⟨10, .data⟩ (by simp) rfl) rfl))) (hK _ _ (fun s hs => by cases hs; rfl) hst)
                  · exact wp_ran rfl (exec_pick rfl (eval_tmp (hgot 2 _ 93 rfl (hdep ⟨2, .data⟩ (by simp) rfl) rfl)) rfl (eval_tmp (hgot 11 _ 102 rfl (hdep ⟨11, .data⟩ (by simp) rfl) rfl)) rfl) (hK _ _ (fun s hs => by cases hs; rfl) hst)
                case fin =>
                intro lz vs hlz hst
                replace hst : Mod [] vr vs := (Mod.drew [] vr).then hst
                replace hb4 := hb4.keep hst (by simp)
                replace mm := mm.then hst
                replace hu1 := hu1.keep hst (by simp)
                replace hu2 := hu2.keep hst (by simp)
                replace hu3 := hu3.keep hst (by simp)
                clear hst hlz c32 c33 c34
                have c32 := wk_c4 hb4
                have c33 := wk_f4 hb4
                have c34 := wk_t4 hb4
                simp only [setAll, List.foldl_cons, List.foldl_nil, List.toList_toArray, List.set_cons_succ, List.set_cons_zero]
                clear L2
                go_wp2_with (first
                  | (with_reducible refine wpList_loadsW (o := ⟨some 147, .load 25 (.tmp 9), _, _, _, _⟩) (by with_unfolding_all rfl) 25 (.tmp 9) rfl d3 0 _ rfl (Cells.of_holds hu3) _ Tryd.underlying25 rfl (size25i zeroI) (iv zeroI) rfl ?_)
                  | (with_reducible refine wpList_ranW (o := ⟨some 148, .build 25 _, _, _, _, _⟩) (by with_unfolding_all rfl) (iv zeroI) vs (exec_zero25 rfl) ?_)
                  | (with_reducible refine wpList_ranW (o := ⟨some 149, .binOp .neq _ _ _ _, _, _, _, _⟩) (by with_unfolding_all rfl) (.bool false) vs (exec_ne25s rfl rfl rfl) ?_))
                refine ⟨⟨k + 1, by omega, by omega, by go_num, mm⟩, by simp [intOf]; omega⟩
            · have f15Z : ¬ (f : Int) < 15 := by omega
              by_cases ft : (f : Int) ≤ tI
              · by_cases t15 : tI ≤ 15
                · obtain ⟨t, rfl⟩ : ∃ n : Nat, tI = (n : Int) := ⟨tI.toNat, by omega⟩
                  have hft : f ≤ t := by omega
                  have ht15 : t ≤ 15 := by omega
                  have hso : ¬ (0 ≤ (f : Int) ∧ (f : Int) < 15) := fun h => by omega
                  obtain ⟨a, ha⟩ : ∃ a, a = startI i x := ⟨_, rfl⟩
                  have X1 := fun v (mv : Mod [] w v) => start_yes x i hi v (Gl.then mv)
                  have L1 := fun v (mv : Mod [] w v) => lstart_c x i (by omega) v (Gl.then mv)
                  rw [← ha] at X1 L1
                  have X2 := fun v (_ : Mod [] w v) => step_no x (i : Int) (f : Int) (fun h => hso h.2) v
                  obtain ⟨q, hq⟩ : ∃ s, s = walkI i f (t - f) x := ⟨_, rfl⟩
                  have X3 := fun v (mv : Mod [] w v) => chain_yes x i f t hi hft ht15 v (Gl.then mv)
                  have L3 := fun v (mv : Mod [] w v) => lwalk_c x i f t (t - f) (by omega) (by omega) ht15 v (Gl.then mv)
                  rw [← hq] at X3 L3
                  clear ha hso hq 
                  go_wp2_with (first
                    | (with_reducible refine wpList_loads (o := ⟨some 20, .load 31 (.tmp 19), _, _, _, _⟩) rfl 31 (.tmp 19) rfl ga (oa + k * 35) _ rfl hci _ Tryd.underlying31 rfl (size31 ⟨x, (i : Int), (f : Int), (t : Int)⟩) (.agg (wkc ⟨x, (i : Int), (f : Int), (t : Int)⟩).toArray) rfl ?_)
                    | (with_reducible refine wpList_allocs (o := ⟨some 4, .alloc 31, _, _, _, _⟩) rfl 31 rfl _ zero31 ?_; intro w1 hb1 m1 z1; replace z1 := Lib.hid z1)
                    | (with_reducible refine wpList_storesAll (o := ⟨none, .store 31 (.tmp 4) (.tmp 20), _, _, _, _⟩) rfl 31 (.tmp 4) (.tmp 20) rfl rfl wr.heap.size (wkc ⟨x, (i : Int), (f : Int), (t : Int)⟩) rfl (.agg (wkc ⟨x, (i : Int), (f : Int), (t : Int)⟩).toArray) rfl rfl 31 _ hb1 (by rw [wkc_length, wkc_length]) (wkc_one ⟨x, (i : Int), (f : Int), (t : Int)⟩) (size31 ⟨x, (i : Int), (f : Int), (t : Int)⟩) ?_
                       intro w2 hb2 m2 z2
                       clear z2
                       have mx : Mod [] wr w2 := m1.trans m2 (by intro i hi h; simp at h; omega)
                       obtain ⟨b4, hb4e⟩ : ∃ q, q = wr.heap.size := ⟨_, rfl⟩
                       rw [← hb4e] at hb2 ⊢
                       have hb4 := hb2
                       replace mm := mm.then mx
                       have hb4 : Holds w2 b4 31 (wkc ⟨x, (i : Int), (f : Int), (t : Int)⟩) := hb4
                       have c32 := wk_c4 hb4
                       have c33 := wk_f4 hb4
                       have c34 := wk_t4 hb4
                       clear hb1 hb2 m1 z1 m2 mx hb4e hci)
                    | (with_reducible refine wpList_loads (o := ⟨some 25, .load 25 _, _, _, _, _⟩) rfl 25 _ rfl b4 0 _ rfl (wk_x4 hb4) _ Tryd.underlying25 rfl (size25i x) (iv x) rfl ?_)
                    | (go_at_call 13; refine (X1 _ mm).mono ?_
                       rintro e v1 ⟨rfl, m1⟩
                       replace hb4 := hb4.keep m1 (by simp)
                       replace mm := mm.then m1
                       clear X1 m1 c32 c33 c34)
                    | (with_reducible refine wpList_allocs (o := ⟨some 5, .alloc 25, _, _, _, _⟩) rfl 25 rfl _ zeroI_25 ?_; intro y1 hy1 my1 zy1; replace zy1 := Lib.hid zy1)
                    | (with_reducible refine wpList_storesAll (o := ⟨none, .store 25 (.tmp 5) (.tmp 29), _, _, _, _⟩) rfl 25 (.tmp 5) (.tmp 29) rfl rfl v1.heap.size (ic a) rfl (iv a) rfl rfl 25 _ hy1 (by rw [ic_length, ic_length]) (ic_one _) (size25i _) ?_
                       intro u1 hu1 mu1 zu1
                       clear zu1
                       have q1 : Mod [] v1 u1 := my1.trans mu1 (by intro i hi h; simp at h; omega)
                       obtain ⟨d1, hd1⟩ : ∃ b, b = v1.heap.size := ⟨_, rfl⟩
                       rw [← hd1] at hu1 ⊢
                       replace hb4 := hb4.keep q1 (by simp)
                       replace mm := mm.then q1
                       have c32 := wk_c4 hb4
                       have c33 := wk_f4 hb4
                       have c34 := wk_t4 hb4
                       clear hy1 my1 zy1 mu1 q1 hd1)
                    | (with_reducible refine wpList_loads (o := ⟨some 33, .load 25 _, _, _, _, _⟩) rfl 25 _ rfl b4 0 _ rfl (wk_x4 hb4) _ Tryd.underlying25 rfl (size25i x) (iv x) rfl ?_)
                    | (go_at_call 14; refine (X2 _ mm).mono ?_
                       rintro e v2 ⟨rfl, m2⟩
                       replace hu1 := hu1.keep m2 (by simp)
                       replace hb4 := hb4.keep m2 (by simp)
                       replace mm := mm.then m2
                       clear X2 m2 c32 c33 c34)
                    | (with_reducible refine wpList_allocs (o := ⟨some 7, .alloc 25, _, _, _, _⟩) rfl 25 rfl _ zeroI_25 ?_; intro y2 hy2 my2 zy2; replace zy2 := Lib.hid zy2)
                    | (with_reducible refine wpList_storesAll (o := ⟨none, .store 25 (.tmp 7) (.tmp 39), _, _, _, _⟩) rfl 25 (.tmp 7) (.tmp 39) rfl rfl v2.heap.size (ic zeroI) rfl (iv zeroI) rfl rfl 25 _ hy2 (by rw [ic_length]) (ic_one _) (size25i _) ?_
                       intro u2 hu2 mu2 zu2
                       clear zu2
                       have q2 : Mod [] v2 u2 := my2.trans mu2 (by intro i hi h; simp at h; omega)
                       obtain ⟨d2, hd2⟩ : ∃ b, b = v2.heap.size := ⟨_, rfl⟩
                       rw [← hd2] at hu2 ⊢
                       replace hu1 := hu1.keep q2 (by simp)
                       replace hb4 := hb4.keep q2 (by simp)
                       replace mm := mm.then q2
                       have c32 := wk_c4 hb4
                       have c33 := wk_f4 hb4
                       have c34 := wk_t4 hb4
                       clear hy2 my2 zy2 mu2 q2 hd2)
                    | (with_reducible refine wpList_loads (o := ⟨some 43, .load 25 _, _, _, _, _⟩) rfl 25 _ rfl b4 0 _ rfl (wk_x4 hb4) _ Tryd.underlying25 rfl (size25i x) (iv x) rfl ?_)
                    | (go_at_call 15; refine (X3 _ mm).mono ?_
                       rintro e v3 ⟨rfl, m3⟩
                       replace hu1 := hu1.keep m3 (by simp)
                       replace hu2 := hu2.keep m3 (by simp)
                       replace hb4 := hb4.keep m3 (by simp)
                       replace mm := mm.then m3
                       clear X3 m3 c32 c33 c34)
                    | (with_reducible refine wpList_allocs (o := ⟨some 9, .alloc 25, _, _, _, _⟩) rfl 25 rfl _ zeroI_25 ?_; intro y3 hy3 my3 zy3; replace zy3 := Lib.hid zy3)
                    | (with_reducible refine wpList_storesAll (o := ⟨none, .store 25 (.tmp 9) (.tmp 51), _, _, _, _⟩) rfl 25 (.tmp 9) (.tmp 51) rfl rfl v3.heap.size (ic q) rfl (iv q) rfl rfl 25 _ hy3 (by rw [ic_length, ic_length]) (ic_one _) (size25i _) ?_
                       intro u3 hu3 mu3 zu3
                       clear zu3
                       have q3 : Mod [] v3 u3 := my3.trans mu3 (by intro i hi h; simp at h; omega)
                       obtain ⟨d3, hd3⟩ : ∃ b, b = v3.heap.size := ⟨_, rfl⟩
                       rw [← hd3] at hu3 ⊢
                       replace hu1 := hu1.keep q3 (by simp)
                       replace hu2 := hu2.keep q3 (by simp)
                       replace hb4 := hb4.keep q3 (by simp)
                       replace mm := mm.then q3
                       have c32 := wk_c4 hb4
                       have c33 := wk_f4 hb4
                       have c34 := wk_t4 hb4
                       clear hy3 my3 zy3 mu3 q3 hd3))
                  refine wp_region_ups [(62, .int .i64 0), (63, .bool false), (64, .bool false), (65, iv a), (66, .pointer (some ⟨b4, 0, none⟩)), (67, iv x), (68, .pointer (some ⟨b4, 32, none⟩)), (69, .int .i64 (i : Int)), (70, iv a), (71, .bool false), (72, .bool false)] 152 [62, 63, 64, 65, 66, 67, 68, 69, 70, 71, 72] rfl rfl (by decide) (by kernel_rfl) (fun lz v => Mod [] u3.drew v) (by kernel_rfl) (Mod.refl _ _) (by kernel_rfl) (by kernel_rfl) ?step ?fin
                  case step =>
                    intro lz T v j o hj hlj hdep hst hpar hgot hcl Kq hK
                    have mv : ∀ v, Mod [] u3.drew v → Mod [] u3 v := fun v h => (Mod.drew [] u3).then h
                    have hjn : j < 11 := (Array.getElem?_eq_some_iff.1 hj).1
                    obtain rfl | rfl | rfl | rfl | rfl | rfl | rfl | rfl | rfl | rfl | rfl : j = 0 ∨ j = 1 ∨ j = 2 ∨ j = 3 ∨ j = 4 ∨ j = 5 ∨ j = 6 ∨ j = 7 ∨ j = 8 ∨ j = 9 ∨ j = 10 := by omega
                    all_goals (have hj' := Option.some.inj (hj : some _ = some o); subst hj'; clear hj)
                    · exact wp_ran rfl (exec_move rfl (eval_tmp ((hpar 6 rfl).trans rfl))) (hK _ _ (fun s hs => by cases hs; rfl) hst)
                    · exact wp_ran rfl (exec_nei32 rfl (eval_tmp (hgot 0 _ 62 rfl (hdep ⟨0, .data⟩ (by simp) rfl) rfl)) rfl) (hK _ _ (fun s hs => by cases hs; rfl) hst)
                    · exact wp_ran rfl (exec_move rfl (eval_tmp (hgot 1 _ 63 rfl (hdep ⟨1, .data⟩ (by simp) rfl) rfl))) (hK _ _ (fun s hs => by cases hs; rfl) hst)
                    · exact wp_ranW (wanted_yes rfl rfl rfl (hgot 2 _ 64 rfl (hdep ⟨2, .guard⟩ (by simp) rfl) rfl)) (exec_load rfl (eval_tmp ((hpar 5 rfl).trans rfl)) (run_loads (Cells.of_holds (hu1.keep (mv v hst) (by simp))) Tryd.underlying25 rfl (size25i a))) (hK _ _ (fun s hs => by cases hs; rfl) hst)
                    · exact wp_ranW (wanted_yes rfl rfl rfl (hgot 2 _ 64 rfl (hdep ⟨2, .guard⟩ (by simp) rfl) rfl)) (exec_fa0 rfl (eval_tmp ((hpar 4 rfl).trans rfl))) (hK _ _ (fun s hs => by cases hs; rfl) hst)
                    · exact wp_ranW (wanted_yes rfl rfl rfl (hgot 2 _ 64 rfl (hdep ⟨2, .guard⟩ (by simp) rfl) rfl)) (exec_load rfl (eval_tmp (hgot 4 _ 66 rfl (hdep ⟨4, .data⟩ (by simp) rfl) rfl)) (run_loads (wk_x4 (hb4.keep (mv v hst) (by simp))) Tryd.underlying25 rfl (size25i x))) (hK _ _ (fun s hs => by cases hs; rfl) hst)
                    · exact wp_ranW (wanted_yes rfl rfl rfl (hgot 2 _ 64 rfl (hdep ⟨2, .guard⟩ (by simp) rfl) rfl)) (exec_fa1 rfl (eval_tmp ((hpar 4 rfl).trans rfl))) (hK _ _ (fun s hs => by cases hs; rfl) hst)
                    · exact wp_ranW (wanted_yes rfl rfl rfl (hgot 2 _ 64 rfl (hdep ⟨2, .guard⟩ (by simp) rfl) rfl)) (exec_load rfl (eval_tmp (hgot 6 _ 68 rfl (hdep ⟨6, .data⟩ (by simp) rfl) rfl)) (run_load1 Tryd.underlying3 rfl (wk_c4 (hb4.keep (mv v hst) (by simp))))) (hK _ _ (fun s hs => by cases hs; rfl) hst)
                    · exact wp_calledW (wanted_yes rfl rfl rfl (hgot 2 _ 64 rfl (hdep ⟨2, .guard⟩ (by simp) rfl) rfl)) (exec_call2 rfl rfl (eval_tmp (hgot 5 _ 67 rfl (hdep ⟨5, .data⟩ (by simp) rfl) rfl)) (eval_tmp (hgot 7 _ 69 rfl (hdep ⟨7, .data⟩ (by simp) rfl) rfl)) (enters_of Tryd.func16 (by kernel_rfl) rfl)) ((L1 v (mm.then (mv v hst))).mono (fun e v' hh => ⟨_, hh.1, hK _ _ (fun s hs => by cases hs; rfl) (hst.then hh.2)⟩))
                    · exact wp_ranW (wanted_yes rfl rfl rfl (hgot 2 _ 64 rfl (hdep ⟨2, .guard⟩ (by simp) rfl) rfl)) (exec_ne25s rfl (eval_tmp (hgot 3 _ 65 rfl (hdep ⟨3, .data⟩ (by simp) rfl) rfl)) (eval_tmp (hgot 8 _ 70 rfl (hdep ⟨8, .data⟩ (by simp) rfl) rfl))) (hK _ _ (fun s hs => by cases hs; rfl) hst)
                    · exact wp_ran rfl (exec_pick rfl (eval_tmp (hgot 2 _ 64 rfl (hdep ⟨2, .data⟩ (by simp) rfl) rfl)) rfl (eval_tmp (hgot 9 _ 71 rfl (hdep ⟨9, .data⟩ (by simp) rfl) rfl)) rfl) (hK _ _ (fun s hs => by cases hs; rfl) hst)
                  case fin =>
                  intro lz vr hlz hst
                  replace hst : Mod [] u3 vr := (Mod.drew [] u3).then hst
                  replace hb4 := hb4.keep hst (by simp)
                  replace mm := mm.then hst
                  replace hu1 := hu1.keep hst (by simp)
                  replace hu2 := hu2.keep hst (by simp)
                  replace hu3 := hu3.keep hst (by simp)
                  clear hst hlz c32 c33 c34
                  have c32 := wk_c4 hb4
                  have c33 := wk_f4 hb4
                  have c34 := wk_t4 hb4
                  simp only [setAll, List.foldl_cons, List.foldl_nil, List.toList_toArray, List.set_cons_succ, List.set_cons_zero]
                  clear L1
                  go_wp2_with (first
                    | (with_reducible refine wpList_loadsW (o := ⟨some 107, .load 25 (.tmp 7), _, _, _, _⟩) (by with_unfolding_all rfl) 25 (.tmp 7) rfl d2 0 _ rfl (Cells.of_holds hu2) _ Tryd.underlying25 rfl (size25i zeroI) (iv zeroI) rfl ?_)
                    | (with_reducible refine wpList_ranW (o := ⟨some 108, .build 25 _, _, _, _, _⟩) (by with_unfolding_all rfl) (iv zeroI) vr (exec_zero25 rfl) ?_)
                    | (with_reducible refine wpList_ranW (o := ⟨some 109, .binOp .neq _ _ _ _, _, _, _, _⟩) (by with_unfolding_all rfl) (.bool false) vr (exec_ne25s rfl rfl rfl) ?_))
                  refine wp_region_ups [(129, .int .i64 0), (130, .bool false), (131, .bool false), (132, iv q), (133, .pointer (some ⟨b4, 0, none⟩)), (134, iv x), (135, .pointer (some ⟨b4, 32, none⟩)), (136, .int .i64 (i : Int)), (137, .pointer (some ⟨b4, 33, none⟩)), (138, .int .i64 (f : Int)), (139, .pointer (some ⟨b4, 34, none⟩)), (140, .int .i64 (t : Int)), (141, iv q), (142, .bool false), (143, .bool false)] 152 [129, 130, 131, 132, 133, 134, 135, 136, 137, 138, 139, 140, 141, 142, 143] rfl rfl (by decide) (by kernel_rfl) (fun lz v => Mod [] vr.drew v) (by kernel_rfl) (Mod.refl _ _) (by kernel_rfl) (by kernel_rfl) ?step ?fin
                  case step =>
                    intro lz T v j o hj hlj hdep hst hpar hgot hcl Kq hK
                    have mv : ∀ v, Mod [] vr.drew v → Mod [] vr v := fun v h => (Mod.drew [] vr).then h
                    have hjn : j < 15 := (Array.getElem?_eq_some_iff.1 hj).1
                    obtain rfl | rfl | rfl | rfl | rfl | rfl | rfl | rfl | rfl | rfl | rfl | rfl | rfl | rfl | rfl : j = 0 ∨ j = 1 ∨ j = 2 ∨ j = 3 ∨ j = 4 ∨ j = 5 ∨ j = 6 ∨ j = 7 ∨ j = 8 ∨ j = 9 ∨ j = 10 ∨ j = 11 ∨ j = 12 ∨ j = 13 ∨ j = 14 := by omega
                    all_goals (have hj' := Option.some.inj (hj : some _ = some o); subst hj'; clear hj)
                    · exact wp_ran rfl (exec_move rfl (eval_tmp ((hpar 10 rfl).trans rfl))) (hK _ _ (fun s hs => by cases hs; rfl) hst)
                    · exact wp_ran rfl (exec_nei32 rfl (eval_tmp (hgot 0 _ 129 rfl (hdep ⟨0, .data⟩ (by simp) rfl) rfl)) rfl) (hK _ _ (fun s hs => by cases hs; rfl) hst)
                    · exact wp_ran rfl (exec_move rfl (eval_tmp (hgot 1 _ 130 rfl (hdep ⟨1, .data⟩ (by simp) rfl) rfl))) (hK _ _ (fun s hs => by cases hs; rfl) hst)
                    · exact wp_ranW (wanted_yes rfl rfl rfl (hgot 2 _ 131 rfl (hdep ⟨2, .guard⟩ (by simp) rfl) rfl)) (exec_load rfl (eval_tmp ((hpar 9 rfl).trans rfl)) (run_loads (Cells.of_holds (hu3.keep (mv v hst) (by simp))) Tryd.underlying25 rfl (size25i q))) (hK _ _ (fun s hs => by cases hs; rfl) hst)
                    · exact wp_ranW (wanted_yes rfl rfl rfl (hgot 2 _ 131 rfl (hdep ⟨2, .guard⟩ (by simp) rfl) rfl)) (exec_fa0 rfl (eval_tmp ((hpar 4 rfl).trans rfl))) (hK _ _ (fun s hs => by cases hs; rfl) hst)
                    · exact wp_ranW (wanted_yes rfl rfl rfl (hgot 2 _ 131 rfl (hdep ⟨2, .guard⟩ (by simp) rfl) rfl)) (exec_load rfl (eval_tmp (hgot 4 _ 133 rfl (hdep ⟨4, .data⟩ (by simp) rfl) rfl)) (run_loads (wk_x4 (hb4.keep (mv v hst) (by simp))) Tryd.underlying25 rfl (size25i x))) (hK _ _ (fun s hs => by cases hs; rfl) hst)
                    · exact wp_ranW (wanted_yes rfl rfl rfl (hgot 2 _ 131 rfl (hdep ⟨2, .guard⟩ (by simp) rfl) rfl)) (exec_fa1 rfl (eval_tmp ((hpar 4 rfl).trans rfl))) (hK _ _ (fun s hs => by cases hs; rfl) hst)
                    · exact wp_ranW (wanted_yes rfl rfl rfl (hgot 2 _ 131 rfl (hdep ⟨2, .guard⟩ (by simp) rfl) rfl)) (exec_load rfl (eval_tmp (hgot 6 _ 135 rfl (hdep ⟨6, .data⟩ (by simp) rfl) rfl)) (run_load1 Tryd.underlying3 rfl (wk_c4 (hb4.keep (mv v hst) (by simp))))) (hK _ _ (fun s hs => by cases hs; rfl) hst)
                    · exact wp_ranW (wanted_yes rfl rfl rfl (hgot 2 _ 131 rfl (hdep ⟨2, .guard⟩ (by simp) rfl) rfl)) (exec_fa2 rfl (eval_tmp ((hpar 4 rfl).trans rfl))) (hK _ _ (fun s hs => by cases hs; rfl) hst)
                    · exact wp_ranW (wanted_yes rfl rfl rfl (hgot 2 _ 131 rfl (hdep ⟨2, .guard⟩ (by simp) rfl) rfl)) (exec_load rfl (eval_tmp (hgot 8 _ 137 rfl (hdep ⟨8, .data⟩ (by simp) rfl) rfl)) (run_load1 Tryd.underlying3 rfl (wk_f4 (hb4.keep (mv v hst) (by simp))))) (hK _ _ (fun s hs => by cases hs; rfl) hst)
                    · exact wp_ranW (wanted_yes rfl rfl rfl (hgot 2 _ 131 rfl (hdep ⟨2, .guard⟩ (by simp) rfl) rfl)) (exec_fa3 rfl (eval_tmp ((hpar 4 rfl).trans rfl))) (hK _ _ (fun s hs => by cases hs; rfl) hst)
                    · exact wp_ranW (wanted_yes rfl rfl rfl (hgot 2 _ 131 rfl (hdep ⟨2, .guard⟩ (by simp) rfl) rfl)) (exec_load rfl (eval_tmp (hgot 10 _ 139 rfl (hdep ⟨10, .data⟩ (by simp) rfl) rfl)) (run_load1 Tryd.underlying3 rfl (wk_t4 (hb4.keep (mv v hst) (by simp))))) (hK _ _ (fun s hs => by cases hs; rfl) hst)
                    · exact wp_calledW (wanted_yes rfl rfl rfl (hgot 2 _ 131 rfl (hdep ⟨2, .guard⟩ (by simp) rfl) rfl)) (exec_call4 rfl rfl (eval_tmp (hgot 5 _ 134 rfl (hdep ⟨5, .data⟩ (by simp) rfl) rfl)) (eval_tmp (hgot 7 _ 136 rfl (hdep ⟨7, .data⟩ (by simp) rfl) rfl)) (eval_tmp (hgot 9 _ 138 rfl (hdep ⟨9, .data⟩ (by simp) rfl) rfl)) (eval_tmp (hgot 11 _ 140 rfl (hdep ⟨11, .data⟩ (by simp) rfl) rfl)) (enters_of Tryd.func18 (by kernel_rfl) rfl)) ((L3 v (mm.then (mv v hst))).mono (fun e v' hh => ⟨_, hh.1, hK _ _ (fun s hs => by cases hs; rfl) (hst.then hh.2)⟩))
                    · exact wp_ranW (wanted_yes rfl rfl rfl (hgot 2 _ 131 rfl (hdep ⟨2, .guard⟩ (by simp) rfl) rfl)) (exec_ne25s rfl (eval_tmp (hgot 3 _ 132 rfl (hdep ⟨3, .data⟩ (by simp) rfl) rfl)) (eval_tmp (hgot 12 _ 141 rfl (hdep ⟨12, .data⟩ (by simp) rfl) rfl))) (hK _ _ (fun s hs => by cases hs; rfl) hst)
                    · exact wp_ran rfl (exec_pick rfl (eval_tmp (hgot 2 _ 131 rfl (hdep ⟨2, .data⟩ (by simp) rfl) rfl)) rfl (eval_tmp (hgot 13 _ 142 rfl (hdep ⟨13, .data⟩ (by simp) rfl) rfl)) rfl) (hK _ _ (fun s hs => by cases hs; rfl) hst)
                  case fin =>
                  intro lz vt hlz hst
                  replace hst : Mod [] vr vt := (Mod.drew [] vr).then hst
                  replace hb4 := hb4.keep hst (by simp)
                  replace mm := mm.then hst
                  replace hu1 := hu1.keep hst (by simp)
                  replace hu2 := hu2.keep hst (by simp)
                  replace hu3 := hu3.keep hst (by simp)
                  clear hst hlz c32 c33 c34
                  have c32 := wk_c4 hb4
                  have c33 := wk_f4 hb4
                  have c34 := wk_t4 hb4
                  simp only [setAll, List.foldl_cons, List.foldl_nil, List.toList_toArray, List.set_cons_succ, List.set_cons_zero]
                  clear L3
                  go_wp2_with fail
                  refine ⟨⟨k + 1, by omega, by omega, by go_num, mm⟩, by simp [intOf]; omega⟩
                · skip
                  have hso : ¬ (0 ≤ (f : Int) ∧ (f : Int) < 15) := fun h => by omega
                  have hwo : ¬ (0 ≤ (f : Int) ∧ (f : Int) ≤ tI ∧ tI ≤ 15) := fun h => by omega
                  obtain ⟨a, ha⟩ : ∃ a, a = startI i x := ⟨_, rfl⟩
                  have X1 := fun v (mv : Mod [] w v) => start_yes x i hi v (Gl.then mv)
                  have L1 := fun v (mv : Mod [] w v) => lstart_c x i (by omega) v (Gl.then mv)
                  rw [← ha] at X1 L1
                  have X2 := fun v (_ : Mod [] w v) => step_no x (i : Int) (f : Int) (fun h => hso h.2) v
                  have X3 := fun v (_ : Mod [] w v) => chain_no x (i : Int) (f : Int) tI (fun h => hwo h.2) v
                  clear ha hso hwo 
                  go_wp2_with (first
                    | (with_reducible refine wpList_loads (o := ⟨some 20, .load 31 (.tmp 19), _, _, _, _⟩) rfl 31 (.tmp 19) rfl ga (oa + k * 35) _ rfl hci _ Tryd.underlying31 rfl (size31 ⟨x, (i : Int), (f : Int), tI⟩) (.agg (wkc ⟨x, (i : Int), (f : Int), tI⟩).toArray) rfl ?_)
                    | (with_reducible refine wpList_allocs (o := ⟨some 4, .alloc 31, _, _, _, _⟩) rfl 31 rfl _ zero31 ?_; intro w1 hb1 m1 z1; replace z1 := Lib.hid z1)
                    | (with_reducible refine wpList_storesAll (o := ⟨none, .store 31 (.tmp 4) (.tmp 20), _, _, _, _⟩) rfl 31 (.tmp 4) (.tmp 20) rfl rfl wr.heap.size (wkc ⟨x, (i : Int), (f : Int), tI⟩) rfl (.agg (wkc ⟨x, (i : Int), (f : Int), tI⟩).toArray) rfl rfl 31 _ hb1 (by rw [wkc_length, wkc_length]) (wkc_one ⟨x, (i : Int), (f : Int), tI⟩) (size31 ⟨x, (i : Int), (f : Int), tI⟩) ?_
                       intro w2 hb2 m2 z2
                       clear z2
                       have mx : Mod [] wr w2 := m1.trans m2 (by intro i hi h; simp at h; omega)
                       obtain ⟨b4, hb4e⟩ : ∃ q, q = wr.heap.size := ⟨_, rfl⟩
                       rw [← hb4e] at hb2 ⊢
                       have hb4 := hb2
                       replace mm := mm.then mx
                       have hb4 : Holds w2 b4 31 (wkc ⟨x, (i : Int), (f : Int), tI⟩) := hb4
                       have c32 := wk_c4 hb4
                       have c33 := wk_f4 hb4
                       have c34 := wk_t4 hb4
                       clear hb1 hb2 m1 z1 m2 mx hb4e hci)
                    | (with_reducible refine wpList_loads (o := ⟨some 25, .load 25 _, _, _, _, _⟩) rfl 25 _ rfl b4 0 _ rfl (wk_x4 hb4) _ Tryd.underlying25 rfl (size25i x) (iv x) rfl ?_)
                    | (go_at_call 13; refine (X1 _ mm).mono ?_
                       rintro e v1 ⟨rfl, m1⟩
                       replace hb4 := hb4.keep m1 (by simp)
                       replace mm := mm.then m1
                       clear X1 m1 c32 c33 c34)
                    | (with_reducible refine wpList_allocs (o := ⟨some 5, .alloc 25, _, _, _, _⟩) rfl 25 rfl _ zeroI_25 ?_; intro y1 hy1 my1 zy1; replace zy1 := Lib.hid zy1)
                    | (with_reducible refine wpList_storesAll (o := ⟨none, .store 25 (.tmp 5) (.tmp 29), _, _, _, _⟩) rfl 25 (.tmp 5) (.tmp 29) rfl rfl v1.heap.size (ic a) rfl (iv a) rfl rfl 25 _ hy1 (by rw [ic_length, ic_length]) (ic_one _) (size25i _) ?_
                       intro u1 hu1 mu1 zu1
                       clear zu1
                       have q1 : Mod [] v1 u1 := my1.trans mu1 (by intro i hi h; simp at h; omega)
                       obtain ⟨d1, hd1⟩ : ∃ b, b = v1.heap.size := ⟨_, rfl⟩
                       rw [← hd1] at hu1 ⊢
                       replace hb4 := hb4.keep q1 (by simp)
                       replace mm := mm.then q1
                       have c32 := wk_c4 hb4
                       have c33 := wk_f4 hb4
                       have c34 := wk_t4 hb4
                       clear hy1 my1 zy1 mu1 q1 hd1)
                    | (with_reducible refine wpList_loads (o := ⟨some 33, .load 25 _, _, _, _, _⟩) rfl 25 _ rfl b4 0 _ rfl (wk_x4 hb4) _ Tryd.underlying25 rfl (size25i x) (iv x) rfl ?_)
                    | (go_at_call 14; refine (X2 _ mm).mono ?_
                       rintro e v2 ⟨rfl, m2⟩
                       replace hu1 := hu1.keep m2 (by simp)
                       replace hb4 := hb4.keep m2 (by simp)
                       replace mm := mm.then m2
                       clear X2 m2 c32 c33 c34)
                    | (with_reducible refine wpList_allocs (o := ⟨some 7, .alloc 25, _, _, _, _⟩) rfl 25 rfl _ zeroI_25 ?_; intro y2 hy2 my2 zy2; replace zy2 := Lib.hid zy2)
                    | (with_reducible refine wpList_storesAll (o := ⟨none, .store 25 (.tmp 7) (.tmp 39), _, _, _, _⟩) rfl 25 (.tmp 7) (.tmp 39) rfl rfl v2.heap.size (ic zeroI) rfl (iv zeroI) rfl rfl 25 _ hy2 (by rw [ic_length]) (ic_one _) (size25i _) ?_
                       intro u2 hu2 mu2 zu2
                       clear zu2
                       have q2 : Mod [] v2 u2 := my2.trans mu2 (by intro i hi h; simp at h; omega)
                       obtain ⟨d2, hd2⟩ : ∃ b, b = v2.heap.size := ⟨_, rfl⟩
                       rw [← hd2] at hu2 ⊢
                       replace hu1 := hu1.keep q2 (by simp)
                       replace hb4 := hb4.keep q2 (by simp)
                       replace mm := mm.then q2
                       have c32 := wk_c4 hb4
                       have c33 := wk_f4 hb4
                       have c34 := wk_t4 hb4
                       clear hy2 my2 zy2 mu2 q2 hd2)
                    | (with_reducible refine wpList_loads (o := ⟨some 43, .load 25 _, _, _, _, _⟩) rfl 25 _ rfl b4 0 _ rfl (wk_x4 hb4) _ Tryd.underlying25 rfl (size25i x) (iv x) rfl ?_)
                    | (go_at_call 15; refine (X3 _ mm).mono ?_
                       rintro e v3 ⟨rfl, m3⟩
                       replace hu1 := hu1.keep m3 (by simp)
                       replace hu2 := hu2.keep m3 (by simp)
                       replace hb4 := hb4.keep m3 (by simp)
                       replace mm := mm.then m3
                       clear X3 m3 c32 c33 c34)
                    | (with_reducible refine wpList_allocs (o := ⟨some 9, .alloc 25, _, _, _, _⟩) rfl 25 rfl _ zeroI_25 ?_; intro y3 hy3 my3 zy3; replace zy3 := Lib.hid zy3)
                    | (with_reducible refine wpList_storesAll (o := ⟨none, .store 25 (.tmp 9) (.tmp 51), _, _, _, _⟩) rfl 25 (.tmp 9) (.tmp 51) rfl rfl v3.heap.size (ic zeroI) rfl (iv zeroI) rfl rfl 25 _ hy3 (by rw [ic_length]) (ic_one _) (size25i _) ?_
                       intro u3 hu3 mu3 zu3
                       clear zu3
                       have q3 : Mod [] v3 u3 := my3.trans mu3 (by intro i hi h; simp at h; omega)
                       obtain ⟨d3, hd3⟩ : ∃ b, b = v3.heap.size := ⟨_, rfl⟩
                       rw [← hd3] at hu3 ⊢
                       replace hu1 := hu1.keep q3 (by simp)
                       replace hu2 := hu2.keep q3 (by simp)
                       replace hb4 := hb4.keep q3 (by simp)
                       replace mm := mm.then q3
                       have c32 := wk_c4 hb4
                       have c33 := wk_f4 hb4
                       have c34 := wk_t4 hb4
                       clear hy3 my3 zy3 mu3 q3 hd3))
                  refine wp_region_ups [(62, .int .i64 0), (63, .bool false), (64, .bool false), (65, iv a), (66, .pointer (some ⟨b4, 0, none⟩)), (67, iv x), (68, .pointer (some ⟨b4, 32, none⟩)), (69, .int .i64 (i : Int)), (70, iv a), (71, .bool false), (72, .bool false)] 152 [62, 63, 64, 65, 66, 67, 68, 69, 70, 71, 72] rfl rfl (by decide) (by kernel_rfl) (fun lz v => Mod [] u3.drew v) (by kernel_rfl) (Mod.refl _ _) (by kernel_rfl) (by kernel_rfl) ?step ?fin
                  case step =>
                    intro lz T v j o hj hlj hdep hst hpar hgot hcl Kq hK
                    have mv : ∀ v, Mod [] u3.drew v → Mod [] u3 v := fun v h => (Mod.drew [] u3).then h
                    have hjn : j < 11 := (Array.getElem?_eq_some_iff.1 hj).1
                    obtain rfl | rfl | rfl | rfl | rfl | rfl | rfl | rfl | rfl | rfl | rfl : j = 0 ∨ j = 1 ∨ j = 2 ∨ j = 3 ∨ j = 4 ∨ j = 5 ∨ j = 6 ∨ j = 7 ∨ j = 8 ∨ j = 9 ∨ j = 10 := by omega
                    all_goals (have hj' := Option.some.inj (hj : some _ = some o); subst hj'; clear hj)
                    · exact wp_ran rfl (exec_move rfl (eval_tmp ((hpar 6 rfl).trans rfl))) (hK _ _ (fun s hs => by cases hs; rfl) hst)
                    · exact wp_ran rfl (exec_nei32 rfl (eval_tmp (hgot 0 _ 62 rfl (hdep ⟨0, .data⟩ (by simp) rfl) rfl)) rfl) (hK _ _ (fun s hs => by cases hs; rfl) hst)
                    · exact wp_ran rfl (exec_move rfl (eval_tmp (hgot 1 _ 63 rfl (hdep ⟨1, .data⟩ (by simp) rfl) rfl))) (hK _ _ (fun s hs => by cases hs; rfl) hst)
                    · exact wp_ranW (wanted_yes rfl rfl rfl (hgot 2 _ 64 rfl (hdep ⟨2, .guard⟩ (by simp) rfl) rfl)) (exec_load rfl (eval_tmp ((hpar 5 rfl).trans rfl)) (run_loads (Cells.of_holds (hu1.keep (mv v hst) (by simp))) Tryd.underlying25 rfl (size25i a))) (hK _ _ (fun s hs => by cases hs; rfl) hst)
                    · exact wp_ranW (wanted_yes rfl rfl rfl (hgot 2 _ 64 rfl (hdep ⟨2, .guard⟩ (by simp) rfl) rfl)) (exec_fa0 rfl (eval_tmp ((hpar 4 rfl).trans rfl))) (hK _ _ (fun s hs => by cases hs; rfl) hst)
                    · exact wp_ranW (wanted_yes rfl rfl rfl (hgot 2 _ 64 rfl (hdep ⟨2, .guard⟩ (by simp) rfl) rfl)) (exec_load rfl (eval_tmp (hgot 4 _ 66 rfl (hdep ⟨4, .data⟩ (by simp) rfl) rfl)) (run_loads (wk_x4 (hb4.keep (mv v hst) (by simp))) Tryd.underlying25 rfl (size25i x))) (hK _ _ (fun s hs => by cases hs; rfl) hst)
                    · exact wp_ranW (wanted_yes rfl rfl rfl (hgot 2 _ 64 rfl (hdep ⟨2, .guard⟩ (by simp) rfl) rfl)) (exec_fa1 rfl (eval_tmp ((hpar 4 rfl).trans rfl))) (hK _ _ (fun s hs => by cases hs; rfl) hst)
                    · exact wp_ranW (wanted_yes rfl rfl rfl (hgot 2 _ 64 rfl (hdep ⟨2, .guard⟩ (by simp) rfl) rfl)) (exec_load rfl (eval_tmp (hgot 6 _ 68 rfl (hdep ⟨6, .data⟩ (by simp) rfl) rfl)) (run_load1 Tryd.underlying3 rfl (wk_c4 (hb4.keep (mv v hst) (by simp))))) (hK _ _ (fun s hs => by cases hs; rfl) hst)
                    · exact wp_calledW (wanted_yes rfl rfl rfl (hgot 2 _ 64 rfl (hdep ⟨2, .guard⟩ (by simp) rfl) rfl)) (exec_call2 rfl rfl (eval_tmp (hgot 5 _ 67 rfl (hdep ⟨5, .data⟩ (by simp) rfl) rfl)) (eval_tmp (hgot 7 _ 69 rfl (hdep ⟨7, .data⟩ (by simp) rfl) rfl)) (enters_of Tryd.func16 (by kernel_rfl) rfl)) ((L1 v (mm.then (mv v hst))).mono (fun e v' hh => ⟨_, hh.1, hK _ _ (fun s hs => by cases hs; rfl) (hst.then hh.2)⟩))
                    · exact wp_ranW (wanted_yes rfl rfl rfl (hgot 2 _ 64 rfl (hdep ⟨2, .guard⟩ (by simp) rfl) rfl)) (exec_ne25s rfl (eval_tmp (hgot 3 _ 65 rfl (hdep ⟨3, .data⟩ (by simp) rfl) rfl)) (eval_tmp (hgot 8 _ 70 rfl (hdep ⟨8, .data⟩ (by simp) rfl) rfl))) (hK _ _ (fun s hs => by cases hs; rfl) hst)
                    · exact wp_ran rfl (exec_pick rfl (eval_tmp (hgot 2 _ 64 rfl (hdep ⟨2, .data⟩ (by simp) rfl) rfl)) rfl (eval_tmp (hgot 9 _ 71 rfl (hdep ⟨9, .data⟩ (by simp) rfl) rfl)) rfl) (hK _ _ (fun s hs => by cases hs; rfl) hst)
                  case fin =>
                  intro lz vr hlz hst
                  replace hst : Mod [] u3 vr := (Mod.drew [] u3).then hst
                  replace hb4 := hb4.keep hst (by simp)
                  replace mm := mm.then hst
                  replace hu1 := hu1.keep hst (by simp)
                  replace hu2 := hu2.keep hst (by simp)
                  replace hu3 := hu3.keep hst (by simp)
                  clear hst hlz c32 c33 c34
                  have c32 := wk_c4 hb4
                  have c33 := wk_f4 hb4
                  have c34 := wk_t4 hb4
                  simp only [setAll, List.foldl_cons, List.foldl_nil, List.toList_toArray, List.set_cons_succ, List.set_cons_zero]
                  clear L1
                  go_wp2_with (first
                    | (with_reducible refine wpList_loadsW (o := ⟨some 107, .load 25 (.tmp 7), _, _, _, _⟩) (by with_unfolding_all rfl) 25 (.tmp 7) rfl d2 0 _ rfl (Cells.of_holds hu2) _ Tryd.underlying25 rfl (size25i zeroI) (iv zeroI) rfl ?_)
                    | (with_reducible refine wpList_ranW (o := ⟨some 108, .build 25 _, _, _, _, _⟩) (by with_unfolding_all rfl) (iv zeroI) vr (exec_zero25 rfl) ?_)
                    | (with_reducible refine wpList_ranW (o := ⟨some 109, .binOp .neq _ _ _ _, _, _, _, _⟩) (by with_unfolding_all rfl) (.bool false) vr (exec_ne25s rfl rfl rfl) ?_)
                    | (with_reducible refine wpList_loadsW (o := ⟨some 147, .load 25 (.tmp 9), _, _, _, _⟩) (by with_unfolding_all rfl) 25 (.tmp 9) rfl d3 0 _ rfl (Cells.of_holds hu3) _ Tryd.underlying25 rfl (size25i zeroI) (iv zeroI) rfl ?_)
                    | (with_reducible refine wpList_ranW (o := ⟨some 148, .build 25 _, _, _, _, _⟩) (by with_unfolding_all rfl) (iv zeroI) vr (exec_zero25 rfl) ?_)
                    | (with_reducible refine wpList_ranW (o := ⟨some 149, .binOp .neq _ _ _ _, _, _, _, _⟩) (by with_unfolding_all rfl) (.bool false) vr (exec_ne25s rfl rfl rfl) ?_))
                  refine ⟨⟨k + 1, by omega, by omega, by go_num, mm⟩, by simp [intOf]; omega⟩
              · skip
                have hso : ¬ (0 ≤ (f : Int) ∧ (f : Int) < 15) := fun h => by omega
                have hwo : ¬ (0 ≤ (f : Int) ∧ (f : Int) ≤ tI ∧ tI ≤ 15) := fun h => by omega
                obtain ⟨a, ha⟩ : ∃ a, a = startI i x := ⟨_, rfl⟩
                have X1 := fun v (mv : Mod [] w v) => start_yes x i hi v (Gl.then mv)
                have L1 := fun v (mv : Mod [] w v) => lstart_c x i (by omega) v (Gl.then mv)
                rw [← ha] at X1 L1
                have X2 := fun v (_ : Mod [] w v) => step_no x (i : Int) (f : Int) (fun h => hso h.2) v
                have X3 := fun v (_ : Mod [] w v) => chain_no x (i : Int) (f : Int) tI (fun h => hwo h.2) v
                clear ha hso hwo 
                go_wp2_with (first
                  | (with_reducible refine wpList_loads (o := ⟨some 20, .load 31 (.tmp 19), _, _, _, _⟩) rfl 31 (.tmp 19) rfl ga (oa + k * 35) _ rfl hci _ Tryd.underlying31 rfl (size31 ⟨x, (i : Int), (f : Int), tI⟩) (.agg (wkc ⟨x, (i : Int), (f : Int), tI⟩).toArray) rfl ?_)
                  | (with_reducible refine wpList_allocs (o := ⟨some 4, .alloc 31, _, _, _, _⟩) rfl 31 rfl _ zero31 ?_; intro w1 hb1 m1 z1; replace z1 := Lib.hid z1)
                  | (with_reducible refine wpList_storesAll (o := ⟨none, .store 31 (.tmp 4) (.tmp 20), _, _, _, _⟩) rfl 31 (.tmp 4) (.tmp 20) rfl rfl wr.heap.size (wkc ⟨x, (i : Int), (f : Int), tI⟩) rfl (.agg (wkc ⟨x, (i : Int), (f : Int), tI⟩).toArray) rfl rfl 31 _ hb1 (by rw [wkc_length, wkc_length]) (wkc_one ⟨x, (i : Int), (f : Int), tI⟩) (size31 ⟨x, (i : Int), (f : Int), tI⟩) ?_
                     intro w2 hb2 m2 z2
                     clear z2
                     have mx : Mod [] wr w2 := m1.trans m2 (by intro i hi h; simp at h; omega)
                     obtain ⟨b4, hb4e⟩ : ∃ q, q = wr.heap.size := ⟨_, rfl⟩
                     rw [← hb4e] at hb2 ⊢
                     have hb4 := hb2
                     replace mm := mm.then mx
                     have hb4 : Holds w2 b4 31 (wkc ⟨x, (i : Int), (f : Int), tI⟩) := hb4
                     have c32 := wk_c4 hb4
                     have c33 := wk_f4 hb4
                     have c34 := wk_t4 hb4
                     clear hb1 hb2 m1 z1 m2 mx hb4e hci)
                  | (with_reducible refine wpList_loads (o := ⟨some 25, .load 25 _, _, _, _, _⟩) rfl 25 _ rfl b4 0 _ rfl (wk_x4 hb4) _ Tryd.underlying25 rfl (size25i x) (iv x) rfl ?_)
                  | (go_at_call 13; refine (X1 _ mm).mono ?_
                     rintro e v1 ⟨rfl, m1⟩
                     replace hb4 := hb4.keep m1 (by simp)
                     replace mm := mm.then m1
                     clear X1 m1 c32 c33 c34)
                  | (with_reducible refine wpList_allocs (o := ⟨some 5, .alloc 25, _, _, _, _⟩) rfl 25 rfl _ zeroI_25 ?_; intro y1 hy1 my1 zy1; replace zy1 := Lib.hid zy1)
                  | (with_reducible refine wpList_storesAll (o := ⟨none, .store 25 (.tmp 5) (.tmp 29), _, _, _, _⟩) rfl 25 (.tmp 5) (.tmp 29) rfl rfl v1.heap.size (ic a) rfl (iv a) rfl rfl 25 _ hy1 (by rw [ic_length, ic_length]) (ic_one _) (size25i _) ?_
                     intro u1 hu1 mu1 zu1
                     clear zu1
                     have q1 : Mod [] v1 u1 := my1.trans mu1 (by intro i hi h; simp at h; omega)
                     obtain ⟨d1, hd1⟩ : ∃ b, b = v1.heap.size := ⟨_, rfl⟩
                     rw [← hd1] at hu1 ⊢
                     replace hb4 := hb4.keep q1 (by simp)
                     replace mm := mm.then q1
                     have c32 := wk_c4 hb4
                     have c33 := wk_f4 hb4
                     have c34 := wk_t4 hb4
                     clear hy1 my1 zy1 mu1 q1 hd1)
                  | (with_reducible refine wpList_loads (o := ⟨some 33, .load 25 _, _, _, _, _⟩) rfl 25 _ rfl b4 0 _ rfl (wk_x4 hb4) _ Tryd.underlying25 rfl (size25i x) (iv x) rfl ?_)
                  | (go_at_call 14; refine (X2 _ mm).mono ?_
                     rintro e v2 ⟨rfl, m2⟩
                     replace hu1 := hu1.keep m2 (by simp)
                     replace hb4 := hb4.keep m2 (by simp)
                     replace mm := mm.then m2
                     clear X2 m2 c32 c33 c34)
                  | (with_reducible refine wpList_allocs (o := ⟨some 7, .alloc 25, _, _, _, _⟩) rfl 25 rfl _ zeroI_25 ?_; intro y2 hy2 my2 zy2; replace zy2 := Lib.hid zy2)
                  | (with_reducible refine wpList_storesAll (o := ⟨none, .store 25 (.tmp 7) (.tmp 39), _, _, _, _⟩) rfl 25 (.tmp 7) (.tmp 39) rfl rfl v2.heap.size (ic zeroI) rfl (iv zeroI) rfl rfl 25 _ hy2 (by rw [ic_length]) (ic_one _) (size25i _) ?_
                     intro u2 hu2 mu2 zu2
                     clear zu2
                     have q2 : Mod [] v2 u2 := my2.trans mu2 (by intro i hi h; simp at h; omega)
                     obtain ⟨d2, hd2⟩ : ∃ b, b = v2.heap.size := ⟨_, rfl⟩
                     rw [← hd2] at hu2 ⊢
                     replace hu1 := hu1.keep q2 (by simp)
                     replace hb4 := hb4.keep q2 (by simp)
                     replace mm := mm.then q2
                     have c32 := wk_c4 hb4
                     have c33 := wk_f4 hb4
                     have c34 := wk_t4 hb4
                     clear hy2 my2 zy2 mu2 q2 hd2)
                  | (with_reducible refine wpList_loads (o := ⟨some 43, .load 25 _, _, _, _, _⟩) rfl 25 _ rfl b4 0 _ rfl (wk_x4 hb4) _ Tryd.underlying25 rfl (size25i x) (iv x) rfl ?_)
                  | (go_at_call 15; refine (X3 _ mm).mono ?_
                     rintro e v3 ⟨rfl, m3⟩
                     replace hu1 := hu1.keep m3 (by simp)
                     replace hu2 := hu2.keep m3 (by simp)
                     replace hb4 := hb4.keep m3 (by simp)
                     replace mm := mm.then m3
                     clear X3 m3 c32 c33 c34)
                  | (with_reducible refine wpList_allocs (o := ⟨some 9, .alloc 25, _, _, _, _⟩) rfl 25 rfl _ zeroI_25 ?_; intro y3 hy3 my3 zy3; replace zy3 := Lib.hid zy3)
                  | (with_reducible refine wpList_storesAll (o := ⟨none, .store 25 (.tmp 9) (.tmp 51), _, _, _, _⟩) rfl 25 (.tmp 9) (.tmp 51) rfl rfl v3.heap.size (ic zeroI) rfl (iv zeroI) rfl rfl 25 _ hy3 (by rw [ic_length]) (ic_one _) (size25i _) ?_
                     intro u3 hu3 mu3 zu3
                     clear zu3
                     have q3 : Mod [] v3 u3 := my3.trans mu3 (by intro i hi h; simp at h; omega)
                     obtain ⟨d3, hd3⟩ : ∃ b, b = v3.heap.size := ⟨_, rfl⟩
                     rw [← hd3] at hu3 ⊢
                     replace hu1 := hu1.keep q3 (by simp)
                     replace hu2 := hu2.keep q3 (by simp)
                     replace hb4 := hb4.keep q3 (by simp)
                     replace mm := mm.then q3
                     have c32 := wk_c4 hb4
                     have c33 := wk_f4 hb4
                     have c34 := wk_t4 hb4
                     clear hy3 my3 zy3 mu3 q3 hd3))
                refine wp_region_ups [(62, .int .i64 0), (63, .bool false), (64, .bool false), (65, iv a), (66, .pointer (some ⟨b4, 0, none⟩)), (67, iv x), (68, .pointer (some ⟨b4, 32, none⟩)), (69, .int .i64 (i : Int)), (70, iv a), (71, .bool false), (72, .bool false)] 152 [62, 63, 64, 65, 66, 67, 68, 69, 70, 71, 72] rfl rfl (by decide) (by kernel_rfl) (fun lz v => Mod [] u3.drew v) (by kernel_rfl) (Mod.refl _ _) (by kernel_rfl) (by kernel_rfl) ?step ?fin
                case step =>
                  intro lz T v j o hj hlj hdep hst hpar hgot hcl Kq hK
                  have mv : ∀ v, Mod [] u3.drew v → Mod [] u3 v := fun v h => (Mod.drew [] u3).then h
                  have hjn : j < 11 := (Array.getElem?_eq_some_iff.1 hj).1
                  obtain rfl | rfl | rfl | rfl | rfl | rfl | rfl | rfl | rfl | rfl | rfl : j = 0 ∨ j = 1 ∨ j = 2 ∨ j = 3 ∨ j = 4 ∨ j = 5 ∨ j = 6 ∨ j = 7 ∨ j = 8 ∨ j = 9 ∨ j = 10 := by omega
                  all_goals (have hj' := Option.some.inj (hj : some _ = some o); subst hj'; clear hj)
                  · exact wp_ran rfl (exec_move rfl (eval_tmp ((hpar 6 rfl).trans rfl))) (hK _ _ (fun s hs => by cases hs; rfl) hst)
                  · exact wp_ran rfl (exec_nei32 rfl (eval_tmp (hgot 0 _ 62 rfl (hdep ⟨0, .data⟩ (by simp) rfl) rfl)) rfl) (hK _ _ (fun s hs => by cases hs; rfl) hst)
                  · exact wp_ran rfl (exec_move rfl (eval_tmp (hgot 1 _ 63 rfl (hdep ⟨1, .data⟩ (by simp) rfl) rfl))) (hK _ _ (fun s hs => by cases hs; rfl) hst)
                  · exact wp_ranW (wanted_yes rfl rfl rfl (hgot 2 _ 64 rfl (hdep ⟨2, .guard⟩ (by simp) rfl) rfl)) (exec_load rfl (eval_tmp ((hpar 5 rfl).trans rfl)) (run_loads (Cells.of_holds (hu1.keep (mv v hst) (by simp))) Tryd.underlying25 rfl (size25i a))) (hK _ _ (fun s hs => by cases hs; rfl) hst)
                  · exact wp_ranW (wanted_yes rfl rfl rfl (hgot 2 _ 64 rfl (hdep ⟨2, .guard⟩ (by simp) rfl) rfl)) (exec_fa0 rfl (eval_tmp ((hpar 4 rfl).trans rfl))) (hK _ _ (fun s hs => by cases hs; rfl) hst)
                  · exact wp_ranW (wanted_yes rfl rfl rfl (hgot 2 _ 64 rfl (hdep ⟨2, .guard⟩ (by simp) rfl) rfl)) (exec_load rfl (eval_tmp (hgot 4 _ 66 rfl (hdep ⟨4, .data⟩ (by simp) rfl) rfl)) (run_loads (wk_x4 (hb4.keep (mv v hst) (by simp))) Tryd.underlying25 rfl (size25i x))) (hK _ _ (fun s hs => by cases hs; rfl) hst)
                  · exact wp_ranW (wanted_yes rfl rfl rfl (hgot 2 _ 64 rfl (hdep ⟨2, .guard⟩ (by simp) rfl) rfl)) (exec_fa1 rfl (eval_tmp ((hpar 4 rfl).trans rfl))) (hK _ _ (fun s hs => by cases hs; rfl) hst)
                  · exact wp_ranW (wanted_yes rfl rfl rfl (hgot 2 _ 64 rfl (hdep ⟨2, .guard⟩ (by simp) rfl) rfl)) (exec_load rfl (eval_tmp (hgot 6 _ 68 rfl (hdep ⟨6, .data⟩ (by simp) rfl) rfl)) (run_load1 Tryd.underlying3 rfl (wk_c4 (hb4.keep (mv v hst) (by simp))))) (hK _ _ (fun s hs => by cases hs; rfl) hst)
                  · exact wp_calledW (wanted_yes rfl rfl rfl (hgot 2 _ 64 rfl (hdep ⟨2, .guard⟩ (by simp) rfl) rfl)) (exec_call2 rfl rfl (eval_tmp (hgot 5 _ 67 rfl (hdep ⟨5, .data⟩ (by simp) rfl) rfl)) (eval_tmp (hgot 7 _ 69 rfl (hdep ⟨7, .data⟩ (by simp) rfl) rfl)) (enters_of Tryd.func16 (by kernel_rfl) rfl)) ((L1 v (mm.then (mv v hst))).mono (fun e v' hh => ⟨_, hh.1, hK _ _ (fun s hs => by cases hs; rfl) (hst.then hh.2)⟩))
                  · exact wp_ranW (wanted_yes rfl rfl rfl (hgot 2 _ 64 rfl (hdep ⟨2, .guard⟩ (by simp) rfl) rfl)) (exec_ne25s rfl (eval_tmp (hgot 3 _ 65 rfl (hdep ⟨3, .data⟩ (by simp) rfl) rfl)) (eval_tmp (hgot 8 _ 70 rfl (hdep ⟨8, .data⟩ (by simp) rfl) rfl))) (hK _ _ (fun s hs => by cases hs; rfl) hst)
                  · exact wp_ran rfl (exec_pick rfl (eval_tmp (hgot 2 _ 64 rfl (hdep ⟨2, .data⟩ (by simp) rfl) rfl)) rfl (eval_tmp (hgot 9 _ 71 rfl (hdep ⟨9, .data⟩ (by simp) rfl) rfl)) rfl) (hK _ _ (fun s hs => by cases hs; rfl) hst)
                case fin =>
                intro lz vr hlz hst
                replace hst : Mod [] u3 vr := (Mod.drew [] u3).then hst
                replace hb4 := hb4.keep hst (by simp)
                replace mm := mm.then hst
                replace hu1 := hu1.keep hst (by simp)
                replace hu2 := hu2.keep hst (by simp)
                replace hu3 := hu3.keep hst (by simp)
                clear hst hlz c32 c33 c34
                have c32 := wk_c4 hb4
                have c33 := wk_f4 hb4
                have c34 := wk_t4 hb4
                simp only [setAll, List.foldl_cons, List.foldl_nil, List.toList_toArray, List.set_cons_succ, List.set_cons_zero]
                clear L1
                go_wp2_with (first
                  | (with_reducible refine wpList_loadsW (o := ⟨some 107, .load 25 (.tmp 7), _, _, _, _⟩) (by with_unfolding_all rfl) 25 (.tmp 7) rfl d2 0 _ rfl (Cells.of_holds hu2) _ Tryd.underlying25 rfl (size25i zeroI) (iv zeroI) rfl ?_)
                  | (with_reducible refine wpList_ranW (o := ⟨some 108, .build 25 _, _, _, _, _⟩) (by with_unfolding_all rfl) (iv zeroI) vr (exec_zero25 rfl) ?_)
                  | (with_reducible refine wpList_ranW (o := ⟨some 109, .binOp .neq _ _ _ _, _, _, _, _⟩) (by with_unfolding_all rfl) (.bool false) vr (exec_ne25s rfl rfl rfl) ?_)
                  | (with_reducible refine wpList_loadsW (o := ⟨some 147, .load 25 (.tmp 9), _, _, _, _⟩) (by with_unfolding_all rfl) 25 (.tmp 9) rfl d3 0 _ rfl (Cells.of_holds hu3) _ Tryd.underlying25 rfl (size25i zeroI) (iv zeroI) rfl ?_)
                  | (with_reducible refine wpList_ranW (o := ⟨some 148, .build 25 _, _, _, _, _⟩) (by with_unfolding_all rfl) (iv zeroI) vr (exec_zero25 rfl) ?_)
                  | (with_reducible refine wpList_ranW (o := ⟨some 149, .binOp .neq _ _ _ _, _, _, _, _⟩) (by with_unfolding_all rfl) (.bool false) vr (exec_ne25s rfl rfl rfl) ?_))
                refine ⟨⟨k + 1, by omega, by omega, by go_num, mm⟩, by simp [intOf]; omega⟩
        · by_cases c0 : 0 ≤ cI
          · skip
            have c67 : ¬ cI < 67 := fun hh => hc ⟨c0, hh⟩
            have X1 := fun v (_ : Mod [] w v) => start_no x cI hc v
            have X2 := fun v (_ : Mod [] w v) => step_no x cI fI (fun h => hc h.1) v
            have X3 := fun v (_ : Mod [] w v) => chain_no x cI fI tI (fun h => hc h.1) v
            clear hc
            go_wp2_with (first
              | (with_reducible refine wpList_loads (o := ⟨some 20, .load 31 (.tmp 19), _, _, _, _⟩) rfl 31 (.tmp 19) rfl ga (oa + k * 35) _ rfl hci _ Tryd.underlying31 rfl (size31 ⟨x, cI, fI, tI⟩) (.agg (wkc ⟨x, cI, fI, tI⟩).toArray) rfl ?_)
              | (with_reducible refine wpList_allocs (o := ⟨some 4, .alloc 31, _, _, _, _⟩) rfl 31 rfl _ zero31 ?_; intro w1 hb1 m1 z1; replace z1 := Lib.hid z1)
              | (with_reducible refine wpList_storesAll (o := ⟨none, .store 31 (.tmp 4) (.tmp 20), _, _, _, _⟩) rfl 31 (.tmp 4) (.tmp 20) rfl rfl wr.heap.size (wkc ⟨x, cI, fI, tI⟩) rfl (.agg (wkc ⟨x, cI, fI, tI⟩).toArray) rfl rfl 31 _ hb1 (by rw [wkc_length, wkc_length]) (wkc_one ⟨x, cI, fI, tI⟩) (size31 ⟨x, cI, fI, tI⟩) ?_
                 intro w2 hb2 m2 z2
                 clear z2
                 have mx : Mod [] wr w2 := m1.trans m2 (by intro i hi h; simp at h; omega)
                 obtain ⟨b4, hb4e⟩ : ∃ q, q = wr.heap.size := ⟨_, rfl⟩
                 rw [← hb4e] at hb2 ⊢
                 have hb4 := hb2
                 replace mm := mm.then mx
                 have hb4 : Holds w2 b4 31 (wkc ⟨x, cI, fI, tI⟩) := hb4
                 have c32 := wk_c4 hb4
                 have c33 := wk_f4 hb4
                 have c34 := wk_t4 hb4
                 clear hb1 hb2 m1 z1 m2 mx hb4e hci)
              | (with_reducible refine wpList_loads (o := ⟨some 25, .load 25 _, _, _, _, _⟩) rfl 25 _ rfl b4 0 _ rfl (wk_x4 hb4) _ Tryd.underlying25 rfl (size25i x) (iv x) rfl ?_)
              | (go_at_call 13; refine (X1 _ mm).mono ?_
                 rintro e v1 ⟨rfl, m1⟩
                 replace hb4 := hb4.keep m1 (by simp)
                 replace mm := mm.then m1
                 clear X1 m1 c32 c33 c34)
              | (with_reducible refine wpList_allocs (o := ⟨some 5, .alloc 25, _, _, _, _⟩) rfl 25 rfl _ zeroI_25 ?_; intro y1 hy1 my1 zy1; replace zy1 := Lib.hid zy1)
              | (with_reducible refine wpList_storesAll (o := ⟨none, .store 25 (.tmp 5) (.tmp 29), _, _, _, _⟩) rfl 25 (.tmp 5) (.tmp 29) rfl rfl v1.heap.size (ic zeroI) rfl (iv zeroI) rfl rfl 25 _ hy1 (by rw [ic_length]) (ic_one _) (size25i _) ?_
                 intro u1 hu1 mu1 zu1
                 clear zu1
                 have q1 : Mod [] v1 u1 := my1.trans mu1 (by intro i hi h; simp at h; omega)
                 obtain ⟨d1, hd1⟩ : ∃ b, b = v1.heap.size := ⟨_, rfl⟩
                 rw [← hd1] at hu1 ⊢
                 replace hb4 := hb4.keep q1 (by simp)
                 replace mm := mm.then q1
                 have c32 := wk_c4 hb4
                 have c33 := wk_f4 hb4
                 have c34 := wk_t4 hb4
                 clear hy1 my1 zy1 mu1 q1 hd1)
              | (with_reducible refine wpList_loads (o := ⟨some 33, .load 25 _, _, _, _, _⟩) rfl 25 _ rfl b4 0 _ rfl (wk_x4 hb4) _ Tryd.underlying25 rfl (size25i x) (iv x) rfl ?_)
              | (go_at_call 14; refine (X2 _ mm).mono ?_
                 rintro e v2 ⟨rfl, m2⟩
                 replace hu1 := hu1.keep m2 (by simp)
                 replace hb4 := hb4.keep m2 (by simp)
                 replace mm := mm.then m2
                 clear X2 m2 c32 c33 c34)
              | (with_reducible refine wpList_allocs (o := ⟨some 7, .alloc 25, _, _, _, _⟩) rfl 25 rfl _ zeroI_25 ?_; intro y2 hy2 my2 zy2; replace zy2 := Lib.hid zy2)
              | (with_reducible refine wpList_storesAll (o := ⟨none, .store 25 (.tmp 7) (.tmp 39), _, _, _, _⟩) rfl 25 (.tmp 7) (.tmp 39) rfl rfl v2.heap.size (ic zeroI) rfl (iv zeroI) rfl rfl 25 _ hy2 (by rw [ic_length]) (ic_one _) (size25i _) ?_
                 intro u2 hu2 mu2 zu2
                 clear zu2
                 have q2 : Mod [] v2 u2 := my2.trans mu2 (by intro i hi h; simp at h; omega)
                 obtain ⟨d2, hd2⟩ : ∃ b, b = v2.heap.size := ⟨_, rfl⟩
                 rw [← hd2] at hu2 ⊢
                 replace hu1 := hu1.keep q2 (by simp)
                 replace hb4 := hb4.keep q2 (by simp)
                 replace mm := mm.then q2
                 have c32 := wk_c4 hb4
                 have c33 := wk_f4 hb4
                 have c34 := wk_t4 hb4
                 clear hy2 my2 zy2 mu2 q2 hd2)
              | (with_reducible refine wpList_loads (o := ⟨some 43, .load 25 _, _, _, _, _⟩) rfl 25 _ rfl b4 0 _ rfl (wk_x4 hb4) _ Tryd.underlying25 rfl (size25i x) (iv x) rfl ?_)
              | (go_at_call 15; refine (X3 _ mm).mono ?_
                 rintro e v3 ⟨rfl, m3⟩
                 replace hu1 := hu1.keep m3 (by simp)
                 replace hu2 := hu2.keep m3 (by simp)
                 replace hb4 := hb4.keep m3 (by simp)
                 replace mm := mm.then m3
                 clear X3 m3 c32 c33 c34)
              | (with_reducible refine wpList_allocs (o := ⟨some 9, .alloc 25, _, _, _, _⟩) rfl 25 rfl _ zeroI_25 ?_; intro y3 hy3 my3 zy3; replace zy3 := Lib.hid zy3)
              | (with_reducible refine wpList_storesAll (o := ⟨none, .store 25 (.tmp 9) (.tmp 51), _, _, _, _⟩) rfl 25 (.tmp 9) (.tmp 51) rfl rfl v3.heap.size (ic zeroI) rfl (iv zeroI) rfl rfl 25 _ hy3 (by rw [ic_length]) (ic_one _) (size25i _) ?_
                 intro u3 hu3 mu3 zu3
                 clear zu3
                 have q3 : Mod [] v3 u3 := my3.trans mu3 (by intro i hi h; simp at h; omega)
                 obtain ⟨d3, hd3⟩ : ∃ b, b = v3.heap.size := ⟨_, rfl⟩
                 rw [← hd3] at hu3 ⊢
                 replace hu1 := hu1.keep q3 (by simp)
                 replace hu2 := hu2.keep q3 (by simp)
                 replace hb4 := hb4.keep q3 (by simp)
                 replace mm := mm.then q3
                 have c32 := wk_c4 hb4
                 have c33 := wk_f4 hb4
                 have c34 := wk_t4 hb4
                 clear hy3 my3 zy3 mu3 q3 hd3)
              | (with_reducible refine wpList_loadsW (o := ⟨some 76, .load 25 (.tmp 5), _, _, _, _⟩) (by with_unfolding_all rfl) 25 (.tmp 5) rfl d1 0 _ rfl (Cells.of_holds hu1) _ Tryd.underlying25 rfl (size25i zeroI) (iv zeroI) rfl ?_)
              | (with_reducible refine wpList_ranW (o := ⟨some 77, .build 25 _, _, _, _, _⟩) (by with_unfolding_all rfl) (iv zeroI) u3 (exec_zero25 rfl) ?_)
              | (with_reducible refine wpList_ranW (o := ⟨some 78, .binOp .neq _ _ _ _, _, _, _, _⟩) (by with_unfolding_all rfl) (.bool false) u3 (exec_ne25s rfl rfl rfl) ?_)
              | (with_reducible refine wpList_loadsW (o := ⟨some 107, .load 25 (.tmp 7), _, _, _, _⟩) (by with_unfolding_all rfl) 25 (.tmp 7) rfl d2 0 _ rfl (Cells.of_holds hu2) _ Tryd.underlying25 rfl (size25i zeroI) (iv zeroI) rfl ?_)
              | (with_reducible refine wpList_ranW (o := ⟨some 108, .build 25 _, _, _, _, _⟩) (by with_unfolding_all rfl) (iv zeroI) u3 (exec_zero25 rfl) ?_)
              | (with_reducible refine wpList_ranW (o := ⟨some 109, .binOp .neq _ _ _ _, _, _, _, _⟩) (by with_unfolding_all rfl) (.bool false) u3 (exec_ne25s rfl rfl rfl) ?_)
              | (with_reducible refine wpList_loadsW (o := ⟨some 147, .load 25 (.tmp 9), _, _, _, _⟩) (by with_unfolding_all rfl) 25 (.tmp 9) rfl d3 0 _ rfl (Cells.of_holds hu3) _ Tryd.underlying25 rfl (size25i zeroI) (iv zeroI) rfl ?_)
              | (with_reducible refine wpList_ranW (o := ⟨some 148, .build 25 _, _, _, _, _⟩) (by with_unfolding_all rfl) (iv zeroI) u3 (exec_zero25 rfl) ?_)
              | (with_reducible refine wpList_ranW (o := ⟨some 149, .binOp .neq _ _ _ _, _, _, _, _⟩) (by with_unfolding_all rfl) (.bool false) u3 (exec_ne25s rfl rfl rfl) ?_))
            refine ⟨⟨k + 1, by omega, by omega, by go_num, mm⟩, by simp [intOf]; omega⟩
          · skip
            have X1 := fun v (_ : Mod [] w v) => start_no x cI hc v
            have X2 := fun v (_ : Mod [] w v) => step_no x cI fI (fun h => hc h.1) v
            have X3 := fun v (_ : Mod [] w v) => chain_no x cI fI tI (fun h => hc h.1) v
            clear hc
            go_wp2_with (first
              | (with_reducible refine wpList_loads (o := ⟨some 20, .load 31 (.tmp 19), _, _, _, _⟩) rfl 31 (.tmp 19) rfl ga (oa + k * 35) _ rfl hci _ Tryd.underlying31 rfl (size31 ⟨x, cI, fI, tI⟩) (.agg (wkc ⟨x, cI, fI, tI⟩).toArray) rfl ?_)
              | (with_reducible refine wpList_allocs (o := ⟨some 4, .alloc 31, _, _, _, _⟩) rfl 31 rfl _ zero31 ?_; intro w1 hb1 m1 z1; replace z1 := Lib.hid z1)
              | (with_reducible refine wpList_storesAll (o := ⟨none, .store 31 (.tmp 4) (.tmp 20), _, _, _, _⟩) rfl 31 (.tmp 4) (.tmp 20) rfl rfl wr.heap.size (wkc ⟨x, cI, fI, tI⟩) rfl (.agg (wkc ⟨x, cI, fI, tI⟩).toArray) rfl rfl 31 _ hb1 (by rw [wkc_length, wkc_length]) (wkc_one ⟨x, cI, fI, tI⟩) (size31 ⟨x, cI, fI, tI⟩) ?_
                 intro w2 hb2 m2 z2
                 clear z2
                 have mx : Mod [] wr w2 := m1.trans m2 (by intro i hi h; simp at h; omega)
                 obtain ⟨b4, hb4e⟩ : ∃ q, q = wr.heap.size := ⟨_, rfl⟩
                 rw [← hb4e] at hb2 ⊢
                 have hb4 := hb2
                 replace mm := mm.then mx
                 have hb4 : Holds w2 b4 31 (wkc ⟨x, cI, fI, tI⟩) := hb4
                 have c32 := wk_c4 hb4
                 have c33 := wk_f4 hb4
                 have c34 := wk_t4 hb4
                 clear hb1 hb2 m1 z1 m2 mx hb4e hci)
              | (with_reducible refine wpList_loads (o := ⟨some 25, .load 25 _, _, _, _, _⟩) rfl 25 _ rfl b4 0 _ rfl (wk_x4 hb4) _ Tryd.underlying25 rfl (size25i x) (iv x) rfl ?_)
              | (go_at_call 13; refine (X1 _ mm).mono ?_
                 rintro e v1 ⟨rfl, m1⟩
                 replace hb4 := hb4.keep m1 (by simp)
                 replace mm := mm.then m1
                 clear X1 m1 c32 c33 c34)
              | (with_reducible refine wpList_allocs (o := ⟨some 5, .alloc 25, _, _, _, _⟩) rfl 25 rfl _ zeroI_25 ?_; intro y1 hy1 my1 zy1; replace zy1 := Lib.hid zy1)
              | (with_reducible refine wpList_storesAll (o := ⟨none, .store 25 (.tmp 5) (.tmp 29), _, _, _, _⟩) rfl 25 (.tmp 5) (.tmp 29) rfl rfl v1.heap.size (ic zeroI) rfl (iv zeroI) rfl rfl 25 _ hy1 (by rw [ic_length]) (ic_one _) (size25i _) ?_
                 intro u1 hu1 mu1 zu1
                 clear zu1
                 have q1 : Mod [] v1 u1 := my1.trans mu1 (by intro i hi h; simp at h; omega)
                 obtain ⟨d1, hd1⟩ : ∃ b, b = v1.heap.size := ⟨_, rfl⟩
                 rw [← hd1] at hu1 ⊢
                 replace hb4 := hb4.keep q1 (by simp)
                 replace mm := mm.then q1
                 have c32 := wk_c4 hb4
                 have c33 := wk_f4 hb4
                 have c34 := wk_t4 hb4
                 clear hy1 my1 zy1 mu1 q1 hd1)
              | (with_reducible refine wpList_loads (o := ⟨some 33, .load 25 _, _, _, _, _⟩) rfl 25 _ rfl b4 0 _ rfl (wk_x4 hb4) _ Tryd.underlying25 rfl (size25i x) (iv x) rfl ?_)
              | (go_at_call 14; refine (X2 _ mm).mono ?_
                 rintro e v2 ⟨rfl, m2⟩
                 replace hu1 := hu1.keep m2 (by simp)
                 replace hb4 := hb4.keep m2 (by simp)
                 replace mm := mm.then m2
                 clear X2 m2 c32 c33 c34)
              | (with_reducible refine wpList_allocs (o := ⟨some 7, .alloc 25, _, _, _, _⟩) rfl 25 rfl _ zeroI_25 ?_; intro y2 hy2 my2 zy2; replace zy2 := Lib.hid zy2)
              | (with_reducible refine wpList_storesAll (o := ⟨none, .store 25 (.tmp 7) (.tmp 39), _, _, _, _⟩) rfl 25 (.tmp 7) (.tmp 39) rfl rfl v2.heap.size (ic zeroI) rfl (iv zeroI) rfl rfl 25 _ hy2 (by rw [ic_length]) (ic_one _) (size25i _) ?_
                 intro u2 hu2 mu2 zu2
                 clear zu2
                 have q2 : Mod [] v2 u2 := my2.trans mu2 (by intro i hi h; simp at h; omega)
                 obtain ⟨d2, hd2⟩ : ∃ b, b = v2.heap.size := ⟨_, rfl⟩
                 rw [← hd2] at hu2 ⊢
                 replace hu1 := hu1.keep q2 (by simp)
                 replace hb4 := hb4.keep q2 (by simp)
                 replace mm := mm.then q2
                 have c32 := wk_c4 hb4
                 have c33 := wk_f4 hb4
                 have c34 := wk_t4 hb4
                 clear hy2 my2 zy2 mu2 q2 hd2)
              | (with_reducible refine wpList_loads (o := ⟨some 43, .load 25 _, _, _, _, _⟩) rfl 25 _ rfl b4 0 _ rfl (wk_x4 hb4) _ Tryd.underlying25 rfl (size25i x) (iv x) rfl ?_)
              | (go_at_call 15; refine (X3 _ mm).mono ?_
                 rintro e v3 ⟨rfl, m3⟩
                 replace hu1 := hu1.keep m3 (by simp)
                 replace hu2 := hu2.keep m3 (by simp)
                 replace hb4 := hb4.keep m3 (by simp)
                 replace mm := mm.then m3
                 clear X3 m3 c32 c33 c34)
              | (with_reducible refine wpList_allocs (o := ⟨some 9, .alloc 25, _, _, _, _⟩) rfl 25 rfl _ zeroI_25 ?_; intro y3 hy3 my3 zy3; replace zy3 := Lib.hid zy3)
              | (with_reducible refine wpList_storesAll (o := ⟨none, .store 25 (.tmp 9) (.tmp 51), _, _, _, _⟩) rfl 25 (.tmp 9) (.tmp 51) rfl rfl v3.heap.size (ic zeroI) rfl (iv zeroI) rfl rfl 25 _ hy3 (by rw [ic_length]) (ic_one _) (size25i _) ?_
                 intro u3 hu3 mu3 zu3
                 clear zu3
                 have q3 : Mod [] v3 u3 := my3.trans mu3 (by intro i hi h; simp at h; omega)
                 obtain ⟨d3, hd3⟩ : ∃ b, b = v3.heap.size := ⟨_, rfl⟩
                 rw [← hd3] at hu3 ⊢
                 replace hu1 := hu1.keep q3 (by simp)
                 replace hu2 := hu2.keep q3 (by simp)
                 replace hb4 := hb4.keep q3 (by simp)
                 replace mm := mm.then q3
                 have c32 := wk_c4 hb4
                 have c33 := wk_f4 hb4
                 have c34 := wk_t4 hb4
                 clear hy3 my3 zy3 mu3 q3 hd3)
              | (with_reducible refine wpList_loadsW (o := ⟨some 76, .load 25 (.tmp 5), _, _, _, _⟩) (by with_unfolding_all rfl) 25 (.tmp 5) rfl d1 0 _ rfl (Cells.of_holds hu1) _ Tryd.underlying25 rfl (size25i zeroI) (iv zeroI) rfl ?_)
              | (with_reducible refine wpList_ranW (o := ⟨some 77, .build 25 _, _, _, _, _⟩) (by with_unfolding_all rfl) (iv zeroI) u3 (exec_zero25 rfl) ?_)
              | (with_reducible refine wpList_ranW (o := ⟨some 78, .binOp .neq _ _ _ _, _, _, _, _⟩) (by with_unfolding_all rfl) (.bool false) u3 (exec_ne25s rfl rfl rfl) ?_)
              | (with_reducible refine wpList_loadsW (o := ⟨some 107, .load 25 (.tmp 7), _, _, _, _⟩) (by with_unfolding_all rfl) 25 (.tmp 7) rfl d2 0 _ rfl (Cells.of_holds hu2) _ Tryd.underlying25 rfl (size25i zeroI) (iv zeroI) rfl ?_)
              | (with_reducible refine wpList_ranW (o := ⟨some 108, .build 25 _, _, _, _, _⟩) (by with_unfolding_all rfl) (iv zeroI) u3 (exec_zero25 rfl) ?_)
              | (with_reducible refine wpList_ranW (o := ⟨some 109, .binOp .neq _ _ _ _, _, _, _, _⟩) (by with_unfolding_all rfl) (.bool false) u3 (exec_ne25s rfl rfl rfl) ?_)
              | (with_reducible refine wpList_loadsW (o := ⟨some 147, .load 25 (.tmp 9), _, _, _, _⟩) (by with_unfolding_all rfl) 25 (.tmp 9) rfl d3 0 _ rfl (Cells.of_holds hu3) _ Tryd.underlying25 rfl (size25i zeroI) (iv zeroI) rfl ?_)
              | (with_reducible refine wpList_ranW (o := ⟨some 148, .build 25 _, _, _, _, _⟩) (by with_unfolding_all rfl) (iv zeroI) u3 (exec_zero25 rfl) ?_)
              | (with_reducible refine wpList_ranW (o := ⟨some 149, .binOp .neq _ _ _ _, _, _, _, _⟩) (by with_unfolding_all rfl) (.bool false) u3 (exec_ne25s rfl rfl rfl) ?_))
            refine ⟨⟨k + 1, by omega, by omega, by go_num, mm⟩, by simp [intOf]; omega⟩
    · obtain rfl : k = n := by omega
      go_wp2
      go_ret
      exact ⟨rfl, mm⟩
end Go.Proofs.YtdolihecjomjiaaDoor
