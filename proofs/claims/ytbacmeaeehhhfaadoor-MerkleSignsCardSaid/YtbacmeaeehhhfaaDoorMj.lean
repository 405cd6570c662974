/-
  The layer does something: another digest is not the root's. My own work.
-/
import Derived.Test.YtbacmeaeehhhfaaDoorMi
import Derived.Test.YtbacmeaeehhhfaaDoorMkA
import Derived.Test.YtbacmeaeehhhfaaDoorMkB
import Derived.Test.YtbacmeaeehhhfaaDoorMkC
import Derived.Test.YtbacmeaeehhhfaaDoorMkD
import Derived.Test.YtbacmeaeehhhfaaDoorMkE
namespace Go.Proofs.YtbacmeaeehhhfaaDoor
open Go.RowKit Go.Shelf
set_option linter.unusedVariables false
set_option linter.unusedSimpArgs false
theorem join_nat (a b : Idv) : tn (joinI a b).1 = kjoin (tn a.1) (tn b.1) := by
  have hl : (78 :: (a.1 ++ b.1)).length = 65 := by simp [a.2, b.2]
  have := kdig_eq (78 :: (a.1 ++ b.1)) (by rw [hl]; decide)
  rw [List.map_cons, List.map_append] at this
  exact this.symm
theorem lseed_nat (n : Nat) (hn : n < 256) : tn (lseedI (oneI 1) n).1 = klseed n := by
  have hl : (76 :: UInt8.ofNat n :: (oneI 1).1).length = 34 := by simp [(oneI 1).2]
  have := kdig_eq (76 :: UInt8.ofNat n :: (oneI 1).1) (by rw [hl]; decide)
  rw [List.map_cons, List.map_cons, ofNat_toNat n hn] at this
  exact this.symm
theorem krecs_eq (s m2 m3 : Idv) (n : Nat) : ∀ i, i + n ≤ 200 → krecs (tn s.1) ((List.range' i n).map (dgt m2)) ((List.range' i n).map (dgt m3)) i = tn (flatI ((List.range' i n).map fun j => walkI j (dgt m3 j) (15 - dgt m3 j) (walkI j 0 (dgt m2 j) (startI j s)))) := by
  induction n with
  | zero => intros; rfl
  | succ n ih =>
    intro i h
    rw [List.range'_succ, List.map_cons, List.map_cons, krecs, ih (i + 1) (by omega), List.map_cons]
    have h2 := dgt_le m2 i
    have h3 := dgt_le m3 i
    have hl : (83 :: UInt8.ofNat i :: s.1).length = 34 := by simp [s.2]
    have hs := kdig_eq (83 :: UInt8.ofNat i :: s.1) (by rw [hl]; decide)
    rw [List.map_cons, List.map_cons, ofNat_toNat i (by omega)] at hs
    have h4 : kdig (83 :: i :: tn s.1) = tn (startI i s).1 := hs
    rw [h4, kwalk_eq i (by omega) _ 0 _ (by omega), kwalk_eq i (by omega) _ _ _ (by omega)]
    simp [tn, flatI]
theorem mD2_eq : mD2 = (List.range' 0 67).map (dgt (oneI 2)) := by decide +kernel
theorem mD3_eq : mD3 = (List.range' 0 67).map (dgt (oneI 3)) := by decide +kernel
theorem rec_nat (s : Idv) : tn (recI (oneI 3) (signI s (oneI 2))).1 = krec (tn s.1) mD2 mD3 := by
  unfold krec
  rw [mD2_eq, mD3_eq, krecs_eq s (oneI 2) (oneI 3) 67 0 (by decide)]
  have he : (List.range' 0 67).map (fun j => walkI j (dgt (oneI 3) j) (15 - dgt (oneI 3) j) (walkI j 0 (dgt (oneI 2) j) (startI j s))) = recL (oneI 3) (signI s (oneI 2)) 67 := by
    unfold recL
    rw [List.range_eq_range']
    apply List.map_congr_left
    intro i hi
    rw [signI_getD s (oneI 2) i (by simpa using hi)]
  rw [he]
  have hl : (75 :: flatI (recL (oneI 3) (signI s (oneI 2)) 67)).length = 2145 := by rw [List.length_cons, flatI_length, recL_length]
  exact (kdig_eq (75 :: flatI (recL (oneI 3) (signI s (oneI 2)) 67)) (by rw [hl]; decide)).symm
theorem key_nat0 : tn (keyI (lseedI (oneI 1) 0)).1 = mK0 := by rw [← kkey_eq, lseed_nat 0 (by decide)]; exact mkey0
theorem key_nat1 : tn (keyI (lseedI (oneI 1) 1)).1 = mK1 := by rw [← kkey_eq, lseed_nat 1 (by decide)]; exact mkey1
theorem key_nat2 : tn (keyI (lseedI (oneI 1) 2)).1 = mK2 := by rw [← kkey_eq, lseed_nat 2 (by decide)]; exact mkey2
theorem key_nat3 : tn (keyI (lseedI (oneI 1) 3)).1 = mK3 := by rw [← kkey_eq, lseed_nat 3 (by decide)]; exact mkey3
theorem key_nat4 : tn (keyI (lseedI (oneI 1) 4)).1 = mK4 := by rw [← kkey_eq, lseed_nat 4 (by decide)]; exact mkey4
theorem key_nat5 : tn (keyI (lseedI (oneI 1) 5)).1 = mK5 := by rw [← kkey_eq, lseed_nat 5 (by decide)]; exact mkey5
theorem key_nat6 : tn (keyI (lseedI (oneI 1) 6)).1 = mK6 := by rw [← kkey_eq, lseed_nat 6 (by decide)]; exact mkey6
theorem key_nat7 : tn (keyI (lseedI (oneI 1) 7)).1 = mK7 := by rw [← kkey_eq, lseed_nat 7 (by decide)]; exact mkey7
theorem rec_nat5 : tn (recI (oneI 3) (signI (lseedI (oneI 1) 5) (oneI 2))).1 = mR := by rw [rec_nat, lseed_nat 5 (by decide)]; exact mrec
theorem other_ne : climbI (recI (oneI 3) (signI (lseedI (oneI 1) 5) (oneI 2))) 5 (pathL (oneI 1) 5 3) ≠ rootI (oneI 1) := by
  intro h
  have h1 := congrArg (fun x : Idv => tn x.1) h
  rw [← climb_root (oneI 1) 5 (by decide)] at h1
  obtain ⟨R, hR⟩ : ∃ R, R = recI (oneI 3) (signI (lseedI (oneI 1) 5) (oneI 2)) := ⟨_, rfl⟩
  have hRn := rec_nat5
  rw [← hR] at h1 hRn
  have hp : pathL (oneI 1) 5 3 = [(keyI (lseedI (oneI 1) 4)), (joinI (keyI (lseedI (oneI 1) 6)) (keyI (lseedI (oneI 1) 7))), (joinI (joinI (keyI (lseedI (oneI 1) 0)) (keyI (lseedI (oneI 1) 1))) (joinI (keyI (lseedI (oneI 1) 2)) (keyI (lseedI (oneI 1) 3))))] := by
    have r0 : rowI (oneI 1) 0 = _ := keysL8 (oneI 1)
    have e : pathL (oneI 1) 5 3 = [nbI (oneI 1) 5 0, nbI (oneI 1) 5 1, nbI (oneI 1) 5 2] := by simp only [pathL, List.range_succ, List.range_zero, List.nil_append, List.cons_append, List.map_cons, List.map_nil]
    have r1 : rowI (oneI 1) 1 = [(joinI (keyI (lseedI (oneI 1) 0)) (keyI (lseedI (oneI 1) 1))), (joinI (keyI (lseedI (oneI 1) 2)) (keyI (lseedI (oneI 1) 3))), (joinI (keyI (lseedI (oneI 1) 4)) (keyI (lseedI (oneI 1) 5))), (joinI (keyI (lseedI (oneI 1) 6)) (keyI (lseedI (oneI 1) 7)))] := by rw [rowI, rowI_length (oneI 1) 0 (by decide), r0, show 8 / 2 ^ 0 / 2 = 4 from rfl, halfL4]
    have r2 : rowI (oneI 1) 2 = [(joinI (joinI (keyI (lseedI (oneI 1) 0)) (keyI (lseedI (oneI 1) 1))) (joinI (keyI (lseedI (oneI 1) 2)) (keyI (lseedI (oneI 1) 3)))), (joinI (joinI (keyI (lseedI (oneI 1) 4)) (keyI (lseedI (oneI 1) 5))) (joinI (keyI (lseedI (oneI 1) 6)) (keyI (lseedI (oneI 1) 7))))] := by rw [rowI, rowI_length (oneI 1) 1 (by decide), r1, show 8 / 2 ^ 1 / 2 = 2 from rfl, halfL2]
    rw [e]
    unfold nbI
    rw [r0, r1, r2]
    rfl
  rw [hp] at h1
  simp only [climbI, climbK, show 5 / 2 ^ 0 % 2 = 1 from rfl, show 5 / 2 ^ (0 + 1) % 2 = 0 from rfl, show 5 / 2 ^ (0 + 1 + 1) % 2 = 1 from rfl, if_true, show ¬ (1 = 0) by decide, if_false, join_nat, key_nat0, key_nat1, key_nat2, key_nat3, key_nat4, key_nat5, key_nat6, key_nat7, hRn] at h1
  exact mroot_ne h1
theorem exec_bld1 {v : World} {o : Oper} {a : Act} {x : Idv} (hx : x = oneI 1) (ho : o.op = .build 23 #[(0, .const (.int .u8 1))]) : (execOp a.eval o).run Tryd.prog v = .ok (.value (iv x)) v := by
  subst hx
  exact exec_build1 ho
theorem exec_bld2 {v : World} {o : Oper} {a : Act} {x : Idv} (hx : x = oneI 2) (ho : o.op = .build 23 #[(0, .const (.int .u8 2))]) : (execOp a.eval o).run Tryd.prog v = .ok (.value (iv x)) v := by
  subst hx
  exact exec_build2 ho
theorem exec_bld3 {v : World} {o : Oper} {a : Act} {x : Idv} (hx : x = oneI 3) (ho : o.op = .build 23 #[(0, .const (.int .u8 3))]) : (execOp a.eval o).run Tryd.prog v = .ok (.value (iv x)) v := by
  subst hx
  exact exec_build3 ho
set_option maxRecDepth 100000 in
set_option maxHeartbeats 4000000 in
/-- The layer does something. -/
theorem wakes_c (w : World) (Gl : Glob w) : Calls Tryd.prog 10 #[] w fun r w' => r = .returned (.bool true) ∧ Mod [] w w' := by
  obtain ⟨x1, hx1⟩ : ∃ x, x = oneI 1 := ⟨_, rfl⟩
  obtain ⟨x2, hx2⟩ : ∃ x, x = oneI 2 := ⟨_, rfl⟩
  obtain ⟨x3, hx3⟩ : ∃ x, x = oneI 3 := ⟨_, rfl⟩
  have hne := decide_eq_false other_ne
  have hyes : decide (climbI (recI x2 (signI (lseedI x1 5) x2)) 5 (pathL x1 5 3) = rootI x1) = true := decide_eq_true (by rw [rec_sign, climb_root x1 5 (by decide)])
  rw [← hx1, ← hx2, ← hx3] at hne
  have SN := fun v (mv : Mod [] w v) => Sign_yes x1 x2 5 (by decide) v (Gl.then mv)
  have PT := fun v (mv : Mod [] w v) => Path_yes x1 6 (by decide) v (Gl.then mv)
  have SD := fun v (mv : Mod [] w v) => Seed_yes x1 7 (by decide) v (Gl.then mv)
  have RT := fun v (mv : Mod [] w v) => root_c x1 v (Gl.then mv)
  have hl67 := signI_length (lseedI x1 5) x2
  have hl3 := pathL_length x1 5 3
  have V2 := fun A c B d v (mv : Mod [] w v) RC RP => Verify_yes (rootI x1) x2 5 (by decide) A c B d (signI (lseedI x1 5) x2) (pathL x1 5 3) hl67 hl3 v (Gl.then mv) RC RP
  have V3 := fun A c B d v (mv : Mod [] w v) RC RP => Verify_yes (rootI x1) x3 5 (by decide) A c B d (signI (lseedI x1 5) x2) (pathL x1 5 3) hl67 hl3 v (Gl.then mv) RC RP
  rw [hyes] at V2
  rw [hne] at V3
  obtain ⟨s7, hs7⟩ : ∃ x, x = lseedI x1 7 := ⟨_, rfl⟩
  have KY := fun v (mv : Mod [] w v) => key_c s7 v (Gl.then mv)
  have hp0 : (pathL x1 6 3)[0]'(by rw [pathL_length]; decide) = keyI s7 := by
    have e : pathL x1 6 3 = [nbI x1 6 0, nbI x1 6 1, nbI x1 6 2] := by simp only [pathL, List.range_succ, List.range_zero, List.nil_append, List.cons_append, List.map_cons, List.map_nil]
    have r0 : nbI x1 6 0 = keyI s7 := by unfold nbI; rw [show rowI x1 0 = _ from keysL8 x1, hs7]; rfl
    simp only [e, r0, List.getElem_cons_zero]
  rw [← hs7] at SD
  obtain ⟨k7, hk7⟩ : ∃ x, x = keyI s7 := ⟨_, rfl⟩
  rw [← hk7] at KY hp0
  obtain ⟨rt, hrt⟩ : ∃ x, x = rootI x1 := ⟨_, rfl⟩
  rw [← hrt] at RT V2 V3
  obtain ⟨sg, hsg⟩ : ∃ x, x = signI (lseedI x1 5) x2 := ⟨_, rfl⟩
  obtain ⟨pt, hpt⟩ : ∃ x, x = pathL x1 5 3 := ⟨_, rfl⟩
  obtain ⟨p6, hp6⟩ : ∃ x, x = pathL x1 6 3 := ⟨_, rfl⟩
  rw [← hsg, ← hpt] at SN V2 V3
  rw [← hp6] at PT
  have hl6 : p6.length = 3 := by rw [hp6]; exact pathL_length _ _ _
  have hp0' : p6[0]'(by rw [hl6]; decide) = k7 := by simp only [hp6]; exact hp0
  have HX := Lib.hid (And.intro hx1 (And.intro hx2 hx3))
  clear hx1 hx2 hx3 hne hyes hl67 hl3 hs7 hp0 hk7 hrt hsg hpt hp6 Gl
  go_enter Tryd.func10, Tryd.ntmps10
  go_wp2_with (first
    | (with_reducible refine wpList_ranW (o := ⟨some 8, .build 23 _, _, _, _, _⟩) (by with_unfolding_all rfl) (iv x1) w (by rw [HX.out.1]; exact exec_build1 rfl) ?_)
    | (with_reducible refine wpList_ranW (o := ⟨some 9, .build 23 _, _, _, _, _⟩) (by with_unfolding_all rfl) (iv x2) w (by rw [HX.out.2.1]; exact exec_build2 rfl) ?_)
    | (go_at_call 23; refine (SN w (Mod.refl _ _)).mono ?_
       rintro e w1 ⟨A, c, B, d, rfl, hOA, hOB, m1⟩
       clear SN)
    | (with_reducible refine wpList_allocs (o := ⟨some 1, .alloc 50, _, _, _, _⟩) rfl 50 rfl _ zero50 ?_; intro y2 hy2 my2 zy2)
    | (with_reducible refine wpList_storesAll (o := ⟨none, .store 50 (.tmp 1) (.tmp 11), _, _, _, _⟩) rfl 50 (.tmp 1) (.tmp 11) rfl rfl w1.heap.size (sgc 5 A 67 c B 3 d) rfl (.agg (sgc 5 A 67 c B 3 d).toArray) rfl rfl 50 _ hy2 rfl (sgc_one _ _ _ _ _ _ _) (size50s _ _ _ _ _ _ _) ?_
       intro w2 k1 m2 z2
       have mx : Mod [] w1 w2 := my2.trans m2 (by intro i hi h; simp at h; omega)
       have hOA2 := hOA.keep mx (by simp)
       have hOB2 := hOB.keep mx (by simp)
       have mm2 := m1.then mx
       obtain ⟨b1, hq1⟩ : ∃ q, q = w1.heap.size := ⟨_, rfl⟩
       rw [← hq1] at k1 ⊢
       clear hy2 my2 zy2 m2 z2 mx hq1 hOA hOB m1)
    | (with_reducible refine wpList_ranW (o := ⟨some 14, .build 23 _, _, _, _, _⟩) (by with_unfolding_all rfl) (iv x1) w2 (by rw [HX.out.1]; exact exec_build1 rfl) ?_)
    | (go_at_call 15; refine (PT w2 mm2).mono ?_
       rintro e w3 ⟨PA, pc, rfl, hOP, m3, _⟩
       have k13 := k1.keep m3 (by simp)
       have hOA3 := hOA2.keep m3 (by simp)
       have hOB3 := hOB2.keep m3 (by simp)
       have mm3 := mm2.then m3
       clear PT m3 k1 hOA2 hOB2)
    | (with_reducible refine wpList_ranW (o := ⟨some 19, .build 23 _, _, _, _, _⟩) (by with_unfolding_all rfl) (iv x1) w3 (by rw [HX.out.1]; exact exec_build1 rfl) ?_)
    | (go_at_call 14; refine (SD w3 mm3).mono ?_
       rintro e w4 ⟨rfl, m4⟩
       have k14 := k13.keep m4 (by simp)
       have hOA4 := hOA3.keep m4 (by simp)
       have hOB4 := hOB3.keep m4 (by simp)
       have hOP4 := hOP.keep m4 (by simp)
       have mm4 := mm3.then m4
       clear SD m4 k13 hOA3 hOB3 hOP)
    | (with_reducible refine wpList_allocs (o := ⟨some 5, .alloc 23, _, _, _, _⟩) rfl 23 rfl _ zeroI_25 ?_; intro y5 hy5 my5 zy5)
    | (with_reducible refine wpList_storesAll (o := ⟨none, .store 23 (.tmp 5) (.tmp 21), _, _, _, _⟩) rfl 23 (.tmp 5) (.tmp 21) rfl rfl w4.heap.size (ic s7) rfl (iv s7) rfl rfl 23 _ hy5 (by rw [ic_length, ic_length]) (ic_one s7) (size25i s7) ?_
       intro w5 k5 m5 z5
       have mx : Mod [] w4 w5 := my5.trans m5 (by intro i hi h; simp at h; omega)
       have k1 := k14.keep mx (by simp)
       have hOA := hOA4.keep mx (by simp)
       have hOB := hOB4.keep mx (by simp)
       have hOP := hOP4.keep mx (by simp)
       have mm := mm4.then mx
       obtain ⟨b5, hq5⟩ : ∃ q, q = w4.heap.size := ⟨_, rfl⟩
       rw [← hq5] at k5 ⊢
       clear hy5 my5 zy5 m5 z5 mx hq5 k14 hOA4 hOB4 hOP4 mm4))
  obtain ⟨pg, po, rfl, hpc0⟩ := hOP.cells.elem' ic 32 (by omega) ic_length 0 (by rw [hl6]; decide)
  rw [hp0'] at hpc0
  have hpc : Cells w5 (some ⟨pg, po + 0 * 32, none⟩) (ic k7) := hpc0
  clear hpc0 hp0' hl6
  obtain ⟨wq, hwq⟩ : ∃ v, v = w5 := ⟨_, rfl⟩
  rw [← hwq] at k1 k5 hOA hOB hOP mm hpc ⊢
  clear hwq
  refine wp_region_ups [(23, .int .i64 0), (24, .bool true), (25, .bool true), (26, .int .i64 0), (27, .bool true), (28, .bool true), (29, .bool true), (30, .int .i64 0), (31, .bool true), (32, .bool true), (33, .bool true), (34, .slice (some ⟨pg, po, none⟩) 3 pc), (35, .int .i64 3), (36, .bool true), (37, .bool true), (38, .bool true), (39, .slice (some ⟨pg, po, none⟩) 3 pc), (40, .pointer (some ⟨pg, po + 0 * 32, none⟩)), (41, iv k7), (42, iv s7), (43, iv k7), (44, .bool true), (45, .bool true), (46, .bool true), (47, iv x1), (48, iv rt), (49, iv x2), (50, .agg (sgc 5 A 67 c B 3 d).toArray), (51, .bool true), (52, .bool true), (53, .bool true), (54, iv x1), (55, iv rt), (56, iv x3), (57, .agg (sgc 5 A 67 c B 3 d).toArray), (58, .bool false), (59, .bool true), (60, .bool true), (0, .bool true)] 61 [23, 24, 25, 26, 27, 28, 29, 30, 31, 32, 33, 34, 35, 36, 37, 38, 39, 40, 41, 42, 43, 44, 45, 46, 47, 48, 49, 50, 51, 52, 53, 54, 55, 56, 57, 58, 59, 60, 0] rfl rfl (by decide) (by kernel_rfl) (fun lz v => Mod [] wq.drew v) (by kernel_rfl) (Mod.refl _ _) (by kernel_rfl) (by kernel_rfl) ?step ?fin
  case step =>
    intro lz T v j o hj hlj hdep hst hpar hgot hcl Kq hK
    have mv : ∀ v, Mod [] wq.drew v → Mod [] wq v := fun v h => (Mod.drew [] wq).then h
    have hjn : j < 39 := (Array.getElem?_eq_some_iff.1 hj).1
    obtain rfl | rfl | rfl | rfl | rfl | rfl | rfl | rfl | rfl | rfl | rfl | rfl | rfl | rfl | rfl | rfl | rfl | rfl | rfl | rfl | rfl | rfl | rfl | rfl | rfl | rfl | rfl | rfl | rfl | rfl | rfl | rfl | rfl | rfl | rfl | rfl | rfl | rfl | rfl : j = 0 ∨ j = 1 ∨ j = 2 ∨ j = 3 ∨ j = 4 ∨ j = 5 ∨ j = 6 ∨ j = 7 ∨ j = 8 ∨ j = 9 ∨ j = 10 ∨ j = 11 ∨ j = 12 ∨ j = 13 ∨ j = 14 ∨ j = 15 ∨ j = 16 ∨ j = 17 ∨ j = 18 ∨ j = 19 ∨ j = 20 ∨ j = 21 ∨ j = 22 ∨ j = 23 ∨ j = 24 ∨ j = 25 ∨ j = 26 ∨ j = 27 ∨ j = 28 ∨ j = 29 ∨ j = 30 ∨ j = 31 ∨ j = 32 ∨ j = 33 ∨ j = 34 ∨ j = 35 ∨ j = 36 ∨ j = 37 ∨ j = 38 := by omega
    all_goals (have hj' := Option.some.inj (hj : some _ = some o); subst hj'; clear hj)
    · exact wp_ran rfl (exec_move rfl (eval_tmp ((hpar 2 rfl).trans rfl))) (hK _ _ (fun s hs => by cases hs; rfl) hst)
    · exact wp_ran rfl (exec_eqi (rfl) rfl (eval_tmp (hgot 0 _ 23 rfl (hdep ⟨0, .data⟩ (by simp) rfl) rfl)) rfl) (hK _ _ (fun s hs => by cases hs; rfl) hst)
    · exact wp_ran rfl (exec_move rfl (eval_tmp (hgot 1 _ 24 rfl (hdep ⟨1, .data⟩ (by simp) rfl) rfl))) (hK _ _ (fun s hs => by cases hs; rfl) hst)
    · exact wp_ranW (wanted_yes rfl rfl rfl (hgot 2 _ 25 rfl (hdep ⟨2, .guard⟩ (by simp) rfl) rfl)) (exec_move rfl (eval_tmp ((hpar 4 rfl).trans rfl))) (hK _ _ (fun s hs => by cases hs; rfl) hst)
    · exact wp_ranW (wanted_yes rfl rfl rfl (hgot 2 _ 25 rfl (hdep ⟨2, .guard⟩ (by simp) rfl) rfl)) (exec_eqi (rfl) rfl (eval_tmp (hgot 3 _ 26 rfl (hdep ⟨3, .data⟩ (by simp) rfl) rfl)) rfl) (hK _ _ (fun s hs => by cases hs; rfl) hst)
    · exact wp_ran rfl (exec_pick rfl (eval_tmp (hgot 2 _ 25 rfl (hdep ⟨2, .data⟩ (by simp) rfl) rfl)) (eval_tmp (hgot 4 _ 27 rfl (hdep ⟨4, .data⟩ (by simp) rfl) rfl)) rfl rfl) (hK _ _ (fun s hs => by cases hs; rfl) hst)
    · exact wp_ran rfl (exec_move rfl (eval_tmp (hgot 5 _ 28 rfl (hdep ⟨5, .data⟩ (by simp) rfl) rfl))) (hK _ _ (fun s hs => by cases hs; rfl) hst)
    · exact wp_ranW (wanted_yes rfl rfl rfl (hgot 6 _ 29 rfl (hdep ⟨6, .guard⟩ (by simp) rfl) rfl)) (exec_move rfl (eval_tmp ((hpar 6 rfl).trans rfl))) (hK _ _ (fun s hs => by cases hs; rfl) hst)
    · exact wp_ranW (wanted_yes rfl rfl rfl (hgot 6 _ 29 rfl (hdep ⟨6, .guard⟩ (by simp) rfl) rfl)) (exec_eqi (rfl) rfl (eval_tmp (hgot 7 _ 30 rfl (hdep ⟨7, .data⟩ (by simp) rfl) rfl)) rfl) (hK _ _ (fun s hs => by cases hs; rfl) hst)
    · exact wp_ran rfl (exec_pick rfl (eval_tmp (hgot 6 _ 29 rfl (hdep ⟨6, .data⟩ (by simp) rfl) rfl)) (eval_tmp (hgot 8 _ 31 rfl (hdep ⟨8, .data⟩ (by simp) rfl) rfl)) rfl rfl) (hK _ _ (fun s hs => by cases hs; rfl) hst)
    · exact wp_ran rfl (exec_move rfl (eval_tmp (hgot 9 _ 32 rfl (hdep ⟨9, .data⟩ (by simp) rfl) rfl))) (hK _ _ (fun s hs => by cases hs; rfl) hst)
    · exact wp_ranW (wanted_yes rfl rfl rfl (hgot 10 _ 33 rfl (hdep ⟨10, .guard⟩ (by simp) rfl) rfl)) (exec_move rfl (eval_tmp ((hpar 3 rfl).trans rfl))) (hK _ _ (fun s hs => by cases hs; rfl) hst)
    · exact wp_ranW (wanted_yes rfl rfl rfl (hgot 10 _ 33 rfl (hdep ⟨10, .guard⟩ (by simp) rfl) rfl)) (exec_len Tryd.underlying33 rfl (eval_tmp (hgot 11 _ 34 rfl (hdep ⟨11, .data⟩ (by simp) rfl) rfl))) (hK _ _ (fun s hs => by cases hs; rfl) hst)
    · exact wp_ranW (wanted_yes rfl rfl rfl (hgot 10 _ 33 rfl (hdep ⟨10, .guard⟩ (by simp) rfl) rfl)) (exec_eqi (rfl) rfl (eval_tmp (hgot 12 _ 35 rfl (hdep ⟨12, .data⟩ (by simp) rfl) rfl)) rfl) (hK _ _ (fun s hs => by cases hs; rfl) hst)
    · exact wp_ran rfl (exec_pick rfl (eval_tmp (hgot 10 _ 33 rfl (hdep ⟨10, .data⟩ (by simp) rfl) rfl)) (eval_tmp (hgot 13 _ 36 rfl (hdep ⟨13, .data⟩ (by simp) rfl) rfl)) rfl rfl) (hK _ _ (fun s hs => by cases hs; rfl) hst)
    · exact wp_ran rfl (exec_move rfl (eval_tmp (hgot 14 _ 37 rfl (hdep ⟨14, .data⟩ (by simp) rfl) rfl))) (hK _ _ (fun s hs => by cases hs; rfl) hst)
    · exact wp_ranW (wanted_yes rfl rfl rfl (hgot 15 _ 38 rfl (hdep ⟨15, .guard⟩ (by simp) rfl) rfl)) (exec_move rfl (eval_tmp ((hpar 3 rfl).trans rfl))) (hK _ _ (fun s hs => by cases hs; rfl) hst)
    · exact wp_ranW (wanted_yes rfl rfl rfl (hgot 15 _ 38 rfl (hdep ⟨15, .guard⟩ (by simp) rfl) rfl)) (exec_ixs Tryd.underlying33 size25 (by decide : 0 < 3) rfl (eval_tmp (hgot 16 _ 39 rfl (hdep ⟨16, .data⟩ (by simp) rfl) rfl)) rfl) (hK _ _ (fun s hs => by cases hs; rfl) hst)
    · exact wp_ranW (wanted_yes rfl rfl rfl (hgot 15 _ 38 rfl (hdep ⟨15, .guard⟩ (by simp) rfl) rfl)) (exec_load rfl (eval_tmp (hgot 17 _ 40 rfl (hdep ⟨17, .data⟩ (by simp) rfl) rfl)) (run_loads (hpc.keep (mv v hst) (by simp)) Tryd.underlying23 rfl (size25i k7))) (hK _ _ (fun s hs => by cases hs; rfl) hst)
    · exact wp_ranW (wanted_yes rfl rfl rfl (hgot 15 _ 38 rfl (hdep ⟨15, .guard⟩ (by simp) rfl) rfl)) (exec_load rfl (eval_tmp ((hpar 5 rfl).trans rfl)) (run_loads (Cells.of_holds (k5.keep (mv v hst) (by simp))) Tryd.underlying23 rfl (size25i s7))) (hK _ _ (fun s hs => by cases hs; rfl) hst)
    · exact wp_calledW (wanted_yes rfl rfl rfl (hgot 15 _ 38 rfl (hdep ⟨15, .guard⟩ (by simp) rfl) rfl)) (exec_call1 rfl rfl (eval_tmp (hgot 19 _ 42 rfl (hdep ⟨19, .data⟩ (by simp) rfl) rfl)) (enters_of Tryd.func35 (by kernel_rfl) rfl)) ((KY v (mm.then (mv v hst))).mono (fun e v' hh => ⟨_, hh.1, hK _ _ (fun s hs => by cases hs; rfl) (hst.then hh.2)⟩))
    · exact wp_ranW (wanted_yes rfl rfl rfl (hgot 15 _ 38 rfl (hdep ⟨15, .guard⟩ (by simp) rfl) rfl)) (exec_eq25b (decide_eq_true rfl).symm rfl (eval_tmp (hgot 18 _ 41 rfl (hdep ⟨18, .data⟩ (by simp) rfl) rfl)) (eval_tmp (hgot 20 _ 43 rfl (hdep ⟨20, .data⟩ (by simp) rfl) rfl))) (hK _ _ (fun s hs => by cases hs; rfl) hst)
    · exact wp_ran rfl (exec_pick rfl (eval_tmp (hgot 15 _ 38 rfl (hdep ⟨15, .data⟩ (by simp) rfl) rfl)) (eval_tmp (hgot 21 _ 44 rfl (hdep ⟨21, .data⟩ (by simp) rfl) rfl)) rfl rfl) (hK _ _ (fun s hs => by cases hs; rfl) hst)
    · exact wp_ran rfl (exec_move rfl (eval_tmp (hgot 22 _ 45 rfl (hdep ⟨22, .data⟩ (by simp) rfl) rfl))) (hK _ _ (fun s hs => by cases hs; rfl) hst)
    · exact wp_ranW (wanted_yes rfl rfl rfl (hgot 23 _ 46 rfl (hdep ⟨23, .guard⟩ (by simp) rfl) rfl)) (exec_bld1 HX.out.1 rfl) (hK _ _ (fun s hs => by cases hs; rfl) hst)
    · exact wp_calledW (wanted_yes rfl rfl rfl (hgot 23 _ 46 rfl (hdep ⟨23, .guard⟩ (by simp) rfl) rfl)) (exec_call1 rfl rfl (eval_tmp (hgot 24 _ 47 rfl (hdep ⟨24, .data⟩ (by simp) rfl) rfl)) (enters_of Tryd.func12 (by kernel_rfl) rfl)) ((RT v (mm.then (mv v hst))).mono (fun e v' hh => ⟨_, hh.1, hK _ _ (fun s hs => by cases hs; rfl) (hst.then hh.2)⟩))
    · exact wp_ranW (wanted_yes rfl rfl rfl (hgot 23 _ 46 rfl (hdep ⟨23, .guard⟩ (by simp) rfl) rfl)) (exec_bld2 HX.out.2.1 rfl) (hK _ _ (fun s hs => by cases hs; rfl) hst)
    · exact wp_ranW (wanted_yes rfl rfl rfl (hgot 23 _ 46 rfl (hdep ⟨23, .guard⟩ (by simp) rfl) rfl)) (exec_load rfl (eval_tmp ((hpar 1 rfl).trans rfl)) (run_loads (Cells.of_holds (k1.keep (mv v hst) (by simp))) Tryd.underlying50 rfl (size50s _ _ _ _ _ _ _))) (hK _ _ (fun s hs => by cases hs; rfl) hst)
    · exact wp_calledW (wanted_yes rfl rfl rfl (hgot 23 _ 46 rfl (hdep ⟨23, .guard⟩ (by simp) rfl) rfl)) (exec_call3 rfl rfl (eval_tmp (hgot 25 _ 48 rfl (hdep ⟨25, .data⟩ (by simp) rfl) rfl)) (eval_tmp (hgot 26 _ 49 rfl (hdep ⟨26, .data⟩ (by simp) rfl) rfl)) (eval_tmp (hgot 27 _ 50 rfl (hdep ⟨27, .data⟩ (by simp) rfl) rfl)) (enters_of Tryd.func26 (by kernel_rfl) rfl)) ((V2 A c B d v (mm.then (mv v hst)) (hOA.keep (mv v hst) (by simp)).cells (hOB.keep (mv v hst) (by simp)).cells).mono (fun e v' hh => ⟨_, hh.1, hK _ _ (fun s hs => by cases hs; rfl) (hst.then hh.2)⟩))
    · exact wp_ran rfl (exec_pick rfl (eval_tmp (hgot 23 _ 46 rfl (hdep ⟨23, .data⟩ (by simp) rfl) rfl)) (eval_tmp (hgot 28 _ 51 rfl (hdep ⟨28, .data⟩ (by simp) rfl) rfl)) rfl rfl) (hK _ _ (fun s hs => by cases hs; rfl) hst)
    · exact wp_ran rfl (exec_move rfl (eval_tmp (hgot 29 _ 52 rfl (hdep ⟨29, .data⟩ (by simp) rfl) rfl))) (hK _ _ (fun s hs => by cases hs; rfl) hst)
    · exact wp_ranW (wanted_yes rfl rfl rfl (hgot 30 _ 53 rfl (hdep ⟨30, .guard⟩ (by simp) rfl) rfl)) (exec_bld1 HX.out.1 rfl) (hK _ _ (fun s hs => by cases hs; rfl) hst)
    · exact wp_calledW (wanted_yes rfl rfl rfl (hgot 30 _ 53 rfl (hdep ⟨30, .guard⟩ (by simp) rfl) rfl)) (exec_call1 rfl rfl (eval_tmp (hgot 31 _ 54 rfl (hdep ⟨31, .data⟩ (by simp) rfl) rfl)) (enters_of Tryd.func12 (by kernel_rfl) rfl)) ((RT v (mm.then (mv v hst))).mono (fun e v' hh => ⟨_, hh.1, hK _ _ (fun s hs => by cases hs; rfl) (hst.then hh.2)⟩))
    · exact wp_ranW (wanted_yes rfl rfl rfl (hgot 30 _ 53 rfl (hdep ⟨30, .guard⟩ (by simp) rfl) rfl)) (exec_bld3 HX.out.2.2 rfl) (hK _ _ (fun s hs => by cases hs; rfl) hst)
    · exact wp_ranW (wanted_yes rfl rfl rfl (hgot 30 _ 53 rfl (hdep ⟨30, .guard⟩ (by simp) rfl) rfl)) (exec_load rfl (eval_tmp ((hpar 1 rfl).trans rfl)) (run_loads (Cells.of_holds (k1.keep (mv v hst) (by simp))) Tryd.underlying50 rfl (size50s _ _ _ _ _ _ _))) (hK _ _ (fun s hs => by cases hs; rfl) hst)
    · exact wp_calledW (wanted_yes rfl rfl rfl (hgot 30 _ 53 rfl (hdep ⟨30, .guard⟩ (by simp) rfl) rfl)) (exec_call3 rfl rfl (eval_tmp (hgot 32 _ 55 rfl (hdep ⟨32, .data⟩ (by simp) rfl) rfl)) (eval_tmp (hgot 33 _ 56 rfl (hdep ⟨33, .data⟩ (by simp) rfl) rfl)) (eval_tmp (hgot 34 _ 57 rfl (hdep ⟨34, .data⟩ (by simp) rfl) rfl)) (enters_of Tryd.func26 (by kernel_rfl) rfl)) ((V3 A c B d v (mm.then (mv v hst)) (hOA.keep (mv v hst) (by simp)).cells (hOB.keep (mv v hst) (by simp)).cells).mono (fun e v' hh => ⟨_, hh.1, hK _ _ (fun s hs => by cases hs; rfl) (hst.then hh.2)⟩))
    · exact wp_ranW (wanted_yes rfl rfl rfl (hgot 30 _ 53 rfl (hdep ⟨30, .guard⟩ (by simp) rfl) rfl)) (exec_not rfl (eval_tmp (hgot 35 _ 58 rfl (hdep ⟨35, .data⟩ (by simp) rfl) rfl))) (hK _ _ (fun s hs => by cases hs; rfl) hst)
    · exact wp_ran rfl (exec_pick rfl (eval_tmp (hgot 30 _ 53 rfl (hdep ⟨30, .data⟩ (by simp) rfl) rfl)) (eval_tmp (hgot 36 _ 59 rfl (hdep ⟨36, .data⟩ (by simp) rfl) rfl)) rfl rfl) (hK _ _ (fun s hs => by cases hs; rfl) hst)
    · exact wp_ran rfl (exec_assign rfl (eval_tmp (hgot 37 _ 60 rfl (hdep ⟨37, .data⟩ (by simp) rfl) rfl))) (hK _ _ (fun s hs => by cases hs; rfl) hst)
  case fin =>
  intro lz vr hlz hst
  have mq := (Mod.drew [] wq).then hst
  replace mm := mm.then mq
  simp only [setAll, List.foldl_cons, List.foldl_nil, List.set_cons_succ, List.set_cons_zero]
  go_wp2_with fail
  go_ret
  exact ⟨rfl, mm⟩
end Go.Proofs.YtbacmeaeehhhfaaDoor
