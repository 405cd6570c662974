/-
  ShaOrders: the walk. My own work.
-/
import Derived.Test.YtgojheoelcmcpaaDoorEqs
namespace Go.Proofs.YtgojheoelcmcpaaDoor
open Go.RowKit
/-! By Less digests have one order. -/
theorem cmp_self (a : List UInt8) : Lib.compareBytes a a = 0 := by
  induction a with
  | nil => rfl
  | cons x a ih => simp [Lib.compareBytes, UInt8.lt_irrefl, ih]
theorem less_irr (a : List UInt8) : lessN a a = false := by simp [lessN, cmp_self]
theorem less_not (a b : List UInt8) (h : a.length = b.length) : lessN a b = true → lessN b a = false := by
  induction a generalizing b with
  | nil => match b, h with | [], _ => simp [lessN, Lib.compareBytes]
  | cons x a ih =>
    match b, h with
    | y :: b, h =>
      intro hl
      simp only [lessN, Lib.compareBytes] at hl ⊢
      by_cases h1 : x < y
      · have h2 : ¬ y < x := UInt8.lt_asymm h1
        simp [h1, h2]
      · by_cases h2 : y < x
        · simp [h1, h2] at hl
        · simp only [h1, h2, if_false] at hl ⊢
          have := ih b (by simpa using h)
          exact this hl
theorem less_eq (a b : List UInt8) (h : a.length = b.length) (h1 : lessN a b = false) (h2 : lessN b a = false) : a = b := by
  induction a generalizing b with
  | nil => match b, h with | [], _ => rfl
  | cons x a ih =>
    match b, h with
    | y :: b, h =>
      simp only [lessN, Lib.compareBytes] at h1 h2
      by_cases h3 : x < y
      · simp [h3] at h1
      · by_cases h4 : y < x
        · simp [h4] at h2
        · have hxy : x = y := by
            apply UInt8.toNat_inj.1
            rw [UInt8.lt_iff_toNat_lt] at h3 h4
            omega
          simp only [h3, h4, if_false] at h1 h2
          rw [hxy, ih b (by simpa using h) (by simpa [lessN] using h1) (by simpa [lessN] using h2)]
theorem less_trans (a b c : List UInt8) (h : a.length = b.length) (h' : b.length = c.length) (h1 : lessN a b = true) (h2 : lessN b c = true) : lessN a c = true := by
  induction a generalizing b c with
  | nil => match b, h with | [], _ => simp [lessN, Lib.compareBytes] at h1
  | cons x a ih =>
    match b, h, c, h' with
    | y :: b, h, z :: c, h' =>
      simp only [lessN, Lib.compareBytes] at h1 h2 ⊢
      by_cases a1 : x < y
      · by_cases a2 : y < z
        · simp [UInt8.lt_trans a1 a2]
        · by_cases a3 : z < y
          · simp [a2, a3] at h2
          · have hyz : y = z := by
              apply UInt8.toNat_inj.1
              rw [UInt8.lt_iff_toNat_lt] at a2 a3
              omega
            subst hyz
            simp [a1]
      · by_cases a3 : y < x
        · simp [a1, a3] at h1
        · have hxy : x = y := by
            apply UInt8.toNat_inj.1
            rw [UInt8.lt_iff_toNat_lt] at a1 a3
            omega
          subst hxy
          simp only [UInt8.lt_irrefl, if_false] at h1
          by_cases a4 : x < z
          · simp [a4]
          · by_cases a5 : z < x
            · simp [a4, a5] at h2
            · simp only [a4, a5, if_false] at h2 ⊢
              have := ih b c (by simpa using h) (by simpa using h') (by simpa [lessN] using h1) (by simpa [lessN] using h2)
              simpa [lessN] using this
set_option maxRecDepth 1000000 in
set_option maxHeartbeats 8000000 in
theorem orders_w (a b c : List UInt8) (ha : a.length = 32) (hb : b.length = 32) (hc : c.length = 32) (w : World) (G : Cells w (some ⟨0, 0, none⟩) (Kc.map wd)) (G1 : Cells w (some ⟨1, 0, none⟩) (Sc.map wd)) :
    Calls Tryd.prog 9 #[.agg (a.map oct).toArray, .agg (b.map oct).toArray, .agg (c.map oct).toArray] w fun e w' => e = .returned (.bool true) ∧ Mod [] w w' := by
  have hW := fun (v : World) (m : Mod [] w v) => wakes_c v (G.keep m (by simp)) (G1.keep m (by simp))
  have laa := fun (v : World) => less_c a a ha ha v
  have lab := fun (v : World) => less_c a b ha hb v
  have lba := fun (v : World) => less_c b a hb ha v
  have lbc := fun (v : World) => less_c b c hb hc v
  have lac := fun (v : World) => less_c a c ha hc v
  rw [less_irr] at laa
  have htr := less_trans a b c (by omega) (by omega)
  have hnt := less_not a b (by omega)
  have hne := less_eq a b (by omega)
  have HB0 := Lib.hid (And.intro ha (And.intro hb (And.intro hc laa)))
  have HW := Lib.hid (And.intro hW (And.intro lbc lac))
  clear hW laa lbc lac G G1 ha hb hc
  go_enter Tryd.func9, Tryd.ntmps9
  go_wp2_with (first
    | (with_reducible refine wpList_boxes (o := ⟨some 3, .box 40 (.tmp 0), _, _, _, _⟩) rfl 40 (.tmp 0) rfl _ rfl (a.map oct) rfl ?_; intro w1 hb1 m1 z1; replace z1 := Lib.hid z1)
    | (with_reducible refine wpList_boxes (o := ⟨some 4, .box 40 (.tmp 1), _, _, _, _⟩) rfl 40 (.tmp 1) rfl _ rfl (b.map oct) rfl ?_; intro w2 hb2 m2 z2; replace z2 := Lib.hid z2)
    | (with_reducible refine wpList_boxes (o := ⟨some 5, .box 40 (.tmp 2), _, _, _, _⟩) rfl 40 (.tmp 2) rfl _ rfl (c.map oct) rfl ?_; intro w3 hb3 m3 z3; replace z3 := Lib.hid z3))
  obtain ⟨g3, e1⟩ : ∃ b, b = w.heap.size := ⟨_, rfl⟩
  obtain ⟨g4, e2⟩ : ∃ b, b = w1.heap.size := ⟨_, rfl⟩
  obtain ⟨g5, e3⟩ : ∃ b, b = w2.heap.size := ⟨_, rfl⟩
  have mm := (m1.then m2).then m3
  replace hb1 := (hb1.keep m2 (by simp)).keep m3 (by simp)
  replace hb2 := hb2.keep m3 (by simp)
  rw [← e1] at hb1
  rw [← e2] at hb2
  rw [← e3] at hb3
  rw [← e1, ← e2, ← e3]
  clear e1 e2 e3 m1 m2 m3 z1 z2 z3
  refine (HW.out.1 _ mm).mono ?_
  rintro e w5 ⟨rfl, m5⟩
  have hha := hb1.keep m5 (by simp)
  have hhb := hb2.keep m5 (by simp)
  have hhc := hb3.keep m5 (by simp)
  replace mm := mm.then m5
  clear hb1 hb2 hb3 m5
  go_wp2_with fail
  have ha : Holds w5.drew g3 40 (a.map oct) := hha
  have hb : Holds w5.drew g4 40 (b.map oct) := hhb
  have hc : Holds w5.drew g5 40 (c.map oct) := hhc
  clear hha hhb hhc
  by_cases hab : lessN a b = true
  · have hba := hnt hab
    rw [hab] at lab
    rw [hba] at lba
    have HB := Lib.hid (And.intro HB0.out.1 (And.intro HB0.out.2.1 (And.intro HB0.out.2.2.1 (And.intro HB0.out.2.2.2 (And.intro lab lba)))))
    have HS : RowKit.Hid _ := Lib.hid (show (!decide (a = b)) = true from by have : a ≠ b := (fun h => by rw [h, less_irr] at hab; cases hab); simp [this])
    have HT := Lib.hid (htr hab)
    clear htr hnt hne lab lba hab hba HB0
    refine wp_region_lit1 [.agg (a.map oct).toArray, .agg (b.map oct).toArray, .agg (c.map oct).toArray, .pointer (some ⟨g3, 0, none⟩), .pointer (some ⟨g4, 0, none⟩), .pointer (some ⟨g5, 0, none⟩), .bool false, .bool true, .bool false, .agg (a.map oct).toArray, .agg (a.map oct).toArray, .bool false, .bool false, .agg (a.map oct).toArray, .agg (b.map oct).toArray, .bool true, .bool true, .agg (b.map oct).toArray, .agg (a.map oct).toArray, .bool false, .bool false, .bool false, .bool false, .agg (a.map oct).toArray, .agg (b.map oct).toArray, .bool true, .agg (a.map oct).toArray, .agg (b.map oct).toArray, .bool true, .bool true, undef, undef, undef, .bool true, .bool false, .bool false, undef, undef, undef, undef, undef, undef, undef, undef, undef, undef, undef, undef, undef, undef, undef] 51 [0, 1, 2, 3, 4, 5, 6, 7, 8, 36, 37, 38, 39, 40, 41, 42, 43, 44, 45, 46, 47, 48, 49, 50]
      (fun _ v => Mod [] w5.drew v) []
      (by kernel_rfl) rfl rfl rfl rfl (Mod.refl _ _) (by kernel_rfl) (by kernel_rfl) ?step ?fin
    case step =>
      intro lz T v j o hj hlj hdep hst hpar hgot hcl K hK
      have hjn : j < 27 := (Array.getElem?_eq_some_iff.1 hj).1
      obtain rfl | rfl | rfl | rfl | rfl | rfl | rfl | rfl | rfl | rfl | rfl | rfl | rfl | rfl | rfl | rfl | rfl | rfl | rfl | rfl | rfl | rfl | rfl | rfl | rfl | rfl | rfl : j = 0 ∨ j = 1 ∨ j = 2 ∨ j = 3 ∨ j = 4 ∨ j = 5 ∨ j = 6 ∨ j = 7 ∨ j = 8 ∨ j = 9 ∨ j = 10 ∨ j = 11 ∨ j = 12 ∨ j = 13 ∨ j = 14 ∨ j = 15 ∨ j = 16 ∨ j = 17 ∨ j = 18 ∨ j = 19 ∨ j = 20 ∨ j = 21 ∨ j = 22 ∨ j = 23 ∨ j = 24 ∨ j = 25 ∨ j = 26 := by omega
      all_goals (have hj' := Option.some.inj (hj : some _ = some o); subst hj'; clear hj)
      · exact wp_ran rfl (exec_load rfl (eval_tmp (hpar 3 (by simp))) (run_loads (Cells.of_holds (ha.keep hst (by simp))) Tryd.underlying40 rfl (size40_of _ HB.out.1))) (hK _ _ (fun s hs => by cases hs; rfl) hst)
      · exact wp_ran rfl (exec_load rfl (eval_tmp (hpar 3 (by simp))) (run_loads (Cells.of_holds (ha.keep hst (by simp))) Tryd.underlying40 rfl (size40_of _ HB.out.1))) (hK _ _ (fun s hs => by cases hs; rfl) hst)
      · exact wp_called rfl (exec_call2 rfl rfl (eval_tmp (hgot 0 _ 9 rfl (hdep ⟨0, .data⟩ (by simp) rfl) rfl)) (eval_tmp (hgot 1 _ 10 rfl (hdep ⟨1, .data⟩ (by simp) rfl) rfl)) (enters_of Tryd.func30 (by kernel_rfl) rfl)) ((HB.out.2.2.2.1 _).mono (fun e v' hh => ⟨_, hh.1, hK _ _ (fun s hs => by cases hs; rfl) (hst.then hh.2)⟩))
      · exact wp_ran rfl (exec_move rfl (eval_tmp (hgot 2 _ 11 rfl (hdep ⟨2, .data⟩ (by simp) rfl) rfl))) (hK _ _ (fun s hs => by cases hs; rfl) hst)
      · exact wp_ranW (wanted_yes rfl rfl rfl (hgot 3 _ 12 rfl (hdep ⟨3, .guard⟩ (by simp) rfl) rfl)) (exec_load rfl (eval_tmp (hpar 3 (by simp))) (run_loads (Cells.of_holds (ha.keep hst (by simp))) Tryd.underlying40 rfl (size40_of _ HB.out.1))) (hK _ _ (fun s hs => by cases hs; rfl) hst)
      · exact wp_ranW (wanted_yes rfl rfl rfl (hgot 3 _ 12 rfl (hdep ⟨3, .guard⟩ (by simp) rfl) rfl)) (exec_load rfl (eval_tmp (hpar 4 (by simp))) (run_loads (Cells.of_holds (hb.keep hst (by simp))) Tryd.underlying40 rfl (size40_of _ HB.out.2.1))) (hK _ _ (fun s hs => by cases hs; rfl) hst)
      · exact wp_calledW (wanted_yes rfl rfl rfl (hgot 3 _ 12 rfl (hdep ⟨3, .guard⟩ (by simp) rfl) rfl)) (exec_call2 rfl rfl (eval_tmp (hgot 4 _ 13 rfl (hdep ⟨4, .data⟩ (by simp) rfl) rfl)) (eval_tmp (hgot 5 _ 14 rfl (hdep ⟨5, .data⟩ (by simp) rfl) rfl)) (enters_of Tryd.func30 (by kernel_rfl) rfl)) ((HB.out.2.2.2.2.1 _).mono (fun e v' hh => ⟨_, hh.1, hK _ _ (fun s hs => by cases hs; rfl) (hst.then hh.2)⟩))
      · exact wp_ranW (wanted_yes rfl rfl rfl (hgot 3 _ 12 rfl (hdep ⟨3, .guard⟩ (by simp) rfl) rfl)) (exec_move rfl (eval_tmp (hgot 6 _ 15 rfl (hdep ⟨6, .data⟩ (by simp) rfl) rfl))) (hK _ _ (fun s hs => by cases hs; rfl) hst)
      · exact wp_ranW (wanted_yes rfl rfl rfl (hgot 7 _ 16 rfl (hdep ⟨7, .guard⟩ (by simp) rfl) rfl)) (exec_load rfl (eval_tmp (hpar 4 (by simp))) (run_loads (Cells.of_holds (hb.keep hst (by simp))) Tryd.underlying40 rfl (size40_of _ HB.out.2.1))) (hK _ _ (fun s hs => by cases hs; rfl) hst)
      · exact wp_ranW (wanted_yes rfl rfl rfl (hgot 7 _ 16 rfl (hdep ⟨7, .guard⟩ (by simp) rfl) rfl)) (exec_load rfl (eval_tmp (hpar 3 (by simp))) (run_loads (Cells.of_holds (ha.keep hst (by simp))) Tryd.underlying40 rfl (size40_of _ HB.out.1))) (hK _ _ (fun s hs => by cases hs; rfl) hst)
      · exact wp_calledW (wanted_yes rfl rfl rfl (hgot 7 _ 16 rfl (hdep ⟨7, .guard⟩ (by simp) rfl) rfl)) (exec_call2 rfl rfl (eval_tmp (hgot 8 _ 17 rfl (hdep ⟨8, .data⟩ (by simp) rfl) rfl)) (eval_tmp (hgot 9 _ 18 rfl (hdep ⟨9, .data⟩ (by simp) rfl) rfl)) (enters_of Tryd.func30 (by kernel_rfl) rfl)) ((HB.out.2.2.2.2.2 _).mono (fun e v' hh => ⟨_, hh.1, hK _ _ (fun s hs => by cases hs; rfl) (hst.then hh.2)⟩))
      · exact wp_ranW (wanted_yes rfl rfl rfl (hgot 3 _ 12 rfl (hdep ⟨3, .guard⟩ (by simp) rfl) rfl)) (exec_pick rfl (eval_tmp (hgot 7 _ 16 rfl (hdep ⟨7, .data⟩ (by simp) rfl) rfl)) (eval_tmp (hgot 10 _ 19 rfl (hdep ⟨10, .data⟩ (by simp) rfl) rfl)) rfl rfl) (hK _ _ (fun s hs => by cases hs; rfl) hst)
      · exact wp_ran rfl (exec_pick rfl (eval_tmp (hgot 3 _ 12 rfl (hdep ⟨3, .data⟩ (by simp) rfl) rfl)) rfl (eval_tmp (hgot 11 _ 20 rfl (hdep ⟨11, .data⟩ (by simp) rfl) rfl)) rfl) (hK _ _ (fun s hs => by cases hs; rfl) hst)
      · exact wp_ran rfl (exec_move rfl (eval_tmp (hgot 12 _ 21 rfl (hdep ⟨12, .data⟩ (by simp) rfl) rfl))) (hK _ _ (fun s hs => by cases hs; rfl) hst)
      · exact wp_ranW (wanted_yes rfl rfl rfl (hgot 13 _ 22 rfl (hdep ⟨13, .guard⟩ (by simp) rfl) rfl)) (exec_load rfl (eval_tmp (hpar 3 (by simp))) (run_loads (Cells.of_holds (ha.keep hst (by simp))) Tryd.underlying40 rfl (size40_of _ HB.out.1))) (hK _ _ (fun s hs => by cases hs; rfl) hst)
      · exact wp_ranW (wanted_yes rfl rfl rfl (hgot 13 _ 22 rfl (hdep ⟨13, .guard⟩ (by simp) rfl) rfl)) (exec_load rfl (eval_tmp (hpar 4 (by simp))) (run_loads (Cells.of_holds (hb.keep hst (by simp))) Tryd.underlying40 rfl (size40_of _ HB.out.2.1))) (hK _ _ (fun s hs => by cases hs; rfl) hst)
      · exact wp_ranW (wanted_yes rfl rfl rfl (hgot 13 _ 22 rfl (hdep ⟨13, .guard⟩ (by simp) rfl) rfl)) (exec_ne40 HB.out.1 HB.out.2.1 rfl (eval_tmp (hgot 14 _ 23 rfl (hdep ⟨14, .data⟩ (by simp) rfl) rfl)) (eval_tmp (hgot 15 _ 24 rfl (hdep ⟨15, .data⟩ (by simp) rfl) rfl))) (hK _ _ (fun s hs => by cases hs; rw [HS.out]; rfl) hst)
      · exact wp_ranW (wanted_yes rfl rfl rfl (hgot 13 _ 22 rfl (hdep ⟨13, .guard⟩ (by simp) rfl) rfl)) (exec_load rfl (eval_tmp (hpar 3 (by simp))) (run_loads (Cells.of_holds (ha.keep hst (by simp))) Tryd.underlying40 rfl (size40_of _ HB.out.1))) (hK _ _ (fun s hs => by cases hs; rfl) hst)
      · exact wp_ranW (wanted_yes rfl rfl rfl (hgot 13 _ 22 rfl (hdep ⟨13, .guard⟩ (by simp) rfl) rfl)) (exec_load rfl (eval_tmp (hpar 4 (by simp))) (run_loads (Cells.of_holds (hb.keep hst (by simp))) Tryd.underlying40 rfl (size40_of _ HB.out.2.1))) (hK _ _ (fun s hs => by cases hs; rfl) hst)
      · exact wp_calledW (wanted_yes rfl rfl rfl (hgot 13 _ 22 rfl (hdep ⟨13, .guard⟩ (by simp) rfl) rfl)) (exec_call2 rfl rfl (eval_tmp (hgot 17 _ 26 rfl (hdep ⟨17, .data⟩ (by simp) rfl) rfl)) (eval_tmp (hgot 18 _ 27 rfl (hdep ⟨18, .data⟩ (by simp) rfl) rfl)) (enters_of Tryd.func30 (by kernel_rfl) rfl)) ((HB.out.2.2.2.2.1 _).mono (fun e v' hh => ⟨_, hh.1, hK _ _ (fun s hs => by cases hs; rfl) (hst.then hh.2)⟩))
      · exact wp_ranW (wanted_yes rfl rfl rfl (hgot 13 _ 22 rfl (hdep ⟨13, .guard⟩ (by simp) rfl) rfl)) (exec_move rfl (eval_tmp (hgot 19 _ 28 rfl (hdep ⟨19, .data⟩ (by simp) rfl) rfl))) (hK _ _ (fun s hs => by cases hs; rfl) hst)
      · exact wp_skip (wanted_no rfl rfl rfl rfl (hgot 20 _ 29 rfl (hdep ⟨20, .guard⟩ (by simp) rfl) rfl)) (hK _ _ (fun s hs => by cases hs; rfl) hst)
      · exact wp_skip (wanted_no rfl rfl rfl rfl (hgot 20 _ 29 rfl (hdep ⟨20, .guard⟩ (by simp) rfl) rfl)) (hK _ _ (fun s hs => by cases hs; rfl) hst)
      · exact wp_skip (wanted_no rfl rfl rfl rfl (hgot 20 _ 29 rfl (hdep ⟨20, .guard⟩ (by simp) rfl) rfl)) (hK _ _ (fun s hs => by cases hs; rfl) hst)
      · exact wp_ranW (wanted_yes rfl rfl rfl (hgot 13 _ 22 rfl (hdep ⟨13, .guard⟩ (by simp) rfl) rfl)) (exec_pick rfl (eval_tmp (hgot 20 _ 29 rfl (hdep ⟨20, .data⟩ (by simp) rfl) rfl)) rfl (eval_tmp (hgot 23 _ 32 rfl (hdep ⟨23, .data⟩ (by simp) rfl) rfl)) rfl) (hK _ _ (fun s hs => by cases hs; rfl) hst)
      · exact wp_ranW (wanted_yes rfl rfl rfl (hgot 13 _ 22 rfl (hdep ⟨13, .guard⟩ (by simp) rfl) rfl)) (exec_neb Tryd.underlying4 rfl (eval_tmp (hgot 16 _ 25 rfl (hdep ⟨16, .data⟩ (by simp) rfl) rfl)) (eval_tmp (hgot 24 _ 33 rfl (hdep ⟨24, .data⟩ (by simp) rfl) rfl))) (hK _ _ (fun s hs => by cases hs; rfl) hst)
      · exact wp_ran rfl (exec_pick rfl (eval_tmp (hgot 13 _ 22 rfl (hdep ⟨13, .data⟩ (by simp) rfl) rfl)) rfl (eval_tmp (hgot 25 _ 34 rfl (hdep ⟨25, .data⟩ (by simp) rfl) rfl)) rfl) (hK _ _ (fun s hs => by cases hs; rfl) hst)
    case fin =>
      intro lz v hl hst
      have mn := mm.then (Mod.drewed hst)
      have na := Holds.keep (w := w5.drew) ha hst (by simp)
      have nb := Holds.keep (w := w5.drew) hb hst (by simp)
      have nc := Holds.keep (w := w5.drew) hc hst (by simp)
      clear hst hl ha hb hc mm
      try dsimp only
      go_wp2_with (first
        | (with_reducible refine wpList_loads (o := ⟨some 36, .load 40 (.tmp 3), _, _, _, _⟩) rfl 40 (.tmp 3) rfl g3 0 _ rfl (Cells.of_holds na) _ Tryd.underlying40 rfl (size40_of _ HB.out.1) (.agg (a.map oct).toArray) rfl ?_)
        | (with_reducible refine wpList_loads (o := ⟨some 37, .load 40 (.tmp 4), _, _, _, _⟩) rfl 40 (.tmp 4) rfl g4 0 _ rfl (Cells.of_holds nb) _ Tryd.underlying40 rfl (size40_of _ HB.out.2.1) (.agg (b.map oct).toArray) rfl ?_))
      refine (HB.out.2.2.2.2.1 _).mono ?_
      rintro e w6 ⟨rfl, m6⟩
      replace na := na.keep m6 (by simp)
      replace nb := nb.keep m6 (by simp)
      replace nc := nc.keep m6 (by simp)
      replace mn := mn.then m6
      clear m6
      have lbc := HW.out.2.1
      have lac := HW.out.2.2
      cases hbc : lessN b c with
      | false =>
        rw [hbc] at lbc
        have H1 := Lib.hid lbc
        clear hbc lbc lac
        go_wp2_with (first
          | (with_reducible refine wpList_loadsW (o := ⟨some 41, .load 40 (.tmp 4), _, _, _, _⟩) (by with_unfolding_all rfl) 40 (.tmp 4) rfl g4 0 _ rfl (Cells.of_holds nb) _ Tryd.underlying40 rfl (size40_of _ HB.out.2.1) (.agg (b.map oct).toArray) rfl ?_)
          | (with_reducible refine wpList_loadsW (o := ⟨some 42, .load 40 (.tmp 5), _, _, _, _⟩) (by with_unfolding_all rfl) 40 (.tmp 5) rfl g5 0 _ rfl (Cells.of_holds nc) _ Tryd.underlying40 rfl (size40_of _ HB.out.2.2.1) (.agg (c.map oct).toArray) rfl ?_)
          | (refine (H1.out _).mono ?_; rintro e w7 ⟨rfl, m7⟩))
        go_ret
        exact ⟨rfl, mn.then m7⟩
      | true =>
        have hac : lessN a c = true := HT.out hbc
        rw [hbc] at lbc
        rw [hac] at lac
        have H1 := Lib.hid (And.intro lbc lac)
        clear hbc hac lbc lac
        go_wp2_with (first
          | (with_reducible refine wpList_loadsW (o := ⟨some 41, .load 40 (.tmp 4), _, _, _, _⟩) (by with_unfolding_all rfl) 40 (.tmp 4) rfl g4 0 _ rfl (Cells.of_holds nb) _ Tryd.underlying40 rfl (size40_of _ HB.out.2.1) (.agg (b.map oct).toArray) rfl ?_)
          | (with_reducible refine wpList_loadsW (o := ⟨some 42, .load 40 (.tmp 5), _, _, _, _⟩) (by with_unfolding_all rfl) 40 (.tmp 5) rfl g5 0 _ rfl (Cells.of_holds nc) _ Tryd.underlying40 rfl (size40_of _ HB.out.2.2.1) (.agg (c.map oct).toArray) rfl ?_)
          | (refine (H1.out.1 _).mono ?_; rintro e w7 ⟨rfl, m7⟩; replace na := na.keep m7 (by simp); replace nc := nc.keep m7 (by simp))
          | (with_reducible refine wpList_loadsW (o := ⟨some 47, .load 40 (.tmp 3), _, _, _, _⟩) (by with_unfolding_all rfl) 40 (.tmp 3) rfl g3 0 _ rfl (Cells.of_holds na) _ Tryd.underlying40 rfl (size40_of _ HB.out.1) (.agg (a.map oct).toArray) rfl ?_)
          | (with_reducible refine wpList_loadsW (o := ⟨some 48, .load 40 (.tmp 5), _, _, _, _⟩) (by with_unfolding_all rfl) 40 (.tmp 5) rfl g5 0 _ rfl (Cells.of_holds nc) _ Tryd.underlying40 rfl (size40_of _ HB.out.2.2.1) (.agg (c.map oct).toArray) rfl ?_)
          | (refine (H1.out.2 _).mono ?_; rintro e w8 ⟨rfl, m8⟩))
        go_ret
        exact ⟨rfl, (mn.then m7).then m8⟩
  · replace hab : lessN a b = false := by simpa using hab
    by_cases hba : lessN b a = true
    · skip
      rw [hab] at lab
      rw [hba] at lba
      have HB := Lib.hid (And.intro HB0.out.1 (And.intro HB0.out.2.1 (And.intro HB0.out.2.2.1 (And.intro HB0.out.2.2.2 (And.intro lab lba)))))
      have HS : RowKit.Hid _ := Lib.hid (show (!decide (a = b)) = true from by have : a ≠ b := (fun h => by rw [h, less_irr] at hba; cases hba); simp [this])
      have HT := Lib.hid (htr)
      clear htr hnt hne lab lba hab hba HB0
      refine wp_region_lit1 [.agg (a.map oct).toArray, .agg (b.map oct).toArray, .agg (c.map oct).toArray, .pointer (some ⟨g3, 0, none⟩), .pointer (some ⟨g4, 0, none⟩), .pointer (some ⟨g5, 0, none⟩), .bool false, .bool true, .bool false, .agg (a.map oct).toArray, .agg (a.map oct).toArray, .bool false, .bool false, .agg (a.map oct).toArray, .agg (b.map oct).toArray, .bool false, .bool false, undef, undef, undef, .bool false, .bool false, .bool false, .agg (a.map oct).toArray, .agg (b.map oct).toArray, .bool true, .agg (a.map oct).toArray, .agg (b.map oct).toArray, .bool false, .bool false, .agg (b.map oct).toArray, .agg (a.map oct).toArray, .bool true, .bool true, .bool false, .bool false, undef, undef, undef, undef, undef, undef, undef, undef, undef, undef, undef, undef, undef, undef, undef] 51 [0, 1, 2, 3, 4, 5, 6, 7, 8, 36, 37, 38, 39, 40, 41, 42, 43, 44, 45, 46, 47, 48, 49, 50]
        (fun _ v => Mod [] w5.drew v) []
        (by kernel_rfl) rfl rfl rfl rfl (Mod.refl _ _) (by kernel_rfl) (by kernel_rfl) ?step ?fin
      case step =>
        intro lz T v j o hj hlj hdep hst hpar hgot hcl K hK
        have hjn : j < 27 := (Array.getElem?_eq_some_iff.1 hj).1
        obtain rfl | rfl | rfl | rfl | rfl | rfl | rfl | rfl | rfl | rfl | rfl | rfl | rfl | rfl | rfl | rfl | rfl | rfl | rfl | rfl | rfl | rfl | rfl | rfl | rfl | rfl | rfl : j = 0 ∨ j = 1 ∨ j = 2 ∨ j = 3 ∨ j = 4 ∨ j = 5 ∨ j = 6 ∨ j = 7 ∨ j = 8 ∨ j = 9 ∨ j = 10 ∨ j = 11 ∨ j = 12 ∨ j = 13 ∨ j = 14 ∨ j = 15 ∨ j = 16 ∨ j = 17 ∨ j = 18 ∨ j = 19 ∨ j = 20 ∨ j = 21 ∨ j = 22 ∨ j = 23 ∨ j = 24 ∨ j = 25 ∨ j = 26 := by omega
        all_goals (have hj' := Option.some.inj (hj : some _ = some o); subst hj'; clear hj)
        · exact wp_ran rfl (exec_load rfl (eval_tmp (hpar 3 (by simp))) (run_loads (Cells.of_holds (ha.keep hst (by simp))) Tryd.underlying40 rfl (size40_of _ HB.out.1))) (hK _ _ (fun s hs => by cases hs; rfl) hst)
        · exact wp_ran rfl (exec_load rfl (eval_tmp (hpar 3 (by simp))) (run_loads (Cells.of_holds (ha.keep hst (by simp))) Tryd.underlying40 rfl (size40_of _ HB.out.1))) (hK _ _ (fun s hs => by cases hs; rfl) hst)
        · exact wp_called rfl (exec_call2 rfl rfl (eval_tmp (hgot 0 _ 9 rfl (hdep ⟨0, .data⟩ (by simp) rfl) rfl)) (eval_tmp (hgot 1 _ 10 rfl (hdep ⟨1, .data⟩ (by simp) rfl) rfl)) (enters_of Tryd.func30 (by kernel_rfl) rfl)) ((HB.out.2.2.2.1 _).mono (fun e v' hh => ⟨_, hh.1, hK _ _ (fun s hs => by cases hs; rfl) (hst.then hh.2)⟩))
        · exact wp_ran rfl (exec_move rfl (eval_tmp (hgot 2 _ 11 rfl (hdep ⟨2, .data⟩ (by simp) rfl) rfl))) (hK _ _ (fun s hs => by cases hs; rfl) hst)
        · exact wp_ranW (wanted_yes rfl rfl rfl (hgot 3 _ 12 rfl (hdep ⟨3, .guard⟩ (by simp) rfl) rfl)) (exec_load rfl (eval_tmp (hpar 3 (by simp))) (run_loads (Cells.of_holds (ha.keep hst (by simp))) Tryd.underlying40 rfl (size40_of _ HB.out.1))) (hK _ _ (fun s hs => by cases hs; rfl) hst)
        · exact wp_ranW (wanted_yes rfl rfl rfl (hgot 3 _ 12 rfl (hdep ⟨3, .guard⟩ (by simp) rfl) rfl)) (exec_load rfl (eval_tmp (hpar 4 (by simp))) (run_loads (Cells.of_holds (hb.keep hst (by simp))) Tryd.underlying40 rfl (size40_of _ HB.out.2.1))) (hK _ _ (fun s hs => by cases hs; rfl) hst)
        · exact wp_calledW (wanted_yes rfl rfl rfl (hgot 3 _ 12 rfl (hdep ⟨3, .guard⟩ (by simp) rfl) rfl)) (exec_call2 rfl rfl (eval_tmp (hgot 4 _ 13 rfl (hdep ⟨4, .data⟩ (by simp) rfl) rfl)) (eval_tmp (hgot 5 _ 14 rfl (hdep ⟨5, .data⟩ (by simp) rfl) rfl)) (enters_of Tryd.func30 (by kernel_rfl) rfl)) ((HB.out.2.2.2.2.1 _).mono (fun e v' hh => ⟨_, hh.1, hK _ _ (fun s hs => by cases hs; rfl) (hst.then hh.2)⟩))
        · exact wp_ranW (wanted_yes rfl rfl rfl (hgot 3 _ 12 rfl (hdep ⟨3, .guard⟩ (by simp) rfl) rfl)) (exec_move rfl (eval_tmp (hgot 6 _ 15 rfl (hdep ⟨6, .data⟩ (by simp) rfl) rfl))) (hK _ _ (fun s hs => by cases hs; rfl) hst)
        · exact wp_skip (wanted_no rfl rfl rfl rfl (hgot 7 _ 16 rfl (hdep ⟨7, .guard⟩ (by simp) rfl) rfl)) (hK _ _ (fun s hs => by cases hs; rfl) hst)
        · exact wp_skip (wanted_no rfl rfl rfl rfl (hgot 7 _ 16 rfl (hdep ⟨7, .guard⟩ (by simp) rfl) rfl)) (hK _ _ (fun s hs => by cases hs; rfl) hst)
        · exact wp_skip (wanted_no rfl rfl rfl rfl (hgot 7 _ 16 rfl (hdep ⟨7, .guard⟩ (by simp) rfl) rfl)) (hK _ _ (fun s hs => by cases hs; rfl) hst)
        · exact wp_ranW (wanted_yes rfl rfl rfl (hgot 3 _ 12 rfl (hdep ⟨3, .guard⟩ (by simp) rfl) rfl)) (exec_pick rfl (eval_tmp (hgot 7 _ 16 rfl (hdep ⟨7, .data⟩ (by simp) rfl) rfl)) (eval_tmp (hgot 10 _ 19 rfl (hdep ⟨10, .data⟩ (by simp) rfl) rfl)) rfl rfl) (hK _ _ (fun s hs => by cases hs; rfl) hst)
        · exact wp_ran rfl (exec_pick rfl (eval_tmp (hgot 3 _ 12 rfl (hdep ⟨3, .data⟩ (by simp) rfl) rfl)) rfl (eval_tmp (hgot 11 _ 20 rfl (hdep ⟨11, .data⟩ (by simp) rfl) rfl)) rfl) (hK _ _ (fun s hs => by cases hs; rfl) hst)
        · exact wp_ran rfl (exec_move rfl (eval_tmp (hgot 12 _ 21 rfl (hdep ⟨12, .data⟩ (by simp) rfl) rfl))) (hK _ _ (fun s hs => by cases hs; rfl) hst)
        · exact wp_ranW (wanted_yes rfl rfl rfl (hgot 13 _ 22 rfl (hdep ⟨13, .guard⟩ (by simp) rfl) rfl)) (exec_load rfl (eval_tmp (hpar 3 (by simp))) (run_loads (Cells.of_holds (ha.keep hst (by simp))) Tryd.underlying40 rfl (size40_of _ HB.out.1))) (hK _ _ (fun s hs => by cases hs; rfl) hst)
        · exact wp_ranW (wanted_yes rfl rfl rfl (hgot 13 _ 22 rfl (hdep ⟨13, .guard⟩ (by simp) rfl) rfl)) (exec_load rfl (eval_tmp (hpar 4 (by simp))) (run_loads (Cells.of_holds (hb.keep hst (by simp))) Tryd.underlying40 rfl (size40_of _ HB.out.2.1))) (hK _ _ (fun s hs => by cases hs; rfl) hst)
        · exact wp_ranW (wanted_yes rfl rfl rfl (hgot 13 _ 22 rfl (hdep ⟨13, .guard⟩ (by simp) rfl) rfl)) (exec_ne40 HB.out.1 HB.out.2.1 rfl (eval_tmp (hgot 14 _ 23 rfl (hdep ⟨14, .data⟩ (by simp) rfl) rfl)) (eval_tmp (hgot 15 _ 24 rfl (hdep ⟨15, .data⟩ (by simp) rfl) rfl))) (hK _ _ (fun s hs => by cases hs; rw [HS.out]; rfl) hst)
        · exact wp_ranW (wanted_yes rfl rfl rfl (hgot 13 _ 22 rfl (hdep ⟨13, .guard⟩ (by simp) rfl) rfl)) (exec_load rfl (eval_tmp (hpar 3 (by simp))) (run_loads (Cells.of_holds (ha.keep hst (by simp))) Tryd.underlying40 rfl (size40_of _ HB.out.1))) (hK _ _ (fun s hs => by cases hs; rfl) hst)
        · exact wp_ranW (wanted_yes rfl rfl rfl (hgot 13 _ 22 rfl (hdep ⟨13, .guard⟩ (by simp) rfl) rfl)) (exec_load rfl (eval_tmp (hpar 4 (by simp))) (run_loads (Cells.of_holds (hb.keep hst (by simp))) Tryd.underlying40 rfl (size40_of _ HB.out.2.1))) (hK _ _ (fun s hs => by cases hs; rfl) hst)
        · exact wp_calledW (wanted_yes rfl rfl rfl (hgot 13 _ 22 rfl (hdep ⟨13, .guard⟩ (by simp) rfl) rfl)) (exec_call2 rfl rfl (eval_tmp (hgot 17 _ 26 rfl (hdep ⟨17, .data⟩ (by simp) rfl) rfl)) (eval_tmp (hgot 18 _ 27 rfl (hdep ⟨18, .data⟩ (by simp) rfl) rfl)) (enters_of Tryd.func30 (by kernel_rfl) rfl)) ((HB.out.2.2.2.2.1 _).mono (fun e v' hh => ⟨_, hh.1, hK _ _ (fun s hs => by cases hs; rfl) (hst.then hh.2)⟩))
        · exact wp_ranW (wanted_yes rfl rfl rfl (hgot 13 _ 22 rfl (hdep ⟨13, .guard⟩ (by simp) rfl) rfl)) (exec_move rfl (eval_tmp (hgot 19 _ 28 rfl (hdep ⟨19, .data⟩ (by simp) rfl) rfl))) (hK _ _ (fun s hs => by cases hs; rfl) hst)
        · exact wp_ranW (wanted_yes rfl rfl rfl (hgot 20 _ 29 rfl (hdep ⟨20, .guard⟩ (by simp) rfl) rfl)) (exec_load rfl (eval_tmp (hpar 4 (by simp))) (run_loads (Cells.of_holds (hb.keep hst (by simp))) Tryd.underlying40 rfl (size40_of _ HB.out.2.1))) (hK _ _ (fun s hs => by cases hs; rfl) hst)
        · exact wp_ranW (wanted_yes rfl rfl rfl (hgot 20 _ 29 rfl (hdep ⟨20, .guard⟩ (by simp) rfl) rfl)) (exec_load rfl (eval_tmp (hpar 3 (by simp))) (run_loads (Cells.of_holds (ha.keep hst (by simp))) Tryd.underlying40 rfl (size40_of _ HB.out.1))) (hK _ _ (fun s hs => by cases hs; rfl) hst)
        · exact wp_calledW (wanted_yes rfl rfl rfl (hgot 20 _ 29 rfl (hdep ⟨20, .guard⟩ (by simp) rfl) rfl)) (exec_call2 rfl rfl (eval_tmp (hgot 21 _ 30 rfl (hdep ⟨21, .data⟩ (by simp) rfl) rfl)) (eval_tmp (hgot 22 _ 31 rfl (hdep ⟨22, .data⟩ (by simp) rfl) rfl)) (enters_of Tryd.func30 (by kernel_rfl) rfl)) ((HB.out.2.2.2.2.2 _).mono (fun e v' hh => ⟨_, hh.1, hK _ _ (fun s hs => by cases hs; rfl) (hst.then hh.2)⟩))
        · exact wp_ranW (wanted_yes rfl rfl rfl (hgot 13 _ 22 rfl (hdep ⟨13, .guard⟩ (by simp) rfl) rfl)) (exec_pick rfl (eval_tmp (hgot 20 _ 29 rfl (hdep ⟨20, .data⟩ (by simp) rfl) rfl)) rfl (eval_tmp (hgot 23 _ 32 rfl (hdep ⟨23, .data⟩ (by simp) rfl) rfl)) rfl) (hK _ _ (fun s hs => by cases hs; rfl) hst)
        · exact wp_ranW (wanted_yes rfl rfl rfl (hgot 13 _ 22 rfl (hdep ⟨13, .guard⟩ (by simp) rfl) rfl)) (exec_neb Tryd.underlying4 rfl (eval_tmp (hgot 16 _ 25 rfl (hdep ⟨16, .data⟩ (by simp) rfl) rfl)) (eval_tmp (hgot 24 _ 33 rfl (hdep ⟨24, .data⟩ (by simp) rfl) rfl))) (hK _ _ (fun s hs => by cases hs; rfl) hst)
        · exact wp_ran rfl (exec_pick rfl (eval_tmp (hgot 13 _ 22 rfl (hdep ⟨13, .data⟩ (by simp) rfl) rfl)) rfl (eval_tmp (hgot 25 _ 34 rfl (hdep ⟨25, .data⟩ (by simp) rfl) rfl)) rfl) (hK _ _ (fun s hs => by cases hs; rfl) hst)
      case fin =>
        intro lz v hl hst
        have mn := mm.then (Mod.drewed hst)
        have na := Holds.keep (w := w5.drew) ha hst (by simp)
        have nb := Holds.keep (w := w5.drew) hb hst (by simp)
        have nc := Holds.keep (w := w5.drew) hc hst (by simp)
        clear hst hl ha hb hc mm
        try dsimp only
        go_wp2_with (first
          | (with_reducible refine wpList_loads (o := ⟨some 36, .load 40 (.tmp 3), _, _, _, _⟩) rfl 40 (.tmp 3) rfl g3 0 _ rfl (Cells.of_holds na) _ Tryd.underlying40 rfl (size40_of _ HB.out.1) (.agg (a.map oct).toArray) rfl ?_)
          | (with_reducible refine wpList_loads (o := ⟨some 37, .load 40 (.tmp 4), _, _, _, _⟩) rfl 40 (.tmp 4) rfl g4 0 _ rfl (Cells.of_holds nb) _ Tryd.underlying40 rfl (size40_of _ HB.out.2.1) (.agg (b.map oct).toArray) rfl ?_))
        refine (HB.out.2.2.2.2.1 _).mono ?_
        rintro e w6 ⟨rfl, m6⟩
        clear na nb nc
        go_wp2_with fail
        go_ret
        exact ⟨rfl, mn.then m6⟩
    · replace hba : lessN b a = false := by simpa using hba
      rw [hab] at lab
      rw [hba] at lba
      have HB := Lib.hid (And.intro HB0.out.1 (And.intro HB0.out.2.1 (And.intro HB0.out.2.2.1 (And.intro HB0.out.2.2.2 (And.intro lab lba)))))
      have HS : RowKit.Hid _ := Lib.hid (show (!decide (a = b)) = false from by simp [hne hab hba])
      have HT := Lib.hid (htr)
      clear htr hnt hne lab lba hab hba HB0
      refine wp_region_lit1 [.agg (a.map oct).toArray, .agg (b.map oct).toArray, .agg (c.map oct).toArray, .pointer (some ⟨g3, 0, none⟩), .pointer (some ⟨g4, 0, none⟩), .pointer (some ⟨g5, 0, none⟩), .bool false, .bool true, .bool false, .agg (a.map oct).toArray, .agg (a.map oct).toArray, .bool false, .bool false, .agg (a.map oct).toArray, .agg (b.map oct).toArray, .bool false, .bool false, undef, undef, undef, .bool false, .bool false, .bool false, .agg (a.map oct).toArray, .agg (b.map oct).toArray, .bool false, .agg (a.map oct).toArray, .agg (b.map oct).toArray, .bool false, .bool false, .agg (b.map oct).toArray, .agg (a.map oct).toArray, .bool false, .bool false, .bool false, .bool false, undef, undef, undef, undef, undef, undef, undef, undef, undef, undef, undef, undef, undef, undef, undef] 51 [0, 1, 2, 3, 4, 5, 6, 7, 8, 36, 37, 38, 39, 40, 41, 42, 43, 44, 45, 46, 47, 48, 49, 50]
        (fun _ v => Mod [] w5.drew v) []
        (by kernel_rfl) rfl rfl rfl rfl (Mod.refl _ _) (by kernel_rfl) (by kernel_rfl) ?step ?fin
      case step =>
        intro lz T v j o hj hlj hdep hst hpar hgot hcl K hK
        have hjn : j < 27 := (Array.getElem?_eq_some_iff.1 hj).1
        obtain rfl | rfl | rfl | rfl | rfl | rfl | rfl | rfl | rfl | rfl | rfl | rfl | rfl | rfl | rfl | rfl | rfl | rfl | rfl | rfl | rfl | rfl | rfl | rfl | rfl | rfl | rfl : j = 0 ∨ j = 1 ∨ j = 2 ∨ j = 3 ∨ j = 4 ∨ j = 5 ∨ j = 6 ∨ j = 7 ∨ j = 8 ∨ j = 9 ∨ j = 10 ∨ j = 11 ∨ j = 12 ∨ j = 13 ∨ j = 14 ∨ j = 15 ∨ j = 16 ∨ j = 17 ∨ j = 18 ∨ j = 19 ∨ j = 20 ∨ j = 21 ∨ j = 22 ∨ j = 23 ∨ j = 24 ∨ j = 25 ∨ j = 26 := by omega
        all_goals (have hj' := Option.some.inj (hj : some _ = some o); subst hj'; clear hj)
        · exact wp_ran rfl (exec_load rfl (eval_tmp (hpar 3 (by simp))) (run_loads (Cells.of_holds (ha.keep hst (by simp))) Tryd.underlying40 rfl (size40_of _ HB.out.1))) (hK _ _ (fun s hs => by cases hs; rfl) hst)
        · exact wp_ran rfl (exec_load rfl (eval_tmp (hpar 3 (by simp))) (run_loads (Cells.of_holds (ha.keep hst (by simp))) Tryd.underlying40 rfl (size40_of _ HB.out.1))) (hK _ _ (fun s hs => by cases hs; rfl) hst)
        · exact wp_called rfl (exec_call2 rfl rfl (eval_tmp (hgot 0 _ 9 rfl (hdep ⟨0, .data⟩ (by simp) rfl) rfl)) (eval_tmp (hgot 1 _ 10 rfl (hdep ⟨1, .data⟩ (by simp) rfl) rfl)) (enters_of Tryd.func30 (by kernel_rfl) rfl)) ((HB.out.2.2.2.1 _).mono (fun e v' hh => ⟨_, hh.1, hK _ _ (fun s hs => by cases hs; rfl) (hst.then hh.2)⟩))
        · exact wp_ran rfl (exec_move rfl (eval_tmp (hgot 2 _ 11 rfl (hdep ⟨2, .data⟩ (by simp) rfl) rfl))) (hK _ _ (fun s hs => by cases hs; rfl) hst)
        · exact wp_ranW (wanted_yes rfl rfl rfl (hgot 3 _ 12 rfl (hdep ⟨3, .guard⟩ (by simp) rfl) rfl)) (exec_load rfl (eval_tmp (hpar 3 (by simp))) (run_loads (Cells.of_holds (ha.keep hst (by simp))) Tryd.underlying40 rfl (size40_of _ HB.out.1))) (hK _ _ (fun s hs => by cases hs; rfl) hst)
        · exact wp_ranW (wanted_yes rfl rfl rfl (hgot 3 _ 12 rfl (hdep ⟨3, .guard⟩ (by simp) rfl) rfl)) (exec_load rfl (eval_tmp (hpar 4 (by simp))) (run_loads (Cells.of_holds (hb.keep hst (by simp))) Tryd.underlying40 rfl (size40_of _ HB.out.2.1))) (hK _ _ (fun s hs => by cases hs; rfl) hst)
        · exact wp_calledW (wanted_yes rfl rfl rfl (hgot 3 _ 12 rfl (hdep ⟨3, .guard⟩ (by simp) rfl) rfl)) (exec_call2 rfl rfl (eval_tmp (hgot 4 _ 13 rfl (hdep ⟨4, .data⟩ (by simp) rfl) rfl)) (eval_tmp (hgot 5 _ 14 rfl (hdep ⟨5, .data⟩ (by simp) rfl) rfl)) (enters_of Tryd.func30 (by kernel_rfl) rfl)) ((HB.out.2.2.2.2.1 _).mono (fun e v' hh => ⟨_, hh.1, hK _ _ (fun s hs => by cases hs; rfl) (hst.then hh.2)⟩))
        · exact wp_ranW (wanted_yes rfl rfl rfl (hgot 3 _ 12 rfl (hdep ⟨3, .guard⟩ (by simp) rfl) rfl)) (exec_move rfl (eval_tmp (hgot 6 _ 15 rfl (hdep ⟨6, .data⟩ (by simp) rfl) rfl))) (hK _ _ (fun s hs => by cases hs; rfl) hst)
        · exact wp_skip (wanted_no rfl rfl rfl rfl (hgot 7 _ 16 rfl (hdep ⟨7, .guard⟩ (by simp) rfl) rfl)) (hK _ _ (fun s hs => by cases hs; rfl) hst)
        · exact wp_skip (wanted_no rfl rfl rfl rfl (hgot 7 _ 16 rfl (hdep ⟨7, .guard⟩ (by simp) rfl) rfl)) (hK _ _ (fun s hs => by cases hs; rfl) hst)
        · exact wp_skip (wanted_no rfl rfl rfl rfl (hgot 7 _ 16 rfl (hdep ⟨7, .guard⟩ (by simp) rfl) rfl)) (hK _ _ (fun s hs => by cases hs; rfl) hst)
        · exact wp_ranW (wanted_yes rfl rfl rfl (hgot 3 _ 12 rfl (hdep ⟨3, .guard⟩ (by simp) rfl) rfl)) (exec_pick rfl (eval_tmp (hgot 7 _ 16 rfl (hdep ⟨7, .data⟩ (by simp) rfl) rfl)) (eval_tmp (hgot 10 _ 19 rfl (hdep ⟨10, .data⟩ (by simp) rfl) rfl)) rfl rfl) (hK _ _ (fun s hs => by cases hs; rfl) hst)
        · exact wp_ran rfl (exec_pick rfl (eval_tmp (hgot 3 _ 12 rfl (hdep ⟨3, .data⟩ (by simp) rfl) rfl)) rfl (eval_tmp (hgot 11 _ 20 rfl (hdep ⟨11, .data⟩ (by simp) rfl) rfl)) rfl) (hK _ _ (fun s hs => by cases hs; rfl) hst)
        · exact wp_ran rfl (exec_move rfl (eval_tmp (hgot 12 _ 21 rfl (hdep ⟨12, .data⟩ (by simp) rfl) rfl))) (hK _ _ (fun s hs => by cases hs; rfl) hst)
        · exact wp_ranW (wanted_yes rfl rfl rfl (hgot 13 _ 22 rfl (hdep ⟨13, .guard⟩ (by simp) rfl) rfl)) (exec_load rfl (eval_tmp (hpar 3 (by simp))) (run_loads (Cells.of_holds (ha.keep hst (by simp))) Tryd.underlying40 rfl (size40_of _ HB.out.1))) (hK _ _ (fun s hs => by cases hs; rfl) hst)
        · exact wp_ranW (wanted_yes rfl rfl rfl (hgot 13 _ 22 rfl (hdep ⟨13, .guard⟩ (by simp) rfl) rfl)) (exec_load rfl (eval_tmp (hpar 4 (by simp))) (run_loads (Cells.of_holds (hb.keep hst (by simp))) Tryd.underlying40 rfl (size40_of _ HB.out.2.1))) (hK _ _ (fun s hs => by cases hs; rfl) hst)
        · exact wp_ranW (wanted_yes rfl rfl rfl (hgot 13 _ 22 rfl (hdep ⟨13, .guard⟩ (by simp) rfl) rfl)) (exec_ne40 HB.out.1 HB.out.2.1 rfl (eval_tmp (hgot 14 _ 23 rfl (hdep ⟨14, .data⟩ (by simp) rfl) rfl)) (eval_tmp (hgot 15 _ 24 rfl (hdep ⟨15, .data⟩ (by simp) rfl) rfl))) (hK _ _ (fun s hs => by cases hs; rw [HS.out]; rfl) hst)
        · exact wp_ranW (wanted_yes rfl rfl rfl (hgot 13 _ 22 rfl (hdep ⟨13, .guard⟩ (by simp) rfl) rfl)) (exec_load rfl (eval_tmp (hpar 3 (by simp))) (run_loads (Cells.of_holds (ha.keep hst (by simp))) Tryd.underlying40 rfl (size40_of _ HB.out.1))) (hK _ _ (fun s hs => by cases hs; rfl) hst)
        · exact wp_ranW (wanted_yes rfl rfl rfl (hgot 13 _ 22 rfl (hdep ⟨13, .guard⟩ (by simp) rfl) rfl)) (exec_load rfl (eval_tmp (hpar 4 (by simp))) (run_loads (Cells.of_holds (hb.keep hst (by simp))) Tryd.underlying40 rfl (size40_of _ HB.out.2.1))) (hK _ _ (fun s hs => by cases hs; rfl) hst)
        · exact wp_calledW (wanted_yes rfl rfl rfl (hgot 13 _ 22 rfl (hdep ⟨13, .guard⟩ (by simp) rfl) rfl)) (exec_call2 rfl rfl (eval_tmp (hgot 17 _ 26 rfl (hdep ⟨17, .data⟩ (by simp) rfl) rfl)) (eval_tmp (hgot 18 _ 27 rfl (hdep ⟨18, .data⟩ (by simp) rfl) rfl)) (enters_of Tryd.func30 (by kernel_rfl) rfl)) ((HB.out.2.2.2.2.1 _).mono (fun e v' hh => ⟨_, hh.1, hK _ _ (fun s hs => by cases hs; rfl) (hst.then hh.2)⟩))
        · exact wp_ranW (wanted_yes rfl rfl rfl (hgot 13 _ 22 rfl (hdep ⟨13, .guard⟩ (by simp) rfl) rfl)) (exec_move rfl (eval_tmp (hgot 19 _ 28 rfl (hdep ⟨19, .data⟩ (by simp) rfl) rfl))) (hK _ _ (fun s hs => by cases hs; rfl) hst)
        · exact wp_ranW (wanted_yes rfl rfl rfl (hgot 20 _ 29 rfl (hdep ⟨20, .guard⟩ (by simp) rfl) rfl)) (exec_load rfl (eval_tmp (hpar 4 (by simp))) (run_loads (Cells.of_holds (hb.keep hst (by simp))) Tryd.underlying40 rfl (size40_of _ HB.out.2.1))) (hK _ _ (fun s hs => by cases hs; rfl) hst)
        · exact wp_ranW (wanted_yes rfl rfl rfl (hgot 20 _ 29 rfl (hdep ⟨20, .guard⟩ (by simp) rfl) rfl)) (exec_load rfl (eval_tmp (hpar 3 (by simp))) (run_loads (Cells.of_holds (ha.keep hst (by simp))) Tryd.underlying40 rfl (size40_of _ HB.out.1))) (hK _ _ (fun s hs => by cases hs; rfl) hst)
        · exact wp_calledW (wanted_yes rfl rfl rfl (hgot 20 _ 29 rfl (hdep ⟨20, .guard⟩ (by simp) rfl) rfl)) (exec_call2 rfl rfl (eval_tmp (hgot 21 _ 30 rfl (hdep ⟨21, .data⟩ (by simp) rfl) rfl)) (eval_tmp (hgot 22 _ 31 rfl (hdep ⟨22, .data⟩ (by simp) rfl) rfl)) (enters_of Tryd.func30 (by kernel_rfl) rfl)) ((HB.out.2.2.2.2.2 _).mono (fun e v' hh => ⟨_, hh.1, hK _ _ (fun s hs => by cases hs; rfl) (hst.then hh.2)⟩))
        · exact wp_ranW (wanted_yes rfl rfl rfl (hgot 13 _ 22 rfl (hdep ⟨13, .guard⟩ (by simp) rfl) rfl)) (exec_pick rfl (eval_tmp (hgot 20 _ 29 rfl (hdep ⟨20, .data⟩ (by simp) rfl) rfl)) rfl (eval_tmp (hgot 23 _ 32 rfl (hdep ⟨23, .data⟩ (by simp) rfl) rfl)) rfl) (hK _ _ (fun s hs => by cases hs; rfl) hst)
        · exact wp_ranW (wanted_yes rfl rfl rfl (hgot 13 _ 22 rfl (hdep ⟨13, .guard⟩ (by simp) rfl) rfl)) (exec_neb Tryd.underlying4 rfl (eval_tmp (hgot 16 _ 25 rfl (hdep ⟨16, .data⟩ (by simp) rfl) rfl)) (eval_tmp (hgot 24 _ 33 rfl (hdep ⟨24, .data⟩ (by simp) rfl) rfl))) (hK _ _ (fun s hs => by cases hs; rfl) hst)
        · exact wp_ran rfl (exec_pick rfl (eval_tmp (hgot 13 _ 22 rfl (hdep ⟨13, .data⟩ (by simp) rfl) rfl)) rfl (eval_tmp (hgot 25 _ 34 rfl (hdep ⟨25, .data⟩ (by simp) rfl) rfl)) rfl) (hK _ _ (fun s hs => by cases hs; rfl) hst)
      case fin =>
        intro lz v hl hst
        have mn := mm.then (Mod.drewed hst)
        have na := Holds.keep (w := w5.drew) ha hst (by simp)
        have nb := Holds.keep (w := w5.drew) hb hst (by simp)
        have nc := Holds.keep (w := w5.drew) hc hst (by simp)
        clear hst hl ha hb hc mm
        try dsimp only
        go_wp2_with (first
          | (with_reducible refine wpList_loads (o := ⟨some 36, .load 40 (.tmp 3), _, _, _, _⟩) rfl 40 (.tmp 3) rfl g3 0 _ rfl (Cells.of_holds na) _ Tryd.underlying40 rfl (size40_of _ HB.out.1) (.agg (a.map oct).toArray) rfl ?_)
          | (with_reducible refine wpList_loads (o := ⟨some 37, .load 40 (.tmp 4), _, _, _, _⟩) rfl 40 (.tmp 4) rfl g4 0 _ rfl (Cells.of_holds nb) _ Tryd.underlying40 rfl (size40_of _ HB.out.2.1) (.agg (b.map oct).toArray) rfl ?_))
        refine (HB.out.2.2.2.2.1 _).mono ?_
        rintro e w6 ⟨rfl, m6⟩
        clear na nb nc
        go_wp2_with fail
        go_ret
        exact ⟨rfl, mn.then m6⟩

end Go.Proofs.YtgojheoelcmcpaaDoor
