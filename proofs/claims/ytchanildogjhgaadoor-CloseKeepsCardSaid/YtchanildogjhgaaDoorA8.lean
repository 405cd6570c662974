/-
  My own texts Uc Ud, one behind the other.
-/
import Derived.Test.YtchanildogjhgaaDoorA7
namespace Go.Proofs.YtchanildogjhgaaDoor
section
open Go.RowKit Go.Shelf
set_option linter.unusedVariables false
set_option linter.unusedSimpArgs false
/-- The text hi, and the term that wakes builds. -/
def tHi : Tm := .mk 1 0 0 ⟨#[104, 105]⟩ []
def tL : Tm := .mk 6 0 0 ⟨#[]⟩ [.mk 2 1 2 ⟨#[]⟩ [], tHi]
theorem tL_right : tL.right = true := by kernel_rfl
theorem tL_bytes : tL.bytes = [6, 2, 1, 0, 2, 1, 2, 104, 105] := by kernel_rfl
theorem tL_dec : Tm.dec 60 [6, 2, 1, 0, 2, 1, 2, 104, 105] 0 = .ok (tL, [], 3) := by
  have h := Tm.dec_enc 60 tL 0 [] (by kernel_rfl) (by decide) (by decide)
  rw [List.append_nil, tL_bytes] at h
  exact h
theorem tHi_same : Tm.same tHi tHi = true := (Tm.same_iff _ _).2 rfl
theorem wakes_enc (cs : List Value) (S : Nat → Prop) (w : World) (hT : TIs w S tL cs) (hS : ∀ g, S g → g < w.heap.size) (G : Glob w) :
    Calls Tryd.prog 50 #[.agg cs.toArray] w fun e w' => ∃ g o c, e = .returned (.tuple #[.slice (some ⟨g, o, none⟩) 9 c, .int .i64 0]) ∧ (g < w'.heap.size ∧ Reads w' (some ⟨g, o, none⟩) [6, 2, 1, 0, 2, 1, 2, 104, 105]) ∧ Mod [] w w' := by
  refine (encode_yes tL cs S w hT hS G tL_right).mono ?_
  rintro e w' ⟨A, c, rfl, ho, m, _⟩
  have hr := ho.reads
  have hf := ho.fits.2.2
  rw [tL_bytes] at hr ⊢
  obtain ⟨g, o, rfl, _⟩ := hr 0 (by decide)
  exact ⟨g, o, c, rfl, ⟨(hf _ rfl).2, hr⟩, m⟩
theorem wakes_dec (g o c : Nat) (w : World) (h : Reads w (some ⟨g, o, none⟩) [6, 2, 1, 0, 2, 1, 2, 104, 105]) (G : Glob w) :
    Calls Tryd.prog 51 #[.slice (some ⟨g, o, none⟩) 9 c] w fun e w' => ∃ gk ok ck cs S, e = .returned (.tuple #[.agg (tmc 6 0 0 ⟨#[]⟩ (some ⟨gk, ok, none⟩) 2 ck).toArray, .int .i64 9, .int .i64 0]) ∧ (gk < w'.heap.size ∧ (∀ x, S x → x < w'.heap.size) ∧ Cells w' (some ⟨gk, ok + 1 * 5, none⟩) cs ∧ TIs w' S tHi cs) ∧ Mod [] w w' := by
  refine (decode_ok (some ⟨g, o, none⟩) _ [] tL 3 9 c w rfl (by decide) h G tL_dec).mono ?_
  rintro e w' ⟨cs, rfl, hT, m⟩
  obtain ⟨A, ck, vs, rfl, hR, _⟩ := TIs.row hT
  obtain ⟨gk, ok, c1, rfl, hC, hT1, _, hS⟩ := hR.elem 1 (by decide)
  exact ⟨gk, ok, ck, c1, _, rfl, ⟨hS.2, fun x hx => hx.2, hC, hT1⟩, m⟩
set_option maxRecDepth 1000000 in
set_option maxHeartbeats 1500000 in
theorem wakes_c (w : World) (G : Glob w) : Calls Tryd.prog 13 #[] w fun e w' => e = .returned (.bool true) ∧ Mod [] w w' := by
  have GL := fun v (mv : Mod [] w v) => G.then mv
  go_enter Tryd.func13, Tryd.ntmps13
  go_wp2_with (first
    | (go_at_call 18; refine (fresh_c _ _ w).mono ?_
       rintro e w1 ⟨cf, rfl, hT1, m1⟩)
    | (go_at_call 16; refine (text_c _ (by decide) w1).mono ?_
       rintro e w2 ⟨ct, rfl, hT2, m2⟩
       replace hT1 := hT1.keep m2 (by simp)
       replace m2 := m1.then m2
       clear m1)
    | (go_at_call 22; refine (lock_c _ _ _ _ _ _ w2 hT1 hT2).mono ?_
       rintro e w3 ⟨cl, rfl, hT3, m3⟩
       replace m3 := m2.then m3
       clear m2 hT1 hT2)
    | (go_at_call 50; refine (wakes_enc _ _ w3 hT3 (fun g hg => hg.2) (GL _ m3)).mono ?_
       rintro e w4 ⟨ga, oa, ca, rfl, hR4, m4⟩
       replace m4 := m3.then m4
       clear m3 hT3)
    | (go_at_call 51; refine (wakes_dec ga oa ca w4 hR4.2 (GL _ m4)).mono ?_
       rintro e w5 ⟨gk, ok, ck, cs1, S1, rfl, hK5, m5⟩
       have hR5 := And.intro (Nat.lt_of_lt_of_le hR4.1 m5.size) (hR4.2.keep m5 (fun _ _ => by simp))
       replace m5 := m4.then m5
       clear m4 hR4 GL)
    | (with_reducible refine wpList_allocs (o := ⟨some 3, .alloc 24, _, _, _, _⟩) rfl 24 rfl _ zero24 ?_; intro y6 hy6 my6 zy6
       obtain ⟨b3, hq3⟩ : ∃ b, b = w5.heap.size := ⟨_, rfl⟩
       rw [← hq3] at hy6 ⊢
       have HB3 := Lib.hid hq3
       have HK5 := Lib.hid (And.intro hK5 (And.intro hR5 my6))
       clear hR5
       have m6 := m5.then my6
       have HS6 := Lib.hid m5.size
       clear hq3 zy6 hK5 my6)
    | (with_reducible refine wpList_storesAll (o := ⟨none, .store 24 (.tmp 3) (.tmp 16), _, _, _, _⟩) rfl 24 (.tmp 3) (.tmp 16) rfl rfl b3 (tmc 6 0 0 ⟨#[]⟩ (some ⟨gk, ok, none⟩) 2 ck) rfl (.agg (tmc 6 0 0 ⟨#[]⟩ (some ⟨gk, ok, none⟩) 2 ck).toArray) rfl rfl 24 _ hy6 (zlen (tmc_len _ _ _ _ _ _ _)) (tmc_one _ _ _ _ _ _ _) (size24t _ _ _ _ _ _ _) ?_
       intro u8 hu8 mu8 zu8
       clear zu8
       have m8 : Mod [] w u8 := m6.trans mu8 (fun i hi hm => by have := HB3.out; have := HS6.out; simp at hm; omega)))
  obtain ⟨⟨hgk, hS1, hKC, hKT⟩, ⟨hga, hR5⟩, my6⟩ := HK5.out
  have hb := HB3.out
  have e0 : u8.cell? ⟨ga, oa + 0 * 1, none⟩ = some (.int .u8 6) := mu8.cell (p := ⟨ga, oa + 0 * 1, none⟩) (by simp; omega) (my6.cell (p := ⟨ga, oa + 0 * 1, none⟩) (by simp) (hR5.at 0 (by decide)))
  have e8 : u8.cell? ⟨ga, oa + 8 * 1, none⟩ = some (.int .u8 105) := mu8.cell (p := ⟨ga, oa + 8 * 1, none⟩) (by simp; omega) (my6.cell (p := ⟨ga, oa + 8 * 1, none⟩) (by simp) (hR5.at 8 (by decide)))
  have hK8 : Hid (Cells u8 (some ⟨gk, ok + 1 * 5, none⟩) cs1 ∧ TIs u8 S1 tHi cs1) := Lib.hid ⟨(hKC.keep my6 (by simp)).keep mu8 (by rintro _ ⟨⟩; simp; omega), (hKT.keep my6 (by simp)).keep mu8 (fun x hx => by have := hS1 x hx; simp; omega)⟩
  refine wp_region_upxd (X := List Value) [] (fun x => [(19, .int .i64 0), (20, .bool true), (21, .bool true), (22, .int .i64 0), (23, .bool true), (24, .bool true), (25, .bool true), (26, .slice (some ⟨ga, oa, none⟩) 9 ca), (27, .int .i64 ((9 : Nat) : Int)), (28, .bool true), (29, .bool true), (30, .bool true), (31, .int .i64 9), (32, .bool true), (33, .bool true), (34, .bool true), (35, .slice (some ⟨ga, oa, none⟩) 9 ca), (36, .pointer (some ⟨ga, oa + 0 * 1, none⟩)), (37, .int .u8 6), (38, .bool true), (39, .bool true), (40, .bool true), (41, .slice (some ⟨ga, oa, none⟩) 9 ca), (42, .pointer (some ⟨ga, oa + 8 * 1, none⟩)), (43, .int .u8 105), (44, .bool true), (45, .bool true), (46, .bool true), (47, .pointer (some ⟨b3, 4, none⟩)), (48, .slice (some ⟨gk, ok, none⟩) 2 ck), (49, .pointer (some ⟨gk, ok + 1 * 5, none⟩)), (50, .agg cs1.toArray), (51, .agg x.toArray), (52, .bool true), (53, .bool true), (0, .bool true)]) 54 [19, 20, 21, 22, 23, 24, 25, 26, 27, 28, 29, 30, 31, 32, 33, 34, 35, 36, 37, 38, 39, 40, 41, 42, 43, 44, 45, 46, 47, 48, 49, 50, 51, 52, 53, 0] rfl (fun _ => rfl) (by decide) (by kernel_rfl) (fun x lz v => Mod [] u8.drew v ∧ (lz 32 = true → ∃ S : Nat → Prop, TIs v S tHi x)) (by kernel_rfl) ⟨Mod.refl _ _, fun h => by cases h⟩ (by kernel_rfl) (by kernel_rfl) ?step ?fin
  case step =>
    intro x lz T v j o hj hlj hdep hst hpar hgot hcl hdf Kq hK
    have hjn : j < 36 := (Array.getElem?_eq_some_iff.1 hj).1
    obtain rfl | rfl | rfl | rfl | rfl | rfl | rfl | rfl | rfl | rfl | rfl | rfl | rfl | rfl | rfl | rfl | rfl | rfl | rfl | rfl | rfl | rfl | rfl | rfl | rfl | rfl | rfl | rfl | rfl | rfl | rfl | rfl | rfl | rfl | rfl | rfl : j = 0 ∨ j = 1 ∨ j = 2 ∨ j = 3 ∨ j = 4 ∨ j = 5 ∨ j = 6 ∨ j = 7 ∨ j = 8 ∨ j = 9 ∨ j = 10 ∨ j = 11 ∨ j = 12 ∨ j = 13 ∨ j = 14 ∨ j = 15 ∨ j = 16 ∨ j = 17 ∨ j = 18 ∨ j = 19 ∨ j = 20 ∨ j = 21 ∨ j = 22 ∨ j = 23 ∨ j = 24 ∨ j = 25 ∨ j = 26 ∨ j = 27 ∨ j = 28 ∨ j = 29 ∨ j = 30 ∨ j = 31 ∨ j = 32 ∨ j = 33 ∨ j = 34 ∨ j = 35 := by omega
    all_goals (have hj' := Option.some.inj (hj : some _ = some o); subst hj'; clear hj)
    · exact wp_ran rfl (exec_move rfl (eval_tmp ((hpar 2 rfl).trans rfl))) (hK x _ _ (fun _ _ _ _ _ _ => rfl) (fun s hs => by cases hs; rfl) (by simpa using hst))
    · exact wp_ran rfl (exec_eqi (rfl) rfl (eval_tmp (hgot 0 _ 19 rfl (hdep ⟨0, .data⟩ (by simp) rfl) rfl)) rfl) (hK x _ _ (fun _ _ _ _ _ _ => rfl) (fun s hs => by cases hs; rfl) (by simpa using hst))
    · exact wp_ran rfl (exec_move rfl (eval_tmp (hgot 1 _ 20 rfl (hdep ⟨1, .data⟩ (by simp) rfl) rfl))) (hK x _ _ (fun _ _ _ _ _ _ => rfl) (fun s hs => by cases hs; rfl) (by simpa using hst))
    · exact wp_ranW (wanted_yes rfl rfl rfl (hgot 2 _ 21 rfl (hdep ⟨2, .guard⟩ (by simp) rfl) rfl)) (exec_move rfl (eval_tmp ((hpar 5 rfl).trans rfl))) (hK x _ _ (fun _ _ _ _ _ _ => rfl) (fun s hs => by cases hs; rfl) (by simpa using hst))
    · exact wp_ranW (wanted_yes rfl rfl rfl (hgot 2 _ 21 rfl (hdep ⟨2, .guard⟩ (by simp) rfl) rfl)) (exec_eqi (rfl) rfl (eval_tmp (hgot 3 _ 22 rfl (hdep ⟨3, .data⟩ (by simp) rfl) rfl)) rfl) (hK x _ _ (fun _ _ _ _ _ _ => rfl) (fun s hs => by cases hs; rfl) (by simpa using hst))
    · exact wp_ran rfl (exec_pick rfl (eval_tmp (hgot 2 _ 21 rfl (hdep ⟨2, .data⟩ (by simp) rfl) rfl)) (eval_tmp (hgot 4 _ 23 rfl (hdep ⟨4, .data⟩ (by simp) rfl) rfl)) rfl rfl) (hK x _ _ (fun _ _ _ _ _ _ => rfl) (fun s hs => by cases hs; rfl) (by simpa using hst))
    · exact wp_ran rfl (exec_move rfl (eval_tmp (hgot 5 _ 24 rfl (hdep ⟨5, .data⟩ (by simp) rfl) rfl))) (hK x _ _ (fun _ _ _ _ _ _ => rfl) (fun s hs => by cases hs; rfl) (by simpa using hst))
    · exact wp_ranW (wanted_yes rfl rfl rfl (hgot 6 _ 25 rfl (hdep ⟨6, .guard⟩ (by simp) rfl) rfl)) (exec_move rfl (eval_tmp ((hpar 1 rfl).trans rfl))) (hK x _ _ (fun _ _ _ _ _ _ => rfl) (fun s hs => by cases hs; rfl) (by simpa using hst))
    · exact wp_ranW (wanted_yes rfl rfl rfl (hgot 6 _ 25 rfl (hdep ⟨6, .guard⟩ (by simp) rfl) rfl)) (exec_len Tryd.underlying62 rfl (eval_tmp (hgot 7 _ 26 rfl (hdep ⟨7, .data⟩ (by simp) rfl) rfl))) (hK x _ _ (fun _ _ _ _ _ _ => rfl) (fun s hs => by cases hs; rfl) (by simpa using hst))
    · exact wp_ranW (wanted_yes rfl rfl rfl (hgot 6 _ 25 rfl (hdep ⟨6, .guard⟩ (by simp) rfl) rfl)) (exec_eqi (rfl) rfl (eval_tmp (hgot 8 _ 27 rfl (hdep ⟨8, .data⟩ (by simp) rfl) rfl)) rfl) (hK x _ _ (fun _ _ _ _ _ _ => rfl) (fun s hs => by cases hs; rfl) (by simpa using hst))
    · exact wp_ran rfl (exec_pick rfl (eval_tmp (hgot 6 _ 25 rfl (hdep ⟨6, .data⟩ (by simp) rfl) rfl)) (eval_tmp (hgot 9 _ 28 rfl (hdep ⟨9, .data⟩ (by simp) rfl) rfl)) rfl rfl) (hK x _ _ (fun _ _ _ _ _ _ => rfl) (fun s hs => by cases hs; rfl) (by simpa using hst))
    · exact wp_ran rfl (exec_move rfl (eval_tmp (hgot 10 _ 29 rfl (hdep ⟨10, .data⟩ (by simp) rfl) rfl))) (hK x _ _ (fun _ _ _ _ _ _ => rfl) (fun s hs => by cases hs; rfl) (by simpa using hst))
    · exact wp_ranW (wanted_yes rfl rfl rfl (hgot 11 _ 30 rfl (hdep ⟨11, .guard⟩ (by simp) rfl) rfl)) (exec_move rfl (eval_tmp ((hpar 4 rfl).trans rfl))) (hK x _ _ (fun _ _ _ _ _ _ => rfl) (fun s hs => by cases hs; rfl) (by simpa using hst))
    · exact wp_ranW (wanted_yes rfl rfl rfl (hgot 11 _ 30 rfl (hdep ⟨11, .guard⟩ (by simp) rfl) rfl)) (exec_eqi (rfl) rfl (eval_tmp (hgot 12 _ 31 rfl (hdep ⟨12, .data⟩ (by simp) rfl) rfl)) rfl) (hK x _ _ (fun _ _ _ _ _ _ => rfl) (fun s hs => by cases hs; rfl) (by simpa using hst))
    · exact wp_ran rfl (exec_pick rfl (eval_tmp (hgot 11 _ 30 rfl (hdep ⟨11, .data⟩ (by simp) rfl) rfl)) (eval_tmp (hgot 13 _ 32 rfl (hdep ⟨13, .data⟩ (by simp) rfl) rfl)) rfl rfl) (hK x _ _ (fun _ _ _ _ _ _ => rfl) (fun s hs => by cases hs; rfl) (by simpa using hst))
    · exact wp_ran rfl (exec_move rfl (eval_tmp (hgot 14 _ 33 rfl (hdep ⟨14, .data⟩ (by simp) rfl) rfl))) (hK x _ _ (fun _ _ _ _ _ _ => rfl) (fun s hs => by cases hs; rfl) (by simpa using hst))
    · exact wp_ranW (wanted_yes rfl rfl rfl (hgot 15 _ 34 rfl (hdep ⟨15, .guard⟩ (by simp) rfl) rfl)) (exec_move rfl (eval_tmp ((hpar 1 rfl).trans rfl))) (hK x _ _ (fun _ _ _ _ _ _ => rfl) (fun s hs => by cases hs; rfl) (by simpa using hst))
    · exact wp_ranW (wanted_yes rfl rfl rfl (hgot 15 _ 34 rfl (hdep ⟨15, .guard⟩ (by simp) rfl) rfl)) (exec_ixs Tryd.underlying62 u8_one (by decide) rfl (eval_tmp (hgot 16 _ 35 rfl (hdep ⟨16, .data⟩ (by simp) rfl) rfl)) rfl) (hK x _ _ (fun _ _ _ _ _ _ => rfl) (fun s hs => by cases hs; rfl) (by simpa using hst))
    · have hm := (Mod.drew [] u8).then hst.1
      exact wp_ranW (wanted_yes rfl rfl rfl (hgot 15 _ 34 rfl (hdep ⟨15, .guard⟩ (by simp) rfl) rfl)) (exec_load rfl (eval_tmp (hgot 17 _ 36 rfl (hdep ⟨17, .data⟩ (by simp) rfl) rfl)) (run_load1 Tryd.underlying5 rfl (hm.cell (p := ⟨ga, oa + 0 * 1, none⟩) (by simp) e0))) (hK x _ _ (fun _ _ _ _ _ _ => rfl) (fun s hs => by cases hs; rfl) (by simpa using hst))
    · exact wp_ranW (wanted_yes rfl rfl rfl (hgot 15 _ 34 rfl (hdep ⟨15, .guard⟩ (by simp) rfl) rfl)) (exec_eqi (rfl) rfl (eval_tmp (hgot 18 _ 37 rfl (hdep ⟨18, .data⟩ (by simp) rfl) rfl)) rfl) (hK x _ _ (fun _ _ _ _ _ _ => rfl) (fun s hs => by cases hs; rfl) (by simpa using hst))
    · exact wp_ran rfl (exec_pick rfl (eval_tmp (hgot 15 _ 34 rfl (hdep ⟨15, .data⟩ (by simp) rfl) rfl)) (eval_tmp (hgot 19 _ 38 rfl (hdep ⟨19, .data⟩ (by simp) rfl) rfl)) rfl rfl) (hK x _ _ (fun _ _ _ _ _ _ => rfl) (fun s hs => by cases hs; rfl) (by simpa using hst))
    · exact wp_ran rfl (exec_move rfl (eval_tmp (hgot 20 _ 39 rfl (hdep ⟨20, .data⟩ (by simp) rfl) rfl))) (hK x _ _ (fun _ _ _ _ _ _ => rfl) (fun s hs => by cases hs; rfl) (by simpa using hst))
    · exact wp_ranW (wanted_yes rfl rfl rfl (hgot 21 _ 40 rfl (hdep ⟨21, .guard⟩ (by simp) rfl) rfl)) (exec_move rfl (eval_tmp ((hpar 1 rfl).trans rfl))) (hK x _ _ (fun _ _ _ _ _ _ => rfl) (fun s hs => by cases hs; rfl) (by simpa using hst))
    · exact wp_ranW (wanted_yes rfl rfl rfl (hgot 21 _ 40 rfl (hdep ⟨21, .guard⟩ (by simp) rfl) rfl)) (exec_ixs Tryd.underlying62 u8_one (by decide) rfl (eval_tmp (hgot 22 _ 41 rfl (hdep ⟨22, .data⟩ (by simp) rfl) rfl)) rfl) (hK x _ _ (fun _ _ _ _ _ _ => rfl) (fun s hs => by cases hs; rfl) (by simpa using hst))
    · have hm := (Mod.drew [] u8).then hst.1
      exact wp_ranW (wanted_yes rfl rfl rfl (hgot 21 _ 40 rfl (hdep ⟨21, .guard⟩ (by simp) rfl) rfl)) (exec_load rfl (eval_tmp (hgot 23 _ 42 rfl (hdep ⟨23, .data⟩ (by simp) rfl) rfl)) (run_load1 Tryd.underlying5 rfl (hm.cell (p := ⟨ga, oa + 8 * 1, none⟩) (by simp) e8))) (hK x _ _ (fun _ _ _ _ _ _ => rfl) (fun s hs => by cases hs; rfl) (by simpa using hst))
    · exact wp_ranW (wanted_yes rfl rfl rfl (hgot 21 _ 40 rfl (hdep ⟨21, .guard⟩ (by simp) rfl) rfl)) (exec_eqi (rfl) rfl (eval_tmp (hgot 24 _ 43 rfl (hdep ⟨24, .data⟩ (by simp) rfl) rfl)) rfl) (hK x _ _ (fun _ _ _ _ _ _ => rfl) (fun s hs => by cases hs; rfl) (by simpa using hst))
    · exact wp_ran rfl (exec_pick rfl (eval_tmp (hgot 21 _ 40 rfl (hdep ⟨21, .data⟩ (by simp) rfl) rfl)) (eval_tmp (hgot 25 _ 44 rfl (hdep ⟨25, .data⟩ (by simp) rfl) rfl)) rfl rfl) (hK x _ _ (fun _ _ _ _ _ _ => rfl) (fun s hs => by cases hs; rfl) (by simpa using hst))
    · exact wp_ran rfl (exec_move rfl (eval_tmp (hgot 26 _ 45 rfl (hdep ⟨26, .data⟩ (by simp) rfl) rfl))) (hK x _ _ (fun _ _ _ _ _ _ => rfl) (fun s hs => by cases hs; rfl) (by simpa using hst))
    · exact wp_ranW (wanted_yes rfl rfl rfl (hgot 27 _ 46 rfl (hdep ⟨27, .guard⟩ (by simp) rfl) rfl)) (exec_fa4 rfl (eval_tmp ((hpar 3 rfl).trans rfl))) (hK x _ _ (fun _ _ _ _ _ _ => rfl) (fun s hs => by cases hs; rfl) (by simpa using hst))
    · have hm := (Mod.drew [] u8).then hst.1
      exact wp_ranW (wanted_yes rfl rfl rfl (hgot 27 _ 46 rfl (hdep ⟨27, .guard⟩ (by simp) rfl) rfl)) (exec_load rfl (eval_tmp (hgot 28 _ 47 rfl (hdep ⟨28, .data⟩ (by simp) rfl) rfl)) (run_load1 Tryd.underlying22 rfl ((hu8.keep hm (by simp)).cell 4))) (hK x _ _ (fun _ _ _ _ _ _ => rfl) (fun s hs => by cases hs; rfl) (by simpa using hst))
    · exact wp_ranW (wanted_yes rfl rfl rfl (hgot 27 _ 46 rfl (hdep ⟨27, .guard⟩ (by simp) rfl) rfl)) (exec_ixs Tryd.underlying22 size24 (by decide) rfl (eval_tmp (hgot 29 _ 48 rfl (hdep ⟨29, .data⟩ (by simp) rfl) rfl)) rfl) (hK x _ _ (fun _ _ _ _ _ _ => rfl) (fun s hs => by cases hs; rfl) (by simpa using hst))
    · have hm := (Mod.drew [] u8).then hst.1
      exact wp_ranW (wanted_yes rfl rfl rfl (hgot 27 _ 46 rfl (hdep ⟨27, .guard⟩ (by simp) rfl) rfl)) (exec_load rfl (eval_tmp (hgot 30 _ 49 rfl (hdep ⟨30, .data⟩ (by simp) rfl) rfl)) (run_loads (hK8.out.1.keep hm (by simp)) Tryd.underlying24 rfl (size24' hK8.out.2.len))) (hK x _ _ (fun _ _ _ _ _ _ => rfl) (fun s hs => by cases hs; rfl) (by simpa using hst))
    · refine wp_calledW (wanted_yes rfl rfl rfl (hgot 27 _ 46 rfl (hdep ⟨27, .guard⟩ (by simp) rfl) rfl)) (exec_call1 rfl rfl rfl (enters_of Tryd.func16 (by kernel_rfl) rfl)) ((text_c _ (by decide) v).mono ?_)
      rintro e v' ⟨c2, rfl, hT2, m2⟩
      exact ⟨_, rfl, hK c2 _ _ (fun j' o' s' g1 g2 g3 => by
          have g4 : j' < 36 := (Array.getElem?_eq_some_iff.1 g1).1
          clear hpar hgot hdep hcl hK
          obtain rfl | rfl | rfl | rfl | rfl | rfl | rfl | rfl | rfl | rfl | rfl | rfl | rfl | rfl | rfl | rfl | rfl | rfl | rfl | rfl | rfl | rfl | rfl | rfl | rfl | rfl | rfl | rfl | rfl | rfl | rfl | rfl | rfl | rfl | rfl | rfl : j' = 0 ∨ j' = 1 ∨ j' = 2 ∨ j' = 3 ∨ j' = 4 ∨ j' = 5 ∨ j' = 6 ∨ j' = 7 ∨ j' = 8 ∨ j' = 9 ∨ j' = 10 ∨ j' = 11 ∨ j' = 12 ∨ j' = 13 ∨ j' = 14 ∨ j' = 15 ∨ j' = 16 ∨ j' = 17 ∨ j' = 18 ∨ j' = 19 ∨ j' = 20 ∨ j' = 21 ∨ j' = 22 ∨ j' = 23 ∨ j' = 24 ∨ j' = 25 ∨ j' = 26 ∨ j' = 27 ∨ j' = 28 ∨ j' = 29 ∨ j' = 30 ∨ j' = 31 ∨ j' = 32 ∨ j' = 33 ∨ j' = 34 ∨ j' = 35 := by omega
          all_goals (cases g1; cases g3 <;> first | rfl | (rw [hlj] at g2; cases g2))) (fun s hs => by cases hs; rfl) ⟨hst.1.then m2, fun _ => ⟨_, hT2⟩⟩⟩
    · have hm := (Mod.drew [] u8).then hst.1
      obtain ⟨S2, hT2⟩ := hst.2 (hdep ⟨32, .data⟩ (by simp) rfl)
      refine wp_calledW (wanted_yes rfl rfl rfl (hgot 27 _ 46 rfl (hdep ⟨27, .guard⟩ (by simp) rfl) rfl)) (exec_call2 rfl rfl (eval_tmp (hgot 31 _ 50 rfl (hdep ⟨31, .data⟩ (by simp) rfl) rfl)) (eval_tmp (hgot 32 _ 51 rfl (hdep ⟨32, .data⟩ (by simp) rfl) rfl)) (enters_of Tryd.func33 (by kernel_rfl) rfl)) ((psame_all _ tHi tHi cs1 x S1 S2 v (Nat.le_refl _) (hK8.out.2.keep hm (by simp)) hT2).mono ?_)
      rintro e v' ⟨rfl, m2⟩
      rw [tHi_same]
      exact ⟨_, rfl, hK x _ _ (fun _ _ _ _ _ _ => rfl) (fun s hs => by cases hs; rfl) ⟨hst.1.then m2, fun h => ⟨S2, hT2.keep m2 (by simp)⟩⟩⟩
    · exact wp_ran rfl (exec_pick rfl (eval_tmp (hgot 27 _ 46 rfl (hdep ⟨27, .data⟩ (by simp) rfl) rfl)) (eval_tmp (hgot 33 _ 52 rfl (hdep ⟨33, .data⟩ (by simp) rfl) rfl)) rfl rfl) (hK x _ _ (fun _ _ _ _ _ _ => rfl) (fun s hs => by cases hs; rfl) (by simpa using hst))
    · exact wp_ran rfl (exec_assign rfl (eval_tmp (hgot 34 _ 53 rfl (hdep ⟨34, .data⟩ (by simp) rfl) rfl))) (hK x _ _ (fun _ _ _ _ _ _ => rfl) (fun s hs => by cases hs; rfl) (by simpa using hst))
  case fin =>
  intro x lz vr hlz hst
  have hm := (Mod.drew [] u8).then hst.1
  simp only [setAll, List.foldl_cons, List.foldl_nil, List.set_cons_succ, List.set_cons_zero]
  go_wp2_with fail
  go_ret
  exact ⟨rfl, m8.then hm⟩
end
section
open Go.RowKit Go.Shelf
set_option linter.unusedVariables false
set_option linter.unusedSimpArgs false
theorem back_facts {l l' : List UInt8} {x : Tm} {n sx : Nat} (hn : n = l.length) (HD : Tm.dec 60 l 0 = .ok (x, l', sx)) : l = x.bytes ++ l' ∧ x.right = true ∧ n - l'.length = x.bytes.length ∧ n - l'.length ≤ n := by
  obtain ⟨h1, h2, h3, h4, h5⟩ := Tm.dec_back _ _ _ _ _ _ HD
  refine ⟨h1, ?_, ?_, by omega⟩
  · simp only [Tm.right, h2, h3, Bool.true_and, decide_true, Bool.and_true, decide_eq_true_eq]
    omega
  · rw [hn, h1]; simp
theorem back_again {t : Tm} (h : t.right = true) (l : List UInt8) : Tm.dec 60 (t.bytes ++ l) 0 = .ok (t, l, 0 + t.count) ∧ (t.bytes ++ l).length - l.length = t.bytes.length ∧ ∀ k, k < t.bytes.length → Tm.dec 60 (t.bytes.take k) 0 = .error 7 := by
  simp only [Tm.right, Bool.and_eq_true, decide_eq_true_eq] at h
  refine ⟨Tm.dec_enc 60 t 0 l h.1.1 h.1.2 (by omega), by simp, fun k hk => Tm.dec_short 60 t 0 _ h.1.1 h.1.2 (by omega) ⟨t.bytes.drop k, ?_, (List.take_append_drop _ _).symm⟩⟩
  intro e
  have := congrArg List.length e
  simp at this
  omega
theorem right_len {t : Tm} (h : t.right = true) : t.bytes.length ≤ 1000000000 := by
  simp only [Tm.right, Bool.and_eq_true, decide_eq_true_eq] at h
  have := bytes_len t h.1.1
  omega
theorem decode_yes (A : Option Addr) (l l' : List UInt8) (t : Tm) (s n c nx : Nat) (w : World) (hn : n = l.length) (hl : l.length ≤ 140737488355328) (h : Reads w A l) (G : Glob w) (HD : Tm.dec 60 l 0 = .ok (t, l', s)) (hx : n - l'.length = nx) :
    Calls Tryd.prog 51 #[.slice A n c] w fun e w' => ∃ cs, e = .returned (.tuple #[.agg cs.toArray, .int .i64 (nx : Int), .int .i64 0]) ∧ TIs w' (Btw w.heap.size w'.heap.size) t cs ∧ Mod [] w w' := by
  subst hx
  exact decode_ok A l l' t s n c w hn hl h G HD
theorem Reads.left {w : World} {A : Option Addr} {l m : List UInt8} (h : Reads w A (l ++ m)) : Reads w A l := by
  intro i hi
  obtain ⟨g, o, e, hc⟩ := h i (by simp; omega)
  rw [List.getElem_append_left hi] at hc
  exact ⟨g, o, e, hc⟩
theorem Reads.firsts {w : World} {A : Option Addr} {l : List UInt8} (h : Reads w A l) (k : Nat) : Reads w A (l.take k) := Reads.left (m := l.drop k) (by rw [List.take_append_drop]; exact h)
theorem five {cs : List Value} (h : cs.length = 5) : ∃ a b c d e, cs = [a, b, c, d, e] := by
  match cs, h with
  | [a, b, c, d, e], _ => exact ⟨a, b, c, d, e, rfl⟩
theorem exec_pre {v : World} {o : Oper} {ρ : Operand → Value} {x y : Operand} {g f n c k : Nat} (hk : k ≤ c) (ho : o.op = .slice 62 x none (some y) none) (hx : ρ x = .slice (some ⟨g, f, none⟩) n c) (hy : ρ y = .int .i64 (k : Int)) : (execOp ρ o).run Tryd.prog v = .ok (.value (.slice (some ⟨g, f, none⟩) k c)) v := by
  unfold execOp
  simp [ho, hx, hy, go_sem, run_underlying Tryd.underlying62]
  intro h
  omega
theorem exec_max1 {P : Program} {v : World} {o : Oper} {ρ : Operand → Value} {x y : Operand} {a b : Int} (ho : o.op = .call { callee := .builtin .max, args := #[x, y], argTypes := #[3, 3] }) (hx : ρ x = .int .i64 a) (hy : ρ y = .int .i64 b) : (execOp ρ o).run P v = .ok (.value (.int .i64 (max a b))) v := by
  unfold execOp
  simp [ho, hx, hy, go_sem]
  by_cases h : a < b
  · simp [h, Int.max_eq_right (Int.le_of_lt h)]
  · simp [h, Int.max_eq_left (Int.not_lt.1 h)]
theorem exec_rem {P : Program} {v : World} {o : Oper} {ρ : Operand → Value} {t : TypeId} {x y : Operand} {a b : Nat} (hb : 0 < b) (ho : o.op = .binOp .rem t x y t) (hx : ρ x = .int .i64 (a : Int)) (hy : ρ y = .int .i64 (b : Int)) (h63 : b < 2 ^ 63) : (execOp ρ o).run P v = .ok (.value (.int .i64 ((a % b : Nat) : Int))) v := by
  unfold execOp
  simp [ho, hx, hy, go_sem]
  rw [if_neg (by omega), Int.tmod_eq_emod_of_nonneg (by omega)]
theorem wpList_none27 {w : World} {ops : Array Oper} {rest : List Oper} {o : Oper} {a : Act} {Q : Exit → Act → World → Prop} (hgd : o.guard = none) (ho : o.op = .buildSlice 62 0 #[])
    (h : ∀ v, Holds v w.heap.size 5 [] → Mod [] w v → v.heap.size = w.heap.size + 1 → wpList Tryd.prog ops Q rest (a.put o.dst (.slice (some ⟨w.heap.size, 0, none⟩) 0 0)) v) : wpList Tryd.prog ops Q (o :: rest) a w := by
  have hr : (Instr.buildSlice 62 0 #[]).run Tryd.prog w = .ok (.slice (some ⟨w.heap.size, 0, none⟩) 0 0) (w.alloc (.cells ([] : List Value).toArray 5)) := by kernel_rfl
  refine wpList_plain hgd fun K hK => ?_
  unfold Oper.wp execOp
  simp only [ho, List.map_toArray, List.map_nil, Sem.run_bind, hr, Result.andThen, Sem.run_pure]
  exact hK _ _ (h _ (Holds.made w 5 []) (Mod.alloc [] w _) (by simp))
end
end Go.Proofs.YtchanildogjhgaaDoor
