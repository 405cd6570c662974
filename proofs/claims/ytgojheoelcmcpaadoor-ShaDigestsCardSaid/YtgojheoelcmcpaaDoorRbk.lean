/-
  Contracts: the document's own numbers behind a block. My own work.
-/
import Derived.Test.YtgojheoelcmcpaaDoorWrd
import Derived.BigQuiet
namespace Go.Proofs.YtgojheoelcmcpaaDoor
open Go.RowKit
theorem run_build26 (a b c d e f g h : UInt32) (w : World) : (Instr.build 26 #[(0, wd a), (1, wd b), (2, wd c), (3, wd d), (4, wd e), (5, wd f), (6, wd g), (7, wd h)]).run Tryd.prog w = .ok (.agg ([a, b, c, d, e, f, g, h].map wd).toArray) w := by
  refine run_build w _ _ _ ?_
  kernel_rfl
theorem exec_build26 {v : World} {o : Oper} {ρ : Operand → Value} {x0 x1 x2 x3 x4 x5 x6 x7 : Operand} {a b c d e f g h : UInt32} (ho : o.op = .build 26 #[(0, x0), (1, x1), (2, x2), (3, x3), (4, x4), (5, x5), (6, x6), (7, x7)])
    (h0 : ρ x0 = wd a) (h1 : ρ x1 = wd b) (h2 : ρ x2 = wd c) (h3 : ρ x3 = wd d) (h4 : ρ x4 = wd e) (h5 : ρ x5 = wd f) (h6 : ρ x6 = wd g) (h7 : ρ x7 = wd h) :
    (execOp ρ o).run Tryd.prog v = .ok (.value (.agg ([a, b, c, d, e, f, g, h].map wd).toArray)) v := by
  unfold execOp
  simp only [ho, List.map_toArray, List.map_cons, List.map_nil, h0, h1, h2, h3, h4, h5, h6, h7, Sem.run_bind, run_build26, Result.andThen, Sem.run_pure]
theorem eight_of (L : List UInt32) (h : L.length = 8) : ∃ a b c d e f g i, L = [a, b, c, d, e, f, g, i] := by
  match L, h with
  | [a, b, c, d, e, f, g, i], _ => exact ⟨a, b, c, d, e, f, g, i, rfl⟩
theorem steps_take (h xs : List UInt32) (k : Nat) (hk : k < xs.length) : steps h (xs.take (k + 1)) = step1 (steps h (xs.take k)) (g0 xs k) := by
  rw [List.take_succ_eq_append_getElem hk, steps_snoc, g0_get _ _ hk]
theorem step_eight (a b c d e f g i x y : UInt32) : step1 [a, b, c, d, e, f, g, i] (x + y) =
    [(i + bg1 e + pck e f g + x + y) + bg0 a + mst a b c, a, b, c, d + (i + bg1 e + pck e f g + x + y), e, f, g] := by
  simp only [step1, g0, List.getD_cons_zero, List.getD_cons_succ, UInt32.add_assoc]
theorem exec_index24 {v : World} {o : Oper} {ρ : Operand → Value} {x y : Operand} {L : List UInt32} {k : Nat} (hL : L.length = 64) (hk : k < 64) (ho : o.op = .index 24 x y) (hx : ρ x = .agg (L.map wd).toArray) (hy : ρ y = .int .i64 (k : Int)) : (execOp ρ o).run Tryd.prog v = .ok (.value (wd (g0 L k))) v := by
  have hrun : (Instr.index 24 (.agg (L.map wd).toArray) (.int .i64 (k : Int))).run Tryd.prog v = .ok (wd (g0 L k)) v := by
    obtain ⟨it, h1, h2⟩ := it23
    unfold Instr.index
    simp [Sem.run_bind, run_underlying Tryd.underlying24, go_sem, sizeOf, typeInfo, h1, h2, hk]
    rw [List.getElem?_eq_getElem (by omega : k < L.length), g0_get _ _ (by omega)]
    rfl
  unfold execOp
  simp only [ho, hx, hy, Sem.run_bind, hrun, Result.andThen, Sem.run_pure]
set_option maxRecDepth 100000 in
set_option maxHeartbeats 8000000 in
theorem rblock_c (A : Option Addr) (b : List UInt8) (cp : Nat) (h c : List UInt32) (hb : b.length = 64) (hcp : 64 ≤ cp) (hcp' : cp ≤ maxLen) (hh : h.length = 8) (hc : c.length = 64) (w : World) (R : Reads w A b) :
    Calls Tryd.prog 18 #[.agg (h.map wd).toArray, .slice A 64 cp, .agg (c.map wd).toArray] w fun e w' => e = .returned (.agg ((blkN c h (first16 b)).map wd).toArray) ∧ Mod [] w w' := by
  have hf := first16_length b
  have hwds := fun (v : World) (m : Mod [] w v) => words_c A b cp hb hcp hcp' v (R.keep m (by simp))
  obtain ⟨S, hS⟩ : ∃ S, S = more (first16 b) 48 := ⟨_, rfl⟩
  rw [← hS] at hwds
  have hSl : S.length = 64 := by rw [hS, more_length, hf]
  obtain ⟨xs, hxs⟩ : ∃ xs, xs = sums c (first16 b) := ⟨_, rfl⟩
  have hxl : xs.length = 64 := by rw [hxs]; exact sums_length _ _ hc hf
  have hxa : ∀ k, k < 64 → g0 xs k = g0 c k + g0 S k := fun k hk => by rw [hxs, hS]; exact sums_at _ _ _ hc hf hk
  obtain ⟨Bl, hBl⟩ : ∃ B, B = blkN c h (first16 b) := ⟨_, rfl⟩
  have hBe : Bl = List.zipWith (· + ·) h (steps h xs) := by rw [hBl, hxs]; rfl
  rw [← hBl]
  have HH := Lib.hid (And.intro hwds (And.intro hSl (And.intro hxl (And.intro hxa (And.intro hBe (And.intro hh hc))))))
  clear hwds hSl hxl hxa hBe hh hc hBl hxs hS R hb hcp hcp' hf
  go_enter Tryd.func18, Tryd.ntmps18
  go_wp2_with (first
    | (with_reducible refine wpList_boxes (o := ⟨some 3, .box 26 (.tmp 0), _, _, _, _⟩) rfl 26 (.tmp 0) rfl _ rfl (h.map wd) rfl ?_; intro w1 b3 m1 z1; replace z1 := Lib.hid z1)
    | (with_reducible refine wpList_boxes (o := ⟨some 5, .box 24 (.tmp 2), _, _, _, _⟩) rfl 24 (.tmp 2) rfl _ rfl (c.map wd) rfl ?_; intro w2 b5 m2 z2; replace z2 := Lib.hid z2)
    | (with_reducible refine wpList_allocs (o := ⟨some 6, .alloc 26, _, _, _, _⟩) rfl 26 rfl _ zero26 ?_; intro w3 b6 m3 z3; replace z3 := Lib.hid z3)
    | (with_reducible refine wpList_loads (o := ⟨some 15, .load 26 (.tmp 3), _, _, _, _⟩) rfl 26 (.tmp 3) rfl w.heap.size 0 _ rfl (Cells.of_holds ((b3.keep m2 (by simp)).keep m3 (by simp))) _ Tryd.underlying26 rfl (size26_of _ HH.out.2.2.2.2.2.1) (.agg (h.map wd).toArray) rfl ?_)
    | (with_reducible refine wpList_allocs (o := ⟨some 7, .alloc 26, _, _, _, _⟩) rfl 26 rfl _ zero26 ?_; intro w4 b7 m4 z4; replace z4 := Lib.hid z4)
    | (with_reducible refine wpList_storesAll (o := ⟨none, .store 26 (.tmp 7) (.tmp 15), _, _, _, _⟩) rfl 26 (.tmp 7) (.tmp 15) rfl rfl w3.heap.size (h.map wd) rfl (.agg (h.map wd).toArray) rfl rfl 26 _ b7 (by rw [List.length_map, List.length_map, HH.out.2.2.2.2.2.1, List.length_replicate]) (words_one _) (size26_of _ HH.out.2.2.2.2.2.1) ?_; intro w5 d7 m5 z5; replace z5 := Lib.hid z5))
  obtain ⟨g3, e3⟩ : ∃ g, g = w.heap.size := ⟨_, rfl⟩
  obtain ⟨g5, e5⟩ : ∃ g, g = w1.heap.size := ⟨_, rfl⟩
  obtain ⟨g6, e6⟩ : ∃ g, g = w2.heap.size := ⟨_, rfl⟩
  obtain ⟨g7, e7⟩ : ∃ g, g = w3.heap.size := ⟨_, rfl⟩
  have hg : g5 = g3 + 1 ∧ g6 = g3 + 2 ∧ g7 = g3 + 3 ∧ g3 = w.heap.size := by have := z1.out; have := z2.out; have := z3.out; omega
  have mm : Mod [] w w5 := (((m1.then m2).then m3).then m4).trans m5 (by intro i hi h; simp at h; omega)
  have d3 : Holds w5 g3 26 (h.map wd) := by rw [e3]; exact (((b3.keep m2 (by simp)).keep m3 (by simp)).keep m4 (by simp)).keep m5 (by simp; omega)
  have d5 : Holds w5 g5 24 (c.map wd) := by rw [e5]; exact ((b5.keep m3 (by simp)).keep m4 (by simp)).keep m5 (by simp; omega)
  have d6 : Holds w5 g6 26 ((List.replicate 8 (0 : UInt32)).map wd) := by rw [e6]; exact (b6.keep m4 (by simp)).keep m5 (by simp; omega)
  rw [← e7] at d7 ⊢
  rw [← e3, ← e5, ← e6]
  have HG := Lib.hid hg
  clear hg e3 e5 e6 e7 m1 m2 m3 m4 m5 z1 z2 z3 z4 z5 b3 b5 b6 b7
  go_wp2_with fail
  refine (HH.out.1 _ mm).mono ?_
  rintro e w6 ⟨rfl, m6⟩
  replace d3 := d3.keep m6 (by simp)
  replace d5 := d5.keep m6 (by simp)
  replace d6 := d6.keep m6 (by simp)
  replace d7 := d7.keep m6 (by simp)
  replace mm := mm.then m6
  clear m6
  go_wp2_with fail
  go_loopw [18] (fun i v => ∃ (k : Nat) (L : List UInt32), i = .int .i64 (k : Int) ∧ k ≤ 64 ∧ L = steps h (xs.take k) ∧ Holds v g7 26 (L.map wd) ∧ Holds v g3 26 (h.map wd) ∧ Holds v g5 24 (c.map wd) ∧ Holds v g6 26 ((List.replicate 8 (0 : UInt32)).map wd) ∧ Mod [] w v) (fun i v => 64 - (intOf i).toNat)
  case atStart => exact ⟨0, h, rfl, by omega, rfl, d7, d3, d5, d6, mm⟩
  case round =>
    obtain ⟨k, L, rfl, hk, hL, k7, k3, k5, k6, mk⟩ := hrel
    clear d7 d3 d5 d6 mm
    have hLl : L.length = 8 := by rw [hL]; exact steps_length _ _ HH.out.2.2.2.2.2.1
    by_cases hlt : k < 64
    · obtain ⟨x0, x1, x2, x3, x4, x5, x6, x7, rfl⟩ := eight_of L hLl
      have hlt' : (k : Int) < 64 := by omega
      have hk0 : (0 : Int) ≤ (k : Int) := by omega
      have hnx := steps_take h xs k (by rw [HH.out.2.2.1]; exact hlt)
      rw [← hL, HH.out.2.2.2.1 k hlt, step_eight] at hnx
      obtain ⟨Ck, hCk⟩ : ∃ Z, Z = g0 c k := ⟨_, rfl⟩
      obtain ⟨Wk, hWk⟩ : ∃ Z, Z = g0 S k := ⟨_, rfl⟩
      rw [← hCk] at hnx
      rw [← hWk] at hnx
      obtain ⟨E1, e1⟩ : ∃ Z, Z = rot 6 x4 ^^^ rot 11 x4 := ⟨_, rfl⟩
      have q1 := xor_wd (rot 6 x4) (rot 11 x4)
      have q2 := xor_wd E1 (rot 25 x4)
      rw [← e1] at q1
      rw [show E1 ^^^ rot 25 x4 = bg1 x4 by rw [e1]; rfl] at q2
      obtain ⟨F1, f1⟩ : ∃ Z, Z = rot 2 x0 ^^^ rot 13 x0 := ⟨_, rfl⟩
      have q3 := xor_wd (rot 2 x0) (rot 13 x0)
      have q4 := xor_wd F1 (rot 22 x0)
      rw [← f1] at q3
      rw [show F1 ^^^ rot 22 x0 = bg0 x0 by rw [f1]; rfl] at q4
      have q5 := add_wd x7 (bg1 x4)
      have q6 := add_wd (x7 + bg1 x4) (pck x4 x5 x6)
      have q7 := add_wd (x7 + bg1 x4 + pck x4 x5 x6) Ck
      have q8 := add_wd (x7 + bg1 x4 + pck x4 x5 x6 + Ck) Wk
      obtain ⟨s5, g5'⟩ : ∃ Z, Z = x7 + bg1 x4 := ⟨_, rfl⟩
      rw [← g5'] at q5 q6 q7 q8 hnx
      obtain ⟨s6, g6'⟩ : ∃ Z, Z = s5 + pck x4 x5 x6 := ⟨_, rfl⟩
      rw [← g6'] at q6 q7 q8 hnx
      obtain ⟨s7, g7'⟩ : ∃ Z, Z = s6 + Ck := ⟨_, rfl⟩
      rw [← g7'] at q7 q8 hnx
      obtain ⟨s8, g8'⟩ : ∃ Z, Z = s7 + Wk := ⟨_, rfl⟩
      rw [← g8'] at q8 hnx
      have q9 := add_wd s8 (bg0 x0)
      have q10 := add_wd (s8 + bg0 x0) (mst x0 x1 x2)
      have q11 := add_wd x3 s8
      obtain ⟨s9, g9'⟩ : ∃ Z, Z = s8 + bg0 x0 := ⟨_, rfl⟩
      rw [← g9'] at q9 q10 hnx
      obtain ⟨s10, g10'⟩ : ∃ Z, Z = s9 + mst x0 x1 x2 := ⟨_, rfl⟩
      rw [← g10'] at q10 hnx
      obtain ⟨s11, g11'⟩ : ∃ Z, Z = x3 + s8 := ⟨_, rfl⟩
      rw [← g11'] at q11 hnx
      clear g5' g6' g7' g8' g9' g10' g11' e1 f1
      have rx46 : ∀ u : World, Calls Tryd.prog 38 #[wd x4, .int .i64 6] u fun e w' => e = .returned (wd (rot 6 x4)) ∧ w' = u := fun u => rturn_c x4 6 (by omega) u
      have rx411 : ∀ u : World, Calls Tryd.prog 38 #[wd x4, .int .i64 11] u fun e w' => e = .returned (wd (rot 11 x4)) ∧ w' = u := fun u => rturn_c x4 11 (by omega) u
      have rx425 : ∀ u : World, Calls Tryd.prog 38 #[wd x4, .int .i64 25] u fun e w' => e = .returned (wd (rot 25 x4)) ∧ w' = u := fun u => rturn_c x4 25 (by omega) u
      have rx02 : ∀ u : World, Calls Tryd.prog 38 #[wd x0, .int .i64 2] u fun e w' => e = .returned (wd (rot 2 x0)) ∧ w' = u := fun u => rturn_c x0 2 (by omega) u
      have rx013 : ∀ u : World, Calls Tryd.prog 38 #[wd x0, .int .i64 13] u fun e w' => e = .returned (wd (rot 13 x0)) ∧ w' = u := fun u => rturn_c x0 13 (by omega) u
      have rx022 : ∀ u : World, Calls Tryd.prog 38 #[wd x0, .int .i64 22] u fun e w' => e = .returned (wd (rot 22 x0)) ∧ w' = u := fun u => rturn_c x0 22 (by omega) u
      have HR := Lib.hid (And.intro rx46 (And.intro rx411 (And.intro rx425 (And.intro rx02 (And.intro rx013 rx022)))))
      clear rx46 rx411 rx425 rx02 rx013 rx022
      have HK := Lib.hid (And.intro hnx (And.intro hlt (And.intro hWk hCk)))
      have Hwr := Lib.hid (And.intro k7 (And.intro k3 (And.intro k5 (And.intro k6 mk))))
      clear hnx k7 k3 k5 k6 mk hlt hWk hCk hL hLl hk
      have c0 : wr.cell? ⟨g7, 0, none⟩ = some (wd x0) := word_cell Hwr.out.1 (i := 0) (by simp)
      have c1 : wr.cell? ⟨g7, 1, none⟩ = some (wd x1) := word_cell Hwr.out.1 (i := 1) (by simp)
      have c2 : wr.cell? ⟨g7, 2, none⟩ = some (wd x2) := word_cell Hwr.out.1 (i := 2) (by simp)
      have c3 : wr.cell? ⟨g7, 3, none⟩ = some (wd x3) := word_cell Hwr.out.1 (i := 3) (by simp)
      have c4 : wr.cell? ⟨g7, 4, none⟩ = some (wd x4) := word_cell Hwr.out.1 (i := 4) (by simp)
      have c5 : wr.cell? ⟨g7, 5, none⟩ = some (wd x5) := word_cell Hwr.out.1 (i := 5) (by simp)
      have c6 : wr.cell? ⟨g7, 6, none⟩ = some (wd x6) := word_cell Hwr.out.1 (i := 6) (by simp)
      have c7 : wr.cell? ⟨g7, 7, none⟩ = some (wd x7) := word_cell Hwr.out.1 (i := 7) (by simp)
      have cc : wr.cell? ⟨g5, k, none⟩ = some (wd Ck) := by
        have := word_cell Hwr.out.2.2.1 (i := k) (by rw [HH.out.2.2.2.2.2.2]; exact HK.out.2.1)
        rwa [Nat.zero_add, ← HK.out.2.2.2] at this
      go_wp2_with (with_reducible refine wpList_ran (o := ⟨some 21, .index 24 (.tmp 17) (.tmp 18), _, _, _, _⟩) rfl (wd Wk) (by rw [HK.out.2.2.1]; exact exec_index24 HH.out.2.1 HK.out.2.1 rfl rfl rfl) ?_)
      go_quiet (fail)
      obtain ⟨wa, hwa⟩ : ∃ v, v = wr.drewN nq := ⟨_, rfl⟩
      have mwa : Mod [] wr wa := by rw [hwa]; exact Mod.drewN [] wr nq
      have Hwa := Lib.hid (And.intro (Hwr.out.1.keep mwa (by simp)) (And.intro (Hwr.out.2.1.keep mwa (by simp)) (And.intro (Hwr.out.2.2.1.keep mwa (by simp)) (And.intro (Hwr.out.2.2.2.1.keep mwa (by simp)) (Hwr.out.2.2.2.2.then mwa)))))
      rw [← hwa]
      clear hwa mwa c0 c1 c2 c3 c4 c5 c6 c7 cc nq Hwr
      have c0 : wa.cell? ⟨g7, 0, none⟩ = some (wd x0) := word_cell Hwa.out.1 (i := 0) (by simp)
      have c1 : wa.cell? ⟨g7, 1, none⟩ = some (wd x1) := word_cell Hwa.out.1 (i := 1) (by simp)
      have c2 : wa.cell? ⟨g7, 2, none⟩ = some (wd x2) := word_cell Hwa.out.1 (i := 2) (by simp)
      have c3 : wa.cell? ⟨g7, 3, none⟩ = some (wd x3) := word_cell Hwa.out.1 (i := 3) (by simp)
      have c4 : wa.cell? ⟨g7, 4, none⟩ = some (wd x4) := word_cell Hwa.out.1 (i := 4) (by simp)
      have c5 : wa.cell? ⟨g7, 5, none⟩ = some (wd x5) := word_cell Hwa.out.1 (i := 5) (by simp)
      have c6 : wa.cell? ⟨g7, 6, none⟩ = some (wd x6) := word_cell Hwa.out.1 (i := 6) (by simp)
      have c7 : wa.cell? ⟨g7, 7, none⟩ = some (wd x7) := word_cell Hwa.out.1 (i := 7) (by simp)
      have cc : wa.cell? ⟨g5, k, none⟩ = some (wd Ck) := by
        have := word_cell Hwa.out.2.2.1 (i := k) (by rw [HH.out.2.2.2.2.2.2]; exact HK.out.2.1)
        rwa [Nat.zero_add, ← HK.out.2.2.2] at this
      go_wp2_with fail
      go_quiet ((first
        | (go_at_call 38; first | (with_reducible exact Calls.quiet_of_same (HR.out.1 _)) | (with_reducible exact Calls.quiet_of_same (HR.out.2.1 _)) | (with_reducible exact Calls.quiet_of_same (HR.out.2.2.1 _)))
        | (go_at_call 39; exact Calls.quiet_of_same (rpick_c x4 x5 x6 _))))
      obtain ⟨wb, hwb⟩ : ∃ v, v = wa.drewN nq := ⟨_, rfl⟩
      have mwb : Mod [] wa wb := by rw [hwb]; exact Mod.drewN [] wa nq
      have Hwb := Lib.hid (And.intro (Hwa.out.1.keep mwb (by simp)) (And.intro (Hwa.out.2.1.keep mwb (by simp)) (And.intro (Hwa.out.2.2.1.keep mwb (by simp)) (And.intro (Hwa.out.2.2.2.1.keep mwb (by simp)) (Hwa.out.2.2.2.2.then mwb)))))
      rw [← hwb]
      clear hwb mwb c0 c1 c2 c3 c4 c5 c6 c7 cc nq Hwa
      have c0 : wb.cell? ⟨g7, 0, none⟩ = some (wd x0) := word_cell Hwb.out.1 (i := 0) (by simp)
      have c1 : wb.cell? ⟨g7, 1, none⟩ = some (wd x1) := word_cell Hwb.out.1 (i := 1) (by simp)
      have c2 : wb.cell? ⟨g7, 2, none⟩ = some (wd x2) := word_cell Hwb.out.1 (i := 2) (by simp)
      have c3 : wb.cell? ⟨g7, 3, none⟩ = some (wd x3) := word_cell Hwb.out.1 (i := 3) (by simp)
      have c4 : wb.cell? ⟨g7, 4, none⟩ = some (wd x4) := word_cell Hwb.out.1 (i := 4) (by simp)
      have c5 : wb.cell? ⟨g7, 5, none⟩ = some (wd x5) := word_cell Hwb.out.1 (i := 5) (by simp)
      have c6 : wb.cell? ⟨g7, 6, none⟩ = some (wd x6) := word_cell Hwb.out.1 (i := 6) (by simp)
      have c7 : wb.cell? ⟨g7, 7, none⟩ = some (wd x7) := word_cell Hwb.out.1 (i := 7) (by simp)
      have cc : wb.cell? ⟨g5, k, none⟩ = some (wd Ck) := by
        have := word_cell Hwb.out.2.2.1 (i := k) (by rw [HH.out.2.2.2.2.2.2]; exact HK.out.2.1)
        rwa [Nat.zero_add, ← HK.out.2.2.2] at this
      go_wp2_with fail
      go_quiet ((first
        | (go_at_call 38; first | (with_reducible exact Calls.quiet_of_same (HR.out.2.2.2.1 _)) | (with_reducible exact Calls.quiet_of_same (HR.out.2.2.2.2.1 _)) | (with_reducible exact Calls.quiet_of_same (HR.out.2.2.2.2.2 _)))
        | (go_at_call 40; exact Calls.quiet_of_same (rmost_c x0 x1 x2 _))))
      obtain ⟨wc, hwc⟩ : ∃ v, v = wb.drewN nq := ⟨_, rfl⟩
      have mwc : Mod [] wb wc := by rw [hwc]; exact Mod.drewN [] wb nq
      have Hwc := Lib.hid (And.intro (Hwb.out.1.keep mwc (by simp)) (And.intro (Hwb.out.2.1.keep mwc (by simp)) (And.intro (Hwb.out.2.2.1.keep mwc (by simp)) (And.intro (Hwb.out.2.2.2.1.keep mwc (by simp)) (Hwb.out.2.2.2.2.then mwc)))))
      rw [← hwc]
      clear hwc mwc c0 c1 c2 c3 c4 c5 c6 c7 cc nq Hwb
      have c0 : wc.cell? ⟨g7, 0, none⟩ = some (wd x0) := word_cell Hwc.out.1 (i := 0) (by simp)
      have c1 : wc.cell? ⟨g7, 1, none⟩ = some (wd x1) := word_cell Hwc.out.1 (i := 1) (by simp)
      have c2 : wc.cell? ⟨g7, 2, none⟩ = some (wd x2) := word_cell Hwc.out.1 (i := 2) (by simp)
      have c3 : wc.cell? ⟨g7, 3, none⟩ = some (wd x3) := word_cell Hwc.out.1 (i := 3) (by simp)
      have c4 : wc.cell? ⟨g7, 4, none⟩ = some (wd x4) := word_cell Hwc.out.1 (i := 4) (by simp)
      have c5 : wc.cell? ⟨g7, 5, none⟩ = some (wd x5) := word_cell Hwc.out.1 (i := 5) (by simp)
      have c6 : wc.cell? ⟨g7, 6, none⟩ = some (wd x6) := word_cell Hwc.out.1 (i := 6) (by simp)
      have c7 : wc.cell? ⟨g7, 7, none⟩ = some (wd x7) := word_cell Hwc.out.1 (i := 7) (by simp)
      have cc : wc.cell? ⟨g5, k, none⟩ = some (wd Ck) := by
        have := word_cell Hwc.out.2.2.1 (i := k) (by rw [HH.out.2.2.2.2.2.2]; exact HK.out.2.1)
        rwa [Nat.zero_add, ← HK.out.2.2.2] at this
      go_wp2_with (first
        | (with_reducible refine wpList_ran (o := ⟨some 82, .build 26 _, _, _, _, _⟩) rfl (.agg ([s10, x0, x1, x2, s11, x4, x5, x6].map wd).toArray) (exec_build26 rfl rfl rfl rfl rfl rfl rfl rfl rfl) ?_)
        | (with_reducible refine wpList_storesAll (o := ⟨none, .store 26 (.tmp 7) (.tmp 82), _, _, _, _⟩) rfl 26 (.tmp 7) (.tmp 82) rfl rfl g7 ([s10, x0, x1, x2, s11, x4, x5, x6].map wd) rfl (.agg ([s10, x0, x1, x2, s11, x4, x5, x6].map wd).toArray) rfl rfl 26 _ Hwc.out.1 (by simp) (words_one _) (size26_of _ rfl) ?_; intro wd1 D7 m7 z7; replace z7 := Lib.hid z7))
      refine ⟨⟨k + 1, [s10, x0, x1, x2, s11, x4, x5, x6], by simp, by have := HK.out.2.1; omega, HK.out.1.symm, D7, Hwc.out.2.1.keep m7 (by have := HG.out; simp; omega), Hwc.out.2.2.1.keep m7 (by have := HG.out; simp; omega), Hwc.out.2.2.2.1.keep m7 (by have := HG.out; simp; omega), Hwc.out.2.2.2.2.trans m7 (by have := HG.out; intro i hi h; simp at h; omega)⟩, by simp [intOf]; omega⟩
    · have hk64 : k = 64 := by omega
      have hLs : L = steps h xs := by rw [hL, List.take_of_length_le (by rw [HH.out.2.2.1]; omega)]
      have hlt' : ¬ (k : Int) < 64 := by omega
      have hrl : (steps h xs).length = 8 := steps_length _ _ HH.out.2.2.2.2.2.1
      rw [hLs] at k7
      have HX := Lib.hid hrl
      clear hL hLs hLl hk hlt hk64 k5 hrl
      go_wp2_with fail
      go_loopw [84] (fun i v => ∃ (q : Nat) (H : List UInt32), i = .int .i64 (q : Int) ∧ q ≤ 8 ∧ Added (steps h xs) h q H ∧ Holds v g7 26 (H.map wd) ∧ Holds v g3 26 (h.map wd) ∧ Holds v g6 26 ((List.replicate 8 (0 : UInt32)).map wd) ∧ Mod [] w v) (fun i v => 8 - (intOf i).toNat)
      case atStart => exact ⟨0, steps h xs, rfl, by omega, Added.start _ _ HX.out, k7, k3, k6, mk⟩
      case round =>
        clear k7 k3 k6 mk
        obtain ⟨q, H, rfl, hq8, hA, d7, d3, d6, mq⟩ := hrel
        by_cases hlt : q < 8
        · have hj8 := hlt
          have hz : (q : Int) < 8 := by omega
          have HA := Lib.hid hA
          clear hA hq8 hlt
          go_wp2_with fail
          refine wp_region_lit1 [.agg (h.map wd).toArray, .slice A 64 cp, .agg (c.map wd).toArray, .pointer (some ⟨g3, 0, none⟩), undef, .pointer (some ⟨g5, 0, none⟩), .pointer (some ⟨g6, 0, none⟩), .pointer (some ⟨g7, 0, none⟩), u8, u9, u10, u11, u12, u13, .int .i64 (q : Int), .agg (h.map wd).toArray, .slice A 64 cp, .agg (S.map wd).toArray, .int .i64 (k : Int), .bool false, u20, u21, u22, u23, u24, u25, u26, u27, u28, u29, u30, u31, u32, u33, u34, u35, u36, u37, u38, u39, u40, u41, u42, u43, u44, u45, u46, u47, u48, u49, u50, u51, u52, u53, u54, u55, u56, u57, u58, u59, u60, u61, u62, u63, u64, u65, u66, u67, u68, u69, u70, u71, u72, u73, u74, u75, u76, u77, u78, u79, u80, u81, u82, u83, .int .i64 (q : Int), .bool true, .int .i64 (q : Int), .int .i64 (q : Int), .pointer (some ⟨g7, 0 + q, none⟩), wd (g0 H q), .int .i64 (q : Int), .pointer (some ⟨g3, 0 + q, none⟩), wd (g0 h q), wd (g0 H q + g0 h q), .pointer (some ⟨g7, 0 + q, none⟩), u95, undef] 97 [0, 1, 2, 3, 4, 5, 6, 7, 8, 9, 10, 11, 12, 13, 14, 15, 16, 17, 18, 19, 20, 21, 22, 23, 24, 25, 26, 27, 28, 29, 30, 31, 32, 33, 34, 35, 36, 37, 38, 39, 40, 41, 42, 43, 44, 45, 46, 47, 48, 49, 50, 51, 52, 53, 54, 55, 56, 57, 58, 59, 60, 61, 62, 63, 64, 65, 66, 67, 68, 69, 70, 71, 72, 73, 74, 75, 76, 77, 78, 79, 80, 81, 82, 83, 84, 85, 86, 95, 96]
            (Sto 8 (fun v => Mod [] wr.drew v) (fun v => Holds v g7 26 ((H.set q (g0 H q + g0 h q)).map wd) ∧ Mod [g7] wr.drew v)) []
            (by kernel_rfl) rfl rfl rfl rfl (Sto.start (Mod.refl _ _)) (by kernel_rfl) (by kernel_rfl) ?step ?fin
          case step =>
            intro lz T v j o hj hlj hdep hst hpar hgot hcl K hK
            have hjn : j < 9 := (Array.getElem?_eq_some_iff.1 hj).1
            have hq := fun hq0 => Sto.now (j := j) hst hlj hq0
            obtain rfl | rfl | rfl | rfl | rfl | rfl | rfl | rfl | rfl : j = 0 ∨ j = 1 ∨ j = 2 ∨ j = 3 ∨ j = 4 ∨ j = 5 ∨ j = 6 ∨ j = 7 ∨ j = 8 := by omega
            all_goals (have hj' := Option.some.inj (hj : some _ = some o); subst hj'; clear hj)
            · exact wp_ran rfl (exec_move rfl (eval_tmp (hpar 14 (by simp)))) (hK _ _ (fun s hs => by cases hs; rfl) (Sto.keep (hq (by decide)) (by decide) (hq (by decide)).2))
            · exact wp_ran rfl (exec_at Tryd.underlying26 info23 hj8 rfl (eval_tmp (hpar 7 (by simp))) (eval_tmp (hgot 0 _ 87 rfl (hdep ⟨0, .data⟩ (by simp) rfl) rfl))) (hK _ _ (fun s hs => by cases hs; rfl) (Sto.keep (hq (by decide)) (by decide) (hq (by decide)).2))
            · exact wp_ran rfl (exec_load rfl (eval_tmp (hgot 1 _ 88 rfl (hdep ⟨1, .data⟩ (by simp) rfl) rfl)) (word_load (Holds.keep (w := wr.drew) d7 (hq (by decide)).2 (by simp)) (by rw [HA.out.len]; exact hj8))) (hK _ _ (fun s hs => by cases hs; rfl) (Sto.keep (hq (by decide)) (by decide) (hq (by decide)).2))
            · exact wp_ran rfl (exec_move rfl (eval_tmp (hpar 14 (by simp)))) (hK _ _ (fun s hs => by cases hs; rfl) (Sto.keep (hq (by decide)) (by decide) (hq (by decide)).2))
            · exact wp_ran rfl (exec_at Tryd.underlying26 info23 hj8 rfl (eval_tmp (hpar 3 (by simp))) (eval_tmp (hgot 3 _ 90 rfl (hdep ⟨3, .data⟩ (by simp) rfl) rfl))) (hK _ _ (fun s hs => by cases hs; rfl) (Sto.keep (hq (by decide)) (by decide) (hq (by decide)).2))
            · exact wp_ran rfl (exec_load rfl (eval_tmp (hgot 4 _ 91 rfl (hdep ⟨4, .data⟩ (by simp) rfl) rfl)) (word_load (Holds.keep (w := wr.drew) d3 (hq (by decide)).2 (by simp)) (by rw [HH.out.2.2.2.2.2.1]; exact hj8))) (hK _ _ (fun s hs => by cases hs; rfl) (Sto.keep (hq (by decide)) (by decide) (hq (by decide)).2))
            · exact wp_ran rfl (exec_add rfl (eval_tmp (hgot 2 _ 89 rfl (hdep ⟨2, .data⟩ (by simp) rfl) rfl)) (eval_tmp (hgot 5 _ 92 rfl (hdep ⟨5, .data⟩ (by simp) rfl) rfl)) (add_wd _ _)) (hK _ _ (fun s hs => by cases hs; rfl) (Sto.keep (hq (by decide)) (by decide) (hq (by decide)).2))
            · exact wp_ran rfl (exec_at Tryd.underlying26 info23 hj8 rfl (eval_tmp (hpar 7 (by simp))) (eval_tmp (hgot 0 _ 87 rfl (hdep ⟨0, .data⟩ (by simp) rfl) rfl))) (hK _ _ (fun s hs => by cases hs; rfl) (Sto.keep (hq (by decide)) (by decide) (hq (by decide)).2))
            · exact wp_ran_skip rfl (exec_word (z := g0 H q + g0 h q) rfl (eval_tmp (hgot 7 _ 94 rfl (hdep ⟨7, .data⟩ (by simp) rfl) rfl)) (eval_tmp (hgot 6 _ 93 rfl (hdep ⟨6, .data⟩ (by simp) rfl) rfl)) (Holds.keep (w := wr.drew) d7 (hq (by decide)).2 (by simp)) (by rw [HA.out.len]; exact hj8)) (hK _ _ (fun s hs => by cases hs) (Sto.done (reach_all (by kernel_rfl) hcl rfl hdep) ⟨word_set (Holds.keep (w := wr.drew) d7 (hq (by decide)).2 (by simp)) _ _, (hq (by decide)).2.pre (Mod.setCell _ (by simp) _)⟩))
          case fin =>
            intro lz v hl hst
            obtain ⟨n7, nm⟩ := Sto.fin hst hl (by decide)
            have n3 : Holds v g3 26 (h.map wd) := Holds.keep (w := wr.drew) d3 nm (by have := HG.out; simp; omega)
            have n6 : Holds v g6 26 ((List.replicate 8 (0 : UInt32)).map wd) := Holds.keep (w := wr.drew) d6 nm (by have := HG.out; simp; omega)
            have nn : Mod [] w v := mq.trans (Mod.drewed nm) (by have := HG.out; intro i hi h; simp at h; omega)
            have HN := Lib.hid (And.intro n7 (And.intro n3 (And.intro n6 (And.intro nn hj8))))
            clear n7 n3 n6 nn nm hst hl d7 d3 d6 mq hj8
            try dsimp only
            go_wp2_with fail
            exact ⟨⟨q + 1, H.set q (g0 H q + g0 h q), by simp, by have := HN.out.2.2.2.2; omega, HA.out.next HN.out.2.2.2.2, HN.out.1, HN.out.2.1, HN.out.2.2.1, HN.out.2.2.2.1⟩, by simp [intOf]; omega⟩
        · obtain rfl : q = 8 := by omega
          have hH : H = Bl := by
            rw [HH.out.2.2.2.2.1, hA.all HX.out HH.out.2.2.2.2.2.1]
            exact List.zipWith_comm_of_comm (fun a b => UInt32.add_comm a b)
          subst hH
          have hHl := hA.len
          clear hA hlt hq8
          go_wp2_with (first
            | (with_reducible refine wpList_loads (o := ⟨some 96, .load 26 (.tmp 7), _, _, _, _⟩) rfl 26 (.tmp 7) rfl g7 0 _ rfl (Cells.of_holds d7) _ Tryd.underlying26 rfl (size26_of _ hHl) (.agg (H.map wd).toArray) rfl ?_)
            | (with_reducible refine wpList_storesAll (o := ⟨none, .store 26 (.tmp 6) (.tmp 96), _, _, _, _⟩) rfl 26 (.tmp 6) (.tmp 96) rfl rfl g6 (H.map wd) rfl (.agg (H.map wd).toArray) rfl rfl 26 _ d6 (by rw [List.length_map, List.length_map, hHl, List.length_replicate]) (words_one _) (size26_of _ hHl) ?_; intro w3 hb3 m3 z3; replace z3 := Lib.hid z3))
          refine bodyPost_ret (results_cell_row rfl _ _ g6 26 _ (0, 0) _ rfl hb3 Tryd.underlying26 rfl (by rw [List.size_toArray]; exact size26_of _ hHl)) rfl ?_
          exact ⟨rfl, mq.trans m3 (by have := HG.out; intro i hi h; simp at h; omega)⟩
end Go.Proofs.YtgojheoelcmcpaaDoor
