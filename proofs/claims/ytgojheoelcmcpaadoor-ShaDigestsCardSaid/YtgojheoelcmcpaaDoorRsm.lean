/-
  Contracts of the document's own answers for sha: the digest. My own work.
-/
import Derived.Test.YtgojheoelcmcpaaDoorFil
import Derived.Test.YtgojheoelcmcpaaDoorRbk
import Derived.Test.YtgojheoelcmcpaaDoorCha
import Derived.Test.YtgojheoelcmcpaaDoorPar
import Derived.Test.YtgojheoelcmcpaaDoorTab
namespace Go.Proofs.YtgojheoelcmcpaaDoor
open Go.RowKit
theorem rblock_beh (C S0 : List UInt32) (hC : C.length = 64) (hS : S0.length = 8) (g7 k M : Nat) (Pd : List UInt8) (hPl : Pd.length = M) (hk : k * 64 + 64 ≤ M) (hM : M ≤ 772) (v : World) (d7 : Holds v g7 5 (Pd.map oct)) :
    Calls Tryd.prog 18 #[.agg ((beh C S0 Pd k).map wd).toArray, .slice (frm (some ⟨g7, 0, none⟩) (k * 64) M) (k * 64 + 64 - k * 64) (M - k * 64), .agg (C.map wd).toArray] v fun e w' => e = .returned (.agg ((beh C S0 Pd (k + 1)).map wd).toArray) ∧ Mod [] v w' := by
  have hR := ((Reads.of_holds d7).from (k * 64) M (by omega)).first 64
  have hlen : ((Pd.drop (k * 64)).take 64).length = 64 := by simp; omega
  have h := rblock_c (frm (some ⟨g7, 0, none⟩) (k * 64) M) ((Pd.drop (k * 64)).take 64) (M - k * 64) (beh C S0 Pd k) C hlen (by omega) (by unfold maxLen; omega) (beh_length _ _ _ hS _) hC v hR
  rw [Nat.add_sub_cancel_left]
  exact h
set_option maxRecDepth 1000000 in
set_option maxHeartbeats 8000000 in
theorem rsum_c (C S0 : List UInt32) (hC : C.length = 64) (hS : S0.length = 8) (A : Option Addr) (l : List UInt8) (n c : Nat) (w : World) (hn : n = l.length) (h7 : l.length ≤ 700) (R : Reads w A l) :
    Calls Tryd.prog 44 #[.slice A n c, .agg (C.map wd).toArray, .agg (S0.map wd).toArray] w fun e w' => e = .returned (.agg ((octs (sum2 C S0 l)).map oct).toArray) ∧ Mod [] w w' := by
  have HC := Lib.hid (And.intro hC hS)
  clear hC hS
  have hfill := fun (v : World) (m : Mod [] w v) => rfill_c A l n c v hn h7 (R.keep m (by simp))
  obtain ⟨M, hM⟩ : ∃ M, M = fillM l.length := ⟨_, rfl⟩
  obtain ⟨Pd, hPd⟩ : ∃ P, P = fillN l l.length := ⟨_, rfl⟩
  have hPl : Pd.length = M := by rw [hPd, hM]; exact fillN_length _ _
  have hMl := fillM_le l.length
  have hM64 : M % 64 = 0 := by rw [hM]; unfold fillM; omega
  have hch := chains_eq C S0 l
  rw [← hM, ← hPd] at hch
  rw [← hM, ← hPd] at hfill
  rw [← hM] at hMl
  have HM := Lib.hid (And.intro hM64 (And.intro (show M ≤ 772 by omega) (And.intro hch hPl)))
  obtain ⟨H2, hH2⟩ : ∃ z, z = sum2 C S0 l := ⟨_, rfl⟩
  rw [← hH2]
  obtain ⟨O, hO⟩ : ∃ O, O = octs H2 := ⟨_, rfl⟩
  rw [← hO]
  have HH := Lib.hid (And.intro hfill (And.intro hH2 hO))
  have hM7 : (M : Int) ≤ 772 := by omega
  clear hfill hM hPd hPl hMl hM64 hch hH2 hn h7 R hO
  go_enter Tryd.func44, Tryd.ntmps44
  go_wp2_with (first
    | (with_reducible refine wpList_boxes (o := ⟨some 4, .box 24 (.tmp 1), _, _, _, _⟩) rfl 24 (.tmp 1) rfl _ rfl (C.map wd) rfl ?_; intro w1 b4 m1 z1; replace z1 := Lib.hid z1)
    | (with_reducible refine wpList_boxes (o := ⟨some 5, .box 26 (.tmp 2), _, _, _, _⟩) rfl 26 (.tmp 2) rfl _ rfl (S0.map wd) rfl ?_; intro w2 b5 m2 z2; replace z2 := Lib.hid z2)
    | (with_reducible refine wpList_allocs (o := ⟨some 6, .alloc 40, _, _, _, _⟩) rfl 40 rfl _ zero40 ?_; intro w3 b6 m3 z3; replace z3 := Lib.hid z3))
  obtain ⟨g4, e4⟩ : ∃ g, g = w.heap.size := ⟨_, rfl⟩
  obtain ⟨g5, e5⟩ : ∃ g, g = w1.heap.size := ⟨_, rfl⟩
  obtain ⟨g6, e6⟩ : ∃ g, g = w2.heap.size := ⟨_, rfl⟩
  have hg : g5 = g4 + 1 ∧ g6 = g4 + 2 ∧ w3.heap.size = g4 + 3 ∧ g4 = w.heap.size := by have := z1.out; have := z2.out; have := z3.out; omega
  have mm : Mod [] w w3 := (m1.then m2).then m3
  have d4 : Holds w3 g4 24 (C.map wd) := by rw [e4]; exact (b4.keep m2 (by simp)).keep m3 (by simp)
  have d5 : Holds w3 g5 26 (S0.map wd) := by rw [e5]; exact b5.keep m3 (by simp)
  have d6 : Holds w3 g6 40 ((List.replicate 32 (0 : UInt8)).map oct) := by rw [e6]; exact b6
  rw [← e4, ← e5, ← e6]
  refine (HH.out.1 _ mm).mono ?_
  rintro e w4 ⟨g7, rfl, hs7, d7, m4⟩
  have HG := Lib.hid (And.intro (show g4 + 3 ≤ g7 by omega) hg)
  replace d4 := d4.keep m4 (by simp)
  replace d5 := d5.keep m4 (by simp)
  replace d6 := d6.keep m4 (by simp)
  replace mm := mm.then m4
  have d5' : Holds w4 g5 26 ((beh C S0 Pd 0).map wd) := d5
  clear hg hs7 e4 e5 e6 m1 m2 m3 m4 z1 z2 z3 b4 b5 b6 d5
  go_wp2_with fail
  go_loopw [8] (fun i v => ∃ k : Nat, k * 64 ≤ M ∧ i = .int .i64 ((k * 64 : Nat) : Int) ∧ Holds v g5 26 ((beh C S0 Pd k).map wd) ∧ Holds v g4 24 (C.map wd) ∧ Holds v g6 40 ((List.replicate 32 (0 : UInt8)).map oct) ∧ Holds v g7 5 (Pd.map oct) ∧ Mod [] w v) (fun i v => M - (intOf i).toNat)
  case atStart => exact ⟨0, by omega, rfl, d5', d4, d6, d7, mm⟩
  case round =>
    clear d5' d4 d6 d7 mm
    obtain ⟨k, hk, rfl, d5, d4, d6, d7, mk⟩ := hrel
    by_cases hlt : k * 64 < M
    · have hz : decide ((k : Int) * 64 < (M : Int)) = true := by simp; omega
      have HK := Lib.hid hlt
      have h7 := fun (v : World) (d7 : Holds v g7 5 (Pd.map oct)) => rblock_beh C S0 HC.out.1 HC.out.2 g7 k M Pd HM.out.2.2.2 (by have := HM.out; omega) HM.out.2.1 v d7
      obtain ⟨X0, hX0⟩ : ∃ X, X = beh C S0 Pd k := ⟨_, rfl⟩
      obtain ⟨X1, hX1⟩ : ∃ X, X = beh C S0 Pd (k + 1) := ⟨_, rfl⟩
      rw [← hX0, ← hX1] at h7
      rw [← hX0] at d5
      have hx0 : X0.length = 8 := by rw [hX0]; exact beh_length _ _ _ HC.out.2 _
      have hx1 : X1.length = 8 := by rw [hX1]; exact beh_length _ _ _ HC.out.2 _
      have HX := Lib.hid (And.intro hx0 (And.intro hx1 (And.intro HC.out.1 hX1)))
      have H7 := Lib.hid h7
      have hk64 : (k : Int) * 64 + 64 ≤ 772 := by have := HM.out; omega
      clear h7 hX0 hX1 hx0 hx1
      clear hlt hk
      go_wp2_with fail
      clear hz
      refine wp_region_lit1 [.slice A n c, .agg ((C).map wd).toArray, .agg ((S0).map wd).toArray, undef, .pointer (some ⟨g4, 0, none⟩), .pointer (some ⟨g5, 0, none⟩), .pointer (some ⟨g6, 0, none⟩), .slice (some ⟨g7, 0, none⟩) M M, .int .i64 ((k * 64 : Nat) : Int), undef, undef, .slice A n c, .slice (some ⟨g7, 0, none⟩) M M, .int .i64 ((k * 64 : Nat) : Int), .slice (some ⟨g7, 0, none⟩) M M, .int .i64 (M : Int), .bool true, u17, u18, .agg ((X0).map wd).toArray, .slice (some ⟨g7, 0, none⟩) M M, .int .i64 ((k * 64 : Nat) : Int), .int .i64 ((k * 64 : Nat) : Int), .int .i64 ((k * 64 + 64 : Nat) : Int), .slice (frm (some ⟨g7, 0, none⟩) (k * 64) M) (k * 64 + 64 - k * 64) (M - k * 64), .agg ((C).map wd).toArray, .agg ((X1).map wd).toArray, undef, undef, undef, undef, undef, undef, undef, undef, undef, undef, undef, undef, undef, undef, undef] 42 [0, 1, 2, 3, 4, 5, 6, 7, 8, 9, 10, 11, 12, 13, 14, 15, 16, 17, 18, 27, 28, 29, 30, 31, 32, 33, 34, 35, 36, 37, 38, 39, 40, 41]
        (Sto 8 (fun v => Mod [] wr.drew v) (fun v => Holds v g5 26 (X1.map wd) ∧ Mod [g5] wr.drew v)) []
        (by kernel_rfl) rfl rfl rfl rfl (Sto.start (Mod.refl _ _)) (by kernel_rfl) (by kernel_rfl) ?step ?fin
      case step =>
        intro lz T v j o hj hlj hdep hst hpar hgot hcl K hK
        have hjn : j < 9 := (Array.getElem?_eq_some_iff.1 hj).1
        have hq := fun hq0 => Sto.now (j := j) hst hlj hq0
        obtain rfl | rfl | rfl | rfl | rfl | rfl | rfl | rfl | rfl : j = 0 ∨ j = 1 ∨ j = 2 ∨ j = 3 ∨ j = 4 ∨ j = 5 ∨ j = 6 ∨ j = 7 ∨ j = 8 := by omega
        all_goals (have hj' := Option.some.inj (hj : some _ = some o); subst hj'; clear hj)
        · exact wp_ran rfl (exec_load rfl (eval_tmp (hpar 5 (by simp))) (run_loads (Cells.of_holds (Holds.keep (w := wr.drew) d5 (hq (by decide)).2 (by simp))) Tryd.underlying26 rfl (size26_of _ HX.out.1))) (hK _ _ (fun s hs => by cases hs; rfl) (Sto.keep (hq (by decide)) (by decide) (hq (by decide)).2))
        · exact wp_ran rfl (exec_move rfl (eval_tmp (hpar 7 (by simp)))) (hK _ _ (fun s hs => by cases hs; rfl) (Sto.keep (hq (by decide)) (by decide) (hq (by decide)).2))
        · exact wp_ran rfl (exec_move rfl (eval_tmp (hpar 8 (by simp)))) (hK _ _ (fun s hs => by cases hs; rfl) (Sto.keep (hq (by decide)) (by decide) (hq (by decide)).2))
        · exact wp_ran rfl (exec_move rfl (eval_tmp (hpar 8 (by simp)))) (hK _ _ (fun s hs => by cases hs; rfl) (Sto.keep (hq (by decide)) (by decide) (hq (by decide)).2))
        · exact wp_ran rfl (exec_add rfl (eval_tmp (hgot 3 _ 22 rfl (hdep ⟨3, .data⟩ (by simp) rfl) rfl)) rfl (show IntKind.i64.wrap (((k * 64 : Nat) : Int) + 64) = ((k * 64 + 64 : Nat) : Int) by have := HM.out; have := HK.out; simp [IntKind.wrap, IntKind.bits, IntKind.signed]; omega)) (hK _ _ (fun s hs => by cases hs; rfl) (Sto.keep (hq (by decide)) (by decide) (hq (by decide)).2))
        · exact wp_ran rfl (exec_mid Tryd.underlying36 u8_one (by omega) (by have := HM.out; have := HK.out; omega) rfl (eval_tmp (hgot 1 _ 20 rfl (hdep ⟨1, .data⟩ (by simp) rfl) rfl)) (eval_tmp (hgot 2 _ 21 rfl (hdep ⟨2, .data⟩ (by simp) rfl) rfl)) (eval_tmp (hgot 4 _ 23 rfl (hdep ⟨4, .data⟩ (by simp) rfl) rfl))) (hK _ _ (fun s hs => by cases hs; rfl) (Sto.keep (hq (by decide)) (by decide) (hq (by decide)).2))
        · exact wp_ran rfl (exec_load rfl (eval_tmp (hpar 4 (by simp))) (run_loads (Cells.of_holds (Holds.keep (w := wr.drew) d4 (hq (by decide)).2 (by simp))) Tryd.underlying24 rfl (size24_of _ HX.out.2.2.1))) (hK _ _ (fun s hs => by cases hs; rfl) (Sto.keep (hq (by decide)) (by decide) (hq (by decide)).2))
        · exact wp_called rfl (exec_call3 rfl rfl (eval_tmp (hgot 0 _ 19 rfl (hdep ⟨0, .data⟩ (by simp) rfl) rfl)) (eval_tmp (hgot 5 _ 24 rfl (hdep ⟨5, .data⟩ (by simp) rfl) rfl)) (eval_tmp (hgot 6 _ 25 rfl (hdep ⟨6, .data⟩ (by simp) rfl) rfl)) (enters_of Tryd.func18 (by kernel_rfl) rfl)) ((H7.out _ (Holds.keep (w := wr.drew) d7 (hq (by decide)).2 (by simp))).mono (fun e v' hh => ⟨_, hh.1, hK _ _ (fun s hs => by cases hs; rfl) (Sto.keep (hq (by decide)) (by decide) ((hq (by decide)).2.then hh.2))⟩))
        · exact wp_stored (ty := 26) (V := .agg (X1.map wd).toArray) (cs := X1.map wd) rfl rfl (eval_tmp (hpar 5 (by simp))) (eval_tmp (hgot 7 _ 26 rfl (hdep ⟨7, .data⟩ (by simp) rfl) rfl)) rfl (Holds.keep (w := wr.drew) d5 (hq (by decide)).2 (by simp)) (by rw [List.length_map, List.length_map, HX.out.1, HX.out.2.1]) (words_one _) (size26_of _ HX.out.2.1) (fun v' q1 q2 => hK _ _ (fun s hs => by cases hs) (Sto.done (reach_all (by kernel_rfl) hcl rfl hdep) ⟨q1, (hq (by decide)).2.pre q2⟩))
      case fin =>
        intro lz v hl hst
        obtain ⟨n5, nm⟩ := Sto.fin hst hl (by decide)
        rw [HX.out.2.2.2] at n5
        have n4 : Holds v g4 24 (C.map wd) := Holds.keep (w := wr.drew) d4 nm (by have := HG.out; simp; omega)
        have n6 : Holds v g6 40 ((List.replicate 32 (0 : UInt8)).map oct) := Holds.keep (w := wr.drew) d6 nm (by have := HG.out; simp; omega)
        have n7 : Holds v g7 5 (Pd.map oct) := Holds.keep (w := wr.drew) d7 nm (by have := HG.out; simp; omega)
        have nn : Mod [] w v := mk.trans (Mod.drewed nm) (by have := HG.out; intro i hi h; simp at h; omega)
        have hk1 : (k + 1) * 64 ≤ M := by have := HM.out; have := HK.out; omega
        have HN := Lib.hid (And.intro n5 (And.intro n4 (And.intro n6 (And.intro n7 (And.intro nn hk1)))))
        clear n5 n4 n6 n7 nn nm hst hl d4 d5 d6 d7 mk hk1
        try dsimp only
        go_wp2_with fail
        exact ⟨⟨k + 1, HN.out.2.2.2.2.2, by simp; omega, HN.out.1, HN.out.2.1, HN.out.2.2.1, HN.out.2.2.2.1, HN.out.2.2.2.2.1⟩, by have := HK.out; simp [intOf]; omega⟩
    · obtain ⟨q, hq⟩ : ∃ q, M = q * 64 := ⟨M / 64, by have := HM.out; omega⟩
      obtain rfl : k = q := by have := HM.out; omega
      have hch := HM.out.2.2.1
      rw [hq, Nat.mul_div_cancel _ (by omega), ← HH.out.2.1] at hch
      rw [hch] at d5
      have hHl : H2.length = 8 := by rw [← hch]; exact beh_length _ _ _ HC.out.2 _
      have hOl : O.length = 32 := by rw [HH.out.2.2, octs_length, hHl]
      have hz : ¬ (k : Int) * 64 < (M : Int) := by omega
      have HO := Lib.hid (And.intro hOl hHl)
      clear hlt hk hch hq hOl hHl d4 d7
      go_wp2_with (with_reducible refine wpList_allocs (o := ⟨some 9, .alloc 40, _, _, _, _⟩) rfl 40 rfl _ zero40 ?_; intro w9 b9 m9 z9; replace z9 := Lib.hid z9)
      obtain ⟨g9, e9⟩ : ∃ g, g = wr.heap.size := ⟨_, rfl⟩
      have hg9 : g5 < g9 ∧ g6 < g9 ∧ w.heap.size ≤ g9 := by have := HG.out; have := d6.lt; have := d5.lt; omega
      replace d5 := d5.keep m9 (by simp)
      replace d6 := d6.keep m9 (by simp)
      replace mk := mk.then m9
      rw [← e9] at b9 ⊢
      have HG9 := Lib.hid hg9
      have d9 : Holds w9 g9 40 ((O.take 0 ++ List.replicate (32 - 0) 0).map oct) := b9
      clear e9 hg9 b9 m9 z9
      go_wp2_with fail
      go_loopw [27] (fun i v => ∃ j : Nat, j ≤ 32 ∧ i = .int .i64 (j : Int) ∧ Holds v g9 40 ((O.take j ++ List.replicate (32 - j) 0).map oct) ∧ Holds v g5 26 (H2.map wd) ∧ Holds v g6 40 ((List.replicate 32 (0 : UInt8)).map oct) ∧ Mod [] w v) (fun i _ => 32 - (intOf i).toNat)
      case atStart => exact ⟨0, by omega, rfl, d9, d5, d6, mk⟩
      case round =>
        clear d9 d5 d6 mk
        obtain ⟨j, hj, rfl, d9, d5, d6, mk⟩ := hrel
        by_cases hlt : j < 32
        · have hjZ : (j : Int) < 32 := by omega
          obtain ⟨d4, h4⟩ : ∃ x, x = j / 4 := ⟨_, rfl⟩
          obtain ⟨r4, h5⟩ : ∃ x, x = j % 4 := ⟨_, rfl⟩
          have q1 : (j : Int) / 4 = (d4 : Int) := by omega
          have q2 : (j : Int) % 4 = (r4 : Int) := by omega
          have hd8 : d4 < H2.length := by rw [HO.out.2]; omega
          have hr4 : r4 < 4 := by omega
          have cw := word_cell d5 hd8
          rw [Nat.zero_add] at cw
          have hoc := octs_at H2 d4 r4 hd8 hr4
          rw [← HH.out.2.2, show 4 * d4 + r4 = j by omega] at hoc
          obtain ⟨x, hx⟩ : ∃ x, x = g0 H2 d4 := ⟨_, rfl⟩
          rw [← hx] at cw hoc
          have hxl := x.toNat_lt
          have B := fun v => byte_c x.toNat 4 r4 v (by omega) hr4 (by omega)
          have hob : (hi x.toNat 4)[r4]'(by rw [hi_length]; exact hr4) = O.getD j 0 := by
            rw [hoc, at_getD]
          rw [hob] at B
          have hset := set_at (O.take j) (32 - j) j 0 (O.getD j 0) (by rw [List.length_take, HO.out.1]; omega) (by omega)
          have htk : O.take j ++ [O.getD j 0] = O.take (j + 1) := by
            rw [List.take_succ_eq_append_getElem (by rw [HO.out.1]; exact hlt), at_getD]
          rw [htk, show 32 - j - 1 = 32 - (j + 1) by omega] at hset
          have hl9 : j < (O.take j ++ List.replicate (32 - j) (0 : UInt8)).length := by simp [HO.out.1]; omega
          have c9 : wr.cell? ⟨g9, j, none⟩ = some (oct ((O.take j ++ List.replicate (32 - j) (0 : UInt8)).getD j 0)) := by
            rw [d9.cell j, List.getElem?_map, List.getElem?_eq_getElem hl9, at_getD _ _ hl9]; rfl
          have f9 : wr.frozen? ⟨g9, j, none⟩ = false := d9.free j
          obtain ⟨old, hold⟩ : ∃ o, o = (O.take j ++ List.replicate (32 - j) (0 : UInt8)).getD j 0 := ⟨_, rfl⟩
          rw [← hold] at c9
          obtain ⟨y, hy⟩ : ∃ y, y = O.getD j 0 := ⟨_, rfl⟩
          rw [← hy] at B hset
          have HJ := Lib.hid (And.intro hlt (And.intro B (And.intro hset (And.intro d9 (And.intro d5 (And.intro d6 mk))))))
          have hxZ : (x.toNat : Int) < 4294967296 := by omega
          have hd8Z : d4 < 8 := by omega
          clear hlt B hset d9 d5 d6 mk hold hy htk hl9 hob hoc hx hxl hd8 h4 h5 hj
          go_wp2_with fail
          refine (HJ.out.2.1 _).mono ?_
          rintro e w10 ⟨rfl, rfl⟩
          go_wp2_with fail
          have n9 := HJ.out.2.2.2.1.set j (oct y)
          rw [← List.map_set, HJ.out.2.2.1] at n9
          have mc : Mod [g9] wr (wr.setCell ⟨g9, j, none⟩ (oct y)) := Mod.setCell wr (p := ⟨g9, j, none⟩) (by simp) _
          have hj1 : j + 1 ≤ 32 := HJ.out.1
          exact ⟨⟨j + 1, hj1, by go_num, n9, HJ.out.2.2.2.2.1.keep mc (by have := HG9.out; simp; omega), HJ.out.2.2.2.2.2.1.keep mc (by have := HG9.out; simp; omega), HJ.out.2.2.2.2.2.2.trans mc (by have := HG9.out; intro i hi h; simp at h; omega)⟩, by simp [intOf]; omega⟩
        · obtain rfl : j = 32 := by omega
          rw [Nat.sub_self, List.replicate_zero, List.append_nil, List.take_of_length_le (by rw [HO.out.1]; exact Nat.le_refl _)] at d9
          have sz : (Tryd.prog.info? 40).map (·.size) = some (O.map oct).length := size40_of _ HO.out.1
          have lz : (O.map oct).length = ((List.replicate 32 (0 : UInt8)).map oct).length := by rw [List.length_map, HO.out.1]; rfl
          clear hlt hj d5
          go_wp2_with (first
            | (with_reducible refine wpList_loads (o := ⟨some 41, .load 40 (.tmp 9), _, _, _, _⟩) rfl 40 (.tmp 9) rfl g9 0 _ rfl (Cells.of_holds d9) _ Tryd.underlying40 rfl sz (.agg (O.map oct).toArray) rfl ?_)
            | (with_reducible refine wpList_storesAll (o := ⟨none, .store 40 (.tmp 6) (.tmp 41), _, _, _, _⟩) rfl 40 (.tmp 6) (.tmp 41) rfl rfl g6 (O.map oct) rfl (.agg (O.map oct).toArray) rfl rfl 40 _ d6 lz (octs_one _) sz ?_; intro w7 hw7 m7 z7))
          refine bodyPost_ret (results_cell_row rfl _ _ g6 40 _ (0, 0) _ rfl hw7 Tryd.underlying40 rfl (by rw [List.size_toArray]; exact sz)) rfl ?_
          exact ⟨rfl, mk.trans m7 (by have := HG.out; intro i hi h; simp at h; omega)⟩
def opsS : Array (Nat × Operand) := ((List.range 8).map fun i => (i, Operand.const (wd (g0 Sc i)))).toArray
def rawS : Array (Nat × Value) := ((List.range 8).map fun i => (i, wd (g0 Sc i))).toArray
theorem run_buildS (w : World) : (Instr.build 26 rawS).run Tryd.prog w = .ok (.agg (Sc.map wd).toArray) w := by
  refine run_build w _ _ _ ?_
  kernel_rfl
theorem exec_buildS {v : World} {o : Oper} {a : Act} (ho : o.op = .build 26 opsS) : (execOp a.eval o).run Tryd.prog v = .ok (.value (.agg (Sc.map wd).toArray)) v := by
  unfold execOp
  have h := run_buildS v
  have e : opsS.map (fun q => (q.1, a.eval q.2)) = rawS := by
    simp only [opsS, rawS, List.map_toArray, List.map_map, Function.comp_def, Act.eval]
  simp only [ho, e, Sem.run_bind, h, Result.andThen, Sem.run_pure]
set_option maxRecDepth 100000 in
theorem digest_c (A : Option Addr) (l : List UInt8) (n c : Nat) (w : World) (hn : n = l.length) (h7 : l.length ≤ 700) (R : Reads w A l) :
    Calls Tryd.prog 23 #[.slice A n c] w fun e w' => e = .returned (.agg ((octs (sum2 Kc Sc l)).map oct).toArray) ∧ Mod [] w w' := by
  have hw := fun (v : World) => written_c v
  have hs := fun (v : World) (m : Mod [] w v) => rsum_c Kc Sc Kc_length Sc_length A l n c v hn h7 (R.keep m (by simp))
  obtain ⟨O, hO⟩ : ∃ O, O = octs (sum2 Kc Sc l) := ⟨_, rfl⟩
  have hOl : O.length = 32 := by rw [hO, octs_length]; have := beh_length Kc Sc (fillN l l.length) Sc_length (fillM l.length / 64); rw [chains_eq] at this; omega
  rw [← hO] at hs ⊢
  have HS := Lib.hid (And.intro hw (And.intro hs hOl))
  clear hw hs hn h7 R hO hOl
  go_enter Tryd.func23, Tryd.ntmps23
  go_wp2_with (with_reducible refine wpList_allocs (o := ⟨some 2, .alloc 40, _, _, _, _⟩) rfl 40 rfl _ zero40 ?_; intro w1 hb1 m1 z1; replace z1 := Lib.hid z1)
  refine (HS.out.1 _).mono ?_
  rintro e w2 ⟨rfl, m2⟩
  have mm := m1.then m2
  replace hb1 := hb1.keep m2 (by simp)
  go_wp2_with (with_reducible refine wpList_ran (o := ⟨some 5, .build 26 _, _, _, _, _⟩) rfl (.agg (Sc.map wd).toArray) (exec_buildS (by kernel_rfl)) ?_)
  refine (HS.out.2.1 _ mm).mono ?_
  rintro e w3 ⟨rfl, m3⟩
  replace mm := mm.then m3
  replace hb1 := hb1.keep m3 (by simp)
  have sz : (Tryd.prog.info? 40).map (·.size) = some (O.map oct).length := size40_of _ HS.out.2.2
  have lz : (O.map oct).length = ((List.replicate 32 (0 : UInt8)).map oct).length := by rw [List.length_map, HS.out.2.2]; rfl
  go_wp2_with (with_reducible refine wpList_storesAll (o := ⟨none, .store 40 (.tmp 2) (.tmp 6), _, _, _, _⟩) rfl 40 (.tmp 2) (.tmp 6) rfl rfl w.heap.size (O.map oct) rfl (.agg (O.map oct).toArray) rfl rfl 40 _ hb1 lz (octs_one _) sz ?_; intro w7 hw7 m7 z7)
  refine bodyPost_ret (results_cell_row rfl _ _ w.heap.size 40 _ (0, 0) _ rfl hw7 Tryd.underlying40 rfl (by rw [List.size_toArray]; exact sz)) rfl ?_
  exact ⟨rfl, mm.trans m7 (by intro i hi h; simp at h; omega)⟩
end Go.Proofs.YtgojheoelcmcpaaDoor
