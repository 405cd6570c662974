/-
  Contracts: the document's own words of a block, whole. My own work.
-/
import Derived.Test.YtgojheoelcmcpaaDoorWds
import Derived.BigQuiet
namespace Go.Proofs.YtgojheoelcmcpaaDoor
open Go.RowKit
theorem Upto.at {S : List UInt32} {i : Nat} {L : List UInt32} (h : Upto S i L) {j : Nat} (hj : j < i) : g0 L j = g0 S j := h.2 j hj
theorem more_first (f : List UInt32) (k : Nat) (h : k < f.length) : g0 (more f 48) k = g0 f k := (more_g0 f 0 48 k (by omega) (by omega)).symm
theorem first_at (b : List UInt8) (k : Nat) (h : k < 16) : g0 (first16 b) k = wordAt b k := by
  unfold g0 first16
  rw [List.getD_eq_getElem?_getD]
  simp [h]
theorem word_conv (x : Nat) (h : x < 4294967296) : ((UInt32.ofNat x).toNat : Int) = (x : Int) := by
  rw [UInt32.toNat_ofNat']; omega
set_option maxRecDepth 100000 in
set_option maxHeartbeats 4000000 in
theorem words_c (A : Option Addr) (b : List UInt8) (c : Nat) (hb : b.length = 64) (hc : 64 ≤ c) (hc' : c ≤ maxLen) (w : World) (R : Reads w A b) :
    Calls Tryd.prog 37 #[.slice A 64 c] w fun e w' => e = .returned (.agg ((more (first16 b) 48).map wd).toArray) ∧ Mod [] w w' := by
  have hf := first16_length b
  obtain ⟨S, hS⟩ : ∃ S, S = more (first16 b) 48 := ⟨_, rfl⟩
  have hSl : S.length = 64 := by rw [hS, more_length, hf]
  obtain ⟨ga, oa, rfl, hcc⟩ := R 0 (by omega)
  have hc3 : (c : Int) ≤ 9223372036854775807 := by unfold maxLen at hc'; omega
  have hc4 : 64 ≤ (c : Int) := by omega
  have HS := Lib.hid (And.intro hS (And.intro hSl (And.intro hf (And.intro hb (And.intro hc (And.intro hc' R))))))
  rw [← hS]
  clear hcc hS hSl hf hb hc' hc R
  go_enter Tryd.func37, Tryd.ntmps37
  go_wp2_with (first
    | (with_reducible refine wpList_allocs (o := ⟨some 2, .alloc 24, _, _, _, _⟩) rfl 24 rfl _ zero24 ?_; intro w1 hb1 m1 z1; replace z1 := Lib.hid z1)
    | (with_reducible refine wpList_allocs (o := ⟨some 3, .alloc 24, _, _, _, _⟩) rfl 24 rfl _ zero24 ?_; intro w2 hb2 m2 z2; replace z2 := Lib.hid z2))
  have hb1' := hb1.keep m2 (by simp)
  have hne : w.heap.size ≠ w1.heap.size := by have := z1.out; omega
  replace m2 := m1.then m2
  obtain ⟨g, hg⟩ : ∃ g, g = w1.heap.size := ⟨_, rfl⟩
  have HZ := Lib.hid (And.intro hne z1.out)
  rw [← hg] at hb2 HZ ⊢
  clear m1 z1 z2 hb1 hne hg
  go_loopw [4, 5, 6, 7, 8, 9] (fun x4 x5 x6 x7 x8 i v => ∃ (k : Nat) (L : List UInt32), i = .int .i64 (k : Int) ∧ k ≤ 64 ∧ Upto S k L ∧ Holds v g 24 (L.map wd) ∧ Holds v w.heap.size 24 ((List.replicate 64 (0 : UInt32)).map wd) ∧ Mod [] w v) (fun x4 x5 x6 x7 x8 i v => 64 - (intOf i).toNat)
  case atStart => exact ⟨0, List.replicate 64 0, rfl, by omega, ⟨by rw [HS.out.2.1]; rfl, by omega⟩, hb2, hb1', m2⟩
  case round =>
    obtain ⟨k, L, rfl, hk, hU, hL, hO, hM⟩ := hrel
    clear hb2 hb1' m2
    by_cases hlt : k < 64
    · have hlt' : (k : Int) < 64 := by omega
      have hk0 : (0 : Int) ≤ (k : Int) := by omega
      have hcl := word_cell hL (i := k) (by rw [hU.1, HS.out.2.1]; exact hlt)
      rw [Nat.zero_add] at hcl
      have hfz := hL.free k
      by_cases h16 : k < 16
      · have h16' : (k : Int) < 16 := by omega
        have hT4 : ((b.drop (4 * k)).take 4).length = 4 := by have := HS.out.2.2.2.1; simp; omega
        have hRd : ∀ (u : World), Mod [] w u → Reads u (some ⟨ga, oa + 4 * k, none⟩) ((b.drop (4 * k)).take 4) := by
          intro u mu i hi
          have hi4 : i < 4 := by rw [hT4] at hi; exact hi
          have hbl := HS.out.2.2.2.1
          have := (HS.out.2.2.2.2.2.2.keep mu (by simp)).at (4 * k + i) (by omega)
          refine ⟨ga, oa + 4 * k, rfl, ?_⟩
          rw [Nat.add_assoc, this]
          simp
        have hn := fun (u : World) (mu : Mod [] w u) => rnum_c 4 (some ⟨ga, oa + 4 * k, none⟩) ((b.drop (4 * k)).take 4) (c - 4 * k) u hT4 (by omega) (by have := HS.out.2.2.2.2.1; omega) (by have := HS.out.2.2.2.2.2.1; omega) (hRd u mu)
        have hx := be_lt ((b.drop (4 * k)).take 4)
        rw [hT4, show 256 ^ 4 = 4294967296 from rfl] at hx
        have hw : g0 S k = UInt32.ofNat (be ((b.drop (4 * k)).take 4)) := by
          rw [HS.out.1, more_first _ _ (by rw [HS.out.2.2.1]; exact h16), first_at _ _ h16]; rfl
        obtain ⟨X, hX⟩ : ∃ X, X = be ((b.drop (4 * k)).take 4) := ⟨_, rfl⟩
        rw [← hX] at hn hx hw
        have hcv := word_conv X hx
        rw [← hw] at hcv
        have hm : (X : Int) % 4294967296 = (X : Int) := by omega
        have HK := Lib.hid (And.intro hn (And.intro hcv (And.intro hU (And.intro hL (And.intro hO (And.intro hM hlt))))))
        clear hcl hfz hRd hT4 hn hx hw hX hcv hU hL hO hM hlt hk h16
        go_wp2_with fail
        refine (HK.out.1 _ HK.out.2.2.2.2.2.1).mono ?_
        rintro e wy ⟨rfl, kk, hwy⟩
        have my : Mod [] wr wy := by rw [hwy]; exact Mod.drewN [] wr kk
        have yL := HK.out.2.2.2.1.keep my (by simp)
        have yO := HK.out.2.2.2.2.1.keep my (by simp)
        have yM := HK.out.2.2.2.2.2.1.then my
        have yl : k < L.length := by rw [HK.out.2.2.1.1, HS.out.2.1]; exact HK.out.2.2.2.2.2.2
        have hcl := word_cell yL (i := k) yl
        rw [Nat.zero_add] at hcl
        have hfz := yL.free k
        have HY := Lib.hid (And.intro yL (And.intro yO yM))
        clear hwy my yL yO yM yl
        go_wp2_with fail
        refine ⟨⟨k + 1, L.set k (g0 S k), by simp, by have := HK.out.2.2.2.2.2.2; omega, HK.out.2.2.1.next (by rw [HS.out.2.1]; exact HK.out.2.2.2.2.2.2), ?_, ?_, ?_⟩, by simp [intOf]; omega⟩
        · have := word_set HY.out.1 k (g0 S k)
          rwa [Nat.zero_add, show wd (g0 S k) = .int .u32 (X : Int) from congrArg (Value.int .u32) HK.out.2.1] at this
        · exact HY.out.2.1.keep (Mod.setCell (ms := [g]) _ (by simp) _) (by have := HZ.out; simp; omega)
        · exact HY.out.2.2.trans (Mod.setCell (ms := [g]) _ (by simp) _) (by have := HZ.out; intro i hi h; simp at h; omega)
      · have h16' : 16 ≤ (k : Int) := by omega
        have hkl : k < L.length := by rw [hU.1, HS.out.2.1]; exact hlt
        have c2 := word_cell hL (i := k - 2) (by omega)
        have c15 := word_cell hL (i := k - 15) (by omega)
        have e2 := hU.at (j := k - 2) (by omega)
        have e15 := hU.at (j := k - 15) (by omega)
        have e7 := hU.at (j := k - 7) (by omega)
        have e16 := hU.at (j := k - 16) (by omega)
        have hnx := more_next (first16 b) HS.out.2.2.1 k (by omega) hlt
        rw [← HS.out.1] at hnx
        rw [Nat.zero_add, e2] at c2
        rw [Nat.zero_add, e15] at c15
        obtain ⟨X, hX⟩ : ∃ X, X = g0 S (k - 2) := ⟨_, rfl⟩
        obtain ⟨Y, hY⟩ : ∃ Y, Y = g0 S (k - 15) := ⟨_, rfl⟩
        rw [← hX] at c2 hnx
        rw [← hY] at c15 hnx
        have t2 : ((k : Int) - 2).toNat = k - 2 := by omega
        have t15 : ((k : Int) - 15).toNat = k - 15 := by omega
        have r1 := fun (u : World) => rturn_c X 17 (by omega) u
        have r2 := fun (u : World) => rturn_c X 19 (by omega) u
        have r3 := fun (u : World) => rpush_c X 10 (by omega) u
        have r4 := fun (u : World) => rturn_c Y 7 (by omega) u
        have r5 := fun (u : World) => rturn_c Y 18 (by omega) u
        have r6 := fun (u : World) => rpush_c Y 3 (by omega) u
        have HR := Lib.hid (And.intro r1 (And.intro r2 (And.intro r3 (And.intro r4 (And.intro r5 r6)))))
        have HK := Lib.hid (And.intro hU (And.intro hL (And.intro hO (And.intro hM (And.intro hlt (And.intro e7 (And.intro e16 (And.intro hnx hkl))))))))
        have i2 : (0 : Int) ≤ (k : Int) - 2 := by omega
        have i3 : (k : Int) - 2 < 64 := by omega
        have i4 : (0 : Int) ≤ (k : Int) - 15 := by omega
        have i5 : (k : Int) - 15 < 64 := by omega
        clear r1 r2 r3 r4 r5 r6 hU hL hO hM hlt e7 e16 e2 e15 hnx hkl hX hY hk hcl hfz h16
        obtain ⟨Z1, z1⟩ : ∃ Z, Z = rot 17 X ^^^ rot 19 X := ⟨_, rfl⟩
        obtain ⟨Z2, z2⟩ : ∃ Z, Z = rot 7 Y ^^^ rot 18 Y := ⟨_, rfl⟩
        have q1 := xor_wd (rot 17 X) (rot 19 X)
        have q2 := xor_wd Z1 (psh 10 X)
        have q3 := xor_wd (rot 7 Y) (rot 18 Y)
        have q4 := xor_wd Z2 (psh 3 Y)
        rw [← z1] at q1
        rw [← z2] at q3
        rw [show Z1 ^^^ psh 10 X = sm1 X by rw [z1]; rfl] at q2
        rw [show Z2 ^^^ psh 3 Y = sm0 Y by rw [z2]; rfl] at q4
        clear z1 z2
        go_wp2_with fail
        go_quiet (fail)
        clear c2 c15 t2 t15 i2 i3 i4 i5
        go_wp2_with (first
          | (go_at_call 38; first
            | (with_reducible refine Calls.mono (HR.out.1 _) ?_; rintro e wx ⟨rfl, rfl⟩)
            | (with_reducible refine Calls.mono (HR.out.2.1 _) ?_; rintro e wx ⟨rfl, rfl⟩)
            | (with_reducible refine Calls.mono (HR.out.2.2.2.1 _) ?_; rintro e wx ⟨rfl, rfl⟩)
            | (with_reducible refine Calls.mono (HR.out.2.2.2.2.1 _) ?_; rintro e wx ⟨rfl, rfl⟩))
          | (go_at_call 61; first
            | (with_reducible refine Calls.mono (HR.out.2.2.1 _) ?_; rintro e wx ⟨rfl, rfl⟩)
            | (with_reducible refine Calls.mono (HR.out.2.2.2.2.2 _) ?_; rintro e wx ⟨rfl, rfl⟩)))
        have D1 := HK.out.2.1.keep (Mod.drewN [] wr nq) (by simp)
        have D0 : Holds (wr.drewN nq).drew g 24 (L.map wd) := D1
        have O1 := HK.out.2.2.1.keep (Mod.drewN [] wr nq) (by simp)
        have O0 : Holds (wr.drewN nq).drew w.heap.size 24 ((List.replicate 64 (0 : UInt32)).map wd) := O1
        clear D1 O1
        have hk16 : 16 ≤ k := by omega
        have hk64 : k < 64 := HK.out.2.2.2.2.1
        have hkl : L.length = 64 := by rw [HK.out.1.1]; exact HS.out.2.1
        clear q1 q2 q3 q4
        refine wp_region_lit1 [.slice (some ⟨ga, oa, none⟩) 64 c, undef, .pointer (some ⟨w.heap.size, 0, none⟩), .pointer (some ⟨g, 0, none⟩), .int .i64 (k : Int), wd X, wd Y, wd (sm1 X), wd (sm0 Y), .int .i64 (k : Int), .bool true, .int .i64 (k : Int), .int .i64 (k : Int), .bool (decide ((k : Int) < 16)), u14, u15, u16, u17, u18, u19, u20, u21, u22, u23, u24, .int .i64 (k : Int), .int .i64 ((k : Int) - 2), .pointer (some ⟨g, k - 2, none⟩), wd X, .int .i64 (k : Int), .int .i64 ((k : Int) - 15), .pointer (some ⟨g, k - 15, none⟩), wd Y, wd X, wd (rot 17 X), wd X, wd (rot 19 X), wd Z1, wd X, wd (psh 10 X), wd (sm1 X), wd Y, wd (rot 7 Y), wd Y, wd (rot 18 Y), wd Z2, wd Y, wd (psh 3 Y), wd (sm0 Y), .int .i64 (k : Int), wd (sm1 X), .int .i64 (k : Int), .int .i64 ((k - 7 : Nat) : Int), .pointer (some ⟨g, 0 + (k - 7), none⟩), wd (g0 L (k - 7)), wd (sm1 X + g0 L (k - 7)), wd (sm0 Y), wd (sm1 X + g0 L (k - 7) + sm0 Y), .int .i64 (k : Int), .int .i64 ((k - 16 : Nat) : Int), .pointer (some ⟨g, 0 + (k - 16), none⟩), wd (g0 L (k - 16)), wd (sm1 X + g0 L (k - 7) + sm0 Y + g0 L (k - 16)), .pointer (some ⟨g, 0 + k, none⟩), u64, undef] 66 [0, 1, 2, 3, 4, 5, 6, 7, 8, 9, 10, 11, 12, 13, 14, 15, 16, 17, 18, 19, 20, 21, 22, 23, 24, 25, 26, 27, 28, 29, 30, 31, 32, 33, 34, 35, 36, 37, 38, 39, 40, 41, 42, 43, 44, 45, 46, 47, 48, 64, 65]
          (Sto 15 (fun v => Mod [] (wr.drewN nq).drew v) (fun v => Holds v g 24 ((L.set k (sm1 X + g0 L (k - 7) + sm0 Y + g0 L (k - 16))).map wd) ∧ Mod [g] (wr.drewN nq).drew v)) []
          (by kernel_rfl) rfl rfl rfl rfl (Sto.start (Mod.refl _ _)) (by kernel_rfl) (by kernel_rfl) ?step ?fin
        case step =>
          intro lz T v j o hj hlj hdep hst hpar hgot hcl K hK
          have hjn : j < 16 := (Array.getElem?_eq_some_iff.1 hj).1
          have hq := fun h => Sto.now (j := j) hst hlj h
          obtain rfl | rfl | rfl | rfl | rfl | rfl | rfl | rfl | rfl | rfl | rfl | rfl | rfl | rfl | rfl | rfl : j = 0 ∨ j = 1 ∨ j = 2 ∨ j = 3 ∨ j = 4 ∨ j = 5 ∨ j = 6 ∨ j = 7 ∨ j = 8 ∨ j = 9 ∨ j = 10 ∨ j = 11 ∨ j = 12 ∨ j = 13 ∨ j = 14 ∨ j = 15 := by omega
          all_goals (have hj' := Option.some.inj (hj : some _ = some o); subst hj'; clear hj)
          · exact wp_ran rfl (exec_move rfl (eval_tmp (hpar 4 (by simp)))) (hK _ _ (fun s hs => by cases hs; rfl) (Sto.keep (hq (by decide)) (by decide) (hq (by decide)).2))
          · exact wp_ran rfl (exec_move rfl (eval_tmp (hpar 7 (by simp)))) (hK _ _ (fun s hs => by cases hs; rfl) (Sto.keep (hq (by decide)) (by decide) (hq (by decide)).2))
          · exact wp_ran rfl (exec_move rfl (eval_tmp (hpar 4 (by simp)))) (hK _ _ (fun s hs => by cases hs; rfl) (Sto.keep (hq (by decide)) (by decide) (hq (by decide)).2))
          · exact wp_ran rfl (exec_sub rfl (eval_tmp (hgot 2 _ 51 rfl (hdep ⟨2, .data⟩ (by simp) rfl) rfl)) rfl (sub_n k 7 (by omega) (by omega))) (hK _ _ (fun s hs => by cases hs; rfl) (Sto.keep (hq (by decide)) (by decide) (hq (by decide)).2))
          · exact wp_ran rfl (exec_at Tryd.underlying24 info23 (by omega : k - 7 < 64) rfl (eval_tmp (hpar 3 (by simp))) (eval_tmp (hgot 3 _ 52 rfl (hdep ⟨3, .data⟩ (by simp) rfl) rfl))) (hK _ _ (fun s hs => by cases hs; rfl) (Sto.keep (hq (by decide)) (by decide) (hq (by decide)).2))
          · exact wp_ran rfl (exec_load rfl (eval_tmp (hgot 4 _ 53 rfl (hdep ⟨4, .data⟩ (by simp) rfl) rfl)) (word_load (Holds.keep (w := (wr.drewN nq).drew) D0 (hq (by decide)).2 (by simp)) (by omega))) (hK _ _ (fun s hs => by cases hs; rfl) (Sto.keep (hq (by decide)) (by decide) (hq (by decide)).2))
          · exact wp_ran rfl (exec_add rfl (eval_tmp (hgot 1 _ 50 rfl (hdep ⟨1, .data⟩ (by simp) rfl) rfl)) (eval_tmp (hgot 5 _ 54 rfl (hdep ⟨5, .data⟩ (by simp) rfl) rfl)) (add_wd _ _)) (hK _ _ (fun s hs => by cases hs; rfl) (Sto.keep (hq (by decide)) (by decide) (hq (by decide)).2))
          · exact wp_ran rfl (exec_move rfl (eval_tmp (hpar 8 (by simp)))) (hK _ _ (fun s hs => by cases hs; rfl) (Sto.keep (hq (by decide)) (by decide) (hq (by decide)).2))
          · exact wp_ran rfl (exec_add rfl (eval_tmp (hgot 6 _ 55 rfl (hdep ⟨6, .data⟩ (by simp) rfl) rfl)) (eval_tmp (hgot 7 _ 56 rfl (hdep ⟨7, .data⟩ (by simp) rfl) rfl)) (add_wd _ _)) (hK _ _ (fun s hs => by cases hs; rfl) (Sto.keep (hq (by decide)) (by decide) (hq (by decide)).2))
          · exact wp_ran rfl (exec_move rfl (eval_tmp (hpar 4 (by simp)))) (hK _ _ (fun s hs => by cases hs; rfl) (Sto.keep (hq (by decide)) (by decide) (hq (by decide)).2))
          · exact wp_ran rfl (exec_sub rfl (eval_tmp (hgot 9 _ 58 rfl (hdep ⟨9, .data⟩ (by simp) rfl) rfl)) rfl (sub_n k 16 (by omega) (by omega))) (hK _ _ (fun s hs => by cases hs; rfl) (Sto.keep (hq (by decide)) (by decide) (hq (by decide)).2))
          · exact wp_ran rfl (exec_at Tryd.underlying24 info23 (by omega : k - 16 < 64) rfl (eval_tmp (hpar 3 (by simp))) (eval_tmp (hgot 10 _ 59 rfl (hdep ⟨10, .data⟩ (by simp) rfl) rfl))) (hK _ _ (fun s hs => by cases hs; rfl) (Sto.keep (hq (by decide)) (by decide) (hq (by decide)).2))
          · exact wp_ran rfl (exec_load rfl (eval_tmp (hgot 11 _ 60 rfl (hdep ⟨11, .data⟩ (by simp) rfl) rfl)) (word_load (Holds.keep (w := (wr.drewN nq).drew) D0 (hq (by decide)).2 (by simp)) (by omega))) (hK _ _ (fun s hs => by cases hs; rfl) (Sto.keep (hq (by decide)) (by decide) (hq (by decide)).2))
          · exact wp_ran rfl (exec_add rfl (eval_tmp (hgot 8 _ 57 rfl (hdep ⟨8, .data⟩ (by simp) rfl) rfl)) (eval_tmp (hgot 12 _ 61 rfl (hdep ⟨12, .data⟩ (by simp) rfl) rfl)) (add_wd _ _)) (hK _ _ (fun s hs => by cases hs; rfl) (Sto.keep (hq (by decide)) (by decide) (hq (by decide)).2))
          · exact wp_ran rfl (exec_at Tryd.underlying24 info23 (by omega : k < 64) rfl (eval_tmp (hpar 3 (by simp))) (eval_tmp (hgot 0 _ 49 rfl (hdep ⟨0, .data⟩ (by simp) rfl) rfl))) (hK _ _ (fun s hs => by cases hs; rfl) (Sto.keep (hq (by decide)) (by decide) (hq (by decide)).2))
          · exact wp_ran_skip rfl (exec_word (z := (sm1 X + g0 L (k - 7) + sm0 Y + g0 L (k - 16))) rfl (eval_tmp (hgot 14 _ 63 rfl (hdep ⟨14, .data⟩ (by simp) rfl) rfl)) (eval_tmp (hgot 13 _ 62 rfl (hdep ⟨13, .data⟩ (by simp) rfl) rfl)) (Holds.keep (w := (wr.drewN nq).drew) D0 (hq (by decide)).2 (by simp)) (by omega : k < L.length)) (hK _ _ (fun s hs => by cases hs) (Sto.done (reach_all (by kernel_rfl) hcl rfl hdep) ⟨word_set (Holds.keep (w := (wr.drewN nq).drew) D0 (hq (by decide)).2 (by simp)) _ _, (hq (by decide)).2.pre (Mod.setCell _ (by simp) _)⟩))
        case fin =>
          intro lz v hl hst
          obtain ⟨n5, nm⟩ := Sto.fin hst hl (by decide)
          rw [HK.out.2.2.2.2.2.1, HK.out.2.2.2.2.2.2.1, ← HK.out.2.2.2.2.2.2.2.1] at n5
          have n4 : Holds v w.heap.size 24 ((List.replicate 64 (0 : UInt32)).map wd) := Holds.keep (w := (wr.drewN nq).drew) O0 nm (by have := HZ.out; simp; omega)
          have n3 : Mod [] w v := (HK.out.2.2.2.1.then (Mod.drewN [] wr nq)).trans (Mod.drewed nm) (by have := HZ.out; intro i hi h; simp at h; omega)
          have HN := Lib.hid (And.intro n5 (And.intro n4 n3))
          clear n5 n4 n3 nm hst hl D0 O0 hk16 hk64 hkl
          try dsimp only
          go_wp2_with fail
          exact ⟨⟨k + 1, L.set k (g0 S k), by simp, by have := HK.out.2.2.2.2.1; omega, HK.out.1.next (by rw [HS.out.2.1]; exact HK.out.2.2.2.2.1), HN.out.1, HN.out.2.1, HN.out.2.2⟩, by simp [intOf]; omega⟩
    · obtain rfl : k = 64 := by omega
      have e : L = S := by rw [← HS.out.2.1] at hU; exact hU.all
      subst e
      clear hU hlt hk
      go_wp2_with (first
        | (with_reducible refine wpList_loads (o := ⟨some 65, .load 24 (.tmp 3), _, _, _, _⟩) rfl 24 (.tmp 3) rfl g 0 _ rfl (Cells.of_holds hL) _ Tryd.underlying24 rfl (size24_of _ HS.out.2.1) (.agg (L.map wd).toArray) rfl ?_)
        | (with_reducible refine wpList_storesAll (o := ⟨none, .store 24 (.tmp 2) (.tmp 65), _, _, _, _⟩) rfl 24 (.tmp 2) (.tmp 65) rfl rfl w.heap.size (L.map wd) rfl (.agg (L.map wd).toArray) rfl rfl 24 _ hO (by rw [List.length_map, List.length_map, HS.out.2.1, List.length_replicate]) (words_one _) (size24_of _ HS.out.2.1) ?_; intro w3 hb3 m3 z3; replace z3 := Lib.hid z3))
      refine bodyPost_ret (results_cell_row rfl _ _ w.heap.size 24 _ (0, 0) _ rfl hb3 Tryd.underlying24 rfl (by rw [List.size_toArray]; exact size24_of _ HS.out.2.1)) rfl ?_
      exact ⟨rfl, hM.trans m3 (by intro i hi h; simp at h; omega)⟩
end Go.Proofs.YtgojheoelcmcpaaDoor
