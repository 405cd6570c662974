/-
  WotsDigits' walk. My own work.
-/
import Derived.Test.YtdolihecjomjiaaDoorWr
namespace Go.Proofs.YtdolihecjomjiaaDoor
open Go.RowKit Go.Shelf
set_option maxRecDepth 100000 in
set_option maxHeartbeats 4000000 in
theorem digits_w (A : Option Addr) (cap : Nat) (l : List Idv) (hl : l.length ≤ cap) (hm : cap ≤ maxLen) (w : World) (RA : Cells w A (l.flatMap ic)) (Gl : Glob w) :
    Calls Tryd.prog 3 #[.slice A l.length cap] w fun r w' => r = .returned (.bool true) ∧ Mod [] w w' := by
  have WK := fun v (mv : Mod [] w v) => wakes_c v (Gl.then mv)
  obtain ⟨n, hn⟩ : ∃ n, n = l.length := ⟨_, rfl⟩
  rw [← hn] at hl ⊢
  have hm9 : maxLen ≤ 9223372036854775807 := by decide
  have hnZ : (n : Int) ≤ 9223372036854775807 := by omega
  have HL := Lib.hid (And.intro hn RA)
  clear hl hm hm9 hn RA Gl
  go_enter Tryd.func3, Tryd.ntmps3
  go_wp2_with (first
    | (go_at_call 10; refine (WK w (Mod.refl _ _)).mono ?_
       rintro e w3 ⟨rfl, m3⟩
       clear WK))
  go_loopw [12] (fun i wi => ∃ k : Nat, k ≤ n ∧ k ≤ 20 ∧ i = .int .i64 (k : Int) ∧ Mod [] w wi) (fun i _ => n - (intOf i).toNat)
  case atStart => exact ⟨0, Nat.zero_le _, by omega, rfl, m3⟩
  case round =>
    obtain ⟨k, hk, hk20, rfl, hmi⟩ := hrel
    by_cases hkn : k < n
    · have hkZ : (k : Int) < (n : Int) := by omega
      have hkl : k < l.length := by rw [← HL.out.1]; exact hkn
      obtain ⟨ga, oa, rfl, hce⟩ := HL.out.2.elem' ic 32 (by omega) ic_length k hkl
      obtain ⟨x, hx⟩ : ∃ p, p = l[k] := ⟨_, rfl⟩
      rw [← hx] at hce
      have hci := hce.keep hmi (by simp)
      clear hce hx hkl
      by_cases h20 : k = 20
      · subst h20
        have HQ := Lib.hid hmi
        clear hmi m3
        go_wp2_with (first
          | (with_reducible refine wpList_loads (o := ⟨some 16, .load 25 (.tmp 15), _, _, _, _⟩) rfl 25 (.tmp 15) rfl ga (oa + 20 * 32) _ rfl hci _ Tryd.underlying25 rfl (size25i x) (iv x) rfl ?_)
          | (with_reducible refine wpList_allocs (o := ⟨some 4, .alloc 25, _, _, _, _⟩) rfl 25 rfl _ zeroI_25 ?_; intro w1 hb1 m1 z1; replace z1 := Lib.hid z1)
          | (with_reducible refine wpList_storesAll (o := ⟨none, .store 25 (.tmp 4) (.tmp 16), _, _, _, _⟩) rfl 25 (.tmp 4) (.tmp 16) rfl rfl wr.heap.size (ic x) rfl (iv x) rfl rfl 25 _ hb1 (by rw [ic_length, ic_length]) (ic_one x) (size25i x) ?_
             intro w2 hb2 m2 z2
             have mx : Mod [] wr w2 := m1.trans m2 (by intro i hi h; simp at h; omega)
             have HM := Lib.hid mx
             clear hb1 m1 z1 hb2 m2 z2 mx))
        go_ret
        exact ⟨rfl, HQ.out.then HM.out⟩
      · have h20Z : ¬ (k : Int) = 20 := by omega
        have HQ := Lib.hid (And.intro hmi hci)
        clear hmi m3 hci
        go_wp2_with (first
          | (with_reducible refine wpList_loads (o := ⟨some 16, .load 25 (.tmp 15), _, _, _, _⟩) rfl 25 (.tmp 15) rfl ga (oa + k * 32) _ rfl HQ.out.2 _ Tryd.underlying25 rfl (size25i x) (iv x) rfl ?_)
          | (with_reducible refine wpList_allocs (o := ⟨some 4, .alloc 25, _, _, _, _⟩) rfl 25 rfl _ zeroI_25 ?_; intro w1 hb1 m1 z1; replace z1 := Lib.hid z1)
          | (with_reducible refine wpList_storesAll (o := ⟨none, .store 25 (.tmp 4) (.tmp 16), _, _, _, _⟩) rfl 25 (.tmp 4) (.tmp 16) rfl rfl wr.heap.size (ic x) rfl (iv x) rfl rfl 25 _ hb1 (by rw [ic_length, ic_length]) (ic_one x) (size25i x) ?_
             intro w2 hb2 m2 z2
             have mx : Mod [] wr w2 := m1.trans m2 (by intro i hi h; simp at h; omega)
             obtain ⟨b4, hb4⟩ : ∃ q, q = wr.heap.size := ⟨_, rfl⟩
             rw [← hb4] at hb2 ⊢
             have HM := Lib.hid (And.intro mx hb2)
             clear hb1 m1 z1 hb2 m2 z2 mx hb4))
        refine wp_region_lit (X := Xd) ⟨none, 0, none, 0⟩ (fun y => [.slice (some ⟨ga, oa, none⟩) n cap, undef, u2, .int .i64 (k : Int), .pointer (some ⟨b4, 0, none⟩), .slice y.A 67 y.ca, .slice y.B 67 y.cb, u7, .bool true, .bool false, .slice (some ⟨ga, oa, none⟩) n cap, .int .i64 (n : Int), .int .i64 (k : Int), .bool true, .int .i64 (k : Int), .pointer (some ⟨ga, oa + k * 32, none⟩), iv x, .int .i64 (k : Int), .bool ((k : Int) == 20), iv x, .slice y.A 67 y.ca, iv x, .slice y.B 67 y.cb, u23, u24, u25, u26, u27, u28, u29, u30, u31, u32, u33, u34, u35, u36, u37, u38, u39, u40, u41, u42, u43]) 44 [0, 1, 2, 3, 4, 7, 8, 9, 10, 11, 12, 13, 14, 15, 16, 17, 18, 23, 24, 25, 26, 27, 28, 29, 30, 31, 32, 33, 34, 35, 36, 37, 38, 39, 40, 41, 42, 43]
          (fun y lz v => Mod [] w2 v ∧ (lz 1 = true → OwnG fi 3 1 v y.A y.ca (digitsN x)) ∧ (lz 3 = true → OwnG fi 3 1 v y.B y.cb (digitsN x))) []
          (by kernel_rfl) (fun _ => rfl) rfl rfl rfl (fun _ => by simp only [List.map_cons, List.map_nil, List.getD_cons_zero, List.getD_cons_succ])
          ⟨Mod.drew _ w2, (fun q => by cases q), (fun q => by cases q)⟩ (by kernel_rfl) (by kernel_rfl) ?step ?fin
        case step =>
          intro y lz T v j o hj hlj hdep hst hpar hgot hcl Kq hK
          obtain ⟨s0, s1, s3⟩ := hst
          have hjn : j < 6 := (Array.getElem?_eq_some_iff.1 hj).1
          obtain rfl | rfl | rfl | rfl | rfl | rfl : j = 0 ∨ j = 1 ∨ j = 2 ∨ j = 3 ∨ j = 4 ∨ j = 5 := by omega
          all_goals (have hj' := Option.some.inj (hj : some _ = some o); subst hj'; clear hj)
          · exact wp_ran rfl (exec_load rfl (eval_tmp (hpar 4 (by simp))) (run_loads (Cells.of_holds (HM.out.2.keep s0 (by simp))) Tryd.underlying25 rfl (size25i x))) (hK y _ _ (fun _ _ _ _ _ _ => rfl) (fun s hs => by cases hs; rfl) ⟨s0, by simpa using s1, by simpa using s3⟩)
          · refine wp_called rfl (exec_call1 rfl rfl (eval_tmp (hgot 0 _ 19 rfl (hdep ⟨0, .data⟩ (by simp) rfl) rfl)) (enters_of Tryd.func11 (by kernel_rfl) rfl)) ((digits_c x v).mono ?_)
            rintro e v' ⟨A', c', rfl, g1, g2, g3⟩
            have l4 : lz 4 = false := (by cases hh : lz 4 with | false => rfl | true => exact absurd (hcl 4 _ rfl hh ⟨1, .data⟩ (by simp) rfl) (by rw [hlj]; simp))
            exact ⟨_, rfl, hK { y with A := A', ca := c' } _ _ (fun j' o' s' g1 g2 g3 => by
                have g4 : j' < 6 := (Array.getElem?_eq_some_iff.1 g1).1
                obtain rfl | rfl | rfl | rfl | rfl | rfl : j' = 0 ∨ j' = 1 ∨ j' = 2 ∨ j' = 3 ∨ j' = 4 ∨ j' = 5 := by omega
                all_goals (cases g1; cases g3 <;> first | rfl | (rw [hlj] at g2; cases g2) | (rw [l4] at g2; cases g2))) (fun s hs => by cases hs; rfl) ⟨s0.then g2, fun _ => g1, by simpa using fun q => (s3 q).keep g2 (by simp)⟩⟩
          · exact wp_ran rfl (exec_load rfl (eval_tmp (hpar 4 (by simp))) (run_loads (Cells.of_holds (HM.out.2.keep s0 (by simp))) Tryd.underlying25 rfl (size25i x))) (hK y _ _ (fun _ _ _ _ _ _ => rfl) (fun s hs => by cases hs; rfl) ⟨s0, by simpa using s1, by simpa using s3⟩)
          · refine wp_called rfl (exec_call1 rfl rfl (eval_tmp (hgot 2 _ 21 rfl (hdep ⟨2, .data⟩ (by simp) rfl) rfl)) (enters_of Tryd.func12 (by kernel_rfl) rfl)) ((rdigits_c x v).mono ?_)
            rintro e v' ⟨A', c', rfl, g1, g2, g3⟩
            have l5 : lz 5 = false := (by cases hh : lz 5 with | false => rfl | true => exact absurd (hcl 5 _ rfl hh ⟨3, .data⟩ (by simp) rfl) (by rw [hlj]; simp))
            exact ⟨_, rfl, hK { y with B := A', cb := c' } _ _ (fun j' o' s' g1 g2 g3 => by
                have g4 : j' < 6 := (Array.getElem?_eq_some_iff.1 g1).1
                obtain rfl | rfl | rfl | rfl | rfl | rfl : j' = 0 ∨ j' = 1 ∨ j' = 2 ∨ j' = 3 ∨ j' = 4 ∨ j' = 5 := by omega
                all_goals (cases g1; cases g3 <;> first | rfl | (rw [hlj] at g2; cases g2) | (rw [l5] at g2; cases g2))) (fun s hs => by cases hs; rfl) ⟨s0.then g2, by simpa using fun q => (s1 q).keep g2 (by simp), fun _ => g1⟩⟩
          · exact wp_ran rfl (exec_assign rfl (eval_tmp (hgot 1 _ 20 rfl (hdep ⟨1, .data⟩ (by simp) rfl) rfl))) (hK y _ _ (fun _ _ _ _ _ _ => rfl) (fun s hs => by cases hs; rfl) ⟨s0, by simpa using s1, by simpa using s3⟩)
          · exact wp_ran rfl (exec_assign rfl (eval_tmp (hgot 3 _ 22 rfl (hdep ⟨3, .data⟩ (by simp) rfl) rfl))) (hK y _ _ (fun _ _ _ _ _ _ => rfl) (fun s hs => by cases hs; rfl) ⟨s0, by simpa using s1, by simpa using s3⟩)
        case fin =>
          intro y lz v hlz hst
          obtain ⟨s0, s1, s3⟩ := hst
          have hA := s1 (hlz 1 (by decide))
          have hB := s3 (hlz 3 (by decide))
          have mm : Mod [] w v := (HQ.out.1.then HM.out.1).then s0
          obtain ⟨Ya, hYa⟩ : ∃ q, q = y.A := ⟨_, rfl⟩
          obtain ⟨Yb, hYb⟩ : ∃ q, q = y.B := ⟨_, rfl⟩
          obtain ⟨na, hna⟩ : ∃ q, q = y.ca := ⟨_, rfl⟩
          obtain ⟨nb, hnb⟩ : ∃ q, q = y.cb := ⟨_, rfl⟩
          rw [← hYa, ← hna] at hA
          rw [← hYb, ← hnb] at hB
          rw [← hYa, ← hYb, ← hna, ← hnb]
          have HV := Lib.hid (And.intro hA (And.intro hB mm))
          clear s0 s1 s3 hA hB mm hYa hYb hna hnb hlz
          dsimp only
          go_wp2_with fail
          go_loopw [30] (fun i wi => ∃ j : Nat, j ≤ 67 ∧ i = .int .i64 (j : Int) ∧ Mod [] v wi) (fun i _ => 67 - (intOf i).toNat)
          case atStart => exact ⟨0, by omega, rfl, Mod.refl _ _⟩
          case round =>
            obtain ⟨j, hj, rfl, hmj⟩ := hrel
            by_cases hjn : j < 67
            · have hjZ : (j : Int) < 67 := by omega
              have hA := HV.out.1.keep hmj (by simp)
              have hB := HV.out.2.1.keep hmj (by simp)
              obtain ⟨g1, f1, rfl, ca⟩ := hA.int_at j (by rw [digitsN_length]; exact hjn)
              obtain ⟨g2, f2, rfl, cb⟩ := hB.int_at j (by rw [digitsN_length]; exact hjn)
              obtain ⟨a, ha⟩ : ∃ a, a = (digitsN x)[j]'(by rw [digitsN_length]; exact hjn) := ⟨_, rfl⟩
              rw [← ha] at ca cb
              have HJ := Lib.hid hmj
              clear ha hA hB hmj
              go_wp2_with fail
              go_quiet (fail)
              obtain ⟨wa, hwa⟩ : ∃ v, v = wr.drewN nq := ⟨_, rfl⟩
              have mwa : Mod [] wr wa := by rw [hwa]; exact Mod.drewN [] wr nq
              rw [← hwa]
              have HJ2 := Lib.hid (HJ.out.then mwa)
              clear hwa mwa ca cb nq
              go_wp2
              refine ⟨⟨j + 1, by omega, by go_num, HJ2.out⟩, by simp [intOf]; omega⟩
            · obtain rfl : j = 67 := by omega
              have HJ := Lib.hid hmj
              clear hmj
              go_wp2
              refine ⟨⟨k + 1, by omega, by omega, by go_num, HV.out.2.2.then HJ.out⟩, by simp [intOf]; omega⟩
    · obtain rfl : k = n := by omega
      have HQ := Lib.hid hmi
      clear hmi m3
      go_wp2
      go_ret
      exact ⟨rfl, HQ.out⟩
end Go.Proofs.YtdolihecjomjiaaDoor
