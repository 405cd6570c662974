/-
  WotsBelow's walk. My own work.
-/
import Derived.Test.YtdolihecjomjiaaDoorWq
import Derived.Test.YtdolihecjomjiaaDoorWp
import Derived.BigQuiet
namespace Go.Proofs.YtdolihecjomjiaaDoor
open Go.RowKit Go.Shelf
/-- Two rows of digits. -/
structure Xd where
  A : Option Addr
  ca : Nat
  B : Option Addr
  cb : Nat
set_option maxRecDepth 100000 in
set_option maxHeartbeats 4000000 in
theorem below_w (L0 : List UInt8) (L1 : List UInt8) (h0 : L0.length = 32) (h1 : L1.length = 32) (w : World) (Gl : Glob w) :
    Calls Tryd.prog 8 #[.agg (L0.map oct).toArray, .agg (L1.map oct).toArray] w fun r w' => r = .returned (.bool true) ∧ Mod [] w w' := by
  obtain ⟨x, hx⟩ : ∃ x : Idv, x = ⟨L0, h0⟩ := ⟨_, rfl⟩
  obtain ⟨m, hm⟩ : ∃ x : Idv, x = ⟨L1, h1⟩ := ⟨_, rfl⟩
  rw [show Value.agg (L0.map oct).toArray = iv x by rw [hx]; rfl, show Value.agg (L1.map oct).toArray = iv m by rw [hm]; rfl]
  clear hx hm h0 h1
  have WK := fun v (mv : Mod [] w v) => wakes_c v (Gl.then mv)
  have DX := fun v => digits_c x v
  have DM := fun v => digits_c m v
  obtain ⟨dx, hdx⟩ : ∃ d, d = digitsN x := ⟨_, rfl⟩
  obtain ⟨dm, hdm⟩ : ∃ d, d = digitsN m := ⟨_, rfl⟩
  rw [← hdx] at DX
  rw [← hdm] at DM
  have HD := Lib.hid (And.intro hdx hdm)
  clear Gl hdx hdm
  go_enter Tryd.func8, Tryd.ntmps8
  go_wp2_with (first
    | (with_reducible refine wpList_boxes (o := ⟨some 2, .box 25 (.tmp 0), _, _, _, _⟩) rfl 25 (.tmp 0) rfl _ rfl (ic x) rfl ?_; intro w1 hb1 m1 z1; replace z1 := Lib.hid z1)
    | (with_reducible refine wpList_boxes (o := ⟨some 3, .box 25 (.tmp 1), _, _, _, _⟩) rfl 25 (.tmp 1) rfl _ rfl (ic m) rfl ?_; intro w2 hb2 m2 z2; replace z2 := Lib.hid z2)
    | (go_at_call 10; refine (WK w2 (m1.then m2)).mono ?_
       rintro e w3 ⟨rfl, m3⟩
       obtain ⟨b2, hq2⟩ : ∃ q, q = w.heap.size := ⟨_, rfl⟩
       obtain ⟨b3, hq3⟩ : ∃ q, q = w1.heap.size := ⟨_, rfl⟩
       have k2 : Holds w3 b2 25 (ic x) := by rw [hq2]; exact (hb1.keep m2 (by simp)).keep m3 (by simp)
       have k3 : Holds w3 b3 25 (ic m) := by rw [hq3]; exact hb2.keep m3 (by simp)
       have mm3 : Mod [] w w3 := (m1.then m2).then m3
       rw [← hq2, ← hq3]
       clear hb1 hb2 m1 m2 z1 z2 m3 hq2 hq3 WK))
  have HK := Lib.hid (And.intro k2 (And.intro k3 mm3))
  clear k2 k3 mm3
  refine wp_region_lit (X := Xd) ⟨none, 0, none, 0⟩ (fun y => [iv x, iv m, .pointer (some ⟨b2, 0, none⟩), .pointer (some ⟨b3, 0, none⟩), .bool false, .slice y.A 67 y.ca, .slice y.B 67 y.cb, undef, undef, undef, .bool true, .bool false, iv x, .slice y.A 67 y.ca, iv m, .slice y.B 67 y.cb, undef, undef, undef, undef, undef, undef, undef, undef, undef, undef, undef, undef, undef, undef, undef, undef, undef, undef, undef, undef, undef, undef, undef, undef, undef, undef, undef, undef, undef, undef, undef, undef, undef, undef, undef, undef, undef, undef, undef, undef, undef, undef, undef, undef, undef, undef, undef, undef, undef, undef, undef, undef, undef, undef, undef, undef, undef, undef, undef, undef, undef, undef]) 78 [0, 1, 2, 3, 4, 7, 8, 9, 10, 11, 16, 17, 18, 19, 20, 21, 22, 23, 24, 25, 26, 27, 28, 29, 30, 31, 32, 33, 34, 35, 36, 37, 38, 39, 40, 41, 42, 43, 44, 45, 46, 47, 48, 49, 50, 51, 52, 53, 54, 55, 56, 57, 58, 59, 60, 61, 62, 63, 64, 65, 66, 67, 68, 69, 70, 71, 72, 73, 74, 75, 76, 77]
    (fun y lz v => Mod [] w3 v ∧ (lz 1 = true → OwnG fi 3 1 v y.A y.ca dx) ∧ (lz 3 = true → OwnG fi 3 1 v y.B y.cb dm)) []
    (by kernel_rfl) (fun _ => rfl) rfl rfl rfl (fun _ => by simp only [List.map_cons, List.map_nil, List.getD_cons_zero, List.getD_cons_succ])
    ⟨Mod.drew _ w3, (fun q => by cases q), (fun q => by cases q)⟩ (by kernel_rfl) (by kernel_rfl) ?step ?fin
  case step =>
    intro y lz T v j o hj hlj hdep hst hpar hgot hcl Kq hK
    obtain ⟨s0, s1, s3⟩ := hst
    have hjn : j < 6 := (Array.getElem?_eq_some_iff.1 hj).1
    obtain rfl | rfl | rfl | rfl | rfl | rfl : j = 0 ∨ j = 1 ∨ j = 2 ∨ j = 3 ∨ j = 4 ∨ j = 5 := by omega
    all_goals (have hj' := Option.some.inj (hj : some _ = some o); subst hj'; clear hj)
    · exact wp_ran rfl (exec_load rfl (eval_tmp (hpar 2 (by simp))) (run_loads (Cells.of_holds (HK.out.1.keep s0 (by simp))) Tryd.underlying25 rfl (size25i x))) (hK y _ _ (fun _ _ _ _ _ _ => rfl) (fun s hs => by cases hs; rfl) ⟨s0, by simpa using s1, by simpa using s3⟩)
    · refine wp_called rfl (exec_call1 rfl rfl (eval_tmp (hgot 0 _ 12 rfl (hdep ⟨0, .data⟩ (by simp) rfl) rfl)) (enters_of Tryd.func11 (by kernel_rfl) rfl)) ((DX v).mono ?_)
      rintro e v' ⟨A', c', rfl, g1, g2, g3⟩
      have l4 : lz 4 = false := (by cases hh : lz 4 with | false => rfl | true => exact absurd (hcl 4 _ rfl hh ⟨1, .data⟩ (by simp) rfl) (by rw [hlj]; simp))
      exact ⟨_, rfl, hK { y with A := A', ca := c' } _ _ (fun j' o' s' g1 g2 g3 => by
          have g4 : j' < 6 := (Array.getElem?_eq_some_iff.1 g1).1
          obtain rfl | rfl | rfl | rfl | rfl | rfl : j' = 0 ∨ j' = 1 ∨ j' = 2 ∨ j' = 3 ∨ j' = 4 ∨ j' = 5 := by omega
          all_goals (cases g1; cases g3 <;> first | rfl | (rw [hlj] at g2; cases g2) | (rw [l4] at g2; cases g2))) (fun s hs => by cases hs; rfl) ⟨s0.then g2, fun _ => g1, by simpa using fun q => (s3 q).keep g2 (by simp)⟩⟩
    · exact wp_ran rfl (exec_load rfl (eval_tmp (hpar 3 (by simp))) (run_loads (Cells.of_holds (HK.out.2.1.keep s0 (by simp))) Tryd.underlying25 rfl (size25i m))) (hK y _ _ (fun _ _ _ _ _ _ => rfl) (fun s hs => by cases hs; rfl) ⟨s0, by simpa using s1, by simpa using s3⟩)
    · refine wp_called rfl (exec_call1 rfl rfl (eval_tmp (hgot 2 _ 14 rfl (hdep ⟨2, .data⟩ (by simp) rfl) rfl)) (enters_of Tryd.func11 (by kernel_rfl) rfl)) ((DM v).mono ?_)
      rintro e v' ⟨A', c', rfl, g1, g2, g3⟩
      have l5 : lz 5 = false := (by cases hh : lz 5 with | false => rfl | true => exact absurd (hcl 5 _ rfl hh ⟨3, .data⟩ (by simp) rfl) (by rw [hlj]; simp))
      exact ⟨_, rfl, hK { y with B := A', cb := c' } _ _ (fun j' o' s' g1 g2 g3 => by
          have g4 : j' < 6 := (Array.getElem?_eq_some_iff.1 g1).1
          obtain rfl | rfl | rfl | rfl | rfl | rfl : j' = 0 ∨ j' = 1 ∨ j' = 2 ∨ j' = 3 ∨ j' = 4 ∨ j' = 5 := by omega
          all_goals (cases g1; cases g3 <;> first | rfl | (rw [hlj] at g2; cases g2) | (rw [l5] at g2; cases g2))) (fun s hs => by cases hs; rfl) ⟨s0.then g2, by simpa using fun q => (s1 q).keep g2 (by simp), fun _ => g1⟩⟩
    · exact wp_ran rfl (exec_assign rfl (eval_tmp (hgot 1 _ 13 rfl (hdep ⟨1, .data⟩ (by simp) rfl) rfl))) (hK y _ _ (fun _ _ _ _ _ _ => rfl) (fun s hs => by cases hs; rfl) ⟨s0, by simpa using s1, by simpa using s3⟩)
    · exact wp_ran rfl (exec_assign rfl (eval_tmp (hgot 3 _ 15 rfl (hdep ⟨3, .data⟩ (by simp) rfl) rfl))) (hK y _ _ (fun _ _ _ _ _ _ => rfl) (fun s hs => by cases hs; rfl) ⟨s0, by simpa using s1, by simpa using s3⟩)
  case fin =>
    intro y lz v hl hst
    obtain ⟨s0, s1, s3⟩ := hst
    have hA := s1 (hl 1 (by decide))
    have hB := s3 (hl 3 (by decide))
    have mm : Mod [] w v := HK.out.2.2.then s0
    have k2 := HK.out.1.keep s0 (by simp)
    have k3 := HK.out.2.1.keep s0 (by simp)
    obtain ⟨Ya, hYa⟩ : ∃ q, q = y.A := ⟨_, rfl⟩
    obtain ⟨Yb, hYb⟩ : ∃ q, q = y.B := ⟨_, rfl⟩
    obtain ⟨na, hna⟩ : ∃ q, q = y.ca := ⟨_, rfl⟩
    obtain ⟨nb, hnb⟩ : ∃ q, q = y.cb := ⟨_, rfl⟩
    rw [← hYa, ← hna] at hA
    rw [← hYb, ← hnb] at hB
    rw [← hYa, ← hYb, ← hna, ← hnb]
    have HV := Lib.hid (And.intro hA (And.intro hB (And.intro mm (And.intro k2 k3))))
    clear s0 s1 s3 hA hB mm k2 k3 hYa hYb hna hnb hl HK
    dsimp only
    go_wp2_with fail
    go_loopw [26, 7, 8] (fun i l1 l2 wi => ∃ (k : Nat) (L M : Bool), k ≤ 67 ∧ i = .int .i64 (k : Int) ∧ l1 = .bool L ∧ l2 = .bool M ∧ L = lessB x m k ∧ M = lessB m x k ∧ Mod [] v wi) (fun i _ _ _ => 67 - (intOf i).toNat)
    case atStart => exact ⟨0, false, false, by omega, rfl, rfl, rfl, rfl, rfl, Mod.refl _ _⟩
    case round =>
      obtain ⟨k, L, M, hk, rfl, rfl, rfl, hL, hM, hmi⟩ := hrel
      by_cases hkn : k < 67
      · have hkZ : (k : Int) < 67 := by omega
        have hA := HV.out.1.keep hmi (by simp)
        have hB := HV.out.2.1.keep hmi (by simp)
        have hla : k < dx.length := by rw [HD.out.1, digitsN_length]; exact hkn
        have hlb : k < dm.length := by rw [HD.out.2, digitsN_length]; exact hkn
        obtain ⟨ga, oa, rfl, ca⟩ := hA.int_at k hla
        obtain ⟨gb, ob, rfl, cb⟩ := hB.int_at k hlb
        obtain ⟨a, ha⟩ : ∃ a, a = dx[k] := ⟨_, rfl⟩
        obtain ⟨b, hb⟩ : ∃ b, b = dm[k] := ⟨_, rfl⟩
        have ea : dgt x k = a := by
          unfold dgt
          rw [← HD.out.1, ha, List.getD_eq_getElem?_getD, List.getElem?_eq_getElem hla]; rfl
        have eb : dgt m k = b := by
          unfold dgt
          rw [← HD.out.2, hb, List.getD_eq_getElem?_getD, List.getElem?_eq_getElem hlb]; rfl
        have ha15 := dgt_le x k
        have hb15 := dgt_le m k
        rw [ea] at ha15
        rw [eb] at hb15
        rw [← ha] at ca
        rw [← hb] at cb
        have haZ : (a : Int) ≤ 15 := by omega
        have hbZ : (b : Int) ≤ 15 := by omega
        have h1 := lessB_succ x m k
        have h2 := lessB_succ m x k
        rw [← hL, ea, eb] at h1
        rw [← hM, ea, eb] at h2
        clear ha hb hla hlb hA hB ha15 hb15 ea eb hL hM
        rcases Nat.lt_trichotomy a b with hab | hab | hab
        · have z1 : (a : Int) < (b : Int) := by omega
          have z2 : ¬ (b : Int) < (a : Int) := by omega
          have hab1 : decide (a < b) = true := decide_eq_true hab
          have hab2 : decide (b < a) = false := decide_eq_false (by omega)
          have HQ := Lib.hid (And.intro trivial (And.intro h1 (And.intro h2 (And.intro hmi (And.intro hab1 hab2)))))
          clear h1 h2 hmi hab hab1 hab2
          cases L <;> cases M
          · go_wp2_with fail
            go_quiet (fail)
            obtain ⟨wa, hwa⟩ : ∃ v, v = wr.drewN nq := ⟨_, rfl⟩
            have mwa : Mod [] wr wa := by rw [hwa]; exact Mod.drewN [] wr nq
            rw [← hwa]
            have c1 : wa.cell? ⟨ga, oa + k, none⟩ = some (.int .i64 (a : Int)) := Mod.cell mwa (by simp) ca
            have HM := Lib.hid mwa
            clear hwa mwa ca cb nq
            go_wp2
            refine ⟨⟨k + 1, lessB x m (k + 1), lessB m x (k + 1), by omega, by go_num, by rw [HQ.out.2.1, HQ.out.2.2.2.2.1]; rfl, by rw [HQ.out.2.2.1, HQ.out.2.2.2.2.2]; rfl, rfl, rfl, HQ.out.2.2.2.1.then HM.out⟩, by simp [intOf]; omega⟩
          · go_wp2_with fail
            go_quiet (fail)
            obtain ⟨wa, hwa⟩ : ∃ v, v = wr.drewN nq := ⟨_, rfl⟩
            have mwa : Mod [] wr wa := by rw [hwa]; exact Mod.drewN [] wr nq
            rw [← hwa]
            have c1 : wa.cell? ⟨ga, oa + k, none⟩ = some (.int .i64 (a : Int)) := Mod.cell mwa (by simp) ca
            have HM := Lib.hid mwa
            clear hwa mwa ca cb nq
            go_wp2
            refine ⟨⟨k + 1, lessB x m (k + 1), lessB m x (k + 1), by omega, by go_num, by rw [HQ.out.2.1, HQ.out.2.2.2.2.1]; rfl, by rw [HQ.out.2.2.1, HQ.out.2.2.2.2.2]; rfl, rfl, rfl, HQ.out.2.2.2.1.then HM.out⟩, by simp [intOf]; omega⟩
          · go_wp2_with fail
            go_quiet (fail)
            obtain ⟨wa, hwa⟩ : ∃ v, v = wr.drewN nq := ⟨_, rfl⟩
            have mwa : Mod [] wr wa := by rw [hwa]; exact Mod.drewN [] wr nq
            rw [← hwa]
            have c1 : wa.cell? ⟨ga, oa + k, none⟩ = some (.int .i64 (a : Int)) := Mod.cell mwa (by simp) ca
            have HM := Lib.hid mwa
            clear hwa mwa ca cb nq
            go_wp2
            refine ⟨⟨k + 1, lessB x m (k + 1), lessB m x (k + 1), by omega, by go_num, by rw [HQ.out.2.1, HQ.out.2.2.2.2.1]; rfl, by rw [HQ.out.2.2.1, HQ.out.2.2.2.2.2]; rfl, rfl, rfl, HQ.out.2.2.2.1.then HM.out⟩, by simp [intOf]; omega⟩
          · go_wp2_with fail
            go_quiet (fail)
            obtain ⟨wa, hwa⟩ : ∃ v, v = wr.drewN nq := ⟨_, rfl⟩
            have mwa : Mod [] wr wa := by rw [hwa]; exact Mod.drewN [] wr nq
            rw [← hwa]
            have c1 : wa.cell? ⟨ga, oa + k, none⟩ = some (.int .i64 (a : Int)) := Mod.cell mwa (by simp) ca
            have HM := Lib.hid mwa
            clear hwa mwa ca cb nq
            go_wp2
            refine ⟨⟨k + 1, lessB x m (k + 1), lessB m x (k + 1), by omega, by go_num, by rw [HQ.out.2.1, HQ.out.2.2.2.2.1]; rfl, by rw [HQ.out.2.2.1, HQ.out.2.2.2.2.2]; rfl, rfl, rfl, HQ.out.2.2.2.1.then HM.out⟩, by simp [intOf]; omega⟩
        · subst hab
          have hab1 : decide (a < a) = false := decide_eq_false (by omega)
          have HQ := Lib.hid (And.intro trivial (And.intro h1 (And.intro h2 (And.intro hmi (And.intro hab1 hab1)))))
          clear h1 h2 hmi hab1
          cases L <;> cases M
          · go_wp2_with fail
            go_quiet (fail)
            obtain ⟨wa, hwa⟩ : ∃ v, v = wr.drewN nq := ⟨_, rfl⟩
            have mwa : Mod [] wr wa := by rw [hwa]; exact Mod.drewN [] wr nq
            rw [← hwa]
            have c1 : wa.cell? ⟨ga, oa + k, none⟩ = some (.int .i64 (a : Int)) := Mod.cell mwa (by simp) ca
            have HM := Lib.hid mwa
            clear hwa mwa ca cb nq
            go_wp2
            refine ⟨⟨k + 1, lessB x m (k + 1), lessB m x (k + 1), by omega, by go_num, by rw [HQ.out.2.1, HQ.out.2.2.2.2.1]; rfl, by rw [HQ.out.2.2.1, HQ.out.2.2.2.2.2]; rfl, rfl, rfl, HQ.out.2.2.2.1.then HM.out⟩, by simp [intOf]; omega⟩
          · go_wp2_with fail
            go_quiet (fail)
            obtain ⟨wa, hwa⟩ : ∃ v, v = wr.drewN nq := ⟨_, rfl⟩
            have mwa : Mod [] wr wa := by rw [hwa]; exact Mod.drewN [] wr nq
            rw [← hwa]
            have c1 : wa.cell? ⟨ga, oa + k, none⟩ = some (.int .i64 (a : Int)) := Mod.cell mwa (by simp) ca
            have HM := Lib.hid mwa
            clear hwa mwa ca cb nq
            go_wp2
            refine ⟨⟨k + 1, lessB x m (k + 1), lessB m x (k + 1), by omega, by go_num, by rw [HQ.out.2.1, HQ.out.2.2.2.2.1]; rfl, by rw [HQ.out.2.2.1, HQ.out.2.2.2.2.2]; rfl, rfl, rfl, HQ.out.2.2.2.1.then HM.out⟩, by simp [intOf]; omega⟩
          · go_wp2_with fail
            go_quiet (fail)
            obtain ⟨wa, hwa⟩ : ∃ v, v = wr.drewN nq := ⟨_, rfl⟩
            have mwa : Mod [] wr wa := by rw [hwa]; exact Mod.drewN [] wr nq
            rw [← hwa]
            have c1 : wa.cell? ⟨ga, oa + k, none⟩ = some (.int .i64 (a : Int)) := Mod.cell mwa (by simp) ca
            have HM := Lib.hid mwa
            clear hwa mwa ca cb nq
            go_wp2
            refine ⟨⟨k + 1, lessB x m (k + 1), lessB m x (k + 1), by omega, by go_num, by rw [HQ.out.2.1, HQ.out.2.2.2.2.1]; rfl, by rw [HQ.out.2.2.1, HQ.out.2.2.2.2.2]; rfl, rfl, rfl, HQ.out.2.2.2.1.then HM.out⟩, by simp [intOf]; omega⟩
          · go_wp2_with fail
            go_quiet (fail)
            obtain ⟨wa, hwa⟩ : ∃ v, v = wr.drewN nq := ⟨_, rfl⟩
            have mwa : Mod [] wr wa := by rw [hwa]; exact Mod.drewN [] wr nq
            rw [← hwa]
            have c1 : wa.cell? ⟨ga, oa + k, none⟩ = some (.int .i64 (a : Int)) := Mod.cell mwa (by simp) ca
            have HM := Lib.hid mwa
            clear hwa mwa ca cb nq
            go_wp2
            refine ⟨⟨k + 1, lessB x m (k + 1), lessB m x (k + 1), by omega, by go_num, by rw [HQ.out.2.1, HQ.out.2.2.2.2.1]; rfl, by rw [HQ.out.2.2.1, HQ.out.2.2.2.2.2]; rfl, rfl, rfl, HQ.out.2.2.2.1.then HM.out⟩, by simp [intOf]; omega⟩
        · have z1 : ¬ (a : Int) < (b : Int) := by omega
          have z2 : (b : Int) < (a : Int) := by omega
          have hab1 : decide (a < b) = false := decide_eq_false (by omega)
          have hab2 : decide (b < a) = true := decide_eq_true hab
          have HQ := Lib.hid (And.intro trivial (And.intro h1 (And.intro h2 (And.intro hmi (And.intro hab1 hab2)))))
          clear h1 h2 hmi hab hab1 hab2
          cases L <;> cases M
          · go_wp2_with fail
            go_quiet (fail)
            obtain ⟨wa, hwa⟩ : ∃ v, v = wr.drewN nq := ⟨_, rfl⟩
            have mwa : Mod [] wr wa := by rw [hwa]; exact Mod.drewN [] wr nq
            rw [← hwa]
            have c1 : wa.cell? ⟨ga, oa + k, none⟩ = some (.int .i64 (a : Int)) := Mod.cell mwa (by simp) ca
            have HM := Lib.hid mwa
            clear hwa mwa ca cb nq
            go_wp2
            refine ⟨⟨k + 1, lessB x m (k + 1), lessB m x (k + 1), by omega, by go_num, by rw [HQ.out.2.1, HQ.out.2.2.2.2.1]; rfl, by rw [HQ.out.2.2.1, HQ.out.2.2.2.2.2]; rfl, rfl, rfl, HQ.out.2.2.2.1.then HM.out⟩, by simp [intOf]; omega⟩
          · go_wp2_with fail
            go_quiet (fail)
            obtain ⟨wa, hwa⟩ : ∃ v, v = wr.drewN nq := ⟨_, rfl⟩
            have mwa : Mod [] wr wa := by rw [hwa]; exact Mod.drewN [] wr nq
            rw [← hwa]
            have c1 : wa.cell? ⟨ga, oa + k, none⟩ = some (.int .i64 (a : Int)) := Mod.cell mwa (by simp) ca
            have HM := Lib.hid mwa
            clear hwa mwa ca cb nq
            go_wp2
            refine ⟨⟨k + 1, lessB x m (k + 1), lessB m x (k + 1), by omega, by go_num, by rw [HQ.out.2.1, HQ.out.2.2.2.2.1]; rfl, by rw [HQ.out.2.2.1, HQ.out.2.2.2.2.2]; rfl, rfl, rfl, HQ.out.2.2.2.1.then HM.out⟩, by simp [intOf]; omega⟩
          · go_wp2_with fail
            go_quiet (fail)
            obtain ⟨wa, hwa⟩ : ∃ v, v = wr.drewN nq := ⟨_, rfl⟩
            have mwa : Mod [] wr wa := by rw [hwa]; exact Mod.drewN [] wr nq
            rw [← hwa]
            have c1 : wa.cell? ⟨ga, oa + k, none⟩ = some (.int .i64 (a : Int)) := Mod.cell mwa (by simp) ca
            have HM := Lib.hid mwa
            clear hwa mwa ca cb nq
            go_wp2
            refine ⟨⟨k + 1, lessB x m (k + 1), lessB m x (k + 1), by omega, by go_num, by rw [HQ.out.2.1, HQ.out.2.2.2.2.1]; rfl, by rw [HQ.out.2.2.1, HQ.out.2.2.2.2.2]; rfl, rfl, rfl, HQ.out.2.2.2.1.then HM.out⟩, by simp [intOf]; omega⟩
          · go_wp2_with fail
            go_quiet (fail)
            obtain ⟨wa, hwa⟩ : ∃ v, v = wr.drewN nq := ⟨_, rfl⟩
            have mwa : Mod [] wr wa := by rw [hwa]; exact Mod.drewN [] wr nq
            rw [← hwa]
            have c1 : wa.cell? ⟨ga, oa + k, none⟩ = some (.int .i64 (a : Int)) := Mod.cell mwa (by simp) ca
            have HM := Lib.hid mwa
            clear hwa mwa ca cb nq
            go_wp2
            refine ⟨⟨k + 1, lessB x m (k + 1), lessB m x (k + 1), by omega, by go_num, by rw [HQ.out.2.1, HQ.out.2.2.2.2.1]; rfl, by rw [HQ.out.2.2.1, HQ.out.2.2.2.2.2]; rfl, rfl, rfl, HQ.out.2.2.2.1.then HM.out⟩, by simp [intOf]; omega⟩
      · obtain rfl : k = 67 := by omega
        rw [lessB_all] at hL hM
        have HQ := Lib.hid (And.intro (HV.out.2.2.1.then hmi) (And.intro (HV.out.2.2.2.1.keep hmi (by simp)) (HV.out.2.2.2.2.keep hmi (by simp))))
        clear hmi
        cases hxm : decide (x = m) with
        | true =>
          have he : x = m := of_decide_eq_true hxm
          obtain rfl : L = false := by rw [hL]; exact decide_eq_false (fun h => h he)
          obtain rfl : M = false := by rw [hM]; exact decide_eq_false (fun h => h he.symm)
          clear he
          have HN : Hid ((!decide (x = m)) = false) := Lib.hid (by rw [hxm]; rfl)
          clear hL hM hxm
          go_wp2_with (first
            | (with_reducible refine wpList_loads (o := ⟨some 66, .load 25 (.tmp 2), _, _, _, _⟩) rfl 25 (.tmp 2) rfl b2 0 _ rfl (Cells.of_holds HQ.out.2.1) _ Tryd.underlying25 rfl (size25i x) (iv x) rfl ?_)
            | (with_reducible refine wpList_loads (o := ⟨some 67, .load 25 (.tmp 3), _, _, _, _⟩) rfl 25 (.tmp 3) rfl b3 0 _ rfl (Cells.of_holds HQ.out.2.2) _ Tryd.underlying25 rfl (size25i m) (iv m) rfl ?_)
            | (with_reducible refine wpList_ranW (o := ⟨some 68, .binOp .neq _ _ _ _, _, _, _, _⟩) (by with_unfolding_all rfl) (.bool false) wr (by rw [← HN.out]; exact exec_ne25 rfl rfl rfl) ?_)
            | (with_reducible refine wpList_loadsW (o := ⟨some 72, .load 25 (.tmp 2), _, _, _, _⟩) (by with_unfolding_all rfl) 25 (.tmp 2) rfl b2 0 _ rfl (Cells.of_holds HQ.out.2.1) _ Tryd.underlying25 rfl (size25i x) (iv x) rfl ?_)
            | (with_reducible refine wpList_loadsW (o := ⟨some 73, .load 25 (.tmp 3), _, _, _, _⟩) (by with_unfolding_all rfl) 25 (.tmp 3) rfl b3 0 _ rfl (Cells.of_holds HQ.out.2.2) _ Tryd.underlying25 rfl (size25i m) (iv m) rfl ?_)
            | (with_reducible refine wpList_ranW (o := ⟨some 74, .binOp .neq _ _ _ _, _, _, _, _⟩) (by with_unfolding_all rfl) (.bool false) wr (by rw [← HN.out]; exact exec_ne25 rfl rfl rfl) ?_))
          go_ret
          exact ⟨rfl, HQ.out.1⟩
        | false =>
          have he : x ≠ m := of_decide_eq_false hxm
          obtain rfl : L = true := by rw [hL]; exact decide_eq_true he
          obtain rfl : M = true := by rw [hM]; exact decide_eq_true (fun h => he h.symm)
          clear he
          have HN : Hid ((!decide (x = m)) = true) := Lib.hid (by rw [hxm]; rfl)
          clear hL hM hxm
          go_wp2_with (first
            | (with_reducible refine wpList_loads (o := ⟨some 66, .load 25 (.tmp 2), _, _, _, _⟩) rfl 25 (.tmp 2) rfl b2 0 _ rfl (Cells.of_holds HQ.out.2.1) _ Tryd.underlying25 rfl (size25i x) (iv x) rfl ?_)
            | (with_reducible refine wpList_loads (o := ⟨some 67, .load 25 (.tmp 3), _, _, _, _⟩) rfl 25 (.tmp 3) rfl b3 0 _ rfl (Cells.of_holds HQ.out.2.2) _ Tryd.underlying25 rfl (size25i m) (iv m) rfl ?_)
            | (with_reducible refine wpList_ranW (o := ⟨some 68, .binOp .neq _ _ _ _, _, _, _, _⟩) (by with_unfolding_all rfl) (.bool true) wr (by rw [← HN.out]; exact exec_ne25 rfl rfl rfl) ?_)
            | (with_reducible refine wpList_loadsW (o := ⟨some 72, .load 25 (.tmp 2), _, _, _, _⟩) (by with_unfolding_all rfl) 25 (.tmp 2) rfl b2 0 _ rfl (Cells.of_holds HQ.out.2.1) _ Tryd.underlying25 rfl (size25i x) (iv x) rfl ?_)
            | (with_reducible refine wpList_loadsW (o := ⟨some 73, .load 25 (.tmp 3), _, _, _, _⟩) (by with_unfolding_all rfl) 25 (.tmp 3) rfl b3 0 _ rfl (Cells.of_holds HQ.out.2.2) _ Tryd.underlying25 rfl (size25i m) (iv m) rfl ?_)
            | (with_reducible refine wpList_ranW (o := ⟨some 74, .binOp .neq _ _ _ _, _, _, _, _⟩) (by with_unfolding_all rfl) (.bool true) wr (by rw [← HN.out]; exact exec_ne25 rfl rfl rfl) ?_))
          go_ret
          exact ⟨rfl, HQ.out.1⟩
end Go.Proofs.YtdolihecjomjiaaDoor
