/-
  What the power takes is told, and nothing behind it: the walk. My own work.
-/
import Derived.Test.YtpdpahkhfilmpaaLose
namespace Go.Proofs.Ytpdpahkhfilmpaa
open Go.RowKit
set_option maxRecDepth 1000000 in
set_option maxHeartbeats 8000000 in
theorem loses_w (A : Option Addr) (n c : Nat) (x : Nat) (hx : x < 256) (w : World) (hn : n ≤ c) (hc : c ≤ maxLen) (hA : Acts w A n) :
    Calls Try.prog 8 #[.slice A n c, .int .u8 (x : Int)] w fun e w' => e = .returned (.bool true) ∧ Mod [] w w' := by
  have HA := Lib.hid hA
  clear hA
  have hwf : (Lit.int .i64 (x : Int)).wf = true := by simp [Lit.wf, IntKind.min, IntKind.max, IntKind.signed, IntKind.bits]; omega
  have ef : (St.new 5).arm (x : Int) = (0, { St.new 5 with armed := (x : Int) }) := rfl
  replace ef := Lib.hid ef
  have hmaxx : maxLen ≤ 9223372036854775807 := by decide
  go_enter Try.func8, Try.ntmps8
  go_wp2_with fail
  refine (wakes_c _).mono ?_
  rintro e w1 ⟨rfl, m1⟩
  go_wp2_with fail
  refine (blank_c _).mono ?_
  rintro e w2 ⟨g, m, rfl, D1, m2, og, om⟩
  go_wp2_with fail
  refine (blank_c _).mono ?_
  rintro e w3 ⟨g', m', rfl, D2, m3, og', om'⟩
  have F1 : Far w w3 g m none 0 (St.new 5) := ⟨D1.keep m3 (by simp) (by simp) (by simp), (m1.then m2).then m3, Nat.le_trans m1.size og, Nat.le_trans m1.size om, fun a ha => by cases ha⟩
  have F2 : Far w w3 g' m' none 0 (St.new 5) := ⟨D2, (m1.then m2).then m3, Nat.le_trans (m1.then m2).size og', Nat.le_trans (m1.then m2).size om', fun a ha => by cases ha⟩
  have n1 : g ≠ g' := by have := D1.blk.lt; omega
  have n2 : m ≠ m' := by have := D1.firm.lt; omega
  have T0 : Two w w3 g m none 0 (St.new 5) g' m' none 0 (St.new 5) := ⟨F1, F2, n1, n2, fun a a' h _ => by cases h⟩
  clear D1 D2 F1 F2 og om og' om' m1 m2 m3
  go_wp2_with fail
  have X := two_arm T0 (x : Int) hwf
  rw [ef.out] at X
  refine X.mono ?_
  clear X T0
  rintro e w4 ⟨rfl, T1, _⟩
  go_wp2_with fail
  refine (few_c A n c _ hn hc).mono ?_
  rintro e w5 ⟨rfl, rfl⟩
  go_wp2_with fail
  have HM := Lib.hid (And.intro hmaxx (And.intro hc hx))
  clear hwf ef hx
  obtain ⟨N, hN⟩ : ∃ N, N = min n 60 := ⟨_, rfl⟩
  have hNn : N ≤ n := by omega
  have hN60 : N ≤ 60 := by omega
  rw [← hN]
  clear hN
  go_loopw [48, 7] (fun i lf wi => ∃ (k : Nat) (l : Int), k ≤ N ∧ i = .int .i64 (k : Int) ∧ lf = .int .i64 l ∧ l < 256 ∧ ∃ A1 c1 S A2 c2 T, Two w wi g m A1 c1 S g' m' A2 c2 T ∧ Lose l S T ∧ T.ops ≤ k) (fun i _ _ => N - (intOf i).toNat)
  case atStart => exact ⟨0, x, by omega, rfl, rfl, by have := HM.out.2.2; omega, none, 0, _, none, 0, _, T1, lose_start x, by exact Nat.le_refl _⟩
  case round =>
    clear T1
    obtain ⟨k, l, hk, rfl, rfl, hl1, A1, c1, S, A2, c2, T, TW, MI, hops⟩ := hrel
    by_cases hkn : k < N
    · have hkZ : (k : Int) < (N : Int) := by omega
      obtain ⟨ga, oa, kd, a, K, ck, rfl, hca, hkind, _, _, _, _, _⟩ := HA.out k (by omega)
      replace hca := hca.keep TW.L.mm (by simp)
      go_wp2_with (first
        | (with_reducible refine wpList_loads (o := ⟨some 51, .load 49 (.tmp 50), _, _, _, _⟩) rfl 49 (.tmp 50) rfl ga (oa + k * 5) _ rfl hca _ Try.underlying49 rfl (by rw [dv_length]; exact size49) (.agg (dv kd a K ck).toArray) rfl ?_)
        | (with_reducible refine wpList_allocs (o := ⟨some 9, .alloc 49, _, _, _, _⟩) rfl 49 rfl _ zero49 ?_; intro wa hba ma za; replace za := Lib.hid za)
        | (with_reducible refine wpList_storesAll (o := ⟨none, .store 49 (.tmp 9) (.tmp 51), _, _, _, _⟩) rfl 49 (.tmp 9) (.tmp 51) rfl rfl wr.heap.size (dv kd a K ck) rfl (.agg (dv kd a K ck).toArray) rfl rfl 49 _ hba rfl (dv_one kd a K ck) (by rw [dv_length]; exact size49) ?_; intro wb hbb mb zb; replace zb := Lib.hid zb
           have mx : Mod [] wr wb := ma.trans mb (fun i hi h => by simp at h; omega)
           replace TW := TW.keep mx
           clear mx hba mb zb za ma hca)
        | (with_reducible refine wpList_loads (o := ⟨some 52, .load 49 (.tmp 9), _, _, _, _⟩) rfl 49 (.tmp 9) rfl wr.heap.size 0 _ rfl (Cells.of_holds hbb) _ Try.underlying49 rfl (by rw [dv_length]; exact size49) (.agg (dv kd a K ck).toArray) rfl ?_))
      refine (asks_c kd a K ck _ hkind).mono ?_
      rintro e wc ⟨rfl, mc⟩
      replace TW := TW.keep mc
      replace hbb := hbb.keep mc (by simp)
      obtain ⟨b9, e9⟩ : ∃ b, b = wr.heap.size := ⟨_, rfl⟩
      rw [← e9] at hbb ⊢
      clear mc e9
      have MS := fun h3 => MI.step a h3
      have hl0 : 0 ≤ l := MI.left
      by_cases hk3 : a.kind < 3
      · obtain ⟨M1, M2, M3⟩ := MS hk3
        clear MS
        have hd3 : decide (a.kind < 3) = true := decide_eq_true hk3
        rw [hd3]
        go_wp2_with (first
          | (with_reducible refine wpList_loads (o := ⟨some 55, .load 49 (.tmp 9), _, _, _, _⟩) rfl 49 (.tmp 9) rfl b9 0 _ rfl (Cells.of_holds hbb) _ Try.underlying49 rfl (by rw [dv_length]; exact size49) (.agg (dv kd a K ck).toArray) rfl ?_))
        refine (kind_c kd a K ck _ hkind).mono ?_
        rintro e wd ⟨rfl, md⟩
        replace TW := TW.keep md
        replace hbb := hbb.keep md (by simp)
        clear md
        by_cases hkp : a.kind = 0
        · have hkz : (a.kind : Int) = 0 := by omega
          rw [hkz]
          obtain ⟨B, E, d', t', q1, q2, MI'⟩ := M1 (fun h => by omega)
          have hto : t'.ops ≤ k + 1 := by have := ops_step T a hk3; rw [q2] at this; exact Nat.le_trans this (by omega)
          have eO : d'.ops = t'.ops := MI'.ops
          have eD : d'.dead = false := MI'.dd
          have X := fun v (D : DAt v g m A1 c1 S) => act3_c S g m A1 c1 kd a K ck v D hkind hk3 (by have := MI.ops; omega)
          have Y := fun v (D : DAt v g' m' A2 c2 T) => act3_c T g' m' A2 c2 kd a K ck v D hkind hk3 (by omega)
          rw [q1] at X
          rw [q2] at Y
          have HE := Lib.hid (And.intro eO eD)
          clear eO eD M1 M2 M3
          go_wp2_with (first
            | (with_reducible refine wpList_loads (o := ⟨some 142, .load 49 (.tmp 9), _, _, _, _⟩) rfl 49 (.tmp 9) rfl b9 0 _ rfl (Cells.of_holds hbb) _ Try.underlying49 rfl (by rw [dv_length]; exact size49) (.agg (dv kd a K ck).toArray) rfl ?_))
          refine (X _ TW.L.D).mono ?_
          clear X
          rintro e wf ⟨rfl, A3, c3, Dd, did⟩
          obtain ⟨TW2, kp⟩ := TW.did Dd did
          replace hbb := kp _ _ _ (by decide) (by decide) hbb
          clear TW kp Dd did
          go_wp2_with (first
            | (with_reducible refine wpList_allocs (o := ⟨some 21, .alloc 39, _, _, _, _⟩) rfl 39 rfl _ zero39 ?_; intro wA21 hA21 mA21 zA21; replace zA21 := Lib.hid zA21)
            | (with_reducible refine wpList_storesAll (o := ⟨none, .store 39 (.tmp 21) (.tmp 145), _, _, _, _⟩) rfl 39 (.tmp 21) (.tmp 145) rfl rfl wf.heap.size (bc B) rfl (bv B) rfl rfl 39 _ hA21 (by simp only [bc_length]) (bc_one _) (by rw [bc_length]; exact size39) ?_; intro wB21 hbf mB21 zB21; replace zB21 := Lib.hid zB21
               have mx : Mod [] wf wB21 := mA21.trans mB21 (fun i hi h => by simp at h; omega)
               replace TW2 := TW2.keep mx
               replace hbb := hbb.keep mx (by simp)
               clear mx hA21 mB21 zB21 zA21 mA21)
            | (with_reducible refine wpList_loads (o := ⟨some 149, .load 49 (.tmp 9), _, _, _, _⟩) rfl 49 (.tmp 9) rfl b9 0 _ rfl (Cells.of_holds hbb) _ Try.underlying49 rfl (by rw [dv_length]; exact size49) (.agg (dv kd a K ck).toArray) rfl ?_))
          refine (Y _ TW2.R.D).mono ?_
          clear Y
          rintro e wg ⟨rfl, A4, c4, Dd, did⟩
          obtain ⟨TW3, kp⟩ := TW2.swap.did Dd did
          replace TW3 := TW3.swap
          replace hbf := kp _ _ _ (by decide) (by decide) hbf
          obtain ⟨b21, e21⟩ : ∃ b, b = wf.heap.size := ⟨_, rfl⟩
          rw [← e21] at hbf ⊢
          clear TW2 kp Dd did hbb e21
          go_wp2_with (first
            | (with_reducible refine wpList_allocs (o := ⟨some 24, .alloc 39, _, _, _, _⟩) rfl 39 rfl _ zero39 ?_; intro wA24 hA24 mA24 zA24; replace zA24 := Lib.hid zA24)
            | (with_reducible refine wpList_storesAll (o := ⟨none, .store 39 (.tmp 24) (.tmp 152), _, _, _, _⟩) rfl 39 (.tmp 24) (.tmp 152) rfl rfl wg.heap.size (bc B) rfl (bv B) rfl rfl 39 _ hA24 (by simp only [bc_length]) (bc_one _) (by rw [bc_length]; exact size39) ?_; intro wB24 hbk mB24 zB24; replace zB24 := Lib.hid zB24
               have mx : Mod [] wg wB24 := mA24.trans mB24 (fun i hi h => by simp at h; omega)
               replace TW3 := TW3.keep mx
               replace hbf := hbf.keep mx (by simp)
               clear mx hA24 mB24 zB24 zA24 mA24)
            | (with_reducible refine wpList_loads (o := ⟨some 154, .load 39 (.tmp 21), _, _, _, _⟩) rfl 39 (.tmp 21) rfl b21 0 _ rfl (Cells.of_holds hbf) _ Try.underlying39 rfl (by rw [bc_length]; exact size39) (bv B) rfl ?_)
            | (with_reducible refine wpList_loads (o := ⟨some 155, .load 39 (.tmp 24), _, _, _, _⟩) rfl 39 (.tmp 24) rfl wg.heap.size 0 _ rfl (Cells.of_holds hbk) _ Try.underlying39 rfl (by rw [bc_length]; exact size39) (bv B) rfl ?_)
            | (with_reducible refine wpList_ranW (o := ⟨some 156, .binOp .neq 39 (.tmp 154) (.tmp 155) 39, _, _, _, _⟩) (by with_unfolding_all rfl) (.bool false) _ (exec_neq39 (b := B) rfl rfl rfl) ?_))
          have o1 := (dc_cells TW3.L.D.blk).2.2.2.2.2.2
          have o2 := (dc_cells TW3.R.D.blk).2.2.2.2.2.2
          have o3 := (dc_cells TW3.L.D.blk).2.2.2.1
          rw [HE.out.1] at o1
          rw [HE.out.2] at o3
          refine (dead_c g _ _ o3).mono ?_
          rintro e wo ⟨rfl, rfl⟩
          go_wp2_with fail
          refine (ops_c g _ _ o1).mono ?_
          rintro e wp ⟨rfl, rfl⟩
          go_wp2_with fail
          refine (ops_c g' _ _ o2).mono ?_
          rintro e wq ⟨rfl, rfl⟩
          go_wp2_with fail
          exact ⟨⟨k + 1, l, by omega, by go_num, by go_num, by omega, A3, c3, d', A4, c4, t', TW3, MI', hto⟩, by simp [intOf]; omega⟩
        · obtain hkq | hkq : (a.kind : Int) = 1 ∨ (a.kind : Int) = 2 := by omega
          · rw [hkq]
            by_cases hP : a.kind = 2 ∨ 0 ≤ a.at_ ∧ a.at_ < 5
            · have hdP : decide (a.kind = 2 ∨ 0 ≤ a.at_ ∧ a.at_ < 5) = true := decide_eq_true hP
              go_wp2_with (first
                | (with_reducible refine wpList_loadsW (o := ⟨some 59, .load 49 (.tmp 9), _, _, _, _⟩) (by with_unfolding_all rfl) 49 (.tmp 9) rfl b9 0 _ rfl (Cells.of_holds hbb) _ Try.underlying49 rfl (by rw [dv_length]; exact size49) (.agg (dv kd a K ck).toArray) rfl ?_))
              refine (there_c kd a K ck _ hkind).mono ?_
              rw [hdP]
              rintro e we ⟨rfl, me⟩
              replace TW := TW.keep me
              replace hbb := hbb.keep me (by simp)
              clear me
              by_cases hl : l = 0
              · skip
                obtain ⟨d', q1, z1, z2, z3⟩ := M3 ⟨by omega, hP⟩ hl
                clear M1 M2 M3
                have q2 := dead_act d' z1 a hk3
                have q3 := dead_read d' z1 0
                have q4 := dead_arm d' z1 3
                have q5 := dead_fail d' z1 3
                have z4 : d'.ops + 1 ≤ 1099511627776 := by omega
                have w3 : (Lit.int .i64 (3 : Int)).wf = true := by decide
                have X := fun v (D : DAt v g m A1 c1 S) => act3_c S g m A1 c1 kd a K ck v D hkind hk3 (by have := MI.ops; omega)
                rw [q1] at X
                have X2 := fun v A3 c3 (D : DAt v g m A3 c3 d') => act3_c d' g m A3 c3 kd a K ck v D hkind hk3 z4
                rw [q2] at X2
                subst hl
                have HE := Lib.hid (And.intro z1 (And.intro z2 (And.intro z3 (And.intro q3 (And.intro q4 (And.intro q5 (And.intro z4 w3)))))))
                clear z1 z2 z3 q1 q2 q3 q4 q5 z4 w3 MI
                go_wp2_with fail
                refine (pending_c T g' m' A2 c2 T.loose.length _ TW.R.D rfl).mono ?_
                rintro e wf ⟨gp, rfl, _, mf, _⟩
                replace TW := TW.keep mf
                replace hbb := hbb.keep mf (by simp)
                clear mf
                go_wp2_with (first
                  | (with_reducible refine wpList_loads (o := ⟨some 71, .load 49 (.tmp 9), _, _, _, _⟩) rfl 49 (.tmp 9) rfl b9 0 _ rfl (Cells.of_holds hbb) _ Try.underlying49 rfl (by rw [dv_length]; exact size49) (.agg (dv kd a K ck).toArray) rfl ?_))
                refine (X _ TW.L.D).mono ?_
                clear X
                rintro e wg ⟨rfl, A3, c3, Dd, did⟩
                obtain ⟨TW2, kp⟩ := TW.did Dd did
                replace hbb := kp _ _ _ (by decide) (by decide) hbb
                clear TW kp Dd did
                go_wp2_with (first
                  | (with_reducible refine wpList_allocs (o := ⟨some 13, .alloc 39, _, _, _, _⟩) rfl 39 rfl _ zero39 ?_; intro wA13 hA13 mA13 zA13; replace zA13 := Lib.hid zA13)
                  | (with_reducible refine wpList_storesAll (o := ⟨none, .store 39 (.tmp 13) (.tmp 74), _, _, _, _⟩) rfl 39 (.tmp 13) (.tmp 74) rfl rfl wg.heap.size (bc (fil 0)) rfl (bv (fil 0)) rfl rfl 39 _ hA13 (by simp only [bc_length]) (bc_one _) (by rw [bc_length]; exact size39) ?_; intro wB13 hbf mB13 zB13; replace zB13 := Lib.hid zB13
                     have mx : Mod [] wg wB13 := mA13.trans mB13 (fun i hi h => by simp at h; omega)
                     replace TW2 := TW2.keep mx
                     replace hbb := hbb.keep mx (by simp)
                     clear mx hA13 mB13 zB13 zA13 mA13))
                have o1 := (dc_cells TW2.L.D.blk).2.2.2.2.2.2
                have o2 := (dc_cells TW2.R.D.blk).2.2.2.2.2.2
                have o3 := (dc_cells TW2.L.D.blk).2.2.2.1
                rw [HE.out.2.1] at o1
                rw [HE.out.1] at o3
                refine (dead_c g _ _ o3).mono ?_
                rintro e wo ⟨rfl, rfl⟩
                go_wp2_with fail
                refine (ops_c g _ _ o1).mono ?_
                rintro e wo ⟨rfl, rfl⟩
                go_wp2_with fail
                refine (ops_c g' _ _ o2).mono ?_
                rintro e wo ⟨rfl, rfl⟩
                clear o1 o2 o3
                go_wp2_with fail
                refine (pending_c d' g m A3 c3 T.loose.length _ TW2.L.D (by rw [HE.out.2.2.1])).mono ?_
                rintro e wh ⟨gq, rfl, _, mh, _⟩
                replace TW2 := TW2.keep mh
                replace hbb := hbb.keep mh (by simp)
                clear mh hbf
                go_wp2_with (first
                  | (with_reducible refine wpList_loads (o := ⟨some 100, .load 49 (.tmp 9), _, _, _, _⟩) rfl 49 (.tmp 9) rfl b9 0 _ rfl (Cells.of_holds hbb) _ Try.underlying49 rfl (by rw [dv_length]; exact size49) (.agg (dv kd a K ck).toArray) rfl ?_))
                refine (X2 _ _ _ TW2.L.D).mono ?_
                clear X2
                rintro e wi ⟨rfl, A5, c5, Dd, did⟩
                obtain ⟨TW3, kp⟩ := TW2.did Dd did
                clear TW2 kp Dd did hbb
                go_wp2_with (first
                  | (with_reducible refine wpList_allocs (o := ⟨some 16, .alloc 39, _, _, _, _⟩) rfl 39 rfl _ zero39 ?_; intro wA16 hA16 mA16 zA16; replace zA16 := Lib.hid zA16)
                  | (with_reducible refine wpList_storesAll (o := ⟨none, .store 39 (.tmp 16) (.tmp 103), _, _, _, _⟩) rfl 39 (.tmp 16) (.tmp 103) rfl rfl wi.heap.size (bc (fil 0)) rfl (bv (fil 0)) rfl rfl 39 _ hA16 (by simp only [bc_length]) (bc_one _) (by rw [bc_length]; exact size39) ?_; intro wB16 hbf mB16 zB16; replace zB16 := Lib.hid zB16
                     have mx : Mod [] wi wB16 := mA16.trans mB16 (fun i hi h => by simp at h; omega)
                     replace TW3 := TW3.keep mx
                     clear mx hA16 mB16 zB16 zA16 mA16))
                have X := two_read TW3 0 HE.out.2.2.2.2.2.2.1
                rw [HE.out.2.2.2.1] at X
                refine X.mono ?_
                clear X TW3 hbf
                rintro e wj ⟨rfl, TW4, _⟩
                go_wp2_with (first
                  | (with_reducible refine wpList_allocs (o := ⟨some 18, .alloc 39, _, _, _, _⟩) rfl 39 rfl _ zero39 ?_; intro wA18 hA18 mA18 zA18; replace zA18 := Lib.hid zA18)
                  | (with_reducible refine wpList_storesAll (o := ⟨none, .store 39 (.tmp 18) (.tmp 108), _, _, _, _⟩) rfl 39 (.tmp 18) (.tmp 108) rfl rfl wj.heap.size (bc (fil 0)) rfl (bv (fil 0)) rfl rfl 39 _ hA18 (by simp only [bc_length]) (bc_one _) (by rw [bc_length]; exact size39) ?_; intro wB18 hbf mB18 zB18; replace zB18 := Lib.hid zB18
                     have mx : Mod [] wj wB18 := mA18.trans mB18 (fun i hi h => by simp at h; omega)
                     replace TW4 := TW4.keep mx
                     clear mx hA18 mB18 zB18 zA18 mA18))
                have X := two_arm TW4 3 HE.out.2.2.2.2.2.2.2
                rw [HE.out.2.2.2.2.1] at X
                refine X.mono ?_
                clear X TW4 hbf
                rintro e wl ⟨rfl, TW5, _⟩
                go_wp2_with fail
                have X := two_fail TW5 3 HE.out.2.2.2.2.2.2.2
                rw [HE.out.2.2.2.2.2.1] at X
                refine X.mono ?_
                clear X TW5
                rintro e wm ⟨rfl, TW6, _⟩
                go_wp2_with fail
                have o1 := (dc_cells TW6.L.D.blk).2.2.2.2.2.2
                have o2 := (dc_cells TW6.R.D.blk).2.2.2.2.2.2
                have o3 := (dc_cells TW6.L.D.blk).2.2.2.1
                rw [HE.out.2.1] at o1
                rw [HE.out.1] at o3
                refine (dead_c g _ _ o3).mono ?_
                rintro e wo ⟨rfl, rfl⟩
                go_wp2_with fail
                refine (ops_c g _ _ o1).mono ?_
                rintro e wo ⟨rfl, rfl⟩
                go_wp2_with fail
                refine (ops_c g' _ _ o2).mono ?_
                rintro e wo ⟨rfl, rfl⟩
                go_wp2_with fail
                go_ret
                exact ⟨rfl, TW6.L.mm⟩
              · obtain ⟨B, E, d', t', q1, q2, MI'⟩ := M2 ⟨by omega, hP⟩ hl
                have hto : t'.ops ≤ k + 1 := by have := ops_step T a hk3; rw [q2] at this; exact Nat.le_trans this (by omega)
                have eO : d'.ops = t'.ops := MI'.ops
                have eD : d'.dead = false := MI'.dd
                have X := fun v (D : DAt v g m A1 c1 S) => act3_c S g m A1 c1 kd a K ck v D hkind hk3 (by have := MI.ops; omega)
                have Y := fun v (D : DAt v g' m' A2 c2 T) => act3_c T g' m' A2 c2 kd a K ck v D hkind hk3 (by omega)
                rw [q1] at X
                rw [q2] at Y
                have HE := Lib.hid (And.intro eO eD)
                clear eO eD M1 M2 M3
                go_wp2_with (first
                  | (with_reducible refine wpList_loads (o := ⟨some 142, .load 49 (.tmp 9), _, _, _, _⟩) rfl 49 (.tmp 9) rfl b9 0 _ rfl (Cells.of_holds hbb) _ Try.underlying49 rfl (by rw [dv_length]; exact size49) (.agg (dv kd a K ck).toArray) rfl ?_))
                refine (X _ TW.L.D).mono ?_
                clear X
                rintro e wf ⟨rfl, A3, c3, Dd, did⟩
                obtain ⟨TW2, kp⟩ := TW.did Dd did
                replace hbb := kp _ _ _ (by decide) (by decide) hbb
                clear TW kp Dd did
                go_wp2_with (first
                  | (with_reducible refine wpList_allocs (o := ⟨some 21, .alloc 39, _, _, _, _⟩) rfl 39 rfl _ zero39 ?_; intro wA21 hA21 mA21 zA21; replace zA21 := Lib.hid zA21)
                  | (with_reducible refine wpList_storesAll (o := ⟨none, .store 39 (.tmp 21) (.tmp 145), _, _, _, _⟩) rfl 39 (.tmp 21) (.tmp 145) rfl rfl wf.heap.size (bc B) rfl (bv B) rfl rfl 39 _ hA21 (by simp only [bc_length]) (bc_one _) (by rw [bc_length]; exact size39) ?_; intro wB21 hbf mB21 zB21; replace zB21 := Lib.hid zB21
                     have mx : Mod [] wf wB21 := mA21.trans mB21 (fun i hi h => by simp at h; omega)
                     replace TW2 := TW2.keep mx
                     replace hbb := hbb.keep mx (by simp)
                     clear mx hA21 mB21 zB21 zA21 mA21)
                  | (with_reducible refine wpList_loads (o := ⟨some 149, .load 49 (.tmp 9), _, _, _, _⟩) rfl 49 (.tmp 9) rfl b9 0 _ rfl (Cells.of_holds hbb) _ Try.underlying49 rfl (by rw [dv_length]; exact size49) (.agg (dv kd a K ck).toArray) rfl ?_))
                refine (Y _ TW2.R.D).mono ?_
                clear Y
                rintro e wg ⟨rfl, A4, c4, Dd, did⟩
                obtain ⟨TW3, kp⟩ := TW2.swap.did Dd did
                replace TW3 := TW3.swap
                replace hbf := kp _ _ _ (by decide) (by decide) hbf
                obtain ⟨b21, e21⟩ : ∃ b, b = wf.heap.size := ⟨_, rfl⟩
                rw [← e21] at hbf ⊢
                clear TW2 kp Dd did hbb e21
                go_wp2_with (first
                  | (with_reducible refine wpList_allocs (o := ⟨some 24, .alloc 39, _, _, _, _⟩) rfl 39 rfl _ zero39 ?_; intro wA24 hA24 mA24 zA24; replace zA24 := Lib.hid zA24)
                  | (with_reducible refine wpList_storesAll (o := ⟨none, .store 39 (.tmp 24) (.tmp 152), _, _, _, _⟩) rfl 39 (.tmp 24) (.tmp 152) rfl rfl wg.heap.size (bc B) rfl (bv B) rfl rfl 39 _ hA24 (by simp only [bc_length]) (bc_one _) (by rw [bc_length]; exact size39) ?_; intro wB24 hbk mB24 zB24; replace zB24 := Lib.hid zB24
                     have mx : Mod [] wg wB24 := mA24.trans mB24 (fun i hi h => by simp at h; omega)
                     replace TW3 := TW3.keep mx
                     replace hbf := hbf.keep mx (by simp)
                     clear mx hA24 mB24 zB24 zA24 mA24)
                  | (with_reducible refine wpList_loads (o := ⟨some 154, .load 39 (.tmp 21), _, _, _, _⟩) rfl 39 (.tmp 21) rfl b21 0 _ rfl (Cells.of_holds hbf) _ Try.underlying39 rfl (by rw [bc_length]; exact size39) (bv B) rfl ?_)
                  | (with_reducible refine wpList_loads (o := ⟨some 155, .load 39 (.tmp 24), _, _, _, _⟩) rfl 39 (.tmp 24) rfl wg.heap.size 0 _ rfl (Cells.of_holds hbk) _ Try.underlying39 rfl (by rw [bc_length]; exact size39) (bv B) rfl ?_)
                  | (with_reducible refine wpList_ranW (o := ⟨some 156, .binOp .neq 39 (.tmp 154) (.tmp 155) 39, _, _, _, _⟩) (by with_unfolding_all rfl) (.bool false) _ (exec_neq39 (b := B) rfl rfl rfl) ?_))
                have o1 := (dc_cells TW3.L.D.blk).2.2.2.2.2.2
                have o2 := (dc_cells TW3.R.D.blk).2.2.2.2.2.2
                have o3 := (dc_cells TW3.L.D.blk).2.2.2.1
                rw [HE.out.1] at o1
                rw [HE.out.2] at o3
                refine (dead_c g _ _ o3).mono ?_
                rintro e wo ⟨rfl, rfl⟩
                go_wp2_with fail
                refine (ops_c g _ _ o1).mono ?_
                rintro e wp ⟨rfl, rfl⟩
                go_wp2_with fail
                refine (ops_c g' _ _ o2).mono ?_
                rintro e wq ⟨rfl, rfl⟩
                go_wp2_with fail
                exact ⟨⟨k + 1, l - 1, by omega, by go_num, by go_num, by omega, A3, c3, d', A4, c4, t', TW3, MI', hto⟩, by simp [intOf]; omega⟩
            · have hdP : decide (a.kind = 2 ∨ 0 ≤ a.at_ ∧ a.at_ < 5) = false := decide_eq_false hP
              go_wp2_with (first
                | (with_reducible refine wpList_loadsW (o := ⟨some 59, .load 49 (.tmp 9), _, _, _, _⟩) (by with_unfolding_all rfl) 49 (.tmp 9) rfl b9 0 _ rfl (Cells.of_holds hbb) _ Try.underlying49 rfl (by rw [dv_length]; exact size49) (.agg (dv kd a K ck).toArray) rfl ?_))
              refine (there_c kd a K ck _ hkind).mono ?_
              rw [hdP]
              rintro e we ⟨rfl, me⟩
              replace TW := TW.keep me
              replace hbb := hbb.keep me (by simp)
              clear me
              obtain ⟨B, E, d', t', q1, q2, MI'⟩ := M1 (fun h => hP h.2)
              have hto : t'.ops ≤ k + 1 := by have := ops_step T a hk3; rw [q2] at this; exact Nat.le_trans this (by omega)
              have eO : d'.ops = t'.ops := MI'.ops
              have eD : d'.dead = false := MI'.dd
              have X := fun v (D : DAt v g m A1 c1 S) => act3_c S g m A1 c1 kd a K ck v D hkind hk3 (by have := MI.ops; omega)
              have Y := fun v (D : DAt v g' m' A2 c2 T) => act3_c T g' m' A2 c2 kd a K ck v D hkind hk3 (by omega)
              rw [q1] at X
              rw [q2] at Y
              have HE := Lib.hid (And.intro eO eD)
              clear eO eD M1 M2 M3
              go_wp2_with (first
                | (with_reducible refine wpList_loads (o := ⟨some 142, .load 49 (.tmp 9), _, _, _, _⟩) rfl 49 (.tmp 9) rfl b9 0 _ rfl (Cells.of_holds hbb) _ Try.underlying49 rfl (by rw [dv_length]; exact size49) (.agg (dv kd a K ck).toArray) rfl ?_))
              refine (X _ TW.L.D).mono ?_
              clear X
              rintro e wf ⟨rfl, A3, c3, Dd, did⟩
              obtain ⟨TW2, kp⟩ := TW.did Dd did
              replace hbb := kp _ _ _ (by decide) (by decide) hbb
              clear TW kp Dd did
              go_wp2_with (first
                | (with_reducible refine wpList_allocs (o := ⟨some 21, .alloc 39, _, _, _, _⟩) rfl 39 rfl _ zero39 ?_; intro wA21 hA21 mA21 zA21; replace zA21 := Lib.hid zA21)
                | (with_reducible refine wpList_storesAll (o := ⟨none, .store 39 (.tmp 21) (.tmp 145), _, _, _, _⟩) rfl 39 (.tmp 21) (.tmp 145) rfl rfl wf.heap.size (bc B) rfl (bv B) rfl rfl 39 _ hA21 (by simp only [bc_length]) (bc_one _) (by rw [bc_length]; exact size39) ?_; intro wB21 hbf mB21 zB21; replace zB21 := Lib.hid zB21
                   have mx : Mod [] wf wB21 := mA21.trans mB21 (fun i hi h => by simp at h; omega)
                   replace TW2 := TW2.keep mx
                   replace hbb := hbb.keep mx (by simp)
                   clear mx hA21 mB21 zB21 zA21 mA21)
                | (with_reducible refine wpList_loads (o := ⟨some 149, .load 49 (.tmp 9), _, _, _, _⟩) rfl 49 (.tmp 9) rfl b9 0 _ rfl (Cells.of_holds hbb) _ Try.underlying49 rfl (by rw [dv_length]; exact size49) (.agg (dv kd a K ck).toArray) rfl ?_))
              refine (Y _ TW2.R.D).mono ?_
              clear Y
              rintro e wg ⟨rfl, A4, c4, Dd, did⟩
              obtain ⟨TW3, kp⟩ := TW2.swap.did Dd did
              replace TW3 := TW3.swap
              replace hbf := kp _ _ _ (by decide) (by decide) hbf
              obtain ⟨b21, e21⟩ : ∃ b, b = wf.heap.size := ⟨_, rfl⟩
              rw [← e21] at hbf ⊢
              clear TW2 kp Dd did hbb e21
              go_wp2_with (first
                | (with_reducible refine wpList_allocs (o := ⟨some 24, .alloc 39, _, _, _, _⟩) rfl 39 rfl _ zero39 ?_; intro wA24 hA24 mA24 zA24; replace zA24 := Lib.hid zA24)
                | (with_reducible refine wpList_storesAll (o := ⟨none, .store 39 (.tmp 24) (.tmp 152), _, _, _, _⟩) rfl 39 (.tmp 24) (.tmp 152) rfl rfl wg.heap.size (bc B) rfl (bv B) rfl rfl 39 _ hA24 (by simp only [bc_length]) (bc_one _) (by rw [bc_length]; exact size39) ?_; intro wB24 hbk mB24 zB24; replace zB24 := Lib.hid zB24
                   have mx : Mod [] wg wB24 := mA24.trans mB24 (fun i hi h => by simp at h; omega)
                   replace TW3 := TW3.keep mx
                   replace hbf := hbf.keep mx (by simp)
                   clear mx hA24 mB24 zB24 zA24 mA24)
                | (with_reducible refine wpList_loads (o := ⟨some 154, .load 39 (.tmp 21), _, _, _, _⟩) rfl 39 (.tmp 21) rfl b21 0 _ rfl (Cells.of_holds hbf) _ Try.underlying39 rfl (by rw [bc_length]; exact size39) (bv B) rfl ?_)
                | (with_reducible refine wpList_loads (o := ⟨some 155, .load 39 (.tmp 24), _, _, _, _⟩) rfl 39 (.tmp 24) rfl wg.heap.size 0 _ rfl (Cells.of_holds hbk) _ Try.underlying39 rfl (by rw [bc_length]; exact size39) (bv B) rfl ?_)
                | (with_reducible refine wpList_ranW (o := ⟨some 156, .binOp .neq 39 (.tmp 154) (.tmp 155) 39, _, _, _, _⟩) (by with_unfolding_all rfl) (.bool false) _ (exec_neq39 (b := B) rfl rfl rfl) ?_))
              have o1 := (dc_cells TW3.L.D.blk).2.2.2.2.2.2
              have o2 := (dc_cells TW3.R.D.blk).2.2.2.2.2.2
              have o3 := (dc_cells TW3.L.D.blk).2.2.2.1
              rw [HE.out.1] at o1
              rw [HE.out.2] at o3
              refine (dead_c g _ _ o3).mono ?_
              rintro e wo ⟨rfl, rfl⟩
              go_wp2_with fail
              refine (ops_c g _ _ o1).mono ?_
              rintro e wp ⟨rfl, rfl⟩
              go_wp2_with fail
              refine (ops_c g' _ _ o2).mono ?_
              rintro e wq ⟨rfl, rfl⟩
              go_wp2_with fail
              exact ⟨⟨k + 1, l, by omega, by go_num, by go_num, by omega, A3, c3, d', A4, c4, t', TW3, MI', hto⟩, by simp [intOf]; omega⟩
          · rw [hkq]
            by_cases hP : a.kind = 2 ∨ 0 ≤ a.at_ ∧ a.at_ < 5
            · have hdP : decide (a.kind = 2 ∨ 0 ≤ a.at_ ∧ a.at_ < 5) = true := decide_eq_true hP
              go_wp2_with (first
                | (with_reducible refine wpList_loadsW (o := ⟨some 59, .load 49 (.tmp 9), _, _, _, _⟩) (by with_unfolding_all rfl) 49 (.tmp 9) rfl b9 0 _ rfl (Cells.of_holds hbb) _ Try.underlying49 rfl (by rw [dv_length]; exact size49) (.agg (dv kd a K ck).toArray) rfl ?_))
              refine (there_c kd a K ck _ hkind).mono ?_
              rw [hdP]
              rintro e we ⟨rfl, me⟩
              replace TW := TW.keep me
              replace hbb := hbb.keep me (by simp)
              clear me
              by_cases hl : l = 0
              · skip
                obtain ⟨d', q1, z1, z2, z3⟩ := M3 ⟨by omega, hP⟩ hl
                clear M1 M2 M3
                have q2 := dead_act d' z1 a hk3
                have q3 := dead_read d' z1 0
                have q4 := dead_arm d' z1 3
                have q5 := dead_fail d' z1 3
                have z4 : d'.ops + 1 ≤ 1099511627776 := by omega
                have w3 : (Lit.int .i64 (3 : Int)).wf = true := by decide
                have X := fun v (D : DAt v g m A1 c1 S) => act3_c S g m A1 c1 kd a K ck v D hkind hk3 (by have := MI.ops; omega)
                rw [q1] at X
                have X2 := fun v A3 c3 (D : DAt v g m A3 c3 d') => act3_c d' g m A3 c3 kd a K ck v D hkind hk3 z4
                rw [q2] at X2
                subst hl
                have HE := Lib.hid (And.intro z1 (And.intro z2 (And.intro z3 (And.intro q3 (And.intro q4 (And.intro q5 (And.intro z4 w3)))))))
                clear z1 z2 z3 q1 q2 q3 q4 q5 z4 w3 MI
                go_wp2_with fail
                refine (pending_c T g' m' A2 c2 T.loose.length _ TW.R.D rfl).mono ?_
                rintro e wf ⟨gp, rfl, _, mf, _⟩
                replace TW := TW.keep mf
                replace hbb := hbb.keep mf (by simp)
                clear mf
                go_wp2_with (first
                  | (with_reducible refine wpList_loads (o := ⟨some 71, .load 49 (.tmp 9), _, _, _, _⟩) rfl 49 (.tmp 9) rfl b9 0 _ rfl (Cells.of_holds hbb) _ Try.underlying49 rfl (by rw [dv_length]; exact size49) (.agg (dv kd a K ck).toArray) rfl ?_))
                refine (X _ TW.L.D).mono ?_
                clear X
                rintro e wg ⟨rfl, A3, c3, Dd, did⟩
                obtain ⟨TW2, kp⟩ := TW.did Dd did
                replace hbb := kp _ _ _ (by decide) (by decide) hbb
                clear TW kp Dd did
                go_wp2_with (first
                  | (with_reducible refine wpList_allocs (o := ⟨some 13, .alloc 39, _, _, _, _⟩) rfl 39 rfl _ zero39 ?_; intro wA13 hA13 mA13 zA13; replace zA13 := Lib.hid zA13)
                  | (with_reducible refine wpList_storesAll (o := ⟨none, .store 39 (.tmp 13) (.tmp 74), _, _, _, _⟩) rfl 39 (.tmp 13) (.tmp 74) rfl rfl wg.heap.size (bc (fil 0)) rfl (bv (fil 0)) rfl rfl 39 _ hA13 (by simp only [bc_length]) (bc_one _) (by rw [bc_length]; exact size39) ?_; intro wB13 hbf mB13 zB13; replace zB13 := Lib.hid zB13
                     have mx : Mod [] wg wB13 := mA13.trans mB13 (fun i hi h => by simp at h; omega)
                     replace TW2 := TW2.keep mx
                     replace hbb := hbb.keep mx (by simp)
                     clear mx hA13 mB13 zB13 zA13 mA13))
                have o1 := (dc_cells TW2.L.D.blk).2.2.2.2.2.2
                have o2 := (dc_cells TW2.R.D.blk).2.2.2.2.2.2
                have o3 := (dc_cells TW2.L.D.blk).2.2.2.1
                rw [HE.out.2.1] at o1
                rw [HE.out.1] at o3
                refine (dead_c g _ _ o3).mono ?_
                rintro e wo ⟨rfl, rfl⟩
                go_wp2_with fail
                refine (ops_c g _ _ o1).mono ?_
                rintro e wo ⟨rfl, rfl⟩
                go_wp2_with fail
                refine (ops_c g' _ _ o2).mono ?_
                rintro e wo ⟨rfl, rfl⟩
                clear o1 o2 o3
                go_wp2_with fail
                refine (pending_c d' g m A3 c3 T.loose.length _ TW2.L.D (by rw [HE.out.2.2.1])).mono ?_
                rintro e wh ⟨gq, rfl, _, mh, _⟩
                replace TW2 := TW2.keep mh
                replace hbb := hbb.keep mh (by simp)
                clear mh hbf
                go_wp2_with (first
                  | (with_reducible refine wpList_loads (o := ⟨some 100, .load 49 (.tmp 9), _, _, _, _⟩) rfl 49 (.tmp 9) rfl b9 0 _ rfl (Cells.of_holds hbb) _ Try.underlying49 rfl (by rw [dv_length]; exact size49) (.agg (dv kd a K ck).toArray) rfl ?_))
                refine (X2 _ _ _ TW2.L.D).mono ?_
                clear X2
                rintro e wi ⟨rfl, A5, c5, Dd, did⟩
                obtain ⟨TW3, kp⟩ := TW2.did Dd did
                clear TW2 kp Dd did hbb
                go_wp2_with (first
                  | (with_reducible refine wpList_allocs (o := ⟨some 16, .alloc 39, _, _, _, _⟩) rfl 39 rfl _ zero39 ?_; intro wA16 hA16 mA16 zA16; replace zA16 := Lib.hid zA16)
                  | (with_reducible refine wpList_storesAll (o := ⟨none, .store 39 (.tmp 16) (.tmp 103), _, _, _, _⟩) rfl 39 (.tmp 16) (.tmp 103) rfl rfl wi.heap.size (bc (fil 0)) rfl (bv (fil 0)) rfl rfl 39 _ hA16 (by simp only [bc_length]) (bc_one _) (by rw [bc_length]; exact size39) ?_; intro wB16 hbf mB16 zB16; replace zB16 := Lib.hid zB16
                     have mx : Mod [] wi wB16 := mA16.trans mB16 (fun i hi h => by simp at h; omega)
                     replace TW3 := TW3.keep mx
                     clear mx hA16 mB16 zB16 zA16 mA16))
                have X := two_read TW3 0 HE.out.2.2.2.2.2.2.1
                rw [HE.out.2.2.2.1] at X
                refine X.mono ?_
                clear X TW3 hbf
                rintro e wj ⟨rfl, TW4, _⟩
                go_wp2_with (first
                  | (with_reducible refine wpList_allocs (o := ⟨some 18, .alloc 39, _, _, _, _⟩) rfl 39 rfl _ zero39 ?_; intro wA18 hA18 mA18 zA18; replace zA18 := Lib.hid zA18)
                  | (with_reducible refine wpList_storesAll (o := ⟨none, .store 39 (.tmp 18) (.tmp 108), _, _, _, _⟩) rfl 39 (.tmp 18) (.tmp 108) rfl rfl wj.heap.size (bc (fil 0)) rfl (bv (fil 0)) rfl rfl 39 _ hA18 (by simp only [bc_length]) (bc_one _) (by rw [bc_length]; exact size39) ?_; intro wB18 hbf mB18 zB18; replace zB18 := Lib.hid zB18
                     have mx : Mod [] wj wB18 := mA18.trans mB18 (fun i hi h => by simp at h; omega)
                     replace TW4 := TW4.keep mx
                     clear mx hA18 mB18 zB18 zA18 mA18))
                have X := two_arm TW4 3 HE.out.2.2.2.2.2.2.2
                rw [HE.out.2.2.2.2.1] at X
                refine X.mono ?_
                clear X TW4 hbf
                rintro e wl ⟨rfl, TW5, _⟩
                go_wp2_with fail
                have X := two_fail TW5 3 HE.out.2.2.2.2.2.2.2
                rw [HE.out.2.2.2.2.2.1] at X
                refine X.mono ?_
                clear X TW5
                rintro e wm ⟨rfl, TW6, _⟩
                go_wp2_with fail
                have o1 := (dc_cells TW6.L.D.blk).2.2.2.2.2.2
                have o2 := (dc_cells TW6.R.D.blk).2.2.2.2.2.2
                have o3 := (dc_cells TW6.L.D.blk).2.2.2.1
                rw [HE.out.2.1] at o1
                rw [HE.out.1] at o3
                refine (dead_c g _ _ o3).mono ?_
                rintro e wo ⟨rfl, rfl⟩
                go_wp2_with fail
                refine (ops_c g _ _ o1).mono ?_
                rintro e wo ⟨rfl, rfl⟩
                go_wp2_with fail
                refine (ops_c g' _ _ o2).mono ?_
                rintro e wo ⟨rfl, rfl⟩
                go_wp2_with fail
                go_ret
                exact ⟨rfl, TW6.L.mm⟩
              · obtain ⟨B, E, d', t', q1, q2, MI'⟩ := M2 ⟨by omega, hP⟩ hl
                have hto : t'.ops ≤ k + 1 := by have := ops_step T a hk3; rw [q2] at this; exact Nat.le_trans this (by omega)
                have eO : d'.ops = t'.ops := MI'.ops
                have eD : d'.dead = false := MI'.dd
                have X := fun v (D : DAt v g m A1 c1 S) => act3_c S g m A1 c1 kd a K ck v D hkind hk3 (by have := MI.ops; omega)
                have Y := fun v (D : DAt v g' m' A2 c2 T) => act3_c T g' m' A2 c2 kd a K ck v D hkind hk3 (by omega)
                rw [q1] at X
                rw [q2] at Y
                have HE := Lib.hid (And.intro eO eD)
                clear eO eD M1 M2 M3
                go_wp2_with (first
                  | (with_reducible refine wpList_loads (o := ⟨some 142, .load 49 (.tmp 9), _, _, _, _⟩) rfl 49 (.tmp 9) rfl b9 0 _ rfl (Cells.of_holds hbb) _ Try.underlying49 rfl (by rw [dv_length]; exact size49) (.agg (dv kd a K ck).toArray) rfl ?_))
                refine (X _ TW.L.D).mono ?_
                clear X
                rintro e wf ⟨rfl, A3, c3, Dd, did⟩
                obtain ⟨TW2, kp⟩ := TW.did Dd did
                replace hbb := kp _ _ _ (by decide) (by decide) hbb
                clear TW kp Dd did
                go_wp2_with (first
                  | (with_reducible refine wpList_allocs (o := ⟨some 21, .alloc 39, _, _, _, _⟩) rfl 39 rfl _ zero39 ?_; intro wA21 hA21 mA21 zA21; replace zA21 := Lib.hid zA21)
                  | (with_reducible refine wpList_storesAll (o := ⟨none, .store 39 (.tmp 21) (.tmp 145), _, _, _, _⟩) rfl 39 (.tmp 21) (.tmp 145) rfl rfl wf.heap.size (bc B) rfl (bv B) rfl rfl 39 _ hA21 (by simp only [bc_length]) (bc_one _) (by rw [bc_length]; exact size39) ?_; intro wB21 hbf mB21 zB21; replace zB21 := Lib.hid zB21
                     have mx : Mod [] wf wB21 := mA21.trans mB21 (fun i hi h => by simp at h; omega)
                     replace TW2 := TW2.keep mx
                     replace hbb := hbb.keep mx (by simp)
                     clear mx hA21 mB21 zB21 zA21 mA21)
                  | (with_reducible refine wpList_loads (o := ⟨some 149, .load 49 (.tmp 9), _, _, _, _⟩) rfl 49 (.tmp 9) rfl b9 0 _ rfl (Cells.of_holds hbb) _ Try.underlying49 rfl (by rw [dv_length]; exact size49) (.agg (dv kd a K ck).toArray) rfl ?_))
                refine (Y _ TW2.R.D).mono ?_
                clear Y
                rintro e wg ⟨rfl, A4, c4, Dd, did⟩
                obtain ⟨TW3, kp⟩ := TW2.swap.did Dd did
                replace TW3 := TW3.swap
                replace hbf := kp _ _ _ (by decide) (by decide) hbf
                obtain ⟨b21, e21⟩ : ∃ b, b = wf.heap.size := ⟨_, rfl⟩
                rw [← e21] at hbf ⊢
                clear TW2 kp Dd did hbb e21
                go_wp2_with (first
                  | (with_reducible refine wpList_allocs (o := ⟨some 24, .alloc 39, _, _, _, _⟩) rfl 39 rfl _ zero39 ?_; intro wA24 hA24 mA24 zA24; replace zA24 := Lib.hid zA24)
                  | (with_reducible refine wpList_storesAll (o := ⟨none, .store 39 (.tmp 24) (.tmp 152), _, _, _, _⟩) rfl 39 (.tmp 24) (.tmp 152) rfl rfl wg.heap.size (bc B) rfl (bv B) rfl rfl 39 _ hA24 (by simp only [bc_length]) (bc_one _) (by rw [bc_length]; exact size39) ?_; intro wB24 hbk mB24 zB24; replace zB24 := Lib.hid zB24
                     have mx : Mod [] wg wB24 := mA24.trans mB24 (fun i hi h => by simp at h; omega)
                     replace TW3 := TW3.keep mx
                     replace hbf := hbf.keep mx (by simp)
                     clear mx hA24 mB24 zB24 zA24 mA24)
                  | (with_reducible refine wpList_loads (o := ⟨some 154, .load 39 (.tmp 21), _, _, _, _⟩) rfl 39 (.tmp 21) rfl b21 0 _ rfl (Cells.of_holds hbf) _ Try.underlying39 rfl (by rw [bc_length]; exact size39) (bv B) rfl ?_)
                  | (with_reducible refine wpList_loads (o := ⟨some 155, .load 39 (.tmp 24), _, _, _, _⟩) rfl 39 (.tmp 24) rfl wg.heap.size 0 _ rfl (Cells.of_holds hbk) _ Try.underlying39 rfl (by rw [bc_length]; exact size39) (bv B) rfl ?_)
                  | (with_reducible refine wpList_ranW (o := ⟨some 156, .binOp .neq 39 (.tmp 154) (.tmp 155) 39, _, _, _, _⟩) (by with_unfolding_all rfl) (.bool false) _ (exec_neq39 (b := B) rfl rfl rfl) ?_))
                have o1 := (dc_cells TW3.L.D.blk).2.2.2.2.2.2
                have o2 := (dc_cells TW3.R.D.blk).2.2.2.2.2.2
                have o3 := (dc_cells TW3.L.D.blk).2.2.2.1
                rw [HE.out.1] at o1
                rw [HE.out.2] at o3
                refine (dead_c g _ _ o3).mono ?_
                rintro e wo ⟨rfl, rfl⟩
                go_wp2_with fail
                refine (ops_c g _ _ o1).mono ?_
                rintro e wp ⟨rfl, rfl⟩
                go_wp2_with fail
                refine (ops_c g' _ _ o2).mono ?_
                rintro e wq ⟨rfl, rfl⟩
                go_wp2_with fail
                exact ⟨⟨k + 1, l - 1, by omega, by go_num, by go_num, by omega, A3, c3, d', A4, c4, t', TW3, MI', hto⟩, by simp [intOf]; omega⟩
            · have hdP : decide (a.kind = 2 ∨ 0 ≤ a.at_ ∧ a.at_ < 5) = false := decide_eq_false hP
              go_wp2_with (first
                | (with_reducible refine wpList_loadsW (o := ⟨some 59, .load 49 (.tmp 9), _, _, _, _⟩) (by with_unfolding_all rfl) 49 (.tmp 9) rfl b9 0 _ rfl (Cells.of_holds hbb) _ Try.underlying49 rfl (by rw [dv_length]; exact size49) (.agg (dv kd a K ck).toArray) rfl ?_))
              refine (there_c kd a K ck _ hkind).mono ?_
              rw [hdP]
              rintro e we ⟨rfl, me⟩
              replace TW := TW.keep me
              replace hbb := hbb.keep me (by simp)
              clear me
              obtain ⟨B, E, d', t', q1, q2, MI'⟩ := M1 (fun h => hP h.2)
              have hto : t'.ops ≤ k + 1 := by have := ops_step T a hk3; rw [q2] at this; exact Nat.le_trans this (by omega)
              have eO : d'.ops = t'.ops := MI'.ops
              have eD : d'.dead = false := MI'.dd
              have X := fun v (D : DAt v g m A1 c1 S) => act3_c S g m A1 c1 kd a K ck v D hkind hk3 (by have := MI.ops; omega)
              have Y := fun v (D : DAt v g' m' A2 c2 T) => act3_c T g' m' A2 c2 kd a K ck v D hkind hk3 (by omega)
              rw [q1] at X
              rw [q2] at Y
              have HE := Lib.hid (And.intro eO eD)
              clear eO eD M1 M2 M3
              go_wp2_with (first
                | (with_reducible refine wpList_loads (o := ⟨some 142, .load 49 (.tmp 9), _, _, _, _⟩) rfl 49 (.tmp 9) rfl b9 0 _ rfl (Cells.of_holds hbb) _ Try.underlying49 rfl (by rw [dv_length]; exact size49) (.agg (dv kd a K ck).toArray) rfl ?_))
              refine (X _ TW.L.D).mono ?_
              clear X
              rintro e wf ⟨rfl, A3, c3, Dd, did⟩
              obtain ⟨TW2, kp⟩ := TW.did Dd did
              replace hbb := kp _ _ _ (by decide) (by decide) hbb
              clear TW kp Dd did
              go_wp2_with (first
                | (with_reducible refine wpList_allocs (o := ⟨some 21, .alloc 39, _, _, _, _⟩) rfl 39 rfl _ zero39 ?_; intro wA21 hA21 mA21 zA21; replace zA21 := Lib.hid zA21)
                | (with_reducible refine wpList_storesAll (o := ⟨none, .store 39 (.tmp 21) (.tmp 145), _, _, _, _⟩) rfl 39 (.tmp 21) (.tmp 145) rfl rfl wf.heap.size (bc B) rfl (bv B) rfl rfl 39 _ hA21 (by simp only [bc_length]) (bc_one _) (by rw [bc_length]; exact size39) ?_; intro wB21 hbf mB21 zB21; replace zB21 := Lib.hid zB21
                   have mx : Mod [] wf wB21 := mA21.trans mB21 (fun i hi h => by simp at h; omega)
                   replace TW2 := TW2.keep mx
                   replace hbb := hbb.keep mx (by simp)
                   clear mx hA21 mB21 zB21 zA21 mA21)
                | (with_reducible refine wpList_loads (o := ⟨some 149, .load 49 (.tmp 9), _, _, _, _⟩) rfl 49 (.tmp 9) rfl b9 0 _ rfl (Cells.of_holds hbb) _ Try.underlying49 rfl (by rw [dv_length]; exact size49) (.agg (dv kd a K ck).toArray) rfl ?_))
              refine (Y _ TW2.R.D).mono ?_
              clear Y
              rintro e wg ⟨rfl, A4, c4, Dd, did⟩
              obtain ⟨TW3, kp⟩ := TW2.swap.did Dd did
              replace TW3 := TW3.swap
              replace hbf := kp _ _ _ (by decide) (by decide) hbf
              obtain ⟨b21, e21⟩ : ∃ b, b = wf.heap.size := ⟨_, rfl⟩
              rw [← e21] at hbf ⊢
              clear TW2 kp Dd did hbb e21
              go_wp2_with (first
                | (with_reducible refine wpList_allocs (o := ⟨some 24, .alloc 39, _, _, _, _⟩) rfl 39 rfl _ zero39 ?_; intro wA24 hA24 mA24 zA24; replace zA24 := Lib.hid zA24)
                | (with_reducible refine wpList_storesAll (o := ⟨none, .store 39 (.tmp 24) (.tmp 152), _, _, _, _⟩) rfl 39 (.tmp 24) (.tmp 152) rfl rfl wg.heap.size (bc B) rfl (bv B) rfl rfl 39 _ hA24 (by simp only [bc_length]) (bc_one _) (by rw [bc_length]; exact size39) ?_; intro wB24 hbk mB24 zB24; replace zB24 := Lib.hid zB24
                   have mx : Mod [] wg wB24 := mA24.trans mB24 (fun i hi h => by simp at h; omega)
                   replace TW3 := TW3.keep mx
                   replace hbf := hbf.keep mx (by simp)
                   clear mx hA24 mB24 zB24 zA24 mA24)
                | (with_reducible refine wpList_loads (o := ⟨some 154, .load 39 (.tmp 21), _, _, _, _⟩) rfl 39 (.tmp 21) rfl b21 0 _ rfl (Cells.of_holds hbf) _ Try.underlying39 rfl (by rw [bc_length]; exact size39) (bv B) rfl ?_)
                | (with_reducible refine wpList_loads (o := ⟨some 155, .load 39 (.tmp 24), _, _, _, _⟩) rfl 39 (.tmp 24) rfl wg.heap.size 0 _ rfl (Cells.of_holds hbk) _ Try.underlying39 rfl (by rw [bc_length]; exact size39) (bv B) rfl ?_)
                | (with_reducible refine wpList_ranW (o := ⟨some 156, .binOp .neq 39 (.tmp 154) (.tmp 155) 39, _, _, _, _⟩) (by with_unfolding_all rfl) (.bool false) _ (exec_neq39 (b := B) rfl rfl rfl) ?_))
              have o1 := (dc_cells TW3.L.D.blk).2.2.2.2.2.2
              have o2 := (dc_cells TW3.R.D.blk).2.2.2.2.2.2
              have o3 := (dc_cells TW3.L.D.blk).2.2.2.1
              rw [HE.out.1] at o1
              rw [HE.out.2] at o3
              refine (dead_c g _ _ o3).mono ?_
              rintro e wo ⟨rfl, rfl⟩
              go_wp2_with fail
              refine (ops_c g _ _ o1).mono ?_
              rintro e wp ⟨rfl, rfl⟩
              go_wp2_with fail
              refine (ops_c g' _ _ o2).mono ?_
              rintro e wq ⟨rfl, rfl⟩
              go_wp2_with fail
              exact ⟨⟨k + 1, l, by omega, by go_num, by go_num, by omega, A3, c3, d', A4, c4, t', TW3, MI', hto⟩, by simp [intOf]; omega⟩
      · clear MS
        have hd3 : decide (a.kind < 3) = false := decide_eq_false hk3
        rw [hd3]
        go_wp2_with fail
        exact ⟨⟨k + 1, l, by omega, by go_num, rfl, hl1, A1, c1, S, A2, c2, T, TW, MI, by omega⟩, by simp [intOf]; omega⟩
    · obtain rfl : N = k := by omega
      have hT : T.ops ≤ 60 := by omega
      have hS : S.ops ≤ 60 := by have := MI.ops; omega
      have eT : told T 5 = told S 5 := by unfold told St.holds; rw [MI.firm, MI.loose]
      have X := content_c S g m A1 c1 wr TW.L.D MI.dd MI.dn (by omega)
      have Y := fun v (D : DAt v g' m' A2 c2 T) => content_c T g' m' A2 c2 v D MI.td MI.tn (by omega)
      rw [eT] at Y
      clear eT MI hT hS
      go_wp2_with fail
      refine X.mono ?_
      clear X
      rintro e wm ⟨rfl, mm⟩
      replace TW := TW.keep mm
      clear mm
      have Z := Y wm TW.R.D
      clear Y
      go_wp2_with fail
      refine Z.mono ?_
      clear Z
      rintro e wn ⟨rfl, mn⟩
      replace TW := TW.keep mn
      clear mn
      have hl5 : (told S 5).length = 5 := rfl
      generalize told S 5 = B5 at hl5
      go_wp2_with (first
        | (with_reducible refine wpList_ranW (o := ⟨some 178, .binOp .eql 61 (.tmp 175) (.tmp 177) 61, _, _, _, _⟩) (by with_unfolding_all rfl) (.bool true) _ (exec_eql61 (L := B5) hl5 rfl rfl rfl) ?_))
      go_ret
      exact ⟨rfl, TW.L.mm⟩
end Go.Proofs.Ytpdpahkhfilmpaa
