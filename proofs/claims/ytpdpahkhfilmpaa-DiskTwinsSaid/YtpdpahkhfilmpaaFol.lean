/-
  Whatever is done with a disk is told as the document says: the walk. My own work.
-/
import Derived.Test.YtpdpahkhfilmpaaLvd
import Derived.Test.YtpdpahkhfilmpaaWakes
namespace Go.Proofs.Ytpdpahkhfilmpaa
open Go.RowKit
theorem read_quiet {S : St} (hd : S.dead = false) (hf : S.failing = -1) (i : Int) (hi : 0 ≤ i ∧ i < S.n) : S.read i = (S.holds i, 0, { S with ops := S.ops + 1 }) := by
  obtain ⟨n, firm, loose, dead, armed, failing, ops⟩ := S
  simp only at hd hf hi
  subst hd hf
  unfold St.read St.ask St.has
  simp [hi, down, St.holds]
set_option maxRecDepth 100000 in
theorem rnew_bad (n : Int) (hn : ¬ (1 ≤ n ∧ n ≤ 2048)) (w : World) : Calls Try.prog 12 #[.int .i64 n] w fun e w' => e = .returned (.tuple #[rv (RSt.new n) none 0, .bool false]) ∧ Mod [] w w' := by
  obtain h | h : n < 1 ∨ 2048 < n := by omega
  all_goals
    clear hn
    have hd : n ≤ 2048 ∨ decide (n ≤ 2048) = false := by
      by_cases h : n ≤ 2048
      · exact .inl h
      · exact .inr (decide_eq_false h)
    replace hd := Lib.hid hd
    go_enter Try.func12, Try.ntmps12
    go_wp2_with (first
      | (with_reducible refine wpList_allocs (o := ⟨some 2, .alloc 30, _, _, _, _⟩) rfl 30 rfl _ zero30 ?_; intro w1 hb1 m1 z1; replace z1 := Lib.hid z1)
      | (with_reducible refine wpList_ranW (o := ⟨some 5, .build 30 _, _, _, _, _⟩) (by with_unfolding_all rfl) (rv (RSt.new n) none 0) _ (exec_rnew (n := n) rfl rfl rfl rfl) ?_)
      | (with_reducible refine wpList_storesAll (o := ⟨none, .store 30 (.tmp 2) (.tmp 5), _, _, _, _⟩) rfl 30 (.tmp 2) (.tmp 5) rfl rfl w.heap.size (rc (RSt.new n) none 0) rfl (rv (RSt.new n) none 0) rfl rfl 30 _ hb1 (rc_r0 _ _ _) (rc_one _ _ _) (size30_of _ _ _) ?_; intro w2 hb2 m2 z2))
    refine bodyPost_ret (results_cellb rfl _ _ w.heap.size (rc (RSt.new n) none 0) _ _ rfl rfl (Cells.of_holds hb2) Try.underlying30 rfl size30) rfl ?_
    refine ⟨?_, m1.trans m2 (by intro i hi h; simp at h; omega)⟩
    first
    | rfl
    | (rcases hd.out with h' | h'
       · omega
       · simp [h'])
set_option maxRecDepth 1000000 in
set_option maxHeartbeats 4000000 in
theorem follows_bad (n : Int) (hn : ¬ (1 ≤ n ∧ n ≤ 2048)) (W : Option Addr) (nl cw : Nat) (w : World) :
    Calls Try.prog 3 #[.int .i64 n, .slice W nl cw] w fun e w' => e = .returned (.bool true) ∧ Mod [] w w' := by
  have HN := Lib.hid hn
  clear hn
  go_enter Try.func3, Try.ntmps3
  go_wp2_with fail
  refine (wakes_c _).mono ?_
  rintro e w1 ⟨rfl, m1⟩
  go_wp2_with fail
  refine (new_bad n _ HN.out).mono ?_
  rintro e w2 ⟨rfl, rfl⟩
  go_wp2_with fail
  refine (rnew_bad n HN.out _).mono ?_
  rintro e w3 ⟨rfl, m3⟩
  go_wp2_with (first
    | (with_reducible refine wpList_allocs (o := ⟨some 7, .alloc 30, _, _, _, _⟩) rfl 30 rfl _ zero30 ?_; intro wa hba ma za; replace za := Lib.hid za)
    | (with_reducible refine wpList_storesAll (o := ⟨none, .store 30 (.tmp 7) (.tmp 22), _, _, _, _⟩) rfl 30 (.tmp 7) (.tmp 22) rfl rfl w3.heap.size (rc (RSt.new n) none 0) rfl (rv (RSt.new n) none 0) rfl rfl 30 _ hba (rc_r0 _ _ _) (rc_one _ _ _) (size30_of _ _ _) ?_; intro wb hbb mb zb
       have mm : Mod [] w wb := (((m1.then m3).then ma).trans mb (fun i hi h => by have := m1.size; have := m3.size; simp at h; omega))
       clear hba ma za mb zb hbb m1 m3))
  go_ret
  exact ⟨rfl, mm⟩
theorem exec_min8 {P : Program} {v : World} {o : Oper} {ρ : Operand → Value} {x y : Operand} {n : Nat} (ho : o.op = .call { callee := .builtin .min, args := #[x, y], argTypes := #[3, 3] }) (hx : ρ x = .int .i64 (n : Int)) (hy : ρ y = .int .i64 8) : (execOp ρ o).run P v = .ok (.value (.int .i64 ((min n 8 : Nat) : Int))) v := by
  unfold execOp
  simp [ho, hx, hy, go_sem]
  by_cases h : n < 8
  · have h1 : ¬ (8 : Int) < (n : Int) := by omega
    have h2 : min n 8 = n := by omega
    simp [h1, h2]
  · by_cases h3 : n = 8
    · subst h3; simp
    · have h1 : (8 : Int) < (n : Int) := by omega
      have h2 : min n 8 = 8 := by omega
      simp [h1, h2]
set_option maxRecDepth 1000000 in
set_option maxHeartbeats 4000000 in
theorem follows_good (n : Nat) (h1 : 1 ≤ n) (h2 : n ≤ 2048) (W : Option Addr) (nl cw : Nat) (w : World) (hnl : nl ≤ cw) (hcw : cw ≤ maxLen) (hA : Acts2 w W nl) :
    Calls Try.prog 3 #[.int .i64 (n : Int), .slice W nl cw] w fun e w' => e = .returned (.bool true) ∧ Mod [] w w' := by
  have hZ1 : (1 : Int) ≤ (n : Int) := by omega
  have hZ2 : (n : Int) ≤ 2048 := by omega
  have HA := Lib.hid (And.intro hA (And.intro hnl (And.intro hcw (And.intro h1 h2))))
  clear hA hnl hcw h1 h2
  go_enter Try.func3, Try.ntmps3
  go_wp2_with fail
  refine (wakes_c _).mono ?_
  rintro e w1 ⟨rfl, m1⟩
  go_wp2_with fail
  refine (new_good n _ HA.out.2.2.2.1 HA.out.2.2.2.2).mono ?_
  rintro e w2 ⟨g, m, rfl, D2, m2, og, om⟩
  have F : Far w w2 g m none 0 (St.new n) := ⟨D2, m1.then m2, Nat.le_trans m1.size og, Nat.le_trans m1.size om, fun a ha => by cases ha⟩
  clear D2 og om m1 m2
  go_wp2_with fail
  refine (rnew_c (n : Int) ⟨hZ1, hZ2⟩ _).mono ?_
  rintro e w3 ⟨rfl, m3⟩
  replace F := F.keep m3
  clear m3
  obtain ⟨R0, hR0⟩ : ∃ R, R = RSt.new (n : Int) := ⟨_, rfl⟩
  obtain ⟨S0, hS0⟩ : ∃ S, S = St.new n := ⟨_, rfl⟩
  have L0 : Like S0 R0 := by rw [hR0, hS0]; exact Like.new n
  have F0 : Fine R0 0 := by rw [hR0]; exact Fine.new _
  have hs0 : R0.story = [] := by rw [hR0]; rfl
  rw [← hS0] at F
  rw [← hR0]
  have HL := Lib.hid (And.intro L0 (And.intro F0 (And.intro hs0 (show S0.n = n by rw [hS0]; rfl))))
  clear hR0 hS0 L0 F0 hs0
  have hT : Told w3 R0 none 0 := by unfold Told; rw [HL.out.2.2.1]; exact OwnG.nil _ _ _ _
  go_wp2_with (first
    | (with_reducible refine wpList_allocs (o := ⟨some 7, .alloc 30, _, _, _, _⟩) rfl 30 rfl _ zero30 ?_; intro wa hba ma za; replace za := Lib.hid za)
    | (with_reducible refine wpList_storesAll (o := ⟨none, .store 30 (.tmp 7) (.tmp 22), _, _, _, _⟩) rfl 30 (.tmp 7) (.tmp 22) rfl rfl w3.heap.size (rc R0 none 0) rfl (rv R0 none 0) rfl rfl 30 _ hba rfl (rc_one _ _ _) (size30_of _ _ _) ?_; intro wb h7 mb zb
       have mx : Mod [] w3 wb := ma.trans mb (fun i hi h => by simp at h; omega)
       have o7 : w.heap.size ≤ w3.heap.size := F.mm.size
       replace F := F.keep mx
       replace hT := hT.keep mx (by simp)
       obtain ⟨g7, e7⟩ : ∃ b, b = w3.heap.size := ⟨_, rfl⟩
       rw [← e7] at h7 o7
       rw [← e7]
       have H7 := Lib.hid o7
       clear hba ma za mb zb mx e7 o7)
    | (with_reducible refine wpList_loadsW (o := ⟨some 40, .load 30 (.tmp 7), _, _, _, _⟩) (by with_unfolding_all rfl) 30 (.tmp 7) rfl g7 0 _ rfl (Cells.of_holds h7) _ Try.underlying30 rfl (size30_of _ _ _) (rv R0 none 0) rfl ?_))
  refine (stands_c HL.out.1 g m none 0 none 0 wb F.D hT (HL.out.2.1.wk (by omega))).mono ?_
  rintro e wc ⟨rfl, mc⟩
  replace F := F.keep mc
  replace hT := hT.keep mc (by simp)
  replace h7 := h7.keep mc (by simp)
  clear mc
  go_wp2_with (first
    | (with_reducible refine wpList_loads (o := ⟨some 46, .load 30 (.tmp 7), _, _, _, _⟩) rfl 30 (.tmp 7) rfl g7 0 _ rfl (Cells.of_holds h7) _ Try.underlying30 rfl (size30_of _ _ _) (rv R0 none 0) rfl ?_))
  refine (lived_c F HL.out.1 none 0 hT 0 HL.out.2.1 (by omega) W nl cw HA.out.2.1 HA.out.2.2.1 HA.out.1).mono ?_
  rintro e wd ⟨g1, m1, A1, c1, S1, R1, B1, b1, rfl, D1, V1, hT1, L1, hF1, hsz⟩
  replace h7 := V1.keeps F.D _ _ _ (by decide) (by decide) h7
  have hx7 := h7
  have F1 := F.went D1 V1
  have hF1 : Fine R1 60 := hF1.wk (by omega)
  clear F hT V1 D1
  go_wp2_with (first
    | (with_reducible refine wpList_storesAll (o := ⟨none, .store 30 (.tmp 7) (.tmp 50), _, _, _, _⟩) rfl 30 (.tmp 7) (.tmp 50) rfl rfl g7 (rc R1 B1 b1) rfl (rv R1 B1 b1) rfl rfl 30 _ h7 rfl (rc_one _ _ _) (size30_of _ _ _) ?_
       clear h7
       intro we h7 mb zb
       have T2 := hT1.keep mb (fun a ha => by simpa using hT1.ne hx7 (by decide) a ha)
       replace hT1 := T2
       replace F1 := F1.own mb hx7 (by decide) (by decide) H7.out
       clear T2 hx7 mb zb))
  refine (crash_c S1 g1 m1 A1 c1 none 0 0 [] _ F1.D (Cells.nil _ _) rfl (by unfold maxLen; omega)).mono ?_
  rintro e wf ⟨rfl, D2, q2⟩
  have V2 : Went we wf g1 m1 A1 g1 m1 none := ⟨q2.wk (fun i _ h => by simp at h ⊢; rcases h with h | h <;> simp [h]), .inl rfl, .inl rfl, fun a ha => by cases ha⟩
  replace h7 := V2.keeps F1.D _ _ _ (by decide) (by decide) h7
  replace hT1 := Told.went hT1 F1.D V2
  have F2 := F1.went D2 V2
  have hx7 := h7
  obtain ⟨S2, hS2⟩ : ∃ S, S = S1.crash [] := ⟨_, rfl⟩
  obtain ⟨R2, hR2⟩ : ∃ R, R = R1.crash [] := ⟨_, rfl⟩
  have L2 : Like S2 R2 := by rw [hS2, hR2]; exact L1.crash []
  have X := rcrash_c R1 B1 b1 none 0 0 [] wf hT1 (by have := hF1.long; omega) hF1.firm (Cells.nil _ _) rfl (by unfold maxLen; omega)
  rw [← hR2] at X
  rw [← hS2] at F2
  have n2 : S2.n = n := by
    have e1 := L2.n
    have e2 : R2.size = R1.size := by rw [hR2]; rfl
    have e3 := HL.out.1.n
    have e4 := HL.out.2.2.2
    omega
  have o2 : S2.ops ≤ 60 := by
    have e1 := L2.ops
    have e2 : R2.ops = R1.ops := by rw [hR2]; rfl
    have := hF1.ops
    omega
  have l2 : R2.story.length ≤ 1099511627776 := by
    rw [hR2]
    have := (hF1.crash []).long
    omega
  have HS := Lib.hid (And.intro L2 (And.intro n2 (And.intro (show S2.dead = false by rw [hS2]; rfl) (And.intro (show S2.failing = -1 by rw [hS2]; rfl) (And.intro o2 l2)))))
  clear o2 l2
  clear F1 V2 D2 q2 hS2 hR2 L2 n2 L1 hF1 hsz
  go_wp2_with (first
    | (with_reducible refine wpList_loads (o := ⟨some 57, .load 30 (.tmp 7), _, _, _, _⟩) rfl 30 (.tmp 7) rfl g7 0 _ rfl (Cells.of_holds h7) _ Try.underlying30 rfl (size30_of _ _ _) (rv R1 B1 b1) rfl ?_)
    | (go_at_call 16; refine X.mono ?_; clear X hT1; rintro e wg ⟨B2, b2, rfl, hT2, mg⟩
       replace F2 := F2.keep mg
       replace h7 := h7.keep mg (by simp)
       replace hx7 := h7
       clear mg)
    | (with_reducible refine wpList_storesAll (o := ⟨none, .store 30 (.tmp 7) (.tmp 58), _, _, _, _⟩) rfl 30 (.tmp 7) (.tmp 58) rfl rfl g7 (rc R2 B2 b2) rfl (rv R2 B2 b2) rfl rfl 30 _ h7 rfl (rc_one _ _ _) (size30_of _ _ _) ?_
       clear h7
       intro wh h7 mb zb
       have T2 := hT2.keep mb (fun a ha => by simpa using hT2.ne hx7 (by decide) a ha)
       replace hT2 := T2
       replace F2 := F2.own mb hx7 (by decide) (by decide) H7.out
       clear T2 hx7 mb zb)
    | (with_reducible refine wpList_ranW (o := ⟨some 60, .call _, _, _, _, _⟩) (by with_unfolding_all rfl) (.int .i64 ((min n 8 : Nat) : Int)) wh (exec_min8 rfl rfl rfl) ?_))
  obtain ⟨M, hM⟩ : ∃ M, M = min n 8 := ⟨_, rfl⟩
  rw [← hM]
  have hM8 : M ≤ 8 := by omega
  have HM := Lib.hid (And.intro (show M ≤ n by omega) hM8)
  clear hM
  go_loopw [61] (fun i wi => ∃ k : Nat, k ≤ M ∧ i = .int .i64 (k : Int) ∧ Far w wi g1 m1 none 0 { S2 with ops := S2.ops + k } ∧ Told wi R2 B2 b2 ∧ Holds wi g7 30 (rc R2 B2 b2)) (fun i _ => M - (intOf i).toNat)
  case atStart => exact ⟨0, by omega, rfl, F2, hT2, h7⟩
  case round =>
    clear F2 hT2 h7
    obtain ⟨k, hk, rfl, F2, hT2, h7⟩ := hrel
    by_cases hkn : k < M
    · have hkZ : (k : Int) < (M : Int) := by omega
      have hM8Z : (M : Int) ≤ 8 := by omega
      have e1 := read_quiet (S := { S2 with ops := S2.ops + k }) HS.out.2.2.1 HS.out.2.2.2.1 (k : Int) ⟨by omega, by have := HS.out.2.1; have := HM.out.1; show (k : Int) < (S2.n : Int); omega⟩
      have X := read_c _ g1 m1 none 0 (k : Int) wr F2.D (by have := HS.out.2.2.2.2.1; show S2.ops + k + 1 ≤ 1099511627776; omega)
      rw [e1] at X
      clear e1
      obtain ⟨Bq, hBq⟩ : ∃ b, b = R2.holds (k : Int) := ⟨_, rfl⟩
      have e2 : St.holds { S2 with ops := S2.ops + k } (k : Int) = Bq := (HS.out.1.holds (k : Int)).trans hBq.symm
      have Y := fun v (h : Told v R2 B2 b2) => rholds_c R2 B2 b2 (k : Int) v h HS.out.2.2.2.2.2
      rw [← hBq] at Y
      simp only [e2] at X
      clear hBq e2
      go_wp2_with fail
      refine X.mono ?_
      clear X
      rintro e wx ⟨rfl, D3, q3⟩
      have V3 : Went wr wx g1 m1 none g1 m1 none := ⟨q3.wk (fun i _ h => by simp at h; simp [h]), .inl rfl, .inl rfl, fun a ha => by cases ha⟩
      replace h7 := V3.keeps F2.D _ _ _ (by decide) (by decide) h7
      replace hT2 := Told.went hT2 F2.D V3
      have F3 := F2.went D3 V3
      clear F2 D3 q3 V3
      go_wp2_with (first
        | (with_reducible refine wpList_allocs (o := ⟨some 10, .alloc 39, _, _, _, _⟩) rfl 39 rfl _ zero39 ?_; intro wa hba ma za; replace za := Lib.hid za)
        | (with_reducible refine wpList_storesAll (o := ⟨none, .store 39 (.tmp 10) (.tmp 68), _, _, _, _⟩) rfl 39 (.tmp 10) (.tmp 68) rfl rfl wx.heap.size (bc Bq) rfl (bv Bq) rfl rfl 39 _ hba (by simp only [bc_length]) (bc_one _) (by rw [bc_length]; exact size39) ?_; intro wy h10 mb zb
           have mx : Mod [] wx wy := ma.trans mb (fun i hi h => by simp at h; omega)
           replace F3 := F3.keep mx
           replace hT2 := hT2.keep mx (by simp)
           replace h7 := h7.keep mx (by simp)
           obtain ⟨g10, e10⟩ : ∃ b, b = wx.heap.size := ⟨_, rfl⟩
           rw [← e10] at h10
           rw [← e10]
           clear mx hba mb zb za ma e10))
      refine Rg.wp_region_lit1 [Value.int IntKind.i64 ↑n, Value.slice W nl cw, undef, undef, u4, Value.pointer (some { block := g1, off := 0 }), Value.int IntKind.i64 0, Value.pointer (some { block := g7, off := 0 }), Value.bool true, Value.int IntKind.i64 ↑k, Value.pointer (some { block := g10, off := 0 }), Value.int IntKind.i64 0, Value.bool true, Value.bool false, Value.tuple #[Value.pointer (some { block := g, off := 0 }), Value.int IntKind.i64 0], Value.int IntKind.i64 ↑n, Value.tuple #[Value.pointer (some { block := g, off := 0 }), Value.int IntKind.i64 0], Value.pointer (some { block := g, off := 0 }), Value.int IntKind.i64 0, Value.tuple #[rv R0 none 0, Value.bool true], Value.int IntKind.i64 ↑n, Value.tuple #[rv R0 none 0, Value.bool true], rv R0 none 0, Value.bool true, Value.bool true, Value.bool false, undef, undef, undef, undef, undef, undef, Value.pointer (some { block := g, off := 0 }), Value.bool false, Value.bool false, Value.int IntKind.i64 0, Value.bool false, Value.bool false, Value.bool false, Value.pointer (some { block := g, off := 0 }), rv R0 none 0, Value.bool true, Value.bool false, Value.bool false, Value.tuple #[Value.pointer (some { block := g1, off := 0 }), rv R1 B1 b1, Value.bool true], Value.pointer (some { block := g, off := 0 }), rv R0 none 0, Value.slice W nl cw, Value.tuple #[Value.pointer (some { block := g1, off := 0 }), rv R1 B1 b1, Value.bool true], Value.pointer (some { block := g1, off := 0 }), rv R1 B1 b1, Value.bool true, Value.bool true, Value.bool false, Value.pointer (some { block := g1, off := 0 }), Value.int IntKind.i64 0, Value.bool false, rv R1 B1 b1, rv R2 B2 b2, Value.int IntKind.i64 ↑n, Value.int IntKind.i64 ↑M, Value.int IntKind.i64 ↑k, Value.bool true, Value.int IntKind.i64 ↑k, Value.tuple #[bv Bq, Value.int IntKind.i64 0], Value.pointer (some { block := g1, off := 0 }), Value.int IntKind.i64 ↑k, Value.tuple #[bv Bq, Value.int IntKind.i64 0], bv Bq, Value.int IntKind.i64 0, .int .i64 0, .bool false, .bool false, bv Bq, rv R2 B2 b2, .int .i64 (k : Int), bv Bq, .bool false, .bool false, u79] 80 [0, 1, 2, 3, 4, 5, 6, 7, 8, 9, 10, 11, 12, 13, 14, 15, 16, 17, 18, 19, 20, 21, 22, 23, 24, 25, 26, 27, 28, 29, 30, 31, 32, 33, 34, 35, 36, 37, 38, 39, 40, 41, 42, 43, 44, 45, 46, 47, 48, 49, 50, 51, 52, 53, 54, 55, 56, 57, 58, 59, 60, 61, 62, 63, 64, 65, 66, 67, 68, 69, 79]
        (fun lz v => Mod [] wy.drew v) []
        (by kernel_rfl) rfl rfl rfl rfl (Mod.refl _ _) (by kernel_rfl) (by kernel_rfl) ?step ?fin
      case step =>
        intro lz T v j o hj hlj hdep hst hpar hgot hcl Kq hK
        have hjn : j < 9 := (Array.getElem?_eq_some_iff.1 hj).1
        have h10d : Holds v g10 39 (bc Bq) := (show Holds wy.drew g10 39 (bc Bq) from h10).keep hst (by simp)
        have h7d : Holds v g7 30 (rc R2 B2 b2) := (show Holds wy.drew g7 30 (rc R2 B2 b2) from h7).keep hst (by simp)
        have hTd : Told v R2 B2 b2 := (hT2.keep (Mod.drew [] wy) (by simp)).keep hst (by simp)
        obtain rfl | rfl | rfl | rfl | rfl | rfl | rfl | rfl | rfl : j = 0 ∨ j = 1 ∨ j = 2 ∨ j = 3 ∨ j = 4 ∨ j = 5 ∨ j = 6 ∨ j = 7 ∨ j = 8 := by omega
        all_goals (have hj' := Option.some.inj (hj : some _ = some o); subst hj'; clear hj)
        · exact wp_ran rfl (exec_move rfl (eval_tmp (hpar 11 (by simp)))) (hK _ _ (fun s hs => by cases hs; rfl) hst)
        · exact wp_ran rfl (exec_nei rfl (eval_tmp (hgot 0 _ 70 rfl (hdep ⟨0, .data⟩ (by simp) rfl) rfl)) rfl) (hK _ _ (fun s hs => by cases hs; rfl) hst)
        · exact wp_ran rfl (exec_move rfl (eval_tmp (hgot 1 _ 71 rfl (hdep ⟨1, .data⟩ (by simp) rfl) rfl))) (hK _ _ (fun s hs => by cases hs; rfl) hst)
        · exact Rg.wp_ranW (Rg.wanted_yes rfl rfl rfl (hgot 2 _ 72 rfl (hdep ⟨2, .guard⟩ (by simp) rfl) rfl)) (exec_load rfl (eval_tmp (hpar 10 (by simp))) (run_loads (Cells.of_holds h10d) Try.underlying39 rfl (by rw [bc_length]; exact size39))) (hK _ _ (fun s hs => by cases hs; rfl) hst)
        · exact Rg.wp_ranW (Rg.wanted_yes rfl rfl rfl (hgot 2 _ 72 rfl (hdep ⟨2, .guard⟩ (by simp) rfl) rfl)) (exec_load rfl (eval_tmp (hpar 7 (by simp))) (run_loads (Cells.of_holds h7d) Try.underlying30 rfl (size30_of _ _ _))) (hK _ _ (fun s hs => by cases hs; rfl) hst)
        · exact Rg.wp_ranW (Rg.wanted_yes rfl rfl rfl (hgot 2 _ 72 rfl (hdep ⟨2, .guard⟩ (by simp) rfl) rfl)) (exec_move rfl (eval_tmp (hpar 9 (by simp)))) (hK _ _ (fun s hs => by cases hs; rfl) hst)
        · exact Rg.wp_calledW (Rg.wanted_yes rfl rfl rfl (hgot 2 _ 72 rfl (hdep ⟨2, .guard⟩ (by simp) rfl) rfl)) (exec_call2 rfl rfl (eval_tmp (hgot 4 _ 74 rfl (hdep ⟨4, .data⟩ (by simp) rfl) rfl)) (eval_tmp (hgot 5 _ 75 rfl (hdep ⟨5, .data⟩ (by simp) rfl) rfl)) (enters_of Try.func18 (by kernel_rfl) rfl)) ((Y v hTd).mono (fun e v' hh => ⟨_, hh.1, hK _ _ (fun s hs => by cases hs; rfl) (hst.then hh.2)⟩))
        · exact Rg.wp_ranW (Rg.wanted_yes rfl rfl rfl (hgot 2 _ 72 rfl (hdep ⟨2, .guard⟩ (by simp) rfl) rfl)) (exec_neq39 (b := Bq) rfl (eval_tmp (hgot 3 _ 73 rfl (hdep ⟨3, .data⟩ (by simp) rfl) rfl)) (eval_tmp (hgot 6 _ 76 rfl (hdep ⟨6, .data⟩ (by simp) rfl) rfl))) (hK _ _ (fun s hs => by cases hs; rfl) hst)
        · exact wp_ran rfl (Rg.exec_pick rfl (eval_tmp (hgot 2 _ 72 rfl (hdep ⟨2, .data⟩ (by simp) rfl) rfl)) rfl (eval_tmp (hgot 7 _ 77 rfl (hdep ⟨7, .data⟩ (by simp) rfl) rfl)) rfl) (hK _ _ (fun s hs => by cases hs; rfl) hst)
      case fin =>
        intro lz v hl hst
        have F4 := (F3.keep (Mod.drew [] wy)).keep hst
        have hT4 : Told v R2 B2 b2 := (hT2.keep (Mod.drew [] wy) (by simp)).keep hst (by simp)
        have h74 : Holds v g7 30 (rc R2 B2 b2) := (show Holds wy.drew g7 30 (rc R2 B2 b2) from h7).keep hst (by simp)
        clear hl hst F3 hT2 h7 h10 Y
        go_wp2_with fail
        exact ⟨⟨k + 1, hkn, by go_num, F4, hT4, h74⟩, by simp [intOf]; omega⟩
    · obtain rfl : M = k := by omega
      clear hkn hk
      go_wp2_with fail
      go_ret
      exact ⟨rfl, F2.mm⟩
theorem follows_w (n : Int) (W : Option Addr) (nl cw : Nat) (w : World) (hnl : nl ≤ cw) (hcw : cw ≤ maxLen) (hA : Acts2 w W nl) :
    Calls Try.prog 3 #[.int .i64 n, .slice W nl cw] w fun e w' => e = .returned (.bool true) ∧ Mod [] w w' := by
  by_cases h : 1 ≤ n ∧ n ≤ 2048
  · obtain ⟨k, rfl⟩ : ∃ k : Nat, n = (k : Int) := ⟨n.toNat, by omega⟩
    exact follows_good k (by omega) (by omega) W nl cw w hnl hcw hA
  · exact follows_bad n h W nl cw w
end Go.Proofs.Ytpdpahkhfilmpaa
