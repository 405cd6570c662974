/-
  PermChanges: the walk. My own work.
-/
import Derived.Test.YtaadmpainikfpaaWu
namespace Go.Proofs.Ytaadmpainikfpaa
open Go.RowKit Go.Shelf
attribute [local go_sem] Oper.semAt_some
set_option linter.unusedVariables false
set_option linter.unusedSimpArgs false
abbrev XC := Nat × List Value × List Value
/-- A box that is made at some time, and what is told. -/
def bx (la ls : Bool) (b : Nat) (cs : List Value) : List Th := if la then [oB b 24 (if ls then cs else zpm)] else []
def CgS (w : World) (base TB : List Th) (p q : Pm) (lc lr la ls : Bool) (x : XC) (v : World) : Prop :=
  ∃ ts, Fm w v (bx la ls x.1 x.2.2 ++ base) ts ∧ (∀ y ∈ TB, y ∈ ts) ∧ (lc = true → ∃ S, tP S p x.2.1 ∈ ts) ∧ (lr = true → ∃ S, tP S q x.2.2 ∈ ts)
section
variable {w v : World} {base TB : List Th} {p q : Pm} {lc lr la ls : Bool} {x : XC}
theorem CgS.begin (F : Fm w v base TB) (x : XC) : CgS w base TB p q false false false false x v := ⟨TB, F, fun _ h => h, fun h => (by cases h), fun h => (by cases h)⟩
theorem CgS.call (h : CgS w base TB p q lc lr la ls x v) {v' : World} (m : Mod [] v v') : CgS w base TB p q lc lr la ls x v' := by
  obtain ⟨ts, F, h1, h2, h3⟩ := h
  exact ⟨ts, F.call m, h1, h2, h3⟩
theorem CgS.own (h : CgS w base TB p q lc lr la ls x v) {y : Th} (hy : y ∈ base) : y.2 v := by
  obtain ⟨ts, F, _⟩ := h
  exact (F.k y (.inl (List.mem_append_right _ hy))).2.1
theorem CgS.std (h : CgS w base TB p q lc lr la ls x v) {y : Th} (hy : y ∈ TB) : y.2 v ∧ ∀ g, y.1 g → g < v.heap.size := by
  obtain ⟨ts, F, hTB, _⟩ := h
  exact ⟨(F.k y (.inr (hTB y hy))).2.1, (F.k y (.inr (hTB y hy))).2.2⟩
theorem CgS.copy (h : CgS w base TB p q true lr la ls x v) : ∃ S, PIs v S p x.2.1 ∧ ∀ g, S g → g < v.heap.size := by
  obtain ⟨ts, F, hTB, hc, _⟩ := h
  obtain ⟨S, hS⟩ := hc rfl
  exact ⟨S, (F.k _ (.inr hS)).2.1, (F.k _ (.inr hS)).2.2⟩
theorem CgS.alloc (h : CgS w base TB p q lc lr false false x v) : CgS w base TB p q lc lr true false ⟨v.heap.size, x.2⟩ (v.alloc (.cells zpm.toArray 24)) := by
  obtain ⟨ts, F, h1, h2, h3⟩ := h
  have F0 : Fm w v base ts := F
  have hv : Holds (v.alloc (.cells zpm.toArray 24)) v.heap.size 24 zpm := Holds.made v 24 zpm
  exact ⟨ts, F0.own (Mod.alloc [] v _) _ (keeps_oB _ _ _) hv (hv.new_keeps rfl), h1, h2, h3⟩
theorem CgS.copied (h : CgS w base TB p q false false la false x v) {v' : World} {cs : List Value} (hP : PIs v' (Btw v.heap.size v'.heap.size) p cs) (m : Mod [] v v') : CgS w base TB p q true false la false ⟨x.1, cs, x.2.2⟩ v' := by
  obtain ⟨ts, F, h1, h2, h3⟩ := h
  have F' : Fm w v (bx la false x.1 x.2.2 ++ base) ts := F
  exact ⟨_, F'.put m (tP (Btw v.heap.size v'.heap.size) p cs) (keeps_tP _ _ _) hP (fun g hg => .inl hg), fun y hy => List.mem_cons_of_mem _ (h1 y hy), fun _ => ⟨_, List.mem_cons_self ..⟩, fun h => (by cases h)⟩
theorem CgS.told (h : CgS w base TB p q lc false la false x v) {v' : World} {T : Nat → Prop} {cs : List Value} (hP : PIs v' T q cs) (hT : ∀ g, T g → (∃ y ∈ TB, y.1 g) ∨ (v.heap.size ≤ g ∧ g < v'.heap.size)) (m : Mod [] v v') : CgS w base TB p q lc true la false ⟨x.1, x.2.1, cs⟩ v' := by
  obtain ⟨ts, F, h1, h2, h3⟩ := h
  have F' : Fm w v (bx la false x.1 cs ++ base) ts := F
  refine ⟨_, F'.put m (tP T q cs) (keeps_tP _ _ _) hP (fun g hg => ?_), fun y hy => List.mem_cons_of_mem _ (h1 y hy), fun hc => ?_, fun _ => ⟨_, List.mem_cons_self ..⟩⟩
  · rcases hT g hg with ⟨y, hy, hh⟩ | hh
    · exact .inr ⟨y, h1 y hy, hh⟩
    · exact .inl hh
  · obtain ⟨S, hS⟩ := h2 hc
    exact ⟨S, List.mem_cons_of_mem _ hS⟩
theorem CgS.fm (h : CgS w base TB p q lc true true false x v) : ∃ ts S, Fm w v (oB x.1 24 zpm :: base) ts ∧ PIs v S q x.2.2 ∧ (∀ y ∈ TB, y ∈ ts) ∧ (lc = true → ∃ S, tP S p x.2.1 ∈ ts) ∧ tP S q x.2.2 ∈ ts := by
  obtain ⟨ts, F, h1, h2, h3⟩ := h
  obtain ⟨S, hS⟩ := h3 rfl
  exact ⟨ts, S, F, (F.k _ (.inr hS)).2.1, h1, h2, hS⟩
theorem CgS.fin (h : CgS w base TB p q lc true true true x v) : ∃ ts S, Fm w v (oB x.1 24 x.2.2 :: base) ts ∧ (∀ y ∈ TB, y ∈ ts) ∧ tP S q x.2.2 ∈ ts := by
  obtain ⟨ts, F, h1, h2, h3⟩ := h
  obtain ⟨S, hS⟩ := h3 rfl
  exact ⟨ts, S, F, h1, hS⟩
end
theorem zval24 (v : World) {o : Oper} {ρ : Operand → Value} (ho : o.op = .alloc 24) : (execOp ρ o).run Try.prog v = .ok (.value (.pointer (some ⟨v.heap.size, 0, none⟩))) (v.alloc (.cells zpm.toArray 24)) := by
  have hrun : (Instr.alloc 24 true (.tuple #[])).run Try.prog v = .ok (.pointer (some ⟨v.heap.size, 0, none⟩)) (v.alloc (.cells zpm.toArray 24)) := by
    simp [Instr.alloc, zero24, newVar, newRow, go_sem]
    rfl
  unfold execOp
  simp only [ho, Sem.run_bind, hrun, Result.andThen, Sem.run_pure]

section
variable {o : Oper} {x : Operand} {ρ : Operand → Value} {v : World}
theorem exec_fp26_1 {g : Nat} (ho : o.op = .fieldAddr 26 x 1) (hx : ρ x = .pointer (some ⟨g, 0, none⟩)) : (execOp ρ o).run Try.prog v = .ok (.value (.pointer (some ⟨g, 1, none⟩))) v := by
  unfold execOp
  simp [ho, hx, go_sem]
theorem exec_fp26_2 {g : Nat} (ho : o.op = .fieldAddr 26 x 2) (hx : ρ x = .pointer (some ⟨g, 0, none⟩)) : (execOp ρ o).run Try.prog v = .ok (.value (.pointer (some ⟨g, 2, none⟩))) v := by
  unfold execOp
  simp [ho, hx, go_sem]
end
set_option maxRecDepth 100000 in
set_option maxHeartbeats 8000000 in
theorem changes_w {w : World} {S : Nat → Prop} {p0 : Pm} {cs : List Value} (h : PIs w S p0 cs) (hS : ∀ g, S g → g < w.heap.size) (z y x0 : Int) : Calls Try.prog 3 #[.agg cs.toArray, .agg #[ci z, ci y, ci x0]] w fun e w' => e = .returned (.bool true) ∧ Mod [] w w' := by
  have FA := (Fm.nil w).arg (tP S p0 cs) (keeps_tP _ _ _) h hS
  have h5 := h.len
  obtain ⟨lg, hlg⟩ : ∃ x, p0.large = x := ⟨_, rfl⟩
  have HLG := Lib.hid hlg
  obtain ⟨k0, hk⟩ : ∃ k, z.emod 6 = k := ⟨_, rfl⟩
  have HK := Lib.hid hk
  have HK0 : Hid (0 ≤ k0 ∧ k0 < 6) := Lib.hid (by
    have h0 := Int.emod_nonneg z (show (6 : Int) ≠ 0 by omega)
    have h6 := Int.emod_lt_of_pos z (show (0 : Int) < 6 by omega)
    have hk2 : z % 6 = k0 := hk
    omega)
  obtain ⟨r, hr⟩ : ∃ r, chg k0 p0 y x0 = r := ⟨_, rfl⟩
  obtain ⟨r1, q0⟩ := r
  have HRR := Lib.hid hr
  obtain ⟨TB, hTB⟩ : ∃ TB, TB = [tP S p0 cs] := ⟨_, rfl⟩
  have HTS : Hid (tP S p0 cs ∈ TB) := Lib.hid (by rw [hTB]; exact List.mem_cons_self ..)
  rw [← hTB] at FA
  clear h hlg hk hr hTB
  cases lg
  case true =>
    go_enter Try.func3, Try.ntmps3
    go_wp2_with (first
      | (with_reducible refine fm_box FA (o := ⟨some 2, .box 24 (.tmp 0), _, _, _, _⟩) rfl 24 (.tmp 0) rfl cs rfl ?_; intro b2 w1 F1; clear FA)
      | (with_reducible refine fm_box F1 (o := ⟨some 3, .box 26 (.tmp 1), _, _, _, _⟩) rfl 26 (.tmp 1) rfl [ci z, ci y, ci x0] rfl ?_; intro b3 w2 F2; clear F1)
      | (go_at_call 7; refine (wakes_c w2).mono ?_; rintro e w3 ⟨rfl, m3⟩; have F3 := F2.call m3; clear F2 m3)
      | (with_reducible refine fm_load F3 1 rfl (o := ⟨some 11, .load 24 (.tmp 2), _, _, _, _⟩) rfl (.tmp 2) rfl rfl h5 ?_)
      | (go_at_call 8; refine (large_p (F3.k _ (.inr HTS.out)).2.1 _ HLG).mono ?_; rintro e w4 ⟨rfl, m4⟩; have F4 := F3.call m4; clear F3 m4))
    go_ret
    exact ⟨rfl, F4.m⟩
  go_enter Try.func3, Try.ntmps3
  go_wp2_with (first
    | (with_reducible refine fm_box FA (o := ⟨some 2, .box 24 (.tmp 0), _, _, _, _⟩) rfl 24 (.tmp 0) rfl cs rfl ?_; intro b2 w1 F1; clear FA)
    | (with_reducible refine fm_box F1 (o := ⟨some 3, .box 26 (.tmp 1), _, _, _, _⟩) rfl 26 (.tmp 1) rfl [ci z, ci y, ci x0] rfl ?_; intro b3 w2 F2; clear F1)
    | (go_at_call 7; refine (wakes_c w2).mono ?_; rintro e w3 ⟨rfl, m3⟩; have F3 := F2.call m3; clear F2 m3)
    | (with_reducible refine fm_load F3 1 rfl (o := ⟨some 11, .load 24 (.tmp 2), _, _, _, _⟩) rfl (.tmp 2) rfl rfl h5 ?_)
    | (go_at_call 8; refine (large_p (F3.k _ (.inr HTS.out)).2.1 _ HLG).mono ?_; rintro e w4 ⟨rfl, m4⟩; have F4 := F3.call m4; clear F3 m4))
  refine wp_region_upx (X := XC) (⟨0, [], []⟩) (fun x => [(14, .agg cs.toArray), (15, .agg x.2.1.toArray), (16, .agg #[ci z, ci y, ci x0]), (17, .tuple #[.agg x.2.2.toArray, .int .i64 r1]), (13, .tuple #[.agg x.2.2.toArray, .int .i64 r1]), (18, .agg x.2.2.toArray), (19, .int .i64 r1), (5, .pointer (some ⟨x.1, 0, none⟩)), (6, .int .i64 r1)]) 39 [14, 15, 16, 17, 13, 18, 19, 5, 6] rfl (fun _ => rfl) (by decide) (by kernel_rfl) (fun x lz v => CgS w [oB b3 26 [ci z, ci y, ci x0], oB b2 24 cs] TB p0 q0 (lz 1) (lz 3) (lz 7) (lz 8) x v) (by kernel_rfl) (CgS.begin (F4.call (Mod.drew [] _)) _) (by kernel_rfl) (by kernel_rfl) ?_ ?_
  · skip
    intro x lz T v j o hj hlj hdep hst hpar hgot hcl Kq hK
    have hjn : j < 10 := (Array.getElem?_eq_some_iff.1 hj).1
    obtain rfl | rfl | rfl | rfl | rfl | rfl | rfl | rfl | rfl | rfl : j = 0 ∨ j = 1 ∨ j = 2 ∨ j = 3 ∨ j = 4 ∨ j = 5 ∨ j = 6 ∨ j = 7 ∨ j = 8 ∨ j = 9 := by omega
    all_goals (have hj' := Option.some.inj (hj : some _ = some o); subst hj'; clear hj)
    · exact wp_ran rfl (exec_load rfl (eval_tmp ((hpar 2 rfl).trans rfl)) (run_loads (Cells.of_holds (hst.own (y := oB b2 24 cs) (by simp))) Try.underlying24 rfl (size24' h5))) (hK x _ _ (fun _ _ _ _ _ _ => rfl) (fun s hs => by cases hs; rfl) (by simpa using hst))
    · have n3 : lz 3 = false := (by cases hh : lz 3 with | false => rfl | true => exact absurd (hcl 3 _ rfl hh ⟨1, .data⟩ (by simp) rfl) (by rw [hlj]; simp))
      have n8 : lz 8 = false := (by cases hh : lz 8 with | false => rfl | true => exact absurd (hcl 8 _ rfl hh ⟨1, .phase⟩ (by simp) rfl) (by rw [hlj]; simp))
      rw [hlj, n3, n8] at hst
      obtain ⟨hP, hS⟩ := hst.std HTS.out
      refine wp_called rfl (exec_call1 rfl rfl (eval_tmp (hgot 0 _ 14 rfl (hdep ⟨0, .data⟩ (by simp) rfl) rfl)) (enters_of Try.func10 (by kernel_rfl) rfl)) ((copied_p hP hS HLG.out).mono ?_)
      rintro e v' ⟨cs1, rfl, hP1, m1⟩
      refine ⟨_, rfl, hK ⟨x.1, cs1, x.2.2⟩ _ _ (fun j' o' s' g1 g2 g3 => by
          have g4 : j' < 10 := (Array.getElem?_eq_some_iff.1 g1).1
          clear hpar hgot hdep hK
          obtain rfl | rfl | rfl | rfl | rfl | rfl | rfl | rfl | rfl | rfl : j' = 0 ∨ j' = 1 ∨ j' = 2 ∨ j' = 3 ∨ j' = 4 ∨ j' = 5 ∨ j' = 6 ∨ j' = 7 ∨ j' = 8 ∨ j' = 9 := by omega
          all_goals (cases g1; cases g3 <;> first | rfl | (rw [hlj] at g2; cases g2))) (fun s hs => by cases hs; rfl) ?_⟩
      simpa [n3, n8] using hst.copied hP1 m1
    · exact wp_ran rfl (exec_load rfl (eval_tmp ((hpar 3 rfl).trans rfl)) (run_loads (Cells.of_holds (hst.own (y := oB b3 26 [ci z, ci y, ci x0]) (by simp))) Try.underlying26 rfl (size26' _ _ _))) (hK x _ _ (fun _ _ _ _ _ _ => rfl) (fun s hs => by cases hs; rfl) (by simpa using hst))
    · have t1 : lz 1 = true := (hdep ⟨1, .data⟩ (by simp) rfl)
      have n4 : lz 4 = false := (by cases hh : lz 4 with | false => rfl | true => exact absurd (hcl 4 _ rfl hh ⟨3, .data⟩ (by simp) rfl) (by rw [hlj]; simp))
      have n5 : lz 5 = false := (by cases hh : lz 5 with | false => rfl | true => exact absurd (hcl 4 _ rfl (hcl 5 _ rfl hh ⟨4, .data⟩ (by simp) rfl) ⟨3, .data⟩ (by simp) rfl) (by rw [hlj]; simp))
      have n6 : lz 6 = false := (by cases hh : lz 6 with | false => rfl | true => exact absurd (hcl 4 _ rfl (hcl 6 _ rfl hh ⟨4, .data⟩ (by simp) rfl) ⟨3, .data⟩ (by simp) rfl) (by rw [hlj]; simp))
      have n8 : lz 8 = false := (by cases hh : lz 8 with | false => rfl | true => exact absurd (hcl 8 _ rfl hh ⟨3, .chain⟩ (by simp) rfl) (by rw [hlj]; simp))
      have n9 : lz 9 = false := (by cases hh : lz 9 with | false => rfl | true => exact absurd (hcl 9 _ rfl hh ⟨3, .phase⟩ (by simp) rfl) (by rw [hlj]; simp))
      rw [hlj, t1, n8] at hst
      obtain ⟨S1, hP, hS⟩ := hst.copy
      refine wp_called rfl (exec_call2 rfl rfl (eval_tmp (hgot 1 _ 15 rfl (hdep ⟨1, .data⟩ (by simp) rfl) rfl)) (eval_tmp (hgot 2 _ 16 rfl (hdep ⟨2, .data⟩ (by simp) rfl) rfl)) (enters_of Try.func9 (by kernel_rfl) rfl)) ((do_p hP hS z y x0 k0 HK).mono ?_)
      rw [HRR.out]
      rintro e v' ⟨cs1, rfl, hP1, m1⟩
      refine ⟨_, rfl, hK ⟨x.1, x.2.1, cs1⟩ _ _ (fun j' o' s' g1 g2 g3 => by
          have g4 : j' < 10 := (Array.getElem?_eq_some_iff.1 g1).1
          clear hpar hgot hdep hK
          obtain rfl | rfl | rfl | rfl | rfl | rfl | rfl | rfl | rfl | rfl : j' = 0 ∨ j' = 1 ∨ j' = 2 ∨ j' = 3 ∨ j' = 4 ∨ j' = 5 ∨ j' = 6 ∨ j' = 7 ∨ j' = 8 ∨ j' = 9 := by omega
          all_goals (cases g1; cases g3 <;> first | rfl | (rw [hlj] at g2; cases g2) | (rw [n4] at g2; cases g2) | (rw [n5] at g2; cases g2) | (rw [n6] at g2; cases g2) | (rw [n8] at g2; cases g2) | (rw [n9] at g2; cases g2))) (fun s hs => by cases hs; rfl) ?_⟩
      simpa [t1, n8] using hst.told hP1 (fun g hg => .inr hg) m1
    · exact wp_ran rfl (exec_move rfl (eval_tmp (hgot 3 _ 17 rfl (hdep ⟨3, .data⟩ (by simp) rfl) rfl))) (hK x _ _ (fun _ _ _ _ _ _ => rfl) (fun s hs => by cases hs; rfl) (by simpa using hst))
    · exact wp_ran rfl (exec_extract0 rfl (eval_tmp (hgot 4 _ 13 rfl (hdep ⟨4, .data⟩ (by simp) rfl) rfl))) (hK x _ _ (fun _ _ _ _ _ _ => rfl) (fun s hs => by cases hs; rfl) (by simpa using hst))
    · exact wp_ran rfl (exec_extract1 rfl (eval_tmp (hgot 4 _ 13 rfl (hdep ⟨4, .data⟩ (by simp) rfl) rfl))) (hK x _ _ (fun _ _ _ _ _ _ => rfl) (fun s hs => by cases hs; rfl) (by simpa using hst))
    · have n8 : lz 8 = false := (by cases hh : lz 8 with | false => rfl | true => exact absurd (hcl 8 _ rfl hh ⟨7, .data⟩ (by simp) rfl) (by rw [hlj]; simp))
      rw [hlj, n8] at hst
      refine wp_ran rfl (zval24 v rfl) (hK ⟨v.heap.size, x.2⟩ _ _ (fun j' o' s' g1 g2 g3 => by
          have g4 : j' < 10 := (Array.getElem?_eq_some_iff.1 g1).1
          clear hpar hgot hdep hK
          obtain rfl | rfl | rfl | rfl | rfl | rfl | rfl | rfl | rfl | rfl : j' = 0 ∨ j' = 1 ∨ j' = 2 ∨ j' = 3 ∨ j' = 4 ∨ j' = 5 ∨ j' = 6 ∨ j' = 7 ∨ j' = 8 ∨ j' = 9 := by omega
          all_goals (cases g1; cases g3 <;> first | rfl | (rw [hlj] at g2; cases g2) | (rw [n8] at g2; cases g2))) (fun s hs => by cases hs; rfl) ?_)
      simpa [n8] using hst.alloc
    · have tr : lz 3 = true := (hdep ⟨3, .chain⟩ (by simp) rfl)
      have ta : lz 7 = true := (hdep ⟨7, .data⟩ (by simp) rfl)
      have t1 : lz 1 = true := (hdep ⟨1, .phase⟩ (by simp) rfl)
      rw [hlj, t1, tr, ta] at hst
      obtain ⟨ts, S2, F1, hP, h1, h2, hS⟩ := hst.fm
      refine wp_storedO F1 0 rfl rfl rfl rfl (eval_tmp (hgot 7 _ 5 rfl (hdep ⟨7, .data⟩ (by simp) rfl) rfl)) (eval_tmp (hgot 5 _ 18 rfl (hdep ⟨5, .data⟩ (by simp) rfl) rfl)) hP.len rfl hP.one fun v' F2 => hK x _ _ (fun _ _ _ _ _ _ => rfl) (fun s hs => by cases hs) ?_
      have F3 : CgS w [oB b3 26 [ci z, ci y, ci x0], oB b2 24 cs] TB p0 q0 true true true true x v' := ⟨ts, F2, h1, h2, fun _ => ⟨S2, hS⟩⟩
      simpa [t1, tr, ta] using F3
    · exact wp_ran rfl (exec_assign rfl (eval_tmp (hgot 6 _ 19 rfl (hdep ⟨6, .data⟩ (by simp) rfl) rfl))) (hK x _ _ (fun _ _ _ _ _ _ => rfl) (fun s hs => by cases hs; rfl) (by simpa using hst))
  intro x lz v hlz hst
  rw [hlz 1 (by decide), hlz 3 (by decide), hlz 7 (by decide), hlz 8 (by decide)] at hst
  obtain ⟨TC, S5, F5, hTB5, hS5⟩ := hst.fin
  obtain ⟨b5, c4, c5⟩ := x
  simp only at F5 hS5
  have HT5 := Lib.hid hS5
  have HTC : Hid (tP S p0 cs ∈ TC) := Lib.hid (hTB5 _ HTS.out)
  clear hst hlz hS5 hTB5 F4
  simp only [setAll, Act.put, List.foldl_cons, List.foldl_nil, List.setIfInBounds_toArray, List.set_cons_succ, List.set_cons_zero]
  go_wp2_with fail
  refine wp_region_upx (X := XC) (⟨0, [], []⟩) (fun x => [(21, .agg cs.toArray), (22, .agg #[ci z, ci y, ci x0]), (23, ci k0), (24, .pointer (some ⟨b3, 1, none⟩)), (25, ci y), (26, .pointer (some ⟨b3, 2, none⟩)), (27, ci x0), (28, .tuple #[.agg x.2.2.toArray, .int .i64 r1]), (20, .tuple #[.agg x.2.2.toArray, .int .i64 r1]), (29, .agg x.2.2.toArray), (30, .int .i64 r1), (7, .pointer (some ⟨x.1, 0, none⟩)), (8, .int .i64 r1)]) 39 [21, 22, 23, 24, 25, 26, 27, 28, 20, 29, 30, 7, 8] rfl (fun _ => rfl) (by decide) (by kernel_rfl) (fun x lz v => CgS w [oB b5 24 c5, oB b3 26 [ci z, ci y, ci x0], oB b2 24 cs] TC p0 q0 false (lz 7) (lz 11) (lz 12) x v) (by kernel_rfl) (CgS.begin (F5.call (Mod.drew [] _)) _) (by kernel_rfl) (by kernel_rfl) ?_ ?_
  · skip
    intro x lz T v j o hj hlj hdep hst hpar hgot hcl Kq hK
    have hjn : j < 14 := (Array.getElem?_eq_some_iff.1 hj).1
    obtain rfl | rfl | rfl | rfl | rfl | rfl | rfl | rfl | rfl | rfl | rfl | rfl | rfl | rfl : j = 0 ∨ j = 1 ∨ j = 2 ∨ j = 3 ∨ j = 4 ∨ j = 5 ∨ j = 6 ∨ j = 7 ∨ j = 8 ∨ j = 9 ∨ j = 10 ∨ j = 11 ∨ j = 12 ∨ j = 13 := by omega
    all_goals (have hj' := Option.some.inj (hj : some _ = some o); subst hj'; clear hj)
    · exact wp_ran rfl (exec_load rfl (eval_tmp ((hpar 2 rfl).trans rfl)) (run_loads (Cells.of_holds (hst.own (y := oB b2 24 cs) (by simp))) Try.underlying24 rfl (size24' h5))) (hK x _ _ (fun _ _ _ _ _ _ => rfl) (fun s hs => by cases hs; rfl) (by simpa using hst))
    · exact wp_ran rfl (exec_load rfl (eval_tmp ((hpar 3 rfl).trans rfl)) (run_loads (Cells.of_holds (hst.own (y := oB b3 26 [ci z, ci y, ci x0]) (by simp))) Try.underlying26 rfl (size26' _ _ _))) (hK x _ _ (fun _ _ _ _ _ _ => rfl) (fun s hs => by cases hs; rfl) (by simpa using hst))
    · refine wp_called rfl (exec_call1 rfl rfl (eval_tmp (hgot 1 _ 22 rfl (hdep ⟨1, .data⟩ (by simp) rfl) rfl)) (enters_of Try.func12 (by kernel_rfl) rfl)) ((kind_c z y x0 k0 HK v).mono ?_)
      rintro e v' ⟨rfl, m1⟩
      exact ⟨_, rfl, hK x _ _ (fun _ _ _ _ _ _ => rfl) (fun s hs => by cases hs; rfl) (by simpa using hst.call m1)⟩
    · exact wp_ran rfl (exec_fp26_1 rfl (eval_tmp ((hpar 3 rfl).trans rfl))) (hK x _ _ (fun _ _ _ _ _ _ => rfl) (fun s hs => by cases hs; rfl) (by simpa using hst))
    · exact wp_ran rfl (exec_load rfl (eval_tmp (hgot 3 _ 24 rfl (hdep ⟨3, .data⟩ (by simp) rfl) rfl)) (run_load1 Try.underlying3 rfl ((hst.own (y := oB b3 26 [ci z, ci y, ci x0]) (by simp) : Holds v b3 26 _).cell 1))) (hK x _ _ (fun _ _ _ _ _ _ => rfl) (fun s hs => by cases hs; rfl) (by simpa using hst))
    · exact wp_ran rfl (exec_fp26_2 rfl (eval_tmp ((hpar 3 rfl).trans rfl))) (hK x _ _ (fun _ _ _ _ _ _ => rfl) (fun s hs => by cases hs; rfl) (by simpa using hst))
    · exact wp_ran rfl (exec_load rfl (eval_tmp (hgot 5 _ 26 rfl (hdep ⟨5, .data⟩ (by simp) rfl) rfl)) (run_load1 Try.underlying3 rfl ((hst.own (y := oB b3 26 [ci z, ci y, ci x0]) (by simp) : Holds v b3 26 _).cell 2))) (hK x _ _ (fun _ _ _ _ _ _ => rfl) (fun s hs => by cases hs; rfl) (by simpa using hst))
    · have n8 : lz 8 = false := (by cases hh : lz 8 with | false => rfl | true => exact absurd (hcl 8 _ rfl hh ⟨7, .data⟩ (by simp) rfl) (by rw [hlj]; simp))
      have n9 : lz 9 = false := (by cases hh : lz 9 with | false => rfl | true => exact absurd (hcl 8 _ rfl (hcl 9 _ rfl hh ⟨8, .data⟩ (by simp) rfl) ⟨7, .data⟩ (by simp) rfl) (by rw [hlj]; simp))
      have n10 : lz 10 = false := (by cases hh : lz 10 with | false => rfl | true => exact absurd (hcl 8 _ rfl (hcl 10 _ rfl hh ⟨8, .data⟩ (by simp) rfl) ⟨7, .data⟩ (by simp) rfl) (by rw [hlj]; simp))
      have n12 : lz 12 = false := (by cases hh : lz 12 with | false => rfl | true => exact absurd (hcl 12 _ rfl hh ⟨7, .chain⟩ (by simp) rfl) (by rw [hlj]; simp))
      have n13 : lz 13 = false := (by cases hh : lz 13 with | false => rfl | true => exact absurd (hcl 13 _ rfl hh ⟨7, .phase⟩ (by simp) rfl) (by rw [hlj]; simp))
      rw [hlj, n12] at hst
      obtain ⟨hP, hS⟩ := hst.std HTC.out
      refine wp_called rfl (exec_call4 rfl rfl (eval_tmp (hgot 0 _ 21 rfl (hdep ⟨0, .data⟩ (by simp) rfl) rfl)) (eval_tmp (hgot 2 _ 23 rfl (hdep ⟨2, .data⟩ (by simp) rfl) rfl)) (eval_tmp (hgot 4 _ 25 rfl (hdep ⟨4, .data⟩ (by simp) rfl) rfl)) (eval_tmp (hgot 6 _ 27 rfl (hdep ⟨6, .data⟩ (by simp) rfl) rfl)) (enters_of Try.func11 (by kernel_rfl) rfl)) ((rchange_p hP hS k0 y x0 HK0.out.1 HK0.out.2).mono ?_)
      rw [HRR.out]
      rintro e v' ⟨cs1, T1, rfl, hP1, hT1, m1⟩
      refine ⟨_, rfl, hK ⟨x.1, x.2.1, cs1⟩ _ _ (fun j' o' s' g1 g2 g3 => by
          have g4 : j' < 14 := (Array.getElem?_eq_some_iff.1 g1).1
          clear hpar hgot hdep hK
          obtain rfl | rfl | rfl | rfl | rfl | rfl | rfl | rfl | rfl | rfl | rfl | rfl | rfl | rfl : j' = 0 ∨ j' = 1 ∨ j' = 2 ∨ j' = 3 ∨ j' = 4 ∨ j' = 5 ∨ j' = 6 ∨ j' = 7 ∨ j' = 8 ∨ j' = 9 ∨ j' = 10 ∨ j' = 11 ∨ j' = 12 ∨ j' = 13 := by omega
          all_goals (cases g1; cases g3 <;> first | rfl | (rw [hlj] at g2; cases g2) | (rw [n8] at g2; cases g2) | (rw [n9] at g2; cases g2) | (rw [n10] at g2; cases g2) | (rw [n12] at g2; cases g2) | (rw [n13] at g2; cases g2))) (fun s hs => by cases hs; rfl) ?_⟩
      simpa [n12] using hst.told hP1 (fun g hg => (hT1 g hg).imp (fun h => ⟨_, HTC.out, h⟩) id) m1
    · exact wp_ran rfl (exec_move rfl (eval_tmp (hgot 7 _ 28 rfl (hdep ⟨7, .data⟩ (by simp) rfl) rfl))) (hK x _ _ (fun _ _ _ _ _ _ => rfl) (fun s hs => by cases hs; rfl) (by simpa using hst))
    · exact wp_ran rfl (exec_extract0 rfl (eval_tmp (hgot 8 _ 20 rfl (hdep ⟨8, .data⟩ (by simp) rfl) rfl))) (hK x _ _ (fun _ _ _ _ _ _ => rfl) (fun s hs => by cases hs; rfl) (by simpa using hst))
    · exact wp_ran rfl (exec_extract1 rfl (eval_tmp (hgot 8 _ 20 rfl (hdep ⟨8, .data⟩ (by simp) rfl) rfl))) (hK x _ _ (fun _ _ _ _ _ _ => rfl) (fun s hs => by cases hs; rfl) (by simpa using hst))
    · have n12 : lz 12 = false := (by cases hh : lz 12 with | false => rfl | true => exact absurd (hcl 12 _ rfl hh ⟨11, .data⟩ (by simp) rfl) (by rw [hlj]; simp))
      rw [hlj, n12] at hst
      refine wp_ran rfl (zval24 v rfl) (hK ⟨v.heap.size, x.2⟩ _ _ (fun j' o' s' g1 g2 g3 => by
          have g4 : j' < 14 := (Array.getElem?_eq_some_iff.1 g1).1
          clear hpar hgot hdep hK
          obtain rfl | rfl | rfl | rfl | rfl | rfl | rfl | rfl | rfl | rfl | rfl | rfl | rfl | rfl : j' = 0 ∨ j' = 1 ∨ j' = 2 ∨ j' = 3 ∨ j' = 4 ∨ j' = 5 ∨ j' = 6 ∨ j' = 7 ∨ j' = 8 ∨ j' = 9 ∨ j' = 10 ∨ j' = 11 ∨ j' = 12 ∨ j' = 13 := by omega
          all_goals (cases g1; cases g3 <;> first | rfl | (rw [hlj] at g2; cases g2) | (rw [n12] at g2; cases g2))) (fun s hs => by cases hs; rfl) ?_)
      simpa [n12] using hst.alloc
    · have tr : lz 7 = true := (hdep ⟨7, .chain⟩ (by simp) rfl)
      have ta : lz 11 = true := (hdep ⟨11, .data⟩ (by simp) rfl)
      rw [hlj, tr, ta] at hst
      obtain ⟨ts, S2, F1, hP, h1, h2, hS⟩ := hst.fm
      refine wp_storedO F1 0 rfl rfl rfl rfl (eval_tmp (hgot 11 _ 7 rfl (hdep ⟨11, .data⟩ (by simp) rfl) rfl)) (eval_tmp (hgot 9 _ 29 rfl (hdep ⟨9, .data⟩ (by simp) rfl) rfl)) hP.len rfl hP.one fun v' F2 => hK x _ _ (fun _ _ _ _ _ _ => rfl) (fun s hs => by cases hs) ?_
      have F3 : CgS w [oB b5 24 c5, oB b3 26 [ci z, ci y, ci x0], oB b2 24 cs] TC p0 q0 false true true true x v' := ⟨ts, F2, h1, h2, fun _ => ⟨S2, hS⟩⟩
      simpa [tr, ta] using F3
    · exact wp_ran rfl (exec_assign rfl (eval_tmp (hgot 10 _ 30 rfl (hdep ⟨10, .data⟩ (by simp) rfl) rfl))) (hK x _ _ (fun _ _ _ _ _ _ => rfl) (fun s hs => by cases hs; rfl) (by simpa using hst))
  intro x lz v hlz hst
  rw [hlz 7 (by decide), hlz 11 (by decide), hlz 12 (by decide)] at hst
  obtain ⟨ts7, S7, F7, hTC7, hS7⟩ := hst.fin
  obtain ⟨b7, c6, c7⟩ := x
  simp only at F7 hS7
  have hP7 : PIs v S7 q0 c7 := (F7.k _ (.inr hS7)).2.1
  have hP5 : PIs v S5 q0 c5 := (F7.k _ (.inr (hTC7 _ HT5.out))).2.1
  have h75 := hP7.len
  have h55 := hP5.len
  have HP7 := Lib.hid hP7
  have HP5 := Lib.hid hP5
  have HSM : Hid (sameB q0 q0 = true) := Lib.hid ((sameB_iff _ _).2 rfl)
  have er : (r1 == r1) = true := beq_self_eq_true r1
  clear hst hlz hP7 hP5 hS7 hTC7
  simp only [setAll, Act.put, List.foldl_cons, List.foldl_nil, List.setIfInBounds_toArray, List.set_cons_succ, List.set_cons_zero]
  go_wp2_with (first
    | (with_reducible refine fm_loadG F7 1 rfl (o := ⟨some 35, .load 24 (.tmp 5), _, _, _, _⟩) (by with_unfolding_all rfl) (.tmp 5) rfl rfl h55 ?_)
    | (with_reducible refine fm_loadG F7 0 rfl (o := ⟨some 36, .load 24 (.tmp 7), _, _, _, _⟩) (by with_unfolding_all rfl) (.tmp 7) rfl rfl h75 ?_)
    | (go_at_call 13; refine (rsame_p HP5.out HP7.out _ HSM).mono ?_; rintro ee w9 ⟨rfl, m9⟩; have F9 := F7.call m9; clear m9))
  go_ret
  exact ⟨rfl, F9.m⟩
theorem permChanges_w {W : World} {p : Pm} {cs : List Value} (h : PIs W (Btw 0 W.heap.size) p cs) (z y x : Int) : Calls Try.prog 3 #[.agg cs.toArray, .agg #[ci z, ci y, ci x]] W fun e w' => e = .returned (.bool true) ∧ Mod [] W w' :=
  changes_w h (fun g hg => hg.2) z y x
end Go.Proofs.Ytaadmpainikfpaa
