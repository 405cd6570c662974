/-
  Next, the document's next; kind, large, copied. My own work.
-/
import Derived.Test.YtaadmpainikfpaaWq
namespace Go.Proofs.Ytaadmpainikfpaa
open Go.RowKit Go.Shelf
attribute [local go_sem] Oper.semAt_some
set_option linter.unusedVariables false
set_option linter.unusedSimpArgs false
set_option maxHeartbeats 4000000 in
theorem next_p {w : World} {S : Nat → Prop} {p : Pm} {cs : List Value} (h : PIs w S p cs) (hS : ∀ g, S g → g < w.heap.size) : Calls Try.prog 26 #[.agg cs.toArray] w (ResR (if p.rightB = true then begun p else (210, zp)) w) := by
  have h5 := h.len
  have h1 := h.one
  have FA := (Fm.nil w).arg (tP S p cs) (keeps_tP _ _ _) h hS
  have BIG : Hid (∀ (v : World) (b1 b2 : Nat), Fm w v [oB b2 24 zpm, oB b1 24 cs] [tP S p cs] → Calls Try.prog 48 #[.agg cs.toArray, .func (.func 44) #[] #[]] v (ResR (if p.rightB = true then begun p else (210, zp)) v)) := Lib.hid fun v b1 b2 F =>
    changed44_c (F.s 0 rfl : PIs v S p cs) F.anew begun (fun v2 b os hPO hr => begin_c hPO hr.e1 hr.e8) begun_zp
  obtain ⟨r, hr⟩ : ∃ r, (if p.rightB = true then begun p else (210, zp)) = r := ⟨_, rfl⟩
  rw [hr] at BIG ⊢
  clear h hr
  go_enter Try.func26, Try.ntmps26
  go_wp2_with (first
    | (with_reducible refine fm_box FA (o := ⟨some 1, .box 24 (.tmp 0), _, _, _, _⟩) rfl 24 (.tmp 0) rfl cs rfl ?_; intro b1 w1 F1; clear FA)
    | (with_reducible refine fm_alloc F1 (o := ⟨some 2, .alloc 24, _, _, _, _⟩) rfl 24 rfl _ zero24 ?_; intro b2 w2 F2; clear F1)
    | (with_reducible refine fm_load F2 1 rfl (o := ⟨some 4, .load 24 (.tmp 1), _, _, _, _⟩) rfl (.tmp 1) rfl rfl h5 ?_)
    | (go_at_call 48; refine (BIG.out w2 b1 b2 F2).mono ?_
       rintro e w6 ⟨cs6, rfl, hP6, m6⟩
       have F6 := F2.tell hP6 m6
       have h65 := hP6.len
       have h61 := hP6.one
       have hlo := F2.m.size
       clear F2 m6 hP6 BIG)
    | (with_reducible refine fm_store F6 0 rfl (o := ⟨none, .store 24 (.tmp 2) (.tmp 6), _, _, _, _⟩) rfl (.tmp 2) (.tmp 6) rfl rfl cs6 rfl rfl h65 rfl h61 ?_; intro w7 F7; clear F6))
  refine bodyPost_ret (results_ct rfl _ _ b2 _ (.int .i64 r.1) rfl rfl (F7.ret 0 rfl) h65) rfl ?_
  exact ⟨cs6, rfl, F7.ends fun g hg => Nat.le_trans hlo hg.1, F7.m⟩
theorem ones5 (o e : Int) (A1 : Option Addr) (n1 c1 : Nat) (A2 : Option Addr) (n2 c2 : Nat) (A3 : Option Addr) (n3 c3 : Nat) : ∀ v ∈ [ci o, ci e, .slice A1 n1 c1, .slice A2 n2 c2, .slice A3 n3 c3], v.oneCell' = true := by
  intro v hv
  simp only [List.mem_cons, List.not_mem_nil, or_false] at hv
  rcases hv with rfl | rfl | rfl | rfl | rfl <;> rfl
/-- Told, and some of it lies where the argument's rows do. -/
def ResS (S : Nat → Prop) (r : Int × Pm) (w : World) (e : Ending) (w' : World) : Prop := ∃ cs T, e = .returned (.tuple #[.agg cs.toArray, .int .i64 r.1]) ∧ PIs w' T r.2 cs ∧ (∀ g, T g → S g ∨ (w.heap.size ≤ g ∧ g < w'.heap.size)) ∧ Mod [] w w'
set_option maxHeartbeats 4000000 in
/-- The document's next. -/
theorem rnext_p {w : World} {S : Nat → Prop} {p : Pm} {cs : List Value} (h : PIs w S p cs) (hS : ∀ g, S g → g < w.heap.size) (h1 : 1 ≤ p.ep) (h8 : p.ep ≤ 8) : Calls Try.prog 27 #[.agg cs.toArray] w (ResS S (begun p) w) := by
  have FA := (Fm.nil w).arg (tP S p cs) (keeps_tP _ _ _) h hS
  obtain ⟨A1, c1, A2, c2, A3, c3, rfl, h⟩ := h
  have HH := Lib.hid h
  obtain ⟨o, e, l1, l2, l3⟩ := p
  simp only [pmc] at FA h1 h8 ⊢
  clear h
  by_cases he : e = 8
  · subst he
    have hr : begun ⟨o, 8, l1, l2, l3⟩ = (212, zp) := rfl
    rw [hr]
    go_enter Try.func27, Try.ntmps27
    go_wp2_with (first
      | (with_reducible refine fm_box FA (o := ⟨some 1, .box 24 (.tmp 0), _, _, _, _⟩) rfl 24 (.tmp 0) rfl [ci o, ci 8, .slice A1 l1.length c1, .slice A2 l2.length c2, .slice A3 l3.length c3] rfl ?_; intro b1 w1 F1; clear FA)
      | (with_reducible refine fm_alloc F1 (o := ⟨some 2, .alloc 24, _, _, _, _⟩) rfl 24 rfl _ zero24 ?_; intro b2 w2 F2; clear F1; obtain ⟨q0, q1, q2, q3, q4⟩ := cells5 (F2.blk 1 rfl))
      | (with_reducible refine fm_store F2 0 rfl (o := ⟨none, .store 24 (.tmp 2) (.tmp 7), _, _, _, _⟩) rfl (.tmp 2) (.tmp 7) rfl rfl zpm rfl rfl rfl rfl (PIs.one (PIs.zero w (fun _ => True))) ?_; intro w4 F4; clear F2))
    refine bodyPost_ret (results_ct rfl _ _ b2 _ (.int .i64 212) rfl rfl (F4.ret 0 rfl) rfl) rfl ?_
    exact ⟨zpm, fun _ => False, rfl, PIs.zero _ _, fun _ hg => hg.elim, F4.m⟩
  · have hr : begun ⟨o, e, l1, l2, l3⟩ = (0, ⟨o, e + 1, l1, l2, l3⟩) := by rw [begun, if_neg he]
    rw [hr]
    have e1 : (e == 8) = false := beq_eq_false_iff_ne.2 he
    clear he hr
    go_enter Try.func27, Try.ntmps27
    go_wp2_with (first
      | (with_reducible refine fm_box FA (o := ⟨some 1, .box 24 (.tmp 0), _, _, _, _⟩) rfl 24 (.tmp 0) rfl [ci o, ci e, .slice A1 l1.length c1, .slice A2 l2.length c2, .slice A3 l3.length c3] rfl ?_; intro b1 w1 F1; clear FA)
      | (with_reducible refine fm_alloc F1 (o := ⟨some 2, .alloc 24, _, _, _, _⟩) rfl 24 rfl _ zero24 ?_; intro b2 w2 F2; clear F1; obtain ⟨q0, q1, q2, q3, q4⟩ := cells5 (F2.blk 1 rfl))
      | (with_reducible refine fm_store1 F2 1 1 rfl (by simp) 3 (ci (e + 1)) rfl one3 (o := ⟨none, .store 3 (.tmp 11) (.tmp 10), _, _, _, _⟩) rfl (.tmp 11) (.tmp 10) rfl rfl rfl rfl ?_; intro w3 F3; clear F2 q0 q1 q2 q3 q4)
      | (with_reducible refine fm_load F3 1 rfl (o := ⟨some 12, .load 24 (.tmp 1), _, _, _, _⟩) rfl (.tmp 1) rfl rfl rfl ?_)
      | (with_reducible refine fm_store F3 0 rfl (o := ⟨none, .store 24 (.tmp 2) (.tmp 12), _, _, _, _⟩) rfl (.tmp 2) (.tmp 12) rfl rfl [ci o, ci (e + 1), .slice A1 l1.length c1, .slice A2 l2.length c2, .slice A3 l3.length c3] rfl rfl rfl rfl (ones5 _ _ _ _ _ _ _ _ _ _ _) ?_; intro w4 F4; clear F3))
    refine bodyPost_ret (results_ct rfl _ _ b2 _ (.int .i64 0) rfl rfl (F4.ret 0 rfl) rfl) rfl ?_
    exact ⟨_, S, rfl, ⟨A1, c1, A2, c2, A3, c3, rfl, HH.out.rr.call F4.m, HH.out.ww.call F4.m, HH.out.gg.call F4.m, HH.out.s1, HH.out.s2, HH.out.s3⟩, fun g hg => .inl hg, F4.m⟩
/-- kind. -/
theorem kind_c (z y x : Int) (k : Int) (hk : Hid (z.emod 6 = k)) (w : World) : Calls Try.prog 12 #[.agg #[ci z, ci y, ci x]] w fun e w' => e = .returned (ci k) ∧ Mod [] w w' := by
  have R : ∀ (v : World) (ρ : Operand → Value) (a : Int) {o : Oper} {x y : Operand}, o.op = .binOp .rem 3 x y 3 → ρ x = .int .i64 a → ρ y = .int .i64 6 → (execOp ρ o).run Try.prog v = .ok (.value (.int .i64 (a.tmod 6))) v := fun v ρ a o x y ho hx hy => by
    unfold execOp
    simp [ho, hx, hy, go_sem]
  have A : ∀ (v : World) (ρ : Operand → Value) {o : Oper} {x y : Operand}, o.op = .binOp .add 3 x y 3 → ρ x = .int .i64 (z.tmod 6) → ρ y = .int .i64 6 → (execOp ρ o).run Try.prog v = .ok (.value (.int .i64 (z.tmod 6 + 6))) v := fun v ρ o x y ho hx hy => by
    have h1 := Int.tmod_lt_of_pos z (show (0 : Int) < 6 by omega)
    have h2 : -6 < z.tmod 6 := by
      have := Int.neg_lt_of_neg_lt (show -6 < z.tmod 6 by
        rcases Int.le_total 0 z with h | h
        · have := Int.tmod_nonneg 6 h; omega
        · have := Int.tmod_lt_of_pos (-z) (show (0 : Int) < 6 by omega)
          rw [Int.neg_tmod] at this
          omega)
      omega
    exact exec_add ho hx hy (by rw [IntKind.wrap_i64]; omega)
  have hkk : (z.tmod 6 + 6).tmod 6 = k := by
    rw [← hk.out]
    rcases Int.le_total 0 z with h | h
    · rw [Int.tmod_eq_emod_of_nonneg h]
      have := Int.emod_nonneg z (show (6 : Int) ≠ 0 by omega)
      rw [Int.tmod_eq_emod_of_nonneg (by omega)]
      show (z % 6 + 6) % 6 = z % 6
      omega
    · obtain ⟨y, rfl⟩ : ∃ y, z = -y := ⟨-z, by omega⟩
      have hy : 0 ≤ y := by omega
      rw [Int.neg_tmod, Int.tmod_eq_emod_of_nonneg hy]
      have := Int.emod_nonneg y (show (6 : Int) ≠ 0 by omega)
      have := Int.emod_lt_of_pos y (show (0 : Int) < 6 by omega)
      rw [Int.tmod_eq_emod_of_nonneg (by omega)]
      show (-(y % 6) + 6) % 6 = -y % 6
      omega
  have HK := Lib.hid hkk
  clear hkk hk
  go_enter Try.func12, Try.ntmps12
  go_wp2_with (first
    | (with_reducible refine wpList_ran (o := ⟨some 5, _, _, _, _, _⟩) rfl (.int .i64 (z.tmod 6)) (R _ _ _ rfl rfl rfl) ?_)
    | (with_reducible refine wpList_ran (o := ⟨some 6, _, _, _, _, _⟩) rfl (.int .i64 (z.tmod 6 + 6)) (A _ _ rfl rfl rfl) ?_)
    | (with_reducible refine wpList_ran (o := ⟨some 7, _, _, _, _, _⟩) rfl (.int .i64 ((z.tmod 6 + 6).tmod 6)) (R _ _ _ rfl rfl rfl) ?_))
  go_ret
  exact ⟨by rw [← HK.out]; rfl, Mod.alloc [] w _⟩
def Pm.large (p : Pm) : Bool := decide (100 < p.rd.length) || (decide (100 < p.wr.length) || decide (100 < p.gp.length))
theorem large_p {w : World} {S : Nat → Prop} {p : Pm} {cs : List Value} (h : PIs w S p cs) (b : Bool) (hb : Hid (p.large = b)) : Calls Try.prog 8 #[.agg cs.toArray] w fun e w' => e = .returned (.bool b) ∧ Mod [] w w' := by
  obtain ⟨A1, c1, A2, c2, A3, c3, rfl, h⟩ := h
  obtain ⟨o, e, l1, l2, l3⟩ := p
  have k1 := h.rr.cap
  have k2 := h.ww.cap
  have k3 := h.gg.cap
  have j1 := h.rr.big
  have j2 := h.ww.big
  have j3 := h.gg.big
  have hr := hb.out
  simp only [Pm.large] at hr k1 k2 k3
  simp only [pmc]
  obtain ⟨n1, hn1⟩ : ∃ n, n = l1.length := ⟨_, rfl⟩
  obtain ⟨n2, hn2⟩ : ∃ n, n = l2.length := ⟨_, rfl⟩
  obtain ⟨n3, hn3⟩ : ∃ n, n = l3.length := ⟨_, rfl⟩
  rw [← hn1, ← hn2, ← hn3] at hr
  rw [← hn1] at k1 ⊢
  rw [← hn2] at k2 ⊢
  rw [← hn3] at k3 ⊢
  clear hn1 hn2 hn3 h hb
  by_cases g1 : 100 < n1
  case pos =>
    have d1 : decide (100 < (n1 : Int)) = true := decide_eq_true (by omega)
    obtain rfl : true = b := by rw [← hr]; simp [g1]
    clear hr
    go_enter Try.func8, Try.ntmps8
    go_wp2_with fail
    go_ret
    exact ⟨rfl, Mod.alloc [] w _⟩
  have d1 : decide (100 < (n1 : Int)) = false := decide_eq_false (by omega)
  by_cases g2 : 100 < n2
  case pos =>
    have d2 : decide (100 < (n2 : Int)) = true := decide_eq_true (by omega)
    obtain rfl : true = b := by rw [← hr]; simp [g2]
    clear hr
    go_enter Try.func8, Try.ntmps8
    go_wp2_with fail
    go_ret
    exact ⟨rfl, Mod.alloc [] w _⟩
  have d2 : decide (100 < (n2 : Int)) = false := decide_eq_false (by omega)
  by_cases g3 : 100 < n3
  case pos =>
    have d3 : decide (100 < (n3 : Int)) = true := decide_eq_true (by omega)
    obtain rfl : true = b := by rw [← hr]; simp [g3]
    clear hr
    go_enter Try.func8, Try.ntmps8
    go_wp2_with fail
    go_ret
    exact ⟨rfl, Mod.alloc [] w _⟩
  have d3 : decide (100 < (n3 : Int)) = false := decide_eq_false (by omega)
  obtain rfl : false = b := by rw [← hr]; simp [g1, g2, g3]
  clear hr
  go_enter Try.func8, Try.ntmps8
  go_wp2_with fail
  go_ret
  exact ⟨rfl, Mod.alloc [] w _⟩
end Go.Proofs.Ytaadmpainikfpaa
