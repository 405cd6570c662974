/-
  PermGoes: the walk. My own work.
-/
import Derived.Test.YtaadmpainikfpaaGa
import Derived.Test.YtaadmpainikfpaaOpc
namespace Go.Proofs.Ytaadmpainikfpaa
open Go.RowKit Go.Shelf
attribute [local go_sem] Oper.semAt_some
set_option linter.unusedVariables false
set_option linter.unusedSimpArgs false
def act3 (z y x : Int) : List Value := [ci z, ci y, ci x]
theorem zero26' (w : World) : (zeroValue 26).run Try.prog w = .ok (.agg [ci 0, ci 0, ci 0].toArray) w := by kernel_rfl
theorem exec_fp24_1 {o : Oper} {x : Operand} {ρ : Operand → Value} {v : World} {g : Nat} (ho : o.op = .fieldAddr 24 x 1) (hx : ρ x = .pointer (some ⟨g, 0, none⟩)) : (execOp ρ o).run Try.prog v = .ok (.value (.pointer (some ⟨g, 1, none⟩))) v := by
  unfold execOp
  simp [ho, hx, go_sem]
theorem size26o (z y x : Int) : (Try.prog.info? 26).map (·.size) = some [ci z, ci y, ci x].length := by kernel_rfl
section
variable {w0 w : World} {os ts : List Th} {ops : Array Oper} {rest : List Oper} {o : Oper} {a : Act} {Q : Exit → Act → World → Prop} {z y x : Int}
theorem fm_load26 (F : Fm w0 w os ts) (i : Nat) {b : Nat} (hi : os[i]? = some (oB b 26 [ci z, ci y, ci x])) (hgd : o.guard = none) (X : Operand) (ho : o.op = .load 26 X) (hx : a.eval X = .pointer (some ⟨b, 0, none⟩))
    (h : wpList Try.prog ops Q rest (a.put o.dst (.agg #[ci z, ci y, ci x])) w) : wpList Try.prog ops Q (o :: rest) a w :=
  wpList_loads hgd 26 X ho b 0 [ci z, ci y, ci x] hx (Cells.of_holds (F.blk i hi)) _ Try.underlying26 rfl (size26o z y x) _ rfl h
theorem fm_load26G (F : Fm w0 w os ts) (i : Nat) {b : Nat} (hi : os[i]? = some (oB b 26 [ci z, ci y, ci x])) (hw : Region.wanted o (yielded ops a.tmps) = true) (X : Operand) (ho : o.op = .load 26 X) (hx : a.eval X = .pointer (some ⟨b, 0, none⟩))
    (h : wpList Try.prog ops Q rest (a.put o.dst (.agg #[ci z, ci y, ci x])) w) : wpList Try.prog ops Q (o :: rest) a w :=
  fm_ranW hw _ w (exec_load ho hx (run_loads (Cells.of_holds (F.blk i hi)) Try.underlying26 rfl (size26o z y x))) h
theorem fm_store26 (F : Fm w0 w os ts) (i : Nat) {b : Nat} {z0 y0 x0 : Int} (hi : os[i]? = some (oB b 26 [ci z0, ci y0, ci x0])) (hgd : o.guard = none) (X Y : Operand) (ho : o.op = .store 26 X Y) (hdst : o.dst = none) (hx : a.eval X = .pointer (some ⟨b, 0, none⟩)) (hy : a.eval Y = .agg #[ci z, ci y, ci x])
    (h : ∀ v, Fm w0 v (os.set i (oB b 26 [ci z, ci y, ci x])) ts → wpList Try.prog ops Q rest a v) : wpList Try.prog ops Q (o :: rest) a w :=
  wpList_storesAll hgd 26 X Y ho hdst b [ci z, ci y, ci x] hx _ hy rfl 26 [ci z0, ci y0, ci x0] (F.blk i hi) rfl (by intro v hv; simp only [List.mem_cons, List.not_mem_nil, or_false] at hv; rcases hv with rfl | rfl | rfl <;> rfl) (size26o z y x) fun v hv m zz => h v (F.turn m i hi (fun g hg => List.mem_singleton.1 hg) _ (keeps_oB _ _ _) hv fun g hg => ⟨.inl hg, by have : g = b := hg; have := hv.lt; omega⟩)
end
theorem Fm.only {w0 w : World} {os ts : List Th} (F : Fm w0 w os ts) (i j : Nat) {x y : Th} (hi : os[i]? = some x) (hj : ts[j]? = some y) : Fm w0 w [x] [y] := by
  obtain ⟨h1, e1⟩ := List.getElem?_eq_some_iff.1 hi
  obtain ⟨h2, e2⟩ := List.getElem?_eq_some_iff.1 hj
  have hx : x ∈ os := by rw [← e1]; exact List.getElem_mem h1
  have hy : y ∈ ts := by rw [← e2]; exact List.getElem_mem h2
  refine ⟨F.m, fun u hu => ?_, fun u hu => ?_, List.pairwise_singleton _ _, fun u hu v hv => ?_⟩
  · simp only [List.mem_singleton] at hu
    rcases hu with rfl | rfl
    · exact F.k _ (.inl hx)
    · exact F.k _ (.inr hy)
  · obtain rfl := List.mem_singleton.1 hu
    exact F.lo _ hx
  · obtain rfl := List.mem_singleton.1 hu
    obtain rfl := List.mem_singleton.1 hv
    exact F.e _ hx _ hy
theorem Fm.onlyM {w0 w : World} {os ts : List Th} (F : Fm w0 w os ts) {x y : Th} (hx : x ∈ os) (hy : y ∈ ts) : Fm w0 w [x] [y] := by
  obtain ⟨i, hi, rfl⟩ := List.getElem_of_mem hx
  obtain ⟨j, hj, rfl⟩ := List.getElem_of_mem hy
  exact F.only i j (List.getElem?_eq_getElem hi) (List.getElem?_eq_getElem hj)
theorem PIs.c0 {w : World} {S : Nat → Prop} {p : Pm} {cs : List Value} (h : PIs w S p cs) : cs[0]? = some (ci p.own) := by obtain ⟨A1, c1, A2, c2, A3, c3, rfl, h⟩ := h; rfl
theorem PIs.c1 {w : World} {S : Nat → Prop} {p : Pm} {cs : List Value} (h : PIs w S p cs) : cs[1]? = some (ci p.ep) := by obtain ⟨A1, c1, A2, c2, A3, c3, rfl, h⟩ := h; rfl
theorem BelR.none (w : World) : BelR w Option.none 0 0 [] := ⟨rfl, Nat.le_refl _, by omega, Cells.nil _ _, fun a h => (by cases h)⟩
/-- The permissions that stand at b. -/
def PGo (w v : World) (b : Nat) (p : Pm) : Prop := ∃ cs S, Fm w v [oB b 24 cs] [tP S p cs]
set_option maxRecDepth 100000 in
set_option maxHeartbeats 4000000 in
theorem goes_w {w : World} (own0 : Int) (A : Option Addr) (n c : Nat) (hA : ActR w A n) (hcn : n ≤ c) (hc9 : c ≤ maxLen) (B : Option Addr) (nb cb : Nat) (m : List (Int × Int)) (hm : BelR w B nb cb m) : Calls Try.prog 5 #[ci own0, .slice A n c, .slice B nb cb] w fun e w' => e = .returned (.bool true) ∧ Mod [] w w' := by
  have FA := Fm.nil w
  have hcap := hm.cap
  have hbig := hm.big
  have HM := Lib.hid hm
  have HA := Lib.hid hA
  have hc8 : c ≤ 9223372036854775807 := by unfold maxLen at hc9; omega
  clear hm hA hc9
  obtain ⟨mx, hmx⟩ : ∃ x : Int, x = max own0 0 := ⟨_, rfl⟩
  have hmx0 : 0 ≤ mx := by omega
  obtain ⟨o, ho⟩ : ∃ o, o = mx.tmod 6 + 1 := ⟨_, rfl⟩
  have ho1 : 1 ≤ o ∧ o ≤ 6 := by
    rw [ho, Int.tmod_eq_emod_of_nonneg hmx0]
    omega
  have NW : Hid (∀ v, Calls Try.prog 14 #[ci o] v (ResR (0, ⟨o, 1, [], [], []⟩) v)) := Lib.hid fun v => by
    have h := new_c o v
    have f : newR o = (0, ⟨o, 1, [], [], []⟩) := by
      unfold newR upTo
      rw [decide_eq_true ho1.1, decide_eq_true ho1.2]
      rfl
    rw [f] at h
    exact h
  have HR0 : Hid ((Pm.mk o 1 [] [] []).Right) := Lib.hid (new_right ho1.1 ho1.2)
  have MX : ∀ (v : World) (ρ : Operand → Value) {op : Oper} {x y : Operand}, op.op = .call { callee := .builtin .max, args := #[x, y], argTypes := #[3, 3] } → ρ x = .int .i64 own0 → ρ y = .int .i64 0 → (execOp ρ op).run Try.prog v = .ok (.value (.int .i64 mx)) v := fun v ρ op x y h1 hx hy => by
    unfold execOp
    simp [h1, hx, hy, go_sem, hmx]
  have RM : ∀ (v : World) (ρ : Operand → Value) {op : Oper} {x y : Operand}, op.op = .binOp .rem 3 x y 3 → ρ x = .int .i64 mx → ρ y = .int .i64 6 → (execOp ρ op).run Try.prog v = .ok (.value (.int .i64 (mx.tmod 6))) v := fun v ρ op x y h1 hx hy => by
    unfold execOp
    simp [h1, hx, hy, go_sem]
  obtain ⟨md, hmd⟩ : ∃ d, d = mx.tmod 6 := ⟨_, rfl⟩
  rw [← hmd] at ho RM
  have AD : ∀ (v : World) (ρ : Operand → Value) {op : Oper} {x y : Operand}, op.op = .binOp .add 3 x y 3 → ρ x = .int .i64 md → ρ y = .int .i64 1 → (execOp ρ op).run Try.prog v = .ok (.value (.int .i64 o)) v := fun v ρ op x y h1 hx hy => by
    subst ho
    exact exec_add h1 hx hy (by rw [IntKind.wrap_i64]; omega)
  have HMX := Lib.hid MX
  have HRM := Lib.hid RM
  have HAD := Lib.hid AD
  clear hmx ho ho1 hmx0 hmd MX RM AD
  by_cases g : 100 < nb
  case pos =>
    have dg : decide (100 < (nb : Int)) = true := decide_eq_true (by omega)
    go_enter Try.func5, Try.ntmps5
    go_wp2_with (first
      | (go_at_call 7; refine (wakes_c w).mono ?_; rintro e w1 ⟨rfl, m1⟩; have F1 := FA.call m1; clear FA m1))
    go_ret
    exact ⟨rfl, F1.m⟩
  have dg : decide (100 < (nb : Int)) = false := decide_eq_false (by omega)
  go_enter Try.func5, Try.ntmps5
  go_wp2_with (first
    | (go_at_call 7; refine (wakes_c w).mono ?_; rintro e w1 ⟨rfl, m1⟩; have F1 := FA.call m1; clear FA m1)
    | (with_reducible refine wpList_ran (o := ⟨some 22, _, _, _, _, _⟩) rfl (.int .i64 mx) (HMX.out _ _ rfl rfl rfl) ?_)
    | (with_reducible refine wpList_ran (o := ⟨some 23, _, _, _, _, _⟩) rfl (.int .i64 md) (HRM.out _ _ rfl rfl rfl) ?_)
    | (with_reducible refine wpList_ran (o := ⟨some 24, _, _, _, _, _⟩) rfl (.int .i64 o) (HAD.out _ _ rfl rfl rfl) ?_)
    | (go_at_call 14; refine (NW.out w1).mono ?_
       rintro e w2 ⟨cs2, rfl, hP2, m2⟩
       have F2 := (F1.put m2 (tP _ _ cs2) (keeps_tP _ _ _) hP2 (fun g hg => .inl hg))
       have h52 := hP2.len
       have h12 := hP2.one
       clear F1 m2 hP2)
    | (with_reducible refine fm_alloc F2 (o := ⟨some 7, .alloc 24, _, _, _, _⟩) rfl 24 rfl _ zero24 ?_; intro b7 w3 F3; clear F2)
    | (with_reducible refine fm_store F3 0 rfl (o := ⟨none, .store 24 (.tmp 7) (.tmp 26), _, _, _, _⟩) rfl (.tmp 7) (.tmp 26) rfl rfl cs2 rfl rfl h52 rfl h12 ?_; intro w4 F4; clear F3))
  have K0 : Hid (PGo w w4 b7 ⟨o, 1, [], [], []⟩) := Lib.hid ⟨_, _, F4⟩
  clear F4 HMX HRM HAD NW h52 h12
  go_loopw [32] (fun i wr => ∃ (j : Nat) (p : Pm), i = .int .i64 j ∧ j ≤ n ∧ Hid (p.Right) ∧ Hid (PGo w wr b7 p)) (fun i _ => n - (intOf i).toNat)
  case atStart => exact ⟨0, _, rfl, Nat.zero_le _, HR0, K0⟩
  case round =>
  obtain ⟨j, p, rfl, hj, hR, hk⟩ := hrel
  clear HR0 K0
  by_cases hjn : j < n
  case neg =>
    obtain ⟨cs, S, F0⟩ := hk.out
    go_wp2_with fail
    go_ret
    exact ⟨rfl, F0.m⟩
  obtain ⟨cs, S, F0⟩ := hk.out
  obtain ⟨ga, fa, z, y, x0, hAe, hc3⟩ := (HA.out.call F0.m) j hjn
  subst hAe
  have HC3 := Lib.hid hc3
  have h5 := (F0.s 0 rfl : PIs wr S p cs).len
  clear hk hc3
  by_cases h40 : j = 40
  case pos =>
    have e40 : ((j : Int) == 40) = true := beq_iff_eq.2 (by omega)
    clear h40
    go_wp2_with (first
      | (with_reducible refine wpList_loads (o := ⟨some 36, .load 26 (.tmp 35), _, _, _, _⟩) rfl 26 (.tmp 35) rfl ga (fa + j * 3) [ci z, ci y, ci x0] rfl HC3.out _ Try.underlying26 rfl (size26o z y x0) _ rfl ?_)
      | (with_reducible refine fm_alloc F0 (o := ⟨some 10, .alloc 26, _, _, _, _⟩) rfl 26 rfl _ zero26' ?_; intro b10 wa Fa; clear F0)
      | (with_reducible refine fm_store26 Fa 0 rfl (o := ⟨none, .store 26 (.tmp 10) (.tmp 36), _, _, _, _⟩) rfl (.tmp 10) (.tmp 36) rfl rfl rfl rfl ?_; intro wb F; clear Fa))
    go_ret
    exact ⟨rfl, F.m⟩
  have e40 : ((j : Int) == 40) = false := beq_eq_false_iff_ne.2 (by omega)
  clear h40
  obtain ⟨k, hkk⟩ : ∃ k, z.emod 6 = k := ⟨_, rfl⟩
  have HK := Lib.hid hkk
  have hk0 : 0 ≤ k ∧ k < 6 := by
    have h0 := Int.emod_nonneg z (show (6 : Int) ≠ 0 by omega)
    have h6 := Int.emod_lt_of_pos z (show (0 : Int) < 6 by omega)
    have hk2 : z % 6 = k := hkk
    omega
  have DO : Hid (∀ v, PIs v S p cs → (∀ g, S g → g < v.heap.size) → Calls Try.prog 9 #[.agg cs.toArray, .agg #[ci z, ci y, ci x0]] v (ResR (chg k p y x0) v)) := Lib.hid fun v hp hs => do_p hp hs z y x0 k HK
  obtain ⟨r, hr⟩ : ∃ r, chg k p y x0 = r := ⟨_, rfl⟩
  have hz : r.1 ≠ 0 → r.2 = zp := by rw [← hr]; exact chg_zp
  have hgo : r.1 = 0 → Goes k x0 p r.2 := fun h0 => chg_goes hk0.1 hk0.2 (by rw [hr]; exact Prod.ext h0 rfl)
  rw [hr] at DO
  obtain ⟨r1, q⟩ := r
  simp only at hz hgo
  have HZ := Lib.hid hz
  have HGO := Lib.hid hgo
  have HK0 := Lib.hid hk0
  clear hkk hk0 hr hz hgo
  by_cases hr1 : r1 = 0
  case neg =>
    have e1 : (r1 == 0) = false := beq_eq_false_iff_ne.2 hr1
    have hq := HZ.out hr1
    subst hq
    have HB : Hid (zp.rightB = false) := Lib.hid (by decide)
    clear hr1
    go_wp2_with (first
      | (with_reducible refine wpList_loads (o := ⟨some 36, .load 26 (.tmp 35), _, _, _, _⟩) rfl 26 (.tmp 35) rfl ga (fa + j * 3) [ci z, ci y, ci x0] rfl HC3.out _ Try.underlying26 rfl (size26o z y x0) _ rfl ?_)
      | (with_reducible refine fm_alloc F0 (o := ⟨some 10, .alloc 26, _, _, _, _⟩) rfl 26 rfl _ zero26' ?_; intro b10 wa Fa; clear F0)
      | (with_reducible refine fm_store26 Fa 0 rfl (o := ⟨none, .store 26 (.tmp 10) (.tmp 36), _, _, _, _⟩) rfl (.tmp 10) (.tmp 36) rfl rfl rfl rfl ?_; intro wb F; clear Fa)
      | (with_reducible refine fm_load F 1 rfl (o := ⟨some 40, .load 24 (.tmp 7), _, _, _, _⟩) rfl (.tmp 7) rfl rfl h5 ?_)
      | (with_reducible refine fm_load26 F 0 rfl (o := ⟨some 41, .load 26 (.tmp 10), _, _, _, _⟩) rfl (.tmp 10) rfl rfl ?_)
      | (go_at_call 9; refine (DO.out _ (F.s 0 rfl) (F.slt 0 rfl)).mono ?_
         rintro e wc ⟨ds, rfl, hP2, m2⟩
         have F2 := (F.put m2 (tP _ _ ds) (keeps_tP _ _ _) hP2 (fun g hg => .inl hg))
         have h5q := hP2.len
         have h1q := hP2.one
         clear F m2 hP2)
      | (with_reducible refine fm_alloc F2 (o := ⟨some 11, .alloc 24, _, _, _, _⟩) rfl 24 rfl _ zero24 ?_; intro b11 wd F3; clear F2)
      | (with_reducible refine fm_store F3 0 rfl (o := ⟨none, .store 24 (.tmp 11) (.tmp 43), _, _, _, _⟩) rfl (.tmp 11) (.tmp 43) rfl rfl ds rfl rfl h5q rfl h1q ?_; intro we F; clear F3)
      | (with_reducible refine fm_load F 0 rfl (o := ⟨some 47, .load 24 (.tmp 11), _, _, _, _⟩) rfl (.tmp 11) rfl rfl h5q ?_)
      | (go_at_call 15; refine (check_p (F.s 0 rfl) _ HB).mono ?_; rintro e wf ⟨rfl, mf⟩; have F4 := F.call mf; clear F mf))
    exact ⟨⟨j + 1, p, by go_num, by omega, hR, Lib.hid ⟨cs, S, (F4.only 2 1 rfl rfl)⟩⟩, by simp [intOf]; omega⟩
  subst hr1
  have hG := HGO.out rfl
  have HG := Lib.hid hG
  clear HZ HGO hG
  have e1 : ((0 : Int) == 0) = true := rfl
  by_cases kck2 : k = 2
  case pos =>
    as_aux_lemma =>
      subst kck2
      go_wp2_with (first
        | (with_reducible refine wpList_loads (o := ⟨some 36, .load 26 (.tmp 35), _, _, _, _⟩) rfl 26 (.tmp 35) rfl ga (fa + j * 3) [ci z, ci y, ci x0] rfl HC3.out _ Try.underlying26 rfl (size26o z y x0) _ rfl ?_)
        | (with_reducible refine fm_alloc F0 (o := ⟨some 10, .alloc 26, _, _, _, _⟩) rfl 26 rfl _ zero26' ?_; intro b10 wa Fa; clear F0)
        | (with_reducible refine fm_store26 Fa 0 rfl (o := ⟨none, .store 26 (.tmp 10) (.tmp 36), _, _, _, _⟩) rfl (.tmp 10) (.tmp 36) rfl rfl rfl rfl ?_; intro wb F; clear Fa)
        | (with_reducible refine fm_load F 1 rfl (o := ⟨some 40, .load 24 (.tmp 7), _, _, _, _⟩) rfl (.tmp 7) rfl rfl h5 ?_)
        | (with_reducible refine fm_load26 F 0 rfl (o := ⟨some 41, .load 26 (.tmp 10), _, _, _, _⟩) rfl (.tmp 10) rfl rfl ?_)
        | (go_at_call 9; refine (DO.out _ (F.s 0 rfl) (F.slt 0 rfl)).mono ?_
           rintro e wc ⟨ds, rfl, hP2, m2⟩
           have F2 := (F.put m2 (tP _ _ ds) (keeps_tP _ _ _) hP2 (fun g hg => .inl hg))
           have h5q := hP2.len
           have h1q := hP2.one
           clear F m2 hP2)
        | (with_reducible refine fm_alloc F2 (o := ⟨some 11, .alloc 24, _, _, _, _⟩) rfl 24 rfl _ zero24 ?_; intro b11 wd F3; clear F2)
        | (with_reducible refine fm_store F3 0 rfl (o := ⟨none, .store 24 (.tmp 11) (.tmp 43), _, _, _, _⟩) rfl (.tmp 11) (.tmp 43) rfl rfl ds rfl rfl h5q rfl h1q ?_; intro we F; clear F3)
        | (with_reducible refine fm_load26 F 1 rfl (o := ⟨some 50, .load 26 (.tmp 10), _, _, _, _⟩) rfl (.tmp 10) rfl rfl ?_)
        | (with_reducible refine fm_load26G F 1 rfl (o := ⟨some 54, .load 26 (.tmp 10), _, _, _, _⟩) (by with_unfolding_all rfl) (.tmp 10) rfl rfl ?_)
        | (go_at_call 12; with_reducible refine Calls.mono (kind_c z y x0 _ HK _) ?_; rintro e wz ⟨rfl, mz⟩; replace F := F.call mz; clear mz))
      have hQ := F.s 0 rfl
      have hP := F.s 1 rfl
      have HP0 : Hid (cs[0]? = some (ci p.own)) := Lib.hid (PIs.c0 hP)
      have HP1 : Hid (cs[1]? = some (ci p.ep)) := Lib.hid (PIs.c1 hP)
      have HQ0 : Hid (ds[0]? = some (ci p.own)) := Lib.hid (by rw [← HG.out.own]; exact PIs.c0 hQ)
      have HQ1 : Hid (ds[1]? = some (ci q.ep)) := Lib.hid (PIs.c1 hQ)
      have HBQ : Hid (q.rightB = true) := Lib.hid ((Pm.right_iff q).2 HG.out.right)
      have hpe := hR.out.e1
      have hpe8 := hR.out.e8
      have hqe := HG.out.ep
      rw [if_pos (by omega)] at hqe
      obtain ⟨pe, hpe0⟩ : ∃ e, e = p.ep := ⟨_, rfl⟩
      obtain ⟨qe, hqe0⟩ : ∃ e, e = q.ep := ⟨_, rfl⟩
      rw [← hpe0] at HP1 hpe hpe8 hqe
      rw [← hqe0] at HQ1 hqe
      have HNE : Hid ((!(qe == pe)) = true) := Lib.hid (by simp; omega)
      have HGT : Hid (decide (pe < qe) = true) := Lib.hid (by simp; omega)
      have HADD : Hid (IntKind.i64.wrap (pe + 1) = qe) := Lib.hid (by rw [IntKind.wrap_i64] <;> omega)
      obtain ⟨Sq, TB, F', HTQ, HTP⟩ : ∃ Sq TB, Fm w _ [oB b11 24 ds, oB b10 26 [ci z, ci y, ci x0], oB b7 24 cs] TB ∧ Hid (tP Sq q ds ∈ TB) ∧ Hid (tP S p cs ∈ TB) := ⟨_, _, F, Lib.hid (List.mem_cons_self ..), Lib.hid (List.mem_cons_of_mem _ (List.mem_cons_self ..))⟩
      clear F hQ hP hpe hpe8 hqe hpe0 hqe0
      have F := F'
      clear F' 
      refine wp_region_upx (X := XC) (⟨0, [], []⟩) (fun x => [(58, .agg ds.toArray), (59, .int .i64 0), (60, .bool false), (61, .bool false), (62, .pointer (some ⟨b11, 0, none⟩)), (63, ci p.own), (64, .pointer (some ⟨b7, 0, none⟩)), (65, ci p.own), (66, .bool false), (67, .bool false), (68, .bool false), (69, .pointer (some ⟨b11, 1, none⟩)), (70, ci qe), (71, .pointer (some ⟨b7, 1, none⟩)), (72, ci pe), (73, .bool true), (74, .bool true), (75, .pointer (some ⟨b11, 1, none⟩)), (76, ci qe), (77, .pointer (some ⟨b7, 1, none⟩)), (78, ci pe), (79, ci qe), (80, .bool false), (81, .bool false), (82, .bool false), (83, .bool false), (84, .pointer (some ⟨b11, 1, none⟩)), (85, ci qe), (86, .pointer (some ⟨b7, 1, none⟩)), (87, ci pe), (88, .bool true), (89, .bool true), (90, .bool true), (91, undef), (92, undef), (93, undef), (94, .bool true), (95, .bool false), (96, .bool false)]) 186 [58, 59, 60, 61, 62, 63, 64, 65, 66, 67, 68, 69, 70, 71, 72, 73, 74, 75, 76, 77, 78, 79, 80, 81, 82, 83, 84, 85, 86, 87, 88, 89, 90, 91, 92, 93, 94, 95, 96] rfl (fun _ => rfl) (by decide) (by kernel_rfl) (fun x lz v => CgS w [oB b11 24 ds, oB b10 26 [ci z, ci y, ci x0], oB b7 24 cs] TB p p false false false false x v) (by kernel_rfl) (CgS.begin (F.call (Mod.drew [] _)) _) (by kernel_rfl) (by kernel_rfl) ?_ ?_
      · skip
        intro x lz T v j o hj hlj hdep hst hpar hgot hcl Kq hK
        have hjn : j < 39 := (Array.getElem?_eq_some_iff.1 hj).1
        obtain rfl | rfl | rfl | rfl | rfl | rfl | rfl | rfl | rfl | rfl | rfl | rfl | rfl | rfl | rfl | rfl | rfl | rfl | rfl | rfl | rfl | rfl | rfl | rfl | rfl | rfl | rfl | rfl | rfl | rfl | rfl | rfl | rfl | rfl | rfl | rfl | rfl | rfl | rfl : j = 0 ∨ j = 1 ∨ j = 2 ∨ j = 3 ∨ j = 4 ∨ j = 5 ∨ j = 6 ∨ j = 7 ∨ j = 8 ∨ j = 9 ∨ j = 10 ∨ j = 11 ∨ j = 12 ∨ j = 13 ∨ j = 14 ∨ j = 15 ∨ j = 16 ∨ j = 17 ∨ j = 18 ∨ j = 19 ∨ j = 20 ∨ j = 21 ∨ j = 22 ∨ j = 23 ∨ j = 24 ∨ j = 25 ∨ j = 26 ∨ j = 27 ∨ j = 28 ∨ j = 29 ∨ j = 30 ∨ j = 31 ∨ j = 32 ∨ j = 33 ∨ j = 34 ∨ j = 35 ∨ j = 36 ∨ j = 37 ∨ j = 38 := by omega
        all_goals (have hj' := Option.some.inj (hj : some _ = some o); subst hj'; clear hj)
        · exact wp_ran rfl (exec_load rfl (eval_tmp ((hpar 11 rfl).trans rfl)) (run_loads (Cells.of_holds (hst.own (y := oB b11 24 ds) (by simp))) Try.underlying24 rfl (size24' h5q))) (hK x _ _ (fun _ _ _ _ _ _ => rfl) (fun s hs => by cases hs; rfl) (by simpa using hst))
        · obtain ⟨hP, hS⟩ := hst.std HTQ.out
          refine wp_called rfl (exec_call1 rfl rfl (eval_tmp (hgot 0 _ 58 rfl (hdep ⟨0, .data⟩ (by simp) rfl) rfl)) (enters_of Try.func15 (by kernel_rfl) rfl)) ((check_p hP true HBQ).mono ?_)
          rintro e v' ⟨rfl, m1⟩
          exact ⟨_, rfl, hK x _ _ (fun _ _ _ _ _ _ => rfl) (fun s hs => by cases hs; rfl) (by simpa using hst.call m1)⟩
        · exact wp_ran rfl (exec_nei rfl rfl (eval_tmp (hgot 1 _ 59 rfl (hdep ⟨1, .data⟩ (by simp) rfl) rfl)) rfl) (hK x _ _ (fun _ _ _ _ _ _ => rfl) (fun s hs => by cases hs; rfl) (by simpa using hst))
        · exact wp_ran rfl (exec_move rfl (eval_tmp (hgot 2 _ 60 rfl (hdep ⟨2, .data⟩ (by simp) rfl) rfl))) (hK x _ _ (fun _ _ _ _ _ _ => rfl) (fun s hs => by cases hs; rfl) (by simpa using hst))
        · exact wp_ranW (wanted_yes rfl rfl rfl (hgot 3 _ 61 rfl (hdep ⟨3, .guard⟩ (by simp) rfl) rfl)) (exec_fp24_0 rfl (eval_tmp ((hpar 11 rfl).trans rfl))) (hK x _ _ (fun _ _ _ _ _ _ => rfl) (fun s hs => by cases hs; rfl) (by simpa using hst))
        · exact wp_ranW (wanted_yes rfl rfl rfl (hgot 3 _ 61 rfl (hdep ⟨3, .guard⟩ (by simp) rfl) rfl)) (exec_load rfl (eval_tmp (hgot 4 _ 62 rfl (hdep ⟨4, .data⟩ (by simp) rfl) rfl)) (run_load1 Try.underlying3 rfl (((hst.own (y := oB b11 24 ds) (by simp) : Holds v b11 24 _).cell 0).trans HQ0.out))) (hK x _ _ (fun _ _ _ _ _ _ => rfl) (fun s hs => by cases hs; rfl) (by simpa using hst))
        · exact wp_ranW (wanted_yes rfl rfl rfl (hgot 3 _ 61 rfl (hdep ⟨3, .guard⟩ (by simp) rfl) rfl)) (exec_fp24_0 rfl (eval_tmp ((hpar 7 rfl).trans rfl))) (hK x _ _ (fun _ _ _ _ _ _ => rfl) (fun s hs => by cases hs; rfl) (by simpa using hst))
        · exact wp_ranW (wanted_yes rfl rfl rfl (hgot 3 _ 61 rfl (hdep ⟨3, .guard⟩ (by simp) rfl) rfl)) (exec_load rfl (eval_tmp (hgot 6 _ 64 rfl (hdep ⟨6, .data⟩ (by simp) rfl) rfl)) (run_load1 Try.underlying3 rfl (((hst.own (y := oB b7 24 cs) (by simp) : Holds v b7 24 _).cell 0).trans HP0.out))) (hK x _ _ (fun _ _ _ _ _ _ => rfl) (fun s hs => by cases hs; rfl) (by simpa using hst))
        · exact wp_ranW (wanted_yes rfl rfl rfl (hgot 3 _ 61 rfl (hdep ⟨3, .guard⟩ (by simp) rfl) rfl)) (exec_nei (r := false) (by simp) rfl (eval_tmp (hgot 5 _ 63 rfl (hdep ⟨5, .data⟩ (by simp) rfl) rfl)) (eval_tmp (hgot 7 _ 65 rfl (hdep ⟨7, .data⟩ (by simp) rfl) rfl))) (hK x _ _ (fun _ _ _ _ _ _ => rfl) (fun s hs => by cases hs; rfl) (by simpa using hst))
        · exact wp_ran rfl (exec_pick rfl (eval_tmp (hgot 3 _ 61 rfl (hdep ⟨3, .data⟩ (by simp) rfl) rfl)) rfl (eval_tmp (hgot 8 _ 66 rfl (hdep ⟨8, .data⟩ (by simp) rfl) rfl)) rfl) (hK x _ _ (fun _ _ _ _ _ _ => rfl) (fun s hs => by cases hs; rfl) (by simpa using hst))
        · exact wp_ran rfl (exec_move rfl (eval_tmp (hgot 9 _ 67 rfl (hdep ⟨9, .data⟩ (by simp) rfl) rfl))) (hK x _ _ (fun _ _ _ _ _ _ => rfl) (fun s hs => by cases hs; rfl) (by simpa using hst))
        · exact wp_ranW (wanted_yes rfl rfl rfl (hgot 10 _ 68 rfl (hdep ⟨10, .guard⟩ (by simp) rfl) rfl)) (exec_fp24_1 rfl (eval_tmp ((hpar 11 rfl).trans rfl))) (hK x _ _ (fun _ _ _ _ _ _ => rfl) (fun s hs => by cases hs; rfl) (by simpa using hst))
        · exact wp_ranW (wanted_yes rfl rfl rfl (hgot 10 _ 68 rfl (hdep ⟨10, .guard⟩ (by simp) rfl) rfl)) (exec_load rfl (eval_tmp (hgot 11 _ 69 rfl (hdep ⟨11, .data⟩ (by simp) rfl) rfl)) (run_load1 Try.underlying3 rfl (((hst.own (y := oB b11 24 ds) (by simp) : Holds v b11 24 _).cell 1).trans HQ1.out))) (hK x _ _ (fun _ _ _ _ _ _ => rfl) (fun s hs => by cases hs; rfl) (by simpa using hst))
        · exact wp_ranW (wanted_yes rfl rfl rfl (hgot 10 _ 68 rfl (hdep ⟨10, .guard⟩ (by simp) rfl) rfl)) (exec_fp24_1 rfl (eval_tmp ((hpar 7 rfl).trans rfl))) (hK x _ _ (fun _ _ _ _ _ _ => rfl) (fun s hs => by cases hs; rfl) (by simpa using hst))
        · exact wp_ranW (wanted_yes rfl rfl rfl (hgot 10 _ 68 rfl (hdep ⟨10, .guard⟩ (by simp) rfl) rfl)) (exec_load rfl (eval_tmp (hgot 13 _ 71 rfl (hdep ⟨13, .data⟩ (by simp) rfl) rfl)) (run_load1 Try.underlying3 rfl (((hst.own (y := oB b7 24 cs) (by simp) : Holds v b7 24 _).cell 1).trans HP1.out))) (hK x _ _ (fun _ _ _ _ _ _ => rfl) (fun s hs => by cases hs; rfl) (by simpa using hst))
        · exact wp_ranW (wanted_yes rfl rfl rfl (hgot 10 _ 68 rfl (hdep ⟨10, .guard⟩ (by simp) rfl) rfl)) (exec_nei HNE.out rfl (eval_tmp (hgot 12 _ 70 rfl (hdep ⟨12, .data⟩ (by simp) rfl) rfl)) (eval_tmp (hgot 14 _ 72 rfl (hdep ⟨14, .data⟩ (by simp) rfl) rfl))) (hK x _ _ (fun _ _ _ _ _ _ => rfl) (fun s hs => by cases hs; rfl) (by simpa using hst))
        · exact wp_ranW (wanted_yes rfl rfl rfl (hgot 10 _ 68 rfl (hdep ⟨10, .chain⟩ (by simp) rfl) rfl)) (exec_move rfl (eval_tmp (hgot 15 _ 73 rfl (hdep ⟨15, .data⟩ (by simp) rfl) rfl))) (hK x _ _ (fun _ _ _ _ _ _ => rfl) (fun s hs => by cases hs; rfl) (by simpa using hst))
        · exact wp_ranW (wanted_yes rfl rfl rfl (hgot 16 _ 74 rfl (hdep ⟨16, .guard⟩ (by simp) rfl) rfl)) (exec_fp24_1 rfl (eval_tmp ((hpar 11 rfl).trans rfl))) (hK x _ _ (fun _ _ _ _ _ _ => rfl) (fun s hs => by cases hs; rfl) (by simpa using hst))
        · exact wp_ranW (wanted_yes rfl rfl rfl (hgot 16 _ 74 rfl (hdep ⟨16, .guard⟩ (by simp) rfl) rfl)) (exec_load rfl (eval_tmp (hgot 17 _ 75 rfl (hdep ⟨17, .data⟩ (by simp) rfl) rfl)) (run_load1 Try.underlying3 rfl (((hst.own (y := oB b11 24 ds) (by simp) : Holds v b11 24 _).cell 1).trans HQ1.out))) (hK x _ _ (fun _ _ _ _ _ _ => rfl) (fun s hs => by cases hs; rfl) (by simpa using hst))
        · exact wp_ranW (wanted_yes rfl rfl rfl (hgot 16 _ 74 rfl (hdep ⟨16, .guard⟩ (by simp) rfl) rfl)) (exec_fp24_1 rfl (eval_tmp ((hpar 7 rfl).trans rfl))) (hK x _ _ (fun _ _ _ _ _ _ => rfl) (fun s hs => by cases hs; rfl) (by simpa using hst))
        · exact wp_ranW (wanted_yes rfl rfl rfl (hgot 16 _ 74 rfl (hdep ⟨16, .guard⟩ (by simp) rfl) rfl)) (exec_load rfl (eval_tmp (hgot 19 _ 77 rfl (hdep ⟨19, .data⟩ (by simp) rfl) rfl)) (run_load1 Try.underlying3 rfl (((hst.own (y := oB b7 24 cs) (by simp) : Holds v b7 24 _).cell 1).trans HP1.out))) (hK x _ _ (fun _ _ _ _ _ _ => rfl) (fun s hs => by cases hs; rfl) (by simpa using hst))
        · exact wp_ranW (wanted_yes rfl rfl rfl (hgot 16 _ 74 rfl (hdep ⟨16, .guard⟩ (by simp) rfl) rfl)) (exec_add rfl (eval_tmp (hgot 20 _ 78 rfl (hdep ⟨20, .data⟩ (by simp) rfl) rfl)) rfl HADD.out) (hK x _ _ (fun _ _ _ _ _ _ => rfl) (fun s hs => by cases hs; rfl) (by simpa using hst))
        · exact wp_ranW (wanted_yes rfl rfl rfl (hgot 16 _ 74 rfl (hdep ⟨16, .guard⟩ (by simp) rfl) rfl)) (exec_nei (r := false) (by simp) rfl (eval_tmp (hgot 18 _ 76 rfl (hdep ⟨18, .data⟩ (by simp) rfl) rfl)) (eval_tmp (hgot 21 _ 79 rfl (hdep ⟨21, .data⟩ (by simp) rfl) rfl))) (hK x _ _ (fun _ _ _ _ _ _ => rfl) (fun s hs => by cases hs; rfl) (by simpa using hst))
        · exact wp_ranW (wanted_yes rfl rfl rfl (hgot 10 _ 68 rfl (hdep ⟨10, .guard⟩ (by simp) rfl) rfl)) (exec_pick rfl (eval_tmp (hgot 16 _ 74 rfl (hdep ⟨16, .data⟩ (by simp) rfl) rfl)) (eval_tmp (hgot 22 _ 80 rfl (hdep ⟨22, .data⟩ (by simp) rfl) rfl)) rfl rfl) (hK x _ _ (fun _ _ _ _ _ _ => rfl) (fun s hs => by cases hs; rfl) (by simpa using hst))
        · exact wp_ran rfl (exec_pick rfl (eval_tmp (hgot 10 _ 68 rfl (hdep ⟨10, .data⟩ (by simp) rfl) rfl)) rfl (eval_tmp (hgot 23 _ 81 rfl (hdep ⟨23, .data⟩ (by simp) rfl) rfl)) rfl) (hK x _ _ (fun _ _ _ _ _ _ => rfl) (fun s hs => by cases hs; rfl) (by simpa using hst))
        · exact wp_ran rfl (exec_move rfl (eval_tmp (hgot 24 _ 82 rfl (hdep ⟨24, .data⟩ (by simp) rfl) rfl))) (hK x _ _ (fun _ _ _ _ _ _ => rfl) (fun s hs => by cases hs; rfl) (by simpa using hst))
        · exact wp_ranW (wanted_yes rfl rfl rfl (hgot 25 _ 83 rfl (hdep ⟨25, .guard⟩ (by simp) rfl) rfl)) (exec_fp24_1 rfl (eval_tmp ((hpar 11 rfl).trans rfl))) (hK x _ _ (fun _ _ _ _ _ _ => rfl) (fun s hs => by cases hs; rfl) (by simpa using hst))
        · exact wp_ranW (wanted_yes rfl rfl rfl (hgot 25 _ 83 rfl (hdep ⟨25, .guard⟩ (by simp) rfl) rfl)) (exec_load rfl (eval_tmp (hgot 26 _ 84 rfl (hdep ⟨26, .data⟩ (by simp) rfl) rfl)) (run_load1 Try.underlying3 rfl (((hst.own (y := oB b11 24 ds) (by simp) : Holds v b11 24 _).cell 1).trans HQ1.out))) (hK x _ _ (fun _ _ _ _ _ _ => rfl) (fun s hs => by cases hs; rfl) (by simpa using hst))
        · exact wp_ranW (wanted_yes rfl rfl rfl (hgot 25 _ 83 rfl (hdep ⟨25, .guard⟩ (by simp) rfl) rfl)) (exec_fp24_1 rfl (eval_tmp ((hpar 7 rfl).trans rfl))) (hK x _ _ (fun _ _ _ _ _ _ => rfl) (fun s hs => by cases hs; rfl) (by simpa using hst))
        · exact wp_ranW (wanted_yes rfl rfl rfl (hgot 25 _ 83 rfl (hdep ⟨25, .guard⟩ (by simp) rfl) rfl)) (exec_load rfl (eval_tmp (hgot 28 _ 86 rfl (hdep ⟨28, .data⟩ (by simp) rfl) rfl)) (run_load1 Try.underlying3 rfl (((hst.own (y := oB b7 24 cs) (by simp) : Holds v b7 24 _).cell 1).trans HP1.out))) (hK x _ _ (fun _ _ _ _ _ _ => rfl) (fun s hs => by cases hs; rfl) (by simpa using hst))
        · exact wp_ranW (wanted_yes rfl rfl rfl (hgot 25 _ 83 rfl (hdep ⟨25, .guard⟩ (by simp) rfl) rfl)) (exec_gtr HGT.out rfl (eval_tmp (hgot 27 _ 85 rfl (hdep ⟨27, .data⟩ (by simp) rfl) rfl)) (eval_tmp (hgot 29 _ 87 rfl (hdep ⟨29, .data⟩ (by simp) rfl) rfl))) (hK x _ _ (fun _ _ _ _ _ _ => rfl) (fun s hs => by cases hs; rfl) (by simpa using hst))
        · exact wp_ranW (wanted_yes rfl rfl rfl (hgot 25 _ 83 rfl (hdep ⟨25, .guard⟩ (by simp) rfl) rfl)) (exec_move rfl (eval_tmp ((hpar 13 rfl).trans rfl))) (hK x _ _ (fun _ _ _ _ _ _ => rfl) (fun s hs => by cases hs; rfl) (by simpa using hst))
        · exact wp_ranW (wanted_yes rfl rfl rfl (hgot 25 _ 83 rfl (hdep ⟨25, .chain⟩ (by simp) rfl) rfl)) (exec_move rfl (eval_tmp (hgot 31 _ 89 rfl (hdep ⟨31, .data⟩ (by simp) rfl) rfl))) (hK x _ _ (fun _ _ _ _ _ _ => rfl) (fun s hs => by cases hs; rfl) (by simpa using hst))
        · exact wp_skip (wanted_no rfl rfl rfl rfl (hgot 32 _ 90 rfl (hdep ⟨32, .guard⟩ (by simp) rfl) rfl)) (hK x _ _ (fun _ _ _ _ _ _ => rfl) (fun s hs => by cases hs; rfl) (by simpa using hst))
        · exact wp_skip (wanted_no rfl rfl rfl rfl (hgot 32 _ 90 rfl (hdep ⟨32, .chain⟩ (by simp) rfl) rfl)) (hK x _ _ (fun _ _ _ _ _ _ => rfl) (fun s hs => by cases hs; rfl) (by simpa using hst))
        · exact wp_skip (wanted_no rfl rfl rfl rfl (hgot 32 _ 90 rfl (hdep ⟨32, .guard⟩ (by simp) rfl) rfl)) (hK x _ _ (fun _ _ _ _ _ _ => rfl) (fun s hs => by cases hs; rfl) (by simpa using hst))
        · exact wp_ranW (wanted_yes rfl rfl rfl (hgot 25 _ 83 rfl (hdep ⟨25, .guard⟩ (by simp) rfl) rfl)) (exec_pick rfl (eval_tmp (hgot 32 _ 90 rfl (hdep ⟨32, .data⟩ (by simp) rfl) rfl)) rfl (eval_tmp (hgot 35 _ 93 rfl (hdep ⟨35, .data⟩ (by simp) rfl) rfl)) rfl) (hK x _ _ (fun _ _ _ _ _ _ => rfl) (fun s hs => by cases hs; rfl) (by simpa using hst))
        · exact wp_ranW (wanted_yes rfl rfl rfl (hgot 25 _ 83 rfl (hdep ⟨25, .guard⟩ (by simp) rfl) rfl)) (exec_neb Try.underlying4 rfl (eval_tmp (hgot 30 _ 88 rfl (hdep ⟨30, .data⟩ (by simp) rfl) rfl)) (eval_tmp (hgot 36 _ 94 rfl (hdep ⟨36, .data⟩ (by simp) rfl) rfl))) (hK x _ _ (fun _ _ _ _ _ _ => rfl) (fun s hs => by cases hs; rfl) (by simpa using hst))
        · exact wp_ran rfl (exec_pick rfl (eval_tmp (hgot 25 _ 83 rfl (hdep ⟨25, .data⟩ (by simp) rfl) rfl)) rfl (eval_tmp (hgot 37 _ 95 rfl (hdep ⟨37, .data⟩ (by simp) rfl) rfl)) rfl) (hK x _ _ (fun _ _ _ _ _ _ => rfl) (fun s hs => by cases hs; rfl) (by simpa using hst))
      intro xx lz v17 hlz hst
      obtain ⟨T17, F17, hT17, hc17⟩ := hst
      have G17 : Fm w v17 [oB b11 24 ds, oB b10 26 [ci z, ci y, ci x0], oB b7 24 cs] T17 := F17
      have HTP7 : Hid (tP S p cs ∈ T17) := Lib.hid (hT17 _ HTP.out)
      have HTQ7 : Hid (tP Sq q ds ∈ T17) := Lib.hid (hT17 _ HTQ.out)
      clear hlz F17 hT17 hc17 F HTP HTQ
      have F := G17
      have HTP := HTP7
      have HTQ := HTQ7
      clear G17 HTP7 HTQ7
      simp only [setAll, Act.put, List.foldl_cons, List.foldl_nil, List.setIfInBounds_toArray, List.set_cons_succ, List.set_cons_zero]
      go_wp2_with fail
      have K1 : Hid (∃ ts, Fm w v17 [oB b11 24 ds, oB b10 26 [ci z, ci y, ci x0], oB b7 24 cs] ts ∧ tP Sq q ds ∈ ts ∧ tP S p cs ∈ ts) := Lib.hid ⟨_, F, HTQ.out, HTP.out⟩
      clear F HTQ HTP
      go_loopw [14] (fun i wr => ∃ nn : Nat, i = .int .i64 nn ∧ 1 ≤ nn ∧ nn ≤ 7 ∧ Hid (∃ ts, Fm w wr [oB b11 24 ds, oB b10 26 [ci z, ci y, ci x0], oB b7 24 cs] ts ∧ tP Sq q ds ∈ ts ∧ tP S p cs ∈ ts)) (fun i _ => 7 - (intOf i).toNat)
      case atStart => exact ⟨1, rfl, by omega, by omega, K1⟩
      case round =>
      obtain ⟨nn, rfl, hn1, hn7, hk⟩ := hrel
      clear K1
      obtain ⟨ts, F, hTQ, hTP⟩ := hk.out
      have HTQ := Lib.hid hTQ
      have HTP := Lib.hid hTP
      clear hk hTQ hTP
      by_cases h7 : nn ≤ 6
      case neg =>
        have h1q := (F.k _ (.inr HTQ.out)).2.1.one
        go_wp2_with (first
          | (with_reducible refine fm_load F 0 rfl (o := ⟨some 184, .load 24 (.tmp 11), _, _, _, _⟩) rfl (.tmp 11) rfl rfl h5q ?_)
          | (with_reducible refine fm_store F 2 rfl (o := ⟨none, .store 24 (.tmp 7) (.tmp 184), _, _, _, _⟩) rfl (.tmp 7) (.tmp 184) rfl rfl ds rfl rfl h5q h5 h1q ?_; intro wy F8; clear F))
        exact ⟨⟨j + 1, q, by go_num, by omega, Lib.hid HG.out.right, Lib.hid ⟨ds, Sq, F8.onlyM (x := oB b7 24 ds) (by simp) HTQ.out⟩⟩, by simp [intOf]; omega⟩
      obtain ⟨a, ha⟩ : ∃ a, p.mayR (nn : Int) m = a := ⟨_, rfl⟩
      obtain ⟨b, hb⟩ : ∃ a, q.mayR (nn : Int) m = a := ⟨_, rfl⟩
      obtain ⟨c', hc⟩ : ∃ a, p.mayW (nn : Int) = a := ⟨_, rfl⟩
      obtain ⟨d, hd⟩ : ∃ a, q.mayW (nn : Int) = a := ⟨_, rfl⟩
      obtain ⟨e, he⟩ : ∃ a, q.mayR (nn : Int) [] = a := ⟨_, rfl⟩
      have lde : d = true → e = true := fun h => by rw [← he]; exact HG.out.writes (by omega) (by omega) (hd.trans h)
      have lab : a = true → b = false → _ := fun h h' => HG.out.lost hR.out (ha.trans h) (hb.trans h')
      have lcd : c' = true → d = false → _ := fun h h' => HG.out.lostW hR.out (hc.trans h) (hd.trans h')
      have lba : b = true → a = true := fun h => by rw [← ha]; exact HG.out.got hR.out (by omega) (hb.trans h)
      have ldc : d = true → c' = true := fun h => by rw [← hc]; exact HG.out.gotW hR.out (by omega) (hd.trans h)
      have hab : (a = false ∧ b = false) ∨ (a = true ∧ b = true) ∨ (a = true ∧ b = false ∧ ((nn : Int) == x0) = true) := by
        cases a <;> cases b <;> simp_all
      have hcd : (c' = false ∧ d = false) ∨ (c' = true ∧ d = true) ∨ (c' = true ∧ d = false ∧ ((nn : Int) == x0) = true) := by
        cases c' <;> cases d <;> simp_all
      have HA1 := Lib.hid ha
      have HB1 := Lib.hid hb
      have HC := Lib.hid hc
      have HD := Lib.hid hd
      have HE := Lib.hid he
      clear ha hb hc hd he lab lcd lba ldc
      have CC : Hid (∀ v ts, Fm w v [oB b11 24 ds, oB b10 26 [ci z, ci y, ci x0], oB b7 24 cs] ts → tP S p cs ∈ ts → Calls Try.prog 18 #[.agg cs.toArray, ci (nn : Int)] v fun r w' => r = .returned (.bool c') ∧ Mod [] v w') := Lib.hid fun v ts F h => mayW_p (F.k _ (.inr h)).2.1 (F.k _ (.inr h)).2.2 (nn : Int) _ HC
      have CD : Hid (∀ v ts, Fm w v [oB b11 24 ds, oB b10 26 [ci z, ci y, ci x0], oB b7 24 cs] ts → tP Sq q ds ∈ ts → Calls Try.prog 18 #[.agg ds.toArray, ci (nn : Int)] v fun r w' => r = .returned (.bool d) ∧ Mod [] v w') := Lib.hid fun v ts F h => mayW_p (F.k _ (.inr h)).2.1 (F.k _ (.inr h)).2.2 (nn : Int) _ HD
      have CA : Hid (∀ v ts, Fm w v [oB b11 24 ds, oB b10 26 [ci z, ci y, ci x0], oB b7 24 cs] ts → tP S p cs ∈ ts → Calls Try.prog 20 #[.agg cs.toArray, ci (nn : Int), .slice B nb cb] v fun r w' => r = .returned (.bool a) ∧ Mod [] v w') := Lib.hid fun v ts F h => mayR_q (F.k _ (.inr h)).2.1 (F.k _ (.inr h)).2.2 (nn : Int) B nb cb m (HM.out.call F.m) _ HA1
      have CB : Hid (∀ v ts, Fm w v [oB b11 24 ds, oB b10 26 [ci z, ci y, ci x0], oB b7 24 cs] ts → tP Sq q ds ∈ ts → Calls Try.prog 20 #[.agg ds.toArray, ci (nn : Int), .slice B nb cb] v fun r w' => r = .returned (.bool b) ∧ Mod [] v w') := Lib.hid fun v ts F h => mayR_q (F.k _ (.inr h)).2.1 (F.k _ (.inr h)).2.2 (nn : Int) B nb cb m (HM.out.call F.m) _ HB1
      have CE : Hid (∀ v ts, Fm w v [oB b11 24 ds, oB b10 26 [ci z, ci y, ci x0], oB b7 24 cs] ts → tP Sq q ds ∈ ts → Calls Try.prog 20 #[.agg ds.toArray, ci (nn : Int), .slice none 0 0] v fun r w' => r = .returned (.bool e) ∧ Mod [] v w') := Lib.hid fun v ts F h => mayR_q (F.k _ (.inr h)).2.1 (F.k _ (.inr h)).2.2 (nn : Int) none 0 0 [] (BelR.none _) _ HE
      clear HA1 HB1 HC HD HE
      rcases hab with ⟨rfl, rfl⟩ | ⟨rfl, rfl⟩ | ⟨rfl, rfl, ex⟩
      · rcases hcd with ⟨rfl, rfl⟩ | ⟨rfl, rfl⟩ | ⟨rfl, rfl, ex2⟩
        · clear lde
          go_wp2_with (first
            | (with_reducible refine fm_load F 0 rfl (o := ⟨some _, .load 24 (.tmp 11), _, _, _, _⟩) rfl (.tmp 11) rfl rfl h5q ?_)
            | (with_reducible refine fm_load F 2 rfl (o := ⟨some _, .load 24 (.tmp 7), _, _, _, _⟩) rfl (.tmp 7) rfl rfl h5 ?_)
            | (with_reducible refine fm_loadG F 0 rfl (o := ⟨some _, .load 24 (.tmp 11), _, _, _, _⟩) (by with_unfolding_all rfl) (.tmp 11) rfl rfl h5q ?_)
            | (with_reducible refine fm_loadG F 2 rfl (o := ⟨some _, .load 24 (.tmp 7), _, _, _, _⟩) (by with_unfolding_all rfl) (.tmp 7) rfl rfl h5 ?_)
            | (with_reducible refine fm_load26 F 1 rfl (o := ⟨some _, .load 26 (.tmp 10), _, _, _, _⟩) rfl (.tmp 10) rfl rfl ?_)
            | (with_reducible refine fm_load26G F 1 rfl (o := ⟨some _, .load 26 (.tmp 10), _, _, _, _⟩) (by with_unfolding_all rfl) (.tmp 10) rfl rfl ?_)
            | (with_reducible refine fm_load1G' F 1 2 rfl (ci x0) rfl (o := ⟨some _, .load 3 (.tmp 127), _, _, _, _⟩) (by with_unfolding_all rfl) 3 (.tmp 127) rfl rfl (run_load1 Try.underlying3 rfl) ?_)
            | (with_reducible refine fm_load1G' F 1 2 rfl (ci x0) rfl (o := ⟨some _, .load 3 (.tmp 153), _, _, _, _⟩) (by with_unfolding_all rfl) 3 (.tmp 153) rfl rfl (run_load1 Try.underlying3 rfl) ?_)
            | (go_at_call 18; with_reducible refine Calls.mono (CC.out _ _ F HTP.out) ?_; rintro e wz ⟨rfl, mz⟩; replace F := F.call mz; clear mz)
            | (go_at_call 18; with_reducible refine Calls.mono (CD.out _ _ F HTQ.out) ?_; rintro e wz ⟨rfl, mz⟩; replace F := F.call mz; clear mz)
            | (go_at_call 20; with_reducible refine Calls.mono (CA.out _ _ F HTP.out) ?_; rintro e wz ⟨rfl, mz⟩; replace F := F.call mz; clear mz)
            | (go_at_call 20; with_reducible refine Calls.mono (CB.out _ _ F HTQ.out) ?_; rintro e wz ⟨rfl, mz⟩; replace F := F.call mz; clear mz)
            | (go_at_call 20; with_reducible refine Calls.mono (CE.out _ _ F HTQ.out) ?_; rintro e wz ⟨rfl, mz⟩; replace F := F.call mz; clear mz)
            | (go_at_call 12; with_reducible refine Calls.mono (kind_c z y x0 _ HK _) ?_; rintro e wz ⟨rfl, mz⟩; replace F := F.call mz; clear mz))
          exact ⟨⟨nn + 1, by go_num, by omega, by omega, Lib.hid ⟨_, F, HTQ.out, HTP.out⟩⟩, by simp [intOf]; omega⟩
        · obtain rfl : true = e := (lde rfl).symm
          clear lde
          go_wp2_with (first
            | (with_reducible refine fm_load F 0 rfl (o := ⟨some _, .load 24 (.tmp 11), _, _, _, _⟩) rfl (.tmp 11) rfl rfl h5q ?_)
            | (with_reducible refine fm_load F 2 rfl (o := ⟨some _, .load 24 (.tmp 7), _, _, _, _⟩) rfl (.tmp 7) rfl rfl h5 ?_)
            | (with_reducible refine fm_loadG F 0 rfl (o := ⟨some _, .load 24 (.tmp 11), _, _, _, _⟩) (by with_unfolding_all rfl) (.tmp 11) rfl rfl h5q ?_)
            | (with_reducible refine fm_loadG F 2 rfl (o := ⟨some _, .load 24 (.tmp 7), _, _, _, _⟩) (by with_unfolding_all rfl) (.tmp 7) rfl rfl h5 ?_)
            | (with_reducible refine fm_load26 F 1 rfl (o := ⟨some _, .load 26 (.tmp 10), _, _, _, _⟩) rfl (.tmp 10) rfl rfl ?_)
            | (with_reducible refine fm_load26G F 1 rfl (o := ⟨some _, .load 26 (.tmp 10), _, _, _, _⟩) (by with_unfolding_all rfl) (.tmp 10) rfl rfl ?_)
            | (with_reducible refine fm_load1G' F 1 2 rfl (ci x0) rfl (o := ⟨some _, .load 3 (.tmp 127), _, _, _, _⟩) (by with_unfolding_all rfl) 3 (.tmp 127) rfl rfl (run_load1 Try.underlying3 rfl) ?_)
            | (with_reducible refine fm_load1G' F 1 2 rfl (ci x0) rfl (o := ⟨some _, .load 3 (.tmp 153), _, _, _, _⟩) (by with_unfolding_all rfl) 3 (.tmp 153) rfl rfl (run_load1 Try.underlying3 rfl) ?_)
            | (go_at_call 18; with_reducible refine Calls.mono (CC.out _ _ F HTP.out) ?_; rintro e wz ⟨rfl, mz⟩; replace F := F.call mz; clear mz)
            | (go_at_call 18; with_reducible refine Calls.mono (CD.out _ _ F HTQ.out) ?_; rintro e wz ⟨rfl, mz⟩; replace F := F.call mz; clear mz)
            | (go_at_call 20; with_reducible refine Calls.mono (CA.out _ _ F HTP.out) ?_; rintro e wz ⟨rfl, mz⟩; replace F := F.call mz; clear mz)
            | (go_at_call 20; with_reducible refine Calls.mono (CB.out _ _ F HTQ.out) ?_; rintro e wz ⟨rfl, mz⟩; replace F := F.call mz; clear mz)
            | (go_at_call 20; with_reducible refine Calls.mono (CE.out _ _ F HTQ.out) ?_; rintro e wz ⟨rfl, mz⟩; replace F := F.call mz; clear mz)
            | (go_at_call 12; with_reducible refine Calls.mono (kind_c z y x0 _ HK _) ?_; rintro e wz ⟨rfl, mz⟩; replace F := F.call mz; clear mz))
          exact ⟨⟨nn + 1, by go_num, by omega, by omega, Lib.hid ⟨_, F, HTQ.out, HTP.out⟩⟩, by simp [intOf]; omega⟩
        · clear lde
          have ex3 : (nn : Int) = x0 := beq_iff_eq.1 ex2
          clear ex2
          subst ex3
          go_wp2_with (first
            | (with_reducible refine fm_load F 0 rfl (o := ⟨some _, .load 24 (.tmp 11), _, _, _, _⟩) rfl (.tmp 11) rfl rfl h5q ?_)
            | (with_reducible refine fm_load F 2 rfl (o := ⟨some _, .load 24 (.tmp 7), _, _, _, _⟩) rfl (.tmp 7) rfl rfl h5 ?_)
            | (with_reducible refine fm_loadG F 0 rfl (o := ⟨some _, .load 24 (.tmp 11), _, _, _, _⟩) (by with_unfolding_all rfl) (.tmp 11) rfl rfl h5q ?_)
            | (with_reducible refine fm_loadG F 2 rfl (o := ⟨some _, .load 24 (.tmp 7), _, _, _, _⟩) (by with_unfolding_all rfl) (.tmp 7) rfl rfl h5 ?_)
            | (with_reducible refine fm_load26 F 1 rfl (o := ⟨some _, .load 26 (.tmp 10), _, _, _, _⟩) rfl (.tmp 10) rfl rfl ?_)
            | (with_reducible refine fm_load26G F 1 rfl (o := ⟨some _, .load 26 (.tmp 10), _, _, _, _⟩) (by with_unfolding_all rfl) (.tmp 10) rfl rfl ?_)
            | (with_reducible refine fm_load1G' F 1 2 rfl (ci (nn : Int)) rfl (o := ⟨some _, .load 3 (.tmp 127), _, _, _, _⟩) (by with_unfolding_all rfl) 3 (.tmp 127) rfl rfl (run_load1 Try.underlying3 rfl) ?_)
            | (with_reducible refine fm_load1G' F 1 2 rfl (ci (nn : Int)) rfl (o := ⟨some _, .load 3 (.tmp 153), _, _, _, _⟩) (by with_unfolding_all rfl) 3 (.tmp 153) rfl rfl (run_load1 Try.underlying3 rfl) ?_)
            | (go_at_call 18; with_reducible refine Calls.mono (CC.out _ _ F HTP.out) ?_; rintro e wz ⟨rfl, mz⟩; replace F := F.call mz; clear mz)
            | (go_at_call 18; with_reducible refine Calls.mono (CD.out _ _ F HTQ.out) ?_; rintro e wz ⟨rfl, mz⟩; replace F := F.call mz; clear mz)
            | (go_at_call 20; with_reducible refine Calls.mono (CA.out _ _ F HTP.out) ?_; rintro e wz ⟨rfl, mz⟩; replace F := F.call mz; clear mz)
            | (go_at_call 20; with_reducible refine Calls.mono (CB.out _ _ F HTQ.out) ?_; rintro e wz ⟨rfl, mz⟩; replace F := F.call mz; clear mz)
            | (go_at_call 20; with_reducible refine Calls.mono (CE.out _ _ F HTQ.out) ?_; rintro e wz ⟨rfl, mz⟩; replace F := F.call mz; clear mz)
            | (go_at_call 12; with_reducible refine Calls.mono (kind_c z y (nn : Int) _ HK _) ?_; rintro e wz ⟨rfl, mz⟩; replace F := F.call mz; clear mz))
          exact ⟨⟨nn + 1, by go_num, by omega, by omega, Lib.hid ⟨_, F, HTQ.out, HTP.out⟩⟩, by simp [intOf]; omega⟩
      · rcases hcd with ⟨rfl, rfl⟩ | ⟨rfl, rfl⟩ | ⟨rfl, rfl, ex2⟩
        · clear lde
          go_wp2_with (first
            | (with_reducible refine fm_load F 0 rfl (o := ⟨some _, .load 24 (.tmp 11), _, _, _, _⟩) rfl (.tmp 11) rfl rfl h5q ?_)
            | (with_reducible refine fm_load F 2 rfl (o := ⟨some _, .load 24 (.tmp 7), _, _, _, _⟩) rfl (.tmp 7) rfl rfl h5 ?_)
            | (with_reducible refine fm_loadG F 0 rfl (o := ⟨some _, .load 24 (.tmp 11), _, _, _, _⟩) (by with_unfolding_all rfl) (.tmp 11) rfl rfl h5q ?_)
            | (with_reducible refine fm_loadG F 2 rfl (o := ⟨some _, .load 24 (.tmp 7), _, _, _, _⟩) (by with_unfolding_all rfl) (.tmp 7) rfl rfl h5 ?_)
            | (with_reducible refine fm_load26 F 1 rfl (o := ⟨some _, .load 26 (.tmp 10), _, _, _, _⟩) rfl (.tmp 10) rfl rfl ?_)
            | (with_reducible refine fm_load26G F 1 rfl (o := ⟨some _, .load 26 (.tmp 10), _, _, _, _⟩) (by with_unfolding_all rfl) (.tmp 10) rfl rfl ?_)
            | (with_reducible refine fm_load1G' F 1 2 rfl (ci x0) rfl (o := ⟨some _, .load 3 (.tmp 127), _, _, _, _⟩) (by with_unfolding_all rfl) 3 (.tmp 127) rfl rfl (run_load1 Try.underlying3 rfl) ?_)
            | (with_reducible refine fm_load1G' F 1 2 rfl (ci x0) rfl (o := ⟨some _, .load 3 (.tmp 153), _, _, _, _⟩) (by with_unfolding_all rfl) 3 (.tmp 153) rfl rfl (run_load1 Try.underlying3 rfl) ?_)
            | (go_at_call 18; with_reducible refine Calls.mono (CC.out _ _ F HTP.out) ?_; rintro e wz ⟨rfl, mz⟩; replace F := F.call mz; clear mz)
            | (go_at_call 18; with_reducible refine Calls.mono (CD.out _ _ F HTQ.out) ?_; rintro e wz ⟨rfl, mz⟩; replace F := F.call mz; clear mz)
            | (go_at_call 20; with_reducible refine Calls.mono (CA.out _ _ F HTP.out) ?_; rintro e wz ⟨rfl, mz⟩; replace F := F.call mz; clear mz)
            | (go_at_call 20; with_reducible refine Calls.mono (CB.out _ _ F HTQ.out) ?_; rintro e wz ⟨rfl, mz⟩; replace F := F.call mz; clear mz)
            | (go_at_call 20; with_reducible refine Calls.mono (CE.out _ _ F HTQ.out) ?_; rintro e wz ⟨rfl, mz⟩; replace F := F.call mz; clear mz)
            | (go_at_call 12; with_reducible refine Calls.mono (kind_c z y x0 _ HK _) ?_; rintro e wz ⟨rfl, mz⟩; replace F := F.call mz; clear mz))
          exact ⟨⟨nn + 1, by go_num, by omega, by omega, Lib.hid ⟨_, F, HTQ.out, HTP.out⟩⟩, by simp [intOf]; omega⟩
        · obtain rfl : true = e := (lde rfl).symm
          clear lde
          go_wp2_with (first
            | (with_reducible refine fm_load F 0 rfl (o := ⟨some _, .load 24 (.tmp 11), _, _, _, _⟩) rfl (.tmp 11) rfl rfl h5q ?_)
            | (with_reducible refine fm_load F 2 rfl (o := ⟨some _, .load 24 (.tmp 7), _, _, _, _⟩) rfl (.tmp 7) rfl rfl h5 ?_)
            | (with_reducible refine fm_loadG F 0 rfl (o := ⟨some _, .load 24 (.tmp 11), _, _, _, _⟩) (by with_unfolding_all rfl) (.tmp 11) rfl rfl h5q ?_)
            | (with_reducible refine fm_loadG F 2 rfl (o := ⟨some _, .load 24 (.tmp 7), _, _, _, _⟩) (by with_unfolding_all rfl) (.tmp 7) rfl rfl h5 ?_)
            | (with_reducible refine fm_load26 F 1 rfl (o := ⟨some _, .load 26 (.tmp 10), _, _, _, _⟩) rfl (.tmp 10) rfl rfl ?_)
            | (with_reducible refine fm_load26G F 1 rfl (o := ⟨some _, .load 26 (.tmp 10), _, _, _, _⟩) (by with_unfolding_all rfl) (.tmp 10) rfl rfl ?_)
            | (with_reducible refine fm_load1G' F 1 2 rfl (ci x0) rfl (o := ⟨some _, .load 3 (.tmp 127), _, _, _, _⟩) (by with_unfolding_all rfl) 3 (.tmp 127) rfl rfl (run_load1 Try.underlying3 rfl) ?_)
            | (with_reducible refine fm_load1G' F 1 2 rfl (ci x0) rfl (o := ⟨some _, .load 3 (.tmp 153), _, _, _, _⟩) (by with_unfolding_all rfl) 3 (.tmp 153) rfl rfl (run_load1 Try.underlying3 rfl) ?_)
            | (go_at_call 18; with_reducible refine Calls.mono (CC.out _ _ F HTP.out) ?_; rintro e wz ⟨rfl, mz⟩; replace F := F.call mz; clear mz)
            | (go_at_call 18; with_reducible refine Calls.mono (CD.out _ _ F HTQ.out) ?_; rintro e wz ⟨rfl, mz⟩; replace F := F.call mz; clear mz)
            | (go_at_call 20; with_reducible refine Calls.mono (CA.out _ _ F HTP.out) ?_; rintro e wz ⟨rfl, mz⟩; replace F := F.call mz; clear mz)
            | (go_at_call 20; with_reducible refine Calls.mono (CB.out _ _ F HTQ.out) ?_; rintro e wz ⟨rfl, mz⟩; replace F := F.call mz; clear mz)
            | (go_at_call 20; with_reducible refine Calls.mono (CE.out _ _ F HTQ.out) ?_; rintro e wz ⟨rfl, mz⟩; replace F := F.call mz; clear mz)
            | (go_at_call 12; with_reducible refine Calls.mono (kind_c z y x0 _ HK _) ?_; rintro e wz ⟨rfl, mz⟩; replace F := F.call mz; clear mz))
          exact ⟨⟨nn + 1, by go_num, by omega, by omega, Lib.hid ⟨_, F, HTQ.out, HTP.out⟩⟩, by simp [intOf]; omega⟩
        · clear lde
          have ex3 : (nn : Int) = x0 := beq_iff_eq.1 ex2
          clear ex2
          subst ex3
          go_wp2_with (first
            | (with_reducible refine fm_load F 0 rfl (o := ⟨some _, .load 24 (.tmp 11), _, _, _, _⟩) rfl (.tmp 11) rfl rfl h5q ?_)
            | (with_reducible refine fm_load F 2 rfl (o := ⟨some _, .load 24 (.tmp 7), _, _, _, _⟩) rfl (.tmp 7) rfl rfl h5 ?_)
            | (with_reducible refine fm_loadG F 0 rfl (o := ⟨some _, .load 24 (.tmp 11), _, _, _, _⟩) (by with_unfolding_all rfl) (.tmp 11) rfl rfl h5q ?_)
            | (with_reducible refine fm_loadG F 2 rfl (o := ⟨some _, .load 24 (.tmp 7), _, _, _, _⟩) (by with_unfolding_all rfl) (.tmp 7) rfl rfl h5 ?_)
            | (with_reducible refine fm_load26 F 1 rfl (o := ⟨some _, .load 26 (.tmp 10), _, _, _, _⟩) rfl (.tmp 10) rfl rfl ?_)
            | (with_reducible refine fm_load26G F 1 rfl (o := ⟨some _, .load 26 (.tmp 10), _, _, _, _⟩) (by with_unfolding_all rfl) (.tmp 10) rfl rfl ?_)
            | (with_reducible refine fm_load1G' F 1 2 rfl (ci (nn : Int)) rfl (o := ⟨some _, .load 3 (.tmp 127), _, _, _, _⟩) (by with_unfolding_all rfl) 3 (.tmp 127) rfl rfl (run_load1 Try.underlying3 rfl) ?_)
            | (with_reducible refine fm_load1G' F 1 2 rfl (ci (nn : Int)) rfl (o := ⟨some _, .load 3 (.tmp 153), _, _, _, _⟩) (by with_unfolding_all rfl) 3 (.tmp 153) rfl rfl (run_load1 Try.underlying3 rfl) ?_)
            | (go_at_call 18; with_reducible refine Calls.mono (CC.out _ _ F HTP.out) ?_; rintro e wz ⟨rfl, mz⟩; replace F := F.call mz; clear mz)
            | (go_at_call 18; with_reducible refine Calls.mono (CD.out _ _ F HTQ.out) ?_; rintro e wz ⟨rfl, mz⟩; replace F := F.call mz; clear mz)
            | (go_at_call 20; with_reducible refine Calls.mono (CA.out _ _ F HTP.out) ?_; rintro e wz ⟨rfl, mz⟩; replace F := F.call mz; clear mz)
            | (go_at_call 20; with_reducible refine Calls.mono (CB.out _ _ F HTQ.out) ?_; rintro e wz ⟨rfl, mz⟩; replace F := F.call mz; clear mz)
            | (go_at_call 20; with_reducible refine Calls.mono (CE.out _ _ F HTQ.out) ?_; rintro e wz ⟨rfl, mz⟩; replace F := F.call mz; clear mz)
            | (go_at_call 12; with_reducible refine Calls.mono (kind_c z y (nn : Int) _ HK _) ?_; rintro e wz ⟨rfl, mz⟩; replace F := F.call mz; clear mz))
          exact ⟨⟨nn + 1, by go_num, by omega, by omega, Lib.hid ⟨_, F, HTQ.out, HTP.out⟩⟩, by simp [intOf]; omega⟩
      · rcases hcd with ⟨rfl, rfl⟩ | ⟨rfl, rfl⟩ | ⟨rfl, rfl, ex2⟩
        · clear lde
          have ex3 : (nn : Int) = x0 := beq_iff_eq.1 ex
          clear ex
          subst ex3
          go_wp2_with (first
            | (with_reducible refine fm_load F 0 rfl (o := ⟨some _, .load 24 (.tmp 11), _, _, _, _⟩) rfl (.tmp 11) rfl rfl h5q ?_)
            | (with_reducible refine fm_load F 2 rfl (o := ⟨some _, .load 24 (.tmp 7), _, _, _, _⟩) rfl (.tmp 7) rfl rfl h5 ?_)
            | (with_reducible refine fm_loadG F 0 rfl (o := ⟨some _, .load 24 (.tmp 11), _, _, _, _⟩) (by with_unfolding_all rfl) (.tmp 11) rfl rfl h5q ?_)
            | (with_reducible refine fm_loadG F 2 rfl (o := ⟨some _, .load 24 (.tmp 7), _, _, _, _⟩) (by with_unfolding_all rfl) (.tmp 7) rfl rfl h5 ?_)
            | (with_reducible refine fm_load26 F 1 rfl (o := ⟨some _, .load 26 (.tmp 10), _, _, _, _⟩) rfl (.tmp 10) rfl rfl ?_)
            | (with_reducible refine fm_load26G F 1 rfl (o := ⟨some _, .load 26 (.tmp 10), _, _, _, _⟩) (by with_unfolding_all rfl) (.tmp 10) rfl rfl ?_)
            | (with_reducible refine fm_load1G' F 1 2 rfl (ci (nn : Int)) rfl (o := ⟨some _, .load 3 (.tmp 127), _, _, _, _⟩) (by with_unfolding_all rfl) 3 (.tmp 127) rfl rfl (run_load1 Try.underlying3 rfl) ?_)
            | (with_reducible refine fm_load1G' F 1 2 rfl (ci (nn : Int)) rfl (o := ⟨some _, .load 3 (.tmp 153), _, _, _, _⟩) (by with_unfolding_all rfl) 3 (.tmp 153) rfl rfl (run_load1 Try.underlying3 rfl) ?_)
            | (go_at_call 18; with_reducible refine Calls.mono (CC.out _ _ F HTP.out) ?_; rintro e wz ⟨rfl, mz⟩; replace F := F.call mz; clear mz)
            | (go_at_call 18; with_reducible refine Calls.mono (CD.out _ _ F HTQ.out) ?_; rintro e wz ⟨rfl, mz⟩; replace F := F.call mz; clear mz)
            | (go_at_call 20; with_reducible refine Calls.mono (CA.out _ _ F HTP.out) ?_; rintro e wz ⟨rfl, mz⟩; replace F := F.call mz; clear mz)
            | (go_at_call 20; with_reducible refine Calls.mono (CB.out _ _ F HTQ.out) ?_; rintro e wz ⟨rfl, mz⟩; replace F := F.call mz; clear mz)
            | (go_at_call 20; with_reducible refine Calls.mono (CE.out _ _ F HTQ.out) ?_; rintro e wz ⟨rfl, mz⟩; replace F := F.call mz; clear mz)
            | (go_at_call 12; with_reducible refine Calls.mono (kind_c z y (nn : Int) _ HK _) ?_; rintro e wz ⟨rfl, mz⟩; replace F := F.call mz; clear mz))
          exact ⟨⟨nn + 1, by go_num, by omega, by omega, Lib.hid ⟨_, F, HTQ.out, HTP.out⟩⟩, by simp [intOf]; omega⟩
        · obtain rfl : true = e := (lde rfl).symm
          clear lde
          have ex3 : (nn : Int) = x0 := beq_iff_eq.1 ex
          clear ex
          subst ex3
          go_wp2_with (first
            | (with_reducible refine fm_load F 0 rfl (o := ⟨some _, .load 24 (.tmp 11), _, _, _, _⟩) rfl (.tmp 11) rfl rfl h5q ?_)
            | (with_reducible refine fm_load F 2 rfl (o := ⟨some _, .load 24 (.tmp 7), _, _, _, _⟩) rfl (.tmp 7) rfl rfl h5 ?_)
            | (with_reducible refine fm_loadG F 0 rfl (o := ⟨some _, .load 24 (.tmp 11), _, _, _, _⟩) (by with_unfolding_all rfl) (.tmp 11) rfl rfl h5q ?_)
            | (with_reducible refine fm_loadG F 2 rfl (o := ⟨some _, .load 24 (.tmp 7), _, _, _, _⟩) (by with_unfolding_all rfl) (.tmp 7) rfl rfl h5 ?_)
            | (with_reducible refine fm_load26 F 1 rfl (o := ⟨some _, .load 26 (.tmp 10), _, _, _, _⟩) rfl (.tmp 10) rfl rfl ?_)
            | (with_reducible refine fm_load26G F 1 rfl (o := ⟨some _, .load 26 (.tmp 10), _, _, _, _⟩) (by with_unfolding_all rfl) (.tmp 10) rfl rfl ?_)
            | (with_reducible refine fm_load1G' F 1 2 rfl (ci (nn : Int)) rfl (o := ⟨some _, .load 3 (.tmp 127), _, _, _, _⟩) (by with_unfolding_all rfl) 3 (.tmp 127) rfl rfl (run_load1 Try.underlying3 rfl) ?_)
            | (with_reducible refine fm_load1G' F 1 2 rfl (ci (nn : Int)) rfl (o := ⟨some _, .load 3 (.tmp 153), _, _, _, _⟩) (by with_unfolding_all rfl) 3 (.tmp 153) rfl rfl (run_load1 Try.underlying3 rfl) ?_)
            | (go_at_call 18; with_reducible refine Calls.mono (CC.out _ _ F HTP.out) ?_; rintro e wz ⟨rfl, mz⟩; replace F := F.call mz; clear mz)
            | (go_at_call 18; with_reducible refine Calls.mono (CD.out _ _ F HTQ.out) ?_; rintro e wz ⟨rfl, mz⟩; replace F := F.call mz; clear mz)
            | (go_at_call 20; with_reducible refine Calls.mono (CA.out _ _ F HTP.out) ?_; rintro e wz ⟨rfl, mz⟩; replace F := F.call mz; clear mz)
            | (go_at_call 20; with_reducible refine Calls.mono (CB.out _ _ F HTQ.out) ?_; rintro e wz ⟨rfl, mz⟩; replace F := F.call mz; clear mz)
            | (go_at_call 20; with_reducible refine Calls.mono (CE.out _ _ F HTQ.out) ?_; rintro e wz ⟨rfl, mz⟩; replace F := F.call mz; clear mz)
            | (go_at_call 12; with_reducible refine Calls.mono (kind_c z y (nn : Int) _ HK _) ?_; rintro e wz ⟨rfl, mz⟩; replace F := F.call mz; clear mz))
          exact ⟨⟨nn + 1, by go_num, by omega, by omega, Lib.hid ⟨_, F, HTQ.out, HTP.out⟩⟩, by simp [intOf]; omega⟩
        · clear lde
          clear ex2
          have ex3 : (nn : Int) = x0 := beq_iff_eq.1 ex
          clear ex
          subst ex3
          go_wp2_with (first
            | (with_reducible refine fm_load F 0 rfl (o := ⟨some _, .load 24 (.tmp 11), _, _, _, _⟩) rfl (.tmp 11) rfl rfl h5q ?_)
            | (with_reducible refine fm_load F 2 rfl (o := ⟨some _, .load 24 (.tmp 7), _, _, _, _⟩) rfl (.tmp 7) rfl rfl h5 ?_)
            | (with_reducible refine fm_loadG F 0 rfl (o := ⟨some _, .load 24 (.tmp 11), _, _, _, _⟩) (by with_unfolding_all rfl) (.tmp 11) rfl rfl h5q ?_)
            | (with_reducible refine fm_loadG F 2 rfl (o := ⟨some _, .load 24 (.tmp 7), _, _, _, _⟩) (by with_unfolding_all rfl) (.tmp 7) rfl rfl h5 ?_)
            | (with_reducible refine fm_load26 F 1 rfl (o := ⟨some _, .load 26 (.tmp 10), _, _, _, _⟩) rfl (.tmp 10) rfl rfl ?_)
            | (with_reducible refine fm_load26G F 1 rfl (o := ⟨some _, .load 26 (.tmp 10), _, _, _, _⟩) (by with_unfolding_all rfl) (.tmp 10) rfl rfl ?_)
            | (with_reducible refine fm_load1G' F 1 2 rfl (ci (nn : Int)) rfl (o := ⟨some _, .load 3 (.tmp 127), _, _, _, _⟩) (by with_unfolding_all rfl) 3 (.tmp 127) rfl rfl (run_load1 Try.underlying3 rfl) ?_)
            | (with_reducible refine fm_load1G' F 1 2 rfl (ci (nn : Int)) rfl (o := ⟨some _, .load 3 (.tmp 153), _, _, _, _⟩) (by with_unfolding_all rfl) 3 (.tmp 153) rfl rfl (run_load1 Try.underlying3 rfl) ?_)
            | (go_at_call 18; with_reducible refine Calls.mono (CC.out _ _ F HTP.out) ?_; rintro e wz ⟨rfl, mz⟩; replace F := F.call mz; clear mz)
            | (go_at_call 18; with_reducible refine Calls.mono (CD.out _ _ F HTQ.out) ?_; rintro e wz ⟨rfl, mz⟩; replace F := F.call mz; clear mz)
            | (go_at_call 20; with_reducible refine Calls.mono (CA.out _ _ F HTP.out) ?_; rintro e wz ⟨rfl, mz⟩; replace F := F.call mz; clear mz)
            | (go_at_call 20; with_reducible refine Calls.mono (CB.out _ _ F HTQ.out) ?_; rintro e wz ⟨rfl, mz⟩; replace F := F.call mz; clear mz)
            | (go_at_call 20; with_reducible refine Calls.mono (CE.out _ _ F HTQ.out) ?_; rintro e wz ⟨rfl, mz⟩; replace F := F.call mz; clear mz)
            | (go_at_call 12; with_reducible refine Calls.mono (kind_c z y (nn : Int) _ HK _) ?_; rintro e wz ⟨rfl, mz⟩; replace F := F.call mz; clear mz))
          exact ⟨⟨nn + 1, by go_num, by omega, by omega, Lib.hid ⟨_, F, HTQ.out, HTP.out⟩⟩, by simp [intOf]; omega⟩
  have c2 : (k == 2) = false := beq_eq_false_iff_ne.2 kck2
  by_cases kck4 : k = 4
  case pos =>
    as_aux_lemma =>
      subst kck4
      go_wp2_with (first
        | (with_reducible refine wpList_loads (o := ⟨some 36, .load 26 (.tmp 35), _, _, _, _⟩) rfl 26 (.tmp 35) rfl ga (fa + j * 3) [ci z, ci y, ci x0] rfl HC3.out _ Try.underlying26 rfl (size26o z y x0) _ rfl ?_)
        | (with_reducible refine fm_alloc F0 (o := ⟨some 10, .alloc 26, _, _, _, _⟩) rfl 26 rfl _ zero26' ?_; intro b10 wa Fa; clear F0)
        | (with_reducible refine fm_store26 Fa 0 rfl (o := ⟨none, .store 26 (.tmp 10) (.tmp 36), _, _, _, _⟩) rfl (.tmp 10) (.tmp 36) rfl rfl rfl rfl ?_; intro wb F; clear Fa)
        | (with_reducible refine fm_load F 1 rfl (o := ⟨some 40, .load 24 (.tmp 7), _, _, _, _⟩) rfl (.tmp 7) rfl rfl h5 ?_)
        | (with_reducible refine fm_load26 F 0 rfl (o := ⟨some 41, .load 26 (.tmp 10), _, _, _, _⟩) rfl (.tmp 10) rfl rfl ?_)
        | (go_at_call 9; refine (DO.out _ (F.s 0 rfl) (F.slt 0 rfl)).mono ?_
           rintro e wc ⟨ds, rfl, hP2, m2⟩
           have F2 := (F.put m2 (tP _ _ ds) (keeps_tP _ _ _) hP2 (fun g hg => .inl hg))
           have h5q := hP2.len
           have h1q := hP2.one
           clear F m2 hP2)
        | (with_reducible refine fm_alloc F2 (o := ⟨some 11, .alloc 24, _, _, _, _⟩) rfl 24 rfl _ zero24 ?_; intro b11 wd F3; clear F2)
        | (with_reducible refine fm_store F3 0 rfl (o := ⟨none, .store 24 (.tmp 11) (.tmp 43), _, _, _, _⟩) rfl (.tmp 11) (.tmp 43) rfl rfl ds rfl rfl h5q rfl h1q ?_; intro we F; clear F3)
        | (with_reducible refine fm_load26 F 1 rfl (o := ⟨some 50, .load 26 (.tmp 10), _, _, _, _⟩) rfl (.tmp 10) rfl rfl ?_)
        | (with_reducible refine fm_load26G F 1 rfl (o := ⟨some 54, .load 26 (.tmp 10), _, _, _, _⟩) (by with_unfolding_all rfl) (.tmp 10) rfl rfl ?_)
        | (go_at_call 12; with_reducible refine Calls.mono (kind_c z y x0 _ HK _) ?_; rintro e wz ⟨rfl, mz⟩; replace F := F.call mz; clear mz))
      have hQ := F.s 0 rfl
      have hP := F.s 1 rfl
      have HP0 : Hid (cs[0]? = some (ci p.own)) := Lib.hid (PIs.c0 hP)
      have HP1 : Hid (cs[1]? = some (ci p.ep)) := Lib.hid (PIs.c1 hP)
      have HQ0 : Hid (ds[0]? = some (ci p.own)) := Lib.hid (by rw [← HG.out.own]; exact PIs.c0 hQ)
      have HQ1 : Hid (ds[1]? = some (ci q.ep)) := Lib.hid (PIs.c1 hQ)
      have HBQ : Hid (q.rightB = true) := Lib.hid ((Pm.right_iff q).2 HG.out.right)
      have hpe := hR.out.e1
      have hpe8 := hR.out.e8
      have hqe := HG.out.ep
      rw [if_pos (by omega)] at hqe
      obtain ⟨pe, hpe0⟩ : ∃ e, e = p.ep := ⟨_, rfl⟩
      obtain ⟨qe, hqe0⟩ : ∃ e, e = q.ep := ⟨_, rfl⟩
      rw [← hpe0] at HP1 hpe hpe8 hqe
      rw [← hqe0] at HQ1 hqe
      have HNE : Hid ((!(qe == pe)) = true) := Lib.hid (by simp; omega)
      have HGT : Hid (decide (pe < qe) = true) := Lib.hid (by simp; omega)
      have HADD : Hid (IntKind.i64.wrap (pe + 1) = qe) := Lib.hid (by rw [IntKind.wrap_i64] <;> omega)
      obtain ⟨Sq, TB, F', HTQ, HTP⟩ : ∃ Sq TB, Fm w _ [oB b11 24 ds, oB b10 26 [ci z, ci y, ci x0], oB b7 24 cs] TB ∧ Hid (tP Sq q ds ∈ TB) ∧ Hid (tP S p cs ∈ TB) := ⟨_, _, F, Lib.hid (List.mem_cons_self ..), Lib.hid (List.mem_cons_of_mem _ (List.mem_cons_self ..))⟩
      clear F hQ hP hpe hpe8 hqe hpe0 hqe0
      have F := F'
      clear F' 
      refine wp_region_upx (X := XC) (⟨0, [], []⟩) (fun x => [(58, .agg ds.toArray), (59, .int .i64 0), (60, .bool false), (61, .bool false), (62, .pointer (some ⟨b11, 0, none⟩)), (63, ci p.own), (64, .pointer (some ⟨b7, 0, none⟩)), (65, ci p.own), (66, .bool false), (67, .bool false), (68, .bool false), (69, .pointer (some ⟨b11, 1, none⟩)), (70, ci qe), (71, .pointer (some ⟨b7, 1, none⟩)), (72, ci pe), (73, .bool true), (74, .bool true), (75, .pointer (some ⟨b11, 1, none⟩)), (76, ci qe), (77, .pointer (some ⟨b7, 1, none⟩)), (78, ci pe), (79, ci qe), (80, .bool false), (81, .bool false), (82, .bool false), (83, .bool false), (84, .pointer (some ⟨b11, 1, none⟩)), (85, ci qe), (86, .pointer (some ⟨b7, 1, none⟩)), (87, ci pe), (88, .bool true), (89, .bool true), (90, .bool true), (91, undef), (92, undef), (93, undef), (94, .bool true), (95, .bool false), (96, .bool false)]) 186 [58, 59, 60, 61, 62, 63, 64, 65, 66, 67, 68, 69, 70, 71, 72, 73, 74, 75, 76, 77, 78, 79, 80, 81, 82, 83, 84, 85, 86, 87, 88, 89, 90, 91, 92, 93, 94, 95, 96] rfl (fun _ => rfl) (by decide) (by kernel_rfl) (fun x lz v => CgS w [oB b11 24 ds, oB b10 26 [ci z, ci y, ci x0], oB b7 24 cs] TB p p false false false false x v) (by kernel_rfl) (CgS.begin (F.call (Mod.drew [] _)) _) (by kernel_rfl) (by kernel_rfl) ?_ ?_
      · skip
        intro x lz T v j o hj hlj hdep hst hpar hgot hcl Kq hK
        have hjn : j < 39 := (Array.getElem?_eq_some_iff.1 hj).1
        obtain rfl | rfl | rfl | rfl | rfl | rfl | rfl | rfl | rfl | rfl | rfl | rfl | rfl | rfl | rfl | rfl | rfl | rfl | rfl | rfl | rfl | rfl | rfl | rfl | rfl | rfl | rfl | rfl | rfl | rfl | rfl | rfl | rfl | rfl | rfl | rfl | rfl | rfl | rfl : j = 0 ∨ j = 1 ∨ j = 2 ∨ j = 3 ∨ j = 4 ∨ j = 5 ∨ j = 6 ∨ j = 7 ∨ j = 8 ∨ j = 9 ∨ j = 10 ∨ j = 11 ∨ j = 12 ∨ j = 13 ∨ j = 14 ∨ j = 15 ∨ j = 16 ∨ j = 17 ∨ j = 18 ∨ j = 19 ∨ j = 20 ∨ j = 21 ∨ j = 22 ∨ j = 23 ∨ j = 24 ∨ j = 25 ∨ j = 26 ∨ j = 27 ∨ j = 28 ∨ j = 29 ∨ j = 30 ∨ j = 31 ∨ j = 32 ∨ j = 33 ∨ j = 34 ∨ j = 35 ∨ j = 36 ∨ j = 37 ∨ j = 38 := by omega
        all_goals (have hj' := Option.some.inj (hj : some _ = some o); subst hj'; clear hj)
        · exact wp_ran rfl (exec_load rfl (eval_tmp ((hpar 11 rfl).trans rfl)) (run_loads (Cells.of_holds (hst.own (y := oB b11 24 ds) (by simp))) Try.underlying24 rfl (size24' h5q))) (hK x _ _ (fun _ _ _ _ _ _ => rfl) (fun s hs => by cases hs; rfl) (by simpa using hst))
        · obtain ⟨hP, hS⟩ := hst.std HTQ.out
          refine wp_called rfl (exec_call1 rfl rfl (eval_tmp (hgot 0 _ 58 rfl (hdep ⟨0, .data⟩ (by simp) rfl) rfl)) (enters_of Try.func15 (by kernel_rfl) rfl)) ((check_p hP true HBQ).mono ?_)
          rintro e v' ⟨rfl, m1⟩
          exact ⟨_, rfl, hK x _ _ (fun _ _ _ _ _ _ => rfl) (fun s hs => by cases hs; rfl) (by simpa using hst.call m1)⟩
        · exact wp_ran rfl (exec_nei rfl rfl (eval_tmp (hgot 1 _ 59 rfl (hdep ⟨1, .data⟩ (by simp) rfl) rfl)) rfl) (hK x _ _ (fun _ _ _ _ _ _ => rfl) (fun s hs => by cases hs; rfl) (by simpa using hst))
        · exact wp_ran rfl (exec_move rfl (eval_tmp (hgot 2 _ 60 rfl (hdep ⟨2, .data⟩ (by simp) rfl) rfl))) (hK x _ _ (fun _ _ _ _ _ _ => rfl) (fun s hs => by cases hs; rfl) (by simpa using hst))
        · exact wp_ranW (wanted_yes rfl rfl rfl (hgot 3 _ 61 rfl (hdep ⟨3, .guard⟩ (by simp) rfl) rfl)) (exec_fp24_0 rfl (eval_tmp ((hpar 11 rfl).trans rfl))) (hK x _ _ (fun _ _ _ _ _ _ => rfl) (fun s hs => by cases hs; rfl) (by simpa using hst))
        · exact wp_ranW (wanted_yes rfl rfl rfl (hgot 3 _ 61 rfl (hdep ⟨3, .guard⟩ (by simp) rfl) rfl)) (exec_load rfl (eval_tmp (hgot 4 _ 62 rfl (hdep ⟨4, .data⟩ (by simp) rfl) rfl)) (run_load1 Try.underlying3 rfl (((hst.own (y := oB b11 24 ds) (by simp) : Holds v b11 24 _).cell 0).trans HQ0.out))) (hK x _ _ (fun _ _ _ _ _ _ => rfl) (fun s hs => by cases hs; rfl) (by simpa using hst))
        · exact wp_ranW (wanted_yes rfl rfl rfl (hgot 3 _ 61 rfl (hdep ⟨3, .guard⟩ (by simp) rfl) rfl)) (exec_fp24_0 rfl (eval_tmp ((hpar 7 rfl).trans rfl))) (hK x _ _ (fun _ _ _ _ _ _ => rfl) (fun s hs => by cases hs; rfl) (by simpa using hst))
        · exact wp_ranW (wanted_yes rfl rfl rfl (hgot 3 _ 61 rfl (hdep ⟨3, .guard⟩ (by simp) rfl) rfl)) (exec_load rfl (eval_tmp (hgot 6 _ 64 rfl (hdep ⟨6, .data⟩ (by simp) rfl) rfl)) (run_load1 Try.underlying3 rfl (((hst.own (y := oB b7 24 cs) (by simp) : Holds v b7 24 _).cell 0).trans HP0.out))) (hK x _ _ (fun _ _ _ _ _ _ => rfl) (fun s hs => by cases hs; rfl) (by simpa using hst))
        · exact wp_ranW (wanted_yes rfl rfl rfl (hgot 3 _ 61 rfl (hdep ⟨3, .guard⟩ (by simp) rfl) rfl)) (exec_nei (r := false) (by simp) rfl (eval_tmp (hgot 5 _ 63 rfl (hdep ⟨5, .data⟩ (by simp) rfl) rfl)) (eval_tmp (hgot 7 _ 65 rfl (hdep ⟨7, .data⟩ (by simp) rfl) rfl))) (hK x _ _ (fun _ _ _ _ _ _ => rfl) (fun s hs => by cases hs; rfl) (by simpa using hst))
        · exact wp_ran rfl (exec_pick rfl (eval_tmp (hgot 3 _ 61 rfl (hdep ⟨3, .data⟩ (by simp) rfl) rfl)) rfl (eval_tmp (hgot 8 _ 66 rfl (hdep ⟨8, .data⟩ (by simp) rfl) rfl)) rfl) (hK x _ _ (fun _ _ _ _ _ _ => rfl) (fun s hs => by cases hs; rfl) (by simpa using hst))
        · exact wp_ran rfl (exec_move rfl (eval_tmp (hgot 9 _ 67 rfl (hdep ⟨9, .data⟩ (by simp) rfl) rfl))) (hK x _ _ (fun _ _ _ _ _ _ => rfl) (fun s hs => by cases hs; rfl) (by simpa using hst))
        · exact wp_ranW (wanted_yes rfl rfl rfl (hgot 10 _ 68 rfl (hdep ⟨10, .guard⟩ (by simp) rfl) rfl)) (exec_fp24_1 rfl (eval_tmp ((hpar 11 rfl).trans rfl))) (hK x _ _ (fun _ _ _ _ _ _ => rfl) (fun s hs => by cases hs; rfl) (by simpa using hst))
        · exact wp_ranW (wanted_yes rfl rfl rfl (hgot 10 _ 68 rfl (hdep ⟨10, .guard⟩ (by simp) rfl) rfl)) (exec_load rfl (eval_tmp (hgot 11 _ 69 rfl (hdep ⟨11, .data⟩ (by simp) rfl) rfl)) (run_load1 Try.underlying3 rfl (((hst.own (y := oB b11 24 ds) (by simp) : Holds v b11 24 _).cell 1).trans HQ1.out))) (hK x _ _ (fun _ _ _ _ _ _ => rfl) (fun s hs => by cases hs; rfl) (by simpa using hst))
        · exact wp_ranW (wanted_yes rfl rfl rfl (hgot 10 _ 68 rfl (hdep ⟨10, .guard⟩ (by simp) rfl) rfl)) (exec_fp24_1 rfl (eval_tmp ((hpar 7 rfl).trans rfl))) (hK x _ _ (fun _ _ _ _ _ _ => rfl) (fun s hs => by cases hs; rfl) (by simpa using hst))
        · exact wp_ranW (wanted_yes rfl rfl rfl (hgot 10 _ 68 rfl (hdep ⟨10, .guard⟩ (by simp) rfl) rfl)) (exec_load rfl (eval_tmp (hgot 13 _ 71 rfl (hdep ⟨13, .data⟩ (by simp) rfl) rfl)) (run_load1 Try.underlying3 rfl (((hst.own (y := oB b7 24 cs) (by simp) : Holds v b7 24 _).cell 1).trans HP1.out))) (hK x _ _ (fun _ _ _ _ _ _ => rfl) (fun s hs => by cases hs; rfl) (by simpa using hst))
        · exact wp_ranW (wanted_yes rfl rfl rfl (hgot 10 _ 68 rfl (hdep ⟨10, .guard⟩ (by simp) rfl) rfl)) (exec_nei HNE.out rfl (eval_tmp (hgot 12 _ 70 rfl (hdep ⟨12, .data⟩ (by simp) rfl) rfl)) (eval_tmp (hgot 14 _ 72 rfl (hdep ⟨14, .data⟩ (by simp) rfl) rfl))) (hK x _ _ (fun _ _ _ _ _ _ => rfl) (fun s hs => by cases hs; rfl) (by simpa using hst))
        · exact wp_ranW (wanted_yes rfl rfl rfl (hgot 10 _ 68 rfl (hdep ⟨10, .chain⟩ (by simp) rfl) rfl)) (exec_move rfl (eval_tmp (hgot 15 _ 73 rfl (hdep ⟨15, .data⟩ (by simp) rfl) rfl))) (hK x _ _ (fun _ _ _ _ _ _ => rfl) (fun s hs => by cases hs; rfl) (by simpa using hst))
        · exact wp_ranW (wanted_yes rfl rfl rfl (hgot 16 _ 74 rfl (hdep ⟨16, .guard⟩ (by simp) rfl) rfl)) (exec_fp24_1 rfl (eval_tmp ((hpar 11 rfl).trans rfl))) (hK x _ _ (fun _ _ _ _ _ _ => rfl) (fun s hs => by cases hs; rfl) (by simpa using hst))
        · exact wp_ranW (wanted_yes rfl rfl rfl (hgot 16 _ 74 rfl (hdep ⟨16, .guard⟩ (by simp) rfl) rfl)) (exec_load rfl (eval_tmp (hgot 17 _ 75 rfl (hdep ⟨17, .data⟩ (by simp) rfl) rfl)) (run_load1 Try.underlying3 rfl (((hst.own (y := oB b11 24 ds) (by simp) : Holds v b11 24 _).cell 1).trans HQ1.out))) (hK x _ _ (fun _ _ _ _ _ _ => rfl) (fun s hs => by cases hs; rfl) (by simpa using hst))
        · exact wp_ranW (wanted_yes rfl rfl rfl (hgot 16 _ 74 rfl (hdep ⟨16, .guard⟩ (by simp) rfl) rfl)) (exec_fp24_1 rfl (eval_tmp ((hpar 7 rfl).trans rfl))) (hK x _ _ (fun _ _ _ _ _ _ => rfl) (fun s hs => by cases hs; rfl) (by simpa using hst))
        · exact wp_ranW (wanted_yes rfl rfl rfl (hgot 16 _ 74 rfl (hdep ⟨16, .guard⟩ (by simp) rfl) rfl)) (exec_load rfl (eval_tmp (hgot 19 _ 77 rfl (hdep ⟨19, .data⟩ (by simp) rfl) rfl)) (run_load1 Try.underlying3 rfl (((hst.own (y := oB b7 24 cs) (by simp) : Holds v b7 24 _).cell 1).trans HP1.out))) (hK x _ _ (fun _ _ _ _ _ _ => rfl) (fun s hs => by cases hs; rfl) (by simpa using hst))
        · exact wp_ranW (wanted_yes rfl rfl rfl (hgot 16 _ 74 rfl (hdep ⟨16, .guard⟩ (by simp) rfl) rfl)) (exec_add rfl (eval_tmp (hgot 20 _ 78 rfl (hdep ⟨20, .data⟩ (by simp) rfl) rfl)) rfl HADD.out) (hK x _ _ (fun _ _ _ _ _ _ => rfl) (fun s hs => by cases hs; rfl) (by simpa using hst))
        · exact wp_ranW (wanted_yes rfl rfl rfl (hgot 16 _ 74 rfl (hdep ⟨16, .guard⟩ (by simp) rfl) rfl)) (exec_nei (r := false) (by simp) rfl (eval_tmp (hgot 18 _ 76 rfl (hdep ⟨18, .data⟩ (by simp) rfl) rfl)) (eval_tmp (hgot 21 _ 79 rfl (hdep ⟨21, .data⟩ (by simp) rfl) rfl))) (hK x _ _ (fun _ _ _ _ _ _ => rfl) (fun s hs => by cases hs; rfl) (by simpa using hst))
        · exact wp_ranW (wanted_yes rfl rfl rfl (hgot 10 _ 68 rfl (hdep ⟨10, .guard⟩ (by simp) rfl) rfl)) (exec_pick rfl (eval_tmp (hgot 16 _ 74 rfl (hdep ⟨16, .data⟩ (by simp) rfl) rfl)) (eval_tmp (hgot 22 _ 80 rfl (hdep ⟨22, .data⟩ (by simp) rfl) rfl)) rfl rfl) (hK x _ _ (fun _ _ _ _ _ _ => rfl) (fun s hs => by cases hs; rfl) (by simpa using hst))
        · exact wp_ran rfl (exec_pick rfl (eval_tmp (hgot 10 _ 68 rfl (hdep ⟨10, .data⟩ (by simp) rfl) rfl)) rfl (eval_tmp (hgot 23 _ 81 rfl (hdep ⟨23, .data⟩ (by simp) rfl) rfl)) rfl) (hK x _ _ (fun _ _ _ _ _ _ => rfl) (fun s hs => by cases hs; rfl) (by simpa using hst))
        · exact wp_ran rfl (exec_move rfl (eval_tmp (hgot 24 _ 82 rfl (hdep ⟨24, .data⟩ (by simp) rfl) rfl))) (hK x _ _ (fun _ _ _ _ _ _ => rfl) (fun s hs => by cases hs; rfl) (by simpa using hst))
        · exact wp_ranW (wanted_yes rfl rfl rfl (hgot 25 _ 83 rfl (hdep ⟨25, .guard⟩ (by simp) rfl) rfl)) (exec_fp24_1 rfl (eval_tmp ((hpar 11 rfl).trans rfl))) (hK x _ _ (fun _ _ _ _ _ _ => rfl) (fun s hs => by cases hs; rfl) (by simpa using hst))
        · exact wp_ranW (wanted_yes rfl rfl rfl (hgot 25 _ 83 rfl (hdep ⟨25, .guard⟩ (by simp) rfl) rfl)) (exec_load rfl (eval_tmp (hgot 26 _ 84 rfl (hdep ⟨26, .data⟩ (by simp) rfl) rfl)) (run_load1 Try.underlying3 rfl (((hst.own (y := oB b11 24 ds) (by simp) : Holds v b11 24 _).cell 1).trans HQ1.out))) (hK x _ _ (fun _ _ _ _ _ _ => rfl) (fun s hs => by cases hs; rfl) (by simpa using hst))
        · exact wp_ranW (wanted_yes rfl rfl rfl (hgot 25 _ 83 rfl (hdep ⟨25, .guard⟩ (by simp) rfl) rfl)) (exec_fp24_1 rfl (eval_tmp ((hpar 7 rfl).trans rfl))) (hK x _ _ (fun _ _ _ _ _ _ => rfl) (fun s hs => by cases hs; rfl) (by simpa using hst))
        · exact wp_ranW (wanted_yes rfl rfl rfl (hgot 25 _ 83 rfl (hdep ⟨25, .guard⟩ (by simp) rfl) rfl)) (exec_load rfl (eval_tmp (hgot 28 _ 86 rfl (hdep ⟨28, .data⟩ (by simp) rfl) rfl)) (run_load1 Try.underlying3 rfl (((hst.own (y := oB b7 24 cs) (by simp) : Holds v b7 24 _).cell 1).trans HP1.out))) (hK x _ _ (fun _ _ _ _ _ _ => rfl) (fun s hs => by cases hs; rfl) (by simpa using hst))
        · exact wp_ranW (wanted_yes rfl rfl rfl (hgot 25 _ 83 rfl (hdep ⟨25, .guard⟩ (by simp) rfl) rfl)) (exec_gtr HGT.out rfl (eval_tmp (hgot 27 _ 85 rfl (hdep ⟨27, .data⟩ (by simp) rfl) rfl)) (eval_tmp (hgot 29 _ 87 rfl (hdep ⟨29, .data⟩ (by simp) rfl) rfl))) (hK x _ _ (fun _ _ _ _ _ _ => rfl) (fun s hs => by cases hs; rfl) (by simpa using hst))
        · exact wp_ranW (wanted_yes rfl rfl rfl (hgot 25 _ 83 rfl (hdep ⟨25, .guard⟩ (by simp) rfl) rfl)) (exec_move rfl (eval_tmp ((hpar 13 rfl).trans rfl))) (hK x _ _ (fun _ _ _ _ _ _ => rfl) (fun s hs => by cases hs; rfl) (by simpa using hst))
        · exact wp_ranW (wanted_yes rfl rfl rfl (hgot 25 _ 83 rfl (hdep ⟨25, .chain⟩ (by simp) rfl) rfl)) (exec_move rfl (eval_tmp (hgot 31 _ 89 rfl (hdep ⟨31, .data⟩ (by simp) rfl) rfl))) (hK x _ _ (fun _ _ _ _ _ _ => rfl) (fun s hs => by cases hs; rfl) (by simpa using hst))
        · exact wp_skip (wanted_no rfl rfl rfl rfl (hgot 32 _ 90 rfl (hdep ⟨32, .guard⟩ (by simp) rfl) rfl)) (hK x _ _ (fun _ _ _ _ _ _ => rfl) (fun s hs => by cases hs; rfl) (by simpa using hst))
        · exact wp_skip (wanted_no rfl rfl rfl rfl (hgot 32 _ 90 rfl (hdep ⟨32, .chain⟩ (by simp) rfl) rfl)) (hK x _ _ (fun _ _ _ _ _ _ => rfl) (fun s hs => by cases hs; rfl) (by simpa using hst))
        · exact wp_skip (wanted_no rfl rfl rfl rfl (hgot 32 _ 90 rfl (hdep ⟨32, .guard⟩ (by simp) rfl) rfl)) (hK x _ _ (fun _ _ _ _ _ _ => rfl) (fun s hs => by cases hs; rfl) (by simpa using hst))
        · exact wp_ranW (wanted_yes rfl rfl rfl (hgot 25 _ 83 rfl (hdep ⟨25, .guard⟩ (by simp) rfl) rfl)) (exec_pick rfl (eval_tmp (hgot 32 _ 90 rfl (hdep ⟨32, .data⟩ (by simp) rfl) rfl)) rfl (eval_tmp (hgot 35 _ 93 rfl (hdep ⟨35, .data⟩ (by simp) rfl) rfl)) rfl) (hK x _ _ (fun _ _ _ _ _ _ => rfl) (fun s hs => by cases hs; rfl) (by simpa using hst))
        · exact wp_ranW (wanted_yes rfl rfl rfl (hgot 25 _ 83 rfl (hdep ⟨25, .guard⟩ (by simp) rfl) rfl)) (exec_neb Try.underlying4 rfl (eval_tmp (hgot 30 _ 88 rfl (hdep ⟨30, .data⟩ (by simp) rfl) rfl)) (eval_tmp (hgot 36 _ 94 rfl (hdep ⟨36, .data⟩ (by simp) rfl) rfl))) (hK x _ _ (fun _ _ _ _ _ _ => rfl) (fun s hs => by cases hs; rfl) (by simpa using hst))
        · exact wp_ran rfl (exec_pick rfl (eval_tmp (hgot 25 _ 83 rfl (hdep ⟨25, .data⟩ (by simp) rfl) rfl)) rfl (eval_tmp (hgot 37 _ 95 rfl (hdep ⟨37, .data⟩ (by simp) rfl) rfl)) rfl) (hK x _ _ (fun _ _ _ _ _ _ => rfl) (fun s hs => by cases hs; rfl) (by simpa using hst))
      intro xx lz v17 hlz hst
      obtain ⟨T17, F17, hT17, hc17⟩ := hst
      have G17 : Fm w v17 [oB b11 24 ds, oB b10 26 [ci z, ci y, ci x0], oB b7 24 cs] T17 := F17
      have HTP7 : Hid (tP S p cs ∈ T17) := Lib.hid (hT17 _ HTP.out)
      have HTQ7 : Hid (tP Sq q ds ∈ T17) := Lib.hid (hT17 _ HTQ.out)
      clear hlz F17 hT17 hc17 F HTP HTQ
      have F := G17
      have HTP := HTP7
      have HTQ := HTQ7
      clear G17 HTP7 HTQ7
      simp only [setAll, Act.put, List.foldl_cons, List.foldl_nil, List.setIfInBounds_toArray, List.set_cons_succ, List.set_cons_zero]
      go_wp2_with fail
      have K1 : Hid (∃ ts, Fm w v17 [oB b11 24 ds, oB b10 26 [ci z, ci y, ci x0], oB b7 24 cs] ts ∧ tP Sq q ds ∈ ts ∧ tP S p cs ∈ ts) := Lib.hid ⟨_, F, HTQ.out, HTP.out⟩
      clear F HTQ HTP
      go_loopw [14] (fun i wr => ∃ nn : Nat, i = .int .i64 nn ∧ 1 ≤ nn ∧ nn ≤ 7 ∧ Hid (∃ ts, Fm w wr [oB b11 24 ds, oB b10 26 [ci z, ci y, ci x0], oB b7 24 cs] ts ∧ tP Sq q ds ∈ ts ∧ tP S p cs ∈ ts)) (fun i _ => 7 - (intOf i).toNat)
      case atStart => exact ⟨1, rfl, by omega, by omega, K1⟩
      case round =>
      obtain ⟨nn, rfl, hn1, hn7, hk⟩ := hrel
      clear K1
      obtain ⟨ts, F, hTQ, hTP⟩ := hk.out
      have HTQ := Lib.hid hTQ
      have HTP := Lib.hid hTP
      clear hk hTQ hTP
      by_cases h7 : nn ≤ 6
      case neg =>
        have h1q := (F.k _ (.inr HTQ.out)).2.1.one
        go_wp2_with (first
          | (with_reducible refine fm_load F 0 rfl (o := ⟨some 184, .load 24 (.tmp 11), _, _, _, _⟩) rfl (.tmp 11) rfl rfl h5q ?_)
          | (with_reducible refine fm_store F 2 rfl (o := ⟨none, .store 24 (.tmp 7) (.tmp 184), _, _, _, _⟩) rfl (.tmp 7) (.tmp 184) rfl rfl ds rfl rfl h5q h5 h1q ?_; intro wy F8; clear F))
        exact ⟨⟨j + 1, q, by go_num, by omega, Lib.hid HG.out.right, Lib.hid ⟨ds, Sq, F8.onlyM (x := oB b7 24 ds) (by simp) HTQ.out⟩⟩, by simp [intOf]; omega⟩
      obtain ⟨a, ha⟩ : ∃ a, p.mayR (nn : Int) m = a := ⟨_, rfl⟩
      obtain ⟨b, hb⟩ : ∃ a, q.mayR (nn : Int) m = a := ⟨_, rfl⟩
      obtain ⟨c', hc⟩ : ∃ a, p.mayW (nn : Int) = a := ⟨_, rfl⟩
      obtain ⟨d, hd⟩ : ∃ a, q.mayW (nn : Int) = a := ⟨_, rfl⟩
      obtain ⟨e, he⟩ : ∃ a, q.mayR (nn : Int) [] = a := ⟨_, rfl⟩
      have lde : d = true → e = true := fun h => by rw [← he]; exact HG.out.writes (by omega) (by omega) (hd.trans h)
      have lab : a = true → b = false → _ := fun h h' => HG.out.lost hR.out (ha.trans h) (hb.trans h')
      have lcd : c' = true → d = false → _ := fun h h' => HG.out.lostW hR.out (hc.trans h) (hd.trans h')
      have lba : b = true → a = true := fun h => by rw [← ha]; exact HG.out.got hR.out (by omega) (hb.trans h)
      have ldc : d = true → c' = true := fun h => by rw [← hc]; exact HG.out.gotW hR.out (by omega) (hd.trans h)
      have hab : (a = false ∧ b = false) ∨ (a = true ∧ b = true) ∨ (a = true ∧ b = false) := by
        cases a <;> cases b <;> simp_all
      have hcd : (c' = false ∧ d = false) ∨ (c' = true ∧ d = true) := by
        cases c' <;> cases d <;> simp_all
      have HA1 := Lib.hid ha
      have HB1 := Lib.hid hb
      have HC := Lib.hid hc
      have HD := Lib.hid hd
      have HE := Lib.hid he
      clear ha hb hc hd he lab lcd lba ldc
      have CC : Hid (∀ v ts, Fm w v [oB b11 24 ds, oB b10 26 [ci z, ci y, ci x0], oB b7 24 cs] ts → tP S p cs ∈ ts → Calls Try.prog 18 #[.agg cs.toArray, ci (nn : Int)] v fun r w' => r = .returned (.bool c') ∧ Mod [] v w') := Lib.hid fun v ts F h => mayW_p (F.k _ (.inr h)).2.1 (F.k _ (.inr h)).2.2 (nn : Int) _ HC
      have CD : Hid (∀ v ts, Fm w v [oB b11 24 ds, oB b10 26 [ci z, ci y, ci x0], oB b7 24 cs] ts → tP Sq q ds ∈ ts → Calls Try.prog 18 #[.agg ds.toArray, ci (nn : Int)] v fun r w' => r = .returned (.bool d) ∧ Mod [] v w') := Lib.hid fun v ts F h => mayW_p (F.k _ (.inr h)).2.1 (F.k _ (.inr h)).2.2 (nn : Int) _ HD
      have CA : Hid (∀ v ts, Fm w v [oB b11 24 ds, oB b10 26 [ci z, ci y, ci x0], oB b7 24 cs] ts → tP S p cs ∈ ts → Calls Try.prog 20 #[.agg cs.toArray, ci (nn : Int), .slice B nb cb] v fun r w' => r = .returned (.bool a) ∧ Mod [] v w') := Lib.hid fun v ts F h => mayR_q (F.k _ (.inr h)).2.1 (F.k _ (.inr h)).2.2 (nn : Int) B nb cb m (HM.out.call F.m) _ HA1
      have CB : Hid (∀ v ts, Fm w v [oB b11 24 ds, oB b10 26 [ci z, ci y, ci x0], oB b7 24 cs] ts → tP Sq q ds ∈ ts → Calls Try.prog 20 #[.agg ds.toArray, ci (nn : Int), .slice B nb cb] v fun r w' => r = .returned (.bool b) ∧ Mod [] v w') := Lib.hid fun v ts F h => mayR_q (F.k _ (.inr h)).2.1 (F.k _ (.inr h)).2.2 (nn : Int) B nb cb m (HM.out.call F.m) _ HB1
      have CE : Hid (∀ v ts, Fm w v [oB b11 24 ds, oB b10 26 [ci z, ci y, ci x0], oB b7 24 cs] ts → tP Sq q ds ∈ ts → Calls Try.prog 20 #[.agg ds.toArray, ci (nn : Int), .slice none 0 0] v fun r w' => r = .returned (.bool e) ∧ Mod [] v w') := Lib.hid fun v ts F h => mayR_q (F.k _ (.inr h)).2.1 (F.k _ (.inr h)).2.2 (nn : Int) none 0 0 [] (BelR.none _) _ HE
      clear HA1 HB1 HC HD HE
      rcases hab with ⟨rfl, rfl⟩ | ⟨rfl, rfl⟩ | ⟨rfl, rfl⟩
      · rcases hcd with ⟨rfl, rfl⟩ | ⟨rfl, rfl⟩
        · clear lde
          go_wp2_with (first
            | (with_reducible refine fm_load F 0 rfl (o := ⟨some _, .load 24 (.tmp 11), _, _, _, _⟩) rfl (.tmp 11) rfl rfl h5q ?_)
            | (with_reducible refine fm_load F 2 rfl (o := ⟨some _, .load 24 (.tmp 7), _, _, _, _⟩) rfl (.tmp 7) rfl rfl h5 ?_)
            | (with_reducible refine fm_loadG F 0 rfl (o := ⟨some _, .load 24 (.tmp 11), _, _, _, _⟩) (by with_unfolding_all rfl) (.tmp 11) rfl rfl h5q ?_)
            | (with_reducible refine fm_loadG F 2 rfl (o := ⟨some _, .load 24 (.tmp 7), _, _, _, _⟩) (by with_unfolding_all rfl) (.tmp 7) rfl rfl h5 ?_)
            | (with_reducible refine fm_load26 F 1 rfl (o := ⟨some _, .load 26 (.tmp 10), _, _, _, _⟩) rfl (.tmp 10) rfl rfl ?_)
            | (with_reducible refine fm_load26G F 1 rfl (o := ⟨some _, .load 26 (.tmp 10), _, _, _, _⟩) (by with_unfolding_all rfl) (.tmp 10) rfl rfl ?_)
            | (with_reducible refine fm_load1G' F 1 2 rfl (ci x0) rfl (o := ⟨some _, .load 3 (.tmp 127), _, _, _, _⟩) (by with_unfolding_all rfl) 3 (.tmp 127) rfl rfl (run_load1 Try.underlying3 rfl) ?_)
            | (with_reducible refine fm_load1G' F 1 2 rfl (ci x0) rfl (o := ⟨some _, .load 3 (.tmp 153), _, _, _, _⟩) (by with_unfolding_all rfl) 3 (.tmp 153) rfl rfl (run_load1 Try.underlying3 rfl) ?_)
            | (go_at_call 18; with_reducible refine Calls.mono (CC.out _ _ F HTP.out) ?_; rintro e wz ⟨rfl, mz⟩; replace F := F.call mz; clear mz)
            | (go_at_call 18; with_reducible refine Calls.mono (CD.out _ _ F HTQ.out) ?_; rintro e wz ⟨rfl, mz⟩; replace F := F.call mz; clear mz)
            | (go_at_call 20; with_reducible refine Calls.mono (CA.out _ _ F HTP.out) ?_; rintro e wz ⟨rfl, mz⟩; replace F := F.call mz; clear mz)
            | (go_at_call 20; with_reducible refine Calls.mono (CB.out _ _ F HTQ.out) ?_; rintro e wz ⟨rfl, mz⟩; replace F := F.call mz; clear mz)
            | (go_at_call 20; with_reducible refine Calls.mono (CE.out _ _ F HTQ.out) ?_; rintro e wz ⟨rfl, mz⟩; replace F := F.call mz; clear mz)
            | (go_at_call 12; with_reducible refine Calls.mono (kind_c z y x0 _ HK _) ?_; rintro e wz ⟨rfl, mz⟩; replace F := F.call mz; clear mz))
          exact ⟨⟨nn + 1, by go_num, by omega, by omega, Lib.hid ⟨_, F, HTQ.out, HTP.out⟩⟩, by simp [intOf]; omega⟩
        · obtain rfl : true = e := (lde rfl).symm
          clear lde
          go_wp2_with (first
            | (with_reducible refine fm_load F 0 rfl (o := ⟨some _, .load 24 (.tmp 11), _, _, _, _⟩) rfl (.tmp 11) rfl rfl h5q ?_)
            | (with_reducible refine fm_load F 2 rfl (o := ⟨some _, .load 24 (.tmp 7), _, _, _, _⟩) rfl (.tmp 7) rfl rfl h5 ?_)
            | (with_reducible refine fm_loadG F 0 rfl (o := ⟨some _, .load 24 (.tmp 11), _, _, _, _⟩) (by with_unfolding_all rfl) (.tmp 11) rfl rfl h5q ?_)
            | (with_reducible refine fm_loadG F 2 rfl (o := ⟨some _, .load 24 (.tmp 7), _, _, _, _⟩) (by with_unfolding_all rfl) (.tmp 7) rfl rfl h5 ?_)
            | (with_reducible refine fm_load26 F 1 rfl (o := ⟨some _, .load 26 (.tmp 10), _, _, _, _⟩) rfl (.tmp 10) rfl rfl ?_)
            | (with_reducible refine fm_load26G F 1 rfl (o := ⟨some _, .load 26 (.tmp 10), _, _, _, _⟩) (by with_unfolding_all rfl) (.tmp 10) rfl rfl ?_)
            | (with_reducible refine fm_load1G' F 1 2 rfl (ci x0) rfl (o := ⟨some _, .load 3 (.tmp 127), _, _, _, _⟩) (by with_unfolding_all rfl) 3 (.tmp 127) rfl rfl (run_load1 Try.underlying3 rfl) ?_)
            | (with_reducible refine fm_load1G' F 1 2 rfl (ci x0) rfl (o := ⟨some _, .load 3 (.tmp 153), _, _, _, _⟩) (by with_unfolding_all rfl) 3 (.tmp 153) rfl rfl (run_load1 Try.underlying3 rfl) ?_)
            | (go_at_call 18; with_reducible refine Calls.mono (CC.out _ _ F HTP.out) ?_; rintro e wz ⟨rfl, mz⟩; replace F := F.call mz; clear mz)
            | (go_at_call 18; with_reducible refine Calls.mono (CD.out _ _ F HTQ.out) ?_; rintro e wz ⟨rfl, mz⟩; replace F := F.call mz; clear mz)
            | (go_at_call 20; with_reducible refine Calls.mono (CA.out _ _ F HTP.out) ?_; rintro e wz ⟨rfl, mz⟩; replace F := F.call mz; clear mz)
            | (go_at_call 20; with_reducible refine Calls.mono (CB.out _ _ F HTQ.out) ?_; rintro e wz ⟨rfl, mz⟩; replace F := F.call mz; clear mz)
            | (go_at_call 20; with_reducible refine Calls.mono (CE.out _ _ F HTQ.out) ?_; rintro e wz ⟨rfl, mz⟩; replace F := F.call mz; clear mz)
            | (go_at_call 12; with_reducible refine Calls.mono (kind_c z y x0 _ HK _) ?_; rintro e wz ⟨rfl, mz⟩; replace F := F.call mz; clear mz))
          exact ⟨⟨nn + 1, by go_num, by omega, by omega, Lib.hid ⟨_, F, HTQ.out, HTP.out⟩⟩, by simp [intOf]; omega⟩
      · rcases hcd with ⟨rfl, rfl⟩ | ⟨rfl, rfl⟩
        · clear lde
          go_wp2_with (first
            | (with_reducible refine fm_load F 0 rfl (o := ⟨some _, .load 24 (.tmp 11), _, _, _, _⟩) rfl (.tmp 11) rfl rfl h5q ?_)
            | (with_reducible refine fm_load F 2 rfl (o := ⟨some _, .load 24 (.tmp 7), _, _, _, _⟩) rfl (.tmp 7) rfl rfl h5 ?_)
            | (with_reducible refine fm_loadG F 0 rfl (o := ⟨some _, .load 24 (.tmp 11), _, _, _, _⟩) (by with_unfolding_all rfl) (.tmp 11) rfl rfl h5q ?_)
            | (with_reducible refine fm_loadG F 2 rfl (o := ⟨some _, .load 24 (.tmp 7), _, _, _, _⟩) (by with_unfolding_all rfl) (.tmp 7) rfl rfl h5 ?_)
            | (with_reducible refine fm_load26 F 1 rfl (o := ⟨some _, .load 26 (.tmp 10), _, _, _, _⟩) rfl (.tmp 10) rfl rfl ?_)
            | (with_reducible refine fm_load26G F 1 rfl (o := ⟨some _, .load 26 (.tmp 10), _, _, _, _⟩) (by with_unfolding_all rfl) (.tmp 10) rfl rfl ?_)
            | (with_reducible refine fm_load1G' F 1 2 rfl (ci x0) rfl (o := ⟨some _, .load 3 (.tmp 127), _, _, _, _⟩) (by with_unfolding_all rfl) 3 (.tmp 127) rfl rfl (run_load1 Try.underlying3 rfl) ?_)
            | (with_reducible refine fm_load1G' F 1 2 rfl (ci x0) rfl (o := ⟨some _, .load 3 (.tmp 153), _, _, _, _⟩) (by with_unfolding_all rfl) 3 (.tmp 153) rfl rfl (run_load1 Try.underlying3 rfl) ?_)
            | (go_at_call 18; with_reducible refine Calls.mono (CC.out _ _ F HTP.out) ?_; rintro e wz ⟨rfl, mz⟩; replace F := F.call mz; clear mz)
            | (go_at_call 18; with_reducible refine Calls.mono (CD.out _ _ F HTQ.out) ?_; rintro e wz ⟨rfl, mz⟩; replace F := F.call mz; clear mz)
            | (go_at_call 20; with_reducible refine Calls.mono (CA.out _ _ F HTP.out) ?_; rintro e wz ⟨rfl, mz⟩; replace F := F.call mz; clear mz)
            | (go_at_call 20; with_reducible refine Calls.mono (CB.out _ _ F HTQ.out) ?_; rintro e wz ⟨rfl, mz⟩; replace F := F.call mz; clear mz)
            | (go_at_call 20; with_reducible refine Calls.mono (CE.out _ _ F HTQ.out) ?_; rintro e wz ⟨rfl, mz⟩; replace F := F.call mz; clear mz)
            | (go_at_call 12; with_reducible refine Calls.mono (kind_c z y x0 _ HK _) ?_; rintro e wz ⟨rfl, mz⟩; replace F := F.call mz; clear mz))
          exact ⟨⟨nn + 1, by go_num, by omega, by omega, Lib.hid ⟨_, F, HTQ.out, HTP.out⟩⟩, by simp [intOf]; omega⟩
        · obtain rfl : true = e := (lde rfl).symm
          clear lde
          go_wp2_with (first
            | (with_reducible refine fm_load F 0 rfl (o := ⟨some _, .load 24 (.tmp 11), _, _, _, _⟩) rfl (.tmp 11) rfl rfl h5q ?_)
            | (with_reducible refine fm_load F 2 rfl (o := ⟨some _, .load 24 (.tmp 7), _, _, _, _⟩) rfl (.tmp 7) rfl rfl h5 ?_)
            | (with_reducible refine fm_loadG F 0 rfl (o := ⟨some _, .load 24 (.tmp 11), _, _, _, _⟩) (by with_unfolding_all rfl) (.tmp 11) rfl rfl h5q ?_)
            | (with_reducible refine fm_loadG F 2 rfl (o := ⟨some _, .load 24 (.tmp 7), _, _, _, _⟩) (by with_unfolding_all rfl) (.tmp 7) rfl rfl h5 ?_)
            | (with_reducible refine fm_load26 F 1 rfl (o := ⟨some _, .load 26 (.tmp 10), _, _, _, _⟩) rfl (.tmp 10) rfl rfl ?_)
            | (with_reducible refine fm_load26G F 1 rfl (o := ⟨some _, .load 26 (.tmp 10), _, _, _, _⟩) (by with_unfolding_all rfl) (.tmp 10) rfl rfl ?_)
            | (with_reducible refine fm_load1G' F 1 2 rfl (ci x0) rfl (o := ⟨some _, .load 3 (.tmp 127), _, _, _, _⟩) (by with_unfolding_all rfl) 3 (.tmp 127) rfl rfl (run_load1 Try.underlying3 rfl) ?_)
            | (with_reducible refine fm_load1G' F 1 2 rfl (ci x0) rfl (o := ⟨some _, .load 3 (.tmp 153), _, _, _, _⟩) (by with_unfolding_all rfl) 3 (.tmp 153) rfl rfl (run_load1 Try.underlying3 rfl) ?_)
            | (go_at_call 18; with_reducible refine Calls.mono (CC.out _ _ F HTP.out) ?_; rintro e wz ⟨rfl, mz⟩; replace F := F.call mz; clear mz)
            | (go_at_call 18; with_reducible refine Calls.mono (CD.out _ _ F HTQ.out) ?_; rintro e wz ⟨rfl, mz⟩; replace F := F.call mz; clear mz)
            | (go_at_call 20; with_reducible refine Calls.mono (CA.out _ _ F HTP.out) ?_; rintro e wz ⟨rfl, mz⟩; replace F := F.call mz; clear mz)
            | (go_at_call 20; with_reducible refine Calls.mono (CB.out _ _ F HTQ.out) ?_; rintro e wz ⟨rfl, mz⟩; replace F := F.call mz; clear mz)
            | (go_at_call 20; with_reducible refine Calls.mono (CE.out _ _ F HTQ.out) ?_; rintro e wz ⟨rfl, mz⟩; replace F := F.call mz; clear mz)
            | (go_at_call 12; with_reducible refine Calls.mono (kind_c z y x0 _ HK _) ?_; rintro e wz ⟨rfl, mz⟩; replace F := F.call mz; clear mz))
          exact ⟨⟨nn + 1, by go_num, by omega, by omega, Lib.hid ⟨_, F, HTQ.out, HTP.out⟩⟩, by simp [intOf]; omega⟩
      · rcases hcd with ⟨rfl, rfl⟩ | ⟨rfl, rfl⟩
        · clear lde
          go_wp2_with (first
            | (with_reducible refine fm_load F 0 rfl (o := ⟨some _, .load 24 (.tmp 11), _, _, _, _⟩) rfl (.tmp 11) rfl rfl h5q ?_)
            | (with_reducible refine fm_load F 2 rfl (o := ⟨some _, .load 24 (.tmp 7), _, _, _, _⟩) rfl (.tmp 7) rfl rfl h5 ?_)
            | (with_reducible refine fm_loadG F 0 rfl (o := ⟨some _, .load 24 (.tmp 11), _, _, _, _⟩) (by with_unfolding_all rfl) (.tmp 11) rfl rfl h5q ?_)
            | (with_reducible refine fm_loadG F 2 rfl (o := ⟨some _, .load 24 (.tmp 7), _, _, _, _⟩) (by with_unfolding_all rfl) (.tmp 7) rfl rfl h5 ?_)
            | (with_reducible refine fm_load26 F 1 rfl (o := ⟨some _, .load 26 (.tmp 10), _, _, _, _⟩) rfl (.tmp 10) rfl rfl ?_)
            | (with_reducible refine fm_load26G F 1 rfl (o := ⟨some _, .load 26 (.tmp 10), _, _, _, _⟩) (by with_unfolding_all rfl) (.tmp 10) rfl rfl ?_)
            | (with_reducible refine fm_load1G' F 1 2 rfl (ci x0) rfl (o := ⟨some _, .load 3 (.tmp 127), _, _, _, _⟩) (by with_unfolding_all rfl) 3 (.tmp 127) rfl rfl (run_load1 Try.underlying3 rfl) ?_)
            | (with_reducible refine fm_load1G' F 1 2 rfl (ci x0) rfl (o := ⟨some _, .load 3 (.tmp 153), _, _, _, _⟩) (by with_unfolding_all rfl) 3 (.tmp 153) rfl rfl (run_load1 Try.underlying3 rfl) ?_)
            | (go_at_call 18; with_reducible refine Calls.mono (CC.out _ _ F HTP.out) ?_; rintro e wz ⟨rfl, mz⟩; replace F := F.call mz; clear mz)
            | (go_at_call 18; with_reducible refine Calls.mono (CD.out _ _ F HTQ.out) ?_; rintro e wz ⟨rfl, mz⟩; replace F := F.call mz; clear mz)
            | (go_at_call 20; with_reducible refine Calls.mono (CA.out _ _ F HTP.out) ?_; rintro e wz ⟨rfl, mz⟩; replace F := F.call mz; clear mz)
            | (go_at_call 20; with_reducible refine Calls.mono (CB.out _ _ F HTQ.out) ?_; rintro e wz ⟨rfl, mz⟩; replace F := F.call mz; clear mz)
            | (go_at_call 20; with_reducible refine Calls.mono (CE.out _ _ F HTQ.out) ?_; rintro e wz ⟨rfl, mz⟩; replace F := F.call mz; clear mz)
            | (go_at_call 12; with_reducible refine Calls.mono (kind_c z y x0 _ HK _) ?_; rintro e wz ⟨rfl, mz⟩; replace F := F.call mz; clear mz))
          exact ⟨⟨nn + 1, by go_num, by omega, by omega, Lib.hid ⟨_, F, HTQ.out, HTP.out⟩⟩, by simp [intOf]; omega⟩
        · obtain rfl : true = e := (lde rfl).symm
          clear lde
          go_wp2_with (first
            | (with_reducible refine fm_load F 0 rfl (o := ⟨some _, .load 24 (.tmp 11), _, _, _, _⟩) rfl (.tmp 11) rfl rfl h5q ?_)
            | (with_reducible refine fm_load F 2 rfl (o := ⟨some _, .load 24 (.tmp 7), _, _, _, _⟩) rfl (.tmp 7) rfl rfl h5 ?_)
            | (with_reducible refine fm_loadG F 0 rfl (o := ⟨some _, .load 24 (.tmp 11), _, _, _, _⟩) (by with_unfolding_all rfl) (.tmp 11) rfl rfl h5q ?_)
            | (with_reducible refine fm_loadG F 2 rfl (o := ⟨some _, .load 24 (.tmp 7), _, _, _, _⟩) (by with_unfolding_all rfl) (.tmp 7) rfl rfl h5 ?_)
            | (with_reducible refine fm_load26 F 1 rfl (o := ⟨some _, .load 26 (.tmp 10), _, _, _, _⟩) rfl (.tmp 10) rfl rfl ?_)
            | (with_reducible refine fm_load26G F 1 rfl (o := ⟨some _, .load 26 (.tmp 10), _, _, _, _⟩) (by with_unfolding_all rfl) (.tmp 10) rfl rfl ?_)
            | (with_reducible refine fm_load1G' F 1 2 rfl (ci x0) rfl (o := ⟨some _, .load 3 (.tmp 127), _, _, _, _⟩) (by with_unfolding_all rfl) 3 (.tmp 127) rfl rfl (run_load1 Try.underlying3 rfl) ?_)
            | (with_reducible refine fm_load1G' F 1 2 rfl (ci x0) rfl (o := ⟨some _, .load 3 (.tmp 153), _, _, _, _⟩) (by with_unfolding_all rfl) 3 (.tmp 153) rfl rfl (run_load1 Try.underlying3 rfl) ?_)
            | (go_at_call 18; with_reducible refine Calls.mono (CC.out _ _ F HTP.out) ?_; rintro e wz ⟨rfl, mz⟩; replace F := F.call mz; clear mz)
            | (go_at_call 18; with_reducible refine Calls.mono (CD.out _ _ F HTQ.out) ?_; rintro e wz ⟨rfl, mz⟩; replace F := F.call mz; clear mz)
            | (go_at_call 20; with_reducible refine Calls.mono (CA.out _ _ F HTP.out) ?_; rintro e wz ⟨rfl, mz⟩; replace F := F.call mz; clear mz)
            | (go_at_call 20; with_reducible refine Calls.mono (CB.out _ _ F HTQ.out) ?_; rintro e wz ⟨rfl, mz⟩; replace F := F.call mz; clear mz)
            | (go_at_call 20; with_reducible refine Calls.mono (CE.out _ _ F HTQ.out) ?_; rintro e wz ⟨rfl, mz⟩; replace F := F.call mz; clear mz)
            | (go_at_call 12; with_reducible refine Calls.mono (kind_c z y x0 _ HK _) ?_; rintro e wz ⟨rfl, mz⟩; replace F := F.call mz; clear mz))
          exact ⟨⟨nn + 1, by go_num, by omega, by omega, Lib.hid ⟨_, F, HTQ.out, HTP.out⟩⟩, by simp [intOf]; omega⟩
  have c4 : (k == 4) = false := beq_eq_false_iff_ne.2 kck4
  by_cases kck5 : k = 5
  case pos =>
    as_aux_lemma =>
      subst kck5
      go_wp2_with (first
        | (with_reducible refine wpList_loads (o := ⟨some 36, .load 26 (.tmp 35), _, _, _, _⟩) rfl 26 (.tmp 35) rfl ga (fa + j * 3) [ci z, ci y, ci x0] rfl HC3.out _ Try.underlying26 rfl (size26o z y x0) _ rfl ?_)
        | (with_reducible refine fm_alloc F0 (o := ⟨some 10, .alloc 26, _, _, _, _⟩) rfl 26 rfl _ zero26' ?_; intro b10 wa Fa; clear F0)
        | (with_reducible refine fm_store26 Fa 0 rfl (o := ⟨none, .store 26 (.tmp 10) (.tmp 36), _, _, _, _⟩) rfl (.tmp 10) (.tmp 36) rfl rfl rfl rfl ?_; intro wb F; clear Fa)
        | (with_reducible refine fm_load F 1 rfl (o := ⟨some 40, .load 24 (.tmp 7), _, _, _, _⟩) rfl (.tmp 7) rfl rfl h5 ?_)
        | (with_reducible refine fm_load26 F 0 rfl (o := ⟨some 41, .load 26 (.tmp 10), _, _, _, _⟩) rfl (.tmp 10) rfl rfl ?_)
        | (go_at_call 9; refine (DO.out _ (F.s 0 rfl) (F.slt 0 rfl)).mono ?_
           rintro e wc ⟨ds, rfl, hP2, m2⟩
           have F2 := (F.put m2 (tP _ _ ds) (keeps_tP _ _ _) hP2 (fun g hg => .inl hg))
           have h5q := hP2.len
           have h1q := hP2.one
           clear F m2 hP2)
        | (with_reducible refine fm_alloc F2 (o := ⟨some 11, .alloc 24, _, _, _, _⟩) rfl 24 rfl _ zero24 ?_; intro b11 wd F3; clear F2)
        | (with_reducible refine fm_store F3 0 rfl (o := ⟨none, .store 24 (.tmp 11) (.tmp 43), _, _, _, _⟩) rfl (.tmp 11) (.tmp 43) rfl rfl ds rfl rfl h5q rfl h1q ?_; intro we F; clear F3)
        | (with_reducible refine fm_load26 F 1 rfl (o := ⟨some 50, .load 26 (.tmp 10), _, _, _, _⟩) rfl (.tmp 10) rfl rfl ?_)
        | (with_reducible refine fm_load26G F 1 rfl (o := ⟨some 54, .load 26 (.tmp 10), _, _, _, _⟩) (by with_unfolding_all rfl) (.tmp 10) rfl rfl ?_)
        | (go_at_call 12; with_reducible refine Calls.mono (kind_c z y x0 _ HK _) ?_; rintro e wz ⟨rfl, mz⟩; replace F := F.call mz; clear mz))
      have hQ := F.s 0 rfl
      have hP := F.s 1 rfl
      have HP0 : Hid (cs[0]? = some (ci p.own)) := Lib.hid (PIs.c0 hP)
      have HP1 : Hid (cs[1]? = some (ci p.ep)) := Lib.hid (PIs.c1 hP)
      have HQ0 : Hid (ds[0]? = some (ci p.own)) := Lib.hid (by rw [← HG.out.own]; exact PIs.c0 hQ)
      have HQ1 : Hid (ds[1]? = some (ci q.ep)) := Lib.hid (PIs.c1 hQ)
      have HBQ : Hid (q.rightB = true) := Lib.hid ((Pm.right_iff q).2 HG.out.right)
      have hpe := hR.out.e1
      have hpe8 := hR.out.e8
      have hqe := HG.out.ep
      rw [if_pos (by omega)] at hqe
      obtain ⟨pe, hpe0⟩ : ∃ e, e = p.ep := ⟨_, rfl⟩
      obtain ⟨qe, hqe0⟩ : ∃ e, e = q.ep := ⟨_, rfl⟩
      rw [← hpe0] at HP1 hpe hpe8 hqe
      rw [← hqe0] at HQ1 hqe
      have HNE : Hid ((!(qe == pe)) = true) := Lib.hid (by simp; omega)
      have HGT : Hid (decide (pe < qe) = true) := Lib.hid (by simp; omega)
      have HADD : Hid (IntKind.i64.wrap (pe + 1) = qe) := Lib.hid (by rw [IntKind.wrap_i64] <;> omega)
      obtain ⟨Sq, TB, F', HTQ, HTP⟩ : ∃ Sq TB, Fm w _ [oB b11 24 ds, oB b10 26 [ci z, ci y, ci x0], oB b7 24 cs] TB ∧ Hid (tP Sq q ds ∈ TB) ∧ Hid (tP S p cs ∈ TB) := ⟨_, _, F, Lib.hid (List.mem_cons_self ..), Lib.hid (List.mem_cons_of_mem _ (List.mem_cons_self ..))⟩
      clear F hQ hP hpe hpe8 hqe hpe0 hqe0
      have F := F'
      clear F' 
      refine wp_region_upx (X := XC) (⟨0, [], []⟩) (fun x => [(58, .agg ds.toArray), (59, .int .i64 0), (60, .bool false), (61, .bool false), (62, .pointer (some ⟨b11, 0, none⟩)), (63, ci p.own), (64, .pointer (some ⟨b7, 0, none⟩)), (65, ci p.own), (66, .bool false), (67, .bool false), (68, .bool false), (69, .pointer (some ⟨b11, 1, none⟩)), (70, ci qe), (71, .pointer (some ⟨b7, 1, none⟩)), (72, ci pe), (73, .bool true), (74, .bool true), (75, .pointer (some ⟨b11, 1, none⟩)), (76, ci qe), (77, .pointer (some ⟨b7, 1, none⟩)), (78, ci pe), (79, ci qe), (80, .bool false), (81, .bool false), (82, .bool false), (83, .bool false), (84, .pointer (some ⟨b11, 1, none⟩)), (85, ci qe), (86, .pointer (some ⟨b7, 1, none⟩)), (87, ci pe), (88, .bool true), (89, .bool false), (90, .bool false), (91, .agg #[ci z, ci y, ci x0]), (92, ci 5), (93, .bool true), (94, .bool true), (95, .bool false), (96, .bool false)]) 186 [58, 59, 60, 61, 62, 63, 64, 65, 66, 67, 68, 69, 70, 71, 72, 73, 74, 75, 76, 77, 78, 79, 80, 81, 82, 83, 84, 85, 86, 87, 88, 89, 90, 91, 92, 93, 94, 95, 96] rfl (fun _ => rfl) (by decide) (by kernel_rfl) (fun x lz v => CgS w [oB b11 24 ds, oB b10 26 [ci z, ci y, ci x0], oB b7 24 cs] TB p p false false false false x v) (by kernel_rfl) (CgS.begin (F.call (Mod.drew [] _)) _) (by kernel_rfl) (by kernel_rfl) ?_ ?_
      · skip
        intro x lz T v j o hj hlj hdep hst hpar hgot hcl Kq hK
        have hjn : j < 39 := (Array.getElem?_eq_some_iff.1 hj).1
        obtain rfl | rfl | rfl | rfl | rfl | rfl | rfl | rfl | rfl | rfl | rfl | rfl | rfl | rfl | rfl | rfl | rfl | rfl | rfl | rfl | rfl | rfl | rfl | rfl | rfl | rfl | rfl | rfl | rfl | rfl | rfl | rfl | rfl | rfl | rfl | rfl | rfl | rfl | rfl : j = 0 ∨ j = 1 ∨ j = 2 ∨ j = 3 ∨ j = 4 ∨ j = 5 ∨ j = 6 ∨ j = 7 ∨ j = 8 ∨ j = 9 ∨ j = 10 ∨ j = 11 ∨ j = 12 ∨ j = 13 ∨ j = 14 ∨ j = 15 ∨ j = 16 ∨ j = 17 ∨ j = 18 ∨ j = 19 ∨ j = 20 ∨ j = 21 ∨ j = 22 ∨ j = 23 ∨ j = 24 ∨ j = 25 ∨ j = 26 ∨ j = 27 ∨ j = 28 ∨ j = 29 ∨ j = 30 ∨ j = 31 ∨ j = 32 ∨ j = 33 ∨ j = 34 ∨ j = 35 ∨ j = 36 ∨ j = 37 ∨ j = 38 := by omega
        all_goals (have hj' := Option.some.inj (hj : some _ = some o); subst hj'; clear hj)
        · exact wp_ran rfl (exec_load rfl (eval_tmp ((hpar 11 rfl).trans rfl)) (run_loads (Cells.of_holds (hst.own (y := oB b11 24 ds) (by simp))) Try.underlying24 rfl (size24' h5q))) (hK x _ _ (fun _ _ _ _ _ _ => rfl) (fun s hs => by cases hs; rfl) (by simpa using hst))
        · obtain ⟨hP, hS⟩ := hst.std HTQ.out
          refine wp_called rfl (exec_call1 rfl rfl (eval_tmp (hgot 0 _ 58 rfl (hdep ⟨0, .data⟩ (by simp) rfl) rfl)) (enters_of Try.func15 (by kernel_rfl) rfl)) ((check_p hP true HBQ).mono ?_)
          rintro e v' ⟨rfl, m1⟩
          exact ⟨_, rfl, hK x _ _ (fun _ _ _ _ _ _ => rfl) (fun s hs => by cases hs; rfl) (by simpa using hst.call m1)⟩
        · exact wp_ran rfl (exec_nei rfl rfl (eval_tmp (hgot 1 _ 59 rfl (hdep ⟨1, .data⟩ (by simp) rfl) rfl)) rfl) (hK x _ _ (fun _ _ _ _ _ _ => rfl) (fun s hs => by cases hs; rfl) (by simpa using hst))
        · exact wp_ran rfl (exec_move rfl (eval_tmp (hgot 2 _ 60 rfl (hdep ⟨2, .data⟩ (by simp) rfl) rfl))) (hK x _ _ (fun _ _ _ _ _ _ => rfl) (fun s hs => by cases hs; rfl) (by simpa using hst))
        · exact wp_ranW (wanted_yes rfl rfl rfl (hgot 3 _ 61 rfl (hdep ⟨3, .guard⟩ (by simp) rfl) rfl)) (exec_fp24_0 rfl (eval_tmp ((hpar 11 rfl).trans rfl))) (hK x _ _ (fun _ _ _ _ _ _ => rfl) (fun s hs => by cases hs; rfl) (by simpa using hst))
        · exact wp_ranW (wanted_yes rfl rfl rfl (hgot 3 _ 61 rfl (hdep ⟨3, .guard⟩ (by simp) rfl) rfl)) (exec_load rfl (eval_tmp (hgot 4 _ 62 rfl (hdep ⟨4, .data⟩ (by simp) rfl) rfl)) (run_load1 Try.underlying3 rfl (((hst.own (y := oB b11 24 ds) (by simp) : Holds v b11 24 _).cell 0).trans HQ0.out))) (hK x _ _ (fun _ _ _ _ _ _ => rfl) (fun s hs => by cases hs; rfl) (by simpa using hst))
        · exact wp_ranW (wanted_yes rfl rfl rfl (hgot 3 _ 61 rfl (hdep ⟨3, .guard⟩ (by simp) rfl) rfl)) (exec_fp24_0 rfl (eval_tmp ((hpar 7 rfl).trans rfl))) (hK x _ _ (fun _ _ _ _ _ _ => rfl) (fun s hs => by cases hs; rfl) (by simpa using hst))
        · exact wp_ranW (wanted_yes rfl rfl rfl (hgot 3 _ 61 rfl (hdep ⟨3, .guard⟩ (by simp) rfl) rfl)) (exec_load rfl (eval_tmp (hgot 6 _ 64 rfl (hdep ⟨6, .data⟩ (by simp) rfl) rfl)) (run_load1 Try.underlying3 rfl (((hst.own (y := oB b7 24 cs) (by simp) : Holds v b7 24 _).cell 0).trans HP0.out))) (hK x _ _ (fun _ _ _ _ _ _ => rfl) (fun s hs => by cases hs; rfl) (by simpa using hst))
        · exact wp_ranW (wanted_yes rfl rfl rfl (hgot 3 _ 61 rfl (hdep ⟨3, .guard⟩ (by simp) rfl) rfl)) (exec_nei (r := false) (by simp) rfl (eval_tmp (hgot 5 _ 63 rfl (hdep ⟨5, .data⟩ (by simp) rfl) rfl)) (eval_tmp (hgot 7 _ 65 rfl (hdep ⟨7, .data⟩ (by simp) rfl) rfl))) (hK x _ _ (fun _ _ _ _ _ _ => rfl) (fun s hs => by cases hs; rfl) (by simpa using hst))
        · exact wp_ran rfl (exec_pick rfl (eval_tmp (hgot 3 _ 61 rfl (hdep ⟨3, .data⟩ (by simp) rfl) rfl)) rfl (eval_tmp (hgot 8 _ 66 rfl (hdep ⟨8, .data⟩ (by simp) rfl) rfl)) rfl) (hK x _ _ (fun _ _ _ _ _ _ => rfl) (fun s hs => by cases hs; rfl) (by simpa using hst))
        · exact wp_ran rfl (exec_move rfl (eval_tmp (hgot 9 _ 67 rfl (hdep ⟨9, .data⟩ (by simp) rfl) rfl))) (hK x _ _ (fun _ _ _ _ _ _ => rfl) (fun s hs => by cases hs; rfl) (by simpa using hst))
        · exact wp_ranW (wanted_yes rfl rfl rfl (hgot 10 _ 68 rfl (hdep ⟨10, .guard⟩ (by simp) rfl) rfl)) (exec_fp24_1 rfl (eval_tmp ((hpar 11 rfl).trans rfl))) (hK x _ _ (fun _ _ _ _ _ _ => rfl) (fun s hs => by cases hs; rfl) (by simpa using hst))
        · exact wp_ranW (wanted_yes rfl rfl rfl (hgot 10 _ 68 rfl (hdep ⟨10, .guard⟩ (by simp) rfl) rfl)) (exec_load rfl (eval_tmp (hgot 11 _ 69 rfl (hdep ⟨11, .data⟩ (by simp) rfl) rfl)) (run_load1 Try.underlying3 rfl (((hst.own (y := oB b11 24 ds) (by simp) : Holds v b11 24 _).cell 1).trans HQ1.out))) (hK x _ _ (fun _ _ _ _ _ _ => rfl) (fun s hs => by cases hs; rfl) (by simpa using hst))
        · exact wp_ranW (wanted_yes rfl rfl rfl (hgot 10 _ 68 rfl (hdep ⟨10, .guard⟩ (by simp) rfl) rfl)) (exec_fp24_1 rfl (eval_tmp ((hpar 7 rfl).trans rfl))) (hK x _ _ (fun _ _ _ _ _ _ => rfl) (fun s hs => by cases hs; rfl) (by simpa using hst))
        · exact wp_ranW (wanted_yes rfl rfl rfl (hgot 10 _ 68 rfl (hdep ⟨10, .guard⟩ (by simp) rfl) rfl)) (exec_load rfl (eval_tmp (hgot 13 _ 71 rfl (hdep ⟨13, .data⟩ (by simp) rfl) rfl)) (run_load1 Try.underlying3 rfl (((hst.own (y := oB b7 24 cs) (by simp) : Holds v b7 24 _).cell 1).trans HP1.out))) (hK x _ _ (fun _ _ _ _ _ _ => rfl) (fun s hs => by cases hs; rfl) (by simpa using hst))
        · exact wp_ranW (wanted_yes rfl rfl rfl (hgot 10 _ 68 rfl (hdep ⟨10, .guard⟩ (by simp) rfl) rfl)) (exec_nei HNE.out rfl (eval_tmp (hgot 12 _ 70 rfl (hdep ⟨12, .data⟩ (by simp) rfl) rfl)) (eval_tmp (hgot 14 _ 72 rfl (hdep ⟨14, .data⟩ (by simp) rfl) rfl))) (hK x _ _ (fun _ _ _ _ _ _ => rfl) (fun s hs => by cases hs; rfl) (by simpa using hst))
        · exact wp_ranW (wanted_yes rfl rfl rfl (hgot 10 _ 68 rfl (hdep ⟨10, .chain⟩ (by simp) rfl) rfl)) (exec_move rfl (eval_tmp (hgot 15 _ 73 rfl (hdep ⟨15, .data⟩ (by simp) rfl) rfl))) (hK x _ _ (fun _ _ _ _ _ _ => rfl) (fun s hs => by cases hs; rfl) (by simpa using hst))
        · exact wp_ranW (wanted_yes rfl rfl rfl (hgot 16 _ 74 rfl (hdep ⟨16, .guard⟩ (by simp) rfl) rfl)) (exec_fp24_1 rfl (eval_tmp ((hpar 11 rfl).trans rfl))) (hK x _ _ (fun _ _ _ _ _ _ => rfl) (fun s hs => by cases hs; rfl) (by simpa using hst))
        · exact wp_ranW (wanted_yes rfl rfl rfl (hgot 16 _ 74 rfl (hdep ⟨16, .guard⟩ (by simp) rfl) rfl)) (exec_load rfl (eval_tmp (hgot 17 _ 75 rfl (hdep ⟨17, .data⟩ (by simp) rfl) rfl)) (run_load1 Try.underlying3 rfl (((hst.own (y := oB b11 24 ds) (by simp) : Holds v b11 24 _).cell 1).trans HQ1.out))) (hK x _ _ (fun _ _ _ _ _ _ => rfl) (fun s hs => by cases hs; rfl) (by simpa using hst))
        · exact wp_ranW (wanted_yes rfl rfl rfl (hgot 16 _ 74 rfl (hdep ⟨16, .guard⟩ (by simp) rfl) rfl)) (exec_fp24_1 rfl (eval_tmp ((hpar 7 rfl).trans rfl))) (hK x _ _ (fun _ _ _ _ _ _ => rfl) (fun s hs => by cases hs; rfl) (by simpa using hst))
        · exact wp_ranW (wanted_yes rfl rfl rfl (hgot 16 _ 74 rfl (hdep ⟨16, .guard⟩ (by simp) rfl) rfl)) (exec_load rfl (eval_tmp (hgot 19 _ 77 rfl (hdep ⟨19, .data⟩ (by simp) rfl) rfl)) (run_load1 Try.underlying3 rfl (((hst.own (y := oB b7 24 cs) (by simp) : Holds v b7 24 _).cell 1).trans HP1.out))) (hK x _ _ (fun _ _ _ _ _ _ => rfl) (fun s hs => by cases hs; rfl) (by simpa using hst))
        · exact wp_ranW (wanted_yes rfl rfl rfl (hgot 16 _ 74 rfl (hdep ⟨16, .guard⟩ (by simp) rfl) rfl)) (exec_add rfl (eval_tmp (hgot 20 _ 78 rfl (hdep ⟨20, .data⟩ (by simp) rfl) rfl)) rfl HADD.out) (hK x _ _ (fun _ _ _ _ _ _ => rfl) (fun s hs => by cases hs; rfl) (by simpa using hst))
        · exact wp_ranW (wanted_yes rfl rfl rfl (hgot 16 _ 74 rfl (hdep ⟨16, .guard⟩ (by simp) rfl) rfl)) (exec_nei (r := false) (by simp) rfl (eval_tmp (hgot 18 _ 76 rfl (hdep ⟨18, .data⟩ (by simp) rfl) rfl)) (eval_tmp (hgot 21 _ 79 rfl (hdep ⟨21, .data⟩ (by simp) rfl) rfl))) (hK x _ _ (fun _ _ _ _ _ _ => rfl) (fun s hs => by cases hs; rfl) (by simpa using hst))
        · exact wp_ranW (wanted_yes rfl rfl rfl (hgot 10 _ 68 rfl (hdep ⟨10, .guard⟩ (by simp) rfl) rfl)) (exec_pick rfl (eval_tmp (hgot 16 _ 74 rfl (hdep ⟨16, .data⟩ (by simp) rfl) rfl)) (eval_tmp (hgot 22 _ 80 rfl (hdep ⟨22, .data⟩ (by simp) rfl) rfl)) rfl rfl) (hK x _ _ (fun _ _ _ _ _ _ => rfl) (fun s hs => by cases hs; rfl) (by simpa using hst))
        · exact wp_ran rfl (exec_pick rfl (eval_tmp (hgot 10 _ 68 rfl (hdep ⟨10, .data⟩ (by simp) rfl) rfl)) rfl (eval_tmp (hgot 23 _ 81 rfl (hdep ⟨23, .data⟩ (by simp) rfl) rfl)) rfl) (hK x _ _ (fun _ _ _ _ _ _ => rfl) (fun s hs => by cases hs; rfl) (by simpa using hst))
        · exact wp_ran rfl (exec_move rfl (eval_tmp (hgot 24 _ 82 rfl (hdep ⟨24, .data⟩ (by simp) rfl) rfl))) (hK x _ _ (fun _ _ _ _ _ _ => rfl) (fun s hs => by cases hs; rfl) (by simpa using hst))
        · exact wp_ranW (wanted_yes rfl rfl rfl (hgot 25 _ 83 rfl (hdep ⟨25, .guard⟩ (by simp) rfl) rfl)) (exec_fp24_1 rfl (eval_tmp ((hpar 11 rfl).trans rfl))) (hK x _ _ (fun _ _ _ _ _ _ => rfl) (fun s hs => by cases hs; rfl) (by simpa using hst))
        · exact wp_ranW (wanted_yes rfl rfl rfl (hgot 25 _ 83 rfl (hdep ⟨25, .guard⟩ (by simp) rfl) rfl)) (exec_load rfl (eval_tmp (hgot 26 _ 84 rfl (hdep ⟨26, .data⟩ (by simp) rfl) rfl)) (run_load1 Try.underlying3 rfl (((hst.own (y := oB b11 24 ds) (by simp) : Holds v b11 24 _).cell 1).trans HQ1.out))) (hK x _ _ (fun _ _ _ _ _ _ => rfl) (fun s hs => by cases hs; rfl) (by simpa using hst))
        · exact wp_ranW (wanted_yes rfl rfl rfl (hgot 25 _ 83 rfl (hdep ⟨25, .guard⟩ (by simp) rfl) rfl)) (exec_fp24_1 rfl (eval_tmp ((hpar 7 rfl).trans rfl))) (hK x _ _ (fun _ _ _ _ _ _ => rfl) (fun s hs => by cases hs; rfl) (by simpa using hst))
        · exact wp_ranW (wanted_yes rfl rfl rfl (hgot 25 _ 83 rfl (hdep ⟨25, .guard⟩ (by simp) rfl) rfl)) (exec_load rfl (eval_tmp (hgot 28 _ 86 rfl (hdep ⟨28, .data⟩ (by simp) rfl) rfl)) (run_load1 Try.underlying3 rfl (((hst.own (y := oB b7 24 cs) (by simp) : Holds v b7 24 _).cell 1).trans HP1.out))) (hK x _ _ (fun _ _ _ _ _ _ => rfl) (fun s hs => by cases hs; rfl) (by simpa using hst))
        · exact wp_ranW (wanted_yes rfl rfl rfl (hgot 25 _ 83 rfl (hdep ⟨25, .guard⟩ (by simp) rfl) rfl)) (exec_gtr HGT.out rfl (eval_tmp (hgot 27 _ 85 rfl (hdep ⟨27, .data⟩ (by simp) rfl) rfl)) (eval_tmp (hgot 29 _ 87 rfl (hdep ⟨29, .data⟩ (by simp) rfl) rfl))) (hK x _ _ (fun _ _ _ _ _ _ => rfl) (fun s hs => by cases hs; rfl) (by simpa using hst))
        · exact wp_ranW (wanted_yes rfl rfl rfl (hgot 25 _ 83 rfl (hdep ⟨25, .guard⟩ (by simp) rfl) rfl)) (exec_move rfl (eval_tmp ((hpar 13 rfl).trans rfl))) (hK x _ _ (fun _ _ _ _ _ _ => rfl) (fun s hs => by cases hs; rfl) (by simpa using hst))
        · exact wp_ranW (wanted_yes rfl rfl rfl (hgot 25 _ 83 rfl (hdep ⟨25, .chain⟩ (by simp) rfl) rfl)) (exec_move rfl (eval_tmp (hgot 31 _ 89 rfl (hdep ⟨31, .data⟩ (by simp) rfl) rfl))) (hK x _ _ (fun _ _ _ _ _ _ => rfl) (fun s hs => by cases hs; rfl) (by simpa using hst))
        · exact wp_ranW (wanted_yes rfl rfl rfl (hgot 32 _ 90 rfl (hdep ⟨32, .guard⟩ (by simp) rfl) rfl)) (exec_load rfl (eval_tmp ((hpar 10 rfl).trans rfl)) (run_loads (Cells.of_holds (hst.own (y := oB b10 26 [ci z, ci y, ci x0]) (by simp))) Try.underlying26 rfl (size26' _ _ _))) (hK x _ _ (fun _ _ _ _ _ _ => rfl) (fun s hs => by cases hs; rfl) (by simpa using hst))
        · refine wp_calledW (wanted_yes rfl rfl rfl (hgot 32 _ 90 rfl (hdep ⟨32, .chain⟩ (by simp) rfl) rfl)) (exec_call1 rfl rfl (eval_tmp (hgot 33 _ 91 rfl (hdep ⟨33, .data⟩ (by simp) rfl) rfl)) (enters_of Try.func12 (by kernel_rfl) rfl)) ((kind_c z y x0 _ HK v).mono ?_)
          rintro e v' ⟨rfl, m1⟩
          exact ⟨_, rfl, hK x _ _ (fun _ _ _ _ _ _ => rfl) (fun s hs => by cases hs; rfl) (by simpa using hst.call m1)⟩
        · exact wp_ranW (wanted_yes rfl rfl rfl (hgot 32 _ 90 rfl (hdep ⟨32, .guard⟩ (by simp) rfl) rfl)) (exec_eqi rfl rfl (eval_tmp (hgot 34 _ 92 rfl (hdep ⟨34, .data⟩ (by simp) rfl) rfl)) rfl) (hK x _ _ (fun _ _ _ _ _ _ => rfl) (fun s hs => by cases hs; rfl) (by simpa using hst))
        · exact wp_ranW (wanted_yes rfl rfl rfl (hgot 25 _ 83 rfl (hdep ⟨25, .guard⟩ (by simp) rfl) rfl)) (exec_pick rfl (eval_tmp (hgot 32 _ 90 rfl (hdep ⟨32, .data⟩ (by simp) rfl) rfl)) rfl (eval_tmp (hgot 35 _ 93 rfl (hdep ⟨35, .data⟩ (by simp) rfl) rfl)) rfl) (hK x _ _ (fun _ _ _ _ _ _ => rfl) (fun s hs => by cases hs; rfl) (by simpa using hst))
        · exact wp_ranW (wanted_yes rfl rfl rfl (hgot 25 _ 83 rfl (hdep ⟨25, .guard⟩ (by simp) rfl) rfl)) (exec_neb Try.underlying4 rfl (eval_tmp (hgot 30 _ 88 rfl (hdep ⟨30, .data⟩ (by simp) rfl) rfl)) (eval_tmp (hgot 36 _ 94 rfl (hdep ⟨36, .data⟩ (by simp) rfl) rfl))) (hK x _ _ (fun _ _ _ _ _ _ => rfl) (fun s hs => by cases hs; rfl) (by simpa using hst))
        · exact wp_ran rfl (exec_pick rfl (eval_tmp (hgot 25 _ 83 rfl (hdep ⟨25, .data⟩ (by simp) rfl) rfl)) rfl (eval_tmp (hgot 37 _ 95 rfl (hdep ⟨37, .data⟩ (by simp) rfl) rfl)) rfl) (hK x _ _ (fun _ _ _ _ _ _ => rfl) (fun s hs => by cases hs; rfl) (by simpa using hst))
      intro xx lz v17 hlz hst
      obtain ⟨T17, F17, hT17, hc17⟩ := hst
      have G17 : Fm w v17 [oB b11 24 ds, oB b10 26 [ci z, ci y, ci x0], oB b7 24 cs] T17 := F17
      have HTP7 : Hid (tP S p cs ∈ T17) := Lib.hid (hT17 _ HTP.out)
      have HTQ7 : Hid (tP Sq q ds ∈ T17) := Lib.hid (hT17 _ HTQ.out)
      clear hlz F17 hT17 hc17 F HTP HTQ
      have F := G17
      have HTP := HTP7
      have HTQ := HTQ7
      clear G17 HTP7 HTQ7
      simp only [setAll, Act.put, List.foldl_cons, List.foldl_nil, List.setIfInBounds_toArray, List.set_cons_succ, List.set_cons_zero]
      go_wp2_with fail
      have K1 : Hid (∃ ts, Fm w v17 [oB b11 24 ds, oB b10 26 [ci z, ci y, ci x0], oB b7 24 cs] ts ∧ tP Sq q ds ∈ ts ∧ tP S p cs ∈ ts) := Lib.hid ⟨_, F, HTQ.out, HTP.out⟩
      clear F HTQ HTP
      go_loopw [14] (fun i wr => ∃ nn : Nat, i = .int .i64 nn ∧ 1 ≤ nn ∧ nn ≤ 7 ∧ Hid (∃ ts, Fm w wr [oB b11 24 ds, oB b10 26 [ci z, ci y, ci x0], oB b7 24 cs] ts ∧ tP Sq q ds ∈ ts ∧ tP S p cs ∈ ts)) (fun i _ => 7 - (intOf i).toNat)
      case atStart => exact ⟨1, rfl, by omega, by omega, K1⟩
      case round =>
      obtain ⟨nn, rfl, hn1, hn7, hk⟩ := hrel
      clear K1
      obtain ⟨ts, F, hTQ, hTP⟩ := hk.out
      have HTQ := Lib.hid hTQ
      have HTP := Lib.hid hTP
      clear hk hTQ hTP
      by_cases h7 : nn ≤ 6
      case neg =>
        have h1q := (F.k _ (.inr HTQ.out)).2.1.one
        go_wp2_with (first
          | (with_reducible refine fm_load F 0 rfl (o := ⟨some 184, .load 24 (.tmp 11), _, _, _, _⟩) rfl (.tmp 11) rfl rfl h5q ?_)
          | (with_reducible refine fm_store F 2 rfl (o := ⟨none, .store 24 (.tmp 7) (.tmp 184), _, _, _, _⟩) rfl (.tmp 7) (.tmp 184) rfl rfl ds rfl rfl h5q h5 h1q ?_; intro wy F8; clear F))
        exact ⟨⟨j + 1, q, by go_num, by omega, Lib.hid HG.out.right, Lib.hid ⟨ds, Sq, F8.onlyM (x := oB b7 24 ds) (by simp) HTQ.out⟩⟩, by simp [intOf]; omega⟩
      obtain ⟨a, ha⟩ : ∃ a, p.mayR (nn : Int) m = a := ⟨_, rfl⟩
      obtain ⟨b, hb⟩ : ∃ a, q.mayR (nn : Int) m = a := ⟨_, rfl⟩
      obtain ⟨c', hc⟩ : ∃ a, p.mayW (nn : Int) = a := ⟨_, rfl⟩
      obtain ⟨d, hd⟩ : ∃ a, q.mayW (nn : Int) = a := ⟨_, rfl⟩
      obtain ⟨e, he⟩ : ∃ a, q.mayR (nn : Int) [] = a := ⟨_, rfl⟩
      have lde : d = true → e = true := fun h => by rw [← he]; exact HG.out.writes (by omega) (by omega) (hd.trans h)
      have lab : a = true → b = false → _ := fun h h' => HG.out.lost hR.out (ha.trans h) (hb.trans h')
      have lcd : c' = true → d = false → _ := fun h h' => HG.out.lostW hR.out (hc.trans h) (hd.trans h')
      have hab : (a = false) ∨ (a = true ∧ b = true) := by
        cases a <;> cases b <;> simp_all
      have hcd : (c' = false ∧ d = false) ∨ (c' = false ∧ d = true) ∨ (c' = true ∧ d = true) := by
        cases c' <;> cases d <;> simp_all
      have HA1 := Lib.hid ha
      have HB1 := Lib.hid hb
      have HC := Lib.hid hc
      have HD := Lib.hid hd
      have HE := Lib.hid he
      clear ha hb hc hd he lab lcd
      have CC : Hid (∀ v ts, Fm w v [oB b11 24 ds, oB b10 26 [ci z, ci y, ci x0], oB b7 24 cs] ts → tP S p cs ∈ ts → Calls Try.prog 18 #[.agg cs.toArray, ci (nn : Int)] v fun r w' => r = .returned (.bool c') ∧ Mod [] v w') := Lib.hid fun v ts F h => mayW_p (F.k _ (.inr h)).2.1 (F.k _ (.inr h)).2.2 (nn : Int) _ HC
      have CD : Hid (∀ v ts, Fm w v [oB b11 24 ds, oB b10 26 [ci z, ci y, ci x0], oB b7 24 cs] ts → tP Sq q ds ∈ ts → Calls Try.prog 18 #[.agg ds.toArray, ci (nn : Int)] v fun r w' => r = .returned (.bool d) ∧ Mod [] v w') := Lib.hid fun v ts F h => mayW_p (F.k _ (.inr h)).2.1 (F.k _ (.inr h)).2.2 (nn : Int) _ HD
      have CA : Hid (∀ v ts, Fm w v [oB b11 24 ds, oB b10 26 [ci z, ci y, ci x0], oB b7 24 cs] ts → tP S p cs ∈ ts → Calls Try.prog 20 #[.agg cs.toArray, ci (nn : Int), .slice B nb cb] v fun r w' => r = .returned (.bool a) ∧ Mod [] v w') := Lib.hid fun v ts F h => mayR_q (F.k _ (.inr h)).2.1 (F.k _ (.inr h)).2.2 (nn : Int) B nb cb m (HM.out.call F.m) _ HA1
      have CB : Hid (∀ v ts, Fm w v [oB b11 24 ds, oB b10 26 [ci z, ci y, ci x0], oB b7 24 cs] ts → tP Sq q ds ∈ ts → Calls Try.prog 20 #[.agg ds.toArray, ci (nn : Int), .slice B nb cb] v fun r w' => r = .returned (.bool b) ∧ Mod [] v w') := Lib.hid fun v ts F h => mayR_q (F.k _ (.inr h)).2.1 (F.k _ (.inr h)).2.2 (nn : Int) B nb cb m (HM.out.call F.m) _ HB1
      have CE : Hid (∀ v ts, Fm w v [oB b11 24 ds, oB b10 26 [ci z, ci y, ci x0], oB b7 24 cs] ts → tP Sq q ds ∈ ts → Calls Try.prog 20 #[.agg ds.toArray, ci (nn : Int), .slice none 0 0] v fun r w' => r = .returned (.bool e) ∧ Mod [] v w') := Lib.hid fun v ts F h => mayR_q (F.k _ (.inr h)).2.1 (F.k _ (.inr h)).2.2 (nn : Int) none 0 0 [] (BelR.none _) _ HE
      clear HA1 HB1 HC HD HE
      rcases hab with rfl | ⟨rfl, rfl⟩
      · rcases hcd with ⟨rfl, rfl⟩ | ⟨rfl, rfl⟩ | ⟨rfl, rfl⟩
        · clear lde
          go_wp2_with (first
            | (with_reducible refine fm_load F 0 rfl (o := ⟨some _, .load 24 (.tmp 11), _, _, _, _⟩) rfl (.tmp 11) rfl rfl h5q ?_)
            | (with_reducible refine fm_load F 2 rfl (o := ⟨some _, .load 24 (.tmp 7), _, _, _, _⟩) rfl (.tmp 7) rfl rfl h5 ?_)
            | (with_reducible refine fm_loadG F 0 rfl (o := ⟨some _, .load 24 (.tmp 11), _, _, _, _⟩) (by with_unfolding_all rfl) (.tmp 11) rfl rfl h5q ?_)
            | (with_reducible refine fm_loadG F 2 rfl (o := ⟨some _, .load 24 (.tmp 7), _, _, _, _⟩) (by with_unfolding_all rfl) (.tmp 7) rfl rfl h5 ?_)
            | (with_reducible refine fm_load26 F 1 rfl (o := ⟨some _, .load 26 (.tmp 10), _, _, _, _⟩) rfl (.tmp 10) rfl rfl ?_)
            | (with_reducible refine fm_load26G F 1 rfl (o := ⟨some _, .load 26 (.tmp 10), _, _, _, _⟩) (by with_unfolding_all rfl) (.tmp 10) rfl rfl ?_)
            | (with_reducible refine fm_load1G' F 1 2 rfl (ci x0) rfl (o := ⟨some _, .load 3 (.tmp 127), _, _, _, _⟩) (by with_unfolding_all rfl) 3 (.tmp 127) rfl rfl (run_load1 Try.underlying3 rfl) ?_)
            | (with_reducible refine fm_load1G' F 1 2 rfl (ci x0) rfl (o := ⟨some _, .load 3 (.tmp 153), _, _, _, _⟩) (by with_unfolding_all rfl) 3 (.tmp 153) rfl rfl (run_load1 Try.underlying3 rfl) ?_)
            | (go_at_call 18; with_reducible refine Calls.mono (CC.out _ _ F HTP.out) ?_; rintro e wz ⟨rfl, mz⟩; replace F := F.call mz; clear mz)
            | (go_at_call 18; with_reducible refine Calls.mono (CD.out _ _ F HTQ.out) ?_; rintro e wz ⟨rfl, mz⟩; replace F := F.call mz; clear mz)
            | (go_at_call 20; with_reducible refine Calls.mono (CA.out _ _ F HTP.out) ?_; rintro e wz ⟨rfl, mz⟩; replace F := F.call mz; clear mz)
            | (go_at_call 20; with_reducible refine Calls.mono (CB.out _ _ F HTQ.out) ?_; rintro e wz ⟨rfl, mz⟩; replace F := F.call mz; clear mz)
            | (go_at_call 20; with_reducible refine Calls.mono (CE.out _ _ F HTQ.out) ?_; rintro e wz ⟨rfl, mz⟩; replace F := F.call mz; clear mz)
            | (go_at_call 12; with_reducible refine Calls.mono (kind_c z y x0 _ HK _) ?_; rintro e wz ⟨rfl, mz⟩; replace F := F.call mz; clear mz))
          exact ⟨⟨nn + 1, by go_num, by omega, by omega, Lib.hid ⟨_, F, HTQ.out, HTP.out⟩⟩, by simp [intOf]; omega⟩
        · obtain rfl : true = e := (lde rfl).symm
          clear lde
          go_wp2_with (first
            | (with_reducible refine fm_load F 0 rfl (o := ⟨some _, .load 24 (.tmp 11), _, _, _, _⟩) rfl (.tmp 11) rfl rfl h5q ?_)
            | (with_reducible refine fm_load F 2 rfl (o := ⟨some _, .load 24 (.tmp 7), _, _, _, _⟩) rfl (.tmp 7) rfl rfl h5 ?_)
            | (with_reducible refine fm_loadG F 0 rfl (o := ⟨some _, .load 24 (.tmp 11), _, _, _, _⟩) (by with_unfolding_all rfl) (.tmp 11) rfl rfl h5q ?_)
            | (with_reducible refine fm_loadG F 2 rfl (o := ⟨some _, .load 24 (.tmp 7), _, _, _, _⟩) (by with_unfolding_all rfl) (.tmp 7) rfl rfl h5 ?_)
            | (with_reducible refine fm_load26 F 1 rfl (o := ⟨some _, .load 26 (.tmp 10), _, _, _, _⟩) rfl (.tmp 10) rfl rfl ?_)
            | (with_reducible refine fm_load26G F 1 rfl (o := ⟨some _, .load 26 (.tmp 10), _, _, _, _⟩) (by with_unfolding_all rfl) (.tmp 10) rfl rfl ?_)
            | (with_reducible refine fm_load1G' F 1 2 rfl (ci x0) rfl (o := ⟨some _, .load 3 (.tmp 127), _, _, _, _⟩) (by with_unfolding_all rfl) 3 (.tmp 127) rfl rfl (run_load1 Try.underlying3 rfl) ?_)
            | (with_reducible refine fm_load1G' F 1 2 rfl (ci x0) rfl (o := ⟨some _, .load 3 (.tmp 153), _, _, _, _⟩) (by with_unfolding_all rfl) 3 (.tmp 153) rfl rfl (run_load1 Try.underlying3 rfl) ?_)
            | (go_at_call 18; with_reducible refine Calls.mono (CC.out _ _ F HTP.out) ?_; rintro e wz ⟨rfl, mz⟩; replace F := F.call mz; clear mz)
            | (go_at_call 18; with_reducible refine Calls.mono (CD.out _ _ F HTQ.out) ?_; rintro e wz ⟨rfl, mz⟩; replace F := F.call mz; clear mz)
            | (go_at_call 20; with_reducible refine Calls.mono (CA.out _ _ F HTP.out) ?_; rintro e wz ⟨rfl, mz⟩; replace F := F.call mz; clear mz)
            | (go_at_call 20; with_reducible refine Calls.mono (CB.out _ _ F HTQ.out) ?_; rintro e wz ⟨rfl, mz⟩; replace F := F.call mz; clear mz)
            | (go_at_call 20; with_reducible refine Calls.mono (CE.out _ _ F HTQ.out) ?_; rintro e wz ⟨rfl, mz⟩; replace F := F.call mz; clear mz)
            | (go_at_call 12; with_reducible refine Calls.mono (kind_c z y x0 _ HK _) ?_; rintro e wz ⟨rfl, mz⟩; replace F := F.call mz; clear mz))
          exact ⟨⟨nn + 1, by go_num, by omega, by omega, Lib.hid ⟨_, F, HTQ.out, HTP.out⟩⟩, by simp [intOf]; omega⟩
        · obtain rfl : true = e := (lde rfl).symm
          clear lde
          go_wp2_with (first
            | (with_reducible refine fm_load F 0 rfl (o := ⟨some _, .load 24 (.tmp 11), _, _, _, _⟩) rfl (.tmp 11) rfl rfl h5q ?_)
            | (with_reducible refine fm_load F 2 rfl (o := ⟨some _, .load 24 (.tmp 7), _, _, _, _⟩) rfl (.tmp 7) rfl rfl h5 ?_)
            | (with_reducible refine fm_loadG F 0 rfl (o := ⟨some _, .load 24 (.tmp 11), _, _, _, _⟩) (by with_unfolding_all rfl) (.tmp 11) rfl rfl h5q ?_)
            | (with_reducible refine fm_loadG F 2 rfl (o := ⟨some _, .load 24 (.tmp 7), _, _, _, _⟩) (by with_unfolding_all rfl) (.tmp 7) rfl rfl h5 ?_)
            | (with_reducible refine fm_load26 F 1 rfl (o := ⟨some _, .load 26 (.tmp 10), _, _, _, _⟩) rfl (.tmp 10) rfl rfl ?_)
            | (with_reducible refine fm_load26G F 1 rfl (o := ⟨some _, .load 26 (.tmp 10), _, _, _, _⟩) (by with_unfolding_all rfl) (.tmp 10) rfl rfl ?_)
            | (with_reducible refine fm_load1G' F 1 2 rfl (ci x0) rfl (o := ⟨some _, .load 3 (.tmp 127), _, _, _, _⟩) (by with_unfolding_all rfl) 3 (.tmp 127) rfl rfl (run_load1 Try.underlying3 rfl) ?_)
            | (with_reducible refine fm_load1G' F 1 2 rfl (ci x0) rfl (o := ⟨some _, .load 3 (.tmp 153), _, _, _, _⟩) (by with_unfolding_all rfl) 3 (.tmp 153) rfl rfl (run_load1 Try.underlying3 rfl) ?_)
            | (go_at_call 18; with_reducible refine Calls.mono (CC.out _ _ F HTP.out) ?_; rintro e wz ⟨rfl, mz⟩; replace F := F.call mz; clear mz)
            | (go_at_call 18; with_reducible refine Calls.mono (CD.out _ _ F HTQ.out) ?_; rintro e wz ⟨rfl, mz⟩; replace F := F.call mz; clear mz)
            | (go_at_call 20; with_reducible refine Calls.mono (CA.out _ _ F HTP.out) ?_; rintro e wz ⟨rfl, mz⟩; replace F := F.call mz; clear mz)
            | (go_at_call 20; with_reducible refine Calls.mono (CB.out _ _ F HTQ.out) ?_; rintro e wz ⟨rfl, mz⟩; replace F := F.call mz; clear mz)
            | (go_at_call 20; with_reducible refine Calls.mono (CE.out _ _ F HTQ.out) ?_; rintro e wz ⟨rfl, mz⟩; replace F := F.call mz; clear mz)
            | (go_at_call 12; with_reducible refine Calls.mono (kind_c z y x0 _ HK _) ?_; rintro e wz ⟨rfl, mz⟩; replace F := F.call mz; clear mz))
          exact ⟨⟨nn + 1, by go_num, by omega, by omega, Lib.hid ⟨_, F, HTQ.out, HTP.out⟩⟩, by simp [intOf]; omega⟩
      · rcases hcd with ⟨rfl, rfl⟩ | ⟨rfl, rfl⟩ | ⟨rfl, rfl⟩
        · clear lde
          go_wp2_with (first
            | (with_reducible refine fm_load F 0 rfl (o := ⟨some _, .load 24 (.tmp 11), _, _, _, _⟩) rfl (.tmp 11) rfl rfl h5q ?_)
            | (with_reducible refine fm_load F 2 rfl (o := ⟨some _, .load 24 (.tmp 7), _, _, _, _⟩) rfl (.tmp 7) rfl rfl h5 ?_)
            | (with_reducible refine fm_loadG F 0 rfl (o := ⟨some _, .load 24 (.tmp 11), _, _, _, _⟩) (by with_unfolding_all rfl) (.tmp 11) rfl rfl h5q ?_)
            | (with_reducible refine fm_loadG F 2 rfl (o := ⟨some _, .load 24 (.tmp 7), _, _, _, _⟩) (by with_unfolding_all rfl) (.tmp 7) rfl rfl h5 ?_)
            | (with_reducible refine fm_load26 F 1 rfl (o := ⟨some _, .load 26 (.tmp 10), _, _, _, _⟩) rfl (.tmp 10) rfl rfl ?_)
            | (with_reducible refine fm_load26G F 1 rfl (o := ⟨some _, .load 26 (.tmp 10), _, _, _, _⟩) (by with_unfolding_all rfl) (.tmp 10) rfl rfl ?_)
            | (with_reducible refine fm_load1G' F 1 2 rfl (ci x0) rfl (o := ⟨some _, .load 3 (.tmp 127), _, _, _, _⟩) (by with_unfolding_all rfl) 3 (.tmp 127) rfl rfl (run_load1 Try.underlying3 rfl) ?_)
            | (with_reducible refine fm_load1G' F 1 2 rfl (ci x0) rfl (o := ⟨some _, .load 3 (.tmp 153), _, _, _, _⟩) (by with_unfolding_all rfl) 3 (.tmp 153) rfl rfl (run_load1 Try.underlying3 rfl) ?_)
            | (go_at_call 18; with_reducible refine Calls.mono (CC.out _ _ F HTP.out) ?_; rintro e wz ⟨rfl, mz⟩; replace F := F.call mz; clear mz)
            | (go_at_call 18; with_reducible refine Calls.mono (CD.out _ _ F HTQ.out) ?_; rintro e wz ⟨rfl, mz⟩; replace F := F.call mz; clear mz)
            | (go_at_call 20; with_reducible refine Calls.mono (CA.out _ _ F HTP.out) ?_; rintro e wz ⟨rfl, mz⟩; replace F := F.call mz; clear mz)
            | (go_at_call 20; with_reducible refine Calls.mono (CB.out _ _ F HTQ.out) ?_; rintro e wz ⟨rfl, mz⟩; replace F := F.call mz; clear mz)
            | (go_at_call 20; with_reducible refine Calls.mono (CE.out _ _ F HTQ.out) ?_; rintro e wz ⟨rfl, mz⟩; replace F := F.call mz; clear mz)
            | (go_at_call 12; with_reducible refine Calls.mono (kind_c z y x0 _ HK _) ?_; rintro e wz ⟨rfl, mz⟩; replace F := F.call mz; clear mz))
          exact ⟨⟨nn + 1, by go_num, by omega, by omega, Lib.hid ⟨_, F, HTQ.out, HTP.out⟩⟩, by simp [intOf]; omega⟩
        · obtain rfl : true = e := (lde rfl).symm
          clear lde
          go_wp2_with (first
            | (with_reducible refine fm_load F 0 rfl (o := ⟨some _, .load 24 (.tmp 11), _, _, _, _⟩) rfl (.tmp 11) rfl rfl h5q ?_)
            | (with_reducible refine fm_load F 2 rfl (o := ⟨some _, .load 24 (.tmp 7), _, _, _, _⟩) rfl (.tmp 7) rfl rfl h5 ?_)
            | (with_reducible refine fm_loadG F 0 rfl (o := ⟨some _, .load 24 (.tmp 11), _, _, _, _⟩) (by with_unfolding_all rfl) (.tmp 11) rfl rfl h5q ?_)
            | (with_reducible refine fm_loadG F 2 rfl (o := ⟨some _, .load 24 (.tmp 7), _, _, _, _⟩) (by with_unfolding_all rfl) (.tmp 7) rfl rfl h5 ?_)
            | (with_reducible refine fm_load26 F 1 rfl (o := ⟨some _, .load 26 (.tmp 10), _, _, _, _⟩) rfl (.tmp 10) rfl rfl ?_)
            | (with_reducible refine fm_load26G F 1 rfl (o := ⟨some _, .load 26 (.tmp 10), _, _, _, _⟩) (by with_unfolding_all rfl) (.tmp 10) rfl rfl ?_)
            | (with_reducible refine fm_load1G' F 1 2 rfl (ci x0) rfl (o := ⟨some _, .load 3 (.tmp 127), _, _, _, _⟩) (by with_unfolding_all rfl) 3 (.tmp 127) rfl rfl (run_load1 Try.underlying3 rfl) ?_)
            | (with_reducible refine fm_load1G' F 1 2 rfl (ci x0) rfl (o := ⟨some _, .load 3 (.tmp 153), _, _, _, _⟩) (by with_unfolding_all rfl) 3 (.tmp 153) rfl rfl (run_load1 Try.underlying3 rfl) ?_)
            | (go_at_call 18; with_reducible refine Calls.mono (CC.out _ _ F HTP.out) ?_; rintro e wz ⟨rfl, mz⟩; replace F := F.call mz; clear mz)
            | (go_at_call 18; with_reducible refine Calls.mono (CD.out _ _ F HTQ.out) ?_; rintro e wz ⟨rfl, mz⟩; replace F := F.call mz; clear mz)
            | (go_at_call 20; with_reducible refine Calls.mono (CA.out _ _ F HTP.out) ?_; rintro e wz ⟨rfl, mz⟩; replace F := F.call mz; clear mz)
            | (go_at_call 20; with_reducible refine Calls.mono (CB.out _ _ F HTQ.out) ?_; rintro e wz ⟨rfl, mz⟩; replace F := F.call mz; clear mz)
            | (go_at_call 20; with_reducible refine Calls.mono (CE.out _ _ F HTQ.out) ?_; rintro e wz ⟨rfl, mz⟩; replace F := F.call mz; clear mz)
            | (go_at_call 12; with_reducible refine Calls.mono (kind_c z y x0 _ HK _) ?_; rintro e wz ⟨rfl, mz⟩; replace F := F.call mz; clear mz))
          exact ⟨⟨nn + 1, by go_num, by omega, by omega, Lib.hid ⟨_, F, HTQ.out, HTP.out⟩⟩, by simp [intOf]; omega⟩
        · obtain rfl : true = e := (lde rfl).symm
          clear lde
          go_wp2_with (first
            | (with_reducible refine fm_load F 0 rfl (o := ⟨some _, .load 24 (.tmp 11), _, _, _, _⟩) rfl (.tmp 11) rfl rfl h5q ?_)
            | (with_reducible refine fm_load F 2 rfl (o := ⟨some _, .load 24 (.tmp 7), _, _, _, _⟩) rfl (.tmp 7) rfl rfl h5 ?_)
            | (with_reducible refine fm_loadG F 0 rfl (o := ⟨some _, .load 24 (.tmp 11), _, _, _, _⟩) (by with_unfolding_all rfl) (.tmp 11) rfl rfl h5q ?_)
            | (with_reducible refine fm_loadG F 2 rfl (o := ⟨some _, .load 24 (.tmp 7), _, _, _, _⟩) (by with_unfolding_all rfl) (.tmp 7) rfl rfl h5 ?_)
            | (with_reducible refine fm_load26 F 1 rfl (o := ⟨some _, .load 26 (.tmp 10), _, _, _, _⟩) rfl (.tmp 10) rfl rfl ?_)
            | (with_reducible refine fm_load26G F 1 rfl (o := ⟨some _, .load 26 (.tmp 10), _, _, _, _⟩) (by with_unfolding_all rfl) (.tmp 10) rfl rfl ?_)
            | (with_reducible refine fm_load1G' F 1 2 rfl (ci x0) rfl (o := ⟨some _, .load 3 (.tmp 127), _, _, _, _⟩) (by with_unfolding_all rfl) 3 (.tmp 127) rfl rfl (run_load1 Try.underlying3 rfl) ?_)
            | (with_reducible refine fm_load1G' F 1 2 rfl (ci x0) rfl (o := ⟨some _, .load 3 (.tmp 153), _, _, _, _⟩) (by with_unfolding_all rfl) 3 (.tmp 153) rfl rfl (run_load1 Try.underlying3 rfl) ?_)
            | (go_at_call 18; with_reducible refine Calls.mono (CC.out _ _ F HTP.out) ?_; rintro e wz ⟨rfl, mz⟩; replace F := F.call mz; clear mz)
            | (go_at_call 18; with_reducible refine Calls.mono (CD.out _ _ F HTQ.out) ?_; rintro e wz ⟨rfl, mz⟩; replace F := F.call mz; clear mz)
            | (go_at_call 20; with_reducible refine Calls.mono (CA.out _ _ F HTP.out) ?_; rintro e wz ⟨rfl, mz⟩; replace F := F.call mz; clear mz)
            | (go_at_call 20; with_reducible refine Calls.mono (CB.out _ _ F HTQ.out) ?_; rintro e wz ⟨rfl, mz⟩; replace F := F.call mz; clear mz)
            | (go_at_call 20; with_reducible refine Calls.mono (CE.out _ _ F HTQ.out) ?_; rintro e wz ⟨rfl, mz⟩; replace F := F.call mz; clear mz)
            | (go_at_call 12; with_reducible refine Calls.mono (kind_c z y x0 _ HK _) ?_; rintro e wz ⟨rfl, mz⟩; replace F := F.call mz; clear mz))
          exact ⟨⟨nn + 1, by go_num, by omega, by omega, Lib.hid ⟨_, F, HTQ.out, HTP.out⟩⟩, by simp [intOf]; omega⟩
  have c5 : (k == 5) = false := beq_eq_false_iff_ne.2 kck5
  as_aux_lemma =>
    go_wp2_with (first
      | (with_reducible refine wpList_loads (o := ⟨some 36, .load 26 (.tmp 35), _, _, _, _⟩) rfl 26 (.tmp 35) rfl ga (fa + j * 3) [ci z, ci y, ci x0] rfl HC3.out _ Try.underlying26 rfl (size26o z y x0) _ rfl ?_)
      | (with_reducible refine fm_alloc F0 (o := ⟨some 10, .alloc 26, _, _, _, _⟩) rfl 26 rfl _ zero26' ?_; intro b10 wa Fa; clear F0)
      | (with_reducible refine fm_store26 Fa 0 rfl (o := ⟨none, .store 26 (.tmp 10) (.tmp 36), _, _, _, _⟩) rfl (.tmp 10) (.tmp 36) rfl rfl rfl rfl ?_; intro wb F; clear Fa)
      | (with_reducible refine fm_load F 1 rfl (o := ⟨some 40, .load 24 (.tmp 7), _, _, _, _⟩) rfl (.tmp 7) rfl rfl h5 ?_)
      | (with_reducible refine fm_load26 F 0 rfl (o := ⟨some 41, .load 26 (.tmp 10), _, _, _, _⟩) rfl (.tmp 10) rfl rfl ?_)
      | (go_at_call 9; refine (DO.out _ (F.s 0 rfl) (F.slt 0 rfl)).mono ?_
         rintro e wc ⟨ds, rfl, hP2, m2⟩
         have F2 := (F.put m2 (tP _ _ ds) (keeps_tP _ _ _) hP2 (fun g hg => .inl hg))
         have h5q := hP2.len
         have h1q := hP2.one
         clear F m2 hP2)
      | (with_reducible refine fm_alloc F2 (o := ⟨some 11, .alloc 24, _, _, _, _⟩) rfl 24 rfl _ zero24 ?_; intro b11 wd F3; clear F2)
      | (with_reducible refine fm_store F3 0 rfl (o := ⟨none, .store 24 (.tmp 11) (.tmp 43), _, _, _, _⟩) rfl (.tmp 11) (.tmp 43) rfl rfl ds rfl rfl h5q rfl h1q ?_; intro we F; clear F3)
      | (with_reducible refine fm_load26 F 1 rfl (o := ⟨some 50, .load 26 (.tmp 10), _, _, _, _⟩) rfl (.tmp 10) rfl rfl ?_)
      | (with_reducible refine fm_load26G F 1 rfl (o := ⟨some 54, .load 26 (.tmp 10), _, _, _, _⟩) (by with_unfolding_all rfl) (.tmp 10) rfl rfl ?_)
      | (go_at_call 12; with_reducible refine Calls.mono (kind_c z y x0 _ HK _) ?_; rintro e wz ⟨rfl, mz⟩; replace F := F.call mz; clear mz))
    have hQ := F.s 0 rfl
    have hP := F.s 1 rfl
    have HP0 : Hid (cs[0]? = some (ci p.own)) := Lib.hid (PIs.c0 hP)
    have HP1 : Hid (cs[1]? = some (ci p.ep)) := Lib.hid (PIs.c1 hP)
    have HQ0 : Hid (ds[0]? = some (ci p.own)) := Lib.hid (by rw [← HG.out.own]; exact PIs.c0 hQ)
    have HQ1 : Hid (ds[1]? = some (ci q.ep)) := Lib.hid (PIs.c1 hQ)
    have HBQ : Hid (q.rightB = true) := Lib.hid ((Pm.right_iff q).2 HG.out.right)
    have hpe := hR.out.e1
    have hpe8 := hR.out.e8
    have hqe := HG.out.ep
    rw [if_neg (by omega), Int.add_zero] at hqe
    obtain ⟨pe, hpe0⟩ : ∃ e, e = p.ep := ⟨_, rfl⟩
    obtain ⟨qe, hqe0⟩ : ∃ e, e = q.ep := ⟨_, rfl⟩
    rw [← hpe0] at HP1 hpe hpe8 hqe
    rw [← hqe0] at HQ1 hqe
    have HNE : Hid ((!(qe == pe)) = false) := Lib.hid (by simp; omega)
    have HGT : Hid (decide (pe < qe) = false) := Lib.hid (by simp; omega)
    obtain ⟨Sq, TB, F', HTQ, HTP⟩ : ∃ Sq TB, Fm w _ [oB b11 24 ds, oB b10 26 [ci z, ci y, ci x0], oB b7 24 cs] TB ∧ Hid (tP Sq q ds ∈ TB) ∧ Hid (tP S p cs ∈ TB) := ⟨_, _, F, Lib.hid (List.mem_cons_self ..), Lib.hid (List.mem_cons_of_mem _ (List.mem_cons_self ..))⟩
    clear F hQ hP hpe hpe8 hqe hpe0 hqe0
    have F := F'
    clear F' 
    refine wp_region_upx (X := XC) (⟨0, [], []⟩) (fun x => [(58, .agg ds.toArray), (59, .int .i64 0), (60, .bool false), (61, .bool false), (62, .pointer (some ⟨b11, 0, none⟩)), (63, ci p.own), (64, .pointer (some ⟨b7, 0, none⟩)), (65, ci p.own), (66, .bool false), (67, .bool false), (68, .bool false), (69, .pointer (some ⟨b11, 1, none⟩)), (70, ci qe), (71, .pointer (some ⟨b7, 1, none⟩)), (72, ci pe), (73, .bool false), (74, .bool false), (75, undef), (76, undef), (77, undef), (78, undef), (79, undef), (80, undef), (81, .bool false), (82, .bool false), (83, .bool false), (84, .pointer (some ⟨b11, 1, none⟩)), (85, ci qe), (86, .pointer (some ⟨b7, 1, none⟩)), (87, ci pe), (88, .bool false), (89, .bool false), (90, .bool false), (91, .agg #[ci z, ci y, ci x0]), (92, ci k), (93, .bool false), (94, .bool false), (95, .bool false), (96, .bool false)]) 186 [58, 59, 60, 61, 62, 63, 64, 65, 66, 67, 68, 69, 70, 71, 72, 73, 74, 75, 76, 77, 78, 79, 80, 81, 82, 83, 84, 85, 86, 87, 88, 89, 90, 91, 92, 93, 94, 95, 96] rfl (fun _ => rfl) (by decide) (by kernel_rfl) (fun x lz v => CgS w [oB b11 24 ds, oB b10 26 [ci z, ci y, ci x0], oB b7 24 cs] TB p p false false false false x v) (by kernel_rfl) (CgS.begin (F.call (Mod.drew [] _)) _) (by kernel_rfl) (by kernel_rfl) ?_ ?_
    · skip
      intro x lz T v j o hj hlj hdep hst hpar hgot hcl Kq hK
      have hjn : j < 39 := (Array.getElem?_eq_some_iff.1 hj).1
      obtain rfl | rfl | rfl | rfl | rfl | rfl | rfl | rfl | rfl | rfl | rfl | rfl | rfl | rfl | rfl | rfl | rfl | rfl | rfl | rfl | rfl | rfl | rfl | rfl | rfl | rfl | rfl | rfl | rfl | rfl | rfl | rfl | rfl | rfl | rfl | rfl | rfl | rfl | rfl : j = 0 ∨ j = 1 ∨ j = 2 ∨ j = 3 ∨ j = 4 ∨ j = 5 ∨ j = 6 ∨ j = 7 ∨ j = 8 ∨ j = 9 ∨ j = 10 ∨ j = 11 ∨ j = 12 ∨ j = 13 ∨ j = 14 ∨ j = 15 ∨ j = 16 ∨ j = 17 ∨ j = 18 ∨ j = 19 ∨ j = 20 ∨ j = 21 ∨ j = 22 ∨ j = 23 ∨ j = 24 ∨ j = 25 ∨ j = 26 ∨ j = 27 ∨ j = 28 ∨ j = 29 ∨ j = 30 ∨ j = 31 ∨ j = 32 ∨ j = 33 ∨ j = 34 ∨ j = 35 ∨ j = 36 ∨ j = 37 ∨ j = 38 := by omega
      all_goals (have hj' := Option.some.inj (hj : some _ = some o); subst hj'; clear hj)
      · exact wp_ran rfl (exec_load rfl (eval_tmp ((hpar 11 rfl).trans rfl)) (run_loads (Cells.of_holds (hst.own (y := oB b11 24 ds) (by simp))) Try.underlying24 rfl (size24' h5q))) (hK x _ _ (fun _ _ _ _ _ _ => rfl) (fun s hs => by cases hs; rfl) (by simpa using hst))
      · obtain ⟨hP, hS⟩ := hst.std HTQ.out
        refine wp_called rfl (exec_call1 rfl rfl (eval_tmp (hgot 0 _ 58 rfl (hdep ⟨0, .data⟩ (by simp) rfl) rfl)) (enters_of Try.func15 (by kernel_rfl) rfl)) ((check_p hP true HBQ).mono ?_)
        rintro e v' ⟨rfl, m1⟩
        exact ⟨_, rfl, hK x _ _ (fun _ _ _ _ _ _ => rfl) (fun s hs => by cases hs; rfl) (by simpa using hst.call m1)⟩
      · exact wp_ran rfl (exec_nei rfl rfl (eval_tmp (hgot 1 _ 59 rfl (hdep ⟨1, .data⟩ (by simp) rfl) rfl)) rfl) (hK x _ _ (fun _ _ _ _ _ _ => rfl) (fun s hs => by cases hs; rfl) (by simpa using hst))
      · exact wp_ran rfl (exec_move rfl (eval_tmp (hgot 2 _ 60 rfl (hdep ⟨2, .data⟩ (by simp) rfl) rfl))) (hK x _ _ (fun _ _ _ _ _ _ => rfl) (fun s hs => by cases hs; rfl) (by simpa using hst))
      · exact wp_ranW (wanted_yes rfl rfl rfl (hgot 3 _ 61 rfl (hdep ⟨3, .guard⟩ (by simp) rfl) rfl)) (exec_fp24_0 rfl (eval_tmp ((hpar 11 rfl).trans rfl))) (hK x _ _ (fun _ _ _ _ _ _ => rfl) (fun s hs => by cases hs; rfl) (by simpa using hst))
      · exact wp_ranW (wanted_yes rfl rfl rfl (hgot 3 _ 61 rfl (hdep ⟨3, .guard⟩ (by simp) rfl) rfl)) (exec_load rfl (eval_tmp (hgot 4 _ 62 rfl (hdep ⟨4, .data⟩ (by simp) rfl) rfl)) (run_load1 Try.underlying3 rfl (((hst.own (y := oB b11 24 ds) (by simp) : Holds v b11 24 _).cell 0).trans HQ0.out))) (hK x _ _ (fun _ _ _ _ _ _ => rfl) (fun s hs => by cases hs; rfl) (by simpa using hst))
      · exact wp_ranW (wanted_yes rfl rfl rfl (hgot 3 _ 61 rfl (hdep ⟨3, .guard⟩ (by simp) rfl) rfl)) (exec_fp24_0 rfl (eval_tmp ((hpar 7 rfl).trans rfl))) (hK x _ _ (fun _ _ _ _ _ _ => rfl) (fun s hs => by cases hs; rfl) (by simpa using hst))
      · exact wp_ranW (wanted_yes rfl rfl rfl (hgot 3 _ 61 rfl (hdep ⟨3, .guard⟩ (by simp) rfl) rfl)) (exec_load rfl (eval_tmp (hgot 6 _ 64 rfl (hdep ⟨6, .data⟩ (by simp) rfl) rfl)) (run_load1 Try.underlying3 rfl (((hst.own (y := oB b7 24 cs) (by simp) : Holds v b7 24 _).cell 0).trans HP0.out))) (hK x _ _ (fun _ _ _ _ _ _ => rfl) (fun s hs => by cases hs; rfl) (by simpa using hst))
      · exact wp_ranW (wanted_yes rfl rfl rfl (hgot 3 _ 61 rfl (hdep ⟨3, .guard⟩ (by simp) rfl) rfl)) (exec_nei (r := false) (by simp) rfl (eval_tmp (hgot 5 _ 63 rfl (hdep ⟨5, .data⟩ (by simp) rfl) rfl)) (eval_tmp (hgot 7 _ 65 rfl (hdep ⟨7, .data⟩ (by simp) rfl) rfl))) (hK x _ _ (fun _ _ _ _ _ _ => rfl) (fun s hs => by cases hs; rfl) (by simpa using hst))
      · exact wp_ran rfl (exec_pick rfl (eval_tmp (hgot 3 _ 61 rfl (hdep ⟨3, .data⟩ (by simp) rfl) rfl)) rfl (eval_tmp (hgot 8 _ 66 rfl (hdep ⟨8, .data⟩ (by simp) rfl) rfl)) rfl) (hK x _ _ (fun _ _ _ _ _ _ => rfl) (fun s hs => by cases hs; rfl) (by simpa using hst))
      · exact wp_ran rfl (exec_move rfl (eval_tmp (hgot 9 _ 67 rfl (hdep ⟨9, .data⟩ (by simp) rfl) rfl))) (hK x _ _ (fun _ _ _ _ _ _ => rfl) (fun s hs => by cases hs; rfl) (by simpa using hst))
      · exact wp_ranW (wanted_yes rfl rfl rfl (hgot 10 _ 68 rfl (hdep ⟨10, .guard⟩ (by simp) rfl) rfl)) (exec_fp24_1 rfl (eval_tmp ((hpar 11 rfl).trans rfl))) (hK x _ _ (fun _ _ _ _ _ _ => rfl) (fun s hs => by cases hs; rfl) (by simpa using hst))
      · exact wp_ranW (wanted_yes rfl rfl rfl (hgot 10 _ 68 rfl (hdep ⟨10, .guard⟩ (by simp) rfl) rfl)) (exec_load rfl (eval_tmp (hgot 11 _ 69 rfl (hdep ⟨11, .data⟩ (by simp) rfl) rfl)) (run_load1 Try.underlying3 rfl (((hst.own (y := oB b11 24 ds) (by simp) : Holds v b11 24 _).cell 1).trans HQ1.out))) (hK x _ _ (fun _ _ _ _ _ _ => rfl) (fun s hs => by cases hs; rfl) (by simpa using hst))
      · exact wp_ranW (wanted_yes rfl rfl rfl (hgot 10 _ 68 rfl (hdep ⟨10, .guard⟩ (by simp) rfl) rfl)) (exec_fp24_1 rfl (eval_tmp ((hpar 7 rfl).trans rfl))) (hK x _ _ (fun _ _ _ _ _ _ => rfl) (fun s hs => by cases hs; rfl) (by simpa using hst))
      · exact wp_ranW (wanted_yes rfl rfl rfl (hgot 10 _ 68 rfl (hdep ⟨10, .guard⟩ (by simp) rfl) rfl)) (exec_load rfl (eval_tmp (hgot 13 _ 71 rfl (hdep ⟨13, .data⟩ (by simp) rfl) rfl)) (run_load1 Try.underlying3 rfl (((hst.own (y := oB b7 24 cs) (by simp) : Holds v b7 24 _).cell 1).trans HP1.out))) (hK x _ _ (fun _ _ _ _ _ _ => rfl) (fun s hs => by cases hs; rfl) (by simpa using hst))
      · exact wp_ranW (wanted_yes rfl rfl rfl (hgot 10 _ 68 rfl (hdep ⟨10, .guard⟩ (by simp) rfl) rfl)) (exec_nei HNE.out rfl (eval_tmp (hgot 12 _ 70 rfl (hdep ⟨12, .data⟩ (by simp) rfl) rfl)) (eval_tmp (hgot 14 _ 72 rfl (hdep ⟨14, .data⟩ (by simp) rfl) rfl))) (hK x _ _ (fun _ _ _ _ _ _ => rfl) (fun s hs => by cases hs; rfl) (by simpa using hst))
      · exact wp_ranW (wanted_yes rfl rfl rfl (hgot 10 _ 68 rfl (hdep ⟨10, .chain⟩ (by simp) rfl) rfl)) (exec_move rfl (eval_tmp (hgot 15 _ 73 rfl (hdep ⟨15, .data⟩ (by simp) rfl) rfl))) (hK x _ _ (fun _ _ _ _ _ _ => rfl) (fun s hs => by cases hs; rfl) (by simpa using hst))
      · exact wp_skip (wanted_no rfl rfl rfl rfl (hgot 16 _ 74 rfl (hdep ⟨16, .guard⟩ (by simp) rfl) rfl)) (hK x _ _ (fun _ _ _ _ _ _ => rfl) (fun s hs => by cases hs; rfl) (by simpa using hst))
      · exact wp_skip (wanted_no rfl rfl rfl rfl (hgot 16 _ 74 rfl (hdep ⟨16, .guard⟩ (by simp) rfl) rfl)) (hK x _ _ (fun _ _ _ _ _ _ => rfl) (fun s hs => by cases hs; rfl) (by simpa using hst))
      · exact wp_skip (wanted_no rfl rfl rfl rfl (hgot 16 _ 74 rfl (hdep ⟨16, .guard⟩ (by simp) rfl) rfl)) (hK x _ _ (fun _ _ _ _ _ _ => rfl) (fun s hs => by cases hs; rfl) (by simpa using hst))
      · exact wp_skip (wanted_no rfl rfl rfl rfl (hgot 16 _ 74 rfl (hdep ⟨16, .guard⟩ (by simp) rfl) rfl)) (hK x _ _ (fun _ _ _ _ _ _ => rfl) (fun s hs => by cases hs; rfl) (by simpa using hst))
      · exact wp_skip (wanted_no rfl rfl rfl rfl (hgot 16 _ 74 rfl (hdep ⟨16, .guard⟩ (by simp) rfl) rfl)) (hK x _ _ (fun _ _ _ _ _ _ => rfl) (fun s hs => by cases hs; rfl) (by simpa using hst))
      · exact wp_skip (wanted_no rfl rfl rfl rfl (hgot 16 _ 74 rfl (hdep ⟨16, .guard⟩ (by simp) rfl) rfl)) (hK x _ _ (fun _ _ _ _ _ _ => rfl) (fun s hs => by cases hs; rfl) (by simpa using hst))
      · exact wp_ranW (wanted_yes rfl rfl rfl (hgot 10 _ 68 rfl (hdep ⟨10, .guard⟩ (by simp) rfl) rfl)) (exec_pick rfl (eval_tmp (hgot 16 _ 74 rfl (hdep ⟨16, .data⟩ (by simp) rfl) rfl)) (eval_tmp (hgot 22 _ 80 rfl (hdep ⟨22, .data⟩ (by simp) rfl) rfl)) rfl rfl) (hK x _ _ (fun _ _ _ _ _ _ => rfl) (fun s hs => by cases hs; rfl) (by simpa using hst))
      · exact wp_ran rfl (exec_pick rfl (eval_tmp (hgot 10 _ 68 rfl (hdep ⟨10, .data⟩ (by simp) rfl) rfl)) rfl (eval_tmp (hgot 23 _ 81 rfl (hdep ⟨23, .data⟩ (by simp) rfl) rfl)) rfl) (hK x _ _ (fun _ _ _ _ _ _ => rfl) (fun s hs => by cases hs; rfl) (by simpa using hst))
      · exact wp_ran rfl (exec_move rfl (eval_tmp (hgot 24 _ 82 rfl (hdep ⟨24, .data⟩ (by simp) rfl) rfl))) (hK x _ _ (fun _ _ _ _ _ _ => rfl) (fun s hs => by cases hs; rfl) (by simpa using hst))
      · exact wp_ranW (wanted_yes rfl rfl rfl (hgot 25 _ 83 rfl (hdep ⟨25, .guard⟩ (by simp) rfl) rfl)) (exec_fp24_1 rfl (eval_tmp ((hpar 11 rfl).trans rfl))) (hK x _ _ (fun _ _ _ _ _ _ => rfl) (fun s hs => by cases hs; rfl) (by simpa using hst))
      · exact wp_ranW (wanted_yes rfl rfl rfl (hgot 25 _ 83 rfl (hdep ⟨25, .guard⟩ (by simp) rfl) rfl)) (exec_load rfl (eval_tmp (hgot 26 _ 84 rfl (hdep ⟨26, .data⟩ (by simp) rfl) rfl)) (run_load1 Try.underlying3 rfl (((hst.own (y := oB b11 24 ds) (by simp) : Holds v b11 24 _).cell 1).trans HQ1.out))) (hK x _ _ (fun _ _ _ _ _ _ => rfl) (fun s hs => by cases hs; rfl) (by simpa using hst))
      · exact wp_ranW (wanted_yes rfl rfl rfl (hgot 25 _ 83 rfl (hdep ⟨25, .guard⟩ (by simp) rfl) rfl)) (exec_fp24_1 rfl (eval_tmp ((hpar 7 rfl).trans rfl))) (hK x _ _ (fun _ _ _ _ _ _ => rfl) (fun s hs => by cases hs; rfl) (by simpa using hst))
      · exact wp_ranW (wanted_yes rfl rfl rfl (hgot 25 _ 83 rfl (hdep ⟨25, .guard⟩ (by simp) rfl) rfl)) (exec_load rfl (eval_tmp (hgot 28 _ 86 rfl (hdep ⟨28, .data⟩ (by simp) rfl) rfl)) (run_load1 Try.underlying3 rfl (((hst.own (y := oB b7 24 cs) (by simp) : Holds v b7 24 _).cell 1).trans HP1.out))) (hK x _ _ (fun _ _ _ _ _ _ => rfl) (fun s hs => by cases hs; rfl) (by simpa using hst))
      · exact wp_ranW (wanted_yes rfl rfl rfl (hgot 25 _ 83 rfl (hdep ⟨25, .guard⟩ (by simp) rfl) rfl)) (exec_gtr HGT.out rfl (eval_tmp (hgot 27 _ 85 rfl (hdep ⟨27, .data⟩ (by simp) rfl) rfl)) (eval_tmp (hgot 29 _ 87 rfl (hdep ⟨29, .data⟩ (by simp) rfl) rfl))) (hK x _ _ (fun _ _ _ _ _ _ => rfl) (fun s hs => by cases hs; rfl) (by simpa using hst))
      · exact wp_ranW (wanted_yes rfl rfl rfl (hgot 25 _ 83 rfl (hdep ⟨25, .guard⟩ (by simp) rfl) rfl)) (exec_move rfl (eval_tmp ((hpar 13 rfl).trans rfl))) (hK x _ _ (fun _ _ _ _ _ _ => rfl) (fun s hs => by cases hs; rfl) (by simpa using hst))
      · exact wp_ranW (wanted_yes rfl rfl rfl (hgot 25 _ 83 rfl (hdep ⟨25, .chain⟩ (by simp) rfl) rfl)) (exec_move rfl (eval_tmp (hgot 31 _ 89 rfl (hdep ⟨31, .data⟩ (by simp) rfl) rfl))) (hK x _ _ (fun _ _ _ _ _ _ => rfl) (fun s hs => by cases hs; rfl) (by simpa using hst))
      · exact wp_ranW (wanted_yes rfl rfl rfl (hgot 32 _ 90 rfl (hdep ⟨32, .guard⟩ (by simp) rfl) rfl)) (exec_load rfl (eval_tmp ((hpar 10 rfl).trans rfl)) (run_loads (Cells.of_holds (hst.own (y := oB b10 26 [ci z, ci y, ci x0]) (by simp))) Try.underlying26 rfl (size26' _ _ _))) (hK x _ _ (fun _ _ _ _ _ _ => rfl) (fun s hs => by cases hs; rfl) (by simpa using hst))
      · refine wp_calledW (wanted_yes rfl rfl rfl (hgot 32 _ 90 rfl (hdep ⟨32, .chain⟩ (by simp) rfl) rfl)) (exec_call1 rfl rfl (eval_tmp (hgot 33 _ 91 rfl (hdep ⟨33, .data⟩ (by simp) rfl) rfl)) (enters_of Try.func12 (by kernel_rfl) rfl)) ((kind_c z y x0 _ HK v).mono ?_)
        rintro e v' ⟨rfl, m1⟩
        exact ⟨_, rfl, hK x _ _ (fun _ _ _ _ _ _ => rfl) (fun s hs => by cases hs; rfl) (by simpa using hst.call m1)⟩
      · exact wp_ranW (wanted_yes rfl rfl rfl (hgot 32 _ 90 rfl (hdep ⟨32, .guard⟩ (by simp) rfl) rfl)) (exec_eqi c5 rfl (eval_tmp (hgot 34 _ 92 rfl (hdep ⟨34, .data⟩ (by simp) rfl) rfl)) rfl) (hK x _ _ (fun _ _ _ _ _ _ => rfl) (fun s hs => by cases hs; rfl) (by simpa using hst))
      · exact wp_ranW (wanted_yes rfl rfl rfl (hgot 25 _ 83 rfl (hdep ⟨25, .guard⟩ (by simp) rfl) rfl)) (exec_pick rfl (eval_tmp (hgot 32 _ 90 rfl (hdep ⟨32, .data⟩ (by simp) rfl) rfl)) rfl (eval_tmp (hgot 35 _ 93 rfl (hdep ⟨35, .data⟩ (by simp) rfl) rfl)) rfl) (hK x _ _ (fun _ _ _ _ _ _ => rfl) (fun s hs => by cases hs; rfl) (by simpa using hst))
      · exact wp_ranW (wanted_yes rfl rfl rfl (hgot 25 _ 83 rfl (hdep ⟨25, .guard⟩ (by simp) rfl) rfl)) (exec_neb Try.underlying4 rfl (eval_tmp (hgot 30 _ 88 rfl (hdep ⟨30, .data⟩ (by simp) rfl) rfl)) (eval_tmp (hgot 36 _ 94 rfl (hdep ⟨36, .data⟩ (by simp) rfl) rfl))) (hK x _ _ (fun _ _ _ _ _ _ => rfl) (fun s hs => by cases hs; rfl) (by simpa using hst))
      · exact wp_ran rfl (exec_pick rfl (eval_tmp (hgot 25 _ 83 rfl (hdep ⟨25, .data⟩ (by simp) rfl) rfl)) rfl (eval_tmp (hgot 37 _ 95 rfl (hdep ⟨37, .data⟩ (by simp) rfl) rfl)) rfl) (hK x _ _ (fun _ _ _ _ _ _ => rfl) (fun s hs => by cases hs; rfl) (by simpa using hst))
    intro xx lz v17 hlz hst
    obtain ⟨T17, F17, hT17, hc17⟩ := hst
    have G17 : Fm w v17 [oB b11 24 ds, oB b10 26 [ci z, ci y, ci x0], oB b7 24 cs] T17 := F17
    have HTP7 : Hid (tP S p cs ∈ T17) := Lib.hid (hT17 _ HTP.out)
    have HTQ7 : Hid (tP Sq q ds ∈ T17) := Lib.hid (hT17 _ HTQ.out)
    clear hlz F17 hT17 hc17 F HTP HTQ
    have F := G17
    have HTP := HTP7
    have HTQ := HTQ7
    clear G17 HTP7 HTQ7
    simp only [setAll, Act.put, List.foldl_cons, List.foldl_nil, List.setIfInBounds_toArray, List.set_cons_succ, List.set_cons_zero]
    go_wp2_with fail
    have K1 : Hid (∃ ts, Fm w v17 [oB b11 24 ds, oB b10 26 [ci z, ci y, ci x0], oB b7 24 cs] ts ∧ tP Sq q ds ∈ ts ∧ tP S p cs ∈ ts) := Lib.hid ⟨_, F, HTQ.out, HTP.out⟩
    clear F HTQ HTP
    go_loopw [14] (fun i wr => ∃ nn : Nat, i = .int .i64 nn ∧ 1 ≤ nn ∧ nn ≤ 7 ∧ Hid (∃ ts, Fm w wr [oB b11 24 ds, oB b10 26 [ci z, ci y, ci x0], oB b7 24 cs] ts ∧ tP Sq q ds ∈ ts ∧ tP S p cs ∈ ts)) (fun i _ => 7 - (intOf i).toNat)
    case atStart => exact ⟨1, rfl, by omega, by omega, K1⟩
    case round =>
    obtain ⟨nn, rfl, hn1, hn7, hk⟩ := hrel
    clear K1
    obtain ⟨ts, F, hTQ, hTP⟩ := hk.out
    have HTQ := Lib.hid hTQ
    have HTP := Lib.hid hTP
    clear hk hTQ hTP
    by_cases h7 : nn ≤ 6
    case neg =>
      have h1q := (F.k _ (.inr HTQ.out)).2.1.one
      go_wp2_with (first
        | (with_reducible refine fm_load F 0 rfl (o := ⟨some 184, .load 24 (.tmp 11), _, _, _, _⟩) rfl (.tmp 11) rfl rfl h5q ?_)
        | (with_reducible refine fm_store F 2 rfl (o := ⟨none, .store 24 (.tmp 7) (.tmp 184), _, _, _, _⟩) rfl (.tmp 7) (.tmp 184) rfl rfl ds rfl rfl h5q h5 h1q ?_; intro wy F8; clear F))
      exact ⟨⟨j + 1, q, by go_num, by omega, Lib.hid HG.out.right, Lib.hid ⟨ds, Sq, F8.onlyM (x := oB b7 24 ds) (by simp) HTQ.out⟩⟩, by simp [intOf]; omega⟩
    obtain ⟨a, ha⟩ : ∃ a, p.mayR (nn : Int) m = a := ⟨_, rfl⟩
    obtain ⟨b, hb⟩ : ∃ a, q.mayR (nn : Int) m = a := ⟨_, rfl⟩
    obtain ⟨c', hc⟩ : ∃ a, p.mayW (nn : Int) = a := ⟨_, rfl⟩
    obtain ⟨d, hd⟩ : ∃ a, q.mayW (nn : Int) = a := ⟨_, rfl⟩
    obtain ⟨e, he⟩ : ∃ a, q.mayR (nn : Int) [] = a := ⟨_, rfl⟩
    have lde : d = true → e = true := fun h => by rw [← he]; exact HG.out.writes (by omega) (by omega) (hd.trans h)
    have lab : a = true → b = false → _ := fun h h' => HG.out.lost hR.out (ha.trans h) (hb.trans h')
    have lcd : c' = true → d = false → _ := fun h h' => HG.out.lostW hR.out (hc.trans h) (hd.trans h')
    have hab : (a = false) ∨ (a = true ∧ b = true) := by
      cases a <;> cases b <;> simp_all
    have hcd : (c' = false ∧ d = false) ∨ (c' = false ∧ d = true) ∨ (c' = true ∧ d = true) := by
      cases c' <;> cases d <;> simp_all
    have HA1 := Lib.hid ha
    have HB1 := Lib.hid hb
    have HC := Lib.hid hc
    have HD := Lib.hid hd
    have HE := Lib.hid he
    clear ha hb hc hd he lab lcd
    have CC : Hid (∀ v ts, Fm w v [oB b11 24 ds, oB b10 26 [ci z, ci y, ci x0], oB b7 24 cs] ts → tP S p cs ∈ ts → Calls Try.prog 18 #[.agg cs.toArray, ci (nn : Int)] v fun r w' => r = .returned (.bool c') ∧ Mod [] v w') := Lib.hid fun v ts F h => mayW_p (F.k _ (.inr h)).2.1 (F.k _ (.inr h)).2.2 (nn : Int) _ HC
    have CD : Hid (∀ v ts, Fm w v [oB b11 24 ds, oB b10 26 [ci z, ci y, ci x0], oB b7 24 cs] ts → tP Sq q ds ∈ ts → Calls Try.prog 18 #[.agg ds.toArray, ci (nn : Int)] v fun r w' => r = .returned (.bool d) ∧ Mod [] v w') := Lib.hid fun v ts F h => mayW_p (F.k _ (.inr h)).2.1 (F.k _ (.inr h)).2.2 (nn : Int) _ HD
    have CA : Hid (∀ v ts, Fm w v [oB b11 24 ds, oB b10 26 [ci z, ci y, ci x0], oB b7 24 cs] ts → tP S p cs ∈ ts → Calls Try.prog 20 #[.agg cs.toArray, ci (nn : Int), .slice B nb cb] v fun r w' => r = .returned (.bool a) ∧ Mod [] v w') := Lib.hid fun v ts F h => mayR_q (F.k _ (.inr h)).2.1 (F.k _ (.inr h)).2.2 (nn : Int) B nb cb m (HM.out.call F.m) _ HA1
    have CB : Hid (∀ v ts, Fm w v [oB b11 24 ds, oB b10 26 [ci z, ci y, ci x0], oB b7 24 cs] ts → tP Sq q ds ∈ ts → Calls Try.prog 20 #[.agg ds.toArray, ci (nn : Int), .slice B nb cb] v fun r w' => r = .returned (.bool b) ∧ Mod [] v w') := Lib.hid fun v ts F h => mayR_q (F.k _ (.inr h)).2.1 (F.k _ (.inr h)).2.2 (nn : Int) B nb cb m (HM.out.call F.m) _ HB1
    have CE : Hid (∀ v ts, Fm w v [oB b11 24 ds, oB b10 26 [ci z, ci y, ci x0], oB b7 24 cs] ts → tP Sq q ds ∈ ts → Calls Try.prog 20 #[.agg ds.toArray, ci (nn : Int), .slice none 0 0] v fun r w' => r = .returned (.bool e) ∧ Mod [] v w') := Lib.hid fun v ts F h => mayR_q (F.k _ (.inr h)).2.1 (F.k _ (.inr h)).2.2 (nn : Int) none 0 0 [] (BelR.none _) _ HE
    clear HA1 HB1 HC HD HE
    rcases hab with rfl | ⟨rfl, rfl⟩
    · rcases hcd with ⟨rfl, rfl⟩ | ⟨rfl, rfl⟩ | ⟨rfl, rfl⟩
      · clear lde
        go_wp2_with (first
          | (with_reducible refine fm_load F 0 rfl (o := ⟨some _, .load 24 (.tmp 11), _, _, _, _⟩) rfl (.tmp 11) rfl rfl h5q ?_)
          | (with_reducible refine fm_load F 2 rfl (o := ⟨some _, .load 24 (.tmp 7), _, _, _, _⟩) rfl (.tmp 7) rfl rfl h5 ?_)
          | (with_reducible refine fm_loadG F 0 rfl (o := ⟨some _, .load 24 (.tmp 11), _, _, _, _⟩) (by with_unfolding_all rfl) (.tmp 11) rfl rfl h5q ?_)
          | (with_reducible refine fm_loadG F 2 rfl (o := ⟨some _, .load 24 (.tmp 7), _, _, _, _⟩) (by with_unfolding_all rfl) (.tmp 7) rfl rfl h5 ?_)
          | (with_reducible refine fm_load26 F 1 rfl (o := ⟨some _, .load 26 (.tmp 10), _, _, _, _⟩) rfl (.tmp 10) rfl rfl ?_)
          | (with_reducible refine fm_load26G F 1 rfl (o := ⟨some _, .load 26 (.tmp 10), _, _, _, _⟩) (by with_unfolding_all rfl) (.tmp 10) rfl rfl ?_)
          | (with_reducible refine fm_load1G' F 1 2 rfl (ci x0) rfl (o := ⟨some _, .load 3 (.tmp 127), _, _, _, _⟩) (by with_unfolding_all rfl) 3 (.tmp 127) rfl rfl (run_load1 Try.underlying3 rfl) ?_)
          | (with_reducible refine fm_load1G' F 1 2 rfl (ci x0) rfl (o := ⟨some _, .load 3 (.tmp 153), _, _, _, _⟩) (by with_unfolding_all rfl) 3 (.tmp 153) rfl rfl (run_load1 Try.underlying3 rfl) ?_)
          | (go_at_call 18; with_reducible refine Calls.mono (CC.out _ _ F HTP.out) ?_; rintro e wz ⟨rfl, mz⟩; replace F := F.call mz; clear mz)
          | (go_at_call 18; with_reducible refine Calls.mono (CD.out _ _ F HTQ.out) ?_; rintro e wz ⟨rfl, mz⟩; replace F := F.call mz; clear mz)
          | (go_at_call 20; with_reducible refine Calls.mono (CA.out _ _ F HTP.out) ?_; rintro e wz ⟨rfl, mz⟩; replace F := F.call mz; clear mz)
          | (go_at_call 20; with_reducible refine Calls.mono (CB.out _ _ F HTQ.out) ?_; rintro e wz ⟨rfl, mz⟩; replace F := F.call mz; clear mz)
          | (go_at_call 20; with_reducible refine Calls.mono (CE.out _ _ F HTQ.out) ?_; rintro e wz ⟨rfl, mz⟩; replace F := F.call mz; clear mz)
          | (go_at_call 12; with_reducible refine Calls.mono (kind_c z y x0 _ HK _) ?_; rintro e wz ⟨rfl, mz⟩; replace F := F.call mz; clear mz))
        exact ⟨⟨nn + 1, by go_num, by omega, by omega, Lib.hid ⟨_, F, HTQ.out, HTP.out⟩⟩, by simp [intOf]; omega⟩
      · obtain rfl : true = e := (lde rfl).symm
        clear lde
        go_wp2_with (first
          | (with_reducible refine fm_load F 0 rfl (o := ⟨some _, .load 24 (.tmp 11), _, _, _, _⟩) rfl (.tmp 11) rfl rfl h5q ?_)
          | (with_reducible refine fm_load F 2 rfl (o := ⟨some _, .load 24 (.tmp 7), _, _, _, _⟩) rfl (.tmp 7) rfl rfl h5 ?_)
          | (with_reducible refine fm_loadG F 0 rfl (o := ⟨some _, .load 24 (.tmp 11), _, _, _, _⟩) (by with_unfolding_all rfl) (.tmp 11) rfl rfl h5q ?_)
          | (with_reducible refine fm_loadG F 2 rfl (o := ⟨some _, .load 24 (.tmp 7), _, _, _, _⟩) (by with_unfolding_all rfl) (.tmp 7) rfl rfl h5 ?_)
          | (with_reducible refine fm_load26 F 1 rfl (o := ⟨some _, .load 26 (.tmp 10), _, _, _, _⟩) rfl (.tmp 10) rfl rfl ?_)
          | (with_reducible refine fm_load26G F 1 rfl (o := ⟨some _, .load 26 (.tmp 10), _, _, _, _⟩) (by with_unfolding_all rfl) (.tmp 10) rfl rfl ?_)
          | (with_reducible refine fm_load1G' F 1 2 rfl (ci x0) rfl (o := ⟨some _, .load 3 (.tmp 127), _, _, _, _⟩) (by with_unfolding_all rfl) 3 (.tmp 127) rfl rfl (run_load1 Try.underlying3 rfl) ?_)
          | (with_reducible refine fm_load1G' F 1 2 rfl (ci x0) rfl (o := ⟨some _, .load 3 (.tmp 153), _, _, _, _⟩) (by with_unfolding_all rfl) 3 (.tmp 153) rfl rfl (run_load1 Try.underlying3 rfl) ?_)
          | (go_at_call 18; with_reducible refine Calls.mono (CC.out _ _ F HTP.out) ?_; rintro e wz ⟨rfl, mz⟩; replace F := F.call mz; clear mz)
          | (go_at_call 18; with_reducible refine Calls.mono (CD.out _ _ F HTQ.out) ?_; rintro e wz ⟨rfl, mz⟩; replace F := F.call mz; clear mz)
          | (go_at_call 20; with_reducible refine Calls.mono (CA.out _ _ F HTP.out) ?_; rintro e wz ⟨rfl, mz⟩; replace F := F.call mz; clear mz)
          | (go_at_call 20; with_reducible refine Calls.mono (CB.out _ _ F HTQ.out) ?_; rintro e wz ⟨rfl, mz⟩; replace F := F.call mz; clear mz)
          | (go_at_call 20; with_reducible refine Calls.mono (CE.out _ _ F HTQ.out) ?_; rintro e wz ⟨rfl, mz⟩; replace F := F.call mz; clear mz)
          | (go_at_call 12; with_reducible refine Calls.mono (kind_c z y x0 _ HK _) ?_; rintro e wz ⟨rfl, mz⟩; replace F := F.call mz; clear mz))
        exact ⟨⟨nn + 1, by go_num, by omega, by omega, Lib.hid ⟨_, F, HTQ.out, HTP.out⟩⟩, by simp [intOf]; omega⟩
      · obtain rfl : true = e := (lde rfl).symm
        clear lde
        go_wp2_with (first
          | (with_reducible refine fm_load F 0 rfl (o := ⟨some _, .load 24 (.tmp 11), _, _, _, _⟩) rfl (.tmp 11) rfl rfl h5q ?_)
          | (with_reducible refine fm_load F 2 rfl (o := ⟨some _, .load 24 (.tmp 7), _, _, _, _⟩) rfl (.tmp 7) rfl rfl h5 ?_)
          | (with_reducible refine fm_loadG F 0 rfl (o := ⟨some _, .load 24 (.tmp 11), _, _, _, _⟩) (by with_unfolding_all rfl) (.tmp 11) rfl rfl h5q ?_)
          | (with_reducible refine fm_loadG F 2 rfl (o := ⟨some _, .load 24 (.tmp 7), _, _, _, _⟩) (by with_unfolding_all rfl) (.tmp 7) rfl rfl h5 ?_)
          | (with_reducible refine fm_load26 F 1 rfl (o := ⟨some _, .load 26 (.tmp 10), _, _, _, _⟩) rfl (.tmp 10) rfl rfl ?_)
          | (with_reducible refine fm_load26G F 1 rfl (o := ⟨some _, .load 26 (.tmp 10), _, _, _, _⟩) (by with_unfolding_all rfl) (.tmp 10) rfl rfl ?_)
          | (with_reducible refine fm_load1G' F 1 2 rfl (ci x0) rfl (o := ⟨some _, .load 3 (.tmp 127), _, _, _, _⟩) (by with_unfolding_all rfl) 3 (.tmp 127) rfl rfl (run_load1 Try.underlying3 rfl) ?_)
          | (with_reducible refine fm_load1G' F 1 2 rfl (ci x0) rfl (o := ⟨some _, .load 3 (.tmp 153), _, _, _, _⟩) (by with_unfolding_all rfl) 3 (.tmp 153) rfl rfl (run_load1 Try.underlying3 rfl) ?_)
          | (go_at_call 18; with_reducible refine Calls.mono (CC.out _ _ F HTP.out) ?_; rintro e wz ⟨rfl, mz⟩; replace F := F.call mz; clear mz)
          | (go_at_call 18; with_reducible refine Calls.mono (CD.out _ _ F HTQ.out) ?_; rintro e wz ⟨rfl, mz⟩; replace F := F.call mz; clear mz)
          | (go_at_call 20; with_reducible refine Calls.mono (CA.out _ _ F HTP.out) ?_; rintro e wz ⟨rfl, mz⟩; replace F := F.call mz; clear mz)
          | (go_at_call 20; with_reducible refine Calls.mono (CB.out _ _ F HTQ.out) ?_; rintro e wz ⟨rfl, mz⟩; replace F := F.call mz; clear mz)
          | (go_at_call 20; with_reducible refine Calls.mono (CE.out _ _ F HTQ.out) ?_; rintro e wz ⟨rfl, mz⟩; replace F := F.call mz; clear mz)
          | (go_at_call 12; with_reducible refine Calls.mono (kind_c z y x0 _ HK _) ?_; rintro e wz ⟨rfl, mz⟩; replace F := F.call mz; clear mz))
        exact ⟨⟨nn + 1, by go_num, by omega, by omega, Lib.hid ⟨_, F, HTQ.out, HTP.out⟩⟩, by simp [intOf]; omega⟩
    · rcases hcd with ⟨rfl, rfl⟩ | ⟨rfl, rfl⟩ | ⟨rfl, rfl⟩
      · clear lde
        go_wp2_with (first
          | (with_reducible refine fm_load F 0 rfl (o := ⟨some _, .load 24 (.tmp 11), _, _, _, _⟩) rfl (.tmp 11) rfl rfl h5q ?_)
          | (with_reducible refine fm_load F 2 rfl (o := ⟨some _, .load 24 (.tmp 7), _, _, _, _⟩) rfl (.tmp 7) rfl rfl h5 ?_)
          | (with_reducible refine fm_loadG F 0 rfl (o := ⟨some _, .load 24 (.tmp 11), _, _, _, _⟩) (by with_unfolding_all rfl) (.tmp 11) rfl rfl h5q ?_)
          | (with_reducible refine fm_loadG F 2 rfl (o := ⟨some _, .load 24 (.tmp 7), _, _, _, _⟩) (by with_unfolding_all rfl) (.tmp 7) rfl rfl h5 ?_)
          | (with_reducible refine fm_load26 F 1 rfl (o := ⟨some _, .load 26 (.tmp 10), _, _, _, _⟩) rfl (.tmp 10) rfl rfl ?_)
          | (with_reducible refine fm_load26G F 1 rfl (o := ⟨some _, .load 26 (.tmp 10), _, _, _, _⟩) (by with_unfolding_all rfl) (.tmp 10) rfl rfl ?_)
          | (with_reducible refine fm_load1G' F 1 2 rfl (ci x0) rfl (o := ⟨some _, .load 3 (.tmp 127), _, _, _, _⟩) (by with_unfolding_all rfl) 3 (.tmp 127) rfl rfl (run_load1 Try.underlying3 rfl) ?_)
          | (with_reducible refine fm_load1G' F 1 2 rfl (ci x0) rfl (o := ⟨some _, .load 3 (.tmp 153), _, _, _, _⟩) (by with_unfolding_all rfl) 3 (.tmp 153) rfl rfl (run_load1 Try.underlying3 rfl) ?_)
          | (go_at_call 18; with_reducible refine Calls.mono (CC.out _ _ F HTP.out) ?_; rintro e wz ⟨rfl, mz⟩; replace F := F.call mz; clear mz)
          | (go_at_call 18; with_reducible refine Calls.mono (CD.out _ _ F HTQ.out) ?_; rintro e wz ⟨rfl, mz⟩; replace F := F.call mz; clear mz)
          | (go_at_call 20; with_reducible refine Calls.mono (CA.out _ _ F HTP.out) ?_; rintro e wz ⟨rfl, mz⟩; replace F := F.call mz; clear mz)
          | (go_at_call 20; with_reducible refine Calls.mono (CB.out _ _ F HTQ.out) ?_; rintro e wz ⟨rfl, mz⟩; replace F := F.call mz; clear mz)
          | (go_at_call 20; with_reducible refine Calls.mono (CE.out _ _ F HTQ.out) ?_; rintro e wz ⟨rfl, mz⟩; replace F := F.call mz; clear mz)
          | (go_at_call 12; with_reducible refine Calls.mono (kind_c z y x0 _ HK _) ?_; rintro e wz ⟨rfl, mz⟩; replace F := F.call mz; clear mz))
        exact ⟨⟨nn + 1, by go_num, by omega, by omega, Lib.hid ⟨_, F, HTQ.out, HTP.out⟩⟩, by simp [intOf]; omega⟩
      · obtain rfl : true = e := (lde rfl).symm
        clear lde
        go_wp2_with (first
          | (with_reducible refine fm_load F 0 rfl (o := ⟨some _, .load 24 (.tmp 11), _, _, _, _⟩) rfl (.tmp 11) rfl rfl h5q ?_)
          | (with_reducible refine fm_load F 2 rfl (o := ⟨some _, .load 24 (.tmp 7), _, _, _, _⟩) rfl (.tmp 7) rfl rfl h5 ?_)
          | (with_reducible refine fm_loadG F 0 rfl (o := ⟨some _, .load 24 (.tmp 11), _, _, _, _⟩) (by with_unfolding_all rfl) (.tmp 11) rfl rfl h5q ?_)
          | (with_reducible refine fm_loadG F 2 rfl (o := ⟨some _, .load 24 (.tmp 7), _, _, _, _⟩) (by with_unfolding_all rfl) (.tmp 7) rfl rfl h5 ?_)
          | (with_reducible refine fm_load26 F 1 rfl (o := ⟨some _, .load 26 (.tmp 10), _, _, _, _⟩) rfl (.tmp 10) rfl rfl ?_)
          | (with_reducible refine fm_load26G F 1 rfl (o := ⟨some _, .load 26 (.tmp 10), _, _, _, _⟩) (by with_unfolding_all rfl) (.tmp 10) rfl rfl ?_)
          | (with_reducible refine fm_load1G' F 1 2 rfl (ci x0) rfl (o := ⟨some _, .load 3 (.tmp 127), _, _, _, _⟩) (by with_unfolding_all rfl) 3 (.tmp 127) rfl rfl (run_load1 Try.underlying3 rfl) ?_)
          | (with_reducible refine fm_load1G' F 1 2 rfl (ci x0) rfl (o := ⟨some _, .load 3 (.tmp 153), _, _, _, _⟩) (by with_unfolding_all rfl) 3 (.tmp 153) rfl rfl (run_load1 Try.underlying3 rfl) ?_)
          | (go_at_call 18; with_reducible refine Calls.mono (CC.out _ _ F HTP.out) ?_; rintro e wz ⟨rfl, mz⟩; replace F := F.call mz; clear mz)
          | (go_at_call 18; with_reducible refine Calls.mono (CD.out _ _ F HTQ.out) ?_; rintro e wz ⟨rfl, mz⟩; replace F := F.call mz; clear mz)
          | (go_at_call 20; with_reducible refine Calls.mono (CA.out _ _ F HTP.out) ?_; rintro e wz ⟨rfl, mz⟩; replace F := F.call mz; clear mz)
          | (go_at_call 20; with_reducible refine Calls.mono (CB.out _ _ F HTQ.out) ?_; rintro e wz ⟨rfl, mz⟩; replace F := F.call mz; clear mz)
          | (go_at_call 20; with_reducible refine Calls.mono (CE.out _ _ F HTQ.out) ?_; rintro e wz ⟨rfl, mz⟩; replace F := F.call mz; clear mz)
          | (go_at_call 12; with_reducible refine Calls.mono (kind_c z y x0 _ HK _) ?_; rintro e wz ⟨rfl, mz⟩; replace F := F.call mz; clear mz))
        exact ⟨⟨nn + 1, by go_num, by omega, by omega, Lib.hid ⟨_, F, HTQ.out, HTP.out⟩⟩, by simp [intOf]; omega⟩
      · obtain rfl : true = e := (lde rfl).symm
        clear lde
        go_wp2_with (first
          | (with_reducible refine fm_load F 0 rfl (o := ⟨some _, .load 24 (.tmp 11), _, _, _, _⟩) rfl (.tmp 11) rfl rfl h5q ?_)
          | (with_reducible refine fm_load F 2 rfl (o := ⟨some _, .load 24 (.tmp 7), _, _, _, _⟩) rfl (.tmp 7) rfl rfl h5 ?_)
          | (with_reducible refine fm_loadG F 0 rfl (o := ⟨some _, .load 24 (.tmp 11), _, _, _, _⟩) (by with_unfolding_all rfl) (.tmp 11) rfl rfl h5q ?_)
          | (with_reducible refine fm_loadG F 2 rfl (o := ⟨some _, .load 24 (.tmp 7), _, _, _, _⟩) (by with_unfolding_all rfl) (.tmp 7) rfl rfl h5 ?_)
          | (with_reducible refine fm_load26 F 1 rfl (o := ⟨some _, .load 26 (.tmp 10), _, _, _, _⟩) rfl (.tmp 10) rfl rfl ?_)
          | (with_reducible refine fm_load26G F 1 rfl (o := ⟨some _, .load 26 (.tmp 10), _, _, _, _⟩) (by with_unfolding_all rfl) (.tmp 10) rfl rfl ?_)
          | (with_reducible refine fm_load1G' F 1 2 rfl (ci x0) rfl (o := ⟨some _, .load 3 (.tmp 127), _, _, _, _⟩) (by with_unfolding_all rfl) 3 (.tmp 127) rfl rfl (run_load1 Try.underlying3 rfl) ?_)
          | (with_reducible refine fm_load1G' F 1 2 rfl (ci x0) rfl (o := ⟨some _, .load 3 (.tmp 153), _, _, _, _⟩) (by with_unfolding_all rfl) 3 (.tmp 153) rfl rfl (run_load1 Try.underlying3 rfl) ?_)
          | (go_at_call 18; with_reducible refine Calls.mono (CC.out _ _ F HTP.out) ?_; rintro e wz ⟨rfl, mz⟩; replace F := F.call mz; clear mz)
          | (go_at_call 18; with_reducible refine Calls.mono (CD.out _ _ F HTQ.out) ?_; rintro e wz ⟨rfl, mz⟩; replace F := F.call mz; clear mz)
          | (go_at_call 20; with_reducible refine Calls.mono (CA.out _ _ F HTP.out) ?_; rintro e wz ⟨rfl, mz⟩; replace F := F.call mz; clear mz)
          | (go_at_call 20; with_reducible refine Calls.mono (CB.out _ _ F HTQ.out) ?_; rintro e wz ⟨rfl, mz⟩; replace F := F.call mz; clear mz)
          | (go_at_call 20; with_reducible refine Calls.mono (CE.out _ _ F HTQ.out) ?_; rintro e wz ⟨rfl, mz⟩; replace F := F.call mz; clear mz)
          | (go_at_call 12; with_reducible refine Calls.mono (kind_c z y x0 _ HK _) ?_; rintro e wz ⟨rfl, mz⟩; replace F := F.call mz; clear mz))
        exact ⟨⟨nn + 1, by go_num, by omega, by omega, Lib.hid ⟨_, F, HTQ.out, HTP.out⟩⟩, by simp [intOf]; omega⟩
theorem permGoes_w {W : World} {A B : Option Addr} {n c nb cb : Nat} {m : List (Int × Int)} (hA : ActR W A n ∧ n ≤ c ∧ c ≤ maxLen) (hm : BelR W B nb cb m) (own0 : Int) : Calls Try.prog 5 #[ci own0, .slice A n c, .slice B nb cb] W fun e w' => e = .returned (.bool true) ∧ Mod [] W w' :=
  goes_w own0 A n c hA.1 hA.2.1 hA.2.2 B nb cb m hm
end Go.Proofs.Ytaadmpainikfpaa
