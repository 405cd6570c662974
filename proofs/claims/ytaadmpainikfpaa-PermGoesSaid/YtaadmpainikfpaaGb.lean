/-
  PermGoes: the walk. My own work.
-/
import Derived.Test.YtaadmpainikfpaaGa
import Derived.Test.YtaadmpainikfpaaOpc
namespace Go.Proofs.Ytaadmpainikfpaa
open Go.RowKit Go.Shelf
attribute [local go_sem] Oper.semAt_some
set_option linter.unusedVariables false
set_option linter.unusedSimpArgs false
def act3 (z y x : Int) : List Value := [ci z, ci y, ci x]
theorem zero26' (w : World) : (zeroValue 26).run Try.prog w = .ok (.agg [ci 0, ci 0, ci 0].toArray) w := by kernel_rfl
theorem exec_fp24_1 {o : Oper} {x : Operand} {ρ : Operand → Value} {v : World} {g : Nat} (ho : o.op = .fieldAddr 24 x 1) (hx : ρ x = .pointer (some ⟨g, 0, none⟩)) : (execOp ρ o).run Try.prog v = .ok (.value (.pointer (some ⟨g, 1, none⟩))) v := by
  unfold execOp
  simp [ho, hx, go_sem]
theorem size26o (z y x : Int) : (Try.prog.info? 26).map (·.size) = some [ci z, ci y, ci x].length := by kernel_rfl
section
variable {w0 w : World} {os ts : List Th} {ops : Array Oper} {rest : List Oper} {o : Oper} {a : Act} {Q : Exit → Act → World → Prop} {z y x : Int}
theorem fm_load26 (F : Fm w0 w os ts) (i : Nat) {b : Nat} (hi : os[i]? = some (oB b 26 [ci z, ci y, ci x])) (hgd : o.guard = none) (X : Operand) (ho : o.op = .load 26 X) (hx : a.eval X = .pointer (some ⟨b, 0, none⟩))
    (h : wpList Try.prog ops Q rest (a.put o.dst (.agg #[ci z, ci y, ci x])) w) : wpList Try.prog ops Q (o :: rest) a w :=
  wpList_loads hgd 26 X ho b 0 [ci z, ci y, ci x] hx (Cells.of_holds (F.blk i hi)) _ Try.underlying26 rfl (size26o z y x) _ rfl h
theorem fm_load26G (F : Fm w0 w os ts) (i : Nat) {b : Nat} (hi : os[i]? = some (oB b 26 [ci z, ci y, ci x])) (hw : Region.wanted o (yielded ops a.tmps) = true) (X : Operand) (ho : o.op = .load 26 X) (hx : a.eval X = .pointer (some ⟨b, 0, none⟩))
    (h : wpList Try.prog ops Q rest (a.put o.dst (.agg #[ci z, ci y, ci x])) w) : wpList Try.prog ops Q (o :: rest) a w :=
  fm_ranW hw _ w (exec_load ho hx (run_loads (Cells.of_holds (F.blk i hi)) Try.underlying26 rfl (size26o z y x))) h
theorem fm_store26 (F : Fm w0 w os ts) (i : Nat) {b : Nat} {z0 y0 x0 : Int} (hi : os[i]? = some (oB b 26 [ci z0, ci y0, ci x0])) (hgd : o.guard = none) (X Y : Operand) (ho : o.op = .store 26 X Y) (hdst : o.dst = none) (hx : a.eval X = .pointer (some ⟨b, 0, none⟩)) (hy : a.eval Y = .agg #[ci z, ci y, ci x])
    (h : ∀ v, Fm w0 v (os.set i (oB b 26 [ci z, ci y, ci x])) ts → wpList Try.prog ops Q rest a v) : wpList Try.prog ops Q (o :: rest) a w :=
  wpList_storesAll hgd 26 X Y ho hdst b [ci z, ci y, ci x] hx _ hy rfl 26 [ci z0, ci y0, ci x0] (F.blk i hi) rfl (by intro v hv; simp only [List.mem_cons, List.not_mem_nil, or_false] at hv; rcases hv with rfl | rfl | rfl <;> rfl) (size26o z y x) fun v hv m zz => h v (F.turn m i hi (fun g hg => List.mem_singleton.1 hg) _ (keeps_oB _ _ _) hv fun g hg => ⟨.inl hg, by have : g = b := hg; have := hv.lt; omega⟩)
end
theorem Fm.only {w0 w : World} {os ts : List Th} (F : Fm w0 w os ts) (i j : Nat) {x y : Th} (hi : os[i]? = some x) (hj : ts[j]? = some y) : Fm w0 w [x] [y] := by
  obtain ⟨h1, e1⟩ := List.getElem?_eq_some_iff.1 hi
  obtain ⟨h2, e2⟩ := List.getElem?_eq_some_iff.1 hj
  have hx : x ∈ os := by rw [← e1]; exact List.getElem_mem h1
  have hy : y ∈ ts := by rw [← e2]; exact List.getElem_mem h2
  refine ⟨F.m, fun u hu => ?_, fun u hu => ?_, List.pairwise_singleton _ _, fun u hu v hv => ?_⟩
  · simp only [List.mem_singleton] at hu
    rcases hu with rfl | rfl
    · exact F.k _ (.inl hx)
    · exact F.k _ (.inr hy)
  · obtain rfl := List.mem_singleton.1 hu
    exact F.lo _ hx
  · obtain rfl := List.mem_singleton.1 hu
    obtain rfl := List.mem_singleton.1 hv
    exact F.e _ hx _ hy
theorem Fm.onlyM {w0 w : World} {os ts : List Th} (F : Fm w0 w os ts) {x y : Th} (hx : x ∈ os) (hy : y ∈ ts) : Fm w0 w [x] [y] := by
  obtain ⟨i, hi, rfl⟩ := List.getElem_of_mem hx
  obtain ⟨j, hj, rfl⟩ := List.getElem_of_mem hy
  exact F.only i j (List.getElem?_eq_getElem hi) (List.getElem?_eq_getElem hj)
theorem PIs.c0 {w : World} {S : Nat → Prop} {p : Pm} {cs : List Value} (h : PIs w S p cs) : cs[0]? = some (ci p.own) := by obtain ⟨A1, c1, A2, c2, A3, c3, rfl, h⟩ := h; rfl
theorem PIs.c1 {w : World} {S : Nat → Prop} {p : Pm} {cs : List Value} (h : PIs w S p cs) : cs[1]? = some (ci p.ep) := by obtain ⟨A1, c1, A2, c2, A3, c3, rfl, h⟩ := h; rfl
theorem BelR.none (w : World) : BelR w Option.none 0 0 [] := ⟨rfl, Nat.le_refl _, by omega, Cells.nil _ _, fun a h => (by cases h)⟩
/-- The permissions that stand at b. -/
def PGo (w v : World) (b : Nat) (p : Pm) : Prop := ∃ cs S, Fm w v [oB b 24 cs] [tP S p cs]
structure Kept (P : Prop) : Prop where
  out : P
structure Parts (X : Prop) where
  k2 : Prop
  k4 : Prop
  k5 : Prop
  no : Prop
  all : Kept k2 → Kept k4 → Kept k5 → Kept no → X
set_option maxRecDepth 100000 in
set_option maxHeartbeats 40000000 in
def goesP : Parts (∀ (w : World) (own0 : Int) (A : Option Addr) (n c : Nat) (hA : ActR w A n) (hcn : n ≤ c) (hc9 : c ≤ maxLen) (B : Option Addr) (nb cb : Nat) (m : List (Int × Int)) (hm : BelR w B nb cb m), Calls Try.prog 5 #[ci own0, .slice A n c, .slice B nb cb] w fun e w' => e = .returned (.bool true) ∧ Mod [] w w') := by
  apply Parts.mk
  case all =>
  intro Hk2 Hk4 Hk5 Hno
  intro w own0 A n c hA hcn hc9 B nb cb m hm
  have FA := Fm.nil w
  have hcap := hm.cap
  have hbig := hm.big
  have HM := Lib.hid hm
  have HA := Lib.hid hA
  have hc8 : c ≤ 9223372036854775807 := by unfold maxLen at hc9; omega
  clear hm hA hc9
  obtain ⟨mx, hmx⟩ : ∃ x : Int, x = max own0 0 := ⟨_, rfl⟩
  have hmx0 : 0 ≤ mx := by omega
  obtain ⟨o, ho⟩ : ∃ o, o = mx.tmod 6 + 1 := ⟨_, rfl⟩
  have ho1 : 1 ≤ o ∧ o ≤ 6 := by
    rw [ho, Int.tmod_eq_emod_of_nonneg hmx0]
    omega
  have NW : Hid (∀ v, Calls Try.prog 14 #[ci o] v (ResR (0, ⟨o, 1, [], [], []⟩) v)) := Lib.hid fun v => by
    have h := new_c o v
    have f : newR o = (0, ⟨o, 1, [], [], []⟩) := by
      unfold newR upTo
      rw [decide_eq_true ho1.1, decide_eq_true ho1.2]
      rfl
    rw [f] at h
    exact h
  have HR0 : Hid ((Pm.mk o 1 [] [] []).Right) := Lib.hid (new_right ho1.1 ho1.2)
  have MX : ∀ (v : World) (ρ : Operand → Value) {op : Oper} {x y : Operand}, op.op = .call { callee := .builtin .max, args := #[x, y], argTypes := #[3, 3] } → ρ x = .int .i64 own0 → ρ y = .int .i64 0 → (execOp ρ op).run Try.prog v = .ok (.value (.int .i64 mx)) v := fun v ρ op x y h1 hx hy => by
    unfold execOp
    simp [h1, hx, hy, go_sem, hmx]
  have RM : ∀ (v : World) (ρ : Operand → Value) {op : Oper} {x y : Operand}, op.op = .binOp .rem 3 x y 3 → ρ x = .int .i64 mx → ρ y = .int .i64 6 → (execOp ρ op).run Try.prog v = .ok (.value (.int .i64 (mx.tmod 6))) v := fun v ρ op x y h1 hx hy => by
    unfold execOp
    simp [h1, hx, hy, go_sem]
  obtain ⟨md, hmd⟩ : ∃ d, d = mx.tmod 6 := ⟨_, rfl⟩
  rw [← hmd] at ho RM
  have AD : ∀ (v : World) (ρ : Operand → Value) {op : Oper} {x y : Operand}, op.op = .binOp .add 3 x y 3 → ρ x = .int .i64 md → ρ y = .int .i64 1 → (execOp ρ op).run Try.prog v = .ok (.value (.int .i64 o)) v := fun v ρ op x y h1 hx hy => by
    subst ho
    exact exec_add h1 hx hy (by rw [IntKind.wrap_i64]; omega)
  have HMX := Lib.hid MX
  have HRM := Lib.hid RM
  have HAD := Lib.hid AD
  clear hmx ho ho1 hmx0 hmd MX RM AD
  by_cases g : 100 < nb
  case pos =>
    have dg : decide (100 < (nb : Int)) = true := decide_eq_true (by omega)
    go_enter Try.func5, Try.ntmps5
    go_wp2_with (first
      | (go_at_call 7; refine (wakes_c w).mono ?_; rintro e w1 ⟨rfl, m1⟩; have F1 := FA.call m1; clear FA m1))
    go_ret
    exact ⟨rfl, F1.m⟩
  have dg : decide (100 < (nb : Int)) = false := decide_eq_false (by omega)
  go_enter Try.func5, Try.ntmps5
  go_wp2_with (first
    | (go_at_call 7; refine (wakes_c w).mono ?_; rintro e w1 ⟨rfl, m1⟩; have F1 := FA.call m1; clear FA m1)
    | (with_reducible refine wpList_ran (o := ⟨some 22, _, _, _, _, _⟩) rfl (.int .i64 mx) (HMX.out _ _ rfl rfl rfl) ?_)
    | (with_reducible refine wpList_ran (o := ⟨some 23, _, _, _, _, _⟩) rfl (.int .i64 md) (HRM.out _ _ rfl rfl rfl) ?_)
    | (with_reducible refine wpList_ran (o := ⟨some 24, _, _, _, _, _⟩) rfl (.int .i64 o) (HAD.out _ _ rfl rfl rfl) ?_)
    | (go_at_call 14; refine (NW.out w1).mono ?_
       rintro e w2 ⟨cs2, rfl, hP2, m2⟩
       have F2 := (F1.put m2 (tP _ _ cs2) (keeps_tP _ _ _) hP2 (fun g hg => .inl hg))
       have h52 := hP2.len
       have h12 := hP2.one
       clear F1 m2 hP2)
    | (with_reducible refine fm_alloc F2 (o := ⟨some 7, .alloc 24, _, _, _, _⟩) rfl 24 rfl _ zero24 ?_; intro b7 w3 F3; clear F2)
    | (with_reducible refine fm_store F3 0 rfl (o := ⟨none, .store 24 (.tmp 7) (.tmp 26), _, _, _, _⟩) rfl (.tmp 7) (.tmp 26) rfl rfl cs2 rfl rfl h52 rfl h12 ?_; intro w4 F4; clear F3))
  have K0 : Hid (PGo w w4 b7 ⟨o, 1, [], [], []⟩) := Lib.hid ⟨_, _, F4⟩
  clear F4 HMX HRM HAD NW h52 h12
  go_loopw [32] (fun i wr => ∃ (j : Nat) (p : Pm), i = .int .i64 j ∧ j ≤ n ∧ Hid (p.Right) ∧ Hid (PGo w wr b7 p)) (fun i _ => n - (intOf i).toNat)
  case atStart => exact ⟨0, _, rfl, Nat.zero_le _, HR0, K0⟩
  case round =>
  obtain ⟨j, p, rfl, hj, hR, hk⟩ := hrel
  clear HR0 K0
  by_cases hjn : j < n
  case neg =>
    obtain ⟨cs, S, F0⟩ := hk.out
    go_wp2_with fail
    go_ret
    exact ⟨rfl, F0.m⟩
  obtain ⟨cs, S, F0⟩ := hk.out
  obtain ⟨ga, fa, z, y, x0, hAe, hc3⟩ := (HA.out.call F0.m) j hjn
  subst hAe
  have HC3 := Lib.hid hc3
  have h5 := (F0.s 0 rfl : PIs wr S p cs).len
  clear hk hc3
  by_cases h40 : j = 40
  case pos =>
    have e40 : ((j : Int) == 40) = true := beq_iff_eq.2 (by omega)
    clear h40
    go_wp2_with (first
      | (with_reducible refine wpList_loads (o := ⟨some 36, .load 26 (.tmp 35), _, _, _, _⟩) rfl 26 (.tmp 35) rfl ga (fa + j * 3) [ci z, ci y, ci x0] rfl HC3.out _ Try.underlying26 rfl (size26o z y x0) _ rfl ?_)
      | (with_reducible refine fm_alloc F0 (o := ⟨some 10, .alloc 26, _, _, _, _⟩) rfl 26 rfl _ zero26' ?_; intro b10 wa Fa; clear F0)
      | (with_reducible refine fm_store26 Fa 0 rfl (o := ⟨none, .store 26 (.tmp 10) (.tmp 36), _, _, _, _⟩) rfl (.tmp 10) (.tmp 36) rfl rfl rfl rfl ?_; intro wb F; clear Fa))
    go_ret
    exact ⟨rfl, F.m⟩
  have e40 : ((j : Int) == 40) = false := beq_eq_false_iff_ne.2 (by omega)
  clear h40
  obtain ⟨k, hkk⟩ : ∃ k, z.emod 6 = k := ⟨_, rfl⟩
  have HK := Lib.hid hkk
  have hk0 : 0 ≤ k ∧ k < 6 := by
    have h0 := Int.emod_nonneg z (show (6 : Int) ≠ 0 by omega)
    have h6 := Int.emod_lt_of_pos z (show (0 : Int) < 6 by omega)
    have hk2 : z % 6 = k := hkk
    omega
  have DO : Hid (∀ v, PIs v S p cs → (∀ g, S g → g < v.heap.size) → Calls Try.prog 9 #[.agg cs.toArray, .agg #[ci z, ci y, ci x0]] v (ResR (chg k p y x0) v)) := Lib.hid fun v hp hs => do_p hp hs z y x0 k HK
  obtain ⟨r, hr⟩ : ∃ r, chg k p y x0 = r := ⟨_, rfl⟩
  have hz : r.1 ≠ 0 → r.2 = zp := by rw [← hr]; exact chg_zp
  have hgo : r.1 = 0 → Goes k x0 p r.2 := fun h0 => chg_goes hk0.1 hk0.2 (by rw [hr]; exact Prod.ext h0 rfl)
  rw [hr] at DO
  obtain ⟨r1, q⟩ := r
  simp only at hz hgo
  have HZ := Lib.hid hz
  have HGO := Lib.hid hgo
  have HK0 := Lib.hid hk0
  clear hkk hk0 hr hz hgo
  by_cases hr1 : r1 = 0
  case neg =>
    have e1 : (r1 == 0) = false := beq_eq_false_iff_ne.2 hr1
    have hq := HZ.out hr1
    subst hq
    have HB : Hid (zp.rightB = false) := Lib.hid (by decide)
    clear hr1
    go_wp2_with (first
      | (with_reducible refine wpList_loads (o := ⟨some 36, .load 26 (.tmp 35), _, _, _, _⟩) rfl 26 (.tmp 35) rfl ga (fa + j * 3) [ci z, ci y, ci x0] rfl HC3.out _ Try.underlying26 rfl (size26o z y x0) _ rfl ?_)
      | (with_reducible refine fm_alloc F0 (o := ⟨some 10, .alloc 26, _, _, _, _⟩) rfl 26 rfl _ zero26' ?_; intro b10 wa Fa; clear F0)
      | (with_reducible refine fm_store26 Fa 0 rfl (o := ⟨none, .store 26 (.tmp 10) (.tmp 36), _, _, _, _⟩) rfl (.tmp 10) (.tmp 36) rfl rfl rfl rfl ?_; intro wb F; clear Fa)
      | (with_reducible refine fm_load F 1 rfl (o := ⟨some 40, .load 24 (.tmp 7), _, _, _, _⟩) rfl (.tmp 7) rfl rfl h5 ?_)
      | (with_reducible refine fm_load26 F 0 rfl (o := ⟨some 41, .load 26 (.tmp 10), _, _, _, _⟩) rfl (.tmp 10) rfl rfl ?_)
      | (go_at_call 9; refine (DO.out _ (F.s 0 rfl) (F.slt 0 rfl)).mono ?_
         rintro e wc ⟨ds, rfl, hP2, m2⟩
         have F2 := (F.put m2 (tP _ _ ds) (keeps_tP _ _ _) hP2 (fun g hg => .inl hg))
         have h5q := hP2.len
         have h1q := hP2.one
         clear F m2 hP2)
      | (with_reducible refine fm_alloc F2 (o := ⟨some 11, .alloc 24, _, _, _, _⟩) rfl 24 rfl _ zero24 ?_; intro b11 wd F3; clear F2)
      | (with_reducible refine fm_store F3 0 rfl (o := ⟨none, .store 24 (.tmp 11) (.tmp 43), _, _, _, _⟩) rfl (.tmp 11) (.tmp 43) rfl rfl ds rfl rfl h5q rfl h1q ?_; intro we F; clear F3)
      | (with_reducible refine fm_load F 0 rfl (o := ⟨some 47, .load 24 (.tmp 11), _, _, _, _⟩) rfl (.tmp 11) rfl rfl h5q ?_)
      | (go_at_call 15; refine (check_p (F.s 0 rfl) _ HB).mono ?_; rintro e wf ⟨rfl, mf⟩; have F4 := F.call mf; clear F mf))
    exact ⟨⟨j + 1, p, by go_num, by omega, hR, Lib.hid ⟨cs, S, (F4.only 2 1 rfl rfl)⟩⟩, by simp [intOf]; omega⟩
  subst hr1
  have hG := HGO.out rfl
  have HG := Lib.hid hG
  clear HZ HGO hG
  have e1 : ((0 : Int) == 0) = true := rfl
  by_cases kck2 : k = 2
  case pos =>
    rename_i Qx Kx ax
    revert w own0 n c hcn B nb cb m hcap hbig HM hc8 mx o md g dg Qx w1 w2 cs2 b7 w3 w4 Kx ax wr u6 u9 u10 u11 u12 u13 u14 u33 u34 u35 u36 u37 u38 u39 u40 u41 u42 u43 u44 u45 u46 u47 u48 u49 u50 u51 u52 u53 u54 u55 u56 u57 u58 u59 u60 u61 u62 u63 u64 u65 u66 u67 u68 u69 u70 u71 u72 u73 u74 u75 u76 u77 u78 u79 u80 u81 u82 u83 u84 u85 u86 u87 u88 u89 u90 u91 u92 u93 u94 u95 u96 u97 u98 u99 u100 u101 u102 u103 u104 u105 u106 u107 u108 u109 u110 u111 u112 u113 u114 u115 u116 u117 u118 u119 u120 u121 u122 u123 u124 u125 u126 u127 u128 u129 u130 u131 u132 u133 u134 u135 u136 u137 u138 u139 u140 u141 u142 u143 u144 u145 u146 u147 u148 u149 u150 u151 u152 u153 u154 u155 u156 u157 u158 u159 u160 u161 u162 u163 u164 u165 u166 u167 u168 u169 u170 u171 u172 u173 u174 u175 u176 u177 u178 u179 u180 u181 u182 u183 u184 u185 j p hj hR hjn cs S F0 ga fa z y x0 HA HC3 h5 e40 k HK q HK0 DO HG e1 kck2
    exact Hk2.out
  have c2 : (k == 2) = false := beq_eq_false_iff_ne.2 kck2
  by_cases kck4 : k = 4
  case pos =>
    rename_i Qx Kx ax
    revert w own0 n c hcn B nb cb m hcap hbig HM hc8 mx o md g dg Qx w1 w2 cs2 b7 w3 w4 Kx ax wr u6 u9 u10 u11 u12 u13 u14 u33 u34 u35 u36 u37 u38 u39 u40 u41 u42 u43 u44 u45 u46 u47 u48 u49 u50 u51 u52 u53 u54 u55 u56 u57 u58 u59 u60 u61 u62 u63 u64 u65 u66 u67 u68 u69 u70 u71 u72 u73 u74 u75 u76 u77 u78 u79 u80 u81 u82 u83 u84 u85 u86 u87 u88 u89 u90 u91 u92 u93 u94 u95 u96 u97 u98 u99 u100 u101 u102 u103 u104 u105 u106 u107 u108 u109 u110 u111 u112 u113 u114 u115 u116 u117 u118 u119 u120 u121 u122 u123 u124 u125 u126 u127 u128 u129 u130 u131 u132 u133 u134 u135 u136 u137 u138 u139 u140 u141 u142 u143 u144 u145 u146 u147 u148 u149 u150 u151 u152 u153 u154 u155 u156 u157 u158 u159 u160 u161 u162 u163 u164 u165 u166 u167 u168 u169 u170 u171 u172 u173 u174 u175 u176 u177 u178 u179 u180 u181 u182 u183 u184 u185 j p hj hR hjn cs S F0 ga fa z y x0 HA HC3 h5 e40 k HK q HK0 DO HG e1 kck2 c2 kck4
    exact Hk4.out
  have c4 : (k == 4) = false := beq_eq_false_iff_ne.2 kck4
  by_cases kck5 : k = 5
  case pos =>
    rename_i Qx Kx ax
    revert w own0 n c hcn B nb cb m hcap hbig HM hc8 mx o md g dg Qx w1 w2 cs2 b7 w3 w4 Kx ax wr u6 u9 u10 u11 u12 u13 u14 u33 u34 u35 u36 u37 u38 u39 u40 u41 u42 u43 u44 u45 u46 u47 u48 u49 u50 u51 u52 u53 u54 u55 u56 u57 u58 u59 u60 u61 u62 u63 u64 u65 u66 u67 u68 u69 u70 u71 u72 u73 u74 u75 u76 u77 u78 u79 u80 u81 u82 u83 u84 u85 u86 u87 u88 u89 u90 u91 u92 u93 u94 u95 u96 u97 u98 u99 u100 u101 u102 u103 u104 u105 u106 u107 u108 u109 u110 u111 u112 u113 u114 u115 u116 u117 u118 u119 u120 u121 u122 u123 u124 u125 u126 u127 u128 u129 u130 u131 u132 u133 u134 u135 u136 u137 u138 u139 u140 u141 u142 u143 u144 u145 u146 u147 u148 u149 u150 u151 u152 u153 u154 u155 u156 u157 u158 u159 u160 u161 u162 u163 u164 u165 u166 u167 u168 u169 u170 u171 u172 u173 u174 u175 u176 u177 u178 u179 u180 u181 u182 u183 u184 u185 j p hj hR hjn cs S F0 ga fa z y x0 HA HC3 h5 e40 k HK q HK0 DO HG e1 kck2 c2 kck4 c4 kck5
    exact Hk5.out
  have c5 : (k == 5) = false := beq_eq_false_iff_ne.2 kck5
  rename_i Qx Kx ax
  revert w own0 n c hcn B nb cb m hcap hbig HM hc8 mx o md g dg Qx w1 w2 cs2 b7 w3 w4 Kx ax wr u6 u9 u10 u11 u12 u13 u14 u33 u34 u35 u36 u37 u38 u39 u40 u41 u42 u43 u44 u45 u46 u47 u48 u49 u50 u51 u52 u53 u54 u55 u56 u57 u58 u59 u60 u61 u62 u63 u64 u65 u66 u67 u68 u69 u70 u71 u72 u73 u74 u75 u76 u77 u78 u79 u80 u81 u82 u83 u84 u85 u86 u87 u88 u89 u90 u91 u92 u93 u94 u95 u96 u97 u98 u99 u100 u101 u102 u103 u104 u105 u106 u107 u108 u109 u110 u111 u112 u113 u114 u115 u116 u117 u118 u119 u120 u121 u122 u123 u124 u125 u126 u127 u128 u129 u130 u131 u132 u133 u134 u135 u136 u137 u138 u139 u140 u141 u142 u143 u144 u145 u146 u147 u148 u149 u150 u151 u152 u153 u154 u155 u156 u157 u158 u159 u160 u161 u162 u163 u164 u165 u166 u167 u168 u169 u170 u171 u172 u173 u174 u175 u176 u177 u178 u179 u180 u181 u182 u183 u184 u185 j p hj hR hjn cs S F0 ga fa z y x0 HA HC3 h5 e40 k HK q HK0 DO HG e1 kck2 c2 kck4 c4 kck5 c5
  exact Hno.out
end Go.Proofs.Ytaadmpainikfpaa
