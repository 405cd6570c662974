/-
  The statements' own helpers: ought, what the document's disk comes to. Contracts of mine.
-/
import Derived.Test.YtpdpahkhfilmpaaWra
namespace Go.Proofs.Ytpdpahkhfilmpaa
open Go.RowKit
theorem askr0_c (R : RSt) (A : Option Addr) (c : Nat) (i : Int) (b : Blk) (w : World) (hT : Told w R A c) (hF : Fine R 1099511627775) : Calls Try.prog 52 #[rv R A c, .int .i64 0, .int .i64 i, bv b] w (AskPost w (R.ask 0 i b)) := ask_c R A c 0 i b w hT (by omega) hF
theorem askr1_c (R : RSt) (A : Option Addr) (c : Nat) (i : Int) (b : Blk) (w : World) (hT : Told w R A c) (hF : Fine R 1099511627775) : Calls Try.prog 52 #[rv R A c, .int .i64 1, .int .i64 i, bv b] w (AskPost w (R.ask 1 i b)) := ask_c R A c 1 i b w hT (by omega) hF
theorem askr2_c (R : RSt) (A : Option Addr) (c : Nat) (i : Int) (b : Blk) (w : World) (hT : Told w R A c) (hF : Fine R 1099511627775) : Calls Try.prog 52 #[rv R A c, .int .i64 2, .int .i64 i, bv b] w (AskPost w (R.ask 2 i b)) := ask_c R A c 2 i b w hT (by omega) hF
theorem exec_max {P : Program} {v : World} {o : Oper} {ρ : Operand → Value} {x y : Operand} {a b : Int} (ho : o.op = .call { callee := .builtin .max, args := #[x, y], argTypes := #[3, 3] }) (hx : ρ x = .int .i64 a) (hy : ρ y = .int .i64 b) : (execOp ρ o).run P v = .ok (.value (.int .i64 (max a b))) v := by
  unfold execOp
  simp [ho, hx, hy, go_sem]
  by_cases h : a < b
  · simp [h, Int.max_eq_right (Int.le_of_lt h)]
  · simp [h, Int.max_eq_left (Int.not_lt.1 h)]
theorem exec_extract0 {P : Program} {v : World} {o : Oper} {ρ : Operand → Value} {x : Operand} {X Y : Value} (ho : o.op = .extract x 0) (hx : ρ x = .tuple #[X, Y]) : (execOp ρ o).run P v = .ok (.value X) v := by
  unfold execOp
  simp [ho, hx, go_sem]
theorem exec_extract1 {P : Program} {v : World} {o : Oper} {ρ : Operand → Value} {x : Operand} {X Y : Value} (ho : o.op = .extract x 1) (hx : ρ x = .tuple #[X, Y]) : (execOp ρ o).run P v = .ok (.value Y) v := by
  unfold execOp
  simp [ho, hx, go_sem]
theorem exec_call4 {P : Program} {v : World} {o : Oper} {ρ : Operand → Value} {f : FuncId} {x y z u : Operand} {X Y Z U : Value} {ts : Array TypeId} (ho : o.op = .call { callee := .value (.func f), args := #[x, y, z, u], argTypes := ts }) (hf : ρ (.func f) = .func (.func f) #[] #[]) (hx : ρ x = X) (hy : ρ y = Y) (hz : ρ z = Z) (hu : ρ u = U) (he : ∀ args w, (callFunc f args).run P w = .ok (.enter f args) w) : (execOp ρ o).run P v = .ok (.enter f #[X, Y, Z, U]) v := by
  unfold execOp
  simp [ho, hf, hx, hy, hz, hu, he, go_sem]
def OughtPost (w : World) (r : Blk × Int × RSt) (e : Ending) (w' : World) : Prop := ∃ A' c', e = .returned (.tuple #[rv r.2.2 A' c', bv r.1, .int .i64 r.2.1]) ∧ Told w' r.2.2 A' c' ∧ Mod [] w w'
theorem results_cct {P : Program} {fn : Func} {p q r : Tmp} {ty ty' : TypeId} (h : fn.results = #[.cell p ty, .cell q ty', .tmp r]) (tmps : Array Value) (w : World) (g g' : Nat) (cs cs' : List Value) (y : Value) (d d' : TypeDesc)
    (hp : tmps[p]? = some (.pointer (some ⟨g, 0, none⟩))) (hq : tmps[q]? = some (.pointer (some ⟨g', 0, none⟩))) (hr : tmps[r]? = some y) (hc : Cells w (some ⟨g, 0, none⟩) cs) (hc' : Cells w (some ⟨g', 0, none⟩) cs')
    (hu : P.underlying ty = some d) (hd : (match d with | .struct _ | .array _ _ => true | _ => false) = true) (hi : (P.info? ty).map (·.size) = some cs.length)
    (hu' : P.underlying ty' = some d') (hd' : (match d' with | .struct _ | .array _ _ => true | _ => false) = true) (hi' : (P.info? ty').map (·.size) = some cs'.length) :
    (results fn tmps).run P w = .ok (.tuple #[.agg cs.toArray, .agg cs'.toArray, y]) w := by
  simp [results, h, hp, hq, hr, asAddr, run_loads hc hu hd hi, run_loads hc' hu' hd' hi']
def OSt (w0 : World) (g4 g5 : Nat) (C : List Value) (B : Blk) (b3 b4 : Bool) (v : World) : Prop :=
  Mod [g4, g5] w0 v ∧ (∃ C0 : List Value, C0.length = 7 ∧ Holds v g4 30 C0) ∧ (b3 = true → Holds v g4 30 C) ∧ (∃ B0 : Blk, Holds v g5 39 (bc B0)) ∧ (b4 = true → Holds v g5 39 (bc B))

set_option maxRecDepth 1000000 in
set_option maxHeartbeats 4000000 in
theorem ought0_c (R : RSt) (A : Option Addr) (c : Nat) (kd : Int) (a : Ac) (K : Option Addr) (ck : Nat) (w : World) (hT : Told w R A c) (hF : Fine R 1099511627774) (hk : a.kind = ((IntKind.u64.wrap kd) % 7).toNat) (h3 : a.kind = 0) :
    Calls Try.prog 38 #[rv R A c, .agg (dv kd a K ck).toArray] w (OughtPost w (let r := R.ask 0 a.at_ (fil 0); (if r.2 = 0 then r.1.holds a.at_ else fil 0, r.2, r.1))) := by
  have hkz : (a.kind : Int) = 0 := by omega
  obtain ⟨R1, hR1⟩ : ∃ R1, R1 = (R.ask 0 a.at_ (fil 0)).1 := ⟨_, rfl⟩
  obtain ⟨E1, hE1⟩ : ∃ E1, E1 = (R.ask 0 a.at_ (fil 0)).2 := ⟨_, rfl⟩
  have he : R.ask 0 a.at_ (fil 0) = (R1, E1) := by rw [hR1, hE1]
  have XA := fun v (h : Told v R A c) => askr0_c R A c a.at_ (fil 0) v h (hF.wk (by omega))
  rw [he] at XA ⊢
  have hF1 : Fine R1 1099511627776 := by rw [hR1]; exact (hF.ask 0 a.at_ (fil 0)).wk (by omega)
  clear hR1 hE1 he hF h3
  have HF1 := Lib.hid hF1
  clear hF1
  show Calls Try.prog 38 #[rv R A c, .agg (dv kd a K ck).toArray] w (OughtPost w (if E1 = 0 then R1.holds a.at_ else fil 0, E1, R1))
  obtain ⟨B1, hB1⟩ : ∃ B1, B1 = (if E1 = 0 then R1.holds a.at_ else fil 0) := ⟨_, rfl⟩
  rw [← hB1]
  have HB := Lib.hid hB1
  clear hB1
  go_enter Try.func38, Try.ntmps38
  go_wp2_with (first
    | (with_reducible refine wpList_boxes (o := ⟨some 2, .box 30 (.tmp 0), _, _, _, _⟩) rfl 30 (.tmp 0) rfl _ rfl (rc R A c) rfl ?_; intro w1 hb1 m1 z1; replace z1 := Lib.hid z1)
    | (with_reducible refine wpList_boxes (o := ⟨some 3, .box 49 (.tmp 1), _, _, _, _⟩) rfl 49 (.tmp 1) rfl _ rfl (dv kd a K ck) rfl ?_; intro w2 hb2 m2 z2; replace z2 := Lib.hid z2; replace hb1 := hb1.keep m2 (by simp))
    | (with_reducible refine wpList_allocs (o := ⟨some 4, .alloc 30, _, _, _, _⟩) rfl 30 rfl _ zero30 ?_; intro w3 hb3 m3 z3; replace z3 := Lib.hid z3; replace hb1 := hb1.keep m3 (by simp); replace hb2 := hb2.keep m3 (by simp))
    | (with_reducible refine wpList_allocs (o := ⟨some 5, .alloc 39, _, _, _, _⟩) rfl 39 rfl _ zero39 ?_; intro w4 hb4 m4 z4; replace z4 := Lib.hid z4; replace hb1 := hb1.keep m4 (by simp); replace hb2 := hb2.keep m4 (by simp); replace hb3 := hb3.keep m4 (by simp))
    | (with_reducible refine wpList_allocs (o := ⟨some 7, .alloc 39, _, _, _, _⟩) rfl 39 rfl _ zero39 ?_; intro w5 hb5 m5 z5; replace z5 := Lib.hid z5; replace hb1 := hb1.keep m5 (by simp); replace hb2 := hb2.keep m5 (by simp); replace hb3 := hb3.keep m5 (by simp); replace hb4 := hb4.keep m5 (by simp))
    | (with_reducible refine wpList_loads (o := ⟨some 9, .load 49 (.tmp 3), _, _, _, _⟩) rfl 49 (.tmp 3) rfl w1.heap.size 0 _ rfl (Cells.of_holds hb2) _ Try.underlying49 rfl (by rw [dv_length]; exact size49) (.agg (dv kd a K ck).toArray) rfl ?_))
  refine (kind_c kd a K ck _ hk).mono ?_
  rintro e wk ⟨rfl, mk⟩
  have mm : Mod [] w wk := ((((m1.then m2).then m3).then m4).then m5).then mk
  have h2 := hb1.keep mk (by simp)
  have h3 := hb2.keep mk (by simp)
  have h4 := hb3.keep mk (by simp)
  have h5 := hb4.keep mk (by simp)
  have h7 := hb5.keep mk (by simp)
  obtain ⟨g2, e2⟩ : ∃ b, b = w.heap.size := ⟨_, rfl⟩
  obtain ⟨g3, e3⟩ : ∃ b, b = w1.heap.size := ⟨_, rfl⟩
  obtain ⟨g4, e4⟩ : ∃ b, b = w2.heap.size := ⟨_, rfl⟩
  obtain ⟨g5, e5⟩ : ∃ b, b = w3.heap.size := ⟨_, rfl⟩
  obtain ⟨g7, e7⟩ : ∃ b, b = w4.heap.size := ⟨_, rfl⟩
  have HG := Lib.hid (show w.heap.size ≤ g2 ∧ g2 < g3 ∧ g3 < g4 ∧ g4 < g5 ∧ g5 < g7 by have := z1.out; have := z2.out; have := z3.out; have := z4.out; omega)
  rw [← e2] at h2
  rw [← e3] at h3
  rw [← e4] at h4
  rw [← e5] at h5
  rw [← e7] at h7
  rw [← e2, ← e3, ← e4, ← e5, ← e7]
  clear e2 e3 e4 e5 e7 hb1 hb2 hb3 hb4 hb5 m1 m2 m3 m4 m5 mk z1 z2 z3 z4 z5
  have k1 := h3.cell 1
  have k2 := h3.cell 2
  have k3 := h3.cell 3
  have k4 := h3.cell 4
  simp only [dv, List.getElem?_cons_succ, List.getElem?_cons_zero] at k1 k2 k3 k4
  replace hT := hT.keep mm (by simp)
  rw [hkz]
  clear hk hkz
  clear k2 k3 k4
  by_cases hE : E1 = 0
  · subst hE
    have hB1 : B1 = R1.holds a.at_ := HB.out.trans (if_pos rfl)
    have XH := fun v A1 c1 (h : Told v R1 A1 c1) => rholds_c R1 A1 c1 a.at_ v h HF1.out.long
    rw [← hB1] at XH
    clear hB1
    go_wp2_with (first
      | (with_reducible refine wpList_loads (o := ⟨some 14, .load 30 (.tmp 2), _, _, _, _⟩) rfl 30 (.tmp 2) rfl g2 0 _ rfl (Cells.of_holds h2) _ Try.underlying30 rfl (size30_of _ _ _) (rv R A c) rfl ?_)
      | (with_reducible refine wpList_loads (o := ⟨some 17, .load 39 (.tmp 7), _, _, _, _⟩) rfl 39 (.tmp 7) rfl g7 0 _ rfl (Cells.of_holds h7) _ Try.underlying39 rfl (by rw [bc_length]; exact size39) (bv (fil 0)) rfl ?_)
      | (go_at_call 52; refine (XA _ hT).mono ?_; rintro e wy ⟨A1, c1, rfl, hT', my⟩
         replace hT := hT'
         replace h2 := h2.keep my (by simp)
         replace h3 := h3.keep my (by simp)
         replace h4 := h4.keep my (by simp)
         replace h5 := h5.keep my (by simp)
         replace h7 := h7.keep my (by simp)
         replace mm := mm.then my
         have hq2 := h2
         clear hT' my)
      | (with_reducible refine wpList_storesAll (o := ⟨none, .store 30 (.tmp 2) (.tmp 19), _, _, _, _⟩) rfl 30 (.tmp 2) (.tmp 19) rfl rfl g2 (rc R1 A1 c1) rfl (rv R1 A1 c1) rfl rfl 30 _ h2 rfl (rc_one _ _ _) (size30_of _ _ _) ?_; clear h2; intro wz h2 mz zz; replace zz := Lib.hid zz
         have hT0 := hT.keep mz (fun a ha => by simpa using hT.ne hq2 (by decide) a ha)
         replace hT := hT0
         replace h7 := h7.keep mz (by have := HG.out; simp; omega)
         replace h3 := h3.keep mz (by have := HG.out; simp; omega)
         replace h4 := h4.keep mz (by have := HG.out; simp; omega)
         replace h5 := h5.keep mz (by have := HG.out; simp; omega)
         replace mm := mm.trans mz (fun i hi h => by have := HG.out; simp at h; omega)
         have k1 := h3.cell 1; simp only [dv, List.getElem?_cons_succ, List.getElem?_cons_zero] at k1; clear hT0 mz hq2)
      | (with_reducible refine wpList_loads (o := ⟨some 23, .load 30 (.tmp 2), _, _, _, _⟩) rfl 30 (.tmp 2) rfl g2 0 _ rfl (Cells.of_holds h2) _ Try.underlying30 rfl (size30_of _ _ _) (rv R1 A1 c1) rfl ?_)
      | (go_at_call 18; refine (XH _ _ _ hT).mono ?_; rintro e wy ⟨rfl, my⟩
         replace hT := hT.keep my (by simp)
         replace h2 := h2.keep my (by simp)
         replace h4 := h4.keep my (by simp)
         replace h5 := h5.keep my (by simp)
         replace h7 := h7.keep my (by simp)
         replace mm := mm.then my
         have hq7 := h7
         clear my)
      | (with_reducible refine wpList_storesAll (o := ⟨none, .store 39 (.tmp 7) (.tmp 26), _, _, _, _⟩) rfl 39 (.tmp 7) (.tmp 26) rfl rfl g7 (bc B1) rfl (bv B1) rfl rfl 39 _ h7 (by rw [bc_length, bc_length]) (bc_one _) (by rw [bc_length]; exact size39) ?_; clear h7; intro wx h7 mz zz
         have hT0 := hT.keep mz (fun a ha => by simpa using hT.ne hq7 (by decide) a ha)
         replace hT := hT0
         replace h2 := h2.keep mz (by have := HG.out; simp; omega)
         replace h4 := h4.keep mz (by have := HG.out; simp; omega)
         replace h5 := h5.keep mz (by have := HG.out; simp; omega)
         replace mm := mm.trans mz (fun i hi h => by have := HG.out; simp at h; omega)
         clear hT0 mz zz hq7))
    clear k1 h3 XA XH
    obtain ⟨wz, hwz⟩ : ∃ v, v = wx := ⟨_, rfl⟩
    rw [← hwz] at h2 h4 h5 h7 hT mm ⊢
    clear hwz
    refine wp_region_det2 74 (fun s => match s with
      | 2 => .pointer (some ⟨g2, 0, none⟩) | 4 => .pointer (some ⟨g4, 0, none⟩) | 5 => .pointer (some ⟨g5, 0, none⟩) | 7 => .pointer (some ⟨g7, 0, none⟩) | 8 => .int .i64 0 
      | 71 => .agg (rc R1 A1 c1).toArray | 72 => bv B1 | 73 => .int .i64 0 | 6 => .int .i64 0 | _ => undef) [2, 4, 5, 7, 8]
      (fun l v => OSt wz.drew g4 g5 (rc R1 A1 c1) B1 (l 3) (l 4) v) []
      (by kernel_rfl) rfl rfl (by intro s hs; simp at hs; rcases hs with rfl | rfl | rfl | rfl | rfl <;> rfl) ⟨Mod.refl _ _, ⟨_, rfl, h4⟩, (fun q => by cases q), ⟨_, h5⟩, (fun q => by cases q)⟩ (drawn2B_lt (nt := 74) (by kernel_rfl)) (drawn2B_dst (by kernel_rfl)) ?step ?fin
    case step =>
      intro l T v j o hj hlj hdep hst hpar hgot Kq hK
      have hjn : j < 6 := (Array.getElem?_eq_some_iff.1 hj).1
      have h2d : Holds v g2 30 (rc R1 A1 c1) := (show Holds wz.drew g2 30 (rc R1 A1 c1) from h2).keep hst.1 (by have := HG.out; simp; omega)
      have h7d : Holds v g7 39 (bc B1) := (show Holds wz.drew g7 39 (bc B1) from h7).keep hst.1 (by have := HG.out; simp; omega)
      have hne : g4 ∉ [g5] ∧ g5 ∉ [g4] := by have := HG.out; simp; omega
      obtain ⟨q1, ⟨C0, q2, q3⟩, q4, ⟨B0, q5⟩, q6⟩ := id hst
      obtain rfl | rfl | rfl | rfl | rfl | rfl : j = 0 ∨ j = 1 ∨ j = 2 ∨ j = 3 ∨ j = 4 ∨ j = 5 := by omega
      all_goals (have hj' := Option.some.inj (hj : some _ = some o); subst hj'; clear hj)
      · exact wp_ran rfl (exec_load rfl (eval_tmp (hpar 2 (by simp))) (run_loads (Cells.of_holds h2d) Try.underlying30 rfl (size30_of _ _ _))) (hK _ _ (fun s hs => by cases hs; rfl) (by simpa using hst))
      · exact wp_ran rfl (exec_load rfl (eval_tmp (hpar 7 (by simp))) (run_loads (Cells.of_holds h7d) Try.underlying39 rfl (by rw [bc_length]; exact size39))) (hK _ _ (fun s hs => by cases hs; rfl) (by simpa using hst))
      · exact wp_ran rfl (exec_move rfl (eval_tmp (hpar 8 (by simp)))) (hK _ _ (fun s hs => by cases hs; rfl) (by simpa using hst))
      · exact wp_stored (ty := 30) (V := .agg (rc R1 A1 c1).toArray) (cs := (rc R1 A1 c1)) rfl rfl (eval_tmp (hpar 4 (by simp))) (eval_tmp (hgot 0 _ _ rfl (hdep ⟨0, .data⟩ (by simp) rfl) rfl)) rfl q3 (by rw [q2]; rfl) (rc_one _ _ _) (size30_of _ _ _) (fun v' r1 r2 => hK _ _ (fun s hs => by cases hs) ⟨q1.trans (r2.wk (ns := [g4, g5]) (fun i _ h => by simp at h; simp [h])) (fun _ _ h => h), ⟨_, rfl, r1⟩, fun _ => r1, ⟨B0, q5.keep r2 hne.2⟩, fun h => (q6 h).keep r2 hne.2⟩)
      · exact wp_stored (ty := 39) (V := bv B1) (cs := bc B1) rfl rfl (eval_tmp (hpar 5 (by simp))) (eval_tmp (hgot 1 _ _ rfl (hdep ⟨1, .data⟩ (by simp) rfl) rfl)) rfl q5 (by rw [bc_length, bc_length]) (bc_one _) (by rw [bc_length]; exact size39) (fun v' r1 r2 => hK _ _ (fun s hs => by cases hs) ⟨q1.trans (r2.wk (ns := [g4, g5]) (fun i _ h => by simp at h; simp [h])) (fun _ _ h => h), ⟨C0, q2, q3.keep r2 hne.1⟩, fun h => (q4 h).keep r2 hne.1, ⟨_, r1⟩, fun _ => r1⟩)
      · exact wp_ran rfl (exec_assign rfl (eval_tmp (hgot 2 _ _ rfl (hdep ⟨2, .data⟩ (by simp) rfl) rfl))) (hK _ _ (fun s hs => by cases hs; rfl) (by simpa using hst))
    case fin =>
      intro l T v hl hst ht hd hpar hgot
      obtain ⟨q1, _, q4, _, q6⟩ := hst
      replace q4 := q4 (hl 3 (by decide))
      replace q6 := q6 (hl 4 (by decide))
      have t4 := hpar 4 (by simp)
      have t5 := hpar 5 (by simp)
      have t6 := hgot 5 _ 6 rfl rfl
      have hT1 := hT.keep ((Mod.drew [g4, g5] wz).trans q1 (fun _ _ h => h)) (fun a ha => by have e1 := hT.ne h4 (by decide) a ha; have e2 := hT.ne h5 (by decide) a ha; simp [e1, e2])
      have mm1 : Mod [] w v := (mm.then (Mod.drew [] wz)).trans q1 (fun i hi h => by have := HG.out; simp at h; omega)
      go_wp2
      refine bodyPost_ret (results_cct rfl _ _ g4 g5 (rc R1 A1 c1) (bc B1) _ _ _ t4 t5 t6 (Cells.of_holds q4) (Cells.of_holds q6) Try.underlying30 rfl (size30_of _ _ _) Try.underlying39 rfl (by rw [bc_length]; exact size39)) hd ?_
      exact ⟨A1, c1, rfl, hT1, mm1⟩
  · have hE0 : (E1 == 0) = false := by simp [hE]
    have hB1 : B1 = fil 0 := HB.out.trans (if_neg hE)
    have HB2 := Lib.hid hB1
    clear hB1
    go_wp2_with (first
      | (with_reducible refine wpList_loads (o := ⟨some 14, .load 30 (.tmp 2), _, _, _, _⟩) rfl 30 (.tmp 2) rfl g2 0 _ rfl (Cells.of_holds h2) _ Try.underlying30 rfl (size30_of _ _ _) (rv R A c) rfl ?_)
      | (with_reducible refine wpList_loads (o := ⟨some 17, .load 39 (.tmp 7), _, _, _, _⟩) rfl 39 (.tmp 7) rfl g7 0 _ rfl (Cells.of_holds h7) _ Try.underlying39 rfl (by rw [bc_length]; exact size39) (bv (fil 0)) rfl ?_)
      | (go_at_call 52; refine (XA _ hT).mono ?_; rintro e wy ⟨A1, c1, rfl, hT', my⟩
         replace hT := hT'
         replace h2 := h2.keep my (by simp)
         replace h3 := h3.keep my (by simp)
         replace h4 := h4.keep my (by simp)
         replace h5 := h5.keep my (by simp)
         replace h7 := h7.keep my (by simp)
         replace mm := mm.then my
         have hq2 := h2
         clear hT' my)
      | (with_reducible refine wpList_storesAll (o := ⟨none, .store 30 (.tmp 2) (.tmp 19), _, _, _, _⟩) rfl 30 (.tmp 2) (.tmp 19) rfl rfl g2 (rc R1 A1 c1) rfl (rv R1 A1 c1) rfl rfl 30 _ h2 rfl (rc_one _ _ _) (size30_of _ _ _) ?_; clear h2; intro wz h2 mz zz; replace zz := Lib.hid zz
         have hT0 := hT.keep mz (fun a ha => by simpa using hT.ne hq2 (by decide) a ha)
         replace hT := hT0
         replace h7 := h7.keep mz (by have := HG.out; simp; omega)
         replace h3 := h3.keep mz (by have := HG.out; simp; omega)
         replace h4 := h4.keep mz (by have := HG.out; simp; omega)
         replace h5 := h5.keep mz (by have := HG.out; simp; omega)
         replace mm := mm.trans mz (fun i hi h => by have := HG.out; simp at h; omega)
         clear hT0 mz hq2))
    rw [← HB2.out] at h7
    clear k1 h3 XA hE hE0
    refine wp_region_det2 74 (fun s => match s with
      | 2 => .pointer (some ⟨g2, 0, none⟩) | 4 => .pointer (some ⟨g4, 0, none⟩) | 5 => .pointer (some ⟨g5, 0, none⟩) | 7 => .pointer (some ⟨g7, 0, none⟩) | 8 => .int .i64 E1 
      | 71 => .agg (rc R1 A1 c1).toArray | 72 => bv B1 | 73 => .int .i64 E1 | 6 => .int .i64 E1 | _ => undef) [2, 4, 5, 7, 8]
      (fun l v => OSt wz.drew g4 g5 (rc R1 A1 c1) B1 (l 3) (l 4) v) []
      (by kernel_rfl) rfl rfl (by intro s hs; simp at hs; rcases hs with rfl | rfl | rfl | rfl | rfl <;> rfl) ⟨Mod.refl _ _, ⟨_, rfl, h4⟩, (fun q => by cases q), ⟨_, h5⟩, (fun q => by cases q)⟩ (drawn2B_lt (nt := 74) (by kernel_rfl)) (drawn2B_dst (by kernel_rfl)) ?step ?fin
    case step =>
      intro l T v j o hj hlj hdep hst hpar hgot Kq hK
      have hjn : j < 6 := (Array.getElem?_eq_some_iff.1 hj).1
      have h2d : Holds v g2 30 (rc R1 A1 c1) := (show Holds wz.drew g2 30 (rc R1 A1 c1) from h2).keep hst.1 (by have := HG.out; simp; omega)
      have h7d : Holds v g7 39 (bc B1) := (show Holds wz.drew g7 39 (bc B1) from h7).keep hst.1 (by have := HG.out; simp; omega)
      have hne : g4 ∉ [g5] ∧ g5 ∉ [g4] := by have := HG.out; simp; omega
      obtain ⟨q1, ⟨C0, q2, q3⟩, q4, ⟨B0, q5⟩, q6⟩ := id hst
      obtain rfl | rfl | rfl | rfl | rfl | rfl : j = 0 ∨ j = 1 ∨ j = 2 ∨ j = 3 ∨ j = 4 ∨ j = 5 := by omega
      all_goals (have hj' := Option.some.inj (hj : some _ = some o); subst hj'; clear hj)
      · exact wp_ran rfl (exec_load rfl (eval_tmp (hpar 2 (by simp))) (run_loads (Cells.of_holds h2d) Try.underlying30 rfl (size30_of _ _ _))) (hK _ _ (fun s hs => by cases hs; rfl) (by simpa using hst))
      · exact wp_ran rfl (exec_load rfl (eval_tmp (hpar 7 (by simp))) (run_loads (Cells.of_holds h7d) Try.underlying39 rfl (by rw [bc_length]; exact size39))) (hK _ _ (fun s hs => by cases hs; rfl) (by simpa using hst))
      · exact wp_ran rfl (exec_move rfl (eval_tmp (hpar 8 (by simp)))) (hK _ _ (fun s hs => by cases hs; rfl) (by simpa using hst))
      · exact wp_stored (ty := 30) (V := .agg (rc R1 A1 c1).toArray) (cs := (rc R1 A1 c1)) rfl rfl (eval_tmp (hpar 4 (by simp))) (eval_tmp (hgot 0 _ _ rfl (hdep ⟨0, .data⟩ (by simp) rfl) rfl)) rfl q3 (by rw [q2]; rfl) (rc_one _ _ _) (size30_of _ _ _) (fun v' r1 r2 => hK _ _ (fun s hs => by cases hs) ⟨q1.trans (r2.wk (ns := [g4, g5]) (fun i _ h => by simp at h; simp [h])) (fun _ _ h => h), ⟨_, rfl, r1⟩, fun _ => r1, ⟨B0, q5.keep r2 hne.2⟩, fun h => (q6 h).keep r2 hne.2⟩)
      · exact wp_stored (ty := 39) (V := bv B1) (cs := bc B1) rfl rfl (eval_tmp (hpar 5 (by simp))) (eval_tmp (hgot 1 _ _ rfl (hdep ⟨1, .data⟩ (by simp) rfl) rfl)) rfl q5 (by rw [bc_length, bc_length]) (bc_one _) (by rw [bc_length]; exact size39) (fun v' r1 r2 => hK _ _ (fun s hs => by cases hs) ⟨q1.trans (r2.wk (ns := [g4, g5]) (fun i _ h => by simp at h; simp [h])) (fun _ _ h => h), ⟨C0, q2, q3.keep r2 hne.1⟩, fun h => (q4 h).keep r2 hne.1, ⟨_, r1⟩, fun _ => r1⟩)
      · exact wp_ran rfl (exec_assign rfl (eval_tmp (hgot 2 _ _ rfl (hdep ⟨2, .data⟩ (by simp) rfl) rfl))) (hK _ _ (fun s hs => by cases hs; rfl) (by simpa using hst))
    case fin =>
      intro l T v hl hst ht hd hpar hgot
      obtain ⟨q1, _, q4, _, q6⟩ := hst
      replace q4 := q4 (hl 3 (by decide))
      replace q6 := q6 (hl 4 (by decide))
      have t4 := hpar 4 (by simp)
      have t5 := hpar 5 (by simp)
      have t6 := hgot 5 _ 6 rfl rfl
      have hT1 := hT.keep ((Mod.drew [g4, g5] wz).trans q1 (fun _ _ h => h)) (fun a ha => by have e1 := hT.ne h4 (by decide) a ha; have e2 := hT.ne h5 (by decide) a ha; simp [e1, e2])
      have mm1 : Mod [] w v := (mm.then (Mod.drew [] wz)).trans q1 (fun i hi h => by have := HG.out; simp at h; omega)
      go_wp2
      refine bodyPost_ret (results_cct rfl _ _ g4 g5 (rc R1 A1 c1) (bc B1) _ _ _ t4 t5 t6 (Cells.of_holds q4) (Cells.of_holds q6) Try.underlying30 rfl (size30_of _ _ _) Try.underlying39 rfl (by rw [bc_length]; exact size39)) hd ?_
      exact ⟨A1, c1, rfl, hT1, mm1⟩

set_option maxRecDepth 1000000 in
set_option maxHeartbeats 4000000 in
theorem ought1_c (R : RSt) (A : Option Addr) (c : Nat) (kd : Int) (a : Ac) (K : Option Addr) (ck : Nat) (w : World) (hT : Told w R A c) (hF : Fine R 1099511627774) (hk : a.kind = ((IntKind.u64.wrap kd) % 7).toNat) (h3 : a.kind = 1) :
    Calls Try.prog 38 #[rv R A c, .agg (dv kd a K ck).toArray] w (OughtPost w (let r := R.ask 1 a.at_ (fil a.fill); (fil 0, r.2, r.1))) := by
  have hkz : (a.kind : Int) = 1 := by omega
  obtain ⟨R1, hR1⟩ : ∃ R1, R1 = (R.ask 1 a.at_ (fil a.fill)).1 := ⟨_, rfl⟩
  obtain ⟨E1, hE1⟩ : ∃ E1, E1 = (R.ask 1 a.at_ (fil a.fill)).2 := ⟨_, rfl⟩
  have he : R.ask 1 a.at_ (fil a.fill) = (R1, E1) := by rw [hR1, hE1]
  have XA := fun v (h : Told v R A c) => askr1_c R A c a.at_ (fil a.fill) v h (hF.wk (by omega))
  rw [he] at XA ⊢
  clear hR1 hE1 he hF h3
  show Calls Try.prog 38 #[rv R A c, .agg (dv kd a K ck).toArray] w (OughtPost w (fil 0, E1, R1))
  go_enter Try.func38, Try.ntmps38
  go_wp2_with (first
    | (with_reducible refine wpList_boxes (o := ⟨some 2, .box 30 (.tmp 0), _, _, _, _⟩) rfl 30 (.tmp 0) rfl _ rfl (rc R A c) rfl ?_; intro w1 hb1 m1 z1; replace z1 := Lib.hid z1)
    | (with_reducible refine wpList_boxes (o := ⟨some 3, .box 49 (.tmp 1), _, _, _, _⟩) rfl 49 (.tmp 1) rfl _ rfl (dv kd a K ck) rfl ?_; intro w2 hb2 m2 z2; replace z2 := Lib.hid z2; replace hb1 := hb1.keep m2 (by simp))
    | (with_reducible refine wpList_allocs (o := ⟨some 4, .alloc 30, _, _, _, _⟩) rfl 30 rfl _ zero30 ?_; intro w3 hb3 m3 z3; replace z3 := Lib.hid z3; replace hb1 := hb1.keep m3 (by simp); replace hb2 := hb2.keep m3 (by simp))
    | (with_reducible refine wpList_allocs (o := ⟨some 5, .alloc 39, _, _, _, _⟩) rfl 39 rfl _ zero39 ?_; intro w4 hb4 m4 z4; replace z4 := Lib.hid z4; replace hb1 := hb1.keep m4 (by simp); replace hb2 := hb2.keep m4 (by simp); replace hb3 := hb3.keep m4 (by simp))
    | (with_reducible refine wpList_allocs (o := ⟨some 7, .alloc 39, _, _, _, _⟩) rfl 39 rfl _ zero39 ?_; intro w5 hb5 m5 z5; replace z5 := Lib.hid z5; replace hb1 := hb1.keep m5 (by simp); replace hb2 := hb2.keep m5 (by simp); replace hb3 := hb3.keep m5 (by simp); replace hb4 := hb4.keep m5 (by simp))
    | (with_reducible refine wpList_loads (o := ⟨some 9, .load 49 (.tmp 3), _, _, _, _⟩) rfl 49 (.tmp 3) rfl w1.heap.size 0 _ rfl (Cells.of_holds hb2) _ Try.underlying49 rfl (by rw [dv_length]; exact size49) (.agg (dv kd a K ck).toArray) rfl ?_))
  refine (kind_c kd a K ck _ hk).mono ?_
  rintro e wk ⟨rfl, mk⟩
  have mm : Mod [] w wk := ((((m1.then m2).then m3).then m4).then m5).then mk
  have h2 := hb1.keep mk (by simp)
  have h3 := hb2.keep mk (by simp)
  have h4 := hb3.keep mk (by simp)
  have h5 := hb4.keep mk (by simp)
  have h7 := hb5.keep mk (by simp)
  obtain ⟨g2, e2⟩ : ∃ b, b = w.heap.size := ⟨_, rfl⟩
  obtain ⟨g3, e3⟩ : ∃ b, b = w1.heap.size := ⟨_, rfl⟩
  obtain ⟨g4, e4⟩ : ∃ b, b = w2.heap.size := ⟨_, rfl⟩
  obtain ⟨g5, e5⟩ : ∃ b, b = w3.heap.size := ⟨_, rfl⟩
  obtain ⟨g7, e7⟩ : ∃ b, b = w4.heap.size := ⟨_, rfl⟩
  have HG := Lib.hid (show w.heap.size ≤ g2 ∧ g2 < g3 ∧ g3 < g4 ∧ g4 < g5 ∧ g5 < g7 by have := z1.out; have := z2.out; have := z3.out; have := z4.out; omega)
  rw [← e2] at h2
  rw [← e3] at h3
  rw [← e4] at h4
  rw [← e5] at h5
  rw [← e7] at h7
  rw [← e2, ← e3, ← e4, ← e5, ← e7]
  clear e2 e3 e4 e5 e7 hb1 hb2 hb3 hb4 hb5 m1 m2 m3 m4 m5 mk z1 z2 z3 z4 z5
  have k1 := h3.cell 1
  have k2 := h3.cell 2
  have k3 := h3.cell 3
  have k4 := h3.cell 4
  simp only [dv, List.getElem?_cons_succ, List.getElem?_cons_zero] at k1 k2 k3 k4
  replace hT := hT.keep mm (by simp)
  rw [hkz]
  clear hk hkz
  clear k1 k2 k3 k4
  go_wp2_with fail
  refine Rg.wp_region_lit (X := Option Addr × Nat) (none, 0) (fun x => [rv R A c, Value.agg (dv kd a K ck).toArray, .pointer (some ⟨g2, 0, none⟩), .pointer (some ⟨g3, 0, none⟩), .pointer (some ⟨g4, 0, none⟩), .pointer (some ⟨g5, 0, none⟩), Value.int IntKind.i64 0, .pointer (some ⟨g7, 0, none⟩), .int .i64 E1, Value.agg (dv kd a K ck).toArray, Value.int IntKind.i64 1, Value.bool false, Value.bool false, undef, undef, undef, undef, undef, undef, undef, undef, undef, undef, undef, undef, undef, undef, Value.bool true, Value.bool true, .tuple #[rv R1 x.1 x.2, .int .i64 E1], rv R A c, .pointer (some ⟨g3, 1, none⟩), .int .i64 a.at_, .pointer (some ⟨g3, 3, none⟩), oct a.fill, bv (fil a.fill), .tuple #[rv R1 x.1 x.2, .int .i64 E1], rv R1 x.1 x.2, .int .i64 E1, undef, undef, undef, undef, undef, undef, undef, undef, undef, undef, undef, undef, undef, undef, undef, undef, undef, undef, undef, undef, undef, undef, undef, undef, undef, undef, undef, undef, undef, undef, undef, undef, undef, undef, undef]) 74 [0, 1, 2, 3, 4, 5, 6, 7, 9, 10, 11, 12, 13, 14, 15, 16, 17, 18, 19, 20, 21, 22, 23, 24, 25, 26, 27, 28, 39, 40, 41, 42, 43, 44, 45, 46, 47, 48, 49, 50, 51, 52, 53, 54, 55, 56, 57, 58, 59, 60, 61, 62, 63, 64, 65, 66, 67, 68, 69, 70, 71, 72, 73]
    (fun x lz v => Mod [g2] wk.drew v ∧ (lz 10 = false → Holds v g2 30 (rc R A c)) ∧ (lz 10 = true → Holds v g2 30 (rc R1 x.1 x.2)) ∧ (lz 6 = true → Told v R1 x.1 x.2) ∧ Told v R A c) []
    (by kernel_rfl) (fun _ => rfl) rfl rfl rfl (fun _ => by simp only [List.map_cons, List.map_nil, List.getD_cons_zero, List.getD_cons_succ]) (⟨Mod.refl _ _, (fun _ => h2), (fun h => by cases h), (fun h => by cases h), hT.keep (Mod.drew [] wk) (by simp)⟩) (by kernel_rfl) (by kernel_rfl) ?step ?fin
  case step =>
    intro x lz T v j o hj hlj hdep hst hpar hgot hcl Kq hK
    have hjn : j < 12 := (Array.getElem?_eq_some_iff.1 hj).1
    have h3d : Holds v g3 49 (dv kd a K ck) := (show Holds wk.drew g3 49 (dv kd a K ck) from h3).keep hst.1 (by have := HG.out; simp; omega)
    obtain rfl | rfl | rfl | rfl | rfl | rfl | rfl | rfl | rfl | rfl | rfl | rfl : j = 0 ∨ j = 1 ∨ j = 2 ∨ j = 3 ∨ j = 4 ∨ j = 5 ∨ j = 6 ∨ j = 7 ∨ j = 8 ∨ j = 9 ∨ j = 10 ∨ j = 11 := by omega
    all_goals (have hj' := Option.some.inj (hj : some _ = some o); subst hj'; clear hj)
    · have n10 : lz 10 = false := by
        cases hh : lz 10 with
        | false => rfl
        | true => exact absurd (hcl 10 _ rfl hh ⟨0, .phase⟩ (by simp) rfl) (by rw [hlj]; simp)
      exact wp_ran rfl (exec_load rfl (eval_tmp (hpar 2 (by simp))) (run_loads (Cells.of_holds (hst.2.1 n10)) Try.underlying30 rfl (size30_of _ _ _))) (hK x _ _ (fun _ _ _ _ _ _ => rfl) (fun s hs => by cases hs; rfl) hst)
    · exact wp_ran rfl (exec_field49 (k := 1) (by decide) rfl (eval_tmp (hpar 3 (by simp)))) (hK x _ _ (fun _ _ _ _ _ _ => rfl) (fun s hs => by cases hs; rfl) hst)
    · exact wp_ran rfl (exec_load rfl (eval_tmp (hgot 1 _ 31 rfl (hdep ⟨1, .data⟩ (by simp) rfl) rfl)) (run_load1 Try.underlying3 rfl (h3d.cell 1))) (hK x _ _ (fun _ _ _ _ _ _ => rfl) (fun s hs => by cases hs; rfl) hst)
    · exact wp_ran rfl (exec_field49 (k := 3) (by decide) rfl (eval_tmp (hpar 3 (by simp)))) (hK x _ _ (fun _ _ _ _ _ _ => rfl) (fun s hs => by cases hs; rfl) hst)
    · exact wp_ran rfl (exec_load rfl (eval_tmp (hgot 3 _ 33 rfl (hdep ⟨3, .data⟩ (by simp) rfl) rfl)) (run_load1 Try.underlying5 rfl (h3d.cell 3))) (hK x _ _ (fun _ _ _ _ _ _ => rfl) (fun s hs => by cases hs; rfl) hst)
    · refine wp_called rfl (exec_call1 rfl rfl (eval_tmp (hgot 4 _ 34 rfl (hdep ⟨4, .data⟩ (by simp) rfl) rfl)) (enters_of Try.func22 (by kernel_rfl) rfl)) ((filled_c a.fill _).mono (fun e v' hh => ⟨_, hh.1, hK x _ _ (fun _ _ _ _ _ _ => rfl) (fun s hs => by cases hs; rfl) ?_⟩))
      exact ⟨hst.1.then hh.2, fun q => (hst.2.1 q).keep hh.2 (by simp), fun q => (hst.2.2.1 q).keep hh.2 (by simp), fun q => (hst.2.2.2.1 q).keep hh.2 (by simp), hst.2.2.2.2.keep hh.2 (by simp)⟩
    · have n7 : lz 7 = false := by
        cases hh : lz 7 with
        | false => rfl
        | true => exact absurd (hcl 7 _ rfl hh ⟨6, .data⟩ (by simp) rfl) (by rw [hlj]; simp)
      have n8 : lz 8 = false := by
        cases hh : lz 8 with
        | false => rfl
        | true => exact absurd (hcl 8 _ rfl hh ⟨7, .data⟩ (by simp) rfl) (by rw [n7]; simp)
      have n10 : lz 10 = false := by
        cases hh : lz 10 with
        | false => rfl
        | true => exact absurd (hcl 10 _ rfl hh ⟨6, .phase⟩ (by simp) rfl) (by rw [hlj]; simp)
      refine wp_called rfl (exec_call4 rfl rfl (eval_tmp (hgot 0 _ 30 rfl (hdep ⟨0, .data⟩ (by simp) rfl) rfl)) rfl (eval_tmp (hgot 2 _ 32 rfl (hdep ⟨2, .data⟩ (by simp) rfl) rfl)) (eval_tmp (hgot 5 _ 35 rfl (hdep ⟨5, .data⟩ (by simp) rfl) rfl)) (enters_of Try.func52 (by kernel_rfl) rfl)) ((XA v hst.2.2.2.2).mono (fun e v' hh => ?_))
      obtain ⟨A', c', h1, h2, h3⟩ := hh
      exact ⟨_, h1, hK (A', c') _ _ (fun j' o' s' h1 h2 h3 => by
        clear hst hpar hgot hdep hcl hK
        have h4 : j' < 12 := (Array.getElem?_eq_some_iff.1 h1).1
        obtain rfl | rfl | rfl | rfl | rfl | rfl | rfl | rfl | rfl | rfl | rfl | rfl : j' = 0 ∨ j' = 1 ∨ j' = 2 ∨ j' = 3 ∨ j' = 4 ∨ j' = 5 ∨ j' = 6 ∨ j' = 7 ∨ j' = 8 ∨ j' = 9 ∨ j' = 10 ∨ j' = 11 := by omega
        all_goals (cases h1; cases h3 <;> first | rfl | (rw [hlj] at h2; cases h2) | (rw [n7] at h2; cases h2) | (rw [n8] at h2; cases h2))) (fun s hs => by cases hs; rfl) ⟨hst.1.then h3, fun q => (hst.2.1 q).keep h3 (by simp), (fun q => absurd (show lz 10 = true from q) (by rw [n10]; simp)), fun _ => h2, hst.2.2.2.2.keep h3 (by simp)⟩⟩
    · exact wp_ran rfl (exec_move rfl (eval_tmp (hgot 6 _ 36 rfl (hdep ⟨6, .data⟩ (by simp) rfl) rfl))) (hK x _ _ (fun _ _ _ _ _ _ => rfl) (fun s hs => by cases hs; rfl) hst)
    · exact wp_ran rfl (exec_extract0 rfl (eval_tmp (hgot 7 _ 29 rfl (hdep ⟨7, .data⟩ (by simp) rfl) rfl))) (hK x _ _ (fun _ _ _ _ _ _ => rfl) (fun s hs => by cases hs; rfl) hst)
    · exact wp_ran rfl (exec_extract1 rfl (eval_tmp (hgot 7 _ 29 rfl (hdep ⟨7, .data⟩ (by simp) rfl) rfl))) (hK x _ _ (fun _ _ _ _ _ _ => rfl) (fun s hs => by cases hs; rfl) hst)
    · have a6 : lz 6 = true := hdep ⟨6, .phase⟩ (by simp) rfl
      have hg := hst.2.1 hlj
      have hTn : ∀ {R' : RSt} {A' : Option Addr} {c' : Nat}, Told v R' A' c' → ∀ a, A' = some a → a.block ∉ [g2] := fun h a ha => by simpa using h.ne hg (by decide) a ha
      exact wp_stored (ty := 30) (V := rv R1 x.1 x.2) (cs := rc R1 x.1 x.2) rfl rfl (eval_tmp (hpar 2 (by simp))) (eval_tmp (hgot 8 _ 37 rfl (hdep ⟨8, .data⟩ (by simp) rfl) rfl)) rfl hg rfl (rc_one _ _ _) (size30_of _ _ _) (fun v' r1 r2 => hK x _ _ (fun _ _ _ _ _ _ => rfl) (fun s hs => by cases hs) ⟨hst.1.trans r2 (fun _ _ h => h), (fun q => by cases q), fun _ => r1, fun q => (hst.2.2.2.1 q).keep r2 (hTn (hst.2.2.2.1 q)), hst.2.2.2.2.keep r2 (hTn hst.2.2.2.2)⟩)
    · exact wp_ran rfl (exec_assign rfl (eval_tmp (hgot 9 _ 38 rfl (hdep ⟨9, .data⟩ (by simp) rfl) rfl))) (hK x _ _ (fun _ _ _ _ _ _ => rfl) (fun s hs => by cases hs; rfl) hst)
  case fin =>
    intro x lz v hl hst
    have a6 := hl 6 (by decide)
    have a10 := hl 10 (by decide)
    obtain ⟨q1, _, q3, q4, _⟩ := hst
    replace h2 := q3 a10
    replace hT := q4 a6
    obtain ⟨A1, c1⟩ := x
    dsimp only at h2 hT
    have hno : ∀ k, g3 ≤ k → k ∉ [g2] := fun k hk => by have := HG.out; simp; omega
    replace h4 : Holds v g4 30 r0 := (show Holds wk.drew g4 30 r0 from h4).keep q1 (hno _ (by have := HG.out; omega))
    replace h5 : Holds v g5 39 (bc (fil 0)) := (show Holds wk.drew g5 39 (bc (fil 0)) from h5).keep q1 (hno _ (by have := HG.out; omega))
    replace h7 : Holds v g7 39 (bc (fil 0)) := (show Holds wk.drew g7 39 (bc (fil 0)) from h7).keep q1 (hno _ (by have := HG.out; omega))
    replace mm : Mod [] w v := (mm.then (Mod.drew [] wk)).trans q1 (fun i hi h => by have := HG.out; simp at h; omega)
    obtain ⟨wz, hwz⟩ : ∃ u, u = v := ⟨_, rfl⟩
    rw [← hwz] at h2 h4 h5 h7 hT mm ⊢
    clear hwz q1 q3 q4 a6 a10 hl h3 hno XA
    dsimp only
    go_wp2_with fail
    refine wp_region_det2 74 (fun s => match s with
      | 2 => .pointer (some ⟨g2, 0, none⟩) | 4 => .pointer (some ⟨g4, 0, none⟩) | 5 => .pointer (some ⟨g5, 0, none⟩) | 7 => .pointer (some ⟨g7, 0, none⟩) | 8 => .int .i64 E1 
      | 71 => .agg (rc R1 A1 c1).toArray | 72 => bv (fil 0) | 73 => .int .i64 E1 | 6 => .int .i64 E1 | _ => undef) [2, 4, 5, 7, 8]
      (fun l v => OSt wz.drew g4 g5 (rc R1 A1 c1) (fil 0) (l 3) (l 4) v) []
      (by kernel_rfl) rfl rfl (by intro s hs; simp at hs; rcases hs with rfl | rfl | rfl | rfl | rfl <;> rfl) ⟨Mod.refl _ _, ⟨_, rfl, h4⟩, (fun q => by cases q), ⟨_, h5⟩, (fun q => by cases q)⟩ (drawn2B_lt (nt := 74) (by kernel_rfl)) (drawn2B_dst (by kernel_rfl)) ?step ?fin
    case step =>
      intro l T v j o hj hlj hdep hst hpar hgot Kq hK
      have hjn : j < 6 := (Array.getElem?_eq_some_iff.1 hj).1
      have h2d : Holds v g2 30 (rc R1 A1 c1) := (show Holds wz.drew g2 30 (rc R1 A1 c1) from h2).keep hst.1 (by have := HG.out; simp; omega)
      have h7d : Holds v g7 39 (bc (fil 0)) := (show Holds wz.drew g7 39 (bc (fil 0)) from h7).keep hst.1 (by have := HG.out; simp; omega)
      have hne : g4 ∉ [g5] ∧ g5 ∉ [g4] := by have := HG.out; simp; omega
      obtain ⟨q1, ⟨C0, q2, q3⟩, q4, ⟨B0, q5⟩, q6⟩ := id hst
      obtain rfl | rfl | rfl | rfl | rfl | rfl : j = 0 ∨ j = 1 ∨ j = 2 ∨ j = 3 ∨ j = 4 ∨ j = 5 := by omega
      all_goals (have hj' := Option.some.inj (hj : some _ = some o); subst hj'; clear hj)
      · exact wp_ran rfl (exec_load rfl (eval_tmp (hpar 2 (by simp))) (run_loads (Cells.of_holds h2d) Try.underlying30 rfl (size30_of _ _ _))) (hK _ _ (fun s hs => by cases hs; rfl) (by simpa using hst))
      · exact wp_ran rfl (exec_load rfl (eval_tmp (hpar 7 (by simp))) (run_loads (Cells.of_holds h7d) Try.underlying39 rfl (by rw [bc_length]; exact size39))) (hK _ _ (fun s hs => by cases hs; rfl) (by simpa using hst))
      · exact wp_ran rfl (exec_move rfl (eval_tmp (hpar 8 (by simp)))) (hK _ _ (fun s hs => by cases hs; rfl) (by simpa using hst))
      · exact wp_stored (ty := 30) (V := .agg (rc R1 A1 c1).toArray) (cs := (rc R1 A1 c1)) rfl rfl (eval_tmp (hpar 4 (by simp))) (eval_tmp (hgot 0 _ _ rfl (hdep ⟨0, .data⟩ (by simp) rfl) rfl)) rfl q3 (by rw [q2]; rfl) (rc_one _ _ _) (size30_of _ _ _) (fun v' r1 r2 => hK _ _ (fun s hs => by cases hs) ⟨q1.trans (r2.wk (ns := [g4, g5]) (fun i _ h => by simp at h; simp [h])) (fun _ _ h => h), ⟨_, rfl, r1⟩, fun _ => r1, ⟨B0, q5.keep r2 hne.2⟩, fun h => (q6 h).keep r2 hne.2⟩)
      · exact wp_stored (ty := 39) (V := bv (fil 0)) (cs := bc (fil 0)) rfl rfl (eval_tmp (hpar 5 (by simp))) (eval_tmp (hgot 1 _ _ rfl (hdep ⟨1, .data⟩ (by simp) rfl) rfl)) rfl q5 (by rw [bc_length, bc_length]) (bc_one _) (by rw [bc_length]; exact size39) (fun v' r1 r2 => hK _ _ (fun s hs => by cases hs) ⟨q1.trans (r2.wk (ns := [g4, g5]) (fun i _ h => by simp at h; simp [h])) (fun _ _ h => h), ⟨C0, q2, q3.keep r2 hne.1⟩, fun h => (q4 h).keep r2 hne.1, ⟨_, r1⟩, fun _ => r1⟩)
      · exact wp_ran rfl (exec_assign rfl (eval_tmp (hgot 2 _ _ rfl (hdep ⟨2, .data⟩ (by simp) rfl) rfl))) (hK _ _ (fun s hs => by cases hs; rfl) (by simpa using hst))
    case fin =>
      intro l T v hl hst ht hd hpar hgot
      obtain ⟨q1, _, q4, _, q6⟩ := hst
      replace q4 := q4 (hl 3 (by decide))
      replace q6 := q6 (hl 4 (by decide))
      have t4 := hpar 4 (by simp)
      have t5 := hpar 5 (by simp)
      have t6 := hgot 5 _ 6 rfl rfl
      have hT1 := hT.keep ((Mod.drew [g4, g5] wz).trans q1 (fun _ _ h => h)) (fun a ha => by have e1 := hT.ne h4 (by decide) a ha; have e2 := hT.ne h5 (by decide) a ha; simp [e1, e2])
      have mm1 : Mod [] w v := (mm.then (Mod.drew [] wz)).trans q1 (fun i hi h => by have := HG.out; simp at h; omega)
      go_wp2
      refine bodyPost_ret (results_cct rfl _ _ g4 g5 (rc R1 A1 c1) (bc (fil 0)) _ _ _ t4 t5 t6 (Cells.of_holds q4) (Cells.of_holds q6) Try.underlying30 rfl (size30_of _ _ _) Try.underlying39 rfl (by rw [bc_length]; exact size39)) hd ?_
      exact ⟨A1, c1, rfl, hT1, mm1⟩

set_option maxRecDepth 1000000 in
set_option maxHeartbeats 4000000 in
theorem ought2_c (R : RSt) (A : Option Addr) (c : Nat) (kd : Int) (a : Ac) (K : Option Addr) (ck : Nat) (w : World) (hT : Told w R A c) (hF : Fine R 1099511627774) (hk : a.kind = ((IntKind.u64.wrap kd) % 7).toNat) (h3 : a.kind = 2) :
    Calls Try.prog 38 #[rv R A c, .agg (dv kd a K ck).toArray] w (OughtPost w (let r := R.ask 2 0 (fil 0); (fil 0, r.2, r.1))) := by
  have hkz : (a.kind : Int) = 2 := by omega
  obtain ⟨R1, hR1⟩ : ∃ R1, R1 = (R.ask 2 0 (fil 0)).1 := ⟨_, rfl⟩
  obtain ⟨E1, hE1⟩ : ∃ E1, E1 = (R.ask 2 0 (fil 0)).2 := ⟨_, rfl⟩
  have he : R.ask 2 0 (fil 0) = (R1, E1) := by rw [hR1, hE1]
  have XA := fun v (h : Told v R A c) => askr2_c R A c 0 (fil 0) v h (hF.wk (by omega))
  rw [he] at XA ⊢
  clear hR1 hE1 he hF h3
  show Calls Try.prog 38 #[rv R A c, .agg (dv kd a K ck).toArray] w (OughtPost w (fil 0, E1, R1))
  go_enter Try.func38, Try.ntmps38
  go_wp2_with (first
    | (with_reducible refine wpList_boxes (o := ⟨some 2, .box 30 (.tmp 0), _, _, _, _⟩) rfl 30 (.tmp 0) rfl _ rfl (rc R A c) rfl ?_; intro w1 hb1 m1 z1; replace z1 := Lib.hid z1)
    | (with_reducible refine wpList_boxes (o := ⟨some 3, .box 49 (.tmp 1), _, _, _, _⟩) rfl 49 (.tmp 1) rfl _ rfl (dv kd a K ck) rfl ?_; intro w2 hb2 m2 z2; replace z2 := Lib.hid z2; replace hb1 := hb1.keep m2 (by simp))
    | (with_reducible refine wpList_allocs (o := ⟨some 4, .alloc 30, _, _, _, _⟩) rfl 30 rfl _ zero30 ?_; intro w3 hb3 m3 z3; replace z3 := Lib.hid z3; replace hb1 := hb1.keep m3 (by simp); replace hb2 := hb2.keep m3 (by simp))
    | (with_reducible refine wpList_allocs (o := ⟨some 5, .alloc 39, _, _, _, _⟩) rfl 39 rfl _ zero39 ?_; intro w4 hb4 m4 z4; replace z4 := Lib.hid z4; replace hb1 := hb1.keep m4 (by simp); replace hb2 := hb2.keep m4 (by simp); replace hb3 := hb3.keep m4 (by simp))
    | (with_reducible refine wpList_allocs (o := ⟨some 7, .alloc 39, _, _, _, _⟩) rfl 39 rfl _ zero39 ?_; intro w5 hb5 m5 z5; replace z5 := Lib.hid z5; replace hb1 := hb1.keep m5 (by simp); replace hb2 := hb2.keep m5 (by simp); replace hb3 := hb3.keep m5 (by simp); replace hb4 := hb4.keep m5 (by simp))
    | (with_reducible refine wpList_loads (o := ⟨some 9, .load 49 (.tmp 3), _, _, _, _⟩) rfl 49 (.tmp 3) rfl w1.heap.size 0 _ rfl (Cells.of_holds hb2) _ Try.underlying49 rfl (by rw [dv_length]; exact size49) (.agg (dv kd a K ck).toArray) rfl ?_))
  refine (kind_c kd a K ck _ hk).mono ?_
  rintro e wk ⟨rfl, mk⟩
  have mm : Mod [] w wk := ((((m1.then m2).then m3).then m4).then m5).then mk
  have h2 := hb1.keep mk (by simp)
  have h3 := hb2.keep mk (by simp)
  have h4 := hb3.keep mk (by simp)
  have h5 := hb4.keep mk (by simp)
  have h7 := hb5.keep mk (by simp)
  obtain ⟨g2, e2⟩ : ∃ b, b = w.heap.size := ⟨_, rfl⟩
  obtain ⟨g3, e3⟩ : ∃ b, b = w1.heap.size := ⟨_, rfl⟩
  obtain ⟨g4, e4⟩ : ∃ b, b = w2.heap.size := ⟨_, rfl⟩
  obtain ⟨g5, e5⟩ : ∃ b, b = w3.heap.size := ⟨_, rfl⟩
  obtain ⟨g7, e7⟩ : ∃ b, b = w4.heap.size := ⟨_, rfl⟩
  have HG := Lib.hid (show w.heap.size ≤ g2 ∧ g2 < g3 ∧ g3 < g4 ∧ g4 < g5 ∧ g5 < g7 by have := z1.out; have := z2.out; have := z3.out; have := z4.out; omega)
  rw [← e2] at h2
  rw [← e3] at h3
  rw [← e4] at h4
  rw [← e5] at h5
  rw [← e7] at h7
  rw [← e2, ← e3, ← e4, ← e5, ← e7]
  clear e2 e3 e4 e5 e7 hb1 hb2 hb3 hb4 hb5 m1 m2 m3 m4 m5 mk z1 z2 z3 z4 z5
  have k1 := h3.cell 1
  have k2 := h3.cell 2
  have k3 := h3.cell 3
  have k4 := h3.cell 4
  simp only [dv, List.getElem?_cons_succ, List.getElem?_cons_zero] at k1 k2 k3 k4
  replace hT := hT.keep mm (by simp)
  rw [hkz]
  clear hk hkz
  clear k1 k2 k3 k4
  go_wp2_with (first
    | (with_reducible refine wpList_loads (o := ⟨some 42, .load 30 (.tmp 2), _, _, _, _⟩) rfl 30 (.tmp 2) rfl g2 0 _ rfl (Cells.of_holds h2) _ Try.underlying30 rfl (size30_of _ _ _) (rv R A c) rfl ?_)
    | (with_reducible refine wpList_loads (o := ⟨some 43, .load 39 (.tmp 7), _, _, _, _⟩) rfl 39 (.tmp 7) rfl g7 0 _ rfl (Cells.of_holds h7) _ Try.underlying39 rfl (by rw [bc_length]; exact size39) (bv (fil 0)) rfl ?_)
    | (go_at_call 52; refine (XA _ hT).mono ?_; rintro e wy ⟨A1, c1, rfl, hT', my⟩
       replace hT := hT'
       replace h2 := h2.keep my (by simp)
       replace h3 := h3.keep my (by simp)
       replace h4 := h4.keep my (by simp)
       replace h5 := h5.keep my (by simp)
       replace h7 := h7.keep my (by simp)
       replace mm := mm.then my
       have hq2 := h2
       clear hT' my)
    | (with_reducible refine wpList_storesAll (o := ⟨none, .store 30 (.tmp 2) (.tmp 45), _, _, _, _⟩) rfl 30 (.tmp 2) (.tmp 45) rfl rfl g2 (rc R1 A1 c1) rfl (rv R1 A1 c1) rfl rfl 30 _ h2 rfl (rc_one _ _ _) (size30_of _ _ _) ?_; clear h2; intro wz h2 mz zz; replace zz := Lib.hid zz
       have hT0 := hT.keep mz (fun a ha => by simpa using hT.ne hq2 (by decide) a ha)
       replace hT := hT0
       replace h7 := h7.keep mz (by have := HG.out; simp; omega)
       replace h3 := h3.keep mz (by have := HG.out; simp; omega)
       replace h4 := h4.keep mz (by have := HG.out; simp; omega)
       replace h5 := h5.keep mz (by have := HG.out; simp; omega)
       replace mm := mm.trans mz (fun i hi h => by have := HG.out; simp at h; omega)
       clear hT0 mz hq2))
  clear h3 XA
  refine wp_region_det2 74 (fun s => match s with
    | 2 => .pointer (some ⟨g2, 0, none⟩) | 4 => .pointer (some ⟨g4, 0, none⟩) | 5 => .pointer (some ⟨g5, 0, none⟩) | 7 => .pointer (some ⟨g7, 0, none⟩) | 8 => .int .i64 E1 
    | 71 => .agg (rc R1 A1 c1).toArray | 72 => bv (fil 0) | 73 => .int .i64 E1 | 6 => .int .i64 E1 | _ => undef) [2, 4, 5, 7, 8]
    (fun l v => OSt wz.drew g4 g5 (rc R1 A1 c1) (fil 0) (l 3) (l 4) v) []
    (by kernel_rfl) rfl rfl (by intro s hs; simp at hs; rcases hs with rfl | rfl | rfl | rfl | rfl <;> rfl) ⟨Mod.refl _ _, ⟨_, rfl, h4⟩, (fun q => by cases q), ⟨_, h5⟩, (fun q => by cases q)⟩ (drawn2B_lt (nt := 74) (by kernel_rfl)) (drawn2B_dst (by kernel_rfl)) ?step ?fin
  case step =>
    intro l T v j o hj hlj hdep hst hpar hgot Kq hK
    have hjn : j < 6 := (Array.getElem?_eq_some_iff.1 hj).1
    have h2d : Holds v g2 30 (rc R1 A1 c1) := (show Holds wz.drew g2 30 (rc R1 A1 c1) from h2).keep hst.1 (by have := HG.out; simp; omega)
    have h7d : Holds v g7 39 (bc (fil 0)) := (show Holds wz.drew g7 39 (bc (fil 0)) from h7).keep hst.1 (by have := HG.out; simp; omega)
    have hne : g4 ∉ [g5] ∧ g5 ∉ [g4] := by have := HG.out; simp; omega
    obtain ⟨q1, ⟨C0, q2, q3⟩, q4, ⟨B0, q5⟩, q6⟩ := id hst
    obtain rfl | rfl | rfl | rfl | rfl | rfl : j = 0 ∨ j = 1 ∨ j = 2 ∨ j = 3 ∨ j = 4 ∨ j = 5 := by omega
    all_goals (have hj' := Option.some.inj (hj : some _ = some o); subst hj'; clear hj)
    · exact wp_ran rfl (exec_load rfl (eval_tmp (hpar 2 (by simp))) (run_loads (Cells.of_holds h2d) Try.underlying30 rfl (size30_of _ _ _))) (hK _ _ (fun s hs => by cases hs; rfl) (by simpa using hst))
    · exact wp_ran rfl (exec_load rfl (eval_tmp (hpar 7 (by simp))) (run_loads (Cells.of_holds h7d) Try.underlying39 rfl (by rw [bc_length]; exact size39))) (hK _ _ (fun s hs => by cases hs; rfl) (by simpa using hst))
    · exact wp_ran rfl (exec_move rfl (eval_tmp (hpar 8 (by simp)))) (hK _ _ (fun s hs => by cases hs; rfl) (by simpa using hst))
    · exact wp_stored (ty := 30) (V := .agg (rc R1 A1 c1).toArray) (cs := (rc R1 A1 c1)) rfl rfl (eval_tmp (hpar 4 (by simp))) (eval_tmp (hgot 0 _ _ rfl (hdep ⟨0, .data⟩ (by simp) rfl) rfl)) rfl q3 (by rw [q2]; rfl) (rc_one _ _ _) (size30_of _ _ _) (fun v' r1 r2 => hK _ _ (fun s hs => by cases hs) ⟨q1.trans (r2.wk (ns := [g4, g5]) (fun i _ h => by simp at h; simp [h])) (fun _ _ h => h), ⟨_, rfl, r1⟩, fun _ => r1, ⟨B0, q5.keep r2 hne.2⟩, fun h => (q6 h).keep r2 hne.2⟩)
    · exact wp_stored (ty := 39) (V := bv (fil 0)) (cs := bc (fil 0)) rfl rfl (eval_tmp (hpar 5 (by simp))) (eval_tmp (hgot 1 _ _ rfl (hdep ⟨1, .data⟩ (by simp) rfl) rfl)) rfl q5 (by rw [bc_length, bc_length]) (bc_one _) (by rw [bc_length]; exact size39) (fun v' r1 r2 => hK _ _ (fun s hs => by cases hs) ⟨q1.trans (r2.wk (ns := [g4, g5]) (fun i _ h => by simp at h; simp [h])) (fun _ _ h => h), ⟨C0, q2, q3.keep r2 hne.1⟩, fun h => (q4 h).keep r2 hne.1, ⟨_, r1⟩, fun _ => r1⟩)
    · exact wp_ran rfl (exec_assign rfl (eval_tmp (hgot 2 _ _ rfl (hdep ⟨2, .data⟩ (by simp) rfl) rfl))) (hK _ _ (fun s hs => by cases hs; rfl) (by simpa using hst))
  case fin =>
    intro l T v hl hst ht hd hpar hgot
    obtain ⟨q1, _, q4, _, q6⟩ := hst
    replace q4 := q4 (hl 3 (by decide))
    replace q6 := q6 (hl 4 (by decide))
    have t4 := hpar 4 (by simp)
    have t5 := hpar 5 (by simp)
    have t6 := hgot 5 _ 6 rfl rfl
    have hT1 := hT.keep ((Mod.drew [g4, g5] wz).trans q1 (fun _ _ h => h)) (fun a ha => by have e1 := hT.ne h4 (by decide) a ha; have e2 := hT.ne h5 (by decide) a ha; simp [e1, e2])
    have mm1 : Mod [] w v := (mm.then (Mod.drew [] wz)).trans q1 (fun i hi h => by have := HG.out; simp at h; omega)
    go_wp2
    refine bodyPost_ret (results_cct rfl _ _ g4 g5 (rc R1 A1 c1) (bc (fil 0)) _ _ _ t4 t5 t6 (Cells.of_holds q4) (Cells.of_holds q6) Try.underlying30 rfl (size30_of _ _ _) Try.underlying39 rfl (by rw [bc_length]; exact size39)) hd ?_
    exact ⟨A1, c1, rfl, hT1, mm1⟩

set_option maxRecDepth 1000000 in
set_option maxHeartbeats 4000000 in
theorem ought3o_c (R : RSt) (A : Option Addr) (c : Nat) (kd : Int) (a : Ac) (K : Option Addr) (ck : Nat) (w : World) (hT : Told w R A c) (_ : Fine R 1099511627774) (hk : a.kind = ((IntKind.u64.wrap kd) % 7).toNat) (h3 : a.kind = 3) (hout : R.out = true) :
    Calls Try.prog 38 #[rv R A c, .agg (dv kd a K ck).toArray] w (OughtPost w (fil 0, 9, R)) := by
  have hkz : (a.kind : Int) = 3 := by omega
  clear h3
  go_enter Try.func38, Try.ntmps38
  go_wp2_with (first
    | (with_reducible refine wpList_boxes (o := ⟨some 2, .box 30 (.tmp 0), _, _, _, _⟩) rfl 30 (.tmp 0) rfl _ rfl (rc R A c) rfl ?_; intro w1 hb1 m1 z1; replace z1 := Lib.hid z1)
    | (with_reducible refine wpList_boxes (o := ⟨some 3, .box 49 (.tmp 1), _, _, _, _⟩) rfl 49 (.tmp 1) rfl _ rfl (dv kd a K ck) rfl ?_; intro w2 hb2 m2 z2; replace z2 := Lib.hid z2; replace hb1 := hb1.keep m2 (by simp))
    | (with_reducible refine wpList_allocs (o := ⟨some 4, .alloc 30, _, _, _, _⟩) rfl 30 rfl _ zero30 ?_; intro w3 hb3 m3 z3; replace z3 := Lib.hid z3; replace hb1 := hb1.keep m3 (by simp); replace hb2 := hb2.keep m3 (by simp))
    | (with_reducible refine wpList_allocs (o := ⟨some 5, .alloc 39, _, _, _, _⟩) rfl 39 rfl _ zero39 ?_; intro w4 hb4 m4 z4; replace z4 := Lib.hid z4; replace hb1 := hb1.keep m4 (by simp); replace hb2 := hb2.keep m4 (by simp); replace hb3 := hb3.keep m4 (by simp))
    | (with_reducible refine wpList_allocs (o := ⟨some 7, .alloc 39, _, _, _, _⟩) rfl 39 rfl _ zero39 ?_; intro w5 hb5 m5 z5; replace z5 := Lib.hid z5; replace hb1 := hb1.keep m5 (by simp); replace hb2 := hb2.keep m5 (by simp); replace hb3 := hb3.keep m5 (by simp); replace hb4 := hb4.keep m5 (by simp))
    | (with_reducible refine wpList_loads (o := ⟨some 9, .load 49 (.tmp 3), _, _, _, _⟩) rfl 49 (.tmp 3) rfl w1.heap.size 0 _ rfl (Cells.of_holds hb2) _ Try.underlying49 rfl (by rw [dv_length]; exact size49) (.agg (dv kd a K ck).toArray) rfl ?_))
  refine (kind_c kd a K ck _ hk).mono ?_
  rintro e wk ⟨rfl, mk⟩
  have mm : Mod [] w wk := ((((m1.then m2).then m3).then m4).then m5).then mk
  have h2 := hb1.keep mk (by simp)
  have h3 := hb2.keep mk (by simp)
  have h4 := hb3.keep mk (by simp)
  have h5 := hb4.keep mk (by simp)
  have h7 := hb5.keep mk (by simp)
  obtain ⟨g2, e2⟩ : ∃ b, b = w.heap.size := ⟨_, rfl⟩
  obtain ⟨g3, e3⟩ : ∃ b, b = w1.heap.size := ⟨_, rfl⟩
  obtain ⟨g4, e4⟩ : ∃ b, b = w2.heap.size := ⟨_, rfl⟩
  obtain ⟨g5, e5⟩ : ∃ b, b = w3.heap.size := ⟨_, rfl⟩
  obtain ⟨g7, e7⟩ : ∃ b, b = w4.heap.size := ⟨_, rfl⟩
  have HG := Lib.hid (show w.heap.size ≤ g2 ∧ g2 < g3 ∧ g3 < g4 ∧ g4 < g5 ∧ g5 < g7 by have := z1.out; have := z2.out; have := z3.out; have := z4.out; omega)
  rw [← e2] at h2
  rw [← e3] at h3
  rw [← e4] at h4
  rw [← e5] at h5
  rw [← e7] at h7
  rw [← e2, ← e3, ← e4, ← e5, ← e7]
  clear e2 e3 e4 e5 e7 hb1 hb2 hb3 hb4 hb5 m1 m2 m3 m4 m5 mk z1 z2 z3 z4 z5
  have k1 := h3.cell 1
  have k2 := h3.cell 2
  have k3 := h3.cell 3
  have k4 := h3.cell 4
  simp only [dv, List.getElem?_cons_succ, List.getElem?_cons_zero] at k1 k2 k3 k4
  replace hT := hT.keep mm (by simp)
  rw [hkz]
  clear hk hkz
  have j3 := h2.cell 3
  simp only [rc, List.getElem?_cons_succ, List.getElem?_cons_zero] at j3
  rw [hout] at j3
  clear k1 k2 k3 k4 hout
  go_wp2_with fail
  clear j3 h3
  obtain ⟨wz, hwz⟩ : ∃ v, v = wk := ⟨_, rfl⟩
  rw [← hwz] at h2 h4 h5 h7 hT mm ⊢
  clear hwz
  refine wp_region_det2 74 (fun s => match s with
    | 2 => .pointer (some ⟨g2, 0, none⟩) | 4 => .pointer (some ⟨g4, 0, none⟩) | 5 => .pointer (some ⟨g5, 0, none⟩) | 7 => .pointer (some ⟨g7, 0, none⟩) 
    | 52 => .agg (rc R A c).toArray | 53 => bv (fil 0) | 6 => .int .i64 9 | _ => undef) [2, 4, 5, 7]
    (fun l v => OSt wz.drew g4 g5 (rc R A c) (fil 0) (l 2) (l 3) v) []
    (by kernel_rfl) rfl rfl (by intro s hs; simp at hs; rcases hs with rfl | rfl | rfl | rfl <;> rfl) ⟨Mod.refl _ _, ⟨_, rfl, h4⟩, (fun q => by cases q), ⟨_, h5⟩, (fun q => by cases q)⟩ (drawn2B_lt (nt := 74) (by kernel_rfl)) (drawn2B_dst (by kernel_rfl)) ?step ?fin
  case step =>
    intro l T v j o hj hlj hdep hst hpar hgot Kq hK
    have hjn : j < 5 := (Array.getElem?_eq_some_iff.1 hj).1
    have h2d : Holds v g2 30 (rc R A c) := (show Holds wz.drew g2 30 (rc R A c) from h2).keep hst.1 (by have := HG.out; simp; omega)
    have h7d : Holds v g7 39 (bc (fil 0)) := (show Holds wz.drew g7 39 (bc (fil 0)) from h7).keep hst.1 (by have := HG.out; simp; omega)
    have hne : g4 ∉ [g5] ∧ g5 ∉ [g4] := by have := HG.out; simp; omega
    obtain ⟨q1, ⟨C0, q2, q3⟩, q4, ⟨B0, q5⟩, q6⟩ := id hst
    obtain rfl | rfl | rfl | rfl | rfl : j = 0 ∨ j = 1 ∨ j = 2 ∨ j = 3 ∨ j = 4 := by omega
    all_goals (have hj' := Option.some.inj (hj : some _ = some o); subst hj'; clear hj)
    · exact wp_ran rfl (exec_load rfl (eval_tmp (hpar 2 (by simp))) (run_loads (Cells.of_holds h2d) Try.underlying30 rfl (size30_of _ _ _))) (hK _ _ (fun s hs => by cases hs; rfl) (by simpa using hst))
    · exact wp_ran rfl (exec_load rfl (eval_tmp (hpar 7 (by simp))) (run_loads (Cells.of_holds h7d) Try.underlying39 rfl (by rw [bc_length]; exact size39))) (hK _ _ (fun s hs => by cases hs; rfl) (by simpa using hst))
    · exact wp_stored (ty := 30) (V := .agg (rc R A c).toArray) (cs := (rc R A c)) rfl rfl (eval_tmp (hpar 4 (by simp))) (eval_tmp (hgot 0 _ _ rfl (hdep ⟨0, .data⟩ (by simp) rfl) rfl)) rfl q3 (by rw [q2]; rfl) (rc_one _ _ _) (size30_of _ _ _) (fun v' r1 r2 => hK _ _ (fun s hs => by cases hs) ⟨q1.trans (r2.wk (ns := [g4, g5]) (fun i _ h => by simp at h; simp [h])) (fun _ _ h => h), ⟨_, rfl, r1⟩, fun _ => r1, ⟨B0, q5.keep r2 hne.2⟩, fun h => (q6 h).keep r2 hne.2⟩)
    · exact wp_stored (ty := 39) (V := bv (fil 0)) (cs := bc (fil 0)) rfl rfl (eval_tmp (hpar 5 (by simp))) (eval_tmp (hgot 1 _ _ rfl (hdep ⟨1, .data⟩ (by simp) rfl) rfl)) rfl q5 (by rw [bc_length, bc_length]) (bc_one _) (by rw [bc_length]; exact size39) (fun v' r1 r2 => hK _ _ (fun s hs => by cases hs) ⟨q1.trans (r2.wk (ns := [g4, g5]) (fun i _ h => by simp at h; simp [h])) (fun _ _ h => h), ⟨C0, q2, q3.keep r2 hne.1⟩, fun h => (q4 h).keep r2 hne.1, ⟨_, r1⟩, fun _ => r1⟩)
    · exact wp_ran rfl (exec_assign rfl rfl) (hK _ _ (fun s hs => by cases hs; rfl) (by simpa using hst))
  case fin =>
    intro l T v hl hst ht hd hpar hgot
    obtain ⟨q1, _, q4, _, q6⟩ := hst
    replace q4 := q4 (hl 2 (by decide))
    replace q6 := q6 (hl 3 (by decide))
    have t4 := hpar 4 (by simp)
    have t5 := hpar 5 (by simp)
    have t6 := hgot 4 _ 6 rfl rfl
    have hT1 := hT.keep ((Mod.drew [g4, g5] wz).trans q1 (fun _ _ h => h)) (fun a ha => by have e1 := hT.ne h4 (by decide) a ha; have e2 := hT.ne h5 (by decide) a ha; simp [e1, e2])
    have mm1 : Mod [] w v := (mm.then (Mod.drew [] wz)).trans q1 (fun i hi h => by have := HG.out; simp at h; omega)
    go_wp2
    refine bodyPost_ret (results_cct rfl _ _ g4 g5 (rc R A c) (bc (fil 0)) _ _ _ t4 t5 t6 (Cells.of_holds q4) (Cells.of_holds q6) Try.underlying30 rfl (size30_of _ _ _) Try.underlying39 rfl (by rw [bc_length]; exact size39)) hd ?_
    exact ⟨A, c, rfl, hT1, mm1⟩

set_option maxRecDepth 1000000 in
set_option maxHeartbeats 4000000 in
theorem ought3i_c (R : RSt) (A : Option Addr) (c : Nat) (kd : Int) (a : Ac) (K : Option Addr) (ck : Nat) (w : World) (hT : Told w R A c) (_ : Fine R 1099511627774) (hk : a.kind = ((IntKind.u64.wrap kd) % 7).toNat) (h3 : a.kind = 3) (hout : R.out = false) :
    Calls Try.prog 38 #[rv R A c, .agg (dv kd a K ck).toArray] w (OughtPost w (fil 0, 0, { R with arms := max a.n (-1) })) := by
  have hkz : (a.kind : Int) = 3 := by omega
  have hkz2 := hk
  have HK := Lib.hid hk
  have h3z : (a.kind : Int) = 3 := hkz
  have H3 := Lib.hid h3z
  clear h3 hkz2 h3z
  go_enter Try.func38, Try.ntmps38
  go_wp2_with (first
    | (with_reducible refine wpList_boxes (o := ⟨some 2, .box 30 (.tmp 0), _, _, _, _⟩) rfl 30 (.tmp 0) rfl _ rfl (rc R A c) rfl ?_; intro w1 hb1 m1 z1; replace z1 := Lib.hid z1)
    | (with_reducible refine wpList_boxes (o := ⟨some 3, .box 49 (.tmp 1), _, _, _, _⟩) rfl 49 (.tmp 1) rfl _ rfl (dv kd a K ck) rfl ?_; intro w2 hb2 m2 z2; replace z2 := Lib.hid z2; replace hb1 := hb1.keep m2 (by simp))
    | (with_reducible refine wpList_allocs (o := ⟨some 4, .alloc 30, _, _, _, _⟩) rfl 30 rfl _ zero30 ?_; intro w3 hb3 m3 z3; replace z3 := Lib.hid z3; replace hb1 := hb1.keep m3 (by simp); replace hb2 := hb2.keep m3 (by simp))
    | (with_reducible refine wpList_allocs (o := ⟨some 5, .alloc 39, _, _, _, _⟩) rfl 39 rfl _ zero39 ?_; intro w4 hb4 m4 z4; replace z4 := Lib.hid z4; replace hb1 := hb1.keep m4 (by simp); replace hb2 := hb2.keep m4 (by simp); replace hb3 := hb3.keep m4 (by simp))
    | (with_reducible refine wpList_allocs (o := ⟨some 7, .alloc 39, _, _, _, _⟩) rfl 39 rfl _ zero39 ?_; intro w5 hb5 m5 z5; replace z5 := Lib.hid z5; replace hb1 := hb1.keep m5 (by simp); replace hb2 := hb2.keep m5 (by simp); replace hb3 := hb3.keep m5 (by simp); replace hb4 := hb4.keep m5 (by simp))
    | (with_reducible refine wpList_loads (o := ⟨some 9, .load 49 (.tmp 3), _, _, _, _⟩) rfl 49 (.tmp 3) rfl w1.heap.size 0 _ rfl (Cells.of_holds hb2) _ Try.underlying49 rfl (by rw [dv_length]; exact size49) (.agg (dv kd a K ck).toArray) rfl ?_))
  refine (kind_c kd a K ck _ hk).mono ?_
  rintro e wk ⟨rfl, mk⟩
  have mm : Mod [] w wk := ((((m1.then m2).then m3).then m4).then m5).then mk
  have h2 := hb1.keep mk (by simp)
  have h3 := hb2.keep mk (by simp)
  have h4 := hb3.keep mk (by simp)
  have h5 := hb4.keep mk (by simp)
  have h7 := hb5.keep mk (by simp)
  obtain ⟨g2, e2⟩ : ∃ b, b = w.heap.size := ⟨_, rfl⟩
  obtain ⟨g3, e3⟩ : ∃ b, b = w1.heap.size := ⟨_, rfl⟩
  obtain ⟨g4, e4⟩ : ∃ b, b = w2.heap.size := ⟨_, rfl⟩
  obtain ⟨g5, e5⟩ : ∃ b, b = w3.heap.size := ⟨_, rfl⟩
  obtain ⟨g7, e7⟩ : ∃ b, b = w4.heap.size := ⟨_, rfl⟩
  have HG := Lib.hid (show w.heap.size ≤ g2 ∧ g2 < g3 ∧ g3 < g4 ∧ g4 < g5 ∧ g5 < g7 by have := z1.out; have := z2.out; have := z3.out; have := z4.out; omega)
  rw [← e2] at h2
  rw [← e3] at h3
  rw [← e4] at h4
  rw [← e5] at h5
  rw [← e7] at h7
  rw [← e2, ← e3, ← e4, ← e5, ← e7]
  clear e2 e3 e4 e5 e7 hb1 hb2 hb3 hb4 hb5 m1 m2 m3 m4 m5 mk z1 z2 z3 z4 z5
  have k1 := h3.cell 1
  have k2 := h3.cell 2
  have k3 := h3.cell 3
  have k4 := h3.cell 4
  simp only [dv, List.getElem?_cons_succ, List.getElem?_cons_zero] at k1 k2 k3 k4
  replace hT := hT.keep mm (by simp)
  rw [hkz]
  clear hk hkz
  have j3 := h2.cell 3
  simp only [rc, List.getElem?_cons_succ, List.getElem?_cons_zero] at j3
  rw [hout] at j3
  have f4 := h2.free 4
  have j4 := h2.cell 4
  simp only [rc, List.getElem?_cons_succ, List.getElem?_cons_zero] at j4
  clear k1 k3 k4 hout
  go_wp2_with (first
    | (with_reducible refine wpList_loads (o := ⟨some 54, .load 49 (.tmp 3), _, _, _, _⟩) rfl 49 (.tmp 3) rfl g3 0 _ rfl (Cells.of_holds h3) _ Try.underlying49 rfl (by rw [dv_length]; exact size49) (.agg (dv kd a K ck).toArray) rfl ?_)
    | (go_at_call 34; refine (kind_c kd a K ck _ HK.out).mono ?_; rw [H3.out]; rintro e wy ⟨rfl, my⟩
       replace hT := hT.keep my (by simp)
       replace h2 := h2.keep my (by simp)
       replace h3 := h3.keep my (by simp)
       replace h4 := h4.keep my (by simp)
       replace h5 := h5.keep my (by simp)
       replace h7 := h7.keep my (by simp)
       replace mm := mm.then my
       have k2 := h3.cell 2
       simp only [dv, List.getElem?_cons_succ, List.getElem?_cons_zero] at k2
       have f4 := h2.free 4
       have j4 := h2.cell 4
       simp only [rc, List.getElem?_cons_succ, List.getElem?_cons_zero] at j4
       clear my)
    | (with_reducible refine wpList_ranW (o := ⟨some 59, .call _, _, _, _, _⟩) (by with_unfolding_all rfl) (.int .i64 (max a.n (-1))) wy (exec_max rfl rfl rfl) ?_)
    | (with_reducible refine wpList_put (o := ⟨none, .store 3 (.tmp 60) (.tmp 59), _, _, _, _⟩) rfl 3 (.tmp 60) (.tmp 59) rfl rfl g2 4 rfl (.int .i64 (max a.n (-1))) rfl (one_int _ _) one3 30 _ h2 (by rw [rc_length]; decide) ?_
       intro wz hn mz
       have hT0 := hT.keep mz (fun a ha => by simpa using hT.ne h2 (by decide) a ha)
       replace hT := hT0
       replace h2 := hn
       replace h7 := h7.keep mz (by have := HG.out; simp; omega)
       replace h4 := h4.keep mz (by have := HG.out; simp; omega)
       replace h5 := h5.keep mz (by have := HG.out; simp; omega)
       replace mm := mm.trans mz (fun i hi h => by have := HG.out; simp at h; omega)
       clear hT0 mz hn))
  clear h3 k2 HK H3
  obtain ⟨R1, hR1⟩ : ∃ v, v = { R with arms := max a.n (-1) } := ⟨_, rfl⟩
  obtain ⟨A1, hA1⟩ : ∃ v, v = A := ⟨_, rfl⟩
  obtain ⟨c1, hc1⟩ : ∃ v, v = c := ⟨_, rfl⟩
  replace h2 : Holds wz g2 30 (rc R1 A1 c1) := by rw [hR1, hA1, hc1]; exact h2
  replace hT : Told wz R1 A1 c1 := by rw [hR1, hA1, hc1]; exact hT
  have HR1 := Lib.hid hR1
  clear hR1 hA1 hc1
  refine wp_region_det2 74 (fun s => match s with
    | 2 => .pointer (some ⟨g2, 0, none⟩) | 4 => .pointer (some ⟨g4, 0, none⟩) | 5 => .pointer (some ⟨g5, 0, none⟩) | 7 => .pointer (some ⟨g7, 0, none⟩) | 8 => .int .i64 0 
    | 71 => .agg (rc R1 A1 c1).toArray | 72 => bv (fil 0) | 73 => .int .i64 0 | 6 => .int .i64 0 | _ => undef) [2, 4, 5, 7, 8]
    (fun l v => OSt wz.drew g4 g5 (rc R1 A1 c1) (fil 0) (l 3) (l 4) v) []
    (by kernel_rfl) rfl rfl (by intro s hs; simp at hs; rcases hs with rfl | rfl | rfl | rfl | rfl <;> rfl) ⟨Mod.refl _ _, ⟨_, rfl, h4⟩, (fun q => by cases q), ⟨_, h5⟩, (fun q => by cases q)⟩ (drawn2B_lt (nt := 74) (by kernel_rfl)) (drawn2B_dst (by kernel_rfl)) ?step ?fin
  case step =>
    intro l T v j o hj hlj hdep hst hpar hgot Kq hK
    have hjn : j < 6 := (Array.getElem?_eq_some_iff.1 hj).1
    have h2d : Holds v g2 30 (rc R1 A1 c1) := (show Holds wz.drew g2 30 (rc R1 A1 c1) from h2).keep hst.1 (by have := HG.out; simp; omega)
    have h7d : Holds v g7 39 (bc (fil 0)) := (show Holds wz.drew g7 39 (bc (fil 0)) from h7).keep hst.1 (by have := HG.out; simp; omega)
    have hne : g4 ∉ [g5] ∧ g5 ∉ [g4] := by have := HG.out; simp; omega
    obtain ⟨q1, ⟨C0, q2, q3⟩, q4, ⟨B0, q5⟩, q6⟩ := id hst
    obtain rfl | rfl | rfl | rfl | rfl | rfl : j = 0 ∨ j = 1 ∨ j = 2 ∨ j = 3 ∨ j = 4 ∨ j = 5 := by omega
    all_goals (have hj' := Option.some.inj (hj : some _ = some o); subst hj'; clear hj)
    · exact wp_ran rfl (exec_load rfl (eval_tmp (hpar 2 (by simp))) (run_loads (Cells.of_holds h2d) Try.underlying30 rfl (size30_of _ _ _))) (hK _ _ (fun s hs => by cases hs; rfl) (by simpa using hst))
    · exact wp_ran rfl (exec_load rfl (eval_tmp (hpar 7 (by simp))) (run_loads (Cells.of_holds h7d) Try.underlying39 rfl (by rw [bc_length]; exact size39))) (hK _ _ (fun s hs => by cases hs; rfl) (by simpa using hst))
    · exact wp_ran rfl (exec_move rfl (eval_tmp (hpar 8 (by simp)))) (hK _ _ (fun s hs => by cases hs; rfl) (by simpa using hst))
    · exact wp_stored (ty := 30) (V := .agg (rc R1 A1 c1).toArray) (cs := (rc R1 A1 c1)) rfl rfl (eval_tmp (hpar 4 (by simp))) (eval_tmp (hgot 0 _ _ rfl (hdep ⟨0, .data⟩ (by simp) rfl) rfl)) rfl q3 (by rw [q2]; rfl) (rc_one _ _ _) (size30_of _ _ _) (fun v' r1 r2 => hK _ _ (fun s hs => by cases hs) ⟨q1.trans (r2.wk (ns := [g4, g5]) (fun i _ h => by simp at h; simp [h])) (fun _ _ h => h), ⟨_, rfl, r1⟩, fun _ => r1, ⟨B0, q5.keep r2 hne.2⟩, fun h => (q6 h).keep r2 hne.2⟩)
    · exact wp_stored (ty := 39) (V := bv (fil 0)) (cs := bc (fil 0)) rfl rfl (eval_tmp (hpar 5 (by simp))) (eval_tmp (hgot 1 _ _ rfl (hdep ⟨1, .data⟩ (by simp) rfl) rfl)) rfl q5 (by rw [bc_length, bc_length]) (bc_one _) (by rw [bc_length]; exact size39) (fun v' r1 r2 => hK _ _ (fun s hs => by cases hs) ⟨q1.trans (r2.wk (ns := [g4, g5]) (fun i _ h => by simp at h; simp [h])) (fun _ _ h => h), ⟨C0, q2, q3.keep r2 hne.1⟩, fun h => (q4 h).keep r2 hne.1, ⟨_, r1⟩, fun _ => r1⟩)
    · exact wp_ran rfl (exec_assign rfl (eval_tmp (hgot 2 _ _ rfl (hdep ⟨2, .data⟩ (by simp) rfl) rfl))) (hK _ _ (fun s hs => by cases hs; rfl) (by simpa using hst))
  case fin =>
    intro l T v hl hst ht hd hpar hgot
    obtain ⟨q1, _, q4, _, q6⟩ := hst
    replace q4 := q4 (hl 3 (by decide))
    replace q6 := q6 (hl 4 (by decide))
    have t4 := hpar 4 (by simp)
    have t5 := hpar 5 (by simp)
    have t6 := hgot 5 _ 6 rfl rfl
    have hT1 := hT.keep ((Mod.drew [g4, g5] wz).trans q1 (fun _ _ h => h)) (fun a ha => by have e1 := hT.ne h4 (by decide) a ha; have e2 := hT.ne h5 (by decide) a ha; simp [e1, e2])
    have mm1 : Mod [] w v := (mm.then (Mod.drew [] wz)).trans q1 (fun i hi h => by have := HG.out; simp at h; omega)
    go_wp2
    refine bodyPost_ret (results_cct rfl _ _ g4 g5 (rc R1 A1 c1) (bc (fil 0)) _ _ _ t4 t5 t6 (Cells.of_holds q4) (Cells.of_holds q6) Try.underlying30 rfl (size30_of _ _ _) Try.underlying39 rfl (by rw [bc_length]; exact size39)) hd ?_
    have hR1 := HR1.out
    subst hR1
    exact ⟨A1, c1, rfl, hT1, mm1⟩

set_option maxRecDepth 1000000 in
set_option maxHeartbeats 4000000 in
theorem ought4o_c (R : RSt) (A : Option Addr) (c : Nat) (kd : Int) (a : Ac) (K : Option Addr) (ck : Nat) (w : World) (hT : Told w R A c) (_ : Fine R 1099511627774) (hk : a.kind = ((IntKind.u64.wrap kd) % 7).toNat) (h3 : a.kind = 4) (hout : R.out = true) :
    Calls Try.prog 38 #[rv R A c, .agg (dv kd a K ck).toArray] w (OughtPost w (fil 0, 9, R)) := by
  have hkz : (a.kind : Int) = 4 := by omega
  clear h3
  go_enter Try.func38, Try.ntmps38
  go_wp2_with (first
    | (with_reducible refine wpList_boxes (o := ⟨some 2, .box 30 (.tmp 0), _, _, _, _⟩) rfl 30 (.tmp 0) rfl _ rfl (rc R A c) rfl ?_; intro w1 hb1 m1 z1; replace z1 := Lib.hid z1)
    | (with_reducible refine wpList_boxes (o := ⟨some 3, .box 49 (.tmp 1), _, _, _, _⟩) rfl 49 (.tmp 1) rfl _ rfl (dv kd a K ck) rfl ?_; intro w2 hb2 m2 z2; replace z2 := Lib.hid z2; replace hb1 := hb1.keep m2 (by simp))
    | (with_reducible refine wpList_allocs (o := ⟨some 4, .alloc 30, _, _, _, _⟩) rfl 30 rfl _ zero30 ?_; intro w3 hb3 m3 z3; replace z3 := Lib.hid z3; replace hb1 := hb1.keep m3 (by simp); replace hb2 := hb2.keep m3 (by simp))
    | (with_reducible refine wpList_allocs (o := ⟨some 5, .alloc 39, _, _, _, _⟩) rfl 39 rfl _ zero39 ?_; intro w4 hb4 m4 z4; replace z4 := Lib.hid z4; replace hb1 := hb1.keep m4 (by simp); replace hb2 := hb2.keep m4 (by simp); replace hb3 := hb3.keep m4 (by simp))
    | (with_reducible refine wpList_allocs (o := ⟨some 7, .alloc 39, _, _, _, _⟩) rfl 39 rfl _ zero39 ?_; intro w5 hb5 m5 z5; replace z5 := Lib.hid z5; replace hb1 := hb1.keep m5 (by simp); replace hb2 := hb2.keep m5 (by simp); replace hb3 := hb3.keep m5 (by simp); replace hb4 := hb4.keep m5 (by simp))
    | (with_reducible refine wpList_loads (o := ⟨some 9, .load 49 (.tmp 3), _, _, _, _⟩) rfl 49 (.tmp 3) rfl w1.heap.size 0 _ rfl (Cells.of_holds hb2) _ Try.underlying49 rfl (by rw [dv_length]; exact size49) (.agg (dv kd a K ck).toArray) rfl ?_))
  refine (kind_c kd a K ck _ hk).mono ?_
  rintro e wk ⟨rfl, mk⟩
  have mm : Mod [] w wk := ((((m1.then m2).then m3).then m4).then m5).then mk
  have h2 := hb1.keep mk (by simp)
  have h3 := hb2.keep mk (by simp)
  have h4 := hb3.keep mk (by simp)
  have h5 := hb4.keep mk (by simp)
  have h7 := hb5.keep mk (by simp)
  obtain ⟨g2, e2⟩ : ∃ b, b = w.heap.size := ⟨_, rfl⟩
  obtain ⟨g3, e3⟩ : ∃ b, b = w1.heap.size := ⟨_, rfl⟩
  obtain ⟨g4, e4⟩ : ∃ b, b = w2.heap.size := ⟨_, rfl⟩
  obtain ⟨g5, e5⟩ : ∃ b, b = w3.heap.size := ⟨_, rfl⟩
  obtain ⟨g7, e7⟩ : ∃ b, b = w4.heap.size := ⟨_, rfl⟩
  have HG := Lib.hid (show w.heap.size ≤ g2 ∧ g2 < g3 ∧ g3 < g4 ∧ g4 < g5 ∧ g5 < g7 by have := z1.out; have := z2.out; have := z3.out; have := z4.out; omega)
  rw [← e2] at h2
  rw [← e3] at h3
  rw [← e4] at h4
  rw [← e5] at h5
  rw [← e7] at h7
  rw [← e2, ← e3, ← e4, ← e5, ← e7]
  clear e2 e3 e4 e5 e7 hb1 hb2 hb3 hb4 hb5 m1 m2 m3 m4 m5 mk z1 z2 z3 z4 z5
  have k1 := h3.cell 1
  have k2 := h3.cell 2
  have k3 := h3.cell 3
  have k4 := h3.cell 4
  simp only [dv, List.getElem?_cons_succ, List.getElem?_cons_zero] at k1 k2 k3 k4
  replace hT := hT.keep mm (by simp)
  rw [hkz]
  clear hk hkz
  have j3 := h2.cell 3
  simp only [rc, List.getElem?_cons_succ, List.getElem?_cons_zero] at j3
  rw [hout] at j3
  clear k1 k2 k3 k4 hout
  go_wp2_with fail
  clear j3 h3
  obtain ⟨wz, hwz⟩ : ∃ v, v = wk := ⟨_, rfl⟩
  rw [← hwz] at h2 h4 h5 h7 hT mm ⊢
  clear hwz
  refine wp_region_det2 74 (fun s => match s with
    | 2 => .pointer (some ⟨g2, 0, none⟩) | 4 => .pointer (some ⟨g4, 0, none⟩) | 5 => .pointer (some ⟨g5, 0, none⟩) | 7 => .pointer (some ⟨g7, 0, none⟩) 
    | 52 => .agg (rc R A c).toArray | 53 => bv (fil 0) | 6 => .int .i64 9 | _ => undef) [2, 4, 5, 7]
    (fun l v => OSt wz.drew g4 g5 (rc R A c) (fil 0) (l 2) (l 3) v) []
    (by kernel_rfl) rfl rfl (by intro s hs; simp at hs; rcases hs with rfl | rfl | rfl | rfl <;> rfl) ⟨Mod.refl _ _, ⟨_, rfl, h4⟩, (fun q => by cases q), ⟨_, h5⟩, (fun q => by cases q)⟩ (drawn2B_lt (nt := 74) (by kernel_rfl)) (drawn2B_dst (by kernel_rfl)) ?step ?fin
  case step =>
    intro l T v j o hj hlj hdep hst hpar hgot Kq hK
    have hjn : j < 5 := (Array.getElem?_eq_some_iff.1 hj).1
    have h2d : Holds v g2 30 (rc R A c) := (show Holds wz.drew g2 30 (rc R A c) from h2).keep hst.1 (by have := HG.out; simp; omega)
    have h7d : Holds v g7 39 (bc (fil 0)) := (show Holds wz.drew g7 39 (bc (fil 0)) from h7).keep hst.1 (by have := HG.out; simp; omega)
    have hne : g4 ∉ [g5] ∧ g5 ∉ [g4] := by have := HG.out; simp; omega
    obtain ⟨q1, ⟨C0, q2, q3⟩, q4, ⟨B0, q5⟩, q6⟩ := id hst
    obtain rfl | rfl | rfl | rfl | rfl : j = 0 ∨ j = 1 ∨ j = 2 ∨ j = 3 ∨ j = 4 := by omega
    all_goals (have hj' := Option.some.inj (hj : some _ = some o); subst hj'; clear hj)
    · exact wp_ran rfl (exec_load rfl (eval_tmp (hpar 2 (by simp))) (run_loads (Cells.of_holds h2d) Try.underlying30 rfl (size30_of _ _ _))) (hK _ _ (fun s hs => by cases hs; rfl) (by simpa using hst))
    · exact wp_ran rfl (exec_load rfl (eval_tmp (hpar 7 (by simp))) (run_loads (Cells.of_holds h7d) Try.underlying39 rfl (by rw [bc_length]; exact size39))) (hK _ _ (fun s hs => by cases hs; rfl) (by simpa using hst))
    · exact wp_stored (ty := 30) (V := .agg (rc R A c).toArray) (cs := (rc R A c)) rfl rfl (eval_tmp (hpar 4 (by simp))) (eval_tmp (hgot 0 _ _ rfl (hdep ⟨0, .data⟩ (by simp) rfl) rfl)) rfl q3 (by rw [q2]; rfl) (rc_one _ _ _) (size30_of _ _ _) (fun v' r1 r2 => hK _ _ (fun s hs => by cases hs) ⟨q1.trans (r2.wk (ns := [g4, g5]) (fun i _ h => by simp at h; simp [h])) (fun _ _ h => h), ⟨_, rfl, r1⟩, fun _ => r1, ⟨B0, q5.keep r2 hne.2⟩, fun h => (q6 h).keep r2 hne.2⟩)
    · exact wp_stored (ty := 39) (V := bv (fil 0)) (cs := bc (fil 0)) rfl rfl (eval_tmp (hpar 5 (by simp))) (eval_tmp (hgot 1 _ _ rfl (hdep ⟨1, .data⟩ (by simp) rfl) rfl)) rfl q5 (by rw [bc_length, bc_length]) (bc_one _) (by rw [bc_length]; exact size39) (fun v' r1 r2 => hK _ _ (fun s hs => by cases hs) ⟨q1.trans (r2.wk (ns := [g4, g5]) (fun i _ h => by simp at h; simp [h])) (fun _ _ h => h), ⟨C0, q2, q3.keep r2 hne.1⟩, fun h => (q4 h).keep r2 hne.1, ⟨_, r1⟩, fun _ => r1⟩)
    · exact wp_ran rfl (exec_assign rfl rfl) (hK _ _ (fun s hs => by cases hs; rfl) (by simpa using hst))
  case fin =>
    intro l T v hl hst ht hd hpar hgot
    obtain ⟨q1, _, q4, _, q6⟩ := hst
    replace q4 := q4 (hl 2 (by decide))
    replace q6 := q6 (hl 3 (by decide))
    have t4 := hpar 4 (by simp)
    have t5 := hpar 5 (by simp)
    have t6 := hgot 4 _ 6 rfl rfl
    have hT1 := hT.keep ((Mod.drew [g4, g5] wz).trans q1 (fun _ _ h => h)) (fun a ha => by have e1 := hT.ne h4 (by decide) a ha; have e2 := hT.ne h5 (by decide) a ha; simp [e1, e2])
    have mm1 : Mod [] w v := (mm.then (Mod.drew [] wz)).trans q1 (fun i hi h => by have := HG.out; simp at h; omega)
    go_wp2
    refine bodyPost_ret (results_cct rfl _ _ g4 g5 (rc R A c) (bc (fil 0)) _ _ _ t4 t5 t6 (Cells.of_holds q4) (Cells.of_holds q6) Try.underlying30 rfl (size30_of _ _ _) Try.underlying39 rfl (by rw [bc_length]; exact size39)) hd ?_
    exact ⟨A, c, rfl, hT1, mm1⟩

set_option maxRecDepth 1000000 in
set_option maxHeartbeats 4000000 in
theorem ought4i_c (R : RSt) (A : Option Addr) (c : Nat) (kd : Int) (a : Ac) (K : Option Addr) (ck : Nat) (w : World) (hT : Told w R A c) (_ : Fine R 1099511627774) (hk : a.kind = ((IntKind.u64.wrap kd) % 7).toNat) (h3 : a.kind = 4) (hout : R.out = false) :
    Calls Try.prog 38 #[rv R A c, .agg (dv kd a K ck).toArray] w (OughtPost w (fil 0, 0, { R with fails := max a.n (-1) })) := by
  have hkz : (a.kind : Int) = 4 := by omega
  have hkz2 := hk
  have HK := Lib.hid hk
  have h3z : (a.kind : Int) = 4 := hkz
  have H3 := Lib.hid h3z
  clear h3 hkz2 h3z
  go_enter Try.func38, Try.ntmps38
  go_wp2_with (first
    | (with_reducible refine wpList_boxes (o := ⟨some 2, .box 30 (.tmp 0), _, _, _, _⟩) rfl 30 (.tmp 0) rfl _ rfl (rc R A c) rfl ?_; intro w1 hb1 m1 z1; replace z1 := Lib.hid z1)
    | (with_reducible refine wpList_boxes (o := ⟨some 3, .box 49 (.tmp 1), _, _, _, _⟩) rfl 49 (.tmp 1) rfl _ rfl (dv kd a K ck) rfl ?_; intro w2 hb2 m2 z2; replace z2 := Lib.hid z2; replace hb1 := hb1.keep m2 (by simp))
    | (with_reducible refine wpList_allocs (o := ⟨some 4, .alloc 30, _, _, _, _⟩) rfl 30 rfl _ zero30 ?_; intro w3 hb3 m3 z3; replace z3 := Lib.hid z3; replace hb1 := hb1.keep m3 (by simp); replace hb2 := hb2.keep m3 (by simp))
    | (with_reducible refine wpList_allocs (o := ⟨some 5, .alloc 39, _, _, _, _⟩) rfl 39 rfl _ zero39 ?_; intro w4 hb4 m4 z4; replace z4 := Lib.hid z4; replace hb1 := hb1.keep m4 (by simp); replace hb2 := hb2.keep m4 (by simp); replace hb3 := hb3.keep m4 (by simp))
    | (with_reducible refine wpList_allocs (o := ⟨some 7, .alloc 39, _, _, _, _⟩) rfl 39 rfl _ zero39 ?_; intro w5 hb5 m5 z5; replace z5 := Lib.hid z5; replace hb1 := hb1.keep m5 (by simp); replace hb2 := hb2.keep m5 (by simp); replace hb3 := hb3.keep m5 (by simp); replace hb4 := hb4.keep m5 (by simp))
    | (with_reducible refine wpList_loads (o := ⟨some 9, .load 49 (.tmp 3), _, _, _, _⟩) rfl 49 (.tmp 3) rfl w1.heap.size 0 _ rfl (Cells.of_holds hb2) _ Try.underlying49 rfl (by rw [dv_length]; exact size49) (.agg (dv kd a K ck).toArray) rfl ?_))
  refine (kind_c kd a K ck _ hk).mono ?_
  rintro e wk ⟨rfl, mk⟩
  have mm : Mod [] w wk := ((((m1.then m2).then m3).then m4).then m5).then mk
  have h2 := hb1.keep mk (by simp)
  have h3 := hb2.keep mk (by simp)
  have h4 := hb3.keep mk (by simp)
  have h5 := hb4.keep mk (by simp)
  have h7 := hb5.keep mk (by simp)
  obtain ⟨g2, e2⟩ : ∃ b, b = w.heap.size := ⟨_, rfl⟩
  obtain ⟨g3, e3⟩ : ∃ b, b = w1.heap.size := ⟨_, rfl⟩
  obtain ⟨g4, e4⟩ : ∃ b, b = w2.heap.size := ⟨_, rfl⟩
  obtain ⟨g5, e5⟩ : ∃ b, b = w3.heap.size := ⟨_, rfl⟩
  obtain ⟨g7, e7⟩ : ∃ b, b = w4.heap.size := ⟨_, rfl⟩
  have HG := Lib.hid (show w.heap.size ≤ g2 ∧ g2 < g3 ∧ g3 < g4 ∧ g4 < g5 ∧ g5 < g7 by have := z1.out; have := z2.out; have := z3.out; have := z4.out; omega)
  rw [← e2] at h2
  rw [← e3] at h3
  rw [← e4] at h4
  rw [← e5] at h5
  rw [← e7] at h7
  rw [← e2, ← e3, ← e4, ← e5, ← e7]
  clear e2 e3 e4 e5 e7 hb1 hb2 hb3 hb4 hb5 m1 m2 m3 m4 m5 mk z1 z2 z3 z4 z5
  have k1 := h3.cell 1
  have k2 := h3.cell 2
  have k3 := h3.cell 3
  have k4 := h3.cell 4
  simp only [dv, List.getElem?_cons_succ, List.getElem?_cons_zero] at k1 k2 k3 k4
  replace hT := hT.keep mm (by simp)
  rw [hkz]
  clear hk hkz
  have j3 := h2.cell 3
  simp only [rc, List.getElem?_cons_succ, List.getElem?_cons_zero] at j3
  rw [hout] at j3
  have f5 := h2.free 5
  have j5 := h2.cell 5
  simp only [rc, List.getElem?_cons_succ, List.getElem?_cons_zero] at j5
  clear k1 k3 k4 hout
  go_wp2_with (first
    | (with_reducible refine wpList_loads (o := ⟨some 54, .load 49 (.tmp 3), _, _, _, _⟩) rfl 49 (.tmp 3) rfl g3 0 _ rfl (Cells.of_holds h3) _ Try.underlying49 rfl (by rw [dv_length]; exact size49) (.agg (dv kd a K ck).toArray) rfl ?_)
    | (go_at_call 34; refine (kind_c kd a K ck _ HK.out).mono ?_; rw [H3.out]; rintro e wy ⟨rfl, my⟩
       replace hT := hT.keep my (by simp)
       replace h2 := h2.keep my (by simp)
       replace h3 := h3.keep my (by simp)
       replace h4 := h4.keep my (by simp)
       replace h5 := h5.keep my (by simp)
       replace h7 := h7.keep my (by simp)
       replace mm := mm.then my
       have k2 := h3.cell 2
       simp only [dv, List.getElem?_cons_succ, List.getElem?_cons_zero] at k2
       have f5 := h2.free 5
       have j5 := h2.cell 5
       simp only [rc, List.getElem?_cons_succ, List.getElem?_cons_zero] at j5
       clear my)
    | (with_reducible refine wpList_ranW (o := ⟨some 63, .call _, _, _, _, _⟩) (by with_unfolding_all rfl) (.int .i64 (max a.n (-1))) wy (exec_max rfl rfl rfl) ?_)
    | (with_reducible refine wpList_put (o := ⟨none, .store 3 (.tmp 64) (.tmp 63), _, _, _, _⟩) rfl 3 (.tmp 64) (.tmp 63) rfl rfl g2 5 rfl (.int .i64 (max a.n (-1))) rfl (one_int _ _) one3 30 _ h2 (by rw [rc_length]; decide) ?_
       intro wz hn mz
       have hT0 := hT.keep mz (fun a ha => by simpa using hT.ne h2 (by decide) a ha)
       replace hT := hT0
       replace h2 := hn
       replace h7 := h7.keep mz (by have := HG.out; simp; omega)
       replace h4 := h4.keep mz (by have := HG.out; simp; omega)
       replace h5 := h5.keep mz (by have := HG.out; simp; omega)
       replace mm := mm.trans mz (fun i hi h => by have := HG.out; simp at h; omega)
       clear hT0 mz hn))
  clear h3 k2 HK H3
  obtain ⟨R1, hR1⟩ : ∃ v, v = { R with fails := max a.n (-1) } := ⟨_, rfl⟩
  obtain ⟨A1, hA1⟩ : ∃ v, v = A := ⟨_, rfl⟩
  obtain ⟨c1, hc1⟩ : ∃ v, v = c := ⟨_, rfl⟩
  replace h2 : Holds wz g2 30 (rc R1 A1 c1) := by rw [hR1, hA1, hc1]; exact h2
  replace hT : Told wz R1 A1 c1 := by rw [hR1, hA1, hc1]; exact hT
  have HR1 := Lib.hid hR1
  clear hR1 hA1 hc1
  refine wp_region_det2 74 (fun s => match s with
    | 2 => .pointer (some ⟨g2, 0, none⟩) | 4 => .pointer (some ⟨g4, 0, none⟩) | 5 => .pointer (some ⟨g5, 0, none⟩) | 7 => .pointer (some ⟨g7, 0, none⟩) | 8 => .int .i64 0 
    | 71 => .agg (rc R1 A1 c1).toArray | 72 => bv (fil 0) | 73 => .int .i64 0 | 6 => .int .i64 0 | _ => undef) [2, 4, 5, 7, 8]
    (fun l v => OSt wz.drew g4 g5 (rc R1 A1 c1) (fil 0) (l 3) (l 4) v) []
    (by kernel_rfl) rfl rfl (by intro s hs; simp at hs; rcases hs with rfl | rfl | rfl | rfl | rfl <;> rfl) ⟨Mod.refl _ _, ⟨_, rfl, h4⟩, (fun q => by cases q), ⟨_, h5⟩, (fun q => by cases q)⟩ (drawn2B_lt (nt := 74) (by kernel_rfl)) (drawn2B_dst (by kernel_rfl)) ?step ?fin
  case step =>
    intro l T v j o hj hlj hdep hst hpar hgot Kq hK
    have hjn : j < 6 := (Array.getElem?_eq_some_iff.1 hj).1
    have h2d : Holds v g2 30 (rc R1 A1 c1) := (show Holds wz.drew g2 30 (rc R1 A1 c1) from h2).keep hst.1 (by have := HG.out; simp; omega)
    have h7d : Holds v g7 39 (bc (fil 0)) := (show Holds wz.drew g7 39 (bc (fil 0)) from h7).keep hst.1 (by have := HG.out; simp; omega)
    have hne : g4 ∉ [g5] ∧ g5 ∉ [g4] := by have := HG.out; simp; omega
    obtain ⟨q1, ⟨C0, q2, q3⟩, q4, ⟨B0, q5⟩, q6⟩ := id hst
    obtain rfl | rfl | rfl | rfl | rfl | rfl : j = 0 ∨ j = 1 ∨ j = 2 ∨ j = 3 ∨ j = 4 ∨ j = 5 := by omega
    all_goals (have hj' := Option.some.inj (hj : some _ = some o); subst hj'; clear hj)
    · exact wp_ran rfl (exec_load rfl (eval_tmp (hpar 2 (by simp))) (run_loads (Cells.of_holds h2d) Try.underlying30 rfl (size30_of _ _ _))) (hK _ _ (fun s hs => by cases hs; rfl) (by simpa using hst))
    · exact wp_ran rfl (exec_load rfl (eval_tmp (hpar 7 (by simp))) (run_loads (Cells.of_holds h7d) Try.underlying39 rfl (by rw [bc_length]; exact size39))) (hK _ _ (fun s hs => by cases hs; rfl) (by simpa using hst))
    · exact wp_ran rfl (exec_move rfl (eval_tmp (hpar 8 (by simp)))) (hK _ _ (fun s hs => by cases hs; rfl) (by simpa using hst))
    · exact wp_stored (ty := 30) (V := .agg (rc R1 A1 c1).toArray) (cs := (rc R1 A1 c1)) rfl rfl (eval_tmp (hpar 4 (by simp))) (eval_tmp (hgot 0 _ _ rfl (hdep ⟨0, .data⟩ (by simp) rfl) rfl)) rfl q3 (by rw [q2]; rfl) (rc_one _ _ _) (size30_of _ _ _) (fun v' r1 r2 => hK _ _ (fun s hs => by cases hs) ⟨q1.trans (r2.wk (ns := [g4, g5]) (fun i _ h => by simp at h; simp [h])) (fun _ _ h => h), ⟨_, rfl, r1⟩, fun _ => r1, ⟨B0, q5.keep r2 hne.2⟩, fun h => (q6 h).keep r2 hne.2⟩)
    · exact wp_stored (ty := 39) (V := bv (fil 0)) (cs := bc (fil 0)) rfl rfl (eval_tmp (hpar 5 (by simp))) (eval_tmp (hgot 1 _ _ rfl (hdep ⟨1, .data⟩ (by simp) rfl) rfl)) rfl q5 (by rw [bc_length, bc_length]) (bc_one _) (by rw [bc_length]; exact size39) (fun v' r1 r2 => hK _ _ (fun s hs => by cases hs) ⟨q1.trans (r2.wk (ns := [g4, g5]) (fun i _ h => by simp at h; simp [h])) (fun _ _ h => h), ⟨C0, q2, q3.keep r2 hne.1⟩, fun h => (q4 h).keep r2 hne.1, ⟨_, r1⟩, fun _ => r1⟩)
    · exact wp_ran rfl (exec_assign rfl (eval_tmp (hgot 2 _ _ rfl (hdep ⟨2, .data⟩ (by simp) rfl) rfl))) (hK _ _ (fun s hs => by cases hs; rfl) (by simpa using hst))
  case fin =>
    intro l T v hl hst ht hd hpar hgot
    obtain ⟨q1, _, q4, _, q6⟩ := hst
    replace q4 := q4 (hl 3 (by decide))
    replace q6 := q6 (hl 4 (by decide))
    have t4 := hpar 4 (by simp)
    have t5 := hpar 5 (by simp)
    have t6 := hgot 5 _ 6 rfl rfl
    have hT1 := hT.keep ((Mod.drew [g4, g5] wz).trans q1 (fun _ _ h => h)) (fun a ha => by have e1 := hT.ne h4 (by decide) a ha; have e2 := hT.ne h5 (by decide) a ha; simp [e1, e2])
    have mm1 : Mod [] w v := (mm.then (Mod.drew [] wz)).trans q1 (fun i hi h => by have := HG.out; simp at h; omega)
    go_wp2
    refine bodyPost_ret (results_cct rfl _ _ g4 g5 (rc R1 A1 c1) (bc (fil 0)) _ _ _ t4 t5 t6 (Cells.of_holds q4) (Cells.of_holds q6) Try.underlying30 rfl (size30_of _ _ _) Try.underlying39 rfl (by rw [bc_length]; exact size39)) hd ?_
    have hR1 := HR1.out
    subst hR1
    exact ⟨A1, c1, rfl, hT1, mm1⟩

set_option maxRecDepth 1000000 in
set_option maxHeartbeats 4000000 in
theorem ought5_c (R : RSt) (A : Option Addr) (c : Nat) (kd : Int) (a : Ac) (K : Option Addr) (ck : Nat) (w : World) (hT : Told w R A c) (hF : Fine R 1099511627774) (hk : a.kind = ((IntKind.u64.wrap kd) % 7).toNat) (h3 : a.kind = 5) (hb : Bools w K a.keep) (hkl : a.keep.length ≤ maxLen) :
    Calls Try.prog 38 #[rv R A c, .agg (dv kd a K ck).toArray] w (OughtPost w (fil 0, 0, R.crash a.keep)) := by
  have hkz : (a.kind : Int) = 5 := by omega
  obtain ⟨R1, hR1⟩ : ∃ R1, R1 = R.crash a.keep := ⟨_, rfl⟩
  have XA := fun v (h : Told v R A c) (hm : Mod [] w v) => rcrash_c R A c K a.keep.length ck a.keep v h (by have := hF.long; omega) hF.firm (hb.keep hm (by simp)) rfl hkl
  rw [← hR1] at XA ⊢
  clear hR1 hF h3 hb hkl
  go_enter Try.func38, Try.ntmps38
  go_wp2_with (first
    | (with_reducible refine wpList_boxes (o := ⟨some 2, .box 30 (.tmp 0), _, _, _, _⟩) rfl 30 (.tmp 0) rfl _ rfl (rc R A c) rfl ?_; intro w1 hb1 m1 z1; replace z1 := Lib.hid z1)
    | (with_reducible refine wpList_boxes (o := ⟨some 3, .box 49 (.tmp 1), _, _, _, _⟩) rfl 49 (.tmp 1) rfl _ rfl (dv kd a K ck) rfl ?_; intro w2 hb2 m2 z2; replace z2 := Lib.hid z2; replace hb1 := hb1.keep m2 (by simp))
    | (with_reducible refine wpList_allocs (o := ⟨some 4, .alloc 30, _, _, _, _⟩) rfl 30 rfl _ zero30 ?_; intro w3 hb3 m3 z3; replace z3 := Lib.hid z3; replace hb1 := hb1.keep m3 (by simp); replace hb2 := hb2.keep m3 (by simp))
    | (with_reducible refine wpList_allocs (o := ⟨some 5, .alloc 39, _, _, _, _⟩) rfl 39 rfl _ zero39 ?_; intro w4 hb4 m4 z4; replace z4 := Lib.hid z4; replace hb1 := hb1.keep m4 (by simp); replace hb2 := hb2.keep m4 (by simp); replace hb3 := hb3.keep m4 (by simp))
    | (with_reducible refine wpList_allocs (o := ⟨some 7, .alloc 39, _, _, _, _⟩) rfl 39 rfl _ zero39 ?_; intro w5 hb5 m5 z5; replace z5 := Lib.hid z5; replace hb1 := hb1.keep m5 (by simp); replace hb2 := hb2.keep m5 (by simp); replace hb3 := hb3.keep m5 (by simp); replace hb4 := hb4.keep m5 (by simp))
    | (with_reducible refine wpList_loads (o := ⟨some 9, .load 49 (.tmp 3), _, _, _, _⟩) rfl 49 (.tmp 3) rfl w1.heap.size 0 _ rfl (Cells.of_holds hb2) _ Try.underlying49 rfl (by rw [dv_length]; exact size49) (.agg (dv kd a K ck).toArray) rfl ?_))
  refine (kind_c kd a K ck _ hk).mono ?_
  rintro e wk ⟨rfl, mk⟩
  have mm : Mod [] w wk := ((((m1.then m2).then m3).then m4).then m5).then mk
  have h2 := hb1.keep mk (by simp)
  have h3 := hb2.keep mk (by simp)
  have h4 := hb3.keep mk (by simp)
  have h5 := hb4.keep mk (by simp)
  have h7 := hb5.keep mk (by simp)
  obtain ⟨g2, e2⟩ : ∃ b, b = w.heap.size := ⟨_, rfl⟩
  obtain ⟨g3, e3⟩ : ∃ b, b = w1.heap.size := ⟨_, rfl⟩
  obtain ⟨g4, e4⟩ : ∃ b, b = w2.heap.size := ⟨_, rfl⟩
  obtain ⟨g5, e5⟩ : ∃ b, b = w3.heap.size := ⟨_, rfl⟩
  obtain ⟨g7, e7⟩ : ∃ b, b = w4.heap.size := ⟨_, rfl⟩
  have HG := Lib.hid (show w.heap.size ≤ g2 ∧ g2 < g3 ∧ g3 < g4 ∧ g4 < g5 ∧ g5 < g7 by have := z1.out; have := z2.out; have := z3.out; have := z4.out; omega)
  rw [← e2] at h2
  rw [← e3] at h3
  rw [← e4] at h4
  rw [← e5] at h5
  rw [← e7] at h7
  rw [← e2, ← e3, ← e4, ← e5, ← e7]
  clear e2 e3 e4 e5 e7 hb1 hb2 hb3 hb4 hb5 m1 m2 m3 m4 m5 mk z1 z2 z3 z4 z5
  have k1 := h3.cell 1
  have k2 := h3.cell 2
  have k3 := h3.cell 3
  have k4 := h3.cell 4
  simp only [dv, List.getElem?_cons_succ, List.getElem?_cons_zero] at k1 k2 k3 k4
  replace hT := hT.keep mm (by simp)
  rw [hkz]
  clear hk hkz
  clear k1 k2 k3
  go_wp2_with (first
    | (with_reducible refine wpList_loads (o := ⟨some 67, .load 30 (.tmp 2), _, _, _, _⟩) rfl 30 (.tmp 2) rfl g2 0 _ rfl (Cells.of_holds h2) _ Try.underlying30 rfl (size30_of _ _ _) (rv R A c) rfl ?_)
    | (go_at_call 16; refine (XA _ hT mm).mono ?_; rintro e wy ⟨A1, c1, rfl, hT', my⟩
       replace hT := hT'
       replace h2 := h2.keep my (by simp)
       replace h3 := h3.keep my (by simp)
       replace h4 := h4.keep my (by simp)
       replace h5 := h5.keep my (by simp)
       replace h7 := h7.keep my (by simp)
       replace mm := mm.then my
       have hq2 := h2
       clear hT' my)
    | (with_reducible refine wpList_storesAll (o := ⟨none, .store 30 (.tmp 2) (.tmp 70), _, _, _, _⟩) rfl 30 (.tmp 2) (.tmp 70) rfl rfl g2 (rc R1 A1 c1) rfl (rv R1 A1 c1) rfl rfl 30 _ h2 rfl (rc_one _ _ _) (size30_of _ _ _) ?_; clear h2; intro wz h2 mz zz; replace zz := Lib.hid zz
       have hT0 := hT.keep mz (fun a ha => by simpa using hT.ne hq2 (by decide) a ha)
       replace hT := hT0
       replace h7 := h7.keep mz (by have := HG.out; simp; omega)
       replace h3 := h3.keep mz (by have := HG.out; simp; omega)
       replace h4 := h4.keep mz (by have := HG.out; simp; omega)
       replace h5 := h5.keep mz (by have := HG.out; simp; omega)
       replace mm := mm.trans mz (fun i hi h => by have := HG.out; simp at h; omega)
       clear hT0 mz hq2))
  clear h3 XA
  refine wp_region_det2 74 (fun s => match s with
    | 2 => .pointer (some ⟨g2, 0, none⟩) | 4 => .pointer (some ⟨g4, 0, none⟩) | 5 => .pointer (some ⟨g5, 0, none⟩) | 7 => .pointer (some ⟨g7, 0, none⟩) | 8 => .int .i64 0 
    | 71 => .agg (rc R1 A1 c1).toArray | 72 => bv (fil 0) | 73 => .int .i64 0 | 6 => .int .i64 0 | _ => undef) [2, 4, 5, 7, 8]
    (fun l v => OSt wz.drew g4 g5 (rc R1 A1 c1) (fil 0) (l 3) (l 4) v) []
    (by kernel_rfl) rfl rfl (by intro s hs; simp at hs; rcases hs with rfl | rfl | rfl | rfl | rfl <;> rfl) ⟨Mod.refl _ _, ⟨_, rfl, h4⟩, (fun q => by cases q), ⟨_, h5⟩, (fun q => by cases q)⟩ (drawn2B_lt (nt := 74) (by kernel_rfl)) (drawn2B_dst (by kernel_rfl)) ?step ?fin
  case step =>
    intro l T v j o hj hlj hdep hst hpar hgot Kq hK
    have hjn : j < 6 := (Array.getElem?_eq_some_iff.1 hj).1
    have h2d : Holds v g2 30 (rc R1 A1 c1) := (show Holds wz.drew g2 30 (rc R1 A1 c1) from h2).keep hst.1 (by have := HG.out; simp; omega)
    have h7d : Holds v g7 39 (bc (fil 0)) := (show Holds wz.drew g7 39 (bc (fil 0)) from h7).keep hst.1 (by have := HG.out; simp; omega)
    have hne : g4 ∉ [g5] ∧ g5 ∉ [g4] := by have := HG.out; simp; omega
    obtain ⟨q1, ⟨C0, q2, q3⟩, q4, ⟨B0, q5⟩, q6⟩ := id hst
    obtain rfl | rfl | rfl | rfl | rfl | rfl : j = 0 ∨ j = 1 ∨ j = 2 ∨ j = 3 ∨ j = 4 ∨ j = 5 := by omega
    all_goals (have hj' := Option.some.inj (hj : some _ = some o); subst hj'; clear hj)
    · exact wp_ran rfl (exec_load rfl (eval_tmp (hpar 2 (by simp))) (run_loads (Cells.of_holds h2d) Try.underlying30 rfl (size30_of _ _ _))) (hK _ _ (fun s hs => by cases hs; rfl) (by simpa using hst))
    · exact wp_ran rfl (exec_load rfl (eval_tmp (hpar 7 (by simp))) (run_loads (Cells.of_holds h7d) Try.underlying39 rfl (by rw [bc_length]; exact size39))) (hK _ _ (fun s hs => by cases hs; rfl) (by simpa using hst))
    · exact wp_ran rfl (exec_move rfl (eval_tmp (hpar 8 (by simp)))) (hK _ _ (fun s hs => by cases hs; rfl) (by simpa using hst))
    · exact wp_stored (ty := 30) (V := .agg (rc R1 A1 c1).toArray) (cs := (rc R1 A1 c1)) rfl rfl (eval_tmp (hpar 4 (by simp))) (eval_tmp (hgot 0 _ _ rfl (hdep ⟨0, .data⟩ (by simp) rfl) rfl)) rfl q3 (by rw [q2]; rfl) (rc_one _ _ _) (size30_of _ _ _) (fun v' r1 r2 => hK _ _ (fun s hs => by cases hs) ⟨q1.trans (r2.wk (ns := [g4, g5]) (fun i _ h => by simp at h; simp [h])) (fun _ _ h => h), ⟨_, rfl, r1⟩, fun _ => r1, ⟨B0, q5.keep r2 hne.2⟩, fun h => (q6 h).keep r2 hne.2⟩)
    · exact wp_stored (ty := 39) (V := bv (fil 0)) (cs := bc (fil 0)) rfl rfl (eval_tmp (hpar 5 (by simp))) (eval_tmp (hgot 1 _ _ rfl (hdep ⟨1, .data⟩ (by simp) rfl) rfl)) rfl q5 (by rw [bc_length, bc_length]) (bc_one _) (by rw [bc_length]; exact size39) (fun v' r1 r2 => hK _ _ (fun s hs => by cases hs) ⟨q1.trans (r2.wk (ns := [g4, g5]) (fun i _ h => by simp at h; simp [h])) (fun _ _ h => h), ⟨C0, q2, q3.keep r2 hne.1⟩, fun h => (q4 h).keep r2 hne.1, ⟨_, r1⟩, fun _ => r1⟩)
    · exact wp_ran rfl (exec_assign rfl (eval_tmp (hgot 2 _ _ rfl (hdep ⟨2, .data⟩ (by simp) rfl) rfl))) (hK _ _ (fun s hs => by cases hs; rfl) (by simpa using hst))
  case fin =>
    intro l T v hl hst ht hd hpar hgot
    obtain ⟨q1, _, q4, _, q6⟩ := hst
    replace q4 := q4 (hl 3 (by decide))
    replace q6 := q6 (hl 4 (by decide))
    have t4 := hpar 4 (by simp)
    have t5 := hpar 5 (by simp)
    have t6 := hgot 5 _ 6 rfl rfl
    have hT1 := hT.keep ((Mod.drew [g4, g5] wz).trans q1 (fun _ _ h => h)) (fun a ha => by have e1 := hT.ne h4 (by decide) a ha; have e2 := hT.ne h5 (by decide) a ha; simp [e1, e2])
    have mm1 : Mod [] w v := (mm.then (Mod.drew [] wz)).trans q1 (fun i hi h => by have := HG.out; simp at h; omega)
    go_wp2
    refine bodyPost_ret (results_cct rfl _ _ g4 g5 (rc R1 A1 c1) (bc (fil 0)) _ _ _ t4 t5 t6 (Cells.of_holds q4) (Cells.of_holds q6) Try.underlying30 rfl (size30_of _ _ _) Try.underlying39 rfl (by rw [bc_length]; exact size39)) hd ?_
    exact ⟨A1, c1, rfl, hT1, mm1⟩

set_option maxRecDepth 1000000 in
set_option maxHeartbeats 4000000 in
theorem ought6_c (R : RSt) (A : Option Addr) (c : Nat) (kd : Int) (a : Ac) (K : Option Addr) (ck : Nat) (w : World) (hT : Told w R A c) (_ : Fine R 1099511627774) (hk : a.kind = ((IntKind.u64.wrap kd) % 7).toNat) (h3 : a.kind = 6) :
    Calls Try.prog 38 #[rv R A c, .agg (dv kd a K ck).toArray] w (OughtPost w (fil 0, 0, R)) := by
  have hkz : (a.kind : Int) = 6 := by omega
  clear h3
  go_enter Try.func38, Try.ntmps38
  go_wp2_with (first
    | (with_reducible refine wpList_boxes (o := ⟨some 2, .box 30 (.tmp 0), _, _, _, _⟩) rfl 30 (.tmp 0) rfl _ rfl (rc R A c) rfl ?_; intro w1 hb1 m1 z1; replace z1 := Lib.hid z1)
    | (with_reducible refine wpList_boxes (o := ⟨some 3, .box 49 (.tmp 1), _, _, _, _⟩) rfl 49 (.tmp 1) rfl _ rfl (dv kd a K ck) rfl ?_; intro w2 hb2 m2 z2; replace z2 := Lib.hid z2; replace hb1 := hb1.keep m2 (by simp))
    | (with_reducible refine wpList_allocs (o := ⟨some 4, .alloc 30, _, _, _, _⟩) rfl 30 rfl _ zero30 ?_; intro w3 hb3 m3 z3; replace z3 := Lib.hid z3; replace hb1 := hb1.keep m3 (by simp); replace hb2 := hb2.keep m3 (by simp))
    | (with_reducible refine wpList_allocs (o := ⟨some 5, .alloc 39, _, _, _, _⟩) rfl 39 rfl _ zero39 ?_; intro w4 hb4 m4 z4; replace z4 := Lib.hid z4; replace hb1 := hb1.keep m4 (by simp); replace hb2 := hb2.keep m4 (by simp); replace hb3 := hb3.keep m4 (by simp))
    | (with_reducible refine wpList_allocs (o := ⟨some 7, .alloc 39, _, _, _, _⟩) rfl 39 rfl _ zero39 ?_; intro w5 hb5 m5 z5; replace z5 := Lib.hid z5; replace hb1 := hb1.keep m5 (by simp); replace hb2 := hb2.keep m5 (by simp); replace hb3 := hb3.keep m5 (by simp); replace hb4 := hb4.keep m5 (by simp))
    | (with_reducible refine wpList_loads (o := ⟨some 9, .load 49 (.tmp 3), _, _, _, _⟩) rfl 49 (.tmp 3) rfl w1.heap.size 0 _ rfl (Cells.of_holds hb2) _ Try.underlying49 rfl (by rw [dv_length]; exact size49) (.agg (dv kd a K ck).toArray) rfl ?_))
  refine (kind_c kd a K ck _ hk).mono ?_
  rintro e wk ⟨rfl, mk⟩
  have mm : Mod [] w wk := ((((m1.then m2).then m3).then m4).then m5).then mk
  have h2 := hb1.keep mk (by simp)
  have h3 := hb2.keep mk (by simp)
  have h4 := hb3.keep mk (by simp)
  have h5 := hb4.keep mk (by simp)
  have h7 := hb5.keep mk (by simp)
  obtain ⟨g2, e2⟩ : ∃ b, b = w.heap.size := ⟨_, rfl⟩
  obtain ⟨g3, e3⟩ : ∃ b, b = w1.heap.size := ⟨_, rfl⟩
  obtain ⟨g4, e4⟩ : ∃ b, b = w2.heap.size := ⟨_, rfl⟩
  obtain ⟨g5, e5⟩ : ∃ b, b = w3.heap.size := ⟨_, rfl⟩
  obtain ⟨g7, e7⟩ : ∃ b, b = w4.heap.size := ⟨_, rfl⟩
  have HG := Lib.hid (show w.heap.size ≤ g2 ∧ g2 < g3 ∧ g3 < g4 ∧ g4 < g5 ∧ g5 < g7 by have := z1.out; have := z2.out; have := z3.out; have := z4.out; omega)
  rw [← e2] at h2
  rw [← e3] at h3
  rw [← e4] at h4
  rw [← e5] at h5
  rw [← e7] at h7
  rw [← e2, ← e3, ← e4, ← e5, ← e7]
  clear e2 e3 e4 e5 e7 hb1 hb2 hb3 hb4 hb5 m1 m2 m3 m4 m5 mk z1 z2 z3 z4 z5
  have k1 := h3.cell 1
  have k2 := h3.cell 2
  have k3 := h3.cell 3
  have k4 := h3.cell 4
  simp only [dv, List.getElem?_cons_succ, List.getElem?_cons_zero] at k1 k2 k3 k4
  replace hT := hT.keep mm (by simp)
  rw [hkz]
  clear hk hkz
  clear k1 k2 k3 k4
  go_wp2_with fail
  clear h3
  obtain ⟨wz, hwz⟩ : ∃ v, v = wk := ⟨_, rfl⟩
  rw [← hwz] at h2 h4 h5 h7 hT mm ⊢
  clear hwz
  refine wp_region_det2 74 (fun s => match s with
    | 2 => .pointer (some ⟨g2, 0, none⟩) | 4 => .pointer (some ⟨g4, 0, none⟩) | 5 => .pointer (some ⟨g5, 0, none⟩) | 7 => .pointer (some ⟨g7, 0, none⟩) | 8 => .int .i64 0 
    | 71 => .agg (rc R A c).toArray | 72 => bv (fil 0) | 73 => .int .i64 0 | 6 => .int .i64 0 | _ => undef) [2, 4, 5, 7, 8]
    (fun l v => OSt wz.drew g4 g5 (rc R A c) (fil 0) (l 3) (l 4) v) []
    (by kernel_rfl) rfl rfl (by intro s hs; simp at hs; rcases hs with rfl | rfl | rfl | rfl | rfl <;> rfl) ⟨Mod.refl _ _, ⟨_, rfl, h4⟩, (fun q => by cases q), ⟨_, h5⟩, (fun q => by cases q)⟩ (drawn2B_lt (nt := 74) (by kernel_rfl)) (drawn2B_dst (by kernel_rfl)) ?step ?fin
  case step =>
    intro l T v j o hj hlj hdep hst hpar hgot Kq hK
    have hjn : j < 6 := (Array.getElem?_eq_some_iff.1 hj).1
    have h2d : Holds v g2 30 (rc R A c) := (show Holds wz.drew g2 30 (rc R A c) from h2).keep hst.1 (by have := HG.out; simp; omega)
    have h7d : Holds v g7 39 (bc (fil 0)) := (show Holds wz.drew g7 39 (bc (fil 0)) from h7).keep hst.1 (by have := HG.out; simp; omega)
    have hne : g4 ∉ [g5] ∧ g5 ∉ [g4] := by have := HG.out; simp; omega
    obtain ⟨q1, ⟨C0, q2, q3⟩, q4, ⟨B0, q5⟩, q6⟩ := id hst
    obtain rfl | rfl | rfl | rfl | rfl | rfl : j = 0 ∨ j = 1 ∨ j = 2 ∨ j = 3 ∨ j = 4 ∨ j = 5 := by omega
    all_goals (have hj' := Option.some.inj (hj : some _ = some o); subst hj'; clear hj)
    · exact wp_ran rfl (exec_load rfl (eval_tmp (hpar 2 (by simp))) (run_loads (Cells.of_holds h2d) Try.underlying30 rfl (size30_of _ _ _))) (hK _ _ (fun s hs => by cases hs; rfl) (by simpa using hst))
    · exact wp_ran rfl (exec_load rfl (eval_tmp (hpar 7 (by simp))) (run_loads (Cells.of_holds h7d) Try.underlying39 rfl (by rw [bc_length]; exact size39))) (hK _ _ (fun s hs => by cases hs; rfl) (by simpa using hst))
    · exact wp_ran rfl (exec_move rfl (eval_tmp (hpar 8 (by simp)))) (hK _ _ (fun s hs => by cases hs; rfl) (by simpa using hst))
    · exact wp_stored (ty := 30) (V := .agg (rc R A c).toArray) (cs := (rc R A c)) rfl rfl (eval_tmp (hpar 4 (by simp))) (eval_tmp (hgot 0 _ _ rfl (hdep ⟨0, .data⟩ (by simp) rfl) rfl)) rfl q3 (by rw [q2]; rfl) (rc_one _ _ _) (size30_of _ _ _) (fun v' r1 r2 => hK _ _ (fun s hs => by cases hs) ⟨q1.trans (r2.wk (ns := [g4, g5]) (fun i _ h => by simp at h; simp [h])) (fun _ _ h => h), ⟨_, rfl, r1⟩, fun _ => r1, ⟨B0, q5.keep r2 hne.2⟩, fun h => (q6 h).keep r2 hne.2⟩)
    · exact wp_stored (ty := 39) (V := bv (fil 0)) (cs := bc (fil 0)) rfl rfl (eval_tmp (hpar 5 (by simp))) (eval_tmp (hgot 1 _ _ rfl (hdep ⟨1, .data⟩ (by simp) rfl) rfl)) rfl q5 (by rw [bc_length, bc_length]) (bc_one _) (by rw [bc_length]; exact size39) (fun v' r1 r2 => hK _ _ (fun s hs => by cases hs) ⟨q1.trans (r2.wk (ns := [g4, g5]) (fun i _ h => by simp at h; simp [h])) (fun _ _ h => h), ⟨C0, q2, q3.keep r2 hne.1⟩, fun h => (q4 h).keep r2 hne.1, ⟨_, r1⟩, fun _ => r1⟩)
    · exact wp_ran rfl (exec_assign rfl (eval_tmp (hgot 2 _ _ rfl (hdep ⟨2, .data⟩ (by simp) rfl) rfl))) (hK _ _ (fun s hs => by cases hs; rfl) (by simpa using hst))
  case fin =>
    intro l T v hl hst ht hd hpar hgot
    obtain ⟨q1, _, q4, _, q6⟩ := hst
    replace q4 := q4 (hl 3 (by decide))
    replace q6 := q6 (hl 4 (by decide))
    have t4 := hpar 4 (by simp)
    have t5 := hpar 5 (by simp)
    have t6 := hgot 5 _ 6 rfl rfl
    have hT1 := hT.keep ((Mod.drew [g4, g5] wz).trans q1 (fun _ _ h => h)) (fun a ha => by have e1 := hT.ne h4 (by decide) a ha; have e2 := hT.ne h5 (by decide) a ha; simp [e1, e2])
    have mm1 : Mod [] w v := (mm.then (Mod.drew [] wz)).trans q1 (fun i hi h => by have := HG.out; simp at h; omega)
    go_wp2
    refine bodyPost_ret (results_cct rfl _ _ g4 g5 (rc R A c) (bc (fil 0)) _ _ _ t4 t5 t6 (Cells.of_holds q4) (Cells.of_holds q6) Try.underlying30 rfl (size30_of _ _ _) Try.underlying39 rfl (by rw [bc_length]; exact size39)) hd ?_
    exact ⟨A, c, rfl, hT1, mm1⟩

theorem ought_c (R : RSt) (A : Option Addr) (c : Nat) (kd : Int) (a : Ac) (K : Option Addr) (ck : Nat) (w : World) (hT : Told w R A c) (hF : Fine R 1099511627774) (hk : a.kind = ((IntKind.u64.wrap kd) % 7).toNat) (hb : Bools w K a.keep) (hkl : a.keep.length ≤ maxLen) :
    Calls Try.prog 38 #[rv R A c, .agg (dv kd a K ck).toArray] w (OughtPost w (R.act a)) := by
  have h7 : a.kind < 7 := by have := Int.emod_lt_of_pos (IntKind.u64.wrap kd) (show (0 : Int) < 7 by decide); have := Int.emod_nonneg (IntKind.u64.wrap kd) (show (7 : Int) ≠ 0 by decide); omega
  obtain h | h | h | h | h | h | h : a.kind = 0 ∨ a.kind = 1 ∨ a.kind = 2 ∨ a.kind = 3 ∨ a.kind = 4 ∨ a.kind = 5 ∨ a.kind = 6 := by omega
  · have e : R.act a = (let r := R.ask 0 a.at_ (fil 0); (if r.2 = 0 then r.1.holds a.at_ else fil 0, r.2, r.1)) := by unfold RSt.act; rw [h]; rfl
    rw [e]; exact ought0_c R A c kd a K ck w hT hF hk h
  · have e : R.act a = (let r := R.ask 1 a.at_ (fil a.fill); (fil 0, r.2, r.1)) := by unfold RSt.act; rw [h]; rfl
    rw [e]; exact ought1_c R A c kd a K ck w hT hF hk h
  · have e : R.act a = (let r := R.ask 2 0 (fil 0); (fil 0, r.2, r.1)) := by unfold RSt.act; rw [h]; rfl
    rw [e]; exact ought2_c R A c kd a K ck w hT hF hk h
  · have e : R.act a = (if R.out then (fil 0, 9, R) else (fil 0, 0, { R with arms := max a.n (-1) })) := by unfold RSt.act; rw [h]; rfl
    rw [e]
    by_cases ho : R.out = true
    · rw [if_pos ho]; exact ought3o_c R A c kd a K ck w hT hF hk h ho
    · rw [if_neg ho]; exact ought3i_c R A c kd a K ck w hT hF hk h (by simpa using ho)
  · have e : R.act a = (if R.out then (fil 0, 9, R) else (fil 0, 0, { R with fails := max a.n (-1) })) := by unfold RSt.act; rw [h]; rfl
    rw [e]
    by_cases ho : R.out = true
    · rw [if_pos ho]; exact ought4o_c R A c kd a K ck w hT hF hk h ho
    · rw [if_neg ho]; exact ought4i_c R A c kd a K ck w hT hF hk h (by simpa using ho)
  · have e : R.act a = (fil 0, 0, R.crash a.keep) := by unfold RSt.act; rw [h]; rfl
    rw [e]; exact ought5_c R A c kd a K ck w hT hF hk h hb hkl
  · have e : R.act a = (fil 0, 0, R) := by unfold RSt.act; rw [h]; rfl
    rw [e]; exact ought6_c R A c kd a K ck w hT hF hk h
end Go.Proofs.Ytpdpahkhfilmpaa

