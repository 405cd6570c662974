/-
  CloseAtoms: the walk. My own work.
-/
import Derived.Test.YtchanildogjhgaaDoorPh
namespace Go.Proofs.YtchanildogjhgaaDoor
section
open Go.RowKit Go.Shelf
attribute [local go_sem] Oper.semAt_some
set_option linter.unusedVariables false
set_option linter.unusedSimpArgs false
theorem exec_rem6p {v : World} {o : Oper} {ρ : Operand → Value} {x y : Operand} {a b : Int} (h0 : 0 ≤ a) (hb : a % 6 = b) (ho : o.op = .binOp .rem 3 x y 3) (hx : ρ x = .int .i64 a) (hy : ρ y = .int .i64 6) : (execOp ρ o).run Tryd.prog v = .ok (.value (.int .i64 b)) v := by
  subst hb
  unfold execOp
  simp [ho, hx, hy, go_sem]
  rw [Int.tmod_eq_emod_of_nonneg h0]
theorem exec_remBp {v : World} {o : Oper} {ρ : Operand → Value} {x y : Operand} {a b : Int} (h0 : 0 ≤ a) (hb : a % 65536 = b) (ho : o.op = .binOp .rem 3 x y 3) (hx : ρ x = .int .i64 a) (hy : ρ y = .int .i64 65536) : (execOp ρ o).run Tryd.prog v = .ok (.value (.int .i64 b)) v := by
  subst hb
  unfold execOp
  simp [ho, hx, hy, go_sem]
  rw [Int.tmod_eq_emod_of_nonneg h0]
theorem exec_incp {v : World} {o : Oper} {ρ : Operand → Value} {x y : Operand} {a b : Int} (h0 : 0 ≤ a) (h1 : a < 8) (hb : a + 1 = b) (ho : o.op = .binOp .add 3 x y 3) (hx : ρ x = .int .i64 a) (hy : ρ y = .int .i64 1) : (execOp ρ o).run Tryd.prog v = .ok (.value (.int .i64 b)) v := by
  subst hb
  unfold execOp
  simp [ho, hx, hy, go_sem, IntKind.wrap]
  omega
theorem psame7_c (a b : Tm) (ca cb : List Value) (Sa Sb : Nat → Prop) (r : Bool) (w : World) (hr : Tm.same a b = r) (hA : TIs w Sa a ca) (hB : TIs w Sb b cb) : Calls Tryd.prog 33 #[.agg ca.toArray, .agg cb.toArray] w fun e w' => e = .returned (.bool r) ∧ Mod [] w w' := by
  subst hr
  exact psame_all _ a b ca cb Sa Sb w (Nat.le_refl _) hA hB
/-- Is one of the first ones this? -/
def hereB (l : List Tm) (t : Tm) (q : Nat) : Bool := (l.take q).any fun x => Tm.same x t
theorem hereB_succ {l : List Tm} {t : Tm} {q : Nat} (h : q < l.length) : hereB l t (q + 1) = (hereB l t q || Tm.same l[q] t) := by
  unfold hereB
  rw [List.take_succ_eq_append_getElem h, List.any_append]
  simp
theorem hereB_all (l : List Tm) (t : Tm) : hereB l t l.length = true ↔ t ∈ l := by
  unfold hereB
  rw [List.take_length, List.any_eq_true]
  constructor
  · rintro ⟨x, hx, h⟩; rw [(Tm.same_iff x t).1 h] at hx; exact hx
  · intro h; exact ⟨t, h, (Tm.same_iff t t).2 rfl⟩
/-- The atoms that are asked for. -/
def AskT (t : Tm) : Prop := Tm.isAtomB t = true ∧ t.right = true ∧ t.count ≤ 10
theorem ask_fresh {U V : Int} (h1 : 1 ≤ U) (h2 : U ≤ 6) (h3 : 0 ≤ V) (h4 : V ≤ 65535) : AskT (.mk 2 U V ⟨#[]⟩ []) :=
  ⟨rfl, right_by (wk_atom h1 h2 h3 h4) (by simp [Tm.depth, Tm.depthAll]) (by simp [Tm.count, Tm.countAll]), by simp [Tm.count, Tm.countAll]⟩
theorem ask_secret {U : Int} (h1 : 1 ≤ U) (h2 : U ≤ 6) : AskT (.mk 3 U 0 ⟨#[]⟩ []) := by
  have h : (Tm.mk 3 U 0 ⟨#[]⟩ []).ok = true := by
    simp [Tm.ok, Tm.one, Tm.may, Tm.nk, Tm.okAll, Tm.hasU, Tm.hasT, Tm.hasN, h1, h2]
    rfl
  exact ⟨rfl, right_by h (by simp [Tm.depth, Tm.depthAll]) (by simp [Tm.count, Tm.countAll]), by simp [Tm.count, Tm.countAll]⟩
set_option maxRecDepth 1000000 in
set_option maxHeartbeats 8000000 in
theorem atoms_w (A : Option Addr) (n c : Nat) (vs : List (List Value)) (K : List Tm) (a1 a2 : Int) (W : World) (S : Nat → Prop) (hl : n = K.length) (hn : n ≤ 2199023255552) (hR : RowT W S A vs K) (hS : ∀ g, S g → g < W.heap.size) (G : Glob W) :
    Calls Tryd.prog 7 #[.slice A n c, .int .i64 a1, .int .i64 a2] W fun e w' => e = .returned (.bool true) ∧ Mod [] W w' := by
  obtain ⟨w, hw⟩ : ∃ x, x = W := ⟨_, rfl⟩
  rw [← hw] at hR hS G ⊢
  clear hw
  have FA := (Fm.nil w).arg (tR Any S A vs K) (keeps_tR _ _ _ _ _) ⟨hR, fun _ _ => trivial⟩ hS
  obtain ⟨u0, hu0⟩ : ∃ x, x = max a1 0 % 6 := ⟨_, rfl⟩
  obtain ⟨V, hV⟩ : ∃ x, x = max a2 0 % 65536 := ⟨_, rfl⟩
  obtain ⟨U, hU⟩ : ∃ x, x = u0 + 1 := ⟨_, rfl⟩
  have hA : 0 ≤ u0 ∧ u0 < 6 := by omega
  have RA : ∀ (v : World) (ρ : Operand → Value) {o : Oper} {x y : Operand}, o.op = .binOp .rem 3 x y 3 → ρ x = .int .i64 (max a1 0) → ρ y = .int .i64 6 → (execOp ρ o).run Tryd.prog v = .ok (.value (.int .i64 (u0))) v := fun v ρ o x y h1 h2 h3 => exec_rem6p (by omega) hu0.symm h1 h2 h3
  have RB1 : ∀ (v : World) (ρ : Operand → Value) {o : Oper} {x y : Operand}, o.op = .binOp .rem 3 x y 3 → ρ x = .int .i64 (max a2 0) → ρ y = .int .i64 65536 → (execOp ρ o).run Tryd.prog v = .ok (.value (.int .i64 (V))) v := fun v ρ o x y h1 h2 h3 => exec_remBp (by omega) hV.symm h1 h2 h3
  have PA : ∀ (v : World) (ρ : Operand → Value) {o : Oper} {x y : Operand}, o.op = .binOp .add 3 x y 3 → ρ x = .int .i64 (u0) → ρ y = .int .i64 1 → (execOp ρ o).run Tryd.prog v = .ok (.value (.int .i64 (U))) v := fun v ρ o x y h1 h2 h3 => exec_incp hA.1 (by omega) hU.symm h1 h2 h3
  have HT1 : Hid (AskT (.mk 2 U V ⟨#[]⟩ [])) := Lib.hid (ask_fresh (by omega) (by omega) (by omega) (by omega))
  have HT2 : Hid (AskT (.mk 3 U 0 ⟨#[]⟩ [])) := Lib.hid (ask_secret (by omega) (by omega))
  have FI := fun w5 (F5 : Fm w w5 [] [tR Any S A vs K]) => fine_c A n c vs K S w5 hl hn (F5.s 0 rfl).1 (F5.slt 0 rfl)
  have HL := Lib.hid hl
  have HG := Lib.hid G
  clear hu0 hV hU hA hR hS hl G
  go_enter Tryd.func7, Tryd.ntmps7
  go_wp2_with (first
    | (go_at_call 34; refine (wakes07_c w (FA.glob HG.out)).mono ?_
       rintro e w1 ⟨rfl, m1⟩
       have F1 := FA.call m1
       clear m1 FA)
    | (with_reducible refine wpList_ran (o := ⟨some 19, _, _, _, _, _⟩) rfl (.int .i64 (max a1 0)) (exec_max1 rfl rfl rfl) ?_)
    | (with_reducible refine wpList_ran (o := ⟨some 20, _, _, _, _, _⟩) rfl (.int .i64 (u0)) (RA _ _ rfl rfl rfl) ?_)
    | (with_reducible refine wpList_ran (o := ⟨some 21, _, _, _, _, _⟩) rfl (.int .i64 (U)) (PA _ _ rfl rfl rfl) ?_)
    | (with_reducible refine wpList_ran (o := ⟨some 23, _, _, _, _, _⟩) rfl (.int .i64 (max a2 0)) (exec_max1 rfl rfl rfl) ?_)
    | (with_reducible refine wpList_ran (o := ⟨some 24, _, _, _, _, _⟩) rfl (.int .i64 (V)) (RB1 _ _ rfl rfl rfl) ?_)
    | (go_at_call 39; refine (FI w1 F1).mono ?_
       rintro e w2 ⟨b, rfl, hb, m2⟩
       replace hb := Lib.hid hb
       have F2 := F1.call m2
       clear FI F1 m2
       cases b))
  · go_ret
    exact ⟨rfl, F2.m⟩
  obtain ⟨k1, k2, k3⟩ := hb.out (by simp)
  have HK := Lib.hid (And.intro k1 (And.intro k2 k3))
  have AT := atoms_ok A n c vs K S w2 HL.out (F2.s 0 rfl).1 (F2.slt 0 rfl) (F2.glob HG.out) (rfE_of (by omega) k3 (by simp)) (by omega)
  clear hb k1 k2 k3
  go_wp2_with (first
    | (go_at_call 40; refine AT.mono ?_
       rintro e w3 ⟨R, m, vl, l, rfl, hm, _, _, hmem, hRl, m3⟩
       have F3 := F2.put m3 (tR Any (Btw w2.heap.size w3.heap.size) (some ⟨R, 0, none⟩) vl l) (keeps_tR _ _ _ _ _) ⟨hRl, fun _ _ => trivial⟩ (fun g hg => .inl hg)
       have HMEM := Lib.hid hmem
       have HM := Lib.hid hm.1
       have hmb := hm.2
       clear AT F2 hRl hmem hm m3)
    | (go_at_call 18; refine (fresh_c U V w3).mono ?_
       rintro e w4 ⟨c1, rfl, h1, m4⟩
       have F4 := F3.made m4 h1
       have F4 := F4.weak
       have hc1 := (F4.tis 0 rfl).ones
       clear h1 m4 F3)
    | (go_at_call 19; refine (secret_c U w4).mono ?_
       rintro e w5 ⟨c2, rfl, h2, m5⟩
       have F5 := F4.made m5 h2
       have F5 := F5.weak
       have hc2 := (F5.tis 0 rfl).ones
       clear h2 m5 F4)
    | (with_reducible refine fm_row2 F5 (F5.mem 1 rfl) (F5.mem 0 rfl) Any (fun _ _ => trivial) (fun _ _ => trivial) (fun _ _ => trivial) (o := ⟨some 40, .buildSlice 22 2 #[(0, .tmp 37), (1, .tmp 39)], _, _, _, _⟩) rfl (.tmp 37) (.tmp 39) rfl rfl rfl ?_; intro P SP w6 F6; clear F5))
  have F7 := F6.sub (ts' := [tR Any SP (some ⟨P, 0, none⟩) [c1, c2] [.mk 2 U V ⟨#[]⟩ [], .mk 3 U 0 ⟨#[]⟩ []], tR Any (Btw w2.heap.size w3.heap.size) (some ⟨R, 0, none⟩) vl l, tR Any S A vs K]) (List.Sublist.refl _) (fun y hy => by
    simp only [List.mem_cons, List.not_mem_nil, or_false] at hy
    rcases hy with h | h | h <;> simp [h])
  clear F6
  obtain ⟨qs, has⟩ : ∃ qs : List Tm, qs = [.mk 2 U V ⟨#[]⟩ [], .mk 3 U 0 ⟨#[]⟩ []] := ⟨_, rfl⟩
  have HAS : Hid (qs.length = 2 ∧ ∀ t ∈ qs, AskT t) := Lib.hid ⟨by rw [has]; rfl, fun t ht => by
    rw [has] at ht
    simp only [List.mem_cons, List.not_mem_nil, or_false] at ht
    rcases ht with h | h <;> subst h
    · exact HT1.out
    · exact HT2.out⟩
  obtain ⟨SL, hSL⟩ : ∃ S, S = Btw w2.heap.size w3.heap.size := ⟨_, rfl⟩
  rw [← has, ← hSL] at F7
  clear has hSL
  go_loopw [42] (fun iv wr => ∃ (j : Nat), iv = .int .i64 j ∧ j ≤ 2 ∧ Fm w wr [] [tR Any SP (some ⟨P, 0, none⟩) [c1, c2] qs, tR Any SL (some ⟨R, 0, none⟩) vl l, tR Any S A vs K]) (fun iv _ => 2 - (intOf iv).toNat)
  case atStart => exact ⟨0, rfl, by omega, F7⟩
  case round =>
  clear F7
  obtain ⟨j, rfl, hj, FJ⟩ := hrel
  by_cases hjl : j < 2
  case neg =>
    obtain rfl : j = 2 := by omega
    go_wp2_with fail
    go_ret
    exact ⟨rfl, FJ.m⟩
  have hjq : j < qs.length := by rw [HAS.out.1]; exact hjl
  obtain ⟨g, o, cs, hPe, h5, h1, F1⟩ := FJ.elemR (FJ.mem 0 rfl) j hjq
  cases hPe
  replace F1 := F1.eT (F1.mem 0 rfl)
  have HAJ := Lib.hid (HAS.out.2 _ (List.getElem_mem hjq))
  obtain ⟨t, ht⟩ : ∃ t, t = qs[j]'hjq := ⟨_, rfl⟩
  rw [← ht] at F1 HAJ
  clear FJ ht
  go_wp2_with (first
    | (with_reducible refine wpList_ran (o := ⟨some 44, _, _, _, _, _⟩) rfl (.pointer (some ⟨P, 0 + j * 5, none⟩)) (exec_ixs Tryd.underlying22 size24 hjl rfl rfl rfl) ?_)
    | (with_reducible refine fm_loadE F1 (F1.mem 1 rfl) (o := ⟨some 45, .load 24 (.tmp 44), _, _, _, _⟩) rfl (.tmp 44) rfl rfl h5 ?_)
    | (with_reducible refine fm_alloc F1 (o := ⟨some 10, .alloc 24, _, _, _, _⟩) rfl 24 rfl _ zero24 ?_; intro b2 w2' F2; clear F1)
    | (with_reducible refine fm_store F2 0 rfl (o := ⟨none, .store 24 (.tmp 10) (.tmp 45), _, _, _, _⟩) rfl (.tmp 10) (.tmp 45) rfl rfl cs rfl rfl h5 (tmc_len _ _ _ _ _ _ _) h1 ?_; intro w3' F3; clear F2))
  have F4 : Fm w w3' [oB b2 24 cs] [tT Any SP t cs, tR Any SP (some ⟨P, 0, none⟩) [c1, c2] qs, tR Any SL (some ⟨R, 0, none⟩) vl l, tR Any S A vs K] := F3.sub (List.Sublist.refl _) (fun y hy => by
    simp only [List.mem_cons, List.not_mem_nil, or_false] at hy
    rcases hy with h | h | h | h <;> simp [h])
  clear F3
  go_loopw [11, 48] (fun z iv wr => ∃ (q : Nat) (bq : Bool), iv = .int .i64 q ∧ z = .bool bq ∧ q ≤ m ∧ Hid (bq = hereB l t q) ∧ Fm w wr [oB b2 24 cs] [tT Any SP t cs, tR Any SP (some ⟨P, 0, none⟩) [c1, c2] qs, tR Any SL (some ⟨R, 0, none⟩) vl l, tR Any S A vs K]) (fun _ iv _ => m - (intOf iv).toNat)
  case atStart => exact ⟨0, false, rfl, rfl, by omega, Lib.hid rfl, F4⟩
  case round =>
  clear F4
  obtain ⟨q, bq, rfl, rfl, hq, hbq, FJ⟩ := hrel
  by_cases hql : q < m
  case pos =>
    have hqq : q < l.length := by rw [← HM.out]; exact hql
    obtain ⟨g, o2, cx, hRe, hx5, hx1, F1⟩ := FJ.elemR (FJ.mem 2 rfl) q hqq
    cases hRe
    replace F1 := F1.eT (F1.mem 0 rfl)
    clear FJ
    obtain ⟨x, hx⟩ : ∃ x, x = l[q]'hqq := ⟨_, rfl⟩
    rw [← hx] at F1
    obtain ⟨r, hr⟩ : ∃ r, r = Tm.same x t := ⟨_, rfl⟩
    have PS := fun (w5 : World) (os5 : List Th) (F5 : Fm w w5 os5 _) => psame7_c x t cx cs SL SP r w5 hr.symm (F5.ist (F1.mem 0 rfl)) (F5.ist (F1.mem 2 rfl))
    have HSC : Hid (hereB l t (q + 1) = (bq || r)) := Lib.hid (by rw [hereB_succ hqq, hbq.out, hr, hx])
    clear hx hr hbq
    cases bq with
    | true =>
      go_wp2_with (first
        | (with_reducible refine wpList_ran (o := ⟨some 50, _, _, _, _, _⟩) rfl (.pointer (some ⟨R, 0 + q * 5, none⟩)) (exec_ixs Tryd.underlying22 size24 hql rfl rfl rfl) ?_)
        | (with_reducible refine fm_loadE F1 (F1.mem 1 rfl) (o := ⟨some 51, .load 24 (.tmp 50), _, _, _, _⟩) rfl (.tmp 50) rfl rfl hx5 ?_)
        | (with_reducible refine fm_alloc F1 (o := ⟨some 13, .alloc 24, _, _, _, _⟩) rfl 24 rfl _ zero24 ?_; intro b3 w4 F2; clear F1)
        | (with_reducible refine fm_store F2 0 rfl (o := ⟨none, .store 24 (.tmp 13) (.tmp 51), _, _, _, _⟩) rfl (.tmp 13) (.tmp 51) rfl rfl cx rfl rfl hx5 (tmc_len _ _ _ _ _ _ _) hx1 ?_; intro w5 F3; clear F2))
      refine ⟨⟨q + 1, true, by go_num, rfl, by omega, Lib.hid (by rw [HSC.out]; rfl), F3.sub (List.sublist_cons_self _ _) (fun y hy => ?_)⟩, by simp [intOf]; omega⟩
      simp only [List.mem_cons, List.not_mem_nil, or_false] at hy
      rcases hy with h | h | h | h <;> simp [h]
    | false =>
      go_wp2_with (first
        | (with_reducible refine wpList_ran (o := ⟨some 50, _, _, _, _, _⟩) rfl (.pointer (some ⟨R, 0 + q * 5, none⟩)) (exec_ixs Tryd.underlying22 size24 hql rfl rfl rfl) ?_)
        | (with_reducible refine fm_loadE F1 (F1.mem 1 rfl) (o := ⟨some 51, .load 24 (.tmp 50), _, _, _, _⟩) rfl (.tmp 50) rfl rfl hx5 ?_)
        | (with_reducible refine fm_alloc F1 (o := ⟨some 13, .alloc 24, _, _, _, _⟩) rfl 24 rfl _ zero24 ?_; intro b3 w4 F2)
        | (with_reducible refine fm_store F2 0 rfl (o := ⟨none, .store 24 (.tmp 13) (.tmp 51), _, _, _, _⟩) rfl (.tmp 13) (.tmp 51) rfl rfl cx rfl rfl hx5 (tmc_len _ _ _ _ _ _ _) hx1 ?_; intro w5 F3; clear F2)
        | (with_reducible refine fm_loadG F3 0 rfl (o := ⟨some 54, .load 24 (.tmp 13), _, _, _, _⟩) rfl (.tmp 13) rfl rfl hx5 ?_)
        | (with_reducible refine fm_loadG F3 1 rfl (o := ⟨some 55, .load 24 (.tmp 10), _, _, _, _⟩) rfl (.tmp 10) rfl rfl h5 ?_)
        | (go_at_call 33; refine (PS w5 _ F3).mono ?_
           rintro e w6 ⟨rfl, m6⟩
           have F6 := F3.call m6
           clear PS F3 F1 m6))
      refine ⟨⟨q + 1, r, by go_num, rfl, by omega, Lib.hid (by rw [HSC.out]; rfl), F6.sub (List.sublist_cons_self _ _) (fun y hy => ?_)⟩, by simp [intOf]; omega⟩
      simp only [List.mem_cons, List.not_mem_nil, or_false] at hy
      rcases hy with h | h | h | h <;> simp [h]
  case neg =>
  obtain rfl : m = q := by omega
  have hbl : bq = true ↔ t ∈ l := by rw [hbq.out, HM.out]; exact hereB_all l t
  have HBL := Lib.hid hbl
  have CA := can_ok A n c vs K S cs t SP wr HL.out (FJ.s 3 rfl).1 (FJ.ist (FJ.mem 0 rfl)) (FJ.slt 3 rfl) (FJ.ltm (FJ.mem 0 rfl)) (FJ.glob HG.out) (rfE_of (by have := HK.out.1; omega) HK.out.2.2 (by simpa using HAJ.out.2.1)) (by have := HK.out.2.1; have := HAJ.out.2.2; omega)
  clear hbl hbq
  go_wp2_with (first
    | (with_reducible refine fm_load FJ 0 rfl (o := ⟨some 61, .load 24 (.tmp 10), _, _, _, _⟩) rfl (.tmp 10) rfl rfl h5 ?_)
    | (go_at_call 36; refine CA.mono ?_
       rintro e w5 ⟨bb, rfl, hbb, m5⟩
       obtain rfl : bb = bq := by
         have h1 := HBL.out
         have h2 : t ∈ l ↔ Tm.Gk K false t := (HMEM.out t).trans ⟨fun h => .weak h.1, fun h => ⟨atom_part HAJ.out.1 h, HAJ.out.1⟩⟩
         have h3 := hbb.trans (h2.symm.trans h1.symm)
         cases bb <;> cases bq <;> simp_all
       have F5 := FJ.call m5
       clear CA FJ hbb m5))
  exact ⟨⟨j + 1, by go_num, by omega, F5.sub (List.nil_sublist _) (fun y hy => by
    simp only [List.mem_cons, List.not_mem_nil, or_false] at hy
    rcases hy with h | h | h <;> simp [h])⟩, by simp [intOf]; omega⟩
theorem closeAtoms_w (A : Option Addr) (c : Nat) (vs : List (List Value)) (K : List Tm) (a1 a2 : Int) (W : World) (hl : K.length ≤ c) (hm : c ≤ maxLen) (hb : K.length ≤ 2199023255552) (hR : RowT W (Btw 0 W.heap.size) A vs K) (G : Glob W) :
    Calls Tryd.prog 7 #[.slice A K.length c, .int .i64 a1, .int .i64 a2] W fun e w' => e = .returned (.bool true) ∧ Mod [] W w' :=
  atoms_w A K.length c vs K a1 a2 W (Btw 0 W.heap.size) rfl hb hR (fun g hg => hg.2) G
end
end Go.Proofs.YtchanildogjhgaaDoor
