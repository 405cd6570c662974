/-
  CloseMore: the walk. My own work.
-/
import Derived.Test.YtchanildogjhgaaDoorPj
namespace Go.Proofs.YtchanildogjhgaaDoor
section
open Go.RowKit Go.Shelf
attribute [local go_sem] Oper.semAt_some
set_option linter.unusedVariables false
set_option linter.unusedSimpArgs false
/-- Few, and all of them may be. -/
def FewR (K : List Tm) : Prop := K.length ≤ 30 ∧ Tm.countAll K ≤ 120 ∧ ∀ t ∈ K, t.right = true
theorem FewR.one {t : Tm} (h : FewR [t]) : t.right = true ∧ t.count ≤ 120 := ⟨h.2.2 t (by simp), by have := h.2.1; simp [Tm.countAll] at this; omega⟩
def Ans (b : Bool) (K : List Tm) (t : Tm) : Prop := b = true ↔ Tm.Gk K false t
/-- What was kept of what was gone through. -/
def Kept (K N L : List Tm) : Prop := (∀ t ∈ K, t ∈ L) ∧ (∀ t ∈ L, t ∈ K ∨ (t ∈ N ∧ Tm.Gk K false t)) ∧ L.length ≤ K.length + N.length ∧ Tm.countAll L ≤ Tm.countAll K + Tm.countAll N
theorem kept_none (K : List Tm) : Kept K [] K := ⟨fun _ h => h, fun _ h => .inl h, by simp, by simp [Tm.countAll]⟩
theorem kept_skip {K N L : List Tm} (h : Kept K N L) (x : Tm) : Kept K (N ++ [x]) L :=
  ⟨h.1, fun t ht => (h.2.1 t ht).imp_right fun q => ⟨List.mem_append_left _ q.1, q.2⟩, by have := h.2.2.1; simp; omega, by have := h.2.2.2; rw [Tm.countAll_append]; omega⟩
theorem kept_add {K N L : List Tm} (h : Kept K N L) {x : Tm} (hx : Tm.Gk K false x) : Kept K (N ++ [x]) (L ++ [x]) := by
  refine ⟨fun t ht => List.mem_append_left _ (h.1 t ht), fun t ht => ?_, by have := h.2.2.1; simp; omega, by have := h.2.2.2; rw [Tm.countAll_append, Tm.countAll_append]; omega⟩
  rcases List.mem_append.1 ht with q | q
  · exact (h.2.1 t q).imp_right fun q => ⟨List.mem_append_left _ q.1, q.2⟩
  · simp only [List.mem_singleton] at q
    subst q
    exact .inr ⟨by simp, hx⟩
theorem ans_same {K N L : List Tm} {t : Tm} {a b : Bool} (ha : Ans a K t) (hk : Kept K N L) (hb : b = true ↔ Tm.Gk L false t) : b = a := by
  have h : Tm.Gk L false t ↔ Tm.Gk K false t := ⟨gk_more fun x hx => (hk.2.1 x hx).elim (fun q => .weak (.known q)) fun q => q.2, gk_mono hk.1⟩
  have h2 := hb.trans (h.trans ha.symm)
  cases a <;> cases b <;> simp_all
/-- Can at few known ones. -/
theorem can_few (A : Option Addr) (n c : Nat) (vs : List (List Value)) (K : List Tm) (S : Nat → Prop) (ct : List Value) (t : Tm) (St : Nat → Prop) (w : World) (hl : n = K.length) (hR : RowT w S A vs K) (hT : TIs w St t ct) (hS : ∀ g, S g → g < w.heap.size) (hSt : ∀ g, St g → g < w.heap.size) (G : Glob w) (h1 : K.length ≤ 100) (h2 : Tm.countAll K ≤ 1000) (h3 : ∀ x ∈ K, x.right = true) (h4 : t.right = true) :
    Calls Tryd.prog 36 #[.slice A n c, .agg ct.toArray] w fun e w' => ∃ bb, e = .returned (.tuple #[.bool bb, .int .i64 0]) ∧ (bb = true ↔ Tm.Gk K false t) ∧ Mod [] w w' :=
  can_ok A n c vs K S ct t St w hl hR hT hS hSt G (rfE_of (by omega) h3 (by simpa using h4)) (by have := (right_ok h4).2.2; omega)
set_option maxRecDepth 1000000 in
set_option maxHeartbeats 8000000 in
theorem more_w (A : Option Addr) (n c : Nat) (vs : List (List Value)) (K : List Tm) (B : Option Addr) (mn mc : Nat) (vm : List (List Value)) (M : List Tm) (ct : List Value) (t : Tm) (W : World) (S SM St : Nat → Prop) (hl : n = K.length) (hn : n ≤ 2199023255552) (hR : RowT W S A vs K) (hS : ∀ g, S g → g < W.heap.size) (hlm : mn = M.length) (hnm : mn ≤ 2199023255552) (hRM : RowT W SM B vm M) (hSM : ∀ g, SM g → g < W.heap.size) (hT : TIs W St t ct) (hSt : ∀ g, St g → g < W.heap.size) (G : Glob W) :
    Calls Tryd.prog 6 #[.slice A n c, .slice B mn mc, .agg ct.toArray] W fun e w' => e = .returned (.bool true) ∧ Mod [] W w' := by
  obtain ⟨w, hw⟩ : ∃ x, x = W := ⟨_, rfl⟩
  rw [← hw] at hR hS hRM hSM hT hSt G ⊢
  clear hw
  have FA := (((Fm.nil w).arg (tR Any S A vs K) (keeps_tR _ _ _ _ _) ⟨hR, fun _ _ => trivial⟩ hS).arg (tR Any SM B vm M) (keeps_tR _ _ _ _ _) ⟨hRM, fun _ _ => trivial⟩ hSM).argT hT hSt
  have hc5 := hT.ones
  have HL := Lib.hid hl
  have HLM := Lib.hid hlm
  have HG := Lib.hid G
  have FK := fun w5 (R5 : RowT w5 S A vs K) (s5 : ∀ g, S g → g < w5.heap.size) => fine_c A n c vs K S w5 hl hn R5 s5
  have FM := fun w5 (R5 : RowT w5 SM B vm M) (s5 : ∀ g, SM g → g < w5.heap.size) => fine_c B mn mc vm M SM w5 hlm hnm R5 s5
  clear hR hS hRM hSM hT hSt hl hlm G
  go_enter Tryd.func6, Tryd.ntmps6
  go_wp2_with (first
    | (with_reducible refine fm_box FA (o := ⟨some 5, .box 24 (.tmp 2), _, _, _, _⟩) rfl 24 (.tmp 2) rfl ct rfl ?_; intro b w0 F0; clear FA)
    | (go_at_call 34; refine (wakes07_c w0 (F0.glob HG.out)).mono ?_
       rintro e w1 ⟨rfl, m1⟩
       have F1 := F0.call m1
       clear m1 F0)
    | (go_at_call 39; refine (FK w1 (F1.s 2 rfl).1 (F1.slt 2 rfl)).mono ?_
       rintro e w2 ⟨b1, rfl, hb1, m2⟩
       replace hb1 : Hid (b1 = true → FewR K) := Lib.hid hb1
       have F2 := F1.call m2
       clear FK F1 m2
       cases b1)
    | (go_at_call 39; refine (FM w2 (F2.s 1 rfl).1 (F2.slt 1 rfl)).mono ?_
       rintro e w3 ⟨b2, rfl, hb2, m3⟩
       replace hb2 : Hid (b2 = true → FewR M) := Lib.hid hb2
       have F3 := F2.call m3
       clear FM F2 m3
       obtain ⟨ST, F4⟩ := F3.row1 (F3.mem 0 rfl) Any (fun _ _ => trivial) (fun _ _ => trivial)
       cases b2)
    | (with_reducible refine fm_ranW (o := ⟨some 29, _, _, _, _, _⟩) rfl (.agg ct.toArray) _ (exec_load rfl rfl (run_loads (Cells.of_holds (F3.blk 0 rfl)) Tryd.underlying24 rfl (size24' hc5.1))) ?_)
    | (with_reducible refine fm_ranW (o := ⟨some 30, .buildSlice 22 1 #[(0, .tmp 29)], _, _, _, _⟩) rfl (.slice (some ⟨w3.heap.size, 0, none⟩) 1 1) _ (exec_lit1 hc5.1 rfl rfl) ?_)
    | (go_at_call 39; refine (fine_c (some ⟨w3.heap.size, 0, none⟩) 1 1 [ct] [t] ST _ rfl (by omega) (F4.s 0 rfl).1 (F4.slt 0 rfl)).mono ?_
       rintro e w5 ⟨b3, rfl, hb3, m5⟩
       replace hb3 : Hid (b3 = true → FewR [t]) := Lib.hid hb3
       have F5 := F4.call m5
       clear F4 F3 m5
       cases b3)
    | (with_reducible refine fm_load F5 0 rfl (o := ⟨some 36, .load 24 (.tmp 5), _, _, _, _⟩) rfl (.tmp 5) rfl rfl hc5.1 ?_)
    | (go_at_call 36
       have HK := Lib.hid (hb1.out (by simp))
       have HM := Lib.hid (hb2.out (by simp))
       have HT := Lib.hid (hb3.out (by simp)).one
       have F6 : Fm w w5 [oB b 24 ct] [tT Any St t ct, tR Any SM B vm M, tR Any S A vs K] := F5.sub (List.Sublist.refl _) (fun y hy => by
         simp only [List.mem_cons, List.not_mem_nil, or_false] at hy
         rcases hy with h | h | h <;> simp [h])
       have CK := can_few A n c vs K S ct t St w5 HL.out (F6.s 2 rfl).1 (F6.s 0 rfl).1 (F6.slt 2 rfl) (F6.slt 0 rfl) (F6.glob HG.out) (by have := HK.out.1; omega) (by have := HK.out.2.1; omega) HK.out.2.2 HT.out.1
       have hkn : n ≤ 30 := by rw [HL.out]; exact HK.out.1
       have hkm : mn ≤ 30 := by rw [HLM.out]; exact HM.out.1
       refine CK.mono ?_
       rintro e w6 ⟨a1, rfl, ha, m6⟩
       have HA : Hid (Ans a1 K t) := Lib.hid ha
       have F7 := F6.call m6
       clear F5 F6 ha m6 CK hb1 hb2 hb3)
    | (with_reducible refine fm_lit0 F7 (o := ⟨some 40, .buildSlice 22 0 #[], _, _, _, _⟩) rfl rfl ?_; intro g8 w8 F8; clear F7)
    | (with_reducible refine fm_appendR F8 0 rfl (F8.mem 0 rfl) (F8.mem 3 rfl) 0 n c rfl HL.out (by omega) (o := ⟨some 42, .call { callee := .builtin .append, args := #[.tmp 40, .tmp 41], argTypes := #[22, 22] }, _, _, _, _⟩) rfl (.tmp 40) (.tmp 41) rfl rfl rfl ?_; intro A9 c9 xs9 S9 w9 F9; clear F8)
    | (with_reducible refine fm_appendR F9 0 rfl (F9.mem 0 rfl) (F9.mem 3 rfl) n mn mc HL.out HLM.out (by omega) (o := ⟨some 44, .call { callee := .builtin .append, args := #[.tmp 42, .tmp 43], argTypes := #[22, 22] }, _, _, _, _⟩) rfl (.tmp 42) (.tmp 43) rfl rfl rfl ?_; intro Aa ca xsa Sa wa Fa; clear F9)
    | (with_reducible refine fm_load Fa 1 rfl (o := ⟨some 47, .load 24 (.tmp 5), _, _, _, _⟩) rfl (.tmp 5) rfl rfl hc5.1 ?_)
    | (go_at_call 36
       obtain ⟨SB, vB, RB, sB⟩ := Fa.rowStands 0 rfl (Fa.mem 0 rfl)
       refine (can_few Aa (n + mn) ca vB (K ++ M) SB ct t St wa (by rw [HL.out, HLM.out, List.length_append]) RB (Fa.s 3 rfl).1 sB (Fa.slt 3 rfl) (Fa.glob HG.out) (by have := HK.out.1; have := HM.out.1; rw [List.length_append]; omega) (by have := HK.out.2.1; have := HM.out.2.1; rw [Tm.countAll_append]; omega) (fun x hx => (List.mem_append.1 hx).elim (HK.out.2.2 x) (HM.out.2.2 x)) HT.out.1).mono ?_
       rintro e wb ⟨a2, rfl, ha2, mb⟩
       have h12 : a1 = true → a2 = true := fun h => ha2.2 (gk_mono (fun x hx => List.mem_append_left _ hx) (HA.out.1 h))
       have Fb := Fa.call mb
       clear RB sB ha2 Fa mb
       obtain ⟨a3, ha3⟩ : ∃ a3, a2 = (a1 || a3) := ⟨a2, by cases a1 with | false => rfl | true => exact h12 rfl⟩
       subst ha3
       clear h12
       cases a1)
    | (with_reducible refine fm_lit0 Fb (o := ⟨some 64, .buildSlice 22 0 #[], _, _, _, _⟩) rfl rfl ?_; intro gc wc Fc; clear Fb)
    | (with_reducible refine fm_appendR Fc 0 rfl (Fc.mem 0 rfl) (Fc.mem 6 rfl) 0 n c rfl HL.out (by omega) (o := ⟨some 66, .call { callee := .builtin .append, args := #[.tmp 64, .tmp 65], argTypes := #[22, 22] }, _, _, _, _⟩) rfl (.tmp 64) (.tmp 65) rfl rfl rfl ?_; intro Ad cd xsd Sd wd Fd; clear Fc))
  · go_ret
    exact ⟨rfl, F2.m⟩
  · go_ret
    exact ⟨rfl, F3.m⟩
  · go_ret
    exact ⟨rfl, F5.m⟩
  all_goals (
    have Fe : Fm w wd [oR Ad cd xsd, oB b 24 ct] [tLs Any Sd K xsd, tT Any St t ct, tR Any SM B vm M, tR Any S A vs K] := Fd.sub (by simp) (fun y hy => by
      simp only [List.mem_cons, List.not_mem_nil, or_false] at hy
      rcases hy with h | h | h | h <;> simp [h])
    clear Fd
    have CX := fun (w5 : World) (x : Tm) (cx : List Value) (Sx : Nat → Prop) (R5 : RowT w5 S A vs K) (s5 : ∀ g, S g → g < w5.heap.size) (T5 : TIs w5 Sx x cx) (s6 : ∀ g, Sx g → g < w5.heap.size) (G5 : Glob w5) (hx : x.right = true) => can_few A n c vs K S cx x Sx w5 HL.out R5 T5 s5 s6 G5 (by have := HK.out.1; omega) (by have := HK.out.2.1; omega) HK.out.2.2 hx
    go_loopw [12, 69] (fun z iv wr => ∃ (j k : Nat) (A' : Option Addr) (c' : Nat) (xs : List Q5) (T : Nat → Prop) (L : List Tm), iv = .int .i64 j ∧ z = .slice A' k c' ∧ j ≤ mn ∧ k ≤ n + j ∧ Hid (k = L.length) ∧ Hid (Kept K (M.take j) L) ∧ Fm w wr [oR A' c' xs, oB b 24 ct] [tLs Any T L xs, tT Any St t ct, tR Any SM B vm M, tR Any S A vs K]) (fun _ iv _ => mn - (intOf iv).toNat))
  case atStart => exact ⟨0, n, Ad, cd, xsd, Sd, K, rfl, rfl, by omega, by omega, Lib.hid HL.out, Lib.hid (kept_none K), Fe⟩
  case atStart => exact ⟨0, n, Ad, cd, xsd, Sd, K, rfl, rfl, by omega, by omega, Lib.hid HL.out, Lib.hid (kept_none K), Fe⟩
  all_goals (
    clear Fe
    obtain ⟨j, k, A', c', xs, T, L, rfl, rfl, hj, hkj, hk, hkp, FJ⟩ := hrel
    by_cases hjl : j < mn)
  case pos =>
    have hjq : j < M.length := by rw [← HLM.out]; exact hjl
    obtain ⟨g, o, cx, rfl, hx5, hx1, F1⟩ := FJ.elemR (FJ.mem 2 rfl) j hjq
    replace F1 := F1.eT (F1.mem 0 rfl)
    clear FJ
    have HXR := Lib.hid (HM.out.2.2 _ (List.getElem_mem hjq))
    have HTK : Hid (M.take (j + 1) = M.take j ++ [M[j]'hjq]) := Lib.hid (List.take_succ_eq_append_getElem hjq)
    obtain ⟨x, hx⟩ : ∃ x, x = M[j]'hjq := ⟨_, rfl⟩
    rw [← hx] at F1 HXR HTK
    clear hx
    go_wp2_with (first
      | (with_reducible refine wpList_ran (o := ⟨some 71, _, _, _, _, _⟩) rfl (.pointer (some ⟨g, o + j * 5, none⟩)) (exec_ixs Tryd.underlying22 size24 hjl rfl rfl rfl) ?_)
      | (with_reducible refine fm_loadE F1 (F1.mem 1 rfl) (o := ⟨some 72, .load 24 (.tmp 71), _, _, _, _⟩) rfl (.tmp 71) rfl rfl hx5 ?_)
      | (with_reducible refine fm_alloc F1 (o := ⟨some 14, .alloc 24, _, _, _, _⟩) rfl 24 rfl _ zero24 ?_; intro b2 w2' F2; clear F1)
      | (with_reducible refine fm_store F2 0 rfl (o := ⟨none, .store 24 (.tmp 14) (.tmp 72), _, _, _, _⟩) rfl (.tmp 14) (.tmp 72) rfl rfl cx rfl rfl hx5 (tmc_len _ _ _ _ _ _ _) hx1 ?_; intro w3' F3; clear F2)
      | (with_reducible refine fm_load F3 0 rfl (o := ⟨some 75, .load 24 (.tmp 14), _, _, _, _⟩) rfl (.tmp 14) rfl rfl hx5 ?_)
      | (go_at_call 36; refine (CX w3' x cx _ (F3.s 5 rfl).1 (F3.slt 5 rfl) (F3.s 0 rfl).1 (F3.slt 0 rfl) (F3.glob HG.out) HXR.out).mono ?_
         rintro e w4' ⟨bb, rfl, hbb, m4⟩
         have HBB : Hid (Ans bb K x) := Lib.hid hbb
         have F4 := F3.call m4
         clear F3 hbb m4
         cases bb)
      | (with_reducible refine fm_load F4 0 rfl (o := ⟨some 85, .load 24 (.tmp 14), _, _, _, _⟩) rfl (.tmp 14) rfl rfl hx5 ?_)
      | (with_reducible refine fm_row1 F4 (F4.mem 0 rfl) Any (fun _ _ => trivial) (fun _ _ => trivial) (o := ⟨some 86, .buildSlice 22 1 #[(0, .tmp 85)], _, _, _, _⟩) rfl (.tmp 85) rfl rfl ?_; intro g2 S2 w5' F5; clear F4)
      | (with_reducible refine fm_append1 F5 1 rfl (F5.mem 3 rfl) (F5.mem 0 rfl) (fun _ _ => trivial) k hk.out (by omega) (o := ⟨some 87, .call { callee := .builtin .append, args := #[.tmp 84, .tmp 86], argTypes := #[22, 22] }, _, _, _, _⟩) rfl (.tmp 84) (.tmp 86) rfl rfl rfl ?_; intro A6 c6 xs6 T6 w6' F6; clear F5))
    · refine ⟨⟨j + 1, k, A', c', xs, T, L, by go_num, rfl, by omega, by omega, hk, Lib.hid (by rw [HTK.out]; exact kept_skip hkp.out x), F4.sub (List.sublist_cons_self _ _) (fun y hy => ?_)⟩, by simp [intOf]; omega⟩
      simp only [List.mem_cons, List.not_mem_nil, or_false] at hy
      rcases hy with h | h | h | h <;> simp [h]
    · refine ⟨⟨j + 1, k + 1, A6, c6, xs6, T6, L ++ [x], by go_num, rfl, by omega, by omega, Lib.hid (by rw [List.length_append, List.length_singleton, hk.out]), Lib.hid (by rw [HTK.out]; exact kept_add hkp.out (HBB.out.1 rfl)), F6.sub (List.sublist_cons_self _ _) (fun y hy => ?_)⟩, by simp [intOf]; omega⟩
      simp only [List.mem_cons, List.not_mem_nil, or_false] at hy
      rcases hy with h | h | h | h <;> simp [h]
  case neg =>
    obtain rfl : mn = j := by omega
    have hkk := hkp.out
    rw [HLM.out, List.take_length] at hkk
    have HKK := Lib.hid hkk
    have hb3 : L.length ≤ 100 := by have := hkk.2.2.1; have := HK.out.1; have := HM.out.1; omega
    have hb4 : Tm.countAll L ≤ 1000 := by have := hkk.2.2.2; have := HK.out.2.1; have := HM.out.2.1; omega
    have hb5 : ∀ x ∈ L, x.right = true := fun x hx => (hkk.2.1 x hx).elim (HK.out.2.2 x) fun q => HM.out.2.2 x q.1
    obtain ⟨SB, vB, RB, sB⟩ := FJ.rowStands 0 rfl (FJ.mem 0 rfl)
    have CL := can_few A' k c' vB L SB ct t St wr hk.out RB (FJ.s 1 rfl).1 sB (FJ.slt 1 rfl) (FJ.glob HG.out) hb3 hb4 hb5 HT.out.1
    clear RB sB hb3 hb4 hb5 hkk hkp CX
    go_wp2_with (first
      | (with_reducible refine fm_load FJ 1 rfl (o := ⟨some 91, .load 24 (.tmp 5), _, _, _, _⟩) rfl (.tmp 5) rfl rfl hc5.1 ?_)
      | (go_at_call 36; refine CL.mono ?_
         rintro e w5' ⟨bb, rfl, hbb, m5⟩
         obtain rfl := ans_same HA.out HKK.out hbb
         have F5 := FJ.call m5
         clear CL FJ hbb m5))
    go_ret
    exact ⟨rfl, F5.m⟩
  case pos =>
    have hjq : j < M.length := by rw [← HLM.out]; exact hjl
    obtain ⟨g, o, cx, rfl, hx5, hx1, F1⟩ := FJ.elemR (FJ.mem 2 rfl) j hjq
    replace F1 := F1.eT (F1.mem 0 rfl)
    clear FJ
    have HXR := Lib.hid (HM.out.2.2 _ (List.getElem_mem hjq))
    have HTK : Hid (M.take (j + 1) = M.take j ++ [M[j]'hjq]) := Lib.hid (List.take_succ_eq_append_getElem hjq)
    obtain ⟨x, hx⟩ : ∃ x, x = M[j]'hjq := ⟨_, rfl⟩
    rw [← hx] at F1 HXR HTK
    clear hx
    go_wp2_with (first
      | (with_reducible refine wpList_ran (o := ⟨some 71, _, _, _, _, _⟩) rfl (.pointer (some ⟨g, o + j * 5, none⟩)) (exec_ixs Tryd.underlying22 size24 hjl rfl rfl rfl) ?_)
      | (with_reducible refine fm_loadE F1 (F1.mem 1 rfl) (o := ⟨some 72, .load 24 (.tmp 71), _, _, _, _⟩) rfl (.tmp 71) rfl rfl hx5 ?_)
      | (with_reducible refine fm_alloc F1 (o := ⟨some 14, .alloc 24, _, _, _, _⟩) rfl 24 rfl _ zero24 ?_; intro b2 w2' F2; clear F1)
      | (with_reducible refine fm_store F2 0 rfl (o := ⟨none, .store 24 (.tmp 14) (.tmp 72), _, _, _, _⟩) rfl (.tmp 14) (.tmp 72) rfl rfl cx rfl rfl hx5 (tmc_len _ _ _ _ _ _ _) hx1 ?_; intro w3' F3; clear F2)
      | (with_reducible refine fm_load F3 0 rfl (o := ⟨some 75, .load 24 (.tmp 14), _, _, _, _⟩) rfl (.tmp 14) rfl rfl hx5 ?_)
      | (go_at_call 36; refine (CX w3' x cx _ (F3.s 5 rfl).1 (F3.slt 5 rfl) (F3.s 0 rfl).1 (F3.slt 0 rfl) (F3.glob HG.out) HXR.out).mono ?_
         rintro e w4' ⟨bb, rfl, hbb, m4⟩
         have HBB : Hid (Ans bb K x) := Lib.hid hbb
         have F4 := F3.call m4
         clear F3 hbb m4
         cases bb)
      | (with_reducible refine fm_load F4 0 rfl (o := ⟨some 85, .load 24 (.tmp 14), _, _, _, _⟩) rfl (.tmp 14) rfl rfl hx5 ?_)
      | (with_reducible refine fm_row1 F4 (F4.mem 0 rfl) Any (fun _ _ => trivial) (fun _ _ => trivial) (o := ⟨some 86, .buildSlice 22 1 #[(0, .tmp 85)], _, _, _, _⟩) rfl (.tmp 85) rfl rfl ?_; intro g2 S2 w5' F5; clear F4)
      | (with_reducible refine fm_append1 F5 1 rfl (F5.mem 3 rfl) (F5.mem 0 rfl) (fun _ _ => trivial) k hk.out (by omega) (o := ⟨some 87, .call { callee := .builtin .append, args := #[.tmp 84, .tmp 86], argTypes := #[22, 22] }, _, _, _, _⟩) rfl (.tmp 84) (.tmp 86) rfl rfl rfl ?_; intro A6 c6 xs6 T6 w6' F6; clear F5))
    · refine ⟨⟨j + 1, k, A', c', xs, T, L, by go_num, rfl, by omega, by omega, hk, Lib.hid (by rw [HTK.out]; exact kept_skip hkp.out x), F4.sub (List.sublist_cons_self _ _) (fun y hy => ?_)⟩, by simp [intOf]; omega⟩
      simp only [List.mem_cons, List.not_mem_nil, or_false] at hy
      rcases hy with h | h | h | h <;> simp [h]
    · refine ⟨⟨j + 1, k + 1, A6, c6, xs6, T6, L ++ [x], by go_num, rfl, by omega, by omega, Lib.hid (by rw [List.length_append, List.length_singleton, hk.out]), Lib.hid (by rw [HTK.out]; exact kept_add hkp.out (HBB.out.1 rfl)), F6.sub (List.sublist_cons_self _ _) (fun y hy => ?_)⟩, by simp [intOf]; omega⟩
      simp only [List.mem_cons, List.not_mem_nil, or_false] at hy
      rcases hy with h | h | h | h <;> simp [h]
  case neg =>
    obtain rfl : mn = j := by omega
    have hkk := hkp.out
    rw [HLM.out, List.take_length] at hkk
    have HKK := Lib.hid hkk
    have hb3 : L.length ≤ 100 := by have := hkk.2.2.1; have := HK.out.1; have := HM.out.1; omega
    have hb4 : Tm.countAll L ≤ 1000 := by have := hkk.2.2.2; have := HK.out.2.1; have := HM.out.2.1; omega
    have hb5 : ∀ x ∈ L, x.right = true := fun x hx => (hkk.2.1 x hx).elim (HK.out.2.2 x) fun q => HM.out.2.2 x q.1
    obtain ⟨SB, vB, RB, sB⟩ := FJ.rowStands 0 rfl (FJ.mem 0 rfl)
    have CL := can_few A' k c' vB L SB ct t St wr hk.out RB (FJ.s 1 rfl).1 sB (FJ.slt 1 rfl) (FJ.glob HG.out) hb3 hb4 hb5 HT.out.1
    clear RB sB hb3 hb4 hb5 hkk hkp CX
    go_wp2_with (first
      | (with_reducible refine fm_load FJ 1 rfl (o := ⟨some 91, .load 24 (.tmp 5), _, _, _, _⟩) rfl (.tmp 5) rfl rfl hc5.1 ?_)
      | (go_at_call 36; refine CL.mono ?_
         rintro e w5' ⟨bb, rfl, hbb, m5⟩
         obtain rfl := ans_same HA.out HKK.out hbb
         have F5 := FJ.call m5
         clear CL FJ hbb m5))
    go_ret
    exact ⟨rfl, F5.m⟩
theorem closeMore_w (A : Option Addr) (c : Nat) (vs : List (List Value)) (K : List Tm) (B : Option Addr) (mc : Nat) (vm : List (List Value)) (M : List Tm) (t : Tm) (ct : List Value) (W : World) (hl : K.length ≤ c) (hm : c ≤ maxLen) (hb : K.length ≤ 2199023255552) (hl' : M.length ≤ mc) (hm' : mc ≤ maxLen) (hb' : M.length ≤ 2199023255552) (hR : RowT W (Btw 0 W.heap.size) A vs K) (hRM : RowT W (Btw 0 W.heap.size) B vm M) (hT : TIs W (Btw 0 W.heap.size) t ct) (G : Glob W) :
    Calls Tryd.prog 6 #[.slice A K.length c, .slice B M.length mc, .agg ct.toArray] W fun e w' => e = .returned (.bool true) ∧ Mod [] W w' :=
  more_w A K.length c vs K B M.length mc vm M ct t W _ _ _ rfl hb hR (fun g hg => hg.2) rfl hb' hRM (fun g hg => hg.2) hT (fun g hg => hg.2) G
end
end Go.Proofs.YtchanildogjhgaaDoor
