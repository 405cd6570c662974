/-
  CloseKeeps: the walk. My own work.
-/
import Derived.Test.YtchanildogjhgaaDoorPq
namespace Go.Proofs.YtchanildogjhgaaDoor
section
open Go.RowKit Go.Shelf
attribute [local go_sem] Oper.semAt_some
set_option linter.unusedVariables false
set_option linter.unusedSimpArgs false
def FewD (K : List Tm) : Prop := K.length ≤ 30 ∧ Tm.countAll K ≤ 120 ∧ (∀ t ∈ K, t.right = true) ∧ ∀ t ∈ K, t.depth ≤ 20
def KpS (w : World) (b7 b : Nat) (ca ck : List Value) (ts0 : List Th) (V : Int) (key : Tm) (l2 l4 l6 l7 : Bool) (x : List Value × List Value × List Value × Nat) (v : World) : Prop :=
  if l7 then ∃ S vs, Fm w v [oB b7 24 ca, oB b 24 ck] (tR Any S (some ⟨x.2.2.2, 0, none⟩) vs [kpL key V, kpS V, kpH V] :: ts0)
  else if l6 then ∃ S3 S2 S1, Fm w v [oB b7 24 ca, oB b 24 ck] (tT Any S3 (kpH V) x.2.2.1 :: tT Any S2 (kpS V) x.2.1 :: tT Any S1 (kpL key V) x.1 :: ts0)
  else if l4 then ∃ S2 S1, Fm w v [oB b7 24 ca, oB b 24 ck] (tT Any S2 (kpS V) x.2.1 :: tT Any S1 (kpL key V) x.1 :: ts0)
  else if l2 then ∃ S1, Fm w v [oB b7 24 ca, oB b 24 ck] (tT Any S1 (kpL key V) x.1 :: ts0)
  else Fm w v [oB b7 24 ca, oB b 24 ck] ts0
theorem KpS.any {w : World} {b7 b : Nat} {ca ck : List Value} {ts0 : List Th} {V : Int} {key : Tm} {l2 l4 l6 l7 : Bool} {x : List Value × List Value × List Value × Nat} {v : World} (h : KpS w b7 b ca ck ts0 V key l2 l4 l6 l7 x v) : ∃ ts, Fm w v [oB b7 24 ca, oB b 24 ck] ts := by
  unfold KpS at h
  split at h
  · obtain ⟨S, vs, F⟩ := h; exact ⟨_, F⟩
  · split at h
    · obtain ⟨S3, S2, S1, F⟩ := h; exact ⟨_, F⟩
    · split at h
      · obtain ⟨S2, S1, F⟩ := h; exact ⟨_, F⟩
      · split at h
        · obtain ⟨S1, F⟩ := h; exact ⟨_, F⟩
        · exact ⟨_, h⟩
theorem KpS.blk0 {w : World} {b7 b : Nat} {ca ck : List Value} {ts0 : List Th} {V : Int} {key : Tm} {l2 l4 l6 l7 : Bool} {x : List Value × List Value × List Value × Nat} {v : World} (h : KpS w b7 b ca ck ts0 V key l2 l4 l6 l7 x v) : Holds v b7 24 ca := by obtain ⟨ts, F⟩ := h.any; exact F.blk 0 rfl
theorem KpS.blk1 {w : World} {b7 b : Nat} {ca ck : List Value} {ts0 : List Th} {V : Int} {key : Tm} {l2 l4 l6 l7 : Bool} {x : List Value × List Value × List Value × Nat} {v : World} (h : KpS w b7 b ca ck ts0 V key l2 l4 l6 l7 x v) : Holds v b 24 ck := by obtain ⟨ts, F⟩ := h.any; exact F.blk 1 rfl
set_option maxRecDepth 1000000 in
set_option maxHeartbeats 8000000 in
theorem keeps_w (A : Option Addr) (n c : Nat) (vs : List (List Value)) (K : List Tm) (ck : List Value) (key : Tm) (a2 : Int) (W : World) (S SK : Nat → Prop) (hl : n = K.length) (hn : n ≤ 2199023255552) (hR : RowT W S A vs K) (hS : ∀ g, S g → g < W.heap.size) (hT : TIs W SK key ck) (hSK : ∀ g, SK g → g < W.heap.size) (G : Glob W) :
    Calls Tryd.prog 8 #[.slice A n c, .agg ck.toArray, .int .i64 a2] W fun e w' => e = .returned (.bool true) ∧ Mod [] W w' := by
  obtain ⟨w, hw⟩ : ∃ x, x = W := ⟨_, rfl⟩
  rw [← hw] at hR hS hT hSK G ⊢
  clear hw
  have FA := ((Fm.nil w).arg (tR Any S A vs K) (keeps_tR _ _ _ _ _) ⟨hR, fun _ _ => trivial⟩ hS).argT hT hSK
  have hc5 := hT.ones
  have HL := Lib.hid hl
  have HG := Lib.hid G
  obtain ⟨V, hV⟩ : ∃ x, x = max a2 0 % 65536 := ⟨_, rfl⟩
  have RB1 : ∀ (v : World) (ρ : Operand → Value) {o : Oper} {x y : Operand}, o.op = .binOp .rem 3 x y 3 → ρ x = .int .i64 (max a2 0) → ρ y = .int .i64 65536 → (execOp ρ o).run Tryd.prog v = .ok (.value (.int .i64 (V))) v := fun v ρ o x y h1 h2 h3 => exec_remBp (by omega) hV.symm h1 h2 h3
  have HT1 : Hid (AskT (kpA V)) := Lib.hid (ask_fresh (by omega) (by omega) (by omega) (by omega))
  have HT2 : Hid (AskT (.mk 3 1 0 ⟨#[]⟩ [])) := Lib.hid (ask_secret (by omega) (by omega))
  have FK := fun w5 (R5 : RowT w5 S A vs K) (s5 : ∀ g, S g → g < w5.heap.size) => fine_cD A n c vs K S w5 hl hn R5 s5
  clear hR hS hT hSK hl G hV
  go_enter Tryd.func8, Tryd.ntmps8
  go_wp2_with (first
    | (with_reducible refine fm_box FA (o := ⟨some 4, .box 24 (.tmp 1), _, _, _, _⟩) rfl 24 (.tmp 1) rfl ck rfl ?_; intro b w0 F0; clear FA)
    | (go_at_call 34; refine (wakes07_c w0 (F0.glob HG.out)).mono ?_
       rintro e w1 ⟨rfl, m1⟩
       have F1 := F0.call m1
       clear m1 F0)
    | (with_reducible refine wpList_ran (o := ⟨some 21, _, _, _, _, _⟩) rfl (.int .i64 (max a2 0)) (exec_max1 rfl rfl rfl) ?_)
    | (with_reducible refine wpList_ran (o := ⟨some 22, _, _, _, _, _⟩) rfl (.int .i64 (V)) (RB1 _ _ rfl rfl rfl) ?_)
    | (go_at_call 39; refine (FK w1 (F1.s 1 rfl).1 (F1.slt 1 rfl)).mono ?_
       rintro e w2 ⟨b1, rfl, hb1, m2⟩
       replace hb1 : Hid (b1 = true → FewD K) := Lib.hid hb1
       have F2 := F1.call m2
       clear FK F1 m2
       obtain ⟨ST, F3⟩ := F2.row1 (F2.mem 0 rfl) Any (fun _ _ => trivial) (fun _ _ => trivial)
       cases b1)
    | (with_reducible refine fm_ranW (o := ⟨some 27, _, _, _, _, _⟩) rfl (.agg ck.toArray) _ (exec_load rfl rfl (run_loads (Cells.of_holds (F2.blk 0 rfl)) Tryd.underlying24 rfl (size24' hc5.1))) ?_)
    | (with_reducible refine fm_ranW (o := ⟨some 28, .buildSlice 22 1 #[(0, .tmp 27)], _, _, _, _⟩) rfl (.slice (some ⟨w2.heap.size, 0, none⟩) 1 1) _ (exec_lit1 hc5.1 rfl rfl) ?_)
    | (go_at_call 39; refine (fine_cD (some ⟨w2.heap.size, 0, none⟩) 1 1 [ck] [key] ST _ rfl (by omega) (F3.s 0 rfl).1 (F3.slt 0 rfl)).mono ?_
       rintro e w5 ⟨b3, rfl, hb3, m5⟩
       replace hb3 : Hid (b3 = true → FewD [key]) := Lib.hid hb3
       have F5 := F3.call m5
       clear F3 F2 m5
       cases b3)
    | (go_at_call 18; refine (fresh_c 6 V w5).mono ?_
       rintro e w6 ⟨ca, rfl, h6, m6⟩
       have F6 := F5.made m6 h6
       have F6 := F6.weak
       have hca := (F6.tis 0 rfl).ones
       have HK := Lib.hid (hb1.out (by simp))
       have HY := Lib.hid (hb3.out (by simp))
       clear h6 m6 F5 hb1 hb3)
    | (with_reducible refine fm_alloc F6 (o := ⟨some 7, .alloc 24, _, _, _, _⟩) rfl 24 rfl _ zero24 ?_; intro b7 w7 F7; clear F6)
    | (with_reducible refine fm_store F7 0 rfl (o := ⟨none, .store 24 (.tmp 7) (.tmp 33), _, _, _, _⟩) rfl (.tmp 7) (.tmp 33) rfl rfl ca rfl rfl hca.1 (tmc_len _ _ _ _ _ _ _) hca.2 ?_; intro w8 F8; clear F7)
    | (with_reducible refine fm_load F8 0 rfl (o := ⟨some 34, .load 24 (.tmp 7), _, _, _, _⟩) rfl (.tmp 7) rfl rfl hca.1 ?_)
    | (with_reducible refine fm_load F8 1 rfl (o := ⟨some 35, .load 24 (.tmp 4), _, _, _, _⟩) rfl (.tmp 4) rfl rfl hc5.1 ?_)
    | (go_at_call 41; refine (occurs_all 60 (kpA V) key ca ck _ SK w8 (right_ok (HY.out.2.2.1 key (by simp))).2.1 (F8.s 0 rfl).1 (F8.s 2 rfl).1 (F8.slt 0 rfl) (F8.slt 2 rfl)).mono ?_
       rintro e w9 ⟨bk, rfl, hbk, m9⟩
       replace hbk : Hid (bk = false → ¬ Occ (kpA V) key) := Lib.hid hbk
       have F9 := F8.call m9
       clear F8 m9
       cases bk))
  rotate_right
  · go_ret
    exact ⟨rfl, F9.m⟩
  · go_ret
    exact ⟨rfl, F2.m⟩
  · go_ret
    exact ⟨rfl, F5.m⟩
  have HNK : Hid (¬ Occ (kpA V) key) := Lib.hid (hbk.out (by simp))
  obtain ⟨SA, FS⟩ : ∃ SA, Fm w w9 [oB b7 24 ca, oB b 24 ck] [tT Any SA (kpA V) ca, tT Any SK key ck, tR Any S A vs K] := ⟨Btw w5.heap.size w6.heap.size, F9.sub (List.Sublist.refl _) (fun y hy => by
    simp only [List.mem_cons, List.not_mem_nil, or_false] at hy
    rcases hy with h | h | h <;> simp [h])⟩
  clear F9 hbk
  go_loopw [39] (fun iv wr => ∃ (j : Nat), iv = .int .i64 j ∧ j ≤ n ∧ Hid (∀ x ∈ K.take j, ¬ Occ (kpA V) x) ∧ Fm w wr [oB b7 24 ca, oB b 24 ck] [tT Any SA (kpA V) ca, tT Any SK key ck, tR Any S A vs K]) (fun iv _ => n - (intOf iv).toNat)
  case atStart => exact ⟨0, rfl, by omega, Lib.hid (by simp), FS⟩
  case round =>
  clear FS
  obtain ⟨j, rfl, hj, hq, FJ⟩ := hrel
  by_cases hjl : j < n
  case pos =>
    have hjq : j < K.length := by rw [← HL.out]; exact hjl
    obtain ⟨g, o, cx, rfl, hx5, hx1, F1⟩ := FJ.elemR (FJ.mem 2 rfl) j hjq
    replace F1 := F1.eT (F1.mem 0 rfl)
    clear FJ
    have HTK : Hid (K.take (j + 1) = K.take j ++ [K[j]'hjq]) := Lib.hid (List.take_succ_eq_append_getElem hjq)
    have OC := fun (w5 : World) (T1 : TIs w5 SA (kpA V) ca) (T2 : TIs w5 S K[j] cx) (s1 : ∀ g, SA g → g < w5.heap.size) (s2 : ∀ g, S g → g < w5.heap.size) => occurs_all 60 (kpA V) K[j] ca cx SA S w5 (right_ok (HK.out.2.2.1 _ (List.getElem_mem hjq))).2.1 T1 T2 s1 s2
    go_wp2_with (first
      | (with_reducible refine wpList_ran (o := ⟨some 41, _, _, _, _, _⟩) rfl (.pointer (some ⟨g, o + j * 5, none⟩)) (exec_ixs Tryd.underlying22 size24 hjl rfl rfl rfl) ?_)
      | (with_reducible refine fm_loadE F1 (F1.mem 1 rfl) (o := ⟨some 42, .load 24 (.tmp 41), _, _, _, _⟩) rfl (.tmp 41) rfl rfl hx5 ?_)
      | (with_reducible refine fm_alloc F1 (o := ⟨some 9, .alloc 24, _, _, _, _⟩) rfl 24 rfl _ zero24 ?_; intro b3 w2' F2'; clear F1)
      | (with_reducible refine fm_store F2' 0 rfl (o := ⟨none, .store 24 (.tmp 9) (.tmp 42), _, _, _, _⟩) rfl (.tmp 9) (.tmp 42) rfl rfl cx rfl rfl hx5 (tmc_len _ _ _ _ _ _ _) hx1 ?_; intro w3' F3'; clear F2')
      | (with_reducible refine fm_load F3' 1 rfl (o := ⟨some 43, .load 24 (.tmp 7), _, _, _, _⟩) rfl (.tmp 7) rfl rfl hca.1 ?_)
      | (with_reducible refine fm_load F3' 0 rfl (o := ⟨some 44, .load 24 (.tmp 9), _, _, _, _⟩) rfl (.tmp 9) rfl rfl hx5 ?_)
      | (go_at_call 41; refine (OC w3' (F3'.s 2 rfl).1 (F3'.s 0 rfl).1 (F3'.slt 2 rfl) (F3'.slt 0 rfl)).mono ?_
         rintro e w4' ⟨bb, rfl, hbb, m4⟩
         have F4' := F3'.call m4
         replace hbb : Hid (bb = false → ¬ Occ (kpA V) K[j]) := Lib.hid hbb
         clear F3' OC m4
         cases bb))
    · refine ⟨⟨j + 1, by go_num, by omega, Lib.hid (fun x hx => ?_), F4'.sub (List.sublist_cons_self _ _) (fun y hy => ?_)⟩, by simp [intOf]; omega⟩
      · rw [HTK.out] at hx
        rcases List.mem_append.1 hx with h | h
        · exact hq.out x h
        · simp only [List.mem_singleton] at h
          subst h
          exact hbb.out (by simp)
      · simp only [List.mem_cons, List.not_mem_nil, or_false] at hy
        rcases hy with h | h | h <;> simp [h]
    · go_ret
      exact ⟨rfl, F4'.m⟩
  case neg =>
  obtain rfl : n = j := by omega
  have hnk := hq.out
  rw [HL.out, List.take_length] at hnk
  have HN := Lib.hid hnk
  have CK := can_few A n c vs K S ck key SK wr HL.out (FJ.s 2 rfl).1 (FJ.s 1 rfl).1 (FJ.slt 2 rfl) (FJ.slt 1 rfl) (FJ.glob HG.out) (by have := HK.out.1; omega) (by have := HK.out.2.1; omega) HK.out.2.2.1 (HY.out.2.2.1 key (by simp))
  clear hnk hq
  go_wp2_with (first
    | (with_reducible refine fm_load FJ 1 rfl (o := ⟨some 49, .load 24 (.tmp 4), _, _, _, _⟩) rfl (.tmp 4) rfl rfl hc5.1 ?_)
    | (go_at_call 36; refine CK.mono ?_
       rintro e x1 ⟨o1, rfl, ho1, m5⟩
       have HO1 : Hid (Ans o1 K key) := Lib.hid ho1
       have G1 := FJ.call m5
       clear CK FJ ho1 m5)
    | (go_at_call 19; refine (secret_c 1 x1).mono ?_
       rintro e x2 ⟨c2, rfl, h2, m2⟩
       have G2 := G1.made m2 h2
       have G2 := G2.weak
       clear h2 m2)
    | (go_at_call 36; refine (can_few A n c vs K S c2 (.mk 3 1 0 ⟨#[]⟩ []) _ x2 HL.out (G2.s 3 rfl).1 (G2.s 0 rfl).1 (G2.slt 3 rfl) (G2.slt 0 rfl) (G2.glob HG.out) (by have := HK.out.1; omega) (by have := HK.out.2.1; omega) HK.out.2.2.1 HT2.out.2.1).mono ?_
       rintro e x3 ⟨o2, rfl, ho2, m5⟩
       have HO2 : Hid (Ans o2 K (Tm.sec 1)) := Lib.hid ho2
       have G3 := G2.call m5
       clear G1 G2 ho2 m5))
  obtain ⟨ts0, HS, HTA, HTY, HTR⟩ : ∃ ts0, Fm w x3 [oB b7 24 ca, oB b 24 ck] ts0 ∧ Hid (tT Any SA (kpA V) ca ∈ ts0) ∧ Hid (tT Any SK key ck ∈ ts0) ∧ Hid (tR Any S A vs K ∈ ts0) := ⟨_, G3, Lib.hid (G3.mem 1 rfl), Lib.hid (G3.mem 2 rfl), Lib.hid (G3.mem 3 rfl)⟩
  clear G3
  refine wp_region_upx (X := List Value × List Value × List Value × Nat) (⟨[], [], [], 0⟩) (fun x => [(65, .agg ck.toArray), (66, .agg ca.toArray), (67, .agg x.1.toArray), (68, .agg ca.toArray), (69, .agg x.2.1.toArray), (70, .agg ca.toArray), (71, .agg x.2.2.1.toArray), (72, .slice (some ⟨x.2.2.2, 0, none⟩) 3 3), (73, .int .i64 ((3 : Nat) : Int)), (74, .int .i64 0)]) 109 [65, 66, 67, 68, 69, 70, 71, 72, 73, 74] rfl (fun _ => rfl) (by decide) (by kernel_rfl) (fun x lz v => KpS w b7 b ca ck ts0 V key (lz 2) (lz 4) (lz 6) (lz 7) x v) (by kernel_rfl) (by simpa [KpS] using HS.call (Mod.drew [] _)) (by kernel_rfl) (by kernel_rfl) ?_ ?_
  · skip
    intro x lz T v j o hj hlj hdep hst hpar hgot hcl Kq hK
    have hjn : j < 10 := (Array.getElem?_eq_some_iff.1 hj).1
    obtain rfl | rfl | rfl | rfl | rfl | rfl | rfl | rfl | rfl | rfl : j = 0 ∨ j = 1 ∨ j = 2 ∨ j = 3 ∨ j = 4 ∨ j = 5 ∨ j = 6 ∨ j = 7 ∨ j = 8 ∨ j = 9 := by omega
    all_goals (have hj' := Option.some.inj (hj : some _ = some o); subst hj'; clear hj)
    · exact wp_ran rfl (exec_load rfl (eval_tmp ((hpar 4 rfl).trans rfl)) (run_loads (Cells.of_holds hst.blk1) Tryd.underlying24 rfl (size24' hc5.1))) (hK x _ _ (fun _ _ _ _ _ _ => rfl) (fun s hs => by cases hs; rfl) (by simpa using hst))
    · exact wp_ran rfl (exec_load rfl (eval_tmp ((hpar 7 rfl).trans rfl)) (run_loads (Cells.of_holds hst.blk0) Tryd.underlying24 rfl (size24' hca.1))) (hK x _ _ (fun _ _ _ _ _ _ => rfl) (fun s hs => by cases hs; rfl) (by simpa using hst))
    · have l4 : lz 4 = false := (by cases hh : lz 4 with | false => rfl | true => exact absurd (hcl 4 _ rfl hh ⟨2, .chain⟩ (by simp) rfl) (by rw [hlj]; simp))
      have l6 : lz 6 = false := (by cases hh : lz 6 with | false => rfl | true => exact absurd (hcl 4 _ rfl (hcl 6 _ rfl hh ⟨4, .chain⟩ (by simp) rfl) ⟨2, .chain⟩ (by simp) rfl) (by rw [hlj]; simp))
      have l7 : lz 7 = false := (by cases hh : lz 7 with | false => rfl | true => exact absurd (hcl 7 _ rfl hh ⟨2, .data⟩ (by simp) rfl) (by rw [hlj]; simp))
      have hst2 : Fm w v [oB b7 24 ca, oB b 24 ck] ts0 := by simpa [KpS, hlj, l4, l6, l7] using hst
      refine wp_called rfl (exec_call2 rfl rfl (eval_tmp (hgot 0 _ 65 rfl (hdep ⟨0, .data⟩ (by simp) rfl) rfl)) (eval_tmp (hgot 1 _ 66 rfl (hdep ⟨1, .data⟩ (by simp) rfl) rfl)) (enters_of Tryd.func22 (by kernel_rfl) rfl)) ((lock_c key ck _ (kpA V) ca _ v (hst2.ist HTY.out) (hst2.ist HTA.out)).mono ?_)
      rintro e v' ⟨lc, rfl, hT, m⟩
      refine ⟨_, rfl, hK ⟨lc, x.2.1, x.2.2.1, x.2.2.2⟩ _ _ (fun j' o' s' g1 g2 g3 => by
          have g4 : j' < 10 := (Array.getElem?_eq_some_iff.1 g1).1
          clear hpar hgot hdep hK
          obtain rfl | rfl | rfl | rfl | rfl | rfl | rfl | rfl | rfl | rfl : j' = 0 ∨ j' = 1 ∨ j' = 2 ∨ j' = 3 ∨ j' = 4 ∨ j' = 5 ∨ j' = 6 ∨ j' = 7 ∨ j' = 8 ∨ j' = 9 := by omega
          all_goals (cases g1; cases g3 <;> first | rfl | (rw [hlj] at g2; cases g2) | (rw [lq] at g2; cases g2))) (fun s hs => by cases hs; rfl) ?_⟩
      have hst3 : ∃ S1, Fm w v' [oB b7 24 ca, oB b 24 ck] (tT Any S1 (kpL key V) lc :: ts0) := hst2.madeL m hT (fun _ _ => trivial)
      simpa [KpS, l4, l6, l7] using hst3
    · exact wp_ran rfl (exec_load rfl (eval_tmp ((hpar 7 rfl).trans rfl)) (run_loads (Cells.of_holds hst.blk0) Tryd.underlying24 rfl (size24' hca.1))) (hK x _ _ (fun _ _ _ _ _ _ => rfl) (fun s hs => by cases hs; rfl) (by simpa using hst))
    · have t2 : lz 2 = true := (hdep ⟨2, .chain⟩ (by simp) rfl)
      have l6 : lz 6 = false := (by cases hh : lz 6 with | false => rfl | true => exact absurd (hcl 6 _ rfl hh ⟨4, .chain⟩ (by simp) rfl) (by rw [hlj]; simp))
      have l7 : lz 7 = false := (by cases hh : lz 7 with | false => rfl | true => exact absurd (hcl 7 _ rfl hh ⟨4, .data⟩ (by simp) rfl) (by rw [hlj]; simp))
      have hst2 : ∃ S1, Fm w v [oB b7 24 ca, oB b 24 ck] (tT Any S1 (kpL key V) x.1 :: ts0) := by simpa [KpS, hlj, t2, l6, l7] using hst
      obtain ⟨S1, F1⟩ := hst2
      refine wp_called rfl (exec_call2 rfl rfl rfl (eval_tmp (hgot 3 _ 68 rfl (hdep ⟨3, .data⟩ (by simp) rfl) rfl)) (enters_of Tryd.func24 (by kernel_rfl) rfl)) ((seal_c 1 (kpA V) ca _ v (F1.ist (List.mem_cons_of_mem _ HTA.out))).mono ?_)
      rintro e v' ⟨lc, rfl, hT, m⟩
      refine ⟨_, rfl, hK ⟨x.1, lc, x.2.2.1, x.2.2.2⟩ _ _ (fun j' o' s' g1 g2 g3 => by
          have g4 : j' < 10 := (Array.getElem?_eq_some_iff.1 g1).1
          clear hpar hgot hdep hK
          obtain rfl | rfl | rfl | rfl | rfl | rfl | rfl | rfl | rfl | rfl : j' = 0 ∨ j' = 1 ∨ j' = 2 ∨ j' = 3 ∨ j' = 4 ∨ j' = 5 ∨ j' = 6 ∨ j' = 7 ∨ j' = 8 ∨ j' = 9 := by omega
          all_goals (cases g1; cases g3 <;> first | rfl | (rw [hlj] at g2; cases g2) | (rw [lq] at g2; cases g2))) (fun s hs => by cases hs; rfl) ?_⟩
      have hst3 : ∃ S2 S1, Fm w v' [oB b7 24 ca, oB b 24 ck] (tT Any S2 (kpS V) lc :: tT Any S1 (kpL key V) x.1 :: ts0) := by
        obtain ⟨S2, F2⟩ := F1.madeL m hT (L := Any) (fun _ _ => trivial)
        exact ⟨S2, S1, F2⟩
      simpa [KpS, l6, l7] using hst3
    · exact wp_ran rfl (exec_load rfl (eval_tmp ((hpar 7 rfl).trans rfl)) (run_loads (Cells.of_holds hst.blk0) Tryd.underlying24 rfl (size24' hca.1))) (hK x _ _ (fun _ _ _ _ _ _ => rfl) (fun s hs => by cases hs; rfl) (by simpa using hst))
    · have t4 : lz 4 = true := (hdep ⟨4, .chain⟩ (by simp) rfl)
      have l7 : lz 7 = false := (by cases hh : lz 7 with | false => rfl | true => exact absurd (hcl 7 _ rfl hh ⟨6, .data⟩ (by simp) rfl) (by rw [hlj]; simp))
      have hst2 : ∃ S2 S1, Fm w v [oB b7 24 ca, oB b 24 ck] (tT Any S2 (kpS V) x.2.1 :: tT Any S1 (kpL key V) x.1 :: ts0) := by simpa [KpS, hlj, t4, l7] using hst
      obtain ⟨S2, S1, F1⟩ := hst2
      refine wp_called rfl (exec_call1 rfl rfl (eval_tmp (hgot 5 _ 70 rfl (hdep ⟨5, .data⟩ (by simp) rfl) rfl)) (enters_of Tryd.func23 (by kernel_rfl) rfl)) ((hash_c (kpA V) ca _ v (F1.ist (List.mem_cons_of_mem _ (List.mem_cons_of_mem _ HTA.out)))).mono ?_)
      rintro e v' ⟨lc, rfl, hT, m⟩
      refine ⟨_, rfl, hK ⟨x.1, x.2.1, lc, x.2.2.2⟩ _ _ (fun j' o' s' g1 g2 g3 => by
          have g4 : j' < 10 := (Array.getElem?_eq_some_iff.1 g1).1
          clear hpar hgot hdep hK
          obtain rfl | rfl | rfl | rfl | rfl | rfl | rfl | rfl | rfl | rfl : j' = 0 ∨ j' = 1 ∨ j' = 2 ∨ j' = 3 ∨ j' = 4 ∨ j' = 5 ∨ j' = 6 ∨ j' = 7 ∨ j' = 8 ∨ j' = 9 := by omega
          all_goals (cases g1; cases g3 <;> first | rfl | (rw [hlj] at g2; cases g2) | (rw [lq] at g2; cases g2))) (fun s hs => by cases hs; rfl) ?_⟩
      have hst3 : ∃ S3 S2 S1, Fm w v' [oB b7 24 ca, oB b 24 ck] (tT Any S3 (kpH V) lc :: tT Any S2 (kpS V) x.2.1 :: tT Any S1 (kpL key V) x.1 :: ts0) := by
        obtain ⟨S3, F2⟩ := F1.madeL m hT (L := Any) (fun _ _ => trivial)
        exact ⟨S3, S2, S1, F2⟩
      simpa [KpS, l7] using hst3
    · have t6 : lz 6 = true := (hdep ⟨6, .data⟩ (by simp) rfl)
      have hst2 : ∃ S3 S2 S1, Fm w v [oB b7 24 ca, oB b 24 ck] (tT Any S3 (kpH V) x.2.2.1 :: tT Any S2 (kpS V) x.2.1 :: tT Any S1 (kpL key V) x.1 :: ts0) := by simpa [KpS, hlj, t6] using hst
      obtain ⟨S3, S2, S1, F1⟩ := hst2
      obtain ⟨S4, F2⟩ := F1.row3 (F1.mem 2 rfl) (F1.mem 1 rfl) (F1.mem 0 rfl)
      have lq : lz 8 = false := (by cases hh : lz 8 with | false => rfl | true => exact absurd (hcl 8 _ rfl hh ⟨7, .data⟩ (by simp) rfl) (by rw [hlj]; simp))
      exact wp_ran rfl (exec_lit3 (F1.ist (F1.mem 2 rfl)).len (F1.ist (F1.mem 1 rfl)).len (F1.ist (F1.mem 0 rfl)).len rfl (eval_tmp (hgot 2 _ 67 rfl (hdep ⟨2, .data⟩ (by simp) rfl) rfl)) (eval_tmp (hgot 4 _ 69 rfl (hdep ⟨4, .data⟩ (by simp) rfl) rfl)) (eval_tmp (hgot 6 _ 71 rfl (hdep ⟨6, .data⟩ (by simp) rfl) rfl))) (hK ⟨x.1, x.2.1, x.2.2.1, v.heap.size⟩ _ _ (fun j' o' s' g1 g2 g3 => by
          have g4 : j' < 10 := (Array.getElem?_eq_some_iff.1 g1).1
          clear hpar hgot hdep hK
          obtain rfl | rfl | rfl | rfl | rfl | rfl | rfl | rfl | rfl | rfl : j' = 0 ∨ j' = 1 ∨ j' = 2 ∨ j' = 3 ∨ j' = 4 ∨ j' = 5 ∨ j' = 6 ∨ j' = 7 ∨ j' = 8 ∨ j' = 9 := by omega
          all_goals (cases g1; cases g3 <;> first | rfl | (rw [hlj] at g2; cases g2) | (rw [lq] at g2; cases g2))) (fun s hs => by cases hs; rfl) (by
        have hst3 : ∃ S vs, Fm w (v.alloc (.cells (x.1 ++ x.2.1 ++ x.2.2.1).toArray 24)) [oB b7 24 ca, oB b 24 ck] (tR Any S (some ⟨v.heap.size, 0, none⟩) vs [kpL key V, kpS V, kpH V] :: ts0) := ⟨S4, _, F2.sub (List.Sublist.refl _) (fun y hy => by
          simp only [List.mem_cons] at hy ⊢
          rcases hy with h | h
          · exact .inl h
          · exact .inr (.inr (.inr (.inr h))))⟩
        simpa [KpS] using hst3))
    · exact wp_ran rfl (exec_len Tryd.underlying22 rfl (eval_tmp (hgot 7 _ 72 rfl (hdep ⟨7, .data⟩ (by simp) rfl) rfl))) (hK x _ _ (fun _ _ _ _ _ _ => rfl) (fun s hs => by cases hs; rfl) (by simpa using hst))
    · exact wp_ran rfl (exec_move rfl rfl) (hK x _ _ (fun _ _ _ _ _ _ => rfl) (fun s hs => by cases hs; rfl) (by simpa using hst))
  intro x lz v hlz hst
  have hst2 : ∃ S vs, Fm w v [oB b7 24 ca, oB b 24 ck] (tR Any S (some ⟨x.2.2.2, 0, none⟩) vs [kpL key V, kpS V, kpH V] :: ts0) := by simpa [KpS, hlz 7 (by decide)] using hst
  obtain ⟨ST3, vs3, H1⟩ := hst2
  obtain ⟨q1, q2, q3, P⟩ := x
  clear hst hlz HS
  simp only [setAll, Act.put, List.foldl_cons, List.foldl_nil, List.setIfInBounds_toArray, List.set_cons_succ, List.set_cons_zero]
  go_wp2_with fail
  go_loopw [74] (fun iv wr => ∃ (j : Nat), iv = .int .i64 j ∧ j ≤ 3 ∧ Fm w wr [oB b7 24 ca, oB b 24 ck] (tR Any ST3 (some ⟨P, 0, none⟩) vs3 [kpL key V, kpS V, kpH V] :: ts0)) (fun iv _ => 3 - (intOf iv).toNat)
  case atStart => exact ⟨0, rfl, by omega, H1⟩
  case round =>
  clear H1
  obtain ⟨j, rfl, hj, FJ⟩ := hrel
  by_cases hj3 : j < 3
  case neg =>
    obtain rfl : j = 3 := by omega
    go_wp2_with fail
    go_ret
    exact ⟨rfl, FJ.m⟩
  obtain ⟨g, o, cx, hgo, hx5, hx1, F1⟩ := FJ.elemR (FJ.mem 0 rfl) j hj3
  cases hgo
  replace F1 := F1.eT (F1.mem 0 rfl)
  clear FJ
  obtain ⟨tx, htx⟩ : ∃ t, t = [kpL key V, kpS V, kpH V][j]'hj3 := ⟨_, rfl⟩
  rw [← htx] at F1
  have hkr := kp_right HT1.out.2.1 (HY.out.2.2.1 key (by simp)) (HY.out.2.2.2 key (by simp)) (by have := HY.out.2.1; simp only [Tm.countAll] at this; omega) j hj3
  rw [← htx] at hkr
  have HKR := Lib.hid hkr
  have HTX := Lib.hid htx
  clear htx hkr
  go_wp2_with (first
    | (with_reducible refine wpList_ran (o := ⟨some 77, _, _, _, _, _⟩) rfl (.pointer (some ⟨P, 0 + j * 5, none⟩)) (exec_ixs Tryd.underlying22 size24 hj3 rfl rfl rfl) ?_)
    | (with_reducible refine fm_loadE F1 (F1.mem 1 rfl) (o := ⟨some 78, .load 24 (.tmp 77), _, _, _, _⟩) rfl (.tmp 77) rfl rfl hx5 ?_)
    | (with_reducible refine fm_alloc F1 (o := ⟨some 15, .alloc 24, _, _, _, _⟩) rfl 24 rfl _ zero24 ?_; intro b3 w2' F2'; clear F1)
    | (with_reducible refine fm_store F2' 0 rfl (o := ⟨none, .store 24 (.tmp 15) (.tmp 78), _, _, _, _⟩) rfl (.tmp 15) (.tmp 78) rfl rfl cx rfl rfl hx5 (tmc_len _ _ _ _ _ _ _) hx1 ?_; intro w3' F3'; clear F2'))
  obtain ⟨OB, hOB⟩ : ∃ OB, OB = [oB b3 24 cx, oB b7 24 ca, oB b 24 ck] := ⟨_, rfl⟩
  obtain ⟨TB, FT, HKT, HXT, HAT, HBK⟩ : ∃ TB, Fm w w3' OB TB ∧ Hid (tR Any S A vs K ∈ TB) ∧ Hid (tT Any ST3 tx cx ∈ TB) ∧ Hid (tT Any SA (kpA V) ca ∈ TB) ∧ Hid (∀ y ∈ (tR Any ST3 (some ⟨P, 0, none⟩) vs3 [kpL key V, kpS V, kpH V] :: ts0), y ∈ TB) :=
    ⟨_, by rw [hOB]; exact F3', Lib.hid (List.mem_cons_of_mem _ (List.mem_cons_of_mem _ (List.mem_cons_of_mem _ HTR.out))), Lib.hid (List.mem_cons_self ..), Lib.hid (List.mem_cons_of_mem _ (List.mem_cons_of_mem _ (List.mem_cons_of_mem _ HTA.out))), Lib.hid (fun y hy => List.mem_cons_of_mem _ (List.mem_cons_of_mem _ hy))⟩
  clear F3'
  have hn1000 : n < 1000 := by have h1 := HK.out.1; have h2 := HL.out; omega
  have HB1 : Hid ((K ++ [tx]).length ≤ 100) := Lib.hid (by have := HK.out.1; rw [List.length_append, List.length_singleton]; omega)
  have HB2 : Hid (Tm.countAll (K ++ [tx]) ≤ 1000) := Lib.hid (by have h1 := HK.out.2.1; have h2 := HKR.out.2; rw [Tm.countAll_append]; simp only [Tm.countAll]; omega)
  have HB3 : Hid (∀ x ∈ K ++ [tx], x.right = true) := Lib.hid (fun x hx => by
    rcases List.mem_append.1 hx with h | h
    · exact HK.out.2.2.1 x h
    · rw [List.mem_singleton] at h
      subst h
      exact HKR.out.1)
  have HGW : Hid (∀ {l0 l2 l4 l5 l7 : Bool} {x : XQ} (v : World), KqS w OB TB K tx (kpA V) l0 l2 l4 l5 l7 x v → Glob v) := Lib.hid (fun v h => by
    obtain ⟨os, ts, F, _⟩ := h
    exact F.glob HG.out)
  refine wp_region_upx (X := XQ) (⟨0, (none, 0), 0, (none, 0), false⟩) (fun x => [(80, .slice (some ⟨x.1, 0, none⟩) 0 0), (81, .slice A n c), (82, .slice x.2.1.1 n x.2.1.2), (83, .agg cx.toArray), (84, .slice (some ⟨x.2.2.1, 0, none⟩) 1 1), (85, .slice x.2.2.2.1.1 (n + 1) x.2.2.2.1.2), (86, .agg ca.toArray), (87, .tuple #[.bool x.2.2.2.2, .int .i64 0]), (79, .tuple #[.bool x.2.2.2.2, .int .i64 0]), (88, .bool x.2.2.2.2), (89, .int .i64 0), (16, .bool x.2.2.2.2), (17, .int .i64 0)]) 109 [80, 81, 82, 83, 84, 85, 86, 87, 79, 88, 89, 16, 17] rfl (fun _ => rfl) (by decide) (by kernel_rfl) (fun x lz v => KqS w OB TB K tx (kpA V) (lz 0) (lz 2) (lz 4) (lz 5) (lz 7) x v) (by kernel_rfl) (KqS.begin (FT.call (Mod.drew [] _)) _) (by kernel_rfl) (by kernel_rfl) ?_ ?_
  · skip
    intro x lz T v j o hj hlj hdep hst hpar hgot hcl Kq hK
    have hjn : j < 13 := (Array.getElem?_eq_some_iff.1 hj).1
    obtain rfl | rfl | rfl | rfl | rfl | rfl | rfl | rfl | rfl | rfl | rfl | rfl | rfl : j = 0 ∨ j = 1 ∨ j = 2 ∨ j = 3 ∨ j = 4 ∨ j = 5 ∨ j = 6 ∨ j = 7 ∨ j = 8 ∨ j = 9 ∨ j = 10 ∨ j = 11 ∨ j = 12 := by omega
    all_goals (have hj' := Option.some.inj (hj : some _ = some o); subst hj'; clear hj)
    · have l2 : lz 2 = false := (by cases hh : lz 2 with | false => rfl | true => exact absurd (hcl 2 _ rfl hh ⟨0, .data⟩ (by simp) rfl) (by rw [hlj]; simp))
      have l5 : lz 5 = false := (by cases hh : lz 5 with | false => rfl | true => exact absurd (hcl 2 _ rfl (hcl 5 _ rfl hh ⟨2, .data⟩ (by simp) rfl) ⟨0, .data⟩ (by simp) rfl) (by rw [hlj]; simp))
      have l7 : lz 7 = false := (by cases hh : lz 7 with | false => rfl | true => exact absurd (hcl 2 _ rfl (hcl 5 _ rfl (hcl 7 _ rfl hh ⟨5, .data⟩ (by simp) rfl) ⟨2, .data⟩ (by simp) rfl) ⟨0, .data⟩ (by simp) rfl) (by rw [hlj]; simp))
      rw [hlj, l2, l5, l7] at hst
      exact wp_ran rfl (exec_lit0 rfl) (hK ⟨v.heap.size, x.2⟩ _ _ (fun j' o' s' g1 g2 g3 => by
          have g4 : j' < 13 := (Array.getElem?_eq_some_iff.1 g1).1
          clear hpar hgot hdep hK
          obtain rfl | rfl | rfl | rfl | rfl | rfl | rfl | rfl | rfl | rfl | rfl | rfl | rfl : j' = 0 ∨ j' = 1 ∨ j' = 2 ∨ j' = 3 ∨ j' = 4 ∨ j' = 5 ∨ j' = 6 ∨ j' = 7 ∨ j' = 8 ∨ j' = 9 ∨ j' = 10 ∨ j' = 11 ∨ j' = 12 := by omega
          all_goals (cases g1; cases g3 <;> first | rfl | (rw [hlj] at g2; cases g2))) (fun s hs => by cases hs; rfl) (by simpa [l2, l5, l7] using hst.op0))
    · exact wp_ran rfl (exec_move rfl (eval_tmp ((hpar 0 rfl).trans rfl))) (hK x _ _ (fun _ _ _ _ _ _ => rfl) (fun s hs => by cases hs; rfl) (by simpa using hst))
    · have t0 : lz 0 = true := (hdep ⟨0, .data⟩ (by simp) rfl)
      have l5 : lz 5 = false := (by cases hh : lz 5 with | false => rfl | true => exact absurd (hcl 5 _ rfl hh ⟨2, .data⟩ (by simp) rfl) (by rw [hlj]; simp))
      have l7 : lz 7 = false := (by cases hh : lz 7 with | false => rfl | true => exact absurd (hcl 5 _ rfl (hcl 7 _ rfl hh ⟨5, .data⟩ (by simp) rfl) ⟨2, .data⟩ (by simp) rfl) (by rw [hlj]; simp))
      rw [hlj, t0, l5, l7] at hst
      obtain ⟨A2, c2, v2, hrun, hq⟩ := hst.op2 HKT.out n c HL.out hn1000
      exact wp_ran rfl (exec_append (o := { dst := some 82, op := .call { callee := .builtin .append, args := #[.tmp 80, .tmp 81], argTypes := #[22, 22] }, type := 22, pos := _, after := _, guard := none }) rfl (eval_tmp (hgot 0 _ 80 rfl (hdep ⟨0, .data⟩ (by simp) rfl) rfl)) (eval_tmp (hgot 1 _ 81 rfl (hdep ⟨1, .data⟩ (by simp) rfl) rfl)) hrun) (hK ⟨x.1, (A2, c2), x.2.2⟩ _ _ (fun j' o' s' g1 g2 g3 => by
          have g4 : j' < 13 := (Array.getElem?_eq_some_iff.1 g1).1
          clear hpar hgot hdep hK
          obtain rfl | rfl | rfl | rfl | rfl | rfl | rfl | rfl | rfl | rfl | rfl | rfl | rfl : j' = 0 ∨ j' = 1 ∨ j' = 2 ∨ j' = 3 ∨ j' = 4 ∨ j' = 5 ∨ j' = 6 ∨ j' = 7 ∨ j' = 8 ∨ j' = 9 ∨ j' = 10 ∨ j' = 11 ∨ j' = 12 := by omega
          all_goals (cases g1; cases g3 <;> first | rfl | (rw [hlj] at g2; cases g2))) (fun s hs => by cases hs; rfl) (by simpa [t0, l5, l7] using hq))
    · exact wp_ran rfl (exec_load rfl (eval_tmp ((hpar 15 rfl).trans rfl)) (run_loads (Cells.of_holds (hst.own (y := oB b3 24 cx) (by simp [hOB]))) Tryd.underlying24 rfl (size24' hx5))) (hK x _ _ (fun _ _ _ _ _ _ => rfl) (fun s hs => by cases hs; rfl) (by simpa using hst))
    · have l5 : lz 5 = false := (by cases hh : lz 5 with | false => rfl | true => exact absurd (hcl 5 _ rfl hh ⟨4, .data⟩ (by simp) rfl) (by rw [hlj]; simp))
      have l7 : lz 7 = false := (by cases hh : lz 7 with | false => rfl | true => exact absurd (hcl 5 _ rfl (hcl 7 _ rfl hh ⟨5, .data⟩ (by simp) rfl) ⟨4, .data⟩ (by simp) rfl) (by rw [hlj]; simp))
      rw [hlj, l5, l7] at hst
      exact wp_ran rfl (exec_lit1 hx5 rfl (eval_tmp (hgot 3 _ 83 rfl (hdep ⟨3, .data⟩ (by simp) rfl) rfl))) (hK ⟨x.1, x.2.1, v.heap.size, x.2.2.2⟩ _ _ (fun j' o' s' g1 g2 g3 => by
          have g4 : j' < 13 := (Array.getElem?_eq_some_iff.1 g1).1
          clear hpar hgot hdep hK
          obtain rfl | rfl | rfl | rfl | rfl | rfl | rfl | rfl | rfl | rfl | rfl | rfl | rfl : j' = 0 ∨ j' = 1 ∨ j' = 2 ∨ j' = 3 ∨ j' = 4 ∨ j' = 5 ∨ j' = 6 ∨ j' = 7 ∨ j' = 8 ∨ j' = 9 ∨ j' = 10 ∨ j' = 11 ∨ j' = 12 := by omega
          all_goals (cases g1; cases g3 <;> first | rfl | (rw [hlj] at g2; cases g2))) (fun s hs => by cases hs; rfl) (by simpa [l5, l7] using hst.op4 HXT.out))
    · have t0 : lz 0 = true := (hcl 2 _ rfl (hdep ⟨2, .data⟩ (by simp) rfl) ⟨0, .data⟩ (by simp) rfl)
      have t2 : lz 2 = true := (hdep ⟨2, .data⟩ (by simp) rfl)
      have t4 : lz 4 = true := (hdep ⟨4, .data⟩ (by simp) rfl)
      have l7 : lz 7 = false := (by cases hh : lz 7 with | false => rfl | true => exact absurd (hcl 7 _ rfl hh ⟨5, .data⟩ (by simp) rfl) (by rw [hlj]; simp))
      rw [hlj, t0, t2, t4, l7] at hst
      obtain ⟨A2, c2, v2, hrun, hq⟩ := hst.op5 n HL.out hn1000
      exact wp_ran rfl (exec_append (o := { dst := some 85, op := .call { callee := .builtin .append, args := #[.tmp 82, .tmp 84], argTypes := #[22, 22] }, type := 22, pos := _, after := _, guard := none }) rfl (eval_tmp (hgot 2 _ 82 rfl (hdep ⟨2, .data⟩ (by simp) rfl) rfl)) (eval_tmp (hgot 4 _ 84 rfl (hdep ⟨4, .data⟩ (by simp) rfl) rfl)) hrun) (hK ⟨x.1, x.2.1, x.2.2.1, (A2, c2), x.2.2.2.2⟩ _ _ (fun j' o' s' g1 g2 g3 => by
          have g4 : j' < 13 := (Array.getElem?_eq_some_iff.1 g1).1
          clear hpar hgot hdep hK
          obtain rfl | rfl | rfl | rfl | rfl | rfl | rfl | rfl | rfl | rfl | rfl | rfl | rfl : j' = 0 ∨ j' = 1 ∨ j' = 2 ∨ j' = 3 ∨ j' = 4 ∨ j' = 5 ∨ j' = 6 ∨ j' = 7 ∨ j' = 8 ∨ j' = 9 ∨ j' = 10 ∨ j' = 11 ∨ j' = 12 := by omega
          all_goals (cases g1; cases g3 <;> first | rfl | (rw [hlj] at g2; cases g2))) (fun s hs => by cases hs; rfl) (by simpa [t0, t2, t4, l7] using hq))
    · exact wp_ran rfl (exec_load rfl (eval_tmp ((hpar 7 rfl).trans rfl)) (run_loads (Cells.of_holds (hst.own (y := oB b7 24 ca) (by simp [hOB]))) Tryd.underlying24 rfl (size24' hca.1))) (hK x _ _ (fun _ _ _ _ _ _ => rfl) (fun s hs => by cases hs; rfl) (by simpa using hst))
    · have t0 : lz 0 = true := (hcl 2 _ rfl (hcl 5 _ rfl (hdep ⟨5, .data⟩ (by simp) rfl) ⟨2, .data⟩ (by simp) rfl) ⟨0, .data⟩ (by simp) rfl)
      have t2 : lz 2 = true := (hcl 5 _ rfl (hdep ⟨5, .data⟩ (by simp) rfl) ⟨2, .data⟩ (by simp) rfl)
      have t4 : lz 4 = true := (hcl 5 _ rfl (hdep ⟨5, .data⟩ (by simp) rfl) ⟨4, .data⟩ (by simp) rfl)
      have t5 : lz 5 = true := (hdep ⟨5, .data⟩ (by simp) rfl)
      have l8 : lz 8 = false := (by cases hh : lz 8 with | false => rfl | true => exact absurd (hcl 8 _ rfl hh ⟨7, .data⟩ (by simp) rfl) (by rw [hlj]; simp))
      have l9 : lz 9 = false := (by cases hh : lz 9 with | false => rfl | true => exact absurd (hcl 8 _ rfl (hcl 9 _ rfl hh ⟨8, .data⟩ (by simp) rfl) ⟨7, .data⟩ (by simp) rfl) (by rw [hlj]; simp))
      have l10 : lz 10 = false := (by cases hh : lz 10 with | false => rfl | true => exact absurd (hcl 8 _ rfl (hcl 10 _ rfl hh ⟨8, .data⟩ (by simp) rfl) ⟨7, .data⟩ (by simp) rfl) (by rw [hlj]; simp))
      have l11 : lz 11 = false := (by cases hh : lz 11 with | false => rfl | true => exact absurd (hcl 11 _ rfl hh ⟨7, .chain⟩ (by simp) rfl) (by rw [hlj]; simp))
      have l12 : lz 12 = false := (by cases hh : lz 12 with | false => rfl | true => exact absurd (hcl 12 _ rfl hh ⟨7, .phase⟩ (by simp) rfl) (by rw [hlj]; simp))
      rw [hlj, t0, t2, t4, t5] at hst
      obtain ⟨SR, vsR, hR, hSR⟩ := hst.op7
      have hT := hst.std HAT.out
      refine wp_called rfl (exec_call2 rfl rfl (eval_tmp (hgot 5 _ 85 rfl (hdep ⟨5, .data⟩ (by simp) rfl) rfl)) (eval_tmp (hgot 6 _ 86 rfl (hdep ⟨6, .data⟩ (by simp) rfl) rfl)) (enters_of Tryd.func36 (by kernel_rfl) rfl)) ((can_few _ (n + 1) _ vsR (K ++ [tx]) SR ca (kpA V) SA v (by rw [List.length_append, List.length_singleton, HL.out]) hR hT.1.1 hSR hT.2 (HGW.out v hst) (HB1.out) (HB2.out) (HB3.out) HT1.out.2.1).mono ?_)
      rintro e v' ⟨bb, rfl, hbb, m⟩
      refine ⟨_, rfl, hK ⟨x.1, x.2.1, x.2.2.1, x.2.2.2.1, bb⟩ _ _ (fun j' o' s' g1 g2 g3 => by
          have g4 : j' < 13 := (Array.getElem?_eq_some_iff.1 g1).1
          clear hpar hgot hdep hK
          obtain rfl | rfl | rfl | rfl | rfl | rfl | rfl | rfl | rfl | rfl | rfl | rfl | rfl : j' = 0 ∨ j' = 1 ∨ j' = 2 ∨ j' = 3 ∨ j' = 4 ∨ j' = 5 ∨ j' = 6 ∨ j' = 7 ∨ j' = 8 ∨ j' = 9 ∨ j' = 10 ∨ j' = 11 ∨ j' = 12 := by omega
          all_goals (cases g1; cases g3 <;> first | rfl | (rw [hlj] at g2; cases g2) | (rw [l8] at g2; cases g2) | (rw [l9] at g2; cases g2) | (rw [l10] at g2; cases g2) | (rw [l11] at g2; cases g2) | (rw [l12] at g2; cases g2))) (fun s hs => by cases hs; rfl) ?_⟩
      simpa [t0, t2, t4, t5] using hst.told m bb hbb
    · exact wp_ran rfl (exec_move rfl (eval_tmp (hgot 7 _ 87 rfl (hdep ⟨7, .data⟩ (by simp) rfl) rfl))) (hK x _ _ (fun _ _ _ _ _ _ => rfl) (fun s hs => by cases hs; rfl) (by simpa using hst))
    · exact wp_ran rfl (exec_extract0 rfl (eval_tmp (hgot 8 _ 79 rfl (hdep ⟨8, .data⟩ (by simp) rfl) rfl))) (hK x _ _ (fun _ _ _ _ _ _ => rfl) (fun s hs => by cases hs; rfl) (by simpa using hst))
    · exact wp_ran rfl (exec_extract1 rfl (eval_tmp (hgot 8 _ 79 rfl (hdep ⟨8, .data⟩ (by simp) rfl) rfl))) (hK x _ _ (fun _ _ _ _ _ _ => rfl) (fun s hs => by cases hs; rfl) (by simpa using hst))
    · exact wp_ran rfl (exec_assign rfl (eval_tmp (hgot 9 _ 88 rfl (hdep ⟨9, .data⟩ (by simp) rfl) rfl))) (hK x _ _ (fun _ _ _ _ _ _ => rfl) (fun s hs => by cases hs; rfl) (by simpa using hst))
    · exact wp_ran rfl (exec_assign rfl (eval_tmp (hgot 10 _ 89 rfl (hdep ⟨10, .data⟩ (by simp) rfl) rfl))) (hK x _ _ (fun _ _ _ _ _ _ => rfl) (fun s hs => by cases hs; rfl) (by simpa using hst))
  intro x lz v hlz hst
  rw [hlz 0 (by decide), hlz 2 (by decide), hlz 4 (by decide), hlz 5 (by decide), hlz 7 (by decide)] at hst
  obtain ⟨F4, hbb⟩ := hst.back
  obtain ⟨e0, a1, g4, a2, bb⟩ := x
  have hb2 := kp_answers HN.out HNK.out o1 o2 HO1.out HO2.out j hj3 bb (by rw [← HTX.out]; exact hbb)
  subst hOB
  have F5 : Fm w v [oB b7 24 ca, oB b 24 ck] (tR Any ST3 (some ⟨P, 0, none⟩) vs3 [kpL key V, kpS V, kpH V] :: ts0) := F4.sub (List.sublist_cons_self _ _) (fun y hy => HBK.out y hy)
  have HB := Lib.hid hb2
  clear hst hlz hbb hb2 F4
  simp only [setAll, Act.put, List.foldl_cons, List.foldl_nil, List.setIfInBounds_toArray, List.set_cons_succ, List.set_cons_zero]
  by_cases hj0 : j = 0
  · have e0' : ((j : Int) == 0) = true := by simp [hj0]
    obtain rfl : bb = o1 := by rw [HB.out]; simp [hj0]
    have e1' : ((j : Int) == 1) = false := by simp [hj0]
    clear HB hj0
    cases bb <;> go_wp2_with fail
    all_goals exact ⟨⟨j + 1, by go_num, by omega, F5⟩, by simp [intOf]; omega⟩
  by_cases hj1 : j = 1
  · have e0' : ((j : Int) == 0) = false := by simp [hj1]
    have e1' : ((j : Int) == 1) = true := by simp [hj1]
    obtain rfl : bb = o2 := by rw [HB.out]; simp [hj1]
    clear HB hj0 hj1
    cases bb <;> go_wp2_with fail
    all_goals exact ⟨⟨j + 1, by go_num, by omega, F5⟩, by simp [intOf]; omega⟩
  · have e0' : ((j : Int) == 0) = false := by simp; omega
    have e1' : ((j : Int) == 1) = false := by simp; omega
    obtain rfl : bb = false := by rw [HB.out]; simp [hj0, hj1]
    clear HB hj0 hj1
    go_wp2_with fail
    exact ⟨⟨j + 1, by go_num, by omega, F5⟩, by simp [intOf]; omega⟩
theorem closeKeeps_w (A : Option Addr) (c : Nat) (vs : List (List Value)) (K : List Tm) (key : Tm) (ck : List Value) (a2 : Int) (W : World) (hl : K.length ≤ c) (hm : c ≤ maxLen) (hb : K.length ≤ 2199023255552) (hR : RowT W (Btw 0 W.heap.size) A vs K) (hT : TIs W (Btw 0 W.heap.size) key ck) (G : Glob W) :
    Calls Tryd.prog 8 #[.slice A K.length c, .agg ck.toArray, .int .i64 a2] W fun e w' => e = .returned (.bool true) ∧ Mod [] W w' :=
  keeps_w A K.length c vs K ck key a2 W _ _ rfl hb hR (fun g hg => hg.2) hT (fun g hg => hg.2) G
end
end Go.Proofs.YtchanildogjhgaaDoor
