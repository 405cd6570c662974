/-
  The document's Has, With and all (ref 07). My own work.
-/
import Derived.Test.YtchanildogjhgaaDoorQa
import Derived.Test.YtchanildogjhgaaDoorA5
import Derived.Test.YtchanildogjhgaaDoorA6
namespace Go.Proofs.YtchanildogjhgaaDoor
open Go.RowKit Go.Shelf
set_option linter.unusedVariables false
set_option linter.unusedSimpArgs false
theorem rsame_d (a b : Tm) (ca cb : List Value) (Sa Sb : Nat → Prop) (r : Bool) (w : World) (hr : Tm.same a b = r) (hA : TIs w Sa a ca) (hB : TIs w Sb b cb) : Calls Tryd.prog 15 #[.agg ca.toArray, .agg cb.toArray] w fun e w' => e = .returned (.bool r) ∧ Mod [] w w' := by
  subst hr
  exact rsame_all _ a b ca cb Sa Sb w (Nat.le_refl _) hA hB
def hasI (L : List Tm) (t : Tm) : Int := if Tm.idx L t < L.length then (Tm.idx L t : Int) else -1
theorem hasI_in {L : List Tm} {t : Tm} (h : t ∈ L) : hasI L t = (Tm.idx L t : Int) := by unfold hasI; rw [if_pos (Tm.idx_lt h)]
set_option maxRecDepth 100000 in
set_option maxHeartbeats 4000000 in
theorem rhas_c (A : Option Addr) (n c : Nat) (vs : List (List Value)) (L : List Tm) (S : Nat → Prop) (ct : List Value) (t : Tm) (St : Nat → Prop) (w : World) (hn : n = L.length) (hb : n < 1000000) (hR : RowT w S A vs L) (hT : TIs w St t ct) : Calls Tryd.prog 65 #[.slice A n c, .agg ct.toArray] w fun e w' => e = .returned (.int .i64 (hasI L t)) ∧ Mod [] w w' := by
  have h5t := hT.len
  have h1t := hT.one
  obtain ⟨d, hd⟩ : ∃ d, d = hasI L t := ⟨_, rfl⟩
  obtain ⟨ix, hix⟩ : ∃ i, i = Tm.idx L t := ⟨_, rfl⟩
  rw [← hd]
  have HD : Hid (d = (if ix < L.length then (ix : Int) else -1) ∧ ix = Tm.idx L t) := Lib.hid ⟨by rw [hd, hix]; rfl, hix⟩
  have HL := Lib.hid hn
  have HR := Lib.hid (And.intro hR hT)
  clear hd hix hn hR hT
  go_enter Tryd.func65, Tryd.ntmps65
  go_wp2_with (first
    | (with_reducible refine wpList_boxes (o := ⟨some 3, .box 24 (.tmp 1), _, _, _, _⟩) rfl 24 (.tmp 1) rfl _ rfl ct rfl ?_; intro w1 h3 mm z1
       obtain ⟨b3, hq3⟩ : ∃ q, q = w.heap.size := ⟨_, rfl⟩
       rw [← hq3] at h3 ⊢
       clear z1 hq3))
  have H3 := Lib.hid h3
  have M1 := Lib.hid mm
  clear mm h3
  go_loopw [5] (fun i wi => ∃ j : Nat, i = .int .i64 (j : Int) ∧ j ≤ n ∧ Hid (j ≤ ix) ∧ Mod [] w1 wi) (fun i _ => n - (intOf i).toNat)
  case atStart => exact ⟨0, rfl, Nat.zero_le _, Lib.hid (Nat.zero_le _), Mod.refl _ _⟩
  case round =>
    obtain ⟨j, rfl, hj, hji, mm⟩ := hrel
    by_cases hjl : j < n
    · have hjZ : (j : Int) < (n : Int) := by omega
      have hjL : j < L.length := by rw [← HL.out]; exact hjl
      have HJN := Lib.hid hjl
      obtain ⟨g, oo, cs, hA, hC, hTj, h5, _⟩ := (HR.out.1.keep (M1.out.then mm) (fun _ _ => by simp)).elem j hjL
      subst hA
      obtain ⟨r, hr⟩ : ∃ r, r = Tm.same L[j] t := ⟨_, rfl⟩
      have SA := fun v (mv : Mod [] wr v) => rsame_d L[j] t cs ct S St r v hr.symm (hTj.keep mv (fun _ _ => by simp)) (HR.out.2.keep ((M1.out.then mm).then mv) (fun _ _ => by simp))
      have k3 := H3.out.keep mm (by simp)
      have HRR := Lib.hid hr
      clear hr hTj hjl
      go_wp2_with fail
      obtain ⟨wq, hwq⟩ : ∃ v, v = wr := ⟨_, rfl⟩
      rw [← hwq] at hC SA k3 mm ⊢
      clear hwq
      refine wp_region_ups [(12, .slice (some ⟨g, oo, none⟩) n c), (13, .int .i64 (j : Int)), (14, .pointer (some ⟨g, oo + j * 5, none⟩)), (15, .agg cs.toArray), (16, .agg ct.toArray), (17, .bool r)] 19 [12, 13, 14, 15, 16, 17] rfl rfl (by decide) (by kernel_rfl) (fun lz v => Mod [] wq.drew v) (by kernel_rfl) (Mod.refl _ _) (by kernel_rfl) (by kernel_rfl) ?step ?fin
      case step =>
        intro lz T v j o hj hlj hdep hst hpar hgot hcl Kq hK
        have mv : ∀ v, Mod [] wq.drew v → Mod [] wq v := fun v h => (Mod.drew [] wq).then h
        have hjn : j < 6 := (Array.getElem?_eq_some_iff.1 hj).1
        obtain rfl | rfl | rfl | rfl | rfl | rfl : j = 0 ∨ j = 1 ∨ j = 2 ∨ j = 3 ∨ j = 4 ∨ j = 5 := by omega
        all_goals (have hj' := Option.some.inj (hj : some _ = some o); subst hj'; clear hj)
        · exact wp_ran rfl (exec_move rfl (eval_tmp ((hpar 0 rfl).trans rfl))) (hK _ _ (fun s hs => by cases hs; rfl) hst)
        · exact wp_ran rfl (exec_move rfl (eval_tmp ((hpar 5 rfl).trans rfl))) (hK _ _ (fun s hs => by cases hs; rfl) hst)
        · exact wp_ran rfl (exec_ixs Tryd.underlying22 size24 HJN.out rfl (eval_tmp (hgot 0 _ 12 rfl (hdep ⟨0, .data⟩ (by simp) rfl) rfl)) (eval_tmp (hgot 1 _ 13 rfl (hdep ⟨1, .data⟩ (by simp) rfl) rfl))) (hK _ _ (fun s hs => by cases hs; rfl) hst)
        · exact wp_ran rfl (exec_load rfl (eval_tmp (hgot 2 _ 14 rfl (hdep ⟨2, .data⟩ (by simp) rfl) rfl)) (run_loads (hC.keep (mv v hst) (by simp)) Tryd.underlying24 rfl (size24' h5))) (hK _ _ (fun s hs => by cases hs; rfl) hst)
        · exact wp_ran rfl (exec_load rfl (eval_tmp ((hpar 3 rfl).trans rfl)) (run_loads (Cells.of_holds (k3.keep (mv v hst) (by simp))) Tryd.underlying24 rfl (size24' h5t))) (hK _ _ (fun s hs => by cases hs; rfl) hst)
        · exact wp_called rfl (exec_call2 rfl rfl (eval_tmp (hgot 3 _ 15 rfl (hdep ⟨3, .data⟩ (by simp) rfl) rfl)) (eval_tmp (hgot 4 _ 16 rfl (hdep ⟨4, .data⟩ (by simp) rfl) rfl)) (enters_of Tryd.func15 (by kernel_rfl) rfl)) ((SA v (mv v hst)).mono (fun e v' hh => ⟨_, hh.1, hK _ _ (fun s hs => by cases hs; rfl) (hst.then hh.2)⟩))
      case fin =>
      intro lz vr hlz hst
      have mq := (Mod.drew [] wq).then hst
      replace mm := mm.then mq
      clear hst hlz
      simp only [setAll, List.foldl_cons, List.foldl_nil, List.set_cons_succ, List.set_cons_zero]
      cases r with
      | true =>
        have hd : d = (j : Int) := by
          have e : ix = j := by
            rcases Nat.lt_or_eq_of_le hji.out with h | h
            · rw [HD.out.2] at h
              have := List.not_of_lt_findIdx h
              rw [← HRR.out] at this
              cases this
            · exact h.symm
          rw [HD.out.1, e, if_pos hjL]
        clear HRR SA hji
        go_wp2_with fail
        go_ret
        exact ⟨by rw [hd]; rfl, M1.out.then mm⟩
      | false =>
        have hnx : Hid (j + 1 ≤ ix) := Lib.hid (by
          rcases Nat.lt_or_eq_of_le hji.out with h | h
          · exact h
          · exfalso
            have h' := HD.out.2
            have hlt : Tm.idx L t < L.length := by rw [← h', ← h]; exact hjL
            have := Tm.idx_at hlt
            have e2 : L[j] = t := by rw [← this]; congr 1; rw [← h', h]
            have := (Tm.same_iff _ _).2 e2
            rw [← HRR.out] at this
            cases this)
        clear HRR SA hji
        go_wp2_with fail
        exact ⟨⟨j + 1, by go_num, by have := HJN.out; omega, hnx, mm⟩, by have := HJN.out; simp [intOf]; omega⟩
    · have hjZ : ¬ (j : Int) < (n : Int) := by omega
      have hd : d = -1 := by
        rw [HD.out.1, if_neg (by have := hji.out; have := HL.out; omega)]
      clear HD
      go_wp2_with fail
      go_ret
      exact ⟨rfl, M1.out.then mm⟩
theorem Fm.permQ {w0 w : World} {os os' ts : List Th} (F : Fm w0 w os ts) (h : os.Perm os') : Fm w0 w os' ts :=
  ⟨F.m, fun x hx => F.k x (hx.imp_left h.mem_iff.2), fun x hx => F.lo x (h.mem_iff.2 hx), (h.pairwise_iff (fun hxy g h1 h2 => hxy g h2 h1)).1 F.d, fun x hx => F.e x (h.mem_iff.2 hx)⟩
theorem sec_tis (u : Int) (w : World) : TIs w (fun _ => False) (Tm.sec u) (tmc 3 u 0 ⟨#[]⟩ none 0 0) := (RowT.nil w (fun _ => False) none).tis 3 u 0 ⟨#[]⟩ 0 (by decide) (Nat.le_refl _) (by simp) (by simp)
def WithR (w0 : World) (os ts : List Th) (L : List Tm) (e : Ending) (w' : World) : Prop := ∃ (A : Option Addr) (c : Nat) (xs : List Q5) (S : Nat → Prop), e = .returned (.slice A L.length c) ∧ Fm w0 w' (oR A c xs :: os) (tLs Any S L xs :: ts)
def WithP (f : Nat) : Prop := ∀ (t : Tm), t.depth ≤ f → t.ok = true → ∀ (w0 w : World) (os ts : List Th) (A : Option Addr) (c : Nat) (xs : List Q5) (L : List Tm) (S St : Nat → Prop) (ct : List Value) (n : Nat), Fm w0 w (oR A c xs :: os) ts → tLs Any S L xs ∈ ts → tT Any St t ct ∈ ts → n = L.length → n + 2 * t.count ≤ 100000 → Calls Tryd.prog 87 #[.slice A n c, .agg ct.toArray] w (WithR w0 os ts (Tm.withT t L))
theorem Fm.hasR {w0 w : World} {os ts : List Th} (F : Fm w0 w os ts) {i : Nat} {A : Option Addr} {c : Nat} {xs : List Q5} (hi : os[i]? = some (oR A c xs)) {L S : Nat → Prop} {l : List Tm} (h : tLs L S l xs ∈ ts) {St Lt : Nat → Prop} {t : Tm} {ct : List Value} (hT : tT Lt St t ct ∈ ts) (n : Nat) (hn : n = l.length) (hb : n < 1000000) : Calls Tryd.prog 65 #[.slice A n c, .agg ct.toArray] w fun e w' => e = .returned (.int .i64 (hasI l t)) ∧ Mod [] w w' :=
  rhas_c A n c _ l _ ct t St w hn hb (F.asRow hi h) (F.ist hT)
set_option maxRecDepth 100000 in
set_option maxHeartbeats 4000000 in
theorem with_step (f : Nat) (ih : WithP f) : WithP (f + 1) := by
  rintro ⟨kd, u, nm, s, ks⟩ hdp hok w0 w os ts A c xs L S St ct n F hLs hT hn hb
  obtain ⟨K, cap, vs, rfl, hrow, hkc, hcm, hk9, hs9⟩ := (F.ist hT).row
  have h5 : (tmc kd u nm s K ks.length cap).length = 5 := rfl
  have hd1 : Tm.depthAll ks ≤ f := by rw [Tm.depth] at hdp; omega
  have hok2 := Tm.okAll_kids hok
  have hkk := Tm.kids_kind hok
  have hus := fun h7 => Tm.user_ok hok h7
  have hb2 : n + 2 * (1 + Tm.countAll ks) ≤ 100000 := by rw [Tm.count] at hb; exact hb
  have HN := Lib.hid hn
  have HLs := Lib.hid hLs
  have HT := Lib.hid hT
  have HB9 : Hid (n < 1000000) := Lib.hid (by omega)
  have HIH : Hid (WithP f) := Lib.hid ih
  obtain ⟨kn, hkn⟩ : ∃ k, k = ks.length := ⟨_, rfl⟩
  rw [← hkn] at HT h5 ⊢
  obtain ⟨t, ht⟩ : ∃ t, t = Tm.mk kd u nm s ks := ⟨_, rfl⟩
  have HTm := HT
  rw [← ht] at HT ⊢
  have heq := Tm.withT_eq t L
  have HKN := Lib.hid hkn
  have hkb : kn ≤ 2 := by
    have h1 : ks.length = Tm.nk kd := hkk.1
    rw [hkn, h1]
    unfold Tm.nk
    split
    · omega
    · split <;> omega
  have HTT := Lib.hid ht
  clear hb hok hdp hT hLs hrow hkc hcm hk9 hs9 hn hkn ht
  by_cases hin : Tm.idx L t < L.length
  case pos =>
    rw [if_pos hin] at heq
    have hge : 0 ≤ hasI L t := by unfold hasI; rw [if_pos hin]; omega
    rw [heq]
    clear heq hin hkk hus hok2 hd1 hb2
    go_enter Tryd.func87, Tryd.ntmps87
    go_wp2_with (first
      | (with_reducible refine fm_box F (o := ⟨some 3, .box 24 (.tmp 1), _, _, _, _⟩) rfl 24 (.tmp 1) rfl (tmc kd u nm s K kn cap) rfl ?_; intro b3 w1 F1; clear F)
      | (with_reducible refine fm_load F1 0 rfl (o := ⟨some 7, .load 24 (.tmp 3), _, _, _, _⟩) rfl (.tmp 3) rfl rfl h5 ?_)
      | (go_at_call 65; have HH := F1.hasR (i := 1) (A := A) (c := c) (xs := xs) rfl HLs.out HT.out n HN.out HB9.out; with_reducible refine Calls.mono HH ?_
         rintro e w2 ⟨rfl, m2⟩
         have F2 := F1.call m2
         clear F1 m2 HH))
    have F9 := F2.sub (os' := oR A c xs :: os) (ts' := tLs Any S L xs :: ts) (List.sublist_cons_self _ _) (fun y hy => by
      rcases List.mem_cons.1 hy with h | h
      · rw [h]; exact HLs.out
      · exact h)
    clear F2
    go_ret
    refine ⟨A, c, xs, S, ?_, F9⟩
    rw [← HN.out]
    rfl
  have hge : ¬ 0 ≤ hasI L t := by unfold hasI; rw [if_neg hin]; omega
  rw [if_neg hin] at heq
  have hkd : t.kind = kd := by rw [HTT.out]; rfl
  have hku : t.user = u := by rw [HTT.out]; rfl
  have hkk2 : t.kids = ks := by rw [HTT.out]; rfl
  rw [hkd, hku, hkk2] at heq
  clear hkd hku hkk2 hin
  have HK0 : Hid (∀ M : List Tm, M.length ≤ n + 2 → (kn = ks.length ∧ (∀ j (h : j < ks.length), ks[j].depth ≤ f) ∧ (∀ j (h : j < ks.length), ks[j].ok = true) ∧ (∀ j (h : j < ks.length) m, m = (Tm.withAll (ks.take j) M).length → m + 2 * Tm.count ks[j] ≤ 100000))) := Lib.hid fun M hM => ⟨HKN.out, fun j h => Nat.le_trans (Tm.mem_depth (List.getElem_mem h)) hd1, fun j h => Tm.mem_ok (List.getElem_mem h) hok2, fun j h m hm => by
    have h1 := Tm.withAll_len (ks.take j) M
    have h2 := Tm.countAll_take ks j h
    omega⟩
  by_cases h78 : kd = 7 ∨ kd = 8
  case neg =>
    rw [if_neg h78] at heq
    obtain ⟨M, hM⟩ : ∃ M, M = L ++ [t] := ⟨_, rfl⟩
    rw [← hM] at heq
    have HM := Lib.hid (And.intro hM heq)
    have HK := Lib.hid (HK0.out M (by rw [hM, List.length_append, List.length_singleton, ← HN.out]; omega))
    have e7 : (kd == 7) = false := beq_eq_false_iff_ne.2 fun h => h78 (.inl h)
    have e8 : (kd == 8) = false := beq_eq_false_iff_ne.2 fun h => h78 (.inr h)
    clear h78 hM heq hkk hus hok2 hd1 hb2 HK0
    go_enter Tryd.func87, Tryd.ntmps87
    go_wp2_with (first
      | (with_reducible refine fm_box F (o := ⟨some 3, .box 24 (.tmp 1), _, _, _, _⟩) rfl 24 (.tmp 1) rfl (tmc kd u nm s K kn cap) rfl ?_; intro b3 w1 F1; clear F)
      | (with_reducible refine fm_load F1 0 rfl (o := ⟨some 7, .load 24 (.tmp 3), _, _, _, _⟩) rfl (.tmp 3) rfl rfl h5 ?_)
      | (go_at_call 65; have HH := F1.hasR (i := 1) (A := A) (c := c) (xs := xs) rfl HLs.out HT.out n HN.out HB9.out; with_reducible refine Calls.mono HH ?_
         rintro e w2 ⟨rfl, m2⟩
         have F2 := F1.call m2
         clear F1 m2 HH)
      | (with_reducible refine fm_load F2 0 rfl (o := ⟨some 12, .load 24 (.tmp 3), _, _, _, _⟩) rfl (.tmp 3) rfl rfl h5 ?_)
      | (with_reducible refine fm_row1 F2 HT.out Any (fun _ _ => trivial) (fun _ _ => trivial) (o := ⟨some 13, .buildSlice 22 1 #[(0, .tmp 12)], _, _, _, _⟩) rfl (.tmp 12) rfl rfl ?_; intro g2 S2 w3 F3; clear F2)
      | (with_reducible refine fm_append1 F3 1 rfl (List.mem_cons_of_mem _ HLs.out) (F3.mem 0 rfl) (fun _ _ => trivial) n HN.out HB9.out (o := ⟨some 14, .call { callee := .builtin .append, args := #[.tmp 11, .tmp 13], argTypes := #[22, 22] }, _, _, _, _⟩) rfl (.tmp 11) (.tmp 13) rfl rfl rfl ?_
         intro A4 c4 xs4 S4 w4 F40
         have F4 := Fm.permQ (os := oB b3 24 (tmc kd u nm s K kn cap) :: oR A4 c4 xs4 :: os) (os' := oR A4 c4 xs4 :: oB b3 24 (tmc kd u nm s K kn cap) :: os) F40 (List.Perm.swap _ _ _)
         have e0 := (F4.blk 1 rfl).cell 0
         have e1 := (F4.blk 1 rfl).cell 1
         simp only [tmc, List.getElem?_cons_succ, List.getElem?_cons_zero] at e0 e1
         clear F3 F40)
      | (with_reducible refine fm_ranW (o := ⟨some 20, .load 3 _, _, _, _, _⟩) (by with_unfolding_all rfl) (.int .i64 kd) _ (exec_load rfl rfl (run_load1 Tryd.underlying3 rfl e0)) ?_))
    have FZ := F4.sub (ts' := tLs Any S4 M xs4 :: ts) (List.Sublist.refl _) (fun y hy => by
      rcases List.mem_cons.1 hy with h | h
      · rw [h, HM.out.1]; exact List.mem_cons_self ..
      · simp [h])
    clear F4 e0 e1
    go_loopw [0, 5] (fun r i wi => ∃ (j m : Nat) (A : Option Addr) (c : Nat) (xs : List Q5) (S : Nat → Prop), r = .slice A m c ∧ i = .int .i64 (j : Int) ∧ j ≤ kn ∧ Hid (m = (Tm.withAll (ks.take j) M).length) ∧ Fm w0 wi (oR A c xs :: oB b3 24 (tmc kd u nm s K kn cap) :: os) (tLs Any S (Tm.withAll (ks.take j) M) xs :: ts)) (fun _ i _ => kn - (intOf i).toNat)
    case atStart => exact ⟨0, _, A4, c4, xs4, S4, rfl, rfl, Nat.zero_le _, Lib.hid (by rw [List.take_zero, Tm.withAll, HM.out.1]; rw [List.length_append, List.length_singleton, ← HN.out]), by rw [List.take_zero, Tm.withAll]; exact FZ⟩
    case round =>
      clear FZ
      obtain ⟨j, m, A6, c6, xs6, S6, rfl, rfl, hj, hm, FJ⟩ := hrel
      by_cases hjk : j < kn
      · have hjZ : (j : Int) < (kn : Int) := by omega
        have hjl : j < ks.length := by rw [← HK.out.1]; exact hjk
        obtain ⟨g, oo, cs, rfl, h5e, h1e, FE⟩ := (FJ.elem (List.mem_cons_of_mem _ HTm.out) j hjl)
        have FE2 := FE.eT (List.mem_cons_self ..)
        have e4 := (FJ.blk 1 rfl).cell 4
        simp only [tmc, List.getElem?_cons_succ, List.getElem?_cons_zero] at e4
        have CE := FE.ec (List.mem_cons_self ..)
        have IH := Lib.hid (HIH.out ks[j] (HK.out.2.1 j hjl) (HK.out.2.2.1 j hjl))
        have hs := Tm.withAll_snoc ks M j hjl
        have hb : m + 2 * Tm.count ks[j] ≤ 100000 := HK.out.2.2.2 j hjl m hm.out
        obtain ⟨tj, htj⟩ : ∃ t, t = ks[j] := ⟨_, rfl⟩
        rw [← htj] at FE2 IH hs hb
        have HS := Lib.hid hs
        have HBB := Lib.hid hb
        have hjk' := Lib.hid hjk
        clear hs hb htj hjk hjl FE
        go_wp2_with (first
          | (with_reducible refine wpList_loads (o := ⟨some 40, .load 24 (.tmp 39), _, _, _, _⟩) rfl 24 (.tmp 39) rfl g (oo + j * 5) cs rfl CE _ Tryd.underlying24 rfl (size24' h5e) (.agg cs.toArray) rfl ?_)
          | (go_at_call 87
             with_reducible refine Calls.mono (IH.out w0 wr _ _ A6 c6 xs6 _ S6 _ _ m FE2 (List.mem_cons_of_mem _ (List.mem_cons_of_mem _ (List.mem_cons_self ..))) (List.mem_cons_self ..) hm.out HBB.out) ?_
             rintro e w7 ⟨A7, c7, xs7, S7, rfl, F7⟩
             clear FE2))
        have F8 := F7.sub (ts' := tLs Any S7 (Tm.withT tj (Tm.withAll (ks.take j) M)) xs7 :: ts) (List.Sublist.refl _) (fun y hy => by
          rcases List.mem_cons.1 hy with h | h
          · rw [h]; exact List.mem_cons_self ..
          · simp [h])
        rw [← HS.out] at F8 ⊢
        exact ⟨⟨j + 1, _, A7, c7, xs7, S7, rfl, by go_num, by have := hjk'.out; omega, Lib.hid rfl, F8⟩, by have := hjk'.out; simp [intOf]; omega⟩
      · have hjZ : ¬ (j : Int) < (kn : Int) := by omega
        have e4 := (FJ.blk 1 rfl).cell 4
        simp only [tmc, List.getElem?_cons_succ, List.getElem?_cons_zero] at e4
        obtain rfl : j = kn := by omega
        go_wp2_with fail
        go_ret
        have e9 : ks.take j = ks := List.take_of_length_le (by have := HK.out.1; omega)
        rw [e9] at FJ hm
        refine ⟨A6, c6, xs6, S6, by (rw [HM.out.2, ← hm.out]) <;> rfl, ?_⟩
        rw [HM.out.2]
        exact FJ.sub (List.Sublist.cons_cons _ (List.sublist_cons_self _ _)) (fun y hy => hy)
  rw [if_pos h78] at heq
  obtain ⟨M, hM⟩ : ∃ M, M = Tm.withT (Tm.sec u) (L ++ [t]) := ⟨_, rfl⟩
  rw [← Tm.withT_sec, ← hM] at heq
  have HM := Lib.hid (And.intro hM heq)
  have hk1 : ks.length = 1 := by
    have := hkk.1
    rcases h78 with e | e <;> (rw [show (Tm.mk kd u nm s ks).kids = ks from rfl, show (Tm.mk kd u nm s ks).kind = kd from rfl, e] at this; exact this)
  have hk0 : ∃ k, k ∈ ks := by
    cases ks with
    | nil => cases hk1
    | cons k l => exact ⟨k, by simp⟩
  obtain ⟨k0, hk0⟩ := hk0
  have hc0 := Tm.mem_count hk0
  have hc1 := Tm.count_pos k0
  have hp0 := Tm.mem_depth hk0
  have hp1 := Tm.depth_pos k0
  have huu := hus (show (Tm.mk kd u nm s ks).kind = 7 ∨ (Tm.mk kd u nm s ks).kind = 8 from h78)
  have hsc : (Tm.sec u).count = 1 := rfl
  have HSEC := Lib.hid (ih (Tm.sec u) (by show 1 ≤ f; omega) (Tm.sec_ok1 huu.1 huu.2))
  have HN1 : Hid (n + 1 = (L ++ [t]).length) := Lib.hid (by rw [List.length_append, List.length_singleton, ← HN.out])
  have HB1 : Hid (n + 1 + 2 * (Tm.sec u).count ≤ 100000) := Lib.hid (by rw [hsc]; omega)
  have HK := Lib.hid (HK0.out M (by
    rw [hM, Tm.withT_sec]
    have := Tm.addT_length (L ++ [t]) (Tm.sec u)
    rw [List.length_append, List.length_singleton, ← HN.out] at this
    omega))
  clear hM heq hkk hus hok2 hd1 hb2 HK0 hk0 hc0 hc1 hp0 hp1 huu hsc hk1
  by_cases b7 : kd = 7
  · have e7 : (kd == 7) = true := beq_iff_eq.2 b7
    clear h78 b7
    go_enter Tryd.func87, Tryd.ntmps87
    go_wp2_with (first
      | (with_reducible refine fm_box F (o := ⟨some 3, .box 24 (.tmp 1), _, _, _, _⟩) rfl 24 (.tmp 1) rfl (tmc kd u nm s K kn cap) rfl ?_; intro b3 w1 F1; clear F)
      | (with_reducible refine fm_load F1 0 rfl (o := ⟨some 7, .load 24 (.tmp 3), _, _, _, _⟩) rfl (.tmp 3) rfl rfl h5 ?_)
      | (go_at_call 65; have HH := F1.hasR (i := 1) (A := A) (c := c) (xs := xs) rfl HLs.out HT.out n HN.out HB9.out; with_reducible refine Calls.mono HH ?_
         rintro e w2 ⟨rfl, m2⟩
         have F2 := F1.call m2
         clear F1 m2 HH)
      | (with_reducible refine fm_load F2 0 rfl (o := ⟨some 12, .load 24 (.tmp 3), _, _, _, _⟩) rfl (.tmp 3) rfl rfl h5 ?_)
      | (with_reducible refine fm_row1 F2 HT.out Any (fun _ _ => trivial) (fun _ _ => trivial) (o := ⟨some 13, .buildSlice 22 1 #[(0, .tmp 12)], _, _, _, _⟩) rfl (.tmp 12) rfl rfl ?_; intro g2 S2 w3 F3; clear F2)
      | (with_reducible refine fm_append1 F3 1 rfl (List.mem_cons_of_mem _ HLs.out) (F3.mem 0 rfl) (fun _ _ => trivial) n HN.out HB9.out (o := ⟨some 14, .call { callee := .builtin .append, args := #[.tmp 11, .tmp 13], argTypes := #[22, 22] }, _, _, _, _⟩) rfl (.tmp 11) (.tmp 13) rfl rfl rfl ?_
         intro A4 c4 xs4 S4 w4 F40
         have F4 := Fm.permQ (os := oB b3 24 (tmc kd u nm s K kn cap) :: oR A4 c4 xs4 :: os) (os' := oR A4 c4 xs4 :: oB b3 24 (tmc kd u nm s K kn cap) :: os) F40 (List.Perm.swap _ _ _)
         have e0 := (F4.blk 1 rfl).cell 0
         have e1 := (F4.blk 1 rfl).cell 1
         simp only [tmc, List.getElem?_cons_succ, List.getElem?_cons_zero] at e0 e1
         clear F3 F40)
      | (with_reducible refine fm_ranW (o := ⟨some 20, .load 3 _, _, _, _, _⟩) (by with_unfolding_all rfl) (.int .i64 kd) _ (exec_load rfl rfl (run_load1 Tryd.underlying3 rfl e0)) ?_)
      | (with_reducible refine wpList_ran (o := ⟨some 26, .build 24 _, _, _, _, _⟩) rfl (.agg (tmc 3 u 0 ⟨#[]⟩ none 0 0).toArray) (exec_bD rfl rfl rfl) ?_)
      | (go_at_call 87
         have FS := F4.also (tT Any (fun _ => False) (Tm.sec u) (tmc 3 u 0 ⟨#[]⟩ none 0 0)) (keeps_tT _ _ _ _) ⟨sec_tis u w4, fun _ h => h.elim⟩ (fun _ h => h.elim)
         with_reducible refine Calls.mono (HSEC.out w0 w4 _ _ A4 c4 xs4 _ S4 (fun _ => False) _ (n + 1) FS (List.mem_cons_of_mem _ (List.mem_cons_self ..)) (List.mem_cons_self ..) HN1.out HB1.out) ?_
         rintro e w5 ⟨A5, c5, xs5, S5, rfl, F5⟩
         clear F4 FS e0 e1))
    have FZ := F5.sub (ts' := tLs Any S5 M xs5 :: ts) (List.Sublist.refl _) (fun y hy => by
      rcases List.mem_cons.1 hy with h | h
      · rw [h, HM.out.1]; exact List.mem_cons_self ..
      · simp [h])
    clear F5
    go_loopw [0, 5] (fun r i wi => ∃ (j m : Nat) (A : Option Addr) (c : Nat) (xs : List Q5) (S : Nat → Prop), r = .slice A m c ∧ i = .int .i64 (j : Int) ∧ j ≤ kn ∧ Hid (m = (Tm.withAll (ks.take j) M).length) ∧ Fm w0 wi (oR A c xs :: oB b3 24 (tmc kd u nm s K kn cap) :: os) (tLs Any S (Tm.withAll (ks.take j) M) xs :: ts)) (fun _ i _ => kn - (intOf i).toNat)
    case atStart => exact ⟨0, _, A5, c5, xs5, S5, rfl, rfl, Nat.zero_le _, Lib.hid (by rw [List.take_zero, Tm.withAll, HM.out.1]), by rw [List.take_zero, Tm.withAll]; exact FZ⟩
    case round =>
      clear FZ
      obtain ⟨j, m, A6, c6, xs6, S6, rfl, rfl, hj, hm, FJ⟩ := hrel
      by_cases hjk : j < kn
      · have hjZ : (j : Int) < (kn : Int) := by omega
        have hjl : j < ks.length := by rw [← HK.out.1]; exact hjk
        obtain ⟨g, oo, cs, rfl, h5e, h1e, FE⟩ := (FJ.elem (List.mem_cons_of_mem _ HTm.out) j hjl)
        have FE2 := FE.eT (List.mem_cons_self ..)
        have e4 := (FJ.blk 1 rfl).cell 4
        simp only [tmc, List.getElem?_cons_succ, List.getElem?_cons_zero] at e4
        have CE := FE.ec (List.mem_cons_self ..)
        have IH := Lib.hid (HIH.out ks[j] (HK.out.2.1 j hjl) (HK.out.2.2.1 j hjl))
        have hs := Tm.withAll_snoc ks M j hjl
        have hb : m + 2 * Tm.count ks[j] ≤ 100000 := HK.out.2.2.2 j hjl m hm.out
        obtain ⟨tj, htj⟩ : ∃ t, t = ks[j] := ⟨_, rfl⟩
        rw [← htj] at FE2 IH hs hb
        have HS := Lib.hid hs
        have HBB := Lib.hid hb
        have hjk' := Lib.hid hjk
        clear hs hb htj hjk hjl FE
        go_wp2_with (first
          | (with_reducible refine wpList_loads (o := ⟨some 40, .load 24 (.tmp 39), _, _, _, _⟩) rfl 24 (.tmp 39) rfl g (oo + j * 5) cs rfl CE _ Tryd.underlying24 rfl (size24' h5e) (.agg cs.toArray) rfl ?_)
          | (go_at_call 87
             with_reducible refine Calls.mono (IH.out w0 wr _ _ A6 c6 xs6 _ S6 _ _ m FE2 (List.mem_cons_of_mem _ (List.mem_cons_of_mem _ (List.mem_cons_self ..))) (List.mem_cons_self ..) hm.out HBB.out) ?_
             rintro e w7 ⟨A7, c7, xs7, S7, rfl, F7⟩
             clear FE2))
        have F8 := F7.sub (ts' := tLs Any S7 (Tm.withT tj (Tm.withAll (ks.take j) M)) xs7 :: ts) (List.Sublist.refl _) (fun y hy => by
          rcases List.mem_cons.1 hy with h | h
          · rw [h]; exact List.mem_cons_self ..
          · simp [h])
        rw [← HS.out] at F8 ⊢
        exact ⟨⟨j + 1, _, A7, c7, xs7, S7, rfl, by go_num, by have := hjk'.out; omega, Lib.hid rfl, F8⟩, by have := hjk'.out; simp [intOf]; omega⟩
      · have hjZ : ¬ (j : Int) < (kn : Int) := by omega
        have e4 := (FJ.blk 1 rfl).cell 4
        simp only [tmc, List.getElem?_cons_succ, List.getElem?_cons_zero] at e4
        obtain rfl : j = kn := by omega
        go_wp2_with fail
        go_ret
        have e9 : ks.take j = ks := List.take_of_length_le (by have := HK.out.1; omega)
        rw [e9] at FJ hm
        refine ⟨A6, c6, xs6, S6, by (rw [HM.out.2, ← hm.out]) <;> rfl, ?_⟩
        rw [HM.out.2]
        exact FJ.sub (List.Sublist.cons_cons _ (List.sublist_cons_self _ _)) (fun y hy => hy)
  · have b8 : kd = 8 := h78.resolve_left b7
    have e7 : (kd == 7) = false := beq_eq_false_iff_ne.2 b7
    have e8 : (kd == 8) = true := beq_iff_eq.2 b8
    clear h78 b7 b8
    go_enter Tryd.func87, Tryd.ntmps87
    go_wp2_with (first
      | (with_reducible refine fm_box F (o := ⟨some 3, .box 24 (.tmp 1), _, _, _, _⟩) rfl 24 (.tmp 1) rfl (tmc kd u nm s K kn cap) rfl ?_; intro b3 w1 F1; clear F)
      | (with_reducible refine fm_load F1 0 rfl (o := ⟨some 7, .load 24 (.tmp 3), _, _, _, _⟩) rfl (.tmp 3) rfl rfl h5 ?_)
      | (go_at_call 65; have HH := F1.hasR (i := 1) (A := A) (c := c) (xs := xs) rfl HLs.out HT.out n HN.out HB9.out; with_reducible refine Calls.mono HH ?_
         rintro e w2 ⟨rfl, m2⟩
         have F2 := F1.call m2
         clear F1 m2 HH)
      | (with_reducible refine fm_load F2 0 rfl (o := ⟨some 12, .load 24 (.tmp 3), _, _, _, _⟩) rfl (.tmp 3) rfl rfl h5 ?_)
      | (with_reducible refine fm_row1 F2 HT.out Any (fun _ _ => trivial) (fun _ _ => trivial) (o := ⟨some 13, .buildSlice 22 1 #[(0, .tmp 12)], _, _, _, _⟩) rfl (.tmp 12) rfl rfl ?_; intro g2 S2 w3 F3; clear F2)
      | (with_reducible refine fm_append1 F3 1 rfl (List.mem_cons_of_mem _ HLs.out) (F3.mem 0 rfl) (fun _ _ => trivial) n HN.out HB9.out (o := ⟨some 14, .call { callee := .builtin .append, args := #[.tmp 11, .tmp 13], argTypes := #[22, 22] }, _, _, _, _⟩) rfl (.tmp 11) (.tmp 13) rfl rfl rfl ?_
         intro A4 c4 xs4 S4 w4 F40
         have F4 := Fm.permQ (os := oB b3 24 (tmc kd u nm s K kn cap) :: oR A4 c4 xs4 :: os) (os' := oR A4 c4 xs4 :: oB b3 24 (tmc kd u nm s K kn cap) :: os) F40 (List.Perm.swap _ _ _)
         have e0 := (F4.blk 1 rfl).cell 0
         have e1 := (F4.blk 1 rfl).cell 1
         simp only [tmc, List.getElem?_cons_succ, List.getElem?_cons_zero] at e0 e1
         clear F3 F40)
      | (with_reducible refine fm_ranW (o := ⟨some 20, .load 3 _, _, _, _, _⟩) (by with_unfolding_all rfl) (.int .i64 kd) _ (exec_load rfl rfl (run_load1 Tryd.underlying3 rfl e0)) ?_)
      | (with_reducible refine wpList_ran (o := ⟨some 26, .build 24 _, _, _, _, _⟩) rfl (.agg (tmc 3 u 0 ⟨#[]⟩ none 0 0).toArray) (exec_bD rfl rfl rfl) ?_)
      | (go_at_call 87
         have FS := F4.also (tT Any (fun _ => False) (Tm.sec u) (tmc 3 u 0 ⟨#[]⟩ none 0 0)) (keeps_tT _ _ _ _) ⟨sec_tis u w4, fun _ h => h.elim⟩ (fun _ h => h.elim)
         with_reducible refine Calls.mono (HSEC.out w0 w4 _ _ A4 c4 xs4 _ S4 (fun _ => False) _ (n + 1) FS (List.mem_cons_of_mem _ (List.mem_cons_self ..)) (List.mem_cons_self ..) HN1.out HB1.out) ?_
         rintro e w5 ⟨A5, c5, xs5, S5, rfl, F5⟩
         clear F4 FS e0 e1))
    have FZ := F5.sub (ts' := tLs Any S5 M xs5 :: ts) (List.Sublist.refl _) (fun y hy => by
      rcases List.mem_cons.1 hy with h | h
      · rw [h, HM.out.1]; exact List.mem_cons_self ..
      · simp [h])
    clear F5
    go_loopw [0, 5] (fun r i wi => ∃ (j m : Nat) (A : Option Addr) (c : Nat) (xs : List Q5) (S : Nat → Prop), r = .slice A m c ∧ i = .int .i64 (j : Int) ∧ j ≤ kn ∧ Hid (m = (Tm.withAll (ks.take j) M).length) ∧ Fm w0 wi (oR A c xs :: oB b3 24 (tmc kd u nm s K kn cap) :: os) (tLs Any S (Tm.withAll (ks.take j) M) xs :: ts)) (fun _ i _ => kn - (intOf i).toNat)
    case atStart => exact ⟨0, _, A5, c5, xs5, S5, rfl, rfl, Nat.zero_le _, Lib.hid (by rw [List.take_zero, Tm.withAll, HM.out.1]), by rw [List.take_zero, Tm.withAll]; exact FZ⟩
    case round =>
      clear FZ
      obtain ⟨j, m, A6, c6, xs6, S6, rfl, rfl, hj, hm, FJ⟩ := hrel
      by_cases hjk : j < kn
      · have hjZ : (j : Int) < (kn : Int) := by omega
        have hjl : j < ks.length := by rw [← HK.out.1]; exact hjk
        obtain ⟨g, oo, cs, rfl, h5e, h1e, FE⟩ := (FJ.elem (List.mem_cons_of_mem _ HTm.out) j hjl)
        have FE2 := FE.eT (List.mem_cons_self ..)
        have e4 := (FJ.blk 1 rfl).cell 4
        simp only [tmc, List.getElem?_cons_succ, List.getElem?_cons_zero] at e4
        have CE := FE.ec (List.mem_cons_self ..)
        have IH := Lib.hid (HIH.out ks[j] (HK.out.2.1 j hjl) (HK.out.2.2.1 j hjl))
        have hs := Tm.withAll_snoc ks M j hjl
        have hb : m + 2 * Tm.count ks[j] ≤ 100000 := HK.out.2.2.2 j hjl m hm.out
        obtain ⟨tj, htj⟩ : ∃ t, t = ks[j] := ⟨_, rfl⟩
        rw [← htj] at FE2 IH hs hb
        have HS := Lib.hid hs
        have HBB := Lib.hid hb
        have hjk' := Lib.hid hjk
        clear hs hb htj hjk hjl FE
        go_wp2_with (first
          | (with_reducible refine wpList_loads (o := ⟨some 40, .load 24 (.tmp 39), _, _, _, _⟩) rfl 24 (.tmp 39) rfl g (oo + j * 5) cs rfl CE _ Tryd.underlying24 rfl (size24' h5e) (.agg cs.toArray) rfl ?_)
          | (go_at_call 87
             with_reducible refine Calls.mono (IH.out w0 wr _ _ A6 c6 xs6 _ S6 _ _ m FE2 (List.mem_cons_of_mem _ (List.mem_cons_of_mem _ (List.mem_cons_self ..))) (List.mem_cons_self ..) hm.out HBB.out) ?_
             rintro e w7 ⟨A7, c7, xs7, S7, rfl, F7⟩
             clear FE2))
        have F8 := F7.sub (ts' := tLs Any S7 (Tm.withT tj (Tm.withAll (ks.take j) M)) xs7 :: ts) (List.Sublist.refl _) (fun y hy => by
          rcases List.mem_cons.1 hy with h | h
          · rw [h]; exact List.mem_cons_self ..
          · simp [h])
        rw [← HS.out] at F8 ⊢
        exact ⟨⟨j + 1, _, A7, c7, xs7, S7, rfl, by go_num, by have := hjk'.out; omega, Lib.hid rfl, F8⟩, by have := hjk'.out; simp [intOf]; omega⟩
      · have hjZ : ¬ (j : Int) < (kn : Int) := by omega
        have e4 := (FJ.blk 1 rfl).cell 4
        simp only [tmc, List.getElem?_cons_succ, List.getElem?_cons_zero] at e4
        obtain rfl : j = kn := by omega
        go_wp2_with fail
        go_ret
        have e9 : ks.take j = ks := List.take_of_length_le (by have := HK.out.1; omega)
        rw [e9] at FJ hm
        refine ⟨A6, c6, xs6, S6, by (rw [HM.out.2, ← hm.out]) <;> rfl, ?_⟩
        rw [HM.out.2]
        exact FJ.sub (List.Sublist.cons_cons _ (List.sublist_cons_self _ _)) (fun y hy => hy)
theorem with_all : ∀ f, WithP f
  | 0 => fun t hd => by have := Tm.depth_pos t; omega
  | f + 1 => with_step f (with_all f)
end Go.Proofs.YtchanildogjhgaaDoor

