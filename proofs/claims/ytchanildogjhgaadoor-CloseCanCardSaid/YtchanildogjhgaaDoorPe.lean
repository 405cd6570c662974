/-
  partsThat's walk. My own work.
-/
import Derived.Test.YtchanildogjhgaaDoorPd
namespace Go.Proofs.YtchanildogjhgaaDoor
section
open Go.RowKit Go.Shelf
attribute [local go_sem] Oper.semAt_some
set_option linter.unusedVariables false
set_option linter.unusedSimpArgs false
/-- What a function tells of a term. -/
def Says (gf : Nat) (P : Tm → Bool) : Prop := ∀ (t : Tm) (cs : List Value) (S : Nat → Prop) (w : World), TIs w S t cs → Calls Tryd.prog gf #[.agg cs.toArray] w fun e w' => e = .returned (.bool (P t)) ∧ Mod [] w w'
set_option maxRecDepth 1000000 in
set_option maxHeartbeats 4000000 in
theorem partsThat_ok (gf : Nat) (P : Tm → Bool) (eg : ∀ args w, (callFunc gf args).run Tryd.prog w = .ok (.enter gf args) w) (hP : Says gf P) (A : Option Addr) (n c : Nat) (vs : List (List Value)) (K : List Tm) (S : Nat → Prop) (w : World) (hl : n = K.length) (hR : RowT w S A vs K) (hS : ∀ g, S g → g < w.heap.size) (G : Glob w) (hz : rfE K [] = 0) (hC : Tm.countAll K ≤ 4000) :
    Calls Tryd.prog 66 #[.slice A n c, .func (.func gf) #[] #[]] w fun e w' => ∃ R m vs' l, e = .returned (.tuple #[.slice (some ⟨R, 0, none⟩) m m, .int .i64 0]) ∧ (m = l.length ∧ m ≤ 10000) ∧ UpT l ∧ l.Nodup ∧ (∀ t, t ∈ l ↔ Tm.Gk K true t ∧ P t = true) ∧ RowT w' (Btw w.heap.size w'.heap.size) (some ⟨R, 0, none⟩) vs' l ∧ Mod [] w w' := by
  have F0 := (Fm.nil w).arg (tR Any S A vs K) (keeps_tR _ _ _ _ _) ⟨hR, fun _ _ => trivial⟩ hS
  obtain ⟨k1, k2, _⟩ := rfE_zero hz
  have hn5 : n ≤ 1000 := by omega
  have HL := Lib.hid hl
  have HGL := Lib.hid G
  have HC := Lib.hid hC
  have HZ := Lib.hid hz
  have HK2 := Lib.hid k2
  have HP := Lib.hid hP
  clear hl hR hS G hz hC k1 k2 hP
  go_enter Tryd.func66, Tryd.ntmps66
  go_wp2_with (first
    | (go_at_call 59; refine (refused_c A n c vs K S none 0 0 [] [] (fun _ => False) w HL.out rfl (by omega) (F0.s 0 rfl).1 (RowT.nil _ _ _) (F0.slt 0 rfl) (fun _ h => h.elim) HGL.out).mono ?_
       rintro e w3 ⟨he, m3⟩
       rw [HZ.out] at he
       subst he
       have F3 := F0.call m3
       clear F0 m3)
    | (go_at_call 60; refine (newWeb_c w3).mono ?_
       rintro e w4 ⟨wb, mp, rfl, FW⟩
       have F4 := F3.own FW.m (oWN wb mp none 0 []) (keeps_oW _ _ _ _ _ _ _ _) (FW.o 0 rfl) (fun g hg => ⟨FW.lo _ (by simp) g hg, (FW.k _ (.inl (by simp))).2.2 g hg⟩)
       have F5 := F4.also (tN Any (fun _ => False) []) (keeps_tN _ _ _) ⟨(fun x hx => by cases hx), fun _ h => h.elim⟩ (fun g (hg : False) => hg.elim)
       have HAC : Hid (AllC wb mp K) := Lib.hid (all_of wb mp K fun x hx => add_all wb mp _ x (Nat.le_refl _) (right_ok (HK2.out x hx)).1)
       clear F3 F4 FW)
    | (go_at_call 61; refine (HAC.out w w4 _ _ 0 none 0 [] (fun _ => False) S A n c vs F5 rfl (F5.mem 0 rfl) Good.none (F5.mem 1 rfl) HGL.out HL.out hn5 (by simp; have := HC.out; omega)).mono ?_
       rintro e v' ⟨ns, kids, A1, c1, S1, rfl, hc1, ⟨N, cap, T1, F6, q1, q2, q3⟩, q4⟩
       have hlen : ns.length ≤ 10000 := by have h := q3.1; have := HC.out; rw [List.length_nil] at h; omega
       have hkl := numOf_get q4
       have RC := reckoned_c F6 (i := 0) rfl (F6.mem 1 rfl) q1 hlen (F6.mem 0 rfl) n c1 (by rw [hkl]; exact HL.out) (by omega) K q4
       have HQ := Lib.hid (And.intro q1 (And.intro q4 hlen))
       clear q1 q2 q3 q4 hlen hkl F5)
    | (go_at_call 63; refine RC.mono ?_
       rintro e w8 ⟨mh, hd, rfl, F8, hRun⟩
       have HRun := Lib.hid hRun
       obtain ⟨nn, hnn⟩ : ∃ q, q = ns.length := ⟨_, rfl⟩
       have HNN := Lib.hid hnn
       have cr : w8.cell? ⟨wb, 1, none⟩ = some (.slice N nn cap) := by rw [hnn]; exact (F8.web (i := 1) rfl).rowc
       clear RC F6 hRun hnn)
    | (with_reducible refine wpList_ran (o := ⟨some 26, _, _, _, _, _⟩) rfl (.slice N nn cap) (exec_load rfl rfl (run_load1 Tryd.underlying104 rfl cr)) ?_))
  clear cr
  have F9 : Fm w w8 [oH mh hd, oWN wb mp N cap ns] [tN Any T1 ns] := F8.sub (List.Sublist.refl _) (fun y hy => by simp at hy; subst hy; simp)
  clear F8
  have hnb : nn ≤ 10000 := by rw [HNN.out]; exact HQ.out.2.2
  go_loopw [9, 28] (fun z iv wr => ∃ (j k : Nat) (A' : Option Addr) (c' : Nat) (xs : List Q5) (T : Nat → Prop), iv = .int .i64 j ∧ z = .slice A' k c' ∧ j ≤ nn ∧ k ≤ j ∧ Hid (k = (pickL ns hd P j).length) ∧ Fm w wr [oR A' c' xs, oH mh hd, oWN wb mp N cap ns] [tLs Any T (pickL ns hd P j) xs, tN Any T1 ns]) (fun _ iv _ => nn - (intOf iv).toNat)
  case atStart => exact ⟨0, 0, none, 0, [], fun _ => False, rfl, rfl, by omega, by omega, Lib.hid rfl, F9.row0 Any⟩
  case round =>
  clear F9
  obtain ⟨j, k, A', c', xs, T, rfl, rfl, hj, hkj, hk, FJ⟩ := hrel
  by_cases hjl : j < nn
  case pos =>
    have hjn : j < ns.length := by rw [← HNN.out]; exact hjl
    obtain ⟨g, rfl, hC9, h9, h1⟩ := (FJ.web (i := 2) rfl).node j hjn
    have hmem : ns[j]'hjn ∈ ns := List.getElem_mem hjn
    have hsucc := pickL_succ ns hd P j
    rw [tmN_at hjn] at hsucc
    obtain ⟨nx, hnx⟩ : ∃ x, x = ns[j]'hjn := ⟨_, rfl⟩
    rw [← hnx] at hC9 h9 h1 hmem hsucc
    have F1 := FJ.nodeT (FJ.mem 1 rfl) nx hmem
    have h5 := (F1.tis 0 rfl).ones
    have SA := fun (w5 : World) (os5 ts5 : List Th) (F5 : Fm w w5 os5 (tT Any T1 nx.t nx.c :: ts5)) => HP.out nx.t nx.c _ w5 (F5.ist (F5.mem 0 rfl))
    obtain ⟨q, hq⟩ : ∃ q, q = hd j := ⟨_, rfl⟩
    have HQJ := Lib.hid hq
    rw [← hq] at hsucc
    obtain ⟨pb, hpb⟩ : ∃ b, b = P nx.t := ⟨_, rfl⟩
    rw [← hpb] at hsucc
    have HSU := Lib.hid hsucc
    have hpb2 : ∀ w5 os5 ts5, Fm w w5 os5 (tT Any T1 nx.t nx.c :: ts5) → Calls Tryd.prog gf #[.agg nx.c.toArray] w5 fun e w' => e = .returned (.bool pb) ∧ Mod [] w5 w' := fun w5 os5 ts5 F5 => by rw [hpb]; exact SA w5 os5 ts5 F5
    obtain ⟨lj, hlj⟩ : ∃ l, l = pickL ns hd P j := ⟨_, rfl⟩
    rw [← hlj] at FJ F1 HSU hk
    have HX9 := Lib.hid (show (ndv nx).length = 9 from h9)
    clear hsucc hnx hmem hq hpb hlj SA FJ h9
    by_cases h2 : q = 2
    case pos =>
      subst h2
      cases pb with
      | true =>
        go_wp2_with (first
          | (with_reducible refine wpList_loads (o := ⟨some 32, .load 111 (.tmp 31), _, _, _, _⟩) rfl 111 (.tmp 31) rfl g (j * 9) (ndv nx) rfl hC9 _ Tryd.underlying111 rfl (by rw [HX9.out]; exact size111) (.agg (ndv nx).toArray) rfl ?_)
          | (with_reducible refine fm_alloc F1 (o := ⟨some 11, .alloc 111, _, _, _, _⟩) rfl 111 rfl _ zero111 ?_; intro b2 w2 F2; clear F1)
          | (with_reducible refine fm_store9 F2 0 rfl (o := ⟨none, .store 111 (.tmp 11) (.tmp 32), _, _, _, _⟩) rfl (.tmp 11) (.tmp 32) rfl rfl (ndv nx) rfl rfl HX9.out rfl h1 ?_; intro w3 F3; clear F2; have hb3 := node_term (F3.blk 0 rfl))
          | (with_reducible refine wpList_ran (o := ⟨some 35, _, _, _, _, _⟩) rfl (vi 2) (exec_lookup (LKF F3 2 rfl j 2 HQJ.out) rfl rfl rfl) ?_)
          | (with_reducible refine fm_ranW (o := ⟨some 40, _, _, _, _, _⟩) rfl (.agg nx.c.toArray) _ (exec_load rfl rfl (run_loads hb3 Tryd.underlying24 rfl (size24' h5.1))) ?_)
          | (go_at_fn gf; refine (hpb2 w3 _ _ F3).mono ?_
             rintro e w4 ⟨rfl, m4⟩
             have F4 := F3.call m4
             clear F3 m4 hb3
             have hb4 := node_term (F4.blk 0 rfl))
          | (with_reducible refine wpList_loads (o := ⟨some 45, .load 24 (.tmp 44), _, _, _, _⟩) rfl 24 (.tmp 44) rfl b2 0 nx.c rfl hb4 _ Tryd.underlying24 rfl (size24' h5.1) (.agg nx.c.toArray) rfl ?_)
          | (with_reducible refine fm_row1 F4 (F4.mem 0 rfl) Any (fun _ _ => trivial) (fun _ _ => trivial) (o := ⟨some 46, .buildSlice 22 1 #[(0, .tmp 45)], _, _, _, _⟩) rfl (.tmp 45) rfl rfl ?_; intro g2 S2 w5 F5; clear F4)
          | (with_reducible refine fm_append1 F5 1 rfl (F5.mem 2 rfl) (F5.mem 0 rfl) (fun _ _ => trivial) k hk.out (by omega) (o := ⟨some 47, .call { callee := .builtin .append, args := #[.tmp 43, .tmp 46], argTypes := #[22, 22] }, _, _, _, _⟩) rfl (.tmp 43) (.tmp 46) rfl rfl rfl ?_; intro A6 c6 xs6 T6 w6 F6; clear F5))
        have HS := HSU.out
        rw [if_pos (show ((2 : Nat) == 2 && true) = true from rfl)] at HS
        have F7 := F6.sub (os' := [oR A6 c6 xs6, oH mh hd, oWN wb mp (some ⟨g, 0, none⟩) cap ns]) (ts' := [tLs Any T6 (lj ++ [nx.t]) xs6, tN Any T1 ns]) (List.sublist_cons_self _ _) (fun y hy => by
          simp only [List.mem_cons, List.not_mem_nil, or_false] at hy
          rcases hy with h | h <;> simp [h])
        rw [← HS] at F7
        have hkk := hk.out
        exact ⟨⟨j + 1, k + 1, A6, c6, xs6, T6, by go_num, rfl, by omega, by omega, Lib.hid (by rw [HS, List.length_append, List.length_singleton, hkk]), F7⟩, by simp [intOf]; omega⟩
      | false =>
        go_wp2_with (first
          | (with_reducible refine wpList_loads (o := ⟨some 32, .load 111 (.tmp 31), _, _, _, _⟩) rfl 111 (.tmp 31) rfl g (j * 9) (ndv nx) rfl hC9 _ Tryd.underlying111 rfl (by rw [HX9.out]; exact size111) (.agg (ndv nx).toArray) rfl ?_)
          | (with_reducible refine fm_alloc F1 (o := ⟨some 11, .alloc 111, _, _, _, _⟩) rfl 111 rfl _ zero111 ?_; intro b2 w2 F2; clear F1)
          | (with_reducible refine fm_store9 F2 0 rfl (o := ⟨none, .store 111 (.tmp 11) (.tmp 32), _, _, _, _⟩) rfl (.tmp 11) (.tmp 32) rfl rfl (ndv nx) rfl rfl HX9.out rfl h1 ?_; intro w3 F3; clear F2; have hb3 := node_term (F3.blk 0 rfl))
          | (with_reducible refine wpList_ran (o := ⟨some 35, _, _, _, _, _⟩) rfl (vi 2) (exec_lookup (LKF F3 2 rfl j 2 HQJ.out) rfl rfl rfl) ?_)
          | (with_reducible refine fm_ranW (o := ⟨some 40, _, _, _, _, _⟩) rfl (.agg nx.c.toArray) _ (exec_load rfl rfl (run_loads hb3 Tryd.underlying24 rfl (size24' h5.1))) ?_)
          | (go_at_fn gf; refine (hpb2 w3 _ _ F3).mono ?_
             rintro e w4 ⟨rfl, m4⟩
             have F4 := F3.call m4
             clear F3 m4 hb3
             have hb4 := node_term (F4.blk 0 rfl)))
        have HS := HSU.out
        rw [if_neg (by simp), List.append_nil] at HS
        have F7 := F4.sub (os' := [oR A' c' xs, oH mh hd, oWN wb mp (some ⟨g, 0, none⟩) cap ns]) (ts' := [tLs Any T lj xs, tN Any T1 ns]) (List.sublist_cons_self _ _) (fun y hy => by
          simp only [List.mem_cons, List.not_mem_nil, or_false] at hy
          rcases hy with h | h <;> simp [h])
        rw [← HS] at F7
        have hkk := hk.out
        exact ⟨⟨j + 1, k, A', c', xs, T, by go_num, rfl, by omega, by omega, Lib.hid (by rw [HS]; exact hkk), F7⟩, by simp [intOf]; omega⟩
    case neg =>
      have hq2 : ((q : Int) == 2) = false := by simp; omega
      go_wp2_with (first
        | (with_reducible refine wpList_loads (o := ⟨some 32, .load 111 (.tmp 31), _, _, _, _⟩) rfl 111 (.tmp 31) rfl g (j * 9) (ndv nx) rfl hC9 _ Tryd.underlying111 rfl (by rw [HX9.out]; exact size111) (.agg (ndv nx).toArray) rfl ?_)
        | (with_reducible refine fm_alloc F1 (o := ⟨some 11, .alloc 111, _, _, _, _⟩) rfl 111 rfl _ zero111 ?_; intro b2 w2 F2; clear F1)
        | (with_reducible refine fm_store9 F2 0 rfl (o := ⟨none, .store 111 (.tmp 11) (.tmp 32), _, _, _, _⟩) rfl (.tmp 11) (.tmp 32) rfl rfl (ndv nx) rfl rfl HX9.out rfl h1 ?_; intro w3 F3; clear F2; have hb3 := node_term (F3.blk 0 rfl))
        | (with_reducible refine wpList_ran (o := ⟨some 35, _, _, _, _, _⟩) rfl (vi q) (exec_lookup (LKF F3 2 rfl j q HQJ.out) rfl rfl rfl) ?_)
        | (with_reducible refine wpList_ran (o := ⟨some 36, _, _, _, _, _⟩) rfl (.bool false) (exec_eqi hq2 rfl rfl rfl) ?_))
      have HS := HSU.out
      rw [if_neg (by simp; omega), List.append_nil] at HS
      have F7 := F3.sub (os' := [oR A' c' xs, oH mh hd, oWN wb mp (some ⟨g, 0, none⟩) cap ns]) (ts' := [tLs Any T lj xs, tN Any T1 ns]) (List.sublist_cons_self _ _) (fun y hy => by
        simp only [List.mem_cons, List.not_mem_nil, or_false] at hy
        rcases hy with h | h <;> simp [h])
      rw [← HS] at F7
      have hkk := hk.out
      exact ⟨⟨j + 1, k, A', c', xs, T, by go_num, rfl, by omega, by omega, Lib.hid (by rw [HS]; exact hkk), F7⟩, by simp [intOf]; omega⟩
  case neg =>
  obtain rfl : nn = j := by omega
  have HM := Lib.hid (fun t => pickL_mem (P := P) HQ.out.1 HQ.out.2.1 HRun.out t)
  have HD := Lib.hid (pickL_nodup HQ.out.1 hd P)
  have hk' := hk.out
  rw [HNN.out] at FJ hk'
  obtain ⟨l, hlp⟩ : ∃ l, l = pickL ns hd P ns.length := ⟨_, rfl⟩
  rw [← hlp] at FJ HM HD hk'
  have hlr : ∀ t ∈ l, t.right = true := fun t ht => part_right HK2.out ((HM.out t).1 ht).1 rfl
  have FR := (FJ.freeze 0 rfl).also (tR Any (fun g => T g ∨ g ∈ blkOf A') A' (xs.map (·.1)) l) (keeps_tR _ _ _ _ _) ⟨FJ.asRow (i := 0) rfl (FJ.mem 0 rfl), fun _ _ => trivial⟩ (fun g hg => hg.elim (fun h => ⟨_, List.mem_cons_of_mem _ (List.mem_cons_self ..), h⟩) (fun h => ⟨_, List.mem_cons_self .., h⟩))
  have IO := inOrder_c A' k c' (xs.map (·.1)) l _ wr hk' (by omega) (FR.s 0 rfl).1 (FR.slt 0 rfl) (FR.glob HGL.out) hlr
  have HKL := Lib.hid hk'
  clear hk hk' hlr hlp FJ
  go_wp2_with (first
    | (go_at_call 89; refine IO.mono ?_
       rintro e w9 ⟨R, vs', l', rfl, hp, hu, hR, m9⟩
       have HX := Lib.hid (And.intro hp (And.intro hu (And.intro hR (And.intro m9 FR.m))))
       clear hp hu hR m9 FR IO))
  refine bodyPost_ret (results_tmp2 rfl _ _ _) rfl ?_
  obtain ⟨hp, hu, hR, m9, mR⟩ := HX.out
  exact ⟨R, k, vs', l', rfl, ⟨by rw [hp.length_eq]; exact HKL.out, by omega⟩, hu, hp.nodup_iff.2 HD.out, fun t => (hp.mem_iff).trans (HM.out t), hR.mono (Btw.mono mR.size (Nat.le_refl _)), mR.then m9⟩
end
end Go.Proofs.YtchanildogjhgaaDoor

