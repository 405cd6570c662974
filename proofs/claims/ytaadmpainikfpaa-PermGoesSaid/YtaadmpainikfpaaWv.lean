/-
  PermBack: the walk. My own work.
-/
import Derived.Test.YtaadmpainikfpaaWu
namespace Go.Proofs.Ytaadmpainikfpaa
open Go.RowKit Go.Shelf
attribute [local go_sem] Oper.semAt_some
set_option linter.unusedVariables false
set_option linter.unusedSimpArgs false
theorem byOwner_zp {p : Pm} {by_ : Int} {can : Bool} {r : Int × Pm} (hr : r.1 ≠ 0 → r.2 = zp) (h : (byOwner p by_ can r).1 ≠ 0) : (byOwner p by_ can r).2 = zp := by
  unfold byOwner at h ⊢
  split
  · rename_i h1
    rw [if_pos h1] at h
    split
    · rename_i h2
      rw [if_pos h2] at h
      split
      · rename_i h3
        rw [if_pos h3] at h
        exact hr h
      · rfl
    · rfl
  · rfl
theorem PIs.turn {w : World} {S : Nat → Prop} {o e : Int} (e' : Int) {l1 l2 l3 : List Int} {B1 B2 B3 : Option Addr} {d1 d2 d3 : Nat} (h : PIs w S ⟨o, e, l1, l2, l3⟩ (pmc ⟨o, e, l1, l2, l3⟩ B1 d1 B2 d2 B3 d3)) : PIs w S ⟨o, e', l1, l2, l3⟩ (pmc ⟨o, e', l1, l2, l3⟩ B1 d1 B2 d2 B3 d3) := by
  obtain ⟨A1, c1, A2, c2, A3, c3, hh, h⟩ := h
  simp only [pmc, List.cons.injEq, Value.slice.injEq, and_true, true_and] at hh
  obtain ⟨⟨rfl, rfl⟩, ⟨rfl, rfl⟩, rfl, rfl⟩ := hh
  exact ⟨B1, d1, B2, d2, B3, d3, rfl, h.rr, h.ww, h.gg, h.s1, h.s2, h.s3⟩
theorem byOwner_ok {p : Pm} {by_ : Int} {can : Bool} {r : Int × Pm} (h : (byOwner p by_ can r).1 = 0) : p.Right := by
  unfold byOwner at h
  cases hb : p.rightB
  · rw [hb] at h; simp at h
  · exact (Pm.right_iff p).1 hb
theorem del_ins {l : List Int} {x : Int} (h : Rises l 6) (h1 : 1 ≤ x) (h6 : x ≤ 6) (hx : x ∉ l) : del (ins l x) x = l := by
  have hi := ins_rises h h1 h6
  have hd := del_rises (x := x) hi.1
  refine up_ext hd.1.up h.up fun y => ?_
  rw [hd.2, hi.2]
  constructor
  · rintro ⟨h | h, h2⟩
    · exact absurd h h2
    · exact h
  · exact fun hy => ⟨.inr hy, fun e => hx (e ▸ hy)⟩
theorem del_none {l : List Int} {x : Int} (hx : x ∉ l) : del l x = l := by
  unfold del
  rw [if_neg (by simpa using hx)]
theorem back_pure {p : Pm} {who : Int} {wr : Bool} (hx : p.rd.contains who = false) (h0 : (byOwner p p.own (p.other who) (shared p who wr)).1 = 0) :
    (byOwner p p.own (p.other who) (shared p who wr)).2.own = p.own ∧ byOwner (byOwner p p.own (p.other who) (shared p who wr)).2 p.own ((byOwner p p.own (p.other who) (shared p who wr)).2.other who) (backed (byOwner p p.own (p.other who) (shared p who wr)).2 who) = (if p.ep = 8 then (212, zp) else (0, { p with ep := p.ep + 1 })) := by
  have hxm : who ∉ p.rd := by simpa using hx
  unfold byOwner at h0
  cases hb : p.rightB
  · rw [hb] at h0; simp at h0
  cases ho : p.other who
  · rw [hb, ho] at h0; simp at h0
  have hR := (Pm.right_iff p).1 hb
  have hs : shared p who wr = (0, { p with rd := ins p.rd who, wr := if wr = true then ins p.wr who else p.wr }) := by
    unfold shared
    rw [hx]
    simp
  have he : byOwner p p.own true (shared p who wr) = (0, { p with rd := ins p.rd who, wr := if wr = true then ins p.wr who else p.wr }) := by
    unfold byOwner
    rw [hb, hs]
    simp
  rw [he]
  refine ⟨rfl, ?_⟩
  have ho2 := ho
  simp only [Pm.other, Bool.and_eq_true, decide_eq_true_eq, Bool.not_eq_true', beq_eq_false_iff_ne] at ho2
  have hi := ins_rises hR.r ho2.1.1 ho2.1.2
  have hwm : who ∉ p.wr := fun h => hxm (hR.sub _ h)
  have hw : Rises (if wr = true then ins p.wr who else p.wr) 6 := by
    split
    · exact (ins_rises hR.w ho2.1.1 ho2.1.2).1
    · exact hR.w
  have hdw : del (if wr = true then ins p.wr who else p.wr) who = p.wr := by
    split
    · exact del_ins hR.w ho2.1.1 ho2.1.2 hwm
    · exact del_none hwm
  have hq : (Pm.mk p.own p.ep (ins p.rd who) (if wr = true then ins p.wr who else p.wr) p.gp).rightB = true := by
    rw [Pm.right_iff]
    refine ⟨hR.o1, hR.o6, hR.e1, hR.e8, hi.1, hw, hR.g, fun h => ?_, fun x hxx => ?_⟩
    · rcases (hi.2 _).1 h with h | h
      · exact ho2.2 h.symm
      · exact hR.no h
    · refine (hi.2 _).2 ?_
      simp only at hxx
      split at hxx
      · rcases ((ins_rises hR.w ho2.1.1 ho2.1.2).2 x).1 hxx with h | h
        · exact .inl h
        · exact .inr (hR.sub _ h)
      · exact .inr (hR.sub _ hxx)
  have hc : (ins p.rd who).contains who = true := by simpa using (hi.2 who).2 (.inl rfl)
  have ho3 : (Pm.mk p.own p.ep (ins p.rd who) (if wr = true then ins p.wr who else p.wr) p.gp).other who = true := ho
  unfold byOwner
  simp only
  rw [if_pos hq, if_pos trivial, if_pos ho3, backed]
  simp only
  rw [hc, if_pos rfl, del_ins hR.r ho2.1.1 ho2.1.2 hxm, hdw, begun]
set_option maxRecDepth 100000 in
set_option maxHeartbeats 8000000 in
theorem back_w {w : World} {S : Nat → Prop} {p : Pm} {cs : List Value} (h : PIs w S p cs) (hS : ∀ g, S g → g < w.heap.size) (who : Int) (wx : Bool) : Calls Try.prog 6 #[.agg cs.toArray, ci who, .bool wx] w fun e w' => e = .returned (.bool true) ∧ Mod [] w w' := by
  have FA := (Fm.nil w).arg (tP S p cs) (keeps_tP _ _ _) h hS
  have h5 := h.len
  obtain ⟨A1, c1, A2, c2, A3, c3, rfl, h⟩ := h
  obtain ⟨o, e, l1, l2, l3⟩ := p
  have HR := Lib.hid h.rr
  have hcap := h.rr.cap
  have hbig := h.rr.big
  simp only [pmc] at FA h5 HR hcap hbig ⊢
  obtain ⟨n1, hn1⟩ : ∃ n, n = l1.length := ⟨_, rfl⟩
  have HN := Lib.hid hn1
  rw [← hn1] at FA HR h5 hcap ⊢
  obtain ⟨ds, hds⟩ : ∃ ds, ds = [ci o, ci e, .slice A1 n1 c1, .slice A2 l2.length c2, .slice A3 l3.length c3] := ⟨_, rfl⟩
  have HD := Lib.hid hds
  rw [← hds] at FA h5 ⊢
  clear h hn1 hds
  obtain ⟨lg, hlg⟩ : ∃ x, (Pm.mk o e l1 l2 l3).large = x := ⟨_, rfl⟩
  have HLG := Lib.hid hlg
  clear hlg
  cases lg
  case true =>
    go_enter Try.func6, Try.ntmps6
    go_wp2_with (first
      | (with_reducible refine fm_box FA (o := ⟨some 3, .box 24 (.tmp 0), _, _, _, _⟩) rfl 24 (.tmp 0) rfl ds rfl ?_; intro b3 w1 F1; clear FA)
      | (go_at_call 7; refine (wakes_c w1).mono ?_; rintro e w2 ⟨rfl, m2⟩; have F2 := F1.call m2; clear F1 m2)
      | (with_reducible refine fm_load F2 0 rfl (o := ⟨some 14, .load 24 (.tmp 3), _, _, _, _⟩) rfl (.tmp 3) rfl rfl h5 ?_)
      | (go_at_call 8; refine (large_p (F2.s 0 rfl) _ HLG).mono ?_; rintro e w3 ⟨rfl, m3⟩; have F3 := F2.call m3; clear F2 m3))
    go_ret
    exact ⟨rfl, F3.m⟩
  go_enter Try.func6, Try.ntmps6
  go_wp2_with (first
    | (with_reducible refine fm_box FA (o := ⟨some 3, .box 24 (.tmp 0), _, _, _, _⟩) rfl 24 (.tmp 0) rfl ds rfl ?_; intro b3 w1 F1; clear FA)
    | (go_at_call 7; refine (wakes_c w1).mono ?_; rintro e w2 ⟨rfl, m2⟩; have F2 := F1.call m2; clear F1 m2)
    | (with_reducible refine fm_load F2 0 rfl (o := ⟨some 14, .load 24 (.tmp 3), _, _, _, _⟩) rfl (.tmp 3) rfl rfl h5 ?_)
    | (go_at_call 8; refine (large_p (F2.s 0 rfl) _ HLG).mono ?_
       rintro e w3 ⟨rfl, m3⟩
       have F3 := F2.call m3
       obtain ⟨q0, q1, q2, q3, q4⟩ := cells5 (HD.out ▸ F3.blk 0 rfl : Holds w3 b3 24 [ci o, ci e, .slice A1 n1 c1, .slice A2 l2.length c2, .slice A3 l3.length c3])
       clear F2 m3))
  obtain ⟨xb, hxb⟩ : ∃ x, l1.contains who = x := ⟨_, rfl⟩
  have HX : Hid ((l1.drop 0).contains who = xb) := Lib.hid (by rw [List.drop_zero]; exact hxb)
  have HXB := Lib.hid hxb
  clear hxb
  go_loopw [19] (fun i wr => ∃ j : Nat, i = .int .i64 j ∧ j ≤ n1 ∧ wr = w3 ∧ Hid ((l1.drop j).contains who = xb)) (fun i _ => n1 - (intOf i).toNat)
  case atStart => exact ⟨0, rfl, Nat.zero_le _, rfl, HX⟩
  case round =>
  obtain ⟨j, rfl, hj, hwr, hr⟩ := hrel
  subst hwr
  clear HX
  by_cases hjn : j < n1
  case pos =>
    obtain ⟨g, f, hA, hc⟩ := (HR.out.call F3.m).at j hjn
    subst hA
    have hr2 := hr.out
    have hl := HN.out
    rw [drop_cons' (by omega), List.contains_cons] at hr2
    clear hr hl
    obtain ⟨y, hy⟩ : ∃ y, y = l1.getD j 0 := ⟨_, rfl⟩
    rw [← hy] at hc hr2
    clear hy
    by_cases hxy : y = who
    · have e1 : (y == who) = true := beq_iff_eq.2 hxy
      clear hr2 hxy
      go_wp2_with fail
      go_ret
      exact ⟨rfl, F3.m⟩
    · have HR2 : Hid ((l1.drop (j + 1)).contains who = xb) := Lib.hid (by rw [← hr2, beq_eq_false_iff_ne.2 (fun e => hxy e.symm), Bool.false_or])
      have e1 : (y == who) = false := beq_eq_false_iff_ne.2 hxy
      clear hr2 hxy
      go_wp2_with fail
      exact ⟨⟨j + 1, by go_num, by omega, by first | rfl | trivial, HR2⟩, by simp [intOf]; omega⟩
  obtain rfl : n1 = j := by omega
  obtain rfl : false = xb := by
    have hl := HN.out
    rw [← hr.out, List.drop_of_length_le (by omega)]
    rfl
  clear hr
  -- what is shared
  obtain ⟨r1, hr1⟩ : ∃ r, byOwner ⟨o, e, l1, l2, l3⟩ o ((Pm.mk o e l1 l2 l3).other who) (shared ⟨o, e, l1, l2, l3⟩ who wx) = r := ⟨_, rfl⟩
  have hz1 : r1.1 ≠ 0 → r1.2 = zp := by rw [← hr1]; exact byOwner_zp shared_zp
  have hp1 : r1.1 = 0 → r1.2.own = o ∧ byOwner r1.2 o (r1.2.other who) (backed r1.2 who) = (if e = 8 then (212, zp) else (0, ⟨o, e + 1, l1, l2, l3⟩)) := fun h0 => by
    have := back_pure (p := ⟨o, e, l1, l2, l3⟩) (wr := wx) HXB.out (by simp only; rw [hr1]; exact h0)
    simp only at this
    rwa [hr1] at this
  have SH := share_p (F3.s 0 rfl : PIs wr S ⟨o, e, l1, l2, l3⟩ ds) (F3.slt 0 rfl) o who wx
  have hE : r1.1 = 0 → 1 ≤ e ∧ e ≤ 8 := fun h0 => by
    rw [← hr1] at h0
    have := byOwner_ok h0
    exact ⟨this.e1, this.e8⟩
  have HE := Lib.hid hE
  clear hE
  rw [hr1] at SH
  have HZ1 := Lib.hid hz1
  have HP1 := Lib.hid hp1
  obtain ⟨r1a, r1b⟩ := r1
  simp only at HZ1 HP1 HE
  clear hr1 hz1 hp1
  by_cases hra : r1a = 0
  case neg =>
    have e1 : (r1a == 0) = false := beq_eq_false_iff_ne.2 hra
    have e2 : (r1a != 0) = true := by simp [hra]
    obtain rfl : r1b = zp := HZ1.out hra
    have HZB : Hid (zp.rightB = false) := Lib.hid (by decide)
    clear HZ1 HP1 hra
    go_wp2_with (first
      | (with_reducible refine fm_load F3 0 rfl (o := ⟨some 28, .load 24 (.tmp 3), _, _, _, _⟩) rfl (.tmp 3) rfl rfl h5 ?_)
      | (go_at_call 22; refine SH.mono ?_
         rintro ee w4 ⟨cs4, rfl, hP4, m4⟩
         have F4 := F3.tell hP4 m4
         have h45 := hP4.len
         have h41 := hP4.one
         clear F3 m4 hP4 SH q0 q1 q2 q3 q4)
      | (with_reducible refine fm_alloc F4 (o := ⟨some 9, .alloc 24, _, _, _, _⟩) rfl 24 rfl _ zero24 ?_; intro b9 w5 F5; clear F4)
      | (with_reducible refine fm_store F5 0 rfl (o := ⟨none, .store 24 (.tmp 9) (.tmp 34), _, _, _, _⟩) rfl (.tmp 9) (.tmp 34) rfl rfl cs4 rfl rfl h45 rfl h41 ?_; intro w6 F6; clear F5)
      | (with_reducible refine fm_load F6 0 rfl (o := ⟨some 38, .load 24 (.tmp 9), _, _, _, _⟩) rfl (.tmp 9) rfl rfl h45 ?_)
      | (go_at_call 15; refine (check_p (F6.s 0 rfl) _ HZB).mono ?_; rintro ee w7 ⟨rfl, m7⟩; have F7 := F6.call m7; clear F6 m7))
    go_ret
    exact ⟨rfl, F7.m⟩
  subst hra
  obtain ⟨hown, hbk⟩ := HP1.out rfl
  have HW : Hid (IntKind.i64.wrap (e + 1 - 1) = e) := Lib.hid (by
    have := HE.out rfl
    rw [IntKind.wrap_i64]
    omega)
  have HBK := Lib.hid hbk
  clear hown hbk HZ1 HP1
  have BK : Hid (∀ (v : World) (T : Nat → Prop) (cs : List Value), PIs v T r1b cs → (∀ g, T g → g < v.heap.size) → Calls Try.prog 23 #[.agg cs.toArray, ci o, ci who] v (ResR (if e = 8 then (212, zp) else (0, ⟨o, e + 1, l1, l2, l3⟩)) v)) := Lib.hid fun v T cs hh hT => by
    have := back_p hh hT o who
    rwa [HBK.out] at this
  clear HBK
  by_cases he : e = 8
  · subst he
    rw [if_pos rfl] at BK
    go_wp2_with (first
      | (with_reducible refine fm_load F3 0 rfl (o := ⟨some 28, .load 24 (.tmp 3), _, _, _, _⟩) rfl (.tmp 3) rfl rfl h5 ?_)
      | (go_at_call 22; refine SH.mono ?_
         rintro ee w4 ⟨cs4, rfl, hP4, m4⟩
         have F4 := F3.tell hP4 m4
         have h45 := hP4.len
         have h41 := hP4.one
         clear F3 m4 hP4 SH q0 q1 q2 q3 q4)
      | (with_reducible refine fm_alloc F4 (o := ⟨some 9, .alloc 24, _, _, _, _⟩) rfl 24 rfl _ zero24 ?_; intro b9 w5 F5; clear F4)
      | (with_reducible refine fm_store F5 0 rfl (o := ⟨none, .store 24 (.tmp 9) (.tmp 34), _, _, _, _⟩) rfl (.tmp 9) (.tmp 34) rfl rfl cs4 rfl rfl h45 rfl h41 ?_; intro w6 F6; clear F5
         obtain ⟨q0, q1, q2, q3, q4⟩ := cells5 (HD.out ▸ F6.blk 1 rfl : Holds w6 b3 24 [ci o, ci 8, .slice A1 n1 c1, .slice A2 l2.length c2, .slice A3 l3.length c3]))
      | (with_reducible refine fm_load F6 0 rfl (o := ⟨some 42, .load 24 (.tmp 9), _, _, _, _⟩) rfl (.tmp 9) rfl rfl h45 ?_)
      | (go_at_call 23; refine (BK.out w6 _ _ (F6.s 0 rfl) (F6.slt 0 rfl)).mono ?_
         rintro ee w7 ⟨cs7, rfl, hP7, m7⟩
         have F7 := F6.tell hP7 m7
         have h75 := hP7.len
         have h71 := hP7.one
         clear F6 m7 hP7 BK q0 q1 q2 q3 q4)
      | (with_reducible refine fm_alloc F7 (o := ⟨some 11, .alloc 24, _, _, _, _⟩) rfl 24 rfl _ zero24 ?_; intro b11 w8 F8; clear F7)
      | (with_reducible refine fm_store F8 0 rfl (o := ⟨none, .store 24 (.tmp 11) (.tmp 47), _, _, _, _⟩) rfl (.tmp 11) (.tmp 47) rfl rfl cs7 rfl rfl h75 rfl h71 ?_; intro w9 F9; clear F8
         have kk : w9.cell? ⟨b3, 1, none⟩ = some (ci 8) := by rw [HD.out] at F9; exact F9.cellO 2 rfl 1 rfl))
    go_ret
    exact ⟨rfl, F9.m⟩
  · rw [if_neg he] at BK
    clear he
    have HSM : Hid (sameB ⟨o, e, l1, l2, l3⟩ ⟨o, e, l1, l2, l3⟩ = true) := Lib.hid ((sameB_iff _ _).2 rfl)
    go_wp2_with (first
      | (with_reducible refine fm_load F3 0 rfl (o := ⟨some 28, .load 24 (.tmp 3), _, _, _, _⟩) rfl (.tmp 3) rfl rfl h5 ?_)
      | (go_at_call 22; refine SH.mono ?_
         rintro ee w4 ⟨cs4, rfl, hP4, m4⟩
         have F4 := F3.tell hP4 m4
         have h45 := hP4.len
         have h41 := hP4.one
         clear F3 m4 hP4 SH q0 q1 q2 q3 q4)
      | (with_reducible refine fm_alloc F4 (o := ⟨some 9, .alloc 24, _, _, _, _⟩) rfl 24 rfl _ zero24 ?_; intro b9 w5 F5; clear F4)
      | (with_reducible refine fm_store F5 0 rfl (o := ⟨none, .store 24 (.tmp 9) (.tmp 34), _, _, _, _⟩) rfl (.tmp 9) (.tmp 34) rfl rfl cs4 rfl rfl h45 rfl h41 ?_; intro w6 F6; clear F5
         obtain ⟨q0, q1, q2, q3, q4⟩ := cells5 (HD.out ▸ F6.blk 1 rfl : Holds w6 b3 24 [ci o, ci e, .slice A1 n1 c1, .slice A2 l2.length c2, .slice A3 l3.length c3]))
      | (with_reducible refine fm_load F6 0 rfl (o := ⟨some 42, .load 24 (.tmp 9), _, _, _, _⟩) rfl (.tmp 9) rfl rfl h45 ?_)
      | (go_at_call 23; refine (BK.out w6 _ _ (F6.s 0 rfl) (F6.slt 0 rfl)).mono ?_
         rintro ee w7 ⟨cs7, rfl, hP7, m7⟩
         have F7 := F6.tell hP7 m7
         obtain ⟨B1, d1, B2, d2, B3, d3, hcs7, hP⟩ := hP7
         subst hcs7
         have HPP := Lib.hid hP
         clear F6 m7 hP BK q0 q1 q2 q3 q4)
      | (with_reducible refine fm_alloc F7 (o := ⟨some 11, .alloc 24, _, _, _, _⟩) rfl 24 rfl _ zero24 ?_; intro b11 w8 F8; clear F7)
      | (with_reducible refine fm_store F8 0 rfl (o := ⟨none, .store 24 (.tmp 11) (.tmp 47), _, _, _, _⟩) rfl (.tmp 11) (.tmp 47) rfl rfl (pmc ⟨o, e + 1, l1, l2, l3⟩ B1 d1 B2 d2 B3 d3) rfl rfl rfl rfl (ones5 _ _ _ _ _ _ _ _ _ _ _) ?_; intro w9 F9; clear F8
         have kk : w9.cell? ⟨b11, 1, none⟩ = some (ci (e + 1)) := F9.cellO 0 rfl 1 rfl)
      | (with_reducible refine wpList_ran (o := ⟨some 60, _, _, _, _, _⟩) rfl (ci e) (exec_sub rfl rfl rfl HW.out) ?_)
      | (with_reducible refine fm_store1 F9 0 1 rfl (by simp) 3 (ci e) rfl one3 (o := ⟨none, .store 3 (.tmp 61) (.tmp 60), _, _, _, _⟩) rfl (.tmp 61) (.tmp 60) rfl rfl rfl rfl ?_; intro w10 F10; clear F9 kk)
      | (with_reducible refine fm_load F10 2 rfl (o := ⟨some 62, .load 24 (.tmp 3), _, _, _, _⟩) rfl (.tmp 3) rfl rfl h5 ?_)
      | (with_reducible refine fm_load F10 0 rfl (o := ⟨some 63, .load 24 (.tmp 11), _, _, _, _⟩) rfl (.tmp 11) rfl rfl rfl ?_)
      | (go_at_call 17; refine (psame_p (F10.s 2 rfl : PIs w10 S ⟨o, e, l1, l2, l3⟩ ds) (?_ : PIs w10 (fun _ => True) ⟨o, e, l1, l2, l3⟩ (pmc ⟨o, e, l1, l2, l3⟩ B1 d1 B2 d2 B3 d3)) _ HSM).mono ?_; rotate_left
         rintro ee w11 ⟨rfl, m11⟩
         have F11 := F10.call m11
         clear m11))
    · go_ret
      exact ⟨rfl, F11.m⟩
    · exact (PIs.turn e (F10.s 0 rfl : PIs w10 _ ⟨o, e + 1, l1, l2, l3⟩ (pmc ⟨o, e + 1, l1, l2, l3⟩ B1 d1 B2 d2 B3 d3))).mono fun _ _ => trivial
theorem permBack_w {W : World} {p : Pm} {cs : List Value} (h : PIs W (Btw 0 W.heap.size) p cs) (who : Int) (wx : Bool) : Calls Try.prog 6 #[.agg cs.toArray, ci who, .bool wx] W fun e w' => e = .returned (.bool true) ∧ Mod [] W w' :=
  back_w h (fun g hg => hg.2) who wx
end Go.Proofs.Ytaadmpainikfpaa
