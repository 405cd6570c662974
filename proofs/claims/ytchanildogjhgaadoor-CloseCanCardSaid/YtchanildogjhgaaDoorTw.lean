/-
  My own texts TwO TwU TwT TwUN, one behind the other.
-/
import Derived.Test.YtchanildogjhgaaDoorTt3
namespace Go.Proofs.YtchanildogjhgaaDoor
section
open Go.RowKit Go.Shelf
set_option linter.unusedVariables false
set_option linter.unusedSimpArgs false
set_option maxRecDepth 1000000 in
set_option maxHeartbeats 4000000 in
theorem term_O (m : Nat) (ih : TermAll m) (q g b : Nat) (x : UInt8) (r : List UInt8) (s : Nat) (sz deep : Int) (hsz : sz = (s : Int)) (w : World) (h : RdT w q g b (x :: r) 0 sz) (G : Glob w) (h0q : 0 ≠ q) (h0g : 0 ≠ g) (hs : s + 1 ≤ 1200) (hdp : deep = 60 - (m : Int)) (hdm : 0 ≤ deep)
    (hk : 1 ≤ x.toNat ∧ x.toNat ≤ 8) (hf0 : (flds (x.toNat : Int) != 0) = true) (hmay : Tm.may (x.toNat : Int) 0 0 (ByteArray.size ⟨#[]⟩) = true) (hT : hasB (flds (x.toNat : Int)) 1 = false) (hU : hasB (flds (x.toNat : Int)) 2 = false) (hNm : hasB (flds (x.toNat : Int)) 4 = false)
    (D : Except Int (Tm × List UInt8 × Nat)) (hD : ∀ ts l' z, Tm.decs (Tm.dec m) (Tm.nk (x.toNat : Int)) (r) (s + 1) = .ok (ts, l', z) → D = .ok (.mk (x.toNat : Int) (0) 0 ⟨#[]⟩ ts, l', z)) (hE : ∀ e, Tm.decs (Tm.dec m) (Tm.nk (x.toNat : Int)) (r) (s + 1) = .error e → D = .error e) :
    Calls Tryd.prog 98 #[.pointer (some ⟨q, 0, none⟩), .int .i64 deep] w (TermP w q g b D) := by
  have hx8 := Tm.u8_le x
  have hs0 : 0 ≤ sz := by omega
  have hs1 : sz ≤ 1199 := by omega
  have hd60 : deep ≤ 60 := by omega
  have h0 := h.lt
  have GL : ∀ {v : World} {b4 b5 : Nat} {c : List Value} {l : List UInt8} {z : Int}, TSt w v q g b b4 b5 c l z → Glob v := fun st => G.mod st.mm (by simp; exact ⟨h0q, h0g⟩)
  have HQ := Lib.hid (And.intro h G)
  obtain ⟨F, hF⟩ : ∃ F, F = flds (x.toNat : Int) := ⟨_, rfl⟩
  obtain ⟨N, hN⟩ : ∃ N, N = Tm.nk (x.toNat : Int) := ⟨_, rfl⟩
  have FC := fun v (gv : Glob v) => fieldsOf_c (x.toNat : Int) v gv
  have KC := fun v => kids_c (x.toNat : Int) v
  have MC := fun u s v => mayHave_c (x.toNat : Int) u 0 s none 0 0 v
  have hN2 : N ≤ 2 := by rw [hN]; unfold Tm.nk; split <;> (try split) <;> omega
  rw [← hF] at FC KC MC hT hU hNm hf0
  rw [← hN] at KC
  rw [← hN] at hD hE
  have BT := has_b F 1 false hT
  have BU := has_b F 2 false hU
  have BN := has_b F 4 false hNm
  have hd2 : decide (sz + 1 ≤ 1200) = true := decide_eq_true (by omega)
  have hd3 : decide (deep ≤ 60) = true := decide_eq_true (by omega)
  have hne : (F != 0) = true := hf0
  have HD := Lib.hid (And.intro hD (And.intro hE (And.intro ih (And.intro h0q h0g))))
  have HDW := Lib.hid (show IntKind.i64.wrap (deep + 1) = 61 - (m : Int) by rw [hdp]; simp [IntKind.wrap, IntKind.signed, IntKind.bits]; omega)
  have HSZ := Lib.hid hsz
  clear h G hF hN hT hU hNm hf0 hD hE ih h0q h0g hdp h0 hsz
  go_enter Tryd.func98, Tryd.ntmps98
  go_wp2_with (first
    | (with_reducible refine wpList_allocs (o := ⟨some 4, .alloc 24, _, _, _, _⟩) rfl 24 rfl _ zero24 ?_; intro y4 hy4 my4 zy4
       have HZ4 := Lib.hid zy4
       obtain ⟨b4, hq4⟩ : ∃ b, b = w.heap.size := ⟨_, rfl⟩
       rw [← hq4] at hy4 ⊢
       have HB4 := Lib.hid hq4
       have rd4 := HQ.out.1.keep my4 (by simp) (by simp) (by simp)
       clear zy4 hq4)
    | (go_at_call 111; refine (small_yes q g b x r sz y4 rd4).mono ?_
       rintro e w1 ⟨rfl, rd1, m1⟩
       have hy1 := hy4.keep m1 (by have := HQ.out.1.lt; have := HB4.out; simp; omega)
       have mq1 : Mod [q, g] w w1 := my4.pre (m1.wk (by intro i _ hi; simp at hi ⊢; exact .inr hi))
       have sz1 := m1.size
       clear hy4 rd4 my4 m1)
    | (with_reducible refine wpList_ran (o := ⟨some 9, .build 24 _, _, _, _, _⟩) rfl (.agg (tmc (x.toNat : Int) 0 0 ⟨#[]⟩ none 0 0).toArray) (exec_bA rfl rfl) ?_)
    | (with_reducible refine wpList_allocs (o := ⟨some 5, .alloc 24, _, _, _, _⟩) rfl 24 rfl _ zero24 ?_; intro y5 hy5 my5 zy5
       clear zy5)
    | (with_reducible refine wpList_storesAll (o := ⟨none, .store 24 (.tmp 5) (.tmp 9), _, _, _, _⟩) rfl 24 (.tmp 5) (.tmp 9) rfl rfl w1.heap.size (tmc (x.toNat : Int) 0 0 ⟨#[]⟩ none 0 0) rfl (.agg (tmc (x.toNat : Int) 0 0 ⟨#[]⟩ none 0 0).toArray) rfl rfl 24 _ hy5 (zlen (tmc_len _ _ _ _ _ _ _)) (tmc_one _ _ _ _ _ _ _) (size24t _ _ _ _ _ _ _) ?_
       intro u1 hu1 mu1 zu1
       clear zu1
       obtain ⟨b5, hq5⟩ : ∃ b, b = w1.heap.size := ⟨_, rfl⟩
       rw [← hq5] at hu1 mu1 ⊢
       have mm1 : Mod [] w1 u1 := my5.trans mu1 (by intro i hi h; simp at h; omega)
       have st1 : TSt w u1 q g b b4 b5 (tmc (x.toNat : Int) 0 0 ⟨#[]⟩ none 0 0) r sz := by
         have l1 := HQ.out.1.lt
         have l2 := HB4.out
         have l3 := HZ4.out
         have l4 := hy1.lt
         exact ⟨rd1.keep mm1 (by simp) (by simp) (by simp), hy1.keep mm1 (by simp), hu1, mq1.then mm1, by omega, by have := mq1.size; omega, by omega, l1.1, l1.2.1, l1.2.2⟩
       clear hy1 rd1 mq1 sz1 hy5 my5 mu1 mm1 hu1 hq5
       have e0 := st1.h5.cell 0
       simp only [tmc, List.getElem?_cons_succ, List.getElem?_cons_zero] at e0)
    | (go_at_call 91; refine (FC _ (GL st1)).mono ?_
       rintro e wz ⟨rfl, rfl⟩
       clear e0
       have eq0 := st1.rd.hq.cell 0
       have eq1 := st1.rd.hq.cell 1
       simp only [List.getElem?_cons_succ, List.getElem?_cons_zero] at eq0 eq1)
    | (with_reducible refine wpList_bump st1 rfl (.tmp 19) (.tmp 17) rfl rfl rfl (sz + 1) rfl ?_
       intro v2 st2
       clear eq0 eq1 st1
       have eq0 := st2.rd.hq.cell 0
       have eq1 := st2.rd.hq.cell 1
       simp only [List.getElem?_cons_succ, List.getElem?_cons_zero] at eq0 eq1)
    | (go_at_call 112; refine (need_yes _ _).mono ?_; rintro e wz ⟨rfl, rfl⟩)
    | (go_at_call 94; first | ((with_reducible refine Calls.mono (BT _) ?_); rintro e wz ⟨rfl, rfl⟩) | ((with_reducible refine Calls.mono (BU _) ?_); rintro e wz ⟨rfl, rfl⟩) | ((with_reducible refine Calls.mono (BN _) ?_); rintro e wz ⟨rfl, rfl⟩))
    | (with_reducible refine wpList_loads (o := ⟨some 45, .load 24 (.tmp 5), _, _, _, _⟩) rfl 24 (.tmp 5) rfl b5 0 (tmc (x.toNat : Int) 0 0 ⟨#[]⟩ none 0 0) rfl (Cells.of_holds st2.h5) _ Tryd.underlying24 rfl (size24t _ _ _ _ _ _ _) (.agg (tmc (x.toNat : Int) 0 0 ⟨#[]⟩ none 0 0).toArray) rfl ?_)
    | (go_at_call 92; refine (MC 0 ⟨#[]⟩ v2).mono ?_
       rintro e w7 ⟨rfl, m7⟩
       rw [show Tm.may (x.toNat : Int) 0 0 (ByteArray.size ⟨#[]⟩) = true from hmay]
       have st7 := st2.still m7
       clear m7 st2 eq0 eq1
       have eq0 := st7.rd.hq.cell 0
       have eq1 := st7.rd.hq.cell 1
       simp only [List.getElem?_cons_succ, List.getElem?_cons_zero] at eq0 eq1)
    | (go_at_call 93; refine (KC _).mono ?_; rintro e wz ⟨rfl, rfl⟩))
  obtain ⟨wL, hwL⟩ : ∃ x, x = w7 := ⟨_, rfl⟩
  have HST : Hid (L0 w q g b b4 b5 (x.toNat : Int) (0) (0) ⟨#[]⟩ wL none 0 [] [] (r) (sz + 1) (fun _ => False)) := Lib.hid (by rw [hwL]; exact ⟨st7, OwnG.nil _ _ _ _, rfl, fun i h => by simp at h, fun i h => h.elim, fun a h => by cases h⟩)
  rw [← hwL]
  clear hwL st7
  go_loopw [61] (fun i wr => ∃ (j : Nat) (A0 : Option Addr) (c0 : Nat) (dn : List C5) (ts : List Tm) (l1 : List UInt8) (z1 : Nat) (Sk : Nat → Prop), i = .int .i64 j ∧ j ≤ N ∧ j = dn.length ∧ L0 w q g b b4 b5 (x.toNat : Int) (0) (0) ⟨#[]⟩ wr A0 c0 dn ts l1 (z1 : Int) Sk ∧ Tm.decs (Tm.dec m) j (r) (s + 1) = .ok (ts, l1, z1)) (fun i _ => N - (intOf i).toNat)
  case atStart => exact ⟨0, none, 0, [], [], _, s + 1, _, rfl, by omega, rfl, by have := HST.out; rw [HSZ.out] at this; exact this, rfl⟩
  case round =>
  obtain ⟨j, A0, c0, dn, ts, l1, z1, Sk, rfl, hj, hjd, hL, hdc⟩ := hrel
  clear HST
  by_cases hjN : j < N
  case neg =>
    obtain rfl : N = j := by omega
    have HE := Lib.hid (And.intro hL (And.intro hdc hjd))
    have h5 := hL.st.h5
    have h4 := hL.st.h4
    clear hL hdc hjd
    obtain ⟨d0, hd0⟩ : ∃ d, d = dn.length := ⟨_, rfl⟩
    rw [← hd0] at h5
    have HD0 := Lib.hid hd0
    clear hd0
    go_wp2_with (first
        | (with_reducible refine wpList_loads (o := ⟨some 73, .load 24 (.tmp 5), _, _, _, _⟩) rfl 24 (.tmp 5) rfl b5 (0) (tmc (x.toNat : Int) (0) (0) ⟨#[]⟩ A0 d0 c0) rfl (Cells.of_holds h5) _ Tryd.underlying24 rfl (size24t _ _ _ _ _ _ _) (.agg (tmc (x.toNat : Int) (0) (0) ⟨#[]⟩ A0 d0 c0).toArray) rfl ?_)
        | (with_reducible refine wpList_storesAll (o := ⟨none, .store 24 (.tmp 4) (.tmp 73), _, _, _, _⟩) rfl 24 (.tmp 4) (.tmp 73) rfl rfl b4 (tmc (x.toNat : Int) (0) (0) ⟨#[]⟩ A0 d0 c0) rfl (.agg (tmc (x.toNat : Int) (0) (0) ⟨#[]⟩ A0 d0 c0).toArray) rfl rfl 24 _ h4 (zlen (tmc_len _ _ _ _ _ _ _)) (tmc_one _ _ _ _ _ _ _) (size24t _ _ _ _ _ _ _) ?_
           intro u9 hu9 mu9 zu9
           clear zu9))
    refine bodyPost_ret (results_cell1 rfl _ _ b4 _ rfl (Cells.of_holds hu9) rfl) rfl ?_
    obtain ⟨q1, q2, q3⟩ := HE.out
    have q4 := q1.tis (by decide) (by omega)
    have q5 := q4.keep mu9 (fun i hi hm => by simp at hm; exact hi.2 hm)
    have q6 := q5.mono (S' := Btw w.heap.size u9.heap.size) (fun i hi => ⟨hi.1.1, Nat.lt_of_lt_of_le hi.1.2 mu9.size⟩)
    have n4 := q1.st.n4
    have hq1 := q1.st.oq
    have hq2 := q1.st.og
    have hq3 := q1.st.ob
    rw [HD.out.1 _ _ _ q2]
    rw [← HD0.out] at q6
    exact ⟨_, rfl, q6, q1.st.rd.keep mu9 (by simp; omega) (by simp; omega) (by simp; omega), q1.st.mm.trans mu9 (fun i hi h => by simp at h; omega)⟩
  have hd10 : dn.length ≤ 10 := by omega
  have hz12 : z1 ≤ 1200 := (Tm.decs_back (Tm.dec_back m) _ _ _ _ _ _ (by omega) hdc).2.2.2.2.1
  have HDN := Lib.hid hd10
  have IH0 := fun v (hv : L0 w q g b b4 b5 (x.toNat : Int) (0) (0) ⟨#[]⟩ v A0 c0 dn ts l1 (z1 : Int) Sk) => HD.out.2.2.1 q g b l1 z1 v hv.st.rd (GL hv.st) HD.out.2.2.2.1 HD.out.2.2.2.2 hz12
  have hsn := Tm.decs_snoc (Tm.dec m) j (r) (s + 1)
  rw [hdc] at hsn
  simp only [] at hsn
  have HI0 := hL
  clear hd10 hz12 hdc hL
  cases hdec : Tm.dec m l1 z1 with
  | error er =>
    rw [hdec] at hsn
    have hfull : Tm.decs (Tm.dec m) N (r) (s + 1) = .error er := by
      have := Tm.decs_err (Tm.dec m) hsn (N - (j + 1))
      rwa [show j + 1 + (N - (j + 1)) = N by omega] at this
    have hDe := HD.out.2.1 _ hfull
    have IHC := IH0
    rw [hdec] at IHC
    rw [hDe]
    clear hsn hfull hDe hdec IH0
    go_wp2_with fail
    refine wp_region_upxd (X := XT) ⟨⟨tmc 0 0 0 ⟨#[]⟩ none 0 0, rfl, tmc_one _ _ _ _ _ _ _⟩, 0, none, 0, fun _ => False⟩ (fun x0 => [(63, .pointer (some ⟨b5, 4, none⟩)), (64, .slice A0 dn.length c0), (65, .pointer (some ⟨q, 0, none⟩)), (66, .int .i64 deep), (67, .int .i64 (61 - (m : Int))), (68, .agg (c5v x0.cs).toArray), (69, .slice (some ⟨x0.y, 0, none⟩) 1 1), (70, .slice x0.A (dn.length + 1) x0.c), (71, .pointer (some ⟨b5, 4, none⟩))]) 74 [63, 64, 65, 66, 67, 68, 69, 70, 71] rfl (fun _ => rfl) (by decide) (by kernel_rfl)
      (fun x0 lz v => lz 5 = false ∧ L0 w q g b b4 b5 ((x.toNat : Int)) (0) (0) (⟨#[]⟩) v A0 c0 dn ts l1 (z1 : Int) Sk) (by kernel_rfl) ⟨rfl, HI0.still (Mod.drew [] _)⟩ (by kernel_rfl) (by kernel_rfl) ?step ?fin
    case step =>
      intro x0 lz T v j o hj hlj hdep hst hpar hgot hcl hdf Kq hK
      have hjn : j < 10 := (Array.getElem?_eq_some_iff.1 hj).1
      obtain ⟨q5, hS⟩ := hst
      obtain rfl | rfl | rfl | rfl | rfl | rfl | rfl | rfl | rfl | rfl : j = 0 ∨ j = 1 ∨ j = 2 ∨ j = 3 ∨ j = 4 ∨ j = 5 ∨ j = 6 ∨ j = 7 ∨ j = 8 ∨ j = 9 := by omega
      all_goals (have hj' := Option.some.inj (hj : some _ = some o); subst hj'; clear hj)
      · exact wp_ran rfl (exec_fa4 rfl (eval_tmp ((hpar 5 rfl).trans rfl))) (hK x0 _ _ (fun _ _ _ _ _ _ => rfl) (fun s hs => by cases hs; rfl) ⟨by simpa using q5, hS⟩)
      · exact wp_ran rfl (exec_load rfl (eval_tmp (hgot 0 _ 63 rfl (hdep ⟨0, .data⟩ (by simp) rfl) rfl)) (run_load1 Tryd.underlying22 rfl (show v.cell? ⟨b5, 4, none⟩ = some (.slice A0 dn.length c0) from hS.st.h5.cell 4))) (hK x0 _ _ (fun _ _ _ _ _ _ => rfl) (fun s hs => by cases hs; rfl) ⟨by simpa using q5, hS⟩)
      · exact wp_ran rfl (exec_move rfl (eval_tmp ((hpar 0 rfl).trans rfl))) (hK x0 _ _ (fun _ _ _ _ _ _ => rfl) (fun s hs => by cases hs; rfl) ⟨by simpa using q5, hS⟩)
      · exact wp_ran rfl (exec_move rfl (eval_tmp ((hpar 1 rfl).trans rfl))) (hK x0 _ _ (fun _ _ _ _ _ _ => rfl) (fun s hs => by cases hs; rfl) ⟨by simpa using q5, hS⟩)
      · exact wp_ran rfl (exec_add rfl (eval_tmp (hgot 3 _ 66 rfl (hdep ⟨3, .data⟩ (by simp) rfl) rfl)) rfl HDW.out) (hK x0 _ _ (fun _ _ _ _ _ _ => rfl) (fun s hs => by cases hs; rfl) ⟨by simpa using q5, hS⟩)
      · refine wp_threw rfl (exec_call2 rfl rfl (eval_tmp (hgot 2 _ 65 rfl (hdep ⟨2, .data⟩ (by simp) rfl) rfl)) (eval_tmp (hgot 4 _ 67 rfl (hdep ⟨4, .data⟩ (by simp) rfl) rfl)) (enters_of Tryd.func98 (by kernel_rfl) rfl)) ((IHC v hS).mono ?_)
        rintro e v' ⟨rfl, m⟩
        exact ⟨_, rfl, hdf, rfl, hS.st.mm.trans m (fun _ _ h => h)⟩
      · exact absurd (hdep ⟨5, .data⟩ (by simp) rfl) (by rw [q5]; simp)
      · have h6 := hdep ⟨6, .data⟩ (by simp) rfl
        exact absurd (hcl 6 _ rfl h6 ⟨5, .data⟩ (by simp) rfl) (by rw [q5]; simp)
      · exact wp_ran rfl (exec_fa4 rfl (eval_tmp ((hpar 5 rfl).trans rfl))) (hK x0 _ _ (fun _ _ _ _ _ _ => rfl) (fun s hs => by cases hs; rfl) ⟨by simpa using q5, hS⟩)
      · have h7 := hdep ⟨7, .data⟩ (by simp) rfl
        have h6 := hcl 7 _ rfl h7 ⟨6, .data⟩ (by simp) rfl
        exact absurd (hcl 6 _ rfl h6 ⟨5, .data⟩ (by simp) rfl) (by rw [q5]; simp)
    case fin =>
    intro x0 lz vr hlz hst
    exact absurd (hlz 5 (by decide)) (by rw [hst.1]; simp)
  | ok p =>
    obtain ⟨t, l2, z2⟩ := p
    rw [hdec] at hsn
    have IHC := IH0
    rw [hdec] at IHC
    have HSN := Lib.hid (And.intro hsn hjd)
    clear hsn hdec IH0 hjd
    go_wp2_with fail
    refine wp_region_upxd (X := XT) ⟨⟨tmc 0 0 0 ⟨#[]⟩ none 0 0, rfl, tmc_one _ _ _ _ _ _ _⟩, 0, none, 0, fun _ => False⟩ (fun x0 => [(63, .pointer (some ⟨b5, 4, none⟩)), (64, .slice A0 dn.length c0), (65, .pointer (some ⟨q, 0, none⟩)), (66, .int .i64 deep), (67, .int .i64 (61 - (m : Int))), (68, .agg (c5v x0.cs).toArray), (69, .slice (some ⟨x0.y, 0, none⟩) 1 1), (70, .slice x0.A (dn.length + 1) x0.c), (71, .pointer (some ⟨b5, 4, none⟩))]) 74 [63, 64, 65, 66, 67, 68, 69, 70, 71] rfl (fun _ => rfl) (by decide) (by kernel_rfl)
      (fun x0 lz v => ∃ ns : Nat, lz 5 = decide (1 ≤ ns) ∧ lz 6 = decide (2 ≤ ns) ∧ lz 7 = decide (3 ≤ ns) ∧ lz 9 = decide (4 ≤ ns) ∧ Stg w q g b b4 b5 ((x.toNat : Int)) (0) (0) (⟨#[]⟩) A0 c0 dn ts l1 (z1 : Int) Sk l2 (z2 : Int) t x0 v ns) (by kernel_rfl) ⟨0, rfl, rfl, rfl, rfl, HI0.still (Mod.drew [] _)⟩ (by kernel_rfl) (by kernel_rfl) ?step ?fin
    case step =>
      intro x0 lz T v j o hj hlj hdep hst hpar hgot hcl hdf Kq hK
      have hjn : j < 10 := (Array.getElem?_eq_some_iff.1 hj).1
      obtain ⟨ns, q5, q6, q7, q9, hS⟩ := hst
      obtain rfl | rfl | rfl | rfl | rfl | rfl | rfl | rfl | rfl | rfl : j = 0 ∨ j = 1 ∨ j = 2 ∨ j = 3 ∨ j = 4 ∨ j = 5 ∨ j = 6 ∨ j = 7 ∨ j = 8 ∨ j = 9 := by omega
      all_goals (have hj' := Option.some.inj (hj : some _ = some o); subst hj'; clear hj)
      · exact wp_ran rfl (exec_fa4 rfl (eval_tmp ((hpar 5 rfl).trans rfl))) (hK x0 _ _ (fun _ _ _ _ _ _ => rfl) (fun s hs => by cases hs; rfl) ⟨ns, by simpa using q5, by simpa using q6, by simpa using q7, by simpa using q9, hS⟩)
      · have n4 : ns ≤ 3 := by
          rcases Nat.lt_or_ge ns 4 with h | h
          · omega
          · have h9 : lz 9 = true := by rw [q9]; simpa using h
            have h7 := hcl 9 _ rfl h9 ⟨7, .data⟩ (by simp) rfl
            have h1 := hcl 7 _ rfl h7 ⟨1, .data⟩ (by simp) rfl
            rw [hlj] at h1; cases h1
        exact wp_ran rfl (exec_load rfl (eval_tmp (hgot 0 _ 63 rfl (hdep ⟨0, .data⟩ (by simp) rfl) rfl)) (run_load1 Tryd.underlying22 rfl (hS.old n4))) (hK x0 _ _ (fun _ _ _ _ _ _ => rfl) (fun s hs => by cases hs; rfl) ⟨ns, by simpa using q5, by simpa using q6, by simpa using q7, by simpa using q9, hS⟩)
      · exact wp_ran rfl (exec_move rfl (eval_tmp ((hpar 0 rfl).trans rfl))) (hK x0 _ _ (fun _ _ _ _ _ _ => rfl) (fun s hs => by cases hs; rfl) ⟨ns, by simpa using q5, by simpa using q6, by simpa using q7, by simpa using q9, hS⟩)
      · exact wp_ran rfl (exec_move rfl (eval_tmp ((hpar 1 rfl).trans rfl))) (hK x0 _ _ (fun _ _ _ _ _ _ => rfl) (fun s hs => by cases hs; rfl) ⟨ns, by simpa using q5, by simpa using q6, by simpa using q7, by simpa using q9, hS⟩)
      · exact wp_ran rfl (exec_add rfl (eval_tmp (hgot 3 _ 66 rfl (hdep ⟨3, .data⟩ (by simp) rfl) rfl)) rfl HDW.out) (hK x0 _ _ (fun _ _ _ _ _ _ => rfl) (fun s hs => by cases hs; rfl) ⟨ns, by simpa using q5, by simpa using q6, by simpa using q7, by simpa using q9, hS⟩)
      · have n0 : ns = 0 := by
          rw [hlj] at q5
          have := of_decide_eq_false q5.symm
          omega
        subst n0
        refine wp_called rfl (exec_call2 rfl rfl (eval_tmp (hgot 2 _ 65 rfl (hdep ⟨2, .data⟩ (by simp) rfl) rfl)) (eval_tmp (hgot 4 _ 67 rfl (hdep ⟨4, .data⟩ (by simp) rfl) rfl)) (enters_of Tryd.func98 (by kernel_rfl) rfl)) ((IHC v hS).mono ?_)
        rintro e v' ⟨cs, rfl, hT, hr, m⟩
        have hnx := hS.call (cs := ⟨cs, hT.len, hT.one⟩) hr m hT
        have q6' : lz 6 = false := q6
        have q7' : lz 7 = false := q7
        have q9' : lz 9 = false := q9
        exact ⟨_, rfl, hK { x0 with cs := ⟨cs, hT.len, hT.one⟩, S := Btw v.heap.size v'.heap.size } _ _ (fun j' o' s' g1 g2 g3 => by
            have g4 : j' < 10 := (Array.getElem?_eq_some_iff.1 g1).1
            clear hpar hgot hdep hcl hK
            obtain rfl | rfl | rfl | rfl | rfl | rfl | rfl | rfl | rfl | rfl : j' = 0 ∨ j' = 1 ∨ j' = 2 ∨ j' = 3 ∨ j' = 4 ∨ j' = 5 ∨ j' = 6 ∨ j' = 7 ∨ j' = 8 ∨ j' = 9 := by omega
            all_goals (cases g1; cases g3 <;> first | rfl | (rw [hlj] at g2; cases g2))) (fun s hs => by cases hs; rfl) ⟨1, by simp, by simpa using q6', by simpa using q7', by simpa using q9', hnx⟩⟩
      · have h5 := hdep ⟨5, .data⟩ (by simp) rfl
        have n1 : ns = 1 := by
          rw [h5] at q5
          rw [hlj] at q6
          have a := of_decide_eq_true q5.symm
          have b := of_decide_eq_false q6.symm
          omega
        subst n1
        obtain ⟨hS1, hS2⟩ := hS
        have q7' : lz 7 = false := q7
        have q9' : lz 9 = false := q9
        have hx : T.eval (.tmp 68) = .agg (c5v x0.cs).toArray := (eval_tmp (hgot 5 _ 68 rfl (hdep ⟨5, .data⟩ (by simp) rfl) rfl))
        exact wp_ran rfl (exec_lit22 rfl hx (c5_len x0.cs)) (hK { x0 with y := v.heap.size } _ _ (fun j' o' s' g1 g2 g3 => by
            have g4 : j' < 10 := (Array.getElem?_eq_some_iff.1 g1).1
            clear hpar hgot hdep hcl hK
            obtain rfl | rfl | rfl | rfl | rfl | rfl | rfl | rfl | rfl | rfl : j' = 0 ∨ j' = 1 ∨ j' = 2 ∨ j' = 3 ∨ j' = 4 ∨ j' = 5 ∨ j' = 6 ∨ j' = 7 ∨ j' = 8 ∨ j' = 9 := by omega
            all_goals (cases g1; cases g3 <;> first | rfl | (rw [hlj] at g2; cases g2))) (fun s hs => by cases hs; rfl) ⟨2, by simpa using h5, by simp, by simpa using q7', by simpa using q9', hS1.still (Mod.alloc [] v _), hS2.still (Mod.alloc [] v _), Holds.made v 24 (c5v x0.cs)⟩)
      · have h6 := hdep ⟨6, .data⟩ (by simp) rfl
        have n2 : ns = 2 := by
          rw [h6] at q6
          rw [hlj] at q7
          have a := of_decide_eq_true q6.symm
          have b := of_decide_eq_false q7.symm
          omega
        subst n2
        obtain ⟨hS1, hS2, hS3⟩ := hS
        have h5 : lz 5 = true := q5
        have q9' : lz 9 = false := q9
        obtain ⟨A', c', v', hr, ho, hm, hf⟩ := append1 v A0 c0 dn x0.cs x0.y hS1.own hS3 HDN.out
        exact wp_ran rfl (exec_append rfl (eval_tmp (hgot 1 _ 64 rfl (hdep ⟨1, .data⟩ (by simp) rfl) rfl)) (eval_tmp (hgot 6 _ 69 rfl (hdep ⟨6, .data⟩ (by simp) rfl) rfl)) hr) (hK { x0 with A := A', c := c' } _ _ (fun j' o' s' g1 g2 g3 => by
            have g4 : j' < 10 := (Array.getElem?_eq_some_iff.1 g1).1
            clear hpar hgot hdep hcl hK
            obtain rfl | rfl | rfl | rfl | rfl | rfl | rfl | rfl | rfl | rfl : j' = 0 ∨ j' = 1 ∨ j' = 2 ∨ j' = 3 ∨ j' = 4 ∨ j' = 5 ∨ j' = 6 ∨ j' = 7 ∨ j' = 8 ∨ j' = 9 := by omega
            all_goals (cases g1; cases g3 <;> first | rfl | (rw [hlj] at g2; cases g2))) (fun s hs => by cases hs; rfl) ⟨3, by simpa using h5, by simpa using h6, by simp, by simpa using q9', hS1.app hS2 ho hm hf⟩)
      · exact wp_ran rfl (exec_fa4 rfl (eval_tmp ((hpar 5 rfl).trans rfl))) (hK x0 _ _ (fun _ _ _ _ _ _ => rfl) (fun s hs => by cases hs; rfl) ⟨ns, by simpa using q5, by simpa using q6, by simpa using q7, by simpa using q9, hS⟩)
      · have h7 := hdep ⟨7, .data⟩ (by simp) rfl
        have n3 : ns = 3 := by
          rw [h7] at q7
          rw [hlj] at q9
          have a := of_decide_eq_true q7.symm
          have b := of_decide_eq_false q9.symm
          omega
        subst n3
        have h5 : lz 5 = true := q5
        have h6 : lz 6 = true := q6
        have hl9 : (dn ++ [x0.cs]).length = dn.length + 1 := by simp
        have hS' : L3 w q g b b4 b5 ((x.toNat : Int)) (0) (0) (⟨#[]⟩) v A0 c0 ((dn ++ [x0.cs]).length - 1) x0.A x0.c (dn ++ [x0.cs]) (ts ++ [t]) l2 z2 (fun i => Sk i ∨ x0.S i) := by rw [hl9]; exact hS
        obtain ⟨it, i1, i2⟩ : ∃ it, Tryd.prog.info? 22 = some it ∧ it.size = 1 := it22
        exact wp_ran_skip rfl (exec_store1 rfl (eval_tmp (hgot 8 _ 71 rfl (hdep ⟨8, .data⟩ (by simp) rfl) rfl)) ((eval_tmp (hgot 7 _ 70 rfl (hdep ⟨7, .data⟩ (by simp) rfl) rfl)).trans (by rw [hl9])) rfl i1 i2 hS.st.h5.at4 (hS.st.h5.free 4)) (hK x0 undef _ (fun _ _ _ _ _ _ => rfl) (fun s hs => by cases hs) ⟨4, by simpa using h5, by simpa using h6, by simpa using h7, by simp, hS'.put⟩)
    case fin =>
    intro x0 lz vr hlz hst
    obtain ⟨ns, q5, q6, q7, q9, hS⟩ := hst
    have n4 : 4 ≤ ns := by rw [hlz 9 (by decide)] at q9; exact of_decide_eq_true q9.symm
    have hS4 : L0 w q g b b4 b5 (x.toNat : Int) (0) (0) ⟨#[]⟩ vr x0.A x0.c (dn ++ [x0.cs]) (ts ++ [t]) l2 (z2 : Int) (fun i => Sk i ∨ x0.S i) := by
      obtain ⟨i, rfl⟩ : ∃ i, ns = i + 4 := ⟨ns - 4, by omega⟩
      exact hS
    clear hS q5 q6 q7 q9 n4 hlz IHC HI0
    simp only [setAll, List.foldl_cons, List.foldl_nil, List.set_cons_succ, List.set_cons_zero]
    go_wp2_with fail
    exact ⟨⟨j + 1, x0.A, x0.c, dn ++ [x0.cs], ts ++ [t], l2, z2, _, by go_num, by omega, by rw [HSN.out.2]; simp, hS4, HSN.out.1⟩, by simp [intOf]; omega⟩
end
section
open Go.RowKit Go.Shelf
set_option linter.unusedVariables false
set_option linter.unusedSimpArgs false
set_option maxRecDepth 1000000 in
set_option maxHeartbeats 4000000 in
theorem term_U (m : Nat) (ih : TermAll m) (q g b : Nat) (x : UInt8) (y : UInt8) (r2 : List UInt8) (s : Nat) (sz deep : Int) (hsz : sz = (s : Int)) (w : World) (h : RdT w q g b (x :: y :: r2) 0 sz) (G : Glob w) (h0q : 0 ≠ q) (h0g : 0 ≠ g) (hs : s + 1 ≤ 1200) (hdp : deep = 60 - (m : Int)) (hdm : 0 ≤ deep)
    (hk : 1 ≤ x.toNat ∧ x.toNat ≤ 8) (hf0 : (flds (x.toNat : Int) != 0) = true) (hmay : Tm.may (x.toNat : Int) (y.toNat : Int) 0 (ByteArray.size ⟨#[]⟩) = true) (hT : hasB (flds (x.toNat : Int)) 1 = false) (hU : hasB (flds (x.toNat : Int)) 2 = true) (hNm : hasB (flds (x.toNat : Int)) 4 = false)
    (D : Except Int (Tm × List UInt8 × Nat)) (hD : ∀ ts l' z, Tm.decs (Tm.dec m) (Tm.nk (x.toNat : Int)) (r2) (s + 1) = .ok (ts, l', z) → D = .ok (.mk (x.toNat : Int) ((y.toNat : Int)) 0 ⟨#[]⟩ ts, l', z)) (hE : ∀ e, Tm.decs (Tm.dec m) (Tm.nk (x.toNat : Int)) (r2) (s + 1) = .error e → D = .error e) :
    Calls Tryd.prog 98 #[.pointer (some ⟨q, 0, none⟩), .int .i64 deep] w (TermP w q g b D) := by
  have hx8 := Tm.u8_le x
  have hs0 : 0 ≤ sz := by omega
  have hs1 : sz ≤ 1199 := by omega
  have hd60 : deep ≤ 60 := by omega
  have h0 := h.lt
  have GL : ∀ {v : World} {b4 b5 : Nat} {c : List Value} {l : List UInt8} {z : Int}, TSt w v q g b b4 b5 c l z → Glob v := fun st => G.mod st.mm (by simp; exact ⟨h0q, h0g⟩)
  have HQ := Lib.hid (And.intro h G)
  obtain ⟨F, hF⟩ : ∃ F, F = flds (x.toNat : Int) := ⟨_, rfl⟩
  obtain ⟨N, hN⟩ : ∃ N, N = Tm.nk (x.toNat : Int) := ⟨_, rfl⟩
  have FC := fun v (gv : Glob v) => fieldsOf_c (x.toNat : Int) v gv
  have KC := fun v => kids_c (x.toNat : Int) v
  have MC := fun u s v => mayHave_c (x.toNat : Int) u 0 s none 0 0 v
  have hN2 : N ≤ 2 := by rw [hN]; unfold Tm.nk; split <;> (try split) <;> omega
  rw [← hF] at FC KC MC hT hU hNm hf0
  rw [← hN] at KC
  rw [← hN] at hD hE
  have BT := has_b F 1 false hT
  have BU := has_b F 2 true hU
  have BN := has_b F 4 false hNm
  have hd2 : decide (sz + 1 ≤ 1200) = true := decide_eq_true (by omega)
  have hd3 : decide (deep ≤ 60) = true := decide_eq_true (by omega)
  have hne : (F != 0) = true := hf0
  have HD := Lib.hid (And.intro hD (And.intro hE (And.intro ih (And.intro h0q h0g))))
  have HDW := Lib.hid (show IntKind.i64.wrap (deep + 1) = 61 - (m : Int) by rw [hdp]; simp [IntKind.wrap, IntKind.signed, IntKind.bits]; omega)
  have HSZ := Lib.hid hsz
  clear h G hF hN hT hU hNm hf0 hD hE ih h0q h0g hdp h0 hsz
  go_enter Tryd.func98, Tryd.ntmps98
  go_wp2_with (first
    | (with_reducible refine wpList_allocs (o := ⟨some 4, .alloc 24, _, _, _, _⟩) rfl 24 rfl _ zero24 ?_; intro y4 hy4 my4 zy4
       have HZ4 := Lib.hid zy4
       obtain ⟨b4, hq4⟩ : ∃ b, b = w.heap.size := ⟨_, rfl⟩
       rw [← hq4] at hy4 ⊢
       have HB4 := Lib.hid hq4
       have rd4 := HQ.out.1.keep my4 (by simp) (by simp) (by simp)
       clear zy4 hq4)
    | (go_at_call 111; refine (small_yes q g b x (y :: r2) sz y4 rd4).mono ?_
       rintro e w1 ⟨rfl, rd1, m1⟩
       have hy1 := hy4.keep m1 (by have := HQ.out.1.lt; have := HB4.out; simp; omega)
       have mq1 : Mod [q, g] w w1 := my4.pre (m1.wk (by intro i _ hi; simp at hi ⊢; exact .inr hi))
       have sz1 := m1.size
       clear hy4 rd4 my4 m1)
    | (with_reducible refine wpList_ran (o := ⟨some 9, .build 24 _, _, _, _, _⟩) rfl (.agg (tmc (x.toNat : Int) 0 0 ⟨#[]⟩ none 0 0).toArray) (exec_bA rfl rfl) ?_)
    | (with_reducible refine wpList_allocs (o := ⟨some 5, .alloc 24, _, _, _, _⟩) rfl 24 rfl _ zero24 ?_; intro y5 hy5 my5 zy5
       clear zy5)
    | (with_reducible refine wpList_storesAll (o := ⟨none, .store 24 (.tmp 5) (.tmp 9), _, _, _, _⟩) rfl 24 (.tmp 5) (.tmp 9) rfl rfl w1.heap.size (tmc (x.toNat : Int) 0 0 ⟨#[]⟩ none 0 0) rfl (.agg (tmc (x.toNat : Int) 0 0 ⟨#[]⟩ none 0 0).toArray) rfl rfl 24 _ hy5 (zlen (tmc_len _ _ _ _ _ _ _)) (tmc_one _ _ _ _ _ _ _) (size24t _ _ _ _ _ _ _) ?_
       intro u1 hu1 mu1 zu1
       clear zu1
       obtain ⟨b5, hq5⟩ : ∃ b, b = w1.heap.size := ⟨_, rfl⟩
       rw [← hq5] at hu1 mu1 ⊢
       have mm1 : Mod [] w1 u1 := my5.trans mu1 (by intro i hi h; simp at h; omega)
       have st1 : TSt w u1 q g b b4 b5 (tmc (x.toNat : Int) 0 0 ⟨#[]⟩ none 0 0) (y :: r2) sz := by
         have l1 := HQ.out.1.lt
         have l2 := HB4.out
         have l3 := HZ4.out
         have l4 := hy1.lt
         exact ⟨rd1.keep mm1 (by simp) (by simp) (by simp), hy1.keep mm1 (by simp), hu1, mq1.then mm1, by omega, by have := mq1.size; omega, by omega, l1.1, l1.2.1, l1.2.2⟩
       clear hy1 rd1 mq1 sz1 hy5 my5 mu1 mm1 hu1 hq5
       have e0 := st1.h5.cell 0
       simp only [tmc, List.getElem?_cons_succ, List.getElem?_cons_zero] at e0)
    | (go_at_call 91; refine (FC _ (GL st1)).mono ?_
       rintro e wz ⟨rfl, rfl⟩
       clear e0
       have eq0 := st1.rd.hq.cell 0
       have eq1 := st1.rd.hq.cell 1
       simp only [List.getElem?_cons_succ, List.getElem?_cons_zero] at eq0 eq1)
    | (with_reducible refine wpList_bump st1 rfl (.tmp 19) (.tmp 17) rfl rfl rfl (sz + 1) rfl ?_
       intro v2 st2
       clear eq0 eq1 st1
       have eq0 := st2.rd.hq.cell 0
       have eq1 := st2.rd.hq.cell 1
       simp only [List.getElem?_cons_succ, List.getElem?_cons_zero] at eq0 eq1)
    | (go_at_call 112; refine (need_yes _ _).mono ?_; rintro e wz ⟨rfl, rfl⟩)
    | (go_at_call 94; first | ((with_reducible refine Calls.mono (BT _) ?_); rintro e wz ⟨rfl, rfl⟩) | ((with_reducible refine Calls.mono (BU _) ?_); rintro e wz ⟨rfl, rfl⟩) | ((with_reducible refine Calls.mono (BN _) ?_); rintro e wz ⟨rfl, rfl⟩))
    | (go_at_call 111; refine (small_yes q g b y r2 (sz + 1) v2 st2.rd).mono ?_
       rintro e w5 ⟨rfl, rd5, m5⟩
       have st5 := st2.read rd5 m5
       clear rd5 m5 st2 eq0 eq1)
    | (with_reducible refine wpList_put5 st5 rfl 3 (.tmp 43) (.tmp 42) rfl rfl 1 rfl (.int .i64 (y.toNat : Int)) rfl rfl sz3 (tmc_lt (by decide)) ?_
       intro v6 st6
       rw [tmc_set1] at st6
       clear st5
       have eq0 := st6.rd.hq.cell 0
       have eq1 := st6.rd.hq.cell 1
       simp only [List.getElem?_cons_succ, List.getElem?_cons_zero] at eq0 eq1)
    | (with_reducible refine wpList_loads (o := ⟨some 45, .load 24 (.tmp 5), _, _, _, _⟩) rfl 24 (.tmp 5) rfl b5 0 (tmc (x.toNat : Int) (y.toNat : Int) 0 ⟨#[]⟩ none 0 0) rfl (Cells.of_holds st6.h5) _ Tryd.underlying24 rfl (size24t _ _ _ _ _ _ _) (.agg (tmc (x.toNat : Int) (y.toNat : Int) 0 ⟨#[]⟩ none 0 0).toArray) rfl ?_)
    | (go_at_call 92; refine (MC (y.toNat : Int) ⟨#[]⟩ v6).mono ?_
       rintro e w7 ⟨rfl, m7⟩
       rw [show Tm.may (x.toNat : Int) (y.toNat : Int) 0 (ByteArray.size ⟨#[]⟩) = true from hmay]
       have st7 := st6.still m7
       clear m7 st6 eq0 eq1
       have eq0 := st7.rd.hq.cell 0
       have eq1 := st7.rd.hq.cell 1
       simp only [List.getElem?_cons_succ, List.getElem?_cons_zero] at eq0 eq1)
    | (go_at_call 93; refine (KC _).mono ?_; rintro e wz ⟨rfl, rfl⟩))
  obtain ⟨wL, hwL⟩ : ∃ x, x = w7 := ⟨_, rfl⟩
  have HST : Hid (L0 w q g b b4 b5 (x.toNat : Int) ((y.toNat : Int)) (0) ⟨#[]⟩ wL none 0 [] [] (r2) (sz + 1) (fun _ => False)) := Lib.hid (by rw [hwL]; exact ⟨st7, OwnG.nil _ _ _ _, rfl, fun i h => by simp at h, fun i h => h.elim, fun a h => by cases h⟩)
  rw [← hwL]
  clear hwL st7
  go_loopw [61] (fun i wr => ∃ (j : Nat) (A0 : Option Addr) (c0 : Nat) (dn : List C5) (ts : List Tm) (l1 : List UInt8) (z1 : Nat) (Sk : Nat → Prop), i = .int .i64 j ∧ j ≤ N ∧ j = dn.length ∧ L0 w q g b b4 b5 (x.toNat : Int) ((y.toNat : Int)) (0) ⟨#[]⟩ wr A0 c0 dn ts l1 (z1 : Int) Sk ∧ Tm.decs (Tm.dec m) j (r2) (s + 1) = .ok (ts, l1, z1)) (fun i _ => N - (intOf i).toNat)
  case atStart => exact ⟨0, none, 0, [], [], _, s + 1, _, rfl, by omega, rfl, by have := HST.out; rw [HSZ.out] at this; exact this, rfl⟩
  case round =>
  obtain ⟨j, A0, c0, dn, ts, l1, z1, Sk, rfl, hj, hjd, hL, hdc⟩ := hrel
  clear HST
  by_cases hjN : j < N
  case neg =>
    obtain rfl : N = j := by omega
    have HE := Lib.hid (And.intro hL (And.intro hdc hjd))
    have h5 := hL.st.h5
    have h4 := hL.st.h4
    clear hL hdc hjd
    obtain ⟨d0, hd0⟩ : ∃ d, d = dn.length := ⟨_, rfl⟩
    rw [← hd0] at h5
    have HD0 := Lib.hid hd0
    clear hd0
    go_wp2_with (first
        | (with_reducible refine wpList_loads (o := ⟨some 73, .load 24 (.tmp 5), _, _, _, _⟩) rfl 24 (.tmp 5) rfl b5 (0) (tmc (x.toNat : Int) ((y.toNat : Int)) (0) ⟨#[]⟩ A0 d0 c0) rfl (Cells.of_holds h5) _ Tryd.underlying24 rfl (size24t _ _ _ _ _ _ _) (.agg (tmc (x.toNat : Int) ((y.toNat : Int)) (0) ⟨#[]⟩ A0 d0 c0).toArray) rfl ?_)
        | (with_reducible refine wpList_storesAll (o := ⟨none, .store 24 (.tmp 4) (.tmp 73), _, _, _, _⟩) rfl 24 (.tmp 4) (.tmp 73) rfl rfl b4 (tmc (x.toNat : Int) ((y.toNat : Int)) (0) ⟨#[]⟩ A0 d0 c0) rfl (.agg (tmc (x.toNat : Int) ((y.toNat : Int)) (0) ⟨#[]⟩ A0 d0 c0).toArray) rfl rfl 24 _ h4 (zlen (tmc_len _ _ _ _ _ _ _)) (tmc_one _ _ _ _ _ _ _) (size24t _ _ _ _ _ _ _) ?_
           intro u9 hu9 mu9 zu9
           clear zu9))
    refine bodyPost_ret (results_cell1 rfl _ _ b4 _ rfl (Cells.of_holds hu9) rfl) rfl ?_
    obtain ⟨q1, q2, q3⟩ := HE.out
    have q4 := q1.tis (by decide) (by omega)
    have q5 := q4.keep mu9 (fun i hi hm => by simp at hm; exact hi.2 hm)
    have q6 := q5.mono (S' := Btw w.heap.size u9.heap.size) (fun i hi => ⟨hi.1.1, Nat.lt_of_lt_of_le hi.1.2 mu9.size⟩)
    have n4 := q1.st.n4
    have hq1 := q1.st.oq
    have hq2 := q1.st.og
    have hq3 := q1.st.ob
    rw [HD.out.1 _ _ _ q2]
    rw [← HD0.out] at q6
    exact ⟨_, rfl, q6, q1.st.rd.keep mu9 (by simp; omega) (by simp; omega) (by simp; omega), q1.st.mm.trans mu9 (fun i hi h => by simp at h; omega)⟩
  have hd10 : dn.length ≤ 10 := by omega
  have hz12 : z1 ≤ 1200 := (Tm.decs_back (Tm.dec_back m) _ _ _ _ _ _ (by omega) hdc).2.2.2.2.1
  have HDN := Lib.hid hd10
  have IH0 := fun v (hv : L0 w q g b b4 b5 (x.toNat : Int) ((y.toNat : Int)) (0) ⟨#[]⟩ v A0 c0 dn ts l1 (z1 : Int) Sk) => HD.out.2.2.1 q g b l1 z1 v hv.st.rd (GL hv.st) HD.out.2.2.2.1 HD.out.2.2.2.2 hz12
  have hsn := Tm.decs_snoc (Tm.dec m) j (r2) (s + 1)
  rw [hdc] at hsn
  simp only [] at hsn
  have HI0 := hL
  clear hd10 hz12 hdc hL
  cases hdec : Tm.dec m l1 z1 with
  | error er =>
    rw [hdec] at hsn
    have hfull : Tm.decs (Tm.dec m) N (r2) (s + 1) = .error er := by
      have := Tm.decs_err (Tm.dec m) hsn (N - (j + 1))
      rwa [show j + 1 + (N - (j + 1)) = N by omega] at this
    have hDe := HD.out.2.1 _ hfull
    have IHC := IH0
    rw [hdec] at IHC
    rw [hDe]
    clear hsn hfull hDe hdec IH0
    go_wp2_with fail
    refine wp_region_upxd (X := XT) ⟨⟨tmc 0 0 0 ⟨#[]⟩ none 0 0, rfl, tmc_one _ _ _ _ _ _ _⟩, 0, none, 0, fun _ => False⟩ (fun x0 => [(63, .pointer (some ⟨b5, 4, none⟩)), (64, .slice A0 dn.length c0), (65, .pointer (some ⟨q, 0, none⟩)), (66, .int .i64 deep), (67, .int .i64 (61 - (m : Int))), (68, .agg (c5v x0.cs).toArray), (69, .slice (some ⟨x0.y, 0, none⟩) 1 1), (70, .slice x0.A (dn.length + 1) x0.c), (71, .pointer (some ⟨b5, 4, none⟩))]) 74 [63, 64, 65, 66, 67, 68, 69, 70, 71] rfl (fun _ => rfl) (by decide) (by kernel_rfl)
      (fun x0 lz v => lz 5 = false ∧ L0 w q g b b4 b5 ((x.toNat : Int)) ((y.toNat : Int)) (0) (⟨#[]⟩) v A0 c0 dn ts l1 (z1 : Int) Sk) (by kernel_rfl) ⟨rfl, HI0.still (Mod.drew [] _)⟩ (by kernel_rfl) (by kernel_rfl) ?step ?fin
    case step =>
      intro x0 lz T v j o hj hlj hdep hst hpar hgot hcl hdf Kq hK
      have hjn : j < 10 := (Array.getElem?_eq_some_iff.1 hj).1
      obtain ⟨q5, hS⟩ := hst
      obtain rfl | rfl | rfl | rfl | rfl | rfl | rfl | rfl | rfl | rfl : j = 0 ∨ j = 1 ∨ j = 2 ∨ j = 3 ∨ j = 4 ∨ j = 5 ∨ j = 6 ∨ j = 7 ∨ j = 8 ∨ j = 9 := by omega
      all_goals (have hj' := Option.some.inj (hj : some _ = some o); subst hj'; clear hj)
      · exact wp_ran rfl (exec_fa4 rfl (eval_tmp ((hpar 5 rfl).trans rfl))) (hK x0 _ _ (fun _ _ _ _ _ _ => rfl) (fun s hs => by cases hs; rfl) ⟨by simpa using q5, hS⟩)
      · exact wp_ran rfl (exec_load rfl (eval_tmp (hgot 0 _ 63 rfl (hdep ⟨0, .data⟩ (by simp) rfl) rfl)) (run_load1 Tryd.underlying22 rfl (show v.cell? ⟨b5, 4, none⟩ = some (.slice A0 dn.length c0) from hS.st.h5.cell 4))) (hK x0 _ _ (fun _ _ _ _ _ _ => rfl) (fun s hs => by cases hs; rfl) ⟨by simpa using q5, hS⟩)
      · exact wp_ran rfl (exec_move rfl (eval_tmp ((hpar 0 rfl).trans rfl))) (hK x0 _ _ (fun _ _ _ _ _ _ => rfl) (fun s hs => by cases hs; rfl) ⟨by simpa using q5, hS⟩)
      · exact wp_ran rfl (exec_move rfl (eval_tmp ((hpar 1 rfl).trans rfl))) (hK x0 _ _ (fun _ _ _ _ _ _ => rfl) (fun s hs => by cases hs; rfl) ⟨by simpa using q5, hS⟩)
      · exact wp_ran rfl (exec_add rfl (eval_tmp (hgot 3 _ 66 rfl (hdep ⟨3, .data⟩ (by simp) rfl) rfl)) rfl HDW.out) (hK x0 _ _ (fun _ _ _ _ _ _ => rfl) (fun s hs => by cases hs; rfl) ⟨by simpa using q5, hS⟩)
      · refine wp_threw rfl (exec_call2 rfl rfl (eval_tmp (hgot 2 _ 65 rfl (hdep ⟨2, .data⟩ (by simp) rfl) rfl)) (eval_tmp (hgot 4 _ 67 rfl (hdep ⟨4, .data⟩ (by simp) rfl) rfl)) (enters_of Tryd.func98 (by kernel_rfl) rfl)) ((IHC v hS).mono ?_)
        rintro e v' ⟨rfl, m⟩
        exact ⟨_, rfl, hdf, rfl, hS.st.mm.trans m (fun _ _ h => h)⟩
      · exact absurd (hdep ⟨5, .data⟩ (by simp) rfl) (by rw [q5]; simp)
      · have h6 := hdep ⟨6, .data⟩ (by simp) rfl
        exact absurd (hcl 6 _ rfl h6 ⟨5, .data⟩ (by simp) rfl) (by rw [q5]; simp)
      · exact wp_ran rfl (exec_fa4 rfl (eval_tmp ((hpar 5 rfl).trans rfl))) (hK x0 _ _ (fun _ _ _ _ _ _ => rfl) (fun s hs => by cases hs; rfl) ⟨by simpa using q5, hS⟩)
      · have h7 := hdep ⟨7, .data⟩ (by simp) rfl
        have h6 := hcl 7 _ rfl h7 ⟨6, .data⟩ (by simp) rfl
        exact absurd (hcl 6 _ rfl h6 ⟨5, .data⟩ (by simp) rfl) (by rw [q5]; simp)
    case fin =>
    intro x0 lz vr hlz hst
    exact absurd (hlz 5 (by decide)) (by rw [hst.1]; simp)
  | ok p =>
    obtain ⟨t, l2, z2⟩ := p
    rw [hdec] at hsn
    have IHC := IH0
    rw [hdec] at IHC
    have HSN := Lib.hid (And.intro hsn hjd)
    clear hsn hdec IH0 hjd
    go_wp2_with fail
    refine wp_region_upxd (X := XT) ⟨⟨tmc 0 0 0 ⟨#[]⟩ none 0 0, rfl, tmc_one _ _ _ _ _ _ _⟩, 0, none, 0, fun _ => False⟩ (fun x0 => [(63, .pointer (some ⟨b5, 4, none⟩)), (64, .slice A0 dn.length c0), (65, .pointer (some ⟨q, 0, none⟩)), (66, .int .i64 deep), (67, .int .i64 (61 - (m : Int))), (68, .agg (c5v x0.cs).toArray), (69, .slice (some ⟨x0.y, 0, none⟩) 1 1), (70, .slice x0.A (dn.length + 1) x0.c), (71, .pointer (some ⟨b5, 4, none⟩))]) 74 [63, 64, 65, 66, 67, 68, 69, 70, 71] rfl (fun _ => rfl) (by decide) (by kernel_rfl)
      (fun x0 lz v => ∃ ns : Nat, lz 5 = decide (1 ≤ ns) ∧ lz 6 = decide (2 ≤ ns) ∧ lz 7 = decide (3 ≤ ns) ∧ lz 9 = decide (4 ≤ ns) ∧ Stg w q g b b4 b5 ((x.toNat : Int)) ((y.toNat : Int)) (0) (⟨#[]⟩) A0 c0 dn ts l1 (z1 : Int) Sk l2 (z2 : Int) t x0 v ns) (by kernel_rfl) ⟨0, rfl, rfl, rfl, rfl, HI0.still (Mod.drew [] _)⟩ (by kernel_rfl) (by kernel_rfl) ?step ?fin
    case step =>
      intro x0 lz T v j o hj hlj hdep hst hpar hgot hcl hdf Kq hK
      have hjn : j < 10 := (Array.getElem?_eq_some_iff.1 hj).1
      obtain ⟨ns, q5, q6, q7, q9, hS⟩ := hst
      obtain rfl | rfl | rfl | rfl | rfl | rfl | rfl | rfl | rfl | rfl : j = 0 ∨ j = 1 ∨ j = 2 ∨ j = 3 ∨ j = 4 ∨ j = 5 ∨ j = 6 ∨ j = 7 ∨ j = 8 ∨ j = 9 := by omega
      all_goals (have hj' := Option.some.inj (hj : some _ = some o); subst hj'; clear hj)
      · exact wp_ran rfl (exec_fa4 rfl (eval_tmp ((hpar 5 rfl).trans rfl))) (hK x0 _ _ (fun _ _ _ _ _ _ => rfl) (fun s hs => by cases hs; rfl) ⟨ns, by simpa using q5, by simpa using q6, by simpa using q7, by simpa using q9, hS⟩)
      · have n4 : ns ≤ 3 := by
          rcases Nat.lt_or_ge ns 4 with h | h
          · omega
          · have h9 : lz 9 = true := by rw [q9]; simpa using h
            have h7 := hcl 9 _ rfl h9 ⟨7, .data⟩ (by simp) rfl
            have h1 := hcl 7 _ rfl h7 ⟨1, .data⟩ (by simp) rfl
            rw [hlj] at h1; cases h1
        exact wp_ran rfl (exec_load rfl (eval_tmp (hgot 0 _ 63 rfl (hdep ⟨0, .data⟩ (by simp) rfl) rfl)) (run_load1 Tryd.underlying22 rfl (hS.old n4))) (hK x0 _ _ (fun _ _ _ _ _ _ => rfl) (fun s hs => by cases hs; rfl) ⟨ns, by simpa using q5, by simpa using q6, by simpa using q7, by simpa using q9, hS⟩)
      · exact wp_ran rfl (exec_move rfl (eval_tmp ((hpar 0 rfl).trans rfl))) (hK x0 _ _ (fun _ _ _ _ _ _ => rfl) (fun s hs => by cases hs; rfl) ⟨ns, by simpa using q5, by simpa using q6, by simpa using q7, by simpa using q9, hS⟩)
      · exact wp_ran rfl (exec_move rfl (eval_tmp ((hpar 1 rfl).trans rfl))) (hK x0 _ _ (fun _ _ _ _ _ _ => rfl) (fun s hs => by cases hs; rfl) ⟨ns, by simpa using q5, by simpa using q6, by simpa using q7, by simpa using q9, hS⟩)
      · exact wp_ran rfl (exec_add rfl (eval_tmp (hgot 3 _ 66 rfl (hdep ⟨3, .data⟩ (by simp) rfl) rfl)) rfl HDW.out) (hK x0 _ _ (fun _ _ _ _ _ _ => rfl) (fun s hs => by cases hs; rfl) ⟨ns, by simpa using q5, by simpa using q6, by simpa using q7, by simpa using q9, hS⟩)
      · have n0 : ns = 0 := by
          rw [hlj] at q5
          have := of_decide_eq_false q5.symm
          omega
        subst n0
        refine wp_called rfl (exec_call2 rfl rfl (eval_tmp (hgot 2 _ 65 rfl (hdep ⟨2, .data⟩ (by simp) rfl) rfl)) (eval_tmp (hgot 4 _ 67 rfl (hdep ⟨4, .data⟩ (by simp) rfl) rfl)) (enters_of Tryd.func98 (by kernel_rfl) rfl)) ((IHC v hS).mono ?_)
        rintro e v' ⟨cs, rfl, hT, hr, m⟩
        have hnx := hS.call (cs := ⟨cs, hT.len, hT.one⟩) hr m hT
        have q6' : lz 6 = false := q6
        have q7' : lz 7 = false := q7
        have q9' : lz 9 = false := q9
        exact ⟨_, rfl, hK { x0 with cs := ⟨cs, hT.len, hT.one⟩, S := Btw v.heap.size v'.heap.size } _ _ (fun j' o' s' g1 g2 g3 => by
            have g4 : j' < 10 := (Array.getElem?_eq_some_iff.1 g1).1
            clear hpar hgot hdep hcl hK
            obtain rfl | rfl | rfl | rfl | rfl | rfl | rfl | rfl | rfl | rfl : j' = 0 ∨ j' = 1 ∨ j' = 2 ∨ j' = 3 ∨ j' = 4 ∨ j' = 5 ∨ j' = 6 ∨ j' = 7 ∨ j' = 8 ∨ j' = 9 := by omega
            all_goals (cases g1; cases g3 <;> first | rfl | (rw [hlj] at g2; cases g2))) (fun s hs => by cases hs; rfl) ⟨1, by simp, by simpa using q6', by simpa using q7', by simpa using q9', hnx⟩⟩
      · have h5 := hdep ⟨5, .data⟩ (by simp) rfl
        have n1 : ns = 1 := by
          rw [h5] at q5
          rw [hlj] at q6
          have a := of_decide_eq_true q5.symm
          have b := of_decide_eq_false q6.symm
          omega
        subst n1
        obtain ⟨hS1, hS2⟩ := hS
        have q7' : lz 7 = false := q7
        have q9' : lz 9 = false := q9
        have hx : T.eval (.tmp 68) = .agg (c5v x0.cs).toArray := (eval_tmp (hgot 5 _ 68 rfl (hdep ⟨5, .data⟩ (by simp) rfl) rfl))
        exact wp_ran rfl (exec_lit22 rfl hx (c5_len x0.cs)) (hK { x0 with y := v.heap.size } _ _ (fun j' o' s' g1 g2 g3 => by
            have g4 : j' < 10 := (Array.getElem?_eq_some_iff.1 g1).1
            clear hpar hgot hdep hcl hK
            obtain rfl | rfl | rfl | rfl | rfl | rfl | rfl | rfl | rfl | rfl : j' = 0 ∨ j' = 1 ∨ j' = 2 ∨ j' = 3 ∨ j' = 4 ∨ j' = 5 ∨ j' = 6 ∨ j' = 7 ∨ j' = 8 ∨ j' = 9 := by omega
            all_goals (cases g1; cases g3 <;> first | rfl | (rw [hlj] at g2; cases g2))) (fun s hs => by cases hs; rfl) ⟨2, by simpa using h5, by simp, by simpa using q7', by simpa using q9', hS1.still (Mod.alloc [] v _), hS2.still (Mod.alloc [] v _), Holds.made v 24 (c5v x0.cs)⟩)
      · have h6 := hdep ⟨6, .data⟩ (by simp) rfl
        have n2 : ns = 2 := by
          rw [h6] at q6
          rw [hlj] at q7
          have a := of_decide_eq_true q6.symm
          have b := of_decide_eq_false q7.symm
          omega
        subst n2
        obtain ⟨hS1, hS2, hS3⟩ := hS
        have h5 : lz 5 = true := q5
        have q9' : lz 9 = false := q9
        obtain ⟨A', c', v', hr, ho, hm, hf⟩ := append1 v A0 c0 dn x0.cs x0.y hS1.own hS3 HDN.out
        exact wp_ran rfl (exec_append rfl (eval_tmp (hgot 1 _ 64 rfl (hdep ⟨1, .data⟩ (by simp) rfl) rfl)) (eval_tmp (hgot 6 _ 69 rfl (hdep ⟨6, .data⟩ (by simp) rfl) rfl)) hr) (hK { x0 with A := A', c := c' } _ _ (fun j' o' s' g1 g2 g3 => by
            have g4 : j' < 10 := (Array.getElem?_eq_some_iff.1 g1).1
            clear hpar hgot hdep hcl hK
            obtain rfl | rfl | rfl | rfl | rfl | rfl | rfl | rfl | rfl | rfl : j' = 0 ∨ j' = 1 ∨ j' = 2 ∨ j' = 3 ∨ j' = 4 ∨ j' = 5 ∨ j' = 6 ∨ j' = 7 ∨ j' = 8 ∨ j' = 9 := by omega
            all_goals (cases g1; cases g3 <;> first | rfl | (rw [hlj] at g2; cases g2))) (fun s hs => by cases hs; rfl) ⟨3, by simpa using h5, by simpa using h6, by simp, by simpa using q9', hS1.app hS2 ho hm hf⟩)
      · exact wp_ran rfl (exec_fa4 rfl (eval_tmp ((hpar 5 rfl).trans rfl))) (hK x0 _ _ (fun _ _ _ _ _ _ => rfl) (fun s hs => by cases hs; rfl) ⟨ns, by simpa using q5, by simpa using q6, by simpa using q7, by simpa using q9, hS⟩)
      · have h7 := hdep ⟨7, .data⟩ (by simp) rfl
        have n3 : ns = 3 := by
          rw [h7] at q7
          rw [hlj] at q9
          have a := of_decide_eq_true q7.symm
          have b := of_decide_eq_false q9.symm
          omega
        subst n3
        have h5 : lz 5 = true := q5
        have h6 : lz 6 = true := q6
        have hl9 : (dn ++ [x0.cs]).length = dn.length + 1 := by simp
        have hS' : L3 w q g b b4 b5 ((x.toNat : Int)) ((y.toNat : Int)) (0) (⟨#[]⟩) v A0 c0 ((dn ++ [x0.cs]).length - 1) x0.A x0.c (dn ++ [x0.cs]) (ts ++ [t]) l2 z2 (fun i => Sk i ∨ x0.S i) := by rw [hl9]; exact hS
        obtain ⟨it, i1, i2⟩ : ∃ it, Tryd.prog.info? 22 = some it ∧ it.size = 1 := it22
        exact wp_ran_skip rfl (exec_store1 rfl (eval_tmp (hgot 8 _ 71 rfl (hdep ⟨8, .data⟩ (by simp) rfl) rfl)) ((eval_tmp (hgot 7 _ 70 rfl (hdep ⟨7, .data⟩ (by simp) rfl) rfl)).trans (by rw [hl9])) rfl i1 i2 hS.st.h5.at4 (hS.st.h5.free 4)) (hK x0 undef _ (fun _ _ _ _ _ _ => rfl) (fun s hs => by cases hs) ⟨4, by simpa using h5, by simpa using h6, by simpa using h7, by simp, hS'.put⟩)
    case fin =>
    intro x0 lz vr hlz hst
    obtain ⟨ns, q5, q6, q7, q9, hS⟩ := hst
    have n4 : 4 ≤ ns := by rw [hlz 9 (by decide)] at q9; exact of_decide_eq_true q9.symm
    have hS4 : L0 w q g b b4 b5 (x.toNat : Int) ((y.toNat : Int)) (0) ⟨#[]⟩ vr x0.A x0.c (dn ++ [x0.cs]) (ts ++ [t]) l2 (z2 : Int) (fun i => Sk i ∨ x0.S i) := by
      obtain ⟨i, rfl⟩ : ∃ i, ns = i + 4 := ⟨ns - 4, by omega⟩
      exact hS
    clear hS q5 q6 q7 q9 n4 hlz IHC HI0
    simp only [setAll, List.foldl_cons, List.foldl_nil, List.set_cons_succ, List.set_cons_zero]
    go_wp2_with fail
    exact ⟨⟨j + 1, x0.A, x0.c, dn ++ [x0.cs], ts ++ [t], l2, z2, _, by go_num, by omega, by rw [HSN.out.2]; simp, hS4, HSN.out.1⟩, by simp [intOf]; omega⟩
end
section
open Go.RowKit Go.Shelf
set_option linter.unusedVariables false
set_option linter.unusedSimpArgs false
set_option maxRecDepth 1000000 in
set_option maxHeartbeats 4000000 in
theorem term_T (m : Nat) (ih : TermAll m) (q g b : Nat) (x : UInt8) (y : UInt8) (r2 : List UInt8) (s : Nat) (sz deep : Int) (hsz : sz = (s : Int)) (w : World) (h : RdT w q g b (x :: y :: r2) 0 sz) (G : Glob w) (h0q : 0 ≠ q) (h0g : 0 ≠ g) (hs : s + 1 ≤ 1200) (hdp : deep = 60 - (m : Int)) (hdm : 0 ≤ deep)
    (hk : 1 ≤ x.toNat ∧ x.toNat ≤ 8) (hy64 : y.toNat ≤ 64) (hyl : y.toNat ≤ r2.length) (hf0 : (flds (x.toNat : Int) != 0) = true) (hmay : ∀ tx : ByteArray, tx.size ≤ 64 → Tm.may (x.toNat : Int) 0 0 tx.size = true) (hT : hasB (flds (x.toNat : Int)) 1 = true) (hU : hasB (flds (x.toNat : Int)) 2 = false) (hNm : hasB (flds (x.toNat : Int)) 4 = false)
    (D : Except Int (Tm × List UInt8 × Nat)) (hD : ∀ ts l' z, Tm.decs (Tm.dec m) (Tm.nk (x.toNat : Int)) (r2.drop y.toNat) (s + 1) = .ok (ts, l', z) → D = .ok (.mk (x.toNat : Int) (0) 0 ⟨(r2.take y.toNat).toArray⟩ ts, l', z)) (hE : ∀ e, Tm.decs (Tm.dec m) (Tm.nk (x.toNat : Int)) (r2.drop y.toNat) (s + 1) = .error e → D = .error e) :
    Calls Tryd.prog 98 #[.pointer (some ⟨q, 0, none⟩), .int .i64 deep] w (TermP w q g b D) := by
  have hx8 := Tm.u8_le x
  have hs0 : 0 ≤ sz := by omega
  have hs1 : sz ≤ 1199 := by omega
  have hd60 : deep ≤ 60 := by omega
  have h0 := h.lt
  have GL : ∀ {v : World} {b4 b5 : Nat} {c : List Value} {l : List UInt8} {z : Int}, TSt w v q g b b4 b5 c l z → Glob v := fun st => G.mod st.mm (by simp; exact ⟨h0q, h0g⟩)
  have HQ := Lib.hid (And.intro h G)
  obtain ⟨F, hF⟩ : ∃ F, F = flds (x.toNat : Int) := ⟨_, rfl⟩
  obtain ⟨N, hN⟩ : ∃ N, N = Tm.nk (x.toNat : Int) := ⟨_, rfl⟩
  have FC := fun v (gv : Glob v) => fieldsOf_c (x.toNat : Int) v gv
  have KC := fun v => kids_c (x.toNat : Int) v
  have MC := fun u s v => mayHave_c (x.toNat : Int) u 0 s none 0 0 v
  have hN2 : N ≤ 2 := by rw [hN]; unfold Tm.nk; split <;> (try split) <;> omega
  rw [← hF] at FC KC MC hT hU hNm hf0
  rw [← hN] at KC
  rw [← hN] at hD hE
  have BT := has_b F 1 true hT
  have BU := has_b F 2 false hU
  have BN := has_b F 4 false hNm
  have hd2 : decide (sz + 1 ≤ 1200) = true := decide_eq_true (by omega)
  have hd3 : decide (deep ≤ 60) = true := decide_eq_true (by omega)
  have hne : (F != 0) = true := hf0
  have hmt : (⟨(r2.take y.toNat).toArray⟩ : ByteArray).size ≤ 64 := by show ((r2.take y.toNat).toArray).size ≤ 64; simp; omega
  have HD := Lib.hid (And.intro hD (And.intro hE (And.intro ih (And.intro h0q h0g))))
  have HDW := Lib.hid (show IntKind.i64.wrap (deep + 1) = 61 - (m : Int) by rw [hdp]; simp [IntKind.wrap, IntKind.signed, IntKind.bits]; omega)
  have HSZ := Lib.hid hsz
  clear h G hF hN hT hU hNm hf0 hD hE ih h0q h0g hdp h0 hsz
  go_enter Tryd.func98, Tryd.ntmps98
  go_wp2_with (first
    | (with_reducible refine wpList_allocs (o := ⟨some 4, .alloc 24, _, _, _, _⟩) rfl 24 rfl _ zero24 ?_; intro y4 hy4 my4 zy4
       have HZ4 := Lib.hid zy4
       obtain ⟨b4, hq4⟩ : ∃ b, b = w.heap.size := ⟨_, rfl⟩
       rw [← hq4] at hy4 ⊢
       have HB4 := Lib.hid hq4
       have rd4 := HQ.out.1.keep my4 (by simp) (by simp) (by simp)
       clear zy4 hq4)
    | (go_at_call 111; refine (small_yes q g b x (y :: r2) sz y4 rd4).mono ?_
       rintro e w1 ⟨rfl, rd1, m1⟩
       have hy1 := hy4.keep m1 (by have := HQ.out.1.lt; have := HB4.out; simp; omega)
       have mq1 : Mod [q, g] w w1 := my4.pre (m1.wk (by intro i _ hi; simp at hi ⊢; exact .inr hi))
       have sz1 := m1.size
       clear hy4 rd4 my4 m1)
    | (with_reducible refine wpList_ran (o := ⟨some 9, .build 24 _, _, _, _, _⟩) rfl (.agg (tmc (x.toNat : Int) 0 0 ⟨#[]⟩ none 0 0).toArray) (exec_bA rfl rfl) ?_)
    | (with_reducible refine wpList_allocs (o := ⟨some 5, .alloc 24, _, _, _, _⟩) rfl 24 rfl _ zero24 ?_; intro y5 hy5 my5 zy5
       clear zy5)
    | (with_reducible refine wpList_storesAll (o := ⟨none, .store 24 (.tmp 5) (.tmp 9), _, _, _, _⟩) rfl 24 (.tmp 5) (.tmp 9) rfl rfl w1.heap.size (tmc (x.toNat : Int) 0 0 ⟨#[]⟩ none 0 0) rfl (.agg (tmc (x.toNat : Int) 0 0 ⟨#[]⟩ none 0 0).toArray) rfl rfl 24 _ hy5 (zlen (tmc_len _ _ _ _ _ _ _)) (tmc_one _ _ _ _ _ _ _) (size24t _ _ _ _ _ _ _) ?_
       intro u1 hu1 mu1 zu1
       clear zu1
       obtain ⟨b5, hq5⟩ : ∃ b, b = w1.heap.size := ⟨_, rfl⟩
       rw [← hq5] at hu1 mu1 ⊢
       have mm1 : Mod [] w1 u1 := my5.trans mu1 (by intro i hi h; simp at h; omega)
       have st1 : TSt w u1 q g b b4 b5 (tmc (x.toNat : Int) 0 0 ⟨#[]⟩ none 0 0) (y :: r2) sz := by
         have l1 := HQ.out.1.lt
         have l2 := HB4.out
         have l3 := HZ4.out
         have l4 := hy1.lt
         exact ⟨rd1.keep mm1 (by simp) (by simp) (by simp), hy1.keep mm1 (by simp), hu1, mq1.then mm1, by omega, by have := mq1.size; omega, by omega, l1.1, l1.2.1, l1.2.2⟩
       clear hy1 rd1 mq1 sz1 hy5 my5 mu1 mm1 hu1 hq5
       have e0 := st1.h5.cell 0
       simp only [tmc, List.getElem?_cons_succ, List.getElem?_cons_zero] at e0)
    | (go_at_call 91; refine (FC _ (GL st1)).mono ?_
       rintro e wz ⟨rfl, rfl⟩
       clear e0
       have eq0 := st1.rd.hq.cell 0
       have eq1 := st1.rd.hq.cell 1
       simp only [List.getElem?_cons_succ, List.getElem?_cons_zero] at eq0 eq1)
    | (with_reducible refine wpList_bump st1 rfl (.tmp 19) (.tmp 17) rfl rfl rfl (sz + 1) rfl ?_
       intro v2 st2
       clear eq0 eq1 st1
       have eq0 := st2.rd.hq.cell 0
       have eq1 := st2.rd.hq.cell 1
       simp only [List.getElem?_cons_succ, List.getElem?_cons_zero] at eq0 eq1)
    | (go_at_call 112; refine (need_yes _ _).mono ?_; rintro e wz ⟨rfl, rfl⟩)
    | (go_at_call 94; first | ((with_reducible refine Calls.mono (BT _) ?_); rintro e wz ⟨rfl, rfl⟩) | ((with_reducible refine Calls.mono (BU _) ?_); rintro e wz ⟨rfl, rfl⟩) | ((with_reducible refine Calls.mono (BN _) ?_); rintro e wz ⟨rfl, rfl⟩))
    | (go_at_call 113; refine (text_yes q g b y r2 (sz + 1) v2 st2.rd hy64 hyl).mono ?_
       rintro e w3 ⟨rfl, rd3, m3⟩
       have st3 := st2.read rd3 m3
       obtain ⟨tx, htx⟩ : ∃ t : ByteArray, t = ⟨(r2.take y.toNat).toArray⟩ := ⟨_, rfl⟩
       rw [← htx]
       have HTX := Lib.hid htx
       clear rd3 m3 st2 htx eq0 eq1)
    | (with_reducible refine wpList_put5 st3 rfl 9 (.tmp 38) (.tmp 37) rfl rfl 3 rfl (.string tx) rfl rfl sz9 (tmc_lt (by decide)) ?_
       intro v4 st4
       rw [tmc_set3] at st4
       clear st3
       have eq0 := st4.rd.hq.cell 0
       have eq1 := st4.rd.hq.cell 1
       simp only [List.getElem?_cons_succ, List.getElem?_cons_zero] at eq0 eq1)
    | (with_reducible refine wpList_loads (o := ⟨some 45, .load 24 (.tmp 5), _, _, _, _⟩) rfl 24 (.tmp 5) rfl b5 0 (tmc (x.toNat : Int) 0 0 tx none 0 0) rfl (Cells.of_holds st4.h5) _ Tryd.underlying24 rfl (size24t _ _ _ _ _ _ _) (.agg (tmc (x.toNat : Int) 0 0 tx none 0 0).toArray) rfl ?_)
    | (go_at_call 92; refine (MC 0 tx v4).mono ?_
       rintro e w7 ⟨rfl, m7⟩
       rw [show Tm.may (x.toNat : Int) 0 0 (ByteArray.size tx) = true from (hmay tx (by rw [HTX.out]; exact hmt))]
       have st7 := st4.still m7
       clear m7 st4 eq0 eq1
       have eq0 := st7.rd.hq.cell 0
       have eq1 := st7.rd.hq.cell 1
       simp only [List.getElem?_cons_succ, List.getElem?_cons_zero] at eq0 eq1)
    | (go_at_call 93; refine (KC _).mono ?_; rintro e wz ⟨rfl, rfl⟩))
  obtain ⟨wL, hwL⟩ : ∃ x, x = w7 := ⟨_, rfl⟩
  have HST : Hid (L0 w q g b b4 b5 (x.toNat : Int) (0) (0) tx wL none 0 [] [] (r2.drop y.toNat) (sz + 1) (fun _ => False)) := Lib.hid (by rw [hwL]; exact ⟨st7, OwnG.nil _ _ _ _, rfl, fun i h => by simp at h, fun i h => h.elim, fun a h => by cases h⟩)
  rw [← hwL]
  clear hwL st7
  go_loopw [61] (fun i wr => ∃ (j : Nat) (A0 : Option Addr) (c0 : Nat) (dn : List C5) (ts : List Tm) (l1 : List UInt8) (z1 : Nat) (Sk : Nat → Prop), i = .int .i64 j ∧ j ≤ N ∧ j = dn.length ∧ L0 w q g b b4 b5 (x.toNat : Int) (0) (0) tx wr A0 c0 dn ts l1 (z1 : Int) Sk ∧ Tm.decs (Tm.dec m) j (r2.drop y.toNat) (s + 1) = .ok (ts, l1, z1)) (fun i _ => N - (intOf i).toNat)
  case atStart => exact ⟨0, none, 0, [], [], _, s + 1, _, rfl, by omega, rfl, by have := HST.out; rw [HSZ.out] at this; exact this, rfl⟩
  case round =>
  obtain ⟨j, A0, c0, dn, ts, l1, z1, Sk, rfl, hj, hjd, hL, hdc⟩ := hrel
  clear HST
  by_cases hjN : j < N
  case neg =>
    obtain rfl : N = j := by omega
    have HE := Lib.hid (And.intro hL (And.intro hdc hjd))
    have h5 := hL.st.h5
    have h4 := hL.st.h4
    clear hL hdc hjd
    obtain ⟨d0, hd0⟩ : ∃ d, d = dn.length := ⟨_, rfl⟩
    rw [← hd0] at h5
    have HD0 := Lib.hid hd0
    clear hd0
    go_wp2_with (first
        | (with_reducible refine wpList_loads (o := ⟨some 73, .load 24 (.tmp 5), _, _, _, _⟩) rfl 24 (.tmp 5) rfl b5 (0) (tmc (x.toNat : Int) (0) (0) tx A0 d0 c0) rfl (Cells.of_holds h5) _ Tryd.underlying24 rfl (size24t _ _ _ _ _ _ _) (.agg (tmc (x.toNat : Int) (0) (0) tx A0 d0 c0).toArray) rfl ?_)
        | (with_reducible refine wpList_storesAll (o := ⟨none, .store 24 (.tmp 4) (.tmp 73), _, _, _, _⟩) rfl 24 (.tmp 4) (.tmp 73) rfl rfl b4 (tmc (x.toNat : Int) (0) (0) tx A0 d0 c0) rfl (.agg (tmc (x.toNat : Int) (0) (0) tx A0 d0 c0).toArray) rfl rfl 24 _ h4 (zlen (tmc_len _ _ _ _ _ _ _)) (tmc_one _ _ _ _ _ _ _) (size24t _ _ _ _ _ _ _) ?_
           intro u9 hu9 mu9 zu9
           clear zu9))
    refine bodyPost_ret (results_cell1 rfl _ _ b4 _ rfl (Cells.of_holds hu9) rfl) rfl ?_
    obtain ⟨q1, q2, q3⟩ := HE.out
    have q4 := q1.tis (by rw [HTX.out]; omega) (by omega)
    have q5 := q4.keep mu9 (fun i hi hm => by simp at hm; exact hi.2 hm)
    have q6 := q5.mono (S' := Btw w.heap.size u9.heap.size) (fun i hi => ⟨hi.1.1, Nat.lt_of_lt_of_le hi.1.2 mu9.size⟩)
    have n4 := q1.st.n4
    have hq1 := q1.st.oq
    have hq2 := q1.st.og
    have hq3 := q1.st.ob
    rw [HD.out.1 _ _ _ q2]
    rw [← HD0.out] at q6
    exact ⟨_, rfl, by rw [← HTX.out]; exact q6, q1.st.rd.keep mu9 (by simp; omega) (by simp; omega) (by simp; omega), q1.st.mm.trans mu9 (fun i hi h => by simp at h; omega)⟩
  have hd10 : dn.length ≤ 10 := by omega
  have hz12 : z1 ≤ 1200 := (Tm.decs_back (Tm.dec_back m) _ _ _ _ _ _ (by omega) hdc).2.2.2.2.1
  have HDN := Lib.hid hd10
  have IH0 := fun v (hv : L0 w q g b b4 b5 (x.toNat : Int) (0) (0) tx v A0 c0 dn ts l1 (z1 : Int) Sk) => HD.out.2.2.1 q g b l1 z1 v hv.st.rd (GL hv.st) HD.out.2.2.2.1 HD.out.2.2.2.2 hz12
  have hsn := Tm.decs_snoc (Tm.dec m) j (r2.drop y.toNat) (s + 1)
  rw [hdc] at hsn
  simp only [] at hsn
  have HI0 := hL
  clear hd10 hz12 hdc hL
  cases hdec : Tm.dec m l1 z1 with
  | error er =>
    rw [hdec] at hsn
    have hfull : Tm.decs (Tm.dec m) N (r2.drop y.toNat) (s + 1) = .error er := by
      have := Tm.decs_err (Tm.dec m) hsn (N - (j + 1))
      rwa [show j + 1 + (N - (j + 1)) = N by omega] at this
    have hDe := HD.out.2.1 _ hfull
    have IHC := IH0
    rw [hdec] at IHC
    rw [hDe]
    clear hsn hfull hDe hdec IH0
    go_wp2_with fail
    refine wp_region_upxd (X := XT) ⟨⟨tmc 0 0 0 ⟨#[]⟩ none 0 0, rfl, tmc_one _ _ _ _ _ _ _⟩, 0, none, 0, fun _ => False⟩ (fun x0 => [(63, .pointer (some ⟨b5, 4, none⟩)), (64, .slice A0 dn.length c0), (65, .pointer (some ⟨q, 0, none⟩)), (66, .int .i64 deep), (67, .int .i64 (61 - (m : Int))), (68, .agg (c5v x0.cs).toArray), (69, .slice (some ⟨x0.y, 0, none⟩) 1 1), (70, .slice x0.A (dn.length + 1) x0.c), (71, .pointer (some ⟨b5, 4, none⟩))]) 74 [63, 64, 65, 66, 67, 68, 69, 70, 71] rfl (fun _ => rfl) (by decide) (by kernel_rfl)
      (fun x0 lz v => lz 5 = false ∧ L0 w q g b b4 b5 ((x.toNat : Int)) (0) (0) (tx) v A0 c0 dn ts l1 (z1 : Int) Sk) (by kernel_rfl) ⟨rfl, HI0.still (Mod.drew [] _)⟩ (by kernel_rfl) (by kernel_rfl) ?step ?fin
    case step =>
      intro x0 lz T v j o hj hlj hdep hst hpar hgot hcl hdf Kq hK
      have hjn : j < 10 := (Array.getElem?_eq_some_iff.1 hj).1
      obtain ⟨q5, hS⟩ := hst
      obtain rfl | rfl | rfl | rfl | rfl | rfl | rfl | rfl | rfl | rfl : j = 0 ∨ j = 1 ∨ j = 2 ∨ j = 3 ∨ j = 4 ∨ j = 5 ∨ j = 6 ∨ j = 7 ∨ j = 8 ∨ j = 9 := by omega
      all_goals (have hj' := Option.some.inj (hj : some _ = some o); subst hj'; clear hj)
      · exact wp_ran rfl (exec_fa4 rfl (eval_tmp ((hpar 5 rfl).trans rfl))) (hK x0 _ _ (fun _ _ _ _ _ _ => rfl) (fun s hs => by cases hs; rfl) ⟨by simpa using q5, hS⟩)
      · exact wp_ran rfl (exec_load rfl (eval_tmp (hgot 0 _ 63 rfl (hdep ⟨0, .data⟩ (by simp) rfl) rfl)) (run_load1 Tryd.underlying22 rfl (show v.cell? ⟨b5, 4, none⟩ = some (.slice A0 dn.length c0) from hS.st.h5.cell 4))) (hK x0 _ _ (fun _ _ _ _ _ _ => rfl) (fun s hs => by cases hs; rfl) ⟨by simpa using q5, hS⟩)
      · exact wp_ran rfl (exec_move rfl (eval_tmp ((hpar 0 rfl).trans rfl))) (hK x0 _ _ (fun _ _ _ _ _ _ => rfl) (fun s hs => by cases hs; rfl) ⟨by simpa using q5, hS⟩)
      · exact wp_ran rfl (exec_move rfl (eval_tmp ((hpar 1 rfl).trans rfl))) (hK x0 _ _ (fun _ _ _ _ _ _ => rfl) (fun s hs => by cases hs; rfl) ⟨by simpa using q5, hS⟩)
      · exact wp_ran rfl (exec_add rfl (eval_tmp (hgot 3 _ 66 rfl (hdep ⟨3, .data⟩ (by simp) rfl) rfl)) rfl HDW.out) (hK x0 _ _ (fun _ _ _ _ _ _ => rfl) (fun s hs => by cases hs; rfl) ⟨by simpa using q5, hS⟩)
      · refine wp_threw rfl (exec_call2 rfl rfl (eval_tmp (hgot 2 _ 65 rfl (hdep ⟨2, .data⟩ (by simp) rfl) rfl)) (eval_tmp (hgot 4 _ 67 rfl (hdep ⟨4, .data⟩ (by simp) rfl) rfl)) (enters_of Tryd.func98 (by kernel_rfl) rfl)) ((IHC v hS).mono ?_)
        rintro e v' ⟨rfl, m⟩
        exact ⟨_, rfl, hdf, rfl, hS.st.mm.trans m (fun _ _ h => h)⟩
      · exact absurd (hdep ⟨5, .data⟩ (by simp) rfl) (by rw [q5]; simp)
      · have h6 := hdep ⟨6, .data⟩ (by simp) rfl
        exact absurd (hcl 6 _ rfl h6 ⟨5, .data⟩ (by simp) rfl) (by rw [q5]; simp)
      · exact wp_ran rfl (exec_fa4 rfl (eval_tmp ((hpar 5 rfl).trans rfl))) (hK x0 _ _ (fun _ _ _ _ _ _ => rfl) (fun s hs => by cases hs; rfl) ⟨by simpa using q5, hS⟩)
      · have h7 := hdep ⟨7, .data⟩ (by simp) rfl
        have h6 := hcl 7 _ rfl h7 ⟨6, .data⟩ (by simp) rfl
        exact absurd (hcl 6 _ rfl h6 ⟨5, .data⟩ (by simp) rfl) (by rw [q5]; simp)
    case fin =>
    intro x0 lz vr hlz hst
    exact absurd (hlz 5 (by decide)) (by rw [hst.1]; simp)
  | ok p =>
    obtain ⟨t, l2, z2⟩ := p
    rw [hdec] at hsn
    have IHC := IH0
    rw [hdec] at IHC
    have HSN := Lib.hid (And.intro hsn hjd)
    clear hsn hdec IH0 hjd
    go_wp2_with fail
    refine wp_region_upxd (X := XT) ⟨⟨tmc 0 0 0 ⟨#[]⟩ none 0 0, rfl, tmc_one _ _ _ _ _ _ _⟩, 0, none, 0, fun _ => False⟩ (fun x0 => [(63, .pointer (some ⟨b5, 4, none⟩)), (64, .slice A0 dn.length c0), (65, .pointer (some ⟨q, 0, none⟩)), (66, .int .i64 deep), (67, .int .i64 (61 - (m : Int))), (68, .agg (c5v x0.cs).toArray), (69, .slice (some ⟨x0.y, 0, none⟩) 1 1), (70, .slice x0.A (dn.length + 1) x0.c), (71, .pointer (some ⟨b5, 4, none⟩))]) 74 [63, 64, 65, 66, 67, 68, 69, 70, 71] rfl (fun _ => rfl) (by decide) (by kernel_rfl)
      (fun x0 lz v => ∃ ns : Nat, lz 5 = decide (1 ≤ ns) ∧ lz 6 = decide (2 ≤ ns) ∧ lz 7 = decide (3 ≤ ns) ∧ lz 9 = decide (4 ≤ ns) ∧ Stg w q g b b4 b5 ((x.toNat : Int)) (0) (0) (tx) A0 c0 dn ts l1 (z1 : Int) Sk l2 (z2 : Int) t x0 v ns) (by kernel_rfl) ⟨0, rfl, rfl, rfl, rfl, HI0.still (Mod.drew [] _)⟩ (by kernel_rfl) (by kernel_rfl) ?step ?fin
    case step =>
      intro x0 lz T v j o hj hlj hdep hst hpar hgot hcl hdf Kq hK
      have hjn : j < 10 := (Array.getElem?_eq_some_iff.1 hj).1
      obtain ⟨ns, q5, q6, q7, q9, hS⟩ := hst
      obtain rfl | rfl | rfl | rfl | rfl | rfl | rfl | rfl | rfl | rfl : j = 0 ∨ j = 1 ∨ j = 2 ∨ j = 3 ∨ j = 4 ∨ j = 5 ∨ j = 6 ∨ j = 7 ∨ j = 8 ∨ j = 9 := by omega
      all_goals (have hj' := Option.some.inj (hj : some _ = some o); subst hj'; clear hj)
      · exact wp_ran rfl (exec_fa4 rfl (eval_tmp ((hpar 5 rfl).trans rfl))) (hK x0 _ _ (fun _ _ _ _ _ _ => rfl) (fun s hs => by cases hs; rfl) ⟨ns, by simpa using q5, by simpa using q6, by simpa using q7, by simpa using q9, hS⟩)
      · have n4 : ns ≤ 3 := by
          rcases Nat.lt_or_ge ns 4 with h | h
          · omega
          · have h9 : lz 9 = true := by rw [q9]; simpa using h
            have h7 := hcl 9 _ rfl h9 ⟨7, .data⟩ (by simp) rfl
            have h1 := hcl 7 _ rfl h7 ⟨1, .data⟩ (by simp) rfl
            rw [hlj] at h1; cases h1
        exact wp_ran rfl (exec_load rfl (eval_tmp (hgot 0 _ 63 rfl (hdep ⟨0, .data⟩ (by simp) rfl) rfl)) (run_load1 Tryd.underlying22 rfl (hS.old n4))) (hK x0 _ _ (fun _ _ _ _ _ _ => rfl) (fun s hs => by cases hs; rfl) ⟨ns, by simpa using q5, by simpa using q6, by simpa using q7, by simpa using q9, hS⟩)
      · exact wp_ran rfl (exec_move rfl (eval_tmp ((hpar 0 rfl).trans rfl))) (hK x0 _ _ (fun _ _ _ _ _ _ => rfl) (fun s hs => by cases hs; rfl) ⟨ns, by simpa using q5, by simpa using q6, by simpa using q7, by simpa using q9, hS⟩)
      · exact wp_ran rfl (exec_move rfl (eval_tmp ((hpar 1 rfl).trans rfl))) (hK x0 _ _ (fun _ _ _ _ _ _ => rfl) (fun s hs => by cases hs; rfl) ⟨ns, by simpa using q5, by simpa using q6, by simpa using q7, by simpa using q9, hS⟩)
      · exact wp_ran rfl (exec_add rfl (eval_tmp (hgot 3 _ 66 rfl (hdep ⟨3, .data⟩ (by simp) rfl) rfl)) rfl HDW.out) (hK x0 _ _ (fun _ _ _ _ _ _ => rfl) (fun s hs => by cases hs; rfl) ⟨ns, by simpa using q5, by simpa using q6, by simpa using q7, by simpa using q9, hS⟩)
      · have n0 : ns = 0 := by
          rw [hlj] at q5
          have := of_decide_eq_false q5.symm
          omega
        subst n0
        refine wp_called rfl (exec_call2 rfl rfl (eval_tmp (hgot 2 _ 65 rfl (hdep ⟨2, .data⟩ (by simp) rfl) rfl)) (eval_tmp (hgot 4 _ 67 rfl (hdep ⟨4, .data⟩ (by simp) rfl) rfl)) (enters_of Tryd.func98 (by kernel_rfl) rfl)) ((IHC v hS).mono ?_)
        rintro e v' ⟨cs, rfl, hT, hr, m⟩
        have hnx := hS.call (cs := ⟨cs, hT.len, hT.one⟩) hr m hT
        have q6' : lz 6 = false := q6
        have q7' : lz 7 = false := q7
        have q9' : lz 9 = false := q9
        exact ⟨_, rfl, hK { x0 with cs := ⟨cs, hT.len, hT.one⟩, S := Btw v.heap.size v'.heap.size } _ _ (fun j' o' s' g1 g2 g3 => by
            have g4 : j' < 10 := (Array.getElem?_eq_some_iff.1 g1).1
            clear hpar hgot hdep hcl hK
            obtain rfl | rfl | rfl | rfl | rfl | rfl | rfl | rfl | rfl | rfl : j' = 0 ∨ j' = 1 ∨ j' = 2 ∨ j' = 3 ∨ j' = 4 ∨ j' = 5 ∨ j' = 6 ∨ j' = 7 ∨ j' = 8 ∨ j' = 9 := by omega
            all_goals (cases g1; cases g3 <;> first | rfl | (rw [hlj] at g2; cases g2))) (fun s hs => by cases hs; rfl) ⟨1, by simp, by simpa using q6', by simpa using q7', by simpa using q9', hnx⟩⟩
      · have h5 := hdep ⟨5, .data⟩ (by simp) rfl
        have n1 : ns = 1 := by
          rw [h5] at q5
          rw [hlj] at q6
          have a := of_decide_eq_true q5.symm
          have b := of_decide_eq_false q6.symm
          omega
        subst n1
        obtain ⟨hS1, hS2⟩ := hS
        have q7' : lz 7 = false := q7
        have q9' : lz 9 = false := q9
        have hx : T.eval (.tmp 68) = .agg (c5v x0.cs).toArray := (eval_tmp (hgot 5 _ 68 rfl (hdep ⟨5, .data⟩ (by simp) rfl) rfl))
        exact wp_ran rfl (exec_lit22 rfl hx (c5_len x0.cs)) (hK { x0 with y := v.heap.size } _ _ (fun j' o' s' g1 g2 g3 => by
            have g4 : j' < 10 := (Array.getElem?_eq_some_iff.1 g1).1
            clear hpar hgot hdep hcl hK
            obtain rfl | rfl | rfl | rfl | rfl | rfl | rfl | rfl | rfl | rfl : j' = 0 ∨ j' = 1 ∨ j' = 2 ∨ j' = 3 ∨ j' = 4 ∨ j' = 5 ∨ j' = 6 ∨ j' = 7 ∨ j' = 8 ∨ j' = 9 := by omega
            all_goals (cases g1; cases g3 <;> first | rfl | (rw [hlj] at g2; cases g2))) (fun s hs => by cases hs; rfl) ⟨2, by simpa using h5, by simp, by simpa using q7', by simpa using q9', hS1.still (Mod.alloc [] v _), hS2.still (Mod.alloc [] v _), Holds.made v 24 (c5v x0.cs)⟩)
      · have h6 := hdep ⟨6, .data⟩ (by simp) rfl
        have n2 : ns = 2 := by
          rw [h6] at q6
          rw [hlj] at q7
          have a := of_decide_eq_true q6.symm
          have b := of_decide_eq_false q7.symm
          omega
        subst n2
        obtain ⟨hS1, hS2, hS3⟩ := hS
        have h5 : lz 5 = true := q5
        have q9' : lz 9 = false := q9
        obtain ⟨A', c', v', hr, ho, hm, hf⟩ := append1 v A0 c0 dn x0.cs x0.y hS1.own hS3 HDN.out
        exact wp_ran rfl (exec_append rfl (eval_tmp (hgot 1 _ 64 rfl (hdep ⟨1, .data⟩ (by simp) rfl) rfl)) (eval_tmp (hgot 6 _ 69 rfl (hdep ⟨6, .data⟩ (by simp) rfl) rfl)) hr) (hK { x0 with A := A', c := c' } _ _ (fun j' o' s' g1 g2 g3 => by
            have g4 : j' < 10 := (Array.getElem?_eq_some_iff.1 g1).1
            clear hpar hgot hdep hcl hK
            obtain rfl | rfl | rfl | rfl | rfl | rfl | rfl | rfl | rfl | rfl : j' = 0 ∨ j' = 1 ∨ j' = 2 ∨ j' = 3 ∨ j' = 4 ∨ j' = 5 ∨ j' = 6 ∨ j' = 7 ∨ j' = 8 ∨ j' = 9 := by omega
            all_goals (cases g1; cases g3 <;> first | rfl | (rw [hlj] at g2; cases g2))) (fun s hs => by cases hs; rfl) ⟨3, by simpa using h5, by simpa using h6, by simp, by simpa using q9', hS1.app hS2 ho hm hf⟩)
      · exact wp_ran rfl (exec_fa4 rfl (eval_tmp ((hpar 5 rfl).trans rfl))) (hK x0 _ _ (fun _ _ _ _ _ _ => rfl) (fun s hs => by cases hs; rfl) ⟨ns, by simpa using q5, by simpa using q6, by simpa using q7, by simpa using q9, hS⟩)
      · have h7 := hdep ⟨7, .data⟩ (by simp) rfl
        have n3 : ns = 3 := by
          rw [h7] at q7
          rw [hlj] at q9
          have a := of_decide_eq_true q7.symm
          have b := of_decide_eq_false q9.symm
          omega
        subst n3
        have h5 : lz 5 = true := q5
        have h6 : lz 6 = true := q6
        have hl9 : (dn ++ [x0.cs]).length = dn.length + 1 := by simp
        have hS' : L3 w q g b b4 b5 ((x.toNat : Int)) (0) (0) (tx) v A0 c0 ((dn ++ [x0.cs]).length - 1) x0.A x0.c (dn ++ [x0.cs]) (ts ++ [t]) l2 z2 (fun i => Sk i ∨ x0.S i) := by rw [hl9]; exact hS
        obtain ⟨it, i1, i2⟩ : ∃ it, Tryd.prog.info? 22 = some it ∧ it.size = 1 := it22
        exact wp_ran_skip rfl (exec_store1 rfl (eval_tmp (hgot 8 _ 71 rfl (hdep ⟨8, .data⟩ (by simp) rfl) rfl)) ((eval_tmp (hgot 7 _ 70 rfl (hdep ⟨7, .data⟩ (by simp) rfl) rfl)).trans (by rw [hl9])) rfl i1 i2 hS.st.h5.at4 (hS.st.h5.free 4)) (hK x0 undef _ (fun _ _ _ _ _ _ => rfl) (fun s hs => by cases hs) ⟨4, by simpa using h5, by simpa using h6, by simpa using h7, by simp, hS'.put⟩)
    case fin =>
    intro x0 lz vr hlz hst
    obtain ⟨ns, q5, q6, q7, q9, hS⟩ := hst
    have n4 : 4 ≤ ns := by rw [hlz 9 (by decide)] at q9; exact of_decide_eq_true q9.symm
    have hS4 : L0 w q g b b4 b5 (x.toNat : Int) (0) (0) tx vr x0.A x0.c (dn ++ [x0.cs]) (ts ++ [t]) l2 (z2 : Int) (fun i => Sk i ∨ x0.S i) := by
      obtain ⟨i, rfl⟩ : ∃ i, ns = i + 4 := ⟨ns - 4, by omega⟩
      exact hS
    clear hS q5 q6 q7 q9 n4 hlz IHC HI0
    simp only [setAll, List.foldl_cons, List.foldl_nil, List.set_cons_succ, List.set_cons_zero]
    go_wp2_with fail
    exact ⟨⟨j + 1, x0.A, x0.c, dn ++ [x0.cs], ts ++ [t], l2, z2, _, by go_num, by omega, by rw [HSN.out.2]; simp, hS4, HSN.out.1⟩, by simp [intOf]; omega⟩
end
section
open Go.RowKit Go.Shelf
set_option linter.unusedVariables false
set_option linter.unusedSimpArgs false
set_option maxRecDepth 1000000 in
set_option maxHeartbeats 4000000 in
theorem term_UN (m : Nat) (ih : TermAll m) (q g b : Nat) (x : UInt8) (y ya yb : UInt8) (r3 : List UInt8) (s : Nat) (sz deep : Int) (hsz : sz = (s : Int)) (w : World) (h : RdT w q g b (x :: y :: ya :: yb :: r3) 0 sz) (G : Glob w) (h0q : 0 ≠ q) (h0g : 0 ≠ g) (hs : s + 1 ≤ 1200) (hdp : deep = 60 - (m : Int)) (hdm : 0 ≤ deep)
    (hk : 1 ≤ x.toNat ∧ x.toNat ≤ 8) (hf0 : (flds (x.toNat : Int) != 0) = true) (hmay : Tm.may (x.toNat : Int) (y.toNat : Int) 0 (ByteArray.size ⟨#[]⟩) = true) (hT : hasB (flds (x.toNat : Int)) 1 = false) (hU : hasB (flds (x.toNat : Int)) 2 = true) (hNm : hasB (flds (x.toNat : Int)) 4 = true)
    (D : Except Int (Tm × List UInt8 × Nat)) (hD : ∀ ts l' z, Tm.decs (Tm.dec m) (Tm.nk (x.toNat : Int)) (r3) (s + 1) = .ok (ts, l', z) → D = .ok (.mk (x.toNat : Int) ((y.toNat : Int)) ((ya.toNat * 256 + yb.toNat : Nat) : Int) ⟨#[]⟩ ts, l', z)) (hE : ∀ e, Tm.decs (Tm.dec m) (Tm.nk (x.toNat : Int)) (r3) (s + 1) = .error e → D = .error e) :
    Calls Tryd.prog 98 #[.pointer (some ⟨q, 0, none⟩), .int .i64 deep] w (TermP w q g b D) := by
  have hx8 := Tm.u8_le x
  have hs0 : 0 ≤ sz := by omega
  have hs1 : sz ≤ 1199 := by omega
  have hd60 : deep ≤ 60 := by omega
  have h0 := h.lt
  have GL : ∀ {v : World} {b4 b5 : Nat} {c : List Value} {l : List UInt8} {z : Int}, TSt w v q g b b4 b5 c l z → Glob v := fun st => G.mod st.mm (by simp; exact ⟨h0q, h0g⟩)
  have HQ := Lib.hid (And.intro h G)
  obtain ⟨F, hF⟩ : ∃ F, F = flds (x.toNat : Int) := ⟨_, rfl⟩
  obtain ⟨N, hN⟩ : ∃ N, N = Tm.nk (x.toNat : Int) := ⟨_, rfl⟩
  have FC := fun v (gv : Glob v) => fieldsOf_c (x.toNat : Int) v gv
  have KC := fun v => kids_c (x.toNat : Int) v
  have MC := fun u s v => mayHave_c (x.toNat : Int) u 0 s none 0 0 v
  have hN2 : N ≤ 2 := by rw [hN]; unfold Tm.nk; split <;> (try split) <;> omega
  rw [← hF] at FC KC MC hT hU hNm hf0
  rw [← hN] at KC
  rw [← hN] at hD hE
  have BT := has_b F 1 false hT
  have BU := has_b F 2 true hU
  have BN := has_b F 4 true hNm
  have hd2 : decide (sz + 1 ≤ 1200) = true := decide_eq_true (by omega)
  have hd3 : decide (deep ≤ 60) = true := decide_eq_true (by omega)
  have hne : (F != 0) = true := hf0
  have HD := Lib.hid (And.intro hD (And.intro hE (And.intro ih (And.intro h0q h0g))))
  have HDW := Lib.hid (show IntKind.i64.wrap (deep + 1) = 61 - (m : Int) by rw [hdp]; simp [IntKind.wrap, IntKind.signed, IntKind.bits]; omega)
  have HSZ := Lib.hid hsz
  clear h G hF hN hT hU hNm hf0 hD hE ih h0q h0g hdp h0 hsz
  go_enter Tryd.func98, Tryd.ntmps98
  go_wp2_with (first
    | (with_reducible refine wpList_allocs (o := ⟨some 4, .alloc 24, _, _, _, _⟩) rfl 24 rfl _ zero24 ?_; intro y4 hy4 my4 zy4
       have HZ4 := Lib.hid zy4
       obtain ⟨b4, hq4⟩ : ∃ b, b = w.heap.size := ⟨_, rfl⟩
       rw [← hq4] at hy4 ⊢
       have HB4 := Lib.hid hq4
       have rd4 := HQ.out.1.keep my4 (by simp) (by simp) (by simp)
       clear zy4 hq4)
    | (go_at_call 111; refine (small_yes q g b x (y :: ya :: yb :: r3) sz y4 rd4).mono ?_
       rintro e w1 ⟨rfl, rd1, m1⟩
       have hy1 := hy4.keep m1 (by have := HQ.out.1.lt; have := HB4.out; simp; omega)
       have mq1 : Mod [q, g] w w1 := my4.pre (m1.wk (by intro i _ hi; simp at hi ⊢; exact .inr hi))
       have sz1 := m1.size
       clear hy4 rd4 my4 m1)
    | (with_reducible refine wpList_ran (o := ⟨some 9, .build 24 _, _, _, _, _⟩) rfl (.agg (tmc (x.toNat : Int) 0 0 ⟨#[]⟩ none 0 0).toArray) (exec_bA rfl rfl) ?_)
    | (with_reducible refine wpList_allocs (o := ⟨some 5, .alloc 24, _, _, _, _⟩) rfl 24 rfl _ zero24 ?_; intro y5 hy5 my5 zy5
       clear zy5)
    | (with_reducible refine wpList_storesAll (o := ⟨none, .store 24 (.tmp 5) (.tmp 9), _, _, _, _⟩) rfl 24 (.tmp 5) (.tmp 9) rfl rfl w1.heap.size (tmc (x.toNat : Int) 0 0 ⟨#[]⟩ none 0 0) rfl (.agg (tmc (x.toNat : Int) 0 0 ⟨#[]⟩ none 0 0).toArray) rfl rfl 24 _ hy5 (zlen (tmc_len _ _ _ _ _ _ _)) (tmc_one _ _ _ _ _ _ _) (size24t _ _ _ _ _ _ _) ?_
       intro u1 hu1 mu1 zu1
       clear zu1
       obtain ⟨b5, hq5⟩ : ∃ b, b = w1.heap.size := ⟨_, rfl⟩
       rw [← hq5] at hu1 mu1 ⊢
       have mm1 : Mod [] w1 u1 := my5.trans mu1 (by intro i hi h; simp at h; omega)
       have st1 : TSt w u1 q g b b4 b5 (tmc (x.toNat : Int) 0 0 ⟨#[]⟩ none 0 0) (y :: ya :: yb :: r3) sz := by
         have l1 := HQ.out.1.lt
         have l2 := HB4.out
         have l3 := HZ4.out
         have l4 := hy1.lt
         exact ⟨rd1.keep mm1 (by simp) (by simp) (by simp), hy1.keep mm1 (by simp), hu1, mq1.then mm1, by omega, by have := mq1.size; omega, by omega, l1.1, l1.2.1, l1.2.2⟩
       clear hy1 rd1 mq1 sz1 hy5 my5 mu1 mm1 hu1 hq5
       have e0 := st1.h5.cell 0
       simp only [tmc, List.getElem?_cons_succ, List.getElem?_cons_zero] at e0)
    | (go_at_call 91; refine (FC _ (GL st1)).mono ?_
       rintro e wz ⟨rfl, rfl⟩
       clear e0
       have eq0 := st1.rd.hq.cell 0
       have eq1 := st1.rd.hq.cell 1
       simp only [List.getElem?_cons_succ, List.getElem?_cons_zero] at eq0 eq1)
    | (with_reducible refine wpList_bump st1 rfl (.tmp 19) (.tmp 17) rfl rfl rfl (sz + 1) rfl ?_
       intro v2 st2
       clear eq0 eq1 st1
       have eq0 := st2.rd.hq.cell 0
       have eq1 := st2.rd.hq.cell 1
       simp only [List.getElem?_cons_succ, List.getElem?_cons_zero] at eq0 eq1)
    | (go_at_call 112; refine (need_yes _ _).mono ?_; rintro e wz ⟨rfl, rfl⟩)
    | (go_at_call 94; first | ((with_reducible refine Calls.mono (BT _) ?_); rintro e wz ⟨rfl, rfl⟩) | ((with_reducible refine Calls.mono (BU _) ?_); rintro e wz ⟨rfl, rfl⟩) | ((with_reducible refine Calls.mono (BN _) ?_); rintro e wz ⟨rfl, rfl⟩))
    | (go_at_call 111; refine (small_yes q g b y (ya :: yb :: r3) (sz + 1) v2 st2.rd).mono ?_
       rintro e w5 ⟨rfl, rd5, m5⟩
       have st5 := st2.read rd5 m5
       clear rd5 m5 st2 eq0 eq1)
    | (with_reducible refine wpList_put5 st5 rfl 3 (.tmp 43) (.tmp 42) rfl rfl 1 rfl (.int .i64 (y.toNat : Int)) rfl rfl sz3 (tmc_lt (by decide)) ?_
       intro v6 st6
       rw [tmc_set1] at st6
       clear st5
       have eq0 := st6.rd.hq.cell 0
       have eq1 := st6.rd.hq.cell 1
       simp only [List.getElem?_cons_succ, List.getElem?_cons_zero] at eq0 eq1)
    | (with_reducible refine wpList_loads (o := ⟨some 45, .load 24 (.tmp 5), _, _, _, _⟩) rfl 24 (.tmp 5) rfl b5 0 (tmc (x.toNat : Int) (y.toNat : Int) 0 ⟨#[]⟩ none 0 0) rfl (Cells.of_holds st6.h5) _ Tryd.underlying24 rfl (size24t _ _ _ _ _ _ _) (.agg (tmc (x.toNat : Int) (y.toNat : Int) 0 ⟨#[]⟩ none 0 0).toArray) rfl ?_)
    | (go_at_call 92; refine (MC (y.toNat : Int) ⟨#[]⟩ v6).mono ?_
       rintro e w7 ⟨rfl, m7⟩
       rw [show Tm.may (x.toNat : Int) (y.toNat : Int) 0 (ByteArray.size ⟨#[]⟩) = true from hmay]
       have st7 := st6.still m7
       clear m7 st6 eq0 eq1
       have eq0 := st7.rd.hq.cell 0
       have eq1 := st7.rd.hq.cell 1
       simp only [List.getElem?_cons_succ, List.getElem?_cons_zero] at eq0 eq1)
    | (go_at_call 114; refine (u16_yes g b ya yb r3 w7 st7.rd.hr).mono ?_
       rintro e w8 ⟨rfl, hr8, m8⟩
       have st8 := st7.read (st7.rd.read hr8 m8) m8
       have hz1 := Tm.u8_le ya
       have hz2 := Tm.u8_le yb
       obtain ⟨nn, hnn⟩ : ∃ n : Nat, n = ya.toNat * 256 + yb.toNat := ⟨_, rfl⟩
       have hn16 : nn < 65536 := by omega
       rw [← hnn]
       have HNN := Lib.hid hnn
       clear hr8 m8 st7 eq0 eq1 hnn hz1 hz2)
    | (with_reducible refine wpList_put5 st8 rfl 3 (.tmp 56) (.tmp 55) rfl rfl 2 rfl (.int .i64 (nn : Int)) rfl rfl sz3 (tmc_lt (by decide)) ?_
       intro v9 st9
       rw [tmc_set2] at st9
       clear st8)
    | (go_at_call 115; refine (whole_yes q g b r3 (sz + 1) v9 st9.rd).mono ?_
       rintro e wz ⟨rfl, rfl⟩
       obtain ⟨w10, hw10⟩ : ∃ x, x = v9.drew := ⟨_, rfl⟩
       have st10 := st9.still (Mod.drew [] v9)
       rw [← hw10] at st10 ⊢
       clear hw10 st9)
    | (go_at_call 93; refine (KC _).mono ?_; rintro e wz ⟨rfl, rfl⟩))
  obtain ⟨wL, hwL⟩ : ∃ x, x = w10 := ⟨_, rfl⟩
  have HST : Hid (L0 w q g b b4 b5 (x.toNat : Int) ((y.toNat : Int)) ((nn : Int)) ⟨#[]⟩ wL none 0 [] [] (r3) (sz + 1) (fun _ => False)) := Lib.hid (by rw [hwL]; exact ⟨st10, OwnG.nil _ _ _ _, rfl, fun i h => by simp at h, fun i h => h.elim, fun a h => by cases h⟩)
  rw [← hwL]
  clear hwL st10
  go_loopw [61] (fun i wr => ∃ (j : Nat) (A0 : Option Addr) (c0 : Nat) (dn : List C5) (ts : List Tm) (l1 : List UInt8) (z1 : Nat) (Sk : Nat → Prop), i = .int .i64 j ∧ j ≤ N ∧ j = dn.length ∧ L0 w q g b b4 b5 (x.toNat : Int) ((y.toNat : Int)) ((nn : Int)) ⟨#[]⟩ wr A0 c0 dn ts l1 (z1 : Int) Sk ∧ Tm.decs (Tm.dec m) j (r3) (s + 1) = .ok (ts, l1, z1)) (fun i _ => N - (intOf i).toNat)
  case atStart => exact ⟨0, none, 0, [], [], _, s + 1, _, rfl, by omega, rfl, by have := HST.out; rw [HSZ.out] at this; exact this, rfl⟩
  case round =>
  obtain ⟨j, A0, c0, dn, ts, l1, z1, Sk, rfl, hj, hjd, hL, hdc⟩ := hrel
  clear HST
  by_cases hjN : j < N
  case neg =>
    obtain rfl : N = j := by omega
    have HE := Lib.hid (And.intro hL (And.intro hdc hjd))
    have h5 := hL.st.h5
    have h4 := hL.st.h4
    clear hL hdc hjd
    obtain ⟨d0, hd0⟩ : ∃ d, d = dn.length := ⟨_, rfl⟩
    rw [← hd0] at h5
    have HD0 := Lib.hid hd0
    clear hd0
    go_wp2_with (first
        | (with_reducible refine wpList_loads (o := ⟨some 73, .load 24 (.tmp 5), _, _, _, _⟩) rfl 24 (.tmp 5) rfl b5 (0) (tmc (x.toNat : Int) ((y.toNat : Int)) ((nn : Int)) ⟨#[]⟩ A0 d0 c0) rfl (Cells.of_holds h5) _ Tryd.underlying24 rfl (size24t _ _ _ _ _ _ _) (.agg (tmc (x.toNat : Int) ((y.toNat : Int)) ((nn : Int)) ⟨#[]⟩ A0 d0 c0).toArray) rfl ?_)
        | (with_reducible refine wpList_storesAll (o := ⟨none, .store 24 (.tmp 4) (.tmp 73), _, _, _, _⟩) rfl 24 (.tmp 4) (.tmp 73) rfl rfl b4 (tmc (x.toNat : Int) ((y.toNat : Int)) ((nn : Int)) ⟨#[]⟩ A0 d0 c0) rfl (.agg (tmc (x.toNat : Int) ((y.toNat : Int)) ((nn : Int)) ⟨#[]⟩ A0 d0 c0).toArray) rfl rfl 24 _ h4 (zlen (tmc_len _ _ _ _ _ _ _)) (tmc_one _ _ _ _ _ _ _) (size24t _ _ _ _ _ _ _) ?_
           intro u9 hu9 mu9 zu9
           clear zu9))
    refine bodyPost_ret (results_cell1 rfl _ _ b4 _ rfl (Cells.of_holds hu9) rfl) rfl ?_
    obtain ⟨q1, q2, q3⟩ := HE.out
    have q4 := q1.tis (by decide) (by omega)
    have q5 := q4.keep mu9 (fun i hi hm => by simp at hm; exact hi.2 hm)
    have q6 := q5.mono (S' := Btw w.heap.size u9.heap.size) (fun i hi => ⟨hi.1.1, Nat.lt_of_lt_of_le hi.1.2 mu9.size⟩)
    have n4 := q1.st.n4
    have hq1 := q1.st.oq
    have hq2 := q1.st.og
    have hq3 := q1.st.ob
    rw [HD.out.1 _ _ _ q2]
    rw [← HD0.out] at q6
    exact ⟨_, rfl, by rw [← HNN.out]; exact q6, q1.st.rd.keep mu9 (by simp; omega) (by simp; omega) (by simp; omega), q1.st.mm.trans mu9 (fun i hi h => by simp at h; omega)⟩
  have hd10 : dn.length ≤ 10 := by omega
  have hz12 : z1 ≤ 1200 := (Tm.decs_back (Tm.dec_back m) _ _ _ _ _ _ (by omega) hdc).2.2.2.2.1
  have HDN := Lib.hid hd10
  have IH0 := fun v (hv : L0 w q g b b4 b5 (x.toNat : Int) ((y.toNat : Int)) ((nn : Int)) ⟨#[]⟩ v A0 c0 dn ts l1 (z1 : Int) Sk) => HD.out.2.2.1 q g b l1 z1 v hv.st.rd (GL hv.st) HD.out.2.2.2.1 HD.out.2.2.2.2 hz12
  have hsn := Tm.decs_snoc (Tm.dec m) j (r3) (s + 1)
  rw [hdc] at hsn
  simp only [] at hsn
  have HI0 := hL
  clear hd10 hz12 hdc hL
  cases hdec : Tm.dec m l1 z1 with
  | error er =>
    rw [hdec] at hsn
    have hfull : Tm.decs (Tm.dec m) N (r3) (s + 1) = .error er := by
      have := Tm.decs_err (Tm.dec m) hsn (N - (j + 1))
      rwa [show j + 1 + (N - (j + 1)) = N by omega] at this
    have hDe := HD.out.2.1 _ hfull
    have IHC := IH0
    rw [hdec] at IHC
    rw [hDe]
    clear hsn hfull hDe hdec IH0
    go_wp2_with fail
    refine wp_region_upxd (X := XT) ⟨⟨tmc 0 0 0 ⟨#[]⟩ none 0 0, rfl, tmc_one _ _ _ _ _ _ _⟩, 0, none, 0, fun _ => False⟩ (fun x0 => [(63, .pointer (some ⟨b5, 4, none⟩)), (64, .slice A0 dn.length c0), (65, .pointer (some ⟨q, 0, none⟩)), (66, .int .i64 deep), (67, .int .i64 (61 - (m : Int))), (68, .agg (c5v x0.cs).toArray), (69, .slice (some ⟨x0.y, 0, none⟩) 1 1), (70, .slice x0.A (dn.length + 1) x0.c), (71, .pointer (some ⟨b5, 4, none⟩))]) 74 [63, 64, 65, 66, 67, 68, 69, 70, 71] rfl (fun _ => rfl) (by decide) (by kernel_rfl)
      (fun x0 lz v => lz 5 = false ∧ L0 w q g b b4 b5 ((x.toNat : Int)) ((y.toNat : Int)) ((nn : Int)) (⟨#[]⟩) v A0 c0 dn ts l1 (z1 : Int) Sk) (by kernel_rfl) ⟨rfl, HI0.still (Mod.drew [] _)⟩ (by kernel_rfl) (by kernel_rfl) ?step ?fin
    case step =>
      intro x0 lz T v j o hj hlj hdep hst hpar hgot hcl hdf Kq hK
      have hjn : j < 10 := (Array.getElem?_eq_some_iff.1 hj).1
      obtain ⟨q5, hS⟩ := hst
      obtain rfl | rfl | rfl | rfl | rfl | rfl | rfl | rfl | rfl | rfl : j = 0 ∨ j = 1 ∨ j = 2 ∨ j = 3 ∨ j = 4 ∨ j = 5 ∨ j = 6 ∨ j = 7 ∨ j = 8 ∨ j = 9 := by omega
      all_goals (have hj' := Option.some.inj (hj : some _ = some o); subst hj'; clear hj)
      · exact wp_ran rfl (exec_fa4 rfl (eval_tmp ((hpar 5 rfl).trans rfl))) (hK x0 _ _ (fun _ _ _ _ _ _ => rfl) (fun s hs => by cases hs; rfl) ⟨by simpa using q5, hS⟩)
      · exact wp_ran rfl (exec_load rfl (eval_tmp (hgot 0 _ 63 rfl (hdep ⟨0, .data⟩ (by simp) rfl) rfl)) (run_load1 Tryd.underlying22 rfl (show v.cell? ⟨b5, 4, none⟩ = some (.slice A0 dn.length c0) from hS.st.h5.cell 4))) (hK x0 _ _ (fun _ _ _ _ _ _ => rfl) (fun s hs => by cases hs; rfl) ⟨by simpa using q5, hS⟩)
      · exact wp_ran rfl (exec_move rfl (eval_tmp ((hpar 0 rfl).trans rfl))) (hK x0 _ _ (fun _ _ _ _ _ _ => rfl) (fun s hs => by cases hs; rfl) ⟨by simpa using q5, hS⟩)
      · exact wp_ran rfl (exec_move rfl (eval_tmp ((hpar 1 rfl).trans rfl))) (hK x0 _ _ (fun _ _ _ _ _ _ => rfl) (fun s hs => by cases hs; rfl) ⟨by simpa using q5, hS⟩)
      · exact wp_ran rfl (exec_add rfl (eval_tmp (hgot 3 _ 66 rfl (hdep ⟨3, .data⟩ (by simp) rfl) rfl)) rfl HDW.out) (hK x0 _ _ (fun _ _ _ _ _ _ => rfl) (fun s hs => by cases hs; rfl) ⟨by simpa using q5, hS⟩)
      · refine wp_threw rfl (exec_call2 rfl rfl (eval_tmp (hgot 2 _ 65 rfl (hdep ⟨2, .data⟩ (by simp) rfl) rfl)) (eval_tmp (hgot 4 _ 67 rfl (hdep ⟨4, .data⟩ (by simp) rfl) rfl)) (enters_of Tryd.func98 (by kernel_rfl) rfl)) ((IHC v hS).mono ?_)
        rintro e v' ⟨rfl, m⟩
        exact ⟨_, rfl, hdf, rfl, hS.st.mm.trans m (fun _ _ h => h)⟩
      · exact absurd (hdep ⟨5, .data⟩ (by simp) rfl) (by rw [q5]; simp)
      · have h6 := hdep ⟨6, .data⟩ (by simp) rfl
        exact absurd (hcl 6 _ rfl h6 ⟨5, .data⟩ (by simp) rfl) (by rw [q5]; simp)
      · exact wp_ran rfl (exec_fa4 rfl (eval_tmp ((hpar 5 rfl).trans rfl))) (hK x0 _ _ (fun _ _ _ _ _ _ => rfl) (fun s hs => by cases hs; rfl) ⟨by simpa using q5, hS⟩)
      · have h7 := hdep ⟨7, .data⟩ (by simp) rfl
        have h6 := hcl 7 _ rfl h7 ⟨6, .data⟩ (by simp) rfl
        exact absurd (hcl 6 _ rfl h6 ⟨5, .data⟩ (by simp) rfl) (by rw [q5]; simp)
    case fin =>
    intro x0 lz vr hlz hst
    exact absurd (hlz 5 (by decide)) (by rw [hst.1]; simp)
  | ok p =>
    obtain ⟨t, l2, z2⟩ := p
    rw [hdec] at hsn
    have IHC := IH0
    rw [hdec] at IHC
    have HSN := Lib.hid (And.intro hsn hjd)
    clear hsn hdec IH0 hjd
    go_wp2_with fail
    refine wp_region_upxd (X := XT) ⟨⟨tmc 0 0 0 ⟨#[]⟩ none 0 0, rfl, tmc_one _ _ _ _ _ _ _⟩, 0, none, 0, fun _ => False⟩ (fun x0 => [(63, .pointer (some ⟨b5, 4, none⟩)), (64, .slice A0 dn.length c0), (65, .pointer (some ⟨q, 0, none⟩)), (66, .int .i64 deep), (67, .int .i64 (61 - (m : Int))), (68, .agg (c5v x0.cs).toArray), (69, .slice (some ⟨x0.y, 0, none⟩) 1 1), (70, .slice x0.A (dn.length + 1) x0.c), (71, .pointer (some ⟨b5, 4, none⟩))]) 74 [63, 64, 65, 66, 67, 68, 69, 70, 71] rfl (fun _ => rfl) (by decide) (by kernel_rfl)
      (fun x0 lz v => ∃ ns : Nat, lz 5 = decide (1 ≤ ns) ∧ lz 6 = decide (2 ≤ ns) ∧ lz 7 = decide (3 ≤ ns) ∧ lz 9 = decide (4 ≤ ns) ∧ Stg w q g b b4 b5 ((x.toNat : Int)) ((y.toNat : Int)) ((nn : Int)) (⟨#[]⟩) A0 c0 dn ts l1 (z1 : Int) Sk l2 (z2 : Int) t x0 v ns) (by kernel_rfl) ⟨0, rfl, rfl, rfl, rfl, HI0.still (Mod.drew [] _)⟩ (by kernel_rfl) (by kernel_rfl) ?step ?fin
    case step =>
      intro x0 lz T v j o hj hlj hdep hst hpar hgot hcl hdf Kq hK
      have hjn : j < 10 := (Array.getElem?_eq_some_iff.1 hj).1
      obtain ⟨ns, q5, q6, q7, q9, hS⟩ := hst
      obtain rfl | rfl | rfl | rfl | rfl | rfl | rfl | rfl | rfl | rfl : j = 0 ∨ j = 1 ∨ j = 2 ∨ j = 3 ∨ j = 4 ∨ j = 5 ∨ j = 6 ∨ j = 7 ∨ j = 8 ∨ j = 9 := by omega
      all_goals (have hj' := Option.some.inj (hj : some _ = some o); subst hj'; clear hj)
      · exact wp_ran rfl (exec_fa4 rfl (eval_tmp ((hpar 5 rfl).trans rfl))) (hK x0 _ _ (fun _ _ _ _ _ _ => rfl) (fun s hs => by cases hs; rfl) ⟨ns, by simpa using q5, by simpa using q6, by simpa using q7, by simpa using q9, hS⟩)
      · have n4 : ns ≤ 3 := by
          rcases Nat.lt_or_ge ns 4 with h | h
          · omega
          · have h9 : lz 9 = true := by rw [q9]; simpa using h
            have h7 := hcl 9 _ rfl h9 ⟨7, .data⟩ (by simp) rfl
            have h1 := hcl 7 _ rfl h7 ⟨1, .data⟩ (by simp) rfl
            rw [hlj] at h1; cases h1
        exact wp_ran rfl (exec_load rfl (eval_tmp (hgot 0 _ 63 rfl (hdep ⟨0, .data⟩ (by simp) rfl) rfl)) (run_load1 Tryd.underlying22 rfl (hS.old n4))) (hK x0 _ _ (fun _ _ _ _ _ _ => rfl) (fun s hs => by cases hs; rfl) ⟨ns, by simpa using q5, by simpa using q6, by simpa using q7, by simpa using q9, hS⟩)
      · exact wp_ran rfl (exec_move rfl (eval_tmp ((hpar 0 rfl).trans rfl))) (hK x0 _ _ (fun _ _ _ _ _ _ => rfl) (fun s hs => by cases hs; rfl) ⟨ns, by simpa using q5, by simpa using q6, by simpa using q7, by simpa using q9, hS⟩)
      · exact wp_ran rfl (exec_move rfl (eval_tmp ((hpar 1 rfl).trans rfl))) (hK x0 _ _ (fun _ _ _ _ _ _ => rfl) (fun s hs => by cases hs; rfl) ⟨ns, by simpa using q5, by simpa using q6, by simpa using q7, by simpa using q9, hS⟩)
      · exact wp_ran rfl (exec_add rfl (eval_tmp (hgot 3 _ 66 rfl (hdep ⟨3, .data⟩ (by simp) rfl) rfl)) rfl HDW.out) (hK x0 _ _ (fun _ _ _ _ _ _ => rfl) (fun s hs => by cases hs; rfl) ⟨ns, by simpa using q5, by simpa using q6, by simpa using q7, by simpa using q9, hS⟩)
      · have n0 : ns = 0 := by
          rw [hlj] at q5
          have := of_decide_eq_false q5.symm
          omega
        subst n0
        refine wp_called rfl (exec_call2 rfl rfl (eval_tmp (hgot 2 _ 65 rfl (hdep ⟨2, .data⟩ (by simp) rfl) rfl)) (eval_tmp (hgot 4 _ 67 rfl (hdep ⟨4, .data⟩ (by simp) rfl) rfl)) (enters_of Tryd.func98 (by kernel_rfl) rfl)) ((IHC v hS).mono ?_)
        rintro e v' ⟨cs, rfl, hT, hr, m⟩
        have hnx := hS.call (cs := ⟨cs, hT.len, hT.one⟩) hr m hT
        have q6' : lz 6 = false := q6
        have q7' : lz 7 = false := q7
        have q9' : lz 9 = false := q9
        exact ⟨_, rfl, hK { x0 with cs := ⟨cs, hT.len, hT.one⟩, S := Btw v.heap.size v'.heap.size } _ _ (fun j' o' s' g1 g2 g3 => by
            have g4 : j' < 10 := (Array.getElem?_eq_some_iff.1 g1).1
            clear hpar hgot hdep hcl hK
            obtain rfl | rfl | rfl | rfl | rfl | rfl | rfl | rfl | rfl | rfl : j' = 0 ∨ j' = 1 ∨ j' = 2 ∨ j' = 3 ∨ j' = 4 ∨ j' = 5 ∨ j' = 6 ∨ j' = 7 ∨ j' = 8 ∨ j' = 9 := by omega
            all_goals (cases g1; cases g3 <;> first | rfl | (rw [hlj] at g2; cases g2))) (fun s hs => by cases hs; rfl) ⟨1, by simp, by simpa using q6', by simpa using q7', by simpa using q9', hnx⟩⟩
      · have h5 := hdep ⟨5, .data⟩ (by simp) rfl
        have n1 : ns = 1 := by
          rw [h5] at q5
          rw [hlj] at q6
          have a := of_decide_eq_true q5.symm
          have b := of_decide_eq_false q6.symm
          omega
        subst n1
        obtain ⟨hS1, hS2⟩ := hS
        have q7' : lz 7 = false := q7
        have q9' : lz 9 = false := q9
        have hx : T.eval (.tmp 68) = .agg (c5v x0.cs).toArray := (eval_tmp (hgot 5 _ 68 rfl (hdep ⟨5, .data⟩ (by simp) rfl) rfl))
        exact wp_ran rfl (exec_lit22 rfl hx (c5_len x0.cs)) (hK { x0 with y := v.heap.size } _ _ (fun j' o' s' g1 g2 g3 => by
            have g4 : j' < 10 := (Array.getElem?_eq_some_iff.1 g1).1
            clear hpar hgot hdep hcl hK
            obtain rfl | rfl | rfl | rfl | rfl | rfl | rfl | rfl | rfl | rfl : j' = 0 ∨ j' = 1 ∨ j' = 2 ∨ j' = 3 ∨ j' = 4 ∨ j' = 5 ∨ j' = 6 ∨ j' = 7 ∨ j' = 8 ∨ j' = 9 := by omega
            all_goals (cases g1; cases g3 <;> first | rfl | (rw [hlj] at g2; cases g2))) (fun s hs => by cases hs; rfl) ⟨2, by simpa using h5, by simp, by simpa using q7', by simpa using q9', hS1.still (Mod.alloc [] v _), hS2.still (Mod.alloc [] v _), Holds.made v 24 (c5v x0.cs)⟩)
      · have h6 := hdep ⟨6, .data⟩ (by simp) rfl
        have n2 : ns = 2 := by
          rw [h6] at q6
          rw [hlj] at q7
          have a := of_decide_eq_true q6.symm
          have b := of_decide_eq_false q7.symm
          omega
        subst n2
        obtain ⟨hS1, hS2, hS3⟩ := hS
        have h5 : lz 5 = true := q5
        have q9' : lz 9 = false := q9
        obtain ⟨A', c', v', hr, ho, hm, hf⟩ := append1 v A0 c0 dn x0.cs x0.y hS1.own hS3 HDN.out
        exact wp_ran rfl (exec_append rfl (eval_tmp (hgot 1 _ 64 rfl (hdep ⟨1, .data⟩ (by simp) rfl) rfl)) (eval_tmp (hgot 6 _ 69 rfl (hdep ⟨6, .data⟩ (by simp) rfl) rfl)) hr) (hK { x0 with A := A', c := c' } _ _ (fun j' o' s' g1 g2 g3 => by
            have g4 : j' < 10 := (Array.getElem?_eq_some_iff.1 g1).1
            clear hpar hgot hdep hcl hK
            obtain rfl | rfl | rfl | rfl | rfl | rfl | rfl | rfl | rfl | rfl : j' = 0 ∨ j' = 1 ∨ j' = 2 ∨ j' = 3 ∨ j' = 4 ∨ j' = 5 ∨ j' = 6 ∨ j' = 7 ∨ j' = 8 ∨ j' = 9 := by omega
            all_goals (cases g1; cases g3 <;> first | rfl | (rw [hlj] at g2; cases g2))) (fun s hs => by cases hs; rfl) ⟨3, by simpa using h5, by simpa using h6, by simp, by simpa using q9', hS1.app hS2 ho hm hf⟩)
      · exact wp_ran rfl (exec_fa4 rfl (eval_tmp ((hpar 5 rfl).trans rfl))) (hK x0 _ _ (fun _ _ _ _ _ _ => rfl) (fun s hs => by cases hs; rfl) ⟨ns, by simpa using q5, by simpa using q6, by simpa using q7, by simpa using q9, hS⟩)
      · have h7 := hdep ⟨7, .data⟩ (by simp) rfl
        have n3 : ns = 3 := by
          rw [h7] at q7
          rw [hlj] at q9
          have a := of_decide_eq_true q7.symm
          have b := of_decide_eq_false q9.symm
          omega
        subst n3
        have h5 : lz 5 = true := q5
        have h6 : lz 6 = true := q6
        have hl9 : (dn ++ [x0.cs]).length = dn.length + 1 := by simp
        have hS' : L3 w q g b b4 b5 ((x.toNat : Int)) ((y.toNat : Int)) ((nn : Int)) (⟨#[]⟩) v A0 c0 ((dn ++ [x0.cs]).length - 1) x0.A x0.c (dn ++ [x0.cs]) (ts ++ [t]) l2 z2 (fun i => Sk i ∨ x0.S i) := by rw [hl9]; exact hS
        obtain ⟨it, i1, i2⟩ : ∃ it, Tryd.prog.info? 22 = some it ∧ it.size = 1 := it22
        exact wp_ran_skip rfl (exec_store1 rfl (eval_tmp (hgot 8 _ 71 rfl (hdep ⟨8, .data⟩ (by simp) rfl) rfl)) ((eval_tmp (hgot 7 _ 70 rfl (hdep ⟨7, .data⟩ (by simp) rfl) rfl)).trans (by rw [hl9])) rfl i1 i2 hS.st.h5.at4 (hS.st.h5.free 4)) (hK x0 undef _ (fun _ _ _ _ _ _ => rfl) (fun s hs => by cases hs) ⟨4, by simpa using h5, by simpa using h6, by simpa using h7, by simp, hS'.put⟩)
    case fin =>
    intro x0 lz vr hlz hst
    obtain ⟨ns, q5, q6, q7, q9, hS⟩ := hst
    have n4 : 4 ≤ ns := by rw [hlz 9 (by decide)] at q9; exact of_decide_eq_true q9.symm
    have hS4 : L0 w q g b b4 b5 (x.toNat : Int) ((y.toNat : Int)) ((nn : Int)) ⟨#[]⟩ vr x0.A x0.c (dn ++ [x0.cs]) (ts ++ [t]) l2 (z2 : Int) (fun i => Sk i ∨ x0.S i) := by
      obtain ⟨i, rfl⟩ : ∃ i, ns = i + 4 := ⟨ns - 4, by omega⟩
      exact hS
    clear hS q5 q6 q7 q9 n4 hlz IHC HI0
    simp only [setAll, List.foldl_cons, List.foldl_nil, List.set_cons_succ, List.set_cons_zero]
    go_wp2_with fail
    exact ⟨⟨j + 1, x0.A, x0.c, dn ++ [x0.cs], ts ++ [t], l2, z2, _, by go_num, by omega, by rw [HSN.out.2]; simp, hS4, HSN.out.1⟩, by simp [intOf]; omega⟩
end
end Go.Proofs.YtchanildogjhgaaDoor

