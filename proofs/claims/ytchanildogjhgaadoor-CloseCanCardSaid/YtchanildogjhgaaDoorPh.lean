/-
  How many terms there are: count, large; right. My own work.
-/
import Derived.Test.YtchanildogjhgaaDoorPg
namespace Go.Proofs.YtchanildogjhgaaDoor
section
open Go.RowKit Go.Shelf
attribute [local go_sem] Oper.semAt_some
set_option linter.unusedVariables false
set_option linter.unusedSimpArgs false
def CntQ (w : World) (t : Tm) (m v : Int) (w' : World) : Prop := (1 ≤ v ∨ m + 1 ≤ v) ∧ (v ≤ 1 ∨ v ≤ m + 1) ∧ (v ≤ m → v = (t.count : Int)) ∧ Mod [] w w'
def CntR (w : World) (t : Tm) (m : Int) (e : Ending) (w' : World) : Prop := ∃ v : Int, e = .returned (.int .i64 v) ∧ CntQ w t m v w'
def CountAll (f : Nat) : Prop := ∀ (t : Tm) (cs : List Value) (S : Nat → Prop) (deep m : Int) (w : World), TIs w S t cs → 1 ≤ deep → deep ≤ 21 → 21 - deep ≤ f → -1000 + (f : Int) ≤ m → m ≤ 1000 →
  Calls Tryd.prog 58 #[.agg cs.toArray, .int .i64 deep, .int .i64 m] w (CntR w t m)
theorem cntQ_big {w : World} {t : Tm} {m : Int} {w' : World} (h : Mod [] w w') : CntQ w t m (m + 1) w' := ⟨.inr (Int.le_refl _), .inr (Int.le_refl _), fun h => by omega, h⟩
set_option maxRecDepth 1000000 in
set_option maxHeartbeats 4000000 in
theorem count_deep (t : Tm) (k u n : Int) (s : ByteArray) (A : Option Addr) (len c : Nat) (deep m : Int) (w : World) (d0 : 1 ≤ deep) (d1 : deep ≤ 21) (r0 : -1000 ≤ m) (r1 : m ≤ 1000) (hA : decide (20 < deep) = true) :
    Calls Tryd.prog 58 #[.agg (tmc k u n s A len c).toArray, .int .i64 deep, .int .i64 m] w (CntR w t m) := by
  have F0 := Fm.nil w
  go_enter Tryd.func58, Tryd.ntmps58
  go_wp2_with (first
    | (with_reducible refine fm_box F0 (o := ⟨some 3, .box 24 (.tmp 0), _, _, _, _⟩) rfl 24 (.tmp 0) rfl (tmc k u n s A len c) rfl ?_; intro b w1 F1; clear F0))
  go_ret
  exact ⟨m + 1, rfl, cntQ_big F1.m⟩
set_option maxRecDepth 1000000 in
set_option maxHeartbeats 4000000 in
theorem count_wide (t : Tm) (k u n : Int) (s : ByteArray) (A : Option Addr) (len c : Nat) (deep m : Int) (w : World) (d0 : 1 ≤ deep) (d1 : deep ≤ 21) (r0 : -1000 ≤ m) (r1 : m ≤ 1000) (hA : decide (20 < deep) = false) (hB : decide (4 < (len : Int)) = true) :
    Calls Tryd.prog 58 #[.agg (tmc k u n s A len c).toArray, .int .i64 deep, .int .i64 m] w (CntR w t m) := by
  have F0 := Fm.nil w
  go_enter Tryd.func58, Tryd.ntmps58
  go_wp2_with (first
    | (with_reducible refine fm_box F0 (o := ⟨some 3, .box 24 (.tmp 0), _, _, _, _⟩) rfl 24 (.tmp 0) rfl (tmc k u n s A len c) rfl ?_; intro b w1 F1; clear F0
       have e3 := (F1.blk 0 rfl).cell 3
       have e4 := (F1.blk 0 rfl).cell 4
       simp only [tmc, List.getElem?_cons_succ, List.getElem?_cons_zero] at e3 e4))
  go_ret
  exact ⟨m + 1, rfl, cntQ_big F1.m⟩
set_option maxRecDepth 1000000 in
set_option maxHeartbeats 4000000 in
theorem count_long (t : Tm) (k u n : Int) (s : ByteArray) (A : Option Addr) (len c : Nat) (deep m : Int) (w : World) (d0 : 1 ≤ deep) (d1 : deep ≤ 21) (r0 : -1000 ≤ m) (r1 : m ≤ 1000) (hA : decide (20 < deep) = false) (hB : decide (4 < (len : Int)) = false) (hC : decide (200 < (s.size : Int)) = true) :
    Calls Tryd.prog 58 #[.agg (tmc k u n s A len c).toArray, .int .i64 deep, .int .i64 m] w (CntR w t m) := by
  have F0 := Fm.nil w
  go_enter Tryd.func58, Tryd.ntmps58
  go_wp2_with (first
    | (with_reducible refine fm_box F0 (o := ⟨some 3, .box 24 (.tmp 0), _, _, _, _⟩) rfl 24 (.tmp 0) rfl (tmc k u n s A len c) rfl ?_; intro b w1 F1; clear F0
       have e3 := (F1.blk 0 rfl).cell 3
       have e4 := (F1.blk 0 rfl).cell 4
       simp only [tmc, List.getElem?_cons_succ, List.getElem?_cons_zero] at e3 e4))
  go_ret
  exact ⟨m + 1, rfl, cntQ_big F1.m⟩
set_option maxRecDepth 1000000 in
set_option maxHeartbeats 4000000 in
theorem count_fit (f : Nat) (ih : CountAll f) (k u n : Int) (s : ByteArray) (A : Option Addr) (len c : Nat) (l : List Tm) (vs : List (List Value)) (S : Nat → Prop) (deep m : Int) (w : World) (hlen : len = l.length) (hr : RowT w S A vs l) (d0 : 1 ≤ deep) (d1 : deep ≤ 20) (hf : 20 - deep ≤ f) (hf2 : f ≤ 20) (r0 : -999 + (f : Int) ≤ m) (r1 : m ≤ 1000) (hA : decide (20 < deep) = false) (h4 : len ≤ 4) (hB : decide (4 < (len : Int)) = false) (hC : decide (200 < (s.size : Int)) = false) :
    Calls Tryd.prog 58 #[.agg (tmc k u n s A len c).toArray, .int .i64 deep, .int .i64 m] w (CntR w (.mk k u n s l) m) := by
  have F0 := Fm.nil w
  have HR := Lib.hid (And.intro hlen (And.intro hr ih))
  clear hlen hr ih
  go_enter Tryd.func58, Tryd.ntmps58
  go_wp2_with (first
    | (with_reducible refine fm_box F0 (o := ⟨some 3, .box 24 (.tmp 0), _, _, _, _⟩) rfl 24 (.tmp 0) rfl (tmc k u n s A len c) rfl ?_; intro b w1 F1; clear F0
       have e3 := (F1.blk 0 rfl).cell 3
       have e4 := (F1.blk 0 rfl).cell 4
       simp only [tmc, List.getElem?_cons_succ, List.getElem?_cons_zero] at e3 e4))
  clear e3 e4 hA hB hC
  have HM := Lib.hid F1.m
  clear F1
  go_loopw [7, 29] (fun z iv wr => ∃ (j : Nat) (q : Int), iv = .int .i64 j ∧ z = .int .i64 q ∧ j ≤ len ∧ 1 ≤ q ∧ (q ≤ m ∨ j = 0) ∧ q ≤ 1001 ∧ Hid (q = 1 + (Tm.countAll (l.take j) : Int)) ∧ Mod [] w wr) (fun _ iv _ => len - (intOf iv).toNat)
  case atStart => exact ⟨0, 1, rfl, rfl, by omega, by omega, .inr rfl, by omega, Lib.hid (by simp [Tm.countAll]), HM.out⟩
  case round =>
  obtain ⟨j, q, rfl, rfl, hj, hq1, hqm, hq2, hq, mr⟩ := hrel
  by_cases hjl : j < len
  case neg =>
    obtain rfl : len = j := by omega
    go_wp2_with fail
    go_ret
    have hc := hq.out
    rw [HR.out.1, List.take_length] at hc
    refine ⟨q, rfl, .inl hq1, ?_, fun _ => by rw [hc, Tm.count]; omega, mr⟩
    rcases hqm with h | h
    · exact .inr (by omega)
    · have hl : l = [] := List.eq_nil_of_length_eq_zero (by rw [← HR.out.1]; exact h)
      rw [hl] at hc
      exact .inl (by simp [Tm.countAll] at hc; omega)
  have hjl' : j < l.length := by rw [← HR.out.1]; exact hjl
  obtain ⟨g, o, cs, rfl, hcE, hT, hcs, hSg⟩ := HR.out.2.1.elem j hjl'
  replace hcE := hcE.keep mr (by simp)
  have hone := hT.one
  have hmf : -1000 + (f : Int) ≤ m - q := by
    rcases hqm with h | h
    · omega
    · subst h
      have := hq.out
      simp [Tm.countAll] at this
      omega
  have IHC := fun v (mv : Mod [] w v) => HR.out.2.2 l[j] cs S (deep + 1) (m - q) v (hT.keep mv (by simp)) (by omega) (by omega) (by omega) hmf (by omega)
  have hct := count_take l j hjl'
  have HX := Lib.hid (And.intro hT hct)
  have F1 := (Fm.nil w).call mr
  have HMR := Lib.hid mr
  clear hT hct hSg mr hqm
  go_wp2_with (first
    | (with_reducible refine wpList_loads (o := ⟨some 32, .load 24 (.tmp 31), _, _, _, _⟩) rfl 24 (.tmp 31) rfl g (o + j * 5) cs rfl hcE _ Tryd.underlying24 rfl (size24' hcs) (.agg cs.toArray) rfl ?_)
    | (with_reducible refine fm_alloc F1 (o := ⟨some 9, .alloc 24, _, _, _, _⟩) rfl 24 rfl _ zero24 ?_; intro b2 w2 F2; clear F1)
    | (with_reducible refine fm_store F2 0 rfl (o := ⟨none, .store 24 (.tmp 9) (.tmp 32), _, _, _, _⟩) rfl (.tmp 9) (.tmp 32) rfl rfl cs rfl rfl hcs (tmc_len _ _ _ _ _ _ _) hone ?_; intro w3 F3; clear F2)
    | (with_reducible refine fm_load F3 0 rfl (o := ⟨some 34, .load 24 (.tmp 9), _, _, _, _⟩) rfl (.tmp 9) rfl rfl hcs ?_)
    | (go_at_call 58; refine (IHC w3 F3.m).mono ?_
       rintro e w4 ⟨v, rfl, v1, v2, v3, v4⟩
       have F4 := F3.call v4
       obtain ⟨bq, hbq⟩ : ∃ b, b = decide (m < q + v) := ⟨_, rfl⟩
       have HBQ := Lib.hid hbq
       replace v3 := Lib.hid v3
       clear IHC F3 v4 hbq)
    | (with_reducible refine wpList_ran (o := ⟨some 44, _, _, _, _, _⟩) rfl (.bool bq) (exec_gtr HBQ.out.symm rfl rfl rfl) ?_))
  · go_ret
    exact ⟨m + 1, rfl, cntQ_big F4.m⟩
  · have hm : ¬ (m < q + v) := of_decide_eq_false (HBQ.out.symm.trans ‹bq = false›)
    have hv := v3.out (by omega)
    have hc := HX.out.2
    have hqq := hq.out
    have hp : 1 ≤ v := by have := Tm.count_pos l[j]; omega
    exact ⟨⟨j + 1, q + v, by go_num, rfl, by omega, by omega, .inl (by omega), by omega, Lib.hid (by rw [hc]; omega), F4.m⟩, by simp [intOf]; omega⟩
theorem count_all : ∀ f, f ≤ 20 → CountAll f
  | f, hf, .mk k u n s l, cs, S, deep, m, w, hT, d0, d1, d2, r0, r1 => by
    obtain ⟨A, c, vs, rfl, hr, hlc, hcm, hlm, hs⟩ := hT.row
    by_cases h1 : 20 < deep
    · exact count_deep _ k u n s A l.length c deep m w d0 d1 (by omega) r1 (by simpa using h1)
    by_cases h2 : 4 < l.length
    · exact count_wide _ k u n s A l.length c deep m w d0 d1 (by omega) r1 (by simpa using h1) (by simp; omega)
    by_cases h3 : 200 < s.size
    · exact count_long _ k u n s A l.length c deep m w d0 d1 (by omega) r1 (by simpa using h1) (by simp; omega) (by simp; omega)
    match f, hf, d2, r0 with
    | 0, hf, d2, r0 => omega
    | f + 1, hf, d2, r0 => exact count_fit f (count_all f (by omega)) k u n s A l.length c l vs S deep m w rfl hr d0 (by omega) (by omega) (by omega) (by omega) r1 (by simpa using h1) (by omega) (by simp; omega) (by simp; omega)
/-- What large says: if it says no, there are few. -/
def LargeR (w : World) (K : List Tm) (e : Ending) (w' : World) : Prop := ∃ b, e = .returned (.bool b) ∧ (b = false → K.length ≤ 30 ∧ Tm.countAll K ≤ 120) ∧ Mod [] w w'
set_option maxRecDepth 1000000 in
set_option maxHeartbeats 4000000 in
theorem large_c (A : Option Addr) (n c : Nat) (vs : List (List Value)) (K : List Tm) (S : Nat → Prop) (w : World) (hl : n = K.length) (hb : n ≤ 2199023255552) (hR : RowT w S A vs K) (hS : ∀ g, S g → g < w.heap.size) :
    Calls Tryd.prog 35 #[.slice A n c] w (LargeR w K) := by
  have F0 := (Fm.nil w).arg (tR Any S A vs K) (keeps_tR _ _ _ _ _) ⟨hR, fun _ _ => trivial⟩ hS
  have HL := Lib.hid hl
  clear hl hR hS
  go_enter Tryd.func35, Tryd.ntmps35
  go_wp2_with fail
  go_loopw [3, 8] (fun z iv wr => ∃ (j : Nat) (q : Int), iv = .int .i64 j ∧ z = .int .i64 q ∧ j ≤ n ∧ j ≤ 30 ∧ 0 ≤ q ∧ q ≤ 120 ∧ Hid (q = (Tm.countAll (K.take j) : Int)) ∧ Fm w wr [] [tR Any S A vs K]) (fun _ iv _ => n - (intOf iv).toNat)
  case atStart => exact ⟨0, 0, rfl, rfl, by omega, by omega, by omega, by omega, Lib.hid (by simp [Tm.countAll]), F0⟩
  case round =>
  clear F0
  obtain ⟨j, q, rfl, rfl, hj, hj3, hq1, hq2, hq, FJ⟩ := hrel
  by_cases hjl : j < n
  case neg =>
    obtain rfl : n = j := by omega
    go_wp2_with fail
    go_ret
    have hc := hq.out
    rw [HL.out, List.take_length] at hc
    exact ⟨false, rfl, fun _ => ⟨by rw [← HL.out]; exact hj3, by omega⟩, FJ.m⟩
  have hjq : j < K.length := by rw [← HL.out]; exact hjl
  obtain ⟨g, o, cs, rfl, h5, h1, F1⟩ := FJ.elemR (FJ.mem 0 rfl) j hjq
  replace F1 := F1.eT (F1.mem 0 rfl)
  clear FJ
  have hct := Lib.hid (count_take K j hjq)
  have CA := fun (w5 : World) (os5 ts5 : List Th) (F5 : Fm w w5 os5 (tT Any S K[j] cs :: ts5)) => count_all 20 (by omega) K[j] cs S 1 120 w5 (F5.ist (F5.mem 0 rfl)) (by omega) (by omega) (by omega) (by omega) (by omega)
  obtain ⟨b3, hb3⟩ : ∃ b, b = ((j : Int) == 30) := ⟨_, rfl⟩
  have HB3 := Lib.hid hb3
  clear hb3
  go_wp2_with (first
    | (with_reducible refine wpList_ran (o := ⟨some 11, _, _, _, _, _⟩) rfl (.pointer (some ⟨g, o + j * 5, none⟩)) (exec_ixs Tryd.underlying22 size24 hjl rfl rfl rfl) ?_)
    | (with_reducible refine fm_loadE F1 (F1.mem 1 rfl) (o := ⟨some 12, .load 24 (.tmp 11), _, _, _, _⟩) rfl (.tmp 11) rfl rfl h5 ?_)
    | (with_reducible refine fm_alloc F1 (o := ⟨some 5, .alloc 24, _, _, _, _⟩) rfl 24 rfl _ zero24 ?_; intro b2 w2 F2; clear F1)
    | (with_reducible refine fm_store F2 0 rfl (o := ⟨none, .store 24 (.tmp 5) (.tmp 12), _, _, _, _⟩) rfl (.tmp 5) (.tmp 12) rfl rfl cs rfl rfl h5 (tmc_len _ _ _ _ _ _ _) h1 ?_; intro w3 F3; clear F2)
    | (with_reducible refine wpList_ran (o := ⟨some 14, _, _, _, _, _⟩) rfl (.bool b3) (exec_eqi HB3.out.symm rfl rfl rfl) ?_)
    | (with_reducible refine fm_load F3 0 rfl (o := ⟨some 16, .load 24 (.tmp 5), _, _, _, _⟩) rfl (.tmp 5) rfl rfl h5 ?_)
    | (go_at_call 58; refine (CA w3 _ _ F3).mono ?_
       rintro e w4 ⟨v, rfl, v1, v2, v3, v4⟩
       have F4 := F3.call v4
       obtain ⟨bq, hbq⟩ : ∃ b, b = decide (120 < q + v) := ⟨_, rfl⟩
       have HBQ := Lib.hid hbq
       replace v3 := Lib.hid v3
       clear CA F3 v4 hbq)
    | (with_reducible refine wpList_ran (o := ⟨some 20, _, _, _, _, _⟩) rfl (.bool bq) (exec_gtr HBQ.out.symm rfl rfl rfl) ?_))
  · go_ret
    exact ⟨true, rfl, fun h => (by cases h), F3.m⟩
  · go_ret
    exact ⟨true, rfl, fun h => (by cases h), F4.m⟩
  · have hm : ¬ (120 < q + v) := of_decide_eq_false (HBQ.out.symm.trans ‹bq = false›)
    have h30 : ((j : Int) == 30) = false := HB3.out.symm.trans ‹b3 = false›
    have h30' : j ≠ 30 := by intro e; subst e; simp at h30
    have hc := hct.out
    have hqq := hq.out
    by_cases hv : v ≤ 120
    · have := v3.out hv
      exact ⟨⟨j + 1, q + v, by go_num, rfl, by omega, by omega, by omega, by omega, Lib.hid (by rw [hc]; omega), F4.sub (List.nil_sublist _) (fun y hy => by simp at hy; subst hy; simp)⟩, by simp [intOf]; omega⟩
    · omega
def RightAll (K : List Tm) : Bool := K.all Tm.right
theorem rightAll_iff (K : List Tm) : RightAll K = true ↔ ∀ t ∈ K, t.right = true := List.all_eq_true
set_option maxRecDepth 1000000 in
set_option maxHeartbeats 4000000 in
theorem right_c (A : Option Addr) (n c : Nat) (vs : List (List Value)) (K : List Tm) (S : Nat → Prop) (w : World) (hl : n = K.length) (hb : n ≤ 2199023255552) (hR : RowT w S A vs K) (hS : ∀ g, S g → g < w.heap.size) :
    Calls Tryd.prog 37 #[.slice A n c] w fun e w' => e = .returned (.bool (RightAll K)) ∧ Mod [] w w' := by
  have F0 := (Fm.nil w).arg (tR Any S A vs K) (keeps_tR _ _ _ _ _) ⟨hR, fun _ _ => trivial⟩ hS
  have HL := Lib.hid hl
  clear hl hR hS
  obtain ⟨ra, hra⟩ : ∃ b, b = RightAll K := ⟨_, rfl⟩
  rw [← hra]
  have HRA := Lib.hid hra
  clear hra
  go_enter Tryd.func37, Tryd.ntmps37
  go_wp2_with fail
  go_loopw [7] (fun iv wr => ∃ (j : Nat), iv = .int .i64 j ∧ j ≤ n ∧ Hid (∀ t ∈ K.take j, t.right = true) ∧ Fm w wr [] [tR Any S A vs K]) (fun iv _ => n - (intOf iv).toNat)
  case atStart => exact ⟨0, rfl, by omega, Lib.hid (by simp), F0⟩
  case round =>
  clear F0
  obtain ⟨j, rfl, hj, hq, FJ⟩ := hrel
  by_cases hjl : j < n
  case neg =>
    obtain rfl : n = j := by omega
    go_wp2_with fail
    go_ret
    have hc := hq.out
    rw [HL.out, List.take_length] at hc
    rw [HRA.out, (rightAll_iff K).2 hc]
    exact ⟨rfl, FJ.m⟩
  have hjq : j < K.length := by rw [← HL.out]; exact hjl
  obtain ⟨g, o, cs, rfl, h5, h1, F1⟩ := FJ.elemR (FJ.mem 0 rfl) j hjq
  replace F1 := F1.eT (F1.mem 0 rfl)
  clear FJ
  have CA := fun (w5 : World) (os5 ts5 : List Th) (F5 : Fm w w5 os5 (tT Any S K[j] cs :: ts5)) => rright_c K[j] cs S w5 (F5.ist (F5.mem 0 rfl))
  obtain ⟨rj, hrj⟩ : ∃ b, b = (K[j]'hjq).right := ⟨_, rfl⟩
  rw [← hrj] at CA
  have HRJ := Lib.hid hrj
  clear hrj
  cases rj with
  | true =>
    go_wp2_with (first
      | (with_reducible refine wpList_ran (o := ⟨some 9, _, _, _, _, _⟩) rfl (.pointer (some ⟨g, o + j * 5, none⟩)) (exec_ixs Tryd.underlying22 size24 hjl rfl rfl rfl) ?_)
      | (with_reducible refine fm_loadE F1 (F1.mem 1 rfl) (o := ⟨some 10, .load 24 (.tmp 9), _, _, _, _⟩) rfl (.tmp 9) rfl rfl h5 ?_)
      | (with_reducible refine fm_alloc F1 (o := ⟨some 4, .alloc 24, _, _, _, _⟩) rfl 24 rfl _ zero24 ?_; intro b2 w2 F2; clear F1)
      | (with_reducible refine fm_store F2 0 rfl (o := ⟨none, .store 24 (.tmp 4) (.tmp 10), _, _, _, _⟩) rfl (.tmp 4) (.tmp 10) rfl rfl cs rfl rfl h5 (tmc_len _ _ _ _ _ _ _) h1 ?_; intro w3 F3; clear F2)
      | (with_reducible refine fm_load F3 0 rfl (o := ⟨some 11, .load 24 (.tmp 4), _, _, _, _⟩) rfl (.tmp 4) rfl rfl h5 ?_)
      | (go_at_call 29; refine (CA w3 _ _ F3).mono ?_
         rintro e w4 ⟨rfl, v4⟩
         have F4 := F3.call v4
         clear CA F3 v4))
    refine ⟨⟨j + 1, by go_num, by omega, Lib.hid fun t ht => ?_, F4.sub (List.nil_sublist _) (fun y hy => by simp at hy; subst hy; simp)⟩, by simp [intOf]; omega⟩
    rw [List.take_succ_eq_append_getElem hjq] at ht
    rcases List.mem_append.1 ht with h | h
    · exact hq.out t h
    · simp at h; subst h; exact HRJ.out.symm
  | false =>
    go_wp2_with (first
      | (with_reducible refine wpList_ran (o := ⟨some 9, _, _, _, _, _⟩) rfl (.pointer (some ⟨g, o + j * 5, none⟩)) (exec_ixs Tryd.underlying22 size24 hjl rfl rfl rfl) ?_)
      | (with_reducible refine fm_loadE F1 (F1.mem 1 rfl) (o := ⟨some 10, .load 24 (.tmp 9), _, _, _, _⟩) rfl (.tmp 9) rfl rfl h5 ?_)
      | (with_reducible refine fm_alloc F1 (o := ⟨some 4, .alloc 24, _, _, _, _⟩) rfl 24 rfl _ zero24 ?_; intro b2 w2 F2; clear F1)
      | (with_reducible refine fm_store F2 0 rfl (o := ⟨none, .store 24 (.tmp 4) (.tmp 10), _, _, _, _⟩) rfl (.tmp 4) (.tmp 10) rfl rfl cs rfl rfl h5 (tmc_len _ _ _ _ _ _ _) h1 ?_; intro w3 F3; clear F2)
      | (with_reducible refine fm_load F3 0 rfl (o := ⟨some 11, .load 24 (.tmp 4), _, _, _, _⟩) rfl (.tmp 4) rfl rfl h5 ?_)
      | (go_at_call 29; refine (CA w3 _ _ F3).mono ?_
         rintro e w4 ⟨rfl, v4⟩
         have F4 := F3.call v4
         clear CA F3 v4))
    go_ret
    have hn : RightAll K = false := by
      cases h : RightAll K with
      | false => rfl
      | true => have := (rightAll_iff K).1 h _ (List.getElem_mem hjq); rw [← HRJ.out] at this; cases this
    rw [HRA.out, hn]
    exact ⟨rfl, F4.m⟩
end
end Go.Proofs.YtchanildogjhgaaDoor

