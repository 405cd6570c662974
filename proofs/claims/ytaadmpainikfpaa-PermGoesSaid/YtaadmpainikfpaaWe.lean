/-
  hasAll, rising, the document's set. My own work.
-/
import Derived.Test.YtaadmpainikfpaaWd
namespace Go.Proofs.Ytaadmpainikfpaa
open Go.RowKit Go.Shelf
attribute [local go_sem] Oper.semAt_some
set_option linter.unusedVariables false
set_option linter.unusedSimpArgs false
theorem drop_cons' {l : List Int} {j : Nat} (h : j < l.length) : l.drop j = l.getD j 0 :: l.drop (j + 1) := by
  rw [List.drop_eq_getElem_cons h, gd h]
set_option maxHeartbeats 1000000 in
theorem hasAll_c (A B : Option Addr) (n c m d : Nat) (l k : List Int) (b : Bool) (w : World) (h : RI w A n c l) (h2 : RI w B m d k) (hb : Hid ((k.all fun x => l.contains x) = b)) : Calls Try.prog 34 #[.slice A n c, .slice B m d] w fun e w' => e = .returned (.bool b) ∧ w' = w := by
  have hbig := h2.big
  have hcap := h2.cap
  have H := Lib.hid h
  have H2 := Lib.hid h2
  have HB : Hid (((k.drop 0).all fun x => l.contains x) = b) := Lib.hid (by rw [List.drop_zero]; exact hb.out)
  clear h h2 hb
  go_enter Try.func34, Try.ntmps34
  go_wp2_with fail
  go_loopw [9] (fun i wr => ∃ j : Nat, i = .int .i64 j ∧ j ≤ m ∧ wr = w ∧ Hid (((k.drop j).all fun x => l.contains x) = b)) (fun i _ => m - (intOf i).toNat)
  case atStart => exact ⟨0, rfl, Nat.zero_le _, rfl, HB⟩
  case round =>
  obtain ⟨j, rfl, hj, hwr, hr⟩ := hrel
  subst hwr
  clear HB
  by_cases hjn : j < m
  case neg =>
    obtain rfl : m = j := by omega
    obtain rfl : true = b := by
      have hl := H2.out.len
      rw [← hr.out, List.drop_of_length_le (by omega)]
      rfl
    go_wp2_with fail
    go_ret
    exact ⟨rfl, rfl⟩
  case pos =>
    obtain ⟨g, o, hA, hc⟩ := H2.out.at j hjn
    subst hA
    have hr2 := hr.out
    have hl := H2.out.len
    rw [drop_cons' (by omega), List.all_cons] at hr2
    clear hr hl
    obtain ⟨y, hy⟩ : ∃ y, y = k.getD j 0 := ⟨_, rfl⟩
    rw [← hy] at hc hr2
    clear hy
    obtain ⟨u, hu⟩ : ∃ u, l.contains y = u := ⟨_, rfl⟩
    rw [hu] at hr2
    have HU := Lib.hid hu
    clear hu
    cases u
    · obtain rfl : false = b := by rw [← hr2]; rfl
      clear hr2
      go_wp2_with (go_at_call 33; refine (contains_c A n c l y _ _ H.out HU).mono ?_; rintro e w' ⟨rfl, rfl⟩)
      go_ret
      exact ⟨rfl, rfl⟩
    · have HR : Hid (((k.drop (j + 1)).all fun x => l.contains x) = b) := Lib.hid (by rw [← hr2, Bool.true_and])
      clear hr2
      go_wp2_with (go_at_call 33; refine (contains_c A n c l y _ _ H.out HU).mono ?_; rintro e w' ⟨rfl, rfl⟩)
      exact ⟨⟨j + 1, by go_num, by omega, by first | rfl | trivial, HR⟩, by simp [intOf]; omega⟩
/-- The document's rising. -/
def nAt (l : List Int) (most no : Int) (j : Nat) : Bool := riseAt l most j && !(l.getD j 0 == no)
theorem riseN_all (l : List Int) (most no : Int) : riseN l most no = (List.range l.length).all (nAt l most no) := rfl
set_option maxHeartbeats 2000000 in
theorem rising_c (A : Option Addr) (n c : Nat) (l : List Int) (m no : Int) (b : Bool) (w : World) (h : RI w A n c l) (hb : Hid (riseN l m no = b)) : Calls Try.prog 35 #[.slice A n c, ci m, ci no] w fun e w' => e = .returned (.bool b) ∧ Mod [] w w' := by
  have hbig := h.big
  have hcap := h.cap
  have H := Lib.hid h
  have HB : Hid (((List.range n).drop 0).all (nAt l m no) = b) := Lib.hid (by rw [List.drop_zero, h.len]; exact hb.out)
  clear h hb
  go_enter Try.func35, Try.ntmps35
  go_wp2_with fail
  go_loopw [7] (fun i wr => ∃ j : Nat, i = .int .i64 j ∧ j ≤ n ∧ Hid (Mod [] w wr) ∧ Hid (((List.range n).drop j).all (nAt l m no) = b)) (fun i _ => n - (intOf i).toNat)
  case atStart => exact ⟨0, rfl, Nat.zero_le _, Lib.hid (Mod.refl _ _), HB⟩
  case round =>
  obtain ⟨j, rfl, hj, hm, hr⟩ := hrel
  clear HB
  by_cases hjn : j < n
  case neg =>
    obtain rfl : n = j := by omega
    obtain rfl : true = b := by rw [← hr.out, all_end]
    go_wp2_with fail
    go_ret
    exact ⟨rfl, hm.out⟩
  case pos =>
    obtain ⟨g, o, hA, hc⟩ := (H.out.call hm.out).base (by omega)
    subst hA
    have hcj := hc j hjn
    have hcp := fun hp : 0 < j => hc (j - 1) (by omega)
    clear hc
    have hr2 := hr.out
    rw [all_drop _ _ _ hjn, nAt, riseAt] at hr2
    clear hr
    obtain ⟨y, hy⟩ : ∃ y, y = l.getD j 0 := ⟨_, rfl⟩
    obtain ⟨y', hy'⟩ : ∃ y', y' = l.getD (j - 1) 0 := ⟨_, rfl⟩
    rw [← hy] at hcj hr2
    rw [← hy'] at hr2
    simp only [← hy'] at hcp
    clear hy hy'
    have HR := Lib.hid hr2
    clear hr2
    by_cases h1 : y < 1
    · obtain rfl : false = b := by rw [← HR.out, decide_eq_false (show ¬ 1 ≤ y by omega)]; rfl
      clear HR hcp
      have d1 : decide (y < 1) = true := decide_eq_true h1
      go_wp2_with fail
      go_quiet (fail)
      go_wp2_with fail
      go_ret
      exact ⟨rfl, hm.out.then (Mod.drewN _ _ _)⟩
    by_cases h2 : m < y
    · obtain rfl : false = b := by rw [← HR.out, decide_eq_false (show ¬ y ≤ m by omega), Bool.and_false]; rfl
      clear HR hcp
      have d1 : decide (y < 1) = false := decide_eq_false h1
      have d2 : decide (m < y) = true := decide_eq_true h2
      go_wp2_with fail
      go_quiet (fail)
      go_wp2_with fail
      go_ret
      exact ⟨rfl, hm.out.then (Mod.drewN _ _ _)⟩
    by_cases h3 : y = no
    · have h31 : (y == no) = true := beq_iff_eq.2 h3
      obtain rfl : false = b := by rw [← HR.out, h31]; simp
      clear HR hcp
      have d1 : decide (y < 1) = false := decide_eq_false h1
      have d2 : decide (m < y) = false := decide_eq_false h2
      clear h3
      go_wp2_with fail
      go_quiet (fail)
      go_wp2_with fail
      go_ret
      exact ⟨rfl, hm.out.then (Mod.drewN _ _ _)⟩
    have h31 : (y == no) = false := beq_eq_false_iff_ne.2 h3
    have e1 : decide (1 ≤ y) = true := decide_eq_true (by omega)
    have e2 : decide (y ≤ m) = true := decide_eq_true (by omega)
    have d1 : decide (y < 1) = false := decide_eq_false h1
    have d2 : decide (m < y) = false := decide_eq_false h2
    clear h3
    by_cases hp : 0 < j
    case neg =>
      have HR2 : Hid (((List.range n).drop (j + 1)).all (nAt l m no) = b) := Lib.hid (by
        have h0 : (j == 0) = true := by simp; omega
        rw [← HR.out, h0, h31, e1, e2]
        rfl)
      clear HR hcp e1 e2
      go_wp2_with fail
      go_quiet (fail)
      go_wp2_with fail
      exact ⟨⟨j + 1, by go_num, by omega, Lib.hid (hm.out.then (Mod.drewN _ _ _)), HR2⟩, by simp [intOf]; omega⟩
    case pos =>
      have hc2 := hcp hp
      clear hcp
      have hj1 : (1 : Int) ≤ (j : Int) := by omega
      by_cases hlt : y' < y
      · have hle : ¬ y ≤ y' := by omega
        have HR2 : Hid (((List.range n).drop (j + 1)).all (nAt l m no) = b) := Lib.hid (by
          rw [← HR.out, decide_eq_true hlt, h31, e1, e2, Bool.or_true]
          rfl)
        clear HR e1 e2
        go_wp2_with fail
        go_quiet (fail)
        go_wp2_with fail
        exact ⟨⟨j + 1, by go_num, by omega, Lib.hid (hm.out.then (Mod.drewN _ _ _)), HR2⟩, by simp [intOf]; omega⟩
      · have hle : y ≤ y' := by omega
        obtain rfl : false = b := by
          have h0 : (j == 0) = false := by simp; omega
          rw [← HR.out, decide_eq_false hlt, h0, e1, e2]
          rfl
        clear HR e1 e2 hlt
        go_wp2_with fail
        go_quiet (fail)
        go_wp2_with fail
        go_ret
        exact ⟨rfl, hm.out.then (Mod.drewN _ _ _)⟩
/-- set: the document's. -/
def setF (l : List Int) (x : Int) (is : Bool) (j : Nat) : List Int := ([1, 2, 3, 4, 5, 6].take j).filter fun k => if k == x then is else l.contains k
theorem setF_end (l : List Int) (x : Int) (is : Bool) : setF l x is 6 = setL l x is := rfl
theorem six_at : ∀ j, j < 6 → ([1, 2, 3, 4, 5, 6] : List Int).take (j + 1) = ([1, 2, 3, 4, 5, 6] : List Int).take j ++ [(j : Int) + 1] := by decide
theorem setF_step (l : List Int) (x : Int) (is : Bool) (j : Nat) (h : j < 6) : setF l x is (j + 1) = setF l x is j ++ (if (if ((j : Int) + 1) == x then is else l.contains ((j : Int) + 1)) = true then [(j : Int) + 1] else []) := by
  rw [setF, six_at j h, List.filter_append, setF, List.filter_cons, List.filter_nil]
theorem setF_le (l : List Int) (x : Int) (is : Bool) (j : Nat) : (setF l x is j).length ≤ 6 := by
  refine Nat.le_trans (List.length_filter_le _ _) ?_
  rw [List.length_take]
  exact Nat.min_le_right _ _
def SetR (w : World) (l : List Int) (e : Ending) (w' : World) : Prop := ∃ A' c', e = .returned (.slice A' l.length c') ∧ OI w' A' c' l ∧ Mod [] w w' ∧ ∀ a, A' = some a → w.heap.size ≤ a.block
theorem z3 (w : World) : (zeroValue 3).run Try.prog w = .ok (ci 0) w := by kernel_rfl
theorem exec_litI {v : World} {o : Oper} {ρ : Operand → Value} {x : Operand} {y : Int} (ho : o.op = .buildSlice 22 1 #[(0, x)]) (hx : ρ x = .int .i64 y) : (execOp ρ o).run Try.prog v = .ok (.value (.slice (some ⟨v.heap.size, 0, none⟩) 1 1)) (v.alloc (.cells [ci y].toArray 3)) := by
  obtain ⟨it, i0, i1, i2, i3⟩ := info3
  have hr := run_lit1 (P := Try.prog) (t := 22) (e := 3) (V := ci y) (cs := [ci y]) (s := 1) v Try.underlying22 i0 i2 (by omega) (by omega) z3 rfl rfl
  have hx' : ρ x = ci y := hx
  unfold execOp
  simp only [ho, List.map_toArray, List.map_cons, List.map_nil, hx', Sem.run_bind, hr, Result.andThen, Sem.run_pure]
set_option maxHeartbeats 4000000 in
theorem set_c (A : Option Addr) (n c : Nat) (l : List Int) (x : Int) (is : Bool) (w : World) (h : RI w A n c l) : Calls Try.prog 29 #[.slice A n c, ci x, .bool is] w (SetR w (setL l x is)) := by
  have H := Lib.hid h
  clear h
  go_enter Try.func29, Try.ntmps29
  go_wp2_with fail
  go_loopw [7, 8] (fun z i wr => ∃ (y : Int) (A' : Option Addr) (c' k : Nat) (j : Nat), i = .int .i64 y ∧ Hid (y = (j : Int) + 1) ∧ 1 ≤ y ∧ y ≤ 7 ∧ z = .slice A' k c' ∧ Hid (k = (setF l x is j).length) ∧ k ≤ 6 ∧ Hid (OI wr A' c' (setF l x is j) ∧ Mod [] w wr ∧ ∀ a, A' = some a → w.heap.size ≤ a.block)) (fun _ i _ => 7 - (intOf i).toNat)
  case atStart => exact ⟨1, none, 0, 0, 0, rfl, Lib.hid rfl, by omega, by omega, rfl, Lib.hid rfl, Nat.zero_le _, Lib.hid ⟨OwnG.nil fz 3 1 w, Mod.refl _ _, fun a ha => by cases ha⟩⟩
  case round =>
  obtain ⟨y, A', c', k, j, rfl, HY, hy1, hy7, rfl, hk, hk6, hw⟩ := hrel
  by_cases hy : y ≤ 6
  case neg =>
    obtain rfl : j = 6 := by have := HY.out; omega
    obtain rfl : y = 7 := by omega
    go_wp2_with fail
    go_ret
    exact ⟨A', c', by rw [hk.out, setF_end]; rfl, hw.out.1, hw.out.2⟩
  case pos =>
  have hs := setF_step l x is j (by have := HY.out; omega)
  rw [← HY.out] at hs
  obtain ⟨u, hu⟩ : ∃ u, l.contains y = u := ⟨_, rfl⟩
  rw [hu] at hs
  have HU := Lib.hid hu
  clear hu
  have h0 := hw.out.1
  have hm := hw.out.2.1
  have hbl := hw.out.2.2
  have HI := Lib.hid (H.out.call hm)
  have hkn := hk.out
  have hY1 : y + 1 = ((j + 1 : Nat) : Int) + 1 := by have := HY.out; omega
  have HY1 := Lib.hid hY1
  clear hY1
  -- what is appended
  have happ : ∀ v, Mod [] wr v → Holds v wr.heap.size 3 [ci y] → ∃ A2 c2 v2, (Builtin.append_ #[22, 22] 22 #[.slice A' k c', .slice (some ⟨wr.heap.size, 0, none⟩) 1 1]).run Try.prog v = .ok (.slice A2 (k + 1) c2) v2 ∧ Hid (OI v2 A2 c2 (setF l x is j ++ [y]) ∧ Mod [] w v2 ∧ ∀ a, A2 = some a → w.heap.size ≤ a.block) := by
    intro v m hv
    have hlt := h0.lt
    obtain ⟨A2, c2, v2, hrun, hO, hmm, hb⟩ := run_appI v 22 A' k c' (setF l x is j) hkn (h0.keep m (by simp)) (some ⟨wr.heap.size, 0, none⟩) 1 1 [y] ⟨rfl, Nat.le_refl _, by omega, Cells.of_holds hv⟩ (by omega)
    rw [List.length_append, ← hkn, List.length_singleton] at hrun
    refine ⟨A2, c2, v2, hrun, Lib.hid ⟨hO, (hm.then m).trans hmm (fun i hi hh => ?_), fun a ha => ?_⟩⟩
    · obtain ⟨b, hb1, hb2⟩ := mem_blk hh
      have := hbl b hb1
      omega
    · rcases hb a ha with hh | hh
      · obtain ⟨b, hb1, hb2⟩ := mem_blk hh
        have := hbl b hb1
        omega
      · have := hm.size
        have := m.size
        omega
  have HA := Lib.hid happ
  clear happ h0 hm hbl hkn
  have HK : k + 1 ≤ 6 ∨ setF l x is (j + 1) = setF l x is j := by
    by_cases hc : (if (y == x) = true then is else u) = true
    · rw [if_pos hc] at hs
      have := setF_le l x is (j + 1)
      rw [hs, List.length_append, ← hk.out, List.length_singleton] at this
      exact .inl this
    · rw [if_neg hc, List.append_nil] at hs
      exact .inr hs
  have HS := Lib.hid hs
  clear hs
  obtain ⟨A2, c2, v2, hrun, hv2⟩ := HA.out _ (Mod.alloc [] wr (.cells [ci y].toArray 3)) (Holds.made wr 3 [ci y])
  clear HA
  by_cases hyx : y = x
  · have e1 : (y == x) = true := beq_iff_eq.2 hyx
    have e2 : (y != x) = false := by simp [hyx]
    clear hyx
    cases is
    · have HS2 : Hid (setF l x false (j + 1) = setF l x false j) := Lib.hid (by rw [HS.out, e1]; simp)
      clear HS hrun hv2
      go_wp2_with fail
      exact ⟨⟨y + 1, A', c', k, j + 1, by go_num, HY1, by omega, by omega, rfl, Lib.hid (by rw [HS2.out]; exact hk.out), hk6, Lib.hid (by rw [HS2.out]; exact hw.out)⟩, by simp [intOf]; omega⟩
    · have HS2 : Hid (setF l x true (j + 1) = setF l x true j ++ [y]) := Lib.hid (by rw [HS.out, e1]; simp)
      have hk7 : k + 1 ≤ 6 := by
        have h1 := setF_le l x true (j + 1)
        rw [HS2.out, List.length_append, ← hk.out, List.length_singleton] at h1
        exact h1
      clear HS HK
      go_wp2_with (first
        | (with_reducible refine wpList_ran_w (o := ⟨some 31, .buildSlice 22 1 #[(0, .tmp 30)], _, _, _, _⟩) rfl _ (exec_litI rfl rfl) ?_)
        | (at_builtin; with_reducible refine wpList_appended (o := ⟨some 32, _, _, _, _, _⟩) (.slice A2 (k + 1) c2) v2 (U := .slice A' k c') (X := .slice (some ⟨wr.heap.size, 0, none⟩) 1 1) rfl (.tmp 29) (.tmp 31) 22 rfl rfl rfl hrun ?_))
      exact ⟨⟨y + 1, A2, c2, k + 1, j + 1, by go_num, HY1, by omega, by omega, rfl, Lib.hid (by rw [HS2.out, List.length_append, ← hk.out]; rfl), hk7, Lib.hid (by rw [HS2.out]; exact hv2.out)⟩, by simp [intOf]; omega⟩
  · have e1 : (y == x) = false := beq_eq_false_iff_ne.2 hyx
    have e2 : (y != x) = true := by simp [hyx]
    clear hyx
    cases u
    · have HS2 : Hid (setF l x is (j + 1) = setF l x is j) := Lib.hid (by rw [HS.out, e1]; simp)
      clear HS hrun hv2
      go_wp2_with (go_at_call 28; refine (in_c A n c l y _ _ HI.out HU).mono ?_; rintro e w' ⟨rfl, rfl⟩)
      exact ⟨⟨y + 1, A', c', k, j + 1, by go_num, HY1, by omega, by omega, rfl, Lib.hid (by rw [HS2.out]; exact hk.out), hk6, Lib.hid (by rw [HS2.out]; exact hw.out)⟩, by simp [intOf]; omega⟩
    · have HS2 : Hid (setF l x is (j + 1) = setF l x is j ++ [y]) := Lib.hid (by rw [HS.out, e1]; simp)
      have hk7 : k + 1 ≤ 6 := by
        have h1 := setF_le l x is (j + 1)
        rw [HS2.out, List.length_append, ← hk.out, List.length_singleton] at h1
        exact h1
      clear HS HK
      go_wp2_with (first
        | (go_at_call 28; refine (in_c A n c l y _ _ HI.out HU).mono ?_; rintro e w' ⟨rfl, rfl⟩)
        | (with_reducible refine wpList_ran_w (o := ⟨some 31, .buildSlice 22 1 #[(0, .tmp 30)], _, _, _, _⟩) rfl _ (exec_litI rfl rfl) ?_)
        | (at_builtin; with_reducible refine wpList_appended (o := ⟨some 32, _, _, _, _, _⟩) (.slice A2 (k + 1) c2) v2 (U := .slice A' k c') (X := .slice (some ⟨w'.heap.size, 0, none⟩) 1 1) rfl (.tmp 29) (.tmp 31) 22 rfl rfl rfl hrun ?_))
      exact ⟨⟨y + 1, A2, c2, k + 1, j + 1, by go_num, HY1, by omega, by omega, rfl, Lib.hid (by rw [HS2.out, List.length_append, ← hk.out]; rfl), hk7, Lib.hid (by rw [HS2.out]; exact hv2.out)⟩, by simp [intOf]; omega⟩
end Go.Proofs.Ytaadmpainikfpaa
