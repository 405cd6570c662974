/-
  rise, rising: whether numbers rise. My own work.
-/
import Derived.Test.YtaadmpainikfpaaWa
namespace Go.Proofs.Ytaadmpainikfpaa
open Go.RowKit Go.Shelf
attribute [local go_sem] Oper.semAt_some
set_option linter.unusedVariables false
set_option linter.unusedSimpArgs false
theorem range_drop (n j : Nat) (h : j < n) : (List.range n).drop j = j :: (List.range n).drop (j + 1) := by
  rw [List.drop_eq_getElem_cons (by simpa using h)]
  simp
theorem all_drop (f : Nat → Bool) (n j : Nat) (h : j < n) : ((List.range n).drop j).all f = (f j && ((List.range n).drop (j + 1)).all f) := by
  rw [range_drop n j h, List.all_cons]
theorem all_end (f : Nat → Bool) (n : Nat) : ((List.range n).drop n).all f = true := by
  rw [List.drop_of_length_le (by simp)]
  rfl
set_option maxHeartbeats 1000000 in
theorem rise_c (A : Option Addr) (n c : Nat) (l : List Int) (m : Int) (b : Bool) (w : World) (h : RI w A n c l) (hb : Hid (riseB l m = b)) : Calls Try.prog 32 #[.slice A n c, ci m] w fun e w' => e = .returned (.bool b) ∧ w' = w := by
  have hbig := h.big
  have hcap := h.cap
  have H := Lib.hid h
  have HB : Hid (((List.range n).drop 0).all (riseAt l m) = b) := Lib.hid (by rw [List.drop_zero, h.len]; exact hb.out)
  clear h hb
  go_enter Try.func32, Try.ntmps32
  go_wp2_with fail
  go_loopw [9] (fun i wr => ∃ j : Nat, i = .int .i64 j ∧ j ≤ n ∧ wr = w ∧ Hid (((List.range n).drop j).all (riseAt l m) = b)) (fun i _ => n - (intOf i).toNat)
  case atStart => exact ⟨0, rfl, Nat.zero_le _, rfl, HB⟩
  case round =>
  obtain ⟨j, rfl, hj, hwr, hr⟩ := hrel
  subst hwr
  clear HB
  by_cases hjn : j < n
  case neg =>
    obtain rfl : n = j := by omega
    obtain rfl : true = b := by rw [← hr.out, all_end]
    go_wp2_with fail
    go_ret
    exact ⟨rfl, rfl⟩
  case pos =>
    obtain ⟨g, o, hA, hc⟩ := H.out.base (by omega)
    subst hA
    have hcj := hc j hjn
    have hcp := fun hp : 0 < j => hc (j - 1) (by omega)
    clear hc
    have hr2 := hr.out
    rw [all_drop _ _ _ hjn, riseAt] at hr2
    clear hr
    obtain ⟨y, hy⟩ : ∃ y, y = l.getD j 0 := ⟨_, rfl⟩
    obtain ⟨y', hy'⟩ : ∃ y', y' = l.getD (j - 1) 0 := ⟨_, rfl⟩
    rw [← hy] at hcj hr2
    rw [← hy'] at hr2
    simp only [← hy'] at hcp
    clear hy hy'
    obtain ⟨u, hu⟩ : ∃ u, upTo y m = u := ⟨_, rfl⟩
    have hr3 : (u && (j == 0 || decide (y' < y)) && ((List.range n).drop (j + 1)).all (riseAt l m)) = b := by rw [← hr2, ← hu]; rfl
    have HU := Lib.hid hu
    clear hr2 hu
    cases u
    · obtain rfl : false = b := by rw [← hr3]; rfl
      clear hr3 hcp
      go_wp2_with (go_at_call 31; refine (isUpTo_c y m _ HU _).mono ?_; rintro e w' ⟨rfl, rfl⟩)
      go_ret
      exact ⟨rfl, rfl⟩
    · by_cases hp : 0 < j
      case neg =>
        have HR : Hid (((List.range n).drop (j + 1)).all (riseAt l m) = b) := Lib.hid (by
          have h0 : (j == 0) = true := by simp; omega
          rw [← hr3, h0]
          rfl)
        clear hr3 hcp
        go_wp2_with (go_at_call 31; refine (isUpTo_c y m _ HU _).mono ?_; rintro e w' ⟨rfl, rfl⟩)
        exact ⟨⟨j + 1, by go_num, by omega, by first | rfl | trivial, HR⟩, by simp [intOf]; omega⟩
      case pos =>
        have hc2 := hcp hp
        clear hcp
        have hj1 : (1 : Int) ≤ (j : Int) := by omega
        by_cases hlt : y' < y
        · have hle : ¬ y ≤ y' := by omega
          have HR : Hid (((List.range n).drop (j + 1)).all (riseAt l m) = b) := Lib.hid (by
            rw [← hr3, decide_eq_true hlt, Bool.or_true, Bool.true_and, Bool.true_and])
          clear hr3
          go_wp2_with (go_at_call 31; refine (isUpTo_c y m _ HU _).mono ?_; rintro e w' ⟨rfl, rfl⟩)
          exact ⟨⟨j + 1, by go_num, by omega, by first | rfl | trivial, HR⟩, by simp [intOf]; omega⟩
        · have hle : y ≤ y' := by omega
          obtain rfl : false = b := by
            have h0 : (j == 0) = false := by simp; omega
            rw [← hr3, decide_eq_false hlt, h0]
            rfl
          clear hr3 hlt
          go_wp2_with (go_at_call 31; refine (isUpTo_c y m _ HU _).mono ?_; rintro e w' ⟨rfl, rfl⟩)
          go_ret
          exact ⟨rfl, rfl⟩
end Go.Proofs.Ytaadmpainikfpaa
