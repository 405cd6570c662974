/-
  Which rows are the same, and which have noughts alone: the walk. My own work.
-/
import Derived.Test.YtheebmehapemnaaRefA
import Derived.SizedLaws
namespace Go.Proofs.Ytheebmehapemnaa
open Go.RowKit

def others (l : List UInt8) : Nat := l.countP (fun x => decide (0 < x.toNat))
theorem others_next (l : List UInt8) (j : Nat) (h : j < l.length) : others (l.take (j + 1)) = others (l.take j) + if 0 < l[j].toNat then 1 else 0 := by
  unfold others
  rw [take_next l j h, List.countP_append]
  simp [List.countP_cons]
theorem others_le (l : List UInt8) : others l ≤ l.length := List.countP_le_length
theorem others_none (l : List UInt8) : allNought l = decide (others l = 0) := by
  unfold others allNought
  rw [Bool.eq_iff_iff]
  simp [List.countP_eq_zero]

theorem likens_c (A : Option Addr) (l : List UInt8) (c : Nat) (hc : l.length ≤ c) (hcm : c ≤ maxLen) (B : Option Addr) (k : List UInt8) (d : Nat) (hd : k.length ≤ d) (hdm : d ≤ maxLen) (w : World) (ha : Reads w A l) (hb : Reads w B k) (hl : l.length ≤ 140737488355328) :
    Calls Try.prog 4 #[.slice A l.length c, .slice B k.length d] w fun e w' => e = .returned (.bool true) ∧ Mod [] w w' := by
  have hlm : l.length ≤ maxLen := by omega
  have hkm : k.length ≤ maxLen := by omega
  have hlm' := hlm
  unfold maxLen at hlm'
  obtain ⟨p, hp⟩ : ∃ p, decide (l = k) = p := ⟨_, rfl⟩
  have hp' : decide (k = l) = p := by rw [← hp, decide_eq_decide]; exact ⟨Eq.symm, Eq.symm⟩
  obtain ⟨q, hq⟩ : ∃ q, decide (l.length ≤ 400) = q := ⟨_, rfl⟩
  have hq' : decide (l = l.take 400) = q := by
    rw [← hq, decide_eq_decide]
    constructor
    · intro e; have := congrArg List.length e; simp at this; omega
    · intro e; rw [List.take_of_length_le e]
  have hq2 : decide ((l.length : Int) ≤ 400) = q := by rw [← hq, decide_eq_decide]; omega
  have P := Lib.hid (And.intro hp (And.intro hp' (And.intro hq' (others_none l))))
  clear hp hp' hq hq'
  go_enter Try.func4, Try.ntmps4
  go_wp2_with fail
  refine (wakes_c _).mono ?_
  rintro e w1 ⟨rfl, m1⟩
  go_wp2_with fail
  go_loop [5, 13] (fun x i => ∃ j : Nat, j ≤ l.length ∧ i = .int .i64 j ∧ x = .int .i64 (others (l.take j) : Int)) (fun _ i => l.length - (intOf i).toNat)
  case atStart => exact ⟨0, by omega, rfl, rfl⟩
  case round =>
    obtain ⟨j, hj, rfl, rfl⟩ := hrel
    have ho := others_le (l.take j)
    have ho' : (l.take j).length ≤ j := List.length_take_le _ _
    by_cases hlt : j < l.length
    · have hn := others_next l j hlt
      obtain ⟨g, o, rfl, hc⟩ := (ha.keep m1 (by simp)) j hlt
      by_cases hz : 0 < l[j].toNat
      · rw [if_pos hz] at hn
        have hz' : (0 : Int) < (l[j].toNat : Int) := by omega
        have HN := Lib.hid hn
        clear hn
        go_wp2
        exact ⟨⟨j + 1, by omega, by go_num, by rw [HN.out]; go_num⟩, by simp [intOf]; omega⟩
      · rw [if_neg hz] at hn
        have hz' : ¬ (0 : Int) < (l[j].toNat : Int) := by omega
        have HN := Lib.hid hn
        clear hn
        go_wp2
        exact ⟨⟨j + 1, by omega, by go_num, by rw [HN.out]; rfl⟩, by simp [intOf]; omega⟩
    · obtain rfl : j = l.length := by omega
      have e1 : l.take l.length = l := List.take_of_length_le (Nat.le_refl _)
      rw [e1] at ho ⊢
      clear e1
      have hz2 : (((others l : Nat) : Int) == 0) = decide (others l = 0) := by
        rw [Bool.eq_iff_iff]; simp
      go_wp2_with fail
      refine (same_c A B l k c d _ hlm hkm (ha.keep m1 (by simp)) (hb.keep m1 (by simp))).mono ?_
      rintro e w2 ⟨rfl, m2⟩
      replace m1 := m1.then m2
      clear m2
      rw [P.out.1]
      go_wp2_with fail
      refine (equal_c A B l k c d _ (ha.keep m1 (by simp)) (hb.keep m1 (by simp))).mono ?_
      rintro e w3 ⟨rfl, rfl⟩
      rw [P.out.1]
      go_wp2_with fail
      refine (equal_c B A k l d c _ (hb.keep m1 (by simp)) (ha.keep m1 (by simp))).mono ?_
      rintro e w3 ⟨rfl, rfl⟩
      rw [P.out.2.1]
      go_wp2_with fail
      refine (row_c A l c _ hc hcm (ha.keep m1 (by simp))).mono ?_
      rintro e w3 ⟨rfl, h3, m3⟩
      replace m1 := m1.then m3
      clear m3
      go_wp2_with fail
      refine (equal_n A _ l (l.take 400) _ _ c _ _ rfl (by simp) (ha.keep m1 (by simp)) (Reads.of_holds h3)).mono ?_
      rintro e w4 ⟨rfl, rfl⟩
      rw [P.out.2.2.1]
      go_wp2_with fail
      refine (zero_c A l c _ hl (ha.keep m1 (by simp))).mono ?_
      rintro e w4 ⟨rfl, rfl⟩
      rw [P.out.2.2.2]
      go_wp2_with fail
      go_ret
      exact ⟨by simp, m1⟩
theorem u8_bytes : Try.prog.bytesOf 5 = 1 := by kernel_rfl
theorem likens_w {w : World} (A : Option Addr) (l : List UInt8) (c : Nat) (hc : l.length ≤ c) (hcm : c ≤ maxLen) (ha : Reads w A l) (hz : l.length * Try.prog.bytesOf 5 ≤ reachBytes) (B : Option Addr) (k : List UInt8) (d : Nat) (hd : k.length ≤ d) (hdm : d ≤ maxLen) (hb : Reads w B k) (_ : k.length * Try.prog.bytesOf 5 ≤ reachBytes) :
    Calls Try.prog 4 #[.slice A l.length c, .slice B k.length d] w fun e w' => e = .returned (.bool true) ∧ Mod [] w w' := by
  refine likens_c A l c hc hcm B k d hd hdm w ha hb ?_
  rw [u8_bytes] at hz
  simp only [reachBytes] at hz
  omega
end Go.Proofs.Ytheebmehapemnaa
