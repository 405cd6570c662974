/-
  Rows of numbers as they are read; the small functions over them. My own work.
-/
import Derived.Test.YtaadmpainikfpaaF1
import Derived.Test.YtaadmpainikfpaaPu
namespace Go.Proofs.Ytaadmpainikfpaa
open Go.RowKit Go.Shelf
set_option linter.unusedVariables false
set_option linter.unusedSimpArgs false
abbrev ci (z : Int) : Value := .int .i64 z
structure RI (w : World) (A : Option Addr) (n c : Nat) (l : List Int) : Prop where
  len : n = l.length
  cap : n ≤ c
  big : c ≤ 9223372036854775807
  cells : Cells w A (l.map ci)
theorem RI.keep {w v : World} {A : Option Addr} {n c : Nat} {l : List Int} {ms : List Nat} (h : RI w A n c l) (m : Mod ms w v) (hn : ∀ a, A = some a → l ≠ [] → a.block ∉ ms) : RI v A n c l := by
  refine ⟨h.len, h.cap, h.big, ?_⟩
  cases l with
  | nil => exact Cells.nil _ _
  | cons x l => exact h.cells.keep m fun a ha => hn a ha (by simp)
theorem RI.call {w v : World} {A : Option Addr} {n c : Nat} {l : List Int} (h : RI w A n c l) (m : Mod [] w v) : RI v A n c l := h.keep m fun _ _ _ => by simp
theorem RI.at {w : World} {A : Option Addr} {n c : Nat} {l : List Int} (h : RI w A n c l) (j : Nat) (hj : j < n) : ∃ g o, A = some ⟨g, o, none⟩ ∧ w.cell? ⟨g, o + j, none⟩ = some (ci (l.getD j 0)) := by
  have hl := h.len
  obtain ⟨g, o, e, hc⟩ := h.cells j (by rw [List.length_map]; omega)
  refine ⟨g, o, e, ?_⟩
  rw [hc, List.getElem_map, gd (by omega)]
theorem RI.base {w : World} {A : Option Addr} {n c : Nat} {l : List Int} (h : RI w A n c l) (hn : 0 < n) : ∃ g o, A = some ⟨g, o, none⟩ ∧ ∀ j, j < n → w.cell? ⟨g, o + j, none⟩ = some (ci (l.getD j 0)) := by
  obtain ⟨g, o, rfl, _⟩ := h.at 0 hn
  refine ⟨g, o, rfl, fun j hj => ?_⟩
  obtain ⟨g', o', e, hc⟩ := h.at j hj
  cases e
  exact hc
/-- From 1 to most. -/
def upTo (x most : Int) : Bool := decide (1 ≤ x) && decide (x ≤ most)
theorem isUpTo_c (x m : Int) (b : Bool) (hb : Hid (upTo x m = b)) (w : World) : Calls Try.prog 31 #[ci x, ci m] w fun e w' => e = .returned (.bool b) ∧ w' = w := by
  go_enter Try.func31, Try.ntmps31
  by_cases h1 : 1 ≤ x
  · by_cases h2 : x ≤ m
    · have d1 : decide (1 ≤ x) = true := decide_eq_true h1
      have d2 : decide (x ≤ m) = true := decide_eq_true h2
      obtain rfl : true = b := by rw [← hb.out, upTo, d1, d2]; rfl
      go_wp2
      go_ret
      exact ⟨rfl, rfl⟩
    · have d1 : decide (1 ≤ x) = true := decide_eq_true h1
      have d2 : decide (x ≤ m) = false := decide_eq_false h2
      obtain rfl : false = b := by rw [← hb.out, upTo, d1, d2]; rfl
      go_wp2
      go_ret
      exact ⟨rfl, rfl⟩
  · have d1 : decide (1 ≤ x) = false := decide_eq_false h1
    obtain rfl : false = b := by rw [← hb.out, upTo, d1]; rfl
    go_wp2
    go_ret
    exact ⟨rfl, rfl⟩
theorem isUser_c (x : Int) (b : Bool) (hb : Hid (upTo x 6 = b)) (w : World) : Calls Try.prog 30 #[ci x] w fun e w' => e = .returned (.bool b) ∧ w' = w := by
  go_enter Try.func30, Try.ntmps30
  go_wp2_with (go_at_call 31; refine (isUpTo_c x 6 b hb _).mono ?_; rintro e w' ⟨rfl, rfl⟩)
  go_ret
  exact ⟨rfl, rfl⟩
theorem isGroup_c (x : Int) (b : Bool) (hb : Hid (upTo x 3 = b)) (w : World) : Calls Try.prog 45 #[ci x] w fun e w' => e = .returned (.bool b) ∧ w' = w := by
  go_enter Try.func45, Try.ntmps45
  go_wp2_with (go_at_call 31; refine (isUpTo_c x 3 b hb _).mono ?_; rintro e w' ⟨rfl, rfl⟩)
  go_ret
  exact ⟨rfl, rfl⟩
/-- In: the document's. -/
theorem in_c (A : Option Addr) (n c : Nat) (l : List Int) (x : Int) (b : Bool) (w : World) (h : RI w A n c l) (hb : Hid (l.contains x = b)) : Calls Try.prog 28 #[.slice A n c, ci x] w fun e w' => e = .returned (.bool b) ∧ w' = w := by
  have hbig := h.big
  have hcap := h.cap
  have H := Lib.hid h
  have HB : Hid ((l.drop 0).contains x = b) := Lib.hid (by rw [List.drop_zero]; exact hb.out)
  clear h hb
  go_enter Try.func28, Try.ntmps28
  go_wp2_with fail
  go_loopw [5] (fun i wr => ∃ j : Nat, i = .int .i64 j ∧ j ≤ n ∧ wr = w ∧ Hid ((l.drop j).contains x = b)) (fun i _ => n - (intOf i).toNat)
  case atStart => exact ⟨0, rfl, Nat.zero_le _, rfl, HB⟩
  case round =>
  obtain ⟨j, rfl, hj, hwr, hr⟩ := hrel
  subst hwr
  clear HB
  by_cases hjn : j < n
  case neg =>
    obtain rfl : n = j := by omega
    obtain rfl : false = b := by
      have hl := H.out.len
      rw [← hr.out, List.drop_of_length_le (by omega)]
      rfl
    go_wp2_with fail
    go_ret
    exact ⟨rfl, rfl⟩
  case pos =>
    obtain ⟨g, o, hA, hc⟩ := H.out.at j hjn
    subst hA
    have hd : l.drop j = l.getD j 0 :: l.drop (j + 1) := by
      have hl := H.out.len
      rw [List.drop_eq_getElem_cons (by omega), gd (by omega)]
    have hr2 := hr.out
    rw [hd, List.contains_cons] at hr2
    clear hr hd
    obtain ⟨y, hy⟩ : ∃ y, y = l.getD j 0 := ⟨_, rfl⟩
    rw [← hy] at hc hr2
    clear hy
    by_cases hxy : y = x
    · subst hxy
      obtain rfl : true = b := by rw [← hr2, beq_self_eq_true, Bool.true_or]
      clear hr2
      have e1 : (y == y) = true := beq_self_eq_true y
      go_wp2_with fail
      go_ret
      exact ⟨rfl, rfl⟩
    · have HR : Hid ((l.drop (j + 1)).contains x = b) := Lib.hid (by rw [← hr2, beq_eq_false_iff_ne.2 (fun e => hxy e.symm), Bool.false_or])
      have e1 : (y == x) = false := beq_eq_false_iff_ne.2 hxy
      clear hr2 hxy
      go_wp2_with fail
      exact ⟨⟨j + 1, by go_num, by omega, by first | rfl | trivial, HR⟩, by simp [intOf]; omega⟩
end Go.Proofs.Ytaadmpainikfpaa
