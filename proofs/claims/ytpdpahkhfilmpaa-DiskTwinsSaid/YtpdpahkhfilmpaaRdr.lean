/-
  The document's own disk, as a value: Ask, whole. A contract of mine.
-/
import Derived.Test.YtpdpahkhfilmpaaRdq
namespace Go.Proofs.Ytpdpahkhfilmpaa
open Go.RowKit
open Rg
/-- The document's disk lies within what its numbers can tell. -/
structure Fine (R : RSt) (B : Nat) : Prop where
  long : R.story.length ≤ B
  ops : R.ops ≤ B
  fails : -1 ≤ R.fails ∧ R.fails ≤ 9223372036854775807
  arms : -1 ≤ R.arms ∧ R.arms ≤ 9223372036854775807
  firm : R.firm ≤ R.story.length
theorem Fine.wk {R : RSt} {B C : Nat} (h : Fine R B) (k : B ≤ C) : Fine R C := ⟨by have := h.long; omega, by have := h.ops; omega, h.fails, h.arms, h.firm⟩
theorem Fine.new (n : Int) : Fine (RSt.new n) 0 := ⟨by simp [RSt.new], by simp [RSt.new], by simp [RSt.new], by simp [RSt.new], by simp [RSt.new]⟩
theorem Fine.ask {R : RSt} {B : Nat} (h : Fine R B) (k : Nat) (i : Int) (b : Blk) : Fine (R.ask k i b).1 (B + 1) := by
  obtain ⟨z, f, s, out, ar, fa, op⟩ := R
  obtain ⟨h1, h2, h3, h4, h5⟩ := h
  simp only at h1 h2 h3 h4 h5
  unfold RSt.ask
  simp only
  repeat' split
  all_goals (try dsimp only at *)
  all_goals (constructor <;> simp only [List.length_append, List.length_cons, List.length_nil] <;> omega)
theorem ask_c (R : RSt) (A : Option Addr) (c : Nat) (k : Nat) (i : Int) (b : Blk) (w : World) (hT : Told w R A c) (hk : k ≤ 2) (hF : Fine R 1099511627775) : Calls Try.prog 52 #[rv R A c, .int .i64 (k : Int), .int .i64 i, bv b] w (AskPost w (R.ask k i b)) := by
  obtain ⟨z, f, s, out, ar, fa, op⟩ := R
  obtain ⟨h1, h2, h3, h4, h5⟩ := hF
  simp only at h1 h2 h3 h4 h5
  have hl : s.length < 1099511627776 := by omega
  have ho : op < 1099511627776 := by omega
  clear h1 h2 h5
  cases out with
  | true =>
    obtain rfl | rfl | rfl : k = 0 ∨ k = 1 ∨ k = 2 := by omega
    · exact ask0_out w hT hl ho h3 h4
    · exact ask1_out w hT hl ho h3 h4
    · exact ask2_out w hT hl ho h3 h4
  | false =>
    obtain rfl | rfl | rfl : k = 0 ∨ k = 1 ∨ k = 2 := by omega
    · by_cases a1 : i < 0
      · exact ask0_low w hT hl ho h3 h4 a1
      by_cases a2 : z ≤ i
      · exact ask0_high w hT hl ho h3 h4 (by omega) a2
      by_cases a3 : fa = 0
      · subst a3; exact ask0_fails w hT hl ho h4 (by omega) (by omega)
      by_cases a4 : 0 < fa
      · exact ask0_doesp w hT hl ho h3 h4 (by omega) (by omega) a4
      · exact ask0_doesn w hT hl ho h3 h4 (by omega) (by omega) (by omega)
    · by_cases a1 : i < 0
      · exact ask1_low w hT hl ho h3 h4 a1
      by_cases a2 : z ≤ i
      · exact ask1_high w hT hl ho h3 h4 (by omega) a2
      by_cases a3 : fa = 0
      · subst a3; exact ask1_fails w hT hl ho h4 (by omega) (by omega)
      by_cases a5 : ar = 0
      · subst a5
        by_cases a4 : 0 < fa
        · exact ask1_diesp w hT hl ho h3 (by omega) (by omega) a4
        · exact ask1_diesn w hT hl ho h3 (by omega) (by omega) (by omega)
      by_cases a4 : 0 < fa <;> by_cases a6 : 0 < ar
      · exact ask1_doespp w hT hl ho h3 h4 (by omega) (by omega) a4 a6
      · exact ask1_doespn w hT hl ho h3 h4 (by omega) (by omega) a4 (by omega)
      · exact ask1_doesnp w hT hl ho h3 h4 (by omega) (by omega) (by omega) a6
      · exact ask1_doesnn w hT hl ho h3 h4 (by omega) (by omega) (by omega) (by omega)
    · by_cases a3 : fa = 0
      · subst a3; exact ask2_fails w hT hl ho h4
      by_cases a5 : ar = 0
      · subst a5
        by_cases a4 : 0 < fa
        · exact ask2_diesp w hT hl ho h3 a4
        · exact ask2_diesn w hT hl ho h3 (by omega)
      by_cases a4 : 0 < fa <;> by_cases a6 : 0 < ar
      · exact ask2_doespp w hT hl ho h3 h4 a4 a6
      · exact ask2_doespn w hT hl ho h3 h4 a4 (by omega)
      · exact ask2_doesnp w hT hl ho h3 h4 (by omega) a6
      · exact ask2_doesnn w hT hl ho h3 h4 (by omega) (by omega)
end Go.Proofs.Ytpdpahkhfilmpaa
