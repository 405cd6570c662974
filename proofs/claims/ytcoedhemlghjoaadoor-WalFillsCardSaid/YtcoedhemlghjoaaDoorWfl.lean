/-
  WalFills: how many sectors so many bytes fill, by the program and by the document. My own work.
-/
import Derived.Test.YtcoedhemlghjoaaDoorBl
namespace Go.Proofs.YtcoedhemlghjoaaDoor
open Go.RowKit
theorem Mod.below {B : Nat} {w v : World} {ms : List Nat} (h : Mod ms w v) (hB : B ≤ w.heap.size) (hm : ∀ i ∈ ms, B ≤ i) : Below B w v :=
  ⟨h.os, h.tape, h.output, h.size, fun k hk => h.block k (by omega) (fun hi => by have := hm k hi; omega)⟩
theorem sectors_neg (n : Int) (hn : n < 0) (w : World) : Calls Tryd.prog 5 #[.int .i64 n] w fun e w' => e = .returned (.int .i64 0) ∧ w' = w := by
  go_enter Tryd.func5, Tryd.ntmps5
  go_wp2_with fail
  go_ret
  exact ⟨rfl, rfl⟩
theorem rfills_neg (n : Int) (hn : n < 0) (w : World) : Calls Tryd.prog 6 #[.int .i64 n] w fun e w' => e = .returned (.int .i64 0) ∧ w' = w := by
  go_enter Tryd.func6, Tryd.ntmps6
  go_wp2_with fail
  go_ret
  exact ⟨rfl, rfl⟩
theorem rfills_c (n : Nat) (hn : n ≤ 9223372036854775807) (w : World) : Calls Tryd.prog 6 #[.int .i64 (n : Int)] w fun e w' => e = .returned (.int .i64 (fills n : Int)) ∧ w' = w := by
  have h0 : ¬ (n : Int) < 0 := by omega
  obtain ⟨f, hf⟩ : ∃ f, f = fills n := ⟨_, rfl⟩
  rw [← hf]
  by_cases h : n ≤ 40000
  · have h1 : ¬ 40000 < (n : Int) := by omega
    have h2 : (n : Int) ≤ 40000 := by omega
    have hk : ∀ k : Nat, 1 ≤ k → (48 * k < n ↔ k < f) := fun k h3 => by rw [hf]; unfold fills; rw [if_pos h]; omega
    have hf1 : 1 ≤ f := by rw [hf]; exact fills_pos n h
    have hf2 : f ≤ 834 := by rw [hf]; exact fills_le n
    have HK := Lib.hid (And.intro hk (And.intro hf1 hf2))
    clear hk hf h hn hf1 hf2
    go_enter Tryd.func6, Tryd.ntmps6
    go_wp2_with fail
    go_loopw [3] (fun i wr => ∃ k : Nat, 1 ≤ k ∧ k ≤ f ∧ i = .int .i64 (k : Int) ∧ wr = w) (fun i _ => ((f : Int) - intOf i).toNat)
    case atStart => exact ⟨1, Nat.le_refl _, HK.out.2.1, rfl, rfl⟩
    case round =>
      obtain ⟨k, h3, h4, rfl, rfl⟩ := hrel
      obtain ⟨z, hz⟩ : ∃ z, z = 48 * k := ⟨_, rfl⟩
      have hzZ : (48 : Int) * (k : Int) = (z : Int) := by omega
      have hk5 : (k : Int) ≤ 834 := by have := HK.out.2.2; omega
      have hz5 : (z : Int) ≤ 40032 := by omega
      by_cases hlt : k < f
      · have hc : (z : Int) < (n : Int) := by have := (HK.out.1 k h3).2 hlt; omega
        have HZ := Lib.hid (And.intro hz (And.intro h3 (And.intro h4 hlt)))
        clear hz h3 h4 hlt
        go_wp2
        exact ⟨⟨k + 1, by omega, by have := HZ.out.2.2.2; omega, by simp⟩, by have := HZ.out.2.2.2; simp [intOf]; omega⟩
      · obtain rfl : f = k := by omega
        have hc : ¬ (z : Int) < (n : Int) := by have := (HK.out.1 f h3).1; omega
        have HZ := Lib.hid (And.intro hz (And.intro h3 h4))
        clear hz h3 h4 hlt
        go_wp2
        go_ret
        exact ⟨rfl, rfl⟩
  · have h1 : 40000 < (n : Int) := by omega
    have hq : f = 0 := by rw [hf]; unfold fills; rw [if_neg h]
    subst hq
    clear hf h
    go_enter Tryd.func6, Tryd.ntmps6
    go_wp2_with fail
    go_ret
    exact ⟨rfl, rfl⟩
theorem fillsw_of (a : Int) (ha : (Lit.int .i64 a).wf = true) (w : World) (X0 : Calls Tryd.prog 4 #[] w fun r w' => r = .returned (.bool true) ∧ Mod [] w w') :
    Calls Tryd.prog 3 #[.int .i64 a] w fun e w' => e = .returned (.bool true) ∧ Mod [] w w' := by
  have hb : a ≤ 9223372036854775807 := by
    simp [Lit.wf, IntKind.min, IntKind.max, IntKind.signed, IntKind.bits] at ha
    omega
  obtain ⟨z, hS, hR⟩ : ∃ z : Int, (∀ v, Calls Tryd.prog 5 #[.int .i64 a] v fun e v' => e = .returned (.int .i64 z) ∧ v' = v) ∧ (∀ v, Calls Tryd.prog 6 #[.int .i64 a] v fun e v' => e = .returned (.int .i64 z) ∧ v' = v) := by
    by_cases h : a < 0
    · exact ⟨0, sectors_neg a h, rfills_neg a h⟩
    · obtain ⟨n, rfl⟩ : ∃ n : Nat, a = (n : Int) := ⟨a.toNat, by omega⟩
      exact ⟨(fills n : Int), sectors_c n (by omega), rfills_c n (by omega)⟩
  clear ha hb
  go_enter Tryd.func3, Tryd.ntmps3
  go_wp2_with fail
  refine X0.mono ?_
  rintro e w1 ⟨rfl, m1⟩
  clear X0
  go_wp2_with fail
  refine (hS _).mono ?_
  rintro e w2 ⟨rfl, rfl⟩
  clear hS
  go_wp2_with fail
  refine (hR _).mono ?_
  rintro e w3 ⟨rfl, rfl⟩
  clear hR
  go_wp2
  go_ret
  exact ⟨rfl, m1⟩
end Go.Proofs.YtcoedhemlghjoaaDoor
