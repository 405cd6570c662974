/-
  Contracts: the digits of a root. My own work.
-/
import Derived.Test.YtgojheoelcmcpaaDoorPrm
namespace Go.Proofs.YtgojheoelcmcpaaDoor
open Go.RowKit
/-- is a number's power (the square, the cube) no more than asked? -/
def fits (p : Nat) (cube : Bool) (x : Nat) : Bool :=
  let hi := x * x / 18446744073709551616
  let lo := x * x % 18446744073709551616
  if cube then
    let h := (hi * x % 18446744073709551616 + lo * x / 18446744073709551616) % 18446744073709551616
    let l := lo * x % 18446744073709551616
    let m := p * 4294967296 % 18446744073709551616
    decide (h < m) || (decide (h = m) && decide (l = 0))
  else decide (hi < p) || (decide (hi = p) && decide (lo = 0))
def digs (p : Nat) (cube : Bool) : Nat → Nat → Nat
  | 0, r => r
  | k + 1, r => digs p cube k (if fits p cube (r + 2 ^ k) = true then r + 2 ^ k else r)
theorem cast_mod (n : Nat) : IntKind.u64.wrap (n : Int) = ((n % 18446744073709551616 : Nat) : Int) := by
  rw [IntKind.wrap_u64]; omega
theorem dig_step (p : Nat) (cube : Bool) (k R B : Nat) (hB : B = 2 ^ (k + 1) / 2) (hR : R + 2 ^ (k + 1) ≤ 137438953472) :
    R + B ≤ 137438953472 ∧ 0 < (B : Int) ∧ digs p cube (k + 1) R = digs p cube k (if fits p cube (R + B) = true then R + B else R) ∧ B / 2 = 2 ^ k / 2 ∧ R + 2 ^ k ≤ 137438953472 ∧ R + B + 2 ^ k ≤ 137438953472 := by
  have e : B = 2 ^ k := by rw [hB, Nat.pow_succ]; omega
  have h0 := Nat.pow_pos (n := k) (show 0 < 2 by omega)
  rw [Nat.pow_succ] at hR
  subst e
  clear hB
  refine ⟨?_, ?_, by rw [digs], rfl, ?_, ?_⟩ <;> omega
theorem pow_le37 (k : Nat) (h : k ≤ 37) : 2 ^ k ≤ 137438953472 := Nat.pow_le_pow_right (by omega) h
set_option maxRecDepth 100000 in
set_option maxHeartbeats 4000000 in
theorem digits_c (p : Nat) (hp : p < 4294967296) (cube : Bool) (w : World) :
    Calls Tryd.prog 15 #[.int .u64 (p : Int), .bool cube] w fun e w' => e = .returned (.int .u32 ((digs p cube 37 0 % 4294967296 : Nat) : Int)) ∧ w' = w := by
  obtain ⟨Z, hZ⟩ : ∃ Z, Z = digs p cube 37 0 := ⟨_, rfl⟩
  rw [← hZ]
  have HZ := Lib.hid hZ
  clear hZ
  go_enter Tryd.func15, Tryd.ntmps15
  go_wp2_with fail
  go_loop [5, 6] (fun r b => ∃ R B K : Nat, r = .int .u64 (R : Int) ∧ b = .int .u64 (B : Int) ∧ B = 2 ^ K / 2 ∧ K ≤ 37 ∧ R + 2 ^ K ≤ 137438953472 ∧ digs p cube K R = Z) (fun r b => (intOf b).toNat)
  case atStart => exact ⟨0, 68719476736, 37, rfl, rfl, rfl, by omega, by omega, HZ.out.symm⟩
  case round =>
    obtain ⟨R, B, K, rfl, rfl, hB, hK, hR, hd⟩ := hrel
    cases K with
    | zero =>
      obtain rfl : B = 0 := by simpa using hB
      have HD := Lib.hid hd
      clear hd hK hR hB
      go_wp2_with fail
      go_ret
      exact ⟨ret_int (by rw [← HD.out]; rfl), rfl⟩
    | succ k =>
      obtain ⟨hX, hB0, hs, hh, hrest⟩ := dig_step p cube k R B hB hR
      rw [hs] at hd
      have HD := Lib.hid (And.intro hd (And.intro hh (And.intro hrest hK)))
      clear hd hh hrest hs hR hK hB
      obtain ⟨X, hx⟩ : ∃ X, X = R + B := ⟨_, rfl⟩
      have hx' : IntKind.u64.wrap ((R : Int) + (B : Int)) = (X : Int) := by
        rw [show (R : Int) + (B : Int) = (X : Int) by omega]
        exact cast_wrap X (by omega)
      rw [← hx] at hX
      have HX := Lib.hid (And.intro hx hX)
      have hm1 := mul64_c X X (by have := HX.out.2; omega) (by have := HX.out.2; omega)
      obtain ⟨Hi, hHi⟩ : ∃ Y, Y = X * X / 18446744073709551616 := ⟨_, rfl⟩
      obtain ⟨Lo, hLo⟩ : ∃ Y, Y = X * X % 18446744073709551616 := ⟨_, rfl⟩
      rw [← hHi, ← hLo] at hm1
      have hBB : IntKind.u64.wrap ((B : Int) / 2) = ((B / 2 : Nat) : Int) := cast_wrap (B / 2) (by omega)
      obtain ⟨Bh, hBh⟩ : ∃ Y, Y = B / 2 := ⟨_, rfl⟩
      have hBl : Bh < B := by omega
      rw [← hBh] at hBB
      have HB := Lib.hid (And.intro hBh hBl)
      clear hX hx hBh hBl
      cases cube with
      | true =>
        have hLo' : Lo < 18446744073709551616 := by rw [hLo]; exact Nat.mod_lt _ (by decide)
        have hm2 := mul64_c Lo X hLo' (by have := HX.out.2; omega)
        obtain ⟨Cy, hCy⟩ : ∃ Y, Y = Lo * X / 18446744073709551616 := ⟨_, rfl⟩
        obtain ⟨Lw, hLw⟩ : ∃ Y, Y = Lo * X % 18446744073709551616 := ⟨_, rfl⟩
        obtain ⟨H1, hH1⟩ : ∃ Y, Y = Hi * X % 18446744073709551616 := ⟨_, rfl⟩
        obtain ⟨H2, hH2⟩ : ∃ Y, Y = (H1 + Cy) % 18446744073709551616 := ⟨_, rfl⟩
        obtain ⟨Mo, hMo⟩ : ∃ Y, Y = p * 4294967296 % 18446744073709551616 := ⟨_, rfl⟩
        rw [← hCy, ← hLw] at hm2
        have hw1 : IntKind.u64.wrap ((Hi : Int) * (X : Int)) = (H1 : Int) := by rw [mul_lo, ← hH1]
        have hw2 : IntKind.u64.wrap ((H1 : Int) + (Cy : Int)) = (H2 : Int) := by rw [← Int.natCast_add, cast_mod, ← hH2]
        have hF : fits p true X = (decide (H2 < Mo) || (decide (H2 = Mo) && decide (Lw = 0))) := by
          simp only [fits, ↓reduceIte, ← hHi, ← hLo, ← hCy, ← hLw, ← hH1, ← hH2, ← hMo]
        have hs32 : IntKind.u64.wrap ((p : Int) * 4294967296) = (Mo : Int) := by rw [show (p : Int) * 4294967296 = ((p * 4294967296 : Nat) : Int) by rw [Int.natCast_mul]; rfl, cast_mod, ← hMo]
        rw [← HX.out.1, hF] at HD
        clear hLo' hCy hLw hH1 hH2 hMo hHi hLo hF
        by_cases hlt : H2 < Mo
        · have hlt' : (H2 : Int) < (Mo : Int) := by omega
          go_wp2_with (go_at_call 33; first | (with_reducible refine Calls.mono (hm1 _) ?_; rintro e w1 ⟨rfl, rfl⟩) | (with_reducible refine Calls.mono (hm2 _) ?_; rintro e w1 ⟨rfl, rfl⟩))
          exact ⟨⟨X, Bh, k, rfl, rfl, by rw [HB.out.1]; exact HD.out.2.1, by have := HD.out.2.2.2; omega, HD.out.2.2.1.2, by have h := HD.out.1; rw [if_pos (by simp [hlt])] at h; exact h⟩, by show (Bh : Int).toNat < (B : Int).toNat; have := HB.out; omega⟩
        · have hlt' : ¬ (H2 : Int) < (Mo : Int) := by omega
          by_cases heq : H2 = Mo
          · subst heq
            by_cases hl0 : Lw = 0
            · subst hl0
              go_wp2_with (go_at_call 33; first | (with_reducible refine Calls.mono (hm1 _) ?_; rintro e w1 ⟨rfl, rfl⟩) | (with_reducible refine Calls.mono (hm2 _) ?_; rintro e w1 ⟨rfl, rfl⟩))
              exact ⟨⟨X, Bh, k, rfl, rfl, by rw [HB.out.1]; exact HD.out.2.1, by have := HD.out.2.2.2; omega, HD.out.2.2.1.2, by have h := HD.out.1; rw [if_pos (by simp)] at h; exact h⟩, by show (Bh : Int).toNat < (B : Int).toNat; have := HB.out; omega⟩
            · have hl0' : (Lw : Int) ≠ 0 := by omega
              go_wp2_with (go_at_call 33; first | (with_reducible refine Calls.mono (hm1 _) ?_; rintro e w1 ⟨rfl, rfl⟩) | (with_reducible refine Calls.mono (hm2 _) ?_; rintro e w1 ⟨rfl, rfl⟩))
              exact ⟨⟨R, Bh, k, rfl, rfl, by rw [HB.out.1]; exact HD.out.2.1, by have := HD.out.2.2.2; omega, HD.out.2.2.1.1, by have h := HD.out.1; rw [if_neg (by simp [hl0])] at h; exact h⟩, by show (Bh : Int).toNat < (B : Int).toNat; have := HB.out; omega⟩
          · have heq' : (H2 : Int) ≠ (Mo : Int) := by omega
            go_wp2_with (go_at_call 33; first | (with_reducible refine Calls.mono (hm1 _) ?_; rintro e w1 ⟨rfl, rfl⟩) | (with_reducible refine Calls.mono (hm2 _) ?_; rintro e w1 ⟨rfl, rfl⟩))
            exact ⟨⟨R, Bh, k, rfl, rfl, by rw [HB.out.1]; exact HD.out.2.1, by have := HD.out.2.2.2; omega, HD.out.2.2.1.1, by have h := HD.out.1; rw [if_neg (by simp [hlt, heq])] at h; exact h⟩, by show (Bh : Int).toNat < (B : Int).toNat; have := HB.out; omega⟩
      | false =>
        have hF : fits p false X = (decide (Hi < p) || (decide (Hi = p) && decide (Lo = 0))) := by
          simp only [fits, Bool.false_eq_true, ↓reduceIte, ← hHi, ← hLo]
        have hm2 := hm1
        rw [← HX.out.1, hF] at HD
        have HP := Lib.hid hp
        clear hHi hLo hF hp
        by_cases hlt : Hi < p
        · have hlt' : (Hi : Int) < (p : Int) := by omega
          go_wp2_with (go_at_call 33; first | (with_reducible refine Calls.mono (hm1 _) ?_; rintro e w1 ⟨rfl, rfl⟩) | (with_reducible refine Calls.mono (hm2 _) ?_; rintro e w1 ⟨rfl, rfl⟩))
          exact ⟨⟨X, Bh, k, rfl, rfl, by rw [HB.out.1]; exact HD.out.2.1, by have := HD.out.2.2.2; omega, HD.out.2.2.1.2, by have h := HD.out.1; rw [if_pos (by simp [hlt])] at h; exact h⟩, by show (Bh : Int).toNat < (B : Int).toNat; have := HB.out; omega⟩
        · have hlt' : ¬ (Hi : Int) < (p : Int) := by omega
          by_cases heq : Hi = p
          · subst heq
            by_cases hl0 : Lo = 0
            · subst hl0
              go_wp2_with (go_at_call 33; first | (with_reducible refine Calls.mono (hm1 _) ?_; rintro e w1 ⟨rfl, rfl⟩) | (with_reducible refine Calls.mono (hm2 _) ?_; rintro e w1 ⟨rfl, rfl⟩))
              exact ⟨⟨X, Bh, k, rfl, rfl, by rw [HB.out.1]; exact HD.out.2.1, by have := HD.out.2.2.2; omega, HD.out.2.2.1.2, by have h := HD.out.1; rw [if_pos (by simp)] at h; exact h⟩, by show (Bh : Int).toNat < (B : Int).toNat; have := HB.out; omega⟩
            · have hl0' : (Lo : Int) ≠ 0 := by omega
              go_wp2_with (go_at_call 33; first | (with_reducible refine Calls.mono (hm1 _) ?_; rintro e w1 ⟨rfl, rfl⟩) | (with_reducible refine Calls.mono (hm2 _) ?_; rintro e w1 ⟨rfl, rfl⟩))
              exact ⟨⟨R, Bh, k, rfl, rfl, by rw [HB.out.1]; exact HD.out.2.1, by have := HD.out.2.2.2; omega, HD.out.2.2.1.1, by have h := HD.out.1; rw [if_neg (by simp [hl0])] at h; exact h⟩, by show (Bh : Int).toNat < (B : Int).toNat; have := HB.out; omega⟩
          · have heq' : (Hi : Int) ≠ (p : Int) := by omega
            go_wp2_with (go_at_call 33; first | (with_reducible refine Calls.mono (hm1 _) ?_; rintro e w1 ⟨rfl, rfl⟩) | (with_reducible refine Calls.mono (hm2 _) ?_; rintro e w1 ⟨rfl, rfl⟩))
            exact ⟨⟨R, Bh, k, rfl, rfl, by rw [HB.out.1]; exact HD.out.2.1, by have := HD.out.2.2.2; omega, HD.out.2.2.1.1, by have h := HD.out.1; rw [if_neg (by simp [hlt, heq])] at h; exact h⟩, by show (Bh : Int).toNat < (B : Int).toNat; have := HB.out; omega⟩
end Go.Proofs.YtgojheoelcmcpaaDoor
