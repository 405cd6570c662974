/-
  Contracts: math/bits.Mul64. My own work.
-/
import Derived.Test.YtgojheoelcmcpaaDoorRefT
namespace Go.Proofs.YtgojheoelcmcpaaDoor
open Go.RowKit
theorem and_mask (x : Nat) (hx : x < 18446744073709551616) : bits .and .u64 (x : Int) 4294967295 = ((x % 4294967296 : Nat) : Int) := by
  show IntKind.u64.wrap ((BitVec.ofInt 64 (x : Int) &&& BitVec.ofInt 64 ((4294967295 : Nat) : Int)).toNat : Int) = _
  rw [ofInt_nat, ofInt_nat, BitVec.toNat_and, BitVec.toNat_ofNat, BitVec.toNat_ofNat, Nat.mod_eq_of_lt (by omega : x < 2 ^ 64)]
  rw [show (4294967295 : Nat) % 2 ^ 64 = 2 ^ 32 - 1 from rfl, Nat.and_two_pow_sub_one_eq_mod, IntKind.wrap_u64]
  omega
theorem mul_hi (P Q R S : Nat) (_hP : P ≤ 18446744065119617025) (_hQ : Q ≤ 18446744065119617025) (_hR : R ≤ 18446744065119617025) (_hS : S ≤ 18446744065119617025) :
    (S * 18446744073709551616 + (P + R) * 4294967296 + Q) / 18446744073709551616 = S + (P + Q / 4294967296) / 4294967296 + ((P + Q / 4294967296) % 4294967296 + R) / 4294967296 := by omega
theorem mul_le (a b : Nat) (ha : a < 4294967296) (hb : b < 4294967296) : a * b ≤ 18446744065119617025 := by
  have := Nat.mul_le_mul (show a ≤ 4294967295 by omega) (show b ≤ 4294967295 by omega)
  omega
theorem mul_split (x y : Nat) : x * y = (x / 4294967296 * (y / 4294967296)) * 18446744073709551616 + (x / 4294967296 * (y % 4294967296) + x % 4294967296 * (y / 4294967296)) * 4294967296 + x % 4294967296 * (y % 4294967296) := by
  have h1 := Nat.div_add_mod x 4294967296
  have h2 := Nat.div_add_mod y 4294967296
  generalize x / 4294967296 = a at *
  generalize x % 4294967296 = b at *
  generalize y / 4294967296 = c at *
  generalize y % 4294967296 = d at *
  subst h1
  subst h2
  simp only [Nat.add_mul, Nat.mul_add]
  generalize hx : a * c = S
  generalize hy : a * d = P
  generalize hz : b * c = R
  generalize hw : b * d = Q
  have e1 : 4294967296 * a * (4294967296 * c) = S * 18446744073709551616 := by
    rw [← hx, Nat.mul_mul_mul_comm]; omega
  have e2 : 4294967296 * a * d = P * 4294967296 := by rw [← hy, Nat.mul_assoc]; omega
  have e3 : b * (4294967296 * c) = R * 4294967296 := by rw [← hz, Nat.mul_left_comm]; omega
  omega
theorem cast_wrap (n : Nat) (h : n < 18446744073709551616) : IntKind.u64.wrap (n : Int) = (n : Int) := by
  rw [IntKind.wrap_u64]; omega
theorem mul_out (x y : Nat) (hx : x < 18446744073709551616) (hy : y < 18446744073709551616) :
    IntKind.u64.wrap (IntKind.u64.wrap (IntKind.u64.wrap ((x : Int) / 4294967296 * ((y : Int) / 4294967296)) + IntKind.u64.wrap (IntKind.u64.wrap ((x : Int) / 4294967296 * ((y : Int) % 4294967296)) + IntKind.u64.wrap ((x : Int) % 4294967296 * ((y : Int) % 4294967296)) / 4294967296) / 4294967296) +
      IntKind.u64.wrap (bits BinOp.and IntKind.u64 (IntKind.u64.wrap (IntKind.u64.wrap ((x : Int) / 4294967296 * ((y : Int) % 4294967296)) + IntKind.u64.wrap ((x : Int) % 4294967296 * ((y : Int) % 4294967296)) / 4294967296)) 4294967295 + IntKind.u64.wrap ((x : Int) % 4294967296 * ((y : Int) / 4294967296))) / 4294967296) = ((x * y / 18446744073709551616 : Nat) : Int) := by
  rw [mul_split x y]
  have ea : (x : Int) / 4294967296 = ((x / 4294967296 : Nat) : Int) := rfl
  have eb : (x : Int) % 4294967296 = ((x % 4294967296 : Nat) : Int) := rfl
  have ec : (y : Int) / 4294967296 = ((y / 4294967296 : Nat) : Int) := rfl
  have ed : (y : Int) % 4294967296 = ((y % 4294967296 : Nat) : Int) := rfl
  rw [ea, eb, ec, ed]
  have la : x / 4294967296 < 4294967296 := by omega
  have lb : x % 4294967296 < 4294967296 := by omega
  have lc : y / 4294967296 < 4294967296 := by omega
  have ld : y % 4294967296 < 4294967296 := by omega
  generalize x / 4294967296 = a at *
  generalize x % 4294967296 = b at *
  generalize y / 4294967296 = c at *
  generalize y % 4294967296 = d at *
  have hS := mul_le a c la lc
  have hP := mul_le a d la ld
  have hR := mul_le b c lb lc
  have hQ := mul_le b d lb ld
  simp only [← Int.natCast_mul]
  generalize a * c = S at *
  generalize a * d = P at *
  generalize b * c = R at *
  generalize b * d = Q at *
  clear ea eb ec ed la lb lc ld hx hy
  rw [mul_hi P Q R S hP hQ hR hS]
  rw [cast_wrap S (by omega), cast_wrap P (by omega), cast_wrap R (by omega), cast_wrap Q (by omega)]
  have e1 : (P : Int) + (Q : Int) / 4294967296 = ((P + Q / 4294967296 : Nat) : Int) := by omega
  rw [e1, cast_wrap _ (by omega), and_mask _ (by omega)]
  have lt : P + Q / 4294967296 < 18446744073709551616 := by omega
  generalize P + Q / 4294967296 = T at *
  have e2 : ((T % 4294967296 : Nat) : Int) + (R : Int) = ((T % 4294967296 + R : Nat) : Int) := by omega
  have e3 : (S : Int) + (T : Int) / 4294967296 = ((S + T / 4294967296 : Nat) : Int) := by omega
  rw [e2, e3, cast_wrap _ (by omega), cast_wrap _ (by omega)]
  have e4 : ((S + T / 4294967296 : Nat) : Int) + ((T % 4294967296 + R : Nat) : Int) / 4294967296 = ((S + T / 4294967296 + (T % 4294967296 + R) / 4294967296 : Nat) : Int) := by omega
  rw [e4, cast_wrap _ (by omega)]
theorem mul_lo (x y : Nat) : IntKind.u64.wrap ((x : Int) * (y : Int)) = ((x * y % 18446744073709551616 : Nat) : Int) := by
  rw [← Int.natCast_mul, IntKind.wrap_u64]
  generalize x * y = z
  omega
set_option maxRecDepth 100000 in
theorem mul64_c (x y : Nat) (hx : x < 18446744073709551616) (hy : y < 18446744073709551616) (w : World) :
    Calls Tryd.prog 33 #[.int .u64 (x : Int), .int .u64 (y : Int)] w fun e w' => e = .returned (.tuple #[.int .u64 ((x * y / 18446744073709551616 : Nat) : Int), .int .u64 ((x * y % 18446744073709551616 : Nat) : Int)]) ∧ w' = w := by
  rw [← mul_out x y hx hy, ← mul_lo x y]
  have a1 := and_mask x hx
  have a2 := and_mask y hy
  go_enter Tryd.func33, Tryd.ntmps33
  go_wp2_with fail
  go_ret2
  exact ⟨rfl, rfl⟩
end Go.Proofs.YtgojheoelcmcpaaDoor
