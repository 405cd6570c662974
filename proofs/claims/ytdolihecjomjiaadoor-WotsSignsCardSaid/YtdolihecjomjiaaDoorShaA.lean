/-
  Contracts of package sha's small functions: turning, pushing, picking, the mixes. My own work.
-/
import Derived.Test.YtdolihecjomjiaaDoorNum
import Derived.Test.YtdolihecjomjiaaDoorDrx
import Derived.Deep.QuietTactic
import Derived.BigQuiet
import Derived.Lib.Hide
namespace Go.Proofs.YtdolihecjomjiaaDoor
open Go.RowKit

theorem left_n (n : Nat) (hn : 0 < n) (hn' : n < 32) : bits .and .u64 (IntKind.u64.wrap (-(n : Int))) 31 = ((32 - n : Nat) : Int) := by
  have e : IntKind.u64.wrap (-(n : Int)) = ((18446744073709551616 - n : Nat) : Int) := by
    simp [IntKind.wrap, IntKind.bits, IntKind.signed]; omega
  rw [e]
  show IntKind.u64.wrap ((BitVec.ofInt 64 ((18446744073709551616 - n : Nat) : Int) &&& BitVec.ofInt 64 ((31 : Nat) : Int)).toNat : Int) = _
  rw [ofInt_nat, ofInt_nat, BitVec.toNat_and, BitVec.toNat_ofNat, BitVec.toNat_ofNat]
  have h1 : (18446744073709551616 - n) % 2 ^ 64 = 18446744073709551616 - n := Nat.mod_eq_of_lt (by omega)
  have h2 : (31 : Nat) % 2 ^ 64 = 2 ^ 5 - 1 := rfl
  rw [h1, h2, Nat.and_two_pow_sub_one_eq_mod]
  have h3 : (18446744073709551616 - n) % 2 ^ 5 = 32 - n := by omega
  rw [h3]
  simp [IntKind.wrap, IntKind.bits, IntKind.signed]; omega

theorem ret_int {k : IntKind} {a b : Int} (h : a = b) : Ending.returned (.int k a) = .returned (.int k b) := by rw [h]
theorem rol_walk (n : Nat) (hn : 0 < n) (hn' : n < 32) (x : UInt32) : bits .or .u32 ((x.toNat : Int) * 2 ^ (32 - n) % 4294967296) ((x.toNat : Int) / 2 ^ (32 - (32 - n))) = ((rot n x).toNat : Int) := by
  have h := rol_wd n hn hn' x
  rw [show 32 - (32 - n) = n by omega, ← h]
  congr 1
theorem rotl_c (x : UInt32) (n : Nat) (hn : 0 < n) (hn' : n < 32) (w : World) :
    Calls Tryd.prog 64 #[wd x, .int .i64 (-(n : Int))] w fun e w' => e = .returned (wd (rot n x)) ∧ w' = w := by
  have h1 := left_n n hn hn'
  have h2 := Lib.hid (rol_walk n hn hn' x)
  go_enter Tryd.func64, Tryd.ntmps64
  go_wp2
  go_ret
  exact ⟨ret_int h2.out, rfl⟩
theorem turn_c (x : UInt32) (n : Nat) (hn : 0 < n) (hn' : n < 32) (w : World) :
    Calls Tryd.prog 63 #[wd x, .int .i64 (n : Int)] w fun e w' => e = .returned (wd (rot n x)) ∧ w' = w := by
  go_enter Tryd.func63, Tryd.ntmps63
  go_wp2_with (go_at_call 64; refine (rotl_c x n hn hn' _).mono ?_; rintro e w' ⟨rfl, rfl⟩)
  go_ret
  exact ⟨rfl, rfl⟩
theorem push_c (x : UInt32) (n : Nat) (hn' : n < 32) (w : World) :
    Calls Tryd.prog 65 #[wd x, .int .i64 (n : Int)] w fun e w' => e = .returned (wd (psh n x)) ∧ w' = w := by
  have h2 := Lib.hid (psh_wd n x)
  go_enter Tryd.func65, Tryd.ntmps65
  go_wp2
  go_ret
  exact ⟨ret_int h2.out, rfl⟩
theorem pck_walk (x y z : UInt32) : bits .or .u32 (bits .and .u32 (x.toNat : Int) (y.toNat : Int)) (bits .and .u32 (bits .xor .u32 IntKind.u32.max (x.toNat : Int)) (z.toNat : Int)) = ((pck x y z).toNat : Int) := by
  have h : bits .xor .u32 IntKind.u32.max (x.toNat : Int) = ((~~~x).toNat : Int) := by
    rw [show IntKind.u32.max = (((4294967295 : UInt32).toNat : Nat) : Int) by decide, xor_wd]
    congr 2
  rw [and_wd, h, and_wd, or_wd]; rfl
theorem mst_walk (x y z : UInt32) : bits .or .u32 (bits .or .u32 (bits .and .u32 (x.toNat : Int) (y.toNat : Int)) (bits .and .u32 (x.toNat : Int) (z.toNat : Int))) (bits .and .u32 (y.toNat : Int) (z.toNat : Int)) = ((mst x y z).toNat : Int) := by
  rw [and_wd, and_wd, and_wd, or_wd, or_wd]; rfl
theorem pick_c (x y z : UInt32) (w : World) :
    Calls Tryd.prog 56 #[wd x, wd y, wd z] w fun e w' => e = .returned (wd (pck x y z)) ∧ w' = w := by
  have h2 := Lib.hid (pck_walk x y z)
  go_enter Tryd.func56, Tryd.ntmps56
  go_wp2
  go_ret
  exact ⟨ret_int h2.out, rfl⟩
theorem most_c (x y z : UInt32) (w : World) :
    Calls Tryd.prog 58 #[wd x, wd y, wd z] w fun e w' => e = .returned (wd (mst x y z)) ∧ w' = w := by
  have h2 := Lib.hid (mst_walk x y z)
  go_enter Tryd.func58, Tryd.ntmps58
  go_wp2
  go_ret
  exact ⟨ret_int h2.out, rfl⟩
/-- The place of the k-th of eight, behind t steps. -/
def plc (k t : Nat) : Nat := (k + 7 * t) % 8
theorem plc_walk (k t : Nat) (hk : k < 8) (ht : t < 64) : bits .and .i64 ((k : Int) - (t : Int)) 7 = (plc k t : Int) := by
  obtain ⟨m, hm⟩ : ∃ m : Nat, 18446744073709551616 + (k : Int) - (t : Int) = (m : Int) := ⟨18446744073709551616 + k - t, by omega⟩
  have e : BitVec.ofInt 64 ((k : Int) - (t : Int)) = BitVec.ofNat 64 m := by
    rw [← ofInt_nat, ← hm]
    apply BitVec.eq_of_toInt_eq
    simp only [BitVec.toInt_ofInt]
    rw [show 18446744073709551616 + (k : Int) - (t : Int) = ((k : Int) - (t : Int)) + ((2 ^ 64 : Nat) : Int) by omega, Int.add_bmod_right]
  show IntKind.i64.wrap ((BitVec.ofInt 64 ((k : Int) - (t : Int)) &&& BitVec.ofInt 64 ((7 : Nat) : Int)).toNat : Int) = _
  rw [e, ofInt_nat, BitVec.toNat_and, BitVec.toNat_ofNat, BitVec.toNat_ofNat]
  rw [show (7 : Nat) % 2 ^ 64 = 2 ^ 3 - 1 from rfl, Nat.and_two_pow_sub_one_eq_mod]
  have h3 : m % 2 ^ 64 % 2 ^ 3 = plc k t := by unfold plc; omega
  have h4 : plc k t < 8 := by unfold plc; omega
  rw [h3]
  simp [IntKind.wrap, IntKind.bits, IntKind.signed]; omega
theorem place_c (k t : Nat) (hk : k < 8) (ht : t < 64) (w : World) :
    Calls Tryd.prog 53 #[.int .i64 (k : Int), .int .i64 (t : Int)] w fun e w' => e = .returned (.int .i64 (plc k t : Int)) ∧ w' = w := by
  have h2 := Lib.hid (plc_walk k t hk ht)
  go_enter Tryd.func53, Tryd.ntmps53
  go_wp2
  go_ret
  exact ⟨ret_int h2.out, rfl⟩
end Go.Proofs.YtdolihecjomjiaaDoor
