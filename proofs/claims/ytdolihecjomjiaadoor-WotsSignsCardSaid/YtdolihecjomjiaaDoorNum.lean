/-
  Words of 32 bits: turning, pushing, mixing; the numbers behind a block, and a digest, as plain functions. My own work.
-/
import Derived.WalkKit
namespace Go.Proofs.YtdolihecjomjiaaDoor
open Go.RowKit

/-- A word's value. -/
abbrev wd (x : UInt32) : Value := .int .u32 (x.toNat : Int)
def rotN (n x : Nat) : Nat := x / 2 ^ n + (x % 2 ^ n) * 2 ^ (32 - n)
def rot (n : Nat) (x : UInt32) : UInt32 := UInt32.ofNat (rotN n x.toNat)
def psh (n : Nat) (x : UInt32) : UInt32 := UInt32.ofNat (x.toNat / 2 ^ n)
def sm0 (x : UInt32) : UInt32 := rot 7 x ^^^ rot 18 x ^^^ psh 3 x
def sm1 (x : UInt32) : UInt32 := rot 17 x ^^^ rot 19 x ^^^ psh 10 x
def bg0 (x : UInt32) : UInt32 := rot 2 x ^^^ rot 13 x ^^^ rot 22 x
def bg1 (x : UInt32) : UInt32 := rot 6 x ^^^ rot 11 x ^^^ rot 25 x
def pck (e f g : UInt32) : UInt32 := (e &&& f) ||| (~~~e &&& g)
def mst (a b c : UInt32) : UInt32 := ((a &&& b) ||| (a &&& c)) ||| (b &&& c)

theorem u32_lt (x : UInt32) : x.toNat < 4294967296 := UInt32.toNat_lt x
theorem rotN_lt (n x : Nat) (hn : n ≤ 32) (hx : x < 2 ^ 32) : rotN n x < 2 ^ 32 := by
  unfold rotN
  have e : (2 : Nat) ^ 32 = 2 ^ n * 2 ^ (32 - n) := by rw [← Nat.pow_add]; congr 1; omega
  have h1 : x / 2 ^ n < 2 ^ (32 - n) := by
    rw [Nat.div_lt_iff_lt_mul (Nat.two_pow_pos n), Nat.mul_comm, ← e]; exact hx
  have h2 : x % 2 ^ n < 2 ^ n := Nat.mod_lt _ (Nat.two_pow_pos n)
  have h3 : (x % 2 ^ n) * 2 ^ (32 - n) + 2 ^ (32 - n) ≤ 2 ^ n * 2 ^ (32 - n) := by
    rw [← Nat.succ_mul]; exact Nat.mul_le_mul_right _ h2
  rw [e]; omega
theorem rot_toNat (n : Nat) (hn : n ≤ 32) (x : UInt32) : (rot n x).toNat = rotN n x.toNat := by
  unfold rot
  rw [UInt32.toNat_ofNat', Nat.mod_eq_of_lt (rotN_lt n _ hn (u32_lt x))]
theorem psh_toNat (n : Nat) (x : UInt32) : (psh n x).toNat = x.toNat / 2 ^ n := by
  unfold psh
  rw [UInt32.toNat_ofNat', Nat.mod_eq_of_lt]
  exact Nat.lt_of_le_of_lt (Nat.div_le_self _ _) (u32_lt x)

/-! What the model's operations give. -/
theorem wrap32 (n : Nat) : IntKind.u32.wrap (n : Int) = ((n % 4294967296 : Nat) : Int) := by
  simp [IntKind.wrap, IntKind.bits, IntKind.signed]
theorem add_wd (x y : UInt32) : IntKind.u32.wrap ((x.toNat : Int) + (y.toNat : Int)) = (((x + y).toNat : Nat) : Int) := by
  rw [← Int.natCast_add, wrap32, UInt32.toNat_add]
theorem ofInt_nat (k : Nat) (n : Nat) : BitVec.ofInt k (n : Int) = BitVec.ofNat k n := BitVec.ofInt_natCast k n
theorem and_wd (x y : UInt32) : bits .and .u32 (x.toNat : Int) (y.toNat : Int) = ((x &&& y).toNat : Int) := by
  have hx := u32_lt x
  have hy := u32_lt y
  show IntKind.u32.wrap ((BitVec.ofInt 32 (x.toNat : Int) &&& BitVec.ofInt 32 (y.toNat : Int)).toNat : Int) = _
  rw [ofInt_nat, ofInt_nat, BitVec.toNat_and, BitVec.toNat_ofNat, BitVec.toNat_ofNat, Nat.mod_eq_of_lt hx, Nat.mod_eq_of_lt hy, wrap32, UInt32.toNat_and, Nat.mod_eq_of_lt (Nat.and_lt_two_pow _ (n := 32) hy)]
theorem or_wd (x y : UInt32) : bits .or .u32 (x.toNat : Int) (y.toNat : Int) = ((x ||| y).toNat : Int) := by
  have hx := u32_lt x
  have hy := u32_lt y
  show IntKind.u32.wrap ((BitVec.ofInt 32 (x.toNat : Int) ||| BitVec.ofInt 32 (y.toNat : Int)).toNat : Int) = _
  rw [ofInt_nat, ofInt_nat, BitVec.toNat_or, BitVec.toNat_ofNat, BitVec.toNat_ofNat, Nat.mod_eq_of_lt hx, Nat.mod_eq_of_lt hy, wrap32, UInt32.toNat_or, Nat.mod_eq_of_lt (Nat.or_lt_two_pow (n := 32) hx hy)]
theorem xor_wd (x y : UInt32) : bits .xor .u32 (x.toNat : Int) (y.toNat : Int) = ((x ^^^ y).toNat : Int) := by
  have hx := u32_lt x
  have hy := u32_lt y
  show IntKind.u32.wrap ((BitVec.ofInt 32 (x.toNat : Int) ^^^ BitVec.ofInt 32 (y.toNat : Int)).toNat : Int) = _
  rw [ofInt_nat, ofInt_nat, BitVec.toNat_xor, BitVec.toNat_ofNat, BitVec.toNat_ofNat, Nat.mod_eq_of_lt hx, Nat.mod_eq_of_lt hy, wrap32, UInt32.toNat_xor, Nat.mod_eq_of_lt (Nat.xor_lt_two_pow (n := 32) hx hy)]
theorem not_wd (x : UInt32) : (4294967295 : Int) - (x.toNat : Int) = ((~~~x).toNat : Int) := by
  have hx := u32_lt x
  rw [UInt32.toNat_not]
  simp [UInt32.size]
  omega
/-- Turning to the left by 32 - n, as the library does it. -/
theorem rol_wd (n : Nat) (hn : 0 < n) (hn' : n < 32) (x : UInt32) : bits .or .u32 (IntKind.u32.wrap ((x.toNat : Int) * 2 ^ (32 - n))) ((x.toNat : Int) / 2 ^ n) = ((rot n x).toNat : Int) := by
  have hx : x.toNat < 2 ^ 32 := u32_lt x
  have e : (2 : Nat) ^ 32 = 2 ^ n * 2 ^ (32 - n) := by rw [← Nat.pow_add]; congr 1; omega
  have h1 : IntKind.u32.wrap ((x.toNat : Int) * 2 ^ (32 - n)) = (((x.toNat % 2 ^ n) * 2 ^ (32 - n) : Nat) : Int) := by
    have : ((x.toNat : Int) * 2 ^ (32 - n)) = ((x.toNat * 2 ^ (32 - n) : Nat) : Int) := by simp
    rw [this, wrap32]
    congr 1
    rw [show (4294967296 : Nat) = 2 ^ n * 2 ^ (32 - n) from e, Nat.mul_mod_mul_right]
  have h2 : ((x.toNat : Int) / 2 ^ n) = ((x.toNat / 2 ^ n : Nat) : Int) := by simp
  have h3 : x.toNat / 2 ^ n < 2 ^ (32 - n) := by
    rw [Nat.div_lt_iff_lt_mul (Nat.two_pow_pos n), Nat.mul_comm, ← e]; exact hx
  have h4 := rotN_lt n x.toNat (by omega) hx
  have h5 : (x.toNat % 2 ^ n) * 2 ^ (32 - n) < 2 ^ 32 := by unfold rotN at h4; exact Nat.lt_of_le_of_lt (Nat.le_add_left _ _) h4
  have h6 : x.toNat / 2 ^ n < 2 ^ 32 := Nat.lt_of_le_of_lt (Nat.div_le_self _ _) hx
  rw [h1, h2, rot_toNat n (by omega)]
  show IntKind.u32.wrap ((BitVec.ofInt 32 (((x.toNat % 2 ^ n) * 2 ^ (32 - n) : Nat) : Int) ||| BitVec.ofInt 32 ((x.toNat / 2 ^ n : Nat) : Int)).toNat : Int) = _
  rw [ofInt_nat, ofInt_nat, BitVec.toNat_or, BitVec.toNat_ofNat, BitVec.toNat_ofNat, Nat.mod_eq_of_lt h5, Nat.mod_eq_of_lt h6, wrap32]
  have h7 : (x.toNat % 2 ^ n) * 2 ^ (32 - n) ||| x.toNat / 2 ^ n = rotN n x.toNat := by
    rw [Nat.mul_comm, ← Nat.two_pow_add_eq_or_of_lt h3]
    unfold rotN
    rw [Nat.mul_comm]; omega
  rw [h7, Nat.mod_eq_of_lt h4]
theorem psh_wd (n : Nat) (x : UInt32) : ((x.toNat : Int) / 2 ^ n) = ((psh n x).toNat : Int) := by
  rw [psh_toNat]; simp
/-- Turning bit by bit. -/
theorem rot_one (n : Nat) (hn : n < 32) (x : Nat) : rotN n x / 2 + rotN n x % 2 * 2147483648 = rotN (n + 1) x := by
  unfold rotN
  obtain ⟨k, hk⟩ : ∃ k, 32 - n = k + 1 := ⟨31 - n, by omega⟩
  have hk' : 32 - (n + 1) = k := by omega
  rw [hk, hk']
  have e2 : x % 2 ^ (n + 1) = x % 2 ^ n + 2 ^ n * (x / 2 ^ n % 2) := by rw [Nat.pow_succ, Nat.mod_mul]
  have e3 : x / 2 ^ (n + 1) = x / 2 ^ n / 2 := by rw [Nat.pow_succ, Nat.div_div_eq_div_mul]
  have e4 : (2 : Nat) ^ n * 2 ^ k = 2147483648 := by rw [← Nat.pow_add, show n + k = 31 by omega]
  have e5 : (x % 2 ^ n) * 2 ^ (k + 1) = 2 * ((x % 2 ^ n) * 2 ^ k) := by rw [Nat.pow_succ, ← Nat.mul_assoc, Nat.mul_comm]
  have e6 : (x % 2 ^ n + 2 ^ n * (x / 2 ^ n % 2)) * 2 ^ k = (x % 2 ^ n) * 2 ^ k + (x / 2 ^ n % 2) * 2147483648 := by
    rw [Nat.add_mul, ← e4]; congr 1; rw [Nat.mul_comm (2 ^ n), Nat.mul_assoc]
  rw [e2, e3, e5, e6]
  generalize (x % 2 ^ n) * 2 ^ k = A
  generalize x / 2 ^ n = B
  omega
theorem mst_other (a b c : UInt32) : (a &&& b) ||| (b &&& c) ||| (c &&& a) = mst a b c := by
  unfold mst
  apply UInt32.toBitVec_inj.1
  simp only [UInt32.toBitVec_or, UInt32.toBitVec_and]
  ext i hi
  simp only [BitVec.getElem_or, BitVec.getElem_and]
  cases a.toBitVec[i] <;> cases b.toBitVec[i] <;> cases c.toBitVec[i] <;> rfl

/-! The numbers behind a block. -/
def g0 (l : List UInt32) (k : Nat) : UInt32 := l.getD k 0
/-- The next word behind these. -/
def nxt (l : List UInt32) : UInt32 := sm1 (g0 l (l.length - 2)) + g0 l (l.length - 7) + sm0 (g0 l (l.length - 15)) + g0 l (l.length - 16)
/-- So many words more. -/
def more (f : List UInt32) : Nat → List UInt32
  | 0 => f
  | n + 1 => more f n ++ [nxt (more f n)]
/-- Eight numbers behind a step, x being the constant and the word. -/
def step1 (r : List UInt32) (x : UInt32) : List UInt32 :=
  let s := g0 r 7 + bg1 (g0 r 4) + pck (g0 r 4) (g0 r 5) (g0 r 6) + x
  [s + bg0 (g0 r 0) + mst (g0 r 0) (g0 r 1) (g0 r 2), g0 r 0, g0 r 1, g0 r 2, g0 r 3 + s, g0 r 4, g0 r 5, g0 r 6]
/-- Behind so many steps, of these sums. -/
def steps (r : List UInt32) : List UInt32 → List UInt32
  | [] => r
  | x :: xs => steps (step1 r x) xs
/-- The constants, each with its word. -/
def sums (c f : List UInt32) : List UInt32 := List.zipWith (· + ·) c (more f 48)
def blkN (c : List UInt32) (h f : List UInt32) : List UInt32 := List.zipWith (· + ·) h (steps h (sums c f))

theorem more_length (f : List UInt32) (n : Nat) : (more f n).length = f.length + n := by
  induction n with
  | zero => rfl
  | succ n ih => simp [more, ih]; omega
theorem more_keep (f : List UInt32) (n k i : Nat) (hi : i < f.length + n) : (more f (n + k))[i]? = (more f n)[i]? := by
  induction k with
  | zero => rfl
  | succ k ih =>
    rw [← Nat.add_assoc]
    simp only [more]
    rw [List.getElem?_append_left (by rw [more_length]; omega), ih]
theorem step1_length (r : List UInt32) (x : UInt32) : (step1 r x).length = 8 := rfl
theorem steps_length (r : List UInt32) (xs : List UInt32) (hr : r.length = 8) : (steps r xs).length = 8 := by
  induction xs generalizing r with
  | nil => exact hr
  | cons x xs ih => exact ih _ rfl
theorem steps_snoc (r : List UInt32) (xs : List UInt32) (x : UInt32) : steps r (xs ++ [x]) = step1 (steps r xs) x := by
  induction xs generalizing r with
  | nil => rfl
  | cons y ys ih => exact ih _
end Go.Proofs.YtdolihecjomjiaaDoor
