/-
  My own texts Num ShaA Dry ShaB Sto ShaC ShaD Ring, one behind the other.
-/
import Derived.WalkKit
import Derived.Test.YtbacmeaeehhhfaaDoorB1
import Derived.Deep.QuietTactic
import Derived.BigQuiet
import Derived.Lib.Hide
import Derived.Shelf.Abstract
namespace Go.Proofs.YtbacmeaeehhhfaaDoor
section
open Go.RowKit

/-- A word's value. -/
abbrev wd (x : UInt32) : Value := .int .u32 (x.toNat : Int)
def rotN (n x : Nat) : Nat := x / 2 ^ n + (x % 2 ^ n) * 2 ^ (32 - n)
def rot (n : Nat) (x : UInt32) : UInt32 := UInt32.ofNat (rotN n x.toNat)
def psh (n : Nat) (x : UInt32) : UInt32 := UInt32.ofNat (x.toNat / 2 ^ n)
def sm0 (x : UInt32) : UInt32 := rot 7 x ^^^ rot 18 x ^^^ psh 3 x
def sm1 (x : UInt32) : UInt32 := rot 17 x ^^^ rot 19 x ^^^ psh 10 x
def bg0 (x : UInt32) : UInt32 := rot 2 x ^^^ rot 13 x ^^^ rot 22 x
def bg1 (x : UInt32) : UInt32 := rot 6 x ^^^ rot 11 x ^^^ rot 25 x
def pck (e f g : UInt32) : UInt32 := (e &&& f) ||| (~~~e &&& g)
def mst (a b c : UInt32) : UInt32 := ((a &&& b) ||| (a &&& c)) ||| (b &&& c)

theorem u32_lt (x : UInt32) : x.toNat < 4294967296 := UInt32.toNat_lt x
theorem rotN_lt (n x : Nat) (hn : n ≤ 32) (hx : x < 2 ^ 32) : rotN n x < 2 ^ 32 := by
  unfold rotN
  have e : (2 : Nat) ^ 32 = 2 ^ n * 2 ^ (32 - n) := by rw [← Nat.pow_add]; congr 1; omega
  have h1 : x / 2 ^ n < 2 ^ (32 - n) := by
    rw [Nat.div_lt_iff_lt_mul (Nat.two_pow_pos n), Nat.mul_comm, ← e]; exact hx
  have h2 : x % 2 ^ n < 2 ^ n := Nat.mod_lt _ (Nat.two_pow_pos n)
  have h3 : (x % 2 ^ n) * 2 ^ (32 - n) + 2 ^ (32 - n) ≤ 2 ^ n * 2 ^ (32 - n) := by
    rw [← Nat.succ_mul]; exact Nat.mul_le_mul_right _ h2
  rw [e]; omega
theorem rot_toNat (n : Nat) (hn : n ≤ 32) (x : UInt32) : (rot n x).toNat = rotN n x.toNat := by
  unfold rot
  rw [UInt32.toNat_ofNat', Nat.mod_eq_of_lt (rotN_lt n _ hn (u32_lt x))]
theorem psh_toNat (n : Nat) (x : UInt32) : (psh n x).toNat = x.toNat / 2 ^ n := by
  unfold psh
  rw [UInt32.toNat_ofNat', Nat.mod_eq_of_lt]
  exact Nat.lt_of_le_of_lt (Nat.div_le_self _ _) (u32_lt x)

/-! What the model's operations give. -/
theorem wrap32 (n : Nat) : IntKind.u32.wrap (n : Int) = ((n % 4294967296 : Nat) : Int) := by
  simp [IntKind.wrap, IntKind.bits, IntKind.signed]
theorem add_wd (x y : UInt32) : IntKind.u32.wrap ((x.toNat : Int) + (y.toNat : Int)) = (((x + y).toNat : Nat) : Int) := by
  rw [← Int.natCast_add, wrap32, UInt32.toNat_add]
theorem ofInt_nat (k : Nat) (n : Nat) : BitVec.ofInt k (n : Int) = BitVec.ofNat k n := BitVec.ofInt_natCast k n
theorem and_wd (x y : UInt32) : bits .and .u32 (x.toNat : Int) (y.toNat : Int) = ((x &&& y).toNat : Int) := by
  have hx := u32_lt x
  have hy := u32_lt y
  show IntKind.u32.wrap ((BitVec.ofInt 32 (x.toNat : Int) &&& BitVec.ofInt 32 (y.toNat : Int)).toNat : Int) = _
  rw [ofInt_nat, ofInt_nat, BitVec.toNat_and, BitVec.toNat_ofNat, BitVec.toNat_ofNat, Nat.mod_eq_of_lt hx, Nat.mod_eq_of_lt hy, wrap32, UInt32.toNat_and, Nat.mod_eq_of_lt (Nat.and_lt_two_pow _ (n := 32) hy)]
theorem or_wd (x y : UInt32) : bits .or .u32 (x.toNat : Int) (y.toNat : Int) = ((x ||| y).toNat : Int) := by
  have hx := u32_lt x
  have hy := u32_lt y
  show IntKind.u32.wrap ((BitVec.ofInt 32 (x.toNat : Int) ||| BitVec.ofInt 32 (y.toNat : Int)).toNat : Int) = _
  rw [ofInt_nat, ofInt_nat, BitVec.toNat_or, BitVec.toNat_ofNat, BitVec.toNat_ofNat, Nat.mod_eq_of_lt hx, Nat.mod_eq_of_lt hy, wrap32, UInt32.toNat_or, Nat.mod_eq_of_lt (Nat.or_lt_two_pow (n := 32) hx hy)]
theorem xor_wd (x y : UInt32) : bits .xor .u32 (x.toNat : Int) (y.toNat : Int) = ((x ^^^ y).toNat : Int) := by
  have hx := u32_lt x
  have hy := u32_lt y
  show IntKind.u32.wrap ((BitVec.ofInt 32 (x.toNat : Int) ^^^ BitVec.ofInt 32 (y.toNat : Int)).toNat : Int) = _
  rw [ofInt_nat, ofInt_nat, BitVec.toNat_xor, BitVec.toNat_ofNat, BitVec.toNat_ofNat, Nat.mod_eq_of_lt hx, Nat.mod_eq_of_lt hy, wrap32, UInt32.toNat_xor, Nat.mod_eq_of_lt (Nat.xor_lt_two_pow (n := 32) hx hy)]
theorem not_wd (x : UInt32) : (4294967295 : Int) - (x.toNat : Int) = ((~~~x).toNat : Int) := by
  have hx := u32_lt x
  rw [UInt32.toNat_not]
  simp [UInt32.size]
  omega
/-- Turning to the left by 32 - n, as the library does it. -/
theorem rol_wd (n : Nat) (hn : 0 < n) (hn' : n < 32) (x : UInt32) : bits .or .u32 (IntKind.u32.wrap ((x.toNat : Int) * 2 ^ (32 - n))) ((x.toNat : Int) / 2 ^ n) = ((rot n x).toNat : Int) := by
  have hx : x.toNat < 2 ^ 32 := u32_lt x
  have e : (2 : Nat) ^ 32 = 2 ^ n * 2 ^ (32 - n) := by rw [← Nat.pow_add]; congr 1; omega
  have h1 : IntKind.u32.wrap ((x.toNat : Int) * 2 ^ (32 - n)) = (((x.toNat % 2 ^ n) * 2 ^ (32 - n) : Nat) : Int) := by
    have : ((x.toNat : Int) * 2 ^ (32 - n)) = ((x.toNat * 2 ^ (32 - n) : Nat) : Int) := by simp
    rw [this, wrap32]
    congr 1
    rw [show (4294967296 : Nat) = 2 ^ n * 2 ^ (32 - n) from e, Nat.mul_mod_mul_right]
  have h2 : ((x.toNat : Int) / 2 ^ n) = ((x.toNat / 2 ^ n : Nat) : Int) := by simp
  have h3 : x.toNat / 2 ^ n < 2 ^ (32 - n) := by
    rw [Nat.div_lt_iff_lt_mul (Nat.two_pow_pos n), Nat.mul_comm, ← e]; exact hx
  have h4 := rotN_lt n x.toNat (by omega) hx
  have h5 : (x.toNat % 2 ^ n) * 2 ^ (32 - n) < 2 ^ 32 := by unfold rotN at h4; exact Nat.lt_of_le_of_lt (Nat.le_add_left _ _) h4
  have h6 : x.toNat / 2 ^ n < 2 ^ 32 := Nat.lt_of_le_of_lt (Nat.div_le_self _ _) hx
  rw [h1, h2, rot_toNat n (by omega)]
  show IntKind.u32.wrap ((BitVec.ofInt 32 (((x.toNat % 2 ^ n) * 2 ^ (32 - n) : Nat) : Int) ||| BitVec.ofInt 32 ((x.toNat / 2 ^ n : Nat) : Int)).toNat : Int) = _
  rw [ofInt_nat, ofInt_nat, BitVec.toNat_or, BitVec.toNat_ofNat, BitVec.toNat_ofNat, Nat.mod_eq_of_lt h5, Nat.mod_eq_of_lt h6, wrap32]
  have h7 : (x.toNat % 2 ^ n) * 2 ^ (32 - n) ||| x.toNat / 2 ^ n = rotN n x.toNat := by
    rw [Nat.mul_comm, ← Nat.two_pow_add_eq_or_of_lt h3]
    unfold rotN
    rw [Nat.mul_comm]; omega
  rw [h7, Nat.mod_eq_of_lt h4]
theorem psh_wd (n : Nat) (x : UInt32) : ((x.toNat : Int) / 2 ^ n) = ((psh n x).toNat : Int) := by
  rw [psh_toNat]; simp
/-- Turning bit by bit. -/
theorem rot_one (n : Nat) (hn : n < 32) (x : Nat) : rotN n x / 2 + rotN n x % 2 * 2147483648 = rotN (n + 1) x := by
  unfold rotN
  obtain ⟨k, hk⟩ : ∃ k, 32 - n = k + 1 := ⟨31 - n, by omega⟩
  have hk' : 32 - (n + 1) = k := by omega
  rw [hk, hk']
  have e2 : x % 2 ^ (n + 1) = x % 2 ^ n + 2 ^ n * (x / 2 ^ n % 2) := by rw [Nat.pow_succ, Nat.mod_mul]
  have e3 : x / 2 ^ (n + 1) = x / 2 ^ n / 2 := by rw [Nat.pow_succ, Nat.div_div_eq_div_mul]
  have e4 : (2 : Nat) ^ n * 2 ^ k = 2147483648 := by rw [← Nat.pow_add, show n + k = 31 by omega]
  have e5 : (x % 2 ^ n) * 2 ^ (k + 1) = 2 * ((x % 2 ^ n) * 2 ^ k) := by rw [Nat.pow_succ, ← Nat.mul_assoc, Nat.mul_comm]
  have e6 : (x % 2 ^ n + 2 ^ n * (x / 2 ^ n % 2)) * 2 ^ k = (x % 2 ^ n) * 2 ^ k + (x / 2 ^ n % 2) * 2147483648 := by
    rw [Nat.add_mul, ← e4]; congr 1; rw [Nat.mul_comm (2 ^ n), Nat.mul_assoc]
  rw [e2, e3, e5, e6]
  generalize (x % 2 ^ n) * 2 ^ k = A
  generalize x / 2 ^ n = B
  omega
theorem mst_other (a b c : UInt32) : (a &&& b) ||| (b &&& c) ||| (c &&& a) = mst a b c := by
  unfold mst
  apply UInt32.toBitVec_inj.1
  simp only [UInt32.toBitVec_or, UInt32.toBitVec_and]
  ext i hi
  simp only [BitVec.getElem_or, BitVec.getElem_and]
  cases a.toBitVec[i] <;> cases b.toBitVec[i] <;> cases c.toBitVec[i] <;> rfl

/-! The numbers behind a block. -/
def g0 (l : List UInt32) (k : Nat) : UInt32 := l.getD k 0
/-- The next word behind these. -/
def nxt (l : List UInt32) : UInt32 := sm1 (g0 l (l.length - 2)) + g0 l (l.length - 7) + sm0 (g0 l (l.length - 15)) + g0 l (l.length - 16)
/-- So many words more. -/
def more (f : List UInt32) : Nat → List UInt32
  | 0 => f
  | n + 1 => more f n ++ [nxt (more f n)]
/-- Eight numbers behind a step, x being the constant and the word. -/
def step1 (r : List UInt32) (x : UInt32) : List UInt32 :=
  let s := g0 r 7 + bg1 (g0 r 4) + pck (g0 r 4) (g0 r 5) (g0 r 6) + x
  [s + bg0 (g0 r 0) + mst (g0 r 0) (g0 r 1) (g0 r 2), g0 r 0, g0 r 1, g0 r 2, g0 r 3 + s, g0 r 4, g0 r 5, g0 r 6]
/-- Behind so many steps, of these sums. -/
def steps (r : List UInt32) : List UInt32 → List UInt32
  | [] => r
  | x :: xs => steps (step1 r x) xs
/-- The constants, each with its word. -/
def sums (c f : List UInt32) : List UInt32 := List.zipWith (· + ·) c (more f 48)
def blkN (c : List UInt32) (h f : List UInt32) : List UInt32 := List.zipWith (· + ·) h (steps h (sums c f))

theorem more_length (f : List UInt32) (n : Nat) : (more f n).length = f.length + n := by
  induction n with
  | zero => rfl
  | succ n ih => simp [more, ih]; omega
theorem more_keep (f : List UInt32) (n k i : Nat) (hi : i < f.length + n) : (more f (n + k))[i]? = (more f n)[i]? := by
  induction k with
  | zero => rfl
  | succ k ih =>
    rw [← Nat.add_assoc]
    simp only [more]
    rw [List.getElem?_append_left (by rw [more_length]; omega), ih]
theorem step1_length (r : List UInt32) (x : UInt32) : (step1 r x).length = 8 := rfl
theorem steps_length (r : List UInt32) (xs : List UInt32) (hr : r.length = 8) : (steps r xs).length = 8 := by
  induction xs generalizing r with
  | nil => exact hr
  | cons x xs ih => exact ih _ rfl
theorem steps_snoc (r : List UInt32) (xs : List UInt32) (x : UInt32) : steps r (xs ++ [x]) = step1 (steps r xs) x := by
  induction xs generalizing r with
  | nil => rfl
  | cons y ys ih => exact ih _
end
section
open Go.RowKit

theorem left_n (n : Nat) (hn : 0 < n) (hn' : n < 32) : bits .and .u64 (IntKind.u64.wrap (-(n : Int))) 31 = ((32 - n : Nat) : Int) := by
  have e : IntKind.u64.wrap (-(n : Int)) = ((18446744073709551616 - n : Nat) : Int) := by
    simp [IntKind.wrap, IntKind.bits, IntKind.signed]; omega
  rw [e]
  show IntKind.u64.wrap ((BitVec.ofInt 64 ((18446744073709551616 - n : Nat) : Int) &&& BitVec.ofInt 64 ((31 : Nat) : Int)).toNat : Int) = _
  rw [ofInt_nat, ofInt_nat, BitVec.toNat_and, BitVec.toNat_ofNat, BitVec.toNat_ofNat]
  have h1 : (18446744073709551616 - n) % 2 ^ 64 = 18446744073709551616 - n := Nat.mod_eq_of_lt (by omega)
  have h2 : (31 : Nat) % 2 ^ 64 = 2 ^ 5 - 1 := rfl
  rw [h1, h2, Nat.and_two_pow_sub_one_eq_mod]
  have h3 : (18446744073709551616 - n) % 2 ^ 5 = 32 - n := by omega
  rw [h3]
  simp [IntKind.wrap, IntKind.bits, IntKind.signed]; omega

theorem ret_int {k : IntKind} {a b : Int} (h : a = b) : Ending.returned (.int k a) = .returned (.int k b) := by rw [h]
theorem rol_walk (n : Nat) (hn : 0 < n) (hn' : n < 32) (x : UInt32) : bits .or .u32 ((x.toNat : Int) * 2 ^ (32 - n) % 4294967296) ((x.toNat : Int) / 2 ^ (32 - (32 - n))) = ((rot n x).toNat : Int) := by
  have h := rol_wd n hn hn' x
  rw [show 32 - (32 - n) = n by omega, ← h]
  congr 1
theorem rotl_c (x : UInt32) (n : Nat) (hn : 0 < n) (hn' : n < 32) (w : World) :
    Calls Tryd.prog 90 #[wd x, .int .i64 (-(n : Int))] w fun e w' => e = .returned (wd (rot n x)) ∧ w' = w := by
  have h1 := left_n n hn hn'
  have h2 := Lib.hid (rol_walk n hn hn' x)
  go_enter Tryd.func90, Tryd.ntmps90
  go_wp2
  go_ret
  exact ⟨ret_int h2.out, rfl⟩
theorem turn_c (x : UInt32) (n : Nat) (hn : 0 < n) (hn' : n < 32) (w : World) :
    Calls Tryd.prog 89 #[wd x, .int .i64 (n : Int)] w fun e w' => e = .returned (wd (rot n x)) ∧ w' = w := by
  go_enter Tryd.func89, Tryd.ntmps89
  go_wp2_with (go_at_call 90; refine (rotl_c x n hn hn' _).mono ?_; rintro e w' ⟨rfl, rfl⟩)
  go_ret
  exact ⟨rfl, rfl⟩
theorem push_c (x : UInt32) (n : Nat) (hn' : n < 32) (w : World) :
    Calls Tryd.prog 91 #[wd x, .int .i64 (n : Int)] w fun e w' => e = .returned (wd (psh n x)) ∧ w' = w := by
  have h2 := Lib.hid (psh_wd n x)
  go_enter Tryd.func91, Tryd.ntmps91
  go_wp2
  go_ret
  exact ⟨ret_int h2.out, rfl⟩
theorem pck_walk (x y z : UInt32) : bits .or .u32 (bits .and .u32 (x.toNat : Int) (y.toNat : Int)) (bits .and .u32 (bits .xor .u32 IntKind.u32.max (x.toNat : Int)) (z.toNat : Int)) = ((pck x y z).toNat : Int) := by
  have h : bits .xor .u32 IntKind.u32.max (x.toNat : Int) = ((~~~x).toNat : Int) := by
    rw [show IntKind.u32.max = (((4294967295 : UInt32).toNat : Nat) : Int) by decide, xor_wd]
    congr 2
  rw [and_wd, h, and_wd, or_wd]; rfl
theorem mst_walk (x y z : UInt32) : bits .or .u32 (bits .or .u32 (bits .and .u32 (x.toNat : Int) (y.toNat : Int)) (bits .and .u32 (x.toNat : Int) (z.toNat : Int))) (bits .and .u32 (y.toNat : Int) (z.toNat : Int)) = ((mst x y z).toNat : Int) := by
  rw [and_wd, and_wd, and_wd, or_wd, or_wd]; rfl
theorem pick_c (x y z : UInt32) (w : World) :
    Calls Tryd.prog 82 #[wd x, wd y, wd z] w fun e w' => e = .returned (wd (pck x y z)) ∧ w' = w := by
  have h2 := Lib.hid (pck_walk x y z)
  go_enter Tryd.func82, Tryd.ntmps82
  go_wp2
  go_ret
  exact ⟨ret_int h2.out, rfl⟩
theorem most_c (x y z : UInt32) (w : World) :
    Calls Tryd.prog 84 #[wd x, wd y, wd z] w fun e w' => e = .returned (wd (mst x y z)) ∧ w' = w := by
  have h2 := Lib.hid (mst_walk x y z)
  go_enter Tryd.func84, Tryd.ntmps84
  go_wp2
  go_ret
  exact ⟨ret_int h2.out, rfl⟩
/-- The place of the k-th of eight, behind t steps. -/
def plc (k t : Nat) : Nat := (k + 7 * t) % 8
theorem plc_walk (k t : Nat) (hk : k < 8) (ht : t < 64) : bits .and .i64 ((k : Int) - (t : Int)) 7 = (plc k t : Int) := by
  obtain ⟨m, hm⟩ : ∃ m : Nat, 18446744073709551616 + (k : Int) - (t : Int) = (m : Int) := ⟨18446744073709551616 + k - t, by omega⟩
  have e : BitVec.ofInt 64 ((k : Int) - (t : Int)) = BitVec.ofNat 64 m := by
    rw [← ofInt_nat, ← hm]
    apply BitVec.eq_of_toInt_eq
    simp only [BitVec.toInt_ofInt]
    rw [show 18446744073709551616 + (k : Int) - (t : Int) = ((k : Int) - (t : Int)) + ((2 ^ 64 : Nat) : Int) by omega, Int.add_bmod_right]
  show IntKind.i64.wrap ((BitVec.ofInt 64 ((k : Int) - (t : Int)) &&& BitVec.ofInt 64 ((7 : Nat) : Int)).toNat : Int) = _
  rw [e, ofInt_nat, BitVec.toNat_and, BitVec.toNat_ofNat, BitVec.toNat_ofNat]
  rw [show (7 : Nat) % 2 ^ 64 = 2 ^ 3 - 1 from rfl, Nat.and_two_pow_sub_one_eq_mod]
  have h3 : m % 2 ^ 64 % 2 ^ 3 = plc k t := by unfold plc; omega
  have h4 : plc k t < 8 := by unfold plc; omega
  rw [h3]
  simp [IntKind.wrap, IntKind.bits, IntKind.signed]; omega
theorem place_c (k t : Nat) (hk : k < 8) (ht : t < 64) (w : World) :
    Calls Tryd.prog 79 #[.int .i64 (k : Int), .int .i64 (t : Int)] w fun e w' => e = .returned (.int .i64 (plc k t : Int)) ∧ w' = w := by
  have h2 := Lib.hid (plc_walk k t hk ht)
  go_enter Tryd.func79, Tryd.ntmps79
  go_wp2
  go_ret
  exact ⟨ret_int h2.out, rfl⟩
end
section
open Go.RowKit
theorem exec_call0 {P : Program} {v : World} {o : Oper} {ρ : Operand → Value} {f : FuncId} {ts : Array TypeId} (ho : o.op = .call { callee := .value (.func f), args := #[], argTypes := ts }) (hf : ρ (.func f) = .func (.func f) #[] #[]) (he : ∀ args w, (callFunc f args).run P w = .ok (.enter f args) w) : (execOp ρ o).run P v = .ok (.enter f #[]) v := by
  unfold execOp
  simp [ho, resolve, invoke, go_sem, hf, he]
/-- Each slot either stands as it did or is written. -/
def coverB (ops : Array Oper) (nt : Nat) (ps : List Nat) : Bool := (List.range nt).all fun s => ps.contains s || (List.range ops.size).any fun j => ((ops[j]?).map fun (o : Oper) => o.dst == some s).getD false
theorem coverB_or {ops : Array Oper} {nt : Nat} {ps : List Nat} (h : coverB ops nt ps = true) (s : Nat) (hs : s < nt) : s ∈ ps ∨ ∃ (j : Nat) (o : Oper), ops[j]? = some o ∧ o.dst = some s := by
  have := List.all_eq_true.1 h s (List.mem_range.2 hs)
  rw [Bool.or_eq_true] at this
  rcases this with h1 | h1
  · left; simpa using h1
  · right
    obtain ⟨j, _, hj⟩ := List.any_eq_true.1 h1
    cases ho : ops[j]? with
    | none => rw [ho] at hj; cases hj
    | some o =>
      rw [ho] at hj
      exact ⟨j, o, ho, by simpa using hj⟩
theorem map_mem {α β : Type} {f g : α → β} {l : List α} (h : l.map f = l.map g) : ∀ s ∈ l, f s = g s := by
  induction l with
  | nil => intro s hs; cases hs
  | cons x l ih =>
    simp only [List.map_cons, List.cons.injEq] at h
    intro s hs
    rcases List.mem_cons.1 hs with rfl | hs
    · exact h.1
    · exact ih h.2 s hs
/-- What is done had what it waits for. -/
def Closed (ops : Array Oper) (l : Nat → Bool) : Prop := ∀ (j : Nat) (o : Oper), ops[j]? = some o → l j = true → ∀ e ∈ o.after, Region.binds .any e = true → l e.on = true
theorem Closed.add {ops : Array Oper} {l : Nat → Bool} (h : Closed ops l) {i : Nat} {o : Oper} (ho : ops[i]? = some o) (hdep : ∀ e ∈ o.after, Region.binds .any e = true → l e.on = true) : Closed ops (fun j => if j = i then true else l j) := by
  intro j o' hj hl e he hb
  show (if e.on = i then true else l e.on) = true
  by_cases hei : e.on = i
  · rw [if_pos hei]
  · rw [if_neg hei]
    by_cases hji : j = i
    · subst hji
      rw [ho] at hj
      cases hj
      exact hdep e he hb
    · exact h j o' hj (by simpa [hji] using hl) e he hb
def reachB (ops : Array Oper) (n : Nat) : Bool := (List.range n).all fun k => (List.range (n + 1)).any fun j => decide (k < j) && ((ops[j]?).map fun (o : Oper) => o.after.toList.any fun e => e.on == k && Region.binds .any e).getD false
theorem reach_all {ops : Array Oper} {n : Nat} {o : Oper} {l : Nat → Bool} (h : reachB ops n = true) (hc : Closed ops l) (ho : ops[n]? = some o) (hdep : ∀ e ∈ o.after, Region.binds .any e = true → l e.on = true) : ∀ k, k < n → l k = true := by
  have key : ∀ m k, n ≤ m + k → k < n → l k = true := by
    intro m
    induction m with
    | zero => intro k h1 h2; omega
    | succ m ih =>
      intro k h1 h2
      have := List.all_eq_true.1 h k (List.mem_range.2 h2)
      obtain ⟨j, hj, hj2⟩ := List.any_eq_true.1 this
      have hjn : j < n + 1 := List.mem_range.1 hj
      rw [Bool.and_eq_true] at hj2
      have hkj : k < j := by simpa using hj2.1
      cases hoj : ops[j]? with
      | none => rw [hoj] at hj2; cases hj2.2
      | some oj =>
        rw [hoj] at hj2
        obtain ⟨e, he, h3⟩ := List.any_eq_true.1 (show (oj.after.toList.any fun e => e.on == k && Region.binds .any e) = true from hj2.2)
        rw [Bool.and_eq_true] at h3
        have hek : e.on = k := by simpa using h3.1
        by_cases hjn' : j = n
        · subst hjn'
          rw [ho] at hoj
          cases hoj
          have := hdep e (by simpa using he) h3.2
          rwa [hek] at this
        · have := hc j oj hoj (ih j (by omega) (by omega)) e (by simpa using he) h3.2
          rwa [hek] at this
  exact fun k hk => key n k (by omega) hk
section
variable {P : Program} {ops : Array Oper} {Q : Exit → Act → World → Prop}
/-- The same, to a literal frame. -/
theorem wp_region_lit {X : Type} {id : Nat} {a : Act} {w : World} (x0 : X) (F : X → List Value) (nt : Nat) (ps : List Nat) (st : X → (Nat → Bool) → World → Prop) (ds : List Deferred) (hm : P.follows .mixedOrders = true)
    (hF : ∀ x, (F x).length = nt) (ht : a.tmps.size = nt) (hd : a.defers = ds) (hp : ps.map (fun s => a.tmps[s]?) = ps.map (fun s => some ((F x0).getD s undef))) (hx : ∀ x, ps.map (fun s => (F x).getD s undef) = ps.map (fun s => (F x0).getD s undef)) (h0 : st x0 (fun _ => false) w.drew)
    (hB : drawn2B ops nt = true) (hC : coverB ops nt ps = true)
    (hstep : ∀ (x : X) (l : Nat → Bool) (T : Act) (v : World) (i : Nat) (o : Oper), ops[i]? = some o → l i = false → (∀ e ∈ o.after, Region.binds .any e = true → l e.on = true) → st x l v →
      (∀ s, s ∈ ps → T.tmps[s]? = some ((F x).getD s undef)) → (∀ (j : Nat) (o' : Oper) (s : Nat), ops[j]? = some o' → l j = true → o'.dst = some s → T.tmps[s]? = some ((F x).getD s undef)) → Closed ops l →
      ∀ K : Act → World → Prop, (∀ x' u v', (∀ (j : Nat) (o' : Oper) (s : Nat), ops[j]? = some o' → l j = true → o'.dst = some s → (F x').getD s undef = (F x).getD s undef) → (∀ s, o.dst = some s → u = (F x').getD s undef) → st x' (fun j => if j = i then true else l j) v' → K (T.put o.dst u) v') →
        if Region.wanted o (yielded ops T.tmps) = true then o.wp P T v K Q else K (T.put o.dst undef) v)
    (hend : ∀ (x : X) (l : Nat → Bool) (v : World), (∀ j, j < ops.size → l j = true) → st x l v → Q .normal ⟨(F x).toArray, ds⟩ v) :
    (Code.region id ops true).wp P Q a w := by
  refine wp_region_detx x0 nt (fun x s => (F x).getD s undef) ps (fun x l v => st x l v ∧ Closed ops l) ds hm ht hd (map_mem hp) ⟨h0, fun _ _ _ h => by cases h⟩ (drawn2B_lt hB) (drawn2B_dst hB) ?_ ?_
  · intro x l T v i o ho hl hdep hst hpar hgot K hK
    exact hstep x l T v i o ho hl hdep hst.1 hpar hgot hst.2 K (fun x' u v' h1 h2 h3 => hK x' u v' (fun s hs => by
      have e1 := map_mem (hx x') s hs
      have e2 := map_mem (hx x) s hs
      exact e1.trans e2.symm) h1 h2 ⟨h3, hst.2.add ho hdep⟩)
  · intro x l T v hl hst hts hds hpar hgot
    have hall : ∀ s, s < nt → T.tmps[s]? = some ((F x).getD s undef) := fun s hs => by
      rcases coverB_or hC s hs with h | ⟨j, o, hj, ho⟩
      · exact hpar s h
      · exact hgot j o s hj ho
    have hT : T = ⟨(F x).toArray, ds⟩ := by
      obtain ⟨tm, df⟩ := T
      have h1 : tm = (F x).toArray := by
        apply Array.ext_getElem?
        intro s
        by_cases hs : s < nt
        · rw [show tm[s]? = _ from hall s hs]
          have hl' : s < (F x).length := by rw [hF]; exact hs
          simp [List.getD_eq_getElem?_getD, hl']
        · rw [Array.getElem?_eq_none (by rw [show tm.size = nt from hts]; omega), Array.getElem?_eq_none (by simp [hF]; omega)]
      rw [h1, show df = ds from hds]
    rw [hT]
    exact hend x l v hl hst.1
/-- Where nothing is made whose place hangs on the order. -/
theorem wp_region_lit1 {id : Nat} {a : Act} {w : World} (F : List Value) (nt : Nat) (ps : List Nat) (st : (Nat → Bool) → World → Prop) (ds : List Deferred) (hm : P.follows .mixedOrders = true)
    (hF : F.length = nt) (ht : a.tmps.size = nt) (hd : a.defers = ds) (hp : ps.map (fun s => a.tmps[s]?) = ps.map (fun s => some (F.getD s undef))) (h0 : st (fun _ => false) w.drew)
    (hB : drawn2B ops nt = true) (hC : coverB ops nt ps = true)
    (hstep : ∀ (l : Nat → Bool) (T : Act) (v : World) (i : Nat) (o : Oper), ops[i]? = some o → l i = false → (∀ e ∈ o.after, Region.binds .any e = true → l e.on = true) → st l v →
      (∀ s, s ∈ ps → T.tmps[s]? = some (F.getD s undef)) → (∀ (j : Nat) (o' : Oper) (s : Nat), ops[j]? = some o' → l j = true → o'.dst = some s → T.tmps[s]? = some (F.getD s undef)) → Closed ops l →
      ∀ K : Act → World → Prop, (∀ u v', (∀ s, o.dst = some s → u = F.getD s undef) → st (fun j => if j = i then true else l j) v' → K (T.put o.dst u) v') →
        if Region.wanted o (yielded ops T.tmps) = true then o.wp P T v K Q else K (T.put o.dst undef) v)
    (hend : ∀ (l : Nat → Bool) (v : World), (∀ j, j < ops.size → l j = true) → st l v → Q .normal ⟨F.toArray, ds⟩ v) :
    (Code.region id ops true).wp P Q a w :=
  wp_region_lit (X := Unit) () (fun _ => F) nt ps (fun _ => st) ds hm (fun _ => hF) ht hd hp (fun _ => rfl) h0 hB hC
    (fun _ l T v i o ho hl hdep hst hpar hgot hcl K hK => hstep l T v i o ho hl hdep hst hpar hgot hcl K (fun u v' h1 h2 => hK () u v' (fun _ _ _ _ _ _ => rfl) h1 h2))
    (fun _ l v hl hst => hend l v hl hst)
end
section
variable {P : Program} {v : World} {o : Oper} {ρ : Operand → Value}
theorem exec_assign {x : Operand} {X : Value} (ho : o.op = .assign x) (hx : ρ x = X) : (execOp ρ o).run P v = .ok (.value X) v := by
  unfold execOp
  simp [ho, hx, go_sem]
theorem exec_add {t t' : TypeId} {x y : Operand} {k : IntKind} {a b c : Int} (ho : o.op = .binOp .add t x y t') (hx : ρ x = .int k a) (hy : ρ y = .int k b) (h : k.wrap (a + b) = c) : (execOp ρ o).run P v = .ok (.value (.int k c)) v := by
  subst h
  unfold execOp
  simp [ho, hx, hy, go_sem]
theorem exec_sub {t t' : TypeId} {x y : Operand} {k : IntKind} {a b c : Int} (ho : o.op = .binOp .sub t x y t') (hx : ρ x = .int k a) (hy : ρ y = .int k b) (h : k.wrap (a - b) = c) : (execOp ρ o).run P v = .ok (.value (.int k c)) v := by
  subst h
  unfold execOp
  simp [ho, hx, hy, go_sem]
theorem exec_mul {t t' : TypeId} {x y : Operand} {k : IntKind} {a b c : Int} (ho : o.op = .binOp .mul t x y t') (hx : ρ x = .int k a) (hy : ρ y = .int k b) (h : k.wrap (a * b) = c) : (execOp ρ o).run P v = .ok (.value (.int k c)) v := by
  subst h
  unfold execOp
  simp [ho, hx, hy, go_sem]
theorem exec_and {t t' : TypeId} {x y : Operand} {k : IntKind} {a b c : Int} (ho : o.op = .binOp .and t x y t') (hx : ρ x = .int k a) (hy : ρ y = .int k b) (h : bits .and k a b = c) : (execOp ρ o).run P v = .ok (.value (.int k c)) v := by
  subst h
  unfold execOp
  simp [ho, hx, hy, go_sem]
theorem exec_xor {t t' : TypeId} {x y : Operand} {k : IntKind} {a b c : Int} (ho : o.op = .binOp .xor t x y t') (hx : ρ x = .int k a) (hy : ρ y = .int k b) (h : bits .xor k a b = c) : (execOp ρ o).run P v = .ok (.value (.int k c)) v := by
  subst h
  unfold execOp
  simp [ho, hx, hy, go_sem]
theorem exec_or {t t' : TypeId} {x y : Operand} {k : IntKind} {a b c : Int} (ho : o.op = .binOp .or t x y t') (hx : ρ x = .int k a) (hy : ρ y = .int k b) (h : bits .or k a b = c) : (execOp ρ o).run P v = .ok (.value (.int k c)) v := by
  subst h
  unfold execOp
  simp [ho, hx, hy, go_sem]
theorem exec_len {t e : TypeId} {x : Operand} {A : Option Addr} {n c : Nat} (hu : P.underlying t = some (.slice e)) (ho : o.op = .call { callee := .builtin .len, args := #[x], argTypes := #[t] }) (hx : ρ x = .slice A n c) : (execOp ρ o).run P v = .ok (.value (.int .i64 (n : Int))) v := by
  unfold execOp
  simp [ho, hx, resolve, invoke, builtin, go_sem, Builtin.len_, run_underlying hu]
/-- The address of an array's element, of one cell. -/
theorem exec_at {t e : TypeId} {n g f : Nat} {x y : Operand} {i : Nat} (hu : P.underlying t = some (.array n e)) (he : (P.info? e).map (·.size) = some 1) (hi : i < n) (ho : o.op = .indexAddr t x y) (hx : ρ x = .pointer (some ⟨g, f, none⟩)) (hy : ρ y = .int .i64 (i : Int)) :
    (execOp ρ o).run P v = .ok (.value (.pointer (some ⟨g, f + i, none⟩))) v := by
  unfold execOp
  cases hq : P.info? e with
  | none => rw [hq] at he; cases he
  | some it =>
    have hs : it.size = 1 := by rw [hq] at he; simpa using he
    simp [ho, hx, hy, Instr.indexAt, Sem.run_bind, run_underlying hu, go_sem, sizeOf, typeInfo, hq, hs, hi, add_plain]

end
end
section
open Go.RowKit

/-- A mix's cells. -/
def mixC (a b : Nat) (f : FuncId) (c : Nat) : List Value := [.int .i64 (a : Int), .int .i64 (b : Int), .func (.func f) #[] #[], .int .i64 (c : Int)]
def mixZ : List Value := [.int .i64 0, .int .i64 0, .nilFunc, .int .i64 0]
theorem size95 : (Tryd.prog.info? 133).map (·.size) = some 4 := by kernel_rfl
theorem zero95 : ∀ w, (zeroValue 133).run Tryd.prog w = .ok (.agg mixZ.toArray) w := (zero_of_info (n := 4) (by kernel_rfl)).1
theorem run_mix (a b : Nat) (f : FuncId) (c : Nat) (w : World) : (Instr.build 133 #[(0, .int .i64 (a : Int)), (1, .int .i64 (b : Int)), (2, .func (.func f) #[] #[]), (3, .int .i64 (c : Int))]).run Tryd.prog w = .ok (.agg (mixC a b f c).toArray) w := by
  refine run_build w _ _ _ ?_
  kernel_rfl
theorem mixC_one (a b : Nat) (f : FuncId) (c : Nat) : ∀ v ∈ mixC a b f c, v.oneCell' = true := by
  intro v hv
  simp [mixC] at hv
  rcases hv with rfl | rfl | rfl | rfl <;> rfl
theorem mix_len (a b : Nat) (f : FuncId) (c : Nat) : (mixC a b f c).length = mixZ.length := rfl
theorem mix_size (a b : Nat) (f : FuncId) (c : Nat) : (Tryd.prog.info? 133).map (·.size) = some (mixC a b f c).length := size95
theorem exec_mix {v : World} {o : Oper} {ρ : Operand → Value} {x y z u : Operand} {a b c : Nat} {f : FuncId} (ho : o.op = .build 133 #[(0, x), (1, y), (2, z), (3, u)]) (hx : ρ x = .int .i64 (a : Int)) (hy : ρ y = .int .i64 (b : Int)) (hz : ρ z = .func (.func f) #[] #[]) (hu : ρ u = .int .i64 (c : Int)) :
    (execOp ρ o).run Tryd.prog v = .ok (.value (.agg (mixC a b f c).toArray)) v := by
  unfold execOp
  simp only [ho, List.map_toArray, List.map_cons, List.map_nil, hx, hy, hz, hu, Sem.run_bind, run_mix, Result.andThen, Sem.run_pure]
/-- An operation that yields a value. -/
theorem wpList_ran {P : Program} {w : World} {ops : Array Oper} {rest : List Oper} {o : Oper} {a : Act} {Q : Exit → Act → World → Prop} (hg : o.guard = none) (V : Value) (hrun : (execOp a.eval o).run P w = .ok (.value V) w) (h : wpList P ops Q rest (a.put o.dst V) w) : wpList P ops Q (o :: rest) a w := by
  refine wpList_plain hg fun K hK => ?_
  unfold Oper.wp
  rw [hrun]
  exact hK _ _ h
set_option maxRecDepth 100000 in
theorem big1_c (w : World) : Calls Tryd.prog 80 #[] w fun e w' => e = .returned (.agg (mixC 6 11 89 25).toArray) ∧ Mod [] w w' := by
  go_enter Tryd.func80, Tryd.ntmps80
  go_wp2_with (first
    | (with_reducible refine wpList_allocs (o := ⟨some 0, .alloc 133, _, _, _, _⟩) rfl 133 rfl _ zero95 ?_; intro w1 hb1 m1 z1; replace z1 := Lib.hid z1)
    | (with_reducible refine wpList_ran (o := ⟨some 1, .build 133 _, _, _, _, _⟩) rfl (.agg (mixC 6 11 89 25).toArray) (exec_mix rfl rfl rfl rfl rfl) ?_)
    | (with_reducible refine wpList_storesAll (o := ⟨none, .store 133 (.tmp 0) (.tmp 1), _, _, _, _⟩) rfl 133 (.tmp 0) (.tmp 1) rfl rfl w.heap.size (mixC 6 11 89 25) rfl (.agg (mixC 6 11 89 25).toArray) rfl rfl 133 _ hb1 (mix_len _ _ _ _) (mixC_one _ _ _ _) (mix_size _ _ _ _) ?_; intro w2 hb2 m2 z2; replace z2 := Lib.hid z2))
  refine bodyPost_ret (results_cell_row rfl _ _ w.heap.size 133 _ (0, 0) _ rfl hb2 Tryd.underlying133 rfl size95) rfl ?_
  exact ⟨rfl, m1.trans m2 (by intro i hi h; simp at h; omega)⟩
set_option maxRecDepth 100000 in
theorem big0_c (w : World) : Calls Tryd.prog 83 #[] w fun e w' => e = .returned (.agg (mixC 2 13 89 22).toArray) ∧ Mod [] w w' := by
  go_enter Tryd.func83, Tryd.ntmps83
  go_wp2_with (first
    | (with_reducible refine wpList_allocs (o := ⟨some 0, .alloc 133, _, _, _, _⟩) rfl 133 rfl _ zero95 ?_; intro w1 hb1 m1 z1; replace z1 := Lib.hid z1)
    | (with_reducible refine wpList_ran (o := ⟨some 1, .build 133 _, _, _, _, _⟩) rfl (.agg (mixC 2 13 89 22).toArray) (exec_mix rfl rfl rfl rfl rfl) ?_)
    | (with_reducible refine wpList_storesAll (o := ⟨none, .store 133 (.tmp 0) (.tmp 1), _, _, _, _⟩) rfl 133 (.tmp 0) (.tmp 1) rfl rfl w.heap.size (mixC 2 13 89 22) rfl (.agg (mixC 2 13 89 22).toArray) rfl rfl 133 _ hb1 (mix_len _ _ _ _) (mixC_one _ _ _ _) (mix_size _ _ _ _) ?_; intro w2 hb2 m2 z2; replace z2 := Lib.hid z2))
  refine bodyPost_ret (results_cell_row rfl _ _ w.heap.size 133 _ (0, 0) _ rfl hb2 Tryd.underlying133 rfl size95) rfl ?_
  exact ⟨rfl, m1.trans m2 (by intro i hi h; simp at h; omega)⟩
set_option maxRecDepth 100000 in
theorem small1_c (w : World) : Calls Tryd.prog 85 #[] w fun e w' => e = .returned (.agg (mixC 17 19 91 10).toArray) ∧ Mod [] w w' := by
  go_enter Tryd.func85, Tryd.ntmps85
  go_wp2_with (first
    | (with_reducible refine wpList_allocs (o := ⟨some 0, .alloc 133, _, _, _, _⟩) rfl 133 rfl _ zero95 ?_; intro w1 hb1 m1 z1; replace z1 := Lib.hid z1)
    | (with_reducible refine wpList_ran (o := ⟨some 1, .build 133 _, _, _, _, _⟩) rfl (.agg (mixC 17 19 91 10).toArray) (exec_mix rfl rfl rfl rfl rfl) ?_)
    | (with_reducible refine wpList_storesAll (o := ⟨none, .store 133 (.tmp 0) (.tmp 1), _, _, _, _⟩) rfl 133 (.tmp 0) (.tmp 1) rfl rfl w.heap.size (mixC 17 19 91 10) rfl (.agg (mixC 17 19 91 10).toArray) rfl rfl 133 _ hb1 (mix_len _ _ _ _) (mixC_one _ _ _ _) (mix_size _ _ _ _) ?_; intro w2 hb2 m2 z2; replace z2 := Lib.hid z2))
  refine bodyPost_ret (results_cell_row rfl _ _ w.heap.size 133 _ (0, 0) _ rfl hb2 Tryd.underlying133 rfl size95) rfl ?_
  exact ⟨rfl, m1.trans m2 (by intro i hi h; simp at h; omega)⟩
set_option maxRecDepth 100000 in
theorem small0_c (w : World) : Calls Tryd.prog 86 #[] w fun e w' => e = .returned (.agg (mixC 7 18 91 3).toArray) ∧ Mod [] w w' := by
  go_enter Tryd.func86, Tryd.ntmps86
  go_wp2_with (first
    | (with_reducible refine wpList_allocs (o := ⟨some 0, .alloc 133, _, _, _, _⟩) rfl 133 rfl _ zero95 ?_; intro w1 hb1 m1 z1; replace z1 := Lib.hid z1)
    | (with_reducible refine wpList_ran (o := ⟨some 1, .build 133 _, _, _, _, _⟩) rfl (.agg (mixC 7 18 91 3).toArray) (exec_mix rfl rfl rfl rfl rfl) ?_)
    | (with_reducible refine wpList_storesAll (o := ⟨none, .store 133 (.tmp 0) (.tmp 1), _, _, _, _⟩) rfl 133 (.tmp 0) (.tmp 1) rfl rfl w.heap.size (mixC 7 18 91 3) rfl (.agg (mixC 7 18 91 3).toArray) rfl rfl 133 _ hb1 (mix_len _ _ _ _) (mixC_one _ _ _ _) (mix_size _ _ _ _) ?_; intro w2 hb2 m2 z2; replace z2 := Lib.hid z2))
  refine bodyPost_ret (results_cell_row rfl _ _ w.heap.size 133 _ (0, 0) _ rfl hb2 Tryd.underlying133 rfl size95) rfl ?_
  exact ⟨rfl, m1.trans m2 (by intro i hi h; simp at h; omega)⟩
set_option maxRecDepth 100000 in
set_option maxHeartbeats 400000 in
theorem of_rot (x : UInt32) (a b c : Nat) (ha : 0 < a) (ha' : a < 32) (hb : 0 < b) (hb' : b < 32) (hc : 0 < c) (hc' : c < 32) (w : World) :
    Calls Tryd.prog 81 #[.agg (mixC a b 89 c).toArray, wd x] w fun e w' => e = .returned (wd (rot a x ^^^ rot b x ^^^ rot c x)) ∧ Mod [] w w' := by
  have hx := Lib.hid (show bits .xor .u32 (bits .xor .u32 ((rot a x).toNat : Int) ((rot b x).toNat : Int)) ((rot c x).toNat : Int) = ((rot a x ^^^ rot b x ^^^ rot c x).toNat : Int) from by rw [xor_wd, xor_wd])
  go_enter Tryd.func81, Tryd.ntmps81
  go_wp2_with (with_reducible refine wpList_boxes (o := ⟨some 2, .box 133 (.tmp 0), _, _, _, _⟩) rfl 133 (.tmp 0) rfl _ rfl (mixC a b 89 c) rfl ?_; intro w1 hb1 m1 z1; replace z1 := Lib.hid z1)
  have k0 := hb1.cell 0
  have k1 := hb1.cell 1
  have k2 := hb1.cell 2
  have k3 := hb1.cell 3
  simp only [mixC, List.getElem?_cons_succ, List.getElem?_cons_zero] at k0 k1 k2 k3
  clear hb1
  go_quiet ((first | (go_at_call 90; exact Calls.quiet_of_same (rotl_c x _ (by omega) (by omega) _)) | (go_at_call 89; exact Calls.quiet_of_same (turn_c x _ (by omega) (by omega) _))))
  go_wp2
  go_ret
  exact ⟨ret_int hx.out, m1.then (Mod.drewN [] _ _)⟩
set_option maxRecDepth 100000 in
set_option maxHeartbeats 400000 in
theorem of_psh (x : UInt32) (a b c : Nat) (ha : 0 < a) (ha' : a < 32) (hb : 0 < b) (hb' : b < 32) (hc' : c < 32) (w : World) :
    Calls Tryd.prog 81 #[.agg (mixC a b 91 c).toArray, wd x] w fun e w' => e = .returned (wd (rot a x ^^^ rot b x ^^^ psh c x)) ∧ Mod [] w w' := by
  have hx := Lib.hid (show bits .xor .u32 (bits .xor .u32 ((rot a x).toNat : Int) ((rot b x).toNat : Int)) ((psh c x).toNat : Int) = ((rot a x ^^^ rot b x ^^^ psh c x).toNat : Int) from by rw [xor_wd, xor_wd])
  go_enter Tryd.func81, Tryd.ntmps81
  go_wp2_with (with_reducible refine wpList_boxes (o := ⟨some 2, .box 133 (.tmp 0), _, _, _, _⟩) rfl 133 (.tmp 0) rfl _ rfl (mixC a b 91 c) rfl ?_; intro w1 hb1 m1 z1; replace z1 := Lib.hid z1)
  have k0 := hb1.cell 0
  have k1 := hb1.cell 1
  have k2 := hb1.cell 2
  have k3 := hb1.cell 3
  simp only [mixC, List.getElem?_cons_succ, List.getElem?_cons_zero] at k0 k1 k2 k3
  clear hb1
  go_quiet ((first | (go_at_call 90; exact Calls.quiet_of_same (rotl_c x _ (by omega) (by omega) _)) | (go_at_call 91; exact Calls.quiet_of_same (push_c x _ (by omega) _))))
  go_wp2
  go_ret
  exact ⟨ret_int hx.out, m1.then (Mod.drewN [] _ _)⟩
/-- What the four mixes give. -/
theorem big1_of (x : UInt32) (w : World) : Calls Tryd.prog 81 #[.agg (mixC 6 11 89 25).toArray, wd x] w fun e w' => e = .returned (wd (bg1 x)) ∧ Mod [] w w' := of_rot x 6 11 25 (by decide) (by decide) (by decide) (by decide) (by decide) (by decide) w
theorem big0_of (x : UInt32) (w : World) : Calls Tryd.prog 81 #[.agg (mixC 2 13 89 22).toArray, wd x] w fun e w' => e = .returned (wd (bg0 x)) ∧ Mod [] w w' := of_rot x 2 13 22 (by decide) (by decide) (by decide) (by decide) (by decide) (by decide) w
theorem small1_of (x : UInt32) (w : World) : Calls Tryd.prog 81 #[.agg (mixC 17 19 91 10).toArray, wd x] w fun e w' => e = .returned (wd (sm1 x)) ∧ Mod [] w w' := of_psh x 17 19 10 (by decide) (by decide) (by decide) (by decide) (by decide) w
theorem small0_of (x : UInt32) (w : World) : Calls Tryd.prog 81 #[.agg (mixC 7 18 91 3).toArray, wd x] w fun e w' => e = .returned (wd (sm0 x)) ∧ Mod [] w w' := of_psh x 7 18 3 (by decide) (by decide) (by decide) (by decide) (by decide) w
end
section
open Go.RowKit
/-- Ahead of step n there holds A; behind it B, and all is done. -/
def Sto (n : Nat) (A B : World → Prop) (l : Nat → Bool) (v : World) : Prop := (l n = false ∧ A v) ∨ (l n = true ∧ (∀ j, j < n → l j = true) ∧ B v)
theorem Sto.start {n : Nat} {A B : World → Prop} {v : World} (h : A v) : Sto n A B (fun _ => false) v := .inl ⟨rfl, h⟩
theorem Sto.now {n j : Nat} {A B : World → Prop} {l : Nat → Bool} {v : World} (h : Sto n A B l v) (hl : l j = false) (hj : j ≤ n) : l n = false ∧ A v := by
  rcases h with h | ⟨h1, h2, _⟩
  · exact h
  · exfalso
    rcases Nat.lt_or_ge j n with hlt | hge
    · rw [h2 j hlt] at hl; cases hl
    · obtain rfl : j = n := by omega
      rw [h1] at hl; cases hl
theorem Sto.keep {n j : Nat} {A B : World → Prop} {l : Nat → Bool} {v : World} (h : l n = false ∧ A v) (hj : j < n) {v' : World} (h' : A v') : Sto n A B (fun i => if i = j then true else l i) v' := by
  refine .inl ⟨?_, h'⟩
  show (if n = j then true else l n) = false
  rw [if_neg (by omega)]; exact h.1
theorem Sto.done {n : Nat} {A B : World → Prop} {l : Nat → Bool} (h : ∀ j, j < n → l j = true) {v' : World} (h' : B v') : Sto n A B (fun i => if i = n then true else l i) v' :=
  .inr ⟨by simp, fun j hj => by show (if j = n then true else l j) = true; rw [if_neg (by omega)]; exact h j hj, h'⟩
theorem Sto.fin {n m : Nat} {A B : World → Prop} {l : Nat → Bool} {v : World} (h : Sto n A B l v) (hl : ∀ j, j < m → l j = true) (hn : n < m) : B v := by
  rcases h with ⟨h, _⟩ | ⟨_, _, h⟩
  · rw [hl n hn] at h; cases h
  · exact h
def phaseB (o : Oper) (n : Nat) : Bool := (List.range n).all fun k => o.after.toList.any fun e => e.on == k && Region.binds .any e
theorem phase_all {o : Oper} {n : Nat} (h : phaseB o n = true) {l : Nat → Bool} (hdep : ∀ e ∈ o.after, Region.binds .any e = true → l e.on = true) : ∀ k, k < n → l k = true := by
  intro k hk
  have := List.all_eq_true.1 h k (List.mem_range.2 hk)
  obtain ⟨e, he, h2⟩ := List.any_eq_true.1 this
  rw [Bool.and_eq_true] at h2
  have := hdep e (by simpa using he) h2.2
  rwa [show e.on = k by simpa using h2.1] at this

/-! Rows of words. -/
theorem word_cell {v : World} {g : Nat} {t : TypeId} {L : List UInt32} (h : Holds v g t (L.map wd)) {i : Nat} (hi : i < L.length) : v.cell? ⟨g, 0 + i, none⟩ = some (wd (g0 L i)) := by
  rw [Nat.zero_add, h.cell i]
  simp [g0, hi]
theorem word_load {v : World} {g : Nat} {t : TypeId} {L : List UInt32} (h : Holds v g t (L.map wd)) {i : Nat} (hi : i < L.length) : (loadVar 97 ⟨g, 0 + i, none⟩).run Tryd.prog v = .ok (wd (g0 L i)) v :=
  run_load1 Tryd.underlying97 rfl (word_cell h hi)
theorem word_set {v : World} {g : Nat} {t : TypeId} {L : List UInt32} (h : Holds v g t (L.map wd)) (i : Nat) (y : UInt32) : Holds (v.setCell ⟨g, 0 + i, none⟩ (wd y)) g t ((L.set i y).map wd) := by
  have := h.set i (wd y)
  rw [Nat.zero_add, List.map_set]
  exact this
theorem g0_set (L : List UInt32) (i : Nat) (y : UInt32) (hi : i < L.length) : g0 (L.set i y) i = y := by simp [g0, hi]
theorem words_one (L : List UInt32) : ∀ v ∈ L.map wd, v.oneCell' = true := by
  intro v hv
  obtain ⟨x, _, rfl⟩ := List.mem_map.1 hv
  rfl
theorem info67 : (Tryd.prog.info? 97).map (·.size) = some 1 := by kernel_rfl
theorem it67 : ∃ it, Tryd.prog.info? 97 = some it ∧ it.size = 1 := by
  have h := info67
  cases hq : Tryd.prog.info? 97 with
  | none => rw [hq] at h; cases h
  | some it => exact ⟨it, rfl, by rw [hq] at h; simpa using h⟩
theorem exec_word {v : World} {o : Oper} {ρ : Operand → Value} {x y : Operand} {g i : Nat} {t : TypeId} {L : List UInt32} {z : UInt32} (ho : o.op = .store 97 x y) (hx : ρ x = .pointer (some ⟨g, 0 + i, none⟩)) (hy : ρ y = wd z) (h : Holds v g t (L.map wd)) (hi : i < L.length) :
    (execOp ρ o).run Tryd.prog v = .ok .skip (v.setCell ⟨g, 0 + i, none⟩ (wd z)) := by
  obtain ⟨it, h1, h2⟩ := it67
  exact exec_store1 ho hx hy rfl h1 h2 (word_cell h hi) (by rw [Nat.zero_add]; exact h.free i)
theorem and15 (n : Nat) (hn : n < 4294967296) : bits .and .i64 (n : Int) 15 = ((n % 16 : Nat) : Int) := by
  show IntKind.i64.wrap ((BitVec.ofInt 64 (n : Int) &&& BitVec.ofInt 64 ((15 : Nat) : Int)).toNat : Int) = _
  rw [ofInt_nat, ofInt_nat, BitVec.toNat_and, BitVec.toNat_ofNat, BitVec.toNat_ofNat, Nat.mod_eq_of_lt (by omega : n < 2 ^ 64)]
  rw [show (15 : Nat) % 2 ^ 64 = 2 ^ 4 - 1 from rfl, Nat.and_two_pow_sub_one_eq_mod]
  simp [IntKind.wrap, IntKind.bits, IntKind.signed]; omega
theorem sub_n (n k : Nat) (hk : k ≤ n) (hn : n < 4294967296) : IntKind.i64.wrap ((n : Int) - (k : Int)) = ((n - k : Nat) : Int) := by
  simp [IntKind.wrap, IntKind.bits, IntKind.signed]; omega
theorem Mod.drewed {ms : List Nat} {w v : World} (h : Mod ms w.drew v) : Mod ms w v := ⟨h.os, h.tape, h.output, h.size, h.block⟩
end
section
open Go.RowKit
set_option maxRecDepth 1000000 in
set_option maxHeartbeats 4000000 in
theorem word_hi (g t : Nat) (L : List UInt32) (w : World) (hL : L.length = 16) (ht : 16 ≤ t) (ht' : t < 64) (D0 : Holds w g 120 (L.map wd)) :
    Calls Tryd.prog 75 #[.pointer (some ⟨g, 0, none⟩), .int .i64 (t : Int)] w fun e w' => e = .returned (wd (g0 L (t % 16) + (sm1 (g0 L ((t - 2) % 16)) + g0 L ((t - 7) % 16) + sm0 (g0 L ((t - 15) % 16))))) ∧ Holds w' g 120 ((L.set (t % 16) (g0 L (t % 16) + (sm1 (g0 L ((t - 2) % 16)) + g0 L ((t - 7) % 16) + sm0 (g0 L ((t - 15) % 16))))).map wd) ∧ Mod [g] w w' := by
  have D : Holds w.drew g 120 (L.map wd) := D0
  have h16 : decide ((16 : Int) ≤ (t : Int)) = true := by simp; omega
  have hlt := D0.lt
  go_enter Tryd.func75, Tryd.ntmps75
  go_wp2_with fail
  refine wp_region_lit1 [.pointer (some ⟨g, 0, none⟩), .int .i64 ((t : Nat) : Int), undef, undef, .int .u32 0, .int .i64 ((t : Nat) : Int), .bool true, .pointer (some ⟨g, 0, none⟩), .int .i64 ((t : Nat) : Int), .int .i64 ((t % 16 : Nat) : Int), .pointer (some ⟨g, 0, none⟩), .pointer (some ⟨g, 0 + (t % 16), none⟩), wd (g0 L (t % 16)), .agg (mixC 17 19 91 10).toArray, .pointer (some ⟨g, 0, none⟩), .int .i64 ((t : Nat) : Int), .int .i64 ((t - 2 : Nat) : Int), .int .i64 (((t - 2) % 16 : Nat) : Int), .pointer (some ⟨g, 0, none⟩), .pointer (some ⟨g, 0 + ((t - 2) % 16), none⟩), wd (g0 L ((t - 2) % 16)), wd (sm1 (g0 L ((t - 2) % 16))), .pointer (some ⟨g, 0, none⟩), .int .i64 ((t : Nat) : Int), .int .i64 ((t - 7 : Nat) : Int), .int .i64 (((t - 7) % 16 : Nat) : Int), .pointer (some ⟨g, 0, none⟩), .pointer (some ⟨g, 0 + ((t - 7) % 16), none⟩), wd (g0 L ((t - 7) % 16)), wd (sm1 (g0 L ((t - 2) % 16)) + g0 L ((t - 7) % 16)), .agg (mixC 7 18 91 3).toArray, .pointer (some ⟨g, 0, none⟩), .int .i64 ((t : Nat) : Int), .int .i64 ((t - 15 : Nat) : Int), .int .i64 (((t - 15) % 16 : Nat) : Int), .pointer (some ⟨g, 0, none⟩), .pointer (some ⟨g, 0 + ((t - 15) % 16), none⟩), wd (g0 L ((t - 15) % 16)), wd (sm0 (g0 L ((t - 15) % 16))), wd (sm1 (g0 L ((t - 2) % 16)) + g0 L ((t - 7) % 16) + sm0 (g0 L ((t - 15) % 16))), wd (g0 L (t % 16) + (sm1 (g0 L ((t - 2) % 16)) + g0 L ((t - 7) % 16) + sm0 (g0 L ((t - 15) % 16)))), .pointer (some ⟨g, 0, none⟩), .pointer (some ⟨g, 0 + (t % 16), none⟩), undef, undef, undef, undef, undef, undef] 49 [0, 1, 2, 3, 4, 5, 6, 43, 44, 45, 46, 47, 48]
    (Sto 36 (fun v => Mod [] w.drew v) (fun v => Holds v g 120 ((L.set (t % 16) (g0 L (t % 16) + (sm1 (g0 L ((t - 2) % 16)) + g0 L ((t - 7) % 16) + sm0 (g0 L ((t - 15) % 16))))).map wd) ∧ Mod [g] w.drew v)) []
    (by kernel_rfl) rfl rfl rfl rfl (Sto.start (Mod.refl _ _)) (by kernel_rfl) (by kernel_rfl) ?step ?fin
  case step =>
    intro l T v j o hj hlj hdep hst hpar hgot hcl K hK
    have hjn : j < 37 := (Array.getElem?_eq_some_iff.1 hj).1
    have hq := fun h => Sto.now (j := j) hst hlj h
    obtain rfl | rfl | rfl | rfl | rfl | rfl | rfl | rfl | rfl | rfl | rfl | rfl | rfl | rfl | rfl | rfl | rfl | rfl | rfl | rfl | rfl | rfl | rfl | rfl | rfl | rfl | rfl | rfl | rfl | rfl | rfl | rfl | rfl | rfl | rfl | rfl | rfl : j = 0 ∨ j = 1 ∨ j = 2 ∨ j = 3 ∨ j = 4 ∨ j = 5 ∨ j = 6 ∨ j = 7 ∨ j = 8 ∨ j = 9 ∨ j = 10 ∨ j = 11 ∨ j = 12 ∨ j = 13 ∨ j = 14 ∨ j = 15 ∨ j = 16 ∨ j = 17 ∨ j = 18 ∨ j = 19 ∨ j = 20 ∨ j = 21 ∨ j = 22 ∨ j = 23 ∨ j = 24 ∨ j = 25 ∨ j = 26 ∨ j = 27 ∨ j = 28 ∨ j = 29 ∨ j = 30 ∨ j = 31 ∨ j = 32 ∨ j = 33 ∨ j = 34 ∨ j = 35 ∨ j = 36 := by omega
    all_goals (have hj' := Option.some.inj (hj : some _ = some o); subst hj'; clear hj)
    · exact wp_ran rfl (exec_move rfl (eval_tmp (hpar 0 (by simp)))) (hK _ _ (fun s hs => by cases hs; rfl) (Sto.keep (hq (by decide)) (by decide) (hq (by decide)).2))
    · exact wp_ran rfl (exec_move rfl (eval_tmp (hpar 1 (by simp)))) (hK _ _ (fun s hs => by cases hs; rfl) (Sto.keep (hq (by decide)) (by decide) (hq (by decide)).2))
    · exact wp_ran rfl (exec_and rfl (eval_tmp (hgot 1 _ 8 rfl (hdep ⟨1, .data⟩ (by simp) rfl) rfl)) rfl (and15 (t) (by omega))) (hK _ _ (fun s hs => by cases hs; rfl) (Sto.keep (hq (by decide)) (by decide) (hq (by decide)).2))
    · exact wp_ran rfl (exec_nil rfl (eval_tmp (hgot 0 _ 7 rfl (hdep ⟨0, .data⟩ (by simp) rfl) rfl))) (hK _ _ (fun s hs => by cases hs; rfl) (Sto.keep (hq (by decide)) (by decide) (hq (by decide)).2))
    · exact wp_ran rfl (exec_at Tryd.underlying120 info67 (by omega : t % 16 < 16) rfl (eval_tmp (hgot 3 _ 10 rfl (hdep ⟨3, .data⟩ (by simp) rfl) rfl)) (eval_tmp (hgot 2 _ 9 rfl (hdep ⟨2, .data⟩ (by simp) rfl) rfl))) (hK _ _ (fun s hs => by cases hs; rfl) (Sto.keep (hq (by decide)) (by decide) (hq (by decide)).2))
    · exact wp_ran rfl (exec_load rfl (eval_tmp (hgot 4 _ 11 rfl (hdep ⟨4, .data⟩ (by simp) rfl) rfl)) (word_load (D.keep (hq (by decide)).2 (by simp)) (by omega : t % 16 < L.length))) (hK _ _ (fun s hs => by cases hs; rfl) (Sto.keep (hq (by decide)) (by decide) (hq (by decide)).2))
    · exact wp_called rfl (exec_call0 rfl rfl (enters_of Tryd.func85 (by kernel_rfl) rfl)) ((small1_c _).mono (fun e v' hh => ⟨_, hh.1, hK _ _ (fun s hs => by cases hs; rfl) (Sto.keep (hq (by decide)) (by decide) ((hq (by decide)).2.then hh.2))⟩))
    · exact wp_ran rfl (exec_move rfl (eval_tmp (hpar 0 (by simp)))) (hK _ _ (fun s hs => by cases hs; rfl) (Sto.keep (hq (by decide)) (by decide) (hq (by decide)).2))
    · exact wp_ran rfl (exec_move rfl (eval_tmp (hpar 1 (by simp)))) (hK _ _ (fun s hs => by cases hs; rfl) (Sto.keep (hq (by decide)) (by decide) (hq (by decide)).2))
    · exact wp_ran rfl (exec_sub rfl (eval_tmp (hgot 8 _ 15 rfl (hdep ⟨8, .data⟩ (by simp) rfl) rfl)) rfl (sub_n t 2 (by omega) (by omega))) (hK _ _ (fun s hs => by cases hs; rfl) (Sto.keep (hq (by decide)) (by decide) (hq (by decide)).2))
    · exact wp_ran rfl (exec_and rfl (eval_tmp (hgot 9 _ 16 rfl (hdep ⟨9, .data⟩ (by simp) rfl) rfl)) rfl (and15 (t - 2) (by omega))) (hK _ _ (fun s hs => by cases hs; rfl) (Sto.keep (hq (by decide)) (by decide) (hq (by decide)).2))
    · exact wp_ran rfl (exec_nil rfl (eval_tmp (hgot 7 _ 14 rfl (hdep ⟨7, .data⟩ (by simp) rfl) rfl))) (hK _ _ (fun s hs => by cases hs; rfl) (Sto.keep (hq (by decide)) (by decide) (hq (by decide)).2))
    · exact wp_ran rfl (exec_at Tryd.underlying120 info67 (by omega : (t - 2) % 16 < 16) rfl (eval_tmp (hgot 11 _ 18 rfl (hdep ⟨11, .data⟩ (by simp) rfl) rfl)) (eval_tmp (hgot 10 _ 17 rfl (hdep ⟨10, .data⟩ (by simp) rfl) rfl))) (hK _ _ (fun s hs => by cases hs; rfl) (Sto.keep (hq (by decide)) (by decide) (hq (by decide)).2))
    · exact wp_ran rfl (exec_load rfl (eval_tmp (hgot 12 _ 19 rfl (hdep ⟨12, .data⟩ (by simp) rfl) rfl)) (word_load (D.keep (hq (by decide)).2 (by simp)) (by omega : (t - 2) % 16 < L.length))) (hK _ _ (fun s hs => by cases hs; rfl) (Sto.keep (hq (by decide)) (by decide) (hq (by decide)).2))
    · exact wp_called rfl (exec_call2 rfl rfl (eval_tmp (hgot 6 _ 13 rfl (hdep ⟨6, .data⟩ (by simp) rfl) rfl)) (eval_tmp (hgot 13 _ 20 rfl (hdep ⟨13, .data⟩ (by simp) rfl) rfl)) (enters_of Tryd.func81 (by kernel_rfl) rfl)) ((small1_of _ _).mono (fun e v' hh => ⟨_, hh.1, hK _ _ (fun s hs => by cases hs; rfl) (Sto.keep (hq (by decide)) (by decide) ((hq (by decide)).2.then hh.2))⟩))
    · exact wp_ran rfl (exec_move rfl (eval_tmp (hpar 0 (by simp)))) (hK _ _ (fun s hs => by cases hs; rfl) (Sto.keep (hq (by decide)) (by decide) (hq (by decide)).2))
    · exact wp_ran rfl (exec_move rfl (eval_tmp (hpar 1 (by simp)))) (hK _ _ (fun s hs => by cases hs; rfl) (Sto.keep (hq (by decide)) (by decide) (hq (by decide)).2))
    · exact wp_ran rfl (exec_sub rfl (eval_tmp (hgot 16 _ 23 rfl (hdep ⟨16, .data⟩ (by simp) rfl) rfl)) rfl (sub_n t 7 (by omega) (by omega))) (hK _ _ (fun s hs => by cases hs; rfl) (Sto.keep (hq (by decide)) (by decide) (hq (by decide)).2))
    · exact wp_ran rfl (exec_and rfl (eval_tmp (hgot 17 _ 24 rfl (hdep ⟨17, .data⟩ (by simp) rfl) rfl)) rfl (and15 (t - 7) (by omega))) (hK _ _ (fun s hs => by cases hs; rfl) (Sto.keep (hq (by decide)) (by decide) (hq (by decide)).2))
    · exact wp_ran rfl (exec_nil rfl (eval_tmp (hgot 15 _ 22 rfl (hdep ⟨15, .data⟩ (by simp) rfl) rfl))) (hK _ _ (fun s hs => by cases hs; rfl) (Sto.keep (hq (by decide)) (by decide) (hq (by decide)).2))
    · exact wp_ran rfl (exec_at Tryd.underlying120 info67 (by omega : (t - 7) % 16 < 16) rfl (eval_tmp (hgot 19 _ 26 rfl (hdep ⟨19, .data⟩ (by simp) rfl) rfl)) (eval_tmp (hgot 18 _ 25 rfl (hdep ⟨18, .data⟩ (by simp) rfl) rfl))) (hK _ _ (fun s hs => by cases hs; rfl) (Sto.keep (hq (by decide)) (by decide) (hq (by decide)).2))
    · exact wp_ran rfl (exec_load rfl (eval_tmp (hgot 20 _ 27 rfl (hdep ⟨20, .data⟩ (by simp) rfl) rfl)) (word_load (D.keep (hq (by decide)).2 (by simp)) (by omega : (t - 7) % 16 < L.length))) (hK _ _ (fun s hs => by cases hs; rfl) (Sto.keep (hq (by decide)) (by decide) (hq (by decide)).2))
    · exact wp_ran rfl (exec_add rfl (eval_tmp (hgot 14 _ 21 rfl (hdep ⟨14, .data⟩ (by simp) rfl) rfl)) (eval_tmp (hgot 21 _ 28 rfl (hdep ⟨21, .data⟩ (by simp) rfl) rfl)) (add_wd _ _)) (hK _ _ (fun s hs => by cases hs; rfl) (Sto.keep (hq (by decide)) (by decide) (hq (by decide)).2))
    · exact wp_called rfl (exec_call0 rfl rfl (enters_of Tryd.func86 (by kernel_rfl) rfl)) ((small0_c _).mono (fun e v' hh => ⟨_, hh.1, hK _ _ (fun s hs => by cases hs; rfl) (Sto.keep (hq (by decide)) (by decide) ((hq (by decide)).2.then hh.2))⟩))
    · exact wp_ran rfl (exec_move rfl (eval_tmp (hpar 0 (by simp)))) (hK _ _ (fun s hs => by cases hs; rfl) (Sto.keep (hq (by decide)) (by decide) (hq (by decide)).2))
    · exact wp_ran rfl (exec_move rfl (eval_tmp (hpar 1 (by simp)))) (hK _ _ (fun s hs => by cases hs; rfl) (Sto.keep (hq (by decide)) (by decide) (hq (by decide)).2))
    · exact wp_ran rfl (exec_sub rfl (eval_tmp (hgot 25 _ 32 rfl (hdep ⟨25, .data⟩ (by simp) rfl) rfl)) rfl (sub_n t 15 (by omega) (by omega))) (hK _ _ (fun s hs => by cases hs; rfl) (Sto.keep (hq (by decide)) (by decide) (hq (by decide)).2))
    · exact wp_ran rfl (exec_and rfl (eval_tmp (hgot 26 _ 33 rfl (hdep ⟨26, .data⟩ (by simp) rfl) rfl)) rfl (and15 (t - 15) (by omega))) (hK _ _ (fun s hs => by cases hs; rfl) (Sto.keep (hq (by decide)) (by decide) (hq (by decide)).2))
    · exact wp_ran rfl (exec_nil rfl (eval_tmp (hgot 24 _ 31 rfl (hdep ⟨24, .data⟩ (by simp) rfl) rfl))) (hK _ _ (fun s hs => by cases hs; rfl) (Sto.keep (hq (by decide)) (by decide) (hq (by decide)).2))
    · exact wp_ran rfl (exec_at Tryd.underlying120 info67 (by omega : (t - 15) % 16 < 16) rfl (eval_tmp (hgot 28 _ 35 rfl (hdep ⟨28, .data⟩ (by simp) rfl) rfl)) (eval_tmp (hgot 27 _ 34 rfl (hdep ⟨27, .data⟩ (by simp) rfl) rfl))) (hK _ _ (fun s hs => by cases hs; rfl) (Sto.keep (hq (by decide)) (by decide) (hq (by decide)).2))
    · exact wp_ran rfl (exec_load rfl (eval_tmp (hgot 29 _ 36 rfl (hdep ⟨29, .data⟩ (by simp) rfl) rfl)) (word_load (D.keep (hq (by decide)).2 (by simp)) (by omega : (t - 15) % 16 < L.length))) (hK _ _ (fun s hs => by cases hs; rfl) (Sto.keep (hq (by decide)) (by decide) (hq (by decide)).2))
    · exact wp_called rfl (exec_call2 rfl rfl (eval_tmp (hgot 23 _ 30 rfl (hdep ⟨23, .data⟩ (by simp) rfl) rfl)) (eval_tmp (hgot 30 _ 37 rfl (hdep ⟨30, .data⟩ (by simp) rfl) rfl)) (enters_of Tryd.func81 (by kernel_rfl) rfl)) ((small0_of _ _).mono (fun e v' hh => ⟨_, hh.1, hK _ _ (fun s hs => by cases hs; rfl) (Sto.keep (hq (by decide)) (by decide) ((hq (by decide)).2.then hh.2))⟩))
    · exact wp_ran rfl (exec_add rfl (eval_tmp (hgot 22 _ 29 rfl (hdep ⟨22, .data⟩ (by simp) rfl) rfl)) (eval_tmp (hgot 31 _ 38 rfl (hdep ⟨31, .data⟩ (by simp) rfl) rfl)) (add_wd _ _)) (hK _ _ (fun s hs => by cases hs; rfl) (Sto.keep (hq (by decide)) (by decide) (hq (by decide)).2))
    · exact wp_ran rfl (exec_add rfl (eval_tmp (hgot 5 _ 12 rfl (hdep ⟨5, .data⟩ (by simp) rfl) rfl)) (eval_tmp (hgot 32 _ 39 rfl (hdep ⟨32, .data⟩ (by simp) rfl) rfl)) (add_wd _ _)) (hK _ _ (fun s hs => by cases hs; rfl) (Sto.keep (hq (by decide)) (by decide) (hq (by decide)).2))
    · exact wp_ran rfl (exec_nil rfl (eval_tmp (hgot 0 _ 7 rfl (hdep ⟨0, .data⟩ (by simp) rfl) rfl))) (hK _ _ (fun s hs => by cases hs; rfl) (Sto.keep (hq (by decide)) (by decide) (hq (by decide)).2))
    · exact wp_ran rfl (exec_at Tryd.underlying120 info67 (by omega : t % 16 < 16) rfl (eval_tmp (hgot 34 _ 41 rfl (hdep ⟨34, .data⟩ (by simp) rfl) rfl)) (eval_tmp (hgot 2 _ 9 rfl (hdep ⟨2, .data⟩ (by simp) rfl) rfl))) (hK _ _ (fun s hs => by cases hs; rfl) (Sto.keep (hq (by decide)) (by decide) (hq (by decide)).2))
    · exact wp_ran_skip rfl (exec_word (z := g0 L (t % 16) + (sm1 (g0 L ((t - 2) % 16)) + g0 L ((t - 7) % 16) + sm0 (g0 L ((t - 15) % 16)))) rfl (eval_tmp (hgot 35 _ 42 rfl (hdep ⟨35, .data⟩ (by simp) rfl) rfl)) (eval_tmp (hgot 33 _ 40 rfl (hdep ⟨33, .data⟩ (by simp) rfl) rfl)) (D.keep (hq (by decide)).2 (by simp)) (by omega : t % 16 < L.length)) (hK _ _ (fun s hs => by cases hs) (Sto.done (reach_all (by kernel_rfl) hcl rfl hdep) ⟨word_set (D.keep (hq (by decide)).2 (by simp)) _ _, (hq (by decide)).2.pre (Mod.setCell _ (by simp) _)⟩))
  case fin =>
    intro l v hl hst
    obtain ⟨D1, m1⟩ := Sto.fin hst hl (by decide)
    clear hst hl
    have hcell := word_cell D1 (i := t % 16) (by rw [List.length_set]; omega)
    rw [g0_set _ _ _ (by omega), Nat.zero_add] at hcell
    have ha := and15 t (by omega)
    clear D
    dsimp only
    go_wp2_with fail
    go_ret
    exact ⟨rfl, D1, m1.drewed⟩
set_option maxRecDepth 100000 in
theorem word_lo (g t : Nat) (L : List UInt32) (w : World) (hL : L.length = 16) (ht : t < 16) (D0 : Holds w g 120 (L.map wd)) :
    Calls Tryd.prog 75 #[.pointer (some ⟨g, 0, none⟩), .int .i64 (t : Int)] w fun e w' => e = .returned (wd (g0 L t)) ∧ w' = w := by
  have h16 : decide ((16 : Int) ≤ (t : Int)) = false := by simp; omega
  have hcell := word_cell D0 (i := t) (by omega)
  rw [Nat.zero_add] at hcell
  have ha := and15 t (by omega)
  rw [Nat.mod_eq_of_lt ht] at ha
  have ht64 : (t : Int) < 16 := by omega
  clear hL ht D0
  go_enter Tryd.func75, Tryd.ntmps75
  go_wp2_with fail
  go_ret
  exact ⟨rfl, rfl⟩
end
section
open Go.RowKit
/-- The eight numbers in their places, behind the t-th step. -/
def stepL (t : Nat) (x : UInt32) (L : List UInt32) : List UInt32 := ((L.set (plc 3 t) (g0 L (plc 3 t) + (((g0 L (plc 7 t) + bg1 (g0 L (plc 4 t))) + pck (g0 L (plc 4 t)) (g0 L (plc 5 t)) (g0 L (plc 6 t))) + x))).set (plc 7 t) (((((g0 L (plc 7 t) + bg1 (g0 L (plc 4 t))) + pck (g0 L (plc 4 t)) (g0 L (plc 5 t)) (g0 L (plc 6 t))) + x) + bg0 (g0 L (plc 0 t))) + mst (g0 L (plc 0 t)) (g0 L (plc 1 t)) (g0 L (plc 2 t))))
set_option maxRecDepth 1000000 in
set_option maxHeartbeats 8000000 in
theorem step_c (g t : Nat) (x : UInt32) (L : List UInt32) (w : World) (hL : L.length = 8) (ht : t < 64) (D0 : Holds w g 118 (L.map wd)) :
    Calls Tryd.prog 74 #[.pointer (some ⟨g, 0, none⟩), .int .i64 (t : Int), wd x] w fun e w' => e = .returned (.tuple #[]) ∧ Holds w' g 118 ((stepL t x L).map wd) ∧ Mod [g] w w' := by
  have hp : ∀ k, plc k t < L.length := fun k => by unfold plc; omega
  have hp8 : ∀ k, plc k t < 8 := fun k => by unfold plc; omega
  have hlt := D0.lt
  have HP := Lib.hid (And.intro hp (And.intro hp8 (And.intro hL ht)))
  clear hp hp8 hL ht
  replace D0 : Holds w.drew g 118 (L.map wd) := D0
  go_enter Tryd.func74, Tryd.ntmps74
  go_wp2_with fail
  refine wp_region_lit1 [.pointer (some ⟨g, 0, none⟩), .int .i64 ((t : Nat) : Int), wd x, undef, undef, undef, wd (g0 L (plc 0 t)), wd (g0 L (plc 1 t)), wd (g0 L (plc 2 t)), undef, undef, undef, undef, .pointer (some ⟨g, 0, none⟩), .int .i64 ((t : Nat) : Int), .int .i64 ((plc 0 t : Nat) : Int), .pointer (some ⟨g, 0, none⟩), .pointer (some ⟨g, 0 + (plc 0 t), none⟩), wd (g0 L (plc 0 t)), .pointer (some ⟨g, 0, none⟩), .int .i64 ((t : Nat) : Int), .int .i64 ((plc 1 t : Nat) : Int), .pointer (some ⟨g, 0, none⟩), .pointer (some ⟨g, 0 + (plc 1 t), none⟩), wd (g0 L (plc 1 t)), .pointer (some ⟨g, 0, none⟩), .int .i64 ((t : Nat) : Int), .int .i64 ((plc 2 t : Nat) : Int), .pointer (some ⟨g, 0, none⟩), .pointer (some ⟨g, 0 + (plc 2 t), none⟩), wd (g0 L (plc 2 t)), undef, undef, undef, undef, undef, undef, undef, undef, undef, undef, undef, undef, undef, undef, undef, undef, undef, undef, undef, undef, undef, undef, undef, undef, undef, undef, undef, undef, undef, undef, undef, undef, undef, undef, undef, undef, undef, undef, undef, undef, undef, undef, undef, undef, undef, undef, undef, undef, undef, undef, undef, undef, undef, undef, undef, undef, undef, undef, undef, undef] 91 [0, 1, 2, 3, 4, 5, 9, 10, 11, 12, 31, 32, 33, 34, 35, 36, 37, 38, 39, 40, 41, 42, 43, 44, 45, 46, 47, 48, 49, 50, 51, 52, 53, 54, 55, 56, 57, 58, 59, 60, 61, 62, 63, 64, 65, 66, 67, 68, 69, 70, 71, 72, 73, 74, 75, 76, 77, 78, 79, 80, 81, 82, 83, 84, 85, 86, 87, 88, 89, 90]
    (fun _ v => Mod [] w.drew v) []
    (by kernel_rfl) rfl rfl rfl rfl (Mod.refl _ _) (by kernel_rfl) (by kernel_rfl) ?step ?fin
  case step =>
    intro l T v j o hj hlj hdep hst hpar hgot hcl K hK
    have hjn : j < 21 := (Array.getElem?_eq_some_iff.1 hj).1
    obtain rfl | rfl | rfl | rfl | rfl | rfl | rfl | rfl | rfl | rfl | rfl | rfl | rfl | rfl | rfl | rfl | rfl | rfl | rfl | rfl | rfl : j = 0 ∨ j = 1 ∨ j = 2 ∨ j = 3 ∨ j = 4 ∨ j = 5 ∨ j = 6 ∨ j = 7 ∨ j = 8 ∨ j = 9 ∨ j = 10 ∨ j = 11 ∨ j = 12 ∨ j = 13 ∨ j = 14 ∨ j = 15 ∨ j = 16 ∨ j = 17 ∨ j = 18 ∨ j = 19 ∨ j = 20 := by omega
    all_goals (have hj' := Option.some.inj (hj : some _ = some o); subst hj'; clear hj)
    · exact wp_ran rfl (exec_move rfl (eval_tmp (hpar 0 (by simp)))) (hK _ _ (fun s hs => by cases hs; rfl) hst)
    · exact wp_ran rfl (exec_move rfl (eval_tmp (hpar 1 (by simp)))) (hK _ _ (fun s hs => by cases hs; rfl) hst)
    · exact wp_called rfl (exec_call2 rfl rfl rfl (eval_tmp (hgot 1 _ 14 rfl (hdep ⟨1, .data⟩ (by simp) rfl) rfl)) (enters_of Tryd.func79 (by kernel_rfl) rfl)) ((place_c 0 t (by decide) HP.out.2.2.2 _).mono (fun e v' hh => ⟨_, hh.1, hK _ _ (fun s hs => by cases hs; rfl) (by rw [hh.2]; exact hst)⟩))
    · exact wp_ran rfl (exec_nil rfl (eval_tmp (hgot 0 _ 13 rfl (hdep ⟨0, .data⟩ (by simp) rfl) rfl))) (hK _ _ (fun s hs => by cases hs; rfl) hst)
    · exact wp_ran rfl (exec_at Tryd.underlying118 info67 (HP.out.2.1 _) rfl (eval_tmp (hgot 3 _ 16 rfl (hdep ⟨3, .data⟩ (by simp) rfl) rfl)) (eval_tmp (hgot 2 _ 15 rfl (hdep ⟨2, .data⟩ (by simp) rfl) rfl))) (hK _ _ (fun s hs => by cases hs; rfl) hst)
    · exact wp_ran rfl (exec_load rfl (eval_tmp (hgot 4 _ 17 rfl (hdep ⟨4, .data⟩ (by simp) rfl) rfl)) (word_load (D0.keep hst (by simp)) (by exact HP.out.1 _))) (hK _ _ (fun s hs => by cases hs; rfl) hst)
    · exact wp_ran rfl (exec_move rfl (eval_tmp (hpar 0 (by simp)))) (hK _ _ (fun s hs => by cases hs; rfl) hst)
    · exact wp_ran rfl (exec_move rfl (eval_tmp (hpar 1 (by simp)))) (hK _ _ (fun s hs => by cases hs; rfl) hst)
    · exact wp_called rfl (exec_call2 rfl rfl rfl (eval_tmp (hgot 7 _ 20 rfl (hdep ⟨7, .data⟩ (by simp) rfl) rfl)) (enters_of Tryd.func79 (by kernel_rfl) rfl)) ((place_c 1 t (by decide) HP.out.2.2.2 _).mono (fun e v' hh => ⟨_, hh.1, hK _ _ (fun s hs => by cases hs; rfl) (by rw [hh.2]; exact hst)⟩))
    · exact wp_ran rfl (exec_nil rfl (eval_tmp (hgot 6 _ 19 rfl (hdep ⟨6, .data⟩ (by simp) rfl) rfl))) (hK _ _ (fun s hs => by cases hs; rfl) hst)
    · exact wp_ran rfl (exec_at Tryd.underlying118 info67 (HP.out.2.1 _) rfl (eval_tmp (hgot 9 _ 22 rfl (hdep ⟨9, .data⟩ (by simp) rfl) rfl)) (eval_tmp (hgot 8 _ 21 rfl (hdep ⟨8, .data⟩ (by simp) rfl) rfl))) (hK _ _ (fun s hs => by cases hs; rfl) hst)
    · exact wp_ran rfl (exec_load rfl (eval_tmp (hgot 10 _ 23 rfl (hdep ⟨10, .data⟩ (by simp) rfl) rfl)) (word_load (D0.keep hst (by simp)) (by exact HP.out.1 _))) (hK _ _ (fun s hs => by cases hs; rfl) hst)
    · exact wp_ran rfl (exec_move rfl (eval_tmp (hpar 0 (by simp)))) (hK _ _ (fun s hs => by cases hs; rfl) hst)
    · exact wp_ran rfl (exec_move rfl (eval_tmp (hpar 1 (by simp)))) (hK _ _ (fun s hs => by cases hs; rfl) hst)
    · exact wp_called rfl (exec_call2 rfl rfl rfl (eval_tmp (hgot 13 _ 26 rfl (hdep ⟨13, .data⟩ (by simp) rfl) rfl)) (enters_of Tryd.func79 (by kernel_rfl) rfl)) ((place_c 2 t (by decide) HP.out.2.2.2 _).mono (fun e v' hh => ⟨_, hh.1, hK _ _ (fun s hs => by cases hs; rfl) (by rw [hh.2]; exact hst)⟩))
    · exact wp_ran rfl (exec_nil rfl (eval_tmp (hgot 12 _ 25 rfl (hdep ⟨12, .data⟩ (by simp) rfl) rfl))) (hK _ _ (fun s hs => by cases hs; rfl) hst)
    · exact wp_ran rfl (exec_at Tryd.underlying118 info67 (HP.out.2.1 _) rfl (eval_tmp (hgot 15 _ 28 rfl (hdep ⟨15, .data⟩ (by simp) rfl) rfl)) (eval_tmp (hgot 14 _ 27 rfl (hdep ⟨14, .data⟩ (by simp) rfl) rfl))) (hK _ _ (fun s hs => by cases hs; rfl) hst)
    · exact wp_ran rfl (exec_load rfl (eval_tmp (hgot 16 _ 29 rfl (hdep ⟨16, .data⟩ (by simp) rfl) rfl)) (word_load (D0.keep hst (by simp)) (by exact HP.out.1 _))) (hK _ _ (fun s hs => by cases hs; rfl) hst)
    · exact wp_ran rfl (exec_assign rfl (eval_tmp (hgot 5 _ 18 rfl (hdep ⟨5, .data⟩ (by simp) rfl) rfl))) (hK _ _ (fun s hs => by cases hs; rfl) hst)
    · exact wp_ran rfl (exec_assign rfl (eval_tmp (hgot 11 _ 24 rfl (hdep ⟨11, .data⟩ (by simp) rfl) rfl))) (hK _ _ (fun s hs => by cases hs; rfl) hst)
    · exact wp_ran rfl (exec_assign rfl (eval_tmp (hgot 17 _ 30 rfl (hdep ⟨17, .data⟩ (by simp) rfl) rfl))) (hK _ _ (fun s hs => by cases hs; rfl) hst)
  case fin =>
    intro l v hl hst
    obtain ⟨w1, rfl⟩ : ∃ u, u = v := ⟨_, rfl⟩
    have D1 : Holds w1.drew g 118 (L.map wd) := Holds.keep (w := w.drew) (v := w1) D0 hst (by simp)
    have m0 : Mod [] w w1 := hst.drewed
    clear hst hl
    dsimp only
    go_wp2_with fail
    refine wp_region_lit1 [.pointer (some ⟨g, 0, none⟩), .int .i64 ((t : Nat) : Int), wd x, undef, undef, undef, wd (g0 L (plc 0 t)), wd (g0 L (plc 1 t)), wd (g0 L (plc 2 t)), wd (g0 L (plc 4 t)), wd (g0 L (plc 5 t)), wd (g0 L (plc 6 t)), undef, .pointer (some ⟨g, 0, none⟩), .int .i64 ((t : Nat) : Int), .int .i64 ((plc 0 t : Nat) : Int), .pointer (some ⟨g, 0, none⟩), .pointer (some ⟨g, 0 + (plc 0 t), none⟩), wd (g0 L (plc 0 t)), .pointer (some ⟨g, 0, none⟩), .int .i64 ((t : Nat) : Int), .int .i64 ((plc 1 t : Nat) : Int), .pointer (some ⟨g, 0, none⟩), .pointer (some ⟨g, 0 + (plc 1 t), none⟩), wd (g0 L (plc 1 t)), .pointer (some ⟨g, 0, none⟩), .int .i64 ((t : Nat) : Int), .int .i64 ((plc 2 t : Nat) : Int), .pointer (some ⟨g, 0, none⟩), .pointer (some ⟨g, 0 + (plc 2 t), none⟩), wd (g0 L (plc 2 t)), .pointer (some ⟨g, 0, none⟩), .int .i64 ((t : Nat) : Int), .int .i64 ((plc 4 t : Nat) : Int), .pointer (some ⟨g, 0, none⟩), .pointer (some ⟨g, 0 + (plc 4 t), none⟩), wd (g0 L (plc 4 t)), .pointer (some ⟨g, 0, none⟩), .int .i64 ((t : Nat) : Int), .int .i64 ((plc 5 t : Nat) : Int), .pointer (some ⟨g, 0, none⟩), .pointer (some ⟨g, 0 + (plc 5 t), none⟩), wd (g0 L (plc 5 t)), .pointer (some ⟨g, 0, none⟩), .int .i64 ((t : Nat) : Int), .int .i64 ((plc 6 t : Nat) : Int), .pointer (some ⟨g, 0, none⟩), .pointer (some ⟨g, 0 + (plc 6 t), none⟩), wd (g0 L (plc 6 t)), undef, undef, undef, undef, undef, undef, undef, undef, undef, undef, undef, undef, undef, undef, undef, undef, undef, undef, undef, undef, undef, undef, undef, undef, undef, undef, undef, undef, undef, undef, undef, undef, undef, undef, undef, undef, undef, undef, undef, undef, undef, undef] 91 [0, 1, 2, 3, 4, 5, 6, 7, 8, 12, 13, 14, 15, 16, 17, 18, 19, 20, 21, 22, 23, 24, 25, 26, 27, 28, 29, 30, 49, 50, 51, 52, 53, 54, 55, 56, 57, 58, 59, 60, 61, 62, 63, 64, 65, 66, 67, 68, 69, 70, 71, 72, 73, 74, 75, 76, 77, 78, 79, 80, 81, 82, 83, 84, 85, 86, 87, 88, 89, 90]
      (fun _ v => Mod [] w1.drew v) []
      (by kernel_rfl) rfl rfl rfl rfl (Mod.refl _ _) (by kernel_rfl) (by kernel_rfl) ?step ?fin
    case step =>
      intro l T v j o hj hlj hdep hst hpar hgot hcl K hK
      have hjn : j < 21 := (Array.getElem?_eq_some_iff.1 hj).1
      obtain rfl | rfl | rfl | rfl | rfl | rfl | rfl | rfl | rfl | rfl | rfl | rfl | rfl | rfl | rfl | rfl | rfl | rfl | rfl | rfl | rfl : j = 0 ∨ j = 1 ∨ j = 2 ∨ j = 3 ∨ j = 4 ∨ j = 5 ∨ j = 6 ∨ j = 7 ∨ j = 8 ∨ j = 9 ∨ j = 10 ∨ j = 11 ∨ j = 12 ∨ j = 13 ∨ j = 14 ∨ j = 15 ∨ j = 16 ∨ j = 17 ∨ j = 18 ∨ j = 19 ∨ j = 20 := by omega
      all_goals (have hj' := Option.some.inj (hj : some _ = some o); subst hj'; clear hj)
      · exact wp_ran rfl (exec_move rfl (eval_tmp (hpar 0 (by simp)))) (hK _ _ (fun s hs => by cases hs; rfl) hst)
      · exact wp_ran rfl (exec_move rfl (eval_tmp (hpar 1 (by simp)))) (hK _ _ (fun s hs => by cases hs; rfl) hst)
      · exact wp_called rfl (exec_call2 rfl rfl rfl (eval_tmp (hgot 1 _ 32 rfl (hdep ⟨1, .data⟩ (by simp) rfl) rfl)) (enters_of Tryd.func79 (by kernel_rfl) rfl)) ((place_c 4 t (by decide) HP.out.2.2.2 _).mono (fun e v' hh => ⟨_, hh.1, hK _ _ (fun s hs => by cases hs; rfl) (by rw [hh.2]; exact hst)⟩))
      · exact wp_ran rfl (exec_nil rfl (eval_tmp (hgot 0 _ 31 rfl (hdep ⟨0, .data⟩ (by simp) rfl) rfl))) (hK _ _ (fun s hs => by cases hs; rfl) hst)
      · exact wp_ran rfl (exec_at Tryd.underlying118 info67 (HP.out.2.1 _) rfl (eval_tmp (hgot 3 _ 34 rfl (hdep ⟨3, .data⟩ (by simp) rfl) rfl)) (eval_tmp (hgot 2 _ 33 rfl (hdep ⟨2, .data⟩ (by simp) rfl) rfl))) (hK _ _ (fun s hs => by cases hs; rfl) hst)
      · exact wp_ran rfl (exec_load rfl (eval_tmp (hgot 4 _ 35 rfl (hdep ⟨4, .data⟩ (by simp) rfl) rfl)) (word_load (D1.keep hst (by simp)) (by exact HP.out.1 _))) (hK _ _ (fun s hs => by cases hs; rfl) hst)
      · exact wp_ran rfl (exec_move rfl (eval_tmp (hpar 0 (by simp)))) (hK _ _ (fun s hs => by cases hs; rfl) hst)
      · exact wp_ran rfl (exec_move rfl (eval_tmp (hpar 1 (by simp)))) (hK _ _ (fun s hs => by cases hs; rfl) hst)
      · exact wp_called rfl (exec_call2 rfl rfl rfl (eval_tmp (hgot 7 _ 38 rfl (hdep ⟨7, .data⟩ (by simp) rfl) rfl)) (enters_of Tryd.func79 (by kernel_rfl) rfl)) ((place_c 5 t (by decide) HP.out.2.2.2 _).mono (fun e v' hh => ⟨_, hh.1, hK _ _ (fun s hs => by cases hs; rfl) (by rw [hh.2]; exact hst)⟩))
      · exact wp_ran rfl (exec_nil rfl (eval_tmp (hgot 6 _ 37 rfl (hdep ⟨6, .data⟩ (by simp) rfl) rfl))) (hK _ _ (fun s hs => by cases hs; rfl) hst)
      · exact wp_ran rfl (exec_at Tryd.underlying118 info67 (HP.out.2.1 _) rfl (eval_tmp (hgot 9 _ 40 rfl (hdep ⟨9, .data⟩ (by simp) rfl) rfl)) (eval_tmp (hgot 8 _ 39 rfl (hdep ⟨8, .data⟩ (by simp) rfl) rfl))) (hK _ _ (fun s hs => by cases hs; rfl) hst)
      · exact wp_ran rfl (exec_load rfl (eval_tmp (hgot 10 _ 41 rfl (hdep ⟨10, .data⟩ (by simp) rfl) rfl)) (word_load (D1.keep hst (by simp)) (by exact HP.out.1 _))) (hK _ _ (fun s hs => by cases hs; rfl) hst)
      · exact wp_ran rfl (exec_move rfl (eval_tmp (hpar 0 (by simp)))) (hK _ _ (fun s hs => by cases hs; rfl) hst)
      · exact wp_ran rfl (exec_move rfl (eval_tmp (hpar 1 (by simp)))) (hK _ _ (fun s hs => by cases hs; rfl) hst)
      · exact wp_called rfl (exec_call2 rfl rfl rfl (eval_tmp (hgot 13 _ 44 rfl (hdep ⟨13, .data⟩ (by simp) rfl) rfl)) (enters_of Tryd.func79 (by kernel_rfl) rfl)) ((place_c 6 t (by decide) HP.out.2.2.2 _).mono (fun e v' hh => ⟨_, hh.1, hK _ _ (fun s hs => by cases hs; rfl) (by rw [hh.2]; exact hst)⟩))
      · exact wp_ran rfl (exec_nil rfl (eval_tmp (hgot 12 _ 43 rfl (hdep ⟨12, .data⟩ (by simp) rfl) rfl))) (hK _ _ (fun s hs => by cases hs; rfl) hst)
      · exact wp_ran rfl (exec_at Tryd.underlying118 info67 (HP.out.2.1 _) rfl (eval_tmp (hgot 15 _ 46 rfl (hdep ⟨15, .data⟩ (by simp) rfl) rfl)) (eval_tmp (hgot 14 _ 45 rfl (hdep ⟨14, .data⟩ (by simp) rfl) rfl))) (hK _ _ (fun s hs => by cases hs; rfl) hst)
      · exact wp_ran rfl (exec_load rfl (eval_tmp (hgot 16 _ 47 rfl (hdep ⟨16, .data⟩ (by simp) rfl) rfl)) (word_load (D1.keep hst (by simp)) (by exact HP.out.1 _))) (hK _ _ (fun s hs => by cases hs; rfl) hst)
      · exact wp_ran rfl (exec_assign rfl (eval_tmp (hgot 5 _ 36 rfl (hdep ⟨5, .data⟩ (by simp) rfl) rfl))) (hK _ _ (fun s hs => by cases hs; rfl) hst)
      · exact wp_ran rfl (exec_assign rfl (eval_tmp (hgot 11 _ 42 rfl (hdep ⟨11, .data⟩ (by simp) rfl) rfl))) (hK _ _ (fun s hs => by cases hs; rfl) hst)
      · exact wp_ran rfl (exec_assign rfl (eval_tmp (hgot 17 _ 48 rfl (hdep ⟨17, .data⟩ (by simp) rfl) rfl))) (hK _ _ (fun s hs => by cases hs; rfl) hst)
    case fin =>
      intro l v hl hst
      obtain ⟨w2, rfl⟩ : ∃ u, u = v := ⟨_, rfl⟩
      have D2 : Holds w2.drew g 118 (L.map wd) := Holds.keep (w := w1.drew) (v := w2) D1 hst (by simp)
      have m1 : Mod [] w w2 := m0.then hst.drewed
      clear m0
      clear hst hl
      dsimp only
      go_wp2_with fail
      refine wp_region_lit1 [.pointer (some ⟨g, 0, none⟩), .int .i64 ((t : Nat) : Int), wd x, undef, undef, undef, wd (g0 L (plc 0 t)), wd (g0 L (plc 1 t)), wd (g0 L (plc 2 t)), wd (g0 L (plc 4 t)), wd (g0 L (plc 5 t)), wd (g0 L (plc 6 t)), wd (((g0 L (plc 7 t) + bg1 (g0 L (plc 4 t))) + pck (g0 L (plc 4 t)) (g0 L (plc 5 t)) (g0 L (plc 6 t))) + x), .pointer (some ⟨g, 0, none⟩), .int .i64 ((t : Nat) : Int), .int .i64 ((plc 0 t : Nat) : Int), .pointer (some ⟨g, 0, none⟩), .pointer (some ⟨g, 0 + (plc 0 t), none⟩), wd (g0 L (plc 0 t)), .pointer (some ⟨g, 0, none⟩), .int .i64 ((t : Nat) : Int), .int .i64 ((plc 1 t : Nat) : Int), .pointer (some ⟨g, 0, none⟩), .pointer (some ⟨g, 0 + (plc 1 t), none⟩), wd (g0 L (plc 1 t)), .pointer (some ⟨g, 0, none⟩), .int .i64 ((t : Nat) : Int), .int .i64 ((plc 2 t : Nat) : Int), .pointer (some ⟨g, 0, none⟩), .pointer (some ⟨g, 0 + (plc 2 t), none⟩), wd (g0 L (plc 2 t)), .pointer (some ⟨g, 0, none⟩), .int .i64 ((t : Nat) : Int), .int .i64 ((plc 4 t : Nat) : Int), .pointer (some ⟨g, 0, none⟩), .pointer (some ⟨g, 0 + (plc 4 t), none⟩), wd (g0 L (plc 4 t)), .pointer (some ⟨g, 0, none⟩), .int .i64 ((t : Nat) : Int), .int .i64 ((plc 5 t : Nat) : Int), .pointer (some ⟨g, 0, none⟩), .pointer (some ⟨g, 0 + (plc 5 t), none⟩), wd (g0 L (plc 5 t)), .pointer (some ⟨g, 0, none⟩), .int .i64 ((t : Nat) : Int), .int .i64 ((plc 6 t : Nat) : Int), .pointer (some ⟨g, 0, none⟩), .pointer (some ⟨g, 0 + (plc 6 t), none⟩), wd (g0 L (plc 6 t)), .pointer (some ⟨g, 0, none⟩), .int .i64 ((t : Nat) : Int), .int .i64 ((plc 7 t : Nat) : Int), .pointer (some ⟨g, 0, none⟩), .pointer (some ⟨g, 0 + (plc 7 t), none⟩), wd (g0 L (plc 7 t)), .agg (mixC 6 11 89 25).toArray, wd (g0 L (plc 4 t)), wd (bg1 (g0 L (plc 4 t))), wd (g0 L (plc 7 t) + bg1 (g0 L (plc 4 t))), wd (g0 L (plc 4 t)), wd (g0 L (plc 5 t)), wd (g0 L (plc 6 t)), wd (pck (g0 L (plc 4 t)) (g0 L (plc 5 t)) (g0 L (plc 6 t))), wd ((g0 L (plc 7 t) + bg1 (g0 L (plc 4 t))) + pck (g0 L (plc 4 t)) (g0 L (plc 5 t)) (g0 L (plc 6 t))), wd x, wd (((g0 L (plc 7 t) + bg1 (g0 L (plc 4 t))) + pck (g0 L (plc 4 t)) (g0 L (plc 5 t)) (g0 L (plc 6 t))) + x), undef, undef, undef, undef, undef, undef, undef, undef, undef, undef, undef, undef, undef, undef, undef, undef, undef, undef, undef, undef, undef, undef, undef, undef, undef] 91 [0, 1, 2, 3, 4, 5, 6, 7, 8, 9, 10, 11, 13, 14, 15, 16, 17, 18, 19, 20, 21, 22, 23, 24, 25, 26, 27, 28, 29, 30, 31, 32, 33, 34, 35, 36, 37, 38, 39, 40, 41, 42, 43, 44, 45, 46, 47, 48, 66, 67, 68, 69, 70, 71, 72, 73, 74, 75, 76, 77, 78, 79, 80, 81, 82, 83, 84, 85, 86, 87, 88, 89, 90]
        (fun _ v => Mod [] w2.drew v) []
        (by kernel_rfl) rfl rfl rfl rfl (Mod.refl _ _) (by kernel_rfl) (by kernel_rfl) ?step ?fin
      case step =>
        intro l T v j o hj hlj hdep hst hpar hgot hcl K hK
        have hjn : j < 18 := (Array.getElem?_eq_some_iff.1 hj).1
        obtain rfl | rfl | rfl | rfl | rfl | rfl | rfl | rfl | rfl | rfl | rfl | rfl | rfl | rfl | rfl | rfl | rfl | rfl : j = 0 ∨ j = 1 ∨ j = 2 ∨ j = 3 ∨ j = 4 ∨ j = 5 ∨ j = 6 ∨ j = 7 ∨ j = 8 ∨ j = 9 ∨ j = 10 ∨ j = 11 ∨ j = 12 ∨ j = 13 ∨ j = 14 ∨ j = 15 ∨ j = 16 ∨ j = 17 := by omega
        all_goals (have hj' := Option.some.inj (hj : some _ = some o); subst hj'; clear hj)
        · exact wp_ran rfl (exec_move rfl (eval_tmp (hpar 0 (by simp)))) (hK _ _ (fun s hs => by cases hs; rfl) hst)
        · exact wp_ran rfl (exec_move rfl (eval_tmp (hpar 1 (by simp)))) (hK _ _ (fun s hs => by cases hs; rfl) hst)
        · exact wp_called rfl (exec_call2 rfl rfl rfl (eval_tmp (hgot 1 _ 50 rfl (hdep ⟨1, .data⟩ (by simp) rfl) rfl)) (enters_of Tryd.func79 (by kernel_rfl) rfl)) ((place_c 7 t (by decide) HP.out.2.2.2 _).mono (fun e v' hh => ⟨_, hh.1, hK _ _ (fun s hs => by cases hs; rfl) (by rw [hh.2]; exact hst)⟩))
        · exact wp_ran rfl (exec_nil rfl (eval_tmp (hgot 0 _ 49 rfl (hdep ⟨0, .data⟩ (by simp) rfl) rfl))) (hK _ _ (fun s hs => by cases hs; rfl) hst)
        · exact wp_ran rfl (exec_at Tryd.underlying118 info67 (HP.out.2.1 _) rfl (eval_tmp (hgot 3 _ 52 rfl (hdep ⟨3, .data⟩ (by simp) rfl) rfl)) (eval_tmp (hgot 2 _ 51 rfl (hdep ⟨2, .data⟩ (by simp) rfl) rfl))) (hK _ _ (fun s hs => by cases hs; rfl) hst)
        · exact wp_ran rfl (exec_load rfl (eval_tmp (hgot 4 _ 53 rfl (hdep ⟨4, .data⟩ (by simp) rfl) rfl)) (word_load (D2.keep hst (by simp)) (by exact HP.out.1 _))) (hK _ _ (fun s hs => by cases hs; rfl) hst)
        · exact wp_called rfl (exec_call0 rfl rfl (enters_of Tryd.func80 (by kernel_rfl) rfl)) ((big1_c _).mono (fun e v' hh => ⟨_, hh.1, hK _ _ (fun s hs => by cases hs; rfl) (hst.then hh.2)⟩))
        · exact wp_ran rfl (exec_move rfl (eval_tmp (hpar 9 (by simp)))) (hK _ _ (fun s hs => by cases hs; rfl) hst)
        · exact wp_called rfl (exec_call2 rfl rfl (eval_tmp (hgot 6 _ 55 rfl (hdep ⟨6, .data⟩ (by simp) rfl) rfl)) (eval_tmp (hgot 7 _ 56 rfl (hdep ⟨7, .data⟩ (by simp) rfl) rfl)) (enters_of Tryd.func81 (by kernel_rfl) rfl)) ((big1_of _ _).mono (fun e v' hh => ⟨_, hh.1, hK _ _ (fun s hs => by cases hs; rfl) (hst.then hh.2)⟩))
        · exact wp_ran rfl (exec_add rfl (eval_tmp (hgot 5 _ 54 rfl (hdep ⟨5, .data⟩ (by simp) rfl) rfl)) (eval_tmp (hgot 8 _ 57 rfl (hdep ⟨8, .data⟩ (by simp) rfl) rfl)) (add_wd _ _)) (hK _ _ (fun s hs => by cases hs; rfl) hst)
        · exact wp_ran rfl (exec_move rfl (eval_tmp (hpar 9 (by simp)))) (hK _ _ (fun s hs => by cases hs; rfl) hst)
        · exact wp_ran rfl (exec_move rfl (eval_tmp (hpar 10 (by simp)))) (hK _ _ (fun s hs => by cases hs; rfl) hst)
        · exact wp_ran rfl (exec_move rfl (eval_tmp (hpar 11 (by simp)))) (hK _ _ (fun s hs => by cases hs; rfl) hst)
        · exact wp_called rfl (exec_call3 rfl rfl (eval_tmp (hgot 10 _ 59 rfl (hdep ⟨10, .data⟩ (by simp) rfl) rfl)) (eval_tmp (hgot 11 _ 60 rfl (hdep ⟨11, .data⟩ (by simp) rfl) rfl)) (eval_tmp (hgot 12 _ 61 rfl (hdep ⟨12, .data⟩ (by simp) rfl) rfl)) (enters_of Tryd.func82 (by kernel_rfl) rfl)) ((pick_c _ _ _ _).mono (fun e v' hh => ⟨_, hh.1, hK _ _ (fun s hs => by cases hs; rfl) (by rw [hh.2]; exact hst)⟩))
        · exact wp_ran rfl (exec_add rfl (eval_tmp (hgot 9 _ 58 rfl (hdep ⟨9, .data⟩ (by simp) rfl) rfl)) (eval_tmp (hgot 13 _ 62 rfl (hdep ⟨13, .data⟩ (by simp) rfl) rfl)) (add_wd _ _)) (hK _ _ (fun s hs => by cases hs; rfl) hst)
        · exact wp_ran rfl (exec_move rfl (eval_tmp (hpar 2 (by simp)))) (hK _ _ (fun s hs => by cases hs; rfl) hst)
        · exact wp_ran rfl (exec_add rfl (eval_tmp (hgot 14 _ 63 rfl (hdep ⟨14, .data⟩ (by simp) rfl) rfl)) (eval_tmp (hgot 15 _ 64 rfl (hdep ⟨15, .data⟩ (by simp) rfl) rfl)) (add_wd _ _)) (hK _ _ (fun s hs => by cases hs; rfl) hst)
        · exact wp_ran rfl (exec_assign rfl (eval_tmp (hgot 16 _ 65 rfl (hdep ⟨16, .data⟩ (by simp) rfl) rfl))) (hK _ _ (fun s hs => by cases hs; rfl) hst)
      case fin =>
        intro l v hl hst
        obtain ⟨w3, rfl⟩ : ∃ u, u = v := ⟨_, rfl⟩
        have D3 : Holds w3.drew g 118 (L.map wd) := Holds.keep (w := w2.drew) (v := w3) D2 hst (by simp)
        have m2 : Mod [] w w3 := m1.then hst.drewed
        clear hst hl m1
        dsimp only
        go_wp2_with fail
        refine wp_region_lit1 [.pointer (some ⟨g, 0, none⟩), .int .i64 ((t : Nat) : Int), wd x, undef, undef, undef, wd (g0 L (plc 0 t)), wd (g0 L (plc 1 t)), wd (g0 L (plc 2 t)), wd (g0 L (plc 4 t)), wd (g0 L (plc 5 t)), wd (g0 L (plc 6 t)), wd (((g0 L (plc 7 t) + bg1 (g0 L (plc 4 t))) + pck (g0 L (plc 4 t)) (g0 L (plc 5 t)) (g0 L (plc 6 t))) + x), .pointer (some ⟨g, 0, none⟩), .int .i64 ((t : Nat) : Int), .int .i64 ((plc 0 t : Nat) : Int), .pointer (some ⟨g, 0, none⟩), .pointer (some ⟨g, 0 + (plc 0 t), none⟩), wd (g0 L (plc 0 t)), .pointer (some ⟨g, 0, none⟩), .int .i64 ((t : Nat) : Int), .int .i64 ((plc 1 t : Nat) : Int), .pointer (some ⟨g, 0, none⟩), .pointer (some ⟨g, 0 + (plc 1 t), none⟩), wd (g0 L (plc 1 t)), .pointer (some ⟨g, 0, none⟩), .int .i64 ((t : Nat) : Int), .int .i64 ((plc 2 t : Nat) : Int), .pointer (some ⟨g, 0, none⟩), .pointer (some ⟨g, 0 + (plc 2 t), none⟩), wd (g0 L (plc 2 t)), .pointer (some ⟨g, 0, none⟩), .int .i64 ((t : Nat) : Int), .int .i64 ((plc 4 t : Nat) : Int), .pointer (some ⟨g, 0, none⟩), .pointer (some ⟨g, 0 + (plc 4 t), none⟩), wd (g0 L (plc 4 t)), .pointer (some ⟨g, 0, none⟩), .int .i64 ((t : Nat) : Int), .int .i64 ((plc 5 t : Nat) : Int), .pointer (some ⟨g, 0, none⟩), .pointer (some ⟨g, 0 + (plc 5 t), none⟩), wd (g0 L (plc 5 t)), .pointer (some ⟨g, 0, none⟩), .int .i64 ((t : Nat) : Int), .int .i64 ((plc 6 t : Nat) : Int), .pointer (some ⟨g, 0, none⟩), .pointer (some ⟨g, 0 + (plc 6 t), none⟩), wd (g0 L (plc 6 t)), .pointer (some ⟨g, 0, none⟩), .int .i64 ((t : Nat) : Int), .int .i64 ((plc 7 t : Nat) : Int), .pointer (some ⟨g, 0, none⟩), .pointer (some ⟨g, 0 + (plc 7 t), none⟩), wd (g0 L (plc 7 t)), .agg (mixC 6 11 89 25).toArray, wd (g0 L (plc 4 t)), wd (bg1 (g0 L (plc 4 t))), wd (g0 L (plc 7 t) + bg1 (g0 L (plc 4 t))), wd (g0 L (plc 4 t)), wd (g0 L (plc 5 t)), wd (g0 L (plc 6 t)), wd (pck (g0 L (plc 4 t)) (g0 L (plc 5 t)) (g0 L (plc 6 t))), wd ((g0 L (plc 7 t) + bg1 (g0 L (plc 4 t))) + pck (g0 L (plc 4 t)) (g0 L (plc 5 t)) (g0 L (plc 6 t))), wd x, wd (((g0 L (plc 7 t) + bg1 (g0 L (plc 4 t))) + pck (g0 L (plc 4 t)) (g0 L (plc 5 t)) (g0 L (plc 6 t))) + x), .pointer (some ⟨g, 0, none⟩), .int .i64 ((t : Nat) : Int), .int .i64 ((plc 3 t : Nat) : Int), .pointer (some ⟨g, 0, none⟩), .pointer (some ⟨g, 0 + (plc 3 t), none⟩), wd (g0 L (plc 3 t)), wd (((g0 L (plc 7 t) + bg1 (g0 L (plc 4 t))) + pck (g0 L (plc 4 t)) (g0 L (plc 5 t)) (g0 L (plc 6 t))) + x), wd (g0 L (plc 3 t) + (((g0 L (plc 7 t) + bg1 (g0 L (plc 4 t))) + pck (g0 L (plc 4 t)) (g0 L (plc 5 t)) (g0 L (plc 6 t))) + x)), .pointer (some ⟨g, 0, none⟩), .pointer (some ⟨g, 0 + (plc 3 t), none⟩), undef, undef, undef, undef, undef, undef, undef, undef, undef, undef, undef, undef, undef, undef, undef] 91 [0, 1, 2, 3, 4, 5, 6, 7, 8, 9, 10, 11, 12, 13, 14, 15, 16, 17, 18, 19, 20, 21, 22, 23, 24, 25, 26, 27, 28, 29, 30, 31, 32, 33, 34, 35, 36, 37, 38, 39, 40, 41, 42, 43, 44, 45, 46, 47, 48, 49, 50, 51, 52, 53, 54, 55, 56, 57, 58, 59, 60, 61, 62, 63, 64, 65, 76, 77, 78, 79, 80, 81, 82, 83, 84, 85, 86, 87, 88, 89, 90]
          (Sto 10 (fun v => Mod [] w3.drew v) (fun v => Holds v g 118 ((L.set (plc 3 t) (g0 L (plc 3 t) + (((g0 L (plc 7 t) + bg1 (g0 L (plc 4 t))) + pck (g0 L (plc 4 t)) (g0 L (plc 5 t)) (g0 L (plc 6 t))) + x))).map wd) ∧ Mod [g] w3.drew v)) []
          (by kernel_rfl) rfl rfl rfl rfl (Sto.start (Mod.refl _ _)) (by kernel_rfl) (by kernel_rfl) ?step ?fin
        case step =>
          intro l T v j o hj hlj hdep hst hpar hgot hcl K hK
          have hjn : j < 11 := (Array.getElem?_eq_some_iff.1 hj).1
          have hq := fun h => Sto.now (j := j) hst hlj h
          obtain rfl | rfl | rfl | rfl | rfl | rfl | rfl | rfl | rfl | rfl | rfl : j = 0 ∨ j = 1 ∨ j = 2 ∨ j = 3 ∨ j = 4 ∨ j = 5 ∨ j = 6 ∨ j = 7 ∨ j = 8 ∨ j = 9 ∨ j = 10 := by omega
          all_goals (have hj' := Option.some.inj (hj : some _ = some o); subst hj'; clear hj)
          · exact wp_ran rfl (exec_move rfl (eval_tmp (hpar 0 (by simp)))) (hK _ _ (fun s hs => by cases hs; rfl) (Sto.keep (hq (by decide)) (by decide) (hq (by decide)).2))
          · exact wp_ran rfl (exec_move rfl (eval_tmp (hpar 1 (by simp)))) (hK _ _ (fun s hs => by cases hs; rfl) (Sto.keep (hq (by decide)) (by decide) (hq (by decide)).2))
          · exact wp_called rfl (exec_call2 rfl rfl rfl (eval_tmp (hgot 1 _ 67 rfl (hdep ⟨1, .data⟩ (by simp) rfl) rfl)) (enters_of Tryd.func79 (by kernel_rfl) rfl)) ((place_c 3 t (by decide) HP.out.2.2.2 _).mono (fun e v' hh => ⟨_, hh.1, hK _ _ (fun s hs => by cases hs; rfl) (by rw [hh.2]; exact Sto.keep (hq (by decide)) (by decide) (hq (by decide)).2)⟩))
          · exact wp_ran rfl (exec_nil rfl (eval_tmp (hgot 0 _ 66 rfl (hdep ⟨0, .data⟩ (by simp) rfl) rfl))) (hK _ _ (fun s hs => by cases hs; rfl) (Sto.keep (hq (by decide)) (by decide) (hq (by decide)).2))
          · exact wp_ran rfl (exec_at Tryd.underlying118 info67 (HP.out.2.1 _) rfl (eval_tmp (hgot 3 _ 69 rfl (hdep ⟨3, .data⟩ (by simp) rfl) rfl)) (eval_tmp (hgot 2 _ 68 rfl (hdep ⟨2, .data⟩ (by simp) rfl) rfl))) (hK _ _ (fun s hs => by cases hs; rfl) (Sto.keep (hq (by decide)) (by decide) (hq (by decide)).2))
          · exact wp_ran rfl (exec_load rfl (eval_tmp (hgot 4 _ 70 rfl (hdep ⟨4, .data⟩ (by simp) rfl) rfl)) (word_load (D3.keep (hq (by decide)).2 (by simp)) (by exact HP.out.1 _))) (hK _ _ (fun s hs => by cases hs; rfl) (Sto.keep (hq (by decide)) (by decide) (hq (by decide)).2))
          · exact wp_ran rfl (exec_move rfl (eval_tmp (hpar 12 (by simp)))) (hK _ _ (fun s hs => by cases hs; rfl) (Sto.keep (hq (by decide)) (by decide) (hq (by decide)).2))
          · exact wp_ran rfl (exec_add rfl (eval_tmp (hgot 5 _ 71 rfl (hdep ⟨5, .data⟩ (by simp) rfl) rfl)) (eval_tmp (hgot 6 _ 72 rfl (hdep ⟨6, .data⟩ (by simp) rfl) rfl)) (add_wd _ _)) (hK _ _ (fun s hs => by cases hs; rfl) (Sto.keep (hq (by decide)) (by decide) (hq (by decide)).2))
          · exact wp_ran rfl (exec_nil rfl (eval_tmp (hgot 0 _ 66 rfl (hdep ⟨0, .data⟩ (by simp) rfl) rfl))) (hK _ _ (fun s hs => by cases hs; rfl) (Sto.keep (hq (by decide)) (by decide) (hq (by decide)).2))
          · exact wp_ran rfl (exec_at Tryd.underlying118 info67 (HP.out.2.1 _) rfl (eval_tmp (hgot 8 _ 74 rfl (hdep ⟨8, .data⟩ (by simp) rfl) rfl)) (eval_tmp (hgot 2 _ 68 rfl (hdep ⟨2, .data⟩ (by simp) rfl) rfl))) (hK _ _ (fun s hs => by cases hs; rfl) (Sto.keep (hq (by decide)) (by decide) (hq (by decide)).2))
          · exact wp_ran_skip rfl (exec_word (z := g0 L (plc 3 t) + (((g0 L (plc 7 t) + bg1 (g0 L (plc 4 t))) + pck (g0 L (plc 4 t)) (g0 L (plc 5 t)) (g0 L (plc 6 t))) + x)) rfl (eval_tmp (hgot 9 _ 75 rfl (hdep ⟨9, .data⟩ (by simp) rfl) rfl)) (eval_tmp (hgot 7 _ 73 rfl (hdep ⟨7, .data⟩ (by simp) rfl) rfl)) (D3.keep (hq (by decide)).2 (by simp)) (by exact HP.out.1 _)) (hK _ _ (fun s hs => by cases hs) (Sto.done (reach_all (by kernel_rfl) hcl rfl hdep) ⟨word_set (D3.keep (hq (by decide)).2 (by simp)) _ _, (hq (by decide)).2.pre (Mod.setCell _ (by simp) _)⟩))
        case fin =>
          intro l v hl hst
          obtain ⟨D4, hst⟩ := Sto.fin hst hl (by decide)
          obtain ⟨w4, rfl⟩ : ∃ u, u = v := ⟨_, rfl⟩
          replace D4 : Holds w4.drew g 118 ((L.set (plc 3 t) (g0 L (plc 3 t) + (((g0 L (plc 7 t) + bg1 (g0 L (plc 4 t))) + pck (g0 L (plc 4 t)) (g0 L (plc 5 t)) (g0 L (plc 6 t))) + x))).map wd) := D4
          have m3 : Mod [g] w w4 := m2.pre hst.drewed
          clear hst hl m2
          dsimp only
          go_wp2_with fail
          refine wp_region_lit1 [.pointer (some ⟨g, 0, none⟩), .int .i64 ((t : Nat) : Int), wd x, undef, undef, undef, wd (g0 L (plc 0 t)), wd (g0 L (plc 1 t)), wd (g0 L (plc 2 t)), wd (g0 L (plc 4 t)), wd (g0 L (plc 5 t)), wd (g0 L (plc 6 t)), wd (((g0 L (plc 7 t) + bg1 (g0 L (plc 4 t))) + pck (g0 L (plc 4 t)) (g0 L (plc 5 t)) (g0 L (plc 6 t))) + x), .pointer (some ⟨g, 0, none⟩), .int .i64 ((t : Nat) : Int), .int .i64 ((plc 0 t : Nat) : Int), .pointer (some ⟨g, 0, none⟩), .pointer (some ⟨g, 0 + (plc 0 t), none⟩), wd (g0 L (plc 0 t)), .pointer (some ⟨g, 0, none⟩), .int .i64 ((t : Nat) : Int), .int .i64 ((plc 1 t : Nat) : Int), .pointer (some ⟨g, 0, none⟩), .pointer (some ⟨g, 0 + (plc 1 t), none⟩), wd (g0 L (plc 1 t)), .pointer (some ⟨g, 0, none⟩), .int .i64 ((t : Nat) : Int), .int .i64 ((plc 2 t : Nat) : Int), .pointer (some ⟨g, 0, none⟩), .pointer (some ⟨g, 0 + (plc 2 t), none⟩), wd (g0 L (plc 2 t)), .pointer (some ⟨g, 0, none⟩), .int .i64 ((t : Nat) : Int), .int .i64 ((plc 4 t : Nat) : Int), .pointer (some ⟨g, 0, none⟩), .pointer (some ⟨g, 0 + (plc 4 t), none⟩), wd (g0 L (plc 4 t)), .pointer (some ⟨g, 0, none⟩), .int .i64 ((t : Nat) : Int), .int .i64 ((plc 5 t : Nat) : Int), .pointer (some ⟨g, 0, none⟩), .pointer (some ⟨g, 0 + (plc 5 t), none⟩), wd (g0 L (plc 5 t)), .pointer (some ⟨g, 0, none⟩), .int .i64 ((t : Nat) : Int), .int .i64 ((plc 6 t : Nat) : Int), .pointer (some ⟨g, 0, none⟩), .pointer (some ⟨g, 0 + (plc 6 t), none⟩), wd (g0 L (plc 6 t)), .pointer (some ⟨g, 0, none⟩), .int .i64 ((t : Nat) : Int), .int .i64 ((plc 7 t : Nat) : Int), .pointer (some ⟨g, 0, none⟩), .pointer (some ⟨g, 0 + (plc 7 t), none⟩), wd (g0 L (plc 7 t)), .agg (mixC 6 11 89 25).toArray, wd (g0 L (plc 4 t)), wd (bg1 (g0 L (plc 4 t))), wd (g0 L (plc 7 t) + bg1 (g0 L (plc 4 t))), wd (g0 L (plc 4 t)), wd (g0 L (plc 5 t)), wd (g0 L (plc 6 t)), wd (pck (g0 L (plc 4 t)) (g0 L (plc 5 t)) (g0 L (plc 6 t))), wd ((g0 L (plc 7 t) + bg1 (g0 L (plc 4 t))) + pck (g0 L (plc 4 t)) (g0 L (plc 5 t)) (g0 L (plc 6 t))), wd x, wd (((g0 L (plc 7 t) + bg1 (g0 L (plc 4 t))) + pck (g0 L (plc 4 t)) (g0 L (plc 5 t)) (g0 L (plc 6 t))) + x), .pointer (some ⟨g, 0, none⟩), .int .i64 ((t : Nat) : Int), .int .i64 ((plc 3 t : Nat) : Int), .pointer (some ⟨g, 0, none⟩), .pointer (some ⟨g, 0 + (plc 3 t), none⟩), wd (g0 L (plc 3 t)), wd (((g0 L (plc 7 t) + bg1 (g0 L (plc 4 t))) + pck (g0 L (plc 4 t)) (g0 L (plc 5 t)) (g0 L (plc 6 t))) + x), wd (g0 L (plc 3 t) + (((g0 L (plc 7 t) + bg1 (g0 L (plc 4 t))) + pck (g0 L (plc 4 t)) (g0 L (plc 5 t)) (g0 L (plc 6 t))) + x)), .pointer (some ⟨g, 0, none⟩), .pointer (some ⟨g, 0 + (plc 3 t), none⟩), .pointer (some ⟨g, 0, none⟩), .int .i64 ((t : Nat) : Int), .int .i64 ((plc 7 t : Nat) : Int), wd (((g0 L (plc 7 t) + bg1 (g0 L (plc 4 t))) + pck (g0 L (plc 4 t)) (g0 L (plc 5 t)) (g0 L (plc 6 t))) + x), .agg (mixC 2 13 89 22).toArray, wd (g0 L (plc 0 t)), wd (bg0 (g0 L (plc 0 t))), wd ((((g0 L (plc 7 t) + bg1 (g0 L (plc 4 t))) + pck (g0 L (plc 4 t)) (g0 L (plc 5 t)) (g0 L (plc 6 t))) + x) + bg0 (g0 L (plc 0 t))), wd (g0 L (plc 0 t)), wd (g0 L (plc 1 t)), wd (g0 L (plc 2 t)), wd (mst (g0 L (plc 0 t)) (g0 L (plc 1 t)) (g0 L (plc 2 t))), wd (((((g0 L (plc 7 t) + bg1 (g0 L (plc 4 t))) + pck (g0 L (plc 4 t)) (g0 L (plc 5 t)) (g0 L (plc 6 t))) + x) + bg0 (g0 L (plc 0 t))) + mst (g0 L (plc 0 t)) (g0 L (plc 1 t)) (g0 L (plc 2 t))), .pointer (some ⟨g, 0, none⟩), .pointer (some ⟨g, 0 + (plc 7 t), none⟩)] 91 [0, 1, 2, 3, 4, 5, 6, 7, 8, 9, 10, 11, 12, 13, 14, 15, 16, 17, 18, 19, 20, 21, 22, 23, 24, 25, 26, 27, 28, 29, 30, 31, 32, 33, 34, 35, 36, 37, 38, 39, 40, 41, 42, 43, 44, 45, 46, 47, 48, 49, 50, 51, 52, 53, 54, 55, 56, 57, 58, 59, 60, 61, 62, 63, 64, 65, 66, 67, 68, 69, 70, 71, 72, 73, 74, 75]
            (Sto 15 (fun v => Mod [] w4.drew v) (fun v => Holds v g 118 (((L.set (plc 3 t) (g0 L (plc 3 t) + (((g0 L (plc 7 t) + bg1 (g0 L (plc 4 t))) + pck (g0 L (plc 4 t)) (g0 L (plc 5 t)) (g0 L (plc 6 t))) + x))).set (plc 7 t) (((((g0 L (plc 7 t) + bg1 (g0 L (plc 4 t))) + pck (g0 L (plc 4 t)) (g0 L (plc 5 t)) (g0 L (plc 6 t))) + x) + bg0 (g0 L (plc 0 t))) + mst (g0 L (plc 0 t)) (g0 L (plc 1 t)) (g0 L (plc 2 t)))).map wd) ∧ Mod [g] w4.drew v)) []
            (by kernel_rfl) rfl rfl rfl rfl (Sto.start (Mod.refl _ _)) (by kernel_rfl) (by kernel_rfl) ?step ?fin
          case step =>
            intro l T v j o hj hlj hdep hst hpar hgot hcl K hK
            have hjn : j < 16 := (Array.getElem?_eq_some_iff.1 hj).1
            have hq := fun h => Sto.now (j := j) hst hlj h
            obtain rfl | rfl | rfl | rfl | rfl | rfl | rfl | rfl | rfl | rfl | rfl | rfl | rfl | rfl | rfl | rfl : j = 0 ∨ j = 1 ∨ j = 2 ∨ j = 3 ∨ j = 4 ∨ j = 5 ∨ j = 6 ∨ j = 7 ∨ j = 8 ∨ j = 9 ∨ j = 10 ∨ j = 11 ∨ j = 12 ∨ j = 13 ∨ j = 14 ∨ j = 15 := by omega
            all_goals (have hj' := Option.some.inj (hj : some _ = some o); subst hj'; clear hj)
            · exact wp_ran rfl (exec_move rfl (eval_tmp (hpar 0 (by simp)))) (hK _ _ (fun s hs => by cases hs; rfl) (Sto.keep (hq (by decide)) (by decide) (hq (by decide)).2))
            · exact wp_ran rfl (exec_move rfl (eval_tmp (hpar 1 (by simp)))) (hK _ _ (fun s hs => by cases hs; rfl) (Sto.keep (hq (by decide)) (by decide) (hq (by decide)).2))
            · exact wp_called rfl (exec_call2 rfl rfl rfl (eval_tmp (hgot 1 _ 77 rfl (hdep ⟨1, .data⟩ (by simp) rfl) rfl)) (enters_of Tryd.func79 (by kernel_rfl) rfl)) ((place_c 7 t (by decide) HP.out.2.2.2 _).mono (fun e v' hh => ⟨_, hh.1, hK _ _ (fun s hs => by cases hs; rfl) (by rw [hh.2]; exact Sto.keep (hq (by decide)) (by decide) (hq (by decide)).2)⟩))
            · exact wp_ran rfl (exec_move rfl (eval_tmp (hpar 12 (by simp)))) (hK _ _ (fun s hs => by cases hs; rfl) (Sto.keep (hq (by decide)) (by decide) (hq (by decide)).2))
            · exact wp_called rfl (exec_call0 rfl rfl (enters_of Tryd.func83 (by kernel_rfl) rfl)) ((big0_c _).mono (fun e v' hh => ⟨_, hh.1, hK _ _ (fun s hs => by cases hs; rfl) (Sto.keep (hq (by decide)) (by decide) ((hq (by decide)).2.then hh.2))⟩))
            · exact wp_ran rfl (exec_move rfl (eval_tmp (hpar 6 (by simp)))) (hK _ _ (fun s hs => by cases hs; rfl) (Sto.keep (hq (by decide)) (by decide) (hq (by decide)).2))
            · exact wp_called rfl (exec_call2 rfl rfl (eval_tmp (hgot 4 _ 80 rfl (hdep ⟨4, .data⟩ (by simp) rfl) rfl)) (eval_tmp (hgot 5 _ 81 rfl (hdep ⟨5, .data⟩ (by simp) rfl) rfl)) (enters_of Tryd.func81 (by kernel_rfl) rfl)) ((big0_of _ _).mono (fun e v' hh => ⟨_, hh.1, hK _ _ (fun s hs => by cases hs; rfl) (Sto.keep (hq (by decide)) (by decide) ((hq (by decide)).2.then hh.2))⟩))
            · exact wp_ran rfl (exec_add rfl (eval_tmp (hgot 3 _ 79 rfl (hdep ⟨3, .data⟩ (by simp) rfl) rfl)) (eval_tmp (hgot 6 _ 82 rfl (hdep ⟨6, .data⟩ (by simp) rfl) rfl)) (add_wd _ _)) (hK _ _ (fun s hs => by cases hs; rfl) (Sto.keep (hq (by decide)) (by decide) (hq (by decide)).2))
            · exact wp_ran rfl (exec_move rfl (eval_tmp (hpar 6 (by simp)))) (hK _ _ (fun s hs => by cases hs; rfl) (Sto.keep (hq (by decide)) (by decide) (hq (by decide)).2))
            · exact wp_ran rfl (exec_move rfl (eval_tmp (hpar 7 (by simp)))) (hK _ _ (fun s hs => by cases hs; rfl) (Sto.keep (hq (by decide)) (by decide) (hq (by decide)).2))
            · exact wp_ran rfl (exec_move rfl (eval_tmp (hpar 8 (by simp)))) (hK _ _ (fun s hs => by cases hs; rfl) (Sto.keep (hq (by decide)) (by decide) (hq (by decide)).2))
            · exact wp_called rfl (exec_call3 rfl rfl (eval_tmp (hgot 8 _ 84 rfl (hdep ⟨8, .data⟩ (by simp) rfl) rfl)) (eval_tmp (hgot 9 _ 85 rfl (hdep ⟨9, .data⟩ (by simp) rfl) rfl)) (eval_tmp (hgot 10 _ 86 rfl (hdep ⟨10, .data⟩ (by simp) rfl) rfl)) (enters_of Tryd.func84 (by kernel_rfl) rfl)) ((most_c _ _ _ _).mono (fun e v' hh => ⟨_, hh.1, hK _ _ (fun s hs => by cases hs; rfl) (by rw [hh.2]; exact Sto.keep (hq (by decide)) (by decide) (hq (by decide)).2)⟩))
            · exact wp_ran rfl (exec_add rfl (eval_tmp (hgot 7 _ 83 rfl (hdep ⟨7, .data⟩ (by simp) rfl) rfl)) (eval_tmp (hgot 11 _ 87 rfl (hdep ⟨11, .data⟩ (by simp) rfl) rfl)) (add_wd _ _)) (hK _ _ (fun s hs => by cases hs; rfl) (Sto.keep (hq (by decide)) (by decide) (hq (by decide)).2))
            · exact wp_ran rfl (exec_nil rfl (eval_tmp (hgot 0 _ 76 rfl (hdep ⟨0, .data⟩ (by simp) rfl) rfl))) (hK _ _ (fun s hs => by cases hs; rfl) (Sto.keep (hq (by decide)) (by decide) (hq (by decide)).2))
            · exact wp_ran rfl (exec_at Tryd.underlying118 info67 (HP.out.2.1 _) rfl (eval_tmp (hgot 13 _ 89 rfl (hdep ⟨13, .data⟩ (by simp) rfl) rfl)) (eval_tmp (hgot 2 _ 78 rfl (hdep ⟨2, .data⟩ (by simp) rfl) rfl))) (hK _ _ (fun s hs => by cases hs; rfl) (Sto.keep (hq (by decide)) (by decide) (hq (by decide)).2))
            · exact wp_ran_skip rfl (exec_word (z := ((((g0 L (plc 7 t) + bg1 (g0 L (plc 4 t))) + pck (g0 L (plc 4 t)) (g0 L (plc 5 t)) (g0 L (plc 6 t))) + x) + bg0 (g0 L (plc 0 t))) + mst (g0 L (plc 0 t)) (g0 L (plc 1 t)) (g0 L (plc 2 t))) rfl (eval_tmp (hgot 14 _ 90 rfl (hdep ⟨14, .data⟩ (by simp) rfl) rfl)) (eval_tmp (hgot 12 _ 88 rfl (hdep ⟨12, .data⟩ (by simp) rfl) rfl)) (D4.keep (hq (by decide)).2 (by simp)) (by rw [List.length_set]; exact HP.out.1 _)) (hK _ _ (fun s hs => by cases hs) (Sto.done (reach_all (by kernel_rfl) hcl rfl hdep) ⟨word_set (D4.keep (hq (by decide)).2 (by simp)) _ _, (hq (by decide)).2.pre (Mod.setCell _ (by simp) _)⟩))
          case fin =>
            intro l v hl hst
            obtain ⟨D5, hst⟩ := Sto.fin hst hl (by decide)
            have m4 : Mod [g] w v := m3.trans hst.drewed (fun i _ h => h)
            clear hst hl m3
            dsimp only
            go_wp2_with fail
            go_end0
            exact ⟨rfl, D5, m4⟩
end
section
open Go.RowKit
theorem g0_get (l : List UInt32) (k : Nat) (h : k < l.length) : g0 l k = l[k] := by simp [g0, h]
theorem g0_of (l m : List UInt32) (i j : Nat) (h : l[i]? = m[j]?) : g0 l i = g0 m j := by unfold g0; rw [List.getD_eq_getElem?_getD, List.getD_eq_getElem?_getD, h]
theorem more_g0 (f : List UInt32) (n m i : Nat) (hn : n ≤ m) (hi : i < f.length + n) : g0 (more f n) i = g0 (more f m) i := by
  obtain ⟨k, rfl⟩ : ∃ k, m = n + k := ⟨m - n, by omega⟩
  exact g0_of _ _ _ _ (more_keep f n k i hi).symm
theorem more_next (f : List UInt32) (hf : f.length = 16) (t : Nat) (h1 : 16 ≤ t) (h2 : t < 64) :
    g0 (more f 48) t = sm1 (g0 (more f 48) (t - 2)) + g0 (more f 48) (t - 7) + sm0 (g0 (more f 48) (t - 15)) + g0 (more f 48) (t - 16) := by
  obtain ⟨n, rfl⟩ : ∃ n, t = 16 + n := ⟨t - 16, by omega⟩
  have hl : (more f n).length = 16 + n := by rw [more_length, hf]
  have e1 : g0 (more f 48) (16 + n) = nxt (more f n) := by
    rw [← more_g0 f (n + 1) 48 (16 + n) (by omega) (by omega)]
    unfold g0
    rw [List.getD_eq_getElem?_getD]
    simp only [more]
    rw [List.getElem?_append_right (by omega), hl]
    simp
  rw [e1]
  unfold nxt
  rw [hl]
  rw [more_g0 f n 48 _ (by omega) (by omega : 16 + n - 2 < _), more_g0 f n 48 _ (by omega) (by omega : 16 + n - 7 < _), more_g0 f n 48 _ (by omega) (by omega : 16 + n - 15 < _), more_g0 f n 48 _ (by omega) (by omega : 16 + n - 16 < _)]
/-- The ring, ahead of the t-th word. -/
structure Ring (f : List UInt32) (t : Nat) (R : List UInt32) : Prop where
  len : R.length = 16
  at_ : ∀ j, j < max t 16 → max t 16 ≤ j + 16 → g0 R (j % 16) = g0 (more f 48) j
def ringW (t : Nat) (R : List UInt32) : UInt32 := if t < 16 then g0 R t else g0 R (t % 16) + (sm1 (g0 R ((t - 2) % 16)) + g0 R ((t - 7) % 16) + sm0 (g0 R ((t - 15) % 16)))
def ringL (t : Nat) (R : List UInt32) : List UInt32 := if t < 16 then R else R.set (t % 16) (ringW t R)
theorem Ring.start (f : List UInt32) (hf : f.length = 16) : Ring f 0 f := ⟨hf, fun j h1 h2 => by
  have : max 0 16 = 16 := rfl
  rw [this] at h1
  rw [Nat.mod_eq_of_lt h1]
  exact more_g0 f 0 48 j (by omega) (by omega)⟩
theorem Ring.word {f : List UInt32} {t : Nat} {R : List UInt32} (h : Ring f t R) (hf : f.length = 16) (ht : t < 64) : ringW t R = g0 (more f 48) t := by
  unfold ringW
  split
  · rename_i h16
    have := h.at_ t (by omega) (by omega)
    rwa [Nat.mod_eq_of_lt h16] at this
  · rename_i h16
    have e0 := h.at_ (t - 16) (by omega) (by omega)
    rw [show (t - 16) % 16 = t % 16 by omega] at e0
    rw [e0, h.at_ (t - 2) (by omega) (by omega), h.at_ (t - 7) (by omega) (by omega), h.at_ (t - 15) (by omega) (by omega), more_next f hf t (by omega) ht, UInt32.add_comm]
theorem Ring.next {f : List UInt32} {t : Nat} {R : List UInt32} (h : Ring f t R) (hf : f.length = 16) (ht : t < 64) : Ring f (t + 1) (ringL t R) := by
  have hw := h.word hf ht
  unfold ringL
  split
  · rename_i h16
    refine ⟨h.len, fun j h1 h2 => h.at_ j (by omega) (by omega)⟩
  · rename_i h16
    refine ⟨by rw [List.length_set]; exact h.len, fun j h1 h2 => ?_⟩
    by_cases hj : j = t
    · subst hj
      rw [g0_set _ _ _ (by rw [h.len]; omega), hw]
    · have hne : t % 16 ≠ j % 16 := by omega
      rw [← h.at_ j (by omega) (by omega)]
      exact g0_of _ _ _ _ (by rw [List.getElem?_set_ne hne])
theorem word_c (g t : Nat) (L : List UInt32) (w : World) (hL : L.length = 16) (ht : t < 64) (D0 : Holds w g 120 (L.map wd)) :
    Calls Tryd.prog 75 #[.pointer (some ⟨g, 0, none⟩), .int .i64 (t : Int)] w fun e w' => e = .returned (wd (ringW t L)) ∧ Holds w' g 120 ((ringL t L).map wd) ∧ Mod [g] w w' := by
  unfold ringL ringW
  by_cases h : t < 16
  · rw [if_pos h, if_pos h]
    exact (word_lo g t L w hL h D0).mono fun e w' ⟨h1, h2⟩ => ⟨h1, by rw [h2]; exact D0, by rw [h2]; exact Mod.refl _ _⟩
  · rw [if_neg h, if_neg h]
    exact word_hi g t L w hL (by omega) ht D0
/-- The eight numbers, ahead of the t-th step. -/
structure Eight (h xs : List UInt32) (t : Nat) (L : List UInt32) : Prop where
  len : L.length = 8
  at_ : ∀ k, k < 8 → g0 L (plc k t) = g0 (steps h (xs.take t)) k
theorem Eight.start (h xs : List UInt32) (hh : h.length = 8) : Eight h xs 0 h := ⟨hh, fun k hk => by
  have : plc k 0 = k := by unfold plc; omega
  rw [this]; rfl⟩
theorem stepL_length (t : Nat) (x : UInt32) (L : List UInt32) : (stepL t x L).length = L.length := by unfold stepL; simp
theorem g0_set_ne (L : List UInt32) (i j : Nat) (y : UInt32) (h : i ≠ j) : g0 (L.set i y) j = g0 L j := g0_of _ _ _ _ (by rw [List.getElem?_set_ne h])
theorem Eight.next {h xs : List UInt32} {t : Nat} {L : List UInt32} (E : Eight h xs t L) (ht : t < xs.length) : Eight h xs (t + 1) (stepL t (g0 xs t) L) := by
  refine ⟨by rw [stepL_length]; exact E.len, fun k hk => ?_⟩
  have hx : xs.take (t + 1) = xs.take t ++ [g0 xs t] := by rw [List.take_succ_eq_append_getElem ht, g0_get xs t ht]
  rw [hx, steps_snoc]
  have a0 := E.at_ 0 (by omega)
  have a1 := E.at_ 1 (by omega)
  have a2 := E.at_ 2 (by omega)
  have a3 := E.at_ 3 (by omega)
  have a4 := E.at_ 4 (by omega)
  have a5 := E.at_ 5 (by omega)
  have a6 := E.at_ 6 (by omega)
  have a7 := E.at_ 7 (by omega)
  have hl := E.len
  unfold stepL
  rw [a0, a1, a2, a3, a4, a5, a6, a7]
  generalize steps h (xs.take t) = r at *
  have p : ∀ k, plc k t < 8 := fun k => by unfold plc; omega
  have h37 : plc 3 t ≠ plc 7 t := by unfold plc; omega
  obtain rfl | rfl | rfl | rfl | rfl | rfl | rfl | rfl : k = 0 ∨ k = 1 ∨ k = 2 ∨ k = 3 ∨ k = 4 ∨ k = 5 ∨ k = 6 ∨ k = 7 := by omega
  · rw [show plc 0 (t + 1) = plc 7 t by unfold plc; omega, g0_set _ _ _ (by rw [List.length_set, hl]; exact p 7)]; rfl
  · rw [show plc 1 (t + 1) = plc 0 t by unfold plc; omega, g0_set_ne _ _ _ _ (by unfold plc; omega), g0_set_ne _ _ _ _ (by unfold plc; omega), a0]; rfl
  · rw [show plc 2 (t + 1) = plc 1 t by unfold plc; omega, g0_set_ne _ _ _ _ (by unfold plc; omega), g0_set_ne _ _ _ _ (by unfold plc; omega), a1]; rfl
  · rw [show plc 3 (t + 1) = plc 2 t by unfold plc; omega, g0_set_ne _ _ _ _ (by unfold plc; omega), g0_set_ne _ _ _ _ (by unfold plc; omega), a2]; rfl
  · rw [show plc 4 (t + 1) = plc 3 t by unfold plc; omega, g0_set_ne _ _ _ _ h37.symm, g0_set _ _ _ (by rw [hl]; exact p 3)]; rfl
  · rw [show plc 5 (t + 1) = plc 4 t by unfold plc; omega, g0_set_ne _ _ _ _ (by unfold plc; omega), g0_set_ne _ _ _ _ (by unfold plc; omega), a4]; rfl
  · rw [show plc 6 (t + 1) = plc 5 t by unfold plc; omega, g0_set_ne _ _ _ _ (by unfold plc; omega), g0_set_ne _ _ _ _ (by unfold plc; omega), a5]; rfl
  · rw [show plc 7 (t + 1) = plc 6 t by unfold plc; omega, g0_set_ne _ _ _ _ (by unfold plc; omega), g0_set_ne _ _ _ _ (by unfold plc; omega), a6]; rfl
theorem sums_length (c f : List UInt32) (hc : c.length = 64) (hf : f.length = 16) : (sums c f).length = 64 := by simp [sums, more_length, hc, hf]
theorem sums_at (c f : List UInt32) (t : Nat) (hc : c.length = 64) (hf : f.length = 16) (ht : t < 64) : g0 (sums c f) t = g0 c t + g0 (more f 48) t := by
  rw [g0_get _ _ (by rw [sums_length c f hc hf]; exact ht), g0_get _ _ (by omega), g0_get _ _ (by rw [more_length]; omega)]
  simp [sums]
/-- So many of the eight are added. -/
structure Added (h r : List UInt32) (k : Nat) (H : List UInt32) : Prop where
  len : H.length = 8
  at_ : ∀ i, i < 8 → g0 H i = if i < k then g0 h i + g0 r i else g0 h i
theorem Added.start (h r : List UInt32) (hh : h.length = 8) : Added h r 0 h := ⟨hh, fun i _ => by rw [if_neg (by omega)]⟩
theorem Added.next {h r : List UInt32} {k : Nat} {H : List UInt32} (A : Added h r k H) (hk : k < 8) : Added h r (k + 1) (H.set k (g0 H k + g0 r k)) := by
  refine ⟨by rw [List.length_set]; exact A.len, fun i hi => ?_⟩
  by_cases hik : i = k
  · subst hik
    rw [g0_set _ _ _ (by rw [A.len]; exact hi), if_pos (by omega), A.at_ i hi, if_neg (by omega)]
  · rw [g0_set_ne _ _ _ _ (Ne.symm hik), A.at_ i hi]
    by_cases hlt : i < k
    · rw [if_pos hlt, if_pos (by omega)]
    · rw [if_neg hlt, if_neg (by omega)]
theorem Added.all {h r H : List UInt32} (A : Added h r 8 H) (hh : h.length = 8) (hr : r.length = 8) : H = List.zipWith (· + ·) h r := by
  apply List.ext_getElem
  · simp [A.len, hh, hr]
  · intro i h1 h2
    have := A.at_ i (by rw [← A.len]; exact h1)
    rw [if_pos (by rw [A.len] at h1; exact h1), g0_get _ _ h1, g0_get _ _ (by rw [A.len] at h1; omega), g0_get _ _ (by rw [A.len] at h1; omega)] at this
    simp [this]
end
end Go.Proofs.YtbacmeaeehhhfaaDoor
