/-
  The order of rows, and of numbers laid. My own work.
-/
import Derived.Test.YtheebmehapemnaaOctD
import Derived.Lib.Bytealg
import Derived.Deep.Slices
namespace Go.Proofs.Ytheebmehapemnaa
open Go.RowKit

theorem run_loads {P : Program} (w : World) : ∀ (l : List UInt8) (a : Addr) (acc : ByteArray), (∀ i (h : i < l.length), w.cell? (a.add i) = some (oct l[i])) →
    (Extern.Bytes.loadBytes a l.length acc).run P w = .ok ⟨acc.data ++ l.toArray⟩ w
  | [], a, acc, _ => by simp [Extern.Bytes.loadBytes, Sem.run_pure]
  | x :: l, a, acc, h => by
    have h0 := h 0 (by simp)
    have e0 : a.add 0 = a := by simp [Addr.add]
    rw [e0] at h0
    have ih := run_loads (P := P) w l (a.add 1) (acc.push x) (fun i hi => by
      have := h (i + 1) (by simpa using hi)
      rw [Deep.add_add, Nat.add_comm 1 i]
      simpa using this)
    simp only [List.length_cons, Extern.Bytes.loadBytes, Sem.run_bind]
    have hl : (load a).run P w = .ok (oct x) w := by simp [go_sem, h0]
    rw [hl]
    simp only [Result.andThen]
    have e1 : (UInt8.ofNat ((x.toNat : Int).toNat)) = x := by simp
    have e2 : ((x.toNat : Int).toNat.toUInt8) = x := by simp
    rw [e2, ih]
    simp [ByteArray.push]

theorem run_bytesOf {P : Program} {w : World} {A : Option Addr} {l : List UInt8} (c : Nat) (h : Reads w A l) : (Extern.Bytes.bytesOf (.slice A l.length c)).run P w = .ok ⟨l.toArray⟩ w := by
  rcases A with _ | ⟨g, o, s⟩
  · have : l = [] := by
      rcases l with _ | ⟨x, l⟩
      · rfl
      · obtain ⟨g, o, hh, _⟩ := h 0 (by simp); cases hh
    subst this
    simp [Extern.Bytes.bytesOf, Sem.run_pure]
    rfl
  · have := run_loads (P := P) w l ⟨g, o, s⟩ ByteArray.empty (fun i hi => by
      obtain ⟨g', o', hh, hc⟩ := h i hi
      injection hh with hh
      rw [hh, addr_add, hc])
    simp only [Extern.Bytes.bytesOf]
    rw [this]
    have he0 : ByteArray.empty.data = #[] := rfl
    rw [he0]
    simp

theorem compare_run {P : Program} {w : World} {A B : Option Addr} {l k : List UInt8} (c d : Nat) (h : Reads w A l) (h' : Reads w B k) :
    (Extern.BytealgCompare.compare #[.slice A l.length c, .slice B k.length d]).run P w = .ok (.int .i64 (Lib.compareBytes l k)) w := by
  change Sem.run P (do pure (goInt (Extern.BytealgCompare.cmp (← Extern.Bytes.bytesOf (.slice A l.length c)) (← Extern.Bytes.bytesOf (.slice B k.length d))))) w = _
  simp only [Sem.run_bind, run_bytesOf c h, run_bytesOf d h', Sem.run_pure, Result.andThen]
  rw [Lib.cmp_eq]
  rfl

theorem compare_c (A B : Option Addr) (l k : List UInt8) (c d : Nat) (w : World) (h : Reads w A l) (h' : Reads w B k) :
    Calls Try.prog 31 #[.slice A l.length c, .slice B k.length d] w fun e w' => e = .returned (.int .i64 (Lib.compareBytes l k)) ∧ w = w' := by
  have hr := compare_run (P := Try.prog) c d h h'
  have hx := run_callFunc_extern (P := Try.prog) Try.func42 (by kernel_rfl) (by kernel_rfl) (by kernel_rfl) (e := Extern.BytealgCompare.compare) (by kernel_rfl) #[.slice A l.length c, .slice B k.length d] w
  rw [hr] at hx
  simp only [Result.andThen] at hx
  go_enter Try.func31, Try.ntmps31
  go_wp2
  go_ret
  exact ⟨rfl, rfl⟩

/-- Which of two numbers is the greater one. -/
def ord (x y : Nat) : Int := if x < y then -1 else if y < x then 1 else 0

theorem hi_cons (x n : Nat) : hi x (n + 1) = UInt8.ofNat (x / 256 ^ n) :: hi x n := by
  unfold hi
  rw [List.range_succ_eq_map, List.map_cons, List.map_map]
  refine (List.cons_eq_cons).2 ⟨by simp, List.map_congr_left fun k _ => ?_⟩
  show UInt8.ofNat (x / 256 ^ (n + 1 - 1 - (k + 1))) = _
  rw [show n + 1 - 1 - (k + 1) = n - 1 - k from by omega]

theorem comp_hi (x y : Nat) : ∀ n, Lib.compareBytes (hi x n) (hi y n) = ord (x % 256 ^ n) (y % 256 ^ n)
  | 0 => by simp [hi, Lib.compareBytes, ord, Nat.mod_one]
  | n + 1 => by
    rw [hi_cons, hi_cons]
    unfold Lib.compareBytes
    rw [comp_hi x y n]
    have hx : x % 256 ^ (n + 1) = x % 256 ^ n + 256 ^ n * (x / 256 ^ n % 256) := by rw [Nat.pow_succ, Nat.mod_mul]
    have hy : y % 256 ^ (n + 1) = y % 256 ^ n + 256 ^ n * (y / 256 ^ n % 256) := by rw [Nat.pow_succ, Nat.mod_mul]
    have bx : x % 256 ^ n < 256 ^ n := Nat.mod_lt _ (Nat.pow_pos (by omega))
    have hb : y % 256 ^ n < 256 ^ n := Nat.mod_lt _ (Nat.pow_pos (by omega))
    have lt_iff : ∀ a b : Nat, (UInt8.ofNat a < UInt8.ofNat b) ↔ a % 256 < b % 256 := fun a b => by
      rw [UInt8.lt_iff_toNat_lt, UInt8.toNat_ofNat', UInt8.toNat_ofNat']
    rw [hx, hy]
    simp only [lt_iff]
    generalize x / 256 ^ n % 256 = p
    generalize y / 256 ^ n % 256 = q
    generalize x % 256 ^ n = r at *
    generalize y % 256 ^ n = s at *
    generalize 256 ^ n = m at *
    unfold ord
    rcases Nat.lt_trichotomy p q with h | h | h
    · have h2 : m * p + m ≤ m * q := by rw [← Nat.mul_succ]; exact Nat.mul_le_mul_left m h
      rw [if_pos h, if_pos (by omega)]
    · subst h
      rw [if_neg (Nat.lt_irrefl _), if_neg (Nat.lt_irrefl _)]
      by_cases h1 : r < s
      · rw [if_pos h1, if_pos (by omega)]
      · by_cases h2 : s < r
        · rw [if_neg h1, if_pos h2, if_neg (by omega), if_pos (by omega)]
        · rw [if_neg h1, if_neg h2, if_neg (by omega), if_neg (by omega)]
    · have h2 : m * q + m ≤ m * p := by rw [← Nat.mul_succ]; exact Nat.mul_le_mul_left m h
      rw [if_neg (by omega), if_pos h, if_neg (by omega), if_pos (by omega)]

theorem ord_c (x y : Int) (w : World) (hx : 0 ≤ x) (hy : 0 ≤ y) : Calls Try.prog 30 #[.int .u64 x, .int .u64 y] w fun e w' => e = .returned (.int .i64 (ord x.toNat y.toNat)) ∧ w = w' := by
  rcases Int.lt_trichotomy x y with h | h | h
  · have hr : ord x.toNat y.toNat = -1 := by unfold ord; rw [if_pos (by omega)]
    rw [hr]
    clear hr
    have : ¬ y ≤ x := by omega
    go_enter Try.func30, Try.ntmps30
    go_wp2
    go_ret
    exact ⟨rfl, rfl⟩
  · subst h
    have hr : ord x.toNat x.toNat = 0 := by unfold ord; rw [if_neg (Nat.lt_irrefl _), if_neg (Nat.lt_irrefl _)]
    rw [hr]
    clear hr
    go_enter Try.func30, Try.ntmps30
    go_wp2
    go_ret
    exact ⟨rfl, rfl⟩
  · have hr : ord x.toNat y.toNat = 1 := by unfold ord; rw [if_neg (by omega), if_pos (by omega)]
    rw [hr]
    clear hr
    have : ¬ x < y := by omega
    go_enter Try.func30, Try.ntmps30
    go_wp2
    go_ret
    exact ⟨rfl, rfl⟩

theorem comp_at (g1 g2 n : Nat) (x y : Nat) (o : Int) (w : World) (h : Holds w g1 5 (([] ++ hi x n).map oct)) (h' : Holds w g2 5 (([] ++ hi y n).map oct)) (ho : ord (x % 256 ^ n) (y % 256 ^ n) = o) :
    Calls Try.prog 31 #[.slice (some ⟨g1, 0, none⟩) n n, .slice (some ⟨g2, 0, none⟩) n n] w fun e w' => e = .returned (.int .i64 o) ∧ w = w' := by
  have := compare_c (some ⟨g1, 0, none⟩) (some ⟨g2, 0, none⟩) (hi x n) (hi y n) n n w (Reads.of_holds h) (Reads.of_holds h')
  rwa [hi_length, hi_length, comp_hi, ho] at this
theorem ord_at (x y o : Int) (w : World) (hx : 0 ≤ x) (hy : 0 ≤ y) (ho : ord x.toNat y.toNat = o) : Calls Try.prog 30 #[.int .u64 x, .int .u64 y] w fun e w' => e = .returned (.int .i64 o) ∧ w = w' := by
  have := ord_c x y w hx hy
  rwa [ho] at this
theorem put32_i (x : Int) (w : World) (h0 : 0 ≤ x) (h1 : x < 4294967296) : Calls Try.prog 13 #[.slice none 0 0, .int .u32 x] w fun e w' => e = .returned (.slice (some ⟨w.heap.size, 0, none⟩) 4 4) ∧ Holds w' w.heap.size 5 (([] ++ hi x.toNat 4).map oct) ∧ Mod [] w w' := by
  obtain ⟨n, rfl⟩ := Int.eq_ofNat_of_zero_le h0
  exact put32_c none [] 0 n w (by simp) (Reads.nil _ _) (by omega)
theorem put16_i (x : Int) (w : World) (h0 : 0 ≤ x) (h1 : x < 65536) : Calls Try.prog 12 #[.slice none 0 0, .int .u16 x] w fun e w' => e = .returned (.slice (some ⟨w.heap.size, 0, none⟩) 2 2) ∧ Holds w' w.heap.size 5 (([] ++ hi x.toNat 2).map oct) ∧ Mod [] w w' := by
  obtain ⟨n, rfl⟩ := Int.eq_ofNat_of_zero_le h0
  exact put16_c none [] 0 n w (by simp) (Reads.nil _ _) (by omega)
theorem put64_i (x : Int) (w : World) (h0 : 0 ≤ x) (h1 : x < 18446744073709551616) : Calls Try.prog 14 #[.slice none 0 0, .int .u64 x] w fun e w' => e = .returned (.slice (some ⟨w.heap.size, 0, none⟩) 8 8) ∧ Holds w' w.heap.size 5 (([] ++ hi x.toNat 8).map oct) ∧ Mod [] w w' := by
  obtain ⟨n, rfl⟩ := Int.eq_ofNat_of_zero_le h0
  exact put64_c none [] 0 n w (by simp) (Reads.nil _ _) (by omega)

theorem orders_c (x : Int) (wx : (Lit.int .u64 x).wf = true) (y : Int) (wy : (Lit.int .u64 y).wf = true) (w : World) : Calls Try.prog 9 #[.int .u64 x, .int .u64 y] w fun e w' => e = .returned (.bool true) ∧ Mod [] w w' := by
  have hx : 0 ≤ x ∧ x < 18446744073709551616 := by simp [Lit.wf, IntKind.min, IntKind.max, IntKind.signed, IntKind.bits] at wx; omega
  have hy : 0 ≤ y ∧ y < 18446744073709551616 := by simp [Lit.wf, IntKind.min, IntKind.max, IntKind.signed, IntKind.bits] at wy; omega
  clear wx wy
  obtain ⟨hx0, hx1⟩ := hx
  obtain ⟨hy0, hy1⟩ := hy
  obtain ⟨o8, ho8⟩ : ∃ o, ord x.toNat y.toNat = o := ⟨_, rfl⟩
  obtain ⟨o4, ho4⟩ : ∃ o, ord (x % 4294967296).toNat (y % 4294967296).toNat = o := ⟨_, rfl⟩
  obtain ⟨o2, ho2⟩ : ∃ o, ord (x % 65536).toNat (y % 65536).toNat = o := ⟨_, rfl⟩
  have H8 : Hid (ord (x.toNat % 256 ^ 8) (y.toNat % 256 ^ 8) = o8) := by
    show _ = _
    rw [← ho8, Nat.mod_eq_of_lt (by omega), Nat.mod_eq_of_lt (by omega)]
  have H4 : Hid (ord ((x % 4294967296).toNat % 256 ^ 4) ((y % 4294967296).toNat % 256 ^ 4) = o4) := by
    show _ = _
    rw [← ho4, Nat.mod_eq_of_lt (by omega), Nat.mod_eq_of_lt (by omega)]
  have H2 : Hid (ord ((x % 65536).toNat % 256 ^ 2) ((y % 65536).toNat % 256 ^ 2) = o2) := by
    show _ = _
    rw [← ho2, Nat.mod_eq_of_lt (by omega), Nat.mod_eq_of_lt (by omega)]
  have K8 := Lib.hid ho8
  have K4 := Lib.hid ho4
  have K2 := Lib.hid ho2
  clear ho8 ho4 ho2
  have b1 : 0 ≤ x % 4294967296 := by omega
  have b2 : x % 4294967296 < 4294967296 := by omega
  have b3 : 0 ≤ y % 4294967296 := by omega
  have b4 : y % 4294967296 < 4294967296 := by omega
  have b5 : 0 ≤ x % 65536 := by omega
  have b6 : x % 65536 < 65536 := by omega
  have b7 : 0 ≤ y % 65536 := by omega
  have b8 : y % 65536 < 65536 := by omega
  go_enter Try.func9, Try.ntmps9
  go_wp2_with fail
  refine (wakes_c _).mono ?_
  rintro e w1 ⟨rfl, m1⟩
  go_wp2_with fail
  refine (put64_i x _ (by omega) (by omega)).mono ?_
  rintro e w2 ⟨rfl, h, n1⟩
  go_wp2_with fail
  refine (put64_i y _ (by omega) (by omega)).mono ?_
  rintro e w3 ⟨rfl, h', n2⟩
  go_wp2_with fail
  refine (comp_at _ _ 8 _ _ _ _ (h.keep n2 (by simp)) h' H8.out).mono ?_
  rintro e v ⟨rfl, rfl⟩
  replace m1 := (m1.then n1).then n2
  clear n1 n2 h h'
  go_wp2_with fail
  refine (put32_i (x % 4294967296) _ (by omega) (by omega)).mono ?_
  rintro e w4 ⟨rfl, h, n1⟩
  go_wp2_with fail
  refine (put32_i (y % 4294967296) _ (by omega) (by omega)).mono ?_
  rintro e w5 ⟨rfl, h', n2⟩
  go_wp2_with fail
  refine (comp_at _ _ 4 _ _ _ _ (h.keep n2 (by simp)) h' H4.out).mono ?_
  rintro e v ⟨rfl, rfl⟩
  replace m1 := (m1.then n1).then n2
  clear n1 n2 h h'
  go_wp2_with fail
  refine (put16_i (x % 65536) _ (by omega) (by omega)).mono ?_
  rintro e w6 ⟨rfl, h, n1⟩
  go_wp2_with fail
  refine (put16_i (y % 65536) _ (by omega) (by omega)).mono ?_
  rintro e w7 ⟨rfl, h', n2⟩
  go_wp2_with fail
  refine (comp_at _ _ 2 _ _ _ _ (h.keep n2 (by simp)) h' H2.out).mono ?_
  rintro e v ⟨rfl, rfl⟩
  replace m1 := (m1.then n1).then n2
  clear n1 n2 h h'
  go_wp2_with fail
  refine (ord_at x y _ _ (by omega) (by omega) K8.out).mono ?_
  rintro e v ⟨rfl, rfl⟩
  go_wp2_with fail
  refine (ord_at (x % 4294967296) (y % 4294967296) _ _ (by omega) (by omega) K4.out).mono ?_
  rintro e v ⟨rfl, rfl⟩
  go_wp2_with fail
  refine (ord_at (x % 65536) (y % 65536) _ _ (by omega) (by omega) K2.out).mono ?_
  rintro e v ⟨rfl, rfl⟩
  go_wp2_with fail
  go_ret
  exact ⟨rfl, m1⟩

end Go.Proofs.Ytheebmehapemnaa
