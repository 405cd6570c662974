/-
  Contracts of the document's own answers for sha: turning, pushing, choosing. My own work.
-/
import Derived.Test.YtgojheoelcmcpaaDoorEqs
namespace Go.Proofs.YtgojheoelcmcpaaDoor
open Go.RowKit
theorem rpick_c (x y z : UInt32) (w : World) :
    Calls Tryd.prog 39 #[wd x, wd y, wd z] w fun e w' => e = .returned (wd (pck x y z)) ∧ w' = w := by
  have h2 := Lib.hid (pck_walk x y z)
  go_enter Tryd.func39, Tryd.ntmps39
  go_wp2
  go_ret
  exact ⟨ret_int h2.out, rfl⟩
theorem rmst_walk (x y z : UInt32) : bits .or .u32 (bits .or .u32 (bits .and .u32 (x.toNat : Int) (y.toNat : Int)) (bits .and .u32 (y.toNat : Int) (z.toNat : Int))) (bits .and .u32 (z.toNat : Int) (x.toNat : Int)) = ((mst x y z).toNat : Int) := by
  rw [and_wd, and_wd, and_wd, or_wd, or_wd, mst_other]
theorem rmost_c (x y z : UInt32) (w : World) :
    Calls Tryd.prog 40 #[wd x, wd y, wd z] w fun e w' => e = .returned (wd (mst x y z)) ∧ w' = w := by
  have h2 := Lib.hid (rmst_walk x y z)
  go_enter Tryd.func40, Tryd.ntmps40
  go_wp2
  go_ret
  exact ⟨ret_int h2.out, rfl⟩
set_option maxRecDepth 1000000 in
set_option maxHeartbeats 1000000 in
theorem rturn_c (x : UInt32) (n : Nat) (hn : n ≤ 32) (w : World) :
    Calls Tryd.prog 38 #[wd x, .int .i64 (n : Int)] w fun e w' => e = .returned (wd (rot n x)) ∧ w' = w := by
  have hx := u32_lt x
  have HX := Lib.hid hx
  clear hx
  have hn' : (n : Int) ≤ 32 := by omega
  go_enter Tryd.func38, Tryd.ntmps38
  go_wp2_with fail
  go_loop [0, 1] (fun y i => ∃ m : Nat, m ≤ n ∧ i = .int .i64 (m : Int) ∧ y = .int .u32 (rotN (n - m) x.toNat : Int)) (fun _ i => (intOf i).toNat)
  case atStart => exact ⟨n, by omega, rfl, by simp [rotN]⟩
  case round =>
    obtain ⟨m, hm, rfl, rfl⟩ := hrel
    have hb := rotN_lt (n - m) x.toNat (by omega) HX.out
    by_cases hlt : 0 < m
    · have hnx := rot_one (n - m) (by omega) x.toNat
      have e : n - m + 1 = n - (m - 1) := by omega
      rw [e] at hnx
      obtain ⟨Y, hY⟩ : ∃ Y, Y = rotN (n - m) x.toNat := ⟨_, rfl⟩
      rw [← hY] at hb hnx ⊢
      have hb' : (Y : Int) < 4294967296 := by omega
      have hm' : (m : Int) ≤ 32 := by omega
      have HN := Lib.hid (And.intro hnx (And.intro hlt hm))
      clear hnx hb hY e hn' hm
      go_wp2_with fail
      exact ⟨⟨m - 1, by have := HN.out.2.2; omega, by rw [show ((m : Int) - 1) = ((m - 1 : Nat) : Int) by omega], by rw [← HN.out.1]; simp⟩, by simp [intOf]; omega⟩
    · obtain rfl : m = 0 := by omega
      clear hb hlt
      have hz : rotN (n - 0) x.toNat = (rot n x).toNat := by rw [rot_toNat n hn]; rfl
      have HZ := Lib.hid hz
      clear hz
      go_wp2_with fail
      go_ret
      exact ⟨ret_int (by rw [← HZ.out]; rfl), rfl⟩
set_option maxRecDepth 100000 in
set_option maxHeartbeats 1000000 in
theorem rpush_c (x : UInt32) (n : Nat) (hn : n ≤ 32) (w : World) :
    Calls Tryd.prog 61 #[wd x, .int .i64 (n : Int)] w fun e w' => e = .returned (wd (psh n x)) ∧ w' = w := by
  have HX := Lib.hid (u32_lt x)
  go_enter Tryd.func61, Tryd.ntmps61
  go_wp2_with fail
  go_loop [0, 1] (fun y i => ∃ m : Nat, m ≤ n ∧ i = .int .i64 (m : Int) ∧ y = .int .u32 ((x.toNat / 2 ^ (n - m) : Nat) : Int)) (fun _ i => (intOf i).toNat)
  case atStart => exact ⟨n, by omega, rfl, by simp⟩
  case round =>
    obtain ⟨m, hm, rfl, rfl⟩ := hrel
    have hb : x.toNat / 2 ^ (n - m) < 4294967296 := Nat.lt_of_le_of_lt (Nat.div_le_self _ _) HX.out
    by_cases hlt : 0 < m
    · have hnx : x.toNat / 2 ^ (n - m) / 2 = x.toNat / 2 ^ (n - (m - 1)) := by
        rw [show n - (m - 1) = n - m + 1 by omega, Nat.pow_succ, Nat.div_div_eq_div_mul]
      obtain ⟨Y, hY⟩ : ∃ Y, Y = x.toNat / 2 ^ (n - m) := ⟨_, rfl⟩
      rw [← hY] at hb hnx ⊢
      have hb' : (Y : Int) < 4294967296 := by omega
      have hm' : (m : Int) ≤ 32 := by omega
      have HN := Lib.hid (And.intro hnx (And.intro hlt hm))
      clear hnx hb hY hm
      go_wp2_with fail
      exact ⟨⟨m - 1, by have := HN.out.2.2; omega, by rw [show ((m : Int) - 1) = ((m - 1 : Nat) : Int) by omega], by rw [← HN.out.1]; simp⟩, by simp [intOf]; omega⟩
    · obtain rfl : m = 0 := by omega
      clear hb hlt
      have HZ := Lib.hid (psh_toNat n x)
      go_wp2_with fail
      go_ret
      exact ⟨ret_int (by rw [HZ.out]; rfl), rfl⟩
end Go.Proofs.YtgojheoelcmcpaaDoor
