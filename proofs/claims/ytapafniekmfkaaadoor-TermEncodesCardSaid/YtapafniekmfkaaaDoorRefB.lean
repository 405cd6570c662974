/-
  Contracts of the document's own answers for octet, second part: numbers in bytes. My own work.
-/
import Derived.Test.YtapafniekmfkaaaDoorRefA
import Derived.Test.YtapafniekmfkaaaDoorApp
namespace Go.Proofs.YtapafniekmfkaaaDoor
open Go.RowKit

theorem byte_c (x wd k : Nat) (w : World) (hx : x < 18446744073709551616) (hk : k < wd) (hw : wd ≤ 8) :
    Calls Tryd.prog 85 #[.int .u64 (x : Int), .int .i64 (wd : Int), .int .i64 (k : Int)] w fun e w' => e = .returned (oct ((hi x wd)[k]'(by rw [hi_length]; exact hk))) ∧ w = w' := by
  have hat := hi_at x wd k (by rw [hi_length]; exact hk)
  have hfin : (((x / 256 ^ (wd - 1 - k) : Nat) : Int) % 256) = (((hi x wd)[k]'(by rw [hi_length]; exact hk)).toNat : Int) := by
    rw [hat, UInt8.toNat_ofNat']
    rfl
  have HF := Lib.hid hfin
  clear hfin hat
  go_enter Tryd.func85, Tryd.ntmps85
  go_wp2
  go_loop [0, 2] (fun y i => ∃ j : Nat, k + j ≤ wd - 1 ∧ i = .int .i64 ((k + j : Nat) : Int) ∧ ∃ z : Nat, z < 18446744073709551616 ∧ y = .int .u64 (z : Int) ∧ Hid (z = x / 256 ^ j)) (fun _ i => wd - (intOf i).toNat)
  case atStart => exact ⟨0, by omega, rfl, x, hx, rfl, by show x = _; simp⟩
  case round =>
    obtain ⟨j, hj, rfl, z, hz, rfl, hzj⟩ := hrel
    by_cases hlt : k + j < wd - 1
    · have hlt' : (k : Int) + (j : Int) < (wd : Int) - 1 := by omega
      have hN : Hid (z / 256 = x / 256 ^ (j + 1)) := by
        show _ = _
        rw [hzj.out, Nat.div_div_eq_div_mul, Nat.pow_succ]
      go_wp2
      exact ⟨⟨j + 1, by omega, by go_num, z / 256, by omega, by simp, hN⟩, by simp [intOf]; omega⟩
    · have hlt' : ¬ (k : Int) + (j : Int) < (wd : Int) - 1 := by omega
      have ej : j = wd - 1 - k := by omega
      have HZ : Hid (((z : Int) % 256) = (((hi x wd)[k]'(by rw [hi_length]; exact hk)).toNat : Int)) := by
        show _ = _
        rw [← HF.out, hzj.out, ej]
      clear ej
      go_wp2
      go_ret
      exact ⟨congrArg (fun n => Ending.returned (.int .u8 n)) HZ.out, rfl⟩

theorem blk_new {A : Option Addr} {B i : Nat} (h : ∀ a, A = some a → B ≤ a.block) (hi : i < B) (hm : i ∈ blk A) : False := by
  rcases A with _ | a
  · simp [blk] at hm
  · simp [blk] at hm
    have := h a rfl
    omega

theorem high_c (x wd : Nat) (w : World) (hx : x < 18446744073709551616) (hw : wd ≤ 8) :
    Calls Tryd.prog 59 #[.int .u64 (x : Int), .int .i64 (wd : Int)] w fun e w' => ∃ A c, e = .returned (.slice A wd c) ∧ Reads w' A (hi x wd) ∧ Mod [] w w' := by
  obtain ⟨i0, hi0, hz0, hz1, hz2⟩ := info_parts u8_zero
  go_enter Tryd.func59, Tryd.ntmps59
  go_wp2
  go_loopw [5, 6] (fun v i wr => ∃ j : Nat, j ≤ wd ∧ i = .int .i64 (j : Int) ∧ ∃ A c, v = .slice A j c ∧ Owns wr w.heap.size 5 A c ((hi x wd).take j) ∧ Mod [] w wr) (fun _ i _ => wd - (intOf i).toNat)
  case atStart => exact ⟨0, by omega, rfl, none, 0, rfl, Owns.nil _ _ _, Mod.refl _ _⟩
  case round =>
    obtain ⟨j, hj, rfl, A, c, rfl, hO, hm⟩ := hrel
    have hjl : ((hi x wd).take j).length = j := by simp [hi_length]; omega
    by_cases hlt : j < wd
    · have ht := take_next (hi x wd) j (by rw [hi_length]; exact hlt)
      have hln : ((hi x wd).take (j + 1)).length = j + 1 := by simp [hi_length]; omega
      have H := Lib.hid (And.intro hjl (And.intro ht hln))
      clear hjl ht hln
      have hs := hm.size
      have hofs := hO.fits.2.2
      go_wp2_with fail
      refine (byte_c x wd j _ hx hlt hw).mono ?_
      rintro e w1 ⟨rfl, rfl⟩
      generalize hy : (hi x wd)[j]'(by rw [hi_length]; exact hlt) = y at *
      clear hy
      have hA := hO.keep (Mod.alloc [] wr (.cells #[oct y] 5)) (by simp)
      have hN : Holds (wr.alloc (.cells #[oct y] 5)) wr.heap.size 5 [oct y] := Holds.made _ _ _
      go_wp2_with (at_builtin; refine wpList_appends _ rfl (.tmp 12) (.tmp 17) 27 rfl 5 i0 (.int .u8 0) 1 Tryd.underlying27 hi0 hz0 hz1 hz2 rfl w.heap.size (by simp; omega) _ _ _ ((hi x wd).take j) rfl H.out.1.symm hA _ _ _ [y] rfl rfl (Reads.of_holds hN) (by rw [H.out.1]; simp; omega) (by rw [H.out.1]; unfold maxLen; simp; omega) ?_; intro A1 c1 w7 hO7 m7 hA7)
      rw [← H.out.2.1] at hO7
      have hm7 : Mod [] w w7 := (hm.then (Mod.alloc [] wr (.cells #[oct y] 5))).trans m7 (fun i hi hh => (blk_new (fun a e => (hofs a e).1) hi hh).elim)
      exact ⟨⟨j + 1, by omega, by go_num, A1, c1, by rw [hi_length, Nat.min_eq_left hj], hO7, hm7⟩, by simp [intOf]; omega⟩
    · obtain rfl : j = wd := by omega
      rw [List.take_of_length_le (by rw [hi_length]; omega)] at hO
      have hR := hO.reads
      go_wp2
      go_ret
      exact ⟨A, c, rfl, hR, hm⟩
end Go.Proofs.YtapafniekmfkaaaDoor
