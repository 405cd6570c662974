/-
  Contracts of the document's own answers for sha: bytes filled up. My own work.
-/
import Derived.Test.YtgojheoelcmcpaaDoorRefB
import Derived.Test.YtgojheoelcmcpaaDoorChn
namespace Go.Proofs.YtgojheoelcmcpaaDoor
open Go.RowKit
theorem lit128 (w : World) : Reads (w.alloc (.cells #[.int .u8 128] 5)) (some ⟨w.heap.size, 0, none⟩) [128] := Reads.of_holds (t := 5) (Holds.made w 5 (([128] : List UInt8).map oct))
theorem lit0 (w : World) : Reads (w.alloc (.cells #[.int .u8 0] 5)) (some ⟨w.heap.size, 0, none⟩) [0] := Reads.of_holds (t := 5) (Holds.made w 5 (([0] : List UInt8).map oct))
theorem both_n (A B : Option Addr) (l k : List UInt8) (n m c d : Nat) (hn : n = l.length) (hm : m = k.length) (w : World) (hlk : n + m ≤ 140737488355328) (h : Reads w A l) (h' : Reads w B k) :
    Calls Tryd.prog 45 #[.slice A n c, .slice B m d] w fun e w' => e = .returned (.slice (some ⟨w.heap.size, 0, none⟩) (n + m) (n + m)) ∧ Holds w' w.heap.size 5 ((l ++ k).map oct) ∧ Mod [] w w' := by
  subst hn hm
  exact both_c A B l k c d w hlk h h'
set_option maxRecDepth 100000 in
set_option maxHeartbeats 4000000 in
theorem rfill_c (A : Option Addr) (l : List UInt8) (n c : Nat) (w : World) (hn : n = l.length) (h7 : l.length ≤ 700) (R : Reads w A l) :
    Calls Tryd.prog 25 #[.slice A n c] w fun e w' => ∃ g, e = .returned (.slice (some ⟨g, 0, none⟩) (fillM l.length) (fillM l.length)) ∧ w.heap.size ≤ g ∧ Holds w' g 5 ((fillN l l.length).map oct) ∧ Mod [] w w' := by
  obtain ⟨i0, hi, hz0, hz1, hz2⟩ := info_parts u8_zero
  have hi0 := Lib.hid (And.intro hi (And.intro hz0 (And.intro hz1 hz2)))
  clear hi hz0 hz1 hz2
  have HE := Lib.hid hn
  have HR := Lib.hid (And.intro R h7)
  clear hn R
  have hn7 : (n : Int) ≤ 700 := by rw [HE.out]; omega
  clear h7
  go_enter Tryd.func25, Tryd.ntmps25
  go_wp2_with (first
    | (with_reducible refine wpList_appends (o := ⟨some 6, _, _, _, _, _⟩) _ rfl (.tmp 4) (.tmp 5) 36 rfl 5 i0 (.int .u8 0) 1 Tryd.underlying36 hi0.out.1 hi0.out.2.1 hi0.out.2.2.1 hi0.out.2.2.2 rfl w.heap.size (by simp) (some ⟨w.heap.size, 0, none⟩) 0 0 [] rfl rfl (own0 w) A n c l rfl HE.out (HR.out.1.keep (Mod.alloc [] w _) (by simp)) (by have := HR.out.2; simp; omega) (by have := HR.out.2; unfold maxLen; simp; omega) ?_; intro A1 c1 w1 O1 m1 k1)
    | (with_reducible refine wpList_appends (o := ⟨some 9, _, _, _, _, _⟩) _ rfl (.tmp 7) (.tmp 8) 36 rfl 5 i0 (.int .u8 0) 1 Tryd.underlying36 hi0.out.1 hi0.out.2.1 hi0.out.2.2.1 hi0.out.2.2.2 rfl w.heap.size (by have := m1.size; simp at this ⊢; omega) A1 l.length c1 ([] ++ l) rfl rfl (O1.keep (Mod.alloc [] w1 _) (by simp)) (some ⟨w1.heap.size, 0, none⟩) 1 1 [128] rfl rfl (lit128 w1) (by have := HR.out.2; simp; omega) (by have := HR.out.2; unfold maxLen; simp; omega) ?_; intro A2 c2 w2 O2 m2 k2))
  have n1 : Mod [] w w1 := (Mod.alloc [] w _).trans m1 (by intro i hi h; simp [blk] at h; omega)
  have n2 : Mod [] w w2 := (n1.then (Mod.alloc [] w1 _)).trans m2 (fun i hi hh => (blk_new (fun a e => (O1.fits.2.2 a e).1) hi hh).elim)
  have P2 : Owns w2 w.heap.size 5 A2 c2 (l ++ [128] ++ List.replicate 0 0) := by simpa using O2
  clear O1 O2 m1 m2 k1 k2 n1
  have hZ := fillM_le l.length
  obtain ⟨Z, hZe⟩ : ∃ Z, Z = fillM l.length - l.length - 9 := ⟨_, rfl⟩
  have hZm : (l.length + 9 + Z) % 64 = 0 ∧ Z < 64 ∧ l.length + 9 + Z = fillM l.length := by rw [hZe]; unfold fillM at *; omega
  have HZ := Lib.hid (And.intro hZe hZm)
  clear hZ hZe hZm
  go_loopw [3] (fun x v => ∃ (j T : Nat) (A' : Option Addr) (c' : Nat), x = .slice A' T c' ∧ T = l.length + 1 + j ∧ j ≤ Z ∧ Owns v w.heap.size 5 A' c' (l ++ [128] ++ List.replicate j 0) ∧ Mod [] w v) (fun x v => 800 - (match x with | .slice _ t _ => t | _ => 0))
  case atStart => exact ⟨0, l.length + 1, A2, c2, rfl, rfl, by omega, P2, n2⟩
  case round =>
    obtain ⟨j, T, A', c', rfl, hT, hj, O, mm⟩ := hrel
    clear P2 n2
    have hTi : (T : Int) ≤ 772 := by have := HR.out.2; have := HZ.out; omega
    have hlen : T = (l ++ [128] ++ List.replicate j 0).length := by simp; omega
    by_cases hlt : j < Z
    · have hz : (((T : Int) + 8) % 64 != 0) = true := by have := HZ.out; simp; omega
      have hz' : ((T : Int) + 8) % 64 ≠ 0 := by have := HZ.out; omega
      have HJ := Lib.hid (And.intro hT (And.intro hlen (And.intro O (And.intro mm hlt))))
      clear hT hlen O mm hlt hj
      go_wp2_with (with_reducible refine wpList_appends (o := ⟨some 17, _, _, _, _, _⟩) _ rfl (.tmp 15) (.tmp 16) 36 rfl 5 i0 (.int .u8 0) 1 Tryd.underlying36 hi0.out.1 hi0.out.2.1 hi0.out.2.2.1 hi0.out.2.2.2 rfl w.heap.size (by have := HJ.out.2.2.2.1.size; simp at this ⊢; omega) A' T c' (l ++ [128] ++ List.replicate j 0) rfl HJ.out.2.1 (HJ.out.2.2.1.keep (Mod.alloc [] wr _) (by simp)) (some ⟨wr.heap.size, 0, none⟩) 1 1 [0] rfl rfl (lit0 wr) (by rw [← HJ.out.2.1]; simp; omega) (by rw [← HJ.out.2.1]; unfold maxLen; simp; omega) ?_; intro A3 c3 w3 O3 m3 k3)
      have hR : l ++ [128] ++ List.replicate j 0 ++ [0] = l ++ [128] ++ List.replicate (j + 1) (0 : UInt8) := by rw [List.replicate_succ', ← List.append_assoc]
      rw [hR] at O3
      have mf : Mod [] w w3 := (HJ.out.2.2.2.1.then (Mod.alloc [] wr _)).trans m3 (fun i hi hh => (blk_new (fun a e => (HJ.out.2.2.1.fits.2.2 a e).1) hi hh).elim)
      exact ⟨⟨j + 1, l.length + (j + 1 + 1), A3, c3, rfl, by omega, by have := HJ.out.2.2.2.2; omega, O3, mf⟩, by show 800 - (l.length + (j + 1 + 1)) < 800 - T; have := HJ.out.1; omega⟩
    · obtain rfl : j = Z := by omega
      have hz : (((T : Int) + 8) % 64 != 0) = false := by have := HZ.out; simp; omega
      have hz' : ((T : Int) + 8) % 64 = 0 := by have := HZ.out; omega
      have HJ := Lib.hid (And.intro hT (And.intro hlen (And.intro O mm)))
      clear hT hlen O mm hlt hj
      have hhi : ∀ v : World, Calls Tryd.prog 46 #[.int .u64 (8 * (n : Int)), .int .i64 8] v fun e w' => ∃ A c, e = .returned (.slice A 8 c) ∧ Reads w' A (hi (8 * n) 8) ∧ Mod [] v w' := fun v => high_c (8 * n) 8 v (by omega) (by omega)
      have hne : 8 * n = len8 l.length := by rw [HE.out]; unfold len8; have := HR.out.2; omega
      rw [hne] at hhi
      have HI := Lib.hid hhi
      clear hhi hne
      go_wp2_with fail
      refine (HI.out _).mono ?_
      rintro e w3 ⟨A3, c3, rfl, R3, m3⟩
      have R4 := HJ.out.2.2.1.reads.keep m3 (by simp)
      have hbn := both_n A' A3 (l ++ [128] ++ List.replicate j 0) (hi (len8 l.length) 8) T 8 c' c3 HJ.out.2.1 (by rw [hi_length]) w3 (by omega) R4 R3
      have HN := Lib.hid hbn
      have mf := HJ.out.2.2.2.then m3
      clear R3 R4 hbn m3
      go_wp2_with fail
      refine HN.out.mono ?_
      rintro e w4 ⟨rfl, h4, m4⟩
      have hT8 : T + 8 = fillM l.length := by have := HZ.out; have := HJ.out.1; omega
      have hfn : l ++ [128] ++ List.replicate j 0 ++ hi (len8 l.length) 8 = fillN l l.length := by unfold fillN; rw [HZ.out.1]
      rw [hfn] at h4
      rw [hT8]
      have hsz := mf.size
      replace mf := mf.then m4
      clear m4 HN hT8 hfn
      go_wp2_with fail
      go_ret
      exact ⟨_, rfl, hsz, h4, mf⟩
end Go.Proofs.YtgojheoelcmcpaaDoor
