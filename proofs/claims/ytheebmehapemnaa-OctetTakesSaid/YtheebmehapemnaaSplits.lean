/-
  To take n off, and then m: the walk. My own work.
-/
import Derived.Test.YtheebmehapemnaaRefA
import Derived.Test.YtheebmehapemnaaApp
import Derived.SizedLaws
namespace Go.Proofs.Ytheebmehapemnaa
open Go.RowKit

/-- What a taking that fails tells: nothing; the rest stays. -/
def RawNo (g b : Nat) (l : List UInt8) (er : Int) (w : World) (e : Ending) (w' : World) : Prop :=
  ∃ A c, e = .returned (.slice A 0 c) ∧ Rdr w' g b l er ∧ Mod [g] w w'
theorem raw_no (g b : Nat) (l : List UInt8) (er n er' : Int) (w : World) (h : Rdr w g b l er) (h1 : offGot l er n = []) (h2 : offRest l er n = l) (h3 : offErr l er n = er') :
    Calls Try.prog 24 #[.pointer (some ⟨g, 0, none⟩), .int .i64 n] w (RawNo g b l er' w) := by
  refine (raw_c g b l er n w h).mono ?_
  rintro e w1 ⟨A, c, rfl, _, _, _, _, hR, hm⟩
  rw [h1, h2, h3] at *
  exact ⟨A, c, rfl, hR, hm⟩
theorem raw_neg (g b : Nat) (l : List UInt8) (n : Int) (w : World) (h : Rdr w g b l 0) (hn : n < 0) : Calls Try.prog 24 #[.pointer (some ⟨g, 0, none⟩), .int .i64 n] w (RawNo g b l 2 w) :=
  raw_no g b l 0 n 2 w h (by unfold offGot; rw [if_neg (by omega)]) (by unfold offRest; rw [if_neg (by omega)]) (by unfold offErr; rw [if_pos rfl, if_pos hn])
theorem raw_long (g b : Nat) (l : List UInt8) (n : Int) (w : World) (h : Rdr w g b l 0) (hn : (l.length : Int) < n) : Calls Try.prog 24 #[.pointer (some ⟨g, 0, none⟩), .int .i64 n] w (RawNo g b l 7 w) :=
  raw_no g b l 0 n 7 w h (by unfold offGot; rw [if_neg (by omega)]) (by unfold offRest; rw [if_neg (by omega)]) (by unfold offErr; rw [if_pos rfl, if_neg (by omega), if_pos hn])
theorem raw_err (g b : Nat) (l : List UInt8) (er n : Int) (w : World) (h : Rdr w g b l er) (he : er ≠ 0) : Calls Try.prog 24 #[.pointer (some ⟨g, 0, none⟩), .int .i64 n] w (RawNo g b l er w) :=
  raw_no g b l er n er w h (by unfold offGot; rw [if_neg (by omega)]) (by unfold offRest; rw [if_neg (by omega)]) (by unfold offErr; rw [if_neg he])
/-- What a taking that goes well tells: the bytes, in a new block. -/
def RawYes (g b : Nat) (l1 l2 : List UInt8) (k : Nat) (w : World) (e : Ending) (w' : World) : Prop :=
  ∃ d, e = .returned (.slice (some ⟨d, 0, none⟩) k k) ∧ w.heap.size ≤ d ∧ Holds w' d 5 (l1.map oct) ∧ Rdr w' g b l2 0 ∧ Mod [g] w w'
theorem raw_yes (g b : Nat) (l : List UInt8) (k : Nat) (w : World) (h : Rdr w g b l 0) (hkl : k ≤ l.length) (l1 l2 : List UInt8) (e1 : l.take k = l1) (e2 : l.drop k = l2) :
    Calls Try.prog 24 #[.pointer (some ⟨g, 0, none⟩), .int .i64 (k : Int)] w (RawYes g b l1 l2 k w) := by
  subst e1 e2
  obtain ⟨hg, hb, hne⟩ := h.lt
  have hlen : l.length ≤ 140737488355328 := by obtain ⟨_, o, c, h1, h2, _⟩ := h; omega
  have hw0 : Holds (w.alloc (.cells #[.slice none 0 0] 22)) w.heap.size 22 [.slice none 0 0] := Holds.made _ _ _
  have hr0 := h.keep (Mod.alloc [] w (.cells #[.slice none 0 0] 22)) (by simp) (by simp)
  go_enter Try.func24, Try.ntmps24
  go_wp2_with fail
  refine (off_ok g b l k 40 _ _ hr0 hkl (fun v v' => ∃ d, v.heap.size ≤ d ∧ Holds v' w.heap.size 22 [.slice (some ⟨d, 0, none⟩) (l.take k).length (l.take k).length] ∧ Holds v' d 5 ((l.take k).map oct) ∧ Mod [w.heap.size] v v') call40 ?_).mono ?_
  · intro v o c hr hR hm
    exact raw1_c b o k c w.heap.size (l.take k) v (by simp; omega) (by simp; omega) hr _ (hw0.keep hm (by simp; omega))
  · rintro e w2 ⟨rfl, v, hR, hm, d, hd, hh, hhd, hm2⟩
    have hc := hh.cell 0
    simp at hc
    go_wp2
    go_ret
    have hs := hm.size
    simp at hs
    refine ⟨d, by simp, by omega, hhd, hR.keep hm2 (by simp; omega) (by simp; omega), (Mod.pre (Mod.alloc [] w _) hm).trans hm2 (by simp; omega)⟩

theorem u8_err (g b : Nat) (l : List UInt8) (er : Int) (w : World) (h : Rdr w g b l er) (he : er ≠ 0) : Calls Try.prog 25 #[.pointer (some ⟨g, 0, none⟩)] w fun e w' => e = .returned (.int .u8 0) ∧ Rdr w' g b l er ∧ Mod [g] w w' := by
  refine (u8_c g b l er w h).mono ?_
  rintro e w1 ⟨rfl, h1, h2⟩
  rw [show offRest l er ((1 : Nat) : Int) = l from by unfold offRest; rw [if_neg (by omega)], show offErr l er ((1 : Nat) : Int) = er from by unfold offErr; rw [if_neg he]] at h1
  exact ⟨by unfold offNum; rw [if_neg he]; rfl, h1, h2⟩
theorem u64_err (g b : Nat) (l : List UInt8) (er : Int) (w : World) (h : Rdr w g b l er) (he : er ≠ 0) : Calls Try.prog 28 #[.pointer (some ⟨g, 0, none⟩)] w fun e w' => e = .returned (.int .u64 0) ∧ Rdr w' g b l er ∧ Mod [g] w w' := by
  refine (u64_c g b l er w h).mono ?_
  rintro e w1 ⟨rfl, h1, h2⟩
  rw [show offRest l er ((8 : Nat) : Int) = l from by unfold offRest; rw [if_neg (by omega)], show offErr l er ((8 : Nat) : Int) = er from by unfold offErr; rw [if_neg he]] at h1
  exact ⟨by unfold offNum; rw [if_neg he]; rfl, h1, h2⟩

set_option maxHeartbeats 1000000 in
theorem splits_1 (A : Option Addr) (l L : List UInt8) (c : Nat) (n m : Int) (w : World) (hlc : l.length ≤ c) (hcm : c ≤ maxLen) (h : Reads w A L) (HL : Hid (L.length = min 400 l.length)) (hn : n < 0) :
    Calls Try.prog 8 #[.slice A l.length c, .int .i64 n, .int .i64 m] w fun e w' => e = .returned (.bool true) ∧ Mod [] w w' := by
  unfold maxLen at hcm
  have hL := HL.out
  have hL4 : L.length ≤ 400 := by omega
  by_cases h4 : l.length ≤ 400
  · skip
    have hq : (L.length != l.length) = false := by rw [bne_eq_false_iff_eq]; omega
    have hq' : ((L.length : Int) != (l.length : Int)) = false := by rw [bne_eq_false_iff_eq]; omega
    clear hL
    go_enter Try.func8, Try.ntmps8
    go_wp2_with fail
    refine (wakes_c _).mono ?_
    rintro e w1 ⟨rfl, m1⟩
    go_wp2_with fail
    refine (read_n A L _ _ _ (by rw [HL.out]; omega) (by omega) (h.keep m1 (by simp))).mono ?_
    rintro e w2 ⟨g, b, rfl, hg, hb, hR, m2⟩
    have hs1 := m1.size
    replace m1 := m1.then m2
    clear m2
    go_wp2_with fail
    refine (raw_neg g b L n _ hR (by omega)).mono ?_
    rintro e w3 ⟨A1, c1, rfl, hR, m2⟩
    replace m1 := m1.trans (m2.wk (ns := [g]) (fun _ _ h => h)) (by simp; omega)
    clear m2
    go_wp2_with fail
    refine (raw_err g b L 2 _ _ hR (by omega)).mono ?_
    rintro e w3 ⟨A2, c2, rfl, hR, m2⟩
    replace m1 := m1.trans (m2.wk (ns := [g]) (fun _ _ h => h)) (by simp; omega)
    clear m2
    go_wp2_with fail
    refine (left_c g b L 2 _ hR).mono ?_
    rintro e w3 ⟨rfl, rfl⟩
    go_wp2_with fail
    refine (err_c g b L 2 _ hR).mono ?_
    rintro e w3 ⟨rfl, rfl⟩
    go_wp2_with fail
    refine (raw_err g b L 2 _ _ hR (by omega)).mono ?_
    rintro e w3 ⟨A3, c3, rfl, hR, m2⟩
    replace m1 := m1.trans (m2.wk (ns := [g]) (fun _ _ h => h)) (by simp; omega)
    clear m2
    go_wp2_with fail
    refine (u8_err g b L 2 _ hR (by omega)).mono ?_
    rintro e w3 ⟨rfl, hR, m2⟩
    replace m1 := m1.trans (m2.wk (ns := [g]) (fun _ _ h => h)) (by simp; omega)
    clear m2
    go_wp2_with fail
    refine (u64_err g b L 2 _ hR (by omega)).mono ?_
    rintro e w3 ⟨rfl, hR, m2⟩
    replace m1 := m1.trans (m2.wk (ns := [g]) (fun _ _ h => h)) (by simp; omega)
    clear m2
    go_wp2_with fail
    refine (left_c g b L 2 _ hR).mono ?_
    rintro e w3 ⟨rfl, rfl⟩
    go_wp2_with fail
    refine (err_c g b L 2 _ hR).mono ?_
    rintro e w3 ⟨rfl, rfl⟩
    go_wp2_with fail
    go_ret
    exact ⟨rfl, m1⟩
  · have h5 : (400 : Int) < (l.length : Int) := by omega
    have hq : (L.length != 400) = false := by rw [bne_eq_false_iff_eq]; omega
    have hq' : ((L.length : Int) != (400 : Int)) = false := by rw [bne_eq_false_iff_eq]; omega
    clear hL
    go_enter Try.func8, Try.ntmps8
    go_wp2_with fail
    refine (wakes_c _).mono ?_
    rintro e w1 ⟨rfl, m1⟩
    go_wp2_with fail
    refine (read_n A L _ _ _ (by rw [HL.out]; omega) (by omega) (h.keep m1 (by simp))).mono ?_
    rintro e w2 ⟨g, b, rfl, hg, hb, hR, m2⟩
    have hs1 := m1.size
    replace m1 := m1.then m2
    clear m2
    go_wp2_with fail
    refine (raw_neg g b L n _ hR (by omega)).mono ?_
    rintro e w3 ⟨A1, c1, rfl, hR, m2⟩
    replace m1 := m1.trans (m2.wk (ns := [g]) (fun _ _ h => h)) (by simp; omega)
    clear m2
    go_wp2_with fail
    refine (raw_err g b L 2 _ _ hR (by omega)).mono ?_
    rintro e w3 ⟨A2, c2, rfl, hR, m2⟩
    replace m1 := m1.trans (m2.wk (ns := [g]) (fun _ _ h => h)) (by simp; omega)
    clear m2
    go_wp2_with fail
    refine (left_c g b L 2 _ hR).mono ?_
    rintro e w3 ⟨rfl, rfl⟩
    go_wp2_with fail
    refine (err_c g b L 2 _ hR).mono ?_
    rintro e w3 ⟨rfl, rfl⟩
    go_wp2_with fail
    refine (raw_err g b L 2 _ _ hR (by omega)).mono ?_
    rintro e w3 ⟨A3, c3, rfl, hR, m2⟩
    replace m1 := m1.trans (m2.wk (ns := [g]) (fun _ _ h => h)) (by simp; omega)
    clear m2
    go_wp2_with fail
    refine (u8_err g b L 2 _ hR (by omega)).mono ?_
    rintro e w3 ⟨rfl, hR, m2⟩
    replace m1 := m1.trans (m2.wk (ns := [g]) (fun _ _ h => h)) (by simp; omega)
    clear m2
    go_wp2_with fail
    refine (u64_err g b L 2 _ hR (by omega)).mono ?_
    rintro e w3 ⟨rfl, hR, m2⟩
    replace m1 := m1.trans (m2.wk (ns := [g]) (fun _ _ h => h)) (by simp; omega)
    clear m2
    go_wp2_with fail
    refine (left_c g b L 2 _ hR).mono ?_
    rintro e w3 ⟨rfl, rfl⟩
    go_wp2_with fail
    refine (err_c g b L 2 _ hR).mono ?_
    rintro e w3 ⟨rfl, rfl⟩
    go_wp2_with fail
    go_ret
    exact ⟨rfl, m1⟩

set_option maxHeartbeats 1000000 in
theorem splits_2 (A : Option Addr) (l L : List UInt8) (c : Nat) (n m : Int) (w : World) (hlc : l.length ≤ c) (hcm : c ≤ maxLen) (h : Reads w A L) (HL : Hid (L.length = min 400 l.length)) (hn : (L.length : Int) < n) :
    Calls Try.prog 8 #[.slice A l.length c, .int .i64 n, .int .i64 m] w fun e w' => e = .returned (.bool true) ∧ Mod [] w w' := by
  unfold maxLen at hcm
  have hL := HL.out
  have hL4 : L.length ≤ 400 := by omega
  by_cases h4 : l.length ≤ 400
  · skip
    have hq : (L.length != l.length) = false := by rw [bne_eq_false_iff_eq]; omega
    have hq' : ((L.length : Int) != (l.length : Int)) = false := by rw [bne_eq_false_iff_eq]; omega
    have hn0 : ¬ n < 0 := by omega
    have hn1 : (l.length : Int) < n := by omega
    clear hL
    go_enter Try.func8, Try.ntmps8
    go_wp2_with fail
    refine (wakes_c _).mono ?_
    rintro e w1 ⟨rfl, m1⟩
    go_wp2_with fail
    refine (read_n A L _ _ _ (by rw [HL.out]; omega) (by omega) (h.keep m1 (by simp))).mono ?_
    rintro e w2 ⟨g, b, rfl, hg, hb, hR, m2⟩
    have hs1 := m1.size
    replace m1 := m1.then m2
    clear m2
    go_wp2_with fail
    refine (raw_long g b L n _ hR (by omega)).mono ?_
    rintro e w3 ⟨A1, c1, rfl, hR, m2⟩
    replace m1 := m1.trans (m2.wk (ns := [g]) (fun _ _ h => h)) (by simp; omega)
    clear m2
    go_wp2_with fail
    refine (raw_err g b L 7 _ _ hR (by omega)).mono ?_
    rintro e w3 ⟨A2, c2, rfl, hR, m2⟩
    replace m1 := m1.trans (m2.wk (ns := [g]) (fun _ _ h => h)) (by simp; omega)
    clear m2
    go_wp2_with fail
    refine (left_c g b L 7 _ hR).mono ?_
    rintro e w3 ⟨rfl, rfl⟩
    go_wp2_with fail
    refine (err_c g b L 7 _ hR).mono ?_
    rintro e w3 ⟨rfl, rfl⟩
    go_wp2_with fail
    refine (raw_err g b L 7 _ _ hR (by omega)).mono ?_
    rintro e w3 ⟨A3, c3, rfl, hR, m2⟩
    replace m1 := m1.trans (m2.wk (ns := [g]) (fun _ _ h => h)) (by simp; omega)
    clear m2
    go_wp2_with fail
    refine (u8_err g b L 7 _ hR (by omega)).mono ?_
    rintro e w3 ⟨rfl, hR, m2⟩
    replace m1 := m1.trans (m2.wk (ns := [g]) (fun _ _ h => h)) (by simp; omega)
    clear m2
    go_wp2_with fail
    refine (u64_err g b L 7 _ hR (by omega)).mono ?_
    rintro e w3 ⟨rfl, hR, m2⟩
    replace m1 := m1.trans (m2.wk (ns := [g]) (fun _ _ h => h)) (by simp; omega)
    clear m2
    go_wp2_with fail
    refine (left_c g b L 7 _ hR).mono ?_
    rintro e w3 ⟨rfl, rfl⟩
    go_wp2_with fail
    refine (err_c g b L 7 _ hR).mono ?_
    rintro e w3 ⟨rfl, rfl⟩
    go_wp2_with fail
    go_ret
    exact ⟨rfl, m1⟩
  · have h5 : (400 : Int) < (l.length : Int) := by omega
    have hq : (L.length != 400) = false := by rw [bne_eq_false_iff_eq]; omega
    have hq' : ((L.length : Int) != (400 : Int)) = false := by rw [bne_eq_false_iff_eq]; omega
    have hn0 : ¬ n < 0 := by omega
    have hn1 : (400 : Int) < n := by omega
    clear hL
    go_enter Try.func8, Try.ntmps8
    go_wp2_with fail
    refine (wakes_c _).mono ?_
    rintro e w1 ⟨rfl, m1⟩
    go_wp2_with fail
    refine (read_n A L _ _ _ (by rw [HL.out]; omega) (by omega) (h.keep m1 (by simp))).mono ?_
    rintro e w2 ⟨g, b, rfl, hg, hb, hR, m2⟩
    have hs1 := m1.size
    replace m1 := m1.then m2
    clear m2
    go_wp2_with fail
    refine (raw_long g b L n _ hR (by omega)).mono ?_
    rintro e w3 ⟨A1, c1, rfl, hR, m2⟩
    replace m1 := m1.trans (m2.wk (ns := [g]) (fun _ _ h => h)) (by simp; omega)
    clear m2
    go_wp2_with fail
    refine (raw_err g b L 7 _ _ hR (by omega)).mono ?_
    rintro e w3 ⟨A2, c2, rfl, hR, m2⟩
    replace m1 := m1.trans (m2.wk (ns := [g]) (fun _ _ h => h)) (by simp; omega)
    clear m2
    go_wp2_with fail
    refine (left_c g b L 7 _ hR).mono ?_
    rintro e w3 ⟨rfl, rfl⟩
    go_wp2_with fail
    refine (err_c g b L 7 _ hR).mono ?_
    rintro e w3 ⟨rfl, rfl⟩
    go_wp2_with fail
    refine (raw_err g b L 7 _ _ hR (by omega)).mono ?_
    rintro e w3 ⟨A3, c3, rfl, hR, m2⟩
    replace m1 := m1.trans (m2.wk (ns := [g]) (fun _ _ h => h)) (by simp; omega)
    clear m2
    go_wp2_with fail
    refine (u8_err g b L 7 _ hR (by omega)).mono ?_
    rintro e w3 ⟨rfl, hR, m2⟩
    replace m1 := m1.trans (m2.wk (ns := [g]) (fun _ _ h => h)) (by simp; omega)
    clear m2
    go_wp2_with fail
    refine (u64_err g b L 7 _ hR (by omega)).mono ?_
    rintro e w3 ⟨rfl, hR, m2⟩
    replace m1 := m1.trans (m2.wk (ns := [g]) (fun _ _ h => h)) (by simp; omega)
    clear m2
    go_wp2_with fail
    refine (left_c g b L 7 _ hR).mono ?_
    rintro e w3 ⟨rfl, rfl⟩
    go_wp2_with fail
    refine (err_c g b L 7 _ hR).mono ?_
    rintro e w3 ⟨rfl, rfl⟩
    go_wp2_with fail
    go_ret
    exact ⟨rfl, m1⟩

set_option maxHeartbeats 1000000 in
theorem splits_3 (A : Option Addr) (l L : List UInt8) (c : Nat) (k : Nat) (m : Int) (w : World) (hlc : l.length ≤ c) (hcm : c ≤ maxLen) (h : Reads w A L) (HL : Hid (L.length = min 400 l.length)) (L1 L2 : List UInt8) (hkL : k ≤ L.length) (E : Hid (L.take k = L1 ∧ L.drop k = L2)) (hL2 : k + L2.length = L.length) (hm : m < 0) :
    Calls Try.prog 8 #[.slice A l.length c, .int .i64 (k : Int), .int .i64 m] w fun e w' => e = .returned (.bool true) ∧ Mod [] w w' := by
  unfold maxLen at hcm
  have hL := HL.out
  have hL4 : L.length ≤ 400 := by omega
  by_cases h4 : l.length ≤ 400
  · skip
    have hq : (k + L2.length != l.length) = false := by rw [bne_eq_false_iff_eq]; omega
    have hq' : ((k : Int) + (L2.length : Int) != (l.length : Int)) = false := by rw [bne_eq_false_iff_eq]; omega
    have hk0 : (0 : Int) ≤ (k : Int) := by omega
    have hkN : (k : Int) ≤ (l.length : Int) := by omega
    clear hL
    go_enter Try.func8, Try.ntmps8
    go_wp2_with fail
    refine (wakes_c _).mono ?_
    rintro e w1 ⟨rfl, m1⟩
    go_wp2_with fail
    refine (read_n A L _ _ _ (by rw [HL.out]; omega) (by omega) (h.keep m1 (by simp))).mono ?_
    rintro e w2 ⟨g, b, rfl, hg, hb, hR, m2⟩
    have hs1 := m1.size
    replace m1 := m1.then m2
    clear m2
    go_wp2_with fail
    refine (raw_yes g b L k _ hR (by omega) L1 L2 E.out.1 E.out.2).mono ?_
    rintro e w3 ⟨d1, rfl, _, _, hR, m2⟩
    replace m1 := m1.trans (m2.wk (ns := [g]) (fun _ _ h => h)) (by simp; omega)
    clear m2
    go_wp2_with fail
    refine (raw_neg g b L2 m _ hR (by omega)).mono ?_
    rintro e w3 ⟨A1, c1, rfl, hR, m2⟩
    replace m1 := m1.trans (m2.wk (ns := [g]) (fun _ _ h => h)) (by simp; omega)
    clear m2
    go_wp2_with fail
    refine (left_c g b L2 2 _ hR).mono ?_
    rintro e w3 ⟨rfl, rfl⟩
    go_wp2_with fail
    refine (err_c g b L2 2 _ hR).mono ?_
    rintro e w3 ⟨rfl, rfl⟩
    go_wp2_with fail
    refine (raw_err g b L2 2 _ _ hR (by omega)).mono ?_
    rintro e w3 ⟨A3, c3, rfl, hR, m2⟩
    replace m1 := m1.trans (m2.wk (ns := [g]) (fun _ _ h => h)) (by simp; omega)
    clear m2
    go_wp2_with fail
    refine (u8_err g b L2 2 _ hR (by omega)).mono ?_
    rintro e w3 ⟨rfl, hR, m2⟩
    replace m1 := m1.trans (m2.wk (ns := [g]) (fun _ _ h => h)) (by simp; omega)
    clear m2
    go_wp2_with fail
    refine (u64_err g b L2 2 _ hR (by omega)).mono ?_
    rintro e w3 ⟨rfl, hR, m2⟩
    replace m1 := m1.trans (m2.wk (ns := [g]) (fun _ _ h => h)) (by simp; omega)
    clear m2
    go_wp2_with fail
    refine (left_c g b L2 2 _ hR).mono ?_
    rintro e w3 ⟨rfl, rfl⟩
    go_wp2_with fail
    refine (err_c g b L2 2 _ hR).mono ?_
    rintro e w3 ⟨rfl, rfl⟩
    go_wp2_with fail
    go_ret
    exact ⟨rfl, m1⟩
  · have h5 : (400 : Int) < (l.length : Int) := by omega
    have hq : (k + L2.length != 400) = false := by rw [bne_eq_false_iff_eq]; omega
    have hq' : ((k : Int) + (L2.length : Int) != (400 : Int)) = false := by rw [bne_eq_false_iff_eq]; omega
    have hk0 : (0 : Int) ≤ (k : Int) := by omega
    have hkN : (k : Int) ≤ (400 : Int) := by omega
    clear hL
    go_enter Try.func8, Try.ntmps8
    go_wp2_with fail
    refine (wakes_c _).mono ?_
    rintro e w1 ⟨rfl, m1⟩
    go_wp2_with fail
    refine (read_n A L _ _ _ (by rw [HL.out]; omega) (by omega) (h.keep m1 (by simp))).mono ?_
    rintro e w2 ⟨g, b, rfl, hg, hb, hR, m2⟩
    have hs1 := m1.size
    replace m1 := m1.then m2
    clear m2
    go_wp2_with fail
    refine (raw_yes g b L k _ hR (by omega) L1 L2 E.out.1 E.out.2).mono ?_
    rintro e w3 ⟨d1, rfl, _, _, hR, m2⟩
    replace m1 := m1.trans (m2.wk (ns := [g]) (fun _ _ h => h)) (by simp; omega)
    clear m2
    go_wp2_with fail
    refine (raw_neg g b L2 m _ hR (by omega)).mono ?_
    rintro e w3 ⟨A1, c1, rfl, hR, m2⟩
    replace m1 := m1.trans (m2.wk (ns := [g]) (fun _ _ h => h)) (by simp; omega)
    clear m2
    go_wp2_with fail
    refine (left_c g b L2 2 _ hR).mono ?_
    rintro e w3 ⟨rfl, rfl⟩
    go_wp2_with fail
    refine (err_c g b L2 2 _ hR).mono ?_
    rintro e w3 ⟨rfl, rfl⟩
    go_wp2_with fail
    refine (raw_err g b L2 2 _ _ hR (by omega)).mono ?_
    rintro e w3 ⟨A3, c3, rfl, hR, m2⟩
    replace m1 := m1.trans (m2.wk (ns := [g]) (fun _ _ h => h)) (by simp; omega)
    clear m2
    go_wp2_with fail
    refine (u8_err g b L2 2 _ hR (by omega)).mono ?_
    rintro e w3 ⟨rfl, hR, m2⟩
    replace m1 := m1.trans (m2.wk (ns := [g]) (fun _ _ h => h)) (by simp; omega)
    clear m2
    go_wp2_with fail
    refine (u64_err g b L2 2 _ hR (by omega)).mono ?_
    rintro e w3 ⟨rfl, hR, m2⟩
    replace m1 := m1.trans (m2.wk (ns := [g]) (fun _ _ h => h)) (by simp; omega)
    clear m2
    go_wp2_with fail
    refine (left_c g b L2 2 _ hR).mono ?_
    rintro e w3 ⟨rfl, rfl⟩
    go_wp2_with fail
    refine (err_c g b L2 2 _ hR).mono ?_
    rintro e w3 ⟨rfl, rfl⟩
    go_wp2_with fail
    go_ret
    exact ⟨rfl, m1⟩

set_option maxHeartbeats 1000000 in
theorem splits_4 (A : Option Addr) (l L : List UInt8) (c : Nat) (k : Nat) (m : Int) (w : World) (hlc : l.length ≤ c) (hcm : c ≤ maxLen) (h : Reads w A L) (HL : Hid (L.length = min 400 l.length)) (L1 L2 : List UInt8) (hkL : k ≤ L.length) (E : Hid (L.take k = L1 ∧ L.drop k = L2)) (hL2 : k + L2.length = L.length) (hm : (L2.length : Int) < m) :
    Calls Try.prog 8 #[.slice A l.length c, .int .i64 (k : Int), .int .i64 m] w fun e w' => e = .returned (.bool true) ∧ Mod [] w w' := by
  unfold maxLen at hcm
  have hL := HL.out
  have hL4 : L.length ≤ 400 := by omega
  by_cases h4 : l.length ≤ 400
  · skip
    have hq : (k + L2.length != l.length) = false := by rw [bne_eq_false_iff_eq]; omega
    have hq' : ((k : Int) + (L2.length : Int) != (l.length : Int)) = false := by rw [bne_eq_false_iff_eq]; omega
    have hk0 : (0 : Int) ≤ (k : Int) := by omega
    have hkN : (k : Int) ≤ (l.length : Int) := by omega
    have hm0 : ¬ m < 0 := by omega
    have hm1 : (l.length : Int) - (k : Int) < m := by omega
    clear hL
    go_enter Try.func8, Try.ntmps8
    go_wp2_with fail
    refine (wakes_c _).mono ?_
    rintro e w1 ⟨rfl, m1⟩
    go_wp2_with fail
    refine (read_n A L _ _ _ (by rw [HL.out]; omega) (by omega) (h.keep m1 (by simp))).mono ?_
    rintro e w2 ⟨g, b, rfl, hg, hb, hR, m2⟩
    have hs1 := m1.size
    replace m1 := m1.then m2
    clear m2
    go_wp2_with fail
    refine (raw_yes g b L k _ hR (by omega) L1 L2 E.out.1 E.out.2).mono ?_
    rintro e w3 ⟨d1, rfl, _, _, hR, m2⟩
    replace m1 := m1.trans (m2.wk (ns := [g]) (fun _ _ h => h)) (by simp; omega)
    clear m2
    go_wp2_with fail
    refine (raw_long g b L2 m _ hR (by omega)).mono ?_
    rintro e w3 ⟨A1, c1, rfl, hR, m2⟩
    replace m1 := m1.trans (m2.wk (ns := [g]) (fun _ _ h => h)) (by simp; omega)
    clear m2
    go_wp2_with fail
    refine (left_c g b L2 7 _ hR).mono ?_
    rintro e w3 ⟨rfl, rfl⟩
    go_wp2_with fail
    refine (err_c g b L2 7 _ hR).mono ?_
    rintro e w3 ⟨rfl, rfl⟩
    go_wp2_with fail
    refine (raw_err g b L2 7 _ _ hR (by omega)).mono ?_
    rintro e w3 ⟨A3, c3, rfl, hR, m2⟩
    replace m1 := m1.trans (m2.wk (ns := [g]) (fun _ _ h => h)) (by simp; omega)
    clear m2
    go_wp2_with fail
    refine (u8_err g b L2 7 _ hR (by omega)).mono ?_
    rintro e w3 ⟨rfl, hR, m2⟩
    replace m1 := m1.trans (m2.wk (ns := [g]) (fun _ _ h => h)) (by simp; omega)
    clear m2
    go_wp2_with fail
    refine (u64_err g b L2 7 _ hR (by omega)).mono ?_
    rintro e w3 ⟨rfl, hR, m2⟩
    replace m1 := m1.trans (m2.wk (ns := [g]) (fun _ _ h => h)) (by simp; omega)
    clear m2
    go_wp2_with fail
    refine (left_c g b L2 7 _ hR).mono ?_
    rintro e w3 ⟨rfl, rfl⟩
    go_wp2_with fail
    refine (err_c g b L2 7 _ hR).mono ?_
    rintro e w3 ⟨rfl, rfl⟩
    go_wp2_with fail
    go_ret
    exact ⟨rfl, m1⟩
  · have h5 : (400 : Int) < (l.length : Int) := by omega
    have hq : (k + L2.length != 400) = false := by rw [bne_eq_false_iff_eq]; omega
    have hq' : ((k : Int) + (L2.length : Int) != (400 : Int)) = false := by rw [bne_eq_false_iff_eq]; omega
    have hk0 : (0 : Int) ≤ (k : Int) := by omega
    have hkN : (k : Int) ≤ (400 : Int) := by omega
    have hm0 : ¬ m < 0 := by omega
    have hm1 : (400 : Int) - (k : Int) < m := by omega
    clear hL
    go_enter Try.func8, Try.ntmps8
    go_wp2_with fail
    refine (wakes_c _).mono ?_
    rintro e w1 ⟨rfl, m1⟩
    go_wp2_with fail
    refine (read_n A L _ _ _ (by rw [HL.out]; omega) (by omega) (h.keep m1 (by simp))).mono ?_
    rintro e w2 ⟨g, b, rfl, hg, hb, hR, m2⟩
    have hs1 := m1.size
    replace m1 := m1.then m2
    clear m2
    go_wp2_with fail
    refine (raw_yes g b L k _ hR (by omega) L1 L2 E.out.1 E.out.2).mono ?_
    rintro e w3 ⟨d1, rfl, _, _, hR, m2⟩
    replace m1 := m1.trans (m2.wk (ns := [g]) (fun _ _ h => h)) (by simp; omega)
    clear m2
    go_wp2_with fail
    refine (raw_long g b L2 m _ hR (by omega)).mono ?_
    rintro e w3 ⟨A1, c1, rfl, hR, m2⟩
    replace m1 := m1.trans (m2.wk (ns := [g]) (fun _ _ h => h)) (by simp; omega)
    clear m2
    go_wp2_with fail
    refine (left_c g b L2 7 _ hR).mono ?_
    rintro e w3 ⟨rfl, rfl⟩
    go_wp2_with fail
    refine (err_c g b L2 7 _ hR).mono ?_
    rintro e w3 ⟨rfl, rfl⟩
    go_wp2_with fail
    refine (raw_err g b L2 7 _ _ hR (by omega)).mono ?_
    rintro e w3 ⟨A3, c3, rfl, hR, m2⟩
    replace m1 := m1.trans (m2.wk (ns := [g]) (fun _ _ h => h)) (by simp; omega)
    clear m2
    go_wp2_with fail
    refine (u8_err g b L2 7 _ hR (by omega)).mono ?_
    rintro e w3 ⟨rfl, hR, m2⟩
    replace m1 := m1.trans (m2.wk (ns := [g]) (fun _ _ h => h)) (by simp; omega)
    clear m2
    go_wp2_with fail
    refine (u64_err g b L2 7 _ hR (by omega)).mono ?_
    rintro e w3 ⟨rfl, hR, m2⟩
    replace m1 := m1.trans (m2.wk (ns := [g]) (fun _ _ h => h)) (by simp; omega)
    clear m2
    go_wp2_with fail
    refine (left_c g b L2 7 _ hR).mono ?_
    rintro e w3 ⟨rfl, rfl⟩
    go_wp2_with fail
    refine (err_c g b L2 7 _ hR).mono ?_
    rintro e w3 ⟨rfl, rfl⟩
    go_wp2_with fail
    go_ret
    exact ⟨rfl, m1⟩

theorem take_both (L : List UInt8) (k q : Nat) : L.take k ++ (L.drop k).take q = L.take (k + q) := by
  rw [List.take_add]

set_option maxHeartbeats 2000000 in
theorem splits_5 (A : Option Addr) (l L : List UInt8) (c : Nat) (k q : Nat) (w : World) (hlc : l.length ≤ c) (hcm : c ≤ maxLen) (h : Reads w A L) (HL : Hid (L.length = min 400 l.length)) (L1 L2 M1 M2 T : List UInt8) (hkq : k + q ≤ L.length)
    (E : Hid (L.take k = L1 ∧ L.drop k = L2 ∧ L2.take q = M1 ∧ L2.drop q = M2 ∧ L.take (k + q) = T)) (hL2 : L2.length + k = L.length) (hM2 : M2.length + q + k = L.length) :
    Calls Try.prog 8 #[.slice A l.length c, .int .i64 (k : Int), .int .i64 (q : Int)] w fun e w' => e = .returned (.bool true) ∧ Mod [] w w' := by
  unfold maxLen at hcm
  have hL := HL.out
  have hL4 : L.length ≤ 400 := by omega
  have hT : T.length = k + q := by rw [← E.out.2.2.2.2]; simp; omega
  have hL1 : L1.length = k := by rw [← E.out.1]; simp; omega
  have hM1 : M1.length = q := by rw [← E.out.2.2.1]; simp; omega
  have hTT : L1 ++ M1 = T := by rw [← E.out.1, ← E.out.2.2.1, ← E.out.2.1, ← E.out.2.2.2.2, take_both]
  have G := Lib.hid (And.intro hT (And.intro hL1 (And.intro hM1 hTT)))
  clear hT hL1 hM1 hTT
  have ht : Reads w A T := fun i hi => by
    rw [G.out.1] at hi
    obtain ⟨g, o, e, hc⟩ := h i (by omega)
    refine ⟨g, o, e, ?_⟩
    rw [hc]
    simp only [← E.out.2.2.2.2, List.getElem_take]
  obtain ⟨i0, hi0, hz0, hz1, hz2⟩ := info_parts u8_zero
  by_cases h4 : l.length ≤ 400
  · have f1 : (k : Int) ≤ (l.length : Int) := by omega
    have f2 : (q : Int) ≤ (l.length : Int) - (k : Int) := by omega
    have f3 : (k : Int) + (q : Int) ≤ (l.length : Int) := by omega
    have f4 : k + q ≤ c := by omega
    have f5 : ((M2.length : Int) == (l.length : Int) - (k : Int) - (q : Int)) = true := by rw [beq_iff_eq]; omega
    clear hL
    go_enter Try.func8, Try.ntmps8
    go_wp2_with fail
    refine (wakes_c _).mono ?_
    rintro e w1 ⟨rfl, m1⟩
    go_wp2_with fail
    refine (read_n A L _ _ _ (by rw [HL.out]; omega) (by omega) (h.keep m1 (by simp))).mono ?_
    rintro e w2 ⟨g, b, rfl, hg, hb, hR, m2⟩
    have hs1 := m1.size
    have hs1' := m2.size
    replace m1 := m1.then m2
    clear m2
    go_wp2_with fail
    refine (read_n A L _ _ _ (by rw [HL.out]; omega) (by omega) (h.keep m1 (by simp))).mono ?_
    rintro e w3 ⟨g', b', rfl, hg', hb', hR', m2⟩
    obtain ⟨r1, r2, r3⟩ := hR.lt
    replace hR := hR.keep m2 (by simp) (by simp)
    have hs2 := m2.size
    replace m1 := m1.then m2
    clear m2
    go_wp2_with fail
    rw [show ((k : Int) + (q : Int)) = ((k + q : Nat) : Int) from by omega]
    refine (raw_yes g' b' L (k + q) _ hR' (by omega) T _ E.out.2.2.2.2 rfl).mono ?_
    rintro e w4 ⟨d0, rfl, hd0, hT, _, m2⟩
    have hd0' := hT.lt
    replace hR := hR.keep m2 (by simp; omega) (by simp; omega)
    have hs3 := m2.size
    replace m1 := m1.trans (m2.wk (ns := [g']) (fun _ _ h => h)) (by simp; omega)
    clear m2 hR'
    go_wp2_with fail
    refine (raw_yes g b L k _ hR (by omega) L1 L2 E.out.1 E.out.2.1).mono ?_
    rintro e w5 ⟨d1, rfl, hd1, hh1, hR, m2⟩
    have hd1' := hh1.lt
    replace hT := hT.keep m2 (by simp; omega)
    have hs4 := m2.size
    replace m1 := m1.trans (m2.wk (ns := [g]) (fun _ _ h => h)) (by simp; omega)
    clear m2
    go_wp2_with fail
    refine (raw_yes g b L2 q _ hR (by omega) M1 M2 E.out.2.2.1 E.out.2.2.2.1).mono ?_
    rintro e w6 ⟨d2, rfl, hd2, hh2, hR, m2⟩
    have hd2' := hh2.lt
    obtain ⟨r4, r5, r6⟩ := hR.lt
    replace hT := hT.keep m2 (by simp; omega)
    replace hh1 := hh1.keep m2 (by simp; omega)
    have hs5 := m2.size
    replace m1 := m1.trans (m2.wk (ns := [g]) (fun _ _ h => h)) (by simp; omega)
    clear m2
    have hs6 := m1.size
    have hO : Owns w6 w.heap.size 5 (some ⟨d1, 0, none⟩) k L1 := by
      have := Owns.of_holds (B := w.heap.size) hh1 (by omega) (by rw [G.out.2.1]; unfold maxLen; omega)
      rwa [G.out.2.1] at this
    have hX : Reads w6 (some ⟨d2, 0, none⟩) M1 := Reads.of_holds hh2
    go_wp2_with (at_builtin; refine wpList_appends _ rfl (.tmp 104) (.tmp 107) 22 rfl 5 i0 (.int .u8 0) 1 Try.underlying22 hi0 hz0 hz1 hz2 rfl w.heap.size hs6 _ _ _ L1 rfl (by rw [G.out.2.1]) hO _ _ _ M1 rfl (by rw [G.out.2.2.1]) hX (by rw [G.out.2.1, G.out.2.2.1]; omega) (by rw [G.out.2.1, G.out.2.2.1]; unfold maxLen; omega) ?_; intro A1 c1 w7 hO7 m7 hA7; rw [G.out.2.2.2] at hO7; rw [G.out.2.2.2])
    have hbl : blk (some ⟨d1, 0, none⟩) = [d1] := rfl
    rw [hbl] at m7
    replace hT := hT.keep m7 (by simp; omega)
    replace hR := hR.keep m7 (by simp; omega) (by simp; omega)
    replace m1 := m1.trans (m7.wk (ns := [d1]) (fun _ _ h => h)) (by simp; omega)
    clear m7
    refine (beq_n A1 (some ⟨d0, 0, none⟩) T T _ _ _ _ _ rfl (by rw [G.out.1]) hO7.reads (Reads.of_holds hT)).mono ?_
    rintro e w8 ⟨rfl, rfl⟩
    go_wp2_with fail
    refine (beq_n (some ⟨d0, 0, none⟩) A T T _ _ _ _ _ (by rw [G.out.1]) (by rw [G.out.1]) (Reads.of_holds hT) (ht.keep m1 (by simp))).mono ?_
    rintro e w8 ⟨rfl, rfl⟩
    go_wp2_with fail
    refine (left_c g b M2 0 _ hR).mono ?_
    rintro e w8 ⟨rfl, rfl⟩
    go_wp2_with fail
    refine (err_c g b M2 0 _ hR).mono ?_
    rintro e w8 ⟨rfl, rfl⟩
    go_wp2_with fail
    go_ret
    exact ⟨rfl, m1⟩
  · have h5 : (400 : Int) < (l.length : Int) := by omega
    have f1 : (k : Int) ≤ (400 : Int) := by omega
    have f2 : (q : Int) ≤ (400 : Int) - (k : Int) := by omega
    have f3 : (k : Int) + (q : Int) ≤ (400 : Int) := by omega
    have f4 : k + q ≤ c := by omega
    have f5 : ((M2.length : Int) == (400 : Int) - (k : Int) - (q : Int)) = true := by rw [beq_iff_eq]; omega
    clear hL
    go_enter Try.func8, Try.ntmps8
    go_wp2_with fail
    refine (wakes_c _).mono ?_
    rintro e w1 ⟨rfl, m1⟩
    go_wp2_with fail
    refine (read_n A L _ _ _ (by rw [HL.out]; omega) (by omega) (h.keep m1 (by simp))).mono ?_
    rintro e w2 ⟨g, b, rfl, hg, hb, hR, m2⟩
    have hs1 := m1.size
    have hs1' := m2.size
    replace m1 := m1.then m2
    clear m2
    go_wp2_with fail
    refine (read_n A L _ _ _ (by rw [HL.out]; omega) (by omega) (h.keep m1 (by simp))).mono ?_
    rintro e w3 ⟨g', b', rfl, hg', hb', hR', m2⟩
    obtain ⟨r1, r2, r3⟩ := hR.lt
    replace hR := hR.keep m2 (by simp) (by simp)
    have hs2 := m2.size
    replace m1 := m1.then m2
    clear m2
    go_wp2_with fail
    rw [show ((k : Int) + (q : Int)) = ((k + q : Nat) : Int) from by omega]
    refine (raw_yes g' b' L (k + q) _ hR' (by omega) T _ E.out.2.2.2.2 rfl).mono ?_
    rintro e w4 ⟨d0, rfl, hd0, hT, _, m2⟩
    have hd0' := hT.lt
    replace hR := hR.keep m2 (by simp; omega) (by simp; omega)
    have hs3 := m2.size
    replace m1 := m1.trans (m2.wk (ns := [g']) (fun _ _ h => h)) (by simp; omega)
    clear m2 hR'
    go_wp2_with fail
    refine (raw_yes g b L k _ hR (by omega) L1 L2 E.out.1 E.out.2.1).mono ?_
    rintro e w5 ⟨d1, rfl, hd1, hh1, hR, m2⟩
    have hd1' := hh1.lt
    replace hT := hT.keep m2 (by simp; omega)
    have hs4 := m2.size
    replace m1 := m1.trans (m2.wk (ns := [g]) (fun _ _ h => h)) (by simp; omega)
    clear m2
    go_wp2_with fail
    refine (raw_yes g b L2 q _ hR (by omega) M1 M2 E.out.2.2.1 E.out.2.2.2.1).mono ?_
    rintro e w6 ⟨d2, rfl, hd2, hh2, hR, m2⟩
    have hd2' := hh2.lt
    obtain ⟨r4, r5, r6⟩ := hR.lt
    replace hT := hT.keep m2 (by simp; omega)
    replace hh1 := hh1.keep m2 (by simp; omega)
    have hs5 := m2.size
    replace m1 := m1.trans (m2.wk (ns := [g]) (fun _ _ h => h)) (by simp; omega)
    clear m2
    have hs6 := m1.size
    have hO : Owns w6 w.heap.size 5 (some ⟨d1, 0, none⟩) k L1 := by
      have := Owns.of_holds (B := w.heap.size) hh1 (by omega) (by rw [G.out.2.1]; unfold maxLen; omega)
      rwa [G.out.2.1] at this
    have hX : Reads w6 (some ⟨d2, 0, none⟩) M1 := Reads.of_holds hh2
    go_wp2_with (at_builtin; refine wpList_appends _ rfl (.tmp 104) (.tmp 107) 22 rfl 5 i0 (.int .u8 0) 1 Try.underlying22 hi0 hz0 hz1 hz2 rfl w.heap.size hs6 _ _ _ L1 rfl (by rw [G.out.2.1]) hO _ _ _ M1 rfl (by rw [G.out.2.2.1]) hX (by rw [G.out.2.1, G.out.2.2.1]; omega) (by rw [G.out.2.1, G.out.2.2.1]; unfold maxLen; omega) ?_; intro A1 c1 w7 hO7 m7 hA7; rw [G.out.2.2.2] at hO7; rw [G.out.2.2.2])
    have hbl : blk (some ⟨d1, 0, none⟩) = [d1] := rfl
    rw [hbl] at m7
    replace hT := hT.keep m7 (by simp; omega)
    replace hR := hR.keep m7 (by simp; omega) (by simp; omega)
    replace m1 := m1.trans (m7.wk (ns := [d1]) (fun _ _ h => h)) (by simp; omega)
    clear m7
    refine (beq_n A1 (some ⟨d0, 0, none⟩) T T _ _ _ _ _ rfl (by rw [G.out.1]) hO7.reads (Reads.of_holds hT)).mono ?_
    rintro e w8 ⟨rfl, rfl⟩
    go_wp2_with fail
    refine (beq_n (some ⟨d0, 0, none⟩) A T T _ _ _ _ _ (by rw [G.out.1]) (by rw [G.out.1]) (Reads.of_holds hT) (ht.keep m1 (by simp))).mono ?_
    rintro e w8 ⟨rfl, rfl⟩
    go_wp2_with fail
    refine (left_c g b M2 0 _ hR).mono ?_
    rintro e w8 ⟨rfl, rfl⟩
    go_wp2_with fail
    refine (err_c g b M2 0 _ hR).mono ?_
    rintro e w8 ⟨rfl, rfl⟩
    go_wp2_with fail
    go_ret
    exact ⟨rfl, m1⟩

theorem splits_w {w : World} (A : Option Addr) (l : List UInt8) (c : Nat) (hc : l.length ≤ c) (hcm : c ≤ maxLen) (ha : Reads w A l) (_ : l.length * Try.prog.bytesOf 5 ≤ reachBytes) (n : Int) (_ : (Lit.int .i64 n).wf = true) (m : Int) (_ : (Lit.int .i64 m).wf = true) :
    Calls Try.prog 8 #[.slice A l.length c, .int .i64 n, .int .i64 m] w fun e w' => e = .returned (.bool true) ∧ Mod [] w w' := by
  have hr : Reads w A (l.take 400) := fun i hi => by
    simp at hi
    obtain ⟨g, o, e, hh⟩ := ha i (by omega)
    exact ⟨g, o, e, by rw [hh]; simp⟩
  have HL : Hid ((l.take 400).length = min 400 l.length) := List.length_take
  generalize l.take 400 = L at *
  by_cases h1 : n < 0
  · exact splits_1 A l L c n m w hc hcm hr HL h1
  · by_cases h2 : (L.length : Int) < n
    · exact splits_2 A l L c n m w hc hcm hr HL h2
    · obtain ⟨k, rfl⟩ := Int.eq_ofNat_of_zero_le (by omega : 0 ≤ n)
      have hk : k ≤ L.length := by omega
      by_cases h3 : m < 0
      · exact splits_3 A l L c k m w hc hcm hr HL _ _ hk ⟨rfl, rfl⟩ (by simp; omega) h3
      · by_cases h4 : ((L.drop k).length : Int) < m
        · exact splits_4 A l L c k m w hc hcm hr HL _ _ hk ⟨rfl, rfl⟩ (by simp; omega) h4
        · obtain ⟨q, rfl⟩ := Int.eq_ofNat_of_zero_le (by omega : 0 ≤ m)
          simp at h4
          exact splits_5 A l L c k q w hc hcm hr HL _ _ _ _ _ (by omega) ⟨rfl, rfl, rfl, rfl, rfl⟩ (by simp; omega) (by simp; omega)

end Go.Proofs.Ytheebmehapemnaa
