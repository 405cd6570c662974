/-
  Contracts of package octet's functions, second part: what a reader tells. My own work.
-/
import Derived.Test.YtapafniekmfkaaaDoorOctA
import Derived.Lib.Hide
namespace Go.Proofs.YtapafniekmfkaaaDoor
open Go.RowKit

/-- The number whose bytes these are, the highest first. -/
def be (l : List UInt8) : Nat := l.foldl (fun n x => n * 256 + x.toNat) 0

theorem be_snoc (l : List UInt8) (x : UInt8) : be (l ++ [x]) = be l * 256 + x.toNat := by simp [be]
theorem be_lt (l : List UInt8) : be l < 256 ^ l.length := by
  have key : ∀ (l : List UInt8) (n : Nat), l.foldl (fun n x => n * 256 + x.toNat) n < (n + 1) * 256 ^ l.length := by
    intro l
    induction l with
    | nil => intro n; simp
    | cons x l ih =>
      intro n
      have h1 := ih (n * 256 + x.toNat)
      have h2 := x.toNat_lt
      have h3 : (n * 256 + x.toNat + 1) * 256 ^ l.length ≤ ((n + 1) * 256) * 256 ^ l.length := Nat.mul_le_mul_right _ (by omega)
      rw [List.foldl_cons, List.length_cons, Nat.pow_succ, Nat.mul_comm (256 ^ l.length), ← Nat.mul_assoc]
      omega
  simpa [be] using key l 0
theorem or_bytes (x b : Nat) (hx : x < 72057594037927936) (hb : b < 256) : bits .or .u64 (IntKind.u64.wrap ((x : Int) * 256)) (IntKind.u64.wrap (b : Int)) = ((x * 256 + b : Nat) : Int) := by
  rw [IntKind.wrap_u64, IntKind.wrap_u64, show ((x : Int) * 256) % 18446744073709551616 = ((256 * x : Nat) : Int) from by omega, show ((b : Int)) % 18446744073709551616 = ((b : Nat) : Int) from by omega, u64_or_nat _ _ (by omega) (by omega)]
  have := Nat.two_pow_add_eq_or_of_lt (i := 8) (b := b) (by omega) x
  rw [show 256 * x = 2 ^ 8 * x from rfl, ← this]
  omega
theorem take_next (l : List UInt8) (j : Nat) (h : j < l.length) : l.take (j + 1) = l.take j ++ [l[j]] := by
  rw [List.take_succ_eq_append_getElem h]
theorem be_next (l : List UInt8) (j : Nat) (h : j < l.length) (h8 : l.length ≤ 8) :
    bits .or .u64 (IntKind.u64.wrap ((be (l.take j) : Int) * 256)) (IntKind.u64.wrap (l[j].toNat : Int)) = (be (l.take (j + 1)) : Int) := by
  have h1 := be_lt (l.take j)
  have h2 : 256 ^ (l.take j).length ≤ 256 ^ 7 := Nat.pow_le_pow_right (by omega) (by simp; omega)
  rw [or_bytes _ _ (by omega) (l[j].toNat_lt), take_next l j h, be_snoc]

theorem num1_c (b o k c a : Nat) (l : List UInt8) (w : World) (hk : k = l.length) (hl : l.length ≤ 8) (hr : Reads w (some ⟨b, o, none⟩) l) (hba : b ≠ a) (ha : Holds w a 74 [.int .u64 0]) :
    Calls Tryd.prog 121 #[.slice (some ⟨b, o, none⟩) k c, .pointer (some ⟨a, 0, none⟩)] w fun e w' => e = .returned (.tuple #[]) ∧ Holds w' a 74 [.int .u64 (be l : Int)] ∧ Mod [a] w w' := by
  subst hk
  go_enter Tryd.func121, Tryd.ntmps121
  go_wp2
  go_loopw [7] (fun i wr => ∃ j : Nat, j ≤ l.length ∧ i = .int .i64 j ∧ Holds wr a 74 [.int .u64 (be (l.take j) : Int)] ∧ Mod [a] w wr) (fun i _ => l.length - (intOf i).toNat)
  case atStart => exact ⟨0, by omega, rfl, by simpa [be] using ha, Mod.refl _ _⟩
  case round =>
    obtain ⟨j, hj, rfl, hh, hm⟩ := hrel
    have hc := hh.cell 0
    simp at hc
    have hf := hh.free 0
    by_cases hlt : j < l.length
    · have hcb := (hr.keep hm (by rintro _ ⟨⟩; simpa using hba)).at j hlt
      have hm' := hm.trans (Mod.setCell (ms := [a]) wr (p := ⟨a, 0, none⟩) (by simp) (.int .u64 (be (l.take (j + 1)) : Int))) (by simp)
      have hh' := hh.set 0 (.int .u64 (be (l.take (j + 1)) : Int))
      have HE := Lib.hid (be_next l j hlt hl)
      go_wp2
      rw [HE.out]
      exact ⟨⟨j + 1, by omega, by go_num, by simpa using hh', hm'⟩, by simp [intOf]; omega⟩
    · go_wp2
      obtain rfl : j = l.length := by omega
      go_end0
      exact ⟨rfl, by simpa using hh, hm⟩

/-- What a reader tells that takes k bytes off: how many of them it has, what is left, and its error behind that. -/
def offNum (l : List UInt8) (er : Int) (k : Nat) : Nat := if er = 0 then (if k ≤ l.length then be (l.take k) else 0) else 0
def offRest (l : List UInt8) (er : Int) (n : Int) : List UInt8 := if er = 0 ∧ 0 ≤ n ∧ n ≤ (l.length : Int) then l.drop n.toNat else l
def offErr (l : List UInt8) (er : Int) (n : Int) : Int := if er = 0 then (if n < 0 then 2 else if (l.length : Int) < n then 7 else 0) else er
def offGot (l : List UInt8) (er : Int) (n : Int) : List UInt8 := if er = 0 ∧ 0 ≤ n ∧ n ≤ (l.length : Int) then l.take n.toNat else []

def Numbered (g b : Nat) (l : List UInt8) (er : Int) (k : Nat) (w : World) (e : Ending) (w' : World) : Prop :=
  e = .returned (.int .u64 (offNum l er k : Int)) ∧ Rdr w' g b (offRest l er k) (offErr l er k) ∧ Mod [g] w w'

theorem number_c (g b : Nat) (l : List UInt8) (er : Int) (k : Nat) (w : World) (h : Rdr w g b l er) (hk : k ≤ 8) :
    Calls Tryd.prog 115 #[.pointer (some ⟨g, 0, none⟩), .int .i64 (k : Int)] w (Numbered g b l er k w) := by
  obtain ⟨hg, hb, hne⟩ := h.lt
  have ho : offNum l er k = offNum l er k := rfl
  by_cases he : er = 0
  · subst he
    by_cases hkl : k ≤ l.length
    · go_enter Tryd.func115, Tryd.ntmps115
      go_wp2_with fail
      have hw0 : Holds (w.alloc (.cells #[.int .u64 0] 74)) w.heap.size 74 [.int .u64 0] := Holds.made _ _ _
      have hr0 := h.keep (Mod.alloc [] w (.cells #[.int .u64 0] 74)) (by simp) (by simp)
      refine (off_ok g b l k 121 _ _ hr0 hkl (fun v v' => Holds v' w.heap.size 74 [.int .u64 (be (l.take k) : Int)] ∧ Mod [w.heap.size] v v') call44 ?_).mono ?_
      · intro v o c hr hR hm
        exact num1_c b o k c w.heap.size (l.take k) v (by simp; omega) (by simp; omega) hr (by omega) (hw0.keep hm (by simp; omega))
      · rintro e w2 ⟨rfl, v, hR, hm, hh, hm2⟩
        have hc := hh.cell 0
        simp at hc
        go_wp2
        go_ret
        refine ⟨?_, ?_, ?_⟩
        · simp [offNum, hkl]
        · have : offRest l 0 (k : Int) = l.drop k := by unfold offRest; rw [if_pos ⟨rfl, by omega, by omega⟩]; simp
          rw [this, show offErr l 0 (k : Int) = 0 from by unfold offErr; rw [if_pos rfl, if_neg (by omega), if_neg (by omega)]]
          exact hR.keep hm2 (by simp; omega) (by simp; omega)
        · exact (Mod.pre (Mod.alloc [] w _) hm).trans hm2 (by simp; omega)
    · have hlt : (l.length : Int) < k := by omega
      go_enter Tryd.func115, Tryd.ntmps115
      go_wp2_with fail
      have hw0 : Holds (w.alloc (.cells #[.int .u64 0] 74)) w.heap.size 74 [.int .u64 0] := Holds.made _ _ _
      have hr0 := h.keep (Mod.alloc [] w (.cells #[.int .u64 0] 74)) (by simp) (by simp)
      refine (off_long g b l k _ _ hr0 hlt).mono ?_
      rintro e w2 ⟨rfl, hR, hm⟩
      have hc := (hw0.keep hm (by simp; omega)).cell 0
      simp at hc
      go_wp2
      go_ret
      refine ⟨by simp [offNum, hkl], ?_, Mod.pre (Mod.alloc [] w _) hm⟩
      rw [show offRest l 0 (k : Int) = l from by unfold offRest; rw [if_neg (by omega)], show offErr l 0 (k : Int) = 7 from by unfold offErr; rw [if_pos rfl, if_neg (by omega), if_pos hlt]]
      exact hR
  · go_enter Tryd.func115, Tryd.ntmps115
    go_wp2_with fail
    have hw0 : Holds (w.alloc (.cells #[.int .u64 0] 74)) w.heap.size 74 [.int .u64 0] := Holds.made _ _ _
    have hr0 := h.keep (Mod.alloc [] w (.cells #[.int .u64 0] 74)) (by simp) (by simp)
    refine (off_err g b l er k _ _ hr0 (by simpa using he)).mono ?_
    rintro e w2 ⟨rfl, rfl⟩
    have hc := hw0.cell 0
    simp at hc
    go_wp2
    go_ret
    refine ⟨by simp [offNum, he], ?_, Mod.alloc _ w _⟩
    rw [show offRest l er (k : Int) = l from by unfold offRest; rw [if_neg (by omega)], show offErr l er (k : Int) = er from by unfold offErr; rw [if_neg he]]
    exact hr0

theorem offNum_lt (l : List UInt8) (er : Int) (k : Nat) : offNum l er k < 256 ^ k := by
  have hp : 0 < 256 ^ k := Nat.pow_pos (by omega)
  unfold offNum
  split
  · split
    · have := be_lt (l.take k)
      rwa [List.length_take, Nat.min_eq_left (by assumption)] at this
    · exact hp
  · exact hp

/-- A number of kind q was taken, of k bytes. -/
def Took_ (q : IntKind) (g b : Nat) (l : List UInt8) (er : Int) (k : Nat) (w : World) (e : Ending) (w' : World) : Prop :=
  e = .returned (.int q (offNum l er k : Int)) ∧ Rdr w' g b (offRest l er k) (offErr l er k) ∧ Mod [g] w w'

theorem u8_c (g b : Nat) (l : List UInt8) (er : Int) (w : World) (h : Rdr w g b l er) : Calls Tryd.prog 113 #[.pointer (some ⟨g, 0, none⟩)] w (Took_ .u8 g b l er 1 w) := by
  have hb := offNum_lt l er 1
  generalize hn : offNum l er 1 = n at *
  have H := Lib.hid hn
  clear hn
  go_enter Tryd.func113, Tryd.ntmps113
  go_wp2_with (go_at_call 115; refine (number_c g b l er 1 _ h (by omega)).mono ?_; rintro e w1 ⟨rfl, h1, h2⟩; rw [H.out])
  go_ret
  refine ⟨?_, h1, h2⟩
  rw [H.out]
  rfl

theorem u16_c (g b : Nat) (l : List UInt8) (er : Int) (w : World) (h : Rdr w g b l er) : Calls Tryd.prog 105 #[.pointer (some ⟨g, 0, none⟩)] w (Took_ .u16 g b l er 2 w) := by
  have hb := offNum_lt l er 2
  generalize hn : offNum l er 2 = n at *
  have H := Lib.hid hn
  clear hn
  go_enter Tryd.func105, Tryd.ntmps105
  go_wp2_with (go_at_call 115; refine (number_c g b l er 2 _ h (by omega)).mono ?_; rintro e w1 ⟨rfl, h1, h2⟩; rw [H.out])
  go_ret
  refine ⟨?_, h1, h2⟩
  rw [H.out]
  rfl

/-- Bytes were taken: they lie in new memory. -/
def Rawed (g b : Nat) (l : List UInt8) (er n : Int) (w : World) (e : Ending) (w' : World) : Prop :=
  ∃ A c, e = .returned (.slice A (offGot l er n).length c) ∧ (offGot l er n).length ≤ c ∧ c ≤ 140737488355328 ∧ (∀ a, A = some a → w.heap.size ≤ a.block) ∧ Reads w' A (offGot l er n) ∧ Rdr w' g b (offRest l er n) (offErr l er n) ∧ Mod [g] w w'

theorem raw_c (g b : Nat) (l : List UInt8) (er : Int) (n : Int) (w : World) (h : Rdr w g b l er) :
    Calls Tryd.prog 114 #[.pointer (some ⟨g, 0, none⟩), .int .i64 n] w (Rawed g b l er n w) := by
  obtain ⟨hg, hb, hne⟩ := h.lt
  have hlen : l.length ≤ 140737488355328 := by obtain ⟨_, o, c, h1, h2, _⟩ := h; omega
  have hw0 : Holds (w.alloc (.cells #[.slice none 0 0] 27)) w.heap.size 27 [.slice none 0 0] := Holds.made _ _ _
  have hr0 := h.keep (Mod.alloc [] w (.cells #[.slice none 0 0] 27)) (by simp) (by simp)
  by_cases he : er = 0
  · subst he
    by_cases hn0 : n < 0
    · go_enter Tryd.func114, Tryd.ntmps114
      go_wp2_with fail
      refine (off_neg g b l n _ _ hr0 hn0).mono ?_
      rintro e w2 ⟨rfl, hR, hm⟩
      have hc := (hw0.keep hm (by simp; omega)).cell 0
      simp at hc
      go_wp2
      go_ret
      have e1 : offGot l 0 n = [] := by unfold offGot; rw [if_neg (by omega)]
      refine ⟨none, 0, by rw [e1]; rfl, by rw [e1]; simp, by omega, by simp, by rw [e1]; exact Reads.nil _ _, ?_, Mod.pre (Mod.alloc [] w _) hm⟩
      rw [show offRest l 0 n = l from by unfold offRest; rw [if_neg (by omega)], show offErr l 0 n = 2 from by unfold offErr; rw [if_pos rfl, if_pos hn0]]
      exact hR
    · by_cases hlt : (l.length : Int) < n
      · go_enter Tryd.func114, Tryd.ntmps114
        go_wp2_with fail
        refine (off_long g b l n _ _ hr0 hlt).mono ?_
        rintro e w2 ⟨rfl, hR, hm⟩
        have hc := (hw0.keep hm (by simp; omega)).cell 0
        simp at hc
        go_wp2
        go_ret
        have e1 : offGot l 0 n = [] := by unfold offGot; rw [if_neg (by omega)]
        refine ⟨none, 0, by rw [e1]; rfl, by rw [e1]; simp, by omega, by simp, by rw [e1]; exact Reads.nil _ _, ?_, Mod.pre (Mod.alloc [] w _) hm⟩
        rw [show offRest l 0 n = l from by unfold offRest; rw [if_neg (by omega)], show offErr l 0 n = 7 from by unfold offErr; rw [if_pos rfl, if_neg (by omega), if_pos hlt]]
        exact hR
      · obtain ⟨k, rfl⟩ := Int.eq_ofNat_of_zero_le (by omega : 0 ≤ n)
        have hkl : k ≤ l.length := by omega
        have e1 : offGot l 0 (k : Int) = l.take k := by unfold offGot; rw [if_pos ⟨rfl, by omega, by omega⟩]; simp
        go_enter Tryd.func114, Tryd.ntmps114
        go_wp2_with fail
        refine (off_ok g b l k 120 _ _ hr0 hkl (fun v v' => ∃ d, v.heap.size ≤ d ∧ Holds v' w.heap.size 27 [.slice (some ⟨d, 0, none⟩) (l.take k).length (l.take k).length] ∧ Holds v' d 5 ((l.take k).map oct) ∧ Mod [w.heap.size] v v') call40 ?_).mono ?_
        · intro v o c hr hR hm
          exact raw1_c b o k c w.heap.size (l.take k) v (by simp; omega) (by simp; omega) hr _ (hw0.keep hm (by simp; omega))
        · rintro e w2 ⟨rfl, v, hR, hm, d, hd, hh, hhd, hm2⟩
          have hc := hh.cell 0
          simp at hc
          go_wp2
          go_ret
          have hs := hm.size
          simp at hs
          refine ⟨some ⟨d, 0, none⟩, (l.take k).length, by rw [e1]; simp; omega, by rw [e1]; omega, by simp; omega, by rintro _ ⟨⟩; simp; omega, by rw [e1]; exact Reads.of_holds hhd, ?_, (Mod.pre (Mod.alloc [] w _) hm).trans hm2 (by simp; omega)⟩
          rw [show offRest l 0 (k : Int) = l.drop k from by unfold offRest; rw [if_pos ⟨rfl, by omega, by omega⟩]; simp, show offErr l 0 (k : Int) = 0 from by unfold offErr; rw [if_pos rfl, if_neg (by omega), if_neg (by omega)]]
          exact hR.keep hm2 (by simp; omega) (by simp; omega)
  · go_enter Tryd.func114, Tryd.ntmps114
    go_wp2_with fail
    refine (off_err g b l er n _ _ hr0 (by simpa using he)).mono ?_
    rintro e w2 ⟨rfl, rfl⟩
    have hc := hw0.cell 0
    simp at hc
    go_wp2
    go_ret
    have e1 : offGot l er n = [] := by unfold offGot; rw [if_neg (by omega)]
    refine ⟨none, 0, by rw [e1]; rfl, by rw [e1]; simp, by omega, by simp, by rw [e1]; exact Reads.nil _ _, ?_, Mod.alloc _ w _⟩
    rw [show offRest l er n = l from by unfold offRest; rw [if_neg (by omega)], show offErr l er n = er from by unfold offErr; rw [if_neg he]]
    exact hr0

theorem number_nil (k : Int) (w : World) : Calls Tryd.prog 115 #[.pointer none, .int .i64 k] w fun e w' => e = .returned (.int .u64 0) ∧ Mod [] w w' := by
  go_enter Tryd.func115, Tryd.ntmps115
  go_wp2_with (go_at_call 119; refine (off_nil _ _ _).mono ?_; rintro e w1 ⟨rfl, rfl⟩)
  go_ret
  exact ⟨rfl, Mod.alloc _ w _⟩
theorem raw_nil (k : Int) (w : World) : Calls Tryd.prog 114 #[.pointer none, .int .i64 k] w fun e w' => e = .returned (.slice none 0 0) ∧ Mod [] w w' := by
  go_enter Tryd.func114, Tryd.ntmps114
  go_wp2_with (go_at_call 119; refine (off_nil _ _ _).mono ?_; rintro e w1 ⟨rfl, rfl⟩)
  go_ret
  exact ⟨rfl, Mod.alloc _ w _⟩
theorem left_nil (w : World) : Calls Tryd.prog 66 #[.pointer none] w fun e w' => e = .returned (.int .i64 0) ∧ w = w' := by
  go_enter Tryd.func66, Tryd.ntmps66
  go_wp2
  go_ret
  exact ⟨rfl, rfl⟩
theorem err_nil (w : World) : Calls Tryd.prog 116 #[.pointer none] w fun e w' => e = .returned (.int .i64 1) ∧ w = w' := by
  go_enter Tryd.func116, Tryd.ntmps116
  go_wp2
  go_ret
  exact ⟨rfl, rfl⟩
theorem u8_nil (w : World) : Calls Tryd.prog 113 #[.pointer none] w fun e w' => e = .returned (.int .u8 0) ∧ Mod [] w w' := by
  go_enter Tryd.func113, Tryd.ntmps113
  go_wp2_with (go_at_call 115; refine (number_nil _ _).mono ?_; rintro e w1 ⟨rfl, h1⟩)
  go_ret
  exact ⟨rfl, h1⟩
theorem u16_nil (w : World) : Calls Tryd.prog 105 #[.pointer none] w fun e w' => e = .returned (.int .u16 0) ∧ Mod [] w w' := by
  go_enter Tryd.func105, Tryd.ntmps105
  go_wp2_with (go_at_call 115; refine (number_nil _ _).mono ?_; rintro e w1 ⟨rfl, h1⟩)
  go_ret
  exact ⟨rfl, h1⟩
end Go.Proofs.YtapafniekmfkaaaDoor
