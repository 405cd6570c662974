/-
  Contracts of package octet's functions, third part: what is laid. My own work.
-/
import Derived.Test.YtapafniekmfkaaaDoorOctB
namespace Go.Proofs.YtapafniekmfkaaaDoor
open Go.RowKit

/-- x in w bytes, the highest first. -/
def hi (x w : Nat) : List UInt8 := (List.range w).map fun k => UInt8.ofNat (x / 256 ^ (w - 1 - k))

theorem hi_length (x w : Nat) : (hi x w).length = w := by simp [hi]
theorem hi_at (x w j : Nat) (h : j < (hi x w).length) : (hi x w)[j] = UInt8.ofNat (x / 256 ^ (w - 1 - j)) := by simp [hi]
theorem hi_cell (x wd j W : Nat) (h : j < wd) (hx : x < 2 ^ W) : (Value.int .u8 ((x : Int) / 2 ^ min (8 * (wd - 1 - j)) W % 256)) = oct ((hi x wd)[j]'(by rw [hi_length]; exact h)) := by
  rw [hi_at]
  have h1 : (256 : Nat) ^ (wd - 1 - j) = 2 ^ (8 * (wd - 1 - j)) := by rw [Nat.pow_mul]
  have h2 : ((2 : Int) ^ min (8 * (wd - 1 - j)) W) = ((2 ^ min (8 * (wd - 1 - j)) W : Nat) : Int) := by simp
  have h3 : x / 2 ^ min (8 * (wd - 1 - j)) W = x / 2 ^ (8 * (wd - 1 - j)) := by
    rcases Nat.le_total (8 * (wd - 1 - j)) W with hle | hle
    · rw [Nat.min_eq_left hle]
    · rw [Nat.min_eq_right hle, Nat.div_eq_of_lt hx, Nat.div_eq_of_lt (Nat.lt_of_lt_of_le hx (Nat.pow_le_pow_right (by omega) hle))]
  have h4 : (UInt8.ofNat (x / 2 ^ (8 * (wd - 1 - j)))).toNat = x / 2 ^ (8 * (wd - 1 - j)) % 256 := UInt8.toNat_ofNat'
  rw [h1, h2]
  show Value.int .u8 _ = Value.int .u8 _
  rw [h4, ← h3]
  rfl
theorem hi_cell64 (x wd j : Nat) (h : j < wd) (hwd : wd ≤ 8) (hx : x < 2 ^ 64) : (Value.int .u8 ((x : Int) / 2 ^ (8 * (wd - 1 - j)) % 256)) = oct ((hi x wd)[j]'(by rw [hi_length]; exact h)) := by
  have := hi_cell x wd j 64 h hx
  rwa [Nat.min_eq_left (by omega)] at this
theorem set_at {α : Type} (X : List α) (n k : Nat) (z v : α) (hk : X.length = k) (hn : 0 < n) : (X ++ List.replicate n z).set k v = (X ++ [v]) ++ List.replicate (n - 1) z := by
  subst hk
  obtain ⟨m, rfl⟩ : ∃ m, n = m + 1 := ⟨n - 1, by omega⟩
  rw [List.set_append_right _ _ (Nat.le_refl _), Nat.sub_self, List.replicate_succ]
  simp
theorem hi_next (l : List UInt8) (x wd j : Nat) (h : j < wd) : (l ++ (hi x wd).take (j + 1)).map oct = (l ++ (hi x wd).take j).map oct ++ [oct ((hi x wd)[j]'(by rw [hi_length]; exact h))] := by
  rw [take_next _ _ (by rw [hi_length]; exact h)]
  simp only [List.map_append, List.append_assoc, List.map_cons, List.map_nil]

theorem put2_c (A : Option Addr) (l : List UInt8) (c : Nat) (x : Nat) (wd : Nat) (w : World) (hl : l.length ≤ 140737488355000) (h : Reads w A l) (hwd : wd ≤ 8) (hx : x < 65536) :
    Calls Tryd.prog 100 #[.slice A l.length c, .int .u16 (x : Int), .int .i64 (wd : Int)] w fun e w' => e = .returned (.slice (some ⟨w.heap.size, 0, none⟩) (l.length + wd) (l.length + wd)) ∧ Holds w' w.heap.size 5 ((l ++ hi x wd).map oct) ∧ Mod [] w w' := by
  obtain ⟨i0, hi0, hz0, hz1, hz2⟩ := info_parts u8_zero
  go_enter Tryd.func100, Tryd.ntmps100
  go_wp2_with (first
    | (at_make; refine wpList_makes _ rfl _ _ 27 rfl 5 i0 (.int .u8 0) Tryd.underlying27 hi0 hz0 hz1 1 hz2 rfl .i64 .i64 _ _ (l.length + wd) rfl rfl (by omega) (by omega) (by omega) (by unfold maxLen; omega) ?_; intro w1 hw1 hm1 hs1)
    | (with_reducible refine wpList_copies (o := ⟨some 16, _, _, _, _, _⟩) rfl (.tmp 14) (.tmp 15) 27 27 rfl 5 Tryd.underlying27 u8_one _ _ _ _ l _ _ rfl rfl rfl _ _ hw1 (h.keep hm1 (fun _ _ => by simp)) (by simp) (by omega) ?_; intro w2 hw2 hm2 hs2))
  go_loopw [18] (fun i wr => ∃ j : Nat, j ≤ wd ∧ i = .int .i64 j ∧ Holds wr w.heap.size 5 ((l ++ (hi x wd).take j).map oct ++ List.replicate (wd - j) (.int .u8 0)) ∧ Mod [] w wr) (fun i _ => wd - (intOf i).toNat)
  case atStart => exact ⟨0, by omega, rfl, by simpa using hw2, hm1.trans hm2 (by simp; omega)⟩
  case round =>
    obtain ⟨j, hj, rfl, hh, hm⟩ := hrel
    have hl' : ((l ++ (hi x wd).take j).map oct).length = l.length + j := by simp [hi_length]; omega
    by_cases hlt : j < wd
    · have hf := hh.free (l.length + j)
      have hc := hh.cell (l.length + j)
      rw [List.getElem?_append_right (by omega), hl', Nat.sub_self, List.getElem?_replicate, if_pos (by omega)] at hc
      have c1 : (0 : Int) ≤ 8 * ((wd : Int) - 1 - (j : Int)) := by omega
      have c2 : 8 * ((wd : Int) - 1 - (j : Int)) ≤ 56 := by omega
      have HE := Lib.hid (hi_cell x wd j 16 hlt hx)
      have hh' := hh.set (l.length + j) (oct ((hi x wd)[j]'(by rw [hi_length]; exact hlt)))
      rw [set_at _ _ _ _ _ hl' (by omega), ← hi_next l x wd j hlt] at hh'
      have hm' : Mod [] w (wr.setCell ⟨w.heap.size, l.length + j, none⟩ (oct ((hi x wd)[j]'(by rw [hi_length]; exact hlt)))) := hm.trans (Mod.setCell (ms := [w.heap.size]) wr (by simp) _) (by simp; omega)
      go_wp2
      rw [HE.out]
      exact ⟨⟨j + 1, by omega, by go_num, hh', hm'⟩, by simp [intOf]; omega⟩
    · obtain rfl : j = wd := by omega
      go_wp2
      go_ret
      rw [List.take_of_length_le (by rw [hi_length]; omega)] at hh
      exact ⟨rfl, by simpa using hh, hm⟩

theorem put16_c (A : Option Addr) (l : List UInt8) (c : Nat) (x : Nat) (w : World) (hl : l.length ≤ 140737488355000) (h : Reads w A l) (hx : x < 65536) :
    Calls Tryd.prog 81 #[.slice A l.length c, .int .u16 (x : Int)] w fun e w' => e = .returned (.slice (some ⟨w.heap.size, 0, none⟩) (l.length + 2) (l.length + 2)) ∧ Holds w' w.heap.size 5 ((l ++ hi x 2).map oct) ∧ Mod [] w w' := by
  go_enter Tryd.func81, Tryd.ntmps81
  go_wp2_with (go_at_call 100; refine (put2_c A l c x 2 _ hl h (by omega) hx).mono ?_; rintro e w1 ⟨rfl, h1, h2⟩)
  go_ret
  exact ⟨rfl, h1, h2⟩

end Go.Proofs.YtapafniekmfkaaaDoor
