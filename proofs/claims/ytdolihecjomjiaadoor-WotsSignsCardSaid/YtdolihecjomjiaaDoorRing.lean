/-
  The words in their ring, the eight numbers in their places: how they stand for the chapter's. My own work.
-/
import Derived.Test.YtdolihecjomjiaaDoorShaC
import Derived.Test.YtdolihecjomjiaaDoorShaD
namespace Go.Proofs.YtdolihecjomjiaaDoor
open Go.RowKit
theorem g0_get (l : List UInt32) (k : Nat) (h : k < l.length) : g0 l k = l[k] := by simp [g0, h]
theorem g0_of (l m : List UInt32) (i j : Nat) (h : l[i]? = m[j]?) : g0 l i = g0 m j := by unfold g0; rw [List.getD_eq_getElem?_getD, List.getD_eq_getElem?_getD, h]
theorem more_g0 (f : List UInt32) (n m i : Nat) (hn : n ≤ m) (hi : i < f.length + n) : g0 (more f n) i = g0 (more f m) i := by
  obtain ⟨k, rfl⟩ : ∃ k, m = n + k := ⟨m - n, by omega⟩
  exact g0_of _ _ _ _ (more_keep f n k i hi).symm
theorem more_next (f : List UInt32) (hf : f.length = 16) (t : Nat) (h1 : 16 ≤ t) (h2 : t < 64) :
    g0 (more f 48) t = sm1 (g0 (more f 48) (t - 2)) + g0 (more f 48) (t - 7) + sm0 (g0 (more f 48) (t - 15)) + g0 (more f 48) (t - 16) := by
  obtain ⟨n, rfl⟩ : ∃ n, t = 16 + n := ⟨t - 16, by omega⟩
  have hl : (more f n).length = 16 + n := by rw [more_length, hf]
  have e1 : g0 (more f 48) (16 + n) = nxt (more f n) := by
    rw [← more_g0 f (n + 1) 48 (16 + n) (by omega) (by omega)]
    unfold g0
    rw [List.getD_eq_getElem?_getD]
    simp only [more]
    rw [List.getElem?_append_right (by omega), hl]
    simp
  rw [e1]
  unfold nxt
  rw [hl]
  rw [more_g0 f n 48 _ (by omega) (by omega : 16 + n - 2 < _), more_g0 f n 48 _ (by omega) (by omega : 16 + n - 7 < _), more_g0 f n 48 _ (by omega) (by omega : 16 + n - 15 < _), more_g0 f n 48 _ (by omega) (by omega : 16 + n - 16 < _)]
/-- The ring, ahead of the t-th word. -/
structure Ring (f : List UInt32) (t : Nat) (R : List UInt32) : Prop where
  len : R.length = 16
  at_ : ∀ j, j < max t 16 → max t 16 ≤ j + 16 → g0 R (j % 16) = g0 (more f 48) j
def ringW (t : Nat) (R : List UInt32) : UInt32 := if t < 16 then g0 R t else g0 R (t % 16) + (sm1 (g0 R ((t - 2) % 16)) + g0 R ((t - 7) % 16) + sm0 (g0 R ((t - 15) % 16)))
def ringL (t : Nat) (R : List UInt32) : List UInt32 := if t < 16 then R else R.set (t % 16) (ringW t R)
theorem Ring.start (f : List UInt32) (hf : f.length = 16) : Ring f 0 f := ⟨hf, fun j h1 h2 => by
  have : max 0 16 = 16 := rfl
  rw [this] at h1
  rw [Nat.mod_eq_of_lt h1]
  exact more_g0 f 0 48 j (by omega) (by omega)⟩
theorem Ring.word {f : List UInt32} {t : Nat} {R : List UInt32} (h : Ring f t R) (hf : f.length = 16) (ht : t < 64) : ringW t R = g0 (more f 48) t := by
  unfold ringW
  split
  · rename_i h16
    have := h.at_ t (by omega) (by omega)
    rwa [Nat.mod_eq_of_lt h16] at this
  · rename_i h16
    have e0 := h.at_ (t - 16) (by omega) (by omega)
    rw [show (t - 16) % 16 = t % 16 by omega] at e0
    rw [e0, h.at_ (t - 2) (by omega) (by omega), h.at_ (t - 7) (by omega) (by omega), h.at_ (t - 15) (by omega) (by omega), more_next f hf t (by omega) ht, UInt32.add_comm]
theorem Ring.next {f : List UInt32} {t : Nat} {R : List UInt32} (h : Ring f t R) (hf : f.length = 16) (ht : t < 64) : Ring f (t + 1) (ringL t R) := by
  have hw := h.word hf ht
  unfold ringL
  split
  · rename_i h16
    refine ⟨h.len, fun j h1 h2 => h.at_ j (by omega) (by omega)⟩
  · rename_i h16
    refine ⟨by rw [List.length_set]; exact h.len, fun j h1 h2 => ?_⟩
    by_cases hj : j = t
    · subst hj
      rw [g0_set _ _ _ (by rw [h.len]; omega), hw]
    · have hne : t % 16 ≠ j % 16 := by omega
      rw [← h.at_ j (by omega) (by omega)]
      exact g0_of _ _ _ _ (by rw [List.getElem?_set_ne hne])
theorem word_c (g t : Nat) (L : List UInt32) (w : World) (hL : L.length = 16) (ht : t < 64) (D0 : Holds w g 82 (L.map wd)) :
    Calls Tryd.prog 49 #[.pointer (some ⟨g, 0, none⟩), .int .i64 (t : Int)] w fun e w' => e = .returned (wd (ringW t L)) ∧ Holds w' g 82 ((ringL t L).map wd) ∧ Mod [g] w w' := by
  unfold ringL ringW
  by_cases h : t < 16
  · rw [if_pos h, if_pos h]
    exact (word_lo g t L w hL h D0).mono fun e w' ⟨h1, h2⟩ => ⟨h1, by rw [h2]; exact D0, by rw [h2]; exact Mod.refl _ _⟩
  · rw [if_neg h, if_neg h]
    exact word_hi g t L w hL (by omega) ht D0
/-- The eight numbers, ahead of the t-th step. -/
structure Eight (h xs : List UInt32) (t : Nat) (L : List UInt32) : Prop where
  len : L.length = 8
  at_ : ∀ k, k < 8 → g0 L (plc k t) = g0 (steps h (xs.take t)) k
theorem Eight.start (h xs : List UInt32) (hh : h.length = 8) : Eight h xs 0 h := ⟨hh, fun k hk => by
  have : plc k 0 = k := by unfold plc; omega
  rw [this]; rfl⟩
theorem stepL_length (t : Nat) (x : UInt32) (L : List UInt32) : (stepL t x L).length = L.length := by unfold stepL; simp
theorem g0_set_ne (L : List UInt32) (i j : Nat) (y : UInt32) (h : i ≠ j) : g0 (L.set i y) j = g0 L j := g0_of _ _ _ _ (by rw [List.getElem?_set_ne h])
theorem Eight.next {h xs : List UInt32} {t : Nat} {L : List UInt32} (E : Eight h xs t L) (ht : t < xs.length) : Eight h xs (t + 1) (stepL t (g0 xs t) L) := by
  refine ⟨by rw [stepL_length]; exact E.len, fun k hk => ?_⟩
  have hx : xs.take (t + 1) = xs.take t ++ [g0 xs t] := by rw [List.take_succ_eq_append_getElem ht, g0_get xs t ht]
  rw [hx, steps_snoc]
  have a0 := E.at_ 0 (by omega)
  have a1 := E.at_ 1 (by omega)
  have a2 := E.at_ 2 (by omega)
  have a3 := E.at_ 3 (by omega)
  have a4 := E.at_ 4 (by omega)
  have a5 := E.at_ 5 (by omega)
  have a6 := E.at_ 6 (by omega)
  have a7 := E.at_ 7 (by omega)
  have hl := E.len
  unfold stepL
  rw [a0, a1, a2, a3, a4, a5, a6, a7]
  generalize steps h (xs.take t) = r at *
  have p : ∀ k, plc k t < 8 := fun k => by unfold plc; omega
  have h37 : plc 3 t ≠ plc 7 t := by unfold plc; omega
  obtain rfl | rfl | rfl | rfl | rfl | rfl | rfl | rfl : k = 0 ∨ k = 1 ∨ k = 2 ∨ k = 3 ∨ k = 4 ∨ k = 5 ∨ k = 6 ∨ k = 7 := by omega
  · rw [show plc 0 (t + 1) = plc 7 t by unfold plc; omega, g0_set _ _ _ (by rw [List.length_set, hl]; exact p 7)]; rfl
  · rw [show plc 1 (t + 1) = plc 0 t by unfold plc; omega, g0_set_ne _ _ _ _ (by unfold plc; omega), g0_set_ne _ _ _ _ (by unfold plc; omega), a0]; rfl
  · rw [show plc 2 (t + 1) = plc 1 t by unfold plc; omega, g0_set_ne _ _ _ _ (by unfold plc; omega), g0_set_ne _ _ _ _ (by unfold plc; omega), a1]; rfl
  · rw [show plc 3 (t + 1) = plc 2 t by unfold plc; omega, g0_set_ne _ _ _ _ (by unfold plc; omega), g0_set_ne _ _ _ _ (by unfold plc; omega), a2]; rfl
  · rw [show plc 4 (t + 1) = plc 3 t by unfold plc; omega, g0_set_ne _ _ _ _ h37.symm, g0_set _ _ _ (by rw [hl]; exact p 3)]; rfl
  · rw [show plc 5 (t + 1) = plc 4 t by unfold plc; omega, g0_set_ne _ _ _ _ (by unfold plc; omega), g0_set_ne _ _ _ _ (by unfold plc; omega), a4]; rfl
  · rw [show plc 6 (t + 1) = plc 5 t by unfold plc; omega, g0_set_ne _ _ _ _ (by unfold plc; omega), g0_set_ne _ _ _ _ (by unfold plc; omega), a5]; rfl
  · rw [show plc 7 (t + 1) = plc 6 t by unfold plc; omega, g0_set_ne _ _ _ _ (by unfold plc; omega), g0_set_ne _ _ _ _ (by unfold plc; omega), a6]; rfl
theorem sums_length (c f : List UInt32) (hc : c.length = 64) (hf : f.length = 16) : (sums c f).length = 64 := by simp [sums, more_length, hc, hf]
theorem sums_at (c f : List UInt32) (t : Nat) (hc : c.length = 64) (hf : f.length = 16) (ht : t < 64) : g0 (sums c f) t = g0 c t + g0 (more f 48) t := by
  rw [g0_get _ _ (by rw [sums_length c f hc hf]; exact ht), g0_get _ _ (by omega), g0_get _ _ (by rw [more_length]; omega)]
  simp [sums]
/-- So many of the eight are added. -/
structure Added (h r : List UInt32) (k : Nat) (H : List UInt32) : Prop where
  len : H.length = 8
  at_ : ∀ i, i < 8 → g0 H i = if i < k then g0 h i + g0 r i else g0 h i
theorem Added.start (h r : List UInt32) (hh : h.length = 8) : Added h r 0 h := ⟨hh, fun i _ => by rw [if_neg (by omega)]⟩
theorem Added.next {h r : List UInt32} {k : Nat} {H : List UInt32} (A : Added h r k H) (hk : k < 8) : Added h r (k + 1) (H.set k (g0 H k + g0 r k)) := by
  refine ⟨by rw [List.length_set]; exact A.len, fun i hi => ?_⟩
  by_cases hik : i = k
  · subst hik
    rw [g0_set _ _ _ (by rw [A.len]; exact hi), if_pos (by omega), A.at_ i hi, if_neg (by omega)]
  · rw [g0_set_ne _ _ _ _ (Ne.symm hik), A.at_ i hi]
    by_cases hlt : i < k
    · rw [if_pos hlt, if_pos (by omega)]
    · rw [if_neg hlt, if_neg (by omega)]
theorem Added.all {h r H : List UInt32} (A : Added h r 8 H) (hh : h.length = 8) (hr : r.length = 8) : H = List.zipWith (· + ·) h r := by
  apply List.ext_getElem
  · simp [A.len, hh, hr]
  · intro i h1 h2
    have := A.at_ i (by rw [← A.len]; exact h1)
    rw [if_pos (by rw [A.len] at h1; exact h1), g0_get _ _ h1, g0_get _ _ (by rw [A.len] at h1; omega), g0_get _ _ (by rw [A.len] at h1; omega)] at this
    simp [this]
end Go.Proofs.YtdolihecjomjiaaDoor
