/-
  What 64 digits say: pure facts. My own work.
-/
import Derived.Test.YtgojheoelcmcpaaDoorWakes
namespace Go.Proofs.YtgojheoelcmcpaaDoor
open Go.RowKit
/-- The value of a digit; 16: it is none. -/
def dv (b : UInt8) : Nat := if 48 ≤ b.toNat ∧ b.toNat ≤ 57 then b.toNat - 48 else if 97 ≤ b.toNat ∧ b.toNat ≤ 102 then b.toNat - 87 else 16
theorem all_u8 (p : UInt8 → Bool) (h : (List.range 256).all (fun n => p (UInt8.ofNat n)) = true) (b : UInt8) : p b = true := by
  have := List.all_eq_true.1 h b.toNat (List.mem_range.2 b.toNat_lt)
  simpa using this
theorem dv_le (b : UInt8) : dv b ≤ 16 := by
  have := b.toNat_lt
  unfold dv; split
  · omega
  · split <;> omega
theorem dv_dg (n : Nat) (h : n < 16) : dv (dg n) = n := by
  have := List.all_eq_true.1 (show (List.range 16).all (fun n => dv (dg n) == n) = true by decide +kernel) n (List.mem_range.2 h)
  simpa using this
theorem dg_dv (b : UInt8) (h : dv b < 16) : dg (dv b) = b := by
  have := all_u8 (fun b => decide (dv b < 16 → dg (dv b) = b)) (by decide +kernel) b
  simpa using (of_decide_eq_true this) h
theorem index_dgs (b : UInt8) : Lib.indexByte dgs.data.toList b = if dv b < 16 then (dv b : Int) else -1 := by
  have := all_u8 (fun b => decide (Lib.indexByte dgs.data.toList b = if dv b < 16 then (dv b : Int) else -1)) (by decide +kernel) b
  exact of_decide_eq_true this
theorem dg_eq (b : UInt8) (n : Nat) (h : n < 16) : (b = dg n) ↔ dv b = n := by
  constructor
  · rintro rfl; exact dv_dg n h
  · rintro rfl; exact (dg_dv b h).symm
/-- Byte j of what the first k digits say. -/
def pat (s : List UInt8) (k j : Nat) : Nat := if 2 * j + 2 ≤ k then 16 * dv (s.getD (2 * j) 0) + dv (s.getD (2 * j + 1) 0) else if 2 * j + 1 ≤ k then dv (s.getD (2 * j) 0) else 0
def pid (s : List UInt8) (k : Nat) : List UInt8 := (List.range 32).map (fun j => UInt8.ofNat (pat s k j))
theorem pid_length (s : List UInt8) (k : Nat) : (pid s k).length = 32 := by simp [pid]
theorem pid_at (s : List UInt8) (k j : Nat) (hj : j < 32) : (pid s k).getD j 0 = UInt8.ofNat (pat s k j) := by
  simp [pid, List.getD_eq_getElem?_getD, hj]
theorem pid_zero (s : List UInt8) : pid s 0 = zid := by
  unfold pid zid
  refine List.eq_replicate_iff.2 ⟨by simp, fun b hb => ?_⟩
  obtain ⟨j, _, rfl⟩ := List.mem_map.1 hb
  simp [pat]
theorem at_getD (l : List UInt8) (i : Nat) (h : i < l.length) : l[i] = l.getD i 0 := by
  rw [List.getD_eq_getElem?_getD, List.getElem?_eq_getElem h]; rfl
/-- The digit ahead in the same byte: 0 if there is none. -/
def ahead (s : List UInt8) (k : Nat) : Nat := pat s k (k / 2)
theorem ahead_lt (s : List UInt8) (k : Nat) (h : ∀ j, j < k → dv (s.getD j 0) < 16) : ahead s k < 16 := by
  unfold ahead pat
  rw [if_neg (by omega)]
  split
  · exact h _ (by omega)
  · omega
theorem pid_step (s : List UInt8) (k : Nat) (hk : k < 64) : (pid s k).set (k / 2) (UInt8.ofNat (16 * ahead s k + dv (s.getD k 0))) = pid s (k + 1) := by
  apply List.ext_getElem
  · simp [pid_length]
  · intro i h1 h2
    have hi : i < 32 := by rw [pid_length] at h2; exact h2
    rw [List.getElem_set]
    by_cases e : k / 2 = i
    · subst e
      simp only [if_true, pid, List.getElem_map, List.getElem_range]
      congr 1
      unfold ahead pat
      rcases Nat.mod_two_eq_zero_or_one k with h0 | h0
      · obtain ⟨m, rfl⟩ : ∃ m, k = 2 * m := ⟨k / 2, by omega⟩
        have hm : 2 * m / 2 = m := by omega
        rw [hm, if_neg (by omega), if_neg (by omega), if_neg (by omega), if_pos (by omega)]
        omega
      · obtain ⟨m, rfl⟩ : ∃ m, k = 2 * m + 1 := ⟨k / 2, by omega⟩
        have hm : (2 * m + 1) / 2 = m := by omega
        rw [hm, if_neg (by omega), if_pos (by omega), if_pos (by omega)]
    · rw [if_neg e]
      simp only [pid, List.getElem_map, List.getElem_range]
      congr 1
      unfold pat
      have a1 : (2 * i + 2 ≤ k) = (2 * i + 2 ≤ k + 1) := by apply propext; constructor <;> intro h <;> omega
      have a2 : (2 * i + 1 ≤ k) = (2 * i + 1 ≤ k + 1) := by apply propext; constructor <;> intro h <;> omega
      simp only [a1, a2]
theorem or_digit (a d : Nat) (ha : a < 16) (hd : d < 16) : bits .or .u8 (IntKind.u8.wrap ((a : Int) * 16)) (d : Int) = ((16 * a + d : Nat) : Int) := by
  have := List.all_eq_true.1 (List.all_eq_true.1 (show (List.range 16).all (fun a => (List.range 16).all (fun d => decide (bits .or .u8 (IntKind.u8.wrap ((a : Int) * 16)) (d : Int) = ((16 * a + d : Nat) : Int)))) = true by decide +kernel) a (List.mem_range.2 ha)) d (List.mem_range.2 hd)
  exact of_decide_eq_true this
/-- May these signs be a digest's? -/
def good (s : List UInt8) : Bool := s.length == 64 && s.all (fun b => decide (dv b < 16))
theorem good_len {s : List UInt8} (h : good s = true) : s.length = 64 := by simp [good] at h; exact h.1
theorem good_at {s : List UInt8} (h : good s = true) (j : Nat) (hj : j < 64) : dv (s.getD j 0) < 16 := by
  have hl := good_len h
  simp [good] at h
  have : s.getD j 0 = s[j] := by simp [List.getD_eq_getElem?_getD, hl, hj]
  rw [this]
  exact h.2 _ (List.getElem_mem _)
theorem good_of {s : List UInt8} (hl : s.length = 64) (h : ∀ j, j < 64 → dv (s.getD j 0) < 16) : good s = true := by
  simp only [good, hl, BEq.rfl, Bool.true_and, List.all_eq_true, decide_eq_true_eq]
  intro b hb
  obtain ⟨i, hi, rfl⟩ := List.getElem_of_mem hb
  have := h i (by omega)
  rwa [List.getD_eq_getElem?_getD, List.getElem?_eq_getElem hi] at this
theorem bad_at {s : List UInt8} (j : Nat) (hj : j < 64) (h : ¬ dv (s.getD j 0) < 16) : good s = false := by
  cases hg : good s with
  | false => rfl
  | true => exact absurd (good_at hg j hj) h
theorem bad_len {s : List UInt8} (h : s.length ≠ 64) : good s = false := by
  cases hg : good s with
  | false => rfl
  | true => exact absurd (good_len hg) h
/-- The digest of a text; noughts, if it is none's. -/
def parsed (s : List UInt8) : List UInt8 := if good s then pid s 64 else zid
theorem parsed_length (s : List UInt8) : (parsed s).length = 32 := by
  unfold parsed; split
  · exact pid_length _ _
  · rfl
theorem textN_cons (x : UInt8) (l : List UInt8) : textN (x :: l) = dg (x.toNat / 16) :: dg (x.toNat % 16) :: textN l := by simp [textN, dg2]
theorem textN_even : ∀ (l : List UInt8) (j : Nat), j < l.length → (textN l).getD (2 * j) 0 = dg ((l.getD j 0).toNat / 16)
  | [], j, h => by simp at h
  | x :: l, 0, _ => by rw [textN_cons]; rfl
  | x :: l, j + 1, h => by
    rw [textN_cons, show 2 * (j + 1) = 2 * j + 1 + 1 by omega, List.getD_cons_succ, List.getD_cons_succ, List.getD_cons_succ]
    exact textN_even l j (by simpa using h)
theorem textN_odd : ∀ (l : List UInt8) (j : Nat), j < l.length → (textN l).getD (2 * j + 1) 0 = dg ((l.getD j 0).toNat % 16)
  | [], j, h => by simp at h
  | x :: l, 0, _ => by rw [textN_cons]; rfl
  | x :: l, j + 1, h => by
    rw [textN_cons, show 2 * (j + 1) + 1 = 2 * j + 1 + 1 + 1 by omega, List.getD_cons_succ, List.getD_cons_succ, List.getD_cons_succ]
    exact textN_odd l j (by simpa using h)
theorem good_text (l : List UInt8) (h : l.length = 32) : good (textN l) = true := by
  refine good_of (by rw [textN_length, h]) (fun j hj => ?_)
  rcases Nat.mod_two_eq_zero_or_one j with h0 | h0
  · obtain ⟨m, rfl⟩ : ∃ m, j = 2 * m := ⟨j / 2, by omega⟩
    have := (l.getD m 0).toNat_lt
    rw [textN_even l m (by omega), dv_dg _ (by omega)]; omega
  · obtain ⟨m, rfl⟩ : ∃ m, j = 2 * m + 1 := ⟨j / 2, by omega⟩
    rw [textN_odd l m (by omega), dv_dg _ (by omega)]; omega
theorem parsed_text (l : List UInt8) (h : l.length = 32) : parsed (textN l) = l := by
  unfold parsed
  rw [good_text l h, if_pos rfl]
  apply List.ext_getElem
  · rw [pid_length, h]
  · intro i h1 h2
    have hi : i < 32 := by rw [pid_length] at h1; exact h1
    simp only [pid, List.getElem_map, List.getElem_range]
    have e : l.getD i 0 = l[i] := by simp [List.getD_eq_getElem?_getD, h2]
    have := (l[i]).toNat_lt
    unfold pat
    rw [if_pos (by omega), textN_even l i (by omega), textN_odd l i (by omega), e, dv_dg _ (by omega), dv_dg _ (by omega)]
    rw [show 16 * (l[i].toNat / 16) + l[i].toNat % 16 = l[i].toNat by omega]
    simp
theorem text_parsed (s : List UInt8) (h : good s = true) : textN (parsed s) = s := by
  unfold parsed
  rw [h, if_pos rfl]
  have hl := good_len h
  apply List.ext_getElem
  · rw [textN_length, pid_length, hl]
  · intro i h1 h2
    have hi : i < 64 := by rw [hl] at h2; exact h2
    rw [at_getD _ i h1, at_getD _ i h2]
    have d0 := good_at h
    rcases Nat.mod_two_eq_zero_or_one i with h0 | h0
    · obtain ⟨m, rfl⟩ : ∃ m, i = 2 * m := ⟨i / 2, by omega⟩
      have d1 := d0 (2 * m) (by omega)
      have d2 := d0 (2 * m + 1) (by omega)
      rw [textN_even _ m (by rw [pid_length]; omega), pid_at _ _ _ (by omega)]
      unfold pat
      rw [if_pos (by omega), UInt8.toNat_ofNat', Nat.mod_eq_of_lt (by omega), show (16 * dv (s.getD (2 * m) 0) + dv (s.getD (2 * m + 1) 0)) / 16 = dv (s.getD (2 * m) 0) by omega, dg_dv _ d1]
    · obtain ⟨m, rfl⟩ : ∃ m, i = 2 * m + 1 := ⟨i / 2, by omega⟩
      have d1 := d0 (2 * m) (by omega)
      have d2 := d0 (2 * m + 1) (by omega)
      rw [textN_odd _ m (by rw [pid_length]; omega), pid_at _ _ _ (by omega)]
      unfold pat
      rw [if_pos (by omega), UInt8.toNat_ofNat', Nat.mod_eq_of_lt (show 16 * dv (s.getD (2 * m) 0) + dv (s.getD (2 * m + 1) 0) < 2 ^ 8 by omega), show (16 * dv (s.getD (2 * m) 0) + dv (s.getD (2 * m + 1) 0)) % 16 = dv (s.getD (2 * m + 1) 0) by omega, dg_dv _ d2]
/-- One sign of a text is another one. -/
theorem good_set (s : List UInt8) (h : good s = true) (at' : Nat) (hat : at' < 64) (b : UInt8) : good (s.set at' b) = decide (dv b < 16) := by
  have hl := good_len h
  by_cases hb : dv b < 16
  · rw [decide_eq_true hb]
    refine good_of (by simp [hl]) (fun j hj => ?_)
    rw [List.getD_eq_getElem?_getD, List.getElem?_set]
    by_cases e : at' = j
    · subst e; simp [hl, hat, hb]
    · rw [if_neg e, ← List.getD_eq_getElem?_getD]; exact good_at h j hj
  · rw [decide_eq_false hb]
    refine bad_at at' hat ?_
    rw [List.getD_eq_getElem?_getD, List.getElem?_set]
    simp [hl, hat, hb]
end Go.Proofs.YtgojheoelcmcpaaDoor
