/-
  The document's Right; rows of terms of the call's own. My own work.
-/
import Derived.Test.YtchanildogjhgaaDoorUj
import Derived.Test.YtchanildogjhgaaDoorTp
namespace Go.Proofs.YtchanildogjhgaaDoor
section
open Go.RowKit Go.Shelf
set_option linter.unusedVariables false
set_option linter.unusedSimpArgs false
set_option maxRecDepth 1000000 in
set_option maxHeartbeats 2000000 in
theorem rright_c (t : Tm) (cs : List Value) (S : Nat → Prop) (w : World) (hT : TIs w S t cs) : Calls Tryd.prog 29 #[.agg cs.toArray] w fun e w' => e = .returned (.bool t.right) ∧ Mod [] w w' := by
  have hcs := hT.len
  have RS := fun v (mv : Mod [] w v) => rsize_all _ t cs _ 1200 60 v (Nat.le_refl _) (hT.keep mv (by simp)) (by decide) (by decide) (by decide) (by decide)
  have hz := sz_right t
  rw [show (61 : Int) - 60 = 1 from rfl, hz] at RS
  obtain ⟨z, hzz⟩ : ∃ z, z = Tm.sz t 1 1200 := ⟨_, rfl⟩
  rw [← hzz] at RS
  obtain ⟨R, hR⟩ : ∃ R, R = t.right := ⟨_, rfl⟩
  rw [← hR] at RS ⊢
  clear hz hzz hR hT
  go_enter Tryd.func29, Tryd.ntmps29
  go_wp2_with (first
    | (with_reducible refine wpList_boxes (o := ⟨some 1, .box 24 (.tmp 0), _, _, _, _⟩) rfl 24 (.tmp 0) rfl _ rfl cs rfl ?_; intro w1 hb1 mm z1
       obtain ⟨b1, hq1⟩ : ∃ b, b = w.heap.size := ⟨_, rfl⟩
       rw [← hq1] at hb1 ⊢
       clear hq1 z1)
    | (with_reducible refine wpList_loads (o := ⟨some 6, .load 24 (.tmp 1), _, _, _, _⟩) rfl 24 (.tmp 1) rfl b1 (0) (cs) rfl (Cells.of_holds hb1) _ Tryd.underlying24 rfl (size24' hcs) (.agg (cs).toArray) rfl ?_)
    | (go_at_call 56; with_reducible refine Calls.mono (RS _ mm) ?_
       rintro e wz ⟨rfl, mz⟩
       replace mm := mm.then mz
       clear mz))
  go_ret
  exact ⟨rfl, mm⟩
end
section
open Go.RowKit Go.Shelf
set_option linter.unusedVariables false
set_option linter.unusedSimpArgs false
/-- The cells of one term. -/
abbrev Q5 := { l : List Value // l.length = 5 ∧ ∀ v ∈ l, v.oneCell' = true }
def f5 (x : Q5) : List Value := x.1
theorem f5_len (x : Q5) : (f5 x).length = 5 := x.2.1
theorem f5_one (x : Q5) : ∀ v ∈ f5 x, v.oneCell' = true := x.2.2
/-- A row of terms of the call's own: what is beneath them lies in blocks of S. -/
structure RowO (w : World) (S : Nat → Prop) (A : Option Addr) (c : Nat) (l : List Tm) (xs : List Q5) : Prop where
  own : OwnG f5 24 5 w A c xs
  len : xs.length = l.length
  tis : ∀ i (h : i < l.length) (h' : i < xs.length), TIs w S l[i] xs[i].1
  sep : ∀ g, S g → g < w.heap.size ∧ g ∉ blk A
theorem RowO.nil (w : World) : RowO w (fun _ => False) none 0 [] [] := ⟨OwnG.nil f5 24 5 w, rfl, fun i h => by simp at h, fun g h => h.elim⟩
theorem RowO.keep {w v : World} {S : Nat → Prop} {A : Option Addr} {c : Nat} {l : List Tm} {xs : List Q5} {ms : List Nat} (h : RowO w S A c l xs) (m : Mod ms w v) (h1 : ∀ i ∈ blk A, i ∉ ms) (h2 : ∀ g, S g → g ∉ ms) : RowO v S A c l xs :=
  ⟨h.own.keep m (fun a ha => h1 _ (by subst ha; simp [blk])), h.len, fun i h1 h3 => (h.tis i h1 h3).keep m h2, fun g hg => ⟨Nat.lt_of_lt_of_le (h.sep g hg).1 m.size, (h.sep g hg).2⟩⟩
theorem RowO.lt {w : World} {S : Nat → Prop} {A : Option Addr} {c : Nat} {l : List Tm} {xs : List Q5} (h : RowO w S A c l xs) : ∀ i ∈ blk A, i < w.heap.size := fun i hi => by
  cases A with
  | none => simp [blk] at hi
  | some a => simp [blk] at hi; subst hi; exact h.own.lt a rfl
/-- One more behind it. -/
theorem RowO.app {w v : World} {S : Nat → Prop} {A A' : Option Addr} {c c' : Nat} {l : List Tm} {xs : List Q5} (h : RowO w S A c l xs) {t : Tm} {cs : List Value} (ht : TIs w S t cs) (h5 : cs.length = 5 ∧ ∀ v ∈ cs, v.oneCell' = true) (ho : OwnG f5 24 5 v A' c' (xs ++ [⟨cs, h5⟩])) (m : Mod (blk A) w v) (hb : ∀ a, A' = some a → a.block ∈ blk A ∨ w.heap.size ≤ a.block) :
    RowO v S A' c' (l ++ [t]) (xs ++ [⟨cs, h5⟩]) := by
  have hs : ∀ g, S g → g ∉ blk A := fun g hg => (h.sep g hg).2
  refine ⟨ho, (by rw [List.length_append, List.length_append, h.len]; rfl), fun i h1 h2 => ?_, fun g hg => ⟨Nat.lt_of_lt_of_le (h.sep g hg).1 m.size, fun hi => ?_⟩⟩
  · by_cases hi : i < l.length
    · have hi' : i < xs.length := by rw [h.len]; exact hi
      rw [List.getElem_append_left hi, List.getElem_append_left hi']
      exact (h.tis i hi hi').keep m hs
    · have e1 : i = l.length := by simp at h1; omega
      subst e1
      have q1 : (l ++ [t])[l.length]'h1 = t := by simp
      have q2 : (xs ++ [(⟨cs, h5⟩ : Q5)])[l.length]'h2 = ⟨cs, h5⟩ := by
        rw [List.getElem_append_right (by rw [h.len]; exact Nat.le_refl _)]
        simp [h.len]
      rw [q1, q2]
      exact ht.keep m hs
  · cases A' with
    | none => simp [blk] at hi
    | some a =>
      simp [blk] at hi
      have h1 := h.sep g hg
      rcases hb a rfl with h2 | h2
      · rw [← hi] at h2; exact h1.2 h2
      · omega
theorem RowO.grow {w : World} {S S' : Nat → Prop} {A : Option Addr} {c : Nat} {l : List Tm} {xs : List Q5} (h : RowO w S A c l xs) (hS : ∀ g, S g → S' g) (hs : ∀ g, S' g → g < w.heap.size ∧ g ∉ blk A) : RowO w S' A c l xs :=
  ⟨h.own, h.len, fun i h1 h2 => (h.tis i h1 h2).mono hS, hs⟩
theorem f5_flat (xs : List Q5) : (xs.map (·.1)).flatMap id = xs.flatMap f5 := by rw [List.flatMap_map]; rfl
theorem RowO.row {w : World} {S : Nat → Prop} {A : Option Addr} {c : Nat} {l : List Tm} {xs : List Q5} (h : RowO w S A c l xs) : RowT w (fun g => S g ∨ g ∈ blk A) A (xs.map (·.1)) l := by
  refine ⟨fun a ha _ => .inr (by subst ha; simp [blk]), by simp [h.len], fun v hv => ?_, ?_, fun i h1 h2 => ?_⟩
  · obtain ⟨x, _, rfl⟩ := List.mem_map.1 hv
    exact x.2.1
  · rw [f5_flat]; exact h.own.cells
  · have h3 : i < xs.length := by simpa using h2
    rw [List.getElem_map]
    exact (h.tis i h1 h3).mono fun g hg => .inl hg
theorem RowO.fits {w : World} {S : Nat → Prop} {A : Option Addr} {c : Nat} {l : List Tm} {xs : List Q5} (h : RowO w S A c l xs) : l.length ≤ c ∧ c ≤ maxLen := by
  have := h.own.fits
  rw [h.len] at this
  exact this
theorem copy_end {w wr v6 u9 : World} {b1 b2 len c : Nat} {k u n : Int} {s : ByteArray} {S : Nat → Prop} {A : Option Addr} {l : List Tm} {xs : List Q5} (h : RowO wr S A c l xs) (hS : ∀ g, S g ∨ g ∈ blk A → b2 < g) (h1 : b1 = w.heap.size) (h2 : b1 < b2) (m6 : Mod [b1] wr v6) (m9 : Mod [b2] v6 u9) (mm : Mod [] w wr) (hl : len = l.length) (hs : s.size ≤ 140737488355328) (hlm : len ≤ 2199023255552) :
    TIs u9 (Btw w.heap.size u9.heap.size) (.mk k u n s l) (tmc k u n s A len c) ∧ Mod [] w u9 := by
  subst hl
  have q0 := h.row
  have hlt := h.lt
  have q1 := q0.keep m6 (fun g hg hm => by simp at hm; have := hS g hg; omega)
  have q2 := q1.keep m9 (fun g hg hm => by simp at hm; have := hS g hg; omega)
  have q3 := q2.mono (S' := Btw w.heap.size u9.heap.size) (fun g hg => ⟨by have := hS g hg; omega, Nat.lt_of_lt_of_le (hg.elim (fun hg => (h.sep g hg).1) (fun hg => hlt g hg)) (Nat.le_trans m6.size m9.size)⟩)
  refine ⟨q3.tis k u n s c hs h.fits.1 h.fits.2 hlm, ?_⟩
  exact far_mod (far_mod mm m6 (fun i hi => by simp at hi; omega)) m9 (fun i hi => by simp at hi; omega)
theorem copy_step {wr w5 w6 w7 : World} {R R' : Option Addr} {c c' b2 j : Nat} {S : Nat → Prop} {l : List Tm} {xs : List Q5} {cs : List Value} (hj : j < l.length) (h : RowO wr S R c (l.take j) xs) (hS : ∀ g, S g ∨ g ∈ blk R → b2 < g) (hb : b2 < wr.heap.size) (ht : TIs w5 (Btw wr.heap.size w5.heap.size) l[j] cs) (m5 : Mod [] wr w5) (m6 : Mod [] w5 w6)
    (h5 : cs.length = 5 ∧ ∀ v ∈ cs, v.oneCell' = true) (ho : OwnG f5 24 5 w7 R' c' (xs ++ [⟨cs, h5⟩])) (m7 : Mod (blk R) w6 w7) (hbl : ∀ a, R' = some a → a.block ∈ blk R ∨ w6.heap.size ≤ a.block) :
    RowO w7 (fun g => S g ∨ Btw wr.heap.size w5.heap.size g) R' c' (l.take (j + 1)) (xs ++ [⟨cs, h5⟩]) ∧ (∀ g, (S g ∨ Btw wr.heap.size w5.heap.size g) ∨ g ∈ blk R' → b2 < g) := by
  have hlt := h.lt
  have q5 := (h.keep m5 (by simp) (by simp)).keep m6 (by simp) (by simp)
  have q6 : RowO w6 (fun g => S g ∨ Btw wr.heap.size w5.heap.size g) R c (l.take j) xs := q5.grow (fun g hg => .inl hg) (fun g hg => by
    rcases hg with hg | hg
    · exact q5.sep g hg
    · exact ⟨Nat.lt_of_lt_of_le hg.2 m6.size, fun hi => by have := hlt g hi; have := hg.1; omega⟩)
  rw [List.take_succ_eq_append_getElem hj]
  refine ⟨q6.app ((ht.keep m6 (by simp)).mono fun g hg => .inr hg) h5 ho m7 hbl, fun g hg => ?_⟩
  rcases hg with (hg | hg) | hg
  · exact hS g (.inl hg)
  · have := hg.1; omega
  · cases R' with
    | none => simp [blk] at hg
    | some a =>
      simp [blk] at hg
      rcases hbl a rfl with h2 | h2
      · exact hS g (.inr (by rw [hg]; exact h2))
      · have := m5.size; have := m6.size; omega
end
end Go.Proofs.YtchanildogjhgaaDoor
