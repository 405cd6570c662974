/-
  My own texts Va Vb, one behind the other.
-/
import Derived.Test.YtapafniekmfkaaaDoorUm
import Derived.Test.YtapafniekmfkaaaDoorUf
import Derived.Test.YtapafniekmfkaaaDoorTp
namespace Go.Proofs.YtapafniekmfkaaaDoor
section
open Go.RowKit Go.Shelf
set_option linter.unusedVariables false
set_option linter.unusedSimpArgs false
set_option maxRecDepth 1000000 in
set_option maxHeartbeats 2000000 in
theorem rright_c (t : Tm) (cs : List Value) (S : Nat → Prop) (w : World) (hT : TIs w S t cs) : Calls Tryd.prog 24 #[.agg cs.toArray] w fun e w' => e = .returned (.bool t.right) ∧ Mod [] w w' := by
  have hcs := hT.len
  have RS := fun v (mv : Mod [] w v) => rsize_all _ t cs _ 1200 60 v (Nat.le_refl _) (hT.keep mv (by simp)) (by decide) (by decide) (by decide) (by decide)
  have hz := sz_right t
  rw [show (61 : Int) - 60 = 1 from rfl, hz] at RS
  obtain ⟨z, hzz⟩ : ∃ z, z = Tm.sz t 1 1200 := ⟨_, rfl⟩
  rw [← hzz] at RS
  obtain ⟨R, hR⟩ : ∃ R, R = t.right := ⟨_, rfl⟩
  rw [← hR] at RS ⊢
  clear hz hzz hR hT
  go_enter Tryd.func24, Tryd.ntmps24
  go_wp2_with (first
    | (with_reducible refine wpList_boxes (o := ⟨some 1, .box 24 (.tmp 0), _, _, _, _⟩) rfl 24 (.tmp 0) rfl _ rfl cs rfl ?_; intro w1 hb1 mm z1
       obtain ⟨b1, hq1⟩ : ∃ b, b = w.heap.size := ⟨_, rfl⟩
       rw [← hq1] at hb1 ⊢
       clear hq1 z1)
    | (with_reducible refine wpList_loads (o := ⟨some 6, .load 24 (.tmp 1), _, _, _, _⟩) rfl 24 (.tmp 1) rfl b1 (0) (cs) rfl (Cells.of_holds hb1) _ Tryd.underlying24 rfl (size24' hcs) (.agg (cs).toArray) rfl ?_)
    | (go_at_call 16; with_reducible refine Calls.mono (RS _ mm) ?_
       rintro e wz ⟨rfl, mz⟩
       replace mm := mm.then mz
       clear mz))
  go_ret
  exact ⟨rfl, mm⟩
theorem lessB_take : ∀ (j : Nat) (l k : List UInt8), j ≤ l.length → j ≤ k.length → l.take j = k.take j → Tm.lessB l k = Tm.lessB (l.drop j) (k.drop j)
  | 0, _, _, _, _, _ => rfl
  | j + 1, a :: l, b :: k, h1, h2, h => by
    simp only [List.take_succ_cons, List.cons.injEq] at h
    obtain ⟨rfl, h⟩ := h
    have ih := lessB_take j l k (by simpa using h1) (by simpa using h2) h
    simp [Tm.lessB, ih]
theorem lessB_ne {l k : List UInt8} {j : Nat} (h1 : j < l.length) (h2 : j < k.length) (h : l.take j = k.take j) (hne : l[j] ≠ k[j]) : Tm.lessB l k = decide (l[j].toNat < k[j].toNat) := by
  rw [lessB_take j l k (by omega) (by omega) h, List.drop_eq_getElem_cons h1, List.drop_eq_getElem_cons h2, Tm.lessB]
  simp [hne]
theorem lessB_end {l k : List UInt8} {j : Nat} (h1 : j ≤ l.length) (h2 : j ≤ k.length) (h : l.take j = k.take j) (he : j = l.length ∨ j = k.length) : Tm.lessB l k = decide (l.length < k.length) := by
  rw [lessB_take j l k (by omega) (by omega) h]
  by_cases hl : j < l.length
  · have hk : j = k.length := by omega
    rw [List.drop_eq_getElem_cons hl, List.drop_eq_nil_of_le (by omega : k.length ≤ j)]
    have : ¬ l.length < k.length := by omega
    simp [Tm.lessB, this]
  · rw [List.drop_eq_nil_of_le (by omega : l.length ≤ j)]
    by_cases hk : j < k.length
    · rw [List.drop_eq_getElem_cons hk]
      have : l.length < k.length := by omega
      simp [Tm.lessB, this]
    · rw [List.drop_eq_nil_of_le (by omega : k.length ≤ j)]
      have : ¬ l.length < k.length := by omega
      simp [Tm.lessB, this]
theorem take_eq_next {l k : List UInt8} {j : Nat} (h1 : j < l.length) (h2 : j < k.length) (h : l.take j = k.take j) (he : l[j] = k[j]) : l.take (j + 1) = k.take (j + 1) := by
  rw [List.take_succ_eq_append_getElem h1, List.take_succ_eq_append_getElem h2, h, he]
set_option maxRecDepth 1000000 in
set_option maxHeartbeats 2000000 in
theorem rless_c (A B : Option Addr) (l k : List UInt8) (n m c d : Nat) (w : World) (hn : n = l.length) (hm : m = k.length) (hl : n ≤ maxLen) (hk : m ≤ maxLen) (h : Reads w A l) (h' : Reads w B k) :
    Calls Tryd.prog 26 #[.slice A n c, .slice B m d] w fun e w' => e = .returned (.bool (Tm.lessB l k)) ∧ Mod [] w w' := by
  unfold maxLen at hl hk
  obtain ⟨Z, hZ⟩ : ∃ Z, Z = Tm.lessB l k := ⟨_, rfl⟩
  rw [← hZ]
  have HX := Lib.hid (And.intro hn (And.intro hm (And.intro hZ (And.intro h h'))))
  clear hn hm hZ h h'
  go_enter Tryd.func26, Tryd.ntmps26
  go_wp2
  go_loopw [5] (fun i wr => ∃ j : Nat, j ≤ n ∧ j ≤ m ∧ i = .int .i64 j ∧ l.take j = k.take j ∧ Mod [] w wr) (fun i _ => n - (intOf i).toNat)
  case atStart => exact ⟨0, by omega, by omega, rfl, rfl, Mod.refl _ _⟩
  case round =>
    obtain ⟨j, hjl, hjk, rfl, ht, hmm⟩ := hrel
    by_cases hlt : j < n
    · have b1 : (j : Int) < (n : Int) := by omega
      by_cases hlt' : j < m
      · have b2 : (j : Int) < (m : Int) := by omega
        have g1 : j < l.length := by rw [← HX.out.1]; exact hlt
        have g2 : j < k.length := by rw [← HX.out.2.1]; exact hlt'
        obtain ⟨g, o, rfl, hc⟩ := (HX.out.2.2.2.1.keep hmm (by simp)) j g1
        obtain ⟨g', o', rfl, hc'⟩ := (HX.out.2.2.2.2.keep hmm (by simp)) j g2
        obtain ⟨x, hx⟩ : ∃ x, x = l[j] := ⟨_, rfl⟩
        obtain ⟨y, hy⟩ : ∃ y, y = k[j] := ⟨_, rfl⟩
        rw [← hx] at hc
        rw [← hy] at hc'
        by_cases he : x = y
        · have HT := Lib.hid (take_eq_next g1 g2 ht (by rw [← hx, ← hy]; exact he))
          subst he
          clear ht hx hy
          go_wp2
          go_quiet (fail)
          go_wp2
          exact ⟨⟨j + 1, by omega, by omega, by go_num, HT.out, hmm.then (Mod.drewN [] _ _)⟩, by simp [intOf]; omega⟩
        · have hne : ((x.toNat : Int) == (y.toNat : Int)) = false := by
            rw [beq_eq_false_iff_ne]
            intro hh
            exact he (UInt8.toNat_inj.1 (by omega))
          have hne2 : ((x.toNat : Int) != (y.toNat : Int)) = true := by unfold bne; rw [hne]; rfl
          have HT := Lib.hid (lessB_ne g1 g2 ht (by rw [← hx, ← hy]; exact he))
          rw [← hx, ← hy, ← HX.out.2.2.1] at HT
          have hz : Z = decide (x.toNat < y.toNat) := HT.out
          subst hz
          clear HT ht hx hy he
          go_wp2
          go_quiet (fail)
          obtain ⟨wa, hwa⟩ : ∃ v, v = wr.drewN nq := ⟨_, rfl⟩
          have ma : Mod [] wr wa := by rw [hwa]; exact Mod.drewN [] wr nq
          rw [← hwa]
          replace hc := ma.cell (p := ⟨g, o + j, none⟩) (by simp) hc
          replace hc' := ma.cell (p := ⟨g', o' + j, none⟩) (by simp) hc'
          clear hwa
          go_wp2
          go_quiet (fail)
          go_wp2
          go_ret
          exact ⟨rfl, (hmm.then ma).then (Mod.drewN [] _ _)⟩
      · have b2 : ¬ (j : Int) < (m : Int) := by omega
        have hz : Z = false := by
          rw [HX.out.2.2.1, lessB_end (j := j) (by rw [← HX.out.1]; exact hjl) (by rw [← HX.out.2.1]; exact hjk) ht (.inr (by rw [← HX.out.2.1]; omega)), ← HX.out.1, ← HX.out.2.1]
          exact decide_eq_false (by omega)
        have b3 : ¬ (n : Int) < (m : Int) := by omega
        subst hz
        clear ht
        go_wp2
        go_ret
        exact ⟨rfl, hmm⟩
    · have b1 : ¬ (j : Int) < (n : Int) := by omega
      have hz : Z = decide (n < m) := by
        rw [HX.out.2.2.1, lessB_end (j := j) (by rw [← HX.out.1]; exact hjl) (by rw [← HX.out.2.1]; exact hjk) ht (.inl (by rw [← HX.out.1]; omega)), ← HX.out.1, ← HX.out.2.1]
      clear ht
      by_cases hnm : n < m
      · have b3 : (n : Int) < (m : Int) := by omega
        rw [decide_eq_true hnm] at hz
        subst hz
        go_wp2
        go_ret
        exact ⟨rfl, hmm⟩
      · have b3 : ¬ (n : Int) < (m : Int) := by omega
        rw [decide_eq_false hnm] at hz
        subst hz
        go_wp2
        go_ret
        exact ⟨rfl, hmm⟩
end
section
open Go.RowKit Go.Shelf
set_option linter.unusedVariables false
set_option linter.unusedSimpArgs false
/-- The cells of one term. -/
abbrev Q5 := { l : List Value // l.length = 5 ∧ ∀ v ∈ l, v.oneCell' = true }
def f5 (x : Q5) : List Value := x.1
theorem f5_len (x : Q5) : (f5 x).length = 5 := x.2.1
theorem f5_one (x : Q5) : ∀ v ∈ f5 x, v.oneCell' = true := x.2.2
/-- A row of terms of the call's own: what is beneath them lies in blocks of S. -/
structure RowO (w : World) (S : Nat → Prop) (A : Option Addr) (c : Nat) (l : List Tm) (xs : List Q5) : Prop where
  own : OwnG f5 24 5 w A c xs
  len : xs.length = l.length
  tis : ∀ i (h : i < l.length) (h' : i < xs.length), TIs w S l[i] xs[i].1
  sep : ∀ g, S g → g < w.heap.size ∧ g ∉ blk A
theorem RowO.nil (w : World) : RowO w (fun _ => False) none 0 [] [] := ⟨OwnG.nil f5 24 5 w, rfl, fun i h => by simp at h, fun g h => h.elim⟩
theorem RowO.keep {w v : World} {S : Nat → Prop} {A : Option Addr} {c : Nat} {l : List Tm} {xs : List Q5} {ms : List Nat} (h : RowO w S A c l xs) (m : Mod ms w v) (h1 : ∀ i ∈ blk A, i ∉ ms) (h2 : ∀ g, S g → g ∉ ms) : RowO v S A c l xs :=
  ⟨h.own.keep m (fun a ha => h1 _ (by subst ha; simp [blk])), h.len, fun i h1 h3 => (h.tis i h1 h3).keep m h2, fun g hg => ⟨Nat.lt_of_lt_of_le (h.sep g hg).1 m.size, (h.sep g hg).2⟩⟩
theorem RowO.lt {w : World} {S : Nat → Prop} {A : Option Addr} {c : Nat} {l : List Tm} {xs : List Q5} (h : RowO w S A c l xs) : ∀ i ∈ blk A, i < w.heap.size := fun i hi => by
  cases A with
  | none => simp [blk] at hi
  | some a => simp [blk] at hi; subst hi; exact h.own.lt a rfl
/-- One more behind it. -/
theorem RowO.app {w v : World} {S : Nat → Prop} {A A' : Option Addr} {c c' : Nat} {l : List Tm} {xs : List Q5} (h : RowO w S A c l xs) {t : Tm} {cs : List Value} (ht : TIs w S t cs) (h5 : cs.length = 5 ∧ ∀ v ∈ cs, v.oneCell' = true) (ho : OwnG f5 24 5 v A' c' (xs ++ [⟨cs, h5⟩])) (m : Mod (blk A) w v) (hb : ∀ a, A' = some a → a.block ∈ blk A ∨ w.heap.size ≤ a.block) :
    RowO v S A' c' (l ++ [t]) (xs ++ [⟨cs, h5⟩]) := by
  have hs : ∀ g, S g → g ∉ blk A := fun g hg => (h.sep g hg).2
  refine ⟨ho, (by rw [List.length_append, List.length_append, h.len]; rfl), fun i h1 h2 => ?_, fun g hg => ⟨Nat.lt_of_lt_of_le (h.sep g hg).1 m.size, fun hi => ?_⟩⟩
  · by_cases hi : i < l.length
    · have hi' : i < xs.length := by rw [h.len]; exact hi
      rw [List.getElem_append_left hi, List.getElem_append_left hi']
      exact (h.tis i hi hi').keep m hs
    · have e1 : i = l.length := by simp at h1; omega
      subst e1
      have q1 : (l ++ [t])[l.length]'h1 = t := by simp
      have q2 : (xs ++ [(⟨cs, h5⟩ : Q5)])[l.length]'h2 = ⟨cs, h5⟩ := by
        rw [List.getElem_append_right (by rw [h.len]; exact Nat.le_refl _)]
        simp [h.len]
      rw [q1, q2]
      exact ht.keep m hs
  · cases A' with
    | none => simp [blk] at hi
    | some a =>
      simp [blk] at hi
      have h1 := h.sep g hg
      rcases hb a rfl with h2 | h2
      · rw [← hi] at h2; exact h1.2 h2
      · omega
theorem RowO.grow {w : World} {S S' : Nat → Prop} {A : Option Addr} {c : Nat} {l : List Tm} {xs : List Q5} (h : RowO w S A c l xs) (hS : ∀ g, S g → S' g) (hs : ∀ g, S' g → g < w.heap.size ∧ g ∉ blk A) : RowO w S' A c l xs :=
  ⟨h.own, h.len, fun i h1 h2 => (h.tis i h1 h2).mono hS, hs⟩
theorem f5_flat (xs : List Q5) : (xs.map (·.1)).flatMap id = xs.flatMap f5 := by rw [List.flatMap_map]; rfl
theorem RowO.row {w : World} {S : Nat → Prop} {A : Option Addr} {c : Nat} {l : List Tm} {xs : List Q5} (h : RowO w S A c l xs) : RowT w (fun g => S g ∨ g ∈ blk A) A (xs.map (·.1)) l := by
  refine ⟨fun a ha _ => .inr (by subst ha; simp [blk]), by simp [h.len], fun v hv => ?_, ?_, fun i h1 h2 => ?_⟩
  · obtain ⟨x, _, rfl⟩ := List.mem_map.1 hv
    exact x.2.1
  · rw [f5_flat]; exact h.own.cells
  · have h3 : i < xs.length := by simpa using h2
    rw [List.getElem_map]
    exact (h.tis i h1 h3).mono fun g hg => .inl hg
theorem RowO.fits {w : World} {S : Nat → Prop} {A : Option Addr} {c : Nat} {l : List Tm} {xs : List Q5} (h : RowO w S A c l xs) : l.length ≤ c ∧ c ≤ maxLen := by
  have := h.own.fits
  rw [h.len] at this
  exact this
theorem copy_end {w wr v6 u9 : World} {b1 b2 len c : Nat} {k u n : Int} {s : ByteArray} {S : Nat → Prop} {A : Option Addr} {l : List Tm} {xs : List Q5} (h : RowO wr S A c l xs) (hS : ∀ g, S g ∨ g ∈ blk A → b2 < g) (h1 : b1 = w.heap.size) (h2 : b1 < b2) (m6 : Mod [b1] wr v6) (m9 : Mod [b2] v6 u9) (mm : Mod [] w wr) (hl : len = l.length) (hs : s.size ≤ 140737488355328) (hlm : len ≤ 2199023255552) :
    TIs u9 (Btw w.heap.size u9.heap.size) (.mk k u n s l) (tmc k u n s A len c) ∧ Mod [] w u9 := by
  subst hl
  have q0 := h.row
  have hlt := h.lt
  have q1 := q0.keep m6 (fun g hg hm => by simp at hm; have := hS g hg; omega)
  have q2 := q1.keep m9 (fun g hg hm => by simp at hm; have := hS g hg; omega)
  have q3 := q2.mono (S' := Btw w.heap.size u9.heap.size) (fun g hg => ⟨by have := hS g hg; omega, Nat.lt_of_lt_of_le (hg.elim (fun hg => (h.sep g hg).1) (fun hg => hlt g hg)) (Nat.le_trans m6.size m9.size)⟩)
  refine ⟨q3.tis k u n s c hs h.fits.1 h.fits.2 hlm, ?_⟩
  exact far_mod (far_mod mm m6 (fun i hi => by simp at hi; omega)) m9 (fun i hi => by simp at hi; omega)
theorem copy_step {wr w5 w6 w7 : World} {R R' : Option Addr} {c c' b2 j : Nat} {S : Nat → Prop} {l : List Tm} {xs : List Q5} {cs : List Value} (hj : j < l.length) (h : RowO wr S R c (l.take j) xs) (hS : ∀ g, S g ∨ g ∈ blk R → b2 < g) (hb : b2 < wr.heap.size) (ht : TIs w5 (Btw wr.heap.size w5.heap.size) l[j] cs) (m5 : Mod [] wr w5) (m6 : Mod [] w5 w6)
    (h5 : cs.length = 5 ∧ ∀ v ∈ cs, v.oneCell' = true) (ho : OwnG f5 24 5 w7 R' c' (xs ++ [⟨cs, h5⟩])) (m7 : Mod (blk R) w6 w7) (hbl : ∀ a, R' = some a → a.block ∈ blk R ∨ w6.heap.size ≤ a.block) :
    RowO w7 (fun g => S g ∨ Btw wr.heap.size w5.heap.size g) R' c' (l.take (j + 1)) (xs ++ [⟨cs, h5⟩]) ∧ (∀ g, (S g ∨ Btw wr.heap.size w5.heap.size g) ∨ g ∈ blk R' → b2 < g) := by
  have hlt := h.lt
  have q5 := (h.keep m5 (by simp) (by simp)).keep m6 (by simp) (by simp)
  have q6 : RowO w6 (fun g => S g ∨ Btw wr.heap.size w5.heap.size g) R c (l.take j) xs := q5.grow (fun g hg => .inl hg) (fun g hg => by
    rcases hg with hg | hg
    · exact q5.sep g hg
    · exact ⟨Nat.lt_of_lt_of_le hg.2 m6.size, fun hi => by have := hlt g hi; have := hg.1; omega⟩)
  rw [List.take_succ_eq_append_getElem hj]
  refine ⟨q6.app ((ht.keep m6 (by simp)).mono fun g hg => .inr hg) h5 ho m7 hbl, fun g hg => ?_⟩
  rcases hg with (hg | hg) | hg
  · exact hS g (.inl hg)
  · have := hg.1; omega
  · cases R' with
    | none => simp [blk] at hg
    | some a =>
      simp [blk] at hg
      rcases hbl a rfl with h2 | h2
      · exact hS g (.inr (by rw [hg]; exact h2))
      · have := m5.size; have := m6.size; omega
def CopyR (m : Nat) : Prop := ∀ (t : Tm) (cs : List Value) (S : Nat → Prop) (w : World), t.depth ≤ m → TIs w S t cs → Calls Tryd.prog 23 #[.agg cs.toArray] w (MadeT w t)
set_option maxRecDepth 1000000 in
set_option maxHeartbeats 4000000 in
theorem rcopy_c (m : Nat) (ih : CopyR m) (k u n : Int) (s : ByteArray) (A : Option Addr) (len c : Nat) (vs : List (List Value)) (l : List Tm) (S : Nat → Prop) (w : World) (hl : len = l.length) (hr : RowT w S A vs l) (hd : ∀ t ∈ l, t.depth ≤ m) (hs : s.size ≤ 140737488355328) (hlm : len ≤ 2199023255552) :
    Calls Tryd.prog 23 #[.agg (tmc k u n s A len c).toArray] w (MadeT w (.mk k u n s l)) := by
  obtain ⟨i0, i1, i2, i3, i4⟩ := info24
  have HI := Lib.hid (And.intro i1 (And.intro i2 (And.intro i3 i4)))
  have HR := Lib.hid (And.intro hl (And.intro hr (And.intro hd (And.intro ih hs))))
  have HZS : (Value.agg (tmc 0 0 0 ⟨#[]⟩ none 0 0).toArray).cells.size = 5 := rfl
  clear i1 i2 i3 i4 hl hr hd ih hs
  go_enter Tryd.func23, Tryd.ntmps23
  go_wp2_with (first
    | (with_reducible refine wpList_boxes (o := ⟨some 1, .box 24 (.tmp 0), _, _, _, _⟩) rfl 24 (.tmp 0) rfl _ rfl (tmc k u n s A len c) rfl ?_; intro w1 hb1 m1 z1
       obtain ⟨b1, hq1⟩ : ∃ b, b = w.heap.size := ⟨_, rfl⟩
       rw [← hq1] at hb1 ⊢
       have HB1 := Lib.hid (And.intro hq1 z1)
       clear hq1 z1)
    | (with_reducible refine wpList_allocs (o := ⟨some 2, .alloc 24, _, _, _, _⟩) rfl 24 rfl _ zero24 ?_; intro y2 hy2 my2 zy2
       obtain ⟨b2, hq2⟩ : ∃ b, b = w1.heap.size := ⟨_, rfl⟩
       rw [← hq2] at hy2 ⊢
       have HB2 := Lib.hid (And.intro hq2 zy2)
       have m2 := m1.then my2
       replace hb1 := hb1.keep my2 (by simp)
       clear hq2 zy2 m1 my2))
  have hb12 : b1 < b2 := by have := HB1.out; have := HB2.out; omega
  have hb2y : b2 < y2.heap.size := by have := HB2.out; omega
  have HX := Lib.hid (And.intro hb12 hb2y)
  clear hb12 hb2y
  go_loopw [3, 4] (fun r i wr => ∃ (j : Nat) (R : Option Addr) (cr : Nat) (xs : List Q5) (S' : Nat → Prop), i = .int .i64 j ∧ r = .slice R j cr ∧ j ≤ len ∧ RowO wr S' R cr (l.take j) xs ∧ (∀ g, S' g ∨ g ∈ blk R → b2 < g) ∧ Holds wr b1 24 (tmc k u n s A len c) ∧ Holds wr b2 24 (tmc 0 0 0 ⟨#[]⟩ none 0 0) ∧ Mod [] w wr) (fun _ i _ => len - (intOf i).toNat)
  case atStart => exact ⟨0, none, 0, [], fun _ => False, rfl, rfl, by omega, RowO.nil _, fun g hg => by simp [blk] at hg, hb1, hy2, m2⟩
  case round =>
  obtain ⟨j, R, cr, xs, S', rfl, rfl, hj, hO, hS, h1, h2, mr⟩ := hrel
  have e4 := h1.cell 4
  simp only [tmc, List.getElem?_cons_succ, List.getElem?_cons_zero] at e4
  by_cases hjl : j < len
  case neg =>
    obtain rfl : len = j := by omega
    have f4 := h1.free 4
    have hall : l.take len = l := List.take_of_length_le (by rw [← HR.out.1]; exact Nat.le_refl _)
    rw [hall] at hO
    have hu6 : Holds (wr.setCell ⟨b1, 4, none⟩ (.slice R len cr)) b1 24 (tmc k u n s R len cr) := h1.set 4 _
    have m6 : Mod [b1] wr (wr.setCell ⟨b1, 4, none⟩ (.slice R len cr)) := Mod.setCell (ms := [b1]) wr (by simp) _
    have hy6 := h2.keep m6 (by have := HX.out.1; simp; omega)
    have HF := Lib.hid (And.intro hO (And.intro hS (And.intro m6 mr)))
    clear hall hO hS h1 h2 mr m6
    go_wp2_with (first
      | (with_reducible refine wpList_loads (o := ⟨some 23, .load 24 (.tmp 1), _, _, _, _⟩) rfl 24 (.tmp 1) rfl b1 (0) (tmc k u n s R len cr) rfl (Cells.of_holds hu6) _ Tryd.underlying24 rfl (size24t _ _ _ _ _ _ _) (.agg (tmc k u n s R len cr).toArray) rfl ?_)
      | (with_reducible refine wpList_storesAll (o := ⟨none, .store 24 (.tmp 2) (.tmp 23), _, _, _, _⟩) rfl 24 (.tmp 2) (.tmp 23) rfl rfl b2 (tmc k u n s R len cr) rfl (.agg (tmc k u n s R len cr).toArray) rfl rfl 24 _ hy6 (zlen (tmc_len _ _ _ _ _ _ _)) (tmc_one _ _ _ _ _ _ _) (size24t _ _ _ _ _ _ _) ?_
         intro u9 hu9 mu9 zu9
         clear zu9
         have HZ := Lib.hid (copy_end (k := k) (u := u) (n := n) HF.out.1 HF.out.2.1 HB1.out.1 HX.out.1 HF.out.2.2.1 mu9 HF.out.2.2.2 HR.out.1 HR.out.2.2.2.2 hlm)
         clear mu9 hy6 hu6))
    refine bodyPost_ret (results_cell1 rfl _ _ b2 _ rfl (Cells.of_holds hu9) rfl) rfl ?_
    exact ⟨_, rfl, HZ.out.1, HZ.out.2⟩
  have hjl' : j < l.length := by rw [← HR.out.1]; exact hjl
  obtain ⟨g, q, cs, rfl, hcE, hT, hcs, _⟩ := HR.out.2.1.elem j hjl'
  replace hcE := hcE.keep mr (by simp)
  have IH := fun v (mv : Mod [] w v) => HR.out.2.2.2.1 l[j] cs S v (HR.out.2.2.1 _ (List.getElem_mem hjl')) (hT.keep mv (by simp))
  have hone := hT.one
  have hxl : j = xs.length := by rw [hO.len, List.length_take]; omega
  have HJ := Lib.hid (And.intro hO (And.intro hS (And.intro h1 (And.intro h2 (And.intro mr hxl)))))
  have hjZ : (j : Int) < (len : Int) := by omega
  clear hT hO hS h1 h2 hxl
  go_wp2_with (first
    | (with_reducible refine wpList_loads (o := ⟨some 17, .load 24 (.tmp 16), _, _, _, _⟩) rfl 24 (.tmp 16) rfl g (q + j * 5) cs rfl (hcE) _ Tryd.underlying24 rfl (size24' hcs) (.agg cs.toArray) rfl ?_)
    | (go_at_call 23
       refine (IH wr mr).mono ?_
       rintro e w5 ⟨cs', rfl, hT', m5⟩
       have h5 : cs'.length = 5 ∧ ∀ v ∈ cs', v.oneCell' = true := ⟨hT'.len, hT'.one⟩
       clear IH)
    | (with_reducible refine wpList_lits (o := ⟨some 19, .buildSlice 22 1 _, _, _, _, _⟩) rfl 22 24 1 _ rfl (cs') ?_ ?_
       · with_unfolding_all exact run_lit21 h5.1 _
       intro w6 hl6 m6 zl6
       have o6 := (HJ.out.1.own.keep m5 (by simp)).keep m6 (by simp)
       have r6 : Cells w6 (some ⟨w5.heap.size, 0, none⟩) ([(⟨cs', h5⟩ : Q5)].flatMap f5) := by rw [List.flatMap_cons, List.flatMap_nil, List.append_nil]; exact Cells.of_holds hl6
       clear zl6 hl6)
    | (with_reducible refine wpList_appendG (f := f5) w6 (o := ⟨some 20, _, _, _, _, _⟩) rfl (.tmp 12) (.tmp 19) 22 rfl 24 i0 (.agg (tmc 0 0 0 ⟨#[]⟩ none 0 0).toArray) 64 Tryd.underlying22 HI.out.1 HI.out.2.1 HI.out.2.2.1 HI.out.2.2.2 HZS (Nat.succ_pos 4) f5_len f5_one R j cr xs rfl HJ.out.2.2.2.2.2 o6 (some ⟨w5.heap.size, 0, none⟩) 1 1 [⟨cs', h5⟩] rfl rfl r6 ?_ ?_ ?_
       · with_unfolding_all (have := HJ.out.2.2.2.2.2; simp; omega)
       · with_unfolding_all (have := HJ.out.2.2.2.2.2; simp; unfold maxLen; omega)
       intro R' c' w7 o7 m7 hb7
       have HS := Lib.hid (copy_step hjl' HJ.out.1 HJ.out.2.1 HJ.out.2.2.2.1.lt hT' m5 m6 h5 o7 m7 hb7)
       have hle : (xs ++ [(⟨cs', h5⟩ : Q5)]).length = j + 1 := by rw [List.length_append, ← HJ.out.2.2.2.2.2]; rfl
       rw [hle]))
  have hbR : ∀ i ∈ blk R, b2 < i := fun i hi => HJ.out.2.1 i (.inr hi)
  have hb1w := HB1.out.1
  have hb12 := HX.out.1
  exact ⟨⟨j + 1, R', c', xs ++ [⟨cs', h5⟩], _, by go_num, rfl, by omega, HS.out.1, HS.out.2, ((HJ.out.2.2.1.keep m5 (by simp)).keep m6 (by simp)).keep m7 (fun hi => by have := hbR _ hi; omega), ((HJ.out.2.2.2.1.keep m5 (by simp)).keep m6 (by simp)).keep m7 (fun hi => by have := hbR _ hi; omega), far_mod ((mr.then m5).then m6) m7 (fun i hi => by have := hbR _ hi; omega)⟩, by simp [intOf]; omega⟩
theorem rcopy_all : ∀ m, CopyR m
  | 0, t, _, _, _, h, _ => by have := Tm.depth_pos t; omega
  | m + 1, .mk k u n s l, cs, S, w, h, hT => by
    obtain ⟨A, c, vs, rfl, hr, hlc, hcm, hlm, hs⟩ := hT.row
    rw [Tm.depth] at h
    exact rcopy_c m (rcopy_all m) k u n s A l.length c vs l S w rfl hr (fun t ht => by have := Tm.mem_depth ht; omega) hs hlm
end
end Go.Proofs.YtapafniekmfkaaaDoor
