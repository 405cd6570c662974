/-
  The Kids of a term that is read, one behind the other. My own work.
-/
import Derived.Test.YtapafniekmfkaaaDoorTr
namespace Go.Proofs.YtapafniekmfkaaaDoor
open Go.RowKit Go.Shelf
set_option linter.unusedVariables false
set_option linter.unusedSimpArgs false
section
/-- So many Kids were read. -/
structure L0 (w : World) (q g b b4 b5 : Nat) (k u n : Int) (s : ByteArray) (v : World) (A : Option Addr) (c : Nat) (dn : List C5) (ts : List Tm) (l : List UInt8) (z : Int) (Sk : Nat → Prop) : Prop where
  st : TSt w v q g b b4 b5 (tmc k u n s A dn.length c) l z
  own : OwnG c5v 24 5 v A c dn
  len : ts.length = dn.length
  kids : ∀ i (h : i < ts.length) (h' : i < dn.length), TIs v Sk ts[i] (c5v dn[i])
  sk : ∀ i, Sk i → w.heap.size ≤ i ∧ i < v.heap.size ∧ i ≠ b4 ∧ i ≠ b5 ∧ i ∉ blk A
  ab : ∀ a, A = some a → w.heap.size ≤ a.block ∧ a.block ≠ b4 ∧ a.block ≠ b5
variable {w : World} {q g b b4 b5 : Nat} {k u n : Int} {s : ByteArray} {v v' : World} {A A' : Option Addr} {c c' : Nat} {dn : List C5} {ts : List Tm} {l l' : List UInt8} {z z' : Int} {Sk Sn : Nat → Prop} {t : Tm} {cs : C5} {y : Nat}
/-- What was read last. -/
structure New (w : World) (b4 b5 : Nat) (v : World) (A : Option Addr) (t : Tm) (cs : C5) (Sn : Nat → Prop) : Prop where
  t : TIs v Sn t (c5v cs)
  sn : ∀ i, Sn i → w.heap.size ≤ i ∧ i < v.heap.size ∧ i ≠ b4 ∧ i ≠ b5 ∧ i ∉ blk A
theorem L0.still (h : L0 w q g b b4 b5 k u n s v A c dn ts l z Sk) (m : Mod [] v v') : L0 w q g b b4 b5 k u n s v' A c dn ts l z Sk :=
  ⟨h.st.still m, h.own.keep m (by simp), h.len, fun i h1 h2 => (h.kids i h1 h2).keep m (by simp), fun i hi => by obtain ⟨h1, h2, h3, h4, h5⟩ := h.sk i hi; exact ⟨h1, Nat.lt_of_lt_of_le h2 m.size, h3, h4, h5⟩, h.ab⟩
theorem New.still (h : New w b4 b5 v A t cs Sn) (m : Mod [] v v') : New w b4 b5 v' A t cs Sn :=
  ⟨h.t.keep m (by simp), fun i hi => by obtain ⟨h1, h2, h3, h4, h5⟩ := h.sn i hi; exact ⟨h1, Nat.lt_of_lt_of_le h2 m.size, h3, h4, h5⟩⟩
theorem TSt.step (h : TSt w v q g b b4 b5 (tmc k u n s A dn.length c) l z) (hr : RdT v' q g b l' 0 z') (m : Mod [q, g] v v') : TSt w v' q g b b4 b5 (tmc k u n s A dn.length c) l' z' := by
  have h1 := h.n4; have h2 := h.n5; have h3 := h.oq; have h4 := h.og
  exact ⟨hr, h.h4.keep m (by simp; omega), h.h5.keep m (by simp; omega), h.mm.trans m (fun _ _ h => h), h.n4, h.n5, h.n45, h.oq, h.og, h.ob⟩
theorem L0.call (h : L0 w q g b b4 b5 k u n s v A c dn ts l z Sk) (hr : RdT v' q g b l' 0 z') (m : Mod [q, g] v v') (hT : TIs v' (Btw v.heap.size v'.heap.size) t (c5v cs)) :
    L0 w q g b b4 b5 k u n s v' A c dn ts l' z' Sk ∧ New w b4 b5 v' A t cs (Btw v.heap.size v'.heap.size) := by
  have h1 := h.st.mm.size
  have h3 := h.st.oq
  have h4 := h.st.og
  have e4 := h.st.h4.lt
  have e5 := h.st.h5.lt
  have hA : ∀ a, A = some a → a.block < v.heap.size := h.own.lt
  refine ⟨⟨h.st.step hr m, h.own.keep m (fun a ha hm => ?_), h.len, fun i h1 h2 => (h.kids i h1 h2).keep m (fun x hx hm => ?_), fun i hi => ?_, h.ab⟩, ⟨hT, fun i hi => ?_⟩⟩
  · have := (h.ab a ha).1
    simp at hm; omega
  · have := (h.sk x hx).1
    simp at hm; omega
  · obtain ⟨h1, h2, h3, h4, h5⟩ := h.sk i hi
    exact ⟨h1, Nat.lt_of_lt_of_le h2 m.size, h3, h4, h5⟩
  · refine ⟨Nat.le_trans h1 hi.1, hi.2, ?_, ?_, fun hm => ?_⟩
    · have := hi.1; omega
    · have := hi.1; omega
    · obtain ⟨a, ha, e⟩ := mem_blk hm
      have := hA a ha
      have := hi.1
      omega
/-- The row has taken it. -/
structure L3 (w : World) (q g b b4 b5 : Nat) (k u n : Int) (s : ByteArray) (v : World) (A : Option Addr) (c : Nat) (d : Nat) (A' : Option Addr) (c' : Nat) (dn : List C5) (ts : List Tm) (l : List UInt8) (z : Int) (Sk : Nat → Prop) : Prop where
  st : TSt w v q g b b4 b5 (tmc k u n s A d c) l z
  own : OwnG c5v 24 5 v A' c' dn
  len : ts.length = dn.length
  kids : ∀ i (h : i < ts.length) (h' : i < dn.length), TIs v Sk ts[i] (c5v dn[i])
  sk : ∀ i, Sk i → w.heap.size ≤ i ∧ i < v.heap.size ∧ i ≠ b4 ∧ i ≠ b5 ∧ i ∉ blk A'
  ab : ∀ a, A' = some a → w.heap.size ≤ a.block ∧ a.block ≠ b4 ∧ a.block ≠ b5
theorem L0.app (h : L0 w q g b b4 b5 k u n s v A c dn ts l z Sk) (hn : New w b4 b5 v A t cs Sn) (ho : OwnG c5v 24 5 v' A' c' (dn ++ [cs])) (m : Mod (blk A) v v') (hf : ∀ a, A' = some a → a.block ∈ blk A ∨ v.heap.size ≤ a.block) :
    L3 w q g b b4 b5 k u n s v' A c dn.length A' c' (dn ++ [cs]) (ts ++ [t]) l z (fun i => Sk i ∨ Sn i) := by
  have hb : ∀ i ∈ blk A, w.heap.size ≤ i ∧ i ≠ b4 ∧ i ≠ b5 := fun i hi => by
    obtain ⟨a, ha, rfl⟩ := mem_blk hi
    exact h.ab a ha
  have h1 := h.st.mm.size
  have e4 := h.st.h4.lt
  have e5 := h.st.h5.lt
  have all : ∀ i, Sk i ∨ Sn i → w.heap.size ≤ i ∧ i < v.heap.size ∧ i ≠ b4 ∧ i ≠ b5 ∧ i ∉ blk A := fun i hi => hi.elim (h.sk i) (hn.sn i)
  refine ⟨⟨h.st.rd.keep m (fun hm => ?_) (fun hm => ?_) (fun hm => ?_), h.st.h4.keep m (fun hm => ?_), h.st.h5.keep m (fun hm => ?_), h.st.mm.trans m (fun i hi hm => ?_), h.st.n4, h.st.n5, h.st.n45, h.st.oq, h.st.og, h.st.ob⟩, ho, by simp [h.len], fun i h1 h2 => ?_, fun i hi => ?_, fun a ha => ?_⟩
  · have := (hb _ hm).1; have := h.st.oq; omega
  · have := (hb _ hm).1; have := h.st.og; omega
  · have := (hb _ hm).1; have := h.st.ob; omega
  · exact (hb _ hm).2.1 rfl
  · exact (hb _ hm).2.2 rfl
  · have := (hb _ hm).1; omega
  · by_cases hi : i < dn.length
    · rw [List.getElem_append_left (by rw [h.len]; exact hi), List.getElem_append_left hi]
      exact ((h.kids i (by rw [h.len]; exact hi) hi).keep m (fun x hx => (h.sk x hx).2.2.2.2)).mono (fun _ hx => .inl hx)
    · have hij : i = dn.length := by simp at h2; omega
      subst hij
      rw [List.getElem_append_right (by rw [h.len]; omega), List.getElem_append_right (by omega)]
      simp only [h.len, Nat.sub_self, List.getElem_cons_zero]
      exact (hn.t.keep m (fun x hx => (hn.sn x hx).2.2.2.2)).mono (fun _ hx => .inr hx)
  · obtain ⟨k1, k2, k3, k4, k5⟩ := all i hi
    refine ⟨k1, Nat.lt_of_lt_of_le k2 m.size, k3, k4, fun hm => ?_⟩
    obtain ⟨a, ha, e⟩ := mem_blk hm
    rcases hf a ha with h5 | h5
    · rw [e] at h5; exact k5 h5
    · omega
  · rcases hf a ha with h5 | h5
    · exact hb _ h5
    · exact ⟨by omega, by omega, by omega⟩
theorem L3.put (h : L3 w q g b b4 b5 k u n s v A c (dn.length - 1) A' c' dn ts l z Sk) : L0 w q g b b4 b5 k u n s (v.setCell ⟨b5, 4, none⟩ (.slice A' dn.length c')) A' c' dn ts l z Sk := by
  have m : Mod [b5] v (v.setCell ⟨b5, 4, none⟩ (.slice A' dn.length c')) := Mod.setCell (ms := [b5]) v (by simp) _
  refine ⟨by have := h.st.put 4 (.slice A' dn.length c'); rwa [tmc_set4] at this, h.own.keep m (fun a ha hm => ?_), h.len, fun i h1 h2 => (h.kids i h1 h2).keep m (fun x hx hm => ?_), fun i hi => ?_, h.ab⟩
  · simp at hm; exact (h.ab a ha).2.2 hm
  · simp at hm; exact (h.sk x hx).2.2.2.1 hm
  · obtain ⟨k1, k2, k3, k4, k5⟩ := h.sk i hi
    exact ⟨k1, Nat.lt_of_lt_of_le k2 m.size, k3, k4, k5⟩
theorem L0.tis (h : L0 w q g b b4 b5 k u n s v A c dn ts l z Sk) (hs : s.size ≤ 140737488355328) (hl : dn.length ≤ 2) : TIs v (fun x => Btw w.heap.size v.heap.size x ∧ x ≠ b4) (.mk k u n s ts) (tmc k u n s A dn.length c) := by
  have hf := h.own.fits
  have hc := h.own.cells
  have R : RowT v (fun x => Btw w.heap.size v.heap.size x ∧ x ≠ b4) A (dn.map c5v) ts := by
    refine ⟨fun a ha _ => ⟨⟨(h.ab a ha).1, h.own.lt a ha⟩, (h.ab a ha).2.1⟩, by simp [h.len], ?_, ?_, fun i h1 h2 => ?_⟩
    · intro x hx
      obtain ⟨y, _, rfl⟩ := List.mem_map.1 hx
      exact c5_len y
    · have e : (dn.map c5v).flatMap id = dn.flatMap c5v := by rw [List.flatMap_map]; rfl
      rw [e]; exact hc
    · have h2' : i < dn.length := by simpa using h2
      rw [List.getElem_map]
      exact (h.kids i h1 h2').mono (fun x hx => ⟨⟨(h.sk x hx).1, (h.sk x hx).2.1⟩, (h.sk x hx).2.2.1⟩)
  have := R.tis k u n s c hs (by rw [h.len]; exact hf.1) hf.2 (by rw [h.len]; omega)
  rwa [h.len] at this
/-- What a step of a round makes. -/
structure XT where
  cs : C5
  y : Nat
  A : Option Addr
  c : Nat
  S : Nat → Prop
/-- How far a round has come: nothing; a term read; in a row of one; behind the others; in the term. -/
def Stg (w : World) (q g b b4 b5 : Nat) (k u n : Int) (s : ByteArray) (A : Option Addr) (c : Nat) (dn : List C5) (ts : List Tm) (l : List UInt8) (z : Int) (Sk : Nat → Prop) (l' : List UInt8) (z' : Int) (t : Tm) (x : XT) (v : World) : Nat → Prop
  | 0 => L0 w q g b b4 b5 k u n s v A c dn ts l z Sk
  | 1 => L0 w q g b b4 b5 k u n s v A c dn ts l' z' Sk ∧ New w b4 b5 v A t x.cs x.S
  | 2 => L0 w q g b b4 b5 k u n s v A c dn ts l' z' Sk ∧ New w b4 b5 v A t x.cs x.S ∧ Holds v x.y 24 (c5v x.cs)
  | 3 => L3 w q g b b4 b5 k u n s v A c dn.length x.A x.c (dn ++ [x.cs]) (ts ++ [t]) l' z' (fun i => Sk i ∨ x.S i)
  | _ => L0 w q g b b4 b5 k u n s v x.A x.c (dn ++ [x.cs]) (ts ++ [t]) l' z' (fun i => Sk i ∨ x.S i)
theorem Stg.old {x : XT} {m : Nat} (h : Stg w q g b b4 b5 k u n s A c dn ts l z Sk l' z' t x v m) (hm : m ≤ 3) : v.cell? ⟨b5, 4, none⟩ = some (.slice A dn.length c) := by
  match m, h, hm with
  | 0, h, _ => exact h.st.h5.cell 4
  | 1, h, _ => exact h.1.st.h5.cell 4
  | 2, h, _ => exact h.1.st.h5.cell 4
  | 3, h, _ => exact h.st.h5.cell 4
end
end Go.Proofs.YtapafniekmfkaaaDoor
