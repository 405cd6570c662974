/-
  Words of mine for memory: what a block holds, what a slice of bytes reads as, what a call may have turned.
-/
import Derived.WalkKit
import Derived.Laws.CopyOwn
import Derived.Deep.Draws
namespace Go.Proofs.YtchanildogjhgaaDoor
open Go.RowKit

/-- From w to v only the blocks named may have turned, of those that were there. -/
structure Mod (ms : List Nat) (w v : World) : Prop where
  os : v.os = w.os
  tape : v.tape = w.tape
  output : v.output = w.output
  size : w.heap.size ≤ v.heap.size
  block : ∀ k, k < w.heap.size → k ∉ ms → v.heap[k]? = w.heap[k]?

/-- Block g is just these cells of this type, and none may not be written. -/
def Holds (w : World) (g : Nat) (t : TypeId) (cs : List Value) : Prop := w.heap[g]? = some (.cells cs.toArray t (0, 0))

theorem Mod.refl (ms : List Nat) (w : World) : Mod ms w w := ⟨rfl, rfl, rfl, Nat.le_refl _, fun _ _ _ => rfl⟩
theorem Mod.trans {ms ns : List Nat} {a b c : World} (h : Mod ms a b) (k : Mod ns b c) (hs : ∀ i, i < a.heap.size → i ∈ ns → i ∈ ms) : Mod ms a c :=
  ⟨k.os.trans h.os, k.tape.trans h.tape, k.output.trans h.output, Nat.le_trans h.size k.size,
   fun i hi hn => (k.block i (Nat.lt_of_lt_of_le hi h.size) (fun hm => hn (hs i hi hm))).trans (h.block i hi hn)⟩
theorem Mod.then {ms : List Nat} {a b c : World} (h : Mod ms a b) (k : Mod [] b c) : Mod ms a c := h.trans k (fun _ _ h => by cases h)
theorem Mod.wk {ms ns : List Nat} {a b : World} (h : Mod ms a b) (hs : ∀ i, i < a.heap.size → i ∈ ms → i ∈ ns) : Mod ns a b :=
  ⟨h.os, h.tape, h.output, h.size, fun i hi hn => h.block i hi (fun hm => hn (hs i hi hm))⟩
/-- What turned nothing that was there, and then what turned the blocks named. -/
theorem Mod.pre {ms : List Nat} {a b c : World} (h : Mod [] a b) (k : Mod ms b c) : Mod ms a c := (h.wk (fun _ _ h => by cases h)).trans k (fun _ _ h => h)
theorem Mod.below {B : Nat} {w v : World} {ms : List Nat} (h : Mod ms w v) (hB : B ≤ w.heap.size) (hm : ∀ i ∈ ms, B ≤ i) : Below B w v :=
  ⟨h.os, h.tape, h.output, h.size, fun k hk => h.block k (by omega) (fun hi => by have := hm k hi; omega)⟩
theorem Mod.of_below {w v : World} (h : Below w.heap.size w v) (ms : List Nat) : Mod ms w v := ⟨h.os, h.tape, h.output, h.size, fun k hk _ => h.block k hk⟩
theorem Mod.drew (ms : List Nat) (w : World) : Mod ms w w.drew := ⟨rfl, rfl, rfl, Nat.le_refl _, fun _ _ _ => rfl⟩
theorem Mod.drewN (ms : List Nat) (w : World) (n : Nat) : Mod ms w (w.drewN n) := ⟨rfl, rfl, rfl, Nat.le_refl _, fun _ _ _ => rfl⟩
theorem Mod.alloc (ms : List Nat) (w : World) (o : Obj) : Mod ms w (w.alloc o) := ⟨rfl, rfl, rfl, by simp, fun k hk _ => Below.heap_alloc w o k hk⟩
theorem Mod.setCell {ms : List Nat} (w : World) {p : Addr} (hp : p.block ∈ ms) (u : Value) : Mod ms w (w.setCell p u) :=
  ⟨rfl, rfl, rfl, by simp [World.setCell], fun k _ hn => Below.heap_setCell w p u k (fun e => hn (by rw [e]; exact hp))⟩
theorem Mod.cell {ms : List Nat} {w v : World} (h : Mod ms w v) {p : Addr} {u : Value} (hn : p.block ∉ ms) (hc : w.cell? p = some u) : v.cell? p = some u := by
  have hlt : p.block < w.heap.size := by
    rcases Nat.lt_or_ge p.block w.heap.size with hlt | hge
    · exact hlt
    · simp [World.cell?, Array.getElem?_eq_none hge] at hc
  rw [World.cell?_of_block (h.block p.block hlt hn)]; exact hc

section
variable {w v : World} {g : Nat} {t : TypeId} {cs : List Value}
theorem Holds.lt (h : Holds w g t cs) : g < w.heap.size := by
  rcases Nat.lt_or_ge g w.heap.size with hlt | hge
  · exact hlt
  · unfold Holds at h; rw [Array.getElem?_eq_none hge] at h; cases h
theorem Holds.cell (h : Holds w g t cs) (i : Nat) : w.cell? ⟨g, i, none⟩ = cs[i]? := by
  rw [cell_of_row w g i cs.toArray t (0, 0) h]; simp
theorem Holds.free (h : Holds w g t cs) (i : Nat) : w.frozen? ⟨g, i, none⟩ = false := by
  unfold Holds at h
  simp [World.frozen?, h]
theorem Holds.made (w : World) (t : TypeId) (cs : List Value) : Holds (w.alloc (.cells cs.toArray t)) w.heap.size t cs := heap_alloc_new w _
theorem Holds.keep {ms : List Nat} (h : Holds w g t cs) (m : Mod ms w v) (hn : g ∉ ms) : Holds v g t cs := (m.block g h.lt hn).trans h
theorem Holds.set (h : Holds w g t cs) (i : Nat) (u : Value) : Holds (w.setCell ⟨g, i, none⟩ u) g t (cs.set i u) := by
  unfold Holds at h ⊢
  simp [World.setCell, Array.getElem?_modify, h]
theorem Holds.ne {g' : Nat} {t' : TypeId} {cs' : List Value} (h : Holds w g t cs) (h' : Holds w g' t' cs') (hne : t ≠ t') : g ≠ g' := by
  rintro rfl
  unfold Holds at h h'
  rw [h] at h'
  injection h' with h'
  injection h' with _ ht
  exact hne ht
end

/-- A byte's cell. -/
abbrev oct (x : UInt8) : Value := .int .u8 (x.toNat : Int)

/-- From address A on (if there is one) lie these bytes. -/
def Reads (w : World) (A : Option Addr) (l : List UInt8) : Prop :=
  ∀ i (h : i < l.length), ∃ g o, A = some ⟨g, o, none⟩ ∧ w.cell? ⟨g, o + i, none⟩ = some (oct l[i])

theorem Reads.nil (w : World) (A : Option Addr) : Reads w A [] := fun _ h => absurd h (by simp)
theorem Reads.keep {w v : World} {A : Option Addr} {l : List UInt8} {ms : List Nat} (h : Reads w A l) (m : Mod ms w v) (hn : ∀ a, A = some a → a.block ∉ ms) : Reads v A l := by
  intro i hi
  obtain ⟨g, o, rfl, hc⟩ := h i hi
  exact ⟨g, o, rfl, m.cell (p := ⟨g, o + i, none⟩) (hn ⟨g, o, none⟩ rfl) hc⟩
theorem Reads.of_holds {w : World} {g : Nat} {t : TypeId} {l : List UInt8} (h : Holds w g t (l.map oct)) : Reads w (some ⟨g, 0, none⟩) l := by
  intro i hi
  refine ⟨g, 0, rfl, ?_⟩
  rw [h.cell]; simp [hi]
theorem Reads.at {w : World} {g o : Nat} {l : List UInt8} (h : Reads w (some ⟨g, o, none⟩) l) (i : Nat) (hi : i < l.length) : w.cell? ⟨g, o + i, none⟩ = some (oct l[i]) := by
  obtain ⟨g', o', e, hc⟩ := h i hi
  injection e with e
  injection e with e1 e2
  subst e1 e2
  exact hc

theorem made_rep (z : Value) (n : Nat) : madeCells #[z] n = (List.replicate n z).toArray := by
  apply Array.ext
  · simp [madeCells]
  · intro i h1 h2; simp [madeCells, Nat.mod_one]

/-- make([]T, n) of one-cell elements, in a walk. -/
theorem wpList_makes {P : Program} (w : World) {ops : Array Oper} {rest : List Oper} {o : Oper} {a : Act} {Q : Exit → Act → World → Prop}
    (hg : o.guard = none) (l c : Operand) (t : TypeId) (hop : o.op = Op.makeSlice t l c)
    (e : TypeId) (i : TypeInfo) (z : Value) (h1 : P.underlying t = some (.slice e)) (h2 : P.info? e = some i) (h3 : i.zero = some z) (h4 : i.size = 1) (bytes : Nat) (h5 : i.bytes = bytes) (hz : z.cells = #[z])
    (kl kc : IntKind) (L C : Int) (n : Nat) (hl : a.eval l = .int kl L) (hc : a.eval c = .int kc C) (hL : L = (n : Int)) (hC : C = (n : Int)) (b2 : bytes * n ≤ 281474976710656) (b3 : n ≤ maxLen)
    (hK : ∀ v, Holds v w.heap.size e (List.replicate n z) → Mod [] w v → v.heap.size = w.heap.size + 1 → wpList P ops Q rest (a.put o.dst (.slice (some ⟨w.heap.size, 0, none⟩) n n)) v) :
    wpList P ops Q (o :: rest) a w := by
  refine wpList_plain hg fun K hK' => ?_
  subst h5
  have hb : (i.bytes : Int) * (n : Int) ≤ 281474976710656 := by
    have h : ((i.bytes * n : Nat) : Int) ≤ 281474976710656 := by omega
    rwa [Int.natCast_mul] at h
  have b3' : (n : Int) ≤ 9223372036854775807 := by unfold maxLen at b3; omega
  have hrun := run_make (P := P) w t e i z h1 h2 h3 kl kc (n : Int) (n : Int) (by omega) (by omega) hb b3'
  subst hL
  subst hC
  simp only [Int.toNat_natCast, h4, Nat.mul_one, hz, made_rep] at hrun
  unfold Oper.wp
  simp [execOp, hop, hl, hc, hrun, Result.andThen]
  exact hK' _ _ (hK _ (Holds.made w e _) (Mod.alloc [] w _) (by simp))

theorem octs_one (l : List UInt8) : ∀ v ∈ l.map oct, v.oneCell' = true := by
  intro v hv
  obtain ⟨x, _, rfl⟩ := List.mem_map.1 hv
  rfl

theorem Reads.src {w : World} {A : Option Addr} {l : List UInt8} (h : Reads w A l) (hp : 0 < l.length) : ∃ ad, A = some ad ∧ ∀ j v, (l.map oct)[j]? = some v → w.cell? (ad.add j) = some v := by
  obtain ⟨g, o, rfl, _⟩ := h 0 hp
  refine ⟨_, rfl, fun j v hv => ?_⟩
  have hj : j < l.length := by
    rcases Nat.lt_or_ge j l.length with hj | hj
    · exact hj
    · simp [List.getElem?_eq_none hj] at hv
  have := h.at j hj
  simp [hj] at hv
  subst hv
  unfold Addr.add
  split
  · rename_i h0; subst h0; simpa using this
  · exact this

/-- copy of bytes onto the beginning of a block that is known, in a walk. -/
theorem wpList_copies {P : Program} {w : World} {ops : Array Oper} {rest : List Oper} {o : Oper} {a : Act} {Q : Exit → Act → World → Prop} (hgd : o.guard = none) (d s : Operand) (dT sT : TypeId)
    (ho : o.op = .call { callee := .builtin .copy, args := #[d, s], argTypes := #[dT, sT] }) (elem : TypeId) (hu : P.underlying dT = some (.slice elem)) (hsz : (P.info? elem).map (·.size) = some 1)
    (g dLen dCap : Nat) (sp : Option Addr) (l : List UInt8) (sLen sCap : Nat) (hd : a.eval d = .slice (some ⟨g, 0, none⟩) dLen dCap) (hs : a.eval s = .slice sp sLen sCap) (hsl : sLen = l.length)
    (old : List Value) (t : TypeId) (hh : Holds w g t old) (hr : Reads w sp l) (hfit : l.length ≤ old.length) (hdl : l.length ≤ dLen)
    (h : ∀ v, Holds v g t (l.map oct ++ old.drop l.length) → Mod [g] w v → v.heap.size = w.heap.size → wpList P ops Q rest (a.put o.dst (.int .i64 (l.length : Int))) v) :
    wpList P ops Q (o :: rest) a w := by
  subst hsl
  rcases Nat.eq_zero_or_pos l.length with h0 | h0
  · obtain rfl : l = [] := List.eq_nil_of_length_eq_zero h0
    refine wpList_copy_nothing hgd d s dT sT ho elem hu hsz _ _ _ _ _ _ hd hs (by simp) ?_
    exact h w (by simpa using hh) (Mod.refl _ _) rfl
  · obtain ⟨ad, rfl, hsrc⟩ := hr.src h0
    have := wpList_copy_own (P := P) (w := w) (ops := ops) (rest := rest) (o := o) (a := a) (Q := Q) hgd d s dT sT ho elem hu hsz g 0 dLen dCap ad l.length sCap hd hs old.toArray t hh (l.map oct) (by simp only [List.length_map]; exact (Nat.min_eq_left hdl).symm) hsrc (by simpa using hfit) (octs_one l)
    simp only [List.length_map] at this
    refine this (h _ ?_ ?_ ?_)
    · have := setRow_heap w g old.toArray (List.take 0 old.toArray.toList ++ (List.map oct l ++ List.drop (0 + l.length) old.toArray.toList)).toArray t (0, 0) hh
      simpa [Holds] using this
    · exact ⟨rfl, rfl, rfl, by simp [World.setRow], fun k _ hk => setRow_other w g k _ (by simpa using hk)⟩
    · simp [World.setRow]

end Go.Proofs.YtchanildogjhgaaDoor
