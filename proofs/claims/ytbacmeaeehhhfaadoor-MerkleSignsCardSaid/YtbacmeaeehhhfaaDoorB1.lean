/-
  My own texts Mem App Cel Drx, one behind the other.
-/
import Derived.WalkKit
import Derived.Laws.CopyOwn
import Derived.Deep.Draws
import Derived.Maps.AppendAt
import Derived.Test.YtbacmeaeehhhfaaDoorProg
import Derived.Deep.WholeRow
import Derived.ChangeKeysEq
import Derived.RegionTactic
import Derived.StillTailTactics
namespace Go.Proofs.YtbacmeaeehhhfaaDoor
section
open Go.RowKit

/-- From w to v only the blocks named may have turned, of those that were there. -/
structure Mod (ms : List Nat) (w v : World) : Prop where
  os : v.os = w.os
  tape : v.tape = w.tape
  output : v.output = w.output
  size : w.heap.size ≤ v.heap.size
  block : ∀ k, k < w.heap.size → k ∉ ms → v.heap[k]? = w.heap[k]?

/-- Block g is just these cells of this type, and none may not be written. -/
def Holds (w : World) (g : Nat) (t : TypeId) (cs : List Value) : Prop := w.heap[g]? = some (.cells cs.toArray t (0, 0))

theorem Mod.refl (ms : List Nat) (w : World) : Mod ms w w := ⟨rfl, rfl, rfl, Nat.le_refl _, fun _ _ _ => rfl⟩
theorem Mod.trans {ms ns : List Nat} {a b c : World} (h : Mod ms a b) (k : Mod ns b c) (hs : ∀ i, i < a.heap.size → i ∈ ns → i ∈ ms) : Mod ms a c :=
  ⟨k.os.trans h.os, k.tape.trans h.tape, k.output.trans h.output, Nat.le_trans h.size k.size,
   fun i hi hn => (k.block i (Nat.lt_of_lt_of_le hi h.size) (fun hm => hn (hs i hi hm))).trans (h.block i hi hn)⟩
theorem Mod.then {ms : List Nat} {a b c : World} (h : Mod ms a b) (k : Mod [] b c) : Mod ms a c := h.trans k (fun _ _ h => by cases h)
theorem Mod.wk {ms ns : List Nat} {a b : World} (h : Mod ms a b) (hs : ∀ i, i < a.heap.size → i ∈ ms → i ∈ ns) : Mod ns a b :=
  ⟨h.os, h.tape, h.output, h.size, fun i hi hn => h.block i hi (fun hm => hn (hs i hi hm))⟩
/-- What turned nothing that was there, and then what turned the blocks named. -/
theorem Mod.pre {ms : List Nat} {a b c : World} (h : Mod [] a b) (k : Mod ms b c) : Mod ms a c := (h.wk (fun _ _ h => by cases h)).trans k (fun _ _ h => h)
theorem Mod.below {B : Nat} {w v : World} {ms : List Nat} (h : Mod ms w v) (hB : B ≤ w.heap.size) (hm : ∀ i ∈ ms, B ≤ i) : Below B w v :=
  ⟨h.os, h.tape, h.output, h.size, fun k hk => h.block k (by omega) (fun hi => by have := hm k hi; omega)⟩
theorem Mod.of_below {w v : World} (h : Below w.heap.size w v) (ms : List Nat) : Mod ms w v := ⟨h.os, h.tape, h.output, h.size, fun k hk _ => h.block k hk⟩
theorem Mod.drew (ms : List Nat) (w : World) : Mod ms w w.drew := ⟨rfl, rfl, rfl, Nat.le_refl _, fun _ _ _ => rfl⟩
theorem Mod.drewN (ms : List Nat) (w : World) (n : Nat) : Mod ms w (w.drewN n) := ⟨rfl, rfl, rfl, Nat.le_refl _, fun _ _ _ => rfl⟩
theorem Mod.alloc (ms : List Nat) (w : World) (o : Obj) : Mod ms w (w.alloc o) := ⟨rfl, rfl, rfl, by simp, fun k hk _ => Below.heap_alloc w o k hk⟩
theorem Mod.setCell {ms : List Nat} (w : World) {p : Addr} (hp : p.block ∈ ms) (u : Value) : Mod ms w (w.setCell p u) :=
  ⟨rfl, rfl, rfl, by simp [World.setCell], fun k _ hn => Below.heap_setCell w p u k (fun e => hn (by rw [e]; exact hp))⟩
theorem Mod.cell {ms : List Nat} {w v : World} (h : Mod ms w v) {p : Addr} {u : Value} (hn : p.block ∉ ms) (hc : w.cell? p = some u) : v.cell? p = some u := by
  have hlt : p.block < w.heap.size := by
    rcases Nat.lt_or_ge p.block w.heap.size with hlt | hge
    · exact hlt
    · simp [World.cell?, Array.getElem?_eq_none hge] at hc
  rw [World.cell?_of_block (h.block p.block hlt hn)]; exact hc

section
variable {w v : World} {g : Nat} {t : TypeId} {cs : List Value}
theorem Holds.lt (h : Holds w g t cs) : g < w.heap.size := by
  rcases Nat.lt_or_ge g w.heap.size with hlt | hge
  · exact hlt
  · unfold Holds at h; rw [Array.getElem?_eq_none hge] at h; cases h
theorem Holds.cell (h : Holds w g t cs) (i : Nat) : w.cell? ⟨g, i, none⟩ = cs[i]? := by
  rw [cell_of_row w g i cs.toArray t (0, 0) h]; simp
theorem Holds.free (h : Holds w g t cs) (i : Nat) : w.frozen? ⟨g, i, none⟩ = false := by
  unfold Holds at h
  simp [World.frozen?, h]
theorem Holds.made (w : World) (t : TypeId) (cs : List Value) : Holds (w.alloc (.cells cs.toArray t)) w.heap.size t cs := heap_alloc_new w _
theorem Holds.keep {ms : List Nat} (h : Holds w g t cs) (m : Mod ms w v) (hn : g ∉ ms) : Holds v g t cs := (m.block g h.lt hn).trans h
theorem Holds.set (h : Holds w g t cs) (i : Nat) (u : Value) : Holds (w.setCell ⟨g, i, none⟩ u) g t (cs.set i u) := by
  unfold Holds at h ⊢
  simp [World.setCell, Array.getElem?_modify, h]
theorem Holds.ne {g' : Nat} {t' : TypeId} {cs' : List Value} (h : Holds w g t cs) (h' : Holds w g' t' cs') (hne : t ≠ t') : g ≠ g' := by
  rintro rfl
  unfold Holds at h h'
  rw [h] at h'
  injection h' with h'
  injection h' with _ ht
  exact hne ht
end

/-- A byte's cell. -/
abbrev oct (x : UInt8) : Value := .int .u8 (x.toNat : Int)

/-- From address A on (if there is one) lie these bytes. -/
def Reads (w : World) (A : Option Addr) (l : List UInt8) : Prop :=
  ∀ i (h : i < l.length), ∃ g o, A = some ⟨g, o, none⟩ ∧ w.cell? ⟨g, o + i, none⟩ = some (oct l[i])

theorem Reads.nil (w : World) (A : Option Addr) : Reads w A [] := fun _ h => absurd h (by simp)
theorem Reads.keep {w v : World} {A : Option Addr} {l : List UInt8} {ms : List Nat} (h : Reads w A l) (m : Mod ms w v) (hn : ∀ a, A = some a → a.block ∉ ms) : Reads v A l := by
  intro i hi
  obtain ⟨g, o, rfl, hc⟩ := h i hi
  exact ⟨g, o, rfl, m.cell (p := ⟨g, o + i, none⟩) (hn ⟨g, o, none⟩ rfl) hc⟩
theorem Reads.of_holds {w : World} {g : Nat} {t : TypeId} {l : List UInt8} (h : Holds w g t (l.map oct)) : Reads w (some ⟨g, 0, none⟩) l := by
  intro i hi
  refine ⟨g, 0, rfl, ?_⟩
  rw [h.cell]; simp [hi]
theorem Reads.at {w : World} {g o : Nat} {l : List UInt8} (h : Reads w (some ⟨g, o, none⟩) l) (i : Nat) (hi : i < l.length) : w.cell? ⟨g, o + i, none⟩ = some (oct l[i]) := by
  obtain ⟨g', o', e, hc⟩ := h i hi
  injection e with e
  injection e with e1 e2
  subst e1 e2
  exact hc

theorem made_rep (z : Value) (n : Nat) : madeCells #[z] n = (List.replicate n z).toArray := by
  apply Array.ext
  · simp [madeCells]
  · intro i h1 h2; simp [madeCells, Nat.mod_one]

/-- make([]T, n) of one-cell elements, in a walk. -/
theorem wpList_makes {P : Program} (w : World) {ops : Array Oper} {rest : List Oper} {o : Oper} {a : Act} {Q : Exit → Act → World → Prop}
    (hg : o.guard = none) (l c : Operand) (t : TypeId) (hop : o.op = Op.makeSlice t l c)
    (e : TypeId) (i : TypeInfo) (z : Value) (h1 : P.underlying t = some (.slice e)) (h2 : P.info? e = some i) (h3 : i.zero = some z) (h4 : i.size = 1) (bytes : Nat) (h5 : i.bytes = bytes) (hz : z.cells = #[z])
    (kl kc : IntKind) (L C : Int) (n : Nat) (hl : a.eval l = .int kl L) (hc : a.eval c = .int kc C) (hL : L = (n : Int)) (hC : C = (n : Int)) (b2 : bytes * n ≤ 281474976710656) (b3 : n ≤ maxLen)
    (hK : ∀ v, Holds v w.heap.size e (List.replicate n z) → Mod [] w v → v.heap.size = w.heap.size + 1 → wpList P ops Q rest (a.put o.dst (.slice (some ⟨w.heap.size, 0, none⟩) n n)) v) :
    wpList P ops Q (o :: rest) a w := by
  refine wpList_plain hg fun K hK' => ?_
  subst h5
  have hb : (i.bytes : Int) * (n : Int) ≤ 281474976710656 := by
    have h : ((i.bytes * n : Nat) : Int) ≤ 281474976710656 := by omega
    rwa [Int.natCast_mul] at h
  have b3' : (n : Int) ≤ 9223372036854775807 := by unfold maxLen at b3; omega
  have hrun := run_make (P := P) w t e i z h1 h2 h3 kl kc (n : Int) (n : Int) (by omega) (by omega) hb b3'
  subst hL
  subst hC
  simp only [Int.toNat_natCast, h4, Nat.mul_one, hz, made_rep] at hrun
  unfold Oper.wp
  simp [execOp, hop, hl, hc, hrun, Result.andThen]
  exact hK' _ _ (hK _ (Holds.made w e _) (Mod.alloc [] w _) (by simp))

theorem octs_one (l : List UInt8) : ∀ v ∈ l.map oct, v.oneCell' = true := by
  intro v hv
  obtain ⟨x, _, rfl⟩ := List.mem_map.1 hv
  rfl

theorem Reads.src {w : World} {A : Option Addr} {l : List UInt8} (h : Reads w A l) (hp : 0 < l.length) : ∃ ad, A = some ad ∧ ∀ j v, (l.map oct)[j]? = some v → w.cell? (ad.add j) = some v := by
  obtain ⟨g, o, rfl, _⟩ := h 0 hp
  refine ⟨_, rfl, fun j v hv => ?_⟩
  have hj : j < l.length := by
    rcases Nat.lt_or_ge j l.length with hj | hj
    · exact hj
    · simp [List.getElem?_eq_none hj] at hv
  have := h.at j hj
  simp [hj] at hv
  subst hv
  unfold Addr.add
  split
  · rename_i h0; subst h0; simpa using this
  · exact this

/-- copy of bytes onto the beginning of a block that is known, in a walk. -/
theorem wpList_copies {P : Program} {w : World} {ops : Array Oper} {rest : List Oper} {o : Oper} {a : Act} {Q : Exit → Act → World → Prop} (hgd : o.guard = none) (d s : Operand) (dT sT : TypeId)
    (ho : o.op = .call { callee := .builtin .copy, args := #[d, s], argTypes := #[dT, sT] }) (elem : TypeId) (hu : P.underlying dT = some (.slice elem)) (hsz : (P.info? elem).map (·.size) = some 1)
    (g dLen dCap : Nat) (sp : Option Addr) (l : List UInt8) (sLen sCap : Nat) (hd : a.eval d = .slice (some ⟨g, 0, none⟩) dLen dCap) (hs : a.eval s = .slice sp sLen sCap) (hsl : sLen = l.length)
    (old : List Value) (t : TypeId) (hh : Holds w g t old) (hr : Reads w sp l) (hfit : l.length ≤ old.length) (hdl : l.length ≤ dLen)
    (h : ∀ v, Holds v g t (l.map oct ++ old.drop l.length) → Mod [g] w v → v.heap.size = w.heap.size → wpList P ops Q rest (a.put o.dst (.int .i64 (l.length : Int))) v) :
    wpList P ops Q (o :: rest) a w := by
  subst hsl
  rcases Nat.eq_zero_or_pos l.length with h0 | h0
  · obtain rfl : l = [] := List.eq_nil_of_length_eq_zero h0
    refine wpList_copy_nothing hgd d s dT sT ho elem hu hsz _ _ _ _ _ _ hd hs (by simp) ?_
    exact h w (by simpa using hh) (Mod.refl _ _) rfl
  · obtain ⟨ad, rfl, hsrc⟩ := hr.src h0
    have := wpList_copy_own (P := P) (w := w) (ops := ops) (rest := rest) (o := o) (a := a) (Q := Q) hgd d s dT sT ho elem hu hsz g 0 dLen dCap ad l.length sCap hd hs old.toArray t hh (l.map oct) (by simp only [List.length_map]; exact (Nat.min_eq_left hdl).symm) hsrc (by simpa using hfit) (octs_one l)
    simp only [List.length_map] at this
    refine this (h _ ?_ ?_ ?_)
    · have := setRow_heap w g old.toArray (List.take 0 old.toArray.toList ++ (List.map oct l ++ List.drop (0 + l.length) old.toArray.toList)).toArray t (0, 0) hh
      simpa [Holds] using this
    · exact ⟨rfl, rfl, rfl, by simp [World.setRow], fun k _ hk => setRow_other w g k _ (by simpa using hk)⟩
    · simp [World.setRow]
end
section
open Go.RowKit

/-- The slice (A, n, c) is the call's own, its block lies from B on, and it holds these bytes. -/
def Owns (w : World) (B : Nat) (e : TypeId) (A : Option Addr) (c : Nat) (l : List UInt8) : Prop :=
  w.ownsRow B e 1 (.slice A l.length c) l.length (l.map oct)

theorem Owns.of_holds {w : World} {B g : Nat} {e : TypeId} {l : List UInt8} (h : Holds w g e (l.map oct)) (hB : B ≤ g) (hl : l.length ≤ maxLen) : Owns w B e (some ⟨g, 0, none⟩) l.length l := by
  refine ⟨by simp, .inr ⟨g, l.length, (l.map oct).toArray, rfl, hB, h, Nat.le_refl _, hl, by simp, ?_⟩⟩
  rw [List.take_of_length_le (by simp)]
theorem Owns.nil (w : World) (B : Nat) (e : TypeId) : Owns w B e none 0 [] := World.ownsRow_nil w B e 1
theorem Owns.fits {w : World} {B : Nat} {e : TypeId} {A : Option Addr} {c : Nat} {l : List UInt8} (h : Owns w B e A c l) : l.length ≤ c ∧ c ≤ maxLen ∧ (∀ a, A = some a → B ≤ a.block ∧ a.block < w.heap.size) := by
  rcases h.2 with ⟨hv, hn⟩ | ⟨g, cap, cur, hv, hb, hg, h1, h2, _⟩
  · injection hv with h1 h2 h3
    subst h1 h3
    exact ⟨by omega, by omega, by simp⟩
  · injection hv with h3 h4 h5
    subst h3 h5
    exact ⟨h1, h2, by rintro _ ⟨⟩; exact ⟨hb, (Array.getElem?_eq_some_iff.1 hg).1⟩⟩
theorem Owns.reads {w : World} {B : Nat} {e : TypeId} {A : Option Addr} {c : Nat} {l : List UInt8} (h : Owns w B e A c l) : Reads w A l := by
  intro i hi
  have h0 := h.2
  rcases h0 with ⟨hv, hn⟩ | ⟨g, cap, cur, hv, hb, hg, h1, h2, _⟩
  · omega
  · injection hv with h3 h4 h5
    subst h3 h5
    have := h.cells (g := g) rfl i (oct l[i]) (by simp [hi])
    refine ⟨g, 0, rfl, ?_⟩
    rw [← this]
    unfold Addr.add
    split
    · rename_i h0; subst h0; rfl
    · rfl
theorem Owns.keep {w v : World} {B : Nat} {e : TypeId} {A : Option Addr} {c : Nat} {l : List UInt8} {ms : List Nat} (h : Owns w B e A c l) (m : Mod ms w v) (hn : ∀ a, A = some a → a.block ∉ ms) : Owns v B e A c l := by
  refine ⟨h.1, ?_⟩
  rcases h.2 with h0 | ⟨g, cap, cur, hv, hb, hg, rest⟩
  · exact .inl h0
  · refine .inr ⟨g, cap, cur, hv, hb, ?_, rest⟩
    injection hv with h3 h4 h5
    subst h3
    rw [m.block g (Array.getElem?_eq_some_iff.1 hg).1 (hn _ rfl)]
    exact hg
theorem Owns.nil_addr {w : World} {B : Nat} {e : TypeId} {c : Nat} {l : List UInt8} (h : Owns w B e none c l) : l = [] ∧ c = 0 := by
  rcases h.2 with ⟨hv, hn⟩ | ⟨g, cap, cur, hv, _⟩
  · injection hv with h1 h2 h3
    exact ⟨List.eq_nil_of_length_eq_zero hn, h3⟩
  · injection hv with h1; cases h1

theorem run_append_none {P : Program} (w : World) (B : Nat) (t ty e : TypeId) (i : TypeInfo) (ht : P.underlying t = some (.slice e)) (hi : P.info? e = some i) {A : Option Addr} {c : Nat} {l : List UInt8} (h : Owns w B e A c l) (c' : Nat) :
    (Builtin.append_ #[t, t] ty #[.slice A l.length c, .slice none 0 c']).run P w = .ok (.slice A l.length c) w := by
  rcases A with _ | a
  · obtain ⟨rfl, rfl⟩ := h.nil_addr
    simp [Builtin.append_, run_underlying ht, sizeOf, typeInfo, hi, Builtin.lenOf, Builtin.firstCells]
  · have := h.fits.1
    simp [Builtin.append_, run_underlying ht, sizeOf, typeInfo, hi, Builtin.lenOf, Builtin.firstCells, this, storeCells]

/-- The block that an address lies in, if there is one. -/
def blk (A : Option Addr) : List Nat := (A.map (·.block)).toList

/-- append(s, x...) of bytes, s the call's own, x whatever, in a walk. -/
theorem wpList_appends {P : Program} (w : World) {ops : Array Oper} {rest : List Oper} {o : Oper} {a : Act} {Q : Exit → Act → World → Prop} (hgd : o.guard = none) (s x : Operand) (t : TypeId)
    (ho : o.op = .call { callee := .builtin .append, args := #[s, x], argTypes := #[t, t] })
    (e : TypeId) (i : TypeInfo) (z : Value) (bytes : Nat) (ht : P.underlying t = some (.slice e)) (hi : P.info? e = some i) (hz : i.zero = some z) (hsize : i.size = 1) (hby : i.bytes = bytes) (hzs : z.cells.size = 1)
    (B : Nat) (hB : B ≤ w.heap.size) (A : Option Addr) (n c : Nat) (l : List UInt8) (hs : a.eval s = .slice A n c) (hn : n = l.length) (hown : Owns w B e A c l)
    (X : Option Addr) (m d : Nat) (k : List UInt8) (hx : a.eval x = .slice X m d) (hm : m = k.length) (hr : Reads w X k)
    (h63 : (l.length + k.length) * bytes ≤ 140737488355328) (h64 : l.length + k.length ≤ maxLen)
    (h : ∀ A' c' v, Owns v B e A' c' (l ++ k) → Mod (blk A) w v → (∀ a, A' = some a → a.block ∈ blk A ∨ w.heap.size ≤ a.block) → wpList P ops Q rest (a.put o.dst (.slice A' (l ++ k).length c')) v) :
    wpList P ops Q (o :: rest) a w := by
  subst hn hm
  rcases X with _ | ad
  · have hk : k = [] := by
      rcases k with _ | ⟨x, k⟩
      · rfl
      · obtain ⟨g, o, hh, _⟩ := hr 0 (by simp); cases hh
    subst hk
    have hrun := run_append_none (P := P) w B t o.type e i ht hi hown d
    simp only [List.length_nil] at hx
    refine wpList_plain hgd fun K hK => ?_
    have := h A c w (by simpa using hown) (Mod.refl _ _) (fun b hb => .inl (by subst hb; simp [blk]))
    unfold Oper.wp execOp
    simp only [ho, resolve, invoke, builtin, Sem.run_bind, Sem.run_pure, Result.andThen_ok, List.map_toArray, List.map_cons, List.map_nil, hs, hx, hrun]
    exact hK _ _ (by simpa using this)
  · have hcells : ∀ j u, (k.map oct)[j]? = some u → w.cell? (ad.add j) = some u := by
      intro j u hu
      rcases Nat.eq_zero_or_pos k.length with h0 | h0
      · have : k = [] := List.eq_nil_of_length_eq_zero h0
        subst this
        simp at hu
      · obtain ⟨ad', e', hh⟩ := hr.src h0
        injection e' with e'
        subst e'
        exact hh j u hu
    obtain ⟨v', w', hrun, hown', hgr, _, hbl⟩ := run_append_own_at (P := P) w B t o.type e i z 1 bytes ht hi hz hsize hby hzs (by omega) _ _ _ hown ad k.length d (k.map oct) (by simp) hcells (octs_one k) h64 h63 hB
    have hv : ∃ A' c', v' = .slice A' (l ++ k).length c' := by
      rcases hown'.2 with ⟨hv, hn⟩ | ⟨g, cap, cur, hv, _⟩
      · exact ⟨none, 0, by rw [hv, List.length_append, hn]⟩
      · exact ⟨_, _, by rw [hv, List.length_append]⟩
    obtain ⟨A', c', rfl⟩ := hv
    have hO : Owns w' B e A' c' (l ++ k) := by
      have := hown'
      rw [← List.length_append, ← List.map_append] at this
      exact this
    have hob : ∀ (A : Option Addr) n c, (Value.slice A n c).ownBlock = A.map (·.block) := by intro A n c; cases A <;> rfl
    rw [hob] at hgr
    rw [hob, hob] at hbl
    refine wpList_plain hgd fun K hK => ?_
    unfold Oper.wp execOp
    simp only [ho, resolve, invoke, builtin, Sem.run_bind, Sem.run_pure, Result.andThen_ok, List.map_toArray, List.map_cons, List.map_nil, hs, hx, hrun]
    refine hK _ _ (h A' c' w' hO ⟨hgr.os, hgr.tape, hgr.output, hgr.size, fun j hj hn => hgr.block j hj ?_⟩ ?_)
    · intro hh
      exact hn (by unfold blk; rw [← hh]; simp)
    · intro b hb
      subst hb
      rcases hbl with hh | hh
      · left; unfold blk; rw [← hh]; simp
      · right
        simp at hh
        omega
end
section
open Go.RowKit

/-- From address A on (if there is one) lie these cells. -/
def Cells (w : World) (A : Option Addr) (cs : List Value) : Prop :=
  ∀ i (h : i < cs.length), ∃ g o, A = some ⟨g, o, none⟩ ∧ w.cell? ⟨g, o + i, none⟩ = some cs[i]
theorem Cells.nil (w : World) (A : Option Addr) : Cells w A [] := fun _ h => absurd h (by simp)
theorem Cells.keep {w v : World} {A : Option Addr} {cs : List Value} {ms : List Nat} (h : Cells w A cs) (m : Mod ms w v) (hn : ∀ a, A = some a → a.block ∉ ms) : Cells v A cs := by
  intro i hi
  obtain ⟨g, o, rfl, hc⟩ := h i hi
  exact ⟨g, o, rfl, m.cell (p := ⟨g, o + i, none⟩) (hn ⟨g, o, none⟩ rfl) hc⟩
theorem Cells.at {w : World} {g o : Nat} {cs : List Value} (h : Cells w (some ⟨g, o, none⟩) cs) (i : Nat) (hi : i < cs.length) : w.cell? ⟨g, o + i, none⟩ = some cs[i] := by
  obtain ⟨g', o', e, hc⟩ := h i hi
  injection e with e
  injection e with e1 e2
  subst e1 e2
  exact hc
theorem Cells.of_holds {w : World} {g : Nat} {t : TypeId} {cs : List Value} (h : Holds w g t cs) : Cells w (some ⟨g, 0, none⟩) cs := by
  intro i hi
  refine ⟨g, 0, rfl, ?_⟩
  rw [h.cell]; simp [hi]
theorem Cells.of_cells {w : World} {g o : Nat} {cs : List Value} (h : ∀ i (hi : i < cs.length), w.cell? ⟨g, o + i, none⟩ = some cs[i]) : Cells w (some ⟨g, o, none⟩) cs := fun i hi => ⟨g, o, rfl, h i hi⟩
/-- A part of what lies there. -/
theorem Cells.part {w : World} {g o : Nat} {cs ds : List Value} (h : Cells w (some ⟨g, o, none⟩) cs) (k : Nat) (hp : ∀ i (hi : i < ds.length), cs[k + i]? = some ds[i]) : Cells w (some ⟨g, o + k, none⟩) ds := by
  refine Cells.of_cells fun i hi => ?_
  have h1 := hp i hi
  have hk : k + i < cs.length := by
    rcases Nat.lt_or_ge (k + i) cs.length with hh | hh
    · exact hh
    · rw [List.getElem?_eq_none hh] at h1; cases h1
  have := h.at (k + i) hk
  rw [List.getElem?_eq_getElem hk] at h1
  rw [← Nat.add_assoc] at this
  rw [this]
  exact h1
theorem Cells.first {w : World} {A : Option Addr} {cs : List Value} (h : Cells w A cs) (hp : 0 < cs.length) : ∃ ad, A = some ad ∧ ∀ j v, cs[j]? = some v → w.cell? (ad.add j) = some v := by
  obtain ⟨g, o, rfl, _⟩ := h 0 hp
  refine ⟨_, rfl, fun j v hv => ?_⟩
  have hj : j < cs.length := by
    rcases Nat.lt_or_ge j cs.length with hj | hj
    · exact hj
    · simp [List.getElem?_eq_none hj] at hv
  have := h.at j hj
  rw [List.getElem?_eq_getElem hj] at hv
  rw [hv] at this
  unfold Addr.add
  split
  · rename_i h0; subst h0; simpa using this
  · exact this
theorem add_plain (g o j : Nat) : (⟨g, o, none⟩ : Addr).add j = ⟨g, o + j, none⟩ := by
  unfold Addr.add
  split
  · rename_i h; subst h; rfl
  · rfl

/-- Parts of one size behind one another. -/
theorem flat_at {α : Type} (f : α → List Value) (n : Nat) (hf : ∀ x, (f x).length = n) : ∀ (l : List α) (k i : Nat) (hk : k < l.length), i < n → (l.flatMap f)[k * n + i]? = (f l[k])[i]?
  | x :: l, 0, i, _, hi => by simp [List.getElem?_append, hf, hi]
  | x :: l, k + 1, i, hk, hi => by
    have := flat_at f n hf l k i (by simpa using hk) hi
    rw [List.flatMap_cons, List.getElem?_append_right (by rw [hf, Nat.add_mul]; omega), hf]
    rw [show (k + 1) * n + i - n = k * n + i by rw [Nat.add_mul]; omega, this]
    simp
theorem flat_length {α : Type} (f : α → List Value) (n : Nat) (hf : ∀ x, (f x).length = n) (l : List α) : (l.flatMap f).length = l.length * n := by
  induction l with
  | nil => simp
  | cons x l ih => simp [hf, ih, Nat.add_mul]; omega
/-- The k-th of them. -/
theorem Cells.elem {α : Type} {w : World} {g o : Nat} (f : α → List Value) (n : Nat) (hf : ∀ x, (f x).length = n) {l : List α} (h : Cells w (some ⟨g, o, none⟩) (l.flatMap f)) (k : Nat) (hk : k < l.length) : Cells w (some ⟨g, o + k * n, none⟩) (f l[k]) :=
  h.part (k * n) fun i hi => by
    rw [flat_at f n hf l k i hk (by rw [hf] at hi; exact hi), List.getElem?_eq_getElem hi]
theorem Cells.elem' {α : Type} {w : World} {A : Option Addr} (f : α → List Value) (n : Nat) (hn : 0 < n) (hf : ∀ x, (f x).length = n) {l : List α} (h : Cells w A (l.flatMap f)) (k : Nat) (hk : k < l.length) : ∃ g o, A = some ⟨g, o, none⟩ ∧ Cells w (some ⟨g, o + k * n, none⟩) (f l[k]) := by
  have hlen := flat_length f n hf l
  obtain ⟨g, o, rfl, _⟩ := h 0 (by rw [hlen]; exact Nat.mul_pos (by omega) hn)
  exact ⟨g, o, rfl, h.elem f n hf k hk⟩

section laws
variable {P : Program} {w : World} {ops : Array Oper} {rest : List Oper} {o : Oper} {a : Act} {Q : Exit → Act → World → Prop}

theorem run_loads {g f : Nat} {ty : TypeId} {cs : List Value} {d : TypeDesc} (h : Cells w (some ⟨g, f, none⟩) cs)
    (hu : P.underlying ty = some d) (hd : (match d with | .struct _ | .array _ _ => true | _ => false) = true) (hi : (P.info? ty).map (·.size) = some cs.length) :
    (loadVar ty ⟨g, f, none⟩).run P w = .ok (.agg cs.toArray) w := by
  have hl : (loadCells ⟨g, f, none⟩ cs.length).run P w = .ok cs.toArray w :=
    run_loadCells_list (P := P) w ⟨g, f, none⟩ cs (fun j v hv => by
      have hj : j < cs.length := by
        rcases Nat.lt_or_ge j cs.length with hj | hj
        · exact hj
        · simp [List.getElem?_eq_none hj] at hv
      rw [add_plain, h.at j hj]
      rw [List.getElem?_eq_getElem hj] at hv
      exact hv)
  cases hq : P.info? ty with
  | none => simp [hq] at hi
  | some i =>
    have hs : i.size = cs.length := by simpa [hq] using hi
    have hagg : (isAgg ty).run P w = .ok true w := by
      unfold isAgg
      rw [Sem.run_bind, run_underlying hu w]
      cases d <;> simp_all
    simp [loadVar, Sem.run_bind, hagg, sizeOf, typeInfo, hq, hs, hl]

/-- A value of many cells is loaded. -/
theorem wpList_loads (hgd : o.guard = none) (ty : TypeId) (x : Operand) (ho : o.op = .load ty x) (g f : Nat) (cs : List Value) (hx : a.eval x = .pointer (some ⟨g, f, none⟩)) (hc : Cells w (some ⟨g, f, none⟩) cs)
    (d : TypeDesc) (hu : P.underlying ty = some d) (hd : (match d with | .struct _ | .array _ _ => true | _ => false) = true) (hi : (P.info? ty).map (·.size) = some cs.length)
    (V : Value) (hV : V = .agg cs.toArray)
    (h : wpList P ops Q rest (a.put o.dst V) w) : wpList P ops Q (o :: rest) a w := by
  subst hV
  refine wpList_plain hgd fun K hK => ?_
  unfold Oper.wp execOp
  simp only [ho, hx, Instr.loadAt, Instr.sureAddr, Sem.run_bind, Sem.run_pure, Result.andThen_ok, run_loads hc hu hd hi]
  exact hK _ _ h

theorem run_stores {g f : Nat} {t ty : TypeId} {old cs : List Value} (hh : Holds w g t old) (hf : f + cs.length ≤ old.length) (h1 : ∀ v ∈ cs, v.oneCell' = true) (hi : (P.info? ty).map (·.size) = some cs.length) :
    ∃ v, (storeVar ty ⟨g, f, none⟩ (.agg cs.toArray)).run P w = .ok () v ∧ Holds v g t (old.take f ++ cs ++ old.drop (f + cs.length)) ∧ Mod [g] w v ∧ v.heap.size = w.heap.size := by
  have hst := run_storeCells_at (P := P) g f t cs 0 old.toArray w hh (by simpa using hf) h1
  simp only [Nat.add_zero] at hst
  refine ⟨w.setRow g (old.take f ++ cs ++ old.drop (f + cs.length)).toArray, ?_, setRow_heap w g old.toArray (old.take f ++ cs ++ old.drop (f + cs.length)).toArray t (0, 0) hh,
    ⟨rfl, rfl, rfl, by simp [World.setRow], fun k _ hk => setRow_other w g k _ (by simpa using hk)⟩, by simp [World.setRow]⟩
  · cases hq : P.info? ty with
    | none => simp [hq] at hi
    | some i =>
      have hs : cs.length = i.size := by simpa [hq] using hi.symm
      rw [hs] at hst ⊢
      simpa [storeVar, sizeOf, typeInfo, hq, Value.cells, hs] using hst

/-- A value of many cells is stored. -/
theorem wpList_stores (hgd : o.guard = none) (ty : TypeId) (x y : Operand) (ho : o.op = .store ty x y) (hdst : o.dst = none) (g f : Nat) (cs : List Value) (hx : a.eval x = .pointer (some ⟨g, f, none⟩)) (V : Value) (hy : a.eval y = V) (hV : V = .agg cs.toArray)
    (t : TypeId) (old : List Value) (hh : Holds w g t old) (hf : f + cs.length ≤ old.length) (h1 : ∀ v ∈ cs, v.oneCell' = true) (hi : (P.info? ty).map (·.size) = some cs.length)
    (h : ∀ v, Holds v g t (old.take f ++ cs ++ old.drop (f + cs.length)) → Mod [g] w v → v.heap.size = w.heap.size → wpList P ops Q rest a v) : wpList P ops Q (o :: rest) a w := by
  subst hV
  obtain ⟨v, hrun, h2, h3, h4⟩ := run_stores (P := P) (ty := ty) hh hf h1 hi
  refine wpList_plain hgd fun K hK => ?_
  unfold Oper.wp execOp
  simp only [ho, hx, hy, Instr.storeAt, Instr.sureAddr, Sem.run_bind, Sem.run_pure, Result.andThen_ok, hrun]
  refine hK _ _ ?_
  show wpList P ops Q rest (a.put o.dst undef) _
  rw [hdst]
  exact h v h2 h3 h4
/-- The same, the whole block. -/
theorem wpList_storesAll (hgd : o.guard = none) (ty : TypeId) (x y : Operand) (ho : o.op = .store ty x y) (hdst : o.dst = none) (g : Nat) (cs : List Value) (hx : a.eval x = .pointer (some ⟨g, 0, none⟩)) (V : Value) (hy : a.eval y = V) (hV : V = .agg cs.toArray)
    (t : TypeId) (old : List Value) (hh : Holds w g t old) (hf : cs.length = old.length) (h1 : ∀ v ∈ cs, v.oneCell' = true) (hi : (P.info? ty).map (·.size) = some cs.length)
    (h : ∀ v, Holds v g t cs → Mod [g] w v → v.heap.size = w.heap.size → wpList P ops Q rest a v) : wpList P ops Q (o :: rest) a w :=
  wpList_stores hgd ty x y ho hdst g 0 cs hx V hy hV t old hh (by omega) h1 hi (fun v hv => h v (by simpa [hf] using hv))

/-- A variable, its type's zero value in it. -/
theorem wpList_allocs (hgd : o.guard = none) (ty : TypeId) (ho : o.op = .alloc ty) (cs : List Value) (hz : ∀ w, (zeroValue ty).run P w = .ok (.agg cs.toArray) w)
    (h : ∀ v, Holds v w.heap.size ty cs → Mod [] w v → v.heap.size = w.heap.size + 1 → wpList P ops Q rest (a.put o.dst (.pointer (some ⟨w.heap.size, 0, none⟩))) v) : wpList P ops Q (o :: rest) a w := by
  refine wpList_plain hgd fun K hK => ?_
  unfold Oper.wp execOp
  have hrun : (Instr.alloc ty true (.tuple #[])).run P w = .ok (.pointer (some ⟨w.heap.size, 0, none⟩)) (w.alloc (.cells cs.toArray ty)) := by
    simp [Instr.alloc, hz, newVar, newRow, Value.cells, go_sem]
  simp only [ho, Sem.run_bind, hrun, Result.andThen]
  exact hK _ _ (h _ (Holds.made w ty cs) (Mod.alloc [] w _) (by simp))
/-- A variable with a value in it. -/
theorem wpList_boxes (hgd : o.guard = none) (ty : TypeId) (x : Operand) (ho : o.op = .box ty x) (V : Value) (hx : a.eval x = V) (cs : List Value) (hV : V.cells = cs.toArray)
    (h : ∀ v, Holds v w.heap.size ty cs → Mod [] w v → v.heap.size = w.heap.size + 1 → wpList P ops Q rest (a.put o.dst (.pointer (some ⟨w.heap.size, 0, none⟩))) v) : wpList P ops Q (o :: rest) a w := by
  refine wpList_plain hgd fun K hK => ?_
  unfold Oper.wp execOp
  have hrun : (Instr.box ty V).run P w = .ok (.pointer (some ⟨w.heap.size, 0, none⟩)) (w.alloc (.cells cs.toArray ty)) := by
    have hn : newVar ty V = newRow ty cs.toArray := by unfold newVar; rw [hV]
    unfold Instr.box
    rw [hn]
    simp [newRow, go_sem]
  simp only [ho, Sem.run_bind, hx, hrun, Result.andThen]
  exact hK _ _ (h _ (Holds.made w ty cs) (Mod.alloc [] w _) (by simp))

theorem fold_set (cs : List Value) : ∀ (off : Nat) (z : List Value), off + cs.length ≤ z.length →
    (cs.toArray.zipIdx.foldl (fun (x : Array Value) (p : Value × Nat) => x.setIfInBounds (off + p.2) p.1) z.toArray) = (z.take off ++ cs ++ z.drop (off + cs.length)).toArray := by
  have key : ∀ (cs : List Value) (off k : Nat) (z : List Value), off + k + cs.length ≤ z.length →
      ((cs.zipIdx k).foldl (fun (x : Array Value) (p : Value × Nat) => x.setIfInBounds (off + p.2) p.1) z.toArray) = (z.take (off + k) ++ cs ++ z.drop (off + k + cs.length)).toArray := by
    intro cs
    induction cs with
    | nil => intro off k z h; simp
    | cons c cs ih =>
      intro off k z h
      simp only [List.length_cons] at h
      rw [List.zipIdx_cons, List.foldl_cons]
      have e : (z.toArray.setIfInBounds (off + k) c) = (z.set (off + k) c).toArray := by simp
      show List.foldl _ (z.toArray.setIfInBounds (off + k) c) _ = _
      rw [e, ih off (k + 1) (z.set (off + k) c) (by simp; omega)]
      congr 1
      apply List.ext_getElem?
      intro j
      simp only [List.getElem?_append, List.length_take, List.length_append, List.length_set, List.getElem?_take, List.getElem?_drop, List.getElem?_set, List.length_cons]
      have h1 : min (off + (k + 1)) z.length = off + k + 1 := by omega
      have h2 : min (off + k) z.length = off + k := by omega
      rw [h1, h2]
      by_cases ha : j < off + k
      · have e1 : j < off + k + 1 + cs.length := by omega
        have e2 : j < off + k + 1 := by omega
        have e3 : j < off + k + (cs.length + 1) := by omega
        have e4 : ¬ off + k = j := by omega
        simp [e1, e2, e3, e4, ha] <;> (intro hh; omega)
      · by_cases hb : j = off + k
        · subst hb
          have e1 : off + k < off + k + 1 + cs.length := by omega
          have e3 : off + k < off + k + (cs.length + 1) := by omega
          have e5 : off + k < z.length := by omega
          simp [e1, e3, e5] <;> (intro hh; omega)
        · by_cases hc : j < off + k + 1 + cs.length
          · have e2 : ¬ j < off + k + 1 := by omega
            have e3 : j < off + k + (cs.length + 1) := by omega
            have e6 : j - (off + k) = (j - (off + k + 1)) + 1 := by omega
            simp [hc, e2, e3, ha, e6] <;> (intro hh; omega)
          · have e3 : ¬ j < off + k + (cs.length + 1) := by omega
            have e7 : off + k + 1 + cs.length + (j - (off + k + 1 + cs.length)) = j := by omega
            have e8 : off + (k + 1) + cs.length + (j - (off + k + 1 + cs.length)) = j := by omega
            have e9 : off + k + (cs.length + 1) + (j - (off + k + (cs.length + 1))) = j := by omega
            simp only [hc, e3, if_false, e8, e9]
            rw [if_neg (by omega)]
  intro off z h
  have := key cs off 0 z (by omega)
  simp only [Nat.add_zero] at this
  rw [← this]
  simp
end laws
end
section
open Go.RowKit

section
variable {P : Program} {ops : Array Oper} {Q : Exit → Act → World → Prop}
theorem count_set : ∀ (l : List Bool) (i : Nat), l[i]? = some false → (l.set i true).countP (fun b => !b) + 1 = l.countP (fun b => !b)
  | [], i, h => by simp at h
  | b :: l, 0, h => by simp at h; subst h; simp
  | b :: l, i + 1, h => by
    have := count_set l i (by simpa using h)
    simp only [List.set_cons_succ, List.countP_cons]
    omega
theorem count_zero : ∀ (l : List Bool), l.countP (fun b => !b) = 0 → ∀ j, j < l.length → l[j]? = some true
  | [], _, j, h => by simp at h
  | b :: l, h, 0, _ => by
    rw [List.countP_cons] at h
    cases b
    · simp at h
    · rfl
  | b :: l, h, j + 1, hj => by
    rw [List.countP_cons] at h
    simpa using count_zero l (by omega) j (by simpa using hj)
/-- The slots hold what was reckoned; the world stands as it does behind what was done. -/
structure Drawn (ops : Array Oper) (nt : Nat) (E : Nat → Value) (ps : List Nat) (st : (Nat → Bool) → World → Prop) (ds : List Deferred) (listed : Array Bool) (a : Act) (w : World) : Prop where
  size : listed.size = ops.size
  tsize : a.tmps.size = nt
  defs : a.defers = ds
  par : ∀ s ∈ ps, a.tmps[s]? = some (E s)
  got : ∀ (j : Nat) (o : Oper) (s : Nat), ops[j]? = some o → listed.getD j false = true → o.dst = some s → a.tmps[s]? = some (E s)
  wor : st (fun j => listed.getD j false) w
theorem getD_set (l : Array Bool) (i j : Nat) (hi : i < l.size) : (l.setIfInBounds i true).getD j false = (if j = i then true else l.getD j false) := by
  simp only [Array.getD_eq_getD_getElem?, Array.getElem?_setIfInBounds]
  by_cases hj : j = i
  · subst hj
    simp [hi]
  · simp [hj, Ne.symm hj]
/-- What holds ahead of each step, whatever was done by then, holds when all is done. -/
theorem wpAny_inv2 (I : Array Bool → Act → World → Prop) (hs : ∀ listed a w, I listed a w → listed.size = ops.size)
    (hstep : ∀ listed a w i o, I listed a w → ops[i]? = some o → listed.getD i true = false → (∀ e ∈ o.after, Region.binds .any e = true → listed.getD e.on false = true) →
      ∀ K : Act → World → Prop, (∀ a' w', I (listed.setIfInBounds i true) a' w' → K a' w') → if Region.wanted o (yielded ops a.tmps) = true then o.wp P a w K Q else K (a.put o.dst undef) w)
    (hend : ∀ listed a w, I listed a w → (∀ j, j < ops.size → listed.getD j false = true) → Q .normal a w)
    (hlt : ∀ (i : Nat) (o : Oper), ops[i]? = some o → ∀ e ∈ o.after, Region.binds .any e = true → e.on < i) :
    ∀ (fuel : Nat) (listed : Array Bool) (a : Act) (w : World), listed.toList.countP (fun b => !b) ≤ fuel → I listed a w → wpAny P .any ops Q fuel listed a w := by
  have hall : ∀ listed : Array Bool, listed.size = ops.size → Region.ready .any ops listed = [] → ∀ n j, j < n → j < ops.size → listed.getD j false = true := by
    intro listed hsz hr n
    induction n with
    | zero => intro j h; omega
    | succ n ih =>
      intro j hj hjo
      by_cases hjn : j < n
      · exact ih j hjn hjo
      · obtain rfl : j = n := by omega
        rcases hb : listed.getD j false with _ | _
        · exfalso
          have hlj : j < listed.size := by omega
          have hmem : j ∈ Region.ready .any ops listed := by
            unfold Region.ready
            rw [List.mem_filter]
            refine ⟨by simpa using hjo, ?_⟩
            have h1 : listed.getD j true = false := by
              simp only [Array.getD, hlj, dite_true] at hb ⊢
              exact hb
            rw [h1, Array.getElem?_eq_getElem hjo]
            simp only [Bool.not_false, Bool.true_and, Option.map_some, Option.getD_some]
            rw [Array.all_eq_true_iff_forall_mem]
            intro e he
            cases hbe : Region.binds .any e with
            | false => rfl
            | true =>
              have := hlt j ops[j] (Array.getElem?_eq_getElem hjo) e he hbe
              rw [ih e.on this (by omega)]
              rfl
          rw [hr] at hmem
          cases hmem
        · rfl
  intro fuel
  induction fuel with
  | zero =>
    intro listed a w hc hI
    have hsz := hs _ _ _ hI
    have hl : ∀ j, j < ops.size → listed.getD j false = true := fun j hj => by
      have hh := count_zero listed.toList (by omega) j (by simp; omega)
      have hj' : j < listed.size := by omega
      simp only [Array.getD, hj', dite_true]
      simpa [hj'] using hh
    refine ⟨?_, hend _ _ _ hI hl⟩
    unfold Region.ready
    rw [List.filter_eq_nil_iff]
    intro j hj
    have hj' : j < listed.size := by have := List.mem_range.1 hj; omega
    have := hl j (List.mem_range.1 hj)
    have h1 : listed.getD j true = true := by
      simp only [Array.getD, hj', dite_true] at this ⊢
      exact this
    simp [h1]
  | succ fuel ih =>
    intro listed a w hc hI
    have hsz := hs _ _ _ hI
    refine ⟨fun hr => hend _ _ _ hI (fun j hj => hall listed hsz hr (j + 1) j (by omega) hj), fun i hi => ?_⟩
    unfold Region.ready at hi
    rw [List.mem_filter] at hi
    obtain ⟨hi1, hi2⟩ := hi
    have hio : i < ops.size := List.mem_range.1 hi1
    rw [Array.getElem?_eq_getElem hio] at hi2
    simp only [Bool.and_eq_true, Bool.not_eq_true', Option.map_some, Option.getD_some] at hi2
    obtain ⟨h1, h2⟩ := hi2
    rw [Array.all_eq_true_iff_forall_mem] at h2
    have hil : i < listed.size := by omega
    have hcs : (listed.setIfInBounds i true).toList.countP (fun b => !b) ≤ fuel := by
      have := count_set listed.toList i (by
        simp only [Array.getD, hil, dite_true] at h1
        simpa [hil] using h1)
      rw [Array.toList_setIfInBounds]
      omega
    refine wpOp_step (Array.getElem?_eq_getElem hio) (fun K' hK => ?_)
    exact hstep listed a w i _ hI (Array.getElem?_eq_getElem hio) h1 (fun e he hb => by
      have := h2 e he
      rw [hb] at this
      simpa using this) K' (fun a' w' hI' => hK _ _ (ih _ _ _ hcs hI'))
/-- A region that draws its order, each of whose steps yields the same whenever it may come, but for what x says (the places of what is made). -/
theorem wp_region_detx {X : Type} {id : Nat} {a : Act} {w : World} (x0 : X) (nt : Nat) (E : X → Nat → Value) (ps : List Nat) (st : X → (Nat → Bool) → World → Prop) (ds : List Deferred) (hm : P.follows .mixedOrders = true)
    (ht : a.tmps.size = nt) (hd : a.defers = ds) (hp : ∀ s ∈ ps, a.tmps[s]? = some (E x0 s)) (h0 : st x0 (fun _ => false) w.drew)
    (hlt : ∀ (i : Nat) (o : Oper), ops[i]? = some o → ∀ e ∈ o.after, Region.binds .any e = true → e.on < i) (hdst : ∀ (i : Nat) (o : Oper) (s : Nat), ops[i]? = some o → o.dst = some s → s < nt)
    (hstep : ∀ (x : X) (l : Nat → Bool) (T : Act) (v : World) (i : Nat) (o : Oper), ops[i]? = some o → l i = false → (∀ e ∈ o.after, Region.binds .any e = true → l e.on = true) → st x l v →
      (∀ s ∈ ps, T.tmps[s]? = some (E x s)) → (∀ (j : Nat) (o' : Oper) (s : Nat), ops[j]? = some o' → l j = true → o'.dst = some s → T.tmps[s]? = some (E x s)) →
      ∀ K : Act → World → Prop, (∀ x' u v', (∀ s ∈ ps, E x' s = E x s) → (∀ (j : Nat) (o' : Oper) (s : Nat), ops[j]? = some o' → l j = true → o'.dst = some s → E x' s = E x s) → (∀ s, o.dst = some s → u = E x' s) → st x' (fun j => if j = i then true else l j) v' → K (T.put o.dst u) v') →
        if Region.wanted o (yielded ops T.tmps) = true then o.wp P T v K Q else K (T.put o.dst undef) v)
    (hend : ∀ (x : X) (l : Nat → Bool) (T : Act) (v : World), (∀ j, j < ops.size → l j = true) → st x l v → T.tmps.size = nt → T.defers = ds → (∀ s ∈ ps, T.tmps[s]? = some (E x s)) →
      (∀ (j : Nat) (o' : Oper) (s : Nat), ops[j]? = some o' → o'.dst = some s → T.tmps[s]? = some (E x s)) → Q .normal T v) :
    (Code.region id ops true).wp P Q a w := by
  refine wp_region_any hm ?_
  refine wpAny_inv2 (fun listed T v => ∃ x, Drawn ops nt (E x) ps (st x) ds listed T v) (fun _ _ _ ⟨_, h⟩ => h.size) ?_ ?_ hlt ops.size _ a _ ?_ ?_
  · rintro listed T v i o ⟨x, hI⟩ ho hi hdep K hK
    have hio : i < ops.size := (Array.getElem?_eq_some_iff.1 ho).1
    have hil : i < listed.size := by rw [hI.size]; exact hio
    have hi' : listed.getD i false = false := by
      simp only [Array.getD, hil, dite_true] at hi ⊢
      exact hi
    refine hstep x (fun j => listed.getD j false) T v i o ho hi' hdep hI.wor hI.par hI.got K (fun x' u v' hps hold hu hv' => hK _ _ ⟨x', ?_⟩)
    have hput : ∀ s y, T.tmps[s]? = some y → (o.dst = some s → y = u) → (T.put o.dst u).tmps[s]? = some y := by
      intro s y hx hsx
      unfold Act.put
      cases hds : o.dst with
      | none => exact hx
      | some d =>
        show (T.tmps.setIfInBounds d u)[s]? = some y
        rw [Array.getElem?_setIfInBounds]
        by_cases hd' : d = s
        · subst hd'
          have hlt' : d < T.tmps.size := (Array.getElem?_eq_some_iff.1 hx).1
          simp [hlt', hsx hds]
        · simp [hd', hx]
    refine ⟨by simpa using hI.size, ?_, ?_, fun s hs' => hput s _ (by rw [hps s hs']; exact hI.par s hs') (fun h => (hu s h).symm), ?_, ?_⟩
    · unfold Act.put
      split <;> simp [hI.tsize]
    · unfold Act.put
      split <;> exact hI.defs
    · intro j o' s hj hl hs'
      rw [getD_set _ _ _ hil] at hl
      by_cases hji : j = i
      · subst hji
        rw [ho] at hj
        cases hj
        unfold Act.put
        rw [hs']
        show (T.tmps.setIfInBounds s u)[s]? = _
        have hsl : s < T.tmps.size := by rw [hI.tsize]; exact hdst _ _ _ ho hs'
        simp [hsl, hu s hs']
      · rw [if_neg hji] at hl
        exact hput s _ (by rw [hold j o' s hj hl hs']; exact hI.got j o' s hj hl hs') (fun h => (hu s h).symm)
    · have : (fun j => (listed.setIfInBounds i true).getD j false) = (fun j => if j = i then true else listed.getD j false) := funext fun j => getD_set _ _ _ hil
      rw [this]
      exact hv'
  · rintro listed T v ⟨x, hI⟩ hl
    exact hend x _ T v hl hI.wor hI.tsize hI.defs hI.par (fun j o' s hj hs' => hI.got j o' s hj (hl j (Array.getElem?_eq_some_iff.1 hj).1) hs')
  · have : ∀ n : Nat, (List.replicate n false).countP (fun b => !b) ≤ n := fun n => Nat.le_trans List.countP_le_length (by simp)
    simpa using this ops.size
  · refine ⟨x0, by simp, ht, hd, hp, fun j o s _ hl _ => ?_, ?_⟩
    · simp [Array.getD] at hl
    · have : (fun j => (Array.replicate ops.size false).getD j false) = (fun _ => false) := by
        funext j
        simp [Array.getD]
      rw [this]
      exact h0
end
/-- What is asked of the region's text alone. -/
def drawn2B (ops : Array Oper) (nt : Nat) : Bool := (List.range ops.size).all fun j => ((ops[j]?).map fun o => o.after.all (fun e => !Region.binds .any e || decide (e.on < j)) && (o.dst.map fun s => decide (s < nt)).getD true).getD true
theorem drawn2B_lt {ops : Array Oper} {nt : Nat} (h : drawn2B ops nt = true) (i : Nat) (o : Oper) (ho : ops[i]? = some o) : ∀ e ∈ o.after, Region.binds .any e = true → e.on < i := by
  intro e he hb
  have hi := (Array.getElem?_eq_some_iff.1 ho).1
  have := List.all_eq_true.1 h i (List.mem_range.2 hi)
  rw [ho] at this
  simp only [Option.map_some, Option.getD_some, Bool.and_eq_true] at this
  have h1 := Array.all_eq_true_iff_forall_mem.1 this.1 e he
  rw [hb] at h1
  simpa using h1
theorem drawn2B_dst {ops : Array Oper} {nt : Nat} (h : drawn2B ops nt = true) (i : Nat) (o : Oper) (s : Nat) (ho : ops[i]? = some o) (hs : o.dst = some s) : s < nt := by
  have hi := (Array.getElem?_eq_some_iff.1 ho).1
  have := List.all_eq_true.1 h i (List.mem_range.2 hi)
  rw [ho] at this
  simp only [Option.map_some, Option.getD_some, Bool.and_eq_true, hs] at this
  simpa using this.2
theorem eval_tmp {T : Act} {s : Nat} {x : Value} (h : T.tmps[s]? = some x) : T.eval (.tmp s) = x := by
  show T.tmps.getD s undef = x
  simp [Array.getD_eq_getD_getElem?, h]
theorem wp_ran {P : Program} {o : Oper} {ops : Array Oper} {T : Act} {v v' : World} {u : Value} {K : Act → World → Prop} {Q : Exit → Act → World → Prop} {E : Prop} (hg : o.guard = none) (h : (execOp T.eval o).run P v = .ok (.value u) v') (hK : K (T.put o.dst u) v') :
    if Region.wanted o (yielded ops T.tmps) = true then o.wp P T v K Q else E := by
  have hw : Region.wanted o (yielded ops T.tmps) = true := by unfold Region.wanted; rw [hg]
  rw [if_pos hw]
  unfold Oper.wp
  rw [h]
  exact hK
theorem wp_ran_skip {P : Program} {o : Oper} {ops : Array Oper} {T : Act} {v v' : World} {K : Act → World → Prop} {Q : Exit → Act → World → Prop} {E : Prop} (hg : o.guard = none) (h : (execOp T.eval o).run P v = .ok .skip v') (hK : K (T.put o.dst undef) v') :
    if Region.wanted o (yielded ops T.tmps) = true then o.wp P T v K Q else E := by
  have hw : Region.wanted o (yielded ops T.tmps) = true := by unfold Region.wanted; rw [hg]
  rw [if_pos hw]
  unfold Oper.wp
  rw [h]
  exact hK
section
variable {v : World} {o : Oper} {ρ : Operand → Value}
theorem exec_load {P : Program} {ty : TypeId} {x : Operand} {A : Addr} {u : Value} (ho : o.op = .load ty x) (hx : ρ x = .pointer (some A)) (h : (loadVar ty A).run P v = .ok u v) : (execOp ρ o).run P v = .ok (.value u) v := by
  unfold execOp
  simp only [ho, hx, Instr.loadAt, Instr.sureAddr, Sem.run_bind, Sem.run_pure, Result.andThen_ok, h]
theorem run_load1 {P : Program} {ty : TypeId} {A : Addr} {u : Value} {d : TypeDesc} (hu : P.underlying ty = some d) (hd : (match d with | .struct _ | .array _ _ => true | _ => false) = false) (h : v.cell? A = some u) : (loadVar ty A).run P v = .ok u v := by
  have hagg : (isAgg ty).run P v = .ok false v := by
    unfold isAgg
    rw [Sem.run_bind, run_underlying hu v]
    cases d <;> simp_all
  simp [loadVar, Sem.run_bind, hagg, h]
theorem exec_nil {P : Program} {x : Operand} {A : Addr} (ho : o.op = .nilCheck x) (hx : ρ x = .pointer (some A)) : (execOp ρ o).run P v = .ok (.value (.pointer (some A))) v := by
  unfold execOp
  simp [ho, hx, go_sem]
theorem exec_append {P : Program} {s x : Operand} {t : TypeId} {V U Z : Value} {v' : World} (ho : o.op = .call { callee := .builtin .append, args := #[s, x], argTypes := #[t, t] }) (hs : ρ s = V) (hx : ρ x = U) (h : (Builtin.append_ #[t, t] o.type #[V, U]).run P v = .ok Z v') : (execOp ρ o).run P v = .ok (.value Z) v' := by
  unfold execOp
  simp only [ho, resolve, invoke, builtin, Sem.run_bind, Sem.run_pure, Result.andThen_ok, List.map_toArray, List.map_cons, List.map_nil, hs, hx, h]
theorem exec_store1 {P : Program} {x y : Operand} {A : Addr} {ty : TypeId} {u old : Value} {it : TypeInfo} (ho : o.op = .store ty x y) (hx : ρ x = .pointer (some A)) (hy : ρ y = u) (h1 : u.oneCell' = true) (hi : P.info? ty = some it) (hs : it.size = 1) (hc : v.cell? A = some old) (hf : v.frozen? A = false) : (execOp ρ o).run P v = .ok .skip (v.setCell A u) := by
  have hcs : u.cells = #[u] := by cases u <;> simp_all [Value.oneCell', Value.cells]
  have h0 : A.add 0 = A := rfl
  unfold execOp
  simp [ho, hx, hy, Instr.storeAt, Instr.sureAddr, storeVar, sizeOf, typeInfo, hi, hcs, hs, storeCells, h0, run_store P v A u _ h1, hc, hf]
end
theorem wp_called {P : Program} {o : Oper} {ops : Array Oper} {T : Act} {v : World} {K : Act → World → Prop} {Q : Exit → Act → World → Prop} {E : Prop} {f : FuncId} {args : Array Value} (hg : o.guard = none) (h : (execOp T.eval o).run P v = .ok (.enter f args) v)
    (hc : Calls P f args v fun e v' => ∃ u, e = .returned u ∧ K (T.put o.dst u) v') :
    if Region.wanted o (yielded ops T.tmps) = true then o.wp P T v K Q else E := by
  have hw : Region.wanted o (yielded ops T.tmps) = true := by unfold Region.wanted; rw [hg]
  rw [if_pos hw]
  unfold Oper.wp
  rw [h]
  refine hc.mono ?_
  rintro e v' ⟨u, rfl, hK⟩
  exact hK
section
variable {v : World} {o : Oper} {ρ : Operand → Value} {P : Program} {f : FuncId}
theorem exec_call1 {x : Operand} {X : Value} {ts : Array TypeId} (ho : o.op = .call { callee := .value (.func f), args := #[x], argTypes := ts }) (hf : ρ (.func f) = .func (.func f) #[] #[]) (hx : ρ x = X) (he : ∀ args w, (callFunc f args).run P w = .ok (.enter f args) w) : (execOp ρ o).run P v = .ok (.enter f #[X]) v := by
  unfold execOp
  simp [ho, resolve, invoke, go_sem, hf, hx, he]
theorem exec_call2 {x y : Operand} {X Y : Value} {ts : Array TypeId} (ho : o.op = .call { callee := .value (.func f), args := #[x, y], argTypes := ts }) (hf : ρ (.func f) = .func (.func f) #[] #[]) (hx : ρ x = X) (hy : ρ y = Y) (he : ∀ args w, (callFunc f args).run P w = .ok (.enter f args) w) : (execOp ρ o).run P v = .ok (.enter f #[X, Y]) v := by
  unfold execOp
  simp [ho, resolve, invoke, go_sem, hf, hx, hy, he]
theorem exec_call3 {x y z : Operand} {X Y Z : Value} {ts : Array TypeId} (ho : o.op = .call { callee := .value (.func f), args := #[x, y, z], argTypes := ts }) (hf : ρ (.func f) = .func (.func f) #[] #[]) (hx : ρ x = X) (hy : ρ y = Y) (hz : ρ z = Z) (he : ∀ args w, (callFunc f args).run P w = .ok (.enter f args) w) : (execOp ρ o).run P v = .ok (.enter f #[X, Y, Z]) v := by
  unfold execOp
  simp [ho, resolve, invoke, go_sem, hf, hx, hy, hz, he]
theorem exec_move {x : Operand} {X : Value} (ho : o.op = .move x) (hx : ρ x = X) : (execOp ρ o).run P v = .ok (.value X) v := by
  unfold execOp
  simp [ho, hx, go_sem]

end
end
end Go.Proofs.YtbacmeaeehhhfaaDoor
