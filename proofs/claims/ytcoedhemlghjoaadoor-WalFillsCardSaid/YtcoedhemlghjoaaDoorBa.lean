/-
  My own texts Mem App Maps Dmem Row Story, one behind the other.
-/
import Derived.WalkKit
import Derived.Laws.CopyOwn
import Derived.Deep.Draws
import Derived.Maps.AppendAt
import Derived.Carry
import Derived.MapKept
import Derived.Maps.RangeRun
import Derived.Test.YtcoedhemlghjoaaDoorProg
import Derived.Deep.WholeRow
import Derived.ChangeKeysEq
import Derived.StillTailTactics
namespace Go.Proofs.YtcoedhemlghjoaaDoor
section
open Go.RowKit
/-- From w to v only the blocks named may have turned, of those that were there. -/
structure Mod (ms : List Nat) (w v : World) : Prop where
  os : v.os = w.os
  tape : v.tape = w.tape
  output : v.output = w.output
  size : w.heap.size ≤ v.heap.size
  block : ∀ k, k < w.heap.size → k ∉ ms → v.heap[k]? = w.heap[k]?

/-- Block g is just these cells of this type, and none may not be written. -/
def Holds (w : World) (g : Nat) (t : TypeId) (cs : List Value) : Prop := w.heap[g]? = some (.cells cs.toArray t (0, 0))

theorem Mod.refl (ms : List Nat) (w : World) : Mod ms w w := ⟨rfl, rfl, rfl, Nat.le_refl _, fun _ _ _ => rfl⟩
theorem Mod.trans {ms ns : List Nat} {a b c : World} (h : Mod ms a b) (k : Mod ns b c) (hs : ∀ i, i < a.heap.size → i ∈ ns → i ∈ ms) : Mod ms a c :=
  ⟨k.os.trans h.os, k.tape.trans h.tape, k.output.trans h.output, Nat.le_trans h.size k.size,
   fun i hi hn => (k.block i (Nat.lt_of_lt_of_le hi h.size) (fun hm => hn (hs i hi hm))).trans (h.block i hi hn)⟩
theorem Mod.then {ms : List Nat} {a b c : World} (h : Mod ms a b) (k : Mod [] b c) : Mod ms a c := h.trans k (fun _ _ h => by cases h)
theorem Mod.wk {ms ns : List Nat} {a b : World} (h : Mod ms a b) (hs : ∀ i, i < a.heap.size → i ∈ ms → i ∈ ns) : Mod ns a b :=
  ⟨h.os, h.tape, h.output, h.size, fun i hi hn => h.block i hi (fun hm => hn (hs i hi hm))⟩
/-- What turned nothing that was there, and then what turned the blocks named. -/
theorem Mod.pre {ms : List Nat} {a b c : World} (h : Mod [] a b) (k : Mod ms b c) : Mod ms a c := (h.wk (fun _ _ h => by cases h)).trans k (fun _ _ h => h)
theorem Mod.drew (ms : List Nat) (w : World) : Mod ms w w.drew := ⟨rfl, rfl, rfl, Nat.le_refl _, fun _ _ _ => rfl⟩
theorem Mod.drewN (ms : List Nat) (w : World) (n : Nat) : Mod ms w (w.drewN n) := ⟨rfl, rfl, rfl, Nat.le_refl _, fun _ _ _ => rfl⟩
theorem Mod.alloc (ms : List Nat) (w : World) (o : Obj) : Mod ms w (w.alloc o) := ⟨rfl, rfl, rfl, by simp, fun k hk _ => Below.heap_alloc w o k hk⟩
theorem Mod.setCell {ms : List Nat} (w : World) {p : Addr} (hp : p.block ∈ ms) (u : Value) : Mod ms w (w.setCell p u) :=
  ⟨rfl, rfl, rfl, by simp [World.setCell], fun k _ hn => Below.heap_setCell w p u k (fun e => hn (by rw [e]; exact hp))⟩
theorem Mod.cell {ms : List Nat} {w v : World} (h : Mod ms w v) {p : Addr} {u : Value} (hn : p.block ∉ ms) (hc : w.cell? p = some u) : v.cell? p = some u := by
  have hlt : p.block < w.heap.size := by
    rcases Nat.lt_or_ge p.block w.heap.size with hlt | hge
    · exact hlt
    · simp [World.cell?, Array.getElem?_eq_none hge] at hc
  rw [World.cell?_of_block (h.block p.block hlt hn)]; exact hc

section
variable {w v : World} {g : Nat} {t : TypeId} {cs : List Value}
theorem Holds.lt (h : Holds w g t cs) : g < w.heap.size := by
  rcases Nat.lt_or_ge g w.heap.size with hlt | hge
  · exact hlt
  · unfold Holds at h; rw [Array.getElem?_eq_none hge] at h; cases h
theorem Holds.cell (h : Holds w g t cs) (i : Nat) : w.cell? ⟨g, i, none⟩ = cs[i]? := by
  rw [cell_of_row w g i cs.toArray t (0, 0) h]; simp
theorem Holds.free (h : Holds w g t cs) (i : Nat) : w.frozen? ⟨g, i, none⟩ = false := by
  unfold Holds at h
  simp [World.frozen?, h]
theorem Holds.made (w : World) (t : TypeId) (cs : List Value) : Holds (w.alloc (.cells cs.toArray t)) w.heap.size t cs := heap_alloc_new w _
theorem Holds.keep {ms : List Nat} (h : Holds w g t cs) (m : Mod ms w v) (hn : g ∉ ms) : Holds v g t cs := (m.block g h.lt hn).trans h
theorem Holds.set (h : Holds w g t cs) (i : Nat) (u : Value) : Holds (w.setCell ⟨g, i, none⟩ u) g t (cs.set i u) := by
  unfold Holds at h ⊢
  simp [World.setCell, Array.getElem?_modify, h]
theorem Holds.ne {g' : Nat} {t' : TypeId} {cs' : List Value} (h : Holds w g t cs) (h' : Holds w g' t' cs') (hne : t ≠ t') : g ≠ g' := by
  rintro rfl
  unfold Holds at h h'
  rw [h] at h'
  injection h' with h'
  injection h' with _ ht
  exact hne ht
end
/-- A byte's cell. -/
abbrev oct (x : UInt8) : Value := .int .u8 (x.toNat : Int)

/-- From address A on (if there is one) lie these bytes. -/
def Reads (w : World) (A : Option Addr) (l : List UInt8) : Prop :=
  ∀ i (h : i < l.length), ∃ g o, A = some ⟨g, o, none⟩ ∧ w.cell? ⟨g, o + i, none⟩ = some (oct l[i])

theorem Reads.nil (w : World) (A : Option Addr) : Reads w A [] := fun _ h => absurd h (by simp)
theorem Reads.keep {w v : World} {A : Option Addr} {l : List UInt8} {ms : List Nat} (h : Reads w A l) (m : Mod ms w v) (hn : ∀ a, A = some a → a.block ∉ ms) : Reads v A l := by
  intro i hi
  obtain ⟨g, o, rfl, hc⟩ := h i hi
  exact ⟨g, o, rfl, m.cell (p := ⟨g, o + i, none⟩) (hn ⟨g, o, none⟩ rfl) hc⟩
theorem Reads.of_holds {w : World} {g : Nat} {t : TypeId} {l : List UInt8} (h : Holds w g t (l.map oct)) : Reads w (some ⟨g, 0, none⟩) l := by
  intro i hi
  refine ⟨g, 0, rfl, ?_⟩
  rw [h.cell]; simp [hi]
theorem Reads.at {w : World} {g o : Nat} {l : List UInt8} (h : Reads w (some ⟨g, o, none⟩) l) (i : Nat) (hi : i < l.length) : w.cell? ⟨g, o + i, none⟩ = some (oct l[i]) := by
  obtain ⟨g', o', e, hc⟩ := h i hi
  injection e with e
  injection e with e1 e2
  subst e1 e2
  exact hc

theorem made_rep (z : Value) (n : Nat) : madeCells #[z] n = (List.replicate n z).toArray := by
  apply Array.ext
  · simp [madeCells]
  · intro i h1 h2; simp [madeCells, Nat.mod_one]

/-- make([]T, n) of one-cell elements, in a walk. -/
theorem wpList_makes {P : Program} (w : World) {ops : Array Oper} {rest : List Oper} {o : Oper} {a : Act} {Q : Exit → Act → World → Prop}
    (hg : o.guard = none) (l c : Operand) (t : TypeId) (hop : o.op = Op.makeSlice t l c)
    (e : TypeId) (i : TypeInfo) (z : Value) (h1 : P.underlying t = some (.slice e)) (h2 : P.info? e = some i) (h3 : i.zero = some z) (h4 : i.size = 1) (bytes : Nat) (h5 : i.bytes = bytes) (hz : z.cells = #[z])
    (kl kc : IntKind) (L C : Int) (n : Nat) (hl : a.eval l = .int kl L) (hc : a.eval c = .int kc C) (hL : L = (n : Int)) (hC : C = (n : Int)) (b2 : bytes * n ≤ 281474976710656) (b3 : n ≤ maxLen)
    (hK : ∀ v, Holds v w.heap.size e (List.replicate n z) → Mod [] w v → v.heap.size = w.heap.size + 1 → wpList P ops Q rest (a.put o.dst (.slice (some ⟨w.heap.size, 0, none⟩) n n)) v) :
    wpList P ops Q (o :: rest) a w := by
  refine wpList_plain hg fun K hK' => ?_
  subst h5
  have hb : (i.bytes : Int) * (n : Int) ≤ 281474976710656 := by
    have h : ((i.bytes * n : Nat) : Int) ≤ 281474976710656 := by omega
    rwa [Int.natCast_mul] at h
  have b3' : (n : Int) ≤ 9223372036854775807 := by unfold maxLen at b3; omega
  have hrun := run_make (P := P) w t e i z h1 h2 h3 kl kc (n : Int) (n : Int) (by omega) (by omega) hb b3'
  subst hL
  subst hC
  simp only [Int.toNat_natCast, h4, Nat.mul_one, hz, made_rep] at hrun
  unfold Oper.wp
  simp [execOp, hop, hl, hc, hrun, Result.andThen]
  exact hK' _ _ (hK _ (Holds.made w e _) (Mod.alloc [] w _) (by simp))

theorem octs_one (l : List UInt8) : ∀ v ∈ l.map oct, v.oneCell' = true := by
  intro v hv
  obtain ⟨x, _, rfl⟩ := List.mem_map.1 hv
  rfl

theorem Reads.src {w : World} {A : Option Addr} {l : List UInt8} (h : Reads w A l) (hp : 0 < l.length) : ∃ ad, A = some ad ∧ ∀ j v, (l.map oct)[j]? = some v → w.cell? (ad.add j) = some v := by
  obtain ⟨g, o, rfl, _⟩ := h 0 hp
  refine ⟨_, rfl, fun j v hv => ?_⟩
  have hj : j < l.length := by
    rcases Nat.lt_or_ge j l.length with hj | hj
    · exact hj
    · simp [List.getElem?_eq_none hj] at hv
  have := h.at j hj
  simp [hj] at hv
  subst hv
  unfold Addr.add
  split
  · rename_i h0; subst h0; simpa using this
  · exact this

/-- copy of bytes onto the beginning of a block that is known, in a walk. -/
theorem wpList_copies {P : Program} {w : World} {ops : Array Oper} {rest : List Oper} {o : Oper} {a : Act} {Q : Exit → Act → World → Prop} (hgd : o.guard = none) (d s : Operand) (dT sT : TypeId)
    (ho : o.op = .call { callee := .builtin .copy, args := #[d, s], argTypes := #[dT, sT] }) (elem : TypeId) (hu : P.underlying dT = some (.slice elem)) (hsz : (P.info? elem).map (·.size) = some 1)
    (g dLen dCap : Nat) (sp : Option Addr) (l : List UInt8) (sLen sCap : Nat) (hd : a.eval d = .slice (some ⟨g, 0, none⟩) dLen dCap) (hs : a.eval s = .slice sp sLen sCap) (hsl : sLen = l.length)
    (old : List Value) (t : TypeId) (hh : Holds w g t old) (hr : Reads w sp l) (hfit : l.length ≤ old.length) (hdl : l.length ≤ dLen)
    (h : ∀ v, Holds v g t (l.map oct ++ old.drop l.length) → Mod [g] w v → v.heap.size = w.heap.size → wpList P ops Q rest (a.put o.dst (.int .i64 (l.length : Int))) v) :
    wpList P ops Q (o :: rest) a w := by
  subst hsl
  rcases Nat.eq_zero_or_pos l.length with h0 | h0
  · obtain rfl : l = [] := List.eq_nil_of_length_eq_zero h0
    refine wpList_copy_nothing hgd d s dT sT ho elem hu hsz _ _ _ _ _ _ hd hs (by simp) ?_
    exact h w (by simpa using hh) (Mod.refl _ _) rfl
  · obtain ⟨ad, rfl, hsrc⟩ := hr.src h0
    have := wpList_copy_own (P := P) (w := w) (ops := ops) (rest := rest) (o := o) (a := a) (Q := Q) hgd d s dT sT ho elem hu hsz g 0 dLen dCap ad l.length sCap hd hs old.toArray t hh (l.map oct) (by simp only [List.length_map]; exact (Nat.min_eq_left hdl).symm) hsrc (by simpa using hfit) (octs_one l)
    simp only [List.length_map] at this
    refine this (h _ ?_ ?_ ?_)
    · have := setRow_heap w g old.toArray (List.take 0 old.toArray.toList ++ (List.map oct l ++ List.drop (0 + l.length) old.toArray.toList)).toArray t (0, 0) hh
      simpa [Holds] using this
    · exact ⟨rfl, rfl, rfl, by simp [World.setRow], fun k _ hk => setRow_other w g k _ (by simpa using hk)⟩
    · simp [World.setRow]
end
section
open Go.RowKit
/-- The slice (A, n, c) is the call's own, its block lies from B on, and it holds these bytes. -/
def Owns (w : World) (B : Nat) (e : TypeId) (A : Option Addr) (c : Nat) (l : List UInt8) : Prop :=
  w.ownsRow B e 1 (.slice A l.length c) l.length (l.map oct)

theorem Owns.of_holds {w : World} {B g : Nat} {e : TypeId} {l : List UInt8} (h : Holds w g e (l.map oct)) (hB : B ≤ g) (hl : l.length ≤ maxLen) : Owns w B e (some ⟨g, 0, none⟩) l.length l := by
  refine ⟨by simp, .inr ⟨g, l.length, (l.map oct).toArray, rfl, hB, h, Nat.le_refl _, hl, by simp, ?_⟩⟩
  rw [List.take_of_length_le (by simp)]
theorem Owns.fits {w : World} {B : Nat} {e : TypeId} {A : Option Addr} {c : Nat} {l : List UInt8} (h : Owns w B e A c l) : l.length ≤ c ∧ c ≤ maxLen ∧ (∀ a, A = some a → B ≤ a.block ∧ a.block < w.heap.size) := by
  rcases h.2 with ⟨hv, hn⟩ | ⟨g, cap, cur, hv, hb, hg, h1, h2, _⟩
  · injection hv with h1 h2 h3
    subst h1 h3
    exact ⟨by omega, by omega, by simp⟩
  · injection hv with h3 h4 h5
    subst h3 h5
    exact ⟨h1, h2, by rintro _ ⟨⟩; exact ⟨hb, (Array.getElem?_eq_some_iff.1 hg).1⟩⟩
theorem Owns.reads {w : World} {B : Nat} {e : TypeId} {A : Option Addr} {c : Nat} {l : List UInt8} (h : Owns w B e A c l) : Reads w A l := by
  intro i hi
  have h0 := h.2
  rcases h0 with ⟨hv, hn⟩ | ⟨g, cap, cur, hv, hb, hg, h1, h2, _⟩
  · omega
  · injection hv with h3 h4 h5
    subst h3 h5
    have := h.cells (g := g) rfl i (oct l[i]) (by simp [hi])
    refine ⟨g, 0, rfl, ?_⟩
    rw [← this]
    unfold Addr.add
    split
    · rename_i h0; subst h0; rfl
    · rfl
theorem Owns.keep {w v : World} {B : Nat} {e : TypeId} {A : Option Addr} {c : Nat} {l : List UInt8} {ms : List Nat} (h : Owns w B e A c l) (m : Mod ms w v) (hn : ∀ a, A = some a → a.block ∉ ms) : Owns v B e A c l := by
  refine ⟨h.1, ?_⟩
  rcases h.2 with h0 | ⟨g, cap, cur, hv, hb, hg, rest⟩
  · exact .inl h0
  · refine .inr ⟨g, cap, cur, hv, hb, ?_, rest⟩
    injection hv with h3 h4 h5
    subst h3
    rw [m.block g (Array.getElem?_eq_some_iff.1 hg).1 (hn _ rfl)]
    exact hg
theorem Owns.nil_addr {w : World} {B : Nat} {e : TypeId} {c : Nat} {l : List UInt8} (h : Owns w B e none c l) : l = [] ∧ c = 0 := by
  rcases h.2 with ⟨hv, hn⟩ | ⟨g, cap, cur, hv, _⟩
  · injection hv with h1 h2 h3
    exact ⟨List.eq_nil_of_length_eq_zero hn, h3⟩
  · injection hv with h1; cases h1

theorem run_append_none {P : Program} (w : World) (B : Nat) (t ty e : TypeId) (i : TypeInfo) (ht : P.underlying t = some (.slice e)) (hi : P.info? e = some i) {A : Option Addr} {c : Nat} {l : List UInt8} (h : Owns w B e A c l) (c' : Nat) :
    (Builtin.append_ #[t, t] ty #[.slice A l.length c, .slice none 0 c']).run P w = .ok (.slice A l.length c) w := by
  rcases A with _ | a
  · obtain ⟨rfl, rfl⟩ := h.nil_addr
    simp [Builtin.append_, run_underlying ht, sizeOf, typeInfo, hi, Builtin.lenOf, Builtin.firstCells]
  · have := h.fits.1
    simp [Builtin.append_, run_underlying ht, sizeOf, typeInfo, hi, Builtin.lenOf, Builtin.firstCells, this, storeCells]

/-- The block that an address lies in, if there is one. -/
def blk (A : Option Addr) : List Nat := (A.map (·.block)).toList

/-- append(s, x...) of bytes, s the call's own, x whatever, in a walk. -/
theorem wpList_appends {P : Program} (w : World) {ops : Array Oper} {rest : List Oper} {o : Oper} {a : Act} {Q : Exit → Act → World → Prop} (hgd : o.guard = none) (s x : Operand) (t : TypeId)
    (ho : o.op = .call { callee := .builtin .append, args := #[s, x], argTypes := #[t, t] })
    (e : TypeId) (i : TypeInfo) (z : Value) (bytes : Nat) (ht : P.underlying t = some (.slice e)) (hi : P.info? e = some i) (hz : i.zero = some z) (hsize : i.size = 1) (hby : i.bytes = bytes) (hzs : z.cells.size = 1)
    (B : Nat) (hB : B ≤ w.heap.size) (A : Option Addr) (n c : Nat) (l : List UInt8) (hs : a.eval s = .slice A n c) (hn : n = l.length) (hown : Owns w B e A c l)
    (X : Option Addr) (m d : Nat) (k : List UInt8) (hx : a.eval x = .slice X m d) (hm : m = k.length) (hr : Reads w X k)
    (h63 : (l.length + k.length) * bytes ≤ 140737488355328) (h64 : l.length + k.length ≤ maxLen)
    (h : ∀ A' c' v, Owns v B e A' c' (l ++ k) → Mod (blk A) w v → (∀ a, A' = some a → a.block ∈ blk A ∨ w.heap.size ≤ a.block) → wpList P ops Q rest (a.put o.dst (.slice A' (l ++ k).length c')) v) :
    wpList P ops Q (o :: rest) a w := by
  subst hn hm
  rcases X with _ | ad
  · have hk : k = [] := by
      rcases k with _ | ⟨x, k⟩
      · rfl
      · obtain ⟨g, o, hh, _⟩ := hr 0 (by simp); cases hh
    subst hk
    have hrun := run_append_none (P := P) w B t o.type e i ht hi hown d
    simp only [List.length_nil] at hx
    refine wpList_plain hgd fun K hK => ?_
    have := h A c w (by simpa using hown) (Mod.refl _ _) (fun b hb => .inl (by subst hb; simp [blk]))
    unfold Oper.wp execOp
    simp only [ho, resolve, invoke, builtin, Sem.run_bind, Sem.run_pure, Result.andThen_ok, List.map_toArray, List.map_cons, List.map_nil, hs, hx, hrun]
    exact hK _ _ (by simpa using this)
  · have hcells : ∀ j u, (k.map oct)[j]? = some u → w.cell? (ad.add j) = some u := by
      intro j u hu
      rcases Nat.eq_zero_or_pos k.length with h0 | h0
      · have : k = [] := List.eq_nil_of_length_eq_zero h0
        subst this
        simp at hu
      · obtain ⟨ad', e', hh⟩ := hr.src h0
        injection e' with e'
        subst e'
        exact hh j u hu
    obtain ⟨v', w', hrun, hown', hgr, _, hbl⟩ := run_append_own_at (P := P) w B t o.type e i z 1 bytes ht hi hz hsize hby hzs (by omega) _ _ _ hown ad k.length d (k.map oct) (by simp) hcells (octs_one k) h64 h63 hB
    have hv : ∃ A' c', v' = .slice A' (l ++ k).length c' := by
      rcases hown'.2 with ⟨hv, hn⟩ | ⟨g, cap, cur, hv, _⟩
      · exact ⟨none, 0, by rw [hv, List.length_append, hn]⟩
      · exact ⟨_, _, by rw [hv, List.length_append]⟩
    obtain ⟨A', c', rfl⟩ := hv
    have hO : Owns w' B e A' c' (l ++ k) := by
      have := hown'
      rw [← List.length_append, ← List.map_append] at this
      exact this
    have hob : ∀ (A : Option Addr) n c, (Value.slice A n c).ownBlock = A.map (·.block) := by intro A n c; cases A <;> rfl
    rw [hob] at hgr
    rw [hob, hob] at hbl
    refine wpList_plain hgd fun K hK => ?_
    unfold Oper.wp execOp
    simp only [ho, resolve, invoke, builtin, Sem.run_bind, Sem.run_pure, Result.andThen_ok, List.map_toArray, List.map_cons, List.map_nil, hs, hx, hrun]
    refine hK _ _ (h A' c' w' hO ⟨hgr.os, hgr.tape, hgr.output, hgr.size, fun j hj hn => hgr.block j hj ?_⟩ ?_)
    · intro hh
      exact hn (by unfold blk; rw [← hh]; simp)
    · intro b hb
      subst hb
      rcases hbl with hh | hh
      · left; unfold blk; rw [← hh]; simp
      · right
        simp at hh
        omega
end
section
open Go.RowKit
open Go.ChangeMaps (setBlock)
/-- An entry under a whole number. -/
def ent (k : IntKind) (n : Int) (val : Value) (born : Nat) : MapEntry := { key := .int k n, val := val, born := born }
/-- Block g is a map with these entries. -/
def MapIs (w : World) (g : Nat) (es : List MapEntry) (clock : Nat) : Prop := w.heap[g]? = some (.map es.toArray clock)
theorem lt_of_some {w : World} {g : Nat} {o : Obj} (h : w.heap[g]? = some o) : g < w.heap.size := by
  rcases Nat.lt_or_ge g w.heap.size with hlt | hge
  · exact hlt
  · rw [Array.getElem?_eq_none hge] at h; cases h
theorem MapIs.keep {w v : World} {g : Nat} {es : List MapEntry} {c : Nat} {ms : List Nat} (h : MapIs w g es c) (m : Mod ms w v) (hn : g ∉ ms) : MapIs v g es c := (m.block g (lt_of_some h) hn).trans h
theorem mod_put (w : World) (g : Nat) (o : Obj) : Mod [g] w (setBlock w g o) :=
  ⟨rfl, rfl, rfl, by simp [setBlock], fun k _ hn => by
    have : g ≠ k := fun e => hn (by simp [e])
    show (w.heap.setIfInBounds g o)[k]? = _
    rw [Array.getElem?_setIfInBounds_ne this]⟩
theorem put_at {w : World} {g : Nat} {o p : Obj} (h : w.heap[g]? = some p) : (setBlock w g o).heap[g]? = some o := by
  show (w.heap.setIfInBounds g o)[g]? = _
  rw [Array.getElem?_setIfInBounds_self_of_lt (lt_of_some h)]

end
section
open Go.RowKit
/-- From address A on (if there is one) lie these cells. -/
def Cells (w : World) (A : Option Addr) (cs : List Value) : Prop :=
  ∀ i (h : i < cs.length), ∃ g o, A = some ⟨g, o, none⟩ ∧ w.cell? ⟨g, o + i, none⟩ = some cs[i]
theorem Cells.nil (w : World) (A : Option Addr) : Cells w A [] := fun _ h => absurd h (by simp)
theorem Cells.keep {w v : World} {A : Option Addr} {cs : List Value} {ms : List Nat} (h : Cells w A cs) (m : Mod ms w v) (hn : ∀ a, A = some a → a.block ∉ ms) : Cells v A cs := by
  intro i hi
  obtain ⟨g, o, rfl, hc⟩ := h i hi
  exact ⟨g, o, rfl, m.cell (p := ⟨g, o + i, none⟩) (hn ⟨g, o, none⟩ rfl) hc⟩
theorem Cells.at {w : World} {g o : Nat} {cs : List Value} (h : Cells w (some ⟨g, o, none⟩) cs) (i : Nat) (hi : i < cs.length) : w.cell? ⟨g, o + i, none⟩ = some cs[i] := by
  obtain ⟨g', o', e, hc⟩ := h i hi
  injection e with e
  injection e with e1 e2
  subst e1 e2
  exact hc
theorem Cells.of_holds {w : World} {g : Nat} {t : TypeId} {cs : List Value} (h : Holds w g t cs) : Cells w (some ⟨g, 0, none⟩) cs := by
  intro i hi
  refine ⟨g, 0, rfl, ?_⟩
  rw [h.cell]; simp [hi]
theorem Cells.of_cells {w : World} {g o : Nat} {cs : List Value} (h : ∀ i (hi : i < cs.length), w.cell? ⟨g, o + i, none⟩ = some cs[i]) : Cells w (some ⟨g, o, none⟩) cs := fun i hi => ⟨g, o, rfl, h i hi⟩
/-- A part of what lies there. -/
theorem Cells.part {w : World} {g o : Nat} {cs ds : List Value} (h : Cells w (some ⟨g, o, none⟩) cs) (k : Nat) (hp : ∀ i (hi : i < ds.length), cs[k + i]? = some ds[i]) : Cells w (some ⟨g, o + k, none⟩) ds := by
  refine Cells.of_cells fun i hi => ?_
  have h1 := hp i hi
  have hk : k + i < cs.length := by
    rcases Nat.lt_or_ge (k + i) cs.length with hh | hh
    · exact hh
    · rw [List.getElem?_eq_none hh] at h1; cases h1
  have := h.at (k + i) hk
  rw [List.getElem?_eq_getElem hk] at h1
  rw [← Nat.add_assoc] at this
  rw [this]
  exact h1
theorem Cells.first {w : World} {A : Option Addr} {cs : List Value} (h : Cells w A cs) (hp : 0 < cs.length) : ∃ ad, A = some ad ∧ ∀ j v, cs[j]? = some v → w.cell? (ad.add j) = some v := by
  obtain ⟨g, o, rfl, _⟩ := h 0 hp
  refine ⟨_, rfl, fun j v hv => ?_⟩
  have hj : j < cs.length := by
    rcases Nat.lt_or_ge j cs.length with hj | hj
    · exact hj
    · simp [List.getElem?_eq_none hj] at hv
  have := h.at j hj
  rw [List.getElem?_eq_getElem hj] at hv
  rw [hv] at this
  unfold Addr.add
  split
  · rename_i h0; subst h0; simpa using this
  · exact this
theorem add_plain (g o j : Nat) : (⟨g, o, none⟩ : Addr).add j = ⟨g, o + j, none⟩ := by
  unfold Addr.add
  split
  · rename_i h; subst h; rfl
  · rfl

/-- Parts of one size behind one another. -/
theorem flat_at {α : Type} (f : α → List Value) (n : Nat) (hf : ∀ x, (f x).length = n) : ∀ (l : List α) (k i : Nat) (hk : k < l.length), i < n → (l.flatMap f)[k * n + i]? = (f l[k])[i]?
  | x :: l, 0, i, _, hi => by simp [List.getElem?_append, hf, hi]
  | x :: l, k + 1, i, hk, hi => by
    have := flat_at f n hf l k i (by simpa using hk) hi
    rw [List.flatMap_cons, List.getElem?_append_right (by rw [hf, Nat.add_mul]; omega), hf]
    rw [show (k + 1) * n + i - n = k * n + i by rw [Nat.add_mul]; omega, this]
    simp
theorem flat_length {α : Type} (f : α → List Value) (n : Nat) (hf : ∀ x, (f x).length = n) (l : List α) : (l.flatMap f).length = l.length * n := by
  induction l with
  | nil => simp
  | cons x l ih => simp [hf, ih, Nat.add_mul]; omega
/-- The k-th of them. -/
theorem Cells.elem {α : Type} {w : World} {g o : Nat} (f : α → List Value) (n : Nat) (hf : ∀ x, (f x).length = n) {l : List α} (h : Cells w (some ⟨g, o, none⟩) (l.flatMap f)) (k : Nat) (hk : k < l.length) : Cells w (some ⟨g, o + k * n, none⟩) (f l[k]) :=
  h.part (k * n) fun i hi => by
    rw [flat_at f n hf l k i hk (by rw [hf] at hi; exact hi), List.getElem?_eq_getElem hi]
theorem Cells.elem' {α : Type} {w : World} {A : Option Addr} (f : α → List Value) (n : Nat) (hn : 0 < n) (hf : ∀ x, (f x).length = n) {l : List α} (h : Cells w A (l.flatMap f)) (k : Nat) (hk : k < l.length) : ∃ g o, A = some ⟨g, o, none⟩ ∧ Cells w (some ⟨g, o + k * n, none⟩) (f l[k]) := by
  have hlen := flat_length f n hf l
  obtain ⟨g, o, rfl, _⟩ := h 0 (by rw [hlen]; exact Nat.mul_pos (by omega) hn)
  exact ⟨g, o, rfl, h.elem f n hf k hk⟩

section laws
variable {P : Program} {w : World} {ops : Array Oper} {rest : List Oper} {o : Oper} {a : Act} {Q : Exit → Act → World → Prop}
theorem run_loads {g f : Nat} {ty : TypeId} {cs : List Value} {d : TypeDesc} (h : Cells w (some ⟨g, f, none⟩) cs)
    (hu : P.underlying ty = some d) (hd : (match d with | .struct _ | .array _ _ => true | _ => false) = true) (hi : (P.info? ty).map (·.size) = some cs.length) :
    (loadVar ty ⟨g, f, none⟩).run P w = .ok (.agg cs.toArray) w := by
  have hl : (loadCells ⟨g, f, none⟩ cs.length).run P w = .ok cs.toArray w :=
    run_loadCells_list (P := P) w ⟨g, f, none⟩ cs (fun j v hv => by
      have hj : j < cs.length := by
        rcases Nat.lt_or_ge j cs.length with hj | hj
        · exact hj
        · simp [List.getElem?_eq_none hj] at hv
      rw [add_plain, h.at j hj]
      rw [List.getElem?_eq_getElem hj] at hv
      exact hv)
  cases hq : P.info? ty with
  | none => simp [hq] at hi
  | some i =>
    have hs : i.size = cs.length := by simpa [hq] using hi
    have hagg : (isAgg ty).run P w = .ok true w := by
      unfold isAgg
      rw [Sem.run_bind, run_underlying hu w]
      cases d <;> simp_all
    simp [loadVar, Sem.run_bind, hagg, sizeOf, typeInfo, hq, hs, hl]

/-- A value of many cells is loaded. -/
theorem wpList_loads (hgd : o.guard = none) (ty : TypeId) (x : Operand) (ho : o.op = .load ty x) (g f : Nat) (cs : List Value) (hx : a.eval x = .pointer (some ⟨g, f, none⟩)) (hc : Cells w (some ⟨g, f, none⟩) cs)
    (d : TypeDesc) (hu : P.underlying ty = some d) (hd : (match d with | .struct _ | .array _ _ => true | _ => false) = true) (hi : (P.info? ty).map (·.size) = some cs.length)
    (V : Value) (hV : V = .agg cs.toArray)
    (h : wpList P ops Q rest (a.put o.dst V) w) : wpList P ops Q (o :: rest) a w := by
  subst hV
  refine wpList_plain hgd fun K hK => ?_
  unfold Oper.wp execOp
  simp only [ho, hx, Instr.loadAt, Instr.sureAddr, Sem.run_bind, Sem.run_pure, Result.andThen_ok, run_loads hc hu hd hi]
  exact hK _ _ h

theorem run_stores {g f : Nat} {t ty : TypeId} {old cs : List Value} (hh : Holds w g t old) (hf : f + cs.length ≤ old.length) (h1 : ∀ v ∈ cs, v.oneCell' = true) (hi : (P.info? ty).map (·.size) = some cs.length) :
    ∃ v, (storeVar ty ⟨g, f, none⟩ (.agg cs.toArray)).run P w = .ok () v ∧ Holds v g t (old.take f ++ cs ++ old.drop (f + cs.length)) ∧ Mod [g] w v ∧ v.heap.size = w.heap.size := by
  have hst := run_storeCells_at (P := P) g f t cs 0 old.toArray w hh (by simpa using hf) h1
  simp only [Nat.add_zero] at hst
  refine ⟨w.setRow g (old.take f ++ cs ++ old.drop (f + cs.length)).toArray, ?_, setRow_heap w g old.toArray (old.take f ++ cs ++ old.drop (f + cs.length)).toArray t (0, 0) hh,
    ⟨rfl, rfl, rfl, by simp [World.setRow], fun k _ hk => setRow_other w g k _ (by simpa using hk)⟩, by simp [World.setRow]⟩
  · cases hq : P.info? ty with
    | none => simp [hq] at hi
    | some i =>
      have hs : cs.length = i.size := by simpa [hq] using hi.symm
      rw [hs] at hst ⊢
      simpa [storeVar, sizeOf, typeInfo, hq, Value.cells, hs] using hst

/-- A value of many cells is stored. -/
theorem wpList_stores (hgd : o.guard = none) (ty : TypeId) (x y : Operand) (ho : o.op = .store ty x y) (hdst : o.dst = none) (g f : Nat) (cs : List Value) (hx : a.eval x = .pointer (some ⟨g, f, none⟩)) (V : Value) (hy : a.eval y = V) (hV : V = .agg cs.toArray)
    (t : TypeId) (old : List Value) (hh : Holds w g t old) (hf : f + cs.length ≤ old.length) (h1 : ∀ v ∈ cs, v.oneCell' = true) (hi : (P.info? ty).map (·.size) = some cs.length)
    (h : ∀ v, Holds v g t (old.take f ++ cs ++ old.drop (f + cs.length)) → Mod [g] w v → v.heap.size = w.heap.size → wpList P ops Q rest a v) : wpList P ops Q (o :: rest) a w := by
  subst hV
  obtain ⟨v, hrun, h2, h3, h4⟩ := run_stores (P := P) (ty := ty) hh hf h1 hi
  refine wpList_plain hgd fun K hK => ?_
  unfold Oper.wp execOp
  simp only [ho, hx, hy, Instr.storeAt, Instr.sureAddr, Sem.run_bind, Sem.run_pure, Result.andThen_ok, hrun]
  refine hK _ _ ?_
  show wpList P ops Q rest (a.put o.dst undef) _
  rw [hdst]
  exact h v h2 h3 h4
/-- The same, the whole block. -/
theorem wpList_storesAll (hgd : o.guard = none) (ty : TypeId) (x y : Operand) (ho : o.op = .store ty x y) (hdst : o.dst = none) (g : Nat) (cs : List Value) (hx : a.eval x = .pointer (some ⟨g, 0, none⟩)) (V : Value) (hy : a.eval y = V) (hV : V = .agg cs.toArray)
    (t : TypeId) (old : List Value) (hh : Holds w g t old) (hf : cs.length = old.length) (h1 : ∀ v ∈ cs, v.oneCell' = true) (hi : (P.info? ty).map (·.size) = some cs.length)
    (h : ∀ v, Holds v g t cs → Mod [g] w v → v.heap.size = w.heap.size → wpList P ops Q rest a v) : wpList P ops Q (o :: rest) a w :=
  wpList_stores hgd ty x y ho hdst g 0 cs hx V hy hV t old hh (by omega) h1 hi (fun v hv => h v (by simpa [hf] using hv))

/-- A variable, its type's zero value in it. -/
theorem wpList_allocs (hgd : o.guard = none) (ty : TypeId) (ho : o.op = .alloc ty) (cs : List Value) (hz : ∀ w, (zeroValue ty).run P w = .ok (.agg cs.toArray) w)
    (h : ∀ v, Holds v w.heap.size ty cs → Mod [] w v → v.heap.size = w.heap.size + 1 → wpList P ops Q rest (a.put o.dst (.pointer (some ⟨w.heap.size, 0, none⟩))) v) : wpList P ops Q (o :: rest) a w := by
  refine wpList_plain hgd fun K hK => ?_
  unfold Oper.wp execOp
  have hrun : (Instr.alloc ty true (.tuple #[])).run P w = .ok (.pointer (some ⟨w.heap.size, 0, none⟩)) (w.alloc (.cells cs.toArray ty)) := by
    simp [Instr.alloc, hz, newVar, newRow, Value.cells, go_sem]
  simp only [ho, Sem.run_bind, hrun, Result.andThen]
  exact hK _ _ (h _ (Holds.made w ty cs) (Mod.alloc [] w _) (by simp))
/-- A variable with a value in it. -/
theorem wpList_boxes (hgd : o.guard = none) (ty : TypeId) (x : Operand) (ho : o.op = .box ty x) (V : Value) (hx : a.eval x = V) (cs : List Value) (hV : V.cells = cs.toArray)
    (h : ∀ v, Holds v w.heap.size ty cs → Mod [] w v → v.heap.size = w.heap.size + 1 → wpList P ops Q rest (a.put o.dst (.pointer (some ⟨w.heap.size, 0, none⟩))) v) : wpList P ops Q (o :: rest) a w := by
  refine wpList_plain hgd fun K hK => ?_
  unfold Oper.wp execOp
  have hrun : (Instr.box ty V).run P w = .ok (.pointer (some ⟨w.heap.size, 0, none⟩)) (w.alloc (.cells cs.toArray ty)) := by
    have hn : newVar ty V = newRow ty cs.toArray := by unfold newVar; rw [hV]
    unfold Instr.box
    rw [hn]
    simp [newRow, go_sem]
  simp only [ho, Sem.run_bind, hx, hrun, Result.andThen]
  exact hK _ _ (h _ (Holds.made w ty cs) (Mod.alloc [] w _) (by simp))

theorem fold_set (cs : List Value) : ∀ (off : Nat) (z : List Value), off + cs.length ≤ z.length →
    (cs.toArray.zipIdx.foldl (fun (x : Array Value) (p : Value × Nat) => x.setIfInBounds (off + p.2) p.1) z.toArray) = (z.take off ++ cs ++ z.drop (off + cs.length)).toArray := by
  have key : ∀ (cs : List Value) (off k : Nat) (z : List Value), off + k + cs.length ≤ z.length →
      ((cs.zipIdx k).foldl (fun (x : Array Value) (p : Value × Nat) => x.setIfInBounds (off + p.2) p.1) z.toArray) = (z.take (off + k) ++ cs ++ z.drop (off + k + cs.length)).toArray := by
    intro cs
    induction cs with
    | nil => intro off k z h; simp
    | cons c cs ih =>
      intro off k z h
      simp only [List.length_cons] at h
      rw [List.zipIdx_cons, List.foldl_cons]
      have e : (z.toArray.setIfInBounds (off + k) c) = (z.set (off + k) c).toArray := by simp
      show List.foldl _ (z.toArray.setIfInBounds (off + k) c) _ = _
      rw [e, ih off (k + 1) (z.set (off + k) c) (by simp; omega)]
      congr 1
      apply List.ext_getElem?
      intro j
      simp only [List.getElem?_append, List.length_take, List.length_append, List.length_set, List.getElem?_take, List.getElem?_drop, List.getElem?_set, List.length_cons]
      have h1 : min (off + (k + 1)) z.length = off + k + 1 := by omega
      have h2 : min (off + k) z.length = off + k := by omega
      rw [h1, h2]
      by_cases ha : j < off + k
      · have e1 : j < off + k + 1 + cs.length := by omega
        have e2 : j < off + k + 1 := by omega
        have e3 : j < off + k + (cs.length + 1) := by omega
        have e4 : ¬ off + k = j := by omega
        simp [e1, e2, e3, e4, ha] <;> (intro hh; omega)
      · by_cases hb : j = off + k
        · subst hb
          have e1 : off + k < off + k + 1 + cs.length := by omega
          have e3 : off + k < off + k + (cs.length + 1) := by omega
          have e5 : off + k < z.length := by omega
          simp [e1, e3, e5] <;> (intro hh; omega)
        · by_cases hc : j < off + k + 1 + cs.length
          · have e2 : ¬ j < off + k + 1 := by omega
            have e3 : j < off + k + (cs.length + 1) := by omega
            have e6 : j - (off + k) = (j - (off + k + 1)) + 1 := by omega
            simp [hc, e2, e3, ha, e6] <;> (intro hh; omega)
          · have e3 : ¬ j < off + k + (cs.length + 1) := by omega
            have e7 : off + k + 1 + cs.length + (j - (off + k + 1 + cs.length)) = j := by omega
            have e8 : off + (k + 1) + cs.length + (j - (off + k + 1 + cs.length)) = j := by omega
            have e9 : off + k + (cs.length + 1) + (j - (off + k + (cs.length + 1))) = j := by omega
            simp only [hc, e3, if_false, e8, e9]
            rw [if_neg (by omega)]
  intro off z h
  have := key cs off 0 z (by omega)
  simp only [Nat.add_zero] at this
  rw [← this]
  simp
end laws
/-! This program's blocks. -/
/-- A block: 64 bytes. -/
abbrev Blk := { l : List UInt8 // l.length = 64 }
def fil (c : UInt8) : Blk := ⟨List.replicate 64 c, by simp⟩
/-- Its cells; its value. -/
def bc (b : Blk) : List Value := b.1.map oct
def bv (b : Blk) : Value := .agg (bc b).toArray
/-- A write: its sector, its block. -/
def wc (p : Int × Blk) : List Value := .int .i64 p.1 :: bc p.2
def wv (p : Int × Blk) : Value := .agg (wc p).toArray
theorem bc_length (b : Blk) : (bc b).length = 64 := by simp [bc, b.2]
theorem wc_length (p : Int × Blk) : (wc p).length = 65 := by simp [wc, bc_length]
theorem bc_one (b : Blk) : ∀ v ∈ bc b, v.oneCell' = true := octs_one b.1
theorem wc_one (p : Int × Blk) : ∀ v ∈ wc p, v.oneCell' = true := by
  intro v hv
  simp only [wc, List.mem_cons] at hv
  rcases hv with rfl | hv
  · rfl
  · exact bc_one p.2 v hv
theorem bv_cells (b : Blk) : (bv b).cells = (bc b).toArray := rfl
theorem wv_cells (p : Int × Blk) : (wv p).cells = (wc p).toArray := rfl
theorem size110 : (Tryd.prog.info? 73).map (·.size) = some 64 := by kernel_rfl
theorem size128 : (Tryd.prog.info? 92).map (·.size) = some 65 := by kernel_rfl
theorem zero110 : ∀ w, (zeroValue 73).run Tryd.prog w = .ok (.agg (bc (fil 0)).toArray) w := (zero_of_info (n := 64) (by kernel_rfl)).1
theorem zero128 : ∀ w, (zeroValue 92).run Tryd.prog w = .ok (.agg (wc (0, fil 0)).toArray) w := (zero_of_info (n := 65) (by kernel_rfl)).1

end
section
open Go.RowKit
/-- The slice (A, n, c) is nobody else's and holds these. -/
def OwnG {α : Type} (f : α → List Value) (e : TypeId) (size : Nat) (w : World) (A : Option Addr) (c : Nat) (l : List α) : Prop := w.ownsRow 0 e size (.slice A l.length c) l.length (l.flatMap f)
section
variable {α : Type} {f : α → List Value} {e : TypeId} {size : Nat} {w v : World} {A : Option Addr} {c : Nat} {l : List α}
theorem OwnG.nil (f : α → List Value) (e : TypeId) (size : Nat) (w : World) : OwnG f e size w none 0 [] := World.ownsRow_nil w 0 e size
theorem OwnG.fits (h : OwnG f e size w A c l) : l.length ≤ c ∧ c ≤ maxLen := by
  rcases h.2 with ⟨hv, hn⟩ | ⟨g, cap, cur, hv, hb, hg, h1, h2, _⟩
  · injection hv with h1 h2 h3
    subst h3
    exact ⟨by omega, by omega⟩
  · injection hv with h3 h4 h5
    subst h5
    exact ⟨h1, h2⟩
theorem OwnG.lt (h : OwnG f e size w A c l) : ∀ a, A = some a → a.block < w.heap.size := by
  rcases h.2 with ⟨hv, hn⟩ | ⟨g, cap, cur, hv, hb, hg, h1, h2, _⟩
  · injection hv with h1 h2 h3
    subst h1
    simp
  · injection hv with h3 h4 h5
    subst h3
    rintro _ ⟨⟩
    exact (Array.getElem?_eq_some_iff.1 hg).1
theorem OwnG.ne {g : Nat} {t : TypeId} {cs : List Value} (h : OwnG f e size w A c l) (h' : Holds w g t cs) (ht : e ≠ t) : ∀ a, A = some a → a.block ≠ g := by
  rcases h.2 with ⟨hv, hn⟩ | ⟨k, cap, cur, hv, hb, hg, h1, h2, _⟩
  · injection hv with h1 h2 h3
    subst h1
    simp
  · injection hv with h3 h4 h5
    subst h3
    rintro _ ⟨⟩ rfl
    unfold Holds at h'
    rw [hg] at h'
    injection h' with h'
    injection h' with _ hh
    exact ht hh
theorem OwnG.cells (h : OwnG f e size w A c l) : Cells w A (l.flatMap f) := by
  intro i hi
  have hlen := h.1
  rcases h.2 with ⟨hv, hn⟩ | ⟨g, cap, cur, hv, hb, hg, h1, h2, h3, h4⟩
  · rw [hn] at hlen; omega
  · injection hv with e3 e4 e5
    subst e3
    refine ⟨g, 0, rfl, ?_⟩
    rw [Nat.zero_add, cell_of_row w g i cur e (0, 0) hg]
    have : (cur.toList.take (l.length * size))[i]? = some (l.flatMap f)[i] := by rw [h4]; exact List.getElem?_eq_getElem hi
    rw [List.getElem?_take] at this
    split at this
    · simpa using this
    · cases this
theorem OwnG.keep {ms : List Nat} (h : OwnG f e size w A c l) (m : Mod ms w v) (hn : ∀ a, A = some a → a.block ∉ ms) : OwnG f e size v A c l := by
  refine ⟨h.1, ?_⟩
  rcases h.2 with h0 | ⟨g, cap, cur, hv, hb, hg, rest⟩
  · exact .inl h0
  · refine .inr ⟨g, cap, cur, hv, hb, ?_, rest⟩
    injection hv with h3 h4 h5
    subst h3
    rw [m.block g (Array.getElem?_eq_some_iff.1 hg).1 (hn _ rfl)]
    exact hg
end
theorem run_append_noneG {α : Type} {f : α → List Value} {size : Nat} {P : Program} (w : World) (t ty e : TypeId) (i : TypeInfo) (ht : P.underlying t = some (.slice e)) (hi : P.info? e = some i) {A : Option Addr} {c : Nat} {l : List α} (h : OwnG f e size w A c l) (c' : Nat) :
    (Builtin.append_ #[t, t] ty #[.slice A l.length c, .slice none 0 c']).run P w = .ok (.slice A l.length c) w := by
  have hfit := h.fits.1
  rcases A with _ | a
  · have : l.length = 0 ∧ c = 0 := by
      rcases h.2 with ⟨hv, hn⟩ | ⟨g, cap, cur, hv, _⟩
      · injection hv with h1 h2 h3
        exact ⟨hn, h3⟩
      · injection hv with h1; cases h1
    obtain ⟨h0, rfl⟩ := this
    rw [h0]
    simp [Builtin.append_, run_underlying ht, sizeOf, typeInfo, hi, Builtin.lenOf, Builtin.firstCells]
  · simp [Builtin.append_, run_underlying ht, sizeOf, typeInfo, hi, Builtin.lenOf, Builtin.firstCells, hfit, storeCells]

/-- append(s, x...), s the call's own, x whatever, in a walk. -/
theorem wpList_appendG {α : Type} {f : α → List Value} {size : Nat} {P : Program} (w : World) {ops : Array Oper} {rest : List Oper} {o : Oper} {a : Act} {Q : Exit → Act → World → Prop} (hgd : o.guard = none) (s x : Operand) (t : TypeId)
    (ho : o.op = .call { callee := .builtin .append, args := #[s, x], argTypes := #[t, t] })
    (e : TypeId) (i : TypeInfo) (z : Value) (bytes : Nat) (ht : P.underlying t = some (.slice e)) (hi : P.info? e = some i) (hz : i.zero = some z) (hsize : i.size = size) (hby : i.bytes = bytes) (hzs : z.cells.size = size) (hs0 : 0 < size)
    (hf : ∀ x, (f x).length = size) (h1 : ∀ x, ∀ v ∈ f x, v.oneCell' = true)
    (A : Option Addr) (n c : Nat) (l : List α) (hs : a.eval s = .slice A n c) (hn : n = l.length) (hown : OwnG f e size w A c l)
    (X : Option Addr) (m d : Nat) (k : List α) (hx : a.eval x = .slice X m d) (hm : m = k.length) (hr : Cells w X (k.flatMap f))
    (h63 : (l.length + k.length) * bytes ≤ 140737488355328) (h64 : l.length + k.length ≤ maxLen)
    (h : ∀ A' c' v, OwnG f e size v A' c' (l ++ k) → Mod (blk A) w v → (∀ a, A' = some a → a.block ∈ blk A ∨ w.heap.size ≤ a.block) → wpList P ops Q rest (a.put o.dst (.slice A' (l ++ k).length c')) v) :
    wpList P ops Q (o :: rest) a w := by
  subst hn hm
  have hkl := flat_length f size hf k
  rcases X with _ | ad
  · have hk : k = [] := by
      rcases k with _ | ⟨x, k⟩
      · rfl
      · obtain ⟨g, o, hh, _⟩ := hr 0 (by rw [hkl]; simp; omega)
        cases hh
    subst hk
    have hrun := run_append_noneG (P := P) w t o.type e i ht hi hown d
    simp only [List.length_nil] at hx
    refine wpList_plain hgd fun K hK => ?_
    have := h A c w (by simpa using hown) (Mod.refl _ _) (fun b hb => .inl (by subst hb; simp [blk]))
    unfold Oper.wp execOp
    simp only [ho, resolve, invoke, builtin, Sem.run_bind, Sem.run_pure, Result.andThen_ok, List.map_toArray, List.map_cons, List.map_nil, hs, hx, hrun]
    exact hK _ _ (by simpa using this)
  · have hcells : ∀ j u, (k.flatMap f)[j]? = some u → w.cell? (ad.add j) = some u := by
      intro j u hu
      rcases Nat.eq_zero_or_pos (k.flatMap f).length with h0 | h0
      · rw [List.eq_nil_of_length_eq_zero h0] at hu
        simp at hu
      · obtain ⟨ad', e', hh⟩ := hr.first h0
        injection e' with e'
        subst e'
        exact hh j u hu
    have hone : ∀ u ∈ k.flatMap f, u.oneCell' = true := fun u hu => by
      obtain ⟨x, _, hx⟩ := List.mem_flatMap.1 hu
      exact h1 x u hx
    obtain ⟨v', w', hrun, hown', hgr, _, hbl⟩ := run_append_own_at (P := P) w 0 t o.type e i z size bytes ht hi hz hsize hby hzs hs0 _ _ _ hown ad k.length d (k.flatMap f) hkl hcells hone h64 h63 (Nat.zero_le _)
    have hv : ∃ A' c', v' = .slice A' (l ++ k).length c' := by
      rcases hown'.2 with ⟨hv, hn⟩ | ⟨g, cap, cur, hv, _⟩
      · exact ⟨none, 0, by rw [hv, List.length_append, hn]⟩
      · exact ⟨_, _, by rw [hv, List.length_append]⟩
    obtain ⟨A', c', rfl⟩ := hv
    have hO : OwnG f e size w' A' c' (l ++ k) := by
      have := hown'
      rw [← List.length_append, ← List.flatMap_append] at this
      exact this
    have hob : ∀ (A : Option Addr) n c, (Value.slice A n c).ownBlock = A.map (·.block) := by intro A n c; cases A <;> rfl
    rw [hob] at hgr
    rw [hob, hob] at hbl
    refine wpList_plain hgd fun K hK => ?_
    unfold Oper.wp execOp
    simp only [ho, resolve, invoke, builtin, Sem.run_bind, Sem.run_pure, Result.andThen_ok, List.map_toArray, List.map_cons, List.map_nil, hs, hx, hrun]
    refine hK _ _ (h A' c' w' hO ⟨hgr.os, hgr.tape, hgr.output, hgr.size, fun j hj hn => hgr.block j hj ?_⟩ ?_)
    · intro hh
      exact hn (by unfold blk; rw [← hh]; simp)
    · intro b hb
      subst hb
      rcases hbl with hh | hh
      · left; unfold blk; rw [← hh]; simp
      · right
        simp at hh
        omega

theorem fill_step {place : Nat → Option (Nat × Nat)} {i off size : Nat} {v : Value} {rest : List (Nat × Value)} {cells : Array Value} (hp : place i = some (off, size)) (hs : v.cells.size = size) (hl : off + v.cells.size ≤ cells.size) :
    Instr.fill place cells ((i, v) :: rest) = Instr.fill place (v.cells.zipIdx.foldl (fun cs (c, j) => cs.setIfInBounds (off + j) c) cells) rest := by
  rw [Instr.fill]
  simp only [hp]
  rw [if_neg (by simp [hs]; omega)]
/-- A write is built of its two parts. -/
theorem fill_wc (i : Int) (b : Blk) (z0 : Value) (zs : List Value) (hz : zs.length = 64) (place : Nat → Option (Nat × Nat)) (p0 : place 0 = some (0, 1)) (p1 : place 1 = some (1, 64)) :
    Instr.fill place (z0 :: zs).toArray [(0, .int .i64 i), (1, bv b)] = some (wc (i, b)).toArray := by
  have hb := bc_length b
  have h2 := fold_set (bc b) 1 (.int .i64 i :: zs) (by simp only [List.length_cons]; omega)
  have e : List.drop (1 + (bc b).length) (Value.int .i64 i :: zs) = [] := by
    apply List.drop_eq_nil_of_le; simp only [List.length_cons]; omega
  rw [e] at h2
  simp only [List.take_succ_cons, List.take_zero, List.append_nil, List.cons_append, List.nil_append] at h2
  have hc : (Value.int .i64 i).cells = #[.int .i64 i] := rfl
  have h0 : (#[Value.int .i64 i].zipIdx.foldl (fun (x : Array Value) (p : Value × Nat) => x.setIfInBounds (0 + p.2) p.1) (z0 :: zs).toArray) = (Value.int .i64 i :: zs).toArray := by simp
  rw [fill_step p0 rfl (by simp [hc]), hc]
  rw [show (#[Value.int .i64 i].zipIdx.foldl (fun cs (x : Value × Nat) => match x with | (c, j) => cs.setIfInBounds (0 + j) c) (z0 :: zs).toArray) = (Value.int .i64 i :: zs).toArray from h0]
  rw [fill_step p1 (by rw [bv_cells]; simpa using hb) (by rw [bv_cells]; simp [hb, hz]), bv_cells]
  rw [show ((bc b).toArray.zipIdx.foldl (fun cs (x : Value × Nat) => match x with | (c, j) => cs.setIfInBounds (1 + j) c) (Value.int .i64 i :: zs).toArray) = _ from h2]
  rfl
theorem run_build128 (i : Int) (b : Blk) (w : World) : (Instr.build 92 #[(0, .int .i64 i), (1, bv b)]).run Tryd.prog w = .ok (wv (i, b)) w := by
  refine run_build w _ _ _ ?_
  unfold Program.built
  rw [Tryd.underlying92]
  cases hq : Tryd.prog.info? 92 with
  | none => exact absurd (show (Tryd.prog.info? 92).isSome = true by kernel_rfl) (by rw [hq]; simp)
  | some it =>
    have hz : it.zero = some (.agg (wc (0, fil 0)).toArray) := by
      have : (Tryd.prog.info? 92).bind (·.zero) = some (.agg (wc (0, fil 0)).toArray) := by kernel_rfl
      rw [hq] at this
      exact this
    simp only [hz]
    rw [show (List.mapM (fun f : Field => (Tryd.prog.info? f.type).map fun i => (f.offset, i.size)) _) = some [(0, 1), (1, 64)] from by kernel_rfl]
    exact fill_wc i b _ _ (bc_length _) _ rfl rfl
theorem run_lit1 {P : Program} {t e : TypeId} {it : TypeInfo} {Z V : Value} {cs : List Value} {s : Nat} (w : World) (ht : P.underlying t = some (.slice e)) (hq : P.info? e = some it) (hs : it.size = s) (h0 : 0 < s) (hb : s ≤ 2 ^ 24) (hz : ∀ w, (zeroValue e).run P w = .ok Z w) (hV : V.cells = cs.toArray) (hcs : cs.length = s) :
    (Instr.buildSlice t 1 #[(0, V)]).run P w = .ok (.slice (some ⟨w.heap.size, 0, none⟩) 1 1) (w.alloc (.cells cs.toArray e)) := by
  have hf : ∀ z : Array Value, z.size = s → Instr.fill (fun i => some (i * s, s)) z [(0, V)] = some cs.toArray := by
    rintro ⟨z⟩ hz
    have hz' : z.length = s := by simpa using hz
    rw [fill_step (off := 0) (size := s) (by simp) (by rw [hV]; simpa using hcs) (by rw [hV]; simp; omega), hV]
    have := fold_set cs 0 z (by omega)
    rw [show (cs.toArray.zipIdx.foldl (fun cs (x : Value × Nat) => match x with | (c, j) => cs.setIfInBounds (0 + j) c) z.toArray) = _ from this]
    have e : List.drop (0 + cs.length) z = [] := List.drop_eq_nil_of_le (by omega)
    rw [e]
    simp [Instr.fill]
  have hf2 := hf ((Array.range (1 * s)).map (Z.cells[· % Z.cells.size]!)) (by simp)
  unfold Instr.buildSlice
  simp only [Sem.run_bind, run_underlying ht, sizeOf, typeInfo, run_program, hq, Result.andThen, Sem.run_pure, hs]
  rw [if_neg (by omega), if_neg (by omega)]
  simp only [Sem.run_bind, hz, Result.andThen, Sem.run_pure, hf2]
  simp [newRow, go_sem]
theorem info_of (T : TypeId) (h : (Tryd.prog.info? T).isSome = true) : ∃ it, Tryd.prog.info? T = some it := by
  cases hq : Tryd.prog.info? T with
  | none => rw [hq] at h; cases h
  | some it => exact ⟨it, rfl⟩
theorem run_lit84 (p : Int × Blk) (w : World) : (Instr.buildSlice 41 1 #[(0, wv p)]).run Tryd.prog w = .ok (.slice (some ⟨w.heap.size, 0, none⟩) 1 1) (w.alloc (.cells (wc p).toArray 92)) := by
  obtain ⟨it, hq⟩ := info_of 92 (by kernel_rfl)
  exact run_lit1 w Tryd.underlying41 hq (by have := size128; rw [hq] at this; simpa using this) (by omega) (by omega) zero128 (wv_cells p) (wc_length p)
end
section
open Go.RowKit
abbrev Story := List (Int × Blk)
/-- What the sectors hold behind these writes. -/
def app (f : Int → Blk) : Story → Int → Blk
  | [] => f
  | p :: l => app (fun k => if k = p.1 then p.2 else f k) l
theorem app_append (l k : Story) : ∀ f, app f (l ++ k) = app (app f l) k := by
  induction l with
  | nil => intro f; rfl
  | cons p l ih => intro f; exact ih _
theorem app_snoc (f : Int → Blk) (l : Story) (p : Int × Blk) : app f (l ++ [p]) = fun k => if k = p.1 then p.2 else app f l k := by
  rw [app_append]; rfl
theorem app_none (i : Int) (l : Story) : ∀ f, (∀ p ∈ l, p.1 ≠ i) → app f l i = f i := by
  induction l with
  | nil => intro f _; rfl
  | cons p l ih =>
    intro f h
    show app _ l i = _
    rw [ih _ (fun q hq => h q (by simp [hq])), if_neg (fun e => h p (by simp) e.symm)]
theorem app_found (f : Int → Blk) (i : Int) (l k : Story) (b : Blk) (h : ∀ p ∈ k, p.1 ≠ i) : app f (l ++ (i, b) :: k) i = b := by
  rw [app_append]
  show app _ k i = b
  rw [app_none i k _ h, if_pos rfl]
/-- How a disk stands. -/
structure St where
  n : Nat
  firm : Int → Blk
  loose : Story
  dead : Bool
  armed : Int
  failing : Int
  ops : Nat
def St.new (n : Nat) : St := { n := n, firm := fun _ => fil 0, loose := [], dead := false, armed := -1, failing := -1, ops := 0 }
def St.holds (S : St) (i : Int) : Blk := app S.firm S.loose i
/-- One down, if it is from 0 on. -/
def down (x : Int) : Int := if x < 0 then x else x - 1
/-- What is asked comes to this number; S behind it, but for what is done. -/
def St.ask (S : St) (there lasts : Bool) : Int × St :=
  if S.dead then (9, S)
  else if !there then (2, S)
  else if S.failing = 0 then (8, { S with failing := -1 })
  else if lasts && decide (S.armed = 0) then (9, { S with failing := down S.failing, armed := -1, dead := true })
  else (0, { S with failing := down S.failing, armed := if lasts then down S.armed else S.armed, ops := S.ops + 1 })
def St.has (S : St) (i : Int) : Bool := decide (0 ≤ i ∧ i < S.n)
def St.read (S : St) (i : Int) : Blk × Int × St := let r := S.ask (S.has i) false; (if r.1 = 0 then r.2.holds i else fil 0, r.1, r.2)
def St.write (S : St) (i : Int) (b : Blk) : Int × St := let r := S.ask (S.has i) true; (r.1, if r.1 = 0 then { r.2 with loose := r.2.loose ++ [(i, b)] } else r.2)
def St.sync (S : St) : Int × St := let r := S.ask true true; (r.1, if r.1 = 0 then { r.2 with loose := [], firm := app r.2.firm r.2.loose } else r.2)
end
end Go.Proofs.YtcoedhemlghjoaaDoor
