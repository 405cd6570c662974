/-
  append of bytes onto a row of the call's own. My own work.
-/
import Derived.Test.YtchanildogjhgaaDoorMem
import Derived.Maps.AppendAt
namespace Go.Proofs.YtchanildogjhgaaDoor
open Go.RowKit

/-- The slice (A, n, c) is the call's own, its block lies from B on, and it holds these bytes. -/
def Owns (w : World) (B : Nat) (e : TypeId) (A : Option Addr) (c : Nat) (l : List UInt8) : Prop :=
  w.ownsRow B e 1 (.slice A l.length c) l.length (l.map oct)

theorem Owns.of_holds {w : World} {B g : Nat} {e : TypeId} {l : List UInt8} (h : Holds w g e (l.map oct)) (hB : B ≤ g) (hl : l.length ≤ maxLen) : Owns w B e (some ⟨g, 0, none⟩) l.length l := by
  refine ⟨by simp, .inr ⟨g, l.length, (l.map oct).toArray, rfl, hB, h, Nat.le_refl _, hl, by simp, ?_⟩⟩
  rw [List.take_of_length_le (by simp)]
theorem Owns.nil (w : World) (B : Nat) (e : TypeId) : Owns w B e none 0 [] := World.ownsRow_nil w B e 1
theorem Owns.fits {w : World} {B : Nat} {e : TypeId} {A : Option Addr} {c : Nat} {l : List UInt8} (h : Owns w B e A c l) : l.length ≤ c ∧ c ≤ maxLen ∧ (∀ a, A = some a → B ≤ a.block ∧ a.block < w.heap.size) := by
  rcases h.2 with ⟨hv, hn⟩ | ⟨g, cap, cur, hv, hb, hg, h1, h2, _⟩
  · injection hv with h1 h2 h3
    subst h1 h3
    exact ⟨by omega, by omega, by simp⟩
  · injection hv with h3 h4 h5
    subst h3 h5
    exact ⟨h1, h2, by rintro _ ⟨⟩; exact ⟨hb, (Array.getElem?_eq_some_iff.1 hg).1⟩⟩
theorem Owns.reads {w : World} {B : Nat} {e : TypeId} {A : Option Addr} {c : Nat} {l : List UInt8} (h : Owns w B e A c l) : Reads w A l := by
  intro i hi
  have h0 := h.2
  rcases h0 with ⟨hv, hn⟩ | ⟨g, cap, cur, hv, hb, hg, h1, h2, _⟩
  · omega
  · injection hv with h3 h4 h5
    subst h3 h5
    have := h.cells (g := g) rfl i (oct l[i]) (by simp [hi])
    refine ⟨g, 0, rfl, ?_⟩
    rw [← this]
    unfold Addr.add
    split
    · rename_i h0; subst h0; rfl
    · rfl
theorem Owns.keep {w v : World} {B : Nat} {e : TypeId} {A : Option Addr} {c : Nat} {l : List UInt8} {ms : List Nat} (h : Owns w B e A c l) (m : Mod ms w v) (hn : ∀ a, A = some a → a.block ∉ ms) : Owns v B e A c l := by
  refine ⟨h.1, ?_⟩
  rcases h.2 with h0 | ⟨g, cap, cur, hv, hb, hg, rest⟩
  · exact .inl h0
  · refine .inr ⟨g, cap, cur, hv, hb, ?_, rest⟩
    injection hv with h3 h4 h5
    subst h3
    rw [m.block g (Array.getElem?_eq_some_iff.1 hg).1 (hn _ rfl)]
    exact hg
theorem Owns.nil_addr {w : World} {B : Nat} {e : TypeId} {c : Nat} {l : List UInt8} (h : Owns w B e none c l) : l = [] ∧ c = 0 := by
  rcases h.2 with ⟨hv, hn⟩ | ⟨g, cap, cur, hv, _⟩
  · injection hv with h1 h2 h3
    exact ⟨List.eq_nil_of_length_eq_zero hn, h3⟩
  · injection hv with h1; cases h1

theorem run_append_none {P : Program} (w : World) (B : Nat) (t ty e : TypeId) (i : TypeInfo) (ht : P.underlying t = some (.slice e)) (hi : P.info? e = some i) {A : Option Addr} {c : Nat} {l : List UInt8} (h : Owns w B e A c l) (c' : Nat) :
    (Builtin.append_ #[t, t] ty #[.slice A l.length c, .slice none 0 c']).run P w = .ok (.slice A l.length c) w := by
  rcases A with _ | a
  · obtain ⟨rfl, rfl⟩ := h.nil_addr
    simp [Builtin.append_, run_underlying ht, sizeOf, typeInfo, hi, Builtin.lenOf, Builtin.firstCells]
  · have := h.fits.1
    simp [Builtin.append_, run_underlying ht, sizeOf, typeInfo, hi, Builtin.lenOf, Builtin.firstCells, this, storeCells]

/-- The block that an address lies in, if there is one. -/
def blk (A : Option Addr) : List Nat := (A.map (·.block)).toList

/-- append(s, x...) of bytes, s the call's own, x whatever, in a walk. -/
theorem wpList_appends {P : Program} (w : World) {ops : Array Oper} {rest : List Oper} {o : Oper} {a : Act} {Q : Exit → Act → World → Prop} (hgd : o.guard = none) (s x : Operand) (t : TypeId)
    (ho : o.op = .call { callee := .builtin .append, args := #[s, x], argTypes := #[t, t] })
    (e : TypeId) (i : TypeInfo) (z : Value) (bytes : Nat) (ht : P.underlying t = some (.slice e)) (hi : P.info? e = some i) (hz : i.zero = some z) (hsize : i.size = 1) (hby : i.bytes = bytes) (hzs : z.cells.size = 1)
    (B : Nat) (hB : B ≤ w.heap.size) (A : Option Addr) (n c : Nat) (l : List UInt8) (hs : a.eval s = .slice A n c) (hn : n = l.length) (hown : Owns w B e A c l)
    (X : Option Addr) (m d : Nat) (k : List UInt8) (hx : a.eval x = .slice X m d) (hm : m = k.length) (hr : Reads w X k)
    (h63 : (l.length + k.length) * bytes ≤ 140737488355328) (h64 : l.length + k.length ≤ maxLen)
    (h : ∀ A' c' v, Owns v B e A' c' (l ++ k) → Mod (blk A) w v → (∀ a, A' = some a → a.block ∈ blk A ∨ w.heap.size ≤ a.block) → wpList P ops Q rest (a.put o.dst (.slice A' (l ++ k).length c')) v) :
    wpList P ops Q (o :: rest) a w := by
  subst hn hm
  rcases X with _ | ad
  · have hk : k = [] := by
      rcases k with _ | ⟨x, k⟩
      · rfl
      · obtain ⟨g, o, hh, _⟩ := hr 0 (by simp); cases hh
    subst hk
    have hrun := run_append_none (P := P) w B t o.type e i ht hi hown d
    simp only [List.length_nil] at hx
    refine wpList_plain hgd fun K hK => ?_
    have := h A c w (by simpa using hown) (Mod.refl _ _) (fun b hb => .inl (by subst hb; simp [blk]))
    unfold Oper.wp execOp
    simp only [ho, resolve, invoke, builtin, Sem.run_bind, Sem.run_pure, Result.andThen_ok, List.map_toArray, List.map_cons, List.map_nil, hs, hx, hrun]
    exact hK _ _ (by simpa using this)
  · have hcells : ∀ j u, (k.map oct)[j]? = some u → w.cell? (ad.add j) = some u := by
      intro j u hu
      rcases Nat.eq_zero_or_pos k.length with h0 | h0
      · have : k = [] := List.eq_nil_of_length_eq_zero h0
        subst this
        simp at hu
      · obtain ⟨ad', e', hh⟩ := hr.src h0
        injection e' with e'
        subst e'
        exact hh j u hu
    obtain ⟨v', w', hrun, hown', hgr, _, hbl⟩ := run_append_own_at (P := P) w B t o.type e i z 1 bytes ht hi hz hsize hby hzs (by omega) _ _ _ hown ad k.length d (k.map oct) (by simp) hcells (octs_one k) h64 h63 hB
    have hv : ∃ A' c', v' = .slice A' (l ++ k).length c' := by
      rcases hown'.2 with ⟨hv, hn⟩ | ⟨g, cap, cur, hv, _⟩
      · exact ⟨none, 0, by rw [hv, List.length_append, hn]⟩
      · exact ⟨_, _, by rw [hv, List.length_append]⟩
    obtain ⟨A', c', rfl⟩ := hv
    have hO : Owns w' B e A' c' (l ++ k) := by
      have := hown'
      rw [← List.length_append, ← List.map_append] at this
      exact this
    have hob : ∀ (A : Option Addr) n c, (Value.slice A n c).ownBlock = A.map (·.block) := by intro A n c; cases A <;> rfl
    rw [hob] at hgr
    rw [hob, hob] at hbl
    refine wpList_plain hgd fun K hK => ?_
    unfold Oper.wp execOp
    simp only [ho, resolve, invoke, builtin, Sem.run_bind, Sem.run_pure, Result.andThen_ok, List.map_toArray, List.map_cons, List.map_nil, hs, hx, hrun]
    refine hK _ _ (h A' c' w' hO ⟨hgr.os, hgr.tape, hgr.output, hgr.size, fun j hj hn => hgr.block j hj ?_⟩ ?_)
    · intro hh
      exact hn (by unfold blk; rw [← hh]; simp)
    · intro b hb
      subst hb
      rcases hbl with hh | hh
      · left; unfold blk; rw [← hh]; simp
      · right
        simp at hh
        omega
end Go.Proofs.YtchanildogjhgaaDoor
