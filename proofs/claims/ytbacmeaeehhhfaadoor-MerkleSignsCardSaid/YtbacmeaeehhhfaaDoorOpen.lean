/-
  What comes in, opened: a slice of bytes, a slice of pairs of numbers. Words of mine.
-/
import Derived.Test.YtbacmeaeehhhfaaDoorB1
import Derived.ProofKit
import Derived.OpenShut
import Derived.ShutString
import Derived.ChangeOld
import Derived.SizedLaws
import Derived.Deep.SlicePairs
namespace Go.Proofs.YtbacmeaeehhhfaaDoor
open Go.ChangeShapes Go.WideShapes Go.ChangeAt Go.RowKit

theorem byte_of {z : Int} (h : (Lit.int .u8 z).wf = true) : 0 ≤ z ∧ z < 256 := by
  simp [Lit.wf, IntKind.min, IntKind.max, IntKind.signed, IntKind.bits] at h
  omega

/-- A slice of bytes that came in. -/
theorem bytes_in {H : Type} {enc : TypeId × Value → H} {P : Program} {W : World} {t e : TypeId} {a : Option Addr} {len cap : Nat} {d : DataW H} {p : List MemPlace} (ht : P.underlying t = some (.slice e)) (he : P.underlying e = some (.int .u8)) (hc : P.cellsOf e = 1)
    (h : DataW.Trod enc P W 0 (fun _ => true) true t (.slice a len cap) d p) : ∃ l : List UInt8, len = l.length ∧ len ≤ cap ∧ cap ≤ maxLen ∧ Reads W a l ∧ (len = 0 ∨ ∃ els sp, d = .slice els sp ∧ els.length + sp.length = cap) := by
  obtain ⟨fuel, hf⟩ := h
  rcases open_ints ht he hc hf with ⟨hcs, _⟩ | ⟨x, l, c, zs, hcs, _, hl, hm, hz, hx, hcell, hwz⟩
  · simp [Value.cells] at hcs
    obtain ⟨rfl, rfl, rfl⟩ := hcs
    exact ⟨[], rfl, by omega, by omega, Reads.nil _ _, .inl rfl⟩
  · simp [Value.cells] at hcs
    obtain ⟨rfl, rfl, rfl⟩ := hcs
    simp at hz
    refine ⟨(zs.take len).map (fun z => UInt8.ofNat z.toNat), by simp; omega, hl, hm, fun i hi => ?_, .inr ?_⟩
    · simp at hi
      have h1 := hcell i (by omega)
      obtain ⟨b, o, s⟩ := x
      have h0 := World.cell?_spot (hcell 0 (by omega))
      have hs : s = none := by simpa [Addr.add] using h0
      subst hs
      refine ⟨b, o, rfl, ?_⟩
      have e1 : (Addr.add ⟨b, o, none⟩ i) = ⟨b, o + i, none⟩ := by
        unfold Addr.add
        split
        · rename_i h; subst h; rfl
        · rfl
      rw [e1] at h1
      rw [h1]
      have hi' : i < zs.length := by omega
      have h2 := byte_of (hwz (zs[i]) (List.getElem_mem hi'))
      simp [hi']
      omega
    · simp only [Prod.mk.injEq] at hx
      refine ⟨_, _, hx.1, ?_⟩
      simp [lits]
      omega

/-- From address A on (if there is one) lie these pairs of numbers. -/
def Pairs (w : World) (k0 k1 : IntKind) (A : Option Addr) (l : List (Int × Int)) : Prop :=
  ∀ i (h : i < l.length), ∃ g o, A = some ⟨g, o, none⟩ ∧ w.cell? ⟨g, o + i * 2, none⟩ = some (.int k0 l[i].1) ∧ w.cell? ⟨g, o + i * 2 + 1, none⟩ = some (.int k1 l[i].2) ∧ (Lit.int k0 l[i].1).wf = true ∧ (Lit.int k1 l[i].2).wf = true

theorem Pairs.keep {w v : World} {k0 k1 : IntKind} {A : Option Addr} {l : List (Int × Int)} {ms : List Nat} (h : Pairs w k0 k1 A l) (m : Mod ms w v) (hn : ∀ a, A = some a → a.block ∉ ms) : Pairs v k0 k1 A l := by
  intro i hi
  obtain ⟨g, o, rfl, hc, hd, hw⟩ := h i hi
  exact ⟨g, o, rfl, m.cell (p := ⟨g, o + i * 2, none⟩) (hn ⟨g, o, none⟩ rfl) hc, m.cell (p := ⟨g, o + i * 2 + 1, none⟩) (hn ⟨g, o, none⟩ rfl) hd, hw⟩

/-- A slice of structs of two numbers that came in. -/
theorem pairs_in {H : Type} {enc : TypeId × Value → H} {P : Program} {W : World} {t e : TypeId} {a : Option Addr} {len cap : Nat} {d : DataW H} {p : List MemPlace} {f0 f1 : Field} {k0 k1 : IntKind}
    (ht : P.underlying t = some (.slice e)) (he : P.underlying e = some (.struct #[f0, f1])) (ce : P.cellsOf e = 2) (o0 : f0.offset = 0) (o1 : f1.offset = 1) (c0 : P.cellsOf f0.type = 1) (c1 : P.cellsOf f1.type = 1)
    (u0 : P.underlying f0.type = some (.int k0)) (u1 : P.underlying f1.type = some (.int k1))
    (h : DataW.Trod enc P W 0 (fun _ => true) true t (.slice a len cap) d p) : ∃ l : List (Int × Int), len = l.length ∧ len ≤ cap ∧ cap ≤ maxLen ∧ Pairs W k0 k1 a l ∧ (len = 0 ∨ ∃ els sp, d = .slice els sp ∧ els.length + sp.length = cap) := by
  obtain ⟨fuel, hf⟩ := h
  rcases Deep.open_slice_pairs ht he ce o0 o1 c0 c1 hf with ⟨hcs, _⟩ | ⟨x, l, c, m, n, V0, V1, D0, D1, P0, P1, hcs, _, hl, hm, hmm, hx, hi⟩
  · simp [Value.cells] at hcs
    obtain ⟨rfl, rfl, rfl⟩ := hcs
    exact ⟨[], rfl, by omega, by omega, fun _ h => absurd h (by simp), .inl rfl⟩
  · simp [Value.cells] at hcs
    obtain ⟨rfl, rfl, rfl⟩ := hcs
    simp at hmm
    subst hmm
    have key : ∀ i, i < len → ∃ q : Int × Int, V0 i = .int k0 q.1 ∧ V1 i = .int k1 q.2 ∧ (Lit.int k0 q.1).wf = true ∧ (Lit.int k1 q.2).wf = true := by
      intro i hi'
      obtain ⟨_, _, h3, h4⟩ := hi i (by omega)
      obtain ⟨n0, e0, _, w0⟩ := DataW.trod_int u0 h3
      obtain ⟨n1, e1, _, w1⟩ := DataW.trod_int u1 h4
      simp at e0 e1
      exact ⟨(n0, n1), e0, e1, w0, w1⟩
    obtain ⟨q, hq⟩ := Deep.choose_lt key
    refine ⟨(List.range len).map q, by simp, hl, hm, fun i h' => ?_, .inr ?_⟩
    · simp at h'
      obtain ⟨h1, h2, _, _⟩ := hi i (by omega)
      obtain ⟨e0, e1, w0, w1⟩ := hq i h'
      obtain ⟨b, o, s⟩ := x
      have h0 := World.cell?_spot (hi 0 (by omega)).1
      have hs : s = none := by simpa [Addr.add] using h0
      subst hs
      have ea : ∀ j, (Addr.add ⟨b, o, none⟩ j) = ⟨b, o + j, none⟩ := by
        intro j
        unfold Addr.add
        split
        · rename_i h; subst h; rfl
        · rfl
      rw [ea] at h1 h2
      exact ⟨b, o, rfl, by rw [h1, e0]; simp, by rw [← Nat.add_assoc] at h2; rw [h2, e1]; simp, by simpa using w0, by simpa using w1⟩
    · simp only [Prod.mk.injEq] at hx
      refine ⟨_, _, hx.1, ?_⟩
      simp
      omega
end Go.Proofs.YtbacmeaeehhhfaaDoor
