/-
  What comes in, opened: bools, acts, rows of them. Words of mine.
-/
import Derived.Test.YtcoedhemlghjoaaGreatDoorWac
import Derived.ProofKit
import Derived.OpenShut
import Derived.ShutString
import Derived.ChangeOld
import Derived.SizedLaws
import Derived.Deep.SlicePairs
import Derived.Deep.Grids
namespace Go.Proofs.YtcoedhemlghjoaaGreatDoor
open Go.ChangeShapes Go.WideShapes Go.ChangeAt Go.RowKit
section
variable {H : Type} {enc : TypeId × Value → H} {W : World} {fuel : Nat} {x : DataW H × List MemPlace}
theorem bools_in {cs : List Value} (h : DataW.trod enc Tryz.prog W 0 (fun _ => true) true fuel 27 cs = some x) : ∃ A n c l, cs = [.slice A n c] ∧ n = l.length ∧ n ≤ c ∧ c ≤ maxLen ∧ Bools W A l := by
  rcases Deep.open_bools Tryz.underlying27 Tryz.underlying4 (by kernel_rfl) h with ⟨rfl, _⟩ | ⟨a, len, cap, B, rfl, _, hl, hm, _, hc⟩
  · exact ⟨none, 0, 0, [], rfl, rfl, Nat.le_refl _, by simp, Cells.nil _ _⟩
  · refine ⟨some a, len, cap, (List.range len).map B, rfl, by simp, hl, hm, fun i hi => ?_⟩
    simp at hi
    have h1 := hc i (by omega)
    obtain ⟨b, o, s⟩ := a
    have h0 := World.cell?_spot (hc 0 (by omega))
    have hs : s = none := by simpa [Addr.add] using h0
    subst hs
    rw [add_plain] at h1
    exact ⟨b, o, rfl, by rw [h1]; simp⟩
theorem fits_i64 {z : Int} (h : (Lit.int .i64 z).wf = true) : -9223372036854775808 ≤ z ∧ z < 9223372036854775808 := by
  simp [Lit.wf, IntKind.min, IntKind.max, IntKind.signed, IntKind.bits] at h
  omega
theorem oct_of {z : Int} (h : (Lit.int .u8 z).wf = true) : ∃ c : UInt8, Value.int .u8 z = oct c := by
  simp [Lit.wf, IntKind.min, IntKind.max, IntKind.signed, IntKind.bits] at h
  refine ⟨UInt8.ofNat z.toNat, ?_⟩
  show Value.int .u8 z = Value.int .u8 _
  congr 1
  simp
  omega
/-- An act that came in, with which loose writes stay. -/
structure AkR where
  a : Ak
  keep : List Bool
  K : Option Addr
  c : Nat
structure ActIn (W : World) (cs : List Value) (r : AkR) : Prop where
  w1 : (Lit.int .i64 r.a.k).wf = true
  w2 : (Lit.int .i64 r.a.n).wf = true
  form : cs = ac r.a r.K r.keep.length r.c
  hl : r.keep.length ≤ r.c
  hc : r.c ≤ maxLen
  bo : Bools W r.K r.keep
set_option maxRecDepth 100000 in
theorem act_in {cs : List Value} (h : DataW.trod enc Tryz.prog W 0 (fun _ => true) true fuel 29 cs = some x) : ∃ r, ActIn W cs r := by
  obtain ⟨xs, n, _, _, hlen, hxl, hf⟩ := DataW.trod_struct Tryz.underlying29 h
  have h4 : Tryz.prog.cellsOf 29 = 4 := by kernel_rfl
  have c3 : Tryz.prog.cellsOf 3 = 1 := by kernel_rfl
  have c5 : Tryz.prog.cellsOf 5 = 1 := by kernel_rfl
  have cB : Tryz.prog.cellsOf 27 = 1 := by kernel_rfl
  rw [h4] at hlen
  match cs, hlen, xs, hxl with
  | [v0, v1, v2, v3], _, [y0, y1, y2, y3], _ =>
    have g0 : DataW.trod enc Tryz.prog W 0 (fun _ => true) true n 3 [v0] = some y0 := by have := hf 0 _ rfl; simpa [c3] using this
    have g1 : DataW.trod enc Tryz.prog W 0 (fun _ => true) true n 3 [v1] = some y1 := by have := hf 1 _ rfl; simpa [c3] using this
    have g2 : DataW.trod enc Tryz.prog W 0 (fun _ => true) true n 5 [v2] = some y2 := by have := hf 2 _ rfl; simpa [c5] using this
    have g3 : DataW.trod enc Tryz.prog W 0 (fun _ => true) true n 27 [v3] = some y3 := by have := hf 3 _ rfl; simpa [cB] using this
    obtain ⟨a0, e0, _, w0⟩ := DataW.trod_int Tryz.underlying3 g0
    obtain ⟨a1, e1, _, w1⟩ := DataW.trod_int Tryz.underlying3 g1
    obtain ⟨a2, e2, _, w2⟩ := DataW.trod_int Tryz.underlying5 g2
    obtain ⟨K, nk, ck, l, e3, hn, hl, hm, hb⟩ := bools_in g3
    obtain ⟨fl, hfl⟩ := oct_of w2
    simp only [List.cons.injEq, and_true] at e0 e1 e2 e3
    subst hn
    exact ⟨⟨⟨a0, a1, fl⟩, l, K, ck⟩, w0, w1, by rw [e0, e1, e2, e3, hfl]; rfl, hl, hm, hb⟩
/-- A row of acts that came in. -/
def Acts (W : World) (A : Option Addr) (l : List AkR) : Prop := ∀ i (h : i < l.length), ∃ b o, A = some ⟨b, o, none⟩ ∧ ActIn W (ac l[i].a l[i].K l[i].keep.length l[i].c) l[i] ∧ Cells W (some ⟨b, o + i * 4, none⟩) (ac l[i].a l[i].K l[i].keep.length l[i].c)
theorem acts_in {cs : List Value} (h : DataW.trod enc Tryz.prog W 0 (fun _ => true) true fuel 22 cs = some x) :
    ∃ A c l, cs = [.slice A l.length c] ∧ l.length ≤ c ∧ c ≤ maxLen ∧ Acts W A l := by
  have h4 : Tryz.prog.cellsOf 29 = 4 := by kernel_rfl
  rcases Deep.open_slice Tryz.underlying22 h with ⟨rfl, _⟩ | ⟨a, len, cap, m, n, D, Pl, rfl, _, hl, hm, hmm, _, hx⟩
  · exact ⟨none, 0, [], rfl, Nat.le_refl _, by simp, fun i h => by simp at h⟩
  · simp only [if_true] at hmm
    have key : ∀ i : Nat, ∃ r : AkR, i < len → ∃ b o, a = ⟨b, o, none⟩ ∧ ActIn W (ac r.a r.K r.keep.length r.c) r ∧ Cells W (some ⟨b, o + i * 4, none⟩) (ac r.a r.K r.keep.length r.c) := by
      intro i
      by_cases hi : i < len
      · obtain ⟨cs', h1, h2⟩ := hx i (by omega)
        obtain ⟨r, hd⟩ := act_in h2
        have hf := hd.form
        rw [h4] at h1
        obtain ⟨_, hlen, hcell⟩ := World.cells?_some h1
        have hsp : ∀ j, j < 4 → ∃ v, W.cell? ((a.add (i * 4)).add j) = some v ∧ cs'[j]? = some v := fun j hj => by
          have := hcell j (by omega)
          refine ⟨cs'[j]'(by omega), ?_, List.getElem?_eq_getElem (by omega)⟩
          rw [this]
          exact List.getElem?_eq_getElem _
        refine ⟨r, fun _ => ?_⟩
        obtain ⟨b, o, s⟩ := a
        have hs : s = none := by
          obtain ⟨cs0, h10, h20⟩ := hx 0 (by omega)
          obtain ⟨_, hlen0, hcell0⟩ := World.cells?_some h10
          have q0 := hcell0 0 (by rw [h4]; omega)
          obtain ⟨r0, hd0⟩ := act_in h20
          rw [hd0.form] at q0
          simpa [Addr.add] using World.cell?_spot q0
        subst hs
        refine ⟨b, o, rfl, ⟨hd.w1, hd.w2, rfl, hd.hl, hd.hc, hd.bo⟩, Cells.of_cells fun j hj => ?_⟩
        have hj4 : j < 4 := hj
        obtain ⟨v, e1, e2⟩ := hsp j hj4
        rw [add_plain, add_plain] at e1
        rw [e1]
        rw [hf, List.getElem?_eq_getElem hj] at e2
        exact e2.symm
      · exact ⟨⟨⟨0, 0, 0⟩, [], none, 0⟩, fun h => absurd h hi⟩
    obtain ⟨f, hf⟩ := Classical.axiomOfChoice key
    have hL : ((List.range len).map f).length = len := by simp
    refine ⟨some a, cap, (List.range len).map f, by rw [hL], by rw [hL]; exact hl, hmm ▸ hm, fun i hi => ?_⟩
    rw [hL] at hi
    obtain ⟨b, o, rfl, q1, q2⟩ := hf i hi
    refine ⟨b, o, rfl, ?_⟩
    simp only [List.getElem_map, List.getElem_range]
    exact ⟨q1, q2⟩
end
theorem Acts.keep {W V : World} {A : Option Addr} {l : List AkR} (h : Acts W A l) (q : Mod [] W V) : ∀ i (hi : i < l.length), ∃ b o, A = some ⟨b, o, none⟩ ∧ Cells V (some ⟨b, o + i * 4, none⟩) (ac l[i].a l[i].K l[i].keep.length l[i].c) := fun i hi => by
  obtain ⟨b, o, h1, _, h3⟩ := h i hi
  exact ⟨b, o, h1, h3.keep q (by simp)⟩
end Go.Proofs.YtcoedhemlghjoaaGreatDoor
