/-
  What comes in, opened: bools, what is done, rows of it. Words of mine.
-/
import Derived.Test.YtpdpahkhfilmpaaDiskJ
import Derived.ProofKit
import Derived.OpenShut
import Derived.ShutString
import Derived.ChangeOld
import Derived.SizedLaws
import Derived.Deep.SlicePairs
import Derived.Deep.Grids
namespace Go.Proofs.Ytpdpahkhfilmpaa
open Go.ChangeShapes Go.WideShapes Go.ChangeAt Go.RowKit

section
variable {H : Type} {enc : TypeId × Value → H} {W : World} {fuel : Nat} {x : DataW H × List MemPlace}
theorem bools_in {cs : List Value} (h : DataW.trod enc Try.prog W 0 (fun _ => true) true fuel 47 cs = some x) : ∃ A n c l, cs = [.slice A n c] ∧ n = l.length ∧ n ≤ c ∧ c ≤ maxLen ∧ Bools W A l := by
  rcases Deep.open_bools Try.underlying47 Try.underlying4 (by kernel_rfl) h with ⟨rfl, _⟩ | ⟨a, len, cap, B, rfl, _, hl, hm, _, hc⟩
  · exact ⟨none, 0, 0, [], rfl, rfl, Nat.le_refl _, by simp, Cells.nil _ _⟩
  · refine ⟨some a, len, cap, (List.range len).map B, rfl, by simp, hl, hm, fun i hi => ?_⟩
    simp at hi
    have h1 := hc i (by omega)
    obtain ⟨b, o, s⟩ := a
    have h0 := World.cell?_spot (hc 0 (by omega))
    have hs : s = none := by simpa [Addr.add] using h0
    subst hs
    rw [add_plain] at h1
    exact ⟨b, o, rfl, by rw [h1]; simp⟩
theorem fits_i64 {z : Int} (h : (Lit.int .i64 z).wf = true) : -9223372036854775808 ≤ z ∧ z < 9223372036854775808 := by
  simp [Lit.wf, IntKind.min, IntKind.max, IntKind.signed, IntKind.bits] at h
  omega
theorem oct_of {z : Int} (h : (Lit.int .u8 z).wf = true) : ∃ c : UInt8, Value.int .u8 z = oct c := by
  simp [Lit.wf, IntKind.min, IntKind.max, IntKind.signed, IntKind.bits] at h
  refine ⟨UInt8.ofNat z.toNat, ?_⟩
  show Value.int .u8 z = Value.int .u8 _
  congr 1
  simp
  omega
/-- What is to be done, as its five cells. -/
structure Deed (W : World) (cs : List Value) (kd : Int) (a : Ac) : Prop where
  w1 : (Lit.int .i64 kd).wf = true
  w2 : (Lit.int .i64 a.at_).wf = true
  w3 : (Lit.int .i64 a.n).wf = true
  kind : a.kind = ((IntKind.u64.wrap kd) % 7).toNat
  form : ∃ K c, cs = [.int .i64 kd, .int .i64 a.at_, .int .i64 a.n, oct a.fill, .slice K a.keep.length c] ∧ a.keep.length ≤ c ∧ c ≤ maxLen ∧ Bools W K a.keep
theorem deed_in {cs : List Value} (h : DataW.trod enc Try.prog W 0 (fun _ => true) true fuel 49 cs = some x) : ∃ kd a, Deed W cs kd a := by
  obtain ⟨xs, n, _, _, hlen, hxl, hf⟩ := DataW.trod_struct Try.underlying49 h
  have h5 : Try.prog.cellsOf 49 = 5 := by kernel_rfl
  have c3 : Try.prog.cellsOf 3 = 1 := by kernel_rfl
  have c5 : Try.prog.cellsOf 5 = 1 := by kernel_rfl
  have c47 : Try.prog.cellsOf 47 = 1 := by kernel_rfl
  rw [h5] at hlen
  match cs, hlen, xs, hxl with
  | [v0, v1, v2, v3, v4], _, [y0, y1, y2, y3, y4], _ =>
    have g0 : DataW.trod enc Try.prog W 0 (fun _ => true) true n 3 [v0] = some y0 := by have := hf 0 _ rfl; simpa [c3] using this
    have g1 : DataW.trod enc Try.prog W 0 (fun _ => true) true n 3 [v1] = some y1 := by have := hf 1 _ rfl; simpa [c3] using this
    have g2 : DataW.trod enc Try.prog W 0 (fun _ => true) true n 3 [v2] = some y2 := by have := hf 2 _ rfl; simpa [c3] using this
    have g3 : DataW.trod enc Try.prog W 0 (fun _ => true) true n 5 [v3] = some y3 := by have := hf 3 _ rfl; simpa [c5] using this
    have g4 : DataW.trod enc Try.prog W 0 (fun _ => true) true n 47 [v4] = some y4 := by have := hf 4 _ rfl; simpa [c47] using this
    obtain ⟨a0, e0, _, w0⟩ := DataW.trod_int Try.underlying3 g0
    obtain ⟨a1, e1, _, w1⟩ := DataW.trod_int Try.underlying3 g1
    obtain ⟨a2, e2, _, w2⟩ := DataW.trod_int Try.underlying3 g2
    obtain ⟨a3, e3, _, w3⟩ := DataW.trod_int Try.underlying5 g3
    obtain ⟨K, nk, ck, l, e4, hn, hl, hm, hb⟩ := bools_in g4
    obtain ⟨fl, hfl⟩ := oct_of w3
    simp only [List.cons.injEq, and_true] at e0 e1 e2 e3 e4
    subst hn
    exact ⟨a0, ⟨((IntKind.u64.wrap a0) % 7).toNat, a1, a2, fl, l⟩, w0, w1, w2, rfl, K, ck, by rw [e0, e1, e2, e3, e4, hfl], hl, hm, hb⟩
end
end Go.Proofs.Ytpdpahkhfilmpaa
