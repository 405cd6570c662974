/-
  Rows of bools that came in, and how long they are. Words of mine.
-/
import Derived.Test.YtpdpahkhfilmpaaArgs
namespace Go.Proofs.Ytpdpahkhfilmpaa
open Go.ChangeShapes Go.WideShapes Go.ChangeAt Go.RowKit
section
variable {H : Type} {enc : TypeId × Value → H} {W : World} {fuel : Nat} {x : DataW H × List MemPlace}
/-- What a row of bools weighs: nothing, or as many as it has. -/
def Weighs (d : DataW H) (n : Nat) : Prop := n = 0 ∨ ∃ elems spare, d = .slice elems spare ∧ n ≤ elems.length
theorem bools_sized {cs : List Value} (h : DataW.trod enc Try.prog W 0 (fun _ => true) true fuel 47 cs = some x) : ∃ A n c l, cs = [.slice A n c] ∧ n = l.length ∧ n ≤ c ∧ c ≤ maxLen ∧ Bools W A l ∧ Weighs x.1 n := by
  rcases Deep.open_bools Try.underlying47 Try.underlying4 (by kernel_rfl) h with ⟨rfl, _⟩ | ⟨a, len, cap, B, rfl, _, hl, hm, hx, hc⟩
  · exact ⟨none, 0, 0, [], rfl, rfl, Nat.le_refl _, by simp, Cells.nil _ _, .inl rfl⟩
  · refine ⟨some a, len, cap, (List.range len).map B, rfl, by simp, hl, hm, fun i hi => ?_, .inr ?_⟩
    · simp at hi
      have h1 := hc i (by omega)
      obtain ⟨b, o, s⟩ := a
      have h0 := World.cell?_spot (hc 0 (by omega))
      have hs : s = none := by simpa [Addr.add] using h0
      subst hs
      rw [add_plain] at h1
      exact ⟨b, o, rfl, by rw [h1]; simp⟩
    · rw [hx]
      exact ⟨_, _, rfl, by simp⟩
theorem weighs_le {ts : List TypeId} {ds : List (DataW H)} (h : (DataW.weightsEach Try.prog ts ds).all (· ≤ reachBytes) = true) {j n : Nat} {d : DataW H} (ht : ts[j]? = some 47) (hd : ds[j]? = some d) (hw : Weighs d n) : n ≤ reachBytes := by
  rcases hw with rfl | ⟨e, s, rfl, hn⟩
  · exact Nat.zero_le _
  · have := sized_slice h ht hd Try.underlying47
    have hb : Try.prog.bytesOf 4 = 1 := by kernel_rfl
    rw [hb] at this
    omega
end
end Go.Proofs.Ytpdpahkhfilmpaa
