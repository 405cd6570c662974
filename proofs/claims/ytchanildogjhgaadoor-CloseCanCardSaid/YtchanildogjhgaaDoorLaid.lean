/-
  What the listed variables hold; arrays of numbers that came in. My own work.
-/
import Derived.Test.YtchanildogjhgaaDoorRows
import Derived.Test.YtchanildogjhgaaDoorA3
import Derived.ProofKit
import Derived.LaidMore
import Derived.OpenShut
import Derived.Stop.Joined
namespace Go.Proofs.YtchanildogjhgaaDoor
open Go.ChangeShapes Go.WideShapes Go.ChangeAt Go.RowKit
section
variable {H : Type} {enc : TypeId × Value → H} {P : Program} {W : World} {base : Nat} {sp : Nat → Bool} {held : Bool}
theorem arr_in {t e : TypeId} {n fuel : Nat} {k : IntKind} {cs : List Value} {x : DataW H × List MemPlace} (hu : P.underlying t = some (.array n e)) (he : P.underlying e = some (.int k)) (hce : P.cellsOf e = 1) (hct : P.cellsOf t = n)
    (h : DataW.trod enc P W base sp held fuel t cs = some x) : ∃ D : List Int, D.length = n ∧ cs = D.map (Value.int k) ∧ (∀ z ∈ D, (Lit.int k z).wf = true) ∧ x.1 = .agg (D.map fun z => .lit (.int k z)) := by
  obtain ⟨xs, m, _, hx, hlen, hxl, hel⟩ := DataW.trod_array hu h
  rw [hct] at hlen
  rw [hce] at hel
  have key : ∀ i : Nat, ∃ a : Int, i < n → cs[i]? = some (.int k a) ∧ (Lit.int k a).wf = true ∧ (xs[i]?).map (·.1) = some (.lit (.int k a)) := by
    intro i
    by_cases hi : i < n
    · have h1 := hel i hi
      rw [Nat.mul_one] at h1
      have h2 : (cs.drop i).take 1 = [cs[i]'(by omega)] := by
        rw [List.drop_eq_getElem_cons (by omega), List.take_succ_cons, List.take_zero]
      rw [h2, List.getElem?_eq_getElem (by omega)] at h1
      obtain ⟨a, e1, e2, w⟩ := DataW.trod_int he h1
      refine ⟨a, fun _ => ⟨?_, w, ?_⟩⟩
      · rw [List.getElem?_eq_getElem (by omega)]
        simpa using e1
      · rw [List.getElem?_eq_getElem (by omega), Option.map_some, e2]
    · exact ⟨0, fun h => absurd h hi⟩
  obtain ⟨f, hf⟩ := Classical.axiomOfChoice key
  refine ⟨(List.range n).map f, by simp, ?_, ?_, ?_⟩
  · apply List.ext_getElem?
    intro i
    by_cases hi : i < n
    · rw [(hf i hi).1]; simp [hi]
    · rw [List.getElem?_eq_none (by omega), List.getElem?_eq_none (by simp; omega)]
  · intro z hz
    obtain ⟨i, hi, rfl⟩ := List.mem_map.1 hz
    exact (hf i (by simpa using hi)).2.1
  · rw [hx]
    show DataW.agg (xs.map (·.1)) = _
    congr 1
    apply List.ext_getElem?
    intro i
    by_cases hi : i < n
    · rw [List.getElem?_map, (hf i hi).2.2]; simp [hi]
    · rw [List.getElem?_eq_none (by simp; omega), List.getElem?_eq_none (by simp; omega)]
end
theorem gC : Tryd.prog.globalNamed "safehouse/term.counting" = some 0 := by kernel_rfl
theorem tC : (Tryd.prog.globals[0]?).map (·.type) = some 142 := by kernel_rfl
abbrev tabZ : List Int := [0, 1, 6, 2, 24, 8, 24, 10, 14]
theorem tab_laid {H : Type} : (Rows.laid_safehouse_term_counting : DataW H) = .agg (tabZ.map fun z => .lit (.int .u8 z)) := rfl
abbrev laid1 : List (String × DataW Unit) := [("safehouse/term.counting", Rows.laid_safehouse_term_counting)]
theorem u8s_inj {L M : List Int} (h : (L.map fun z => (DataW.lit (.int .u8 z) : DataW Unit)) = M.map fun z => .lit (.int .u8 z)) : L = M :=
  (List.map_inj_right (f := fun z : Int => (DataW.lit (.int .u8 z) : DataW Unit)) (fun a b hab => by simpa using hab)).1 h
/-- What the condition gives the walks. -/
theorem glob_of {W : World} (h : laidMetH Tryd.prog laid1 W) : Glob W := by
  rw [MakeChecks.laidMetH_plain _ _ _ (by kernel_rfl)] at h
  obtain ⟨ps, ⟨g0, t0, cs0, f0, p0, q0, hg0, ht0, hv0, hd0, _, _⟩, _, _⟩ := h
  obtain rfl := Option.some.inj (gC.symm.trans hg0)
  obtain rfl := Option.some.inj (tC.symm.trans ht0)
  obtain ⟨D0, l0, e0, _, x0⟩ := arr_in (P := Tryd.prog) Tryd.underlying142 Tryd.underlying123 (by kernel_rfl) (by kernel_rfl) hd0
  have y0 : D0 = tabZ := u8s_inj (DataW.agg.inj (x0.symm.trans tab_laid))
  rw [y0] at e0
  have c0 : cs0 = tab.toArray := by
    have : cs0.toList = tab := e0
    rw [← this]
  rw [c0] at hv0
  refine Cells.of_cells fun i hi => ?_
  have := World.var?_cell hg0 hv0 i
  rw [Nat.zero_add, this, List.getElem?_toArray, List.getElem?_eq_getElem hi]
/-- The door's own heap meets the condition. -/
theorem door_met (os : Os) (args : Array Value) : laidMetH Tryd.prog laid1 ((World.doorLaid Tryd.prog 400 os).forCall (fun _ _ => 0) ⟨#[], args, []⟩).memory :=
  laidMetH_of_parts3 (fuel := 8) (laidMet_of_run' 8 (by kernel_rfl) (by kernel_rfl)) (by kernel_rfl) (by kernel_rfl)
theorem own : ownKnob Tryd.prog.godebug = none := by kernel_rfl
theorem laidOut : laidOutB Tryd.prog = true := by kernel_rfl
end Go.Proofs.YtchanildogjhgaaDoor

