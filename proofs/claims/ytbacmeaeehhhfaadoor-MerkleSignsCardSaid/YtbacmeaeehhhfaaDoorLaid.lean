/-
  What the listed variables hold; arrays of numbers that came in. My own work.
-/
import Derived.Test.YtbacmeaeehhhfaaDoorRows
import Derived.Test.YtbacmeaeehhhfaaDoorB5
import Derived.ProofKit
import Derived.LaidMore
import Derived.OpenShut
import Derived.Stop.Joined
namespace Go.Proofs.YtbacmeaeehhhfaaDoor
open Go.ChangeShapes Go.WideShapes Go.ChangeAt Go.RowKit
section
variable {H : Type} {enc : TypeId × Value → H} {P : Program} {W : World} {base : Nat} {sp : Nat → Bool} {held : Bool}
theorem arr_in {t e : TypeId} {n fuel : Nat} {k : IntKind} {cs : List Value} {x : DataW H × List MemPlace} (hu : P.underlying t = some (.array n e)) (he : P.underlying e = some (.int k)) (hce : P.cellsOf e = 1) (hct : P.cellsOf t = n)
    (h : DataW.trod enc P W base sp held fuel t cs = some x) : ∃ D : List Int, D.length = n ∧ cs = D.map (Value.int k) ∧ (∀ z ∈ D, (Lit.int k z).wf = true) ∧ x.1 = .agg (D.map fun z => .lit (.int k z)) := by
  obtain ⟨xs, m, _, hx, hlen, hxl, hel⟩ := DataW.trod_array hu h
  rw [hct] at hlen
  rw [hce] at hel
  have key : ∀ i : Nat, ∃ a : Int, i < n → cs[i]? = some (.int k a) ∧ (Lit.int k a).wf = true ∧ (xs[i]?).map (·.1) = some (.lit (.int k a)) := by
    intro i
    by_cases hi : i < n
    · have h1 := hel i hi
      rw [Nat.mul_one] at h1
      have h2 : (cs.drop i).take 1 = [cs[i]'(by omega)] := by
        rw [List.drop_eq_getElem_cons (by omega), List.take_succ_cons, List.take_zero]
      rw [h2, List.getElem?_eq_getElem (by omega)] at h1
      obtain ⟨a, e1, e2, w⟩ := DataW.trod_int he h1
      refine ⟨a, fun _ => ⟨?_, w, ?_⟩⟩
      · rw [List.getElem?_eq_getElem (by omega)]
        simpa using e1
      · rw [List.getElem?_eq_getElem (by omega), Option.map_some, e2]
    · exact ⟨0, fun h => absurd h hi⟩
  obtain ⟨f, hf⟩ := Classical.axiomOfChoice key
  refine ⟨(List.range n).map f, by simp, ?_, ?_, ?_⟩
  · apply List.ext_getElem?
    intro i
    by_cases hi : i < n
    · rw [(hf i hi).1]; simp [hi]
    · rw [List.getElem?_eq_none (by omega), List.getElem?_eq_none (by simp; omega)]
  · intro z hz
    obtain ⟨i, hi, rfl⟩ := List.mem_map.1 hz
    exact (hf i (by simpa using hi)).2.1
  · rw [hx]
    show DataW.agg (xs.map (·.1)) = _
    congr 1
    apply List.ext_getElem?
    intro i
    by_cases hi : i < n
    · rw [List.getElem?_map, (hf i hi).2.2]; simp [hi]
    · rw [List.getElem?_eq_none (by simp; omega), List.getElem?_eq_none (by simp; omega)]
end
theorem octs_of (D : List Int) (h : ∀ z ∈ D, (Lit.int .u8 z).wf = true) : ∃ L : List UInt8, L.length = D.length ∧ D.map (Value.int .u8) = L.map oct := by
  refine ⟨D.map fun z => UInt8.ofNat z.toNat, by simp, ?_⟩
  rw [List.map_map]
  apply List.map_congr_left
  intro z hz
  have := h z hz
  simp [Lit.wf, IntKind.min, IntKind.max, IntKind.signed, IntKind.bits] at this
  show Value.int .u8 z = Value.int .u8 _
  congr 1
  simp
  omega
theorem wds_of (D : List Int) (h : ∀ z ∈ D, (Lit.int .u32 z).wf = true) : ∃ L : List UInt32, L.length = D.length ∧ D.map (Value.int .u32) = L.map wd := by
  refine ⟨D.map fun z => UInt32.ofNat z.toNat, by simp, ?_⟩
  rw [List.map_map]
  apply List.map_congr_left
  intro z hz
  have := h z hz
  simp [Lit.wf, IntKind.min, IntKind.max, IntKind.signed, IntKind.bits] at this
  show Value.int .u32 z = Value.int .u32 _
  congr 1
  simp
  omega
theorem gK : Tryd.prog.globalNamed "safehouse/sha.constants" = some 1 := by kernel_rfl
theorem gS : Tryd.prog.globalNamed "safehouse/sha.start" = some 0 := by kernel_rfl
theorem tK : (Tryd.prog.globals[1]?).map (·.type) = some 123 := by kernel_rfl
theorem tS : (Tryd.prog.globals[0]?).map (·.type) = some 98 := by kernel_rfl
theorem Kc_laid {H : Type} : (Rows.laid_safehouse_sha_constants : DataW H) = .agg ((Kc.map fun x => (x.toNat : Int)).map fun z => .lit (.int .u32 z)) := rfl
theorem Sc_laid {H : Type} : (Rows.laid_safehouse_sha_start : DataW H) = .agg ((Sc.map fun x => (x.toNat : Int)).map fun z => .lit (.int .u32 z)) := rfl
abbrev laid2 : List (String × DataW Unit) := [("safehouse/sha.start", Rows.laid_safehouse_sha_start), ("safehouse/sha.constants", Rows.laid_safehouse_sha_constants)]
theorem u32s_inj {L M : List Int} (h : (L.map fun z => (DataW.lit (.int .u32 z) : DataW Unit)) = M.map fun z => .lit (.int .u32 z)) : L = M :=
  (List.map_inj_right (f := fun z : Int => (DataW.lit (.int .u32 z) : DataW Unit)) (fun a b hab => by simpa using hab)).1 h
/-- What the condition gives the walks. -/
theorem of_laid {W : World} (h : laidMetH Tryd.prog laid2 W) : Cells W (some ⟨1, 0, none⟩) (Kc.map wd) ∧ Cells W (some ⟨0, 0, none⟩) (Sc.map wd) := by
  rw [MakeChecks.laidMetH_plain _ _ _ (by kernel_rfl)] at h
  obtain ⟨ps, ⟨g0, t0, cs0, f0, p0, q0, hg0, ht0, hv0, hd0, ⟨g1, t1, cs1, f1, p1, q1, hg1, ht1, hv1, hd1, _, _⟩, _⟩, _, _⟩ := h
  obtain rfl := Option.some.inj (gS.symm.trans hg0)
  obtain rfl := Option.some.inj (gK.symm.trans hg1)
  obtain rfl := Option.some.inj (tS.symm.trans ht0)
  obtain rfl := Option.some.inj (tK.symm.trans ht1)
  obtain ⟨D0, l0, e0, _, x0⟩ := arr_in (P := Tryd.prog) Tryd.underlying98 Tryd.underlying97 (by kernel_rfl) (by kernel_rfl) hd0
  obtain ⟨D1, l1, e1, _, x1⟩ := arr_in (P := Tryd.prog) Tryd.underlying123 Tryd.underlying97 (by kernel_rfl) (by kernel_rfl) hd1
  have y0 : D0 = Sc.map fun x => (x.toNat : Int) := u32s_inj (DataW.agg.inj (x0.symm.trans Sc_laid))
  have y1 : D1 = Kc.map fun x => (x.toNat : Int) := u32s_inj (DataW.agg.inj (x1.symm.trans Kc_laid))
  rw [y0, ← wds_ints] at e0
  rw [y1, ← wds_ints] at e1
  have c0 : cs0 = (Sc.map wd).toArray := by rw [← e0]
  have c1 : cs1 = (Kc.map wd).toArray := by rw [← e1]
  rw [c0] at hv0
  rw [c1] at hv1
  constructor
  · refine Cells.of_cells fun i hi => ?_
    have := World.var?_cell hg1 hv1 i
    rw [Nat.zero_add, this, List.getElem?_toArray, List.getElem?_eq_getElem hi]
  · refine Cells.of_cells fun i hi => ?_
    have := World.var?_cell hg0 hv0 i
    rw [Nat.zero_add, this, List.getElem?_toArray, List.getElem?_eq_getElem hi]
/-- The door's own heap meets the condition. -/
theorem door_met (os : Os) (args : Array Value) : laidMetH Tryd.prog laid2 ((World.doorLaid Tryd.prog 400 os).forCall (fun _ _ => 0) ⟨#[], args, []⟩).memory :=
  laidMetH_of_parts3 (fuel := 8) (laidMet_of_run' 8 (by kernel_rfl) (by kernel_rfl)) (by kernel_rfl) (by kernel_rfl)
theorem glob_of {W : World} (h : laidMetH Tryd.prog laid2 W) : Glob W := Glob.of (of_laid h).1 (of_laid h).2
theorem own : ownKnob Tryd.prog.godebug = none := by kernel_rfl
theorem laidOut : laidOutB Tryd.prog = true := by kernel_rfl
end Go.Proofs.YtbacmeaeehhhfaaDoor
