/-
  What the listed variables hold; arrays of numbers that came in. My own work.
-/
import Derived.Test.YtcoedhemlghjoaaDoorRows
import Derived.Test.YtcoedhemlghjoaaDoorBv
import Derived.ProofKit
import Derived.LaidMore
import Derived.OpenShut
import Derived.Stop.Joined
namespace Go.Proofs.YtcoedhemlghjoaaDoor
open Go.ChangeShapes Go.WideShapes Go.ChangeAt Go.RowKit
open Sh (wd)
def Kc : List UInt32 := [1116352408, 1899447441, 3049323471, 3921009573, 961987163, 1508970993, 2453635748, 2870763221, 3624381080, 310598401, 607225278, 1426881987, 1925078388, 2162078206, 2614888103, 3248222580, 3835390401, 4022224774, 264347078, 604807628, 770255983, 1249150122, 1555081692, 1996064986, 2554220882, 2821834349, 2952996808, 3210313671, 3336571891, 3584528711, 113926993, 338241895, 666307205, 773529912, 1294757372, 1396182291, 1695183700, 1986661051, 2177026350, 2456956037, 2730485921, 2820302411, 3259730800, 3345764771, 3516065817, 3600352804, 4094571909, 275423344, 430227734, 506948616, 659060556, 883997877, 958139571, 1322822218, 1537002063, 1747873779, 1955562222, 2024104815, 2227730452, 2361852424, 2428436474, 2756734187, 3204031479, 3329325298]
def Sc : List UInt32 := [1779033703, 3144134277, 1013904242, 2773480762, 1359893119, 2600822924, 528734635, 1541459225]
section
variable {H : Type} {enc : TypeId × Value → H} {P : Program} {W : World} {base : Nat} {sp : Nat → Bool} {held : Bool}
theorem arr_in {t e : TypeId} {n fuel : Nat} {k : IntKind} {cs : List Value} {x : DataW H × List MemPlace} (hu : P.underlying t = some (.array n e)) (he : P.underlying e = some (.int k)) (hce : P.cellsOf e = 1) (hct : P.cellsOf t = n)
    (h : DataW.trod enc P W base sp held fuel t cs = some x) : ∃ D : List Int, D.length = n ∧ cs = D.map (Value.int k) ∧ (∀ z ∈ D, (Lit.int k z).wf = true) ∧ x.1 = .agg (D.map fun z => .lit (.int k z)) := by
  obtain ⟨xs, m, _, hx, hlen, hxl, hel⟩ := DataW.trod_array hu h
  rw [hct] at hlen
  rw [hce] at hel
  have key : ∀ i : Nat, ∃ a : Int, i < n → cs[i]? = some (.int k a) ∧ (Lit.int k a).wf = true ∧ (xs[i]?).map (·.1) = some (.lit (.int k a)) := by
    intro i
    by_cases hi : i < n
    · have h1 := hel i hi
      rw [Nat.mul_one] at h1
      have h2 : (cs.drop i).take 1 = [cs[i]'(by omega)] := by
        rw [List.drop_eq_getElem_cons (by omega), List.take_succ_cons, List.take_zero]
      rw [h2, List.getElem?_eq_getElem (by omega)] at h1
      obtain ⟨a, e1, e2, w⟩ := DataW.trod_int he h1
      refine ⟨a, fun _ => ⟨?_, w, ?_⟩⟩
      · rw [List.getElem?_eq_getElem (by omega)]
        simpa using e1
      · rw [List.getElem?_eq_getElem (by omega), Option.map_some, e2]
    · exact ⟨0, fun h => absurd h hi⟩
  obtain ⟨f, hf⟩ := Classical.axiomOfChoice key
  refine ⟨(List.range n).map f, by simp, ?_, ?_, ?_⟩
  · apply List.ext_getElem?
    intro i
    by_cases hi : i < n
    · rw [(hf i hi).1]; simp [hi]
    · rw [List.getElem?_eq_none (by omega), List.getElem?_eq_none (by simp; omega)]
  · intro z hz
    obtain ⟨i, hi, rfl⟩ := List.mem_map.1 hz
    exact (hf i (by simpa using hi)).2.1
  · rw [hx]
    show DataW.agg (xs.map (·.1)) = _
    congr 1
    apply List.ext_getElem?
    intro i
    by_cases hi : i < n
    · rw [List.getElem?_map, (hf i hi).2.2]; simp [hi]
    · rw [List.getElem?_eq_none (by simp; omega), List.getElem?_eq_none (by simp; omega)]
end
theorem wds_ints (L : List UInt32) : L.map wd = (L.map fun x => (x.toNat : Int)).map (Value.int .u32) := by simp
theorem gK : Tryd.prog.globalNamed "safehouse/sha.constants" = some 1 := by kernel_rfl
theorem gS : Tryd.prog.globalNamed "safehouse/sha.start" = some 0 := by kernel_rfl
theorem tK : (Tryd.prog.globals[1]?).map (·.type) = some 134 := by kernel_rfl
theorem tS : (Tryd.prog.globals[0]?).map (·.type) = some 118 := by kernel_rfl
theorem Kc_laid {H : Type} : (Rows.laid_safehouse_sha_constants : DataW H) = .agg ((Kc.map fun x => (x.toNat : Int)).map fun z => .lit (.int .u32 z)) := rfl
theorem Sc_laid {H : Type} : (Rows.laid_safehouse_sha_start : DataW H) = .agg ((Sc.map fun x => (x.toNat : Int)).map fun z => .lit (.int .u32 z)) := rfl
abbrev laid2 : List (String × DataW Unit) := [("safehouse/sha.start", Rows.laid_safehouse_sha_start), ("safehouse/sha.constants", Rows.laid_safehouse_sha_constants)]
theorem u32s_inj {L M : List Int} (h : (L.map fun z => (DataW.lit (.int .u32 z) : DataW Unit)) = M.map fun z => .lit (.int .u32 z)) : L = M :=
  (List.map_inj_right (f := fun z : Int => (DataW.lit (.int .u32 z) : DataW Unit)) (fun a b hab => by simpa using hab)).1 h
/-- What the condition gives the walks. -/
theorem of_laid {W : World} (h : laidMetH Tryd.prog laid2 W) : Cells W (some ⟨1, 0, none⟩) (Kc.map wd) ∧ Cells W (some ⟨0, 0, none⟩) (Sc.map wd) := by
  rw [MakeChecks.laidMetH_plain _ _ _ (by kernel_rfl)] at h
  obtain ⟨ps, ⟨g0, t0, cs0, f0, p0, q0, hg0, ht0, hv0, hd0, ⟨g1, t1, cs1, f1, p1, q1, hg1, ht1, hv1, hd1, _, _⟩, _⟩, _, _⟩ := h
  obtain rfl := Option.some.inj (gS.symm.trans hg0)
  obtain rfl := Option.some.inj (gK.symm.trans hg1)
  obtain rfl := Option.some.inj (tS.symm.trans ht0)
  obtain rfl := Option.some.inj (tK.symm.trans ht1)
  obtain ⟨D0, l0, e0, _, x0⟩ := arr_in (P := Tryd.prog) Tryd.underlying118 Tryd.underlying36 (by kernel_rfl) (by kernel_rfl) hd0
  obtain ⟨D1, l1, e1, _, x1⟩ := arr_in (P := Tryd.prog) Tryd.underlying134 Tryd.underlying36 (by kernel_rfl) (by kernel_rfl) hd1
  have y0 : D0 = Sc.map fun x => (x.toNat : Int) := u32s_inj (DataW.agg.inj (x0.symm.trans Sc_laid))
  have y1 : D1 = Kc.map fun x => (x.toNat : Int) := u32s_inj (DataW.agg.inj (x1.symm.trans Kc_laid))
  rw [y0, ← wds_ints] at e0
  rw [y1, ← wds_ints] at e1
  have c0 : cs0 = (Sc.map wd).toArray := by rw [← e0]
  have c1 : cs1 = (Kc.map wd).toArray := by rw [← e1]
  rw [c0] at hv0
  rw [c1] at hv1
  constructor
  · refine Cells.of_cells fun i hi => ?_
    have := World.var?_cell hg1 hv1 i
    rw [Nat.zero_add, this, List.getElem?_toArray, List.getElem?_eq_getElem hi]
  · refine Cells.of_cells fun i hi => ?_
    have := World.var?_cell hg0 hv0 i
    rw [Nat.zero_add, this, List.getElem?_toArray, List.getElem?_eq_getElem hi]
/-- The door's own heap meets the condition. -/
theorem door_met (os : Os) (args : Array Value) : laidMetH Tryd.prog laid2 ((World.doorLaid Tryd.prog 400 os).forCall (fun _ _ => 0) ⟨#[], args, []⟩).memory :=
  laidMetH_of_parts3 (fuel := 8) (laidMet_of_run' 8 (by kernel_rfl) (by kernel_rfl)) (by kernel_rfl) (by kernel_rfl)
/-- The tables, as the walks want them. -/
theorem glob_of {W : World} (h : laidMetH Tryd.prog laid2 W) : Glob Kc Sc W := by
  obtain ⟨h1, h2⟩ := of_laid h
  refine ⟨rfl, rfl, h1, h2, ?_⟩
  have hc := h1.at 0 (by decide)
  rcases Nat.lt_or_ge 1 W.heap.size with q | q
  · exact q
  · simp [World.cell?, Array.getElem?_eq_none q] at hc
theorem own : ownKnob Tryd.prog.godebug = none := by kernel_rfl
theorem laidOut : laidOutB Tryd.prog = true := by kernel_rfl
end Go.Proofs.YtcoedhemlghjoaaDoor
