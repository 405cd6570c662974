/-
  Digests and their bytes, there and back: pure. My own work.
-/
import Derived.Test.YtbacmeaeehhhfaaDoorB6
namespace Go.Proofs.YtbacmeaeehhhfaaDoor
set_option linter.unusedVariables false
def idAt (bs : List UInt8) (z : Nat) : Idv := if h : ((bs.drop (z * 32)).take 32).length = 32 then ⟨(bs.drop (z * 32)).take 32, h⟩ else zeroI
theorem idAt_of {bs : List UInt8} {z : Nat} (h : z * 32 + 32 ≤ bs.length) : (idAt bs z).1 = (bs.drop (z * 32)).take 32 := by
  unfold idAt
  rw [dif_pos (by rw [List.length_take, List.length_drop]; omega)]
def unI (bs : List UInt8) (cnt : Nat) : List Idv := (List.range cnt).map (idAt bs)
theorem unI_length (bs : List UInt8) (cnt : Nat) : (unI bs cnt).length = cnt := by simp [unI]
theorem unI_snoc (bs : List UInt8) (cnt : Nat) : unI bs (cnt + 1) = unI bs cnt ++ [idAt bs cnt] := by simp [unI, List.range_succ]
theorem flat_unI (bs : List UInt8) : ∀ (cnt : Nat), cnt * 32 ≤ bs.length → flatI (unI bs cnt) = bs.take (cnt * 32)
  | 0, _ => by simp [unI, flatI]
  | cnt + 1, h => by
    rw [unI_snoc]
    have ih := flat_unI bs cnt (by omega)
    unfold flatI at ih ⊢
    rw [List.flatMap_append, ih]
    simp only [List.flatMap_cons, List.flatMap_nil, List.append_nil]
    rw [idAt_of (by omega), show (cnt + 1) * 32 = cnt * 32 + 32 by omega, List.take_add]
theorem flat_unI_all (bs : List UInt8) (cnt : Nat) (h : bs.length = cnt * 32) : flatI (unI bs cnt) = bs := by
  rw [flat_unI bs cnt (by omega), List.take_of_length_le (by omega)]
theorem flatI_cons (x : Idv) (l : List Idv) : flatI (x :: l) = x.1 ++ flatI l := by simp [flatI]
theorem flatI_drop : ∀ (l : List Idv) (k : Nat), (flatI l).drop (k * 32) = flatI (l.drop k)
  | [], k => by simp [flatI]
  | x :: l, 0 => by simp
  | x :: l, k + 1 => by
    have h := flatI_drop l k
    have e : flatI (x :: l) = x.1 ++ flatI l := by simp [flatI]
    rw [e, List.drop_succ_cons, ← h, show (k + 1) * 32 = 32 + k * 32 by omega, ← List.drop_drop]
    congr 1
    rw [List.drop_append_of_le_length (by rw [x.2]; exact Nat.le_refl _), List.drop_of_length_le (by rw [x.2]; exact Nat.le_refl _), List.nil_append]
theorem unI_flat (l : List Idv) : unI (flatI l) l.length = l := by
  refine List.ext_getElem (by rw [unI_length]) fun i h1 h2 => ?_
  simp only [unI, List.getElem_map, List.getElem_range]
  refine Subtype.ext ?_
  rw [idAt_of (by rw [flatI_length]; omega), flatI_drop, List.drop_eq_getElem_cons h2]
  rw [flatI_cons, List.take_append_of_le_length (by rw [l[i].2]; exact Nat.le_refl _), List.take_of_length_le (by rw [l[i].2]; exact Nat.le_refl _)]
/-- A signature's bytes. -/
def sgB (i : Nat) (l m : List Idv) : List UInt8 := UInt8.ofNat i :: (flatI l ++ flatI m)
theorem sgB_length (i : Nat) (l m : List Idv) : (sgB i l m).length = 1 + l.length * 32 + m.length * 32 := by
  unfold sgB; rw [List.length_cons, List.length_append, flatI_length, flatI_length]; omega
theorem sgB_back (x : UInt8) (bs : List UInt8) (h : bs.length = 2240) : sgB x.toNat (unI (bs.take 2144) 67) (unI (bs.drop 2144) 3) = x :: bs := by
  unfold sgB
  rw [flat_unI_all _ 67 (by rw [List.length_take]; omega), flat_unI_all _ 3 (by rw [List.length_drop]; omega), List.take_append_drop]
  simp
theorem enc_take (i : Nat) (l m : List Idv) (hl : l.length = 67) : (flatI l ++ flatI m).take 2144 = flatI l := by
  rw [List.take_append_of_le_length (by rw [flatI_length]; omega), List.take_of_length_le (by rw [flatI_length]; omega)]
theorem enc_drop (i : Nat) (l m : List Idv) (hl : l.length = 67) : (flatI l ++ flatI m).drop 2144 = flatI m := by
  rw [List.drop_append_of_le_length (by rw [flatI_length]; omega), List.drop_of_length_le (by rw [flatI_length]; omega), List.nil_append]
end Go.Proofs.YtbacmeaeehhhfaaDoor
