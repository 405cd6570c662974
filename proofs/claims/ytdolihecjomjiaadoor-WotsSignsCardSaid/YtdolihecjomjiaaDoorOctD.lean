/-
  Contracts of package octet's functions, fourth part: rows that are the same, noughts, and that the layer wakes. My own work.
-/
import Derived.Test.YtdolihecjomjiaaDoorOctC
import Derived.Laws.IdiomStrings
namespace Go.Proofs.YtdolihecjomjiaaDoor
open Go.RowKit

theorem addr_add (g o i : Nat) : (Addr.add ⟨g, o, none⟩ i) = ⟨g, o + i, none⟩ := by
  unfold Addr.add
  split
  · rename_i h; subst h; rfl
  · rfl

/-- string(b): the bytes as a text. -/
theorem conv_reads {P : Program} (w : World) (src dst e : TypeId) (A : Option Addr) (c : Nat) (l : List UInt8) (hs : P.underlying src = some (.slice e)) (he : P.underlying e = some (.int .u8)) (hd : P.underlying dst = some .string)
    (h : Reads w A l) : (convert src dst (.slice A l.length c)).run P w = .ok (.string ⟨l.toArray⟩) w := by
  rcases A with _ | ⟨g, o, s⟩
  · have : l = [] := by
      rcases l with _ | ⟨x, l⟩
      · rfl
      · obtain ⟨g, o, hh, _⟩ := h 0 (by simp); cases hh
    subst this
    rw [run_convert_bytes_string w src dst e _ _ c hs he hd]
    simp [Conv.bytesToString, Sem.run_pure]
    rfl
  · refine run_convert_bytes_back w src dst e _ c l hs he hd (fun j hj => ?_)
    obtain ⟨g', o', hh, hc⟩ := h j hj
    injection hh with hh
    rw [hh, addr_add, hc]

theorem read_n (A : Option Addr) (l : List UInt8) (n c : Nat) (w : World) (hn : n = l.length) (hl : l.length ≤ 140737488355328) (h : Reads w A l) :
    Calls Tryd.prog 51 #[.slice A n c] w fun e w' => ∃ g b, e = .returned (.pointer (some ⟨g, 0, none⟩)) ∧ w.heap.size ≤ g ∧ w.heap.size ≤ b ∧ Rdr w' g b l 0 ∧ Mod [] w w' := by
  subst hn
  exact read_c A l c w hl h

/-- No byte but 0. -/
def allNought (l : List UInt8) : Bool := l.all (fun x => x.toNat == 0)
theorem noughts_next (l : List UInt8) (j : Nat) (h : j < l.length) : allNought (l.take (j + 1)) = (allNought (l.take j) && (l[j].toNat == 0)) := by
  unfold allNought; rw [take_next l j h, List.all_append]; simp only [List.all_cons, List.all_nil, Bool.and_true]
theorem noughts_no (l : List UInt8) (j : Nat) (h : j < l.length) (hx : l[j].toNat ≠ 0) : allNought l = false := by
  rw [allNought, List.all_eq_false]
  exact ⟨l[j], List.getElem_mem h, by simpa using hx⟩

/-- A new slice of bytes that are written out. -/
theorem Reads.lit {w : World} {g : Nat} {t : TypeId} (l : List UInt8) (cs : List Value) (h : Holds w g t cs) (e : cs = l.map oct) : Reads w (some ⟨g, 0, none⟩) l := Reads.of_holds (e ▸ h)

end Go.Proofs.YtdolihecjomjiaaDoor
