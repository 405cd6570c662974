/-
  Contracts of package octet's functions, fourth part: rows that are the same, noughts, and that the layer wakes. My own work.
-/
import Derived.Test.YtapafniekmfkaaaDoorOctC
import Derived.Laws.IdiomStrings
namespace Go.Proofs.YtapafniekmfkaaaDoor
open Go.RowKit

theorem addr_add (g o i : Nat) : (Addr.add ⟨g, o, none⟩ i) = ⟨g, o + i, none⟩ := by
  unfold Addr.add
  split
  · rename_i h; subst h; rfl
  · rfl

/-- string(b): the bytes as a text. -/
theorem conv_reads {P : Program} (w : World) (src dst e : TypeId) (A : Option Addr) (c : Nat) (l : List UInt8) (hs : P.underlying src = some (.slice e)) (he : P.underlying e = some (.int .u8)) (hd : P.underlying dst = some .string)
    (h : Reads w A l) : (convert src dst (.slice A l.length c)).run P w = .ok (.string ⟨l.toArray⟩) w := by
  rcases A with _ | ⟨g, o, s⟩
  · have : l = [] := by
      rcases l with _ | ⟨x, l⟩
      · rfl
      · obtain ⟨g, o, hh, _⟩ := h 0 (by simp); cases hh
    subst this
    rw [run_convert_bytes_string w src dst e _ _ c hs he hd]
    simp [Conv.bytesToString, Sem.run_pure]
    rfl
  · refine run_convert_bytes_back w src dst e _ c l hs he hd (fun j hj => ?_)
    obtain ⟨g', o', hh, hc⟩ := h j hj
    injection hh with hh
    rw [hh, addr_add, hc]

theorem beq_c (A B : Option Addr) (l k : List UInt8) (c d : Nat) (w : World) (h : Reads w A l) (h' : Reads w B k) :
    Calls Tryd.prog 67 #[.slice A l.length c, .slice B k.length d] w fun e w' => e = .returned (.bool (decide (l = k))) ∧ w = w' := by
  have c1 := conv_reads (P := Tryd.prog) w 27 9 5 A c l Tryd.underlying27 Tryd.underlying5 Tryd.underlying9 h
  have c2 := conv_reads (P := Tryd.prog) w 27 9 5 B d k Tryd.underlying27 Tryd.underlying5 Tryd.underlying9 h'
  by_cases hlk : l = k
  · subst hlk
    go_enter Tryd.func67, Tryd.ntmps67
    go_wp2
    go_ret
    exact ⟨by simp, rfl⟩
  · have hd : decide (l = k) = false := by simpa using hlk
    rw [hd]
    clear hd
    go_enter Tryd.func67, Tryd.ntmps67
    go_wp2
    go_ret
    exact ⟨by simp [hlk], rfl⟩
theorem equal_c (A B : Option Addr) (l k : List UInt8) (c d : Nat) (w : World) (h : Reads w A l) (h' : Reads w B k) :
    Calls Tryd.prog 43 #[.slice A l.length c, .slice B k.length d] w fun e w' => e = .returned (.bool (decide (l = k))) ∧ w = w' := by
  go_enter Tryd.func43, Tryd.ntmps43
  go_wp2_with (go_at_call 67; refine (beq_c A B l k c d w h h').mono ?_; rintro e w1 ⟨rfl, rfl⟩)
  go_ret
  exact ⟨rfl, rfl⟩

theorem equal_n (A B : Option Addr) (l k : List UInt8) (n m c d : Nat) (w : World) (hn : n = l.length) (hm : m = k.length) (h : Reads w A l) (h' : Reads w B k) :
    Calls Tryd.prog 43 #[.slice A n c, .slice B m d] w fun e w' => e = .returned (.bool (decide (l = k))) ∧ w = w' := by
  subst hn hm
  exact equal_c A B l k c d w h h'
theorem beq_n (A B : Option Addr) (l k : List UInt8) (n m c d : Nat) (w : World) (hn : n = l.length) (hm : m = k.length) (h : Reads w A l) (h' : Reads w B k) :
    Calls Tryd.prog 67 #[.slice A n c, .slice B m d] w fun e w' => e = .returned (.bool (decide (l = k))) ∧ w = w' := by
  subst hn hm
  exact beq_c A B l k c d w h h'
theorem read_n (A : Option Addr) (l : List UInt8) (n c : Nat) (w : World) (hn : n = l.length) (hl : l.length ≤ 140737488355328) (h : Reads w A l) :
    Calls Tryd.prog 64 #[.slice A n c] w fun e w' => ∃ g b, e = .returned (.pointer (some ⟨g, 0, none⟩)) ∧ w.heap.size ≤ g ∧ w.heap.size ≤ b ∧ Rdr w' g b l 0 ∧ Mod [] w w' := by
  subst hn
  exact read_c A l c w hl h

/-- No byte but 0. -/
def allNought (l : List UInt8) : Bool := l.all (fun x => x.toNat == 0)
theorem noughts_next (l : List UInt8) (j : Nat) (h : j < l.length) : allNought (l.take (j + 1)) = (allNought (l.take j) && (l[j].toNat == 0)) := by
  unfold allNought; rw [take_next l j h, List.all_append]; simp only [List.all_cons, List.all_nil, Bool.and_true]
theorem noughts_no (l : List UInt8) (j : Nat) (h : j < l.length) (hx : l[j].toNat ≠ 0) : allNought l = false := by
  rw [allNought, List.all_eq_false]
  exact ⟨l[j], List.getElem_mem h, by simpa using hx⟩

/-- A new slice of bytes that are written out. -/
theorem Reads.lit {w : World} {g : Nat} {t : TypeId} (l : List UInt8) (cs : List Value) (h : Holds w g t cs) (e : cs = l.map oct) : Reads w (some ⟨g, 0, none⟩) l := Reads.of_holds (e ▸ h)

end Go.Proofs.YtapafniekmfkaaaDoor
