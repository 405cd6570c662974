/-
  My own texts Uc Ud, one behind the other.
-/
import Derived.Test.YtchanildogjhgaaDoorA7
namespace Go.Proofs.YtchanildogjhgaaDoor
section
open Go.RowKit Go.Shelf
set_option linter.unusedVariables false
set_option linter.unusedSimpArgs false
end
section
open Go.RowKit Go.Shelf
set_option linter.unusedVariables false
set_option linter.unusedSimpArgs false
theorem back_again {t : Tm} (h : t.right = true) (l : List UInt8) : Tm.dec 60 (t.bytes ++ l) 0 = .ok (t, l, 0 + t.count) ∧ (t.bytes ++ l).length - l.length = t.bytes.length ∧ ∀ k, k < t.bytes.length → Tm.dec 60 (t.bytes.take k) 0 = .error 7 := by
  simp only [Tm.right, Bool.and_eq_true, decide_eq_true_eq] at h
  refine ⟨Tm.dec_enc 60 t 0 l h.1.1 h.1.2 (by omega), by simp, fun k hk => Tm.dec_short 60 t 0 _ h.1.1 h.1.2 (by omega) ⟨t.bytes.drop k, ?_, (List.take_append_drop _ _).symm⟩⟩
  intro e
  have := congrArg List.length e
  simp at this
  omega
theorem right_len {t : Tm} (h : t.right = true) : t.bytes.length ≤ 1000000000 := by
  simp only [Tm.right, Bool.and_eq_true, decide_eq_true_eq] at h
  have := bytes_len t h.1.1
  omega
theorem decode_yes (A : Option Addr) (l l' : List UInt8) (t : Tm) (s n c nx : Nat) (w : World) (hn : n = l.length) (hl : l.length ≤ 140737488355328) (h : Reads w A l) (G : Glob w) (HD : Tm.dec 60 l 0 = .ok (t, l', s)) (hx : n - l'.length = nx) :
    Calls Tryd.prog 51 #[.slice A n c] w fun e w' => ∃ cs, e = .returned (.tuple #[.agg cs.toArray, .int .i64 (nx : Int), .int .i64 0]) ∧ TIs w' (Btw w.heap.size w'.heap.size) t cs ∧ Mod [] w w' := by
  subst hx
  exact decode_ok A l l' t s n c w hn hl h G HD
theorem Reads.left {w : World} {A : Option Addr} {l m : List UInt8} (h : Reads w A (l ++ m)) : Reads w A l := by
  intro i hi
  obtain ⟨g, o, e, hc⟩ := h i (by simp; omega)
  rw [List.getElem_append_left hi] at hc
  exact ⟨g, o, e, hc⟩
theorem five {cs : List Value} (h : cs.length = 5) : ∃ a b c d e, cs = [a, b, c, d, e] := by
  match cs, h with
  | [a, b, c, d, e], _ => exact ⟨a, b, c, d, e, rfl⟩
end
end Go.Proofs.YtchanildogjhgaaDoor

