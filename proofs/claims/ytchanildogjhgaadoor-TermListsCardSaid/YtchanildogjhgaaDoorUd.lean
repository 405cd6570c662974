/-
  TermBack: there and back. My own work.
-/
import Derived.Test.YtchanildogjhgaaDoorUc
namespace Go.Proofs.YtchanildogjhgaaDoor
open Go.RowKit Go.Shelf
set_option linter.unusedVariables false
set_option linter.unusedSimpArgs false
theorem back_facts {l l' : List UInt8} {x : Tm} {n sx : Nat} (hn : n = l.length) (HD : Tm.dec 60 l 0 = .ok (x, l', sx)) : l = x.bytes ++ l' ∧ x.right = true ∧ n - l'.length = x.bytes.length ∧ n - l'.length ≤ n := by
  obtain ⟨h1, h2, h3, h4, h5⟩ := Tm.dec_back _ _ _ _ _ _ HD
  refine ⟨h1, ?_, ?_, by omega⟩
  · simp only [Tm.right, h2, h3, Bool.true_and, decide_true, Bool.and_true, decide_eq_true_eq]
    omega
  · rw [hn, h1]; simp
theorem back_again {t : Tm} (h : t.right = true) (l : List UInt8) : Tm.dec 60 (t.bytes ++ l) 0 = .ok (t, l, 0 + t.count) ∧ (t.bytes ++ l).length - l.length = t.bytes.length ∧ ∀ k, k < t.bytes.length → Tm.dec 60 (t.bytes.take k) 0 = .error 7 := by
  simp only [Tm.right, Bool.and_eq_true, decide_eq_true_eq] at h
  refine ⟨Tm.dec_enc 60 t 0 l h.1.1 h.1.2 (by omega), by simp, fun k hk => Tm.dec_short 60 t 0 _ h.1.1 h.1.2 (by omega) ⟨t.bytes.drop k, ?_, (List.take_append_drop _ _).symm⟩⟩
  intro e
  have := congrArg List.length e
  simp at this
  omega
theorem right_len {t : Tm} (h : t.right = true) : t.bytes.length ≤ 1000000000 := by
  simp only [Tm.right, Bool.and_eq_true, decide_eq_true_eq] at h
  have := bytes_len t h.1.1
  omega
theorem decode_yes (A : Option Addr) (l l' : List UInt8) (t : Tm) (s n c nx : Nat) (w : World) (hn : n = l.length) (hl : l.length ≤ 140737488355328) (h : Reads w A l) (G : Glob w) (HD : Tm.dec 60 l 0 = .ok (t, l', s)) (hx : n - l'.length = nx) :
    Calls Tryd.prog 51 #[.slice A n c] w fun e w' => ∃ cs, e = .returned (.tuple #[.agg cs.toArray, .int .i64 (nx : Int), .int .i64 0]) ∧ TIs w' (Btw w.heap.size w'.heap.size) t cs ∧ Mod [] w w' := by
  subst hx
  exact decode_ok A l l' t s n c w hn hl h G HD
theorem Reads.left {w : World} {A : Option Addr} {l m : List UInt8} (h : Reads w A (l ++ m)) : Reads w A l := by
  intro i hi
  obtain ⟨g, o, e, hc⟩ := h i (by simp; omega)
  rw [List.getElem_append_left hi] at hc
  exact ⟨g, o, e, hc⟩
theorem Reads.firsts {w : World} {A : Option Addr} {l : List UInt8} (h : Reads w A l) (k : Nat) : Reads w A (l.take k) := Reads.left (m := l.drop k) (by rw [List.take_append_drop]; exact h)
theorem five {cs : List Value} (h : cs.length = 5) : ∃ a b c d e, cs = [a, b, c, d, e] := by
  match cs, h with
  | [a, b, c, d, e], _ => exact ⟨a, b, c, d, e, rfl⟩
theorem exec_pre {v : World} {o : Oper} {ρ : Operand → Value} {x y : Operand} {g f n c k : Nat} (hk : k ≤ c) (ho : o.op = .slice 62 x none (some y) none) (hx : ρ x = .slice (some ⟨g, f, none⟩) n c) (hy : ρ y = .int .i64 (k : Int)) : (execOp ρ o).run Tryd.prog v = .ok (.value (.slice (some ⟨g, f, none⟩) k c)) v := by
  unfold execOp
  simp [ho, hx, hy, go_sem, run_underlying Tryd.underlying62]
  intro h
  omega
theorem exec_max1 {P : Program} {v : World} {o : Oper} {ρ : Operand → Value} {x y : Operand} {a b : Int} (ho : o.op = .call { callee := .builtin .max, args := #[x, y], argTypes := #[3, 3] }) (hx : ρ x = .int .i64 a) (hy : ρ y = .int .i64 b) : (execOp ρ o).run P v = .ok (.value (.int .i64 (max a b))) v := by
  unfold execOp
  simp [ho, hx, hy, go_sem]
  by_cases h : a < b
  · simp [h, Int.max_eq_right (Int.le_of_lt h)]
  · simp [h, Int.max_eq_left (Int.not_lt.1 h)]
theorem exec_rem {P : Program} {v : World} {o : Oper} {ρ : Operand → Value} {t : TypeId} {x y : Operand} {a b : Nat} (hb : 0 < b) (ho : o.op = .binOp .rem t x y t) (hx : ρ x = .int .i64 (a : Int)) (hy : ρ y = .int .i64 (b : Int)) (h63 : b < 2 ^ 63) : (execOp ρ o).run P v = .ok (.value (.int .i64 ((a % b : Nat) : Int))) v := by
  unfold execOp
  simp [ho, hx, hy, go_sem]
  rw [if_neg (by omega), Int.tmod_eq_emod_of_nonneg (by omega)]
theorem wpList_none27 {w : World} {ops : Array Oper} {rest : List Oper} {o : Oper} {a : Act} {Q : Exit → Act → World → Prop} (hgd : o.guard = none) (ho : o.op = .buildSlice 62 0 #[])
    (h : ∀ v, Holds v w.heap.size 5 [] → Mod [] w v → v.heap.size = w.heap.size + 1 → wpList Tryd.prog ops Q rest (a.put o.dst (.slice (some ⟨w.heap.size, 0, none⟩) 0 0)) v) : wpList Tryd.prog ops Q (o :: rest) a w := by
  have hr : (Instr.buildSlice 62 0 #[]).run Tryd.prog w = .ok (.slice (some ⟨w.heap.size, 0, none⟩) 0 0) (w.alloc (.cells ([] : List Value).toArray 5)) := by kernel_rfl
  refine wpList_plain hgd fun K hK => ?_
  unfold Oper.wp execOp
  simp only [ho, List.map_toArray, List.map_nil, Sem.run_bind, hr, Result.andThen, Sem.run_pure]
  exact hK _ _ (h _ (Holds.made w 5 []) (Mod.alloc [] w _) (by simp))
end Go.Proofs.YtchanildogjhgaaDoor
