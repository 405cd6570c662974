/-
  My own texts Wk Far Eq, one behind the other.
-/
import Derived.Test.YtcoedhemlghjoaaGreatDoorBf
import Derived.Test.YtcoedhemlghjoaaGreatDoorBd
import Derived.BigQuiet
import Derived.Deep.QuietTactic
import Derived.Laws.StructEq
namespace Go.Proofs.YtcoedhemlghjoaaGreatDoor
section
open Go.RowKit

section laws
variable {P : Program} {w : World} {ops : Array Oper} {rest : List Oper} {o : Oper} {a : Act} {Q : Exit → Act → World → Prop}
/-- A value of many cells is loaded, if it is wanted. -/
theorem wpList_loadsW (hw : Region.wanted o (yielded ops a.tmps) = true) (ty : TypeId) (x : Operand) (ho : o.op = .load ty x) (g f : Nat) (cs : List Value) (hx : a.eval x = .pointer (some ⟨g, f, none⟩)) (hc : Cells w (some ⟨g, f, none⟩) cs)
    (d : TypeDesc) (hu : P.underlying ty = some d) (hd : (match d with | .struct _ | .array _ _ => true | _ => false) = true) (hi : (P.info? ty).map (·.size) = some cs.length)
    (V : Value) (hV : V = .agg cs.toArray)
    (h : wpList P ops Q rest (a.put o.dst V) w) : wpList P ops Q (o :: rest) a w := by
  subst hV
  refine wpList_step fun K hK => ?_
  rw [if_pos hw]
  unfold Oper.wp execOp
  simp only [ho, hx, Instr.loadAt, Instr.sureAddr, Sem.run_bind, Sem.run_pure, Result.andThen_ok, run_loads hc hu hd hi]
  exact hK _ _ h
/-- An operation that yields a value, if it is wanted. -/
theorem wpList_ranW (hw : Region.wanted o (yielded ops a.tmps) = true) (V : Value) (v : World) (hrun : (execOp a.eval o).run P w = .ok (.value V) v) (h : wpList P ops Q rest (a.put o.dst V) v) : wpList P ops Q (o :: rest) a w := by
  refine wpList_step fun K hK => ?_
  rw [if_pos hw]
  unfold Oper.wp
  rw [hrun]
  exact hK _ _ h
end laws
end

section
open Go.RowKit

set_option maxHeartbeats 1000000 in
theorem eqints_c (A B : Option Addr) (n c d : Nat) (l : List Int) (w : World) (hn : n = l.length) (hl : n ≤ 1099511627776) (hA : Cells w A (l.map (Value.int .i64))) (hB : Cells w B (l.map (Value.int .i64))) :
    Calls Tryz.prog 64 #[.slice A n c, .slice B n d] w fun e w' => e = .returned (.bool true) ∧ Mod [] w w' := by
  have HH := Lib.hid (And.intro hA (And.intro hB hn))
  clear hA hB hn
  have hlZ : (n : Int) ≤ 1099511627776 := by omega
  go_enter Tryz.func64, Tryz.ntmps64
  go_wp2_with fail
  go_loopw [13] (fun i wi => ∃ k : Nat, k ≤ n ∧ i = .int .i64 (k : Int) ∧ Mod [] w wi) (fun i _ => n - (intOf i).toNat)
  case atStart => exact ⟨0, by omega, rfl, Mod.refl _ _⟩
  case round =>
    obtain ⟨k, hk, rfl, hmi⟩ := hrel
    by_cases hkn : k < n
    · have hkl : k < (l.map (Value.int .i64)).length := by rw [List.length_map, ← HH.out.2.2]; exact hkn
      obtain ⟨ga, oa, rfl, hca⟩ := HH.out.1 k hkl
      obtain ⟨gb, ob, rfl, hcb⟩ := HH.out.2.1 k hkl
      have h1 := hmi.cell (p := ⟨ga, oa + k, none⟩) (by simp) hca
      have h2 := hmi.cell (p := ⟨gb, ob + k, none⟩) (by simp) hcb
      rw [List.getElem_map] at h1 h2
      generalize l[k]'(by simpa using hkl) = x at h1 h2
      have hkZ : (k : Int) < (n : Int) := by omega
      clear hca hcb
      go_wp2_with fail
      go_quiet (fail)
      have hm : Mod [] w (wr.drewN nq) := hmi.then (Mod.drewN [] wr _)
      go_wp2
      exact ⟨⟨k + 1, by omega, by go_num, hm⟩, by simp [intOf]; omega⟩
    · obtain rfl : n = k := by omega
      go_wp2
      go_ret
      exact ⟨rfl, hmi⟩


theorem far_mod {w v v' : World} {ms : List Nat} (h : Mod [] w v) (k : Mod ms v v') (hm : ∀ i ∈ ms, w.heap.size ≤ i) : Mod [] w v' := h.trans k (fun i hi h => by have := hm i h; omega)
/-- A disk that is the call's own. -/
structure Far (w v : World) (g m : Nat) (A : Option Addr) (c : Nat) (S : St) : Prop where
  D : DAt v g m A c S
  mm : Mod [] w v
  g : w.heap.size ≤ g
  m : w.heap.size ≤ m
  A : ∀ a, A = some a → w.heap.size ≤ a.block
/-- Whatever cells are neither a disk's nor its writes' lie as they lay. -/
def Keeps (v v' : World) : Prop := ∀ k t cs, t ≠ 88 → t ≠ 128 → Holds v k t cs → Holds v' k t cs
theorem Keeps.of_mod {v v' : World} (h : Mod [] v v') : Keeps v v' := fun k t cs _ _ hh => hh.keep h (by simp)
theorem Keeps.did {v v' : World} {g m c : Nat} {A : Option Addr} {S : St} {ms : List Nat} (D : DAt v g m A c S) (h : Mod ms v v') (hm : ∀ i ∈ ms, i = g ∨ i = m ∨ i ∈ blk A) : Keeps v v' := fun k t cs h1 h2 hh => hh.keep h (fun hk => by
  rcases hm k hk with rfl | rfl | hb
  · exact hh.ne D.blk h1 rfl
  · exact D.firm.ne_holds hh rfl
  · exact notin_blk (D.loose.ne hh (fun e => h2 e.symm)) hb)
section
variable {w v : World} {g m c : Nat} {A : Option Addr} {S : St}
theorem Far.keep {v' : World} (h : Far w v g m A c S) (k : Mod [] v v') : Far w v' g m A c S := ⟨h.D.keep k (by simp) (by simp) (by simp), h.mm.then k, h.g, h.m, h.A⟩
theorem far_write (h : Far w v g m A c S) (i : Int) (b : Blk) (ho : S.ops + 1 ≤ 1099511627776) : Calls Tryz.prog 90 #[.pointer (some ⟨g, 0, none⟩), .int .i64 i, bv b] v fun e v' => e = .returned (.int .i64 (S.write i b).1) ∧ (∃ A' c', Far w v' g m A' c' (S.write i b).2) ∧ Keeps v v' := by
  refine (write_c S g m A c i b v h.D ho).mono ?_
  rintro e v' ⟨rfl, A', c', q1, q2, q3⟩
  refine ⟨rfl, ⟨A', c', q1, far_mod h.mm q2 (fun i hi => ?_), h.g, h.m, fun a ha => ?_⟩, Keeps.did h.D q2 (fun i hi => ?_)⟩
  · simp only [List.mem_cons] at hi
    rcases hi with rfl | hi
    · exact h.g
    · obtain ⟨a, ha, rfl⟩ := mem_blk hi
      exact h.A a ha
  · rcases q3 a ha with h1 | h1
    · obtain ⟨a2, ha2, e2⟩ := mem_blk h1
      rw [← e2]
      exact h.A a2 ha2
    · have := h.mm.size; omega
  · simp only [List.mem_cons] at hi
    rcases hi with rfl | hi
    · exact .inl rfl
    · exact .inr (.inr hi)
theorem far_sync (h : Far w v g m A c S) (ho : S.ops + 1 ≤ 1099511627776) : Calls Tryz.prog 91 #[.pointer (some ⟨g, 0, none⟩)] v fun e v' => e = .returned (.int .i64 S.sync.1) ∧ (∃ A' c', Far w v' g m A' c' S.sync.2) ∧ Keeps v v' := by
  refine (sync_c S g m A c v h.D ho).mono ?_
  rintro e v' ⟨rfl, A', c', q1, q2, q3⟩
  refine ⟨rfl, ⟨A', c', q1, far_mod h.mm q2 (fun i hi => ?_), h.g, h.m, fun a ha => h.A a (q3 a ha)⟩, Keeps.did h.D q2 (fun i hi => ?_)⟩
  · simp at hi
    rcases hi with rfl | rfl
    · exact h.g
    · exact h.m
  · simp at hi
    rcases hi with rfl | rfl
    · exact .inl rfl
    · exact .inr (.inl rfl)
theorem far_crash (h : Far w v g m A c S) (K : Option Addr) (n ck : Nat) (keep : List Bool) (hk : Bools v K keep) (hn : n = keep.length) (hl : n ≤ maxLen) : Calls Tryz.prog 38 #[.pointer (some ⟨g, 0, none⟩), .slice K n ck] v fun e v' => e = .returned (.int .i64 0) ∧ Far w v' g m none 0 (S.crash keep) ∧ Keeps v v' := by
  refine (crash_c S g m A c K n ck keep v h.D hk hn hl).mono ?_
  rintro e v' ⟨rfl, q1, q2⟩
  refine ⟨rfl, ⟨q1, far_mod h.mm q2 (fun i hi => ?_), h.g, h.m, fun a ha => by cases ha⟩, Keeps.did h.D q2 (fun i hi => ?_)⟩
  · simp at hi
    rcases hi with rfl | rfl
    · exact h.g
    · exact h.m
  · simp at hi
    rcases hi with rfl | rfl
    · exact .inl rfl
    · exact .inr (.inl rfl)
theorem far_turn {v' : World} {T : St} (h : Far w v g m A c S) (q : DAt v' g m A c T) (k : Mod [g] v v') : Far w v' g m A c T ∧ Keeps v v' :=
  ⟨⟨q, far_mod h.mm k (fun i hi => by simp at hi; subst hi; exact h.g), h.g, h.m, h.A⟩, Keeps.did h.D k (fun i hi => by simp at hi; exact .inl hi)⟩
theorem far_read (h : Far w v g m A c S) (i : Int) (ho : S.ops + 1 ≤ 1099511627776) : Calls Tryz.prog 101 #[.pointer (some ⟨g, 0, none⟩), .int .i64 i] v fun e v' => e = .returned (.tuple #[bv (S.read i).1, .int .i64 (S.read i).2.1]) ∧ Far w v' g m A c (S.read i).2.2 ∧ Keeps v v' := by
  refine (read_c S g m A c i v h.D ho).mono ?_
  rintro e v' ⟨rfl, q1, q2⟩
  exact ⟨rfl, far_turn h q1 q2⟩
theorem far_arm (h : Far w v g m A c S) (n : Int) (hn : (Lit.int .i64 n).wf = true) : Calls Tryz.prog 15 #[.pointer (some ⟨g, 0, none⟩), .int .i64 n] v fun e v' => e = .returned (.int .i64 (S.arm n).1) ∧ Far w v' g m A c (S.arm n).2 ∧ Keeps v v' := by
  refine (arm_c S g m _ n v h.D.blk).mono ?_
  rintro e v' ⟨rfl, q1, q2⟩
  have hb : -9223372036854775808 ≤ n ∧ n < 9223372036854775808 := by simp [Lit.wf, IntKind.min, IntKind.max, IntKind.signed, IntKind.bits] at hn; omega
  have hf := h.D.fits
  refine ⟨rfl, far_turn h (h.D.turn q2 q1 ?_ ?_ ?_ ?_) q2⟩ <;> unfold St.arm <;> split <;> first | rfl | exact hf | exact ⟨hf.1, hb.1, hb.2, hf.4, hf.5, hf.6⟩ | exact Nat.le_refl _
theorem far_fail (h : Far w v g m A c S) (n : Int) (hn : (Lit.int .i64 n).wf = true) : Calls Tryz.prog 16 #[.pointer (some ⟨g, 0, none⟩), .int .i64 n] v fun e v' => e = .returned (.int .i64 (S.fail n).1) ∧ Far w v' g m A c (S.fail n).2 ∧ Keeps v v' := by
  refine (fail_c S g m _ n v h.D.blk).mono ?_
  rintro e v' ⟨rfl, q1, q2⟩
  have hb : -9223372036854775808 ≤ n ∧ n < 9223372036854775808 := by simp [Lit.wf, IntKind.min, IntKind.max, IntKind.signed, IntKind.bits] at hn; omega
  have hf := h.D.fits
  refine ⟨rfl, far_turn h (h.D.turn q2 q1 ?_ ?_ ?_ ?_) q2⟩ <;> unfold St.fail <;> split <;> first | rfl | exact hf | exact ⟨hf.1, hf.2, hf.3, hb.1, hb.2, hf.6⟩ | exact Nat.le_refl _
end
end

section
open Go.RowKit
theorem exec_eql39 {ρ : Operand → Value} {o : Oper} {x y : Operand} {b : Blk} {v : World} (ho : o.op = .binOp .eql 110 x y 110) (hx : ρ x = bv b) (hy : ρ y = bv b) : (execOp ρ o).run Tryz.prog v = .ok (.value (.bool true)) v := by
  have h := run_eq_blk b 9998 v
  have hg : Tryz.prog.eqGuardType Tryz.prog.depth 110 = false := by kernel_rfl
  have hx' : ρ x = .agg (bc b).toArray := hx
  have hy' : ρ y = .agg (bc b).toArray := hy
  have h' : (Op.equalIn 10000 110 (.agg (bc b).toArray) (.agg (bc b).toArray)).run Tryz.prog v = .ok true v := h
  unfold execOp
  simp [ho, hx', hy', go_sem, run_eqGuard_agg, hg, run_eql_struct, h', Result.andThen]
theorem exec_neq39 {ρ : Operand → Value} {o : Oper} {x y : Operand} {b : Blk} {v : World} (ho : o.op = .binOp .neq 110 x y 110) (hx : ρ x = bv b) (hy : ρ y = bv b) : (execOp ρ o).run Tryz.prog v = .ok (.value (.bool false)) v := by
  have h := run_eq_blk b 9998 v
  have hg : Tryz.prog.eqGuardType Tryz.prog.depth 110 = false := by kernel_rfl
  have hx' : ρ x = .agg (bc b).toArray := hx
  have hy' : ρ y = .agg (bc b).toArray := hy
  have h' : (Op.equalIn 10000 110 (.agg (bc b).toArray) (.agg (bc b).toArray)).run Tryz.prog v = .ok true v := h
  unfold execOp
  simp [ho, hx', hy', go_sem, run_eqGuard_agg, hg, run_neq_struct, h', Result.andThen]
theorem exec_zero39 {ρ : Operand → Value} {o : Oper} {v : World} (ho : o.op = .build 110 #[]) : (execOp ρ o).run Tryz.prog v = .ok (.value (bv (fil 0))) v := by
  have hrun : (Instr.build 110 #[]).run Tryz.prog v = .ok (.agg (bc (fil 0)).toArray) v := by
    refine run_build v _ _ _ ?_
    kernel_rfl
  unfold execOp
  simp only [ho, List.map_toArray, List.map_nil, Sem.run_bind, hrun, Result.andThen, Sem.run_pure]
  rfl
end
end Go.Proofs.YtcoedhemlghjoaaGreatDoor
