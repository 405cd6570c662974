/-
  The statements' own helpers over a disk: filled, wakes. Contracts of mine.
-/
import Derived.Test.YtpdpahkhfilmpaaDiskM
import Derived.Test.YtpdpahkhfilmpaaDiskL
namespace Go.Proofs.Ytpdpahkhfilmpaa
open Go.RowKit

section laws
variable {P : Program} {w : World} {ops : Array Oper} {rest : List Oper} {o : Oper} {a : Act} {Q : Exit → Act → World → Prop}
/-- A value of many cells is loaded, if it is wanted. -/
theorem wpList_loadsW (hw : Region.wanted o (yielded ops a.tmps) = true) (ty : TypeId) (x : Operand) (ho : o.op = .load ty x) (g f : Nat) (cs : List Value) (hx : a.eval x = .pointer (some ⟨g, f, none⟩)) (hc : Cells w (some ⟨g, f, none⟩) cs)
    (d : TypeDesc) (hu : P.underlying ty = some d) (hd : (match d with | .struct _ | .array _ _ => true | _ => false) = true) (hi : (P.info? ty).map (·.size) = some cs.length)
    (V : Value) (hV : V = .agg cs.toArray)
    (h : wpList P ops Q rest (a.put o.dst V) w) : wpList P ops Q (o :: rest) a w := by
  subst hV
  refine wpList_step fun K hK => ?_
  rw [if_pos hw]
  unfold Oper.wp execOp
  simp only [ho, hx, Instr.loadAt, Instr.sureAddr, Sem.run_bind, Sem.run_pure, Result.andThen_ok, run_loads hc hu hd hi]
  exact hK _ _ h
/-- An operation that yields a value, if it is wanted. -/
theorem wpList_ranW (hw : Region.wanted o (yielded ops a.tmps) = true) (V : Value) (v : World) (hrun : (execOp a.eval o).run P w = .ok (.value V) v) (h : wpList P ops Q rest (a.put o.dst V) v) : wpList P ops Q (o :: rest) a w := by
  refine wpList_step fun K hK => ?_
  rw [if_pos hw]
  unfold Oper.wp
  rw [hrun]
  exact hK _ _ h
end laws

set_option maxRecDepth 100000 in
set_option maxHeartbeats 2000000 in
theorem filled_c (c : UInt8) (w : World) : Calls Try.prog 22 #[.int .u8 (c.toNat : Int)] w fun e w' => e = .returned (bv (fil c)) ∧ Mod [] w w' := by
  go_enter Try.func22, Try.ntmps22
  go_wp2_with (first
    | (with_reducible refine wpList_allocs (o := ⟨some 2, .alloc 39, _, _, _, _⟩) rfl 39 rfl _ zero39 ?_; intro w1 hb1 m1 z1; replace z1 := Lib.hid z1)
    | (with_reducible refine wpList_allocs (o := ⟨some 3, .alloc 39, _, _, _, _⟩) rfl 39 rfl _ zero39 ?_; intro w2 hb2 m2 z2; replace z2 := Lib.hid z2))
  obtain ⟨b1, e1⟩ : ∃ b, b = w.heap.size := ⟨_, rfl⟩
  obtain ⟨b2, e2⟩ : ∃ b, b = w1.heap.size := ⟨_, rfl⟩
  have k1 : Holds w2 b1 39 (bc (fil 0)) := by rw [e1]; exact hb1.keep m2 (by simp)
  rw [← e2] at hb2
  rw [← e1, ← e2]
  have o1 : b1 < b2 := by have := z1.out; omega
  have o2 : w.heap.size ≤ b1 := by omega
  have mm := m1.then m2
  have HZ := Lib.hid (And.intro k1 (And.intro mm (And.intro hb2 (And.intro o1 o2))))
  clear e1 e2 hb1 k1 m1 m2 z1 z2 mm o1 o2
  obtain ⟨wo, hwo⟩ : ∃ wo, wo = w2 := ⟨_, rfl⟩
  have HW := Lib.hid hwo
  clear hwo hb2
  go_loopw [5] (fun i wi => ∃ k : Nat, k ≤ 64 ∧ i = .int .i64 (k : Int) ∧ Mod [b2] wo wi ∧ ∃ cs : List Value, cs.length = 64 ∧ Holds wi b2 39 cs ∧ cs.take k = List.replicate k (oct c)) (fun i _ => 64 - (intOf i).toNat)
  case atStart => exact ⟨0, by omega, rfl, by rw [HW.out]; exact Mod.refl _ _, _, bc_length _, HZ.out.2.2.1, by simp⟩
  case round =>
    obtain ⟨k, hk, rfl, hmi, ds, hds, hhi, htk⟩ := hrel
    by_cases hkn : k < 64
    · have e1 := hhi.cell k
      have e2 := hhi.free k
      rw [List.getElem?_eq_getElem (by omega)] at e1
      have hs := hhi.set k (oct c)
      have hnx : (ds.set k (oct c)).take (k + 1) = List.replicate (k + 1) (oct c) := by
        rw [take_set_snoc ds k _ (by omega), htk, List.replicate_succ']
      have hm := hmi.trans (Mod.setCell (ms := [b2]) wr (p := ⟨b2, k, none⟩) (by simp) (oct c)) (fun _ _ h => h)
      have HN := Lib.hid (And.intro hnx (And.intro hds (And.intro hs hm)))
      generalize ds[k]'(by omega) = old at e1
      clear hnx hds hs hm htk hhi hmi
      go_wp2
      exact ⟨⟨k + 1, by omega, by go_num, HN.out.2.2.2, ds.set k (oct c), by rw [List.length_set]; exact HN.out.2.1, HN.out.2.2.1, HN.out.1⟩, by simp [intOf]; omega⟩
    · obtain rfl : k = 64 := by omega
      have hall : ds = bc (fil c) := by
        rw [List.take_of_length_le (by omega)] at htk
        rw [htk]
        simp [bc, fil]
      subst hall
      have hB1 := HZ.out.1
      rw [← HW.out] at hB1
      replace hB1 := hB1.keep hmi (by have := HZ.out.2.2.2.1; simp; omega)
      have HN := Lib.hid hmi
      clear hmi htk hds
      go_wp2_with (first
        | (with_reducible refine wpList_loads (o := ⟨some 12, .load 39 (.tmp 3), _, _, _, _⟩) rfl 39 (.tmp 3) rfl b2 0 _ rfl (Cells.of_holds hhi) _ Try.underlying39 rfl (by rw [bc_length]; exact size39) (bv (fil c)) rfl ?_)
        | (with_reducible refine wpList_storesAll (o := ⟨none, .store 39 (.tmp 2) (.tmp 12), _, _, _, _⟩) rfl 39 (.tmp 2) (.tmp 12) rfl rfl b1 (bc (fil c)) rfl (bv (fil c)) rfl rfl 39 _ hB1 (by rw [bc_length, bc_length]) (bc_one _) (by rw [bc_length]; exact size39) ?_; intro w3 hw3 m3 z3))
      obtain ⟨q1, q2, q3, q4, q5⟩ := HZ.out
      have q6 := HN.out
      rw [HW.out] at q6
      refine bodyPost_ret (results_cell_row rfl _ _ b1 39 _ (0, 0) _ rfl hw3 Try.underlying39 rfl (by rw [List.size_toArray, bc_length]; exact size39)) rfl ?_
      exact ⟨rfl, m3.os.trans (q6.os.trans q2.os), m3.tape.trans (q6.tape.trans q2.tape), m3.output.trans (q6.output.trans q2.output), Nat.le_trans q2.size (Nat.le_trans q6.size m3.size), fun k hk hn => by
        have s1 := q2.size
        have s2 := q6.size
        rw [m3.block k (by omega) (by simp; omega), q6.block k (by omega) (by simp; omega), q2.block k hk (by simp)]⟩
end Go.Proofs.Ytpdpahkhfilmpaa
