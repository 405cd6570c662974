/-
  Package disk: writes gone through from the last one back; what a sector holds. Contracts of mine.
-/
import Derived.RangeFuncNested
import Derived.RangeFuncBound
import Derived.RangeFuncCalls
import Derived.RangeFuncLeaves
import Derived.Shelf.Abstract
import Derived.Shelf.RegionOpen
import Derived.WalkKit
import Derived.OwnWalkIn
import Derived.TacticsInMore
import Derived.LoopNIn
import Derived.LoopIn
import Derived.Test.YtpdpahkhfilmpaaDiskA
import Derived.Test.YtpdpahkhfilmpaaDiskC
namespace Go.Proofs.Ytpdpahkhfilmpaa
open Go.RowKit Go.Shelf
attribute [local go_sem] Oper.semAt_some

/-- What a round keeps: the blocks below n, but for block b. -/
structure KeepB (b n : Nat) (W W' : World) : Prop where
  size : W.heap.size ≤ W'.heap.size
  same : ∀ k, k < n → k < W.heap.size → k ≠ b → W'.heap[k]? = W.heap[k]?
theorem KeepB.refl (b n : Nat) (W : World) : KeepB b n W W := ⟨Nat.le_refl _, fun _ _ _ _ => rfl⟩
theorem KeepB.trans {b n : Nat} {A B C : World} (h : KeepB b n A B) (k : KeepB b n B C) : KeepB b n A C :=
  ⟨Nat.le_trans h.size k.size, fun i h1 h2 h3 => (k.same i h1 (Nat.lt_of_lt_of_le h2 h.size) h3).trans (h.same i h1 h2 h3)⟩
theorem KeepB.cells {b n : Nat} {w v : World} {A : Option Addr} {cs : List Value} (h : Cells w A cs) (m : KeepB b n w v) (hn : ∀ a, A = some a → a.block < n ∧ a.block ≠ b) : Cells v A cs := by
  intro i hi
  obtain ⟨g, o, rfl, hc⟩ := h i hi
  obtain ⟨h1, h2⟩ := hn _ rfl
  have hlt : g < w.heap.size := by
    rcases Nat.lt_or_ge g w.heap.size with hlt | hge
    · exact hlt
    · simp [World.cell?, Array.getElem?_eq_none hge] at hc
  exact ⟨g, o, rfl, by rw [World.cell?_of_block (a := ⟨g, o + i, none⟩) (m.same g h1 hlt h2)]; exact hc⟩
section laws
variable {P : Program} {w : World} {ops : Array Oper} {rest : List Oper} {o : Oper} {a : Act} {Q : Exit → Act → World → Prop} {F : Fence} {n : Nat}
/-- A value of many cells is loaded, within a fence. -/
theorem wpListIn_loads (hgd : o.guard = none) (ty : TypeId) (x : Operand) (ho : o.op = .load ty x) (g f : Nat) (cs : List Value) (hx : a.eval x = .pointer (some ⟨g, f, none⟩)) (hc : Cells w (some ⟨g, f, none⟩) cs)
    (d : TypeDesc) (hu : P.underlying ty = some d) (hd : (match d with | .struct _ | .array _ _ => true | _ => false) = true) (hi : (P.info? ty).map (·.size) = some cs.length)
    (V : Value) (hV : V = .agg cs.toArray)
    (h : wpListIn F n P ops Q rest (a.put o.dst V) w) : wpListIn F n P ops Q (o :: rest) a w := by
  subst hV
  refine wpListIn_plain hgd fun K hK => ?_
  unfold Oper.wpIn
  refine ⟨by simp [Oper.about, ho], ?_⟩
  rw [Oper.semAt_plain F _ _ (by rw [ho]; intro c hc'; cases hc')]
  unfold execOp
  simp only [ho, hx, Instr.loadAt, Instr.sureAddr, Sem.run_bind, Sem.run_pure, Result.andThen_ok, run_loads hc hu hd hi]
  exact hK _ _ h
theorem wpListIn_storesAll (hgd : o.guard = none) (ty : TypeId) (x y : Operand) (ho : o.op = .store ty x y) (hdst : o.dst = none) (g : Nat) (cs : List Value) (hx : a.eval x = .pointer (some ⟨g, 0, none⟩)) (V : Value) (hy : a.eval y = V) (hV : V = .agg cs.toArray)
    (t : TypeId) (old : List Value) (hh : Holds w g t old) (hf : cs.length = old.length) (h1 : ∀ v ∈ cs, v.oneCell' = true) (hi : (P.info? ty).map (·.size) = some cs.length)
    (h : ∀ v, Holds v g t cs → Mod [g] w v → v.heap.size = w.heap.size → wpListIn F n P ops Q rest a v) : wpListIn F n P ops Q (o :: rest) a w := by
  subst hV
  obtain ⟨v, hrun, h2, h3, h4⟩ := run_stores (P := P) (ty := ty) (f := 0) hh (by omega) h1 hi
  refine wpListIn_plain hgd fun K hK => ?_
  unfold Oper.wpIn
  refine ⟨by simp [Oper.about, ho], ?_⟩
  rw [Oper.semAt_plain F _ _ (by rw [ho]; intro c hc'; cases hc')]
  unfold execOp
  simp only [ho, hx, hy, Instr.storeAt, Instr.sureAddr, Sem.run_bind, Sem.run_pure, Result.andThen_ok, hrun]
  refine hK _ _ ?_
  show wpListIn F n P ops Q rest (a.put o.dst undef) _
  rw [hdst]
  exact h v (by simpa [hf] using h2) h3 h4
theorem wpListIn_allocs (hgd : o.guard = none) (ty : TypeId) (ho : o.op = .alloc ty) (cs : List Value) (hz : ∀ w, (zeroValue ty).run P w = .ok (.agg cs.toArray) w)
    (h : ∀ v, Holds v w.heap.size ty cs → Mod [] w v → v.heap.size = w.heap.size + 1 → wpListIn F n P ops Q rest (a.put o.dst (.pointer (some ⟨w.heap.size, 0, none⟩))) v) : wpListIn F n P ops Q (o :: rest) a w := by
  refine wpListIn_plain hgd fun K hK => ?_
  have hrun : (Instr.alloc ty true (.tuple #[])).run P w = .ok (.pointer (some ⟨w.heap.size, 0, none⟩)) (w.alloc (.cells cs.toArray ty)) := by
    simp [Instr.alloc, hz, newVar, newRow, Value.cells, go_sem]
  unfold Oper.wpIn
  refine ⟨by simp [Oper.about, ho], ?_⟩
  rw [Oper.semAt_plain F _ _ (by rw [ho]; intro c hc'; cases hc')]
  unfold execOp
  simp only [ho, Sem.run_bind, hrun, Result.andThen]
  exact hK _ _ (h _ (Holds.made w ty cs) (Mod.alloc [] w _) (by simp))
end laws

set_option maxRecDepth 100000 in
set_option maxHeartbeats 2000000 in
theorem back_in (F : Fence) (n : Nat) (h57 : F.fn 57) (hro : F.round = none) (hn : 1 ≤ n) (y bx b5 n0 c : Nat) (A : Option Addr) (l : Story) (hl : l.length ≤ 1099511627776) (hbx : bx < n0 ∧ bx ≠ b5) (hA : 0 < l.length → ∀ a, A = some a → a.block < n0 ∧ a.block ≠ b5) (J Jx : Story → World → Prop)
    (hY : ∀ pre x W, J pre W → pre.length < l.length → YieldAt F (n - 1) Try.prog y #[wv x] W fun e W' =>
      (e = .returned (.bool true) ∧ J (pre ++ [x]) W' ∧ KeepB b5 n0 W W') ∨ (e = .returned (.bool false) ∧ Jx (pre ++ [x]) W'))
    (W : World) (hB : Cells W (some ⟨bx, 0, none⟩) [.slice A l.length c]) (hc : Cells W A (l.flatMap wc)) (h0 : J [] W) :
    CallsIn F n Try.prog 57 #[.func (.yield y) #[] #[], .pointer (some ⟨bx, 0, none⟩)] W fun e W' => (∃ v, e = .returned v) ∧ ((∃ ys, ys = l.reverse ∧ J ys W') ∨ (∃ pre, (∃ t, l.reverse = pre ++ t) ∧ Jx pre W')) := by
  refine callsIn_of_wp Try.func57 rfl h57 ?_ hro
  simp only [Try.ntmps57, List.size_toArray, List.length_cons, List.length_nil, Nat.reduceAdd, Nat.reduceSub, Array.replicate_succ, Array.replicate_zero, List.push_toArray, List.append_toArray, List.nil_append, List.cons_append]
  have hBc := hB.at 0 (by simp)
  simp only [Nat.add_zero, List.getElem_cons_zero] at hBc
  obtain ⟨N, hN⟩ : ∃ N, N = l.length := ⟨_, rfl⟩
  have HN := Lib.hid hN
  rw [← hN] at hl hBc
  clear hN
  have hlZ : (N : Int) ≤ 1099511627776 := by omega
  gi_wp2
  gi_loopw [3] (fun i wr => ∃ k : Nat, k ≤ N ∧ i = .int .i64 ((N : Int) - 1 - (k : Int)) ∧ J (l.reverse.take k) wr ∧ KeepB b5 n0 W wr) (fun i _ => ((intOf i) + 1).toNat)
  case atStart => exact ⟨0, Nat.zero_le _, by simp, by simpa using h0, KeepB.refl _ _ _⟩
  case round =>
    obtain ⟨k, hk, rfl, hJs, hnx⟩ := hrel
    by_cases hlt : k < N
    · have hkl : N - 1 - k < l.length := by have := HN.out; omega
      obtain ⟨ga, oa, rfl, hce⟩ := hc.elem' wc 65 (by omega) wc_length (N - 1 - k) hkl
      have hA0 := hA (by omega) ⟨ga, oa, none⟩ rfl
      have hcx := hnx.cells hce (fun a ha => by cases ha; exact hA0)
      have hbb := (hnx.cells hB (fun a ha => by cases ha; exact hbx)).at 0 (by simp)
      simp only [Nat.add_zero, List.getElem_cons_zero, ← HN.out] at hbb
      obtain ⟨j, hj⟩ : ∃ j, j = N - 1 - k := ⟨_, rfl⟩
      have hjZ : (N : Int) - 1 - (k : Int) = (j : Int) := by omega
      have hjN : j < N := by omega
      rw [hjZ]
      simp only [← hj] at hcx hkl
      obtain ⟨p, hp⟩ : ∃ p, p = l[j] := ⟨_, rfl⟩
      rw [← hp] at hcx
      have hq : l.reverse.take (k + 1) = l.reverse.take k ++ [p] := by
        rw [List.take_add_one]
        have : l.reverse[k]? = some p := by
          rw [List.getElem?_reverse (by have := HN.out; omega), hp, ← HN.out, show N - 1 - k = j from hj.symm]
          exact List.getElem?_eq_getElem hkl
        rw [this]
        rfl
      obtain ⟨fn, tmps, assign, body, hy, hR⟩ := hY _ p wr hJs (by rw [List.length_take, List.length_reverse, ← HN.out]; omega)
      have HZ := Lib.hid (And.intro hjZ (And.intro hq hnx))
      have hcZ := Lib.hid (And.intro hcx hce)
      clear hjZ hq hnx hcx hce hp hj hB hc
      gi_wp2_with (with_reducible refine wpListIn_loads (o := ⟨some 15, .load 84 (.tmp 14), _, _, _, _⟩) rfl 84 (.tmp 14) rfl ga (oa + j * 65) _ rfl hcZ.out.1 _ Try.underlying84 rfl (by rw [wc_length]; exact size84) (wv p) rfl ?_)
      refine hR.mono ?_
      rintro e W3 (⟨rfl, hJ3, hk3⟩ | ⟨rfl, hJx3⟩)
      · gi_wp2
        obtain ⟨z1, z2, z3⟩ := HZ.out
        exact ⟨⟨k + 1, by omega, by simp <;> omega, by rw [z2]; exact hJ3, z3.trans hk3⟩, by simp [intOf]⟩
      · gi_wp2
        refine bodyPost_ret (results_none rfl _ _ _) rfl ?_
        obtain ⟨z1, z2, z3⟩ := HZ.out
        exact ⟨⟨_, rfl⟩, .inr ⟨_, ⟨l.reverse.drop (k + 1), by rw [← z2, List.take_append_drop]⟩, hJx3⟩⟩
    · obtain rfl : N = k := by omega
      have hall : l.reverse.take N = l.reverse := List.take_of_length_le (by rw [List.length_reverse, ← HN.out]; omega)
      rw [hall] at hJs
      clear hall hnx
      gi_wp2
      go_end0
      exact ⟨⟨_, rfl⟩, .inl ⟨_, rfl, hJs⟩⟩
/-- Writes from the last one back: for every loop's body that keeps where they lie. -/
theorem back_stops (F : Fence) (n : Nat) (h57 : F.fn 57) (hro : F.round = none) (hn : 1 ≤ n) (bx b5 n0 c : Nat) (A : Option Addr) (l : Story) (hl : l.length ≤ 1099511627776) (hbx : bx < n0 ∧ bx ≠ b5) (hA : 0 < l.length → ∀ a, A = some a → a.block < n0 ∧ a.block ≠ b5)
    (w : World) (hB : Cells w (some ⟨bx, 0, none⟩) [.slice A l.length c]) (hc : Cells w A (l.flatMap wc)) (_ : n0 ≤ w.heap.size) :
    SeqStopsK F n Try.prog 57 #[.pointer (some ⟨bx, 0, none⟩)] (fun x => #[wv x]) (KeepB b5 n0) (fun xs => xs = l.reverse) (fun pre => ∃ t, l.reverse = pre ++ t) l.length w := fun y J Jx W hW hJ hJx hY h0 => by
  have hk : KeepB b5 n0 w W := ⟨hW.size, fun k h1 h2 _ => hW.block k (by omega)⟩
  exact back_in F n h57 hro hn y bx b5 n0 c A l hl hbx hA J Jx hY W (hk.cells hB (fun a ha => by cases ha; exact hbx)) (by
    rcases Nat.eq_zero_or_pos l.length with h0 | h0
    · rw [List.eq_nil_of_length_eq_zero h0]; exact Cells.nil _ _
    · exact hk.cells hc (hA h0)) h0
end Go.Proofs.Ytpdpahkhfilmpaa
