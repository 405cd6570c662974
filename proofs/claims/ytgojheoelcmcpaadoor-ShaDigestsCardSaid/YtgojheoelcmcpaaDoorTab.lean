/-
  Contracts: the document's own tables for sha. My own work.
-/
import Derived.Test.YtgojheoelcmcpaaDoorDig
namespace Go.Proofs.YtgojheoelcmcpaaDoor
open Go.RowKit
def opsK : Array (Nat × Operand) := ((List.range 64).map fun i => (i, Operand.const (wd (g0 Kc i)))).toArray
def rawK : Array (Nat × Value) := ((List.range 64).map fun i => (i, wd (g0 Kc i))).toArray
theorem run_buildK (w : World) : (Instr.build 24 rawK).run Tryd.prog w = .ok (.agg (Kc.map wd).toArray) w := by
  refine run_build w _ _ _ ?_
  kernel_rfl
theorem exec_buildK {v : World} {o : Oper} {a : Act} (ho : o.op = .build 24 opsK) : (execOp a.eval o).run Tryd.prog v = .ok (.value (.agg (Kc.map wd).toArray)) v := by
  unfold execOp
  have h := run_buildK v
  have e : opsK.map (fun q => (q.1, a.eval q.2)) = rawK := by
    simp only [opsK, rawK, List.map_toArray, List.map_map, Function.comp_def, Act.eval]
  simp only [ho, e, Sem.run_bind, h, Result.andThen, Sem.run_pure]
set_option maxRecDepth 100000 in
theorem written_c (w : World) : Calls Tryd.prog 13 #[] w fun e w' => e = .returned (.agg (Kc.map wd).toArray) ∧ Mod [] w w' := by
  go_enter Tryd.func13, Tryd.ntmps13
  go_wp2_with (first
    | (with_reducible refine wpList_allocs (o := ⟨some 0, .alloc 24, _, _, _, _⟩) rfl 24 rfl _ zero24 ?_; intro w1 hb1 m1 z1; replace z1 := Lib.hid z1)
    | (with_reducible refine wpList_ran (o := ⟨some 1, .build 24 _, _, _, _, _⟩) rfl (.agg (Kc.map wd).toArray) (exec_buildK (by kernel_rfl)) ?_)
    | (with_reducible refine wpList_storesAll (o := ⟨none, .store 24 (.tmp 0) (.tmp 1), _, _, _, _⟩) rfl 24 (.tmp 0) (.tmp 1) rfl rfl w.heap.size (Kc.map wd) rfl (.agg (Kc.map wd).toArray) rfl rfl 24 _ hb1 (by rw [List.length_map, List.length_map, Kc_length, List.length_replicate]) (words_one _) (size24_of _ Kc_length) ?_; intro w2 hb2 m2 z2; replace z2 := Lib.hid z2))
  refine bodyPost_ret (results_cell_row rfl _ _ w.heap.size 24 _ (0, 0) _ rfl hb2 Tryd.underlying24 rfl (by rw [List.size_toArray]; exact size24_of _ Kc_length)) rfl ?_
  exact ⟨rfl, m1.trans m2 (by intro i hi h; simp at h; omega)⟩
theorem roots_all : (List.range 64).all (fun k => digs (prime k) true 37 0 % 4294967296 == (g0 Kc k).toNat) = true := by decide +kernel
theorem starts_all : (List.range 8).all (fun k => digs (prime k) false 37 0 % 4294967296 == (g0 Sc k).toNat) = true := by decide +kernel
theorem root_at (k : Nat) (h : k < 64) (w : World) : Calls Tryd.prog 15 #[.int .u64 (prime k : Int), .bool true] w fun e w' => e = .returned (wd (g0 Kc k)) ∧ w' = w := by
  have h1 := List.all_eq_true.mp roots_all k (by simpa using h)
  have h2 := prime_at k h
  have h3 := digits_c (prime k) (by omega) true w
  rw [eq_of_beq h1] at h3
  exact h3
theorem start_at (k : Nat) (h : k < 8) (w : World) : Calls Tryd.prog 15 #[.int .u64 (prime k : Int), .bool false] w fun e w' => e = .returned (wd (g0 Sc k)) ∧ w' = w := by
  have h1 := List.all_eq_true.mp starts_all k (by simpa using h)
  have h2 := prime_at k (by omega)
  have h3 := digits_c (prime k) (by omega) false w
  rw [eq_of_beq h1] at h3
  exact h3
theorem wpList_skips {P : Program} {w v : World} {ops : Array Oper} {rest : List Oper} {o : Oper} {a : Act} {Q : Exit → Act → World → Prop} (hg : o.guard = none) (hd : o.dst = none) (hrun : (execOp a.eval o).run P w = .ok .skip v) (h : wpList P ops Q rest a v) : wpList P ops Q (o :: rest) a w := by
  refine wpList_plain hg fun K hK => ?_
  unfold Oper.wp
  rw [hrun]
  refine hK _ _ ?_
  show wpList P ops Q rest (a.put o.dst undef) _
  rw [hd]
  exact h
/-- The first i of the words are those of S. -/
def Upto (S : List UInt32) (i : Nat) (L : List UInt32) : Prop := L.length = S.length ∧ ∀ j, j < i → g0 L j = g0 S j
theorem Upto.next {S : List UInt32} {i : Nat} {L : List UInt32} (h : Upto S i L) (hi : i < S.length) : Upto S (i + 1) (L.set i (g0 S i)) := by
  refine ⟨by rw [List.length_set]; exact h.1, fun j hj => ?_⟩
  by_cases e : i = j
  · subst e; rw [g0_set _ _ _ (by rw [h.1]; exact hi)]
  · rw [g0_set_ne _ _ _ _ e]; exact h.2 j (by omega)
theorem Upto.all {S L : List UInt32} (h : Upto S S.length L) : L = S := by
  refine List.ext_getElem h.1 fun j h1 h2 => ?_
  have := h.2 j h2
  rw [g0_get _ _ h1, g0_get _ _ h2] at this
  exact this
set_option maxRecDepth 100000 in
set_option maxHeartbeats 1000000 in
theorem rstart_c (w : World) : Calls Tryd.prog 14 #[] w fun e w' => e = .returned (.agg (Sc.map wd).toArray) ∧ Mod [] w w' := by
  go_enter Tryd.func14, Tryd.ntmps14
  go_wp2_with (first
    | (with_reducible refine wpList_allocs (o := ⟨some 0, .alloc 26, _, _, _, _⟩) rfl 26 rfl _ zero26 ?_; intro w1 hb1 m1 z1; replace z1 := Lib.hid z1)
    | (with_reducible refine wpList_allocs (o := ⟨some 1, .alloc 26, _, _, _, _⟩) rfl 26 rfl _ zero26 ?_; intro w2 hb2 m2 z2; replace z2 := Lib.hid z2))
  have hb1' := hb1.keep m2 (by simp)
  have hne : w.heap.size ≠ w1.heap.size := by have := z1.out; omega
  replace m2 := m1.then m2
  obtain ⟨g, hg⟩ : ∃ g, g = w1.heap.size := ⟨_, rfl⟩
  have HZ := Lib.hid (And.intro hne z1.out)
  rw [← hg] at hb2 HZ ⊢
  clear m1 z1 z2 hb1 hne hg
  go_loopw [2, 3] (fun x i v => ∃ (k : Nat) (L : List UInt32), i = .int .i64 (k : Int) ∧ k ≤ 8 ∧ Upto Sc k L ∧ Holds v g 26 (L.map wd) ∧ Holds v w.heap.size 26 ((List.replicate 8 (0 : UInt32)).map wd) ∧ Mod [] w v) (fun x i v => 8 - (intOf i).toNat)
  case atStart => exact ⟨0, List.replicate 8 0, rfl, by omega, ⟨rfl, by omega⟩, hb2, hb1', m2⟩
  case round =>
    obtain ⟨k, L, rfl, hk, hU, hL, hO, hM⟩ := hrel
    clear hb2 hb1' m2
    by_cases hlt : k < 8
    · have hp := fun (v : World) => prime_c k (by omega) v
      have hs := fun (v : World) => start_at k hlt v
      have hlt' : (k : Int) < 8 := by omega
      have hc := word_cell hL (i := k) (by rw [hU.1]; exact hlt)
      rw [Nat.zero_add] at hc
      have hf := hL.free k
      have HK := Lib.hid (And.intro hp (And.intro hs (And.intro hU (And.intro hL (And.intro hO (And.intro hM hlt))))))
      clear hp hs hU hL hO hM hlt hk
      go_wp2_with (first
        | (go_at_call 16; with_reducible refine Calls.mono (HK.out.1 _) ?_; rintro e wx ⟨rfl, rfl⟩)
        | (go_at_call 15; with_reducible refine Calls.mono (HK.out.2.1 _) ?_; rintro e wx ⟨rfl, rfl⟩))
      refine ⟨⟨k + 1, L.set k (g0 Sc k), by simp, by have := HK.out.2.2.2.2.2.2; omega, HK.out.2.2.1.next HK.out.2.2.2.2.2.2, ?_, ?_, ?_⟩, by simp [intOf]; omega⟩
      · have := word_set HK.out.2.2.2.1 k (g0 Sc k)
        rwa [Nat.zero_add] at this
      · exact HK.out.2.2.2.2.1.keep (Mod.setCell (ms := [g]) _ (by simp) _) (by have := HZ.out; simp; omega)
      · exact HK.out.2.2.2.2.2.1.trans (Mod.setCell (ms := [g]) _ (by simp) _) (by have := HZ.out; intro i hi h; simp at h; omega)
    · obtain rfl : k = 8 := by omega
      have e : L = Sc := hU.all
      subst e
      clear hU hlt hk
      go_wp2_with (first
        | (with_reducible refine wpList_loads (o := ⟨some 12, .load 26 (.tmp 1), _, _, _, _⟩) rfl 26 (.tmp 1) rfl g 0 _ rfl (Cells.of_holds hL) _ Tryd.underlying26 rfl (size26_of _ Sc_length) (.agg (Sc.map wd).toArray) rfl ?_)
        | (with_reducible refine wpList_storesAll (o := ⟨none, .store 26 (.tmp 0) (.tmp 12), _, _, _, _⟩) rfl 26 (.tmp 0) (.tmp 12) rfl rfl w.heap.size (Sc.map wd) rfl (.agg (Sc.map wd).toArray) rfl rfl 26 _ hO (by rw [List.length_map, List.length_map, Sc_length, List.length_replicate]) (words_one _) (size26_of _ Sc_length) ?_; intro w3 hb3 m3 z3; replace z3 := Lib.hid z3))
      refine bodyPost_ret (results_cell_row rfl _ _ w.heap.size 26 _ (0, 0) _ rfl hb3 Tryd.underlying26 rfl (by rw [List.size_toArray]; exact size26_of _ Sc_length)) rfl ?_
      exact ⟨rfl, hM.trans m3 (by intro i hi h; simp at h; omega)⟩
end Go.Proofs.YtgojheoelcmcpaaDoor
