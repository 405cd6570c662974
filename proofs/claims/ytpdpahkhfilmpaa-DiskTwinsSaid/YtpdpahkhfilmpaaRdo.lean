/-
  The document's own disk, as a value: Ask, sort 2. Contracts of mine, printed by gen_ask.py.
-/
import Derived.Test.YtpdpahkhfilmpaaRdn
namespace Go.Proofs.Ytpdpahkhfilmpaa
open Go.RowKit
open Rg

set_option maxRecDepth 100000 in
set_option maxHeartbeats 2000000 in
theorem ask2_out  {z : Int} {f : Nat} {s : Story} {ar fa : Int} {op : Nat} {i : Int} {b : Blk} {A : Option Addr} {c : Nat} (w : World) (hT : Told w ⟨z, f, s, true, ar, fa, op⟩ A c) (hl : s.length < 1099511627776) (hop : op < 1099511627776) (hfa : -1 ≤ fa ∧ fa ≤ 9223372036854775807) (har : -1 ≤ ar ∧ ar ≤ 9223372036854775807)  : Calls Try.prog 52 #[rv ⟨z, f, s, true, ar, fa, op⟩ A c, .int .i64 2, .int .i64 i, bv b] w (AskPost w (RSt.ask ⟨z, f, s, true, ar, fa, op⟩ 2 i b)) := by
  have hq : RSt.ask ⟨z, f, s, true, ar, fa, op⟩ 2 i b = (⟨z, f, s, true, ar, fa, op⟩, 9) := by
    unfold RSt.ask
    simp []
  rw [hq]
  clear hq
  obtain ⟨N, hN⟩ : ∃ N, N = s.length := ⟨_, rfl⟩
  have hNZ : (N : Int) ≤ 1099511627775 := by omega
  have hopZ : (op : Int) ≤ 1099511627775 := by omega
  show Calls Try.prog 52 #[.agg (kc z f (.slice A s.length c) true ar fa op).toArray, .int .i64 2, .int .i64 i, bv b] w _
  rw [← hN]
  have HT := Lib.hid (And.intro hT (And.intro hl hN))
  clear hT hl hN hop
  obtain ⟨fa1, fa2⟩ := hfa
  obtain ⟨ar1, ar2⟩ := har
  go_enter Try.func52, Try.ntmps52
  go_wp2_with (first
    | (with_reducible refine wpList_boxes (o := ⟨some 4, .box 30 (.tmp 0), _, _, _, _⟩) rfl 30 (.tmp 0) rfl _ rfl (kc z f (.slice A N c) true ar fa op) rfl ?_; intro w1 hb1 m1 z1; replace z1 := Lib.hid z1)
    | (with_reducible refine wpList_boxes (o := ⟨some 7, .box 39 (.tmp 3), _, _, _, _⟩) rfl 39 (.tmp 3) rfl _ rfl (bc b) rfl ?_; intro w2 hb2 m2 z2; replace z2 := Lib.hid z2)
    | (with_reducible refine wpList_allocs (o := ⟨some 8, .alloc 30, _, _, _, _⟩) rfl 30 rfl _ zero30 ?_; intro w3 hb3 m3 z3
       obtain ⟨g4, g7, g8, h4, h7, h8, hg, e4, e7, e8, mm⟩ := ask_start hb1 m1 z1.out hb2 m2 z2.out hb3 m3 z3
       rw [← e4, ← e7, ← e8]
       have HG := Lib.hid hg
       clear e4 e7 e8 hb1 m1 z1 hb2 m2 z2 hb3 m3 z3 hg
       obtain ⟨c0, c1, c2, c3, c4, c5, c6⟩ := kc_cells h4)
    | (with_reducible refine wpList_loads (o := ⟨some 12, .load 30 (.tmp 4), _, _, _, _⟩) rfl 30 (.tmp 4) rfl g4 0 _ rfl (Cells.of_holds h4) _ Try.underlying30 rfl (kc_size _ _ _ _ _ _ _) _ rfl ?_)
    | (with_reducible refine wpList_storesAll (o := ⟨none, .store 30 (.tmp 8) (.tmp 12), _, _, _, _⟩) rfl 30 (.tmp 8) (.tmp 12) rfl rfl g8 _ rfl _ rfl rfl 30 _ h8 (kc_r0 _ _ _ _ _ _ _) (kc_one _ _ _ _ _ _ _ _ _) (kc_size _ _ _ _ _ _ _) ?_; clear h8; intro w9 h8 m9 z9; replace mm := mm.trans m9 (by have := HG.out; intro i hi h; simp at h; omega)))
  refine bodyPost_ret (results_cellb rfl _ _ g8 _ _ _ rfl rfl (Cells.of_holds h8) Try.underlying30 rfl size30) rfl ?_
  obtain ⟨hT, _, hN⟩ := HT.out
  subst hN
  exact ⟨A, c, rfl, hT.keep mm (by simp), mm⟩

set_option maxRecDepth 100000 in
set_option maxHeartbeats 2000000 in
theorem ask2_fails  {z : Int} {f : Nat} {s : Story} {ar : Int} {op : Nat} {i : Int} {b : Blk} {A : Option Addr} {c : Nat} (w : World) (hT : Told w ⟨z, f, s, false, ar, 0, op⟩ A c) (hl : s.length < 1099511627776) (hop : op < 1099511627776) (har : -1 ≤ ar ∧ ar ≤ 9223372036854775807)  : Calls Try.prog 52 #[rv ⟨z, f, s, false, ar, 0, op⟩ A c, .int .i64 2, .int .i64 i, bv b] w (AskPost w (RSt.ask ⟨z, f, s, false, ar, 0, op⟩ 2 i b)) := by
  have hq : RSt.ask ⟨z, f, s, false, ar, 0, op⟩ 2 i b = (⟨z, f, s, false, ar, (-1), op⟩, 8) := by
    unfold RSt.ask
    simp []
  rw [hq]
  clear hq
  obtain ⟨N, hN⟩ : ∃ N, N = s.length := ⟨_, rfl⟩
  have hNZ : (N : Int) ≤ 1099511627775 := by omega
  have hopZ : (op : Int) ≤ 1099511627775 := by omega
  show Calls Try.prog 52 #[.agg (kc z f (.slice A s.length c) false ar 0 op).toArray, .int .i64 2, .int .i64 i, bv b] w _
  rw [← hN]
  have HT := Lib.hid (And.intro hT (And.intro hl hN))
  clear hT hl hN hop
  obtain ⟨ar1, ar2⟩ := har
  go_enter Try.func52, Try.ntmps52
  go_wp2_with (first
    | (with_reducible refine wpList_boxes (o := ⟨some 4, .box 30 (.tmp 0), _, _, _, _⟩) rfl 30 (.tmp 0) rfl _ rfl (kc z f (.slice A N c) false ar 0 op) rfl ?_; intro w1 hb1 m1 z1; replace z1 := Lib.hid z1)
    | (with_reducible refine wpList_boxes (o := ⟨some 7, .box 39 (.tmp 3), _, _, _, _⟩) rfl 39 (.tmp 3) rfl _ rfl (bc b) rfl ?_; intro w2 hb2 m2 z2; replace z2 := Lib.hid z2)
    | (with_reducible refine wpList_allocs (o := ⟨some 8, .alloc 30, _, _, _, _⟩) rfl 30 rfl _ zero30 ?_; intro w3 hb3 m3 z3
       obtain ⟨g4, g7, g8, h4, h7, h8, hg, e4, e7, e8, mm⟩ := ask_start hb1 m1 z1.out hb2 m2 z2.out hb3 m3 z3
       rw [← e4, ← e7, ← e8]
       have HG := Lib.hid hg
       clear e4 e7 e8 hb1 m1 z1 hb2 m2 z2 hb3 m3 z3 hg
       obtain ⟨c0, c1, c2, c3, c4, c5, c6⟩ := kc_cells h4)
    | (with_reducible refine wpList_put (o := ⟨none, .store 3 (.tmp 29) (.const (.int .i64 (-1))), _, _, _, _⟩) rfl 3 (.tmp 29) (.const (.int .i64 (-1))) rfl rfl g4 5 rfl (.int .i64 (-1)) rfl (one_int _ _) one3 30 _ h4 (kc_lt _ _ _ _ _ _ _ (by decide)) ?_; clear h4; intro wp h4 mp; replace h4 := kc_put5 h4; clear c0 c1 c2 c3 c4 c5 c6; obtain ⟨c0, c1, c2, c3, c4, c5, c6⟩ := kc_cells h4; replace h7 := h7.keep mp (by have := HG.out; simp; omega); replace h8 := h8.keep mp (by have := HG.out; simp; omega); replace mm := mm.trans mp (by have := HG.out; intro i hi h; simp at h; omega); clear mp)
    | (with_reducible refine wpList_loads (o := ⟨some 30, .load 30 (.tmp 4), _, _, _, _⟩) rfl 30 (.tmp 4) rfl g4 0 _ rfl (Cells.of_holds h4) _ Try.underlying30 rfl (kc_size _ _ _ _ _ _ _) _ rfl ?_)
    | (with_reducible refine wpList_storesAll (o := ⟨none, .store 30 (.tmp 8) (.tmp 30), _, _, _, _⟩) rfl 30 (.tmp 8) (.tmp 30) rfl rfl g8 _ rfl _ rfl rfl 30 _ h8 (kc_r0 _ _ _ _ _ _ _) (kc_one _ _ _ _ _ _ _ _ _) (kc_size _ _ _ _ _ _ _) ?_; clear h8; intro w9 h8 m9 z9; replace mm := mm.trans m9 (by have := HG.out; intro i hi h; simp at h; omega)))
  refine bodyPost_ret (results_cellb rfl _ _ g8 _ _ _ rfl rfl (Cells.of_holds h8) Try.underlying30 rfl size30) rfl ?_
  obtain ⟨hT, _, hN⟩ := HT.out
  subst hN
  exact ⟨A, c, rfl, hT.keep mm (by simp), mm⟩

set_option maxRecDepth 100000 in
set_option maxHeartbeats 2000000 in
theorem ask2_diesp  {z : Int} {f : Nat} {s : Story} {fa : Int} {op : Nat} {i : Int} {b : Blk} {A : Option Addr} {c : Nat} (w : World) (hT : Told w ⟨z, f, s, false, 0, fa, op⟩ A c) (hl : s.length < 1099511627776) (hop : op < 1099511627776) (hfa : -1 ≤ fa ∧ fa ≤ 9223372036854775807)  (hf : 0 < fa) : Calls Try.prog 52 #[rv ⟨z, f, s, false, 0, fa, op⟩ A c, .int .i64 2, .int .i64 i, bv b] w (AskPost w (RSt.ask ⟨z, f, s, false, 0, fa, op⟩ 2 i b)) := by
  have hq : RSt.ask ⟨z, f, s, false, 0, fa, op⟩ 2 i b = (⟨z, f, s, true, (-1), (fa - 1), op⟩, 9) := by
    have q0 : ¬ fa = 0 := by omega
    unfold RSt.ask
    simp [hf, q0]
  rw [hq]
  clear hq
  obtain ⟨N, hN⟩ : ∃ N, N = s.length := ⟨_, rfl⟩
  have hNZ : (N : Int) ≤ 1099511627775 := by omega
  have hopZ : (op : Int) ≤ 1099511627775 := by omega
  show Calls Try.prog 52 #[.agg (kc z f (.slice A s.length c) false 0 fa op).toArray, .int .i64 2, .int .i64 i, bv b] w _
  rw [← hN]
  have HT := Lib.hid (And.intro hT (And.intro hl hN))
  clear hT hl hN hop
  obtain ⟨fa1, fa2⟩ := hfa
  go_enter Try.func52, Try.ntmps52
  go_wp2_with (first
    | (with_reducible refine wpList_boxes (o := ⟨some 4, .box 30 (.tmp 0), _, _, _, _⟩) rfl 30 (.tmp 0) rfl _ rfl (kc z f (.slice A N c) false 0 fa op) rfl ?_; intro w1 hb1 m1 z1; replace z1 := Lib.hid z1)
    | (with_reducible refine wpList_boxes (o := ⟨some 7, .box 39 (.tmp 3), _, _, _, _⟩) rfl 39 (.tmp 3) rfl _ rfl (bc b) rfl ?_; intro w2 hb2 m2 z2; replace z2 := Lib.hid z2)
    | (with_reducible refine wpList_allocs (o := ⟨some 8, .alloc 30, _, _, _, _⟩) rfl 30 rfl _ zero30 ?_; intro w3 hb3 m3 z3
       obtain ⟨g4, g7, g8, h4, h7, h8, hg, e4, e7, e8, mm⟩ := ask_start hb1 m1 z1.out hb2 m2 z2.out hb3 m3 z3
       rw [← e4, ← e7, ← e8]
       have HG := Lib.hid hg
       clear e4 e7 e8 hb1 m1 z1 hb2 m2 z2 hb3 m3 z3 hg
       obtain ⟨c0, c1, c2, c3, c4, c5, c6⟩ := kc_cells h4)
    | (with_reducible refine wpList_put (o := ⟨none, .store 3 (.tmp 37) (.tmp 36), _, _, _, _⟩) rfl 3 (.tmp 37) (.tmp 36) rfl rfl g4 5 rfl (.int .i64 (fa - 1)) rfl (one_int _ _) one3 30 _ h4 (kc_lt _ _ _ _ _ _ _ (by decide)) ?_; clear h4; intro wp h4 mp; replace h4 := kc_put5 h4; clear c0 c1 c2 c3 c4 c5 c6; obtain ⟨c0, c1, c2, c3, c4, c5, c6⟩ := kc_cells h4; replace h7 := h7.keep mp (by have := HG.out; simp; omega); replace h8 := h8.keep mp (by have := HG.out; simp; omega); replace mm := mm.trans mp (by have := HG.out; intro i hi h; simp at h; omega); clear mp)
    | (with_reducible refine wpList_put (o := ⟨none, .store 4 (.tmp 45) (.const (.bool true)), _, _, _, _⟩) rfl 4 (.tmp 45) (.const (.bool true)) rfl rfl g4 3 rfl (.bool true) rfl (one_bool _) one4 30 _ h4 (kc_lt _ _ _ _ _ _ _ (by decide)) ?_; clear h4; intro wp h4 mp; replace h4 := kc_put3 h4; clear c0 c1 c2 c3 c4 c5 c6; obtain ⟨c0, c1, c2, c3, c4, c5, c6⟩ := kc_cells h4; replace h7 := h7.keep mp (by have := HG.out; simp; omega); replace h8 := h8.keep mp (by have := HG.out; simp; omega); replace mm := mm.trans mp (by have := HG.out; intro i hi h; simp at h; omega); clear mp)
    | (with_reducible refine wpList_put (o := ⟨none, .store 3 (.tmp 46) (.const (.int .i64 (-1))), _, _, _, _⟩) rfl 3 (.tmp 46) (.const (.int .i64 (-1))) rfl rfl g4 4 rfl (.int .i64 (-1)) rfl (one_int _ _) one3 30 _ h4 (kc_lt _ _ _ _ _ _ _ (by decide)) ?_; clear h4; intro wp h4 mp; replace h4 := kc_put4 h4; clear c0 c1 c2 c3 c4 c5 c6; obtain ⟨c0, c1, c2, c3, c4, c5, c6⟩ := kc_cells h4; replace h7 := h7.keep mp (by have := HG.out; simp; omega); replace h8 := h8.keep mp (by have := HG.out; simp; omega); replace mm := mm.trans mp (by have := HG.out; intro i hi h; simp at h; omega); clear mp)
    | (with_reducible refine wpList_loads (o := ⟨some 47, .load 30 (.tmp 4), _, _, _, _⟩) rfl 30 (.tmp 4) rfl g4 0 _ rfl (Cells.of_holds h4) _ Try.underlying30 rfl (kc_size _ _ _ _ _ _ _) _ rfl ?_)
    | (with_reducible refine wpList_storesAll (o := ⟨none, .store 30 (.tmp 8) (.tmp 47), _, _, _, _⟩) rfl 30 (.tmp 8) (.tmp 47) rfl rfl g8 _ rfl _ rfl rfl 30 _ h8 (kc_r0 _ _ _ _ _ _ _) (kc_one _ _ _ _ _ _ _ _ _) (kc_size _ _ _ _ _ _ _) ?_; clear h8; intro w9 h8 m9 z9; replace mm := mm.trans m9 (by have := HG.out; intro i hi h; simp at h; omega)))
  refine bodyPost_ret (results_cellb rfl _ _ g8 _ _ _ rfl rfl (Cells.of_holds h8) Try.underlying30 rfl size30) rfl ?_
  obtain ⟨hT, _, hN⟩ := HT.out
  subst hN
  exact ⟨A, c, rfl, hT.keep mm (by simp), mm⟩

set_option maxRecDepth 100000 in
set_option maxHeartbeats 2000000 in
theorem ask2_diesn  {z : Int} {f : Nat} {s : Story} {fa : Int} {op : Nat} {i : Int} {b : Blk} {A : Option Addr} {c : Nat} (w : World) (hT : Told w ⟨z, f, s, false, 0, fa, op⟩ A c) (hl : s.length < 1099511627776) (hop : op < 1099511627776) (hfa : -1 ≤ fa ∧ fa ≤ 9223372036854775807)  (hf : fa < 0) : Calls Try.prog 52 #[rv ⟨z, f, s, false, 0, fa, op⟩ A c, .int .i64 2, .int .i64 i, bv b] w (AskPost w (RSt.ask ⟨z, f, s, false, 0, fa, op⟩ 2 i b)) := by
  have hq : RSt.ask ⟨z, f, s, false, 0, fa, op⟩ 2 i b = (⟨z, f, s, true, (-1), fa, op⟩, 9) := by
    have q0 : ¬ 0 < fa := by omega
    have q1 : ¬ fa = 0 := by omega
    unfold RSt.ask
    simp [q0, q1]
  rw [hq]
  clear hq
  obtain ⟨N, hN⟩ : ∃ N, N = s.length := ⟨_, rfl⟩
  have hNZ : (N : Int) ≤ 1099511627775 := by omega
  have hopZ : (op : Int) ≤ 1099511627775 := by omega
  show Calls Try.prog 52 #[.agg (kc z f (.slice A s.length c) false 0 fa op).toArray, .int .i64 2, .int .i64 i, bv b] w _
  rw [← hN]
  have HT := Lib.hid (And.intro hT (And.intro hl hN))
  clear hT hl hN hop
  obtain ⟨fa1, fa2⟩ := hfa
  go_enter Try.func52, Try.ntmps52
  go_wp2_with (first
    | (with_reducible refine wpList_boxes (o := ⟨some 4, .box 30 (.tmp 0), _, _, _, _⟩) rfl 30 (.tmp 0) rfl _ rfl (kc z f (.slice A N c) false 0 fa op) rfl ?_; intro w1 hb1 m1 z1; replace z1 := Lib.hid z1)
    | (with_reducible refine wpList_boxes (o := ⟨some 7, .box 39 (.tmp 3), _, _, _, _⟩) rfl 39 (.tmp 3) rfl _ rfl (bc b) rfl ?_; intro w2 hb2 m2 z2; replace z2 := Lib.hid z2)
    | (with_reducible refine wpList_allocs (o := ⟨some 8, .alloc 30, _, _, _, _⟩) rfl 30 rfl _ zero30 ?_; intro w3 hb3 m3 z3
       obtain ⟨g4, g7, g8, h4, h7, h8, hg, e4, e7, e8, mm⟩ := ask_start hb1 m1 z1.out hb2 m2 z2.out hb3 m3 z3
       rw [← e4, ← e7, ← e8]
       have HG := Lib.hid hg
       clear e4 e7 e8 hb1 m1 z1 hb2 m2 z2 hb3 m3 z3 hg
       obtain ⟨c0, c1, c2, c3, c4, c5, c6⟩ := kc_cells h4)
    | (with_reducible refine wpList_put (o := ⟨none, .store 4 (.tmp 45) (.const (.bool true)), _, _, _, _⟩) rfl 4 (.tmp 45) (.const (.bool true)) rfl rfl g4 3 rfl (.bool true) rfl (one_bool _) one4 30 _ h4 (kc_lt _ _ _ _ _ _ _ (by decide)) ?_; clear h4; intro wp h4 mp; replace h4 := kc_put3 h4; clear c0 c1 c2 c3 c4 c5 c6; obtain ⟨c0, c1, c2, c3, c4, c5, c6⟩ := kc_cells h4; replace h7 := h7.keep mp (by have := HG.out; simp; omega); replace h8 := h8.keep mp (by have := HG.out; simp; omega); replace mm := mm.trans mp (by have := HG.out; intro i hi h; simp at h; omega); clear mp)
    | (with_reducible refine wpList_put (o := ⟨none, .store 3 (.tmp 46) (.const (.int .i64 (-1))), _, _, _, _⟩) rfl 3 (.tmp 46) (.const (.int .i64 (-1))) rfl rfl g4 4 rfl (.int .i64 (-1)) rfl (one_int _ _) one3 30 _ h4 (kc_lt _ _ _ _ _ _ _ (by decide)) ?_; clear h4; intro wp h4 mp; replace h4 := kc_put4 h4; clear c0 c1 c2 c3 c4 c5 c6; obtain ⟨c0, c1, c2, c3, c4, c5, c6⟩ := kc_cells h4; replace h7 := h7.keep mp (by have := HG.out; simp; omega); replace h8 := h8.keep mp (by have := HG.out; simp; omega); replace mm := mm.trans mp (by have := HG.out; intro i hi h; simp at h; omega); clear mp)
    | (with_reducible refine wpList_loads (o := ⟨some 47, .load 30 (.tmp 4), _, _, _, _⟩) rfl 30 (.tmp 4) rfl g4 0 _ rfl (Cells.of_holds h4) _ Try.underlying30 rfl (kc_size _ _ _ _ _ _ _) _ rfl ?_)
    | (with_reducible refine wpList_storesAll (o := ⟨none, .store 30 (.tmp 8) (.tmp 47), _, _, _, _⟩) rfl 30 (.tmp 8) (.tmp 47) rfl rfl g8 _ rfl _ rfl rfl 30 _ h8 (kc_r0 _ _ _ _ _ _ _) (kc_one _ _ _ _ _ _ _ _ _) (kc_size _ _ _ _ _ _ _) ?_; clear h8; intro w9 h8 m9 z9; replace mm := mm.trans m9 (by have := HG.out; intro i hi h; simp at h; omega)))
  refine bodyPost_ret (results_cellb rfl _ _ g8 _ _ _ rfl rfl (Cells.of_holds h8) Try.underlying30 rfl size30) rfl ?_
  obtain ⟨hT, _, hN⟩ := HT.out
  subst hN
  exact ⟨A, c, rfl, hT.keep mm (by simp), mm⟩

set_option maxRecDepth 100000 in
set_option maxHeartbeats 2000000 in
theorem ask2_doespp  {z : Int} {f : Nat} {s : Story} {ar fa : Int} {op : Nat} {i : Int} {b : Blk} {A : Option Addr} {c : Nat} (w : World) (hT : Told w ⟨z, f, s, false, ar, fa, op⟩ A c) (hl : s.length < 1099511627776) (hop : op < 1099511627776) (hfa : -1 ≤ fa ∧ fa ≤ 9223372036854775807) (har : -1 ≤ ar ∧ ar ≤ 9223372036854775807)  (hf : 0 < fa) (ha : 0 < ar) : Calls Try.prog 52 #[rv ⟨z, f, s, false, ar, fa, op⟩ A c, .int .i64 2, .int .i64 i, bv b] w (AskPost w (RSt.ask ⟨z, f, s, false, ar, fa, op⟩ 2 i b)) := by
  have hq : RSt.ask ⟨z, f, s, false, ar, fa, op⟩ 2 i b = (⟨z, s.length, s, false, (ar - 1), (fa - 1), op + 1⟩, 0) := by
    have q0 : ¬ fa = 0 := by omega
    have q1 : ¬ ar = 0 := by omega
    unfold RSt.ask
    simp [hf, q0, ha, q1]
  rw [hq]
  clear hq
  obtain ⟨N, hN⟩ : ∃ N, N = s.length := ⟨_, rfl⟩
  have hNZ : (N : Int) ≤ 1099511627775 := by omega
  have hopZ : (op : Int) ≤ 1099511627775 := by omega
  show Calls Try.prog 52 #[.agg (kc z f (.slice A s.length c) false ar fa op).toArray, .int .i64 2, .int .i64 i, bv b] w _
  rw [← hN]
  have HT := Lib.hid (And.intro hT (And.intro hl hN))
  clear hT hl hN hop
  obtain ⟨fa1, fa2⟩ := hfa
  obtain ⟨ar1, ar2⟩ := har
  go_enter Try.func52, Try.ntmps52
  go_wp2_with (first
    | (with_reducible refine wpList_boxes (o := ⟨some 4, .box 30 (.tmp 0), _, _, _, _⟩) rfl 30 (.tmp 0) rfl _ rfl (kc z f (.slice A N c) false ar fa op) rfl ?_; intro w1 hb1 m1 z1; replace z1 := Lib.hid z1)
    | (with_reducible refine wpList_boxes (o := ⟨some 7, .box 39 (.tmp 3), _, _, _, _⟩) rfl 39 (.tmp 3) rfl _ rfl (bc b) rfl ?_; intro w2 hb2 m2 z2; replace z2 := Lib.hid z2)
    | (with_reducible refine wpList_allocs (o := ⟨some 8, .alloc 30, _, _, _, _⟩) rfl 30 rfl _ zero30 ?_; intro w3 hb3 m3 z3
       obtain ⟨g4, g7, g8, h4, h7, h8, hg, e4, e7, e8, mm⟩ := ask_start hb1 m1 z1.out hb2 m2 z2.out hb3 m3 z3
       rw [← e4, ← e7, ← e8]
       have HG := Lib.hid hg
       clear e4 e7 e8 hb1 m1 z1 hb2 m2 z2 hb3 m3 z3 hg
       obtain ⟨c0, c1, c2, c3, c4, c5, c6⟩ := kc_cells h4)
    | (with_reducible refine wpList_put (o := ⟨none, .store 3 (.tmp 37) (.tmp 36), _, _, _, _⟩) rfl 3 (.tmp 37) (.tmp 36) rfl rfl g4 5 rfl (.int .i64 (fa - 1)) rfl (one_int _ _) one3 30 _ h4 (kc_lt _ _ _ _ _ _ _ (by decide)) ?_; clear h4; intro wp h4 mp; replace h4 := kc_put5 h4; clear c0 c1 c2 c3 c4 c5 c6; obtain ⟨c0, c1, c2, c3, c4, c5, c6⟩ := kc_cells h4; replace h7 := h7.keep mp (by have := HG.out; simp; omega); replace h8 := h8.keep mp (by have := HG.out; simp; omega); replace mm := mm.trans mp (by have := HG.out; intro i hi h; simp at h; omega); clear mp)
    | (with_reducible refine wpList_put (o := ⟨none, .store 3 (.tmp 58) (.tmp 57), _, _, _, _⟩) rfl 3 (.tmp 58) (.tmp 57) rfl rfl g4 4 rfl (.int .i64 (ar - 1)) rfl (one_int _ _) one3 30 _ h4 (kc_lt _ _ _ _ _ _ _ (by decide)) ?_; clear h4; intro wp h4 mp; replace h4 := kc_put4 h4; clear c0 c1 c2 c3 c4 c5 c6; obtain ⟨c0, c1, c2, c3, c4, c5, c6⟩ := kc_cells h4; replace h7 := h7.keep mp (by have := HG.out; simp; omega); replace h8 := h8.keep mp (by have := HG.out; simp; omega); replace mm := mm.trans mp (by have := HG.out; intro i hi h; simp at h; omega); clear mp)
    | (with_reducible refine wpList_put (o := ⟨none, .store 3 (.tmp 62) (.tmp 61), _, _, _, _⟩) rfl 3 (.tmp 62) (.tmp 61) rfl rfl g4 6 rfl (.int .i64 ((op : Int) + 1)) rfl (one_int _ _) one3 30 _ h4 (kc_lt _ _ _ _ _ _ _ (by decide)) ?_; clear h4; intro wp h4 mp; replace h4 := kc_put6 h4; clear c0 c1 c2 c3 c4 c5 c6; obtain ⟨c0, c1, c2, c3, c4, c5, c6⟩ := kc_cells h4; replace h7 := h7.keep mp (by have := HG.out; simp; omega); replace h8 := h8.keep mp (by have := HG.out; simp; omega); replace mm := mm.trans mp (by have := HG.out; intro i hi h; simp at h; omega); clear mp)
    | (with_reducible refine wpList_put (o := ⟨none, .store 3 (.tmp 80) (.tmp 79), _, _, _, _⟩) rfl 3 (.tmp 80) (.tmp 79) rfl rfl g4 1 rfl (.int .i64 (N : Int)) rfl (one_int _ _) one3 30 _ h4 (kc_lt _ _ _ _ _ _ _ (by decide)) ?_; clear h4; intro wp h4 mp; replace h4 := kc_put1 h4; clear c0 c1 c2 c3 c4 c5 c6; obtain ⟨c0, c1, c2, c3, c4, c5, c6⟩ := kc_cells h4; replace h7 := h7.keep mp (by have := HG.out; simp; omega); replace h8 := h8.keep mp (by have := HG.out; simp; omega); replace mm := mm.trans mp (by have := HG.out; intro i hi h; simp at h; omega); clear mp)
    | (with_reducible refine wpList_loads (o := ⟨some 81, .load 30 (.tmp 4), _, _, _, _⟩) rfl 30 (.tmp 4) rfl g4 0 _ rfl (Cells.of_holds h4) _ Try.underlying30 rfl (kc_size _ _ _ _ _ _ _) _ rfl ?_)
    | (with_reducible refine wpList_storesAll (o := ⟨none, .store 30 (.tmp 8) (.tmp 81), _, _, _, _⟩) rfl 30 (.tmp 8) (.tmp 81) rfl rfl g8 _ rfl _ rfl rfl 30 _ h8 (kc_r0 _ _ _ _ _ _ _) (kc_one _ _ _ _ _ _ _ _ _) (kc_size _ _ _ _ _ _ _) ?_; clear h8; intro w9 h8 m9 z9; replace mm := mm.trans m9 (by have := HG.out; intro i hi h; simp at h; omega)))
  refine bodyPost_ret (results_cellb rfl _ _ g8 _ _ _ rfl rfl (Cells.of_holds h8) Try.underlying30 rfl size30) rfl ?_
  obtain ⟨hT, _, hN⟩ := HT.out
  subst hN
  exact ⟨A, c, rfl, hT.keep mm (by simp), mm⟩

set_option maxRecDepth 100000 in
set_option maxHeartbeats 2000000 in
theorem ask2_doespn  {z : Int} {f : Nat} {s : Story} {ar fa : Int} {op : Nat} {i : Int} {b : Blk} {A : Option Addr} {c : Nat} (w : World) (hT : Told w ⟨z, f, s, false, ar, fa, op⟩ A c) (hl : s.length < 1099511627776) (hop : op < 1099511627776) (hfa : -1 ≤ fa ∧ fa ≤ 9223372036854775807) (har : -1 ≤ ar ∧ ar ≤ 9223372036854775807)  (hf : 0 < fa) (ha : ar < 0) : Calls Try.prog 52 #[rv ⟨z, f, s, false, ar, fa, op⟩ A c, .int .i64 2, .int .i64 i, bv b] w (AskPost w (RSt.ask ⟨z, f, s, false, ar, fa, op⟩ 2 i b)) := by
  have hq : RSt.ask ⟨z, f, s, false, ar, fa, op⟩ 2 i b = (⟨z, s.length, s, false, ar, (fa - 1), op + 1⟩, 0) := by
    have q0 : ¬ fa = 0 := by omega
    have q1 : ¬ 0 < ar := by omega
    have q2 : ¬ ar = 0 := by omega
    unfold RSt.ask
    simp [hf, q0, q1, q2]
  rw [hq]
  clear hq
  obtain ⟨N, hN⟩ : ∃ N, N = s.length := ⟨_, rfl⟩
  have hNZ : (N : Int) ≤ 1099511627775 := by omega
  have hopZ : (op : Int) ≤ 1099511627775 := by omega
  show Calls Try.prog 52 #[.agg (kc z f (.slice A s.length c) false ar fa op).toArray, .int .i64 2, .int .i64 i, bv b] w _
  rw [← hN]
  have HT := Lib.hid (And.intro hT (And.intro hl hN))
  clear hT hl hN hop
  obtain ⟨fa1, fa2⟩ := hfa
  obtain ⟨ar1, ar2⟩ := har
  go_enter Try.func52, Try.ntmps52
  go_wp2_with (first
    | (with_reducible refine wpList_boxes (o := ⟨some 4, .box 30 (.tmp 0), _, _, _, _⟩) rfl 30 (.tmp 0) rfl _ rfl (kc z f (.slice A N c) false ar fa op) rfl ?_; intro w1 hb1 m1 z1; replace z1 := Lib.hid z1)
    | (with_reducible refine wpList_boxes (o := ⟨some 7, .box 39 (.tmp 3), _, _, _, _⟩) rfl 39 (.tmp 3) rfl _ rfl (bc b) rfl ?_; intro w2 hb2 m2 z2; replace z2 := Lib.hid z2)
    | (with_reducible refine wpList_allocs (o := ⟨some 8, .alloc 30, _, _, _, _⟩) rfl 30 rfl _ zero30 ?_; intro w3 hb3 m3 z3
       obtain ⟨g4, g7, g8, h4, h7, h8, hg, e4, e7, e8, mm⟩ := ask_start hb1 m1 z1.out hb2 m2 z2.out hb3 m3 z3
       rw [← e4, ← e7, ← e8]
       have HG := Lib.hid hg
       clear e4 e7 e8 hb1 m1 z1 hb2 m2 z2 hb3 m3 z3 hg
       obtain ⟨c0, c1, c2, c3, c4, c5, c6⟩ := kc_cells h4)
    | (with_reducible refine wpList_put (o := ⟨none, .store 3 (.tmp 37) (.tmp 36), _, _, _, _⟩) rfl 3 (.tmp 37) (.tmp 36) rfl rfl g4 5 rfl (.int .i64 (fa - 1)) rfl (one_int _ _) one3 30 _ h4 (kc_lt _ _ _ _ _ _ _ (by decide)) ?_; clear h4; intro wp h4 mp; replace h4 := kc_put5 h4; clear c0 c1 c2 c3 c4 c5 c6; obtain ⟨c0, c1, c2, c3, c4, c5, c6⟩ := kc_cells h4; replace h7 := h7.keep mp (by have := HG.out; simp; omega); replace h8 := h8.keep mp (by have := HG.out; simp; omega); replace mm := mm.trans mp (by have := HG.out; intro i hi h; simp at h; omega); clear mp)
    | (with_reducible refine wpList_put (o := ⟨none, .store 3 (.tmp 62) (.tmp 61), _, _, _, _⟩) rfl 3 (.tmp 62) (.tmp 61) rfl rfl g4 6 rfl (.int .i64 ((op : Int) + 1)) rfl (one_int _ _) one3 30 _ h4 (kc_lt _ _ _ _ _ _ _ (by decide)) ?_; clear h4; intro wp h4 mp; replace h4 := kc_put6 h4; clear c0 c1 c2 c3 c4 c5 c6; obtain ⟨c0, c1, c2, c3, c4, c5, c6⟩ := kc_cells h4; replace h7 := h7.keep mp (by have := HG.out; simp; omega); replace h8 := h8.keep mp (by have := HG.out; simp; omega); replace mm := mm.trans mp (by have := HG.out; intro i hi h; simp at h; omega); clear mp)
    | (with_reducible refine wpList_put (o := ⟨none, .store 3 (.tmp 80) (.tmp 79), _, _, _, _⟩) rfl 3 (.tmp 80) (.tmp 79) rfl rfl g4 1 rfl (.int .i64 (N : Int)) rfl (one_int _ _) one3 30 _ h4 (kc_lt _ _ _ _ _ _ _ (by decide)) ?_; clear h4; intro wp h4 mp; replace h4 := kc_put1 h4; clear c0 c1 c2 c3 c4 c5 c6; obtain ⟨c0, c1, c2, c3, c4, c5, c6⟩ := kc_cells h4; replace h7 := h7.keep mp (by have := HG.out; simp; omega); replace h8 := h8.keep mp (by have := HG.out; simp; omega); replace mm := mm.trans mp (by have := HG.out; intro i hi h; simp at h; omega); clear mp)
    | (with_reducible refine wpList_loads (o := ⟨some 81, .load 30 (.tmp 4), _, _, _, _⟩) rfl 30 (.tmp 4) rfl g4 0 _ rfl (Cells.of_holds h4) _ Try.underlying30 rfl (kc_size _ _ _ _ _ _ _) _ rfl ?_)
    | (with_reducible refine wpList_storesAll (o := ⟨none, .store 30 (.tmp 8) (.tmp 81), _, _, _, _⟩) rfl 30 (.tmp 8) (.tmp 81) rfl rfl g8 _ rfl _ rfl rfl 30 _ h8 (kc_r0 _ _ _ _ _ _ _) (kc_one _ _ _ _ _ _ _ _ _) (kc_size _ _ _ _ _ _ _) ?_; clear h8; intro w9 h8 m9 z9; replace mm := mm.trans m9 (by have := HG.out; intro i hi h; simp at h; omega)))
  refine bodyPost_ret (results_cellb rfl _ _ g8 _ _ _ rfl rfl (Cells.of_holds h8) Try.underlying30 rfl size30) rfl ?_
  obtain ⟨hT, _, hN⟩ := HT.out
  subst hN
  exact ⟨A, c, rfl, hT.keep mm (by simp), mm⟩

set_option maxRecDepth 100000 in
set_option maxHeartbeats 2000000 in
theorem ask2_doesnp  {z : Int} {f : Nat} {s : Story} {ar fa : Int} {op : Nat} {i : Int} {b : Blk} {A : Option Addr} {c : Nat} (w : World) (hT : Told w ⟨z, f, s, false, ar, fa, op⟩ A c) (hl : s.length < 1099511627776) (hop : op < 1099511627776) (hfa : -1 ≤ fa ∧ fa ≤ 9223372036854775807) (har : -1 ≤ ar ∧ ar ≤ 9223372036854775807)  (hf : fa < 0) (ha : 0 < ar) : Calls Try.prog 52 #[rv ⟨z, f, s, false, ar, fa, op⟩ A c, .int .i64 2, .int .i64 i, bv b] w (AskPost w (RSt.ask ⟨z, f, s, false, ar, fa, op⟩ 2 i b)) := by
  have hq : RSt.ask ⟨z, f, s, false, ar, fa, op⟩ 2 i b = (⟨z, s.length, s, false, (ar - 1), fa, op + 1⟩, 0) := by
    have q0 : ¬ 0 < fa := by omega
    have q1 : ¬ fa = 0 := by omega
    have q2 : ¬ ar = 0 := by omega
    unfold RSt.ask
    simp [q0, q1, ha, q2]
  rw [hq]
  clear hq
  obtain ⟨N, hN⟩ : ∃ N, N = s.length := ⟨_, rfl⟩
  have hNZ : (N : Int) ≤ 1099511627775 := by omega
  have hopZ : (op : Int) ≤ 1099511627775 := by omega
  show Calls Try.prog 52 #[.agg (kc z f (.slice A s.length c) false ar fa op).toArray, .int .i64 2, .int .i64 i, bv b] w _
  rw [← hN]
  have HT := Lib.hid (And.intro hT (And.intro hl hN))
  clear hT hl hN hop
  obtain ⟨fa1, fa2⟩ := hfa
  obtain ⟨ar1, ar2⟩ := har
  go_enter Try.func52, Try.ntmps52
  go_wp2_with (first
    | (with_reducible refine wpList_boxes (o := ⟨some 4, .box 30 (.tmp 0), _, _, _, _⟩) rfl 30 (.tmp 0) rfl _ rfl (kc z f (.slice A N c) false ar fa op) rfl ?_; intro w1 hb1 m1 z1; replace z1 := Lib.hid z1)
    | (with_reducible refine wpList_boxes (o := ⟨some 7, .box 39 (.tmp 3), _, _, _, _⟩) rfl 39 (.tmp 3) rfl _ rfl (bc b) rfl ?_; intro w2 hb2 m2 z2; replace z2 := Lib.hid z2)
    | (with_reducible refine wpList_allocs (o := ⟨some 8, .alloc 30, _, _, _, _⟩) rfl 30 rfl _ zero30 ?_; intro w3 hb3 m3 z3
       obtain ⟨g4, g7, g8, h4, h7, h8, hg, e4, e7, e8, mm⟩ := ask_start hb1 m1 z1.out hb2 m2 z2.out hb3 m3 z3
       rw [← e4, ← e7, ← e8]
       have HG := Lib.hid hg
       clear e4 e7 e8 hb1 m1 z1 hb2 m2 z2 hb3 m3 z3 hg
       obtain ⟨c0, c1, c2, c3, c4, c5, c6⟩ := kc_cells h4)
    | (with_reducible refine wpList_put (o := ⟨none, .store 3 (.tmp 58) (.tmp 57), _, _, _, _⟩) rfl 3 (.tmp 58) (.tmp 57) rfl rfl g4 4 rfl (.int .i64 (ar - 1)) rfl (one_int _ _) one3 30 _ h4 (kc_lt _ _ _ _ _ _ _ (by decide)) ?_; clear h4; intro wp h4 mp; replace h4 := kc_put4 h4; clear c0 c1 c2 c3 c4 c5 c6; obtain ⟨c0, c1, c2, c3, c4, c5, c6⟩ := kc_cells h4; replace h7 := h7.keep mp (by have := HG.out; simp; omega); replace h8 := h8.keep mp (by have := HG.out; simp; omega); replace mm := mm.trans mp (by have := HG.out; intro i hi h; simp at h; omega); clear mp)
    | (with_reducible refine wpList_put (o := ⟨none, .store 3 (.tmp 62) (.tmp 61), _, _, _, _⟩) rfl 3 (.tmp 62) (.tmp 61) rfl rfl g4 6 rfl (.int .i64 ((op : Int) + 1)) rfl (one_int _ _) one3 30 _ h4 (kc_lt _ _ _ _ _ _ _ (by decide)) ?_; clear h4; intro wp h4 mp; replace h4 := kc_put6 h4; clear c0 c1 c2 c3 c4 c5 c6; obtain ⟨c0, c1, c2, c3, c4, c5, c6⟩ := kc_cells h4; replace h7 := h7.keep mp (by have := HG.out; simp; omega); replace h8 := h8.keep mp (by have := HG.out; simp; omega); replace mm := mm.trans mp (by have := HG.out; intro i hi h; simp at h; omega); clear mp)
    | (with_reducible refine wpList_put (o := ⟨none, .store 3 (.tmp 80) (.tmp 79), _, _, _, _⟩) rfl 3 (.tmp 80) (.tmp 79) rfl rfl g4 1 rfl (.int .i64 (N : Int)) rfl (one_int _ _) one3 30 _ h4 (kc_lt _ _ _ _ _ _ _ (by decide)) ?_; clear h4; intro wp h4 mp; replace h4 := kc_put1 h4; clear c0 c1 c2 c3 c4 c5 c6; obtain ⟨c0, c1, c2, c3, c4, c5, c6⟩ := kc_cells h4; replace h7 := h7.keep mp (by have := HG.out; simp; omega); replace h8 := h8.keep mp (by have := HG.out; simp; omega); replace mm := mm.trans mp (by have := HG.out; intro i hi h; simp at h; omega); clear mp)
    | (with_reducible refine wpList_loads (o := ⟨some 81, .load 30 (.tmp 4), _, _, _, _⟩) rfl 30 (.tmp 4) rfl g4 0 _ rfl (Cells.of_holds h4) _ Try.underlying30 rfl (kc_size _ _ _ _ _ _ _) _ rfl ?_)
    | (with_reducible refine wpList_storesAll (o := ⟨none, .store 30 (.tmp 8) (.tmp 81), _, _, _, _⟩) rfl 30 (.tmp 8) (.tmp 81) rfl rfl g8 _ rfl _ rfl rfl 30 _ h8 (kc_r0 _ _ _ _ _ _ _) (kc_one _ _ _ _ _ _ _ _ _) (kc_size _ _ _ _ _ _ _) ?_; clear h8; intro w9 h8 m9 z9; replace mm := mm.trans m9 (by have := HG.out; intro i hi h; simp at h; omega)))
  refine bodyPost_ret (results_cellb rfl _ _ g8 _ _ _ rfl rfl (Cells.of_holds h8) Try.underlying30 rfl size30) rfl ?_
  obtain ⟨hT, _, hN⟩ := HT.out
  subst hN
  exact ⟨A, c, rfl, hT.keep mm (by simp), mm⟩

set_option maxRecDepth 100000 in
set_option maxHeartbeats 2000000 in
theorem ask2_doesnn  {z : Int} {f : Nat} {s : Story} {ar fa : Int} {op : Nat} {i : Int} {b : Blk} {A : Option Addr} {c : Nat} (w : World) (hT : Told w ⟨z, f, s, false, ar, fa, op⟩ A c) (hl : s.length < 1099511627776) (hop : op < 1099511627776) (hfa : -1 ≤ fa ∧ fa ≤ 9223372036854775807) (har : -1 ≤ ar ∧ ar ≤ 9223372036854775807)  (hf : fa < 0) (ha : ar < 0) : Calls Try.prog 52 #[rv ⟨z, f, s, false, ar, fa, op⟩ A c, .int .i64 2, .int .i64 i, bv b] w (AskPost w (RSt.ask ⟨z, f, s, false, ar, fa, op⟩ 2 i b)) := by
  have hq : RSt.ask ⟨z, f, s, false, ar, fa, op⟩ 2 i b = (⟨z, s.length, s, false, ar, fa, op + 1⟩, 0) := by
    have q0 : ¬ 0 < fa := by omega
    have q1 : ¬ fa = 0 := by omega
    have q2 : ¬ 0 < ar := by omega
    have q3 : ¬ ar = 0 := by omega
    unfold RSt.ask
    simp [q0, q1, q2, q3]
  rw [hq]
  clear hq
  obtain ⟨N, hN⟩ : ∃ N, N = s.length := ⟨_, rfl⟩
  have hNZ : (N : Int) ≤ 1099511627775 := by omega
  have hopZ : (op : Int) ≤ 1099511627775 := by omega
  show Calls Try.prog 52 #[.agg (kc z f (.slice A s.length c) false ar fa op).toArray, .int .i64 2, .int .i64 i, bv b] w _
  rw [← hN]
  have HT := Lib.hid (And.intro hT (And.intro hl hN))
  clear hT hl hN hop
  obtain ⟨fa1, fa2⟩ := hfa
  obtain ⟨ar1, ar2⟩ := har
  go_enter Try.func52, Try.ntmps52
  go_wp2_with (first
    | (with_reducible refine wpList_boxes (o := ⟨some 4, .box 30 (.tmp 0), _, _, _, _⟩) rfl 30 (.tmp 0) rfl _ rfl (kc z f (.slice A N c) false ar fa op) rfl ?_; intro w1 hb1 m1 z1; replace z1 := Lib.hid z1)
    | (with_reducible refine wpList_boxes (o := ⟨some 7, .box 39 (.tmp 3), _, _, _, _⟩) rfl 39 (.tmp 3) rfl _ rfl (bc b) rfl ?_; intro w2 hb2 m2 z2; replace z2 := Lib.hid z2)
    | (with_reducible refine wpList_allocs (o := ⟨some 8, .alloc 30, _, _, _, _⟩) rfl 30 rfl _ zero30 ?_; intro w3 hb3 m3 z3
       obtain ⟨g4, g7, g8, h4, h7, h8, hg, e4, e7, e8, mm⟩ := ask_start hb1 m1 z1.out hb2 m2 z2.out hb3 m3 z3
       rw [← e4, ← e7, ← e8]
       have HG := Lib.hid hg
       clear e4 e7 e8 hb1 m1 z1 hb2 m2 z2 hb3 m3 z3 hg
       obtain ⟨c0, c1, c2, c3, c4, c5, c6⟩ := kc_cells h4)
    | (with_reducible refine wpList_put (o := ⟨none, .store 3 (.tmp 62) (.tmp 61), _, _, _, _⟩) rfl 3 (.tmp 62) (.tmp 61) rfl rfl g4 6 rfl (.int .i64 ((op : Int) + 1)) rfl (one_int _ _) one3 30 _ h4 (kc_lt _ _ _ _ _ _ _ (by decide)) ?_; clear h4; intro wp h4 mp; replace h4 := kc_put6 h4; clear c0 c1 c2 c3 c4 c5 c6; obtain ⟨c0, c1, c2, c3, c4, c5, c6⟩ := kc_cells h4; replace h7 := h7.keep mp (by have := HG.out; simp; omega); replace h8 := h8.keep mp (by have := HG.out; simp; omega); replace mm := mm.trans mp (by have := HG.out; intro i hi h; simp at h; omega); clear mp)
    | (with_reducible refine wpList_put (o := ⟨none, .store 3 (.tmp 80) (.tmp 79), _, _, _, _⟩) rfl 3 (.tmp 80) (.tmp 79) rfl rfl g4 1 rfl (.int .i64 (N : Int)) rfl (one_int _ _) one3 30 _ h4 (kc_lt _ _ _ _ _ _ _ (by decide)) ?_; clear h4; intro wp h4 mp; replace h4 := kc_put1 h4; clear c0 c1 c2 c3 c4 c5 c6; obtain ⟨c0, c1, c2, c3, c4, c5, c6⟩ := kc_cells h4; replace h7 := h7.keep mp (by have := HG.out; simp; omega); replace h8 := h8.keep mp (by have := HG.out; simp; omega); replace mm := mm.trans mp (by have := HG.out; intro i hi h; simp at h; omega); clear mp)
    | (with_reducible refine wpList_loads (o := ⟨some 81, .load 30 (.tmp 4), _, _, _, _⟩) rfl 30 (.tmp 4) rfl g4 0 _ rfl (Cells.of_holds h4) _ Try.underlying30 rfl (kc_size _ _ _ _ _ _ _) _ rfl ?_)
    | (with_reducible refine wpList_storesAll (o := ⟨none, .store 30 (.tmp 8) (.tmp 81), _, _, _, _⟩) rfl 30 (.tmp 8) (.tmp 81) rfl rfl g8 _ rfl _ rfl rfl 30 _ h8 (kc_r0 _ _ _ _ _ _ _) (kc_one _ _ _ _ _ _ _ _ _) (kc_size _ _ _ _ _ _ _) ?_; clear h8; intro w9 h8 m9 z9; replace mm := mm.trans m9 (by have := HG.out; intro i hi h; simp at h; omega)))
  refine bodyPost_ret (results_cellb rfl _ _ g8 _ _ _ rfl rfl (Cells.of_holds h8) Try.underlying30 rfl size30) rfl ?_
  obtain ⟨hT, _, hN⟩ := HT.out
  subst hN
  exact ⟨A, c, rfl, hT.keep mm (by simp), mm⟩

end Go.Proofs.Ytpdpahkhfilmpaa

