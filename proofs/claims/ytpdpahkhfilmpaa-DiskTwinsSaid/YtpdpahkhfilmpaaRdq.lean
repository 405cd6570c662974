/-
  The document's own disk, as a value: Ask, sort 1. Contracts of mine, printed by gen_ask.py.
-/
import Derived.Test.YtpdpahkhfilmpaaRdp
namespace Go.Proofs.Ytpdpahkhfilmpaa
open Go.RowKit
open Rg

set_option maxRecDepth 100000 in
set_option maxHeartbeats 2000000 in
theorem ask1_out  {z : Int} {f : Nat} {s : Story} {ar fa : Int} {op : Nat} {i : Int} {b : Blk} {A : Option Addr} {c : Nat} (w : World) (hT : Told w ⟨z, f, s, true, ar, fa, op⟩ A c) (hl : s.length < 1099511627776) (hop : op < 1099511627776) (hfa : -1 ≤ fa ∧ fa ≤ 9223372036854775807) (har : -1 ≤ ar ∧ ar ≤ 9223372036854775807)  : Calls Try.prog 52 #[rv ⟨z, f, s, true, ar, fa, op⟩ A c, .int .i64 1, .int .i64 i, bv b] w (AskPost w (RSt.ask ⟨z, f, s, true, ar, fa, op⟩ 1 i b)) := by
  have hq : RSt.ask ⟨z, f, s, true, ar, fa, op⟩ 1 i b = (⟨z, f, s, true, ar, fa, op⟩, 9) := by
    unfold RSt.ask
    simp []
  rw [hq]
  clear hq
  obtain ⟨N, hN⟩ : ∃ N, N = s.length := ⟨_, rfl⟩
  have hNZ : (N : Int) ≤ 1099511627775 := by omega
  have hopZ : (op : Int) ≤ 1099511627775 := by omega
  show Calls Try.prog 52 #[.agg (kc z f (.slice A s.length c) true ar fa op).toArray, .int .i64 1, .int .i64 i, bv b] w _
  rw [← hN]
  have HT := Lib.hid (And.intro hT (And.intro hl hN))
  clear hT hl hN hop
  obtain ⟨fa1, fa2⟩ := hfa
  obtain ⟨ar1, ar2⟩ := har
  go_enter Try.func52, Try.ntmps52
  go_wp2_with (first
    | (with_reducible refine wpList_boxes (o := ⟨some 4, .box 30 (.tmp 0), _, _, _, _⟩) rfl 30 (.tmp 0) rfl _ rfl (kc z f (.slice A N c) true ar fa op) rfl ?_; intro w1 hb1 m1 z1; replace z1 := Lib.hid z1)
    | (with_reducible refine wpList_boxes (o := ⟨some 7, .box 39 (.tmp 3), _, _, _, _⟩) rfl 39 (.tmp 3) rfl _ rfl (bc b) rfl ?_; intro w2 hb2 m2 z2; replace z2 := Lib.hid z2)
    | (with_reducible refine wpList_allocs (o := ⟨some 8, .alloc 30, _, _, _, _⟩) rfl 30 rfl _ zero30 ?_; intro w3 hb3 m3 z3
       obtain ⟨g4, g7, g8, h4, h7, h8, hg, e4, e7, e8, mm⟩ := ask_start hb1 m1 z1.out hb2 m2 z2.out hb3 m3 z3
       rw [← e4, ← e7, ← e8]
       have HG := Lib.hid hg
       clear e4 e7 e8 hb1 m1 z1 hb2 m2 z2 hb3 m3 z3 hg
       obtain ⟨c0, c1, c2, c3, c4, c5, c6⟩ := kc_cells h4)
    | (with_reducible refine wpList_loads (o := ⟨some 12, .load 30 (.tmp 4), _, _, _, _⟩) rfl 30 (.tmp 4) rfl g4 0 _ rfl (Cells.of_holds h4) _ Try.underlying30 rfl (kc_size _ _ _ _ _ _ _) _ rfl ?_)
    | (with_reducible refine wpList_storesAll (o := ⟨none, .store 30 (.tmp 8) (.tmp 12), _, _, _, _⟩) rfl 30 (.tmp 8) (.tmp 12) rfl rfl g8 _ rfl _ rfl rfl 30 _ h8 (kc_r0 _ _ _ _ _ _ _) (kc_one _ _ _ _ _ _ _ _ _) (kc_size _ _ _ _ _ _ _) ?_; clear h8; intro w9 h8 m9 z9; replace mm := mm.trans m9 (by have := HG.out; intro i hi h; simp at h; omega)))
  refine bodyPost_ret (results_cellb rfl _ _ g8 _ _ _ rfl rfl (Cells.of_holds h8) Try.underlying30 rfl size30) rfl ?_
  obtain ⟨hT, _, hN⟩ := HT.out
  subst hN
  exact ⟨A, c, rfl, hT.keep mm (by simp), mm⟩

set_option maxRecDepth 100000 in
set_option maxHeartbeats 2000000 in
theorem ask1_low  {z : Int} {f : Nat} {s : Story} {ar fa : Int} {op : Nat} {i : Int} {b : Blk} {A : Option Addr} {c : Nat} (w : World) (hT : Told w ⟨z, f, s, false, ar, fa, op⟩ A c) (hl : s.length < 1099511627776) (hop : op < 1099511627776) (hfa : -1 ≤ fa ∧ fa ≤ 9223372036854775807) (har : -1 ≤ ar ∧ ar ≤ 9223372036854775807) (hi0 : i < 0) : Calls Try.prog 52 #[rv ⟨z, f, s, false, ar, fa, op⟩ A c, .int .i64 1, .int .i64 i, bv b] w (AskPost w (RSt.ask ⟨z, f, s, false, ar, fa, op⟩ 1 i b)) := by
  have hq : RSt.ask ⟨z, f, s, false, ar, fa, op⟩ 1 i b = (⟨z, f, s, false, ar, fa, op⟩, 2) := by
    unfold RSt.ask
    simp [hi0]
  rw [hq]
  clear hq
  obtain ⟨N, hN⟩ : ∃ N, N = s.length := ⟨_, rfl⟩
  have hNZ : (N : Int) ≤ 1099511627775 := by omega
  have hopZ : (op : Int) ≤ 1099511627775 := by omega
  show Calls Try.prog 52 #[.agg (kc z f (.slice A s.length c) false ar fa op).toArray, .int .i64 1, .int .i64 i, bv b] w _
  rw [← hN]
  have HT := Lib.hid (And.intro hT (And.intro hl hN))
  clear hT hl hN hop
  obtain ⟨fa1, fa2⟩ := hfa
  obtain ⟨ar1, ar2⟩ := har
  go_enter Try.func52, Try.ntmps52
  go_wp2_with (first
    | (with_reducible refine wpList_boxes (o := ⟨some 4, .box 30 (.tmp 0), _, _, _, _⟩) rfl 30 (.tmp 0) rfl _ rfl (kc z f (.slice A N c) false ar fa op) rfl ?_; intro w1 hb1 m1 z1; replace z1 := Lib.hid z1)
    | (with_reducible refine wpList_boxes (o := ⟨some 7, .box 39 (.tmp 3), _, _, _, _⟩) rfl 39 (.tmp 3) rfl _ rfl (bc b) rfl ?_; intro w2 hb2 m2 z2; replace z2 := Lib.hid z2)
    | (with_reducible refine wpList_allocs (o := ⟨some 8, .alloc 30, _, _, _, _⟩) rfl 30 rfl _ zero30 ?_; intro w3 hb3 m3 z3
       obtain ⟨g4, g7, g8, h4, h7, h8, hg, e4, e7, e8, mm⟩ := ask_start hb1 m1 z1.out hb2 m2 z2.out hb3 m3 z3
       rw [← e4, ← e7, ← e8]
       have HG := Lib.hid hg
       clear e4 e7 e8 hb1 m1 z1 hb2 m2 z2 hb3 m3 z3 hg
       obtain ⟨c0, c1, c2, c3, c4, c5, c6⟩ := kc_cells h4)
    | (with_reducible refine wpList_loads (o := ⟨some 25, .load 30 (.tmp 4), _, _, _, _⟩) rfl 30 (.tmp 4) rfl g4 0 _ rfl (Cells.of_holds h4) _ Try.underlying30 rfl (kc_size _ _ _ _ _ _ _) _ rfl ?_)
    | (with_reducible refine wpList_storesAll (o := ⟨none, .store 30 (.tmp 8) (.tmp 25), _, _, _, _⟩) rfl 30 (.tmp 8) (.tmp 25) rfl rfl g8 _ rfl _ rfl rfl 30 _ h8 (kc_r0 _ _ _ _ _ _ _) (kc_one _ _ _ _ _ _ _ _ _) (kc_size _ _ _ _ _ _ _) ?_; clear h8; intro w9 h8 m9 z9; replace mm := mm.trans m9 (by have := HG.out; intro i hi h; simp at h; omega)))
  refine bodyPost_ret (results_cellb rfl _ _ g8 _ _ _ rfl rfl (Cells.of_holds h8) Try.underlying30 rfl size30) rfl ?_
  obtain ⟨hT, _, hN⟩ := HT.out
  subst hN
  exact ⟨A, c, rfl, hT.keep mm (by simp), mm⟩

set_option maxRecDepth 100000 in
set_option maxHeartbeats 2000000 in
theorem ask1_high  {z : Int} {f : Nat} {s : Story} {ar fa : Int} {op : Nat} {i : Int} {b : Blk} {A : Option Addr} {c : Nat} (w : World) (hT : Told w ⟨z, f, s, false, ar, fa, op⟩ A c) (hl : s.length < 1099511627776) (hop : op < 1099511627776) (hfa : -1 ≤ fa ∧ fa ≤ 9223372036854775807) (har : -1 ≤ ar ∧ ar ≤ 9223372036854775807) (hi0 : 0 ≤ i) (hi1 : z ≤ i) : Calls Try.prog 52 #[rv ⟨z, f, s, false, ar, fa, op⟩ A c, .int .i64 1, .int .i64 i, bv b] w (AskPost w (RSt.ask ⟨z, f, s, false, ar, fa, op⟩ 1 i b)) := by
  have hq : RSt.ask ⟨z, f, s, false, ar, fa, op⟩ 1 i b = (⟨z, f, s, false, ar, fa, op⟩, 2) := by
    unfold RSt.ask
    simp [hi1]
  rw [hq]
  clear hq
  obtain ⟨N, hN⟩ : ∃ N, N = s.length := ⟨_, rfl⟩
  have hNZ : (N : Int) ≤ 1099511627775 := by omega
  have hopZ : (op : Int) ≤ 1099511627775 := by omega
  show Calls Try.prog 52 #[.agg (kc z f (.slice A s.length c) false ar fa op).toArray, .int .i64 1, .int .i64 i, bv b] w _
  rw [← hN]
  have HT := Lib.hid (And.intro hT (And.intro hl hN))
  clear hT hl hN hop
  obtain ⟨fa1, fa2⟩ := hfa
  obtain ⟨ar1, ar2⟩ := har
  go_enter Try.func52, Try.ntmps52
  go_wp2_with (first
    | (with_reducible refine wpList_boxes (o := ⟨some 4, .box 30 (.tmp 0), _, _, _, _⟩) rfl 30 (.tmp 0) rfl _ rfl (kc z f (.slice A N c) false ar fa op) rfl ?_; intro w1 hb1 m1 z1; replace z1 := Lib.hid z1)
    | (with_reducible refine wpList_boxes (o := ⟨some 7, .box 39 (.tmp 3), _, _, _, _⟩) rfl 39 (.tmp 3) rfl _ rfl (bc b) rfl ?_; intro w2 hb2 m2 z2; replace z2 := Lib.hid z2)
    | (with_reducible refine wpList_allocs (o := ⟨some 8, .alloc 30, _, _, _, _⟩) rfl 30 rfl _ zero30 ?_; intro w3 hb3 m3 z3
       obtain ⟨g4, g7, g8, h4, h7, h8, hg, e4, e7, e8, mm⟩ := ask_start hb1 m1 z1.out hb2 m2 z2.out hb3 m3 z3
       rw [← e4, ← e7, ← e8]
       have HG := Lib.hid hg
       clear e4 e7 e8 hb1 m1 z1 hb2 m2 z2 hb3 m3 z3 hg
       obtain ⟨c0, c1, c2, c3, c4, c5, c6⟩ := kc_cells h4)
    | (with_reducible refine wpList_loads (o := ⟨some 25, .load 30 (.tmp 4), _, _, _, _⟩) rfl 30 (.tmp 4) rfl g4 0 _ rfl (Cells.of_holds h4) _ Try.underlying30 rfl (kc_size _ _ _ _ _ _ _) _ rfl ?_)
    | (with_reducible refine wpList_storesAll (o := ⟨none, .store 30 (.tmp 8) (.tmp 25), _, _, _, _⟩) rfl 30 (.tmp 8) (.tmp 25) rfl rfl g8 _ rfl _ rfl rfl 30 _ h8 (kc_r0 _ _ _ _ _ _ _) (kc_one _ _ _ _ _ _ _ _ _) (kc_size _ _ _ _ _ _ _) ?_; clear h8; intro w9 h8 m9 z9; replace mm := mm.trans m9 (by have := HG.out; intro i hi h; simp at h; omega)))
  refine bodyPost_ret (results_cellb rfl _ _ g8 _ _ _ rfl rfl (Cells.of_holds h8) Try.underlying30 rfl size30) rfl ?_
  obtain ⟨hT, _, hN⟩ := HT.out
  subst hN
  exact ⟨A, c, rfl, hT.keep mm (by simp), mm⟩

set_option maxRecDepth 100000 in
set_option maxHeartbeats 2000000 in
theorem ask1_fails  {z : Int} {f : Nat} {s : Story} {ar : Int} {op : Nat} {i : Int} {b : Blk} {A : Option Addr} {c : Nat} (w : World) (hT : Told w ⟨z, f, s, false, ar, 0, op⟩ A c) (hl : s.length < 1099511627776) (hop : op < 1099511627776) (har : -1 ≤ ar ∧ ar ≤ 9223372036854775807) (hi0 : 0 ≤ i) (hi1 : i < z) : Calls Try.prog 52 #[rv ⟨z, f, s, false, ar, 0, op⟩ A c, .int .i64 1, .int .i64 i, bv b] w (AskPost w (RSt.ask ⟨z, f, s, false, ar, 0, op⟩ 1 i b)) := by
  have hq : RSt.ask ⟨z, f, s, false, ar, 0, op⟩ 1 i b = (⟨z, f, s, false, ar, (-1), op⟩, 8) := by
    unfold RSt.ask
    simp [Int.not_lt.2 hi0, Int.not_le.2 hi1]
  rw [hq]
  clear hq
  obtain ⟨N, hN⟩ : ∃ N, N = s.length := ⟨_, rfl⟩
  have hNZ : (N : Int) ≤ 1099511627775 := by omega
  have hopZ : (op : Int) ≤ 1099511627775 := by omega
  show Calls Try.prog 52 #[.agg (kc z f (.slice A s.length c) false ar 0 op).toArray, .int .i64 1, .int .i64 i, bv b] w _
  rw [← hN]
  have HT := Lib.hid (And.intro hT (And.intro hl hN))
  clear hT hl hN hop
  obtain ⟨ar1, ar2⟩ := har
  go_enter Try.func52, Try.ntmps52
  go_wp2_with (first
    | (with_reducible refine wpList_boxes (o := ⟨some 4, .box 30 (.tmp 0), _, _, _, _⟩) rfl 30 (.tmp 0) rfl _ rfl (kc z f (.slice A N c) false ar 0 op) rfl ?_; intro w1 hb1 m1 z1; replace z1 := Lib.hid z1)
    | (with_reducible refine wpList_boxes (o := ⟨some 7, .box 39 (.tmp 3), _, _, _, _⟩) rfl 39 (.tmp 3) rfl _ rfl (bc b) rfl ?_; intro w2 hb2 m2 z2; replace z2 := Lib.hid z2)
    | (with_reducible refine wpList_allocs (o := ⟨some 8, .alloc 30, _, _, _, _⟩) rfl 30 rfl _ zero30 ?_; intro w3 hb3 m3 z3
       obtain ⟨g4, g7, g8, h4, h7, h8, hg, e4, e7, e8, mm⟩ := ask_start hb1 m1 z1.out hb2 m2 z2.out hb3 m3 z3
       rw [← e4, ← e7, ← e8]
       have HG := Lib.hid hg
       clear e4 e7 e8 hb1 m1 z1 hb2 m2 z2 hb3 m3 z3 hg
       obtain ⟨c0, c1, c2, c3, c4, c5, c6⟩ := kc_cells h4)
    | (with_reducible refine wpList_put (o := ⟨none, .store 3 (.tmp 29) (.const (.int .i64 (-1))), _, _, _, _⟩) rfl 3 (.tmp 29) (.const (.int .i64 (-1))) rfl rfl g4 5 rfl (.int .i64 (-1)) rfl (one_int _ _) one3 30 _ h4 (kc_lt _ _ _ _ _ _ _ (by decide)) ?_; clear h4; intro wp h4 mp; replace h4 := kc_put5 h4; clear c0 c1 c2 c3 c4 c5 c6; obtain ⟨c0, c1, c2, c3, c4, c5, c6⟩ := kc_cells h4; replace h7 := h7.keep mp (by have := HG.out; simp; omega); replace h8 := h8.keep mp (by have := HG.out; simp; omega); replace mm := mm.trans mp (by have := HG.out; intro i hi h; simp at h; omega); clear mp)
    | (with_reducible refine wpList_loads (o := ⟨some 30, .load 30 (.tmp 4), _, _, _, _⟩) rfl 30 (.tmp 4) rfl g4 0 _ rfl (Cells.of_holds h4) _ Try.underlying30 rfl (kc_size _ _ _ _ _ _ _) _ rfl ?_)
    | (with_reducible refine wpList_storesAll (o := ⟨none, .store 30 (.tmp 8) (.tmp 30), _, _, _, _⟩) rfl 30 (.tmp 8) (.tmp 30) rfl rfl g8 _ rfl _ rfl rfl 30 _ h8 (kc_r0 _ _ _ _ _ _ _) (kc_one _ _ _ _ _ _ _ _ _) (kc_size _ _ _ _ _ _ _) ?_; clear h8; intro w9 h8 m9 z9; replace mm := mm.trans m9 (by have := HG.out; intro i hi h; simp at h; omega)))
  refine bodyPost_ret (results_cellb rfl _ _ g8 _ _ _ rfl rfl (Cells.of_holds h8) Try.underlying30 rfl size30) rfl ?_
  obtain ⟨hT, _, hN⟩ := HT.out
  subst hN
  exact ⟨A, c, rfl, hT.keep mm (by simp), mm⟩

set_option maxRecDepth 100000 in
set_option maxHeartbeats 2000000 in
theorem ask1_diesp  {z : Int} {f : Nat} {s : Story} {fa : Int} {op : Nat} {i : Int} {b : Blk} {A : Option Addr} {c : Nat} (w : World) (hT : Told w ⟨z, f, s, false, 0, fa, op⟩ A c) (hl : s.length < 1099511627776) (hop : op < 1099511627776) (hfa : -1 ≤ fa ∧ fa ≤ 9223372036854775807) (hi0 : 0 ≤ i) (hi1 : i < z) (hf : 0 < fa) : Calls Try.prog 52 #[rv ⟨z, f, s, false, 0, fa, op⟩ A c, .int .i64 1, .int .i64 i, bv b] w (AskPost w (RSt.ask ⟨z, f, s, false, 0, fa, op⟩ 1 i b)) := by
  have hq : RSt.ask ⟨z, f, s, false, 0, fa, op⟩ 1 i b = (⟨z, f, s, true, (-1), (fa - 1), op⟩, 9) := by
    have q0 : ¬ fa = 0 := by omega
    unfold RSt.ask
    simp [Int.not_lt.2 hi0, Int.not_le.2 hi1, hf, q0]
  rw [hq]
  clear hq
  obtain ⟨N, hN⟩ : ∃ N, N = s.length := ⟨_, rfl⟩
  have hNZ : (N : Int) ≤ 1099511627775 := by omega
  have hopZ : (op : Int) ≤ 1099511627775 := by omega
  show Calls Try.prog 52 #[.agg (kc z f (.slice A s.length c) false 0 fa op).toArray, .int .i64 1, .int .i64 i, bv b] w _
  rw [← hN]
  have HT := Lib.hid (And.intro hT (And.intro hl hN))
  clear hT hl hN hop
  obtain ⟨fa1, fa2⟩ := hfa
  go_enter Try.func52, Try.ntmps52
  go_wp2_with (first
    | (with_reducible refine wpList_boxes (o := ⟨some 4, .box 30 (.tmp 0), _, _, _, _⟩) rfl 30 (.tmp 0) rfl _ rfl (kc z f (.slice A N c) false 0 fa op) rfl ?_; intro w1 hb1 m1 z1; replace z1 := Lib.hid z1)
    | (with_reducible refine wpList_boxes (o := ⟨some 7, .box 39 (.tmp 3), _, _, _, _⟩) rfl 39 (.tmp 3) rfl _ rfl (bc b) rfl ?_; intro w2 hb2 m2 z2; replace z2 := Lib.hid z2)
    | (with_reducible refine wpList_allocs (o := ⟨some 8, .alloc 30, _, _, _, _⟩) rfl 30 rfl _ zero30 ?_; intro w3 hb3 m3 z3
       obtain ⟨g4, g7, g8, h4, h7, h8, hg, e4, e7, e8, mm⟩ := ask_start hb1 m1 z1.out hb2 m2 z2.out hb3 m3 z3
       rw [← e4, ← e7, ← e8]
       have HG := Lib.hid hg
       clear e4 e7 e8 hb1 m1 z1 hb2 m2 z2 hb3 m3 z3 hg
       obtain ⟨c0, c1, c2, c3, c4, c5, c6⟩ := kc_cells h4)
    | (with_reducible refine wpList_put (o := ⟨none, .store 3 (.tmp 37) (.tmp 36), _, _, _, _⟩) rfl 3 (.tmp 37) (.tmp 36) rfl rfl g4 5 rfl (.int .i64 (fa - 1)) rfl (one_int _ _) one3 30 _ h4 (kc_lt _ _ _ _ _ _ _ (by decide)) ?_; clear h4; intro wp h4 mp; replace h4 := kc_put5 h4; clear c0 c1 c2 c3 c4 c5 c6; obtain ⟨c0, c1, c2, c3, c4, c5, c6⟩ := kc_cells h4; replace h7 := h7.keep mp (by have := HG.out; simp; omega); replace h8 := h8.keep mp (by have := HG.out; simp; omega); replace mm := mm.trans mp (by have := HG.out; intro i hi h; simp at h; omega); clear mp)
    | (with_reducible refine wpList_put (o := ⟨none, .store 4 (.tmp 45) (.const (.bool true)), _, _, _, _⟩) rfl 4 (.tmp 45) (.const (.bool true)) rfl rfl g4 3 rfl (.bool true) rfl (one_bool _) one4 30 _ h4 (kc_lt _ _ _ _ _ _ _ (by decide)) ?_; clear h4; intro wp h4 mp; replace h4 := kc_put3 h4; clear c0 c1 c2 c3 c4 c5 c6; obtain ⟨c0, c1, c2, c3, c4, c5, c6⟩ := kc_cells h4; replace h7 := h7.keep mp (by have := HG.out; simp; omega); replace h8 := h8.keep mp (by have := HG.out; simp; omega); replace mm := mm.trans mp (by have := HG.out; intro i hi h; simp at h; omega); clear mp)
    | (with_reducible refine wpList_put (o := ⟨none, .store 3 (.tmp 46) (.const (.int .i64 (-1))), _, _, _, _⟩) rfl 3 (.tmp 46) (.const (.int .i64 (-1))) rfl rfl g4 4 rfl (.int .i64 (-1)) rfl (one_int _ _) one3 30 _ h4 (kc_lt _ _ _ _ _ _ _ (by decide)) ?_; clear h4; intro wp h4 mp; replace h4 := kc_put4 h4; clear c0 c1 c2 c3 c4 c5 c6; obtain ⟨c0, c1, c2, c3, c4, c5, c6⟩ := kc_cells h4; replace h7 := h7.keep mp (by have := HG.out; simp; omega); replace h8 := h8.keep mp (by have := HG.out; simp; omega); replace mm := mm.trans mp (by have := HG.out; intro i hi h; simp at h; omega); clear mp)
    | (with_reducible refine wpList_loads (o := ⟨some 47, .load 30 (.tmp 4), _, _, _, _⟩) rfl 30 (.tmp 4) rfl g4 0 _ rfl (Cells.of_holds h4) _ Try.underlying30 rfl (kc_size _ _ _ _ _ _ _) _ rfl ?_)
    | (with_reducible refine wpList_storesAll (o := ⟨none, .store 30 (.tmp 8) (.tmp 47), _, _, _, _⟩) rfl 30 (.tmp 8) (.tmp 47) rfl rfl g8 _ rfl _ rfl rfl 30 _ h8 (kc_r0 _ _ _ _ _ _ _) (kc_one _ _ _ _ _ _ _ _ _) (kc_size _ _ _ _ _ _ _) ?_; clear h8; intro w9 h8 m9 z9; replace mm := mm.trans m9 (by have := HG.out; intro i hi h; simp at h; omega)))
  refine bodyPost_ret (results_cellb rfl _ _ g8 _ _ _ rfl rfl (Cells.of_holds h8) Try.underlying30 rfl size30) rfl ?_
  obtain ⟨hT, _, hN⟩ := HT.out
  subst hN
  exact ⟨A, c, rfl, hT.keep mm (by simp), mm⟩

set_option maxRecDepth 100000 in
set_option maxHeartbeats 2000000 in
theorem ask1_diesn  {z : Int} {f : Nat} {s : Story} {fa : Int} {op : Nat} {i : Int} {b : Blk} {A : Option Addr} {c : Nat} (w : World) (hT : Told w ⟨z, f, s, false, 0, fa, op⟩ A c) (hl : s.length < 1099511627776) (hop : op < 1099511627776) (hfa : -1 ≤ fa ∧ fa ≤ 9223372036854775807) (hi0 : 0 ≤ i) (hi1 : i < z) (hf : fa < 0) : Calls Try.prog 52 #[rv ⟨z, f, s, false, 0, fa, op⟩ A c, .int .i64 1, .int .i64 i, bv b] w (AskPost w (RSt.ask ⟨z, f, s, false, 0, fa, op⟩ 1 i b)) := by
  have hq : RSt.ask ⟨z, f, s, false, 0, fa, op⟩ 1 i b = (⟨z, f, s, true, (-1), fa, op⟩, 9) := by
    have q0 : ¬ 0 < fa := by omega
    have q1 : ¬ fa = 0 := by omega
    unfold RSt.ask
    simp [Int.not_lt.2 hi0, Int.not_le.2 hi1, q0, q1]
  rw [hq]
  clear hq
  obtain ⟨N, hN⟩ : ∃ N, N = s.length := ⟨_, rfl⟩
  have hNZ : (N : Int) ≤ 1099511627775 := by omega
  have hopZ : (op : Int) ≤ 1099511627775 := by omega
  show Calls Try.prog 52 #[.agg (kc z f (.slice A s.length c) false 0 fa op).toArray, .int .i64 1, .int .i64 i, bv b] w _
  rw [← hN]
  have HT := Lib.hid (And.intro hT (And.intro hl hN))
  clear hT hl hN hop
  obtain ⟨fa1, fa2⟩ := hfa
  go_enter Try.func52, Try.ntmps52
  go_wp2_with (first
    | (with_reducible refine wpList_boxes (o := ⟨some 4, .box 30 (.tmp 0), _, _, _, _⟩) rfl 30 (.tmp 0) rfl _ rfl (kc z f (.slice A N c) false 0 fa op) rfl ?_; intro w1 hb1 m1 z1; replace z1 := Lib.hid z1)
    | (with_reducible refine wpList_boxes (o := ⟨some 7, .box 39 (.tmp 3), _, _, _, _⟩) rfl 39 (.tmp 3) rfl _ rfl (bc b) rfl ?_; intro w2 hb2 m2 z2; replace z2 := Lib.hid z2)
    | (with_reducible refine wpList_allocs (o := ⟨some 8, .alloc 30, _, _, _, _⟩) rfl 30 rfl _ zero30 ?_; intro w3 hb3 m3 z3
       obtain ⟨g4, g7, g8, h4, h7, h8, hg, e4, e7, e8, mm⟩ := ask_start hb1 m1 z1.out hb2 m2 z2.out hb3 m3 z3
       rw [← e4, ← e7, ← e8]
       have HG := Lib.hid hg
       clear e4 e7 e8 hb1 m1 z1 hb2 m2 z2 hb3 m3 z3 hg
       obtain ⟨c0, c1, c2, c3, c4, c5, c6⟩ := kc_cells h4)
    | (with_reducible refine wpList_put (o := ⟨none, .store 4 (.tmp 45) (.const (.bool true)), _, _, _, _⟩) rfl 4 (.tmp 45) (.const (.bool true)) rfl rfl g4 3 rfl (.bool true) rfl (one_bool _) one4 30 _ h4 (kc_lt _ _ _ _ _ _ _ (by decide)) ?_; clear h4; intro wp h4 mp; replace h4 := kc_put3 h4; clear c0 c1 c2 c3 c4 c5 c6; obtain ⟨c0, c1, c2, c3, c4, c5, c6⟩ := kc_cells h4; replace h7 := h7.keep mp (by have := HG.out; simp; omega); replace h8 := h8.keep mp (by have := HG.out; simp; omega); replace mm := mm.trans mp (by have := HG.out; intro i hi h; simp at h; omega); clear mp)
    | (with_reducible refine wpList_put (o := ⟨none, .store 3 (.tmp 46) (.const (.int .i64 (-1))), _, _, _, _⟩) rfl 3 (.tmp 46) (.const (.int .i64 (-1))) rfl rfl g4 4 rfl (.int .i64 (-1)) rfl (one_int _ _) one3 30 _ h4 (kc_lt _ _ _ _ _ _ _ (by decide)) ?_; clear h4; intro wp h4 mp; replace h4 := kc_put4 h4; clear c0 c1 c2 c3 c4 c5 c6; obtain ⟨c0, c1, c2, c3, c4, c5, c6⟩ := kc_cells h4; replace h7 := h7.keep mp (by have := HG.out; simp; omega); replace h8 := h8.keep mp (by have := HG.out; simp; omega); replace mm := mm.trans mp (by have := HG.out; intro i hi h; simp at h; omega); clear mp)
    | (with_reducible refine wpList_loads (o := ⟨some 47, .load 30 (.tmp 4), _, _, _, _⟩) rfl 30 (.tmp 4) rfl g4 0 _ rfl (Cells.of_holds h4) _ Try.underlying30 rfl (kc_size _ _ _ _ _ _ _) _ rfl ?_)
    | (with_reducible refine wpList_storesAll (o := ⟨none, .store 30 (.tmp 8) (.tmp 47), _, _, _, _⟩) rfl 30 (.tmp 8) (.tmp 47) rfl rfl g8 _ rfl _ rfl rfl 30 _ h8 (kc_r0 _ _ _ _ _ _ _) (kc_one _ _ _ _ _ _ _ _ _) (kc_size _ _ _ _ _ _ _) ?_; clear h8; intro w9 h8 m9 z9; replace mm := mm.trans m9 (by have := HG.out; intro i hi h; simp at h; omega)))
  refine bodyPost_ret (results_cellb rfl _ _ g8 _ _ _ rfl rfl (Cells.of_holds h8) Try.underlying30 rfl size30) rfl ?_
  obtain ⟨hT, _, hN⟩ := HT.out
  subst hN
  exact ⟨A, c, rfl, hT.keep mm (by simp), mm⟩

set_option maxRecDepth 100000 in
set_option maxHeartbeats 2000000 in
theorem ask1_doespp  {z : Int} {f : Nat} {s : Story} {ar fa : Int} {op : Nat} {i : Int} {b : Blk} {A : Option Addr} {c : Nat} (w : World) (hT : Told w ⟨z, f, s, false, ar, fa, op⟩ A c) (hl : s.length < 1099511627776) (hop : op < 1099511627776) (hfa : -1 ≤ fa ∧ fa ≤ 9223372036854775807) (har : -1 ≤ ar ∧ ar ≤ 9223372036854775807) (hi0 : 0 ≤ i) (hi1 : i < z) (hf : 0 < fa) (ha : 0 < ar) : Calls Try.prog 52 #[rv ⟨z, f, s, false, ar, fa, op⟩ A c, .int .i64 1, .int .i64 i, bv b] w (AskPost w (RSt.ask ⟨z, f, s, false, ar, fa, op⟩ 1 i b)) := by
  have hq : RSt.ask ⟨z, f, s, false, ar, fa, op⟩ 1 i b = (⟨z, f, s ++ [(i, b)], false, (ar - 1), (fa - 1), op + 1⟩, 0) := by
    have q0 : ¬ fa = 0 := by omega
    have q1 : ¬ ar = 0 := by omega
    unfold RSt.ask
    simp [Int.not_lt.2 hi0, Int.not_le.2 hi1, hf, q0, ha, q1]
  rw [hq]
  clear hq
  obtain ⟨N, hN⟩ : ∃ N, N = s.length := ⟨_, rfl⟩
  have hNZ : (N : Int) ≤ 1099511627775 := by omega
  have hopZ : (op : Int) ≤ 1099511627775 := by omega
  show Calls Try.prog 52 #[.agg (kc z f (.slice A s.length c) false ar fa op).toArray, .int .i64 1, .int .i64 i, bv b] w _
  rw [← hN]
  have HT := Lib.hid (And.intro hT (And.intro hl hN))
  clear hT hl hN hop
  obtain ⟨fa1, fa2⟩ := hfa
  obtain ⟨ar1, ar2⟩ := har
  go_enter Try.func52, Try.ntmps52
  go_wp2_with (first
    | (with_reducible refine wpList_boxes (o := ⟨some 4, .box 30 (.tmp 0), _, _, _, _⟩) rfl 30 (.tmp 0) rfl _ rfl (kc z f (.slice A N c) false ar fa op) rfl ?_; intro w1 hb1 m1 z1; replace z1 := Lib.hid z1)
    | (with_reducible refine wpList_boxes (o := ⟨some 7, .box 39 (.tmp 3), _, _, _, _⟩) rfl 39 (.tmp 3) rfl _ rfl (bc b) rfl ?_; intro w2 hb2 m2 z2; replace z2 := Lib.hid z2)
    | (with_reducible refine wpList_allocs (o := ⟨some 8, .alloc 30, _, _, _, _⟩) rfl 30 rfl _ zero30 ?_; intro w3 hb3 m3 z3
       obtain ⟨g4, g7, g8, h4, h7, h8, hg, e4, e7, e8, mm⟩ := ask_start hb1 m1 z1.out hb2 m2 z2.out hb3 m3 z3
       rw [← e4, ← e7, ← e8]
       have HG := Lib.hid hg
       clear e4 e7 e8 hb1 m1 z1 hb2 m2 z2 hb3 m3 z3 hg
       obtain ⟨c0, c1, c2, c3, c4, c5, c6⟩ := kc_cells h4)
    | (with_reducible refine wpList_put (o := ⟨none, .store 3 (.tmp 37) (.tmp 36), _, _, _, _⟩) rfl 3 (.tmp 37) (.tmp 36) rfl rfl g4 5 rfl (.int .i64 (fa - 1)) rfl (one_int _ _) one3 30 _ h4 (kc_lt _ _ _ _ _ _ _ (by decide)) ?_; clear h4; intro wp h4 mp; replace h4 := kc_put5 h4; clear c0 c1 c2 c3 c4 c5 c6; obtain ⟨c0, c1, c2, c3, c4, c5, c6⟩ := kc_cells h4; replace h7 := h7.keep mp (by have := HG.out; simp; omega); replace h8 := h8.keep mp (by have := HG.out; simp; omega); replace mm := mm.trans mp (by have := HG.out; intro i hi h; simp at h; omega); clear mp)
    | (with_reducible refine wpList_put (o := ⟨none, .store 3 (.tmp 58) (.tmp 57), _, _, _, _⟩) rfl 3 (.tmp 58) (.tmp 57) rfl rfl g4 4 rfl (.int .i64 (ar - 1)) rfl (one_int _ _) one3 30 _ h4 (kc_lt _ _ _ _ _ _ _ (by decide)) ?_; clear h4; intro wp h4 mp; replace h4 := kc_put4 h4; clear c0 c1 c2 c3 c4 c5 c6; obtain ⟨c0, c1, c2, c3, c4, c5, c6⟩ := kc_cells h4; replace h7 := h7.keep mp (by have := HG.out; simp; omega); replace h8 := h8.keep mp (by have := HG.out; simp; omega); replace mm := mm.trans mp (by have := HG.out; intro i hi h; simp at h; omega); clear mp)
    | (with_reducible refine wpList_put (o := ⟨none, .store 3 (.tmp 62) (.tmp 61), _, _, _, _⟩) rfl 3 (.tmp 62) (.tmp 61) rfl rfl g4 6 rfl (.int .i64 ((op : Int) + 1)) rfl (one_int _ _) one3 30 _ h4 (kc_lt _ _ _ _ _ _ _ (by decide)) ?_; clear h4; intro wp h4 mp; replace h4 := kc_put6 h4; clear c0 c1 c2 c3 c4 c5 c6; obtain ⟨c0, c1, c2, c3, c4, c5, c6⟩ := kc_cells h4; replace h7 := h7.keep mp (by have := HG.out; simp; omega); replace h8 := h8.keep mp (by have := HG.out; simp; omega); replace mm := mm.trans mp (by have := HG.out; intro i hi h; simp at h; omega); clear mp))
  have hgl := h4.lt
  have hg8 := h8.lt
  have hTc : Cells wp A (s.flatMap wc) := HT.out.1.cells.keep mm (by simp)
  have hne : ∀ a, A = some a → a.block ≠ g4 := (HT.out.1.keep mm (fun _ _ => by simp)).ne h4 (by decide)
  have HA := Lib.hid (And.intro hgl (And.intro hTc (And.intro hne (And.intro h7 hg8))))
  obtain ⟨i28, hi28⟩ := info_of 28 (by kernel_rfl)
  have hs28 : i28.size = 1 := by
    have : (Try.prog.info? 28).map (·.size) = some 1 := by kernel_rfl
    rw [hi28] at this
    simpa using this
  have HI := Lib.hid (And.intro hi28 hs28)
  have hs0 : ASt wp g4 (kc z f (.slice A N c) false (ar - 1) (fa - 1) ((op : Int) + 1)) (fun A' c' => kc z f (.slice A' (N + 1) c') false (ar - 1) (fa - 1) ((op : Int) + 1)) s (i, b) (0, (none, 0), 0, (none, 0)) false false false false false wp.drew :=
    ⟨Mod.drew _ _, fun _ => h4.keep (Mod.drew [] wp) (by simp), (fun q => by cases q), (fun q => by cases q), (fun q => by cases q), (fun q => by cases q), (fun q => by cases q)⟩
  clear hgl hg8 hTc hne h7 hi28 hs28 h4 c0 c1 c2 c3 c4 c5 c6
  refine Rg.wp_region_lit (X := X4) (0, (none, 0), 0, (none, 0)) (fun x => [Value.agg (kc z (↑f) (Value.slice A N c) false ar fa ↑op).toArray, Value.int IntKind.i64 1, Value.int IntKind.i64 i, bv b, Value.pointer (some { block := g4, off := 0 }), undef, undef, Value.pointer (some { block := g7, off := 0 }), Value.pointer (some { block := g8, off := 0 }), Value.int IntKind.i64 0, Value.pointer (some { block := g4, off := 3 }), Value.bool false, undef, Value.int IntKind.i64 1, Value.bool true, Value.bool true, Value.int IntKind.i64 i, Value.bool (decide (i < 0)), Value.bool (decide (i < 0)), Value.int IntKind.i64 i, Value.pointer (some { block := g4, off := 0 }), Value.int IntKind.i64 z, Value.bool (decide (z ≤ i)), Value.bool (decide (i < 0) || decide (z ≤ i)), Value.bool (decide (i < 0) || decide (z ≤ i)), undef, Value.pointer (some { block := g4, off := 5 }), Value.int IntKind.i64 fa, Value.bool (fa == 0), undef, undef, Value.pointer (some { block := g4, off := 5 }), Value.int IntKind.i64 fa, Value.bool true, Value.pointer (some { block := g4, off := 5 }), Value.int IntKind.i64 fa, Value.int IntKind.i64 (fa - 1), Value.pointer (some { block := g4, off := 5 }), Value.int IntKind.i64 1, Value.bool true, Value.bool true, Value.pointer (some { block := g4, off := 4 }), Value.int IntKind.i64 ar, Value.bool (ar == 0), Value.bool (ar == 0), undef, undef, undef, Value.int IntKind.i64 1, Value.bool true, Value.bool true, Value.pointer (some { block := g4, off := 4 }), Value.int IntKind.i64 ar, Value.bool true, Value.bool true, Value.pointer (some { block := g4, off := 4 }), Value.int IntKind.i64 ar, Value.int IntKind.i64 (ar - 1), Value.pointer (some { block := g4, off := 4 }), Value.pointer (some { block := g4, off := 6 }), Value.int IntKind.i64 ↑op, Value.int IntKind.i64 (↑op + 1), Value.pointer (some { block := g4, off := 6 }), Value.int IntKind.i64 1, Value.bool true, .slice (some ⟨x.1, 0, none⟩) 0 0, .pointer (some ⟨g4, 2, none⟩), .slice A N c, .slice x.2.1.1 N x.2.1.2, .int .i64 i, bv b, wv (i, b), .slice (some ⟨x.2.2.1, 0, none⟩) 1 1, .slice x.2.2.2.1 (N + 1) x.2.2.2.2, .pointer (some ⟨g4, 2, none⟩), undef, undef, undef, undef, undef, undef, undef]) 82 [0, 1, 2, 3, 4, 5, 6, 7, 8, 9, 10, 11, 12, 13, 14, 15, 16, 17, 18, 19, 20, 21, 22, 23, 24, 25, 26, 27, 28, 29, 30, 31, 32, 33, 34, 35, 36, 37, 38, 39, 40, 41, 42, 43, 44, 45, 46, 47, 48, 49, 50, 51, 52, 53, 54, 55, 56, 57, 58, 59, 60, 61, 62, 63, 64, 75, 76, 77, 78, 79, 80, 81]
    (fun x lz v => ASt wp g4 (kc z f (.slice A N c) false (ar - 1) (fa - 1) ((op : Int) + 1)) (fun A' c' => kc z f (.slice A' (N + 1) c') false (ar - 1) (fa - 1) ((op : Int) + 1)) s (i, b) x (lz 0) (lz 3) (lz 7) (lz 8) (lz 10) v) []
    (by kernel_rfl) (fun _ => rfl) rfl rfl rfl (fun _ => by simp only [List.map_cons, List.map_nil, List.getD_cons_zero, List.getD_cons_succ]) (hs0) (by kernel_rfl) (by kernel_rfl) ?step ?fin
  case step =>
    intro x lz T v j o hj hlj hdep hst hpar hgot hcl K hK
    have hjn : j < 11 := (Array.getElem?_eq_some_iff.1 hj).1
    obtain rfl | rfl | rfl | rfl | rfl | rfl | rfl | rfl | rfl | rfl | rfl : j = 0 ∨ j = 1 ∨ j = 2 ∨ j = 3 ∨ j = 4 ∨ j = 5 ∨ j = 6 ∨ j = 7 ∨ j = 8 ∨ j = 9 ∨ j = 10 := by omega
    all_goals (have hj' := Option.some.inj (hj : some _ = some o); subst hj'; clear hj)
    · exact wp_ran rfl (exec_none28 rfl) (hK (v.heap.size, x.2) _ _ (fun j' o' s' h1 h2 h3 => by
        clear hst hpar hgot hdep hcl hK
        have h4 : j' < 11 := (Array.getElem?_eq_some_iff.1 h1).1
        obtain rfl | rfl | rfl | rfl | rfl | rfl | rfl | rfl | rfl | rfl | rfl : j' = 0 ∨ j' = 1 ∨ j' = 2 ∨ j' = 3 ∨ j' = 4 ∨ j' = 5 ∨ j' = 6 ∨ j' = 7 ∨ j' = 8 ∨ j' = 9 ∨ j' = 10 := by omega
        all_goals (cases h1; cases h3 <;> first | rfl | (rw [hlj] at h2; cases h2))) (fun s hs => by cases hs; rfl) hst.made0)
    · exact wp_ran rfl (exec_field30 rfl (eval_tmp (hpar 4 (by simp)))) (hK x _ _ (fun _ _ _ _ _ _ => rfl) (fun s hs => by cases hs; rfl) hst)
    · have n3 : lz 3 = false := by
        cases hh : lz 3 with
        | false => rfl
        | true => exact absurd (hcl 3 _ rfl hh ⟨2, .data⟩ (by simp) rfl) (by rw [hlj]; simp)
      have n8 : lz 8 = false := by
        cases hh : lz 8 with
        | false => rfl
        | true => exact absurd (show lz 3 = true from hcl 8 _ rfl hh ⟨3, .data⟩ (by simp) rfl) (by rw [n3]; simp)
      have n10 : lz 10 = false := by
        cases hh : lz 10 with
        | false => rfl
        | true => exact absurd (show lz 8 = true from hcl 10 _ rfl hh ⟨8, .data⟩ (by simp) rfl) (by rw [n8]; simp)
      exact wp_ran rfl (exec_load rfl (eval_tmp (hgot 1 _ 66 rfl (hdep ⟨1, .data⟩ (by simp) rfl) rfl)) (run_load1 Try.underlying28 rfl ((hst.2.1 n10).cell 2))) (hK x _ _ (fun _ _ _ _ _ _ => rfl) (fun s hs => by cases hs; rfl) hst)
    · have n8 : lz 8 = false := by
        cases hh : lz 8 with
        | false => rfl
        | true => exact absurd (hcl 8 _ rfl hh ⟨3, .data⟩ (by simp) rfl) (by rw [hlj]; simp)
      have e0 : lz 0 = true := hdep ⟨0, .data⟩ (by simp) rfl
      have hst' := hst
      rw [e0, hlj, n8] at hst'
      obtain ⟨A', c', v', hrun, hs'⟩ := hst'.app1 HA.out.1 28 HA.out.2.1 HA.out.2.2.1 (by have := HT.out.2.1; omega)
      rw [← HT.out.2.2] at hrun
      exact wp_ran rfl (exec_append rfl (eval_tmp (hgot 0 _ 65 rfl (hdep ⟨0, .data⟩ (by simp) rfl) rfl)) (eval_tmp (hgot 2 _ 67 rfl (hdep ⟨2, .data⟩ (by simp) rfl) rfl)) hrun) (hK (x.1, (A', c'), x.2.2) _ _ (fun j' o' s' h1 h2 h3 => by
        clear hst hpar hgot hdep hcl hK
        have h4 : j' < 11 := (Array.getElem?_eq_some_iff.1 h1).1
        obtain rfl | rfl | rfl | rfl | rfl | rfl | rfl | rfl | rfl | rfl | rfl : j' = 0 ∨ j' = 1 ∨ j' = 2 ∨ j' = 3 ∨ j' = 4 ∨ j' = 5 ∨ j' = 6 ∨ j' = 7 ∨ j' = 8 ∨ j' = 9 ∨ j' = 10 := by omega
        all_goals (cases h1; cases h3 <;> first | rfl | (rw [hlj] at h2; cases h2))) (fun s hs => by cases hs; rfl) (by
        show ASt _ _ _ _ _ _ _ (lz 0) true (lz 7) (lz 8) (lz 10) _
        rw [e0, n8]
        exact hs'))
    · exact wp_ran rfl (exec_move rfl (eval_tmp (hpar 2 (by simp)))) (hK x _ _ (fun _ _ _ _ _ _ => rfl) (fun s hs => by cases hs; rfl) hst)
    · exact wp_ran rfl (exec_load rfl (eval_tmp (hpar 7 (by simp))) (run_loads (Cells.of_holds (HA.out.2.2.2.1.keep hst.1 (by have := HG.out; simp; omega))) Try.underlying39 rfl (size39' b))) (hK x _ _ (fun _ _ _ _ _ _ => rfl) (fun s hs => by cases hs; rfl) hst)
    · exact wp_ran rfl (exec_build80 rfl (eval_tmp (hgot 4 _ 69 rfl (hdep ⟨4, .data⟩ (by simp) rfl) rfl)) (eval_tmp (hgot 5 _ 70 rfl (hdep ⟨5, .data⟩ (by simp) rfl) rfl))) (hK x _ _ (fun _ _ _ _ _ _ => rfl) (fun s hs => by cases hs; rfl) hst)
    · exact wp_ran rfl (exec_lit rfl (eval_tmp (hgot 6 _ 71 rfl (hdep ⟨6, .data⟩ (by simp) rfl) rfl)) (run_lit28 (i, b) v)) (hK (x.1, x.2.1, v.heap.size, x.2.2.2) _ _ (fun j' o' s' h1 h2 h3 => by
        clear hst hpar hgot hdep hcl hK
        have h4 : j' < 11 := (Array.getElem?_eq_some_iff.1 h1).1
        obtain rfl | rfl | rfl | rfl | rfl | rfl | rfl | rfl | rfl | rfl | rfl : j' = 0 ∨ j' = 1 ∨ j' = 2 ∨ j' = 3 ∨ j' = 4 ∨ j' = 5 ∨ j' = 6 ∨ j' = 7 ∨ j' = 8 ∨ j' = 9 ∨ j' = 10 := by omega
        all_goals (cases h1; cases h3 <;> first | rfl | (rw [hlj] at h2; cases h2))) (fun s hs => by cases hs; rfl) hst.made1)
    · have n10 : lz 10 = false := by
        cases hh : lz 10 with
        | false => rfl
        | true => exact absurd (hcl 10 _ rfl hh ⟨8, .data⟩ (by simp) rfl) (by rw [hlj]; simp)
      have e3 : lz 3 = true := hdep ⟨3, .data⟩ (by simp) rfl
      have e7 : lz 7 = true := hdep ⟨7, .data⟩ (by simp) rfl
      have hst' := hst
      rw [e3, e7, hlj, n10] at hst'
      obtain ⟨A', c', v', hrun, hs'⟩ := hst'.app2 HA.out.1 28 HT.out.2.1
      rw [← HT.out.2.2] at hrun
      exact wp_ran rfl (exec_append rfl (eval_tmp (hgot 3 _ 68 rfl (hdep ⟨3, .data⟩ (by simp) rfl) rfl)) (eval_tmp (hgot 7 _ 72 rfl (hdep ⟨7, .data⟩ (by simp) rfl) rfl)) hrun) (hK (x.1, x.2.1, x.2.2.1, (A', c')) _ _ (fun j' o' s' h1 h2 h3 => by
        clear hst hpar hgot hdep hcl hK
        have h4 : j' < 11 := (Array.getElem?_eq_some_iff.1 h1).1
        obtain rfl | rfl | rfl | rfl | rfl | rfl | rfl | rfl | rfl | rfl | rfl : j' = 0 ∨ j' = 1 ∨ j' = 2 ∨ j' = 3 ∨ j' = 4 ∨ j' = 5 ∨ j' = 6 ∨ j' = 7 ∨ j' = 8 ∨ j' = 9 ∨ j' = 10 := by omega
        all_goals (cases h1; cases h3 <;> first | rfl | (rw [hlj] at h2; cases h2))) (fun s hs => by cases hs; rfl) (by
        show ASt _ _ _ _ _ _ _ (lz 0) (lz 3) (lz 7) true (lz 10) _
        rw [e3, e7, n10]
        exact hs'))
    · exact wp_ran rfl (exec_field30 rfl (eval_tmp (hpar 4 (by simp)))) (hK x _ _ (fun _ _ _ _ _ _ => rfl) (fun s hs => by cases hs; rfl) hst)
    · have e8 : lz 8 = true := hdep ⟨8, .data⟩ (by simp) rfl
      have e3 : lz 3 = true := hcl 8 _ rfl e8 ⟨3, .data⟩ (by simp) rfl
      have hst' := hst
      rw [e3, e8, hlj] at hst'
      have hg := hst.2.1 hlj
      exact wp_ran_skip rfl (exec_store1 rfl (eval_tmp (hgot 9 _ 74 rfl (hdep ⟨9, .data⟩ (by simp) rfl) rfl)) (eval_tmp (hgot 8 _ 73 rfl (hdep ⟨8, .data⟩ (by simp) rfl) rfl)) rfl HI.out.1 HI.out.2 (hg.cell 2) (hg.free 2)) (hK x _ _ (fun _ _ _ _ _ _ => rfl) (fun s hs => by cases hs) (by
        show ASt _ _ _ _ _ _ _ (lz 0) (lz 3) (lz 7) (lz 8) true _
        rw [e3, e8]
        exact hst'.stored HA.out.1 rfl))
  case fin =>
    intro x lz v hl hst
    have e8 : lz 8 = true := hl 8 (by decide)
    have e10 : lz 10 = true := hl 10 (by decide)
    have h4 := hst.2.2.2.2.2.2 e10
    obtain ⟨hO, hNw⟩ := hst.2.2.2.2.2.1 e8
    have mp := hst.1
    obtain ⟨E0, ⟨A1, c1⟩, L0, A2, c2'⟩ := x
    dsimp only at h4 hO hNw
    obtain ⟨c0, c1, c2, c3, c4, c5, c6⟩ := kc_cells h4
    replace h8 := h8.keep mp (by have := HG.out; simp; omega)
    replace mm := mm.trans mp (by have := HG.out; intro i hi h; simp at h; omega)
    clear hst hl mp e8 e10
    dsimp only
    go_wp2_with (first
      | (with_reducible refine wpList_loads (o := ⟨some 81, .load 30 (.tmp 4), _, _, _, _⟩) rfl 30 (.tmp 4) rfl g4 0 _ rfl (Cells.of_holds h4) _ Try.underlying30 rfl (kc_size _ _ _ _ _ _ _) _ rfl ?_)
      | (with_reducible refine wpList_storesAll (o := ⟨none, .store 30 (.tmp 8) (.tmp 81), _, _, _, _⟩) rfl 30 (.tmp 8) (.tmp 81) rfl rfl g8 _ rfl _ rfl rfl 30 _ h8 (kc_r0 _ _ _ _ _ _ _) (kc_one _ _ _ _ _ _ _ _ _) (kc_size _ _ _ _ _ _ _) ?_; clear h8; intro w9 h8 m9 z9; replace mm := mm.trans m9 (by have := HG.out; intro i hi h; simp at h; omega)))
    refine bodyPost_ret (results_cellb rfl _ _ g8 _ _ _ rfl rfl (Cells.of_holds h8) Try.underlying30 rfl size30) rfl ?_
    obtain ⟨_, _, hN⟩ := HT.out
    subst hN
    have hO' := hO.keep m9 (fun a ha => by have := hNw a ha; have := HA.out.2.2.2.2; simp; omega)
    exact ⟨A2, c2', by simp only [rv, rc, List.length_append, List.length_cons, List.length_nil]; rfl, hO', mm⟩

set_option maxRecDepth 100000 in
set_option maxHeartbeats 2000000 in
theorem ask1_doespn  {z : Int} {f : Nat} {s : Story} {ar fa : Int} {op : Nat} {i : Int} {b : Blk} {A : Option Addr} {c : Nat} (w : World) (hT : Told w ⟨z, f, s, false, ar, fa, op⟩ A c) (hl : s.length < 1099511627776) (hop : op < 1099511627776) (hfa : -1 ≤ fa ∧ fa ≤ 9223372036854775807) (har : -1 ≤ ar ∧ ar ≤ 9223372036854775807) (hi0 : 0 ≤ i) (hi1 : i < z) (hf : 0 < fa) (ha : ar < 0) : Calls Try.prog 52 #[rv ⟨z, f, s, false, ar, fa, op⟩ A c, .int .i64 1, .int .i64 i, bv b] w (AskPost w (RSt.ask ⟨z, f, s, false, ar, fa, op⟩ 1 i b)) := by
  have hq : RSt.ask ⟨z, f, s, false, ar, fa, op⟩ 1 i b = (⟨z, f, s ++ [(i, b)], false, ar, (fa - 1), op + 1⟩, 0) := by
    have q0 : ¬ fa = 0 := by omega
    have q1 : ¬ 0 < ar := by omega
    have q2 : ¬ ar = 0 := by omega
    unfold RSt.ask
    simp [Int.not_lt.2 hi0, Int.not_le.2 hi1, hf, q0, q1, q2]
  rw [hq]
  clear hq
  obtain ⟨N, hN⟩ : ∃ N, N = s.length := ⟨_, rfl⟩
  have hNZ : (N : Int) ≤ 1099511627775 := by omega
  have hopZ : (op : Int) ≤ 1099511627775 := by omega
  show Calls Try.prog 52 #[.agg (kc z f (.slice A s.length c) false ar fa op).toArray, .int .i64 1, .int .i64 i, bv b] w _
  rw [← hN]
  have HT := Lib.hid (And.intro hT (And.intro hl hN))
  clear hT hl hN hop
  obtain ⟨fa1, fa2⟩ := hfa
  obtain ⟨ar1, ar2⟩ := har
  go_enter Try.func52, Try.ntmps52
  go_wp2_with (first
    | (with_reducible refine wpList_boxes (o := ⟨some 4, .box 30 (.tmp 0), _, _, _, _⟩) rfl 30 (.tmp 0) rfl _ rfl (kc z f (.slice A N c) false ar fa op) rfl ?_; intro w1 hb1 m1 z1; replace z1 := Lib.hid z1)
    | (with_reducible refine wpList_boxes (o := ⟨some 7, .box 39 (.tmp 3), _, _, _, _⟩) rfl 39 (.tmp 3) rfl _ rfl (bc b) rfl ?_; intro w2 hb2 m2 z2; replace z2 := Lib.hid z2)
    | (with_reducible refine wpList_allocs (o := ⟨some 8, .alloc 30, _, _, _, _⟩) rfl 30 rfl _ zero30 ?_; intro w3 hb3 m3 z3
       obtain ⟨g4, g7, g8, h4, h7, h8, hg, e4, e7, e8, mm⟩ := ask_start hb1 m1 z1.out hb2 m2 z2.out hb3 m3 z3
       rw [← e4, ← e7, ← e8]
       have HG := Lib.hid hg
       clear e4 e7 e8 hb1 m1 z1 hb2 m2 z2 hb3 m3 z3 hg
       obtain ⟨c0, c1, c2, c3, c4, c5, c6⟩ := kc_cells h4)
    | (with_reducible refine wpList_put (o := ⟨none, .store 3 (.tmp 37) (.tmp 36), _, _, _, _⟩) rfl 3 (.tmp 37) (.tmp 36) rfl rfl g4 5 rfl (.int .i64 (fa - 1)) rfl (one_int _ _) one3 30 _ h4 (kc_lt _ _ _ _ _ _ _ (by decide)) ?_; clear h4; intro wp h4 mp; replace h4 := kc_put5 h4; clear c0 c1 c2 c3 c4 c5 c6; obtain ⟨c0, c1, c2, c3, c4, c5, c6⟩ := kc_cells h4; replace h7 := h7.keep mp (by have := HG.out; simp; omega); replace h8 := h8.keep mp (by have := HG.out; simp; omega); replace mm := mm.trans mp (by have := HG.out; intro i hi h; simp at h; omega); clear mp)
    | (with_reducible refine wpList_put (o := ⟨none, .store 3 (.tmp 62) (.tmp 61), _, _, _, _⟩) rfl 3 (.tmp 62) (.tmp 61) rfl rfl g4 6 rfl (.int .i64 ((op : Int) + 1)) rfl (one_int _ _) one3 30 _ h4 (kc_lt _ _ _ _ _ _ _ (by decide)) ?_; clear h4; intro wp h4 mp; replace h4 := kc_put6 h4; clear c0 c1 c2 c3 c4 c5 c6; obtain ⟨c0, c1, c2, c3, c4, c5, c6⟩ := kc_cells h4; replace h7 := h7.keep mp (by have := HG.out; simp; omega); replace h8 := h8.keep mp (by have := HG.out; simp; omega); replace mm := mm.trans mp (by have := HG.out; intro i hi h; simp at h; omega); clear mp))
  have hgl := h4.lt
  have hg8 := h8.lt
  have hTc : Cells wp A (s.flatMap wc) := HT.out.1.cells.keep mm (by simp)
  have hne : ∀ a, A = some a → a.block ≠ g4 := (HT.out.1.keep mm (fun _ _ => by simp)).ne h4 (by decide)
  have HA := Lib.hid (And.intro hgl (And.intro hTc (And.intro hne (And.intro h7 hg8))))
  obtain ⟨i28, hi28⟩ := info_of 28 (by kernel_rfl)
  have hs28 : i28.size = 1 := by
    have : (Try.prog.info? 28).map (·.size) = some 1 := by kernel_rfl
    rw [hi28] at this
    simpa using this
  have HI := Lib.hid (And.intro hi28 hs28)
  have hs0 : ASt wp g4 (kc z f (.slice A N c) false ar (fa - 1) ((op : Int) + 1)) (fun A' c' => kc z f (.slice A' (N + 1) c') false ar (fa - 1) ((op : Int) + 1)) s (i, b) (0, (none, 0), 0, (none, 0)) false false false false false wp.drew :=
    ⟨Mod.drew _ _, fun _ => h4.keep (Mod.drew [] wp) (by simp), (fun q => by cases q), (fun q => by cases q), (fun q => by cases q), (fun q => by cases q), (fun q => by cases q)⟩
  clear hgl hg8 hTc hne h7 hi28 hs28 h4 c0 c1 c2 c3 c4 c5 c6
  refine Rg.wp_region_lit (X := X4) (0, (none, 0), 0, (none, 0)) (fun x => [Value.agg (kc z (↑f) (Value.slice A N c) false ar fa ↑op).toArray, Value.int IntKind.i64 1, Value.int IntKind.i64 i, bv b, Value.pointer (some { block := g4, off := 0 }), undef, undef, Value.pointer (some { block := g7, off := 0 }), Value.pointer (some { block := g8, off := 0 }), Value.int IntKind.i64 0, Value.pointer (some { block := g4, off := 3 }), Value.bool false, undef, Value.int IntKind.i64 1, Value.bool true, Value.bool true, Value.int IntKind.i64 i, Value.bool (decide (i < 0)), Value.bool (decide (i < 0)), Value.int IntKind.i64 i, Value.pointer (some { block := g4, off := 0 }), Value.int IntKind.i64 z, Value.bool (decide (z ≤ i)), Value.bool (decide (i < 0) || decide (z ≤ i)), Value.bool (decide (i < 0) || decide (z ≤ i)), undef, Value.pointer (some { block := g4, off := 5 }), Value.int IntKind.i64 fa, Value.bool (fa == 0), undef, undef, Value.pointer (some { block := g4, off := 5 }), Value.int IntKind.i64 fa, Value.bool true, Value.pointer (some { block := g4, off := 5 }), Value.int IntKind.i64 fa, Value.int IntKind.i64 (fa - 1), Value.pointer (some { block := g4, off := 5 }), Value.int IntKind.i64 1, Value.bool true, Value.bool true, Value.pointer (some { block := g4, off := 4 }), Value.int IntKind.i64 ar, Value.bool (ar == 0), Value.bool (ar == 0), undef, undef, undef, Value.int IntKind.i64 1, Value.bool true, Value.bool true, Value.pointer (some { block := g4, off := 4 }), Value.int IntKind.i64 ar, Value.bool (decide (0 < ar)), Value.bool (decide (0 < ar)), undef, undef, undef, undef, Value.pointer (some { block := g4, off := 6 }), Value.int IntKind.i64 ↑op, Value.int IntKind.i64 (↑op + 1), Value.pointer (some { block := g4, off := 6 }), Value.int IntKind.i64 1, Value.bool true, .slice (some ⟨x.1, 0, none⟩) 0 0, .pointer (some ⟨g4, 2, none⟩), .slice A N c, .slice x.2.1.1 N x.2.1.2, .int .i64 i, bv b, wv (i, b), .slice (some ⟨x.2.2.1, 0, none⟩) 1 1, .slice x.2.2.2.1 (N + 1) x.2.2.2.2, .pointer (some ⟨g4, 2, none⟩), undef, undef, undef, undef, undef, undef, undef]) 82 [0, 1, 2, 3, 4, 5, 6, 7, 8, 9, 10, 11, 12, 13, 14, 15, 16, 17, 18, 19, 20, 21, 22, 23, 24, 25, 26, 27, 28, 29, 30, 31, 32, 33, 34, 35, 36, 37, 38, 39, 40, 41, 42, 43, 44, 45, 46, 47, 48, 49, 50, 51, 52, 53, 54, 55, 56, 57, 58, 59, 60, 61, 62, 63, 64, 75, 76, 77, 78, 79, 80, 81]
    (fun x lz v => ASt wp g4 (kc z f (.slice A N c) false ar (fa - 1) ((op : Int) + 1)) (fun A' c' => kc z f (.slice A' (N + 1) c') false ar (fa - 1) ((op : Int) + 1)) s (i, b) x (lz 0) (lz 3) (lz 7) (lz 8) (lz 10) v) []
    (by kernel_rfl) (fun _ => rfl) rfl rfl rfl (fun _ => by simp only [List.map_cons, List.map_nil, List.getD_cons_zero, List.getD_cons_succ]) (hs0) (by kernel_rfl) (by kernel_rfl) ?step ?fin
  case step =>
    intro x lz T v j o hj hlj hdep hst hpar hgot hcl K hK
    have hjn : j < 11 := (Array.getElem?_eq_some_iff.1 hj).1
    obtain rfl | rfl | rfl | rfl | rfl | rfl | rfl | rfl | rfl | rfl | rfl : j = 0 ∨ j = 1 ∨ j = 2 ∨ j = 3 ∨ j = 4 ∨ j = 5 ∨ j = 6 ∨ j = 7 ∨ j = 8 ∨ j = 9 ∨ j = 10 := by omega
    all_goals (have hj' := Option.some.inj (hj : some _ = some o); subst hj'; clear hj)
    · exact wp_ran rfl (exec_none28 rfl) (hK (v.heap.size, x.2) _ _ (fun j' o' s' h1 h2 h3 => by
        clear hst hpar hgot hdep hcl hK
        have h4 : j' < 11 := (Array.getElem?_eq_some_iff.1 h1).1
        obtain rfl | rfl | rfl | rfl | rfl | rfl | rfl | rfl | rfl | rfl | rfl : j' = 0 ∨ j' = 1 ∨ j' = 2 ∨ j' = 3 ∨ j' = 4 ∨ j' = 5 ∨ j' = 6 ∨ j' = 7 ∨ j' = 8 ∨ j' = 9 ∨ j' = 10 := by omega
        all_goals (cases h1; cases h3 <;> first | rfl | (rw [hlj] at h2; cases h2))) (fun s hs => by cases hs; rfl) hst.made0)
    · exact wp_ran rfl (exec_field30 rfl (eval_tmp (hpar 4 (by simp)))) (hK x _ _ (fun _ _ _ _ _ _ => rfl) (fun s hs => by cases hs; rfl) hst)
    · have n3 : lz 3 = false := by
        cases hh : lz 3 with
        | false => rfl
        | true => exact absurd (hcl 3 _ rfl hh ⟨2, .data⟩ (by simp) rfl) (by rw [hlj]; simp)
      have n8 : lz 8 = false := by
        cases hh : lz 8 with
        | false => rfl
        | true => exact absurd (show lz 3 = true from hcl 8 _ rfl hh ⟨3, .data⟩ (by simp) rfl) (by rw [n3]; simp)
      have n10 : lz 10 = false := by
        cases hh : lz 10 with
        | false => rfl
        | true => exact absurd (show lz 8 = true from hcl 10 _ rfl hh ⟨8, .data⟩ (by simp) rfl) (by rw [n8]; simp)
      exact wp_ran rfl (exec_load rfl (eval_tmp (hgot 1 _ 66 rfl (hdep ⟨1, .data⟩ (by simp) rfl) rfl)) (run_load1 Try.underlying28 rfl ((hst.2.1 n10).cell 2))) (hK x _ _ (fun _ _ _ _ _ _ => rfl) (fun s hs => by cases hs; rfl) hst)
    · have n8 : lz 8 = false := by
        cases hh : lz 8 with
        | false => rfl
        | true => exact absurd (hcl 8 _ rfl hh ⟨3, .data⟩ (by simp) rfl) (by rw [hlj]; simp)
      have e0 : lz 0 = true := hdep ⟨0, .data⟩ (by simp) rfl
      have hst' := hst
      rw [e0, hlj, n8] at hst'
      obtain ⟨A', c', v', hrun, hs'⟩ := hst'.app1 HA.out.1 28 HA.out.2.1 HA.out.2.2.1 (by have := HT.out.2.1; omega)
      rw [← HT.out.2.2] at hrun
      exact wp_ran rfl (exec_append rfl (eval_tmp (hgot 0 _ 65 rfl (hdep ⟨0, .data⟩ (by simp) rfl) rfl)) (eval_tmp (hgot 2 _ 67 rfl (hdep ⟨2, .data⟩ (by simp) rfl) rfl)) hrun) (hK (x.1, (A', c'), x.2.2) _ _ (fun j' o' s' h1 h2 h3 => by
        clear hst hpar hgot hdep hcl hK
        have h4 : j' < 11 := (Array.getElem?_eq_some_iff.1 h1).1
        obtain rfl | rfl | rfl | rfl | rfl | rfl | rfl | rfl | rfl | rfl | rfl : j' = 0 ∨ j' = 1 ∨ j' = 2 ∨ j' = 3 ∨ j' = 4 ∨ j' = 5 ∨ j' = 6 ∨ j' = 7 ∨ j' = 8 ∨ j' = 9 ∨ j' = 10 := by omega
        all_goals (cases h1; cases h3 <;> first | rfl | (rw [hlj] at h2; cases h2))) (fun s hs => by cases hs; rfl) (by
        show ASt _ _ _ _ _ _ _ (lz 0) true (lz 7) (lz 8) (lz 10) _
        rw [e0, n8]
        exact hs'))
    · exact wp_ran rfl (exec_move rfl (eval_tmp (hpar 2 (by simp)))) (hK x _ _ (fun _ _ _ _ _ _ => rfl) (fun s hs => by cases hs; rfl) hst)
    · exact wp_ran rfl (exec_load rfl (eval_tmp (hpar 7 (by simp))) (run_loads (Cells.of_holds (HA.out.2.2.2.1.keep hst.1 (by have := HG.out; simp; omega))) Try.underlying39 rfl (size39' b))) (hK x _ _ (fun _ _ _ _ _ _ => rfl) (fun s hs => by cases hs; rfl) hst)
    · exact wp_ran rfl (exec_build80 rfl (eval_tmp (hgot 4 _ 69 rfl (hdep ⟨4, .data⟩ (by simp) rfl) rfl)) (eval_tmp (hgot 5 _ 70 rfl (hdep ⟨5, .data⟩ (by simp) rfl) rfl))) (hK x _ _ (fun _ _ _ _ _ _ => rfl) (fun s hs => by cases hs; rfl) hst)
    · exact wp_ran rfl (exec_lit rfl (eval_tmp (hgot 6 _ 71 rfl (hdep ⟨6, .data⟩ (by simp) rfl) rfl)) (run_lit28 (i, b) v)) (hK (x.1, x.2.1, v.heap.size, x.2.2.2) _ _ (fun j' o' s' h1 h2 h3 => by
        clear hst hpar hgot hdep hcl hK
        have h4 : j' < 11 := (Array.getElem?_eq_some_iff.1 h1).1
        obtain rfl | rfl | rfl | rfl | rfl | rfl | rfl | rfl | rfl | rfl | rfl : j' = 0 ∨ j' = 1 ∨ j' = 2 ∨ j' = 3 ∨ j' = 4 ∨ j' = 5 ∨ j' = 6 ∨ j' = 7 ∨ j' = 8 ∨ j' = 9 ∨ j' = 10 := by omega
        all_goals (cases h1; cases h3 <;> first | rfl | (rw [hlj] at h2; cases h2))) (fun s hs => by cases hs; rfl) hst.made1)
    · have n10 : lz 10 = false := by
        cases hh : lz 10 with
        | false => rfl
        | true => exact absurd (hcl 10 _ rfl hh ⟨8, .data⟩ (by simp) rfl) (by rw [hlj]; simp)
      have e3 : lz 3 = true := hdep ⟨3, .data⟩ (by simp) rfl
      have e7 : lz 7 = true := hdep ⟨7, .data⟩ (by simp) rfl
      have hst' := hst
      rw [e3, e7, hlj, n10] at hst'
      obtain ⟨A', c', v', hrun, hs'⟩ := hst'.app2 HA.out.1 28 HT.out.2.1
      rw [← HT.out.2.2] at hrun
      exact wp_ran rfl (exec_append rfl (eval_tmp (hgot 3 _ 68 rfl (hdep ⟨3, .data⟩ (by simp) rfl) rfl)) (eval_tmp (hgot 7 _ 72 rfl (hdep ⟨7, .data⟩ (by simp) rfl) rfl)) hrun) (hK (x.1, x.2.1, x.2.2.1, (A', c')) _ _ (fun j' o' s' h1 h2 h3 => by
        clear hst hpar hgot hdep hcl hK
        have h4 : j' < 11 := (Array.getElem?_eq_some_iff.1 h1).1
        obtain rfl | rfl | rfl | rfl | rfl | rfl | rfl | rfl | rfl | rfl | rfl : j' = 0 ∨ j' = 1 ∨ j' = 2 ∨ j' = 3 ∨ j' = 4 ∨ j' = 5 ∨ j' = 6 ∨ j' = 7 ∨ j' = 8 ∨ j' = 9 ∨ j' = 10 := by omega
        all_goals (cases h1; cases h3 <;> first | rfl | (rw [hlj] at h2; cases h2))) (fun s hs => by cases hs; rfl) (by
        show ASt _ _ _ _ _ _ _ (lz 0) (lz 3) (lz 7) true (lz 10) _
        rw [e3, e7, n10]
        exact hs'))
    · exact wp_ran rfl (exec_field30 rfl (eval_tmp (hpar 4 (by simp)))) (hK x _ _ (fun _ _ _ _ _ _ => rfl) (fun s hs => by cases hs; rfl) hst)
    · have e8 : lz 8 = true := hdep ⟨8, .data⟩ (by simp) rfl
      have e3 : lz 3 = true := hcl 8 _ rfl e8 ⟨3, .data⟩ (by simp) rfl
      have hst' := hst
      rw [e3, e8, hlj] at hst'
      have hg := hst.2.1 hlj
      exact wp_ran_skip rfl (exec_store1 rfl (eval_tmp (hgot 9 _ 74 rfl (hdep ⟨9, .data⟩ (by simp) rfl) rfl)) (eval_tmp (hgot 8 _ 73 rfl (hdep ⟨8, .data⟩ (by simp) rfl) rfl)) rfl HI.out.1 HI.out.2 (hg.cell 2) (hg.free 2)) (hK x _ _ (fun _ _ _ _ _ _ => rfl) (fun s hs => by cases hs) (by
        show ASt _ _ _ _ _ _ _ (lz 0) (lz 3) (lz 7) (lz 8) true _
        rw [e3, e8]
        exact hst'.stored HA.out.1 rfl))
  case fin =>
    intro x lz v hl hst
    have e8 : lz 8 = true := hl 8 (by decide)
    have e10 : lz 10 = true := hl 10 (by decide)
    have h4 := hst.2.2.2.2.2.2 e10
    obtain ⟨hO, hNw⟩ := hst.2.2.2.2.2.1 e8
    have mp := hst.1
    obtain ⟨E0, ⟨A1, c1⟩, L0, A2, c2'⟩ := x
    dsimp only at h4 hO hNw
    obtain ⟨c0, c1, c2, c3, c4, c5, c6⟩ := kc_cells h4
    replace h8 := h8.keep mp (by have := HG.out; simp; omega)
    replace mm := mm.trans mp (by have := HG.out; intro i hi h; simp at h; omega)
    clear hst hl mp e8 e10
    dsimp only
    go_wp2_with (first
      | (with_reducible refine wpList_loads (o := ⟨some 81, .load 30 (.tmp 4), _, _, _, _⟩) rfl 30 (.tmp 4) rfl g4 0 _ rfl (Cells.of_holds h4) _ Try.underlying30 rfl (kc_size _ _ _ _ _ _ _) _ rfl ?_)
      | (with_reducible refine wpList_storesAll (o := ⟨none, .store 30 (.tmp 8) (.tmp 81), _, _, _, _⟩) rfl 30 (.tmp 8) (.tmp 81) rfl rfl g8 _ rfl _ rfl rfl 30 _ h8 (kc_r0 _ _ _ _ _ _ _) (kc_one _ _ _ _ _ _ _ _ _) (kc_size _ _ _ _ _ _ _) ?_; clear h8; intro w9 h8 m9 z9; replace mm := mm.trans m9 (by have := HG.out; intro i hi h; simp at h; omega)))
    refine bodyPost_ret (results_cellb rfl _ _ g8 _ _ _ rfl rfl (Cells.of_holds h8) Try.underlying30 rfl size30) rfl ?_
    obtain ⟨_, _, hN⟩ := HT.out
    subst hN
    have hO' := hO.keep m9 (fun a ha => by have := hNw a ha; have := HA.out.2.2.2.2; simp; omega)
    exact ⟨A2, c2', by simp only [rv, rc, List.length_append, List.length_cons, List.length_nil]; rfl, hO', mm⟩

set_option maxRecDepth 100000 in
set_option maxHeartbeats 2000000 in
theorem ask1_doesnp  {z : Int} {f : Nat} {s : Story} {ar fa : Int} {op : Nat} {i : Int} {b : Blk} {A : Option Addr} {c : Nat} (w : World) (hT : Told w ⟨z, f, s, false, ar, fa, op⟩ A c) (hl : s.length < 1099511627776) (hop : op < 1099511627776) (hfa : -1 ≤ fa ∧ fa ≤ 9223372036854775807) (har : -1 ≤ ar ∧ ar ≤ 9223372036854775807) (hi0 : 0 ≤ i) (hi1 : i < z) (hf : fa < 0) (ha : 0 < ar) : Calls Try.prog 52 #[rv ⟨z, f, s, false, ar, fa, op⟩ A c, .int .i64 1, .int .i64 i, bv b] w (AskPost w (RSt.ask ⟨z, f, s, false, ar, fa, op⟩ 1 i b)) := by
  have hq : RSt.ask ⟨z, f, s, false, ar, fa, op⟩ 1 i b = (⟨z, f, s ++ [(i, b)], false, (ar - 1), fa, op + 1⟩, 0) := by
    have q0 : ¬ 0 < fa := by omega
    have q1 : ¬ fa = 0 := by omega
    have q2 : ¬ ar = 0 := by omega
    unfold RSt.ask
    simp [Int.not_lt.2 hi0, Int.not_le.2 hi1, q0, q1, ha, q2]
  rw [hq]
  clear hq
  obtain ⟨N, hN⟩ : ∃ N, N = s.length := ⟨_, rfl⟩
  have hNZ : (N : Int) ≤ 1099511627775 := by omega
  have hopZ : (op : Int) ≤ 1099511627775 := by omega
  show Calls Try.prog 52 #[.agg (kc z f (.slice A s.length c) false ar fa op).toArray, .int .i64 1, .int .i64 i, bv b] w _
  rw [← hN]
  have HT := Lib.hid (And.intro hT (And.intro hl hN))
  clear hT hl hN hop
  obtain ⟨fa1, fa2⟩ := hfa
  obtain ⟨ar1, ar2⟩ := har
  go_enter Try.func52, Try.ntmps52
  go_wp2_with (first
    | (with_reducible refine wpList_boxes (o := ⟨some 4, .box 30 (.tmp 0), _, _, _, _⟩) rfl 30 (.tmp 0) rfl _ rfl (kc z f (.slice A N c) false ar fa op) rfl ?_; intro w1 hb1 m1 z1; replace z1 := Lib.hid z1)
    | (with_reducible refine wpList_boxes (o := ⟨some 7, .box 39 (.tmp 3), _, _, _, _⟩) rfl 39 (.tmp 3) rfl _ rfl (bc b) rfl ?_; intro w2 hb2 m2 z2; replace z2 := Lib.hid z2)
    | (with_reducible refine wpList_allocs (o := ⟨some 8, .alloc 30, _, _, _, _⟩) rfl 30 rfl _ zero30 ?_; intro w3 hb3 m3 z3
       obtain ⟨g4, g7, g8, h4, h7, h8, hg, e4, e7, e8, mm⟩ := ask_start hb1 m1 z1.out hb2 m2 z2.out hb3 m3 z3
       rw [← e4, ← e7, ← e8]
       have HG := Lib.hid hg
       clear e4 e7 e8 hb1 m1 z1 hb2 m2 z2 hb3 m3 z3 hg
       obtain ⟨c0, c1, c2, c3, c4, c5, c6⟩ := kc_cells h4)
    | (with_reducible refine wpList_put (o := ⟨none, .store 3 (.tmp 58) (.tmp 57), _, _, _, _⟩) rfl 3 (.tmp 58) (.tmp 57) rfl rfl g4 4 rfl (.int .i64 (ar - 1)) rfl (one_int _ _) one3 30 _ h4 (kc_lt _ _ _ _ _ _ _ (by decide)) ?_; clear h4; intro wp h4 mp; replace h4 := kc_put4 h4; clear c0 c1 c2 c3 c4 c5 c6; obtain ⟨c0, c1, c2, c3, c4, c5, c6⟩ := kc_cells h4; replace h7 := h7.keep mp (by have := HG.out; simp; omega); replace h8 := h8.keep mp (by have := HG.out; simp; omega); replace mm := mm.trans mp (by have := HG.out; intro i hi h; simp at h; omega); clear mp)
    | (with_reducible refine wpList_put (o := ⟨none, .store 3 (.tmp 62) (.tmp 61), _, _, _, _⟩) rfl 3 (.tmp 62) (.tmp 61) rfl rfl g4 6 rfl (.int .i64 ((op : Int) + 1)) rfl (one_int _ _) one3 30 _ h4 (kc_lt _ _ _ _ _ _ _ (by decide)) ?_; clear h4; intro wp h4 mp; replace h4 := kc_put6 h4; clear c0 c1 c2 c3 c4 c5 c6; obtain ⟨c0, c1, c2, c3, c4, c5, c6⟩ := kc_cells h4; replace h7 := h7.keep mp (by have := HG.out; simp; omega); replace h8 := h8.keep mp (by have := HG.out; simp; omega); replace mm := mm.trans mp (by have := HG.out; intro i hi h; simp at h; omega); clear mp))
  have hgl := h4.lt
  have hg8 := h8.lt
  have hTc : Cells wp A (s.flatMap wc) := HT.out.1.cells.keep mm (by simp)
  have hne : ∀ a, A = some a → a.block ≠ g4 := (HT.out.1.keep mm (fun _ _ => by simp)).ne h4 (by decide)
  have HA := Lib.hid (And.intro hgl (And.intro hTc (And.intro hne (And.intro h7 hg8))))
  obtain ⟨i28, hi28⟩ := info_of 28 (by kernel_rfl)
  have hs28 : i28.size = 1 := by
    have : (Try.prog.info? 28).map (·.size) = some 1 := by kernel_rfl
    rw [hi28] at this
    simpa using this
  have HI := Lib.hid (And.intro hi28 hs28)
  have hs0 : ASt wp g4 (kc z f (.slice A N c) false (ar - 1) fa ((op : Int) + 1)) (fun A' c' => kc z f (.slice A' (N + 1) c') false (ar - 1) fa ((op : Int) + 1)) s (i, b) (0, (none, 0), 0, (none, 0)) false false false false false wp.drew :=
    ⟨Mod.drew _ _, fun _ => h4.keep (Mod.drew [] wp) (by simp), (fun q => by cases q), (fun q => by cases q), (fun q => by cases q), (fun q => by cases q), (fun q => by cases q)⟩
  clear hgl hg8 hTc hne h7 hi28 hs28 h4 c0 c1 c2 c3 c4 c5 c6
  refine Rg.wp_region_lit (X := X4) (0, (none, 0), 0, (none, 0)) (fun x => [Value.agg (kc z (↑f) (Value.slice A N c) false ar fa ↑op).toArray, Value.int IntKind.i64 1, Value.int IntKind.i64 i, bv b, Value.pointer (some { block := g4, off := 0 }), undef, undef, Value.pointer (some { block := g7, off := 0 }), Value.pointer (some { block := g8, off := 0 }), Value.int IntKind.i64 0, Value.pointer (some { block := g4, off := 3 }), Value.bool false, undef, Value.int IntKind.i64 1, Value.bool true, Value.bool true, Value.int IntKind.i64 i, Value.bool (decide (i < 0)), Value.bool (decide (i < 0)), Value.int IntKind.i64 i, Value.pointer (some { block := g4, off := 0 }), Value.int IntKind.i64 z, Value.bool (decide (z ≤ i)), Value.bool (decide (i < 0) || decide (z ≤ i)), Value.bool (decide (i < 0) || decide (z ≤ i)), undef, Value.pointer (some { block := g4, off := 5 }), Value.int IntKind.i64 fa, Value.bool (fa == 0), undef, undef, Value.pointer (some { block := g4, off := 5 }), Value.int IntKind.i64 fa, Value.bool (decide (0 < fa)), undef, undef, undef, undef, Value.int IntKind.i64 1, Value.bool true, Value.bool true, Value.pointer (some { block := g4, off := 4 }), Value.int IntKind.i64 ar, Value.bool (ar == 0), Value.bool (ar == 0), undef, undef, undef, Value.int IntKind.i64 1, Value.bool true, Value.bool true, Value.pointer (some { block := g4, off := 4 }), Value.int IntKind.i64 ar, Value.bool true, Value.bool true, Value.pointer (some { block := g4, off := 4 }), Value.int IntKind.i64 ar, Value.int IntKind.i64 (ar - 1), Value.pointer (some { block := g4, off := 4 }), Value.pointer (some { block := g4, off := 6 }), Value.int IntKind.i64 ↑op, Value.int IntKind.i64 (↑op + 1), Value.pointer (some { block := g4, off := 6 }), Value.int IntKind.i64 1, Value.bool true, .slice (some ⟨x.1, 0, none⟩) 0 0, .pointer (some ⟨g4, 2, none⟩), .slice A N c, .slice x.2.1.1 N x.2.1.2, .int .i64 i, bv b, wv (i, b), .slice (some ⟨x.2.2.1, 0, none⟩) 1 1, .slice x.2.2.2.1 (N + 1) x.2.2.2.2, .pointer (some ⟨g4, 2, none⟩), undef, undef, undef, undef, undef, undef, undef]) 82 [0, 1, 2, 3, 4, 5, 6, 7, 8, 9, 10, 11, 12, 13, 14, 15, 16, 17, 18, 19, 20, 21, 22, 23, 24, 25, 26, 27, 28, 29, 30, 31, 32, 33, 34, 35, 36, 37, 38, 39, 40, 41, 42, 43, 44, 45, 46, 47, 48, 49, 50, 51, 52, 53, 54, 55, 56, 57, 58, 59, 60, 61, 62, 63, 64, 75, 76, 77, 78, 79, 80, 81]
    (fun x lz v => ASt wp g4 (kc z f (.slice A N c) false (ar - 1) fa ((op : Int) + 1)) (fun A' c' => kc z f (.slice A' (N + 1) c') false (ar - 1) fa ((op : Int) + 1)) s (i, b) x (lz 0) (lz 3) (lz 7) (lz 8) (lz 10) v) []
    (by kernel_rfl) (fun _ => rfl) rfl rfl rfl (fun _ => by simp only [List.map_cons, List.map_nil, List.getD_cons_zero, List.getD_cons_succ]) (hs0) (by kernel_rfl) (by kernel_rfl) ?step ?fin
  case step =>
    intro x lz T v j o hj hlj hdep hst hpar hgot hcl K hK
    have hjn : j < 11 := (Array.getElem?_eq_some_iff.1 hj).1
    obtain rfl | rfl | rfl | rfl | rfl | rfl | rfl | rfl | rfl | rfl | rfl : j = 0 ∨ j = 1 ∨ j = 2 ∨ j = 3 ∨ j = 4 ∨ j = 5 ∨ j = 6 ∨ j = 7 ∨ j = 8 ∨ j = 9 ∨ j = 10 := by omega
    all_goals (have hj' := Option.some.inj (hj : some _ = some o); subst hj'; clear hj)
    · exact wp_ran rfl (exec_none28 rfl) (hK (v.heap.size, x.2) _ _ (fun j' o' s' h1 h2 h3 => by
        clear hst hpar hgot hdep hcl hK
        have h4 : j' < 11 := (Array.getElem?_eq_some_iff.1 h1).1
        obtain rfl | rfl | rfl | rfl | rfl | rfl | rfl | rfl | rfl | rfl | rfl : j' = 0 ∨ j' = 1 ∨ j' = 2 ∨ j' = 3 ∨ j' = 4 ∨ j' = 5 ∨ j' = 6 ∨ j' = 7 ∨ j' = 8 ∨ j' = 9 ∨ j' = 10 := by omega
        all_goals (cases h1; cases h3 <;> first | rfl | (rw [hlj] at h2; cases h2))) (fun s hs => by cases hs; rfl) hst.made0)
    · exact wp_ran rfl (exec_field30 rfl (eval_tmp (hpar 4 (by simp)))) (hK x _ _ (fun _ _ _ _ _ _ => rfl) (fun s hs => by cases hs; rfl) hst)
    · have n3 : lz 3 = false := by
        cases hh : lz 3 with
        | false => rfl
        | true => exact absurd (hcl 3 _ rfl hh ⟨2, .data⟩ (by simp) rfl) (by rw [hlj]; simp)
      have n8 : lz 8 = false := by
        cases hh : lz 8 with
        | false => rfl
        | true => exact absurd (show lz 3 = true from hcl 8 _ rfl hh ⟨3, .data⟩ (by simp) rfl) (by rw [n3]; simp)
      have n10 : lz 10 = false := by
        cases hh : lz 10 with
        | false => rfl
        | true => exact absurd (show lz 8 = true from hcl 10 _ rfl hh ⟨8, .data⟩ (by simp) rfl) (by rw [n8]; simp)
      exact wp_ran rfl (exec_load rfl (eval_tmp (hgot 1 _ 66 rfl (hdep ⟨1, .data⟩ (by simp) rfl) rfl)) (run_load1 Try.underlying28 rfl ((hst.2.1 n10).cell 2))) (hK x _ _ (fun _ _ _ _ _ _ => rfl) (fun s hs => by cases hs; rfl) hst)
    · have n8 : lz 8 = false := by
        cases hh : lz 8 with
        | false => rfl
        | true => exact absurd (hcl 8 _ rfl hh ⟨3, .data⟩ (by simp) rfl) (by rw [hlj]; simp)
      have e0 : lz 0 = true := hdep ⟨0, .data⟩ (by simp) rfl
      have hst' := hst
      rw [e0, hlj, n8] at hst'
      obtain ⟨A', c', v', hrun, hs'⟩ := hst'.app1 HA.out.1 28 HA.out.2.1 HA.out.2.2.1 (by have := HT.out.2.1; omega)
      rw [← HT.out.2.2] at hrun
      exact wp_ran rfl (exec_append rfl (eval_tmp (hgot 0 _ 65 rfl (hdep ⟨0, .data⟩ (by simp) rfl) rfl)) (eval_tmp (hgot 2 _ 67 rfl (hdep ⟨2, .data⟩ (by simp) rfl) rfl)) hrun) (hK (x.1, (A', c'), x.2.2) _ _ (fun j' o' s' h1 h2 h3 => by
        clear hst hpar hgot hdep hcl hK
        have h4 : j' < 11 := (Array.getElem?_eq_some_iff.1 h1).1
        obtain rfl | rfl | rfl | rfl | rfl | rfl | rfl | rfl | rfl | rfl | rfl : j' = 0 ∨ j' = 1 ∨ j' = 2 ∨ j' = 3 ∨ j' = 4 ∨ j' = 5 ∨ j' = 6 ∨ j' = 7 ∨ j' = 8 ∨ j' = 9 ∨ j' = 10 := by omega
        all_goals (cases h1; cases h3 <;> first | rfl | (rw [hlj] at h2; cases h2))) (fun s hs => by cases hs; rfl) (by
        show ASt _ _ _ _ _ _ _ (lz 0) true (lz 7) (lz 8) (lz 10) _
        rw [e0, n8]
        exact hs'))
    · exact wp_ran rfl (exec_move rfl (eval_tmp (hpar 2 (by simp)))) (hK x _ _ (fun _ _ _ _ _ _ => rfl) (fun s hs => by cases hs; rfl) hst)
    · exact wp_ran rfl (exec_load rfl (eval_tmp (hpar 7 (by simp))) (run_loads (Cells.of_holds (HA.out.2.2.2.1.keep hst.1 (by have := HG.out; simp; omega))) Try.underlying39 rfl (size39' b))) (hK x _ _ (fun _ _ _ _ _ _ => rfl) (fun s hs => by cases hs; rfl) hst)
    · exact wp_ran rfl (exec_build80 rfl (eval_tmp (hgot 4 _ 69 rfl (hdep ⟨4, .data⟩ (by simp) rfl) rfl)) (eval_tmp (hgot 5 _ 70 rfl (hdep ⟨5, .data⟩ (by simp) rfl) rfl))) (hK x _ _ (fun _ _ _ _ _ _ => rfl) (fun s hs => by cases hs; rfl) hst)
    · exact wp_ran rfl (exec_lit rfl (eval_tmp (hgot 6 _ 71 rfl (hdep ⟨6, .data⟩ (by simp) rfl) rfl)) (run_lit28 (i, b) v)) (hK (x.1, x.2.1, v.heap.size, x.2.2.2) _ _ (fun j' o' s' h1 h2 h3 => by
        clear hst hpar hgot hdep hcl hK
        have h4 : j' < 11 := (Array.getElem?_eq_some_iff.1 h1).1
        obtain rfl | rfl | rfl | rfl | rfl | rfl | rfl | rfl | rfl | rfl | rfl : j' = 0 ∨ j' = 1 ∨ j' = 2 ∨ j' = 3 ∨ j' = 4 ∨ j' = 5 ∨ j' = 6 ∨ j' = 7 ∨ j' = 8 ∨ j' = 9 ∨ j' = 10 := by omega
        all_goals (cases h1; cases h3 <;> first | rfl | (rw [hlj] at h2; cases h2))) (fun s hs => by cases hs; rfl) hst.made1)
    · have n10 : lz 10 = false := by
        cases hh : lz 10 with
        | false => rfl
        | true => exact absurd (hcl 10 _ rfl hh ⟨8, .data⟩ (by simp) rfl) (by rw [hlj]; simp)
      have e3 : lz 3 = true := hdep ⟨3, .data⟩ (by simp) rfl
      have e7 : lz 7 = true := hdep ⟨7, .data⟩ (by simp) rfl
      have hst' := hst
      rw [e3, e7, hlj, n10] at hst'
      obtain ⟨A', c', v', hrun, hs'⟩ := hst'.app2 HA.out.1 28 HT.out.2.1
      rw [← HT.out.2.2] at hrun
      exact wp_ran rfl (exec_append rfl (eval_tmp (hgot 3 _ 68 rfl (hdep ⟨3, .data⟩ (by simp) rfl) rfl)) (eval_tmp (hgot 7 _ 72 rfl (hdep ⟨7, .data⟩ (by simp) rfl) rfl)) hrun) (hK (x.1, x.2.1, x.2.2.1, (A', c')) _ _ (fun j' o' s' h1 h2 h3 => by
        clear hst hpar hgot hdep hcl hK
        have h4 : j' < 11 := (Array.getElem?_eq_some_iff.1 h1).1
        obtain rfl | rfl | rfl | rfl | rfl | rfl | rfl | rfl | rfl | rfl | rfl : j' = 0 ∨ j' = 1 ∨ j' = 2 ∨ j' = 3 ∨ j' = 4 ∨ j' = 5 ∨ j' = 6 ∨ j' = 7 ∨ j' = 8 ∨ j' = 9 ∨ j' = 10 := by omega
        all_goals (cases h1; cases h3 <;> first | rfl | (rw [hlj] at h2; cases h2))) (fun s hs => by cases hs; rfl) (by
        show ASt _ _ _ _ _ _ _ (lz 0) (lz 3) (lz 7) true (lz 10) _
        rw [e3, e7, n10]
        exact hs'))
    · exact wp_ran rfl (exec_field30 rfl (eval_tmp (hpar 4 (by simp)))) (hK x _ _ (fun _ _ _ _ _ _ => rfl) (fun s hs => by cases hs; rfl) hst)
    · have e8 : lz 8 = true := hdep ⟨8, .data⟩ (by simp) rfl
      have e3 : lz 3 = true := hcl 8 _ rfl e8 ⟨3, .data⟩ (by simp) rfl
      have hst' := hst
      rw [e3, e8, hlj] at hst'
      have hg := hst.2.1 hlj
      exact wp_ran_skip rfl (exec_store1 rfl (eval_tmp (hgot 9 _ 74 rfl (hdep ⟨9, .data⟩ (by simp) rfl) rfl)) (eval_tmp (hgot 8 _ 73 rfl (hdep ⟨8, .data⟩ (by simp) rfl) rfl)) rfl HI.out.1 HI.out.2 (hg.cell 2) (hg.free 2)) (hK x _ _ (fun _ _ _ _ _ _ => rfl) (fun s hs => by cases hs) (by
        show ASt _ _ _ _ _ _ _ (lz 0) (lz 3) (lz 7) (lz 8) true _
        rw [e3, e8]
        exact hst'.stored HA.out.1 rfl))
  case fin =>
    intro x lz v hl hst
    have e8 : lz 8 = true := hl 8 (by decide)
    have e10 : lz 10 = true := hl 10 (by decide)
    have h4 := hst.2.2.2.2.2.2 e10
    obtain ⟨hO, hNw⟩ := hst.2.2.2.2.2.1 e8
    have mp := hst.1
    obtain ⟨E0, ⟨A1, c1⟩, L0, A2, c2'⟩ := x
    dsimp only at h4 hO hNw
    obtain ⟨c0, c1, c2, c3, c4, c5, c6⟩ := kc_cells h4
    replace h8 := h8.keep mp (by have := HG.out; simp; omega)
    replace mm := mm.trans mp (by have := HG.out; intro i hi h; simp at h; omega)
    clear hst hl mp e8 e10
    dsimp only
    go_wp2_with (first
      | (with_reducible refine wpList_loads (o := ⟨some 81, .load 30 (.tmp 4), _, _, _, _⟩) rfl 30 (.tmp 4) rfl g4 0 _ rfl (Cells.of_holds h4) _ Try.underlying30 rfl (kc_size _ _ _ _ _ _ _) _ rfl ?_)
      | (with_reducible refine wpList_storesAll (o := ⟨none, .store 30 (.tmp 8) (.tmp 81), _, _, _, _⟩) rfl 30 (.tmp 8) (.tmp 81) rfl rfl g8 _ rfl _ rfl rfl 30 _ h8 (kc_r0 _ _ _ _ _ _ _) (kc_one _ _ _ _ _ _ _ _ _) (kc_size _ _ _ _ _ _ _) ?_; clear h8; intro w9 h8 m9 z9; replace mm := mm.trans m9 (by have := HG.out; intro i hi h; simp at h; omega)))
    refine bodyPost_ret (results_cellb rfl _ _ g8 _ _ _ rfl rfl (Cells.of_holds h8) Try.underlying30 rfl size30) rfl ?_
    obtain ⟨_, _, hN⟩ := HT.out
    subst hN
    have hO' := hO.keep m9 (fun a ha => by have := hNw a ha; have := HA.out.2.2.2.2; simp; omega)
    exact ⟨A2, c2', by simp only [rv, rc, List.length_append, List.length_cons, List.length_nil]; rfl, hO', mm⟩

set_option maxRecDepth 100000 in
set_option maxHeartbeats 2000000 in
theorem ask1_doesnn  {z : Int} {f : Nat} {s : Story} {ar fa : Int} {op : Nat} {i : Int} {b : Blk} {A : Option Addr} {c : Nat} (w : World) (hT : Told w ⟨z, f, s, false, ar, fa, op⟩ A c) (hl : s.length < 1099511627776) (hop : op < 1099511627776) (hfa : -1 ≤ fa ∧ fa ≤ 9223372036854775807) (har : -1 ≤ ar ∧ ar ≤ 9223372036854775807) (hi0 : 0 ≤ i) (hi1 : i < z) (hf : fa < 0) (ha : ar < 0) : Calls Try.prog 52 #[rv ⟨z, f, s, false, ar, fa, op⟩ A c, .int .i64 1, .int .i64 i, bv b] w (AskPost w (RSt.ask ⟨z, f, s, false, ar, fa, op⟩ 1 i b)) := by
  have hq : RSt.ask ⟨z, f, s, false, ar, fa, op⟩ 1 i b = (⟨z, f, s ++ [(i, b)], false, ar, fa, op + 1⟩, 0) := by
    have q0 : ¬ 0 < fa := by omega
    have q1 : ¬ fa = 0 := by omega
    have q2 : ¬ 0 < ar := by omega
    have q3 : ¬ ar = 0 := by omega
    unfold RSt.ask
    simp [Int.not_lt.2 hi0, Int.not_le.2 hi1, q0, q1, q2, q3]
  rw [hq]
  clear hq
  obtain ⟨N, hN⟩ : ∃ N, N = s.length := ⟨_, rfl⟩
  have hNZ : (N : Int) ≤ 1099511627775 := by omega
  have hopZ : (op : Int) ≤ 1099511627775 := by omega
  show Calls Try.prog 52 #[.agg (kc z f (.slice A s.length c) false ar fa op).toArray, .int .i64 1, .int .i64 i, bv b] w _
  rw [← hN]
  have HT := Lib.hid (And.intro hT (And.intro hl hN))
  clear hT hl hN hop
  obtain ⟨fa1, fa2⟩ := hfa
  obtain ⟨ar1, ar2⟩ := har
  go_enter Try.func52, Try.ntmps52
  go_wp2_with (first
    | (with_reducible refine wpList_boxes (o := ⟨some 4, .box 30 (.tmp 0), _, _, _, _⟩) rfl 30 (.tmp 0) rfl _ rfl (kc z f (.slice A N c) false ar fa op) rfl ?_; intro w1 hb1 m1 z1; replace z1 := Lib.hid z1)
    | (with_reducible refine wpList_boxes (o := ⟨some 7, .box 39 (.tmp 3), _, _, _, _⟩) rfl 39 (.tmp 3) rfl _ rfl (bc b) rfl ?_; intro w2 hb2 m2 z2; replace z2 := Lib.hid z2)
    | (with_reducible refine wpList_allocs (o := ⟨some 8, .alloc 30, _, _, _, _⟩) rfl 30 rfl _ zero30 ?_; intro w3 hb3 m3 z3
       obtain ⟨g4, g7, g8, h4, h7, h8, hg, e4, e7, e8, mm⟩ := ask_start hb1 m1 z1.out hb2 m2 z2.out hb3 m3 z3
       rw [← e4, ← e7, ← e8]
       have HG := Lib.hid hg
       clear e4 e7 e8 hb1 m1 z1 hb2 m2 z2 hb3 m3 z3 hg
       obtain ⟨c0, c1, c2, c3, c4, c5, c6⟩ := kc_cells h4)
    | (with_reducible refine wpList_put (o := ⟨none, .store 3 (.tmp 62) (.tmp 61), _, _, _, _⟩) rfl 3 (.tmp 62) (.tmp 61) rfl rfl g4 6 rfl (.int .i64 ((op : Int) + 1)) rfl (one_int _ _) one3 30 _ h4 (kc_lt _ _ _ _ _ _ _ (by decide)) ?_; clear h4; intro wp h4 mp; replace h4 := kc_put6 h4; clear c0 c1 c2 c3 c4 c5 c6; obtain ⟨c0, c1, c2, c3, c4, c5, c6⟩ := kc_cells h4; replace h7 := h7.keep mp (by have := HG.out; simp; omega); replace h8 := h8.keep mp (by have := HG.out; simp; omega); replace mm := mm.trans mp (by have := HG.out; intro i hi h; simp at h; omega); clear mp))
  have hgl := h4.lt
  have hg8 := h8.lt
  have hTc : Cells wp A (s.flatMap wc) := HT.out.1.cells.keep mm (by simp)
  have hne : ∀ a, A = some a → a.block ≠ g4 := (HT.out.1.keep mm (fun _ _ => by simp)).ne h4 (by decide)
  have HA := Lib.hid (And.intro hgl (And.intro hTc (And.intro hne (And.intro h7 hg8))))
  obtain ⟨i28, hi28⟩ := info_of 28 (by kernel_rfl)
  have hs28 : i28.size = 1 := by
    have : (Try.prog.info? 28).map (·.size) = some 1 := by kernel_rfl
    rw [hi28] at this
    simpa using this
  have HI := Lib.hid (And.intro hi28 hs28)
  have hs0 : ASt wp g4 (kc z f (.slice A N c) false ar fa ((op : Int) + 1)) (fun A' c' => kc z f (.slice A' (N + 1) c') false ar fa ((op : Int) + 1)) s (i, b) (0, (none, 0), 0, (none, 0)) false false false false false wp.drew :=
    ⟨Mod.drew _ _, fun _ => h4.keep (Mod.drew [] wp) (by simp), (fun q => by cases q), (fun q => by cases q), (fun q => by cases q), (fun q => by cases q), (fun q => by cases q)⟩
  clear hgl hg8 hTc hne h7 hi28 hs28 h4 c0 c1 c2 c3 c4 c5 c6
  refine Rg.wp_region_lit (X := X4) (0, (none, 0), 0, (none, 0)) (fun x => [Value.agg (kc z (↑f) (Value.slice A N c) false ar fa ↑op).toArray, Value.int IntKind.i64 1, Value.int IntKind.i64 i, bv b, Value.pointer (some { block := g4, off := 0 }), undef, undef, Value.pointer (some { block := g7, off := 0 }), Value.pointer (some { block := g8, off := 0 }), Value.int IntKind.i64 0, Value.pointer (some { block := g4, off := 3 }), Value.bool false, undef, Value.int IntKind.i64 1, Value.bool true, Value.bool true, Value.int IntKind.i64 i, Value.bool (decide (i < 0)), Value.bool (decide (i < 0)), Value.int IntKind.i64 i, Value.pointer (some { block := g4, off := 0 }), Value.int IntKind.i64 z, Value.bool (decide (z ≤ i)), Value.bool (decide (i < 0) || decide (z ≤ i)), Value.bool (decide (i < 0) || decide (z ≤ i)), undef, Value.pointer (some { block := g4, off := 5 }), Value.int IntKind.i64 fa, Value.bool (fa == 0), undef, undef, Value.pointer (some { block := g4, off := 5 }), Value.int IntKind.i64 fa, Value.bool (decide (0 < fa)), undef, undef, undef, undef, Value.int IntKind.i64 1, Value.bool true, Value.bool true, Value.pointer (some { block := g4, off := 4 }), Value.int IntKind.i64 ar, Value.bool (ar == 0), Value.bool (ar == 0), undef, undef, undef, Value.int IntKind.i64 1, Value.bool true, Value.bool true, Value.pointer (some { block := g4, off := 4 }), Value.int IntKind.i64 ar, Value.bool (decide (0 < ar)), Value.bool (decide (0 < ar)), undef, undef, undef, undef, Value.pointer (some { block := g4, off := 6 }), Value.int IntKind.i64 ↑op, Value.int IntKind.i64 (↑op + 1), Value.pointer (some { block := g4, off := 6 }), Value.int IntKind.i64 1, Value.bool true, .slice (some ⟨x.1, 0, none⟩) 0 0, .pointer (some ⟨g4, 2, none⟩), .slice A N c, .slice x.2.1.1 N x.2.1.2, .int .i64 i, bv b, wv (i, b), .slice (some ⟨x.2.2.1, 0, none⟩) 1 1, .slice x.2.2.2.1 (N + 1) x.2.2.2.2, .pointer (some ⟨g4, 2, none⟩), undef, undef, undef, undef, undef, undef, undef]) 82 [0, 1, 2, 3, 4, 5, 6, 7, 8, 9, 10, 11, 12, 13, 14, 15, 16, 17, 18, 19, 20, 21, 22, 23, 24, 25, 26, 27, 28, 29, 30, 31, 32, 33, 34, 35, 36, 37, 38, 39, 40, 41, 42, 43, 44, 45, 46, 47, 48, 49, 50, 51, 52, 53, 54, 55, 56, 57, 58, 59, 60, 61, 62, 63, 64, 75, 76, 77, 78, 79, 80, 81]
    (fun x lz v => ASt wp g4 (kc z f (.slice A N c) false ar fa ((op : Int) + 1)) (fun A' c' => kc z f (.slice A' (N + 1) c') false ar fa ((op : Int) + 1)) s (i, b) x (lz 0) (lz 3) (lz 7) (lz 8) (lz 10) v) []
    (by kernel_rfl) (fun _ => rfl) rfl rfl rfl (fun _ => by simp only [List.map_cons, List.map_nil, List.getD_cons_zero, List.getD_cons_succ]) (hs0) (by kernel_rfl) (by kernel_rfl) ?step ?fin
  case step =>
    intro x lz T v j o hj hlj hdep hst hpar hgot hcl K hK
    have hjn : j < 11 := (Array.getElem?_eq_some_iff.1 hj).1
    obtain rfl | rfl | rfl | rfl | rfl | rfl | rfl | rfl | rfl | rfl | rfl : j = 0 ∨ j = 1 ∨ j = 2 ∨ j = 3 ∨ j = 4 ∨ j = 5 ∨ j = 6 ∨ j = 7 ∨ j = 8 ∨ j = 9 ∨ j = 10 := by omega
    all_goals (have hj' := Option.some.inj (hj : some _ = some o); subst hj'; clear hj)
    · exact wp_ran rfl (exec_none28 rfl) (hK (v.heap.size, x.2) _ _ (fun j' o' s' h1 h2 h3 => by
        clear hst hpar hgot hdep hcl hK
        have h4 : j' < 11 := (Array.getElem?_eq_some_iff.1 h1).1
        obtain rfl | rfl | rfl | rfl | rfl | rfl | rfl | rfl | rfl | rfl | rfl : j' = 0 ∨ j' = 1 ∨ j' = 2 ∨ j' = 3 ∨ j' = 4 ∨ j' = 5 ∨ j' = 6 ∨ j' = 7 ∨ j' = 8 ∨ j' = 9 ∨ j' = 10 := by omega
        all_goals (cases h1; cases h3 <;> first | rfl | (rw [hlj] at h2; cases h2))) (fun s hs => by cases hs; rfl) hst.made0)
    · exact wp_ran rfl (exec_field30 rfl (eval_tmp (hpar 4 (by simp)))) (hK x _ _ (fun _ _ _ _ _ _ => rfl) (fun s hs => by cases hs; rfl) hst)
    · have n3 : lz 3 = false := by
        cases hh : lz 3 with
        | false => rfl
        | true => exact absurd (hcl 3 _ rfl hh ⟨2, .data⟩ (by simp) rfl) (by rw [hlj]; simp)
      have n8 : lz 8 = false := by
        cases hh : lz 8 with
        | false => rfl
        | true => exact absurd (show lz 3 = true from hcl 8 _ rfl hh ⟨3, .data⟩ (by simp) rfl) (by rw [n3]; simp)
      have n10 : lz 10 = false := by
        cases hh : lz 10 with
        | false => rfl
        | true => exact absurd (show lz 8 = true from hcl 10 _ rfl hh ⟨8, .data⟩ (by simp) rfl) (by rw [n8]; simp)
      exact wp_ran rfl (exec_load rfl (eval_tmp (hgot 1 _ 66 rfl (hdep ⟨1, .data⟩ (by simp) rfl) rfl)) (run_load1 Try.underlying28 rfl ((hst.2.1 n10).cell 2))) (hK x _ _ (fun _ _ _ _ _ _ => rfl) (fun s hs => by cases hs; rfl) hst)
    · have n8 : lz 8 = false := by
        cases hh : lz 8 with
        | false => rfl
        | true => exact absurd (hcl 8 _ rfl hh ⟨3, .data⟩ (by simp) rfl) (by rw [hlj]; simp)
      have e0 : lz 0 = true := hdep ⟨0, .data⟩ (by simp) rfl
      have hst' := hst
      rw [e0, hlj, n8] at hst'
      obtain ⟨A', c', v', hrun, hs'⟩ := hst'.app1 HA.out.1 28 HA.out.2.1 HA.out.2.2.1 (by have := HT.out.2.1; omega)
      rw [← HT.out.2.2] at hrun
      exact wp_ran rfl (exec_append rfl (eval_tmp (hgot 0 _ 65 rfl (hdep ⟨0, .data⟩ (by simp) rfl) rfl)) (eval_tmp (hgot 2 _ 67 rfl (hdep ⟨2, .data⟩ (by simp) rfl) rfl)) hrun) (hK (x.1, (A', c'), x.2.2) _ _ (fun j' o' s' h1 h2 h3 => by
        clear hst hpar hgot hdep hcl hK
        have h4 : j' < 11 := (Array.getElem?_eq_some_iff.1 h1).1
        obtain rfl | rfl | rfl | rfl | rfl | rfl | rfl | rfl | rfl | rfl | rfl : j' = 0 ∨ j' = 1 ∨ j' = 2 ∨ j' = 3 ∨ j' = 4 ∨ j' = 5 ∨ j' = 6 ∨ j' = 7 ∨ j' = 8 ∨ j' = 9 ∨ j' = 10 := by omega
        all_goals (cases h1; cases h3 <;> first | rfl | (rw [hlj] at h2; cases h2))) (fun s hs => by cases hs; rfl) (by
        show ASt _ _ _ _ _ _ _ (lz 0) true (lz 7) (lz 8) (lz 10) _
        rw [e0, n8]
        exact hs'))
    · exact wp_ran rfl (exec_move rfl (eval_tmp (hpar 2 (by simp)))) (hK x _ _ (fun _ _ _ _ _ _ => rfl) (fun s hs => by cases hs; rfl) hst)
    · exact wp_ran rfl (exec_load rfl (eval_tmp (hpar 7 (by simp))) (run_loads (Cells.of_holds (HA.out.2.2.2.1.keep hst.1 (by have := HG.out; simp; omega))) Try.underlying39 rfl (size39' b))) (hK x _ _ (fun _ _ _ _ _ _ => rfl) (fun s hs => by cases hs; rfl) hst)
    · exact wp_ran rfl (exec_build80 rfl (eval_tmp (hgot 4 _ 69 rfl (hdep ⟨4, .data⟩ (by simp) rfl) rfl)) (eval_tmp (hgot 5 _ 70 rfl (hdep ⟨5, .data⟩ (by simp) rfl) rfl))) (hK x _ _ (fun _ _ _ _ _ _ => rfl) (fun s hs => by cases hs; rfl) hst)
    · exact wp_ran rfl (exec_lit rfl (eval_tmp (hgot 6 _ 71 rfl (hdep ⟨6, .data⟩ (by simp) rfl) rfl)) (run_lit28 (i, b) v)) (hK (x.1, x.2.1, v.heap.size, x.2.2.2) _ _ (fun j' o' s' h1 h2 h3 => by
        clear hst hpar hgot hdep hcl hK
        have h4 : j' < 11 := (Array.getElem?_eq_some_iff.1 h1).1
        obtain rfl | rfl | rfl | rfl | rfl | rfl | rfl | rfl | rfl | rfl | rfl : j' = 0 ∨ j' = 1 ∨ j' = 2 ∨ j' = 3 ∨ j' = 4 ∨ j' = 5 ∨ j' = 6 ∨ j' = 7 ∨ j' = 8 ∨ j' = 9 ∨ j' = 10 := by omega
        all_goals (cases h1; cases h3 <;> first | rfl | (rw [hlj] at h2; cases h2))) (fun s hs => by cases hs; rfl) hst.made1)
    · have n10 : lz 10 = false := by
        cases hh : lz 10 with
        | false => rfl
        | true => exact absurd (hcl 10 _ rfl hh ⟨8, .data⟩ (by simp) rfl) (by rw [hlj]; simp)
      have e3 : lz 3 = true := hdep ⟨3, .data⟩ (by simp) rfl
      have e7 : lz 7 = true := hdep ⟨7, .data⟩ (by simp) rfl
      have hst' := hst
      rw [e3, e7, hlj, n10] at hst'
      obtain ⟨A', c', v', hrun, hs'⟩ := hst'.app2 HA.out.1 28 HT.out.2.1
      rw [← HT.out.2.2] at hrun
      exact wp_ran rfl (exec_append rfl (eval_tmp (hgot 3 _ 68 rfl (hdep ⟨3, .data⟩ (by simp) rfl) rfl)) (eval_tmp (hgot 7 _ 72 rfl (hdep ⟨7, .data⟩ (by simp) rfl) rfl)) hrun) (hK (x.1, x.2.1, x.2.2.1, (A', c')) _ _ (fun j' o' s' h1 h2 h3 => by
        clear hst hpar hgot hdep hcl hK
        have h4 : j' < 11 := (Array.getElem?_eq_some_iff.1 h1).1
        obtain rfl | rfl | rfl | rfl | rfl | rfl | rfl | rfl | rfl | rfl | rfl : j' = 0 ∨ j' = 1 ∨ j' = 2 ∨ j' = 3 ∨ j' = 4 ∨ j' = 5 ∨ j' = 6 ∨ j' = 7 ∨ j' = 8 ∨ j' = 9 ∨ j' = 10 := by omega
        all_goals (cases h1; cases h3 <;> first | rfl | (rw [hlj] at h2; cases h2))) (fun s hs => by cases hs; rfl) (by
        show ASt _ _ _ _ _ _ _ (lz 0) (lz 3) (lz 7) true (lz 10) _
        rw [e3, e7, n10]
        exact hs'))
    · exact wp_ran rfl (exec_field30 rfl (eval_tmp (hpar 4 (by simp)))) (hK x _ _ (fun _ _ _ _ _ _ => rfl) (fun s hs => by cases hs; rfl) hst)
    · have e8 : lz 8 = true := hdep ⟨8, .data⟩ (by simp) rfl
      have e3 : lz 3 = true := hcl 8 _ rfl e8 ⟨3, .data⟩ (by simp) rfl
      have hst' := hst
      rw [e3, e8, hlj] at hst'
      have hg := hst.2.1 hlj
      exact wp_ran_skip rfl (exec_store1 rfl (eval_tmp (hgot 9 _ 74 rfl (hdep ⟨9, .data⟩ (by simp) rfl) rfl)) (eval_tmp (hgot 8 _ 73 rfl (hdep ⟨8, .data⟩ (by simp) rfl) rfl)) rfl HI.out.1 HI.out.2 (hg.cell 2) (hg.free 2)) (hK x _ _ (fun _ _ _ _ _ _ => rfl) (fun s hs => by cases hs) (by
        show ASt _ _ _ _ _ _ _ (lz 0) (lz 3) (lz 7) (lz 8) true _
        rw [e3, e8]
        exact hst'.stored HA.out.1 rfl))
  case fin =>
    intro x lz v hl hst
    have e8 : lz 8 = true := hl 8 (by decide)
    have e10 : lz 10 = true := hl 10 (by decide)
    have h4 := hst.2.2.2.2.2.2 e10
    obtain ⟨hO, hNw⟩ := hst.2.2.2.2.2.1 e8
    have mp := hst.1
    obtain ⟨E0, ⟨A1, c1⟩, L0, A2, c2'⟩ := x
    dsimp only at h4 hO hNw
    obtain ⟨c0, c1, c2, c3, c4, c5, c6⟩ := kc_cells h4
    replace h8 := h8.keep mp (by have := HG.out; simp; omega)
    replace mm := mm.trans mp (by have := HG.out; intro i hi h; simp at h; omega)
    clear hst hl mp e8 e10
    dsimp only
    go_wp2_with (first
      | (with_reducible refine wpList_loads (o := ⟨some 81, .load 30 (.tmp 4), _, _, _, _⟩) rfl 30 (.tmp 4) rfl g4 0 _ rfl (Cells.of_holds h4) _ Try.underlying30 rfl (kc_size _ _ _ _ _ _ _) _ rfl ?_)
      | (with_reducible refine wpList_storesAll (o := ⟨none, .store 30 (.tmp 8) (.tmp 81), _, _, _, _⟩) rfl 30 (.tmp 8) (.tmp 81) rfl rfl g8 _ rfl _ rfl rfl 30 _ h8 (kc_r0 _ _ _ _ _ _ _) (kc_one _ _ _ _ _ _ _ _ _) (kc_size _ _ _ _ _ _ _) ?_; clear h8; intro w9 h8 m9 z9; replace mm := mm.trans m9 (by have := HG.out; intro i hi h; simp at h; omega)))
    refine bodyPost_ret (results_cellb rfl _ _ g8 _ _ _ rfl rfl (Cells.of_holds h8) Try.underlying30 rfl size30) rfl ?_
    obtain ⟨_, _, hN⟩ := HT.out
    subst hN
    have hO' := hO.keep m9 (fun a ha => by have := hNw a ha; have := HA.out.2.2.2.2; simp; omega)
    exact ⟨A2, c2', by simp only [rv, rc, List.length_append, List.length_cons, List.length_nil]; rfl, hO', mm⟩

end Go.Proofs.Ytpdpahkhfilmpaa

