/-
  The document's own disk, as a value: New, Holds, Loose, Crash. Contracts of mine.
-/
import Derived.Test.YtpdpahkhfilmpaaSet
namespace Go.Proofs.Ytpdpahkhfilmpaa
open Go.RowKit
open Rg
/-- The cells of the document's disk; its story lies at A. -/
def rc (R : RSt) (A : Option Addr) (c : Nat) : List Value := [.int .i64 R.size, .int .i64 (R.firm : Int), .slice A R.story.length c, .bool R.out, .int .i64 R.arms, .int .i64 R.fails, .int .i64 (R.ops : Int)]
abbrev rv (R : RSt) (A : Option Addr) (c : Nat) : Value := .agg (rc R A c).toArray
theorem rc_length (R : RSt) (A : Option Addr) (c : Nat) : (rc R A c).length = 7 := rfl
theorem rc_one (R : RSt) (A : Option Addr) (c : Nat) : ∀ v ∈ rc R A c, v.oneCell' = true := by
  intro v hv
  simp only [rc, List.mem_cons, List.not_mem_nil, or_false] at hv
  rcases hv with rfl | rfl | rfl | rfl | rfl | rfl | rfl <;> rfl
abbrev Told (w : World) (R : RSt) (A : Option Addr) (c : Nat) : Prop := OwnG wc 80 65 w A c R.story
theorem size30 : (Try.prog.info? 30).map (·.size) = some 7 := by kernel_rfl
def r0 : List Value := [.int .i64 0, .int .i64 0, .slice none 0 0, .bool false, .int .i64 0, .int .i64 0, .int .i64 0]
theorem rc_r0 (R : RSt) (A : Option Addr) (c : Nat) : (rc R A c).length = r0.length := rfl
theorem size30_of (R : RSt) (A : Option Addr) (c : Nat) : (Try.prog.info? 30).map (·.size) = some (rc R A c).length := size30
theorem zero30 : ∀ w, (zeroValue 30).run Try.prog w = .ok (.agg r0.toArray) w := (zero_of_info (n := 7) (by kernel_rfl)).1
theorem run_rnew (n : Int) (w : World) : (Instr.build 30 #[(0, .int .i64 n), (4, .int .i64 (-1)), (5, .int .i64 (-1))]).run Try.prog w = .ok (rv (RSt.new n) none 0) w := by
  refine run_build w _ _ _ ?_
  rfl
theorem exec_rnew {v : World} {o : Oper} {ρ : Operand → Value} {x y z : Operand} {n : Int} (ho : o.op = .build 30 #[(0, x), (4, y), (5, z)]) (hx : ρ x = .int .i64 n) (hy : ρ y = .int .i64 (-1)) (hz : ρ z = .int .i64 (-1)) : (execOp ρ o).run Try.prog v = .ok (.value (rv (RSt.new n) none 0)) v := by
  unfold execOp
  simp only [ho, List.map_toArray, List.map_cons, List.map_nil, hx, hy, hz, Sem.run_bind, run_rnew, Result.andThen, Sem.run_pure]
theorem results_cellb {P : Program} {fn : Func} {q r : Tmp} {ty : TypeId} (h : fn.results = #[.cell q ty, .tmp r]) (tmps : Array Value) (w : World) (g : Nat) (cs : List Value) (y : Value) (d : TypeDesc)
    (hq : tmps[q]? = some (.pointer (some ⟨g, 0, none⟩))) (hr : tmps[r]? = some y) (hc : Cells w (some ⟨g, 0, none⟩) cs)
    (hu : P.underlying ty = some d) (hd : (match d with | .struct _ | .array _ _ => true | _ => false) = true) (hi : (P.info? ty).map (·.size) = some cs.length) :
    (results fn tmps).run P w = .ok (.tuple #[.agg cs.toArray, y]) w := by
  simp [results, h, hq, hr, asAddr, run_loads hc hu hd hi]
set_option maxRecDepth 100000 in
theorem rnew_c (n : Int) (hn : 1 ≤ n ∧ n ≤ 2048) (w : World) : Calls Try.prog 12 #[.int .i64 n] w fun e w' => e = .returned (.tuple #[rv (RSt.new n) none 0, .bool true]) ∧ Mod [] w w' := by
  obtain ⟨h1, h2⟩ := hn
  go_enter Try.func12, Try.ntmps12
  go_wp2_with (first
    | (with_reducible refine wpList_allocs (o := ⟨some 2, .alloc 30, _, _, _, _⟩) rfl 30 rfl _ zero30 ?_; intro w1 hb1 m1 z1; replace z1 := Lib.hid z1)
    | (with_reducible refine wpList_ranW (o := ⟨some 5, .build 30 _, _, _, _, _⟩) (by with_unfolding_all rfl) (rv (RSt.new n) none 0) _ (exec_rnew (n := n) rfl rfl rfl rfl) ?_)
    | (with_reducible refine wpList_storesAll (o := ⟨none, .store 30 (.tmp 2) (.tmp 5), _, _, _, _⟩) rfl 30 (.tmp 2) (.tmp 5) rfl rfl w.heap.size (rc (RSt.new n) none 0) rfl (rv (RSt.new n) none 0) rfl rfl 30 _ hb1 (rc_r0 _ _ _) (rc_one _ _ _) (size30_of _ _ _) ?_; intro w2 hb2 m2 z2))
  refine bodyPost_ret (results_cellb rfl _ _ w.heap.size (rc (RSt.new n) none 0) _ _ rfl rfl (Cells.of_holds hb2) Try.underlying30 rfl size30) rfl ?_
  exact ⟨rfl, m1.trans m2 (by intro i hi h; simp at h; omega)⟩
/-- What was met of a sector up to here. -/
def upto (l : Story) (i : Int) (k : Nat) : Blk := app (fun _ => fil 0) (l.take k) i
theorem upto_next (l : Story) (i : Int) (k : Nat) (hk : k < l.length) : upto l i (k + 1) = if l[k].1 = i then l[k].2 else upto l i k := by
  unfold upto
  rw [List.take_succ_eq_append_getElem hk, app_snoc]
  show (if i = l[k].1 then l[k].2 else app (fun _ => fil 0) (l.take k) i) = _
  by_cases h : l[k].1 = i
  · rw [if_pos h.symm, if_pos h]
  · rw [if_neg (fun e => h e.symm), if_neg h]
theorem wc_tail {w : World} {g : Nat} {t : TypeId} {i : Int} {b : Blk} (h : Holds w g t (wc (i, b))) : Cells w (some ⟨g, 1, none⟩) (bc b) :=
  Cells.of_cells fun j hj => by
    rw [h.cell (1 + j), Nat.add_comm 1 j]
    show (bc b)[j]? = _
    rw [List.getElem?_eq_getElem hj]
theorem size80' (p : Int × Blk) : (Try.prog.info? 80).map (·.size) = some (wc p).length := by rw [wc_length]; exact size80
theorem size39' (b : Blk) : (Try.prog.info? 39).map (·.size) = some (bc b).length := by rw [bc_length]; exact size39
set_option maxRecDepth 100000 in
set_option maxHeartbeats 2000000 in
theorem rholds_c (R : RSt) (A : Option Addr) (c : Nat) (i : Int) (w : World) (hR : Told w R A c) (hl : R.story.length ≤ 1099511627776) : Calls Try.prog 18 #[rv R A c, .int .i64 i] w fun e w' => e = .returned (bv (R.holds i)) ∧ Mod [] w w' := by
  obtain ⟨out, hout⟩ : ∃ out, out = R.holds i := ⟨_, rfl⟩
  rw [← hout]
  obtain ⟨N, hN⟩ : ∃ N, N = R.story.length := ⟨_, rfl⟩
  have hNZ : (N : Int) ≤ 1099511627776 := by omega
  have HR := Lib.hid (And.intro hR (And.intro hN hout))
  clear hR hl hN hout
  go_enter Try.func18, Try.ntmps18
  go_wp2_with (first
    | (with_reducible refine wpList_boxes (o := ⟨some 2, .box 30 (.tmp 0), _, _, _, _⟩) rfl 30 (.tmp 0) rfl _ rfl (rc R A c) rfl ?_; intro w1 hb1 m1 z1; replace z1 := Lib.hid z1; have c2 := hb1.cell 2; simp only [rc, List.getElem?_cons_succ, List.getElem?_cons_zero] at c2; rw [← HR.out.2.1] at c2)
    | (with_reducible refine wpList_allocs (o := ⟨some 4, .alloc 39, _, _, _, _⟩) rfl 39 rfl _ zero39 ?_; intro w2 hb2 m2 z2; replace z2 := Lib.hid z2; replace c2 := m2.cell (by simp) c2)
    | (with_reducible refine wpList_allocs (o := ⟨some 5, .alloc 39, _, _, _, _⟩) rfl 39 rfl _ zero39 ?_; intro w3 hb3 m3 z3; replace z3 := Lib.hid z3; replace c2 := m3.cell (by simp) c2))
  obtain ⟨g4, e4⟩ : ∃ b, b = w1.heap.size := ⟨_, rfl⟩
  obtain ⟨g5, e5⟩ : ∃ b, b = w2.heap.size := ⟨_, rfl⟩
  have h4 : Holds w3 g4 39 (bc (fil 0)) := by rw [e4]; exact hb2.keep m3 (by simp)
  have h5 : Holds w3 g5 39 (bc (upto R.story i 0)) := by rw [e5]; exact hb3
  have mm := (m1.then m2).then m3
  have hg : g4 < g5 ∧ w.heap.size ≤ g4 := by have := z1.out; have := z2.out; omega
  rw [← e4, ← e5]
  have HG := Lib.hid hg
  clear e4 e5 hb1 hb2 hb3 m1 m2 m3 z1 z2 z3 hg c2
  go_loopw [11] (fun sl wi => ∃ k : Nat, k ≤ N ∧ sl = .int .i64 (k : Int) ∧ Holds wi g5 39 (bc (upto R.story i k)) ∧ Holds wi g4 39 (bc (fil 0)) ∧ Mod [] w wi) (fun sl _ => N - (intOf sl).toNat)
  case atStart => exact ⟨0, by omega, rfl, h5, h4, mm⟩
  case round =>
    clear h4 h5 mm
    obtain ⟨k, hk, rfl, h5, h4, mm⟩ := hrel
    by_cases hkn : k < N
    · have hkZ : (k : Int) < (N : Int) := by omega
      have hkl : k < R.story.length := by rw [← HR.out.2.1]; exact hkn
      obtain ⟨ga, oa, rfl, hca⟩ := Cells.elem' wc 65 (by decide) wc_length (HR.out.1.cells.keep mm (by simp)) k hkl
      have hup := upto_next R.story i k hkl
      obtain ⟨⟨at', b⟩, hp⟩ : ∃ p, p = R.story[k] := ⟨_, rfl⟩
      rw [← hp] at hca hup
      obtain ⟨U0, hU0⟩ : ∃ U, U = upto R.story i k := ⟨_, rfl⟩
      obtain ⟨U1, hU1⟩ : ∃ U, U = upto R.story i (k + 1) := ⟨_, rfl⟩
      rw [← hU0] at h5 hup
      rw [← hU1] at hup
      have HU := Lib.hid (And.intro hU1 hup)
      clear hp hkl hU0 hU1 hup
      by_cases hat : at' = i
      · have hz : (at' == i) = true := by simp [hat]
        have e1 : U1 = b := by rw [HU.out.2, if_pos hat]
        have HE := Lib.hid e1
        clear e1 hat
        go_wp2_with (first
          | (with_reducible refine wpList_loads (o := ⟨some 14, .load 80 (.tmp 13), _, _, _, _⟩) rfl 80 (.tmp 13) rfl ga (oa + k * 65) _ rfl hca _ Try.underlying80 rfl (size80' _) (.agg (wc (at', b)).toArray) rfl ?_)
          | (with_reducible refine wpList_allocs (o := ⟨some 7, .alloc 80, _, _, _, _⟩) rfl 80 rfl _ zero80 ?_; intro w7 hb7 m7 z7; replace z7 := Lib.hid z7)
          | (with_reducible refine wpList_storesAll (o := ⟨none, .store 80 (.tmp 7) (.tmp 14), _, _, _, _⟩) rfl 80 (.tmp 7) (.tmp 14) rfl rfl wr.heap.size (wc (at', b)) rfl (.agg (wc (at', b)).toArray) rfl rfl 80 _ hb7 (by rw [wc_length, wc_length]) (wc_one _) (size80' _) ?_; intro w8 hb8 m8 z8; replace z8 := Lib.hid z8
             have mx : Mod [] wr w8 := m7.trans m8 (fun i hi h => by simp at h; omega)
             replace h5 := h5.keep mx (by simp)
             replace h4 := h4.keep mx (by simp)
             replace mm := mm.then mx
             have c0 := hb8.cell 0
             simp only [wc, List.getElem?_cons_zero] at c0
             have ct := wc_tail hb8
             clear mx hb7 m7 m8 z7 z8 hca)
          | (with_reducible refine wpList_loads (o := ⟨some 20, .load 39 (.tmp 19), _, _, _, _⟩) rfl 39 (.tmp 19) rfl wr.heap.size 1 _ rfl ct _ Try.underlying39 rfl (size39' _) (bv b) rfl ?_)
          | (with_reducible refine wpList_storesAll (o := ⟨none, .store 39 (.tmp 5) (.tmp 20), _, _, _, _⟩) rfl 39 (.tmp 5) (.tmp 20) rfl rfl g5 (bc b) rfl (bv b) rfl rfl 39 _ h5 (by rw [bc_length, bc_length]) (bc_one _) (size39' _) ?_; intro w9 h9 m9 z9; replace z9 := Lib.hid z9))
        have hk1 : k + 1 ≤ N := hkn
        exact ⟨⟨k + 1, hk1, by go_num, by rw [← HU.out.1, HE.out]; exact h9, h4.keep m9 (by have := HG.out; simp; omega), mm.trans m9 (by have := HG.out; intro i hi h; simp at h; omega)⟩, by simp [intOf]; omega⟩
      · have hz : (at' == i) = false := by simp [hat]
        have e1 : U1 = U0 := by rw [HU.out.2, if_neg hat]
        have HE := Lib.hid e1
        clear e1 hat
        go_wp2_with (first
          | (with_reducible refine wpList_loads (o := ⟨some 14, .load 80 (.tmp 13), _, _, _, _⟩) rfl 80 (.tmp 13) rfl ga (oa + k * 65) _ rfl hca _ Try.underlying80 rfl (size80' _) (.agg (wc (at', b)).toArray) rfl ?_)
          | (with_reducible refine wpList_allocs (o := ⟨some 7, .alloc 80, _, _, _, _⟩) rfl 80 rfl _ zero80 ?_; intro w7 hb7 m7 z7; replace z7 := Lib.hid z7)
          | (with_reducible refine wpList_storesAll (o := ⟨none, .store 80 (.tmp 7) (.tmp 14), _, _, _, _⟩) rfl 80 (.tmp 7) (.tmp 14) rfl rfl wr.heap.size (wc (at', b)) rfl (.agg (wc (at', b)).toArray) rfl rfl 80 _ hb7 (by rw [wc_length, wc_length]) (wc_one _) (size80' _) ?_; intro w8 hb8 m8 z8; replace z8 := Lib.hid z8
             have mx : Mod [] wr w8 := m7.trans m8 (fun i hi h => by simp at h; omega)
             replace h5 := h5.keep mx (by simp)
             replace h4 := h4.keep mx (by simp)
             replace mm := mm.then mx
             have c0 := hb8.cell 0
             simp only [wc, List.getElem?_cons_zero] at c0
             clear mx hb7 m7 m8 z7 z8 hca))
        have hk1 : k + 1 ≤ N := hkn
        exact ⟨⟨k + 1, hk1, by go_num, by rw [← HU.out.1, HE.out]; exact h5, h4, mm⟩, by simp [intOf]; omega⟩
    · obtain rfl : N = k := by omega
      have e1 : upto R.story i N = out := by rw [HR.out.2.2]; unfold upto RSt.holds; rw [List.take_of_length_le (by rw [← HR.out.2.1]; exact Nat.le_refl _)]
      rw [e1] at h5
      clear e1 hkn hk
      go_wp2_with (first
        | (with_reducible refine wpList_loads (o := ⟨some 22, .load 39 (.tmp 5), _, _, _, _⟩) rfl 39 (.tmp 5) rfl g5 0 _ rfl (Cells.of_holds h5) _ Try.underlying39 rfl (size39' _) (bv out) rfl ?_)
        | (with_reducible refine wpList_storesAll (o := ⟨none, .store 39 (.tmp 4) (.tmp 22), _, _, _, _⟩) rfl 39 (.tmp 4) (.tmp 22) rfl rfl g4 (bc out) rfl (bv out) rfl rfl 39 _ h4 (by rw [bc_length, bc_length]) (bc_one _) (size39' _) ?_; intro w9 h9 m9 z9; replace z9 := Lib.hid z9))
      refine bodyPost_ret (results_cell_row rfl _ _ g4 39 _ (0, 0) _ rfl h9 Try.underlying39 rfl (by rw [List.size_toArray]; exact size39' _)) rfl ?_
      exact ⟨rfl, mm.trans m9 (by have := HG.out; intro i hi h; simp at h; omega)⟩
end Go.Proofs.Ytpdpahkhfilmpaa
