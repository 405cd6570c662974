/-
  Package merkle: a leaf's seed, a join, whether there is such a leaf. My own work.
-/
import Derived.Test.YtbacmeaeehhhfaaDoorMa
namespace Go.Proofs.YtbacmeaeehhhfaaDoor
open Go.RowKit Go.Shelf
set_option linter.unusedVariables false
def lseedI (s : Idv) (n : Nat) : Idv := digI (76 :: UInt8.ofNat n :: s.1)
def joinI (a b : Idv) : Idv := digI (78 :: (a.1 ++ b.1))
set_option maxRecDepth 100000 in
theorem run_headL (b : UInt8) (w : World) : (Instr.buildSlice 64 2 #[(0, .int .u8 76), (1, .int .u8 (b.toNat : Int))]).run Tryd.prog w = .ok (.slice (some ⟨w.heap.size, 0, none⟩) 2 2) (w.alloc (.cells ([76, b].map oct).toArray 5)) := by
  go_simp
  rfl
set_option maxRecDepth 100000 in
theorem run_headN (w : World) : (Instr.buildSlice 64 1 #[(0, .int .u8 78)]).run Tryd.prog w = .ok (.slice (some ⟨w.heap.size, 0, none⟩) 1 1) (w.alloc (.cells ([(78 : UInt8)].map oct).toArray 5)) := by
  go_simp
  rfl
theorem run_lit2 {P : Program} {t e : TypeId} {it : TypeInfo} {Z V U : Value} {cs ds : List Value} {s : Nat} (w : World) (ht : P.underlying t = some (.slice e)) (hq : P.info? e = some it) (hs : it.size = s) (h0 : 0 < s) (hb : s ≤ 1000) (hz : ∀ w, (zeroValue e).run P w = .ok Z w) (hV : V.cells = cs.toArray) (hcs : cs.length = s) (hU : U.cells = ds.toArray) (hds : ds.length = s) :
    (Instr.buildSlice t 2 #[(0, V), (1, U)]).run P w = .ok (.slice (some ⟨w.heap.size, 0, none⟩) 2 2) (w.alloc (.cells (cs ++ ds).toArray e)) := by
  have hf : ∀ z : Array Value, z.size = 2 * s → Instr.fill (fun i => some (i * s, s)) z [(0, V), (1, U)] = some (cs ++ ds).toArray := by
    rintro ⟨z⟩ hz
    have hz' : z.length = 2 * s := by simpa using hz
    rw [fill_step (off := 0) (size := s) (by simp) (by rw [hV]; simpa using hcs) (by rw [hV]; simp; omega), hV]
    have h1 := fold_set cs 0 z (by omega)
    rw [show (cs.toArray.zipIdx.foldl (fun cs (x : Value × Nat) => match x with | (c, j) => cs.setIfInBounds (0 + j) c) z.toArray) = _ from h1]
    simp only [List.take_zero, List.nil_append, Nat.zero_add]
    have hl2 : (cs ++ List.drop cs.length z).length = 2 * s := by simp; omega
    rw [fill_step (off := s) (size := s) (by simp) (by rw [hU]; simpa using hds) (by rw [hU]; simp only [List.size_toArray]; omega), hU]
    have h2 := fold_set ds s (cs ++ List.drop cs.length z) (by omega)
    rw [show (ds.toArray.zipIdx.foldl (fun cs (x : Value × Nat) => match x with | (c, j) => cs.setIfInBounds (s + j) c) (cs ++ List.drop cs.length z).toArray) = _ from h2]
    have e1 : List.take s (cs ++ List.drop cs.length z) = cs := by rw [← hcs]; exact List.take_left' rfl
    have e2 : List.drop (s + ds.length) (cs ++ List.drop cs.length z) = [] := List.drop_eq_nil_of_le (by omega)
    rw [e1, e2]
    simp [Instr.fill]
  have hf2 := hf ((Array.range (2 * s)).map (Z.cells[· % Z.cells.size]!)) (by simp)
  unfold Instr.buildSlice
  simp only [Sem.run_bind, run_underlying ht, sizeOf, typeInfo, run_program, hq, Result.andThen, Sem.run_pure, hs]
  rw [if_neg (by omega), if_neg (by omega)]
  simp only [Sem.run_bind, hz, Result.andThen, Sem.run_pure, hf2]
  simp [newRow, go_sem]
theorem run_lit33 (x y : Idv) (w : World) : (Instr.buildSlice 33 2 #[(0, iv x), (1, iv y)]).run Tryd.prog w = .ok (.slice (some ⟨w.heap.size, 0, none⟩) 2 2) (w.alloc (.cells (ic x ++ ic y).toArray 23)) := by
  cases hq : Tryd.prog.info? 23 with
  | none => exact absurd info25 (by rw [hq]; simp)
  | some it => exact run_lit2 w Tryd.underlying33 hq (by have := size25; rw [hq] at this; simpa using this) (by omega) (by omega) zeroI_25 (by rfl) (ic_length x) (by rfl) (ic_length y)
section
variable {w : World} {o : Oper} {a : Act} {x y : Operand}
theorem exec_headL {b : UInt8} (ho : o.op = .buildSlice 64 2 #[(0, .const (.int .u8 76)), (1, x)]) (hx : a.eval x = .int .u8 (b.toNat : Int)) : (execOp a.eval o).run Tryd.prog w = .ok (.value (.slice (some ⟨w.heap.size, 0, none⟩) 2 2)) (w.alloc (.cells ([76, b].map oct).toArray 5)) := by
  unfold execOp
  have hc : a.eval (.const (.int .u8 76)) = .int .u8 76 := rfl
  simp only [ho, List.map_toArray, List.map_cons, List.map_nil, hc, hx, Sem.run_bind, run_headL, Result.andThen, Sem.run_pure]
theorem exec_headN (ho : o.op = .buildSlice 64 1 #[(0, .const (.int .u8 78))]) : (execOp a.eval o).run Tryd.prog w = .ok (.value (.slice (some ⟨w.heap.size, 0, none⟩) 1 1)) (w.alloc (.cells ([(78 : UInt8)].map oct).toArray 5)) := by
  unfold execOp
  have hc : a.eval (.const (.int .u8 78)) = .int .u8 78 := rfl
  simp only [ho, List.map_toArray, List.map_cons, List.map_nil, hc, Sem.run_bind, run_headN, Result.andThen, Sem.run_pure]
theorem exec_lit33 {p q : Idv} (ho : o.op = .buildSlice 33 2 #[(0, x), (1, y)]) (hx : a.eval x = iv p) (hy : a.eval y = iv q) : (execOp a.eval o).run Tryd.prog w = .ok (.value (.slice (some ⟨w.heap.size, 0, none⟩) 2 2)) (w.alloc (.cells (ic p ++ ic q).toArray 23)) := by
  unfold execOp
  simp only [ho, List.map_toArray, List.map_cons, List.map_nil, hx, hy, Sem.run_bind, run_lit33, Result.andThen, Sem.run_pure]
end
theorem flatI_two (x y : Idv) : flatI [x, y] = x.1 ++ y.1 := by simp [flatI]
set_option maxRecDepth 100000 in
set_option maxHeartbeats 4000000 in
theorem leafSeed_c (x : Idv) (i : Nat) (hi : i < 256) (w : World) (Gl : Glob w) :
    Calls Tryd.prog 40 #[iv x, .int .i64 (i : Int)] w fun r w' => r = .returned (iv (lseedI x i)) ∧ Mod [] w w' := by
  have hw1 := u8_in i hi
  obtain ⟨d, hd⟩ : ∃ d, d = lseedI x i := ⟨_, rfl⟩
  rw [← hd]
  obtain ⟨ui, hui⟩ : ∃ u, u = UInt8.ofNat i := ⟨_, rfl⟩
  rw [← hui] at hw1
  have HD : Hid (digI ([76, ui] ++ flatI [x]) = d) := Lib.hid (by rw [hd, hui, flatI_one]; rfl)
  have HG := Lib.hid (And.intro Gl (And.intro (show (2 : Nat) = [76, ui].length from rfl) (show (1 : Nat) = [x].length from rfl)))
  clear hd Gl hui
  go_enter Tryd.func40, Tryd.ntmps40
  go_wp2_with (first
    | (with_reducible refine wpList_boxes (o := ⟨some 2, .box 23 (.tmp 0), _, _, _, _⟩) rfl 23 (.tmp 0) rfl _ rfl (ic x) rfl ?_; intro w1 hb1 m1 z1; replace z1 := Lib.hid z1)
    | (with_reducible refine wpList_allocs (o := ⟨some 4, .alloc 23, _, _, _, _⟩) rfl 23 rfl _ zeroI_25 ?_; intro w2 hb2 m2 z2; replace z2 := Lib.hid z2)
    | (with_reducible refine wpList_made (o := ⟨some 7, .buildSlice 64 2 _, _, _, _, _⟩) (by with_unfolding_all rfl) _ 5 ([76, ui].map oct) (exec_headL rfl rfl) ?_
       intro w3 hb3 m3 z3
       replace z3 := Lib.hid z3)
    | (with_reducible refine wpList_loads (o := ⟨some 8, .load 23 (.tmp 2), _, _, _, _⟩) rfl 23 (.tmp 2) rfl w.heap.size 0 _ rfl (Cells.of_holds ((hb1.keep m2 (by simp)).keep m3 (by simp))) _ Tryd.underlying23 rfl (size25i x) (iv x) rfl ?_)
    | (with_reducible refine wpList_made (o := ⟨some 9, .buildSlice 33 1 _, _, _, _, _⟩) (by with_unfolding_all rfl) _ 23 (ic x) (exec_lit22 rfl rfl) ?_
       intro w4 hb4 m4 z4
       have hlt := hb4.lt
       have X := mdigest_c (some ⟨w2.heap.size, 0, none⟩) [76, ui] 2 2 HG.out.2.1 (by decide) (some ⟨w3.heap.size, 0, none⟩) [x] 1 1 HG.out.2.2 (by decide) w4 (HG.out.1.then (((m1.then m2).then m3).then m4)) (Reads.of_holds (hb3.keep m4 (by simp))) (by simpa using Cells.of_holds hb4) (fun a ha => by cases ha; exact hlt)
       replace z4 := Lib.hid z4
       rw [HD.out] at X
       clear hlt)
    | (go_at_call 43; refine X.mono ?_; rintro e w5 ⟨rfl, m5⟩)
    | (with_reducible refine wpList_storesAll (o := ⟨none, .store 23 (.tmp 4) (.tmp 10), _, _, _, _⟩) rfl 23 (.tmp 4) (.tmp 10) rfl rfl w1.heap.size (ic d) rfl (iv d) rfl rfl 23 _ (((hb2.keep m3 (by simp)).keep m4 (by simp)).keep m5 (by simp)) (by rw [ic_length, ic_length]) (ic_one d) (size25i d) ?_
       intro w6 hb6 m6 z6))
  refine bodyPost_ret (results_cell_row rfl _ _ w1.heap.size 23 _ (0, 0) _ rfl hb6 Tryd.underlying23 rfl (by rw [List.size_toArray]; exact size25i d)) rfl ?_
  exact ⟨rfl, far_mod ((((m1.then m2).then m3).then m4).then m5) m6 (fun i hi => by simp at hi; rw [hi]; exact m1.size)⟩
set_option maxRecDepth 100000 in
set_option maxHeartbeats 4000000 in
theorem join_c (x y : Idv) (w : World) (Gl : Glob w) :
    Calls Tryd.prog 19 #[iv x, iv y] w fun r w' => r = .returned (iv (joinI x y)) ∧ Mod [] w w' := by
  obtain ⟨d, hd⟩ : ∃ d, d = joinI x y := ⟨_, rfl⟩
  rw [← hd]
  have HD : Hid (digI ([78] ++ flatI [x, y]) = d) := Lib.hid (by rw [hd, flatI_two]; rfl)
  have HG := Lib.hid (And.intro Gl (And.intro (show (1 : Nat) = [(78 : UInt8)].length from rfl) (show (2 : Nat) = [x, y].length from rfl)))
  clear hd Gl
  go_enter Tryd.func19, Tryd.ntmps19
  go_wp2_with (first
    | (with_reducible refine wpList_boxes (o := ⟨some 2, .box 23 (.tmp 0), _, _, _, _⟩) rfl 23 (.tmp 0) rfl _ rfl (ic x) rfl ?_; intro w1 hb1 m1 z1; replace z1 := Lib.hid z1)
    | (with_reducible refine wpList_boxes (o := ⟨some 3, .box 23 (.tmp 1), _, _, _, _⟩) rfl 23 (.tmp 1) rfl _ rfl (ic y) rfl ?_; intro u1 hc1 n1 y1; replace y1 := Lib.hid y1; replace hb1 := hb1.keep n1 (by simp); have mu := m1.then n1; have hs1 := mu.size)
    | (with_reducible refine wpList_allocs (o := ⟨some 4, .alloc 23, _, _, _, _⟩) rfl 23 rfl _ zeroI_25 ?_; intro w2 hb2 m2 z2; replace z2 := Lib.hid z2)
    | (with_reducible refine wpList_made (o := ⟨some 5, .buildSlice 64 1 _, _, _, _, _⟩) (by with_unfolding_all rfl) _ 5 ([(78 : UInt8)].map oct) (exec_headN rfl) ?_
       intro w3 hb3 m3 z3
       replace z3 := Lib.hid z3)
    | (with_reducible refine wpList_loads (o := ⟨some 6, .load 23 (.tmp 2), _, _, _, _⟩) rfl 23 (.tmp 2) rfl w.heap.size 0 _ rfl (Cells.of_holds ((hb1.keep m2 (by simp)).keep m3 (by simp))) _ Tryd.underlying23 rfl (size25i x) (iv x) rfl ?_)
    | (with_reducible refine wpList_loads (o := ⟨some 7, .load 23 (.tmp 3), _, _, _, _⟩) rfl 23 (.tmp 3) rfl w1.heap.size 0 _ rfl (Cells.of_holds ((hc1.keep m2 (by simp)).keep m3 (by simp))) _ Tryd.underlying23 rfl (size25i y) (iv y) rfl ?_)
    | (with_reducible refine wpList_made (o := ⟨some 8, .buildSlice 33 2 _, _, _, _, _⟩) (by with_unfolding_all rfl) _ 23 (ic x ++ ic y) (exec_lit33 rfl rfl rfl) ?_
       intro w4 hb4 m4 z4
       have hlt := hb4.lt
       have X := mdigest_c (some ⟨w2.heap.size, 0, none⟩) [78] 1 1 HG.out.2.1 (by decide) (some ⟨w3.heap.size, 0, none⟩) [x, y] 2 2 HG.out.2.2 (by decide) w4 (HG.out.1.then (((mu.then m2).then m3).then m4)) (Reads.of_holds (hb3.keep m4 (by simp))) (by simpa using Cells.of_holds hb4) (fun a ha => by cases ha; exact hlt)
       replace z4 := Lib.hid z4
       rw [HD.out] at X
       clear hlt)
    | (go_at_call 43; refine X.mono ?_; rintro e w5 ⟨rfl, m5⟩)
    | (with_reducible refine wpList_storesAll (o := ⟨none, .store 23 (.tmp 4) (.tmp 9), _, _, _, _⟩) rfl 23 (.tmp 4) (.tmp 9) rfl rfl u1.heap.size (ic d) rfl (iv d) rfl rfl 23 _ (((hb2.keep m3 (by simp)).keep m4 (by simp)).keep m5 (by simp)) (by rw [ic_length, ic_length]) (ic_one d) (size25i d) ?_
       intro w6 hb6 m6 z6))
  refine bodyPost_ret (results_cell_row rfl _ _ u1.heap.size 23 _ (0, 0) _ rfl hb6 Tryd.underlying23 rfl (by rw [List.size_toArray]; exact size25i d)) rfl ?_
  exact ⟨rfl, far_mod ((((mu.then m2).then m3).then m4).then m5) m6 (fun i hi => by simp at hi; rw [hi]; exact hs1)⟩
/-- Whether there is such a leaf. -/
def lfOk (z : Int) : Bool := decide (0 ≤ z) && decide (z < 8)
theorem isLeaf_c (z : Int) (w : World) : Calls Tryd.prog 39 #[.int .i64 z] w fun r w' => r = .returned (.bool (lfOk z)) ∧ w' = w := by
  unfold lfOk
  by_cases h1 : 0 ≤ z
  · by_cases h2 : z < 8
    · go_enter Tryd.func39, Tryd.ntmps39
      go_wp2
      go_ret
      exact ⟨by simp [h1, h2], rfl⟩
    · go_enter Tryd.func39, Tryd.ntmps39
      go_wp2
      go_ret
      exact ⟨by simp [h2], rfl⟩
  · go_enter Tryd.func39, Tryd.ntmps39
    go_wp2
    go_ret
    exact ⟨by rw [decide_eq_false (by omega : ¬ 0 ≤ z)]; rfl, rfl⟩
end Go.Proofs.YtbacmeaeehhhfaaDoor
