/-
  Package wots: a step, a start, a key of ends; and the statements' own. My own work.
-/
import Derived.Test.YtdolihecjomjiaaDoorWb
namespace Go.Proofs.YtdolihecjomjiaaDoor
open Go.RowKit Go.Shelf
def stepI (i n : Nat) (x : Idv) : Idv := digI (67 :: UInt8.ofNat i :: UInt8.ofNat n :: x.1)
def startI (i : Nat) (s : Idv) : Idv := digI (83 :: UInt8.ofNat i :: s.1)
def endsI (l : List Idv) : Idv := digI (75 :: flatI l)
theorem flatI_one (x : Idv) : flatI [x] = x.1 := by simp [flatI]
theorem info25 : (Tryd.prog.info? 25).isSome = true := by kernel_rfl
theorem run_lit22 (x : Idv) (w : World) : (Instr.buildSlice 22 1 #[(0, iv x)]).run Tryd.prog w = .ok (.slice (some ⟨w.heap.size, 0, none⟩) 1 1) (w.alloc (.cells (ic x).toArray 25)) := by
  cases hq : Tryd.prog.info? 25 with
  | none => exact absurd info25 (by rw [hq]; simp)
  | some it => exact run_lit1 w Tryd.underlying22 hq (by have := size25; rw [hq] at this; simpa using this) (by omega) (by omega) zeroI_25 (by rfl) (ic_length x)
theorem u8_in (i : Nat) (h : i < 256) : IntKind.u8.wrap (i : Int) = ((UInt8.ofNat i).toNat : Int) := by
  have : (UInt8.ofNat i).toNat = i := by simp; omega
  rw [this]
  simp [IntKind.wrap, IntKind.bits, IntKind.signed]
  omega
theorem run_head3 (b c : UInt8) (w : World) : (Instr.buildSlice 58 3 #[(0, .int .u8 67), (1, .int .u8 (b.toNat : Int)), (2, .int .u8 (c.toNat : Int))]).run Tryd.prog w = .ok (.slice (some ⟨w.heap.size, 0, none⟩) 3 3) (w.alloc (.cells ([67, b, c].map oct).toArray 5)) := by
  go_simp
  rfl
theorem run_head2 (b : UInt8) (w : World) : (Instr.buildSlice 58 2 #[(0, .int .u8 83), (1, .int .u8 (b.toNat : Int))]).run Tryd.prog w = .ok (.slice (some ⟨w.heap.size, 0, none⟩) 2 2) (w.alloc (.cells ([83, b].map oct).toArray 5)) := by
  go_simp
  rfl
theorem run_head1 (w : World) : (Instr.buildSlice 58 1 #[(0, .int .u8 75)]).run Tryd.prog w = .ok (.slice (some ⟨w.heap.size, 0, none⟩) 1 1) (w.alloc (.cells ([(75 : UInt8)].map oct).toArray 5)) := by
  go_simp
  rfl
/-- An operation that makes a block. -/
theorem wpList_made {P : Program} {w : World} {ops : Array Oper} {rest : List Oper} {o : Oper} {a : Act} {Q : Exit → Act → World → Prop} (hw : Region.wanted o (yielded ops a.tmps) = true) (V : Value) (t : TypeId) (cs : List Value) (hrun : (execOp a.eval o).run P w = .ok (.value V) (w.alloc (.cells cs.toArray t)))
    (h : ∀ v, Holds v w.heap.size t cs → Mod [] w v → v.heap.size = w.heap.size + 1 → wpList P ops Q rest (a.put o.dst V) v) : wpList P ops Q (o :: rest) a w :=
  wpList_ranW hw V _ hrun (h _ (Holds.made w t cs) (Mod.alloc [] w _) (by simp))
section
variable {a : Act} {o : Oper} {w : World} {x y : Operand}
theorem exec_head3 {b c : UInt8} (ho : o.op = .buildSlice 58 3 #[(0, .const (.int .u8 67)), (1, x), (2, y)]) (hx : a.eval x = .int .u8 (b.toNat : Int)) (hy : a.eval y = .int .u8 (c.toNat : Int)) : (execOp a.eval o).run Tryd.prog w = .ok (.value (.slice (some ⟨w.heap.size, 0, none⟩) 3 3)) (w.alloc (.cells ([67, b, c].map oct).toArray 5)) := by
  unfold execOp
  have hc : a.eval (.const (.int .u8 67)) = .int .u8 67 := rfl
  simp only [ho, List.map_toArray, List.map_cons, List.map_nil, hc, hx, hy, Sem.run_bind, run_head3, Result.andThen, Sem.run_pure]
theorem exec_head2 {b : UInt8} (ho : o.op = .buildSlice 58 2 #[(0, .const (.int .u8 83)), (1, x)]) (hx : a.eval x = .int .u8 (b.toNat : Int)) : (execOp a.eval o).run Tryd.prog w = .ok (.value (.slice (some ⟨w.heap.size, 0, none⟩) 2 2)) (w.alloc (.cells ([83, b].map oct).toArray 5)) := by
  unfold execOp
  have hc : a.eval (.const (.int .u8 83)) = .int .u8 83 := rfl
  simp only [ho, List.map_toArray, List.map_cons, List.map_nil, hc, hx, Sem.run_bind, run_head2, Result.andThen, Sem.run_pure]
theorem exec_head1 (ho : o.op = .buildSlice 58 1 #[(0, .const (.int .u8 75))]) : (execOp a.eval o).run Tryd.prog w = .ok (.value (.slice (some ⟨w.heap.size, 0, none⟩) 1 1)) (w.alloc (.cells ([(75 : UInt8)].map oct).toArray 5)) := by
  unfold execOp
  have hc : a.eval (.const (.int .u8 75)) = .int .u8 75 := rfl
  simp only [ho, List.map_toArray, List.map_cons, List.map_nil, hc, Sem.run_bind, run_head1, Result.andThen, Sem.run_pure]
theorem exec_lit22 {p : Idv} (ho : o.op = .buildSlice 22 1 #[(0, x)]) (hx : a.eval x = iv p) : (execOp a.eval o).run Tryd.prog w = .ok (.value (.slice (some ⟨w.heap.size, 0, none⟩) 1 1)) (w.alloc (.cells (ic p).toArray 25)) := by
  unfold execOp
  simp only [ho, List.map_toArray, List.map_cons, List.map_nil, hx, Sem.run_bind, run_lit22, Result.andThen, Sem.run_pure]
end
set_option maxRecDepth 100000 in
set_option maxHeartbeats 4000000 in
theorem stepped_c (x : Idv) (i n : Nat) (hi : i < 256) (hn : n < 256) (w : World) (Gl : Glob w) :
    Calls Tryd.prog 30 #[iv x, .int .i64 (i : Int), .int .i64 (n : Int)] w fun r w' => r = .returned (iv (stepI i n x)) ∧ Mod [] w w' := by
  have hw1 := u8_in i hi
  have hw2 := u8_in n hn
  obtain ⟨d, hd⟩ : ∃ d, d = stepI i n x := ⟨_, rfl⟩
  rw [← hd]
  obtain ⟨ui, hui⟩ : ∃ u, u = UInt8.ofNat i := ⟨_, rfl⟩
  obtain ⟨un, hun⟩ : ∃ u, u = UInt8.ofNat n := ⟨_, rfl⟩
  rw [← hui] at hw1
  rw [← hun] at hw2
  have HD : Hid (digI ([67, ui, un] ++ flatI [x]) = d) := Lib.hid (by rw [hd, hui, hun, flatI_one]; rfl)
  have HG := Lib.hid (And.intro Gl (And.intro (show (3 : Nat) = [67, ui, un].length from rfl) (show (1 : Nat) = [x].length from rfl)))
  clear hd Gl hui hun
  go_enter Tryd.func30, Tryd.ntmps30
  go_wp2_with (first
    | (with_reducible refine wpList_boxes (o := ⟨some 3, .box 25 (.tmp 0), _, _, _, _⟩) rfl 25 (.tmp 0) rfl _ rfl (ic x) rfl ?_; intro w1 hb1 m1 z1; replace z1 := Lib.hid z1)
    | (with_reducible refine wpList_allocs (o := ⟨some 6, .alloc 25, _, _, _, _⟩) rfl 25 rfl _ zeroI_25 ?_; intro w2 hb2 m2 z2; replace z2 := Lib.hid z2)
    | (with_reducible refine wpList_made (o := ⟨some 11, .buildSlice 58 3 _, _, _, _, _⟩) (by with_unfolding_all rfl) _ 5 ([67, ui, un].map oct) (exec_head3 rfl rfl rfl) ?_
       intro w3 hb3 m3 z3
       replace z3 := Lib.hid z3)
    | (with_reducible refine wpList_loads (o := ⟨some 12, .load 25 (.tmp 3), _, _, _, _⟩) rfl 25 (.tmp 3) rfl w.heap.size 0 _ rfl (Cells.of_holds ((hb1.keep m2 (by simp)).keep m3 (by simp))) _ Tryd.underlying25 rfl (size25i x) (iv x) rfl ?_)
    | (with_reducible refine wpList_made (o := ⟨some 13, .buildSlice 22 1 _, _, _, _, _⟩) (by with_unfolding_all rfl) _ 25 (ic x) (exec_lit22 rfl rfl) ?_
       intro w4 hb4 m4 z4
       replace z4 := Lib.hid z4
       have X := digest_c (some ⟨w2.heap.size, 0, none⟩) [67, ui, un] 3 3 HG.out.2.1 (by decide) (some ⟨w3.heap.size, 0, none⟩) [x] 1 1 HG.out.2.2 (by decide) w4 (HG.out.1.then (((m1.then m2).then m3).then m4)) (Reads.of_holds (hb3.keep m4 (by simp))) (by simpa using Cells.of_holds hb4)
       rw [HD.out] at X)
    | (go_at_call 36; refine X.mono ?_; rintro e w5 ⟨rfl, m5⟩)
    | (with_reducible refine wpList_storesAll (o := ⟨none, .store 25 (.tmp 6) (.tmp 14), _, _, _, _⟩) rfl 25 (.tmp 6) (.tmp 14) rfl rfl w1.heap.size (ic d) rfl (iv d) rfl rfl 25 _ (((hb2.keep m3 (by simp)).keep m4 (by simp)).keep m5 (by simp)) (by rw [ic_length, ic_length]) (ic_one d) (size25i d) ?_
       intro w6 hb6 m6 z6))
  refine bodyPost_ret (results_cell_row rfl _ _ w1.heap.size 25 _ (0, 0) _ rfl hb6 Tryd.underlying25 rfl (by rw [List.size_toArray]; exact size25i d)) rfl ?_
  exact ⟨rfl, far_mod ((((m1.then m2).then m3).then m4).then m5) m6 (fun i hi => by simp at hi; rw [hi]; exact m1.size)⟩
set_option maxRecDepth 100000 in
set_option maxHeartbeats 4000000 in
theorem started_c (x : Idv) (i : Nat) (hi : i < 256) (w : World) (Gl : Glob w) :
    Calls Tryd.prog 29 #[iv x, .int .i64 (i : Int)] w fun r w' => r = .returned (iv (startI i x)) ∧ Mod [] w w' := by
  have hw1 := u8_in i hi
  obtain ⟨d, hd⟩ : ∃ d, d = startI i x := ⟨_, rfl⟩
  rw [← hd]
  obtain ⟨ui, hui⟩ : ∃ u, u = UInt8.ofNat i := ⟨_, rfl⟩
  rw [← hui] at hw1
  have HD : Hid (digI ([83, ui] ++ flatI [x]) = d) := Lib.hid (by rw [hd, hui, flatI_one]; rfl)
  have HG := Lib.hid (And.intro Gl (And.intro (show (2 : Nat) = [83, ui].length from rfl) (show (1 : Nat) = [x].length from rfl)))
  clear hd Gl hui
  go_enter Tryd.func29, Tryd.ntmps29
  go_wp2_with (first
    | (with_reducible refine wpList_boxes (o := ⟨some 2, .box 25 (.tmp 0), _, _, _, _⟩) rfl 25 (.tmp 0) rfl _ rfl (ic x) rfl ?_; intro w1 hb1 m1 z1; replace z1 := Lib.hid z1)
    | (with_reducible refine wpList_allocs (o := ⟨some 4, .alloc 25, _, _, _, _⟩) rfl 25 rfl _ zeroI_25 ?_; intro w2 hb2 m2 z2; replace z2 := Lib.hid z2)
    | (with_reducible refine wpList_made (o := ⟨some 7, .buildSlice 58 2 _, _, _, _, _⟩) (by with_unfolding_all rfl) _ 5 ([83, ui].map oct) (exec_head2 rfl rfl) ?_
       intro w3 hb3 m3 z3
       replace z3 := Lib.hid z3)
    | (with_reducible refine wpList_loads (o := ⟨some 8, .load 25 (.tmp 2), _, _, _, _⟩) rfl 25 (.tmp 2) rfl w.heap.size 0 _ rfl (Cells.of_holds ((hb1.keep m2 (by simp)).keep m3 (by simp))) _ Tryd.underlying25 rfl (size25i x) (iv x) rfl ?_)
    | (with_reducible refine wpList_made (o := ⟨some 9, .buildSlice 22 1 _, _, _, _, _⟩) (by with_unfolding_all rfl) _ 25 (ic x) (exec_lit22 rfl rfl) ?_
       intro w4 hb4 m4 z4
       replace z4 := Lib.hid z4
       have X := digest_c (some ⟨w2.heap.size, 0, none⟩) [83, ui] 2 2 HG.out.2.1 (by decide) (some ⟨w3.heap.size, 0, none⟩) [x] 1 1 HG.out.2.2 (by decide) w4 (HG.out.1.then (((m1.then m2).then m3).then m4)) (Reads.of_holds (hb3.keep m4 (by simp))) (by simpa using Cells.of_holds hb4)
       rw [HD.out] at X)
    | (go_at_call 36; refine X.mono ?_; rintro e w5 ⟨rfl, m5⟩)
    | (with_reducible refine wpList_storesAll (o := ⟨none, .store 25 (.tmp 4) (.tmp 10), _, _, _, _⟩) rfl 25 (.tmp 4) (.tmp 10) rfl rfl w1.heap.size (ic d) rfl (iv d) rfl rfl 25 _ (((hb2.keep m3 (by simp)).keep m4 (by simp)).keep m5 (by simp)) (by rw [ic_length, ic_length]) (ic_one d) (size25i d) ?_
       intro w6 hb6 m6 z6))
  refine bodyPost_ret (results_cell_row rfl _ _ w1.heap.size 25 _ (0, 0) _ rfl hb6 Tryd.underlying25 rfl (by rw [List.size_toArray]; exact size25i d)) rfl ?_
  exact ⟨rfl, far_mod ((((m1.then m2).then m3).then m4).then m5) m6 (fun i hi => by simp at hi; rw [hi]; exact m1.size)⟩
set_option maxRecDepth 100000 in
set_option maxHeartbeats 4000000 in
theorem keyOf_c (A : Option Addr) (l : List Idv) (n c : Nat) (hn : n = l.length) (hl : n ≤ 100) (w : World) (Gl : Glob w) (RA : Cells w A (l.flatMap ic)) :
    Calls Tryd.prog 35 #[.slice A n c] w fun r w' => r = .returned (iv (endsI l)) ∧ Mod [] w w' := by
  obtain ⟨d, hd⟩ : ∃ d, d = endsI l := ⟨_, rfl⟩
  rw [← hd]
  have HD : Hid (digI ([75] ++ flatI l) = d) := Lib.hid (by rw [hd]; rfl)
  have HG := Lib.hid (And.intro Gl (And.intro (show (1 : Nat) = [(75 : UInt8)].length from rfl) (And.intro hn (And.intro hl RA))))
  clear hd Gl hn hl RA
  go_enter Tryd.func35, Tryd.ntmps35
  go_wp2_with (first
    | (with_reducible refine wpList_allocs (o := ⟨some 2, .alloc 25, _, _, _, _⟩) rfl 25 rfl _ zeroI_25 ?_; intro w2 hb2 m2 z2; replace z2 := Lib.hid z2)
    | (with_reducible refine wpList_made (o := ⟨some 3, .buildSlice 58 1 _, _, _, _, _⟩) (by with_unfolding_all rfl) _ 5 ([75].map oct) (exec_head1 rfl) ?_
       intro w3 hb3 m3 z3
       replace z3 := Lib.hid z3
       have X := digest_c (some ⟨w2.heap.size, 0, none⟩) [75] 1 1 HG.out.2.1 (by decide) A l n c HG.out.2.2.1 HG.out.2.2.2.1 w3 (HG.out.1.then (m2.then m3)) (Reads.of_holds hb3) (HG.out.2.2.2.2.keep (m2.then m3) (by simp))
       rw [HD.out] at X)
    | (go_at_call 36; refine X.mono ?_; rintro e w5 ⟨rfl, m5⟩)
    | (with_reducible refine wpList_storesAll (o := ⟨none, .store 25 (.tmp 2) (.tmp 5), _, _, _, _⟩) rfl 25 (.tmp 2) (.tmp 5) rfl rfl w.heap.size (ic d) rfl (iv d) rfl rfl 25 _ ((hb2.keep m3 (by simp)).keep m5 (by simp)) (by rw [ic_length, ic_length]) (ic_one d) (size25i d) ?_
       intro w6 hb6 m6 z6))
  refine bodyPost_ret (results_cell_row rfl _ _ w.heap.size 25 _ (0, 0) _ rfl hb6 Tryd.underlying25 rfl (by rw [List.size_toArray]; exact size25i d)) rfl ?_
  exact ⟨rfl, far_mod ((m2.then m3).then m5) m6 (fun i hi => by simp at hi; rw [hi]; exact Nat.le_refl _)⟩
set_option maxRecDepth 100000 in
set_option maxHeartbeats 4000000 in
theorem lstart_c (x : Idv) (i : Nat) (hi : i < 256) (w : World) (Gl : Glob w) :
    Calls Tryd.prog 16 #[iv x, .int .i64 (i : Int)] w fun r w' => r = .returned (iv (startI i x)) ∧ Mod [] w w' := by
  have hw1 := u8_in i hi
  obtain ⟨d, hd⟩ : ∃ d, d = startI i x := ⟨_, rfl⟩
  rw [← hd]
  obtain ⟨ui, hui⟩ : ∃ u, u = UInt8.ofNat i := ⟨_, rfl⟩
  rw [← hui] at hw1
  obtain ⟨L, hL⟩ : ∃ L : List UInt8, L = [83, ui] ++ x.1 := ⟨_, rfl⟩
  have HD : Hid (digI L = d) := Lib.hid (by rw [hd, hL, hui]; rfl)
  obtain ⟨i0, hi0, hz0, hz1, hz2⟩ := info_parts u8_zero
  have HI := Lib.hid (And.intro hi0 (And.intro hz0 (And.intro hz1 hz2)))
  have HG := Lib.hid (And.intro Gl (And.intro hL (And.intro x.2 (show L.length = 34 by rw [hL, List.length_append, x.2]; rfl))))
  clear hd Gl hui hL hi0 hz0 hz1 hz2
  go_enter Tryd.func16, Tryd.ntmps16
  go_wp2_with (first
    | (with_reducible refine wpList_boxes (o := ⟨some 2, .box 25 (.tmp 0), _, _, _, _⟩) rfl 25 (.tmp 0) rfl _ rfl (ic x) rfl ?_; intro w1 hb1 m1 z1; replace z1 := Lib.hid z1)
    | (with_reducible refine wpList_allocs (o := ⟨some 4, .alloc 25, _, _, _, _⟩) rfl 25 rfl _ zeroI_25 ?_; intro w2 hb2 m2 z2; replace z2 := Lib.hid z2)
    | (with_reducible refine wpList_made (o := ⟨some 7, .buildSlice 58 2 _, _, _, _, _⟩) (by with_unfolding_all rfl) _ 5 ([83, ui].map oct) (exec_head2 rfl rfl) ?_
       intro w3 hb3 m3 z3
       have hO := Owns.of_holds (B := w2.heap.size) hb3 (Nat.le_refl _) (by simp [maxLen])
       replace z3 := Lib.hid z3)
    | (refine wpList_appends w3 (o := ⟨some 9, _, _, _, _, _⟩) rfl (.tmp 7) (.tmp 8) 58 rfl 5 i0 (.int .u8 0) 1 Tryd.underlying58 HI.out.1 HI.out.2.1 HI.out.2.2.1 HI.out.2.2.2 rfl w2.heap.size m3.size (some ⟨w2.heap.size, 0, none⟩) 2 2 [83, ui] rfl rfl hO (some ⟨w.heap.size, 0, none⟩) 32 32 x.1 rfl HG.out.2.2.1.symm (Reads.of_holds ((hb1.keep m2 (by simp)).keep m3 (by simp))) (by rw [HG.out.2.2.1]; simp) (by rw [HG.out.2.2.1]; simp [maxLen]) ?_
       intro A' c' w4 hO4 m4 q4
       rw [← HG.out.2.1] at hO4 ⊢
       have hbl : ∀ i ∈ blk (some ⟨w2.heap.size, 0, none⟩), i = w2.heap.size := fun i hi => by simpa [blk] using hi
       have mm := far_mod ((m1.then m2).then m3) m4 (fun i hi => by rw [hbl i hi]; exact (m1.then m2).size)
       have X := sumI A' L L.length c' rfl hO4.fits.1 (by rw [HG.out.2.2.2]; decide) w4 (HG.out.1.then mm) hO4.reads
       rw [HD.out] at X
       obtain ⟨N, hN⟩ : ∃ N, N = L.length := ⟨_, rfl⟩
       rw [← hN] at X ⊢
       replace hN := Lib.hid hN
       have hb4 := (hb2.keep m3 (by simp)).keep m4 (fun hi => by have h1 := hbl _ hi; have := z2.out; omega)
       clear hO4 q4 hbl)
    | (go_at_call 32; refine X.mono ?_; rintro e w5 ⟨rfl, m5⟩)
    | (with_reducible refine wpList_storesAll (o := ⟨none, .store 25 (.tmp 4) (.tmp 10), _, _, _, _⟩) rfl 25 (.tmp 4) (.tmp 10) rfl rfl w1.heap.size (ic d) rfl (iv d) rfl rfl 25 _ (hb4.keep m5 (by simp)) (by rw [ic_length, ic_length]) (ic_one d) (size25i d) ?_
       intro w6 hb6 m6 z6))
  refine bodyPost_ret (results_cell_row rfl _ _ w1.heap.size 25 _ (0, 0) _ rfl hb6 Tryd.underlying25 rfl (by rw [List.size_toArray]; exact size25i d)) rfl ?_
  exact ⟨rfl, far_mod (mm.then m5) m6 (fun i hi => by simp at hi; rw [hi]; exact m1.size)⟩
set_option maxRecDepth 100000 in
set_option maxHeartbeats 4000000 in
theorem lstep_c (x : Idv) (i n : Nat) (hi : i < 256) (hn : n < 256) (w : World) (Gl : Glob w) :
    Calls Tryd.prog 17 #[iv x, .int .i64 (i : Int), .int .i64 (n : Int)] w fun r w' => r = .returned (iv (stepI i n x)) ∧ Mod [] w w' := by
  have hw1 := u8_in i hi
  obtain ⟨d, hd⟩ : ∃ d, d = stepI i n x := ⟨_, rfl⟩
  rw [← hd]
  obtain ⟨ui, hui⟩ : ∃ u, u = UInt8.ofNat i := ⟨_, rfl⟩
  rw [← hui] at hw1
  have hw2 := u8_in n hn
  obtain ⟨un, hun⟩ : ∃ u, u = UInt8.ofNat n := ⟨_, rfl⟩
  rw [← hun] at hw2
  obtain ⟨L, hL⟩ : ∃ L : List UInt8, L = [67, ui, un] ++ x.1 := ⟨_, rfl⟩
  have HD : Hid (digI L = d) := Lib.hid (by rw [hd, hL, hui, hun]; rfl)
  obtain ⟨i0, hi0, hz0, hz1, hz2⟩ := info_parts u8_zero
  have HI := Lib.hid (And.intro hi0 (And.intro hz0 (And.intro hz1 hz2)))
  have HG := Lib.hid (And.intro Gl (And.intro hL (And.intro x.2 (show L.length = 35 by rw [hL, List.length_append, x.2]; rfl))))
  clear hd Gl hui hun hL hi0 hz0 hz1 hz2
  go_enter Tryd.func17, Tryd.ntmps17
  go_wp2_with (first
    | (with_reducible refine wpList_boxes (o := ⟨some 3, .box 25 (.tmp 0), _, _, _, _⟩) rfl 25 (.tmp 0) rfl _ rfl (ic x) rfl ?_; intro w1 hb1 m1 z1; replace z1 := Lib.hid z1)
    | (with_reducible refine wpList_allocs (o := ⟨some 6, .alloc 25, _, _, _, _⟩) rfl 25 rfl _ zeroI_25 ?_; intro w2 hb2 m2 z2; replace z2 := Lib.hid z2)
    | (with_reducible refine wpList_made (o := ⟨some 11, .buildSlice 58 3 _, _, _, _, _⟩) (by with_unfolding_all rfl) _ 5 ([67, ui, un].map oct) (exec_head3 rfl rfl rfl) ?_
       intro w3 hb3 m3 z3
       have hO := Owns.of_holds (B := w2.heap.size) hb3 (Nat.le_refl _) (by simp [maxLen])
       replace z3 := Lib.hid z3)
    | (refine wpList_appends w3 (o := ⟨some 13, _, _, _, _, _⟩) rfl (.tmp 11) (.tmp 12) 58 rfl 5 i0 (.int .u8 0) 1 Tryd.underlying58 HI.out.1 HI.out.2.1 HI.out.2.2.1 HI.out.2.2.2 rfl w2.heap.size m3.size (some ⟨w2.heap.size, 0, none⟩) 3 3 [67, ui, un] rfl rfl hO (some ⟨w.heap.size, 0, none⟩) 32 32 x.1 rfl HG.out.2.2.1.symm (Reads.of_holds ((hb1.keep m2 (by simp)).keep m3 (by simp))) (by rw [HG.out.2.2.1]; simp) (by rw [HG.out.2.2.1]; simp [maxLen]) ?_
       intro A' c' w4 hO4 m4 q4
       rw [← HG.out.2.1] at hO4 ⊢
       have hbl : ∀ i ∈ blk (some ⟨w2.heap.size, 0, none⟩), i = w2.heap.size := fun i hi => by simpa [blk] using hi
       have mm := far_mod ((m1.then m2).then m3) m4 (fun i hi => by rw [hbl i hi]; exact (m1.then m2).size)
       have X := sumI A' L L.length c' rfl hO4.fits.1 (by rw [HG.out.2.2.2]; decide) w4 (HG.out.1.then mm) hO4.reads
       rw [HD.out] at X
       obtain ⟨N, hN⟩ : ∃ N, N = L.length := ⟨_, rfl⟩
       rw [← hN] at X ⊢
       replace hN := Lib.hid hN
       have hb4 := (hb2.keep m3 (by simp)).keep m4 (fun hi => by have h1 := hbl _ hi; have := z2.out; omega)
       clear hO4 q4 hbl)
    | (go_at_call 32; refine X.mono ?_; rintro e w5 ⟨rfl, m5⟩)
    | (with_reducible refine wpList_storesAll (o := ⟨none, .store 25 (.tmp 6) (.tmp 14), _, _, _, _⟩) rfl 25 (.tmp 6) (.tmp 14) rfl rfl w1.heap.size (ic d) rfl (iv d) rfl rfl 25 _ (hb4.keep m5 (by simp)) (by rw [ic_length, ic_length]) (ic_one d) (size25i d) ?_
       intro w6 hb6 m6 z6))
  refine bodyPost_ret (results_cell_row rfl _ _ w1.heap.size 25 _ (0, 0) _ rfl hb6 Tryd.underlying25 rfl (by rw [List.size_toArray]; exact size25i d)) rfl ?_
  exact ⟨rfl, far_mod (mm.then m5) m6 (fun i hi => by simp at hi; rw [hi]; exact m1.size)⟩
end Go.Proofs.YtdolihecjomjiaaDoor
