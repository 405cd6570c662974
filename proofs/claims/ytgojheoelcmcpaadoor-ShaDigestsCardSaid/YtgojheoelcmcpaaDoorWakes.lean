/-
  Does the layer do anything? It does. My own work.
-/
import Derived.Test.YtgojheoelcmcpaaDoorLess
import Derived.Test.YtgojheoelcmcpaaDoorAbc
import Derived.Lib.SlBytesConst
namespace Go.Proofs.YtgojheoelcmcpaaDoor
open Go.RowKit
def zid : List UInt8 := List.replicate 32 0
theorem zid_two : (zid.map oct).length = ((List.replicate 32 (0 : UInt8)).map oct).length := rfl
theorem zid_size : (Tryd.prog.info? 40).map (·.size) = some (zid.map oct).length := size40_of _ rfl
theorem run_zid (w : World) : (Instr.build 40 #[]).run Tryd.prog w = .ok (.agg (zid.map oct).toArray) w := by
  refine run_build w _ _ _ ?_
  kernel_rfl
theorem exec_zid {v : World} {o : Oper} {ρ : Operand → Value} (ho : o.op = .build 40 #[]) : (execOp ρ o).run Tryd.prog v = .ok (.value (.agg (zid.map oct).toArray)) v := by
  unfold execOp
  simp only [ho, List.map_toArray, List.map_nil, Sem.run_bind, run_zid, Result.andThen, Sem.run_pure]
def zid1 : List UInt8 := [0, 1] ++ List.replicate 30 0
theorem run_zid1 (w : World) : (Instr.build 40 #[(0, .int .u8 0), (1, .int .u8 1)]).run Tryd.prog w = .ok (.agg (zid1.map oct).toArray) w := by
  refine run_build w _ _ _ ?_
  kernel_rfl
theorem exec_zid1 {v : World} {o : Oper} {ρ : Operand → Value} {x y : Operand} (ho : o.op = .build 40 #[(0, x), (1, y)]) (hx : ρ x = .int .u8 0) (hy : ρ y = .int .u8 1) : (execOp ρ o).run Tryd.prog v = .ok (.value (.agg (zid1.map oct).toArray)) v := by
  unfold execOp
  simp only [ho, List.map_toArray, List.map_cons, List.map_nil, hx, hy, Sem.run_bind, run_zid1, Result.andThen, Sem.run_pure]
theorem results_ct {P : Program} {fn : Func} {q r : Tmp} {ty : TypeId} (h : fn.results = #[.cell q ty, .tmp r]) (tmps : Array Value) (w : World) (g : Nat) (cs : List Value) (y : Value) (d : TypeDesc)
    (hq : tmps[q]? = some (.pointer (some ⟨g, 0, none⟩))) (hr : tmps[r]? = some y) (hc : Cells w (some ⟨g, 0, none⟩) cs)
    (hu : P.underlying ty = some d) (hd : (match d with | .struct _ | .array _ _ => true | _ => false) = true) (hi : (P.info? ty).map (·.size) = some cs.length) :
    (results fn tmps).run P w = .ok (.tuple #[.agg cs.toArray, y]) w := by
  simp [results, h, hq, hr, asAddr, run_loads hc hu hd hi]
set_option maxRecDepth 100000 in
theorem parse_short (s : ByteArray) (hs : s.size ≠ 64) (w : World) :
    Calls Tryd.prog 26 #[.string s] w fun e w' => e = .returned (.tuple #[.agg (zid.map oct).toArray, .int .i64 130]) ∧ Mod [] w w' := by
  have h1 : ((s.size : Int) != 64) = true := by simp; omega
  go_enter Tryd.func26, Tryd.ntmps26
  go_wp2_with (with_reducible refine wpList_allocs (o := ⟨some 2, .alloc 40, _, _, _, _⟩) rfl 40 rfl _ zero40 ?_; intro w1 hb1 m1 z1; replace z1 := Lib.hid z1)
  go_step3
  go_wp2_with (first
    | (with_reducible refine wpList_ran (o := ⟨some 12, .build 40 #[], _, _, _, _⟩) rfl (.agg (zid.map oct).toArray) (exec_zid rfl) ?_)
    | (with_reducible refine wpList_storesAll (o := ⟨none, .store 40 (.tmp 2) (.tmp 12), _, _, _, _⟩) rfl 40 (.tmp 2) (.tmp 12) rfl rfl w.heap.size (zid.map oct) rfl (.agg (zid.map oct).toArray) rfl rfl 40 _ hb1 zid_two (octs_one _) zid_size ?_; intro w7 hw7 m7 z7))
  rw [Exit.noGoto_ret]
  refine bodyPost_ret (results_ct rfl _ _ w.heap.size (zid.map oct) _ _ rfl rfl (Cells.of_holds hw7) Tryd.underlying40 rfl (size40_of _ rfl)) rfl ?_
  exact ⟨rfl, m1.trans m7 (by intro i hi h; simp at h; omega)⟩
theorem exec_neqs {v : World} {o : Oper} {ρ : Operand → Value} {x y : Operand} {b : ByteArray} (ho : o.op = .binOp .neq 9 x y 9) (hx : ρ x = .string b) (hy : ρ y = .string b) : (execOp ρ o).run Tryd.prog v = .ok (.value (.bool false)) v := by
  unfold execOp
  simp [ho, hx, hy, go_sem]
/-- An operation that yields a value, if it is wanted. -/
theorem wpList_ranW {P : Program} {w : World} {ops : Array Oper} {rest : List Oper} {o : Oper} {a : Act} {Q : Exit → Act → World → Prop} (hw : Region.wanted o (yielded ops a.tmps) = true) (V : Value) (v : World) (hrun : (execOp a.eval o).run P w = .ok (.value V) v) (h : wpList P ops Q rest (a.put o.dst V) v) : wpList P ops Q (o :: rest) a w := by
  refine wpList_step fun K hK => ?_
  rw [if_pos hw]
  unfold Oper.wp
  rw [hrun]
  exact hK _ _ h
theorem exec_make56 {v : World} {o : Oper} {ρ : Operand → Value} {x y : Operand} (ho : o.op = .makeSlice 36 x y) (hx : ρ x = .int .i64 56) (hy : ρ y = .int .i64 56) : (execOp ρ o).run Tryd.prog v = .ok (.value (.slice (some ⟨v.heap.size, 0, none⟩) 56 56)) (v.alloc (.cells ((List.replicate 56 (0 : UInt8)).map oct).toArray 5)) := by
  obtain ⟨i0, hi, hz0, hz1, hz2⟩ := info_parts u8_zero
  have hrun := run_make (P := Tryd.prog) v 36 5 i0 _ Tryd.underlying36 hi hz0 .i64 .i64 56 56 (by decide) (by decide) (by rw [hz2]; decide) (by decide)
  have hc : (Value.int .u8 0).cells = #[.int .u8 0] := rfl
  rw [hz1, hc, show (56 : Int).toNat = 56 from rfl, made_rep] at hrun
  unfold execOp
  simp only [ho, hx, hy, Sem.run_bind, hrun, Result.andThen, Sem.run_pure]
  rfl
theorem run_make56 (v : World) : (Instr.makeSlice 36 (.int .i64 56) (.int .i64 56)).run Tryd.prog v = .ok (.slice (some ⟨v.heap.size, 0, none⟩) 56 56) (v.alloc (.cells ((List.replicate 56 (0 : UInt8)).map oct).toArray 5)) := by
  obtain ⟨i0, hi, hz0, hz1, hz2⟩ := info_parts u8_zero
  have hrun := run_make (P := Tryd.prog) v 36 5 i0 _ Tryd.underlying36 hi hz0 .i64 .i64 56 56 (by decide) (by decide) (by rw [hz2]; decide) (by decide)
  have hc : (Value.int .u8 0).cells = #[.int .u8 0] := rfl
  rw [hz1, hc, show (56 : Int).toNat = 56 from rfl, made_rep] at hrun
  exact hrun
def abcD : List UInt8 := [186, 120, 22, 191, 143, 1, 207, 234, 65, 65, 64, 222, 93, 174, 34, 35, 176, 3, 97, 163, 150, 23, 122, 156, 180, 16, 255, 97, 242, 0, 21, 173]
def abcT : ByteArray := ⟨#[98, 97, 55, 56, 49, 54, 98, 102, 56, 102, 48, 49, 99, 102, 101, 97, 52, 49, 52, 49, 52, 48, 100, 101, 53, 100, 97, 101, 50, 50, 50, 51, 98, 48, 48, 51, 54, 49, 97, 51, 57, 54, 49, 55, 55, 97, 57, 99, 98, 52, 49, 48, 102, 102, 54, 49, 102, 50, 48, 48, 49, 53, 97, 100]⟩
theorem abcD_sum : octs (sum2 Kc Sc [97, 98, 99]) = abcD := abc_sum
theorem abcD_text : (⟨(textN abcD).toArray⟩ : ByteArray) = abcT := by
  show (⟨(textN [186, 120, 22, 191, 143, 1, 207, 234, 65, 65, 64, 222, 93, 174, 34, 35, 176, 3, 97, 163, 150, 23, 122, 156, 180, 16, 255, 97, 242, 0, 21, 173]).toArray⟩ : ByteArray) = _
  rw [abc_text]; rfl
theorem less01 : lessN zid zid1 = true := by decide +kernel
theorem less00 : lessN zid zid = false := by decide +kernel
set_option maxRecDepth 100000 in
set_option maxHeartbeats 4000000 in
theorem wakes_c (w : World) (G : Cells w (some ⟨0, 0, none⟩) (Kc.map wd)) (G1 : Cells w (some ⟨1, 0, none⟩) (Sc.map wd)) : Calls Tryd.prog 10 #[] w fun e w' => e = .returned (.bool true) ∧ Mod [] w w' := by
  have hS := fun (v : World) (m : Mod [] w v) (g : Nat) (H : Reads v (some ⟨g, 0, none⟩) [97, 98, 99]) => sum_c Kc Sc Kc_length Sc_length (some ⟨g, 0, none⟩) [97, 98, 99] 3 3 rfl (by decide) (by decide) v (G.keep m (by simp)) (G1.keep m (by simp)) H
  rw [abcD_sum] at hS
  have hT := fun (v : World) => text_c abcD rfl v
  rw [abcD_text] at hT
  have hP := fun (v : World) => parse_short ⟨#[97, 98]⟩ (by decide) v
  have hL1 := fun (v : World) => less_c zid zid1 rfl rfl v
  rw [less01] at hL1
  have hL0 := fun (v : World) => less_c zid zid rfl rfl v
  rw [less00] at hL0
  have HH := Lib.hid (And.intro hS (And.intro hT (And.intro hP (And.intro hL1 hL0))))
  clear hS hT hP hL1 hL0 G G1
  go_enter Tryd.func10, Tryd.ntmps10
  have kc := fun (w : World) (C : Array Value) (n c : Nat) => Lib.run_convert_bytes_const (P := Tryd.prog) w 36 5 C n c Tryd.underlying36 Tryd.underlying5
  go_wp2_with fail
  clear kc
  have m1 : Mod [] w (w.alloc (.cells #[.int .u8 97, .int .u8 98, .int .u8 99] 5 (3, 4))) := Mod.alloc [] w _
  have h1 : Reads (w.alloc (.cells #[.int .u8 97, .int .u8 98, .int .u8 99] 5 (3, 4))) (some ⟨w.heap.size, 0, none⟩) [97, 98, 99] := by
    have hb : (w.alloc (.cells #[.int .u8 97, .int .u8 98, .int .u8 99] 5 (3, 4))).heap[w.heap.size]? = some (.cells #[.int .u8 97, .int .u8 98, .int .u8 99] 5 (3, 4)) := heap_alloc_new w _
    intro i hi
    refine ⟨w.heap.size, 0, rfl, ?_⟩
    rw [cell_of_row _ _ _ _ _ _ hb]
    have hi' : i < 3 := hi
    obtain rfl | rfl | rfl : i = 0 ∨ i = 1 ∨ i = 2 := by omega
    all_goals rfl
  refine (HH.out.1 _ m1 _ h1).mono ?_
  rintro e w2 ⟨rfl, m2⟩
  replace m2 := m1.then m2
  clear h1 m1
  go_wp2_with fail
  refine (HH.out.2.1 _).mono ?_
  rintro e w3 ⟨rfl, m3⟩
  replace m3 := m2.then m3
  clear m2
  go_wp2_with (with_reducible refine wpList_ran (o := ⟨some 7, .binOp .neq 9 (.tmp 6) _ 9, _, _, _, _⟩) rfl (.bool false) (exec_neqs (b := abcT) rfl rfl rfl) ?_)
  refine (HH.out.2.2.1 _).mono ?_
  rintro e w4 ⟨rfl, m4⟩
  replace m4 := m3.then m4
  clear m3
  go_wp2_with (first
    | (with_reducible refine wpList_allocs (o := ⟨some 1, .alloc 40, _, _, _, _⟩) rfl 40 rfl _ zero40 ?_; intro w5 hb1 m5 z1; replace z1 := Lib.hid z1)
    | (with_reducible refine wpList_storesAll (o := ⟨none, .store 40 (.tmp 1) (.tmp 10), _, _, _, _⟩) rfl 40 (.tmp 1) (.tmp 10) rfl rfl w4.heap.size (zid.map oct) rfl (.agg (zid.map oct).toArray) rfl rfl 40 _ hb1 zid_two (octs_one _) zid_size ?_; intro w7 hw7 m7 z7; replace z7 := Lib.hid z7))
  replace m7 : Mod [] w w7 := m4.trans (m5.trans m7 (by intro i hi h; simp at h; omega)) (fun _ _ h => h)
  clear hb1 hw7 m5 z1 z7 m4
  have hPd := fun (v : World) (H : Holds v w7.heap.size 5 ((List.replicate 56 (0 : UInt8)).map oct)) => pad_c (some ⟨w7.heap.size, 0, none⟩) (List.replicate 56 0) 56 56 rfl (by decide) v (Reads.of_holds H)
  rw [show fillM (List.replicate 56 (0 : UInt8)).length = 128 from rfl] at hPd
  have HP := Lib.hid hPd
  clear hPd
  go_wp2_with fail
  rw [show (Instr.makeSlice 36 (.int .i64 56) (.int .i64 56)).run Tryd.prog w7 = _ from run_make56 w7]
  simp only [Result.andThen]
  rw [Oper.upon_value]
  go_wp2_with (go_at_call 22; refine (HP.out _ (Holds.made w7 5 ((List.replicate 56 (0 : UInt8)).map oct))).mono ?_; rintro e w8 ⟨g8, rfl, q1, q2, m8⟩; clear q1 q2)
  refine (HH.out.2.2.2.1 _).mono ?_
  rintro e w9 ⟨rfl, m9⟩
  go_wp2_with fail
  refine (HH.out.2.2.2.2 _).mono ?_
  rintro e w10 ⟨rfl, m10⟩
  go_wp2_with fail
  go_ret
  exact ⟨rfl, (((m7.then (Mod.alloc [] w7 _)).then m8).then m9).then m10⟩
end Go.Proofs.YtgojheoelcmcpaaDoor
