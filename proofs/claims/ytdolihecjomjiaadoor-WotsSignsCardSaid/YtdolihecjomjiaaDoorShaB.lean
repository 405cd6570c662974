/-
  Contracts of package sha's mixes. My own work.
-/
import Derived.Test.YtdolihecjomjiaaDoorDry
namespace Go.Proofs.YtdolihecjomjiaaDoor
open Go.RowKit

/-- A mix's cells. -/
def mixC (a b : Nat) (f : FuncId) (c : Nat) : List Value := [.int .i64 (a : Int), .int .i64 (b : Int), .func (.func f) #[] #[], .int .i64 (c : Int)]
def mixZ : List Value := [.int .i64 0, .int .i64 0, .nilFunc, .int .i64 0]
theorem size95 : (Tryd.prog.info? 95).map (·.size) = some 4 := by kernel_rfl
theorem zero95 : ∀ w, (zeroValue 95).run Tryd.prog w = .ok (.agg mixZ.toArray) w := (zero_of_info (n := 4) (by kernel_rfl)).1
theorem run_mix (a b : Nat) (f : FuncId) (c : Nat) (w : World) : (Instr.build 95 #[(0, .int .i64 (a : Int)), (1, .int .i64 (b : Int)), (2, .func (.func f) #[] #[]), (3, .int .i64 (c : Int))]).run Tryd.prog w = .ok (.agg (mixC a b f c).toArray) w := by
  refine run_build w _ _ _ ?_
  kernel_rfl
theorem mixC_one (a b : Nat) (f : FuncId) (c : Nat) : ∀ v ∈ mixC a b f c, v.oneCell' = true := by
  intro v hv
  simp [mixC] at hv
  rcases hv with rfl | rfl | rfl | rfl <;> rfl
theorem mix_len (a b : Nat) (f : FuncId) (c : Nat) : (mixC a b f c).length = mixZ.length := rfl
theorem mix_size (a b : Nat) (f : FuncId) (c : Nat) : (Tryd.prog.info? 95).map (·.size) = some (mixC a b f c).length := size95
theorem exec_mix {v : World} {o : Oper} {ρ : Operand → Value} {x y z u : Operand} {a b c : Nat} {f : FuncId} (ho : o.op = .build 95 #[(0, x), (1, y), (2, z), (3, u)]) (hx : ρ x = .int .i64 (a : Int)) (hy : ρ y = .int .i64 (b : Int)) (hz : ρ z = .func (.func f) #[] #[]) (hu : ρ u = .int .i64 (c : Int)) :
    (execOp ρ o).run Tryd.prog v = .ok (.value (.agg (mixC a b f c).toArray)) v := by
  unfold execOp
  simp only [ho, List.map_toArray, List.map_cons, List.map_nil, hx, hy, hz, hu, Sem.run_bind, run_mix, Result.andThen, Sem.run_pure]
/-- An operation that yields a value. -/
theorem wpList_ran {P : Program} {w : World} {ops : Array Oper} {rest : List Oper} {o : Oper} {a : Act} {Q : Exit → Act → World → Prop} (hg : o.guard = none) (V : Value) (hrun : (execOp a.eval o).run P w = .ok (.value V) w) (h : wpList P ops Q rest (a.put o.dst V) w) : wpList P ops Q (o :: rest) a w := by
  refine wpList_plain hg fun K hK => ?_
  unfold Oper.wp
  rw [hrun]
  exact hK _ _ h
set_option maxRecDepth 100000 in
theorem big1_c (w : World) : Calls Tryd.prog 54 #[] w fun e w' => e = .returned (.agg (mixC 6 11 63 25).toArray) ∧ Mod [] w w' := by
  go_enter Tryd.func54, Tryd.ntmps54
  go_wp2_with (first
    | (with_reducible refine wpList_allocs (o := ⟨some 0, .alloc 95, _, _, _, _⟩) rfl 95 rfl _ zero95 ?_; intro w1 hb1 m1 z1; replace z1 := Lib.hid z1)
    | (with_reducible refine wpList_ran (o := ⟨some 1, .build 95 _, _, _, _, _⟩) rfl (.agg (mixC 6 11 63 25).toArray) (exec_mix rfl rfl rfl rfl rfl) ?_)
    | (with_reducible refine wpList_storesAll (o := ⟨none, .store 95 (.tmp 0) (.tmp 1), _, _, _, _⟩) rfl 95 (.tmp 0) (.tmp 1) rfl rfl w.heap.size (mixC 6 11 63 25) rfl (.agg (mixC 6 11 63 25).toArray) rfl rfl 95 _ hb1 (mix_len _ _ _ _) (mixC_one _ _ _ _) (mix_size _ _ _ _) ?_; intro w2 hb2 m2 z2; replace z2 := Lib.hid z2))
  refine bodyPost_ret (results_cell_row rfl _ _ w.heap.size 95 _ (0, 0) _ rfl hb2 Tryd.underlying95 rfl size95) rfl ?_
  exact ⟨rfl, m1.trans m2 (by intro i hi h; simp at h; omega)⟩
set_option maxRecDepth 100000 in
theorem big0_c (w : World) : Calls Tryd.prog 57 #[] w fun e w' => e = .returned (.agg (mixC 2 13 63 22).toArray) ∧ Mod [] w w' := by
  go_enter Tryd.func57, Tryd.ntmps57
  go_wp2_with (first
    | (with_reducible refine wpList_allocs (o := ⟨some 0, .alloc 95, _, _, _, _⟩) rfl 95 rfl _ zero95 ?_; intro w1 hb1 m1 z1; replace z1 := Lib.hid z1)
    | (with_reducible refine wpList_ran (o := ⟨some 1, .build 95 _, _, _, _, _⟩) rfl (.agg (mixC 2 13 63 22).toArray) (exec_mix rfl rfl rfl rfl rfl) ?_)
    | (with_reducible refine wpList_storesAll (o := ⟨none, .store 95 (.tmp 0) (.tmp 1), _, _, _, _⟩) rfl 95 (.tmp 0) (.tmp 1) rfl rfl w.heap.size (mixC 2 13 63 22) rfl (.agg (mixC 2 13 63 22).toArray) rfl rfl 95 _ hb1 (mix_len _ _ _ _) (mixC_one _ _ _ _) (mix_size _ _ _ _) ?_; intro w2 hb2 m2 z2; replace z2 := Lib.hid z2))
  refine bodyPost_ret (results_cell_row rfl _ _ w.heap.size 95 _ (0, 0) _ rfl hb2 Tryd.underlying95 rfl size95) rfl ?_
  exact ⟨rfl, m1.trans m2 (by intro i hi h; simp at h; omega)⟩
set_option maxRecDepth 100000 in
theorem small1_c (w : World) : Calls Tryd.prog 59 #[] w fun e w' => e = .returned (.agg (mixC 17 19 65 10).toArray) ∧ Mod [] w w' := by
  go_enter Tryd.func59, Tryd.ntmps59
  go_wp2_with (first
    | (with_reducible refine wpList_allocs (o := ⟨some 0, .alloc 95, _, _, _, _⟩) rfl 95 rfl _ zero95 ?_; intro w1 hb1 m1 z1; replace z1 := Lib.hid z1)
    | (with_reducible refine wpList_ran (o := ⟨some 1, .build 95 _, _, _, _, _⟩) rfl (.agg (mixC 17 19 65 10).toArray) (exec_mix rfl rfl rfl rfl rfl) ?_)
    | (with_reducible refine wpList_storesAll (o := ⟨none, .store 95 (.tmp 0) (.tmp 1), _, _, _, _⟩) rfl 95 (.tmp 0) (.tmp 1) rfl rfl w.heap.size (mixC 17 19 65 10) rfl (.agg (mixC 17 19 65 10).toArray) rfl rfl 95 _ hb1 (mix_len _ _ _ _) (mixC_one _ _ _ _) (mix_size _ _ _ _) ?_; intro w2 hb2 m2 z2; replace z2 := Lib.hid z2))
  refine bodyPost_ret (results_cell_row rfl _ _ w.heap.size 95 _ (0, 0) _ rfl hb2 Tryd.underlying95 rfl size95) rfl ?_
  exact ⟨rfl, m1.trans m2 (by intro i hi h; simp at h; omega)⟩
set_option maxRecDepth 100000 in
theorem small0_c (w : World) : Calls Tryd.prog 60 #[] w fun e w' => e = .returned (.agg (mixC 7 18 65 3).toArray) ∧ Mod [] w w' := by
  go_enter Tryd.func60, Tryd.ntmps60
  go_wp2_with (first
    | (with_reducible refine wpList_allocs (o := ⟨some 0, .alloc 95, _, _, _, _⟩) rfl 95 rfl _ zero95 ?_; intro w1 hb1 m1 z1; replace z1 := Lib.hid z1)
    | (with_reducible refine wpList_ran (o := ⟨some 1, .build 95 _, _, _, _, _⟩) rfl (.agg (mixC 7 18 65 3).toArray) (exec_mix rfl rfl rfl rfl rfl) ?_)
    | (with_reducible refine wpList_storesAll (o := ⟨none, .store 95 (.tmp 0) (.tmp 1), _, _, _, _⟩) rfl 95 (.tmp 0) (.tmp 1) rfl rfl w.heap.size (mixC 7 18 65 3) rfl (.agg (mixC 7 18 65 3).toArray) rfl rfl 95 _ hb1 (mix_len _ _ _ _) (mixC_one _ _ _ _) (mix_size _ _ _ _) ?_; intro w2 hb2 m2 z2; replace z2 := Lib.hid z2))
  refine bodyPost_ret (results_cell_row rfl _ _ w.heap.size 95 _ (0, 0) _ rfl hb2 Tryd.underlying95 rfl size95) rfl ?_
  exact ⟨rfl, m1.trans m2 (by intro i hi h; simp at h; omega)⟩
set_option maxRecDepth 100000 in
set_option maxHeartbeats 400000 in
theorem of_rot (x : UInt32) (a b c : Nat) (ha : 0 < a) (ha' : a < 32) (hb : 0 < b) (hb' : b < 32) (hc : 0 < c) (hc' : c < 32) (w : World) :
    Calls Tryd.prog 55 #[.agg (mixC a b 63 c).toArray, wd x] w fun e w' => e = .returned (wd (rot a x ^^^ rot b x ^^^ rot c x)) ∧ Mod [] w w' := by
  have hx := Lib.hid (show bits .xor .u32 (bits .xor .u32 ((rot a x).toNat : Int) ((rot b x).toNat : Int)) ((rot c x).toNat : Int) = ((rot a x ^^^ rot b x ^^^ rot c x).toNat : Int) from by rw [xor_wd, xor_wd])
  go_enter Tryd.func55, Tryd.ntmps55
  go_wp2_with (with_reducible refine wpList_boxes (o := ⟨some 2, .box 95 (.tmp 0), _, _, _, _⟩) rfl 95 (.tmp 0) rfl _ rfl (mixC a b 63 c) rfl ?_; intro w1 hb1 m1 z1; replace z1 := Lib.hid z1)
  have k0 := hb1.cell 0
  have k1 := hb1.cell 1
  have k2 := hb1.cell 2
  have k3 := hb1.cell 3
  simp only [mixC, List.getElem?_cons_succ, List.getElem?_cons_zero] at k0 k1 k2 k3
  clear hb1
  go_quiet ((first | (go_at_call 64; exact Calls.quiet_of_same (rotl_c x _ (by omega) (by omega) _)) | (go_at_call 63; exact Calls.quiet_of_same (turn_c x _ (by omega) (by omega) _))))
  go_wp2
  go_ret
  exact ⟨ret_int hx.out, m1.then (Mod.drewN [] _ _)⟩
set_option maxRecDepth 100000 in
set_option maxHeartbeats 400000 in
theorem of_psh (x : UInt32) (a b c : Nat) (ha : 0 < a) (ha' : a < 32) (hb : 0 < b) (hb' : b < 32) (hc' : c < 32) (w : World) :
    Calls Tryd.prog 55 #[.agg (mixC a b 65 c).toArray, wd x] w fun e w' => e = .returned (wd (rot a x ^^^ rot b x ^^^ psh c x)) ∧ Mod [] w w' := by
  have hx := Lib.hid (show bits .xor .u32 (bits .xor .u32 ((rot a x).toNat : Int) ((rot b x).toNat : Int)) ((psh c x).toNat : Int) = ((rot a x ^^^ rot b x ^^^ psh c x).toNat : Int) from by rw [xor_wd, xor_wd])
  go_enter Tryd.func55, Tryd.ntmps55
  go_wp2_with (with_reducible refine wpList_boxes (o := ⟨some 2, .box 95 (.tmp 0), _, _, _, _⟩) rfl 95 (.tmp 0) rfl _ rfl (mixC a b 65 c) rfl ?_; intro w1 hb1 m1 z1; replace z1 := Lib.hid z1)
  have k0 := hb1.cell 0
  have k1 := hb1.cell 1
  have k2 := hb1.cell 2
  have k3 := hb1.cell 3
  simp only [mixC, List.getElem?_cons_succ, List.getElem?_cons_zero] at k0 k1 k2 k3
  clear hb1
  go_quiet ((first | (go_at_call 64; exact Calls.quiet_of_same (rotl_c x _ (by omega) (by omega) _)) | (go_at_call 65; exact Calls.quiet_of_same (push_c x _ (by omega) _))))
  go_wp2
  go_ret
  exact ⟨ret_int hx.out, m1.then (Mod.drewN [] _ _)⟩
/-- What the four mixes give. -/
theorem big1_of (x : UInt32) (w : World) : Calls Tryd.prog 55 #[.agg (mixC 6 11 63 25).toArray, wd x] w fun e w' => e = .returned (wd (bg1 x)) ∧ Mod [] w w' := of_rot x 6 11 25 (by decide) (by decide) (by decide) (by decide) (by decide) (by decide) w
theorem big0_of (x : UInt32) (w : World) : Calls Tryd.prog 55 #[.agg (mixC 2 13 63 22).toArray, wd x] w fun e w' => e = .returned (wd (bg0 x)) ∧ Mod [] w w' := of_rot x 2 13 22 (by decide) (by decide) (by decide) (by decide) (by decide) (by decide) w
theorem small1_of (x : UInt32) (w : World) : Calls Tryd.prog 55 #[.agg (mixC 17 19 65 10).toArray, wd x] w fun e w' => e = .returned (wd (sm1 x)) ∧ Mod [] w w' := of_psh x 17 19 10 (by decide) (by decide) (by decide) (by decide) (by decide) w
theorem small0_of (x : UInt32) (w : World) : Calls Tryd.prog 55 #[.agg (mixC 7 18 65 3).toArray, wd x] w fun e w' => e = .returned (wd (sm0 x)) ∧ Mod [] w w' := of_psh x 7 18 3 (by decide) (by decide) (by decide) (by decide) (by decide) w
end Go.Proofs.YtdolihecjomjiaaDoor
