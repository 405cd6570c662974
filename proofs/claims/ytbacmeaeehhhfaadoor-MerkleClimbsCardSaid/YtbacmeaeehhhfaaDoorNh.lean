/-
  MerkleClimbs: the walk. My own work.
-/
import Derived.Test.YtbacmeaeehhhfaaDoorNg
namespace Go.Proofs.YtbacmeaeehhhfaaDoor
open Go.RowKit Go.Shelf
set_option linter.unusedVariables false
set_option linter.unusedSimpArgs false
def zPrf : Prf := ⟨zeroI, 0, none, 0, []⟩
theorem zero43 : ∀ w, (zeroValue 43).run Tryd.prog w = .ok (.agg (pfc zPrf).toArray) w := (zero_of_info (n := 34) (by kernel_rfl)).1
theorem size43 (r : Prf) : (Tryd.prog.info? 43).map (·.size) = some (pfc r).length := by rw [pfc_length]; kernel_rfl
theorem wpList_none33 {w : World} {ops : Array Oper} {rest : List Oper} {o : Oper} {a : Act} {Q : Exit → Act → World → Prop} (hgd : o.guard = none) (ho : o.op = .buildSlice 33 0 #[])
    (h : ∀ v, OwnG ic 23 32 v (some ⟨w.heap.size, 0, none⟩) 0 [] → Mod [] w v → v.heap.size = w.heap.size + 1 → wpList Tryd.prog ops Q rest (a.put o.dst (.slice (some ⟨w.heap.size, 0, none⟩) 0 0)) v) : wpList Tryd.prog ops Q (o :: rest) a w := by
  have hr : (Instr.buildSlice 33 0 #[]).run Tryd.prog w = .ok (.slice (some ⟨w.heap.size, 0, none⟩) 0 0) (w.alloc (.cells ([] : List Value).toArray 23)) := by kernel_rfl
  refine wpList_plain hgd fun K hK => ?_
  unfold Oper.wp execOp
  simp only [ho, List.map_toArray, List.map_nil, Sem.run_bind, hr, Result.andThen, Sem.run_pure]
  exact hK _ _ (h _ (OwnG.of_holds (l := ([] : List Idv)) (Holds.made w 23 []) ic_length (by decide)) (Mod.alloc [] w _) (by simp))
theorem exec_uptoz {P : Program} {v : World} {o : Oper} {ρ : Operand → Value} {t e : TypeId} {x y : Operand} {A : Option Addr} {n c k s : Nat} (hu : P.underlying t = some (.slice e)) (he : (P.info? e).map (·.size) = some s) (hk : k ≤ c) (ho : o.op = .slice t x none (some y) none) (hx : ρ x = .slice A n c) (hy : ρ y = .int .i64 (k : Int)) :
    (execOp ρ o).run P v = .ok (.value (.slice A k c)) v := by
  unfold execOp
  have h0 : ∀ a : Addr, a.add 0 = a := fun _ => rfl
  cases hq : P.info? e with
  | none => rw [hq] at he; cases he
  | some it =>
    simp [ho, hx, hy, Instr.sliceAt, Instr.slice, Instr.sliceBounds, Instr.sliceBound, Sem.run_bind, run_underlying hu, go_sem, sizeOf, typeInfo, hq, hk, h0]
theorem Cells.pre {w : World} {A : Option Addr} {cs ds : List Value} (h : Cells w A (cs ++ ds)) : Cells w A cs := fun i hi => by
  obtain ⟨g, o, e, hh⟩ := h i (by simp; omega)
  exact ⟨g, o, e, by rw [hh, List.getElem_append_left hi]⟩
theorem pf_k {w : World} {g : Nat} {r : Prf} (h : Holds w g 43 (pfc r)) : Cells w (some ⟨g, 0, none⟩) (ic r.k) := (Cells.of_holds h).pre
theorem pf_i {w : World} {g : Nat} {r : Prf} (h : Holds w g 43 (pfc r)) : w.cell? ⟨g, 32, none⟩ = some (.int .i64 r.i) := by
  have := h.cell 32
  rw [this]
  unfold pfc
  rw [List.getElem?_append_right (by rw [ic_length]; decide), ic_length]
  rfl
theorem exec_pfi {v : World} {o : Oper} {ρ : Operand → Value} {x : Operand} {g : Nat} {r : Prf} (h : Holds v g 43 (pfc r)) (ho : o.op = .load 3 x) (hx : ρ x = .pointer (some ⟨g, 32, none⟩)) : (execOp ρ o).run Tryd.prog v = .ok (.value (.int .i64 r.i)) v :=
  exec_load ho hx (run_load1 Tryd.underlying3 rfl (pf_i h))
theorem pf_l {w : World} {g : Nat} {r : Prf} (h : Holds w g 43 (pfc r)) : w.cell? ⟨g, 33, none⟩ = some (.slice r.A r.l.length r.c) := by
  have := h.cell 33
  rw [this]
  unfold pfc
  rw [List.getElem?_append_right (by rw [ic_length]; decide), ic_length]
  rfl
theorem m200 : (200 : Nat) ≤ maxLen := by decide
set_option maxRecDepth 100000 in
set_option maxHeartbeats 4000000 in
theorem climbs_c (a b : Idv) (A : Option Addr) (c N : Nat) (ps : List Prf) (hN : N = ps.length) (w : World) (Gl : Glob w) (RA : Cells w A (ps.flatMap pfc)) (hps : ∀ r ∈ ps, r.ok w) : Calls Tryd.prog 4 #[.slice A N c, iv a, iv b] w fun r w' => r = .returned (.bool true) ∧ Mod [] w w' := by
  have WK := fun v (mv : Mod [] w v) => wakes_c v (Gl.then mv)
  have JP := fun v (mv : Mod [] w v) => join_c a b v (Gl.then mv)
  have LJ := fun v (mv : Mod [] w v) => lawJoin_c a b v (Gl.then mv)
  obtain ⟨d, hd⟩ : ∃ r, r = joinI a b := ⟨_, rfl⟩
  rw [← hd] at JP LJ
  obtain ⟨i0, j1, j2, j3, j4⟩ := info_parts id_parts
  have HI := Lib.hid (And.intro j1 (And.intro j2 (And.intro j3 j4)))
  have HR := Lib.hid (And.intro hN (And.intro RA hps))
  have HG := Lib.hid Gl
  clear hd Gl hN RA hps j1 j2 j3 j4
  go_enter Tryd.func4, Tryd.ntmps4
  go_wp2_with (first
    | (with_reducible refine wpList_boxes (o := ⟨some 4, .box 23 (.tmp 1), _, _, _, _⟩) rfl 23 (.tmp 1) rfl _ rfl (ic a) rfl ?_; intro w1 k4 mm z1
       obtain ⟨b4, hq4⟩ : ∃ q, q = w.heap.size := ⟨_, rfl⟩
       rw [← hq4] at k4 ⊢
       clear z1 hq4)
    | (with_reducible refine wpList_boxes (o := ⟨some 5, .box 23 (.tmp 2), _, _, _, _⟩) rfl 23 (.tmp 2) rfl _ rfl (ic b) rfl ?_; intro w2 k5 m2 z2
       obtain ⟨b5, hq5⟩ : ∃ q, q = w1.heap.size := ⟨_, rfl⟩
       rw [← hq5] at k5 ⊢
       replace k4 := k4.keep m2 (by simp)
       replace mm := mm.then m2
       clear z2 hq5 m2)
    | (go_at_call 10; refine (WK _ mm).mono ?_
       rintro e w3 ⟨rfl, m3⟩
       replace k4 := k4.keep m3 (by simp)
       replace k5 := k5.keep m3 (by simp)
       replace mm := mm.then m3
       clear WK m3))
  obtain ⟨wq, hwq⟩ : ∃ v, v = w3 := ⟨_, rfl⟩
  rw [← hwq] at k4 k5 mm ⊢
  clear hwq
  refine wp_region_ups [(17, iv a), (18, iv b), (19, iv d), (20, iv a), (21, iv b), (22, iv d), (23, .bool false)] 89 [17, 18, 19, 20, 21, 22, 23] rfl rfl (by decide) (by kernel_rfl) (fun lz v => Mod [] wq.drew v) (by kernel_rfl) (Mod.refl _ _) (by kernel_rfl) (by kernel_rfl) ?step ?fin
  case step =>
    intro lz T v j o hj hlj hdep hst hpar hgot hcl Kq hK
    have mv : ∀ v, Mod [] wq.drew v → Mod [] wq v := fun v h => (Mod.drew [] wq).then h
    have hjn : j < 7 := (Array.getElem?_eq_some_iff.1 hj).1
    obtain rfl | rfl | rfl | rfl | rfl | rfl | rfl : j = 0 ∨ j = 1 ∨ j = 2 ∨ j = 3 ∨ j = 4 ∨ j = 5 ∨ j = 6 := by omega
    all_goals (have hj' := Option.some.inj (hj : some _ = some o); subst hj'; clear hj)
    · exact wp_ran rfl (exec_load rfl (eval_tmp ((hpar 4 rfl).trans rfl)) (run_loads (Cells.of_holds (k4.keep (mv v hst) (by simp))) Tryd.underlying23 rfl (size25i a))) (hK _ _ (fun s hs => by cases hs; rfl) hst)
    · exact wp_ran rfl (exec_load rfl (eval_tmp ((hpar 5 rfl).trans rfl)) (run_loads (Cells.of_holds (k5.keep (mv v hst) (by simp))) Tryd.underlying23 rfl (size25i b))) (hK _ _ (fun s hs => by cases hs; rfl) hst)
    · exact wp_called rfl (exec_call2 rfl rfl (eval_tmp (hgot 0 _ 17 rfl (hdep ⟨0, .data⟩ (by simp) rfl) rfl)) (eval_tmp (hgot 1 _ 18 rfl (hdep ⟨1, .data⟩ (by simp) rfl) rfl)) (enters_of Tryd.func19 (by kernel_rfl) rfl)) ((JP v (mm.then (mv v hst))).mono (fun e v' hh => ⟨_, hh.1, hK _ _ (fun s hs => by cases hs; rfl) (hst.then hh.2)⟩))
    · exact wp_ran rfl (exec_load rfl (eval_tmp ((hpar 4 rfl).trans rfl)) (run_loads (Cells.of_holds (k4.keep (mv v hst) (by simp))) Tryd.underlying23 rfl (size25i a))) (hK _ _ (fun s hs => by cases hs; rfl) hst)
    · exact wp_ran rfl (exec_load rfl (eval_tmp ((hpar 5 rfl).trans rfl)) (run_loads (Cells.of_holds (k5.keep (mv v hst) (by simp))) Tryd.underlying23 rfl (size25i b))) (hK _ _ (fun s hs => by cases hs; rfl) hst)
    · exact wp_called rfl (exec_call2 rfl rfl (eval_tmp (hgot 3 _ 20 rfl (hdep ⟨3, .data⟩ (by simp) rfl) rfl)) (eval_tmp (hgot 4 _ 21 rfl (hdep ⟨4, .data⟩ (by simp) rfl) rfl)) (enters_of Tryd.func20 (by kernel_rfl) rfl)) ((LJ v (mm.then (mv v hst))).mono (fun e v' hh => ⟨_, hh.1, hK _ _ (fun s hs => by cases hs; rfl) (hst.then hh.2)⟩))
    · exact wp_ran rfl (exec_ne25f rfl (eval_tmp (hgot 2 _ 19 rfl (hdep ⟨2, .data⟩ (by simp) rfl) rfl)) (eval_tmp (hgot 5 _ 22 rfl (hdep ⟨5, .data⟩ (by simp) rfl) rfl))) (hK _ _ (fun s hs => by cases hs; rfl) hst)
  case fin =>
  intro lz vr hlz hst
  have mq := (Mod.drew [] wq).then hst
  replace mm := mm.then mq
  simp only [setAll, List.foldl_cons, List.foldl_nil, List.set_cons_succ, List.set_cons_zero]
  obtain ⟨wq, hwq⟩ : ∃ v, v = vr := ⟨_, rfl⟩
  rw [← hwq] at mm ⊢
  clear hwq hst hlz mq JP LJ k4 k5
  go_wp2_with fail
  go_loopw [26] (fun i wi => ∃ (k : Nat), k ≤ 16 ∧ i = .int .i64 (k : Int) ∧ Mod [] w wi) (fun i _ => 16 - (intOf i).toNat)
  case atStart => exact ⟨0, by omega, rfl, mm⟩
  case round =>
    clear mm
    obtain ⟨k, hk, rfl, mm⟩ := hrel
    by_cases hkn : k < N
    · have hkZ : (k : Int) < (N : Int) := by omega
      by_cases hk4 : k < 16
      · have hkl : k < ps.length := by rw [← HR.out.1]; exact hkn
        have hkZ4 : (k : Int) < 16 := by omega
        obtain ⟨g, oo, hA, hcp⟩ := (HR.out.2.1.keep mm (by simp)).elem' pfc 34 (by omega) pfc_length k hkl
        subst hA
        have hok := HR.out.2.2 ps[k] (List.getElem_mem hkl)
        obtain ⟨r, hr⟩ : ∃ z, z = ps[k] := ⟨_, rfl⟩
        rw [← hr] at hcp hok
        obtain ⟨m, hm⟩ : ∃ m, m = min r.l.length 6 := ⟨_, rfl⟩
        obtain ⟨q, hq⟩ : ∃ q, q = r.l.take m := ⟨_, rfl⟩
        have HM : Hid ((m : Int) = min (r.l.length : Int) 6 ∧ m ≤ r.c ∧ m = q.length ∧ m ≤ 6) := Lib.hid ⟨by omega, by have := hok.1; omega, by rw [hq, List.length_take]; omega, by omega⟩
        have RL : Cells wr r.A (q.flatMap ic) := by
          have := hok.2.2.keep mm (by simp)
          rw [← List.take_append_drop m r.l, List.flatMap_append, ← hq] at this
          exact this.pre
        clear hr hkl HR hok hm hq
        by_cases h0 : r.i < 0
        · have hno : lfOk r.i = false := lfOk_no (by omega)
          have CN := fun A1 c1 v => Climb_no2 r.k r.i A1 c1 m hno v
          go_wp2_with (first
          | (with_reducible refine wpList_loads (o := ⟨some 30, .load 43 (.tmp 29), _, _, _, _⟩) rfl 43 (.tmp 29) rfl g (oo + k * 34) _ rfl hcp _ Tryd.underlying43 rfl (size43 r) (.agg (pfc r).toArray) rfl ?_)
          | (with_reducible refine wpList_allocs (o := ⟨some 8, .alloc 43, _, _, _, _⟩) rfl 43 rfl _ zero43 ?_; intro y5 hy5 my5 zy5)
          | (with_reducible refine wpList_storesAll (o := ⟨none, .store 43 (.tmp 8) (.tmp 30), _, _, _, _⟩) rfl 43 (.tmp 8) (.tmp 30) rfl rfl wr.heap.size (pfc r) rfl (.agg (pfc r).toArray) rfl rfl 43 _ hy5 (by simp only [pfc_length]) (pfc_one r) (size43 r) ?_
             intro w5 h8 m5 z5
             have mx : Mod [] wr w5 := my5.trans m5 (by intro i hi h; simp at h; omega)
             replace RL := RL.keep mx (by simp)
             replace mm := mm.then mx
             obtain ⟨b8, hq8⟩ : ∃ q, q = wr.heap.size := ⟨_, rfl⟩
             rw [← hq8] at h8 ⊢
             clear hy5 my5 zy5 m5 z5 mx hq8)
          | (with_reducible refine wpList_none33 (o := ⟨some 33, .buildSlice 33 0 #[], _, _, _, _⟩) rfl rfl ?_
             intro w6 O9 m6 z6
             obtain ⟨A9, hA9⟩ : ∃ q : Option Addr, q = some ⟨w5.heap.size, 0, none⟩ := ⟨_, rfl⟩
             rw [← hA9] at O9 ⊢
             have n9 : ∀ i ∈ blk A9, w5.heap.size ≤ i := fun i hi => by rw [hA9] at hi; simp [blk] at hi; omega
             replace RL := RL.keep m6 (by simp)
             have h8n := h8.lt
             have mm5 := mm
             replace h8 := h8.keep m6 (by simp)
             replace mm := mm.then m6
             have s56 := m6.size
             clear z6 hA9 m6)
          | (with_reducible refine wpList_load1 (o := ⟨some 35, .load 33 (.tmp 34), _, _, _, _⟩) rfl 33 (.tmp 34) rfl ⟨b8, 33, none⟩ (.slice r.A r.l.length r.c) rfl _ Tryd.underlying33 rfl (pf_l h8) ?_)
          | (with_reducible refine wpList_load1 (o := ⟨some 37, .load 33 (.tmp 36), _, _, _, _⟩) rfl 33 (.tmp 36) rfl ⟨b8, 33, none⟩ (.slice r.A r.l.length r.c) rfl _ Tryd.underlying33 rfl (pf_l h8) ?_)
          | (with_reducible refine wpList_ranW (o := ⟨some 39, .call _, _, _, _, _⟩) (by with_unfolding_all rfl) (.int .i64 (m : Int)) w6 (exec_min rfl rfl rfl HM.out.1) ?_)
          | (with_reducible refine wpList_ranW (o := ⟨some 40, .slice _ _ _ _ _, _, _, _, _⟩) (by with_unfolding_all rfl) (.slice r.A m r.c) w6 (exec_uptoz Tryd.underlying33 size25 HM.out.2.1 rfl rfl rfl) ?_)
          | (at_builtin; refine wpList_appendG (f := ic) w6 (o := ⟨some 41, _, _, _, _, _⟩) rfl (.tmp 33) (.tmp 40) 33 rfl 23 i0 (iv zeroI) 32 Tryd.underlying33 HI.out.1 HI.out.2.1 HI.out.2.2.1 HI.out.2.2.2 rfl (by decide) ic_length ic_one A9 0 0 [] rfl rfl O9 r.A m r.c q rfl HM.out.2.2.1 RL (by rw [← HM.out.2.2.1]; have := HM.out.2.2.2; simp; omega) (by rw [← HM.out.2.2.1]; have := HM.out.2.2.2; have h9 := m200; simp; omega) ?_
             intro A1 c1 w7 O1 m7 q7
             rw [List.nil_append, ← HM.out.2.2.1]
             rw [List.nil_append] at O1
             have n1 : ∀ i ∈ blk A1, w5.heap.size ≤ i := fun i hi => by
               obtain ⟨a', ha, rfl⟩ := mem_blk hi
               rcases q7 a' ha with h | h
               · exact n9 _ h
               · omega
             replace h8 := h8.keep m7 (fun hi => by have := n9 _ hi; omega)
             have mm7 : Mod [] w w7 := mm.trans m7 (fun i hi hh => by have := n9 i hh; have := mm5.size; omega)
             clear RL O9 mm q7 n9)
          | (with_reducible refine wpList_none33 (o := ⟨some 42, .buildSlice 33 0 #[], _, _, _, _⟩) rfl rfl ?_
             intro w8 O9 m8 z8
             obtain ⟨A9, hA9⟩ : ∃ q : Option Addr, q = some ⟨w7.heap.size, 0, none⟩ := ⟨_, rfl⟩
             rw [← hA9] at O9 ⊢
             have n9 : ∀ i ∈ blk A9, w7.heap.size ≤ i := fun i hi => by rw [hA9] at hi; simp [blk] at hi; omega
             have h8n7 := h8.lt
             have hlt1 := O1.lt
             replace h8 := h8.keep m8 (by simp)
             replace O1 := O1.keep m8 (by simp)
             have mm8 := mm7.then m8
             have s78 := m8.size
             clear z8 hA9 m8)
          | (at_builtin; refine wpList_appendG (f := ic) w8 (o := ⟨some 44, _, _, _, _, _⟩) rfl (.tmp 42) (.tmp 43) 33 rfl 23 i0 (iv zeroI) 32 Tryd.underlying33 HI.out.1 HI.out.2.1 HI.out.2.2.1 HI.out.2.2.2 rfl (by decide) ic_length ic_one A9 0 0 [] rfl rfl O9 A1 m c1 q rfl HM.out.2.2.1 O1.cells (by rw [← HM.out.2.2.1]; have := HM.out.2.2.2; simp; omega) (by rw [← HM.out.2.2.1]; have := HM.out.2.2.2; have h9 := m200; simp; omega) ?_
             intro A2 c2 w9 O2 m9 q9
             rw [List.nil_append, ← HM.out.2.2.1]
             rw [List.nil_append] at O2
             replace h8 := h8.keep m9 (fun hi => by have := n9 _ hi; omega)
             replace O1 := O1.keep m9 (fun a' ha hi => by have := n9 _ hi; have := hlt1 a' ha; omega)
             have mm9 : Mod [] w w9 := mm8.trans m9 (fun i hi hh => by have := n9 i hh; have := mm7.size; omega)
             clear O9 mm8 mm7 q9 n9)
          | (with_reducible refine wpList_loads (o := ⟨some 47, .load 23 (.tmp 46), _, _, _, _⟩) rfl 23 (.tmp 46) rfl b8 0 _ rfl (pf_k h8) _ Tryd.underlying23 rfl (size25i r.k) (iv r.k) rfl ?_)
          | (with_reducible refine wpList_load1 (o := ⟨some 49, .load 3 (.tmp 48), _, _, _, _⟩) rfl 3 (.tmp 48) rfl ⟨b8, 32, none⟩ (.int .i64 r.i) rfl _ Tryd.underlying3 rfl (pf_i h8) ?_)
          | (go_at_call 21; refine (CN A1 c1 _).mono ?_
             rintro e u1 ⟨rfl, n1'⟩
             replace h8 := h8.keep n1' (by simp)
             replace O1 := O1.keep n1' (by simp)
             replace O2 := O2.keep n1' (by simp)
             replace mm9 := mm9.then n1'
             clear n1')
          | (with_reducible refine wpList_allocs (o := ⟨some 11, .alloc 23, _, _, _, _⟩) rfl 23 rfl _ zeroI_25 ?_; intro y6 hy6 my6 zy6)
          | (with_reducible refine wpList_storesAll (o := ⟨none, .store 23 (.tmp 11) (.tmp 52), _, _, _, _⟩) rfl 23 (.tmp 11) (.tmp 52) rfl rfl u1.heap.size (ic zeroI) rfl (iv zeroI) rfl rfl 23 _ hy6 (by simp only [ic_length]) (ic_one zeroI) (size25i zeroI) ?_
             intro u2 h11 m5 z5
             have mx : Mod [] u1 u2 := my6.trans m5 (by intro i hi h; simp at h; omega)
             replace h8 := h8.keep mx (by simp)
             replace O1 := O1.keep mx (by simp)
             replace O2 := O2.keep mx (by simp)
             replace mm9 := mm9.then mx
             obtain ⟨b11, hq11⟩ : ∃ q, q = u1.heap.size := ⟨_, rfl⟩
             rw [← hq11] at h11 ⊢
             clear hy6 my6 zy6 m5 z5 mx hq11)
          | (with_reducible refine wpList_ranW (o := ⟨some 54, .build 23 _, _, _, _, _⟩) (by with_unfolding_all rfl) (iv zeroI) _ (exec_zb rfl) ?_)
          | (with_reducible refine wpList_allocs (o := ⟨some 14, .alloc 23, _, _, _, _⟩) rfl 23 rfl _ zeroI_25 ?_; intro y7 hy7 my7 zy7)
          | (with_reducible refine wpList_storesAll (o := ⟨none, .store 23 (.tmp 14) (.tmp 54), _, _, _, _⟩) rfl 23 (.tmp 14) (.tmp 54) rfl rfl u2.heap.size (ic zeroI) rfl (iv zeroI) rfl rfl 23 _ hy7 (by simp only [ic_length]) (ic_one zeroI) (size25i zeroI) ?_
             intro u3 h14 m5 z5
             have mx : Mod [] u2 u3 := my7.trans m5 (by intro i hi h; simp at h; omega)
             have h811 := h8.lt
             have h1114 := h11.lt
             have hl1 := O1.lt
             have hl2 := O2.lt
             have hw14 := mm9.size
             replace h8 := h8.keep mx (by simp)
             replace h11 := h11.keep mx (by simp)
             replace O1 := O1.keep mx (by simp)
             replace O2 := O2.keep mx (by simp)
             replace mm9 := mm9.then mx
             obtain ⟨b14, hq14⟩ : ∃ q, q = u2.heap.size := ⟨_, rfl⟩
             rw [← hq14] at h14 h811 h1114 hl1 hl2 hw14 ⊢
             clear hy7 my7 zy7 m5 z5 mx hq14)
          | (with_reducible refine wpList_load1 (o := ⟨some 63, .load 3 (.tmp 62), _, _, _, _⟩) rfl 3 (.tmp 62) rfl ⟨b8, 32, none⟩ (.int .i64 r.i) rfl _ Tryd.underlying3 rfl (pf_i h8) ?_)
          | (with_reducible refine wpList_ranW (o := ⟨some 67, .load 3 (.tmp 66), _, _, _, _⟩) (by with_unfolding_all rfl) (.int .i64 r.i) _ (exec_pfi h8 rfl rfl) ?_)
          | (with_reducible refine wpList_ranW (o := ⟨some 78, .load 23 (.tmp 11), _, _, _, _⟩) (by with_unfolding_all rfl) (iv zeroI) _ (exec_load rfl rfl (run_loads (Cells.of_holds h11) Tryd.underlying23 rfl (size25i zeroI))) ?_)
          | (with_reducible refine wpList_ranW (o := ⟨some 79, .load 23 (.tmp 14), _, _, _, _⟩) (by with_unfolding_all rfl) (iv zeroI) _ (exec_load rfl rfl (run_loads (Cells.of_holds h14) Tryd.underlying23 rfl (size25i zeroI))) ?_)
          | (with_reducible refine wpList_ranW (o := ⟨some 80, .binOp _ _ _ _ _, _, _, _, _⟩) (by with_unfolding_all rfl) (.bool false) _ (exec_ne25f rfl rfl rfl) ?_)
          | (go_at_call 17; refine (lawSame_c q A1 A2 m c1 c2 HM.out.2.2.1 (by have := HM.out.2.2.2; omega) _ O1.cells O2.cells).mono ?_
             rintro e u9 ⟨rfl, n9'⟩))
          exact ⟨⟨k + 1, by omega, by go_num, mm9.then n9'⟩, by simp [intOf]; omega⟩
        by_cases h8' : 8 ≤ r.i
        · have hno : lfOk r.i = false := lfOk_no (by omega)
          have CN := fun A1 c1 v => Climb_no2 r.k r.i A1 c1 m hno v
          clear hno
          have hd0 : decide (r.i < 0) = false := decide_eq_false (by omega)
          have hd8 : decide (8 ≤ r.i) = true := decide_eq_true h8'
          go_wp2_with (first
          | (with_reducible refine wpList_loads (o := ⟨some 30, .load 43 (.tmp 29), _, _, _, _⟩) rfl 43 (.tmp 29) rfl g (oo + k * 34) _ rfl hcp _ Tryd.underlying43 rfl (size43 r) (.agg (pfc r).toArray) rfl ?_)
          | (with_reducible refine wpList_allocs (o := ⟨some 8, .alloc 43, _, _, _, _⟩) rfl 43 rfl _ zero43 ?_; intro y5 hy5 my5 zy5)
          | (with_reducible refine wpList_storesAll (o := ⟨none, .store 43 (.tmp 8) (.tmp 30), _, _, _, _⟩) rfl 43 (.tmp 8) (.tmp 30) rfl rfl wr.heap.size (pfc r) rfl (.agg (pfc r).toArray) rfl rfl 43 _ hy5 (by simp only [pfc_length]) (pfc_one r) (size43 r) ?_
             intro w5 h8 m5 z5
             have mx : Mod [] wr w5 := my5.trans m5 (by intro i hi h; simp at h; omega)
             replace RL := RL.keep mx (by simp)
             replace mm := mm.then mx
             obtain ⟨b8, hq8⟩ : ∃ q, q = wr.heap.size := ⟨_, rfl⟩
             rw [← hq8] at h8 ⊢
             clear hy5 my5 zy5 m5 z5 mx hq8)
          | (with_reducible refine wpList_none33 (o := ⟨some 33, .buildSlice 33 0 #[], _, _, _, _⟩) rfl rfl ?_
             intro w6 O9 m6 z6
             obtain ⟨A9, hA9⟩ : ∃ q : Option Addr, q = some ⟨w5.heap.size, 0, none⟩ := ⟨_, rfl⟩
             rw [← hA9] at O9 ⊢
             have n9 : ∀ i ∈ blk A9, w5.heap.size ≤ i := fun i hi => by rw [hA9] at hi; simp [blk] at hi; omega
             replace RL := RL.keep m6 (by simp)
             have h8n := h8.lt
             have mm5 := mm
             replace h8 := h8.keep m6 (by simp)
             replace mm := mm.then m6
             have s56 := m6.size
             clear z6 hA9 m6)
          | (with_reducible refine wpList_load1 (o := ⟨some 35, .load 33 (.tmp 34), _, _, _, _⟩) rfl 33 (.tmp 34) rfl ⟨b8, 33, none⟩ (.slice r.A r.l.length r.c) rfl _ Tryd.underlying33 rfl (pf_l h8) ?_)
          | (with_reducible refine wpList_load1 (o := ⟨some 37, .load 33 (.tmp 36), _, _, _, _⟩) rfl 33 (.tmp 36) rfl ⟨b8, 33, none⟩ (.slice r.A r.l.length r.c) rfl _ Tryd.underlying33 rfl (pf_l h8) ?_)
          | (with_reducible refine wpList_ranW (o := ⟨some 39, .call _, _, _, _, _⟩) (by with_unfolding_all rfl) (.int .i64 (m : Int)) w6 (exec_min rfl rfl rfl HM.out.1) ?_)
          | (with_reducible refine wpList_ranW (o := ⟨some 40, .slice _ _ _ _ _, _, _, _, _⟩) (by with_unfolding_all rfl) (.slice r.A m r.c) w6 (exec_uptoz Tryd.underlying33 size25 HM.out.2.1 rfl rfl rfl) ?_)
          | (at_builtin; refine wpList_appendG (f := ic) w6 (o := ⟨some 41, _, _, _, _, _⟩) rfl (.tmp 33) (.tmp 40) 33 rfl 23 i0 (iv zeroI) 32 Tryd.underlying33 HI.out.1 HI.out.2.1 HI.out.2.2.1 HI.out.2.2.2 rfl (by decide) ic_length ic_one A9 0 0 [] rfl rfl O9 r.A m r.c q rfl HM.out.2.2.1 RL (by rw [← HM.out.2.2.1]; have := HM.out.2.2.2; simp; omega) (by rw [← HM.out.2.2.1]; have := HM.out.2.2.2; have h9 := m200; simp; omega) ?_
             intro A1 c1 w7 O1 m7 q7
             rw [List.nil_append, ← HM.out.2.2.1]
             rw [List.nil_append] at O1
             have n1 : ∀ i ∈ blk A1, w5.heap.size ≤ i := fun i hi => by
               obtain ⟨a', ha, rfl⟩ := mem_blk hi
               rcases q7 a' ha with h | h
               · exact n9 _ h
               · omega
             replace h8 := h8.keep m7 (fun hi => by have := n9 _ hi; omega)
             have mm7 : Mod [] w w7 := mm.trans m7 (fun i hi hh => by have := n9 i hh; have := mm5.size; omega)
             clear RL O9 mm q7 n9)
          | (with_reducible refine wpList_none33 (o := ⟨some 42, .buildSlice 33 0 #[], _, _, _, _⟩) rfl rfl ?_
             intro w8 O9 m8 z8
             obtain ⟨A9, hA9⟩ : ∃ q : Option Addr, q = some ⟨w7.heap.size, 0, none⟩ := ⟨_, rfl⟩
             rw [← hA9] at O9 ⊢
             have n9 : ∀ i ∈ blk A9, w7.heap.size ≤ i := fun i hi => by rw [hA9] at hi; simp [blk] at hi; omega
             have h8n7 := h8.lt
             have hlt1 := O1.lt
             replace h8 := h8.keep m8 (by simp)
             replace O1 := O1.keep m8 (by simp)
             have mm8 := mm7.then m8
             have s78 := m8.size
             clear z8 hA9 m8)
          | (at_builtin; refine wpList_appendG (f := ic) w8 (o := ⟨some 44, _, _, _, _, _⟩) rfl (.tmp 42) (.tmp 43) 33 rfl 23 i0 (iv zeroI) 32 Tryd.underlying33 HI.out.1 HI.out.2.1 HI.out.2.2.1 HI.out.2.2.2 rfl (by decide) ic_length ic_one A9 0 0 [] rfl rfl O9 A1 m c1 q rfl HM.out.2.2.1 O1.cells (by rw [← HM.out.2.2.1]; have := HM.out.2.2.2; simp; omega) (by rw [← HM.out.2.2.1]; have := HM.out.2.2.2; have h9 := m200; simp; omega) ?_
             intro A2 c2 w9 O2 m9 q9
             rw [List.nil_append, ← HM.out.2.2.1]
             rw [List.nil_append] at O2
             replace h8 := h8.keep m9 (fun hi => by have := n9 _ hi; omega)
             replace O1 := O1.keep m9 (fun a' ha hi => by have := n9 _ hi; have := hlt1 a' ha; omega)
             have mm9 : Mod [] w w9 := mm8.trans m9 (fun i hi hh => by have := n9 i hh; have := mm7.size; omega)
             clear O9 mm8 mm7 q9 n9)
          | (with_reducible refine wpList_loads (o := ⟨some 47, .load 23 (.tmp 46), _, _, _, _⟩) rfl 23 (.tmp 46) rfl b8 0 _ rfl (pf_k h8) _ Tryd.underlying23 rfl (size25i r.k) (iv r.k) rfl ?_)
          | (with_reducible refine wpList_load1 (o := ⟨some 49, .load 3 (.tmp 48), _, _, _, _⟩) rfl 3 (.tmp 48) rfl ⟨b8, 32, none⟩ (.int .i64 r.i) rfl _ Tryd.underlying3 rfl (pf_i h8) ?_)
          | (go_at_call 21; refine (CN A1 c1 _).mono ?_
             rintro e u1 ⟨rfl, n1'⟩
             replace h8 := h8.keep n1' (by simp)
             replace O1 := O1.keep n1' (by simp)
             replace O2 := O2.keep n1' (by simp)
             replace mm9 := mm9.then n1'
             clear n1')
          | (with_reducible refine wpList_allocs (o := ⟨some 11, .alloc 23, _, _, _, _⟩) rfl 23 rfl _ zeroI_25 ?_; intro y6 hy6 my6 zy6)
          | (with_reducible refine wpList_storesAll (o := ⟨none, .store 23 (.tmp 11) (.tmp 52), _, _, _, _⟩) rfl 23 (.tmp 11) (.tmp 52) rfl rfl u1.heap.size (ic zeroI) rfl (iv zeroI) rfl rfl 23 _ hy6 (by simp only [ic_length]) (ic_one zeroI) (size25i zeroI) ?_
             intro u2 h11 m5 z5
             have mx : Mod [] u1 u2 := my6.trans m5 (by intro i hi h; simp at h; omega)
             replace h8 := h8.keep mx (by simp)
             replace O1 := O1.keep mx (by simp)
             replace O2 := O2.keep mx (by simp)
             replace mm9 := mm9.then mx
             obtain ⟨b11, hq11⟩ : ∃ q, q = u1.heap.size := ⟨_, rfl⟩
             rw [← hq11] at h11 ⊢
             clear hy6 my6 zy6 m5 z5 mx hq11)
          | (with_reducible refine wpList_ranW (o := ⟨some 54, .build 23 _, _, _, _, _⟩) (by with_unfolding_all rfl) (iv zeroI) _ (exec_zb rfl) ?_)
          | (with_reducible refine wpList_allocs (o := ⟨some 14, .alloc 23, _, _, _, _⟩) rfl 23 rfl _ zeroI_25 ?_; intro y7 hy7 my7 zy7)
          | (with_reducible refine wpList_storesAll (o := ⟨none, .store 23 (.tmp 14) (.tmp 54), _, _, _, _⟩) rfl 23 (.tmp 14) (.tmp 54) rfl rfl u2.heap.size (ic zeroI) rfl (iv zeroI) rfl rfl 23 _ hy7 (by simp only [ic_length]) (ic_one zeroI) (size25i zeroI) ?_
             intro u3 h14 m5 z5
             have mx : Mod [] u2 u3 := my7.trans m5 (by intro i hi h; simp at h; omega)
             have h811 := h8.lt
             have h1114 := h11.lt
             have hl1 := O1.lt
             have hl2 := O2.lt
             have hw14 := mm9.size
             replace h8 := h8.keep mx (by simp)
             replace h11 := h11.keep mx (by simp)
             replace O1 := O1.keep mx (by simp)
             replace O2 := O2.keep mx (by simp)
             replace mm9 := mm9.then mx
             obtain ⟨b14, hq14⟩ : ∃ q, q = u2.heap.size := ⟨_, rfl⟩
             rw [← hq14] at h14 h811 h1114 hl1 hl2 hw14 ⊢
             clear hy7 my7 zy7 m5 z5 mx hq14)
          | (with_reducible refine wpList_load1 (o := ⟨some 63, .load 3 (.tmp 62), _, _, _, _⟩) rfl 3 (.tmp 62) rfl ⟨b8, 32, none⟩ (.int .i64 r.i) rfl _ Tryd.underlying3 rfl (pf_i h8) ?_)
          | (with_reducible refine wpList_ranW (o := ⟨some 67, .load 3 (.tmp 66), _, _, _, _⟩) (by with_unfolding_all rfl) (.int .i64 r.i) _ (exec_pfi h8 rfl rfl) ?_)
          | (with_reducible refine wpList_ranW (o := ⟨some 78, .load 23 (.tmp 11), _, _, _, _⟩) (by with_unfolding_all rfl) (iv zeroI) _ (exec_load rfl rfl (run_loads (Cells.of_holds h11) Tryd.underlying23 rfl (size25i zeroI))) ?_)
          | (with_reducible refine wpList_ranW (o := ⟨some 79, .load 23 (.tmp 14), _, _, _, _⟩) (by with_unfolding_all rfl) (iv zeroI) _ (exec_load rfl rfl (run_loads (Cells.of_holds h14) Tryd.underlying23 rfl (size25i zeroI))) ?_)
          | (with_reducible refine wpList_ranW (o := ⟨some 80, .binOp _ _ _ _ _, _, _, _, _⟩) (by with_unfolding_all rfl) (.bool false) _ (exec_ne25f rfl rfl rfl) ?_)
          | (go_at_call 17; refine (lawSame_c q A1 A2 m c1 c2 HM.out.2.2.1 (by have := HM.out.2.2.2; omega) _ O1.cells O2.cells).mono ?_
             rintro e u9 ⟨rfl, n9'⟩))
          exact ⟨⟨k + 1, by omega, by go_num, mm9.then n9'⟩, by simp [intOf]; omega⟩
        have hd0 : decide (r.i < 0) = false := decide_eq_false (by omega)
        have hd8 : decide (8 ≤ r.i) = false := decide_eq_false (by omega)
        have hyes : lfOk r.i = true := by unfold lfOk; rw [decide_eq_true (by omega), decide_eq_true (by omega)]; rfl
        by_cases hm3 : m = 3
        · obtain ⟨i, hi⟩ : ∃ i : Nat, r.i = (i : Int) := ⟨r.i.toNat, by omega⟩
          have hi8 : i < 8 := by omega
          have hm3q : q.length = 3 := by rw [← HM.out.2.2.1]; exact hm3
          have CY := fun A1 c1 v (mv : Mod [] w v) RA => Climb_yes r.k i hi8 A1 c1 q hm3q v (HG.out.then mv) RA
          have LC := fun A1 c1 v (mv : Mod [] w v) RA => lawClimbed_c r.k i A1 q m c1 HM.out.2.2.1 (by omega) v (HG.out.then mv) RA
          rw [← hi] at CY LC
          rw [← hm3] at CY
          obtain ⟨ans, hans⟩ : ∃ x, x = climbI r.k i q := ⟨_, rfl⟩
          rw [← hans] at CY LC
          have HZ : Hid ((!((m : Int) == 3)) = false) := Lib.hid (by rw [hm3]; rfl)
          clear hans hi hm3q hyes hm3
          go_wp2_with (first
          | (with_reducible refine wpList_loads (o := ⟨some 30, .load 43 (.tmp 29), _, _, _, _⟩) rfl 43 (.tmp 29) rfl g (oo + k * 34) _ rfl hcp _ Tryd.underlying43 rfl (size43 r) (.agg (pfc r).toArray) rfl ?_)
          | (with_reducible refine wpList_allocs (o := ⟨some 8, .alloc 43, _, _, _, _⟩) rfl 43 rfl _ zero43 ?_; intro y5 hy5 my5 zy5)
          | (with_reducible refine wpList_storesAll (o := ⟨none, .store 43 (.tmp 8) (.tmp 30), _, _, _, _⟩) rfl 43 (.tmp 8) (.tmp 30) rfl rfl wr.heap.size (pfc r) rfl (.agg (pfc r).toArray) rfl rfl 43 _ hy5 (by simp only [pfc_length]) (pfc_one r) (size43 r) ?_
             intro w5 h8 m5 z5
             have mx : Mod [] wr w5 := my5.trans m5 (by intro i hi h; simp at h; omega)
             replace RL := RL.keep mx (by simp)
             replace mm := mm.then mx
             obtain ⟨b8, hq8⟩ : ∃ q, q = wr.heap.size := ⟨_, rfl⟩
             rw [← hq8] at h8 ⊢
             clear hy5 my5 zy5 m5 z5 mx hq8)
          | (with_reducible refine wpList_none33 (o := ⟨some 33, .buildSlice 33 0 #[], _, _, _, _⟩) rfl rfl ?_
             intro w6 O9 m6 z6
             obtain ⟨A9, hA9⟩ : ∃ q : Option Addr, q = some ⟨w5.heap.size, 0, none⟩ := ⟨_, rfl⟩
             rw [← hA9] at O9 ⊢
             have n9 : ∀ i ∈ blk A9, w5.heap.size ≤ i := fun i hi => by rw [hA9] at hi; simp [blk] at hi; omega
             replace RL := RL.keep m6 (by simp)
             have h8n := h8.lt
             have mm5 := mm
             replace h8 := h8.keep m6 (by simp)
             replace mm := mm.then m6
             have s56 := m6.size
             clear z6 hA9 m6)
          | (with_reducible refine wpList_load1 (o := ⟨some 35, .load 33 (.tmp 34), _, _, _, _⟩) rfl 33 (.tmp 34) rfl ⟨b8, 33, none⟩ (.slice r.A r.l.length r.c) rfl _ Tryd.underlying33 rfl (pf_l h8) ?_)
          | (with_reducible refine wpList_load1 (o := ⟨some 37, .load 33 (.tmp 36), _, _, _, _⟩) rfl 33 (.tmp 36) rfl ⟨b8, 33, none⟩ (.slice r.A r.l.length r.c) rfl _ Tryd.underlying33 rfl (pf_l h8) ?_)
          | (with_reducible refine wpList_ranW (o := ⟨some 39, .call _, _, _, _, _⟩) (by with_unfolding_all rfl) (.int .i64 (m : Int)) w6 (exec_min rfl rfl rfl HM.out.1) ?_)
          | (with_reducible refine wpList_ranW (o := ⟨some 40, .slice _ _ _ _ _, _, _, _, _⟩) (by with_unfolding_all rfl) (.slice r.A m r.c) w6 (exec_uptoz Tryd.underlying33 size25 HM.out.2.1 rfl rfl rfl) ?_)
          | (at_builtin; refine wpList_appendG (f := ic) w6 (o := ⟨some 41, _, _, _, _, _⟩) rfl (.tmp 33) (.tmp 40) 33 rfl 23 i0 (iv zeroI) 32 Tryd.underlying33 HI.out.1 HI.out.2.1 HI.out.2.2.1 HI.out.2.2.2 rfl (by decide) ic_length ic_one A9 0 0 [] rfl rfl O9 r.A m r.c q rfl HM.out.2.2.1 RL (by rw [← HM.out.2.2.1]; have := HM.out.2.2.2; simp; omega) (by rw [← HM.out.2.2.1]; have := HM.out.2.2.2; have h9 := m200; simp; omega) ?_
             intro A1 c1 w7 O1 m7 q7
             rw [List.nil_append, ← HM.out.2.2.1]
             rw [List.nil_append] at O1
             have n1 : ∀ i ∈ blk A1, w5.heap.size ≤ i := fun i hi => by
               obtain ⟨a', ha, rfl⟩ := mem_blk hi
               rcases q7 a' ha with h | h
               · exact n9 _ h
               · omega
             replace h8 := h8.keep m7 (fun hi => by have := n9 _ hi; omega)
             have mm7 : Mod [] w w7 := mm.trans m7 (fun i hi hh => by have := n9 i hh; have := mm5.size; omega)
             clear RL O9 mm q7 n9)
          | (with_reducible refine wpList_none33 (o := ⟨some 42, .buildSlice 33 0 #[], _, _, _, _⟩) rfl rfl ?_
             intro w8 O9 m8 z8
             obtain ⟨A9, hA9⟩ : ∃ q : Option Addr, q = some ⟨w7.heap.size, 0, none⟩ := ⟨_, rfl⟩
             rw [← hA9] at O9 ⊢
             have n9 : ∀ i ∈ blk A9, w7.heap.size ≤ i := fun i hi => by rw [hA9] at hi; simp [blk] at hi; omega
             have h8n7 := h8.lt
             have hlt1 := O1.lt
             replace h8 := h8.keep m8 (by simp)
             replace O1 := O1.keep m8 (by simp)
             have mm8 := mm7.then m8
             have s78 := m8.size
             clear z8 hA9 m8)
          | (at_builtin; refine wpList_appendG (f := ic) w8 (o := ⟨some 44, _, _, _, _, _⟩) rfl (.tmp 42) (.tmp 43) 33 rfl 23 i0 (iv zeroI) 32 Tryd.underlying33 HI.out.1 HI.out.2.1 HI.out.2.2.1 HI.out.2.2.2 rfl (by decide) ic_length ic_one A9 0 0 [] rfl rfl O9 A1 m c1 q rfl HM.out.2.2.1 O1.cells (by rw [← HM.out.2.2.1]; have := HM.out.2.2.2; simp; omega) (by rw [← HM.out.2.2.1]; have := HM.out.2.2.2; have h9 := m200; simp; omega) ?_
             intro A2 c2 w9 O2 m9 q9
             rw [List.nil_append, ← HM.out.2.2.1]
             rw [List.nil_append] at O2
             replace h8 := h8.keep m9 (fun hi => by have := n9 _ hi; omega)
             replace O1 := O1.keep m9 (fun a' ha hi => by have := n9 _ hi; have := hlt1 a' ha; omega)
             have mm9 : Mod [] w w9 := mm8.trans m9 (fun i hi hh => by have := n9 i hh; have := mm7.size; omega)
             clear O9 mm8 mm7 q9 n9)
          | (with_reducible refine wpList_loads (o := ⟨some 47, .load 23 (.tmp 46), _, _, _, _⟩) rfl 23 (.tmp 46) rfl b8 0 _ rfl (pf_k h8) _ Tryd.underlying23 rfl (size25i r.k) (iv r.k) rfl ?_)
          | (with_reducible refine wpList_load1 (o := ⟨some 49, .load 3 (.tmp 48), _, _, _, _⟩) rfl 3 (.tmp 48) rfl ⟨b8, 32, none⟩ (.int .i64 r.i) rfl _ Tryd.underlying3 rfl (pf_i h8) ?_)
          | (go_at_call 21; refine (CY A1 c1 _ mm9 O1.cells).mono ?_
             rintro e u1 ⟨rfl, n1'⟩
             replace h8 := h8.keep n1' (by simp)
             replace O1 := O1.keep n1' (by simp)
             replace O2 := O2.keep n1' (by simp)
             replace mm9 := mm9.then n1'
             clear n1')
          | (with_reducible refine wpList_allocs (o := ⟨some 11, .alloc 23, _, _, _, _⟩) rfl 23 rfl _ zeroI_25 ?_; intro y6 hy6 my6 zy6)
          | (with_reducible refine wpList_storesAll (o := ⟨none, .store 23 (.tmp 11) (.tmp 52), _, _, _, _⟩) rfl 23 (.tmp 11) (.tmp 52) rfl rfl u1.heap.size (ic ans) rfl (iv ans) rfl rfl 23 _ hy6 (by simp only [ic_length]) (ic_one ans) (size25i ans) ?_
             intro u2 h11 m5 z5
             have mx : Mod [] u1 u2 := my6.trans m5 (by intro i hi h; simp at h; omega)
             replace h8 := h8.keep mx (by simp)
             replace O1 := O1.keep mx (by simp)
             replace O2 := O2.keep mx (by simp)
             replace mm9 := mm9.then mx
             obtain ⟨b11, hq11⟩ : ∃ q, q = u1.heap.size := ⟨_, rfl⟩
             rw [← hq11] at h11 ⊢
             clear hy6 my6 zy6 m5 z5 mx hq11)
          | (with_reducible refine wpList_ranW (o := ⟨some 54, .build 23 _, _, _, _, _⟩) (by with_unfolding_all rfl) (iv zeroI) _ (exec_zb rfl) ?_)
          | (with_reducible refine wpList_allocs (o := ⟨some 14, .alloc 23, _, _, _, _⟩) rfl 23 rfl _ zeroI_25 ?_; intro y7 hy7 my7 zy7)
          | (with_reducible refine wpList_storesAll (o := ⟨none, .store 23 (.tmp 14) (.tmp 54), _, _, _, _⟩) rfl 23 (.tmp 14) (.tmp 54) rfl rfl u2.heap.size (ic zeroI) rfl (iv zeroI) rfl rfl 23 _ hy7 (by simp only [ic_length]) (ic_one zeroI) (size25i zeroI) ?_
             intro u3 h14 m5 z5
             have mx : Mod [] u2 u3 := my7.trans m5 (by intro i hi h; simp at h; omega)
             have h811 := h8.lt
             have h1114 := h11.lt
             have hl1 := O1.lt
             have hl2 := O2.lt
             have hw14 := mm9.size
             replace h8 := h8.keep mx (by simp)
             replace h11 := h11.keep mx (by simp)
             replace O1 := O1.keep mx (by simp)
             replace O2 := O2.keep mx (by simp)
             replace mm9 := mm9.then mx
             obtain ⟨b14, hq14⟩ : ∃ q, q = u2.heap.size := ⟨_, rfl⟩
             rw [← hq14] at h14 h811 h1114 hl1 hl2 hw14 ⊢
             clear hy7 my7 zy7 m5 z5 mx hq14)
          | (with_reducible refine wpList_load1 (o := ⟨some 63, .load 3 (.tmp 62), _, _, _, _⟩) rfl 3 (.tmp 62) rfl ⟨b8, 32, none⟩ (.int .i64 r.i) rfl _ Tryd.underlying3 rfl (pf_i h8) ?_)
          | (with_reducible refine wpList_ranW (o := ⟨some 67, .load 3 (.tmp 66), _, _, _, _⟩) (by with_unfolding_all rfl) (.int .i64 r.i) _ (exec_pfi h8 rfl rfl) ?_)
          | (with_reducible refine wpList_ranW (o := ⟨some 73, .binOp _ _ _ _ _, _, _, _, _⟩) (by with_unfolding_all rfl) (.bool false) _ (exec_nei HZ.out rfl rfl rfl) ?_)
          | (with_reducible refine wpList_loads (o := ⟨some 56, .load 23 (.tmp 55), _, _, _, _⟩) rfl 23 (.tmp 55) rfl b8 0 _ rfl (pf_k h8) _ Tryd.underlying23 rfl (size25i r.k) (iv r.k) rfl ?_)
          | (with_reducible refine wpList_load1 (o := ⟨some 58, .load 3 (.tmp 57), _, _, _, _⟩) rfl 3 (.tmp 57) rfl ⟨b8, 32, none⟩ (.int .i64 r.i) rfl _ Tryd.underlying3 rfl (pf_i h8) ?_)
          | (go_at_call 22; refine (LC A2 c2 _ mm9 O2.cells).mono ?_
             rintro e u4 ⟨rfl, n4⟩
             replace h8 := h8.keep n4 (by simp)
             replace h11 := h11.keep n4 (by simp)
             replace h14 := h14.keep n4 (by simp)
             replace O1 := O1.keep n4 (by simp)
             replace O2 := O2.keep n4 (by simp)
             replace mm9 := mm9.then n4
             clear n4)
          | (with_reducible refine wpList_storesAll (o := ⟨none, .store 23 (.tmp 14) (.tmp 60), _, _, _, _⟩) rfl 23 (.tmp 14) (.tmp 60) rfl rfl b14 (ic ans) rfl (iv ans) rfl rfl 23 _ h14 (by simp only [ic_length]) (ic_one ans) (size25i ans) ?_
             intro u5 h14' m5 z5
             replace h11 := h11.keep m5 (by simp; omega)
             replace O1 := O1.keep m5 (fun a' ha hi => by have := hl1 a' ha; simp at hi; omega)
             replace O2 := O2.keep m5 (fun a' ha hi => by have := hl2 a' ha; simp at hi; omega)
             replace mm9 := far_mod mm9 m5 (fun i hi => by simp at hi; omega)
             replace h14 := h14'
             clear m5 z5 h14')
          | (with_reducible refine wpList_ranW (o := ⟨some 78, .load 23 (.tmp 11), _, _, _, _⟩) (by with_unfolding_all rfl) (iv ans) _ (exec_load rfl rfl (run_loads (Cells.of_holds h11) Tryd.underlying23 rfl (size25i ans))) ?_)
          | (with_reducible refine wpList_ranW (o := ⟨some 79, .load 23 (.tmp 14), _, _, _, _⟩) (by with_unfolding_all rfl) (iv ans) _ (exec_load rfl rfl (run_loads (Cells.of_holds h14) Tryd.underlying23 rfl (size25i ans))) ?_)
          | (with_reducible refine wpList_ranW (o := ⟨some 80, .binOp _ _ _ _ _, _, _, _, _⟩) (by with_unfolding_all rfl) (.bool false) _ (exec_ne25f rfl rfl rfl) ?_)
          | (go_at_call 17; refine (lawSame_c q A1 A2 m c1 c2 HM.out.2.2.1 (by have := HM.out.2.2.2; omega) _ O1.cells O2.cells).mono ?_
             rintro e u9 ⟨rfl, n9'⟩))
          exact ⟨⟨k + 1, by omega, by go_num, mm9.then n9'⟩, by simp [intOf]; omega⟩
        have hmZ : ¬ (m : Int) = 3 := by omega
        have CL3 := fun A1 c1 v => Climb_no3 r.k r.i A1 c1 m hyes hmZ v
        clear hyes
        go_wp2_with (first
        | (with_reducible refine wpList_loads (o := ⟨some 30, .load 43 (.tmp 29), _, _, _, _⟩) rfl 43 (.tmp 29) rfl g (oo + k * 34) _ rfl hcp _ Tryd.underlying43 rfl (size43 r) (.agg (pfc r).toArray) rfl ?_)
        | (with_reducible refine wpList_allocs (o := ⟨some 8, .alloc 43, _, _, _, _⟩) rfl 43 rfl _ zero43 ?_; intro y5 hy5 my5 zy5)
        | (with_reducible refine wpList_storesAll (o := ⟨none, .store 43 (.tmp 8) (.tmp 30), _, _, _, _⟩) rfl 43 (.tmp 8) (.tmp 30) rfl rfl wr.heap.size (pfc r) rfl (.agg (pfc r).toArray) rfl rfl 43 _ hy5 (by simp only [pfc_length]) (pfc_one r) (size43 r) ?_
           intro w5 h8 m5 z5
           have mx : Mod [] wr w5 := my5.trans m5 (by intro i hi h; simp at h; omega)
           replace RL := RL.keep mx (by simp)
           replace mm := mm.then mx
           obtain ⟨b8, hq8⟩ : ∃ q, q = wr.heap.size := ⟨_, rfl⟩
           rw [← hq8] at h8 ⊢
           clear hy5 my5 zy5 m5 z5 mx hq8)
        | (with_reducible refine wpList_none33 (o := ⟨some 33, .buildSlice 33 0 #[], _, _, _, _⟩) rfl rfl ?_
           intro w6 O9 m6 z6
           obtain ⟨A9, hA9⟩ : ∃ q : Option Addr, q = some ⟨w5.heap.size, 0, none⟩ := ⟨_, rfl⟩
           rw [← hA9] at O9 ⊢
           have n9 : ∀ i ∈ blk A9, w5.heap.size ≤ i := fun i hi => by rw [hA9] at hi; simp [blk] at hi; omega
           replace RL := RL.keep m6 (by simp)
           have h8n := h8.lt
           have mm5 := mm
           replace h8 := h8.keep m6 (by simp)
           replace mm := mm.then m6
           have s56 := m6.size
           clear z6 hA9 m6)
        | (with_reducible refine wpList_load1 (o := ⟨some 35, .load 33 (.tmp 34), _, _, _, _⟩) rfl 33 (.tmp 34) rfl ⟨b8, 33, none⟩ (.slice r.A r.l.length r.c) rfl _ Tryd.underlying33 rfl (pf_l h8) ?_)
        | (with_reducible refine wpList_load1 (o := ⟨some 37, .load 33 (.tmp 36), _, _, _, _⟩) rfl 33 (.tmp 36) rfl ⟨b8, 33, none⟩ (.slice r.A r.l.length r.c) rfl _ Tryd.underlying33 rfl (pf_l h8) ?_)
        | (with_reducible refine wpList_ranW (o := ⟨some 39, .call _, _, _, _, _⟩) (by with_unfolding_all rfl) (.int .i64 (m : Int)) w6 (exec_min rfl rfl rfl HM.out.1) ?_)
        | (with_reducible refine wpList_ranW (o := ⟨some 40, .slice _ _ _ _ _, _, _, _, _⟩) (by with_unfolding_all rfl) (.slice r.A m r.c) w6 (exec_uptoz Tryd.underlying33 size25 HM.out.2.1 rfl rfl rfl) ?_)
        | (at_builtin; refine wpList_appendG (f := ic) w6 (o := ⟨some 41, _, _, _, _, _⟩) rfl (.tmp 33) (.tmp 40) 33 rfl 23 i0 (iv zeroI) 32 Tryd.underlying33 HI.out.1 HI.out.2.1 HI.out.2.2.1 HI.out.2.2.2 rfl (by decide) ic_length ic_one A9 0 0 [] rfl rfl O9 r.A m r.c q rfl HM.out.2.2.1 RL (by rw [← HM.out.2.2.1]; have := HM.out.2.2.2; simp; omega) (by rw [← HM.out.2.2.1]; have := HM.out.2.2.2; have h9 := m200; simp; omega) ?_
           intro A1 c1 w7 O1 m7 q7
           rw [List.nil_append, ← HM.out.2.2.1]
           rw [List.nil_append] at O1
           have n1 : ∀ i ∈ blk A1, w5.heap.size ≤ i := fun i hi => by
             obtain ⟨a', ha, rfl⟩ := mem_blk hi
             rcases q7 a' ha with h | h
             · exact n9 _ h
             · omega
           replace h8 := h8.keep m7 (fun hi => by have := n9 _ hi; omega)
           have mm7 : Mod [] w w7 := mm.trans m7 (fun i hi hh => by have := n9 i hh; have := mm5.size; omega)
           clear RL O9 mm q7 n9)
        | (with_reducible refine wpList_none33 (o := ⟨some 42, .buildSlice 33 0 #[], _, _, _, _⟩) rfl rfl ?_
           intro w8 O9 m8 z8
           obtain ⟨A9, hA9⟩ : ∃ q : Option Addr, q = some ⟨w7.heap.size, 0, none⟩ := ⟨_, rfl⟩
           rw [← hA9] at O9 ⊢
           have n9 : ∀ i ∈ blk A9, w7.heap.size ≤ i := fun i hi => by rw [hA9] at hi; simp [blk] at hi; omega
           have h8n7 := h8.lt
           have hlt1 := O1.lt
           replace h8 := h8.keep m8 (by simp)
           replace O1 := O1.keep m8 (by simp)
           have mm8 := mm7.then m8
           have s78 := m8.size
           clear z8 hA9 m8)
        | (at_builtin; refine wpList_appendG (f := ic) w8 (o := ⟨some 44, _, _, _, _, _⟩) rfl (.tmp 42) (.tmp 43) 33 rfl 23 i0 (iv zeroI) 32 Tryd.underlying33 HI.out.1 HI.out.2.1 HI.out.2.2.1 HI.out.2.2.2 rfl (by decide) ic_length ic_one A9 0 0 [] rfl rfl O9 A1 m c1 q rfl HM.out.2.2.1 O1.cells (by rw [← HM.out.2.2.1]; have := HM.out.2.2.2; simp; omega) (by rw [← HM.out.2.2.1]; have := HM.out.2.2.2; have h9 := m200; simp; omega) ?_
           intro A2 c2 w9 O2 m9 q9
           rw [List.nil_append, ← HM.out.2.2.1]
           rw [List.nil_append] at O2
           replace h8 := h8.keep m9 (fun hi => by have := n9 _ hi; omega)
           replace O1 := O1.keep m9 (fun a' ha hi => by have := n9 _ hi; have := hlt1 a' ha; omega)
           have mm9 : Mod [] w w9 := mm8.trans m9 (fun i hi hh => by have := n9 i hh; have := mm7.size; omega)
           clear O9 mm8 mm7 q9 n9)
        | (with_reducible refine wpList_loads (o := ⟨some 47, .load 23 (.tmp 46), _, _, _, _⟩) rfl 23 (.tmp 46) rfl b8 0 _ rfl (pf_k h8) _ Tryd.underlying23 rfl (size25i r.k) (iv r.k) rfl ?_)
        | (with_reducible refine wpList_load1 (o := ⟨some 49, .load 3 (.tmp 48), _, _, _, _⟩) rfl 3 (.tmp 48) rfl ⟨b8, 32, none⟩ (.int .i64 r.i) rfl _ Tryd.underlying3 rfl (pf_i h8) ?_)
        | (go_at_call 21; refine (CL3 A1 c1 _).mono ?_
           rintro e u1 ⟨rfl, n1'⟩
           replace h8 := h8.keep n1' (by simp)
           replace O1 := O1.keep n1' (by simp)
           replace O2 := O2.keep n1' (by simp)
           replace mm9 := mm9.then n1'
           clear n1')
        | (with_reducible refine wpList_allocs (o := ⟨some 11, .alloc 23, _, _, _, _⟩) rfl 23 rfl _ zeroI_25 ?_; intro y6 hy6 my6 zy6)
        | (with_reducible refine wpList_storesAll (o := ⟨none, .store 23 (.tmp 11) (.tmp 52), _, _, _, _⟩) rfl 23 (.tmp 11) (.tmp 52) rfl rfl u1.heap.size (ic zeroI) rfl (iv zeroI) rfl rfl 23 _ hy6 (by simp only [ic_length]) (ic_one zeroI) (size25i zeroI) ?_
           intro u2 h11 m5 z5
           have mx : Mod [] u1 u2 := my6.trans m5 (by intro i hi h; simp at h; omega)
           replace h8 := h8.keep mx (by simp)
           replace O1 := O1.keep mx (by simp)
           replace O2 := O2.keep mx (by simp)
           replace mm9 := mm9.then mx
           obtain ⟨b11, hq11⟩ : ∃ q, q = u1.heap.size := ⟨_, rfl⟩
           rw [← hq11] at h11 ⊢
           clear hy6 my6 zy6 m5 z5 mx hq11)
        | (with_reducible refine wpList_ranW (o := ⟨some 54, .build 23 _, _, _, _, _⟩) (by with_unfolding_all rfl) (iv zeroI) _ (exec_zb rfl) ?_)
        | (with_reducible refine wpList_allocs (o := ⟨some 14, .alloc 23, _, _, _, _⟩) rfl 23 rfl _ zeroI_25 ?_; intro y7 hy7 my7 zy7)
        | (with_reducible refine wpList_storesAll (o := ⟨none, .store 23 (.tmp 14) (.tmp 54), _, _, _, _⟩) rfl 23 (.tmp 14) (.tmp 54) rfl rfl u2.heap.size (ic zeroI) rfl (iv zeroI) rfl rfl 23 _ hy7 (by simp only [ic_length]) (ic_one zeroI) (size25i zeroI) ?_
           intro u3 h14 m5 z5
           have mx : Mod [] u2 u3 := my7.trans m5 (by intro i hi h; simp at h; omega)
           have h811 := h8.lt
           have h1114 := h11.lt
           have hl1 := O1.lt
           have hl2 := O2.lt
           have hw14 := mm9.size
           replace h8 := h8.keep mx (by simp)
           replace h11 := h11.keep mx (by simp)
           replace O1 := O1.keep mx (by simp)
           replace O2 := O2.keep mx (by simp)
           replace mm9 := mm9.then mx
           obtain ⟨b14, hq14⟩ : ∃ q, q = u2.heap.size := ⟨_, rfl⟩
           rw [← hq14] at h14 h811 h1114 hl1 hl2 hw14 ⊢
           clear hy7 my7 zy7 m5 z5 mx hq14)
        | (with_reducible refine wpList_load1 (o := ⟨some 63, .load 3 (.tmp 62), _, _, _, _⟩) rfl 3 (.tmp 62) rfl ⟨b8, 32, none⟩ (.int .i64 r.i) rfl _ Tryd.underlying3 rfl (pf_i h8) ?_)
        | (with_reducible refine wpList_ranW (o := ⟨some 67, .load 3 (.tmp 66), _, _, _, _⟩) (by with_unfolding_all rfl) (.int .i64 r.i) _ (exec_pfi h8 rfl rfl) ?_)
        | (with_reducible refine wpList_ranW (o := ⟨some 78, .load 23 (.tmp 11), _, _, _, _⟩) (by with_unfolding_all rfl) (iv zeroI) _ (exec_load rfl rfl (run_loads (Cells.of_holds h11) Tryd.underlying23 rfl (size25i zeroI))) ?_)
        | (with_reducible refine wpList_ranW (o := ⟨some 79, .load 23 (.tmp 14), _, _, _, _⟩) (by with_unfolding_all rfl) (iv zeroI) _ (exec_load rfl rfl (run_loads (Cells.of_holds h14) Tryd.underlying23 rfl (size25i zeroI))) ?_)
        | (with_reducible refine wpList_ranW (o := ⟨some 80, .binOp _ _ _ _ _, _, _, _, _⟩) (by with_unfolding_all rfl) (.bool false) _ (exec_ne25f rfl rfl rfl) ?_)
        | (go_at_call 17; refine (lawSame_c q A1 A2 m c1 c2 HM.out.2.2.1 (by have := HM.out.2.2.2; omega) _ O1.cells O2.cells).mono ?_
           rintro e u9 ⟨rfl, n9'⟩))
        exact ⟨⟨k + 1, by omega, by go_num, mm9.then n9'⟩, by simp [intOf]; omega⟩
      · obtain rfl : k = 16 := by omega
        obtain ⟨g, oo, hA, hcp⟩ := (HR.out.2.1.keep mm (by simp)).elem' pfc 34 (by omega) pfc_length 16 (by rw [← HR.out.1]; exact hkn)
        subst hA
        obtain ⟨r, hr⟩ : ∃ z, z = ps[16]'(by rw [← HR.out.1]; exact hkn) := ⟨_, rfl⟩
        rw [← hr] at hcp
        clear hr HR
        go_wp2_with (first
          | (with_reducible refine wpList_loads (o := ⟨some 30, .load 43 (.tmp 29), _, _, _, _⟩) rfl 43 (.tmp 29) rfl g (oo + 16 * 34) _ rfl hcp _ Tryd.underlying43 rfl (size43 r) (.agg (pfc r).toArray) rfl ?_)
          | (with_reducible refine wpList_allocs (o := ⟨some 8, .alloc 43, _, _, _, _⟩) rfl 43 rfl _ zero43 ?_; intro y5 hy5 my5 zy5)
          | (with_reducible refine wpList_storesAll (o := ⟨none, .store 43 (.tmp 8) (.tmp 30), _, _, _, _⟩) rfl 43 (.tmp 8) (.tmp 30) rfl rfl wr.heap.size (pfc r) rfl (.agg (pfc r).toArray) rfl rfl 43 _ hy5 (by simp only [pfc_length]) (pfc_one r) (size43 r) ?_
             intro w5 h8 m5 z5
             have mx : Mod [] wr w5 := my5.trans m5 (by intro i hi h; simp at h; omega)))
        go_ret
        exact ⟨rfl, mm.then mx⟩
    · have hkZ : ¬ (k : Int) < (N : Int) := by omega
      clear HR
      go_wp2_with fail
      go_ret
      exact ⟨rfl, mm⟩
end Go.Proofs.YtbacmeaeehhhfaaDoor
