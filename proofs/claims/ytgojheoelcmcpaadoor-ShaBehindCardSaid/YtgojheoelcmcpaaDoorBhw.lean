/-
  ShaBehind: the walk. My own work.
-/
import Derived.Test.YtgojheoelcmcpaaDoorRbk
namespace Go.Proofs.YtgojheoelcmcpaaDoor
open Go.RowKit
theorem exec_eq26s {v : World} {o : Oper} {ρ : Operand → Value} {x y : Operand} {L : List UInt32} (hL : L.length = 8) (ho : o.op = .binOp .eql 26 x y 26) (hx : ρ x = .agg (L.map wd).toArray) (hy : ρ y = .agg (L.map wd).toArray) : (execOp ρ o).run Tryd.prog v = .ok (.value (.bool true)) v := by
  rw [exec_eq26 hL hL ho hx hy]; simp
theorem exec_all {P : Program} {v : World} {o : Oper} {ρ : Operand → Value} {t e : TypeId} {x : Operand} {g m : Nat} (hu : P.underlying t = some (.array m e)) (he : (P.info? e).map (·.size) = some 1) (ho : o.op = .slice t x none none none) (hx : ρ x = .pointer (some ⟨g, 0, none⟩)) :
    (execOp ρ o).run P v = .ok (.value (.slice (some ⟨g, 0, none⟩) m m)) v := by
  unfold execOp
  cases hq : P.info? e with
  | none => rw [hq] at he; cases he
  | some it =>
    simp [ho, hx, Instr.sliceAt, Instr.sliceBounds, Sem.run_bind, run_underlying hu, go_sem, sizeOf, typeInfo, hq]
set_option maxRecDepth 1000000 in
set_option maxHeartbeats 8000000 in
theorem behind_w (h : List UInt32) (b : List UInt8) (hh : h.length = 8) (hb : b.length = 64) (w : World) (G : Cells w (some ⟨0, 0, none⟩) (Kc.map wd)) (G1 : Cells w (some ⟨1, 0, none⟩) (Sc.map wd)) :
    Calls Tryd.prog 4 #[.agg (h.map wd).toArray, .agg (b.map oct).toArray] w fun e w' => e = .returned (.bool true) ∧ Mod [] w w' := by
  have hW := fun (v : World) (m : Mod [] w v) => wakes_c v (G.keep m (by simp)) (G1.keep m (by simp))
  have hBk := fun (v : World) (m : Mod [] w v) => block_c Kc h b Kc_length hh hb v (G.keep m (by simp))
  have hl := blkN_length Kc h (first16 b) hh
  have HB := Lib.hid (And.intro hh (And.intro hb (And.intro hBk hl)))
  have HW := Lib.hid hW
  clear hh hb hBk hl hW G G1
  go_enter Tryd.func4, Tryd.ntmps4
  go_wp2_with (first
    | (with_reducible refine wpList_boxes (o := ⟨some 2, .box 26 (.tmp 0), _, _, _, _⟩) rfl 26 (.tmp 0) rfl _ rfl (h.map wd) rfl ?_; intro w1 b2 m1 z1; replace z1 := Lib.hid z1)
    | (with_reducible refine wpList_boxes (o := ⟨some 3, .box 33 (.tmp 1), _, _, _, _⟩) rfl 33 (.tmp 1) rfl _ rfl (b.map oct) rfl ?_; intro w2 b3 m2 z2; replace z2 := Lib.hid z2))
  obtain ⟨g2, e2⟩ : ∃ g, g = w.heap.size := ⟨_, rfl⟩
  obtain ⟨g3, e3⟩ : ∃ g, g = w1.heap.size := ⟨_, rfl⟩
  have k2 := b2.keep m2 (by simp)
  rw [← e2] at k2 ⊢
  rw [← e3] at b3 ⊢
  refine (HW.out _ (m1.then m2)).mono ?_
  rintro e w4 ⟨rfl, m4⟩
  have f2 := k2.keep m4 (by simp)
  have f3 := b3.keep m4 (by simp)
  have d2 : Holds w4.drew g2 26 (h.map wd) := f2
  have d3 : Holds w4.drew g3 33 (b.map oct) := f3
  have mm := (m1.then m2).then m4
  clear e2 e3 f2 f3 k2 b2 b3 m1 m2 m4 z1 z2
  go_wp2_with fail
  refine wp_region_lit1 [.agg ((h).map wd).toArray, .agg (b.map oct).toArray, .pointer (some ⟨g2, 0, none⟩), .pointer (some ⟨g3, 0, none⟩), .bool true, .bool true, .bool false, .agg ((h).map wd).toArray, .agg (b.map oct).toArray, .agg ((blkN Kc h (first16 b)).map wd).toArray, .agg ((h).map wd).toArray, .slice (some ⟨g3, 0, none⟩) 64 64, .agg ((Kc).map wd).toArray, .agg ((blkN Kc h (first16 b)).map wd).toArray, .bool true] 15 [0, 1, 2, 3, 5, 6]
    (fun _ v => Mod [] w4.drew v) []
    (by kernel_rfl) rfl rfl rfl rfl (Mod.refl _ _) (by kernel_rfl) (by kernel_rfl) ?step ?fin
  case step =>
    intro lz T v j o hj hlj hdep hst hpar hgot hcl K hK
    have hjn : j < 9 := (Array.getElem?_eq_some_iff.1 hj).1
    obtain rfl | rfl | rfl | rfl | rfl | rfl | rfl | rfl | rfl : j = 0 ∨ j = 1 ∨ j = 2 ∨ j = 3 ∨ j = 4 ∨ j = 5 ∨ j = 6 ∨ j = 7 ∨ j = 8 := by omega
    all_goals (have hj' := Option.some.inj (hj : some _ = some o); subst hj'; clear hj)
    · exact wp_ran rfl (exec_load rfl (eval_tmp (hpar 2 (by simp))) (run_loads (Cells.of_holds (Holds.keep (w := w4.drew) d2 hst (by simp))) Tryd.underlying26 rfl (size26_of _ HB.out.1))) (hK _ _ (fun s hs => by cases hs; rfl) hst)
    · exact wp_ran rfl (exec_load rfl (eval_tmp (hpar 3 (by simp))) (run_loads (Cells.of_holds (Holds.keep (w := w4.drew) d3 hst (by simp))) Tryd.underlying33 rfl (by rw [List.length_map, HB.out.2.1]; exact size33))) (hK _ _ (fun s hs => by cases hs; rfl) hst)
    · exact wp_called rfl (exec_call2 rfl rfl (eval_tmp (hgot 0 _ 7 rfl (hdep ⟨0, .data⟩ (by simp) rfl) rfl)) (eval_tmp (hgot 1 _ 8 rfl (hdep ⟨1, .data⟩ (by simp) rfl) rfl)) (enters_of Tryd.func17 (by kernel_rfl) rfl)) ((HB.out.2.2.1 _ (mm.then (Mod.drewed hst))).mono (fun e v' hh => ⟨_, hh.1, hK _ _ (fun s hs => by cases hs; rfl) (hst.then hh.2)⟩))
    · exact wp_ran rfl (exec_load rfl (eval_tmp (hpar 2 (by simp))) (run_loads (Cells.of_holds (Holds.keep (w := w4.drew) d2 hst (by simp))) Tryd.underlying26 rfl (size26_of _ HB.out.1))) (hK _ _ (fun s hs => by cases hs; rfl) hst)
    · exact wp_ran rfl (exec_all Tryd.underlying33 u8_one rfl (eval_tmp (hpar 3 (by simp)))) (hK _ _ (fun s hs => by cases hs; rfl) hst)
    · exact wp_called rfl (exec_call0 rfl rfl (enters_of Tryd.func19 (by kernel_rfl) rfl)) ((rconst_c _).mono (fun e v' hh => ⟨_, hh.1, hK _ _ (fun s hs => by cases hs; rfl) (hst.then hh.2)⟩))
    · exact wp_called rfl (exec_call3 rfl rfl (eval_tmp (hgot 3 _ 10 rfl (hdep ⟨3, .data⟩ (by simp) rfl) rfl)) (eval_tmp (hgot 4 _ 11 rfl (hdep ⟨4, .data⟩ (by simp) rfl) rfl)) (eval_tmp (hgot 5 _ 12 rfl (hdep ⟨5, .data⟩ (by simp) rfl) rfl)) (enters_of Tryd.func18 (by kernel_rfl) rfl)) ((rblock_c (some ⟨g3, 0, none⟩) b 64 h Kc HB.out.2.1 (by omega) (by unfold maxLen; omega) HB.out.1 Kc_length _ (Reads.of_holds (Holds.keep (w := w4.drew) d3 hst (by simp)))).mono (fun e v' hh => ⟨_, hh.1, hK _ _ (fun s hs => by cases hs; rfl) (hst.then hh.2)⟩))
    · exact wp_ran rfl (exec_eq26s HB.out.2.2.2 rfl (eval_tmp (hgot 2 _ 9 rfl (hdep ⟨2, .data⟩ (by simp) rfl) rfl)) (eval_tmp (hgot 6 _ 13 rfl (hdep ⟨6, .data⟩ (by simp) rfl) rfl))) (hK _ _ (fun s hs => by cases hs; rfl) hst)
    · exact wp_ran rfl (exec_assign rfl (eval_tmp (hgot 7 _ 14 rfl (hdep ⟨7, .data⟩ (by simp) rfl) rfl))) (hK _ _ (fun s hs => by cases hs; rfl) hst)
  case fin =>
    intro lz v hl hst
    have mf := mm.then (Mod.drewed hst)
    clear hst hl d2 d3 mm
    try dsimp only
    go_wp2_with fail
    go_ret
    exact ⟨rfl, mf⟩
end Go.Proofs.YtgojheoelcmcpaaDoor
