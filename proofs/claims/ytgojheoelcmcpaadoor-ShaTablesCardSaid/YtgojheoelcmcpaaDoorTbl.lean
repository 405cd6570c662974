/-
  ShaTables: the walk. My own work.
-/
import Derived.Test.YtgojheoelcmcpaaDoorTab
namespace Go.Proofs.YtgojheoelcmcpaaDoor
open Go.RowKit
theorem exec_ne24s {v : World} {o : Oper} {ρ : Operand → Value} {x y : Operand} {L : List UInt32} (hL : L.length = 64) (ho : o.op = .binOp .neq 24 x y 24) (hx : ρ x = .agg (L.map wd).toArray) (hy : ρ y = .agg (L.map wd).toArray) : (execOp ρ o).run Tryd.prog v = .ok (.value (.bool false)) v := by
  rw [exec_ne24 hL hL ho hx hy]; simp
theorem exec_ne26s {v : World} {o : Oper} {ρ : Operand → Value} {x y : Operand} {L : List UInt32} (hL : L.length = 8) (ho : o.op = .binOp .neq 26 x y 26) (hx : ρ x = .agg (L.map wd).toArray) (hy : ρ y = .agg (L.map wd).toArray) : (execOp ρ o).run Tryd.prog v = .ok (.value (.bool false)) v := by
  rw [exec_ne26 hL hL ho hx hy]; simp
theorem exec_eqw {v : World} {o : Oper} {ρ : Operand → Value} {x y : Operand} {z : UInt32} (ho : o.op = .binOp .eql 23 x y 23) (hx : ρ x = wd z) (hy : ρ y = wd z) : (execOp ρ o).run Tryd.prog v = .ok (.value (.bool true)) v := by
  unfold execOp
  simp [ho, hx, hy, go_sem]
set_option maxRecDepth 1000000 in
set_option maxHeartbeats 8000000 in
theorem tables_w (i : Int) (_hi : (Lit.int .i64 i).wf = true) (w : World) (G : Cells w (some ⟨0, 0, none⟩) (Kc.map wd)) (G1 : Cells w (some ⟨1, 0, none⟩) (Sc.map wd)) :
    Calls Tryd.prog 3 #[.int .i64 i] w fun e w' => e = .returned (.bool true) ∧ Mod [] w w' := by
  have hW := wakes_c w G G1
  have hC := fun (v : World) (m : Mod [] w v) => constants_c Kc Kc_length v (G.keep m (by simp))
  have hS := fun (v : World) (m : Mod [] w v) => start_c Sc Sc_length v (G1.keep m (by simp))
  have HH := Lib.hid (And.intro hW (And.intro hC hS))
  clear hW hC hS G G1
  go_enter Tryd.func3, Tryd.ntmps3
  go_wp2_with fail
  refine HH.out.1.mono ?_
  rintro e w1 ⟨rfl, m1⟩
  go_wp2_with fail
  refine (HH.out.2.1 _ m1).mono ?_
  rintro e w2 ⟨rfl, m2⟩
  replace m2 := m1.then m2
  clear m1
  go_wp2_with fail
  refine (HH.out.2.2 _ m2).mono ?_
  rintro e w3 ⟨rfl, m3⟩
  replace m3 := m2.then m3
  clear m2
  go_wp2_with (first
    | (with_reducible refine wpList_allocs (o := ⟨some 3, .alloc 24, _, _, _, _⟩) rfl 24 rfl _ zero24 ?_; intro v1 hb3 m4 z4; replace z4 := Lib.hid z4)
    | (with_reducible refine wpList_allocs (o := ⟨some 4, .alloc 26, _, _, _, _⟩) rfl 26 rfl _ zero26 ?_; intro v2 hb4 m5 z5; replace z5 := Lib.hid z5)
    | (with_reducible refine wpList_storesAll (o := ⟨none, .store 24 (.tmp 3) (.tmp 8), _, _, _, _⟩) rfl 24 (.tmp 3) (.tmp 8) rfl rfl w3.heap.size (Kc.map wd) rfl (.agg (Kc.map wd).toArray) rfl rfl 24 _ (hb3.keep m5 (by simp)) (by rw [List.length_map, List.length_map, Kc_length, List.length_replicate]) (words_one _) (size24_of _ Kc_length) ?_; intro v3 D3 m6 z6; replace z6 := Lib.hid z6)
    | (with_reducible refine wpList_storesAll (o := ⟨none, .store 26 (.tmp 4) (.tmp 9), _, _, _, _⟩) rfl 26 (.tmp 4) (.tmp 9) rfl rfl v1.heap.size (Sc.map wd) rfl (.agg (Sc.map wd).toArray) rfl rfl 26 _ (hb4.keep m6 (by have := z4.out; simp; omega)) (by rw [List.length_map, List.length_map, Sc_length, List.length_replicate]) (words_one _) (size26_of _ Sc_length) ?_; intro v4 D4 m7 z7; replace z7 := Lib.hid z7))
  obtain ⟨g3, e3⟩ : ∃ b, b = w3.heap.size := ⟨_, rfl⟩
  obtain ⟨g4, e4⟩ : ∃ b, b = v1.heap.size := ⟨_, rfl⟩
  have mm : Mod [] w v4 := ((m3.then (m4.then m5)).trans m6 (by intro i hi h; have := m3.size; simp at h; omega)).trans m7 (by intro i hi h; have := m3.size; have := z4.out; simp at h; omega)
  have D3n : Holds v4 w3.heap.size 24 (Kc.map wd) := D3.keep m7 (by have := z4.out; simp; omega)
  have D3' : Holds v4.drew w3.heap.size 24 (Kc.map wd) := D3n
  have D4' : Holds v4.drew v1.heap.size 26 (Sc.map wd) := D4
  clear D3 D4 D3n
  have D3 := D3'
  have D4 := D4'
  clear D3' D4'
  rw [← e3] at D3 ⊢
  rw [← e4] at D4 ⊢
  clear e3 e4 hb3 hb4 m3 m4 m5 m6 m7 z4 z5 z6 z7 HH
  refine wp_region_lit1 [.int .i64 i, undef, .bool false, .pointer (some ⟨g3, 0, none⟩), .pointer (some ⟨g4, 0, none⟩), undef, .bool true, .bool false, .agg (Kc.map wd).toArray, .agg (Sc.map wd).toArray, .agg (Kc.map wd).toArray, .agg (Kc.map wd).toArray, .bool false, .bool false, .agg (Sc.map wd).toArray, .agg (Sc.map wd).toArray, .bool false, .bool false, undef, undef, undef, undef, undef, undef, undef, undef, undef, undef, undef] 29 [0, 1, 2, 3, 4, 5, 6, 7, 8, 9, 18, 19, 20, 21, 22, 23, 24, 25, 26, 27, 28]
    (fun _ v => Mod [] v4.drew v) []
    (by kernel_rfl) rfl rfl rfl rfl (Mod.refl _ _) (by kernel_rfl) (by kernel_rfl) ?step ?fin
  case step =>
    intro lz T v j o hj hlj hdep hst hpar hgot hcl K hK
    have hjn : j < 8 := (Array.getElem?_eq_some_iff.1 hj).1
    obtain rfl | rfl | rfl | rfl | rfl | rfl | rfl | rfl : j = 0 ∨ j = 1 ∨ j = 2 ∨ j = 3 ∨ j = 4 ∨ j = 5 ∨ j = 6 ∨ j = 7 := by omega
    all_goals (have hj' := Option.some.inj (hj : some _ = some o); subst hj'; clear hj)
    · exact wp_ran rfl (exec_load rfl (eval_tmp (hpar 3 (by simp))) (run_loads (Cells.of_holds (D3.keep hst (by simp))) Tryd.underlying24 rfl (size24_of _ Kc_length))) (hK _ _ (fun s hs => by cases hs; rfl) hst)
    · exact wp_called rfl (exec_call0 rfl rfl (enters_of Tryd.func13 (by kernel_rfl) rfl)) ((written_c _).mono (fun e v' hh => ⟨_, hh.1, hK _ _ (fun s hs => by cases hs; rfl) (hst.then hh.2)⟩))
    · exact wp_ran rfl (exec_ne24s Kc_length rfl (eval_tmp (hgot 0 _ 10 rfl (hdep ⟨0, .data⟩ (by simp) rfl) rfl)) (eval_tmp (hgot 1 _ 11 rfl (hdep ⟨1, .data⟩ (by simp) rfl) rfl))) (hK _ _ (fun s hs => by cases hs; rfl) hst)
    · exact wp_ran rfl (exec_move rfl (eval_tmp (hgot 2 _ 12 rfl (hdep ⟨2, .data⟩ (by simp) rfl) rfl))) (hK _ _ (fun s hs => by cases hs; rfl) hst)
    · exact wp_ranW (wanted_yes rfl rfl rfl (hgot 3 _ 13 rfl (hdep ⟨3, .guard⟩ (by simp) rfl) rfl)) (exec_load rfl (eval_tmp (hpar 4 (by simp))) (run_loads (Cells.of_holds (D4.keep hst (by simp))) Tryd.underlying26 rfl (size26_of _ Sc_length))) (hK _ _ (fun s hs => by cases hs; rfl) hst)
    · exact wp_calledW (wanted_yes rfl rfl rfl (hgot 3 _ 13 rfl (hdep ⟨3, .guard⟩ (by simp) rfl) rfl)) (exec_call0 rfl rfl (enters_of Tryd.func14 (by kernel_rfl) rfl)) ((rstart_c _).mono (fun e v' hh => ⟨_, hh.1, hK _ _ (fun s hs => by cases hs; rfl) (hst.then hh.2)⟩))
    · exact wp_ranW (wanted_yes rfl rfl rfl (hgot 3 _ 13 rfl (hdep ⟨3, .guard⟩ (by simp) rfl) rfl)) (exec_ne26s Sc_length rfl (eval_tmp (hgot 4 _ 14 rfl (hdep ⟨4, .data⟩ (by simp) rfl) rfl)) (eval_tmp (hgot 5 _ 15 rfl (hdep ⟨5, .data⟩ (by simp) rfl) rfl))) (hK _ _ (fun s hs => by cases hs; rfl) hst)
    · exact wp_ran rfl (exec_pick rfl (eval_tmp (hgot 3 _ 13 rfl (hdep ⟨3, .data⟩ (by simp) rfl) rfl)) rfl (eval_tmp (hgot 6 _ 16 rfl (hdep ⟨6, .data⟩ (by simp) rfl) rfl)) rfl) (hK _ _ (fun s hs => by cases hs; rfl) hst)
  case fin =>
    intro lz v hl hst
    have mn := mm.then (Mod.drewed hst)
    have n3 := Holds.keep (w := v4.drew) D3 hst (by simp)
    clear hst hl D3 D4 mm
    have hX0 : 0 ≤ IntKind.u64.wrap i := by rw [IntKind.wrap_u64]; exact Int.emod_nonneg _ (by decide)
    obtain ⟨at', hat⟩ : ∃ n : Nat, (IntKind.u64.wrap i).tmod 64 = (n : Int) := ⟨((IntKind.u64.wrap i).tmod 64).toNat, by rw [Int.tmod_eq_emod_of_nonneg hX0]; omega⟩
    have hlt : at' < 64 := by rw [Int.tmod_eq_emod_of_nonneg hX0] at hat; omega
    have hlt' : (at' : Int) < 64 := by omega
    clear hX0
    try dsimp only
    go_wp2_with fail
    refine wp_region_lit1 [.int .i64 i, undef, .bool true, .pointer (some ⟨g3, 0, none⟩), .pointer (some ⟨g4, 0, none⟩), .int .i64 (at' : Int), .bool true, .bool false, .agg (Kc.map wd).toArray, .agg (Sc.map wd).toArray, .agg (Kc.map wd).toArray, .agg (Kc.map wd).toArray, .bool false, .bool false, .agg (Sc.map wd).toArray, .agg (Sc.map wd).toArray, .bool false, .bool false, .int .i64 i, .int .u64 (IntKind.u64.wrap i), .int .u64 (at' : Int), .int .i64 (at' : Int), .int .i64 (at' : Int), .pointer (some ⟨g3, 0 + at', none⟩), wd (g0 Kc at'), .int .i64 (at' : Int), .int .u64 (prime at' : Int), wd (g0 Kc at'), .bool true] 29 [0, 1, 3, 4, 5, 6, 7, 8, 9, 10, 11, 12, 13, 14, 15, 16, 17, 18, 19, 20, 21]
      (fun _ u => Mod [] v.drew u) []
      (by kernel_rfl) rfl rfl rfl rfl (Mod.refl _ _) (by kernel_rfl) (by kernel_rfl) ?step ?fin
    case step =>
      intro lz T u j o hj hlj hdep hst hpar hgot hcl K hK
      have hjn : j < 8 := (Array.getElem?_eq_some_iff.1 hj).1
      obtain rfl | rfl | rfl | rfl | rfl | rfl | rfl | rfl : j = 0 ∨ j = 1 ∨ j = 2 ∨ j = 3 ∨ j = 4 ∨ j = 5 ∨ j = 6 ∨ j = 7 := by omega
      all_goals (have hj' := Option.some.inj (hj : some _ = some o); subst hj'; clear hj)
      · exact wp_ran rfl (exec_move rfl (eval_tmp (hpar 5 (by simp)))) (hK _ _ (fun s hs => by cases hs; rfl) hst)
      · exact wp_ran rfl (exec_at Tryd.underlying24 info23 hlt rfl (eval_tmp (hpar 3 (by simp))) (eval_tmp (hgot 0 _ 22 rfl (hdep ⟨0, .data⟩ (by simp) rfl) rfl))) (hK _ _ (fun s hs => by cases hs; rfl) hst)
      · exact wp_ran rfl (exec_load rfl (eval_tmp (hgot 1 _ 23 rfl (hdep ⟨1, .data⟩ (by simp) rfl) rfl)) (word_load (Holds.keep (w := v.drew) n3 hst (by simp)) (by rw [Kc_length]; exact hlt))) (hK _ _ (fun s hs => by cases hs; rfl) hst)
      · exact wp_ran rfl (exec_move rfl (eval_tmp (hpar 5 (by simp)))) (hK _ _ (fun s hs => by cases hs; rfl) hst)
      · exact wp_called rfl (exec_call1 rfl rfl (eval_tmp (hgot 3 _ 25 rfl (hdep ⟨3, .data⟩ (by simp) rfl) rfl)) (enters_of Tryd.func16 (by kernel_rfl) rfl)) ((prime_c at' hlt _).mono (fun e v' hh => ⟨_, hh.1, hK _ _ (fun s hs => by cases hs; rfl) (by rw [hh.2]; exact hst)⟩))
      · exact wp_called rfl (exec_call2 rfl rfl (eval_tmp (hgot 4 _ 26 rfl (hdep ⟨4, .data⟩ (by simp) rfl) rfl)) rfl (enters_of Tryd.func15 (by kernel_rfl) rfl)) ((root_at at' hlt _).mono (fun e v' hh => ⟨_, hh.1, hK _ _ (fun s hs => by cases hs; rfl) (by rw [hh.2]; exact hst)⟩))
      · exact wp_ran rfl (exec_eqw rfl (eval_tmp (hgot 2 _ 24 rfl (hdep ⟨2, .data⟩ (by simp) rfl) rfl)) (eval_tmp (hgot 5 _ 27 rfl (hdep ⟨5, .data⟩ (by simp) rfl) rfl))) (hK _ _ (fun s hs => by cases hs; rfl) hst)
      · exact wp_ran rfl (exec_assign rfl (eval_tmp (hgot 6 _ 28 rfl (hdep ⟨6, .data⟩ (by simp) rfl) rfl))) (hK _ _ (fun s hs => by cases hs; rfl) hst)
    case fin =>
      intro lz u hl hst
      have mf := mn.then (Mod.drewed hst)
      clear hst hl n3 mn
      try dsimp only
      go_wp2_with fail
      go_ret
      exact ⟨rfl, mf⟩
end Go.Proofs.YtgojheoelcmcpaaDoor
