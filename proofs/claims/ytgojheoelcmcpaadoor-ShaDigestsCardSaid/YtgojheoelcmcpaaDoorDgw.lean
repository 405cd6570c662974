/-
  ShaDigits: the walk. My own work.
-/
import Derived.Test.YtgojheoelcmcpaaDoorRpr
namespace Go.Proofs.YtgojheoelcmcpaaDoor
open Go.RowKit
section
variable {v : World} {o : Oper} {ρ : Operand → Value} {x y : Operand}
theorem exec_eqs {b : ByteArray} (ho : o.op = .binOp .eql 9 x y 9) (hx : ρ x = .string b) (hy : ρ y = .string b) : (execOp ρ o).run Tryd.prog v = .ok (.value (.bool true)) v := by
  unfold execOp
  simp [ho, hx, hy, go_sem]
theorem exec_eqb {b : Bool} (ho : o.op = .binOp .eql 4 x y 4) (hx : ρ x = .bool b) (hy : ρ y = .bool b) : (execOp ρ o).run Tryd.prog v = .ok (.value (.bool true)) v := by
  unfold execOp
  have h := run_eql_bool (P := Tryd.prog) v 4 b b Tryd.underlying4
  simp [ho, hx, hy, go_sem, h]
theorem ne40_same {L : List UInt8} (hL : L.length = 32) (ho : o.op = .binOp .neq 40 x y 40) (hx : ρ x = .agg (L.map oct).toArray) (hy : ρ y = .agg (L.map oct).toArray) : (execOp ρ o).run Tryd.prog v = .ok (.value (.bool false)) v := by
  have h := exec_ne40 (v := v) hL hL ho hx hy
  rwa [decide_eq_true rfl] at h
end
set_option maxRecDepth 1000000 in
set_option maxHeartbeats 8000000 in
theorem digits_w (a b : List UInt8) (ha : a.length = 32) (hb : b.length = 32) (s : ByteArray) (w : World) (G : Cells w (some ⟨0, 0, none⟩) (Kc.map wd)) (G1 : Cells w (some ⟨1, 0, none⟩) (Sc.map wd)) :
    Calls Tryd.prog 6 #[.agg (a.map oct).toArray, .agg (b.map oct).toArray, .string s] w fun e w' => e = .returned (.bool true) ∧ Mod [] w w' := by
  have hW := fun (v : World) (m : Mod [] w v) => wakes_c v (G.keep m (by simp)) (G1.keep m (by simp))
  have hp := fun (v : World) => parse_c s v
  have hq := fun (v : World) => rparse_c s v
  have hpl := parsed_length s.data.toList
  obtain ⟨pz, hpz⟩ : ∃ pz, pz = parsed s.data.toList := ⟨_, rfl⟩
  obtain ⟨gd, hgd⟩ : ∃ gd, gd = good s.data.toList := ⟨_, rfl⟩
  rw [← hpz, ← hgd] at hp hq
  rw [← hpz] at hpl
  cases gd with
  | true =>
    have HW := Lib.hid (And.intro hW (And.intro hp (And.intro hq hpl)))
    have t1 := fun (v : World) => text_c a ha v
    have t2 := fun (v : World) => rtext_c a ha v
    have l1 := fun (v : World) => less_c a b ha hb v
    have l2 := fun (v : World) => rless_c a b ha hb v
    have l3 := fun (v : World) => less_c b a hb ha v
    have l4 := fun (v : World) => rless_c b a hb ha v
    have HB := Lib.hid (And.intro ha (And.intro hb (And.intro t1 (And.intro t2 (And.intro l1 (And.intro l2 (And.intro l3 l4)))))))
    clear hW hp hq hpl hpz hgd G G1 ha hb t1 t2 l1 l2 l3 l4
    go_enter Tryd.func6, Tryd.ntmps6
    go_wp2_with (first
      | (with_reducible refine wpList_boxes (o := ⟨some 3, .box 40 (.tmp 0), _, _, _, _⟩) rfl 40 (.tmp 0) rfl _ rfl (a.map oct) rfl ?_; intro w1 hb1 m1 z1; replace z1 := Lib.hid z1)
      | (with_reducible refine wpList_boxes (o := ⟨some 4, .box 40 (.tmp 1), _, _, _, _⟩) rfl 40 (.tmp 1) rfl _ rfl (b.map oct) rfl ?_; intro w2 hb2 m2 z2; replace z2 := Lib.hid z2))
    obtain ⟨g3, e1⟩ : ∃ b, b = w.heap.size := ⟨_, rfl⟩
    obtain ⟨g4, e2⟩ : ∃ b, b = w1.heap.size := ⟨_, rfl⟩
    have mm := m1.then m2
    replace hb1 := hb1.keep m2 (by simp)
    rw [← e1] at hb1
    rw [← e2] at hb2
    rw [← e1, ← e2]
    clear e1 e2 m1 m2 z1 z2
    refine (HW.out.1 _ mm).mono ?_
    rintro e w5 ⟨rfl, m5⟩
    have ha := hb1.keep m5 (by simp)
    have hb := hb2.keep m5 (by simp)
    replace mm := mm.then m5
    clear hb1 hb2 m5
    go_wp2_with fail
    refine (HW.out.2.1 _).mono ?_
    rintro e w6 ⟨rfl, m6⟩
    replace ha := ha.keep m6 (by simp)
    replace hb := hb.keep m6 (by simp)
    replace mm := mm.then m6
    clear m6
    have sz : (Tryd.prog.info? 40).map (·.size) = some (pz.map oct).length := size40_of _ HW.out.2.2.2
    have lz : (pz.map oct).length = ((List.replicate 32 (0 : UInt8)).map oct).length := by rw [List.length_map, HW.out.2.2.2]; rfl
    go_wp2_with (first
      | (with_reducible refine wpList_allocs (o := ⟨some 7, .alloc 40, _, _, _, _⟩) rfl 40 rfl _ zero40 ?_; intro w7 hb7 m7 z7; replace z7 := Lib.hid z7)
      | (with_reducible refine wpList_storesAll (o := ⟨none, .store 40 (.tmp 7) (.tmp 16), _, _, _, _⟩) rfl 40 (.tmp 7) (.tmp 16) rfl rfl w6.heap.size (pz.map oct) rfl (.agg (pz.map oct).toArray) rfl rfl 40 _ hb7 lz (octs_one _) sz ?_; intro w8 hc7 m8 z8; replace z8 := Lib.hid z8))
    have m78 : Mod [] w6 w8 := m7.trans m8 (by intro i hi h; simp at h; omega)
    replace ha := ha.keep m78 (by simp)
    replace hb := hb.keep m78 (by simp)
    replace mm := mm.then m78
    obtain ⟨g7, e7⟩ : ∃ b, b = w6.heap.size := ⟨_, rfl⟩
    rw [← e7] at hc7 ⊢
    clear e7 m7 m8 m78 z7 z8 hb7
    refine (HW.out.2.2.1 _).mono ?_
    rintro e w9 ⟨rfl, m9⟩
    replace ha := ha.keep m9 (by simp)
    replace hb := hb.keep m9 (by simp)
    replace hc7 := hc7.keep m9 (by simp)
    replace mm := mm.then m9
    clear m9
    go_wp2_with (first
      | (with_reducible refine wpList_allocs (o := ⟨some 9, .alloc 40, _, _, _, _⟩) rfl 40 rfl _ zero40 ?_; intro w10 hb9 m10 z10; replace z10 := Lib.hid z10)
      | (with_reducible refine wpList_storesAll (o := ⟨none, .store 40 (.tmp 9) (.tmp 21), _, _, _, _⟩) rfl 40 (.tmp 9) (.tmp 21) rfl rfl w9.heap.size (pz.map oct) rfl (.agg (pz.map oct).toArray) rfl rfl 40 _ hb9 lz (octs_one _) sz ?_; intro wr hc9 m11 z11; replace z11 := Lib.hid z11)
      | (with_reducible refine wpList_loadsW (o := ⟨some 36, .load 40 (.tmp 7), _, _, _, _⟩) (by with_unfolding_all rfl) 40 (.tmp 7) rfl g7 0 _ rfl (Cells.of_holds ((hc7.keep m10 (by simp)).keep m11 (by have := hc7.lt; simp; omega))) _ Tryd.underlying40 rfl sz (.agg (pz.map oct).toArray) rfl ?_)
      | (with_reducible refine wpList_loadsW (o := ⟨some 37, .load 40 (.tmp 9), _, _, _, _⟩) (by with_unfolding_all rfl) 40 (.tmp 9) rfl w9.heap.size 0 _ rfl (Cells.of_holds hc9) _ Tryd.underlying40 rfl sz (.agg (pz.map oct).toArray) rfl ?_)
      | (with_reducible refine wpList_ranW (o := ⟨some 38, .binOp .neq 40 (.tmp 36) (.tmp 37) 40, _, _, _, _⟩) (by with_unfolding_all rfl) (.bool false) _ (ne40_same HW.out.2.2.2 rfl rfl rfl) ?_))
    have m1011 : Mod [] w9 wr := m10.trans m11 (by intro i hi h; simp at h; omega)
    replace ha := ha.keep m1011 (by simp)
    replace hb := hb.keep m1011 (by simp)
    replace mm := mm.then m1011
    clear hc7 hc9 hb9 m10 m11 m1011 z10 z11
    obtain ⟨g9, e9⟩ : ∃ b, b = w9.heap.size := ⟨_, rfl⟩
    rw [← e9]
    clear e9
    go_wp2_with fail
    have ha : Holds wr.drew g3 40 (a.map oct) := ha
    have hb : Holds wr.drew g4 40 (b.map oct) := hb
    refine wp_region_lit1 [.agg (a.map oct).toArray, .agg (b.map oct).toArray, .string s, .pointer (some ⟨g3, 0, none⟩), .pointer (some ⟨g4, 0, none⟩), undef, .bool true, .pointer (some ⟨g7, 0, none⟩), .int .i64 0, .pointer (some ⟨g9, 0, none⟩), .bool true, .bool true, .bool false, .tuple #[.agg (pz.map oct).toArray, .int .i64 0], .string s, .tuple #[.agg (pz.map oct).toArray, .int .i64 0], .agg (pz.map oct).toArray, .int .i64 0, .tuple #[.agg (pz.map oct).toArray, .bool true], .string s, .tuple #[.agg (pz.map oct).toArray, .bool true], .agg (pz.map oct).toArray, .bool true, .bool true, .int .i64 0, .bool true, .bool false, .bool false, .bool true, .bool false, .bool false, undef, undef, .bool false, .bool false, .bool false, .agg (pz.map oct).toArray, .agg (pz.map oct).toArray, .bool false, .bool false, .agg (a.map oct).toArray, .string ⟨(textN a).toArray⟩, .agg (a.map oct).toArray, .string ⟨(textN a).toArray⟩, .bool true, .bool true, .agg (a.map oct).toArray, .agg (b.map oct).toArray, .bool (lessN a b), .agg (a.map oct).toArray, .agg (b.map oct).toArray, .bool (lessN a b), .bool true, .bool true, .bool true, .agg (b.map oct).toArray, .agg (a.map oct).toArray, .bool (lessN b a), .agg (b.map oct).toArray, .agg (a.map oct).toArray, .bool (lessN b a), .bool true, .bool true] 63 [0, 1, 2, 3, 4, 5, 7, 8, 9, 10, 11, 12, 13, 14, 15, 16, 17, 18, 19, 20, 21, 22, 23, 24, 25, 26, 27, 28, 29, 30, 31, 32, 33, 34, 35, 36, 37, 38, 39]
      (fun _ v => Mod [] wr.drew v) []
      (by kernel_rfl) rfl rfl rfl rfl (Mod.refl _ _) (by kernel_rfl) (by kernel_rfl) ?step ?fin
    case step =>
      intro lz T v j o hj hlj hdep hst hpar hgot hcl K hK
      have hjn : j < 24 := (Array.getElem?_eq_some_iff.1 hj).1
      obtain rfl | rfl | rfl | rfl | rfl | rfl | rfl | rfl | rfl | rfl | rfl | rfl | rfl | rfl | rfl | rfl | rfl | rfl | rfl | rfl | rfl | rfl | rfl | rfl : j = 0 ∨ j = 1 ∨ j = 2 ∨ j = 3 ∨ j = 4 ∨ j = 5 ∨ j = 6 ∨ j = 7 ∨ j = 8 ∨ j = 9 ∨ j = 10 ∨ j = 11 ∨ j = 12 ∨ j = 13 ∨ j = 14 ∨ j = 15 ∨ j = 16 ∨ j = 17 ∨ j = 18 ∨ j = 19 ∨ j = 20 ∨ j = 21 ∨ j = 22 ∨ j = 23 := by omega
      all_goals (have hj' := Option.some.inj (hj : some _ = some o); subst hj'; clear hj)
      · exact wp_ran rfl (exec_load rfl (eval_tmp (hpar 3 (by simp))) (run_loads (Cells.of_holds (ha.keep hst (by simp))) Tryd.underlying40 rfl (size40_of _ HB.out.1))) (hK _ _ (fun s hs => by cases hs; rfl) hst)
      · exact wp_called rfl (exec_call1 rfl rfl (eval_tmp (hgot 0 _ 40 rfl (hdep ⟨0, .data⟩ (by simp) rfl) rfl)) (enters_of Tryd.func28 (by kernel_rfl) rfl)) ((HB.out.2.2.1 _).mono (fun e v' hh => ⟨_, hh.1, hK _ _ (fun s hs => by cases hs; rfl) (hst.then hh.2)⟩))
      · exact wp_ran rfl (exec_load rfl (eval_tmp (hpar 3 (by simp))) (run_loads (Cells.of_holds (ha.keep hst (by simp))) Tryd.underlying40 rfl (size40_of _ HB.out.1))) (hK _ _ (fun s hs => by cases hs; rfl) hst)
      · exact wp_called rfl (exec_call1 rfl rfl (eval_tmp (hgot 2 _ 42 rfl (hdep ⟨2, .data⟩ (by simp) rfl) rfl)) (enters_of Tryd.func29 (by kernel_rfl) rfl)) ((HB.out.2.2.2.1 _).mono (fun e v' hh => ⟨_, hh.1, hK _ _ (fun s hs => by cases hs; rfl) (hst.then hh.2)⟩))
      · exact wp_ran rfl (exec_eqs rfl (eval_tmp (hgot 1 _ 41 rfl (hdep ⟨1, .data⟩ (by simp) rfl) rfl)) (eval_tmp (hgot 3 _ 43 rfl (hdep ⟨3, .data⟩ (by simp) rfl) rfl))) (hK _ _ (fun s hs => by cases hs; rfl) hst)
      · exact wp_ran rfl (exec_move rfl (eval_tmp (hgot 4 _ 44 rfl (hdep ⟨4, .data⟩ (by simp) rfl) rfl))) (hK _ _ (fun s hs => by cases hs; rfl) hst)
      · exact wp_ranW (wanted_yes rfl rfl rfl (hgot 5 _ 45 rfl (hdep ⟨5, .guard⟩ (by simp) rfl) rfl)) (exec_load rfl (eval_tmp (hpar 3 (by simp))) (run_loads (Cells.of_holds (ha.keep hst (by simp))) Tryd.underlying40 rfl (size40_of _ HB.out.1))) (hK _ _ (fun s hs => by cases hs; rfl) hst)
      · exact wp_ranW (wanted_yes rfl rfl rfl (hgot 5 _ 45 rfl (hdep ⟨5, .guard⟩ (by simp) rfl) rfl)) (exec_load rfl (eval_tmp (hpar 4 (by simp))) (run_loads (Cells.of_holds (hb.keep hst (by simp))) Tryd.underlying40 rfl (size40_of _ HB.out.2.1))) (hK _ _ (fun s hs => by cases hs; rfl) hst)
      · exact wp_calledW (wanted_yes rfl rfl rfl (hgot 5 _ 45 rfl (hdep ⟨5, .guard⟩ (by simp) rfl) rfl)) (exec_call2 rfl rfl (eval_tmp (hgot 6 _ 46 rfl (hdep ⟨6, .data⟩ (by simp) rfl) rfl)) (eval_tmp (hgot 7 _ 47 rfl (hdep ⟨7, .data⟩ (by simp) rfl) rfl)) (enters_of Tryd.func30 (by kernel_rfl) rfl)) ((HB.out.2.2.2.2.1 _).mono (fun e v' hh => ⟨_, hh.1, hK _ _ (fun s hs => by cases hs; rfl) (hst.then hh.2)⟩))
      · exact wp_ranW (wanted_yes rfl rfl rfl (hgot 5 _ 45 rfl (hdep ⟨5, .guard⟩ (by simp) rfl) rfl)) (exec_load rfl (eval_tmp (hpar 3 (by simp))) (run_loads (Cells.of_holds (ha.keep hst (by simp))) Tryd.underlying40 rfl (size40_of _ HB.out.1))) (hK _ _ (fun s hs => by cases hs; rfl) hst)
      · exact wp_ranW (wanted_yes rfl rfl rfl (hgot 5 _ 45 rfl (hdep ⟨5, .guard⟩ (by simp) rfl) rfl)) (exec_load rfl (eval_tmp (hpar 4 (by simp))) (run_loads (Cells.of_holds (hb.keep hst (by simp))) Tryd.underlying40 rfl (size40_of _ HB.out.2.1))) (hK _ _ (fun s hs => by cases hs; rfl) hst)
      · exact wp_calledW (wanted_yes rfl rfl rfl (hgot 5 _ 45 rfl (hdep ⟨5, .guard⟩ (by simp) rfl) rfl)) (exec_call2 rfl rfl (eval_tmp (hgot 9 _ 49 rfl (hdep ⟨9, .data⟩ (by simp) rfl) rfl)) (eval_tmp (hgot 10 _ 50 rfl (hdep ⟨10, .data⟩ (by simp) rfl) rfl)) (enters_of Tryd.func31 (by kernel_rfl) rfl)) ((HB.out.2.2.2.2.2.1 _).mono (fun e v' hh => ⟨_, hh.1, hK _ _ (fun s hs => by cases hs; rfl) (hst.then hh.2)⟩))
      · exact wp_ranW (wanted_yes rfl rfl rfl (hgot 5 _ 45 rfl (hdep ⟨5, .guard⟩ (by simp) rfl) rfl)) (exec_eqb rfl (eval_tmp (hgot 8 _ 48 rfl (hdep ⟨8, .data⟩ (by simp) rfl) rfl)) (eval_tmp (hgot 11 _ 51 rfl (hdep ⟨11, .data⟩ (by simp) rfl) rfl))) (hK _ _ (fun s hs => by cases hs; rfl) hst)
      · exact wp_ran rfl (exec_pick rfl (eval_tmp (hgot 5 _ 45 rfl (hdep ⟨5, .data⟩ (by simp) rfl) rfl)) (eval_tmp (hgot 12 _ 52 rfl (hdep ⟨12, .data⟩ (by simp) rfl) rfl)) rfl rfl) (hK _ _ (fun s hs => by cases hs; rfl) hst)
      · exact wp_ran rfl (exec_move rfl (eval_tmp (hgot 13 _ 53 rfl (hdep ⟨13, .data⟩ (by simp) rfl) rfl))) (hK _ _ (fun s hs => by cases hs; rfl) hst)
      · exact wp_ranW (wanted_yes rfl rfl rfl (hgot 14 _ 54 rfl (hdep ⟨14, .guard⟩ (by simp) rfl) rfl)) (exec_load rfl (eval_tmp (hpar 4 (by simp))) (run_loads (Cells.of_holds (hb.keep hst (by simp))) Tryd.underlying40 rfl (size40_of _ HB.out.2.1))) (hK _ _ (fun s hs => by cases hs; rfl) hst)
      · exact wp_ranW (wanted_yes rfl rfl rfl (hgot 14 _ 54 rfl (hdep ⟨14, .guard⟩ (by simp) rfl) rfl)) (exec_load rfl (eval_tmp (hpar 3 (by simp))) (run_loads (Cells.of_holds (ha.keep hst (by simp))) Tryd.underlying40 rfl (size40_of _ HB.out.1))) (hK _ _ (fun s hs => by cases hs; rfl) hst)
      · exact wp_calledW (wanted_yes rfl rfl rfl (hgot 14 _ 54 rfl (hdep ⟨14, .guard⟩ (by simp) rfl) rfl)) (exec_call2 rfl rfl (eval_tmp (hgot 15 _ 55 rfl (hdep ⟨15, .data⟩ (by simp) rfl) rfl)) (eval_tmp (hgot 16 _ 56 rfl (hdep ⟨16, .data⟩ (by simp) rfl) rfl)) (enters_of Tryd.func30 (by kernel_rfl) rfl)) ((HB.out.2.2.2.2.2.2.1 _).mono (fun e v' hh => ⟨_, hh.1, hK _ _ (fun s hs => by cases hs; rfl) (hst.then hh.2)⟩))
      · exact wp_ranW (wanted_yes rfl rfl rfl (hgot 14 _ 54 rfl (hdep ⟨14, .guard⟩ (by simp) rfl) rfl)) (exec_load rfl (eval_tmp (hpar 4 (by simp))) (run_loads (Cells.of_holds (hb.keep hst (by simp))) Tryd.underlying40 rfl (size40_of _ HB.out.2.1))) (hK _ _ (fun s hs => by cases hs; rfl) hst)
      · exact wp_ranW (wanted_yes rfl rfl rfl (hgot 14 _ 54 rfl (hdep ⟨14, .guard⟩ (by simp) rfl) rfl)) (exec_load rfl (eval_tmp (hpar 3 (by simp))) (run_loads (Cells.of_holds (ha.keep hst (by simp))) Tryd.underlying40 rfl (size40_of _ HB.out.1))) (hK _ _ (fun s hs => by cases hs; rfl) hst)
      · exact wp_calledW (wanted_yes rfl rfl rfl (hgot 14 _ 54 rfl (hdep ⟨14, .guard⟩ (by simp) rfl) rfl)) (exec_call2 rfl rfl (eval_tmp (hgot 18 _ 58 rfl (hdep ⟨18, .data⟩ (by simp) rfl) rfl)) (eval_tmp (hgot 19 _ 59 rfl (hdep ⟨19, .data⟩ (by simp) rfl) rfl)) (enters_of Tryd.func31 (by kernel_rfl) rfl)) ((HB.out.2.2.2.2.2.2.2 _).mono (fun e v' hh => ⟨_, hh.1, hK _ _ (fun s hs => by cases hs; rfl) (hst.then hh.2)⟩))
      · exact wp_ranW (wanted_yes rfl rfl rfl (hgot 14 _ 54 rfl (hdep ⟨14, .guard⟩ (by simp) rfl) rfl)) (exec_eqb rfl (eval_tmp (hgot 17 _ 57 rfl (hdep ⟨17, .data⟩ (by simp) rfl) rfl)) (eval_tmp (hgot 20 _ 60 rfl (hdep ⟨20, .data⟩ (by simp) rfl) rfl))) (hK _ _ (fun s hs => by cases hs; rfl) hst)
      · exact wp_ran rfl (exec_pick rfl (eval_tmp (hgot 14 _ 54 rfl (hdep ⟨14, .data⟩ (by simp) rfl) rfl)) (eval_tmp (hgot 21 _ 61 rfl (hdep ⟨21, .data⟩ (by simp) rfl) rfl)) rfl rfl) (hK _ _ (fun s hs => by cases hs; rfl) hst)
      · exact wp_ran rfl (exec_assign rfl (eval_tmp (hgot 22 _ 62 rfl (hdep ⟨22, .data⟩ (by simp) rfl) rfl))) (hK _ _ (fun s hs => by cases hs; rfl) hst)
    case fin =>
      intro lz v hl hst
      have mn := mm.then (Mod.drewed hst)
      clear hst hl
      try dsimp only
      go_wp2_with fail
      go_ret
      exact ⟨rfl, mn⟩

  | false =>
    have HW := Lib.hid (And.intro hW (And.intro hp (And.intro hq hpl)))
    have t1 := fun (v : World) => text_c a ha v
    have t2 := fun (v : World) => rtext_c a ha v
    have l1 := fun (v : World) => less_c a b ha hb v
    have l2 := fun (v : World) => rless_c a b ha hb v
    have l3 := fun (v : World) => less_c b a hb ha v
    have l4 := fun (v : World) => rless_c b a hb ha v
    have HB := Lib.hid (And.intro ha (And.intro hb (And.intro t1 (And.intro t2 (And.intro l1 (And.intro l2 (And.intro l3 l4)))))))
    clear hW hp hq hpl hpz hgd G G1 ha hb t1 t2 l1 l2 l3 l4
    go_enter Tryd.func6, Tryd.ntmps6
    go_wp2_with (first
      | (with_reducible refine wpList_boxes (o := ⟨some 3, .box 40 (.tmp 0), _, _, _, _⟩) rfl 40 (.tmp 0) rfl _ rfl (a.map oct) rfl ?_; intro w1 hb1 m1 z1; replace z1 := Lib.hid z1)
      | (with_reducible refine wpList_boxes (o := ⟨some 4, .box 40 (.tmp 1), _, _, _, _⟩) rfl 40 (.tmp 1) rfl _ rfl (b.map oct) rfl ?_; intro w2 hb2 m2 z2; replace z2 := Lib.hid z2))
    obtain ⟨g3, e1⟩ : ∃ b, b = w.heap.size := ⟨_, rfl⟩
    obtain ⟨g4, e2⟩ : ∃ b, b = w1.heap.size := ⟨_, rfl⟩
    have mm := m1.then m2
    replace hb1 := hb1.keep m2 (by simp)
    rw [← e1] at hb1
    rw [← e2] at hb2
    rw [← e1, ← e2]
    clear e1 e2 m1 m2 z1 z2
    refine (HW.out.1 _ mm).mono ?_
    rintro e w5 ⟨rfl, m5⟩
    have ha := hb1.keep m5 (by simp)
    have hb := hb2.keep m5 (by simp)
    replace mm := mm.then m5
    clear hb1 hb2 m5
    go_wp2_with fail
    refine (HW.out.2.1 _).mono ?_
    rintro e w6 ⟨rfl, m6⟩
    replace ha := ha.keep m6 (by simp)
    replace hb := hb.keep m6 (by simp)
    replace mm := mm.then m6
    clear m6
    have sz : (Tryd.prog.info? 40).map (·.size) = some (pz.map oct).length := size40_of _ HW.out.2.2.2
    have lz : (pz.map oct).length = ((List.replicate 32 (0 : UInt8)).map oct).length := by rw [List.length_map, HW.out.2.2.2]; rfl
    go_wp2_with (first
      | (with_reducible refine wpList_allocs (o := ⟨some 7, .alloc 40, _, _, _, _⟩) rfl 40 rfl _ zero40 ?_; intro w7 hb7 m7 z7; replace z7 := Lib.hid z7)
      | (with_reducible refine wpList_storesAll (o := ⟨none, .store 40 (.tmp 7) (.tmp 16), _, _, _, _⟩) rfl 40 (.tmp 7) (.tmp 16) rfl rfl w6.heap.size (pz.map oct) rfl (.agg (pz.map oct).toArray) rfl rfl 40 _ hb7 lz (octs_one _) sz ?_; intro w8 hc7 m8 z8; replace z8 := Lib.hid z8))
    have m78 : Mod [] w6 w8 := m7.trans m8 (by intro i hi h; simp at h; omega)
    replace ha := ha.keep m78 (by simp)
    replace hb := hb.keep m78 (by simp)
    replace mm := mm.then m78
    obtain ⟨g7, e7⟩ : ∃ b, b = w6.heap.size := ⟨_, rfl⟩
    rw [← e7] at hc7 ⊢
    clear e7 m7 m8 m78 z7 z8 hb7
    refine (HW.out.2.2.1 _).mono ?_
    rintro e w9 ⟨rfl, m9⟩
    replace ha := ha.keep m9 (by simp)
    replace hb := hb.keep m9 (by simp)
    replace hc7 := hc7.keep m9 (by simp)
    replace mm := mm.then m9
    clear m9
    go_wp2_with (first
      | (with_reducible refine wpList_allocs (o := ⟨some 9, .alloc 40, _, _, _, _⟩) rfl 40 rfl _ zero40 ?_; intro w10 hb9 m10 z10; replace z10 := Lib.hid z10)
      | (with_reducible refine wpList_storesAll (o := ⟨none, .store 40 (.tmp 9) (.tmp 21), _, _, _, _⟩) rfl 40 (.tmp 9) (.tmp 21) rfl rfl w9.heap.size (pz.map oct) rfl (.agg (pz.map oct).toArray) rfl rfl 40 _ hb9 lz (octs_one _) sz ?_; intro wr hc9 m11 z11; replace z11 := Lib.hid z11)
      | (with_reducible refine wpList_loadsW (o := ⟨some 36, .load 40 (.tmp 7), _, _, _, _⟩) (by with_unfolding_all rfl) 40 (.tmp 7) rfl g7 0 _ rfl (Cells.of_holds ((hc7.keep m10 (by simp)).keep m11 (by have := hc7.lt; simp; omega))) _ Tryd.underlying40 rfl sz (.agg (pz.map oct).toArray) rfl ?_)
      | (with_reducible refine wpList_loadsW (o := ⟨some 37, .load 40 (.tmp 9), _, _, _, _⟩) (by with_unfolding_all rfl) 40 (.tmp 9) rfl w9.heap.size 0 _ rfl (Cells.of_holds hc9) _ Tryd.underlying40 rfl sz (.agg (pz.map oct).toArray) rfl ?_)
      | (with_reducible refine wpList_ranW (o := ⟨some 38, .binOp .neq 40 (.tmp 36) (.tmp 37) 40, _, _, _, _⟩) (by with_unfolding_all rfl) (.bool false) _ (ne40_same HW.out.2.2.2 rfl rfl rfl) ?_))
    have m1011 : Mod [] w9 wr := m10.trans m11 (by intro i hi h; simp at h; omega)
    replace ha := ha.keep m1011 (by simp)
    replace hb := hb.keep m1011 (by simp)
    replace mm := mm.then m1011
    clear hc7 hc9 hb9 m10 m11 m1011 z10 z11
    obtain ⟨g9, e9⟩ : ∃ b, b = w9.heap.size := ⟨_, rfl⟩
    rw [← e9]
    clear e9
    go_wp2_with fail
    have ha : Holds wr.drew g3 40 (a.map oct) := ha
    have hb : Holds wr.drew g4 40 (b.map oct) := hb
    refine wp_region_lit1 [.agg (a.map oct).toArray, .agg (b.map oct).toArray, .string s, .pointer (some ⟨g3, 0, none⟩), .pointer (some ⟨g4, 0, none⟩), undef, .bool true, .pointer (some ⟨g7, 0, none⟩), .int .i64 130, .pointer (some ⟨g9, 0, none⟩), .bool false, .bool true, .bool false, .tuple #[.agg (pz.map oct).toArray, .int .i64 130], .string s, .tuple #[.agg (pz.map oct).toArray, .int .i64 130], .agg (pz.map oct).toArray, .int .i64 130, .tuple #[.agg (pz.map oct).toArray, .bool false], .string s, .tuple #[.agg (pz.map oct).toArray, .bool false], .agg (pz.map oct).toArray, .bool false, .bool false, .int .i64 130, .bool false, .bool false, .bool false, .bool false, .bool true, .bool true, .int .i64 130, .bool false, .bool false, .bool false, .bool false, .agg (pz.map oct).toArray, .agg (pz.map oct).toArray, .bool false, .bool false, .agg (a.map oct).toArray, .string ⟨(textN a).toArray⟩, .agg (a.map oct).toArray, .string ⟨(textN a).toArray⟩, .bool true, .bool true, .agg (a.map oct).toArray, .agg (b.map oct).toArray, .bool (lessN a b), .agg (a.map oct).toArray, .agg (b.map oct).toArray, .bool (lessN a b), .bool true, .bool true, .bool true, .agg (b.map oct).toArray, .agg (a.map oct).toArray, .bool (lessN b a), .agg (b.map oct).toArray, .agg (a.map oct).toArray, .bool (lessN b a), .bool true, .bool true] 63 [0, 1, 2, 3, 4, 5, 7, 8, 9, 10, 11, 12, 13, 14, 15, 16, 17, 18, 19, 20, 21, 22, 23, 24, 25, 26, 27, 28, 29, 30, 31, 32, 33, 34, 35, 36, 37, 38, 39]
      (fun _ v => Mod [] wr.drew v) []
      (by kernel_rfl) rfl rfl rfl rfl (Mod.refl _ _) (by kernel_rfl) (by kernel_rfl) ?step ?fin
    case step =>
      intro lz T v j o hj hlj hdep hst hpar hgot hcl K hK
      have hjn : j < 24 := (Array.getElem?_eq_some_iff.1 hj).1
      obtain rfl | rfl | rfl | rfl | rfl | rfl | rfl | rfl | rfl | rfl | rfl | rfl | rfl | rfl | rfl | rfl | rfl | rfl | rfl | rfl | rfl | rfl | rfl | rfl : j = 0 ∨ j = 1 ∨ j = 2 ∨ j = 3 ∨ j = 4 ∨ j = 5 ∨ j = 6 ∨ j = 7 ∨ j = 8 ∨ j = 9 ∨ j = 10 ∨ j = 11 ∨ j = 12 ∨ j = 13 ∨ j = 14 ∨ j = 15 ∨ j = 16 ∨ j = 17 ∨ j = 18 ∨ j = 19 ∨ j = 20 ∨ j = 21 ∨ j = 22 ∨ j = 23 := by omega
      all_goals (have hj' := Option.some.inj (hj : some _ = some o); subst hj'; clear hj)
      · exact wp_ran rfl (exec_load rfl (eval_tmp (hpar 3 (by simp))) (run_loads (Cells.of_holds (ha.keep hst (by simp))) Tryd.underlying40 rfl (size40_of _ HB.out.1))) (hK _ _ (fun s hs => by cases hs; rfl) hst)
      · exact wp_called rfl (exec_call1 rfl rfl (eval_tmp (hgot 0 _ 40 rfl (hdep ⟨0, .data⟩ (by simp) rfl) rfl)) (enters_of Tryd.func28 (by kernel_rfl) rfl)) ((HB.out.2.2.1 _).mono (fun e v' hh => ⟨_, hh.1, hK _ _ (fun s hs => by cases hs; rfl) (hst.then hh.2)⟩))
      · exact wp_ran rfl (exec_load rfl (eval_tmp (hpar 3 (by simp))) (run_loads (Cells.of_holds (ha.keep hst (by simp))) Tryd.underlying40 rfl (size40_of _ HB.out.1))) (hK _ _ (fun s hs => by cases hs; rfl) hst)
      · exact wp_called rfl (exec_call1 rfl rfl (eval_tmp (hgot 2 _ 42 rfl (hdep ⟨2, .data⟩ (by simp) rfl) rfl)) (enters_of Tryd.func29 (by kernel_rfl) rfl)) ((HB.out.2.2.2.1 _).mono (fun e v' hh => ⟨_, hh.1, hK _ _ (fun s hs => by cases hs; rfl) (hst.then hh.2)⟩))
      · exact wp_ran rfl (exec_eqs rfl (eval_tmp (hgot 1 _ 41 rfl (hdep ⟨1, .data⟩ (by simp) rfl) rfl)) (eval_tmp (hgot 3 _ 43 rfl (hdep ⟨3, .data⟩ (by simp) rfl) rfl))) (hK _ _ (fun s hs => by cases hs; rfl) hst)
      · exact wp_ran rfl (exec_move rfl (eval_tmp (hgot 4 _ 44 rfl (hdep ⟨4, .data⟩ (by simp) rfl) rfl))) (hK _ _ (fun s hs => by cases hs; rfl) hst)
      · exact wp_ranW (wanted_yes rfl rfl rfl (hgot 5 _ 45 rfl (hdep ⟨5, .guard⟩ (by simp) rfl) rfl)) (exec_load rfl (eval_tmp (hpar 3 (by simp))) (run_loads (Cells.of_holds (ha.keep hst (by simp))) Tryd.underlying40 rfl (size40_of _ HB.out.1))) (hK _ _ (fun s hs => by cases hs; rfl) hst)
      · exact wp_ranW (wanted_yes rfl rfl rfl (hgot 5 _ 45 rfl (hdep ⟨5, .guard⟩ (by simp) rfl) rfl)) (exec_load rfl (eval_tmp (hpar 4 (by simp))) (run_loads (Cells.of_holds (hb.keep hst (by simp))) Tryd.underlying40 rfl (size40_of _ HB.out.2.1))) (hK _ _ (fun s hs => by cases hs; rfl) hst)
      · exact wp_calledW (wanted_yes rfl rfl rfl (hgot 5 _ 45 rfl (hdep ⟨5, .guard⟩ (by simp) rfl) rfl)) (exec_call2 rfl rfl (eval_tmp (hgot 6 _ 46 rfl (hdep ⟨6, .data⟩ (by simp) rfl) rfl)) (eval_tmp (hgot 7 _ 47 rfl (hdep ⟨7, .data⟩ (by simp) rfl) rfl)) (enters_of Tryd.func30 (by kernel_rfl) rfl)) ((HB.out.2.2.2.2.1 _).mono (fun e v' hh => ⟨_, hh.1, hK _ _ (fun s hs => by cases hs; rfl) (hst.then hh.2)⟩))
      · exact wp_ranW (wanted_yes rfl rfl rfl (hgot 5 _ 45 rfl (hdep ⟨5, .guard⟩ (by simp) rfl) rfl)) (exec_load rfl (eval_tmp (hpar 3 (by simp))) (run_loads (Cells.of_holds (ha.keep hst (by simp))) Tryd.underlying40 rfl (size40_of _ HB.out.1))) (hK _ _ (fun s hs => by cases hs; rfl) hst)
      · exact wp_ranW (wanted_yes rfl rfl rfl (hgot 5 _ 45 rfl (hdep ⟨5, .guard⟩ (by simp) rfl) rfl)) (exec_load rfl (eval_tmp (hpar 4 (by simp))) (run_loads (Cells.of_holds (hb.keep hst (by simp))) Tryd.underlying40 rfl (size40_of _ HB.out.2.1))) (hK _ _ (fun s hs => by cases hs; rfl) hst)
      · exact wp_calledW (wanted_yes rfl rfl rfl (hgot 5 _ 45 rfl (hdep ⟨5, .guard⟩ (by simp) rfl) rfl)) (exec_call2 rfl rfl (eval_tmp (hgot 9 _ 49 rfl (hdep ⟨9, .data⟩ (by simp) rfl) rfl)) (eval_tmp (hgot 10 _ 50 rfl (hdep ⟨10, .data⟩ (by simp) rfl) rfl)) (enters_of Tryd.func31 (by kernel_rfl) rfl)) ((HB.out.2.2.2.2.2.1 _).mono (fun e v' hh => ⟨_, hh.1, hK _ _ (fun s hs => by cases hs; rfl) (hst.then hh.2)⟩))
      · exact wp_ranW (wanted_yes rfl rfl rfl (hgot 5 _ 45 rfl (hdep ⟨5, .guard⟩ (by simp) rfl) rfl)) (exec_eqb rfl (eval_tmp (hgot 8 _ 48 rfl (hdep ⟨8, .data⟩ (by simp) rfl) rfl)) (eval_tmp (hgot 11 _ 51 rfl (hdep ⟨11, .data⟩ (by simp) rfl) rfl))) (hK _ _ (fun s hs => by cases hs; rfl) hst)
      · exact wp_ran rfl (exec_pick rfl (eval_tmp (hgot 5 _ 45 rfl (hdep ⟨5, .data⟩ (by simp) rfl) rfl)) (eval_tmp (hgot 12 _ 52 rfl (hdep ⟨12, .data⟩ (by simp) rfl) rfl)) rfl rfl) (hK _ _ (fun s hs => by cases hs; rfl) hst)
      · exact wp_ran rfl (exec_move rfl (eval_tmp (hgot 13 _ 53 rfl (hdep ⟨13, .data⟩ (by simp) rfl) rfl))) (hK _ _ (fun s hs => by cases hs; rfl) hst)
      · exact wp_ranW (wanted_yes rfl rfl rfl (hgot 14 _ 54 rfl (hdep ⟨14, .guard⟩ (by simp) rfl) rfl)) (exec_load rfl (eval_tmp (hpar 4 (by simp))) (run_loads (Cells.of_holds (hb.keep hst (by simp))) Tryd.underlying40 rfl (size40_of _ HB.out.2.1))) (hK _ _ (fun s hs => by cases hs; rfl) hst)
      · exact wp_ranW (wanted_yes rfl rfl rfl (hgot 14 _ 54 rfl (hdep ⟨14, .guard⟩ (by simp) rfl) rfl)) (exec_load rfl (eval_tmp (hpar 3 (by simp))) (run_loads (Cells.of_holds (ha.keep hst (by simp))) Tryd.underlying40 rfl (size40_of _ HB.out.1))) (hK _ _ (fun s hs => by cases hs; rfl) hst)
      · exact wp_calledW (wanted_yes rfl rfl rfl (hgot 14 _ 54 rfl (hdep ⟨14, .guard⟩ (by simp) rfl) rfl)) (exec_call2 rfl rfl (eval_tmp (hgot 15 _ 55 rfl (hdep ⟨15, .data⟩ (by simp) rfl) rfl)) (eval_tmp (hgot 16 _ 56 rfl (hdep ⟨16, .data⟩ (by simp) rfl) rfl)) (enters_of Tryd.func30 (by kernel_rfl) rfl)) ((HB.out.2.2.2.2.2.2.1 _).mono (fun e v' hh => ⟨_, hh.1, hK _ _ (fun s hs => by cases hs; rfl) (hst.then hh.2)⟩))
      · exact wp_ranW (wanted_yes rfl rfl rfl (hgot 14 _ 54 rfl (hdep ⟨14, .guard⟩ (by simp) rfl) rfl)) (exec_load rfl (eval_tmp (hpar 4 (by simp))) (run_loads (Cells.of_holds (hb.keep hst (by simp))) Tryd.underlying40 rfl (size40_of _ HB.out.2.1))) (hK _ _ (fun s hs => by cases hs; rfl) hst)
      · exact wp_ranW (wanted_yes rfl rfl rfl (hgot 14 _ 54 rfl (hdep ⟨14, .guard⟩ (by simp) rfl) rfl)) (exec_load rfl (eval_tmp (hpar 3 (by simp))) (run_loads (Cells.of_holds (ha.keep hst (by simp))) Tryd.underlying40 rfl (size40_of _ HB.out.1))) (hK _ _ (fun s hs => by cases hs; rfl) hst)
      · exact wp_calledW (wanted_yes rfl rfl rfl (hgot 14 _ 54 rfl (hdep ⟨14, .guard⟩ (by simp) rfl) rfl)) (exec_call2 rfl rfl (eval_tmp (hgot 18 _ 58 rfl (hdep ⟨18, .data⟩ (by simp) rfl) rfl)) (eval_tmp (hgot 19 _ 59 rfl (hdep ⟨19, .data⟩ (by simp) rfl) rfl)) (enters_of Tryd.func31 (by kernel_rfl) rfl)) ((HB.out.2.2.2.2.2.2.2 _).mono (fun e v' hh => ⟨_, hh.1, hK _ _ (fun s hs => by cases hs; rfl) (hst.then hh.2)⟩))
      · exact wp_ranW (wanted_yes rfl rfl rfl (hgot 14 _ 54 rfl (hdep ⟨14, .guard⟩ (by simp) rfl) rfl)) (exec_eqb rfl (eval_tmp (hgot 17 _ 57 rfl (hdep ⟨17, .data⟩ (by simp) rfl) rfl)) (eval_tmp (hgot 20 _ 60 rfl (hdep ⟨20, .data⟩ (by simp) rfl) rfl))) (hK _ _ (fun s hs => by cases hs; rfl) hst)
      · exact wp_ran rfl (exec_pick rfl (eval_tmp (hgot 14 _ 54 rfl (hdep ⟨14, .data⟩ (by simp) rfl) rfl)) (eval_tmp (hgot 21 _ 61 rfl (hdep ⟨21, .data⟩ (by simp) rfl) rfl)) rfl rfl) (hK _ _ (fun s hs => by cases hs; rfl) hst)
      · exact wp_ran rfl (exec_assign rfl (eval_tmp (hgot 22 _ 62 rfl (hdep ⟨22, .data⟩ (by simp) rfl) rfl))) (hK _ _ (fun s hs => by cases hs; rfl) hst)
    case fin =>
      intro lz v hl hst
      have mn := mm.then (Mod.drewed hst)
      clear hst hl
      try dsimp only
      go_wp2_with fail
      go_ret
      exact ⟨rfl, mn⟩

end Go.Proofs.YtgojheoelcmcpaaDoor
