/-
  MerkleTrees: the walk. My own work.
-/
import Derived.Test.YtbacmeaeehhhfaaDoorNd
import Derived.Test.YtbacmeaeehhhfaaDoorOpen
namespace Go.Proofs.YtbacmeaeehhhfaaDoor
open Go.RowKit Go.Shelf
set_option linter.unusedVariables false
set_option linter.unusedSimpArgs false
def i64c (z : Int) : List Value := [.int .i64 z]
theorem i64c_length (z : Int) : (i64c z).length = 1 := rfl
theorem Cells.int_at {w : World} {A : Option Addr} {l : List Int} (h : Cells w A (l.flatMap i64c)) (k : Nat) (hk : k < l.length) : ∃ g o, A = some ⟨g, o, none⟩ ∧ w.cell? ⟨g, o + k, none⟩ = some (.int .i64 l[k]) := by
  obtain ⟨g, o, rfl, hc⟩ := h.elem' i64c 1 (by omega) i64c_length k hk
  obtain ⟨g', o', e, hh⟩ := hc 0 (by simp [i64c])
  cases e
  exact ⟨g, o, rfl, by simpa [i64c] using hh⟩
theorem lfOk_no {z : Int} (h : z < 0 ∨ 8 ≤ z) : lfOk z = false := by
  unfold lfOk
  rcases h with h | h
  · rw [decide_eq_false (by omega : ¬ 0 ≤ z)]; rfl
  · rw [decide_eq_false (by omega : ¬ z < 8)]; simp
structure YA where
  A : Option Addr
  c : Nat
set_option maxRecDepth 100000 in
set_option maxHeartbeats 4000000 in
theorem trees_c (x : Idv) (A : Option Addr) (c N : Nat) (zs : List Int) (hN : N = zs.length) (w : World) (Gl : Glob w) (RA : Cells w A (zs.flatMap i64c)) : Calls Tryd.prog 3 #[iv x, .slice A N c] w fun r w' => r = .returned (.bool true) ∧ Mod [] w w' := by
  have WK := fun v (mv : Mod [] w v) => wakes_c v (Gl.then mv)
  have LKs := fun v (mv : Mod [] w v) => lawKeys_c x v (Gl.then mv)
  have RT := fun v (mv : Mod [] w v) => root_c x v (Gl.then mv)
  have LR := fun v (mv : Mod [] w v) => lawRoot_c x v (Gl.then mv)
  have SY := fun n hn v (mv : Mod [] w v) => Seed_yes x n hn v (Gl.then mv)
  have PY := fun n hn v (mv : Mod [] w v) => Path_yes x n hn v (Gl.then mv)
  have LSy := fun n hn v (mv : Mod [] w v) => lawSeed_c x n hn v (Gl.then mv)
  have LPy := fun n hn v (mv : Mod [] w v) => lawPath_c x n hn v (Gl.then mv)
  have hone := kcs_one x
  have hlen := keysC_length x 8
  obtain ⟨C, hC⟩ : ∃ C, C = (keysL x 8).flatMap ic := ⟨_, rfl⟩
  rw [← hC] at LKs LR LPy hone hlen
  obtain ⟨rt, hrt⟩ : ∃ r, r = rootI x := ⟨_, rfl⟩
  rw [← hrt] at RT LR
  have HL := Lib.hid (And.intro hlen hone)
  have HR := Lib.hid (And.intro hN RA)
  clear hone hlen hC hrt Gl hN RA
  go_enter Tryd.func3, Tryd.ntmps3
  go_wp2_with (first
    | (with_reducible refine wpList_boxes (o := ⟨some 2, .box 23 (.tmp 0), _, _, _, _⟩) rfl 23 (.tmp 0) rfl _ rfl (ic x) rfl ?_; intro w1 k2 mm z1
       obtain ⟨b2, hq2⟩ : ∃ q, q = w.heap.size := ⟨_, rfl⟩
       rw [← hq2] at k2 ⊢
       clear z1 hq2)
    | (go_at_call 10; refine (WK _ mm).mono ?_
       rintro e w3 ⟨rfl, m3⟩
       replace k2 := k2.keep m3 (by simp)
       replace mm := mm.then m3
       clear WK m3)
    | (with_reducible refine wpList_loads (o := ⟨some 14, .load 23 (.tmp 2), _, _, _, _⟩) rfl 23 (.tmp 2) rfl b2 0 _ rfl (Cells.of_holds k2) _ Tryd.underlying23 rfl (size25i x) (iv x) rfl ?_)
    | (go_at_call 11; refine (LKs _ mm).mono ?_
       rintro e w4 ⟨rfl, m4⟩
       replace k2 := k2.keep m4 (by simp)
       replace mm := mm.then m4
       clear LKs m4)
    | (with_reducible refine wpList_allocs (o := ⟨some 5, .alloc 26, _, _, _, _⟩) rfl 26 rfl _ zero26 ?_; intro y5 hy5 my5 zy5)
    | (with_reducible refine wpList_storesAll (o := ⟨none, .store 26 (.tmp 5) (.tmp 15), _, _, _, _⟩) rfl 26 (.tmp 5) (.tmp 15) rfl rfl w4.heap.size C rfl (.agg C.toArray) rfl rfl 26 _ hy5 (by rw [HL.out.1, List.length_map, List.length_replicate]) HL.out.2 (by rw [HL.out.1]; exact size26) ?_
       intro w5 k5 m5 z5
       have mx : Mod [] w4 w5 := my5.trans m5 (by intro i hi h; simp at h; omega)
       replace k2 := k2.keep mx (by simp)
       replace mm := mm.then mx
       obtain ⟨b5, hq5⟩ : ∃ q, q = w4.heap.size := ⟨_, rfl⟩
       rw [← hq5] at k5 ⊢
       clear hy5 my5 zy5 m5 z5 mx hq5))
  obtain ⟨wq, hwq⟩ : ∃ v, v = w5 := ⟨_, rfl⟩
  rw [← hwq] at k2 k5 mm ⊢
  clear hwq
  refine wp_region_ups [(16, iv x), (17, iv rt), (18, .agg C.toArray), (19, iv rt), (20, .bool false)] 86 [16, 17, 18, 19, 20] rfl rfl (by decide) (by kernel_rfl) (fun lz v => Mod [] wq.drew v) (by kernel_rfl) (Mod.refl _ _) (by kernel_rfl) (by kernel_rfl) ?step ?fin
  case step =>
    intro lz T v j o hj hlj hdep hst hpar hgot hcl Kq hK
    have mv : ∀ v, Mod [] wq.drew v → Mod [] wq v := fun v h => (Mod.drew [] wq).then h
    have hjn : j < 5 := (Array.getElem?_eq_some_iff.1 hj).1
    obtain rfl | rfl | rfl | rfl | rfl : j = 0 ∨ j = 1 ∨ j = 2 ∨ j = 3 ∨ j = 4 := by omega
    all_goals (have hj' := Option.some.inj (hj : some _ = some o); subst hj'; clear hj)
    · exact wp_ran rfl (exec_load rfl (eval_tmp ((hpar 2 rfl).trans rfl)) (run_loads (Cells.of_holds (k2.keep (mv v hst) (by simp))) Tryd.underlying23 rfl (size25i x))) (hK _ _ (fun s hs => by cases hs; rfl) hst)
    · exact wp_called rfl (exec_call1 rfl rfl (eval_tmp (hgot 0 _ 16 rfl (hdep ⟨0, .data⟩ (by simp) rfl) rfl)) (enters_of Tryd.func12 (by kernel_rfl) rfl)) ((RT v (mm.then (mv v hst))).mono (fun e v' hh => ⟨_, hh.1, hK _ _ (fun s hs => by cases hs; rfl) (hst.then hh.2)⟩))
    · exact wp_ran rfl (exec_load rfl (eval_tmp ((hpar 5 rfl).trans rfl)) (run_loads (Cells.of_holds (k5.keep (mv v hst) (by simp))) Tryd.underlying26 rfl (by rw [HL.out.1]; exact size26))) (hK _ _ (fun s hs => by cases hs; rfl) hst)
    · exact wp_called rfl (exec_call1 rfl rfl (eval_tmp (hgot 2 _ 18 rfl (hdep ⟨2, .data⟩ (by simp) rfl) rfl)) (enters_of Tryd.func13 (by kernel_rfl) rfl)) ((LR v (mm.then (mv v hst))).mono (fun e v' hh => ⟨_, hh.1, hK _ _ (fun s hs => by cases hs; rfl) (hst.then hh.2)⟩))
    · exact wp_ran rfl (exec_ne25f rfl (eval_tmp (hgot 1 _ 17 rfl (hdep ⟨1, .data⟩ (by simp) rfl) rfl)) (eval_tmp (hgot 3 _ 19 rfl (hdep ⟨3, .data⟩ (by simp) rfl) rfl))) (hK _ _ (fun s hs => by cases hs; rfl) hst)
  case fin =>
  intro lz vr hlz hst
  have mq := (Mod.drew [] wq).then hst
  replace k2 := k2.keep mq (by simp)
  replace k5 := k5.keep mq (by simp)
  replace mm := mm.then mq
  simp only [setAll, List.foldl_cons, List.foldl_nil, List.set_cons_succ, List.set_cons_zero]
  obtain ⟨wq, hwq⟩ : ∃ v, v = vr := ⟨_, rfl⟩
  rw [← hwq] at k2 k5 mm ⊢
  clear hwq hst hlz mq RT LR
  go_wp2_with fail
  go_loopw [23] (fun i wi => ∃ (k : Nat), k ≤ 4 ∧ i = .int .i64 (k : Int) ∧ Holds wi b2 23 (ic x) ∧ Holds wi b5 26 C ∧ Mod [] w wi) (fun i _ => 4 - (intOf i).toNat)
  case atStart => exact ⟨0, by omega, rfl, k2, k5, mm⟩
  case round =>
    clear k2 k5 mm
    obtain ⟨k, hk, rfl, k2, k5, mm⟩ := hrel
    by_cases hkn : k < N
    · have hkZ : (k : Int) < (N : Int) := by omega
      by_cases hk4 : k < 4
      · have hkl : k < zs.length := by rw [← HR.out.1]; exact hkn
        have hkZ4 : (k : Int) < 4 := by omega
        obtain ⟨g, oo, hA, hcz⟩ := (HR.out.2.keep mm (by simp)).int_at k hkl
        subst hA
        obtain ⟨z, hz⟩ : ∃ z, z = zs[k] := ⟨_, rfl⟩
        rw [← hz] at hcz
        clear hz hkl HR
        by_cases h0 : z < 0
        · have hno : lfOk z = false := lfOk_no (by omega)
          have SD := fun v => Seed_no x z hno v
          have PH := fun v => Path_no x z hno v
          go_wp2_with (first
            | (with_reducible refine wpList_load1 (o := ⟨some 27, .load 3 (.tmp 26), _, _, _, _⟩) rfl 3 (.tmp 26) rfl ⟨g, oo + k, none⟩ (.int .i64 z) rfl _ Tryd.underlying3 rfl hcz ?_)
            | (with_reducible refine wpList_loads (o := ⟨some 31, .load 23 (.tmp 2), _, _, _, _⟩) rfl 23 (.tmp 2) rfl b2 0 _ rfl (Cells.of_holds k2) _ Tryd.underlying23 rfl (size25i x) (iv x) rfl ?_)
            | (go_at_call 14; refine (SD _).mono ?_
               rintro e w3 ⟨rfl, m3⟩
               replace k2 := k2.keep m3 (by simp)
               replace k5 := k5.keep m3 (by simp)
               replace mm := mm.then m3
               clear m3)
            | (with_reducible refine wpList_allocs (o := ⟨some 8, .alloc 23, _, _, _, _⟩) rfl 23 rfl _ zeroI_25 ?_; intro y5 hy5 my5 zy5)
            | (with_reducible refine wpList_storesAll (o := ⟨none, .store 23 (.tmp 8) (.tmp 34), _, _, _, _⟩) rfl 23 (.tmp 8) (.tmp 34) rfl rfl w3.heap.size (ic zeroI) rfl (iv zeroI) rfl rfl 23 _ hy5 (by simp only [ic_length]) (ic_one zeroI) (size25i zeroI) ?_
               intro w5 k8 m5 z5
               have mx : Mod [] w3 w5 := my5.trans m5 (by intro i hi h; simp at h; omega)
               replace k2 := k2.keep mx (by simp)
               replace k5 := k5.keep mx (by simp)
               replace mm := mm.then mx
               obtain ⟨b8, hq8⟩ : ∃ q, q = w3.heap.size := ⟨_, rfl⟩
               rw [← hq8] at k8 ⊢
               clear hy5 my5 zy5 m5 z5 mx hq8)
            | (with_reducible refine wpList_loads (o := ⟨some 37, .load 23 (.tmp 2), _, _, _, _⟩) rfl 23 (.tmp 2) rfl b2 0 _ rfl (Cells.of_holds k2) _ Tryd.underlying23 rfl (size25i x) (iv x) rfl ?_)
            | (go_at_call 15; refine (PH _).mono ?_
               rintro e w6 ⟨rfl, m6⟩
               replace k2 := k2.keep m6 (by simp)
               replace k5 := k5.keep m6 (by simp)
               replace k8 := k8.keep m6 (by simp)
               replace mm := mm.then m6
               clear m6)
            | (with_reducible refine wpList_ranW (o := ⟨some 43, .binOp _ _ _ _ _, _, _, _, _⟩) (by with_unfolding_all rfl) (.bool true) _ (exec_lss (by exact decide_eq_true h0) rfl rfl rfl) ?_)
            | (with_reducible refine wpList_ranW (o := ⟨some 55, .load 23 (.tmp 8), _, _, _, _⟩) (by with_unfolding_all rfl) (iv zeroI) _ (exec_load rfl rfl (run_loads (Cells.of_holds k8) Tryd.underlying23 rfl (size25i zeroI))) ?_)
            | (with_reducible refine wpList_ranW (o := ⟨some 56, .build 23 _, _, _, _, _⟩) (by with_unfolding_all rfl) (iv zeroI) _ (exec_zb rfl) ?_)
            | (with_reducible refine wpList_ranW (o := ⟨some 57, .binOp _ _ _ _ _, _, _, _, _⟩) (by with_unfolding_all rfl) (.bool false) _ (exec_ne25f rfl rfl rfl) ?_))
          exact ⟨⟨k + 1, by omega, by go_num, k2, k5, mm⟩, by simp [intOf]; omega⟩
        by_cases h8 : 8 ≤ z
        · have hno : lfOk z = false := lfOk_no (by omega)
          have SD := fun v => Seed_no x z hno v
          have PH := fun v => Path_no x z hno v
          go_wp2_with (first
            | (with_reducible refine wpList_load1 (o := ⟨some 27, .load 3 (.tmp 26), _, _, _, _⟩) rfl 3 (.tmp 26) rfl ⟨g, oo + k, none⟩ (.int .i64 z) rfl _ Tryd.underlying3 rfl hcz ?_)
            | (with_reducible refine wpList_loads (o := ⟨some 31, .load 23 (.tmp 2), _, _, _, _⟩) rfl 23 (.tmp 2) rfl b2 0 _ rfl (Cells.of_holds k2) _ Tryd.underlying23 rfl (size25i x) (iv x) rfl ?_)
            | (go_at_call 14; refine (SD _).mono ?_
               rintro e w3 ⟨rfl, m3⟩
               replace k2 := k2.keep m3 (by simp)
               replace k5 := k5.keep m3 (by simp)
               replace mm := mm.then m3
               clear m3)
            | (with_reducible refine wpList_allocs (o := ⟨some 8, .alloc 23, _, _, _, _⟩) rfl 23 rfl _ zeroI_25 ?_; intro y5 hy5 my5 zy5)
            | (with_reducible refine wpList_storesAll (o := ⟨none, .store 23 (.tmp 8) (.tmp 34), _, _, _, _⟩) rfl 23 (.tmp 8) (.tmp 34) rfl rfl w3.heap.size (ic zeroI) rfl (iv zeroI) rfl rfl 23 _ hy5 (by simp only [ic_length]) (ic_one zeroI) (size25i zeroI) ?_
               intro w5 k8 m5 z5
               have mx : Mod [] w3 w5 := my5.trans m5 (by intro i hi h; simp at h; omega)
               replace k2 := k2.keep mx (by simp)
               replace k5 := k5.keep mx (by simp)
               replace mm := mm.then mx
               obtain ⟨b8, hq8⟩ : ∃ q, q = w3.heap.size := ⟨_, rfl⟩
               rw [← hq8] at k8 ⊢
               clear hy5 my5 zy5 m5 z5 mx hq8)
            | (with_reducible refine wpList_loads (o := ⟨some 37, .load 23 (.tmp 2), _, _, _, _⟩) rfl 23 (.tmp 2) rfl b2 0 _ rfl (Cells.of_holds k2) _ Tryd.underlying23 rfl (size25i x) (iv x) rfl ?_)
            | (go_at_call 15; refine (PH _).mono ?_
               rintro e w6 ⟨rfl, m6⟩
               replace k2 := k2.keep m6 (by simp)
               replace k5 := k5.keep m6 (by simp)
               replace k8 := k8.keep m6 (by simp)
               replace mm := mm.then m6
               clear m6)
            | (with_reducible refine wpList_ranW (o := ⟨some 43, .binOp _ _ _ _ _, _, _, _, _⟩) (by with_unfolding_all rfl) (.bool false) _ (exec_lss (by exact decide_eq_false h0) rfl rfl rfl) ?_)
            | (with_reducible refine wpList_ranW (o := ⟨some 46, .binOp _ _ _ _ _, _, _, _, _⟩) (by with_unfolding_all rfl) (.bool true) _ (exec_geq (by exact decide_eq_true h8) rfl rfl rfl) ?_)
            | (with_reducible refine wpList_ranW (o := ⟨some 55, .load 23 (.tmp 8), _, _, _, _⟩) (by with_unfolding_all rfl) (iv zeroI) _ (exec_load rfl rfl (run_loads (Cells.of_holds k8) Tryd.underlying23 rfl (size25i zeroI))) ?_)
            | (with_reducible refine wpList_ranW (o := ⟨some 56, .build 23 _, _, _, _, _⟩) (by with_unfolding_all rfl) (iv zeroI) _ (exec_zb rfl) ?_)
            | (with_reducible refine wpList_ranW (o := ⟨some 57, .binOp _ _ _ _ _, _, _, _, _⟩) (by with_unfolding_all rfl) (.bool false) _ (exec_ne25f rfl rfl rfl) ?_))
          exact ⟨⟨k + 1, by omega, by go_num, k2, k5, mm⟩, by simp [intOf]; omega⟩
        obtain ⟨n, rfl⟩ : ∃ n : Nat, z = (n : Int) := ⟨z.toNat, by omega⟩
        have hn : n < 8 := by omega
        have SD := SY n hn
        have PH := PY n hn
        have LS := LSy n (by omega)
        have LP := LPy n hn
        obtain ⟨sd, hsd⟩ : ∃ s, s = lseedI x n := ⟨_, rfl⟩
        rw [← hsd] at SD LS
        obtain ⟨pt, hpt⟩ : ∃ s, s = pathL x n 3 := ⟨_, rfl⟩
        have hptl : 3 = pt.length := by rw [hpt, pathL_length]
        rw [← hpt] at PH LP
        have HPT := Lib.hid hptl
        clear hsd hpt hptl h0 h8 SY PY LSy LPy
        go_wp2_with (first
          | (with_reducible refine wpList_load1 (o := ⟨some 27, .load 3 (.tmp 26), _, _, _, _⟩) rfl 3 (.tmp 26) rfl ⟨g, oo + k, none⟩ (.int .i64 (n : Int)) rfl _ Tryd.underlying3 rfl hcz ?_)
          | (with_reducible refine wpList_loads (o := ⟨some 31, .load 23 (.tmp 2), _, _, _, _⟩) rfl 23 (.tmp 2) rfl b2 0 _ rfl (Cells.of_holds k2) _ Tryd.underlying23 rfl (size25i x) (iv x) rfl ?_)
          | (go_at_call 14; refine (SD _ mm).mono ?_
             rintro e w3 ⟨rfl, m3⟩
             replace k2 := k2.keep m3 (by simp)
             replace k5 := k5.keep m3 (by simp)
             replace mm := mm.then m3
             clear m3)
          | (with_reducible refine wpList_allocs (o := ⟨some 8, .alloc 23, _, _, _, _⟩) rfl 23 rfl _ zeroI_25 ?_; intro y5 hy5 my5 zy5)
          | (with_reducible refine wpList_storesAll (o := ⟨none, .store 23 (.tmp 8) (.tmp 34), _, _, _, _⟩) rfl 23 (.tmp 8) (.tmp 34) rfl rfl w3.heap.size (ic sd) rfl (iv sd) rfl rfl 23 _ hy5 (by simp only [ic_length]) (ic_one sd) (size25i sd) ?_
             intro w5 k8 m5 z5
             have mx : Mod [] w3 w5 := my5.trans m5 (by intro i hi h; simp at h; omega)
             replace k2 := k2.keep mx (by simp)
             replace k5 := k5.keep mx (by simp)
             replace mm := mm.then mx
             obtain ⟨b8, hq8⟩ : ∃ q, q = w3.heap.size := ⟨_, rfl⟩
             rw [← hq8] at k8 ⊢
             clear hy5 my5 zy5 m5 z5 mx hq8)
          | (with_reducible refine wpList_loads (o := ⟨some 37, .load 23 (.tmp 2), _, _, _, _⟩) rfl 23 (.tmp 2) rfl b2 0 _ rfl (Cells.of_holds k2) _ Tryd.underlying23 rfl (size25i x) (iv x) rfl ?_)
          | (go_at_call 15; refine (PH _ mm).mono ?_
             rintro e w6 ⟨A0, c0, rfl, hOP, m6, _⟩
             replace k2 := k2.keep m6 (by simp)
             replace k5 := k5.keep m6 (by simp)
             replace k8 := k8.keep m6 (by simp)
             replace mm := mm.then m6
             clear m6)
          | (with_reducible refine wpList_ranW (o := ⟨some 43, .binOp _ _ _ _ _, _, _, _, _⟩) (by with_unfolding_all rfl) (.bool false) _ (exec_lss (by exact decide_eq_false (by omega)) rfl rfl rfl) ?_)
          | (with_reducible refine wpList_ranW (o := ⟨some 46, .binOp _ _ _ _ _, _, _, _, _⟩) (by with_unfolding_all rfl) (.bool false) _ (exec_geq (by exact decide_eq_false (by omega)) rfl rfl rfl) ?_))
        obtain ⟨wq, hwq⟩ : ∃ v, v = w6 := ⟨_, rfl⟩
        rw [← hwq] at k2 k5 k8 hOP mm ⊢
        clear hwq
        refine wp_region_upx (X := YA) ⟨none, 0⟩ (fun y => [(64, .int .i64 0), (65, .bool false), (66, .bool false), (67, .int .i64 0), (68, .bool false), (69, .bool false), (70, .bool false), (71, iv sd), (72, iv x), (73, .int .i64 (n : Int)), (74, iv sd), (75, .bool false), (76, .bool false), (77, .bool false), (78, .slice A0 3 c0), (79, .agg C.toArray), (80, .int .i64 (n : Int)), (81, .slice y.A 3 y.c), (82, .bool true), (83, .bool false), (84, .bool false)]) 86 [64, 65, 66, 67, 68, 69, 70, 71, 72, 73, 74, 75, 76, 77, 78, 79, 80, 81, 82, 83, 84] rfl (fun _ => rfl) (by decide) (by kernel_rfl) (fun y lz v => Mod [] wq.drew v ∧ (lz 17 = true → OwnG ic 23 32 v y.A y.c pt)) (by kernel_rfl) ⟨Mod.refl _ _, fun h => by cases h⟩ (by kernel_rfl) (by kernel_rfl) ?step ?fin
        case step =>
          intro y lz T v j o hj hlj hdep hst hpar hgot hcl Kq hK
          have mv : ∀ v, Mod [] wq.drew v → Mod [] wq v := fun v h => (Mod.drew [] wq).then h
          have hjn : j < 21 := (Array.getElem?_eq_some_iff.1 hj).1
          obtain rfl | rfl | rfl | rfl | rfl | rfl | rfl | rfl | rfl | rfl | rfl | rfl | rfl | rfl | rfl | rfl | rfl | rfl | rfl | rfl | rfl : j = 0 ∨ j = 1 ∨ j = 2 ∨ j = 3 ∨ j = 4 ∨ j = 5 ∨ j = 6 ∨ j = 7 ∨ j = 8 ∨ j = 9 ∨ j = 10 ∨ j = 11 ∨ j = 12 ∨ j = 13 ∨ j = 14 ∨ j = 15 ∨ j = 16 ∨ j = 17 ∨ j = 18 ∨ j = 19 ∨ j = 20 := by omega
          all_goals (have hj' := Option.some.inj (hj : some _ = some o); subst hj'; clear hj)
          · exact wp_ran rfl (exec_move rfl (eval_tmp ((hpar 9 rfl).trans rfl))) (hK y _ _ (fun _ _ _ _ _ _ => rfl) (fun s hs => by cases hs; rfl) ⟨hst.1, by simpa using hst.2⟩)
          · exact wp_ran rfl (exec_nei (rfl) rfl (eval_tmp (hgot 0 _ 64 rfl (hdep ⟨0, .data⟩ (by simp) rfl) rfl)) rfl) (hK y _ _ (fun _ _ _ _ _ _ => rfl) (fun s hs => by cases hs; rfl) ⟨hst.1, by simpa using hst.2⟩)
          · exact wp_ran rfl (exec_move rfl (eval_tmp (hgot 1 _ 65 rfl (hdep ⟨1, .data⟩ (by simp) rfl) rfl))) (hK y _ _ (fun _ _ _ _ _ _ => rfl) (fun s hs => by cases hs; rfl) ⟨hst.1, by simpa using hst.2⟩)
          · exact wp_ranW (wanted_yes rfl rfl rfl (hgot 2 _ 66 rfl (hdep ⟨2, .guard⟩ (by simp) rfl) rfl)) (exec_move rfl (eval_tmp ((hpar 11 rfl).trans rfl))) (hK y _ _ (fun _ _ _ _ _ _ => rfl) (fun s hs => by cases hs; rfl) ⟨hst.1, by simpa using hst.2⟩)
          · exact wp_ranW (wanted_yes rfl rfl rfl (hgot 2 _ 66 rfl (hdep ⟨2, .guard⟩ (by simp) rfl) rfl)) (exec_nei (rfl) rfl (eval_tmp (hgot 3 _ 67 rfl (hdep ⟨3, .data⟩ (by simp) rfl) rfl)) rfl) (hK y _ _ (fun _ _ _ _ _ _ => rfl) (fun s hs => by cases hs; rfl) ⟨hst.1, by simpa using hst.2⟩)
          · exact wp_ran rfl (exec_pick rfl (eval_tmp (hgot 2 _ 66 rfl (hdep ⟨2, .data⟩ (by simp) rfl) rfl)) rfl (eval_tmp (hgot 4 _ 68 rfl (hdep ⟨4, .data⟩ (by simp) rfl) rfl)) rfl) (hK y _ _ (fun _ _ _ _ _ _ => rfl) (fun s hs => by cases hs; rfl) ⟨hst.1, by simpa using hst.2⟩)
          · exact wp_ran rfl (exec_move rfl (eval_tmp (hgot 5 _ 69 rfl (hdep ⟨5, .data⟩ (by simp) rfl) rfl))) (hK y _ _ (fun _ _ _ _ _ _ => rfl) (fun s hs => by cases hs; rfl) ⟨hst.1, by simpa using hst.2⟩)
          · exact wp_ranW (wanted_yes rfl rfl rfl (hgot 6 _ 70 rfl (hdep ⟨6, .guard⟩ (by simp) rfl) rfl)) (exec_load rfl (eval_tmp ((hpar 8 rfl).trans rfl)) (run_loads (Cells.of_holds (k8.keep (mv v hst.1) (by simp))) Tryd.underlying23 rfl (size25i sd))) (hK y _ _ (fun _ _ _ _ _ _ => rfl) (fun s hs => by cases hs; rfl) ⟨hst.1, by simpa using hst.2⟩)
          · exact wp_ranW (wanted_yes rfl rfl rfl (hgot 6 _ 70 rfl (hdep ⟨6, .guard⟩ (by simp) rfl) rfl)) (exec_load rfl (eval_tmp ((hpar 2 rfl).trans rfl)) (run_loads (Cells.of_holds (k2.keep (mv v hst.1) (by simp))) Tryd.underlying23 rfl (size25i x))) (hK y _ _ (fun _ _ _ _ _ _ => rfl) (fun s hs => by cases hs; rfl) ⟨hst.1, by simpa using hst.2⟩)
          · exact wp_ranW (wanted_yes rfl rfl rfl (hgot 6 _ 70 rfl (hdep ⟨6, .guard⟩ (by simp) rfl) rfl)) (exec_move rfl (eval_tmp ((hpar 7 rfl).trans rfl))) (hK y _ _ (fun _ _ _ _ _ _ => rfl) (fun s hs => by cases hs; rfl) ⟨hst.1, by simpa using hst.2⟩)
          · refine wp_calledW (wanted_yes rfl rfl rfl (hgot 6 _ 70 rfl (hdep ⟨6, .guard⟩ (by simp) rfl) rfl)) (exec_call2 rfl rfl (eval_tmp (hgot 8 _ 72 rfl (hdep ⟨8, .data⟩ (by simp) rfl) rfl)) (eval_tmp (hgot 9 _ 73 rfl (hdep ⟨9, .data⟩ (by simp) rfl) rfl)) (enters_of Tryd.func16 (by kernel_rfl) rfl)) ((LS v (mm.then (mv v hst.1))).mono ?_)
            rintro e v' ⟨rfl, m2⟩
            exact ⟨_, rfl, hK y _ _ (fun _ _ _ _ _ _ => rfl) (fun s hs => by cases hs; rfl) ⟨hst.1.then m2, fun h => (hst.2 (by simpa using h)).keep m2 (by simp)⟩⟩
          · exact wp_ranW (wanted_yes rfl rfl rfl (hgot 6 _ 70 rfl (hdep ⟨6, .guard⟩ (by simp) rfl) rfl)) (exec_ne25f rfl (eval_tmp (hgot 7 _ 71 rfl (hdep ⟨7, .data⟩ (by simp) rfl) rfl)) (eval_tmp (hgot 10 _ 74 rfl (hdep ⟨10, .data⟩ (by simp) rfl) rfl))) (hK y _ _ (fun _ _ _ _ _ _ => rfl) (fun s hs => by cases hs; rfl) ⟨hst.1, by simpa using hst.2⟩)
          · exact wp_ran rfl (exec_pick rfl (eval_tmp (hgot 6 _ 70 rfl (hdep ⟨6, .data⟩ (by simp) rfl) rfl)) rfl (eval_tmp (hgot 11 _ 75 rfl (hdep ⟨11, .data⟩ (by simp) rfl) rfl)) rfl) (hK y _ _ (fun _ _ _ _ _ _ => rfl) (fun s hs => by cases hs; rfl) ⟨hst.1, by simpa using hst.2⟩)
          · exact wp_ran rfl (exec_move rfl (eval_tmp (hgot 12 _ 76 rfl (hdep ⟨12, .data⟩ (by simp) rfl) rfl))) (hK y _ _ (fun _ _ _ _ _ _ => rfl) (fun s hs => by cases hs; rfl) ⟨hst.1, by simpa using hst.2⟩)
          · exact wp_ranW (wanted_yes rfl rfl rfl (hgot 13 _ 77 rfl (hdep ⟨13, .guard⟩ (by simp) rfl) rfl)) (exec_move rfl (eval_tmp ((hpar 10 rfl).trans rfl))) (hK y _ _ (fun _ _ _ _ _ _ => rfl) (fun s hs => by cases hs; rfl) ⟨hst.1, by simpa using hst.2⟩)
          · exact wp_ranW (wanted_yes rfl rfl rfl (hgot 13 _ 77 rfl (hdep ⟨13, .guard⟩ (by simp) rfl) rfl)) (exec_load rfl (eval_tmp ((hpar 5 rfl).trans rfl)) (run_loads (Cells.of_holds (k5.keep (mv v hst.1) (by simp))) Tryd.underlying26 rfl (by rw [HL.out.1]; exact size26))) (hK y _ _ (fun _ _ _ _ _ _ => rfl) (fun s hs => by cases hs; rfl) ⟨hst.1, by simpa using hst.2⟩)
          · exact wp_ranW (wanted_yes rfl rfl rfl (hgot 13 _ 77 rfl (hdep ⟨13, .guard⟩ (by simp) rfl) rfl)) (exec_move rfl (eval_tmp ((hpar 7 rfl).trans rfl))) (hK y _ _ (fun _ _ _ _ _ _ => rfl) (fun s hs => by cases hs; rfl) ⟨hst.1, by simpa using hst.2⟩)
          · have l18 : lz 18 = false := (by cases hh : lz 18 with | false => rfl | true => exact absurd (hcl 18 _ rfl hh ⟨17, .data⟩ (by simp) rfl) (by rw [hlj]; simp))
            refine wp_calledW (wanted_yes rfl rfl rfl (hgot 13 _ 77 rfl (hdep ⟨13, .guard⟩ (by simp) rfl) rfl)) (exec_call2 rfl rfl (eval_tmp (hgot 15 _ 79 rfl (hdep ⟨15, .data⟩ (by simp) rfl) rfl)) (eval_tmp (hgot 16 _ 80 rfl (hdep ⟨16, .data⟩ (by simp) rfl) rfl)) (enters_of Tryd.func18 (by kernel_rfl) rfl)) ((LP v (mm.then (mv v hst.1))).mono ?_)
            rintro e v' ⟨A', c', rfl, hO', m2⟩
            exact ⟨_, rfl, hK ⟨A', c'⟩ _ _ (fun j' o' s' g1 g2 g3 => by
                have g4 : j' < 21 := (Array.getElem?_eq_some_iff.1 g1).1
                clear hpar hgot hdep hK
                obtain rfl | rfl | rfl | rfl | rfl | rfl | rfl | rfl | rfl | rfl | rfl | rfl | rfl | rfl | rfl | rfl | rfl | rfl | rfl | rfl | rfl : j' = 0 ∨ j' = 1 ∨ j' = 2 ∨ j' = 3 ∨ j' = 4 ∨ j' = 5 ∨ j' = 6 ∨ j' = 7 ∨ j' = 8 ∨ j' = 9 ∨ j' = 10 ∨ j' = 11 ∨ j' = 12 ∨ j' = 13 ∨ j' = 14 ∨ j' = 15 ∨ j' = 16 ∨ j' = 17 ∨ j' = 18 ∨ j' = 19 ∨ j' = 20 := by omega
                all_goals (cases g1; cases g3 <;> first | rfl | (rw [hlj] at g2; cases g2))) (fun s hs => by cases hs; rfl) ⟨hst.1.then m2, fun _ => hO'⟩⟩
          · refine wp_calledW (wanted_yes rfl rfl rfl (hgot 13 _ 77 rfl (hdep ⟨13, .guard⟩ (by simp) rfl) rfl)) (exec_call2 rfl rfl (eval_tmp (hgot 14 _ 78 rfl (hdep ⟨14, .data⟩ (by simp) rfl) rfl)) (eval_tmp (hgot 17 _ 81 rfl (hdep ⟨17, .data⟩ (by simp) rfl) rfl)) (enters_of Tryd.func17 (by kernel_rfl) rfl)) ((lawSame_c pt A0 y.A 3 c0 y.c HPT.out (by decide) v (hOP.keep (mv v hst.1) (by simp)).cells (hst.2 (hdep ⟨17, .data⟩ (by simp) rfl)).cells).mono ?_)
            rintro e v' ⟨rfl, m2⟩
            exact ⟨_, rfl, hK y _ _ (fun _ _ _ _ _ _ => rfl) (fun s hs => by cases hs; rfl) ⟨hst.1.then m2, fun h => (hst.2 (by simpa using h)).keep m2 (by simp)⟩⟩
          · exact wp_ranW (wanted_yes rfl rfl rfl (hgot 13 _ 77 rfl (hdep ⟨13, .guard⟩ (by simp) rfl) rfl)) (exec_not rfl (eval_tmp (hgot 18 _ 82 rfl (hdep ⟨18, .data⟩ (by simp) rfl) rfl))) (hK y _ _ (fun _ _ _ _ _ _ => rfl) (fun s hs => by cases hs; rfl) ⟨hst.1, by simpa using hst.2⟩)
          · exact wp_ran rfl (exec_pick rfl (eval_tmp (hgot 13 _ 77 rfl (hdep ⟨13, .data⟩ (by simp) rfl) rfl)) rfl (eval_tmp (hgot 19 _ 83 rfl (hdep ⟨19, .data⟩ (by simp) rfl) rfl)) rfl) (hK y _ _ (fun _ _ _ _ _ _ => rfl) (fun s hs => by cases hs; rfl) ⟨hst.1, by simpa using hst.2⟩)
        case fin =>
        intro y lz vr hlz hst
        have mq := (Mod.drew [] wq).then hst.1
        simp only [setAll, List.foldl_cons, List.foldl_nil, List.set_cons_succ, List.set_cons_zero]
        go_wp2_with fail
        exact ⟨⟨k + 1, by omega, by go_num, (k2.keep mq (by simp)), (k5.keep mq (by simp)), mm.then mq⟩, by simp [intOf]; omega⟩
      · obtain rfl : k = 4 := by omega
        obtain ⟨g, oo, hA, hcz⟩ := (HR.out.2.keep mm (by simp)).int_at 4 (by rw [← HR.out.1]; exact hkn)
        subst hA
        obtain ⟨z, hz⟩ : ∃ z, z = zs[4]'(by rw [← HR.out.1]; exact hkn) := ⟨_, rfl⟩
        rw [← hz] at hcz
        clear hz HR
        go_wp2_with (first
          | (with_reducible refine wpList_load1 (o := ⟨some 27, .load 3 (.tmp 26), _, _, _, _⟩) rfl 3 (.tmp 26) rfl ⟨g, oo + 4, none⟩ (.int .i64 z) rfl _ Tryd.underlying3 rfl hcz ?_))
        go_ret
        exact ⟨rfl, mm⟩
    · have hkZ : ¬ (k : Int) < (N : Int) := by omega
      clear HR
      go_wp2_with fail
      go_ret
      exact ⟨rfl, mm⟩
end Go.Proofs.YtbacmeaeehhhfaaDoor
