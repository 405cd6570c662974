/-
  PermGoes: the changes of one class (k4). My own work.
-/
import Derived.Test.YtaadmpainikfpaaGb
namespace Go.Proofs.Ytaadmpainikfpaa
open Go.RowKit Go.Shelf
attribute [local go_sem] Oper.semAt_some
set_option linter.unusedVariables false
set_option linter.unusedSimpArgs false
set_option maxRecDepth 100000 in
set_option maxHeartbeats 40000000 in
theorem goes_k4 : goesP.k4 := by
  intro w own0 n c hcn B nb cb m hcap hbig HM hc8 mx o md g dg Qx w1 w2 cs2 b7 w3 w4 Kx ax wr u6 u9 u10 u11 u12 u13 u14 u33 u34 u35 u36 u37 u38 u39 u40 u41 u42 u43 u44 u45 u46 u47 u48 u49 u50 u51 u52 u53 u54 u55 u56 u57 u58 u59 u60 u61 u62 u63 u64 u65 u66 u67 u68 u69 u70 u71 u72 u73 u74 u75 u76 u77 u78 u79 u80 u81 u82 u83 u84 u85 u86 u87 u88 u89 u90 u91 u92 u93 u94 u95 u96 u97 u98 u99 u100 u101 u102 u103 u104 u105 u106 u107 u108 u109 u110 u111 u112 u113 u114 u115 u116 u117 u118 u119 u120 u121 u122 u123 u124 u125 u126 u127 u128 u129 u130 u131 u132 u133 u134 u135 u136 u137 u138 u139 u140 u141 u142 u143 u144 u145 u146 u147 u148 u149 u150 u151 u152 u153 u154 u155 u156 u157 u158 u159 u160 u161 u162 u163 u164 u165 u166 u167 u168 u169 u170 u171 u172 u173 u174 u175 u176 u177 u178 u179 u180 u181 u182 u183 u184 u185 j p hj hR hjn cs S F0 ga fa z y x0 HA HC3 h5 e40 k HK q HK0 DO HG e1 kck2 c2 kck4
  subst kck4
  go_wp2_with (first
    | (with_reducible refine wpList_loads (o := ⟨some 36, .load 26 (.tmp 35), _, _, _, _⟩) rfl 26 (.tmp 35) rfl ga (fa + j * 3) [ci z, ci y, ci x0] rfl HC3.out _ Try.underlying26 rfl (size26o z y x0) _ rfl ?_)
    | (with_reducible refine fm_alloc F0 (o := ⟨some 10, .alloc 26, _, _, _, _⟩) rfl 26 rfl _ zero26' ?_; intro b10 wa Fa; clear F0)
    | (with_reducible refine fm_store26 Fa 0 rfl (o := ⟨none, .store 26 (.tmp 10) (.tmp 36), _, _, _, _⟩) rfl (.tmp 10) (.tmp 36) rfl rfl rfl rfl ?_; intro wb F; clear Fa)
    | (with_reducible refine fm_load F 1 rfl (o := ⟨some 40, .load 24 (.tmp 7), _, _, _, _⟩) rfl (.tmp 7) rfl rfl h5 ?_)
    | (with_reducible refine fm_load26 F 0 rfl (o := ⟨some 41, .load 26 (.tmp 10), _, _, _, _⟩) rfl (.tmp 10) rfl rfl ?_)
    | (go_at_call 9; refine (DO.out _ (F.s 0 rfl) (F.slt 0 rfl)).mono ?_
       rintro e wc ⟨ds, rfl, hP2, m2⟩
       have F2 := (F.put m2 (tP _ _ ds) (keeps_tP _ _ _) hP2 (fun g hg => .inl hg))
       have h5q := hP2.len
       have h1q := hP2.one
       clear F m2 hP2)
    | (with_reducible refine fm_alloc F2 (o := ⟨some 11, .alloc 24, _, _, _, _⟩) rfl 24 rfl _ zero24 ?_; intro b11 wd F3; clear F2)
    | (with_reducible refine fm_store F3 0 rfl (o := ⟨none, .store 24 (.tmp 11) (.tmp 43), _, _, _, _⟩) rfl (.tmp 11) (.tmp 43) rfl rfl ds rfl rfl h5q rfl h1q ?_; intro we F; clear F3)
    | (with_reducible refine fm_load26 F 1 rfl (o := ⟨some 50, .load 26 (.tmp 10), _, _, _, _⟩) rfl (.tmp 10) rfl rfl ?_)
    | (with_reducible refine fm_load26G F 1 rfl (o := ⟨some 54, .load 26 (.tmp 10), _, _, _, _⟩) (by with_unfolding_all rfl) (.tmp 10) rfl rfl ?_)
    | (go_at_call 12; with_reducible refine Calls.mono (kind_c z y x0 _ HK _) ?_; rintro e wz ⟨rfl, mz⟩; replace F := F.call mz; clear mz))
  have hQ := F.s 0 rfl
  have hP := F.s 1 rfl
  have HP0 : Hid (cs[0]? = some (ci p.own)) := Lib.hid (PIs.c0 hP)
  have HP1 : Hid (cs[1]? = some (ci p.ep)) := Lib.hid (PIs.c1 hP)
  have HQ0 : Hid (ds[0]? = some (ci p.own)) := Lib.hid (by rw [← HG.out.own]; exact PIs.c0 hQ)
  have HQ1 : Hid (ds[1]? = some (ci q.ep)) := Lib.hid (PIs.c1 hQ)
  have HBQ : Hid (q.rightB = true) := Lib.hid ((Pm.right_iff q).2 HG.out.right)
  have hpe := hR.out.e1
  have hpe8 := hR.out.e8
  have hqe := HG.out.ep
  rw [if_pos (by omega)] at hqe
  obtain ⟨pe, hpe0⟩ : ∃ e, e = p.ep := ⟨_, rfl⟩
  obtain ⟨qe, hqe0⟩ : ∃ e, e = q.ep := ⟨_, rfl⟩
  rw [← hpe0] at HP1 hpe hpe8 hqe
  rw [← hqe0] at HQ1 hqe
  have HNE : Hid ((!(qe == pe)) = true) := Lib.hid (by simp; omega)
  have HGT : Hid (decide (pe < qe) = true) := Lib.hid (by simp; omega)
  have HADD : Hid (IntKind.i64.wrap (pe + 1) = qe) := Lib.hid (by rw [IntKind.wrap_i64] <;> omega)
  obtain ⟨Sq, TB, F', HTQ, HTP⟩ : ∃ Sq TB, Fm w _ [oB b11 24 ds, oB b10 26 [ci z, ci y, ci x0], oB b7 24 cs] TB ∧ Hid (tP Sq q ds ∈ TB) ∧ Hid (tP S p cs ∈ TB) := ⟨_, _, F, Lib.hid (List.mem_cons_self ..), Lib.hid (List.mem_cons_of_mem _ (List.mem_cons_self ..))⟩
  clear F hQ hP hpe hpe8 hqe hpe0 hqe0
  have F := F'
  clear F' 
  refine wp_region_upx (X := XC) (⟨0, [], []⟩) (fun x => [(58, .agg ds.toArray), (59, .int .i64 0), (60, .bool false), (61, .bool false), (62, .pointer (some ⟨b11, 0, none⟩)), (63, ci p.own), (64, .pointer (some ⟨b7, 0, none⟩)), (65, ci p.own), (66, .bool false), (67, .bool false), (68, .bool false), (69, .pointer (some ⟨b11, 1, none⟩)), (70, ci qe), (71, .pointer (some ⟨b7, 1, none⟩)), (72, ci pe), (73, .bool true), (74, .bool true), (75, .pointer (some ⟨b11, 1, none⟩)), (76, ci qe), (77, .pointer (some ⟨b7, 1, none⟩)), (78, ci pe), (79, ci qe), (80, .bool false), (81, .bool false), (82, .bool false), (83, .bool false), (84, .pointer (some ⟨b11, 1, none⟩)), (85, ci qe), (86, .pointer (some ⟨b7, 1, none⟩)), (87, ci pe), (88, .bool true), (89, .bool true), (90, .bool true), (91, undef), (92, undef), (93, undef), (94, .bool true), (95, .bool false), (96, .bool false)]) 186 [58, 59, 60, 61, 62, 63, 64, 65, 66, 67, 68, 69, 70, 71, 72, 73, 74, 75, 76, 77, 78, 79, 80, 81, 82, 83, 84, 85, 86, 87, 88, 89, 90, 91, 92, 93, 94, 95, 96] rfl (fun _ => rfl) (by decide) (by kernel_rfl) (fun x lz v => CgS w [oB b11 24 ds, oB b10 26 [ci z, ci y, ci x0], oB b7 24 cs] TB p p false false false false x v) (by kernel_rfl) (CgS.begin (F.call (Mod.drew [] _)) _) (by kernel_rfl) (by kernel_rfl) ?_ ?_
  · skip
    intro x lz T v j o hj hlj hdep hst hpar hgot hcl Kq hK
    have hjn : j < 39 := (Array.getElem?_eq_some_iff.1 hj).1
    obtain rfl | rfl | rfl | rfl | rfl | rfl | rfl | rfl | rfl | rfl | rfl | rfl | rfl | rfl | rfl | rfl | rfl | rfl | rfl | rfl | rfl | rfl | rfl | rfl | rfl | rfl | rfl | rfl | rfl | rfl | rfl | rfl | rfl | rfl | rfl | rfl | rfl | rfl | rfl : j = 0 ∨ j = 1 ∨ j = 2 ∨ j = 3 ∨ j = 4 ∨ j = 5 ∨ j = 6 ∨ j = 7 ∨ j = 8 ∨ j = 9 ∨ j = 10 ∨ j = 11 ∨ j = 12 ∨ j = 13 ∨ j = 14 ∨ j = 15 ∨ j = 16 ∨ j = 17 ∨ j = 18 ∨ j = 19 ∨ j = 20 ∨ j = 21 ∨ j = 22 ∨ j = 23 ∨ j = 24 ∨ j = 25 ∨ j = 26 ∨ j = 27 ∨ j = 28 ∨ j = 29 ∨ j = 30 ∨ j = 31 ∨ j = 32 ∨ j = 33 ∨ j = 34 ∨ j = 35 ∨ j = 36 ∨ j = 37 ∨ j = 38 := by omega
    all_goals (have hj' := Option.some.inj (hj : some _ = some o); subst hj'; clear hj)
    · exact wp_ran rfl (exec_load rfl (eval_tmp ((hpar 11 rfl).trans rfl)) (run_loads (Cells.of_holds (hst.own (y := oB b11 24 ds) (by simp))) Try.underlying24 rfl (size24' h5q))) (hK x _ _ (fun _ _ _ _ _ _ => rfl) (fun s hs => by cases hs; rfl) (by simpa using hst))
    · obtain ⟨hP, hS⟩ := hst.std HTQ.out
      refine wp_called rfl (exec_call1 rfl rfl (eval_tmp (hgot 0 _ 58 rfl (hdep ⟨0, .data⟩ (by simp) rfl) rfl)) (enters_of Try.func15 (by kernel_rfl) rfl)) ((check_p hP true HBQ).mono ?_)
      rintro e v' ⟨rfl, m1⟩
      exact ⟨_, rfl, hK x _ _ (fun _ _ _ _ _ _ => rfl) (fun s hs => by cases hs; rfl) (by simpa using hst.call m1)⟩
    · exact wp_ran rfl (exec_nei rfl rfl (eval_tmp (hgot 1 _ 59 rfl (hdep ⟨1, .data⟩ (by simp) rfl) rfl)) rfl) (hK x _ _ (fun _ _ _ _ _ _ => rfl) (fun s hs => by cases hs; rfl) (by simpa using hst))
    · exact wp_ran rfl (exec_move rfl (eval_tmp (hgot 2 _ 60 rfl (hdep ⟨2, .data⟩ (by simp) rfl) rfl))) (hK x _ _ (fun _ _ _ _ _ _ => rfl) (fun s hs => by cases hs; rfl) (by simpa using hst))
    · exact wp_ranW (wanted_yes rfl rfl rfl (hgot 3 _ 61 rfl (hdep ⟨3, .guard⟩ (by simp) rfl) rfl)) (exec_fp24_0 rfl (eval_tmp ((hpar 11 rfl).trans rfl))) (hK x _ _ (fun _ _ _ _ _ _ => rfl) (fun s hs => by cases hs; rfl) (by simpa using hst))
    · exact wp_ranW (wanted_yes rfl rfl rfl (hgot 3 _ 61 rfl (hdep ⟨3, .guard⟩ (by simp) rfl) rfl)) (exec_load rfl (eval_tmp (hgot 4 _ 62 rfl (hdep ⟨4, .data⟩ (by simp) rfl) rfl)) (run_load1 Try.underlying3 rfl (((hst.own (y := oB b11 24 ds) (by simp) : Holds v b11 24 _).cell 0).trans HQ0.out))) (hK x _ _ (fun _ _ _ _ _ _ => rfl) (fun s hs => by cases hs; rfl) (by simpa using hst))
    · exact wp_ranW (wanted_yes rfl rfl rfl (hgot 3 _ 61 rfl (hdep ⟨3, .guard⟩ (by simp) rfl) rfl)) (exec_fp24_0 rfl (eval_tmp ((hpar 7 rfl).trans rfl))) (hK x _ _ (fun _ _ _ _ _ _ => rfl) (fun s hs => by cases hs; rfl) (by simpa using hst))
    · exact wp_ranW (wanted_yes rfl rfl rfl (hgot 3 _ 61 rfl (hdep ⟨3, .guard⟩ (by simp) rfl) rfl)) (exec_load rfl (eval_tmp (hgot 6 _ 64 rfl (hdep ⟨6, .data⟩ (by simp) rfl) rfl)) (run_load1 Try.underlying3 rfl (((hst.own (y := oB b7 24 cs) (by simp) : Holds v b7 24 _).cell 0).trans HP0.out))) (hK x _ _ (fun _ _ _ _ _ _ => rfl) (fun s hs => by cases hs; rfl) (by simpa using hst))
    · exact wp_ranW (wanted_yes rfl rfl rfl (hgot 3 _ 61 rfl (hdep ⟨3, .guard⟩ (by simp) rfl) rfl)) (exec_nei (r := false) (by simp) rfl (eval_tmp (hgot 5 _ 63 rfl (hdep ⟨5, .data⟩ (by simp) rfl) rfl)) (eval_tmp (hgot 7 _ 65 rfl (hdep ⟨7, .data⟩ (by simp) rfl) rfl))) (hK x _ _ (fun _ _ _ _ _ _ => rfl) (fun s hs => by cases hs; rfl) (by simpa using hst))
    · exact wp_ran rfl (exec_pick rfl (eval_tmp (hgot 3 _ 61 rfl (hdep ⟨3, .data⟩ (by simp) rfl) rfl)) rfl (eval_tmp (hgot 8 _ 66 rfl (hdep ⟨8, .data⟩ (by simp) rfl) rfl)) rfl) (hK x _ _ (fun _ _ _ _ _ _ => rfl) (fun s hs => by cases hs; rfl) (by simpa using hst))
    · exact wp_ran rfl (exec_move rfl (eval_tmp (hgot 9 _ 67 rfl (hdep ⟨9, .data⟩ (by simp) rfl) rfl))) (hK x _ _ (fun _ _ _ _ _ _ => rfl) (fun s hs => by cases hs; rfl) (by simpa using hst))
    · exact wp_ranW (wanted_yes rfl rfl rfl (hgot 10 _ 68 rfl (hdep ⟨10, .guard⟩ (by simp) rfl) rfl)) (exec_fp24_1 rfl (eval_tmp ((hpar 11 rfl).trans rfl))) (hK x _ _ (fun _ _ _ _ _ _ => rfl) (fun s hs => by cases hs; rfl) (by simpa using hst))
    · exact wp_ranW (wanted_yes rfl rfl rfl (hgot 10 _ 68 rfl (hdep ⟨10, .guard⟩ (by simp) rfl) rfl)) (exec_load rfl (eval_tmp (hgot 11 _ 69 rfl (hdep ⟨11, .data⟩ (by simp) rfl) rfl)) (run_load1 Try.underlying3 rfl (((hst.own (y := oB b11 24 ds) (by simp) : Holds v b11 24 _).cell 1).trans HQ1.out))) (hK x _ _ (fun _ _ _ _ _ _ => rfl) (fun s hs => by cases hs; rfl) (by simpa using hst))
    · exact wp_ranW (wanted_yes rfl rfl rfl (hgot 10 _ 68 rfl (hdep ⟨10, .guard⟩ (by simp) rfl) rfl)) (exec_fp24_1 rfl (eval_tmp ((hpar 7 rfl).trans rfl))) (hK x _ _ (fun _ _ _ _ _ _ => rfl) (fun s hs => by cases hs; rfl) (by simpa using hst))
    · exact wp_ranW (wanted_yes rfl rfl rfl (hgot 10 _ 68 rfl (hdep ⟨10, .guard⟩ (by simp) rfl) rfl)) (exec_load rfl (eval_tmp (hgot 13 _ 71 rfl (hdep ⟨13, .data⟩ (by simp) rfl) rfl)) (run_load1 Try.underlying3 rfl (((hst.own (y := oB b7 24 cs) (by simp) : Holds v b7 24 _).cell 1).trans HP1.out))) (hK x _ _ (fun _ _ _ _ _ _ => rfl) (fun s hs => by cases hs; rfl) (by simpa using hst))
    · exact wp_ranW (wanted_yes rfl rfl rfl (hgot 10 _ 68 rfl (hdep ⟨10, .guard⟩ (by simp) rfl) rfl)) (exec_nei HNE.out rfl (eval_tmp (hgot 12 _ 70 rfl (hdep ⟨12, .data⟩ (by simp) rfl) rfl)) (eval_tmp (hgot 14 _ 72 rfl (hdep ⟨14, .data⟩ (by simp) rfl) rfl))) (hK x _ _ (fun _ _ _ _ _ _ => rfl) (fun s hs => by cases hs; rfl) (by simpa using hst))
    · exact wp_ranW (wanted_yes rfl rfl rfl (hgot 10 _ 68 rfl (hdep ⟨10, .chain⟩ (by simp) rfl) rfl)) (exec_move rfl (eval_tmp (hgot 15 _ 73 rfl (hdep ⟨15, .data⟩ (by simp) rfl) rfl))) (hK x _ _ (fun _ _ _ _ _ _ => rfl) (fun s hs => by cases hs; rfl) (by simpa using hst))
    · exact wp_ranW (wanted_yes rfl rfl rfl (hgot 16 _ 74 rfl (hdep ⟨16, .guard⟩ (by simp) rfl) rfl)) (exec_fp24_1 rfl (eval_tmp ((hpar 11 rfl).trans rfl))) (hK x _ _ (fun _ _ _ _ _ _ => rfl) (fun s hs => by cases hs; rfl) (by simpa using hst))
    · exact wp_ranW (wanted_yes rfl rfl rfl (hgot 16 _ 74 rfl (hdep ⟨16, .guard⟩ (by simp) rfl) rfl)) (exec_load rfl (eval_tmp (hgot 17 _ 75 rfl (hdep ⟨17, .data⟩ (by simp) rfl) rfl)) (run_load1 Try.underlying3 rfl (((hst.own (y := oB b11 24 ds) (by simp) : Holds v b11 24 _).cell 1).trans HQ1.out))) (hK x _ _ (fun _ _ _ _ _ _ => rfl) (fun s hs => by cases hs; rfl) (by simpa using hst))
    · exact wp_ranW (wanted_yes rfl rfl rfl (hgot 16 _ 74 rfl (hdep ⟨16, .guard⟩ (by simp) rfl) rfl)) (exec_fp24_1 rfl (eval_tmp ((hpar 7 rfl).trans rfl))) (hK x _ _ (fun _ _ _ _ _ _ => rfl) (fun s hs => by cases hs; rfl) (by simpa using hst))
    · exact wp_ranW (wanted_yes rfl rfl rfl (hgot 16 _ 74 rfl (hdep ⟨16, .guard⟩ (by simp) rfl) rfl)) (exec_load rfl (eval_tmp (hgot 19 _ 77 rfl (hdep ⟨19, .data⟩ (by simp) rfl) rfl)) (run_load1 Try.underlying3 rfl (((hst.own (y := oB b7 24 cs) (by simp) : Holds v b7 24 _).cell 1).trans HP1.out))) (hK x _ _ (fun _ _ _ _ _ _ => rfl) (fun s hs => by cases hs; rfl) (by simpa using hst))
    · exact wp_ranW (wanted_yes rfl rfl rfl (hgot 16 _ 74 rfl (hdep ⟨16, .guard⟩ (by simp) rfl) rfl)) (exec_add rfl (eval_tmp (hgot 20 _ 78 rfl (hdep ⟨20, .data⟩ (by simp) rfl) rfl)) rfl HADD.out) (hK x _ _ (fun _ _ _ _ _ _ => rfl) (fun s hs => by cases hs; rfl) (by simpa using hst))
    · exact wp_ranW (wanted_yes rfl rfl rfl (hgot 16 _ 74 rfl (hdep ⟨16, .guard⟩ (by simp) rfl) rfl)) (exec_nei (r := false) (by simp) rfl (eval_tmp (hgot 18 _ 76 rfl (hdep ⟨18, .data⟩ (by simp) rfl) rfl)) (eval_tmp (hgot 21 _ 79 rfl (hdep ⟨21, .data⟩ (by simp) rfl) rfl))) (hK x _ _ (fun _ _ _ _ _ _ => rfl) (fun s hs => by cases hs; rfl) (by simpa using hst))
    · exact wp_ranW (wanted_yes rfl rfl rfl (hgot 10 _ 68 rfl (hdep ⟨10, .guard⟩ (by simp) rfl) rfl)) (exec_pick rfl (eval_tmp (hgot 16 _ 74 rfl (hdep ⟨16, .data⟩ (by simp) rfl) rfl)) (eval_tmp (hgot 22 _ 80 rfl (hdep ⟨22, .data⟩ (by simp) rfl) rfl)) rfl rfl) (hK x _ _ (fun _ _ _ _ _ _ => rfl) (fun s hs => by cases hs; rfl) (by simpa using hst))
    · exact wp_ran rfl (exec_pick rfl (eval_tmp (hgot 10 _ 68 rfl (hdep ⟨10, .data⟩ (by simp) rfl) rfl)) rfl (eval_tmp (hgot 23 _ 81 rfl (hdep ⟨23, .data⟩ (by simp) rfl) rfl)) rfl) (hK x _ _ (fun _ _ _ _ _ _ => rfl) (fun s hs => by cases hs; rfl) (by simpa using hst))
    · exact wp_ran rfl (exec_move rfl (eval_tmp (hgot 24 _ 82 rfl (hdep ⟨24, .data⟩ (by simp) rfl) rfl))) (hK x _ _ (fun _ _ _ _ _ _ => rfl) (fun s hs => by cases hs; rfl) (by simpa using hst))
    · exact wp_ranW (wanted_yes rfl rfl rfl (hgot 25 _ 83 rfl (hdep ⟨25, .guard⟩ (by simp) rfl) rfl)) (exec_fp24_1 rfl (eval_tmp ((hpar 11 rfl).trans rfl))) (hK x _ _ (fun _ _ _ _ _ _ => rfl) (fun s hs => by cases hs; rfl) (by simpa using hst))
    · exact wp_ranW (wanted_yes rfl rfl rfl (hgot 25 _ 83 rfl (hdep ⟨25, .guard⟩ (by simp) rfl) rfl)) (exec_load rfl (eval_tmp (hgot 26 _ 84 rfl (hdep ⟨26, .data⟩ (by simp) rfl) rfl)) (run_load1 Try.underlying3 rfl (((hst.own (y := oB b11 24 ds) (by simp) : Holds v b11 24 _).cell 1).trans HQ1.out))) (hK x _ _ (fun _ _ _ _ _ _ => rfl) (fun s hs => by cases hs; rfl) (by simpa using hst))
    · exact wp_ranW (wanted_yes rfl rfl rfl (hgot 25 _ 83 rfl (hdep ⟨25, .guard⟩ (by simp) rfl) rfl)) (exec_fp24_1 rfl (eval_tmp ((hpar 7 rfl).trans rfl))) (hK x _ _ (fun _ _ _ _ _ _ => rfl) (fun s hs => by cases hs; rfl) (by simpa using hst))
    · exact wp_ranW (wanted_yes rfl rfl rfl (hgot 25 _ 83 rfl (hdep ⟨25, .guard⟩ (by simp) rfl) rfl)) (exec_load rfl (eval_tmp (hgot 28 _ 86 rfl (hdep ⟨28, .data⟩ (by simp) rfl) rfl)) (run_load1 Try.underlying3 rfl (((hst.own (y := oB b7 24 cs) (by simp) : Holds v b7 24 _).cell 1).trans HP1.out))) (hK x _ _ (fun _ _ _ _ _ _ => rfl) (fun s hs => by cases hs; rfl) (by simpa using hst))
    · exact wp_ranW (wanted_yes rfl rfl rfl (hgot 25 _ 83 rfl (hdep ⟨25, .guard⟩ (by simp) rfl) rfl)) (exec_gtr HGT.out rfl (eval_tmp (hgot 27 _ 85 rfl (hdep ⟨27, .data⟩ (by simp) rfl) rfl)) (eval_tmp (hgot 29 _ 87 rfl (hdep ⟨29, .data⟩ (by simp) rfl) rfl))) (hK x _ _ (fun _ _ _ _ _ _ => rfl) (fun s hs => by cases hs; rfl) (by simpa using hst))
    · exact wp_ranW (wanted_yes rfl rfl rfl (hgot 25 _ 83 rfl (hdep ⟨25, .guard⟩ (by simp) rfl) rfl)) (exec_move rfl (eval_tmp ((hpar 13 rfl).trans rfl))) (hK x _ _ (fun _ _ _ _ _ _ => rfl) (fun s hs => by cases hs; rfl) (by simpa using hst))
    · exact wp_ranW (wanted_yes rfl rfl rfl (hgot 25 _ 83 rfl (hdep ⟨25, .chain⟩ (by simp) rfl) rfl)) (exec_move rfl (eval_tmp (hgot 31 _ 89 rfl (hdep ⟨31, .data⟩ (by simp) rfl) rfl))) (hK x _ _ (fun _ _ _ _ _ _ => rfl) (fun s hs => by cases hs; rfl) (by simpa using hst))
    · exact wp_skip (wanted_no rfl rfl rfl rfl (hgot 32 _ 90 rfl (hdep ⟨32, .guard⟩ (by simp) rfl) rfl)) (hK x _ _ (fun _ _ _ _ _ _ => rfl) (fun s hs => by cases hs; rfl) (by simpa using hst))
    · exact wp_skip (wanted_no rfl rfl rfl rfl (hgot 32 _ 90 rfl (hdep ⟨32, .chain⟩ (by simp) rfl) rfl)) (hK x _ _ (fun _ _ _ _ _ _ => rfl) (fun s hs => by cases hs; rfl) (by simpa using hst))
    · exact wp_skip (wanted_no rfl rfl rfl rfl (hgot 32 _ 90 rfl (hdep ⟨32, .guard⟩ (by simp) rfl) rfl)) (hK x _ _ (fun _ _ _ _ _ _ => rfl) (fun s hs => by cases hs; rfl) (by simpa using hst))
    · exact wp_ranW (wanted_yes rfl rfl rfl (hgot 25 _ 83 rfl (hdep ⟨25, .guard⟩ (by simp) rfl) rfl)) (exec_pick rfl (eval_tmp (hgot 32 _ 90 rfl (hdep ⟨32, .data⟩ (by simp) rfl) rfl)) rfl (eval_tmp (hgot 35 _ 93 rfl (hdep ⟨35, .data⟩ (by simp) rfl) rfl)) rfl) (hK x _ _ (fun _ _ _ _ _ _ => rfl) (fun s hs => by cases hs; rfl) (by simpa using hst))
    · exact wp_ranW (wanted_yes rfl rfl rfl (hgot 25 _ 83 rfl (hdep ⟨25, .guard⟩ (by simp) rfl) rfl)) (exec_neb Try.underlying4 rfl (eval_tmp (hgot 30 _ 88 rfl (hdep ⟨30, .data⟩ (by simp) rfl) rfl)) (eval_tmp (hgot 36 _ 94 rfl (hdep ⟨36, .data⟩ (by simp) rfl) rfl))) (hK x _ _ (fun _ _ _ _ _ _ => rfl) (fun s hs => by cases hs; rfl) (by simpa using hst))
    · exact wp_ran rfl (exec_pick rfl (eval_tmp (hgot 25 _ 83 rfl (hdep ⟨25, .data⟩ (by simp) rfl) rfl)) rfl (eval_tmp (hgot 37 _ 95 rfl (hdep ⟨37, .data⟩ (by simp) rfl) rfl)) rfl) (hK x _ _ (fun _ _ _ _ _ _ => rfl) (fun s hs => by cases hs; rfl) (by simpa using hst))
  intro xx lz v17 hlz hst
  obtain ⟨T17, F17, hT17, hc17⟩ := hst
  have G17 : Fm w v17 [oB b11 24 ds, oB b10 26 [ci z, ci y, ci x0], oB b7 24 cs] T17 := F17
  have HTP7 : Hid (tP S p cs ∈ T17) := Lib.hid (hT17 _ HTP.out)
  have HTQ7 : Hid (tP Sq q ds ∈ T17) := Lib.hid (hT17 _ HTQ.out)
  clear hlz F17 hT17 hc17 F HTP HTQ
  have F := G17
  have HTP := HTP7
  have HTQ := HTQ7
  clear G17 HTP7 HTQ7
  simp only [setAll, Act.put, List.foldl_cons, List.foldl_nil, List.setIfInBounds_toArray, List.set_cons_succ, List.set_cons_zero]
  go_wp2_with fail
  have K1 : Hid (∃ ts, Fm w v17 [oB b11 24 ds, oB b10 26 [ci z, ci y, ci x0], oB b7 24 cs] ts ∧ tP Sq q ds ∈ ts ∧ tP S p cs ∈ ts) := Lib.hid ⟨_, F, HTQ.out, HTP.out⟩
  clear F HTQ HTP
  go_loopw [14] (fun i wr => ∃ nn : Nat, i = .int .i64 nn ∧ 1 ≤ nn ∧ nn ≤ 7 ∧ Hid (∃ ts, Fm w wr [oB b11 24 ds, oB b10 26 [ci z, ci y, ci x0], oB b7 24 cs] ts ∧ tP Sq q ds ∈ ts ∧ tP S p cs ∈ ts)) (fun i _ => 7 - (intOf i).toNat)
  case atStart => exact ⟨1, rfl, by omega, by omega, K1⟩
  case round =>
  obtain ⟨nn, rfl, hn1, hn7, hk⟩ := hrel
  clear K1
  obtain ⟨ts, F, hTQ, hTP⟩ := hk.out
  have HTQ := Lib.hid hTQ
  have HTP := Lib.hid hTP
  clear hk hTQ hTP
  by_cases h7 : nn ≤ 6
  case neg =>
    have h1q := (F.k _ (.inr HTQ.out)).2.1.one
    go_wp2_with (first
      | (with_reducible refine fm_load F 0 rfl (o := ⟨some 184, .load 24 (.tmp 11), _, _, _, _⟩) rfl (.tmp 11) rfl rfl h5q ?_)
      | (with_reducible refine fm_store F 2 rfl (o := ⟨none, .store 24 (.tmp 7) (.tmp 184), _, _, _, _⟩) rfl (.tmp 7) (.tmp 184) rfl rfl ds rfl rfl h5q h5 h1q ?_; intro wy F8; clear F))
    exact ⟨⟨j + 1, q, by go_num, by omega, Lib.hid HG.out.right, Lib.hid ⟨ds, Sq, F8.onlyM (x := oB b7 24 ds) (by simp) HTQ.out⟩⟩, by simp [intOf]; omega⟩
  obtain ⟨a, ha⟩ : ∃ a, p.mayR (nn : Int) m = a := ⟨_, rfl⟩
  obtain ⟨b, hb⟩ : ∃ a, q.mayR (nn : Int) m = a := ⟨_, rfl⟩
  obtain ⟨c', hc⟩ : ∃ a, p.mayW (nn : Int) = a := ⟨_, rfl⟩
  obtain ⟨d, hd⟩ : ∃ a, q.mayW (nn : Int) = a := ⟨_, rfl⟩
  obtain ⟨e, he⟩ : ∃ a, q.mayR (nn : Int) [] = a := ⟨_, rfl⟩
  have lde : d = true → e = true := fun h => by rw [← he]; exact HG.out.writes (by omega) (by omega) (hd.trans h)
  have lab : a = true → b = false → _ := fun h h' => HG.out.lost hR.out (ha.trans h) (hb.trans h')
  have lcd : c' = true → d = false → _ := fun h h' => HG.out.lostW hR.out (hc.trans h) (hd.trans h')
  have lba : b = true → a = true := fun h => by rw [← ha]; exact HG.out.got hR.out (by omega) (hb.trans h)
  have ldc : d = true → c' = true := fun h => by rw [← hc]; exact HG.out.gotW hR.out (by omega) (hd.trans h)
  have hab : (a = false ∧ b = false) ∨ (a = true ∧ b = true) ∨ (a = true ∧ b = false) := by
    cases a <;> cases b <;> simp_all
  have hcd : (c' = false ∧ d = false) ∨ (c' = true ∧ d = true) := by
    cases c' <;> cases d <;> simp_all
  have HA1 := Lib.hid ha
  have HB1 := Lib.hid hb
  have HC := Lib.hid hc
  have HD := Lib.hid hd
  have HE := Lib.hid he
  clear ha hb hc hd he lab lcd lba ldc
  have CC : Hid (∀ v ts, Fm w v [oB b11 24 ds, oB b10 26 [ci z, ci y, ci x0], oB b7 24 cs] ts → tP S p cs ∈ ts → Calls Try.prog 18 #[.agg cs.toArray, ci (nn : Int)] v fun r w' => r = .returned (.bool c') ∧ Mod [] v w') := Lib.hid fun v ts F h => mayW_p (F.k _ (.inr h)).2.1 (F.k _ (.inr h)).2.2 (nn : Int) _ HC
  have CD : Hid (∀ v ts, Fm w v [oB b11 24 ds, oB b10 26 [ci z, ci y, ci x0], oB b7 24 cs] ts → tP Sq q ds ∈ ts → Calls Try.prog 18 #[.agg ds.toArray, ci (nn : Int)] v fun r w' => r = .returned (.bool d) ∧ Mod [] v w') := Lib.hid fun v ts F h => mayW_p (F.k _ (.inr h)).2.1 (F.k _ (.inr h)).2.2 (nn : Int) _ HD
  have CA : Hid (∀ v ts, Fm w v [oB b11 24 ds, oB b10 26 [ci z, ci y, ci x0], oB b7 24 cs] ts → tP S p cs ∈ ts → Calls Try.prog 20 #[.agg cs.toArray, ci (nn : Int), .slice B nb cb] v fun r w' => r = .returned (.bool a) ∧ Mod [] v w') := Lib.hid fun v ts F h => mayR_q (F.k _ (.inr h)).2.1 (F.k _ (.inr h)).2.2 (nn : Int) B nb cb m (HM.out.call F.m) _ HA1
  have CB : Hid (∀ v ts, Fm w v [oB b11 24 ds, oB b10 26 [ci z, ci y, ci x0], oB b7 24 cs] ts → tP Sq q ds ∈ ts → Calls Try.prog 20 #[.agg ds.toArray, ci (nn : Int), .slice B nb cb] v fun r w' => r = .returned (.bool b) ∧ Mod [] v w') := Lib.hid fun v ts F h => mayR_q (F.k _ (.inr h)).2.1 (F.k _ (.inr h)).2.2 (nn : Int) B nb cb m (HM.out.call F.m) _ HB1
  have CE : Hid (∀ v ts, Fm w v [oB b11 24 ds, oB b10 26 [ci z, ci y, ci x0], oB b7 24 cs] ts → tP Sq q ds ∈ ts → Calls Try.prog 20 #[.agg ds.toArray, ci (nn : Int), .slice none 0 0] v fun r w' => r = .returned (.bool e) ∧ Mod [] v w') := Lib.hid fun v ts F h => mayR_q (F.k _ (.inr h)).2.1 (F.k _ (.inr h)).2.2 (nn : Int) none 0 0 [] (BelR.none _) _ HE
  clear HA1 HB1 HC HD HE
  rcases hab with ⟨rfl, rfl⟩ | ⟨rfl, rfl⟩ | ⟨rfl, rfl⟩
  · rcases hcd with ⟨rfl, rfl⟩ | ⟨rfl, rfl⟩
    · clear lde
      go_wp2_with (first
        | (with_reducible refine fm_load F 0 rfl (o := ⟨some _, .load 24 (.tmp 11), _, _, _, _⟩) rfl (.tmp 11) rfl rfl h5q ?_)
        | (with_reducible refine fm_load F 2 rfl (o := ⟨some _, .load 24 (.tmp 7), _, _, _, _⟩) rfl (.tmp 7) rfl rfl h5 ?_)
        | (with_reducible refine fm_loadG F 0 rfl (o := ⟨some _, .load 24 (.tmp 11), _, _, _, _⟩) (by with_unfolding_all rfl) (.tmp 11) rfl rfl h5q ?_)
        | (with_reducible refine fm_loadG F 2 rfl (o := ⟨some _, .load 24 (.tmp 7), _, _, _, _⟩) (by with_unfolding_all rfl) (.tmp 7) rfl rfl h5 ?_)
        | (with_reducible refine fm_load26 F 1 rfl (o := ⟨some _, .load 26 (.tmp 10), _, _, _, _⟩) rfl (.tmp 10) rfl rfl ?_)
        | (with_reducible refine fm_load26G F 1 rfl (o := ⟨some _, .load 26 (.tmp 10), _, _, _, _⟩) (by with_unfolding_all rfl) (.tmp 10) rfl rfl ?_)
        | (with_reducible refine fm_load1G' F 1 2 rfl (ci x0) rfl (o := ⟨some _, .load 3 (.tmp 127), _, _, _, _⟩) (by with_unfolding_all rfl) 3 (.tmp 127) rfl rfl (run_load1 Try.underlying3 rfl) ?_)
        | (with_reducible refine fm_load1G' F 1 2 rfl (ci x0) rfl (o := ⟨some _, .load 3 (.tmp 153), _, _, _, _⟩) (by with_unfolding_all rfl) 3 (.tmp 153) rfl rfl (run_load1 Try.underlying3 rfl) ?_)
        | (go_at_call 18; with_reducible refine Calls.mono (CC.out _ _ F HTP.out) ?_; rintro e wz ⟨rfl, mz⟩; replace F := F.call mz; clear mz)
        | (go_at_call 18; with_reducible refine Calls.mono (CD.out _ _ F HTQ.out) ?_; rintro e wz ⟨rfl, mz⟩; replace F := F.call mz; clear mz)
        | (go_at_call 20; with_reducible refine Calls.mono (CA.out _ _ F HTP.out) ?_; rintro e wz ⟨rfl, mz⟩; replace F := F.call mz; clear mz)
        | (go_at_call 20; with_reducible refine Calls.mono (CB.out _ _ F HTQ.out) ?_; rintro e wz ⟨rfl, mz⟩; replace F := F.call mz; clear mz)
        | (go_at_call 20; with_reducible refine Calls.mono (CE.out _ _ F HTQ.out) ?_; rintro e wz ⟨rfl, mz⟩; replace F := F.call mz; clear mz)
        | (go_at_call 12; with_reducible refine Calls.mono (kind_c z y x0 _ HK _) ?_; rintro e wz ⟨rfl, mz⟩; replace F := F.call mz; clear mz))
      exact ⟨⟨nn + 1, by go_num, by omega, by omega, Lib.hid ⟨_, F, HTQ.out, HTP.out⟩⟩, by simp [intOf]; omega⟩
    · obtain rfl : true = e := (lde rfl).symm
      clear lde
      go_wp2_with (first
        | (with_reducible refine fm_load F 0 rfl (o := ⟨some _, .load 24 (.tmp 11), _, _, _, _⟩) rfl (.tmp 11) rfl rfl h5q ?_)
        | (with_reducible refine fm_load F 2 rfl (o := ⟨some _, .load 24 (.tmp 7), _, _, _, _⟩) rfl (.tmp 7) rfl rfl h5 ?_)
        | (with_reducible refine fm_loadG F 0 rfl (o := ⟨some _, .load 24 (.tmp 11), _, _, _, _⟩) (by with_unfolding_all rfl) (.tmp 11) rfl rfl h5q ?_)
        | (with_reducible refine fm_loadG F 2 rfl (o := ⟨some _, .load 24 (.tmp 7), _, _, _, _⟩) (by with_unfolding_all rfl) (.tmp 7) rfl rfl h5 ?_)
        | (with_reducible refine fm_load26 F 1 rfl (o := ⟨some _, .load 26 (.tmp 10), _, _, _, _⟩) rfl (.tmp 10) rfl rfl ?_)
        | (with_reducible refine fm_load26G F 1 rfl (o := ⟨some _, .load 26 (.tmp 10), _, _, _, _⟩) (by with_unfolding_all rfl) (.tmp 10) rfl rfl ?_)
        | (with_reducible refine fm_load1G' F 1 2 rfl (ci x0) rfl (o := ⟨some _, .load 3 (.tmp 127), _, _, _, _⟩) (by with_unfolding_all rfl) 3 (.tmp 127) rfl rfl (run_load1 Try.underlying3 rfl) ?_)
        | (with_reducible refine fm_load1G' F 1 2 rfl (ci x0) rfl (o := ⟨some _, .load 3 (.tmp 153), _, _, _, _⟩) (by with_unfolding_all rfl) 3 (.tmp 153) rfl rfl (run_load1 Try.underlying3 rfl) ?_)
        | (go_at_call 18; with_reducible refine Calls.mono (CC.out _ _ F HTP.out) ?_; rintro e wz ⟨rfl, mz⟩; replace F := F.call mz; clear mz)
        | (go_at_call 18; with_reducible refine Calls.mono (CD.out _ _ F HTQ.out) ?_; rintro e wz ⟨rfl, mz⟩; replace F := F.call mz; clear mz)
        | (go_at_call 20; with_reducible refine Calls.mono (CA.out _ _ F HTP.out) ?_; rintro e wz ⟨rfl, mz⟩; replace F := F.call mz; clear mz)
        | (go_at_call 20; with_reducible refine Calls.mono (CB.out _ _ F HTQ.out) ?_; rintro e wz ⟨rfl, mz⟩; replace F := F.call mz; clear mz)
        | (go_at_call 20; with_reducible refine Calls.mono (CE.out _ _ F HTQ.out) ?_; rintro e wz ⟨rfl, mz⟩; replace F := F.call mz; clear mz)
        | (go_at_call 12; with_reducible refine Calls.mono (kind_c z y x0 _ HK _) ?_; rintro e wz ⟨rfl, mz⟩; replace F := F.call mz; clear mz))
      exact ⟨⟨nn + 1, by go_num, by omega, by omega, Lib.hid ⟨_, F, HTQ.out, HTP.out⟩⟩, by simp [intOf]; omega⟩
  · rcases hcd with ⟨rfl, rfl⟩ | ⟨rfl, rfl⟩
    · clear lde
      go_wp2_with (first
        | (with_reducible refine fm_load F 0 rfl (o := ⟨some _, .load 24 (.tmp 11), _, _, _, _⟩) rfl (.tmp 11) rfl rfl h5q ?_)
        | (with_reducible refine fm_load F 2 rfl (o := ⟨some _, .load 24 (.tmp 7), _, _, _, _⟩) rfl (.tmp 7) rfl rfl h5 ?_)
        | (with_reducible refine fm_loadG F 0 rfl (o := ⟨some _, .load 24 (.tmp 11), _, _, _, _⟩) (by with_unfolding_all rfl) (.tmp 11) rfl rfl h5q ?_)
        | (with_reducible refine fm_loadG F 2 rfl (o := ⟨some _, .load 24 (.tmp 7), _, _, _, _⟩) (by with_unfolding_all rfl) (.tmp 7) rfl rfl h5 ?_)
        | (with_reducible refine fm_load26 F 1 rfl (o := ⟨some _, .load 26 (.tmp 10), _, _, _, _⟩) rfl (.tmp 10) rfl rfl ?_)
        | (with_reducible refine fm_load26G F 1 rfl (o := ⟨some _, .load 26 (.tmp 10), _, _, _, _⟩) (by with_unfolding_all rfl) (.tmp 10) rfl rfl ?_)
        | (with_reducible refine fm_load1G' F 1 2 rfl (ci x0) rfl (o := ⟨some _, .load 3 (.tmp 127), _, _, _, _⟩) (by with_unfolding_all rfl) 3 (.tmp 127) rfl rfl (run_load1 Try.underlying3 rfl) ?_)
        | (with_reducible refine fm_load1G' F 1 2 rfl (ci x0) rfl (o := ⟨some _, .load 3 (.tmp 153), _, _, _, _⟩) (by with_unfolding_all rfl) 3 (.tmp 153) rfl rfl (run_load1 Try.underlying3 rfl) ?_)
        | (go_at_call 18; with_reducible refine Calls.mono (CC.out _ _ F HTP.out) ?_; rintro e wz ⟨rfl, mz⟩; replace F := F.call mz; clear mz)
        | (go_at_call 18; with_reducible refine Calls.mono (CD.out _ _ F HTQ.out) ?_; rintro e wz ⟨rfl, mz⟩; replace F := F.call mz; clear mz)
        | (go_at_call 20; with_reducible refine Calls.mono (CA.out _ _ F HTP.out) ?_; rintro e wz ⟨rfl, mz⟩; replace F := F.call mz; clear mz)
        | (go_at_call 20; with_reducible refine Calls.mono (CB.out _ _ F HTQ.out) ?_; rintro e wz ⟨rfl, mz⟩; replace F := F.call mz; clear mz)
        | (go_at_call 20; with_reducible refine Calls.mono (CE.out _ _ F HTQ.out) ?_; rintro e wz ⟨rfl, mz⟩; replace F := F.call mz; clear mz)
        | (go_at_call 12; with_reducible refine Calls.mono (kind_c z y x0 _ HK _) ?_; rintro e wz ⟨rfl, mz⟩; replace F := F.call mz; clear mz))
      exact ⟨⟨nn + 1, by go_num, by omega, by omega, Lib.hid ⟨_, F, HTQ.out, HTP.out⟩⟩, by simp [intOf]; omega⟩
    · obtain rfl : true = e := (lde rfl).symm
      clear lde
      go_wp2_with (first
        | (with_reducible refine fm_load F 0 rfl (o := ⟨some _, .load 24 (.tmp 11), _, _, _, _⟩) rfl (.tmp 11) rfl rfl h5q ?_)
        | (with_reducible refine fm_load F 2 rfl (o := ⟨some _, .load 24 (.tmp 7), _, _, _, _⟩) rfl (.tmp 7) rfl rfl h5 ?_)
        | (with_reducible refine fm_loadG F 0 rfl (o := ⟨some _, .load 24 (.tmp 11), _, _, _, _⟩) (by with_unfolding_all rfl) (.tmp 11) rfl rfl h5q ?_)
        | (with_reducible refine fm_loadG F 2 rfl (o := ⟨some _, .load 24 (.tmp 7), _, _, _, _⟩) (by with_unfolding_all rfl) (.tmp 7) rfl rfl h5 ?_)
        | (with_reducible refine fm_load26 F 1 rfl (o := ⟨some _, .load 26 (.tmp 10), _, _, _, _⟩) rfl (.tmp 10) rfl rfl ?_)
        | (with_reducible refine fm_load26G F 1 rfl (o := ⟨some _, .load 26 (.tmp 10), _, _, _, _⟩) (by with_unfolding_all rfl) (.tmp 10) rfl rfl ?_)
        | (with_reducible refine fm_load1G' F 1 2 rfl (ci x0) rfl (o := ⟨some _, .load 3 (.tmp 127), _, _, _, _⟩) (by with_unfolding_all rfl) 3 (.tmp 127) rfl rfl (run_load1 Try.underlying3 rfl) ?_)
        | (with_reducible refine fm_load1G' F 1 2 rfl (ci x0) rfl (o := ⟨some _, .load 3 (.tmp 153), _, _, _, _⟩) (by with_unfolding_all rfl) 3 (.tmp 153) rfl rfl (run_load1 Try.underlying3 rfl) ?_)
        | (go_at_call 18; with_reducible refine Calls.mono (CC.out _ _ F HTP.out) ?_; rintro e wz ⟨rfl, mz⟩; replace F := F.call mz; clear mz)
        | (go_at_call 18; with_reducible refine Calls.mono (CD.out _ _ F HTQ.out) ?_; rintro e wz ⟨rfl, mz⟩; replace F := F.call mz; clear mz)
        | (go_at_call 20; with_reducible refine Calls.mono (CA.out _ _ F HTP.out) ?_; rintro e wz ⟨rfl, mz⟩; replace F := F.call mz; clear mz)
        | (go_at_call 20; with_reducible refine Calls.mono (CB.out _ _ F HTQ.out) ?_; rintro e wz ⟨rfl, mz⟩; replace F := F.call mz; clear mz)
        | (go_at_call 20; with_reducible refine Calls.mono (CE.out _ _ F HTQ.out) ?_; rintro e wz ⟨rfl, mz⟩; replace F := F.call mz; clear mz)
        | (go_at_call 12; with_reducible refine Calls.mono (kind_c z y x0 _ HK _) ?_; rintro e wz ⟨rfl, mz⟩; replace F := F.call mz; clear mz))
      exact ⟨⟨nn + 1, by go_num, by omega, by omega, Lib.hid ⟨_, F, HTQ.out, HTP.out⟩⟩, by simp [intOf]; omega⟩
  · rcases hcd with ⟨rfl, rfl⟩ | ⟨rfl, rfl⟩
    · clear lde
      go_wp2_with (first
        | (with_reducible refine fm_load F 0 rfl (o := ⟨some _, .load 24 (.tmp 11), _, _, _, _⟩) rfl (.tmp 11) rfl rfl h5q ?_)
        | (with_reducible refine fm_load F 2 rfl (o := ⟨some _, .load 24 (.tmp 7), _, _, _, _⟩) rfl (.tmp 7) rfl rfl h5 ?_)
        | (with_reducible refine fm_loadG F 0 rfl (o := ⟨some _, .load 24 (.tmp 11), _, _, _, _⟩) (by with_unfolding_all rfl) (.tmp 11) rfl rfl h5q ?_)
        | (with_reducible refine fm_loadG F 2 rfl (o := ⟨some _, .load 24 (.tmp 7), _, _, _, _⟩) (by with_unfolding_all rfl) (.tmp 7) rfl rfl h5 ?_)
        | (with_reducible refine fm_load26 F 1 rfl (o := ⟨some _, .load 26 (.tmp 10), _, _, _, _⟩) rfl (.tmp 10) rfl rfl ?_)
        | (with_reducible refine fm_load26G F 1 rfl (o := ⟨some _, .load 26 (.tmp 10), _, _, _, _⟩) (by with_unfolding_all rfl) (.tmp 10) rfl rfl ?_)
        | (with_reducible refine fm_load1G' F 1 2 rfl (ci x0) rfl (o := ⟨some _, .load 3 (.tmp 127), _, _, _, _⟩) (by with_unfolding_all rfl) 3 (.tmp 127) rfl rfl (run_load1 Try.underlying3 rfl) ?_)
        | (with_reducible refine fm_load1G' F 1 2 rfl (ci x0) rfl (o := ⟨some _, .load 3 (.tmp 153), _, _, _, _⟩) (by with_unfolding_all rfl) 3 (.tmp 153) rfl rfl (run_load1 Try.underlying3 rfl) ?_)
        | (go_at_call 18; with_reducible refine Calls.mono (CC.out _ _ F HTP.out) ?_; rintro e wz ⟨rfl, mz⟩; replace F := F.call mz; clear mz)
        | (go_at_call 18; with_reducible refine Calls.mono (CD.out _ _ F HTQ.out) ?_; rintro e wz ⟨rfl, mz⟩; replace F := F.call mz; clear mz)
        | (go_at_call 20; with_reducible refine Calls.mono (CA.out _ _ F HTP.out) ?_; rintro e wz ⟨rfl, mz⟩; replace F := F.call mz; clear mz)
        | (go_at_call 20; with_reducible refine Calls.mono (CB.out _ _ F HTQ.out) ?_; rintro e wz ⟨rfl, mz⟩; replace F := F.call mz; clear mz)
        | (go_at_call 20; with_reducible refine Calls.mono (CE.out _ _ F HTQ.out) ?_; rintro e wz ⟨rfl, mz⟩; replace F := F.call mz; clear mz)
        | (go_at_call 12; with_reducible refine Calls.mono (kind_c z y x0 _ HK _) ?_; rintro e wz ⟨rfl, mz⟩; replace F := F.call mz; clear mz))
      exact ⟨⟨nn + 1, by go_num, by omega, by omega, Lib.hid ⟨_, F, HTQ.out, HTP.out⟩⟩, by simp [intOf]; omega⟩
    · obtain rfl : true = e := (lde rfl).symm
      clear lde
      go_wp2_with (first
        | (with_reducible refine fm_load F 0 rfl (o := ⟨some _, .load 24 (.tmp 11), _, _, _, _⟩) rfl (.tmp 11) rfl rfl h5q ?_)
        | (with_reducible refine fm_load F 2 rfl (o := ⟨some _, .load 24 (.tmp 7), _, _, _, _⟩) rfl (.tmp 7) rfl rfl h5 ?_)
        | (with_reducible refine fm_loadG F 0 rfl (o := ⟨some _, .load 24 (.tmp 11), _, _, _, _⟩) (by with_unfolding_all rfl) (.tmp 11) rfl rfl h5q ?_)
        | (with_reducible refine fm_loadG F 2 rfl (o := ⟨some _, .load 24 (.tmp 7), _, _, _, _⟩) (by with_unfolding_all rfl) (.tmp 7) rfl rfl h5 ?_)
        | (with_reducible refine fm_load26 F 1 rfl (o := ⟨some _, .load 26 (.tmp 10), _, _, _, _⟩) rfl (.tmp 10) rfl rfl ?_)
        | (with_reducible refine fm_load26G F 1 rfl (o := ⟨some _, .load 26 (.tmp 10), _, _, _, _⟩) (by with_unfolding_all rfl) (.tmp 10) rfl rfl ?_)
        | (with_reducible refine fm_load1G' F 1 2 rfl (ci x0) rfl (o := ⟨some _, .load 3 (.tmp 127), _, _, _, _⟩) (by with_unfolding_all rfl) 3 (.tmp 127) rfl rfl (run_load1 Try.underlying3 rfl) ?_)
        | (with_reducible refine fm_load1G' F 1 2 rfl (ci x0) rfl (o := ⟨some _, .load 3 (.tmp 153), _, _, _, _⟩) (by with_unfolding_all rfl) 3 (.tmp 153) rfl rfl (run_load1 Try.underlying3 rfl) ?_)
        | (go_at_call 18; with_reducible refine Calls.mono (CC.out _ _ F HTP.out) ?_; rintro e wz ⟨rfl, mz⟩; replace F := F.call mz; clear mz)
        | (go_at_call 18; with_reducible refine Calls.mono (CD.out _ _ F HTQ.out) ?_; rintro e wz ⟨rfl, mz⟩; replace F := F.call mz; clear mz)
        | (go_at_call 20; with_reducible refine Calls.mono (CA.out _ _ F HTP.out) ?_; rintro e wz ⟨rfl, mz⟩; replace F := F.call mz; clear mz)
        | (go_at_call 20; with_reducible refine Calls.mono (CB.out _ _ F HTQ.out) ?_; rintro e wz ⟨rfl, mz⟩; replace F := F.call mz; clear mz)
        | (go_at_call 20; with_reducible refine Calls.mono (CE.out _ _ F HTQ.out) ?_; rintro e wz ⟨rfl, mz⟩; replace F := F.call mz; clear mz)
        | (go_at_call 12; with_reducible refine Calls.mono (kind_c z y x0 _ HK _) ?_; rintro e wz ⟨rfl, mz⟩; replace F := F.call mz; clear mz))
      exact ⟨⟨nn + 1, by go_num, by omega, by omega, Lib.hid ⟨_, F, HTQ.out, HTP.out⟩⟩, by simp [intOf]; omega⟩
end Go.Proofs.Ytaadmpainikfpaa
