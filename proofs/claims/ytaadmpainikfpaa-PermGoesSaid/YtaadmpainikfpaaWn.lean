/-
  What Share's and Back's closures do; the closure that asks who it is. My own work.
-/
import Derived.Test.YtaadmpainikfpaaWm
namespace Go.Proofs.Ytaadmpainikfpaa
open Go.RowKit Go.Shelf
attribute [local go_sem] Oper.semAt_some
set_option linter.unusedVariables false
set_option linter.unusedSimpArgs false

set_option maxHeartbeats 4000000 in
theorem back_c {w0 w : World} {b u : Nat} {p : Pm} {os ts : List Th} (who : Int) (h : PO w0 w b p os ts) (hu : oB u 3 [ci who] ∈ ts) (hr : p.Right) : Calls Try.prog 42 #[.pointer (some ⟨b, 0, none⟩), .pointer (some ⟨u, 0, none⟩)] w (ClR (backed p who) w0 b os ts) := by
  have HW := Lib.hid hu
  have HR := Lib.hid hr.r
  have HR2 := Lib.hid hr.w
  have HE1 := hr.e1
  have HE8 := hr.e8
  obtain ⟨c, hc⟩ : ∃ c, p.rd.contains who = c := ⟨_, rfl⟩
  obtain ⟨d, hd⟩ : ∃ d, p.wr.contains who = d := ⟨_, rfl⟩
  have HC := Lib.hid hc
  have HD := Lib.hid hd
  have hres : backed p who = if c = true then begun { p with rd := del p.rd who, wr := del p.wr who } else (4, zp) := by rw [backed, hc]
  rw [hres]
  clear hres hc hu hr hd
  have hPO := h
  clear h
  cases c
  case false =>
    rw [if_neg (by simp)]
    go_enter Try.func42, Try.ntmps42
    go_wp2_with fail
    refine wp_region_ups [(4, .pointer (some ⟨b, 0, none⟩)), (5, .pointer (some ⟨b, 0, none⟩)), (6, .pointer (some ⟨b, 2, none⟩)), (7, ci who), (8, .bool false), (9, .bool true)] 17 [4, 5, 6, 7, 8, 9] rfl rfl (by decide) (by kernel_rfl) (fun lz v => if lz 4 then PO w0 v b { p with rd := del p.rd who } os ts else PO w0 v b p os ts) (by kernel_rfl) (by simpa using hPO.call (Mod.drew [] _)) (by kernel_rfl) (by kernel_rfl) ?_ ?_
    · skip
      intro lz T v j o hj hlj hdep hst hpar hgot hcl Kq hK
      have hjn : j < 6 := (Array.getElem?_eq_some_iff.1 hj).1
      obtain rfl | rfl | rfl | rfl | rfl | rfl : j = 0 ∨ j = 1 ∨ j = 2 ∨ j = 3 ∨ j = 4 ∨ j = 5 := by omega
      all_goals (have hj' := Option.some.inj (hj : some _ = some o); subst hj'; clear hj)
      · exact wp_ran rfl (exec_move rfl (eval_tmp ((hpar 0 rfl).trans rfl))) (hK _ _ (fun s hs => by cases hs; rfl) (by simpa using hst))
      · exact wp_ran rfl (exec_nil rfl (eval_tmp (hgot 0 _ 4 rfl (hdep ⟨0, .data⟩ (by simp) rfl) rfl))) (hK _ _ (fun s hs => by cases hs; rfl) (by simpa using hst))
      · exact wp_ran rfl (exec_fp24_2 rfl (eval_tmp (hgot 1 _ 5 rfl (hdep ⟨1, .data⟩ (by simp) rfl) rfl))) (hK _ _ (fun s hs => by cases hs; rfl) (by simpa using hst))
      · have hst2 : ∃ p, PO w0 v b p os ts := by
          by_cases hh : lz 4 = true
          · exact ⟨_, by simpa [hh] using hst⟩
          · exact ⟨_, by simpa [hh] using hst⟩
        exact wp_ran rfl (exec_load rfl (eval_tmp ((hpar 1 rfl).trans rfl)) (run_load1 Try.underlying3 rfl ((hst2.choose_spec.box HW.out).cell 0))) (hK _ _ (fun s hs => by cases hs; rfl) (by simpa using hst))
      · have hst2 : PO w0 v b p os ts := by simpa [hlj] using hst
        refine wp_called rfl (exec_call2 rfl rfl (eval_tmp (hgot 2 _ 6 rfl (hdep ⟨2, .data⟩ (by simp) rfl) rfl)) (eval_tmp (hgot 3 _ 7 rfl (hdep ⟨3, .data⟩ (by simp) rfl) rfl)) (enters_of Try.func43 (by kernel_rfl) rfl)) ((po_take_rd hst2 6 (by omega) HR.out who _ HC).mono ?_)
        rintro e v' ⟨rfl, h2⟩
        exact ⟨_, rfl, hK _ _ (fun s hs => by cases hs; rfl) (by simpa using h2)⟩
      · exact wp_ran rfl (exec_not rfl (eval_tmp (hgot 4 _ 8 rfl (hdep ⟨4, .data⟩ (by simp) rfl) rfl))) (hK _ _ (fun s hs => by cases hs; rfl) (by simpa using hst))
    intro lz v hlz hst
    have hPO2 : PO w0 v b { p with rd := del p.rd who } os ts := by simpa [hlz 4 (by decide)] using hst
    clear hst hlz hPO
    simp only [setAll, Act.put, List.foldl_cons, List.foldl_nil, List.setIfInBounds_toArray, List.set_cons_succ, List.set_cons_zero]
    go_wp2_with fail
    go_ret
    exact ⟨rfl, fun h => by simp at h, hPO2.rest⟩
  case true =>
    rw [if_pos rfl]
    go_enter Try.func42, Try.ntmps42
    go_wp2_with fail
    refine wp_region_ups [(4, .pointer (some ⟨b, 0, none⟩)), (5, .pointer (some ⟨b, 0, none⟩)), (6, .pointer (some ⟨b, 2, none⟩)), (7, ci who), (8, .bool true), (9, .bool false)] 17 [4, 5, 6, 7, 8, 9] rfl rfl (by decide) (by kernel_rfl) (fun lz v => if lz 4 then PO w0 v b { p with rd := del p.rd who } os ts else PO w0 v b p os ts) (by kernel_rfl) (by simpa using hPO.call (Mod.drew [] _)) (by kernel_rfl) (by kernel_rfl) ?_ ?_
    · skip
      intro lz T v j o hj hlj hdep hst hpar hgot hcl Kq hK
      have hjn : j < 6 := (Array.getElem?_eq_some_iff.1 hj).1
      obtain rfl | rfl | rfl | rfl | rfl | rfl : j = 0 ∨ j = 1 ∨ j = 2 ∨ j = 3 ∨ j = 4 ∨ j = 5 := by omega
      all_goals (have hj' := Option.some.inj (hj : some _ = some o); subst hj'; clear hj)
      · exact wp_ran rfl (exec_move rfl (eval_tmp ((hpar 0 rfl).trans rfl))) (hK _ _ (fun s hs => by cases hs; rfl) (by simpa using hst))
      · exact wp_ran rfl (exec_nil rfl (eval_tmp (hgot 0 _ 4 rfl (hdep ⟨0, .data⟩ (by simp) rfl) rfl))) (hK _ _ (fun s hs => by cases hs; rfl) (by simpa using hst))
      · exact wp_ran rfl (exec_fp24_2 rfl (eval_tmp (hgot 1 _ 5 rfl (hdep ⟨1, .data⟩ (by simp) rfl) rfl))) (hK _ _ (fun s hs => by cases hs; rfl) (by simpa using hst))
      · have hst2 : ∃ p, PO w0 v b p os ts := by
          by_cases hh : lz 4 = true
          · exact ⟨_, by simpa [hh] using hst⟩
          · exact ⟨_, by simpa [hh] using hst⟩
        exact wp_ran rfl (exec_load rfl (eval_tmp ((hpar 1 rfl).trans rfl)) (run_load1 Try.underlying3 rfl ((hst2.choose_spec.box HW.out).cell 0))) (hK _ _ (fun s hs => by cases hs; rfl) (by simpa using hst))
      · have hst2 : PO w0 v b p os ts := by simpa [hlj] using hst
        refine wp_called rfl (exec_call2 rfl rfl (eval_tmp (hgot 2 _ 6 rfl (hdep ⟨2, .data⟩ (by simp) rfl) rfl)) (eval_tmp (hgot 3 _ 7 rfl (hdep ⟨3, .data⟩ (by simp) rfl) rfl)) (enters_of Try.func43 (by kernel_rfl) rfl)) ((po_take_rd hst2 6 (by omega) HR.out who _ HC).mono ?_)
        rintro e v' ⟨rfl, h2⟩
        exact ⟨_, rfl, hK _ _ (fun s hs => by cases hs; rfl) (by simpa using h2)⟩
      · exact wp_ran rfl (exec_not rfl (eval_tmp (hgot 4 _ 8 rfl (hdep ⟨4, .data⟩ (by simp) rfl) rfl))) (hK _ _ (fun s hs => by cases hs; rfl) (by simpa using hst))
    intro lz v hlz hst
    have hPO2 : PO w0 v b { p with rd := del p.rd who } os ts := by simpa [hlz 4 (by decide)] using hst
    clear hst hlz hPO
    simp only [setAll, Act.put, List.foldl_cons, List.foldl_nil, List.setIfInBounds_toArray, List.set_cons_succ, List.set_cons_zero]
    go_wp2_with fail
    replace hPO := hPO2
    clear hPO2
    cases d
    case false =>
      refine wp_region_ups [(10, .pointer (some ⟨b, 0, none⟩)), (11, .pointer (some ⟨b, 0, none⟩)), (12, .pointer (some ⟨b, 3, none⟩)), (13, ci who), (14, .bool false)] 17 [10, 11, 12, 13, 14] rfl rfl (by decide) (by kernel_rfl) (fun lz v => if lz 4 then PO w0 v b { p with rd := del p.rd who, wr := del p.wr who } os ts else PO w0 v b { p with rd := del p.rd who } os ts) (by kernel_rfl) (by simpa using hPO.call (Mod.drew [] _)) (by kernel_rfl) (by kernel_rfl) ?_ ?_
      · skip
        intro lz T v j o hj hlj hdep hst hpar hgot hcl Kq hK
        have hjn : j < 5 := (Array.getElem?_eq_some_iff.1 hj).1
        obtain rfl | rfl | rfl | rfl | rfl : j = 0 ∨ j = 1 ∨ j = 2 ∨ j = 3 ∨ j = 4 := by omega
        all_goals (have hj' := Option.some.inj (hj : some _ = some o); subst hj'; clear hj)
        · exact wp_ran rfl (exec_move rfl (eval_tmp ((hpar 0 rfl).trans rfl))) (hK _ _ (fun s hs => by cases hs; rfl) (by simpa using hst))
        · exact wp_ran rfl (exec_nil rfl (eval_tmp (hgot 0 _ 10 rfl (hdep ⟨0, .data⟩ (by simp) rfl) rfl))) (hK _ _ (fun s hs => by cases hs; rfl) (by simpa using hst))
        · exact wp_ran rfl (exec_fp24_3 rfl (eval_tmp (hgot 1 _ 11 rfl (hdep ⟨1, .data⟩ (by simp) rfl) rfl))) (hK _ _ (fun s hs => by cases hs; rfl) (by simpa using hst))
        · have hst2 : ∃ p, PO w0 v b p os ts := by
            by_cases hh : lz 4 = true
            · exact ⟨_, by simpa [hh] using hst⟩
            · exact ⟨_, by simpa [hh] using hst⟩
          exact wp_ran rfl (exec_load rfl (eval_tmp ((hpar 1 rfl).trans rfl)) (run_load1 Try.underlying3 rfl ((hst2.choose_spec.box HW.out).cell 0))) (hK _ _ (fun s hs => by cases hs; rfl) (by simpa using hst))
        · have hst2 : PO w0 v b { p with rd := del p.rd who } os ts := by simpa [hlj] using hst
          refine wp_called rfl (exec_call2 rfl rfl (eval_tmp (hgot 2 _ 12 rfl (hdep ⟨2, .data⟩ (by simp) rfl) rfl)) (eval_tmp (hgot 3 _ 13 rfl (hdep ⟨3, .data⟩ (by simp) rfl) rfl)) (enters_of Try.func43 (by kernel_rfl) rfl)) ((po_take_wr hst2 6 (by omega) HR2.out who _ HD).mono ?_)
          rintro e v' ⟨rfl, h2⟩
          exact ⟨_, rfl, hK _ _ (fun s hs => by cases hs; rfl) (by simpa using h2)⟩
      intro lz v hlz hst
      have hPO2 : PO w0 v b { p with rd := del p.rd who, wr := del p.wr who } os ts := by simpa [hlz 4 (by decide)] using hst
      clear hst hlz hPO
      simp only [setAll, Act.put, List.foldl_cons, List.foldl_nil, List.setIfInBounds_toArray, List.set_cons_succ, List.set_cons_zero]
      have HB := begin_c hPO2 HE1 HE8
      go_wp2_with (go_at_call 44; refine HB.mono ?_; rintro e w' ⟨rfl, k1, k2⟩)
      go_ret
      exact ⟨rfl, k1, k2⟩
    case true =>
      refine wp_region_ups [(10, .pointer (some ⟨b, 0, none⟩)), (11, .pointer (some ⟨b, 0, none⟩)), (12, .pointer (some ⟨b, 3, none⟩)), (13, ci who), (14, .bool true)] 17 [10, 11, 12, 13, 14] rfl rfl (by decide) (by kernel_rfl) (fun lz v => if lz 4 then PO w0 v b { p with rd := del p.rd who, wr := del p.wr who } os ts else PO w0 v b { p with rd := del p.rd who } os ts) (by kernel_rfl) (by simpa using hPO.call (Mod.drew [] _)) (by kernel_rfl) (by kernel_rfl) ?_ ?_
      · skip
        intro lz T v j o hj hlj hdep hst hpar hgot hcl Kq hK
        have hjn : j < 5 := (Array.getElem?_eq_some_iff.1 hj).1
        obtain rfl | rfl | rfl | rfl | rfl : j = 0 ∨ j = 1 ∨ j = 2 ∨ j = 3 ∨ j = 4 := by omega
        all_goals (have hj' := Option.some.inj (hj : some _ = some o); subst hj'; clear hj)
        · exact wp_ran rfl (exec_move rfl (eval_tmp ((hpar 0 rfl).trans rfl))) (hK _ _ (fun s hs => by cases hs; rfl) (by simpa using hst))
        · exact wp_ran rfl (exec_nil rfl (eval_tmp (hgot 0 _ 10 rfl (hdep ⟨0, .data⟩ (by simp) rfl) rfl))) (hK _ _ (fun s hs => by cases hs; rfl) (by simpa using hst))
        · exact wp_ran rfl (exec_fp24_3 rfl (eval_tmp (hgot 1 _ 11 rfl (hdep ⟨1, .data⟩ (by simp) rfl) rfl))) (hK _ _ (fun s hs => by cases hs; rfl) (by simpa using hst))
        · have hst2 : ∃ p, PO w0 v b p os ts := by
            by_cases hh : lz 4 = true
            · exact ⟨_, by simpa [hh] using hst⟩
            · exact ⟨_, by simpa [hh] using hst⟩
          exact wp_ran rfl (exec_load rfl (eval_tmp ((hpar 1 rfl).trans rfl)) (run_load1 Try.underlying3 rfl ((hst2.choose_spec.box HW.out).cell 0))) (hK _ _ (fun s hs => by cases hs; rfl) (by simpa using hst))
        · have hst2 : PO w0 v b { p with rd := del p.rd who } os ts := by simpa [hlj] using hst
          refine wp_called rfl (exec_call2 rfl rfl (eval_tmp (hgot 2 _ 12 rfl (hdep ⟨2, .data⟩ (by simp) rfl) rfl)) (eval_tmp (hgot 3 _ 13 rfl (hdep ⟨3, .data⟩ (by simp) rfl) rfl)) (enters_of Try.func43 (by kernel_rfl) rfl)) ((po_take_wr hst2 6 (by omega) HR2.out who _ HD).mono ?_)
          rintro e v' ⟨rfl, h2⟩
          exact ⟨_, rfl, hK _ _ (fun s hs => by cases hs; rfl) (by simpa using h2)⟩
      intro lz v hlz hst
      have hPO2 : PO w0 v b { p with rd := del p.rd who, wr := del p.wr who } os ts := by simpa [hlz 4 (by decide)] using hst
      clear hst hlz hPO
      simp only [setAll, Act.put, List.foldl_cons, List.foldl_nil, List.setIfInBounds_toArray, List.set_cons_succ, List.set_cons_zero]
      have HB := begin_c hPO2 HE1 HE8
      go_wp2_with (go_at_call 44; refine HB.mono ?_; rintro e w' ⟨rfl, k1, k2⟩)
      go_ret
      exact ⟨rfl, k1, k2⟩
set_option maxHeartbeats 8000000 in
theorem share_c {w0 w : World} {b u t : Nat} {p : Pm} {os ts : List Th} (who : Int) (wr : Bool) (h : PO w0 w b p os ts) (hu : oB u 3 [ci who] ∈ ts) (ht : oB t 4 [.bool wr] ∈ ts) (hr : p.Right) : Calls Try.prog 40 #[.pointer (some ⟨b, 0, none⟩), .pointer (some ⟨u, 0, none⟩), .pointer (some ⟨t, 0, none⟩)] w (ClR (shared p who wr) w0 b os ts) := by
  have HW := Lib.hid hu
  have HT := Lib.hid ht
  have HR := Lib.hid hr.r
  have HR2 := Lib.hid hr.w
  obtain ⟨c, hc⟩ : ∃ c, p.rd.contains who = c := ⟨_, rfl⟩
  obtain ⟨d, hd⟩ : ∃ d, p.wr.contains who = d := ⟨_, rfl⟩
  have HC := Lib.hid hc
  have HD := Lib.hid hd
  have hres : shared p who wr = if (c && (!wr || d)) = true then (5, zp) else (0, { p with rd := ins p.rd who, wr := if wr = true then ins p.wr who else p.wr }) := by rw [shared, hc, hd]
  rw [hres]
  clear hres hc hu hr hd ht
  have hPO := h
  clear h
  cases c
  case false =>
    cases wr
    case false =>
      rw [if_neg (by simp)]
      go_enter Try.func40, Try.ntmps40
      go_wp2_with fail
      refine wp_region_ups [(7, .pointer (some ⟨b, 0, none⟩)), (8, .pointer (some ⟨b, 0, none⟩)), (9, .pointer (some ⟨b, 2, none⟩)), (10, ci who), (11, .bool true), (5, .bool true)] 26 [7, 8, 9, 10, 11, 5] rfl rfl (by decide) (by kernel_rfl) (fun lz v => if lz 4 then PO w0 v b { p with rd := ins p.rd who } os ts else PO w0 v b p os ts) (by kernel_rfl) (by simpa using hPO.call (Mod.drew [] _)) (by kernel_rfl) (by kernel_rfl) ?_ ?_
      · skip
        intro lz T v j o hj hlj hdep hst hpar hgot hcl Kq hK
        have hjn : j < 6 := (Array.getElem?_eq_some_iff.1 hj).1
        obtain rfl | rfl | rfl | rfl | rfl | rfl : j = 0 ∨ j = 1 ∨ j = 2 ∨ j = 3 ∨ j = 4 ∨ j = 5 := by omega
        all_goals (have hj' := Option.some.inj (hj : some _ = some o); subst hj'; clear hj)
        · exact wp_ran rfl (exec_move rfl (eval_tmp ((hpar 0 rfl).trans rfl))) (hK _ _ (fun s hs => by cases hs; rfl) (by simpa using hst))
        · exact wp_ran rfl (exec_nil rfl (eval_tmp (hgot 0 _ 7 rfl (hdep ⟨0, .data⟩ (by simp) rfl) rfl))) (hK _ _ (fun s hs => by cases hs; rfl) (by simpa using hst))
        · exact wp_ran rfl (exec_fp24_2 rfl (eval_tmp (hgot 1 _ 8 rfl (hdep ⟨1, .data⟩ (by simp) rfl) rfl))) (hK _ _ (fun s hs => by cases hs; rfl) (by simpa using hst))
        · have hst2 : ∃ p, PO w0 v b p os ts := by
            by_cases hh : lz 4 = true
            · exact ⟨_, by simpa [hh] using hst⟩
            · exact ⟨_, by simpa [hh] using hst⟩
          exact wp_ran rfl (exec_load rfl (eval_tmp ((hpar 1 rfl).trans rfl)) (run_load1 Try.underlying3 rfl ((hst2.choose_spec.box HW.out).cell 0))) (hK _ _ (fun s hs => by cases hs; rfl) (by simpa using hst))
        · have hst2 : PO w0 v b p os ts := by simpa [hlj] using hst
          refine wp_called rfl (exec_call2 rfl rfl (eval_tmp (hgot 2 _ 9 rfl (hdep ⟨2, .data⟩ (by simp) rfl) rfl)) (eval_tmp (hgot 3 _ 10 rfl (hdep ⟨3, .data⟩ (by simp) rfl) rfl)) (enters_of Try.func41 (by kernel_rfl) rfl)) ((po_put_rd hst2 6 (by omega) HR.out who _ HC).mono ?_)
          rintro e v' ⟨rfl, h2⟩
          exact ⟨_, rfl, hK _ _ (fun s hs => by cases hs; rfl) (by simpa using h2)⟩
        · exact wp_ran rfl (exec_assign rfl (eval_tmp (hgot 4 _ 11 rfl (hdep ⟨4, .data⟩ (by simp) rfl) rfl))) (hK _ _ (fun s hs => by cases hs; rfl) (by simpa using hst))
      intro lz v hlz hst
      have hPO2 : PO w0 v b { p with rd := ins p.rd who } os ts := by simpa [hlz 4 (by decide)] using hst
      clear hst hlz hPO
      simp only [setAll, Act.put, List.foldl_cons, List.foldl_nil, List.setIfInBounds_toArray, List.set_cons_succ, List.set_cons_zero]
      have kt : v.cell? ⟨t, 0, none⟩ = some (.bool false) := (hPO2.box HT.out).cell 0
      go_wp2_with fail
      go_quiet (fail)
      go_wp2_with fail
      go_ret
      exact ⟨rfl, fun _ => hPO2.call (Mod.drewN [] _ _), (hPO2.call (Mod.drewN [] _ _)).rest⟩
    case true =>
      cases d
      case false =>
        rw [if_neg (by simp)]
        go_enter Try.func40, Try.ntmps40
        go_wp2_with fail
        refine wp_region_ups [(7, .pointer (some ⟨b, 0, none⟩)), (8, .pointer (some ⟨b, 0, none⟩)), (9, .pointer (some ⟨b, 2, none⟩)), (10, ci who), (11, .bool true), (5, .bool true)] 26 [7, 8, 9, 10, 11, 5] rfl rfl (by decide) (by kernel_rfl) (fun lz v => if lz 4 then PO w0 v b { p with rd := ins p.rd who } os ts else PO w0 v b p os ts) (by kernel_rfl) (by simpa using hPO.call (Mod.drew [] _)) (by kernel_rfl) (by kernel_rfl) ?_ ?_
        · skip
          intro lz T v j o hj hlj hdep hst hpar hgot hcl Kq hK
          have hjn : j < 6 := (Array.getElem?_eq_some_iff.1 hj).1
          obtain rfl | rfl | rfl | rfl | rfl | rfl : j = 0 ∨ j = 1 ∨ j = 2 ∨ j = 3 ∨ j = 4 ∨ j = 5 := by omega
          all_goals (have hj' := Option.some.inj (hj : some _ = some o); subst hj'; clear hj)
          · exact wp_ran rfl (exec_move rfl (eval_tmp ((hpar 0 rfl).trans rfl))) (hK _ _ (fun s hs => by cases hs; rfl) (by simpa using hst))
          · exact wp_ran rfl (exec_nil rfl (eval_tmp (hgot 0 _ 7 rfl (hdep ⟨0, .data⟩ (by simp) rfl) rfl))) (hK _ _ (fun s hs => by cases hs; rfl) (by simpa using hst))
          · exact wp_ran rfl (exec_fp24_2 rfl (eval_tmp (hgot 1 _ 8 rfl (hdep ⟨1, .data⟩ (by simp) rfl) rfl))) (hK _ _ (fun s hs => by cases hs; rfl) (by simpa using hst))
          · have hst2 : ∃ p, PO w0 v b p os ts := by
              by_cases hh : lz 4 = true
              · exact ⟨_, by simpa [hh] using hst⟩
              · exact ⟨_, by simpa [hh] using hst⟩
            exact wp_ran rfl (exec_load rfl (eval_tmp ((hpar 1 rfl).trans rfl)) (run_load1 Try.underlying3 rfl ((hst2.choose_spec.box HW.out).cell 0))) (hK _ _ (fun s hs => by cases hs; rfl) (by simpa using hst))
          · have hst2 : PO w0 v b p os ts := by simpa [hlj] using hst
            refine wp_called rfl (exec_call2 rfl rfl (eval_tmp (hgot 2 _ 9 rfl (hdep ⟨2, .data⟩ (by simp) rfl) rfl)) (eval_tmp (hgot 3 _ 10 rfl (hdep ⟨3, .data⟩ (by simp) rfl) rfl)) (enters_of Try.func41 (by kernel_rfl) rfl)) ((po_put_rd hst2 6 (by omega) HR.out who _ HC).mono ?_)
            rintro e v' ⟨rfl, h2⟩
            exact ⟨_, rfl, hK _ _ (fun s hs => by cases hs; rfl) (by simpa using h2)⟩
          · exact wp_ran rfl (exec_assign rfl (eval_tmp (hgot 4 _ 11 rfl (hdep ⟨4, .data⟩ (by simp) rfl) rfl))) (hK _ _ (fun s hs => by cases hs; rfl) (by simpa using hst))
        intro lz v hlz hst
        have hPO2 : PO w0 v b { p with rd := ins p.rd who } os ts := by simpa [hlz 4 (by decide)] using hst
        clear hst hlz hPO
        simp only [setAll, Act.put, List.foldl_cons, List.foldl_nil, List.setIfInBounds_toArray, List.set_cons_succ, List.set_cons_zero]
        go_wp2_with fail
        replace hPO := hPO2
        clear hPO2
        refine wp_region_ups [(12, .bool true), (13, .bool true), (14, .pointer (some ⟨b, 0, none⟩)), (15, .pointer (some ⟨b, 0, none⟩)), (16, .pointer (some ⟨b, 3, none⟩)), (17, ci who), (18, .bool true), (19, .bool true), (6, .bool true)] 26 [12, 13, 14, 15, 16, 17, 18, 19, 6] rfl rfl (by decide) (by kernel_rfl) (fun lz v => if lz 6 then PO w0 v b { p with rd := ins p.rd who, wr := ins p.wr who } os ts else PO w0 v b { p with rd := ins p.rd who } os ts) (by kernel_rfl) (by simpa using hPO.call (Mod.drew [] _)) (by kernel_rfl) (by kernel_rfl) ?_ ?_
        · skip
          intro lz T v j o hj hlj hdep hst hpar hgot hcl Kq hK
          have hjn : j < 9 := (Array.getElem?_eq_some_iff.1 hj).1
          obtain rfl | rfl | rfl | rfl | rfl | rfl | rfl | rfl | rfl : j = 0 ∨ j = 1 ∨ j = 2 ∨ j = 3 ∨ j = 4 ∨ j = 5 ∨ j = 6 ∨ j = 7 ∨ j = 8 := by omega
          all_goals (have hj' := Option.some.inj (hj : some _ = some o); subst hj'; clear hj)
          · have hst2 : ∃ p, PO w0 v b p os ts := by
              by_cases hh : lz 6 = true
              · exact ⟨_, by simpa [hh] using hst⟩
              · exact ⟨_, by simpa [hh] using hst⟩
            exact wp_ran rfl (exec_load rfl (eval_tmp ((hpar 2 rfl).trans rfl)) (run_load1 Try.underlying4 rfl ((hst2.choose_spec.box HT.out).cell 0))) (hK _ _ (fun s hs => by cases hs; rfl) (by simpa using hst))
          · exact wp_ran rfl (exec_move rfl (eval_tmp (hgot 0 _ 12 rfl (hdep ⟨0, .data⟩ (by simp) rfl) rfl))) (hK _ _ (fun s hs => by cases hs; rfl) (by simpa using hst))
          · exact wp_ranW (wanted_yes rfl rfl rfl (hgot 1 _ 13 rfl (hdep ⟨1, .guard⟩ (by simp) rfl) rfl)) (exec_move rfl (eval_tmp ((hpar 0 rfl).trans rfl))) (hK _ _ (fun s hs => by cases hs; rfl) (by simpa using hst))
          · exact wp_ranW (wanted_yes rfl rfl rfl (hgot 1 _ 13 rfl (hdep ⟨1, .guard⟩ (by simp) rfl) rfl)) (exec_nil rfl (eval_tmp (hgot 2 _ 14 rfl (hdep ⟨2, .data⟩ (by simp) rfl) rfl))) (hK _ _ (fun s hs => by cases hs; rfl) (by simpa using hst))
          · exact wp_ranW (wanted_yes rfl rfl rfl (hgot 1 _ 13 rfl (hdep ⟨1, .guard⟩ (by simp) rfl) rfl)) (exec_fp24_3 rfl (eval_tmp (hgot 3 _ 15 rfl (hdep ⟨3, .data⟩ (by simp) rfl) rfl))) (hK _ _ (fun s hs => by cases hs; rfl) (by simpa using hst))
          · have hst2 : ∃ p, PO w0 v b p os ts := by
              by_cases hh : lz 6 = true
              · exact ⟨_, by simpa [hh] using hst⟩
              · exact ⟨_, by simpa [hh] using hst⟩
            exact wp_ranW (wanted_yes rfl rfl rfl (hgot 1 _ 13 rfl (hdep ⟨1, .guard⟩ (by simp) rfl) rfl)) (exec_load rfl (eval_tmp ((hpar 1 rfl).trans rfl)) (run_load1 Try.underlying3 rfl ((hst2.choose_spec.box HW.out).cell 0))) (hK _ _ (fun s hs => by cases hs; rfl) (by simpa using hst))
          · have hst2 : PO w0 v b { p with rd := ins p.rd who } os ts := by simpa [hlj] using hst
            refine wp_calledW (wanted_yes rfl rfl rfl (hgot 1 _ 13 rfl (hdep ⟨1, .chain⟩ (by simp) rfl) rfl)) (exec_call2 rfl rfl (eval_tmp (hgot 4 _ 16 rfl (hdep ⟨4, .data⟩ (by simp) rfl) rfl)) (eval_tmp (hgot 5 _ 17 rfl (hdep ⟨5, .data⟩ (by simp) rfl) rfl)) (enters_of Try.func41 (by kernel_rfl) rfl)) ((po_put_wr hst2 6 (by omega) HR2.out who _ HD).mono ?_)
            rintro e v' ⟨rfl, h2⟩
            exact ⟨_, rfl, hK _ _ (fun s hs => by cases hs; rfl) (by simpa using h2)⟩
          · exact wp_ran rfl (exec_pick rfl (eval_tmp (hgot 1 _ 13 rfl (hdep ⟨1, .data⟩ (by simp) rfl) rfl)) (eval_tmp (hgot 6 _ 18 rfl (hdep ⟨6, .data⟩ (by simp) rfl) rfl)) rfl rfl) (hK _ _ (fun s hs => by cases hs; rfl) (by simpa using hst))
          · exact wp_ran rfl (exec_assign rfl (eval_tmp (hgot 7 _ 19 rfl (hdep ⟨7, .data⟩ (by simp) rfl) rfl))) (hK _ _ (fun s hs => by cases hs; rfl) (by simpa using hst))
        intro lz v hlz hst
        have hPO2 : PO w0 v b { p with rd := ins p.rd who, wr := ins p.wr who } os ts := by simpa [hlz 6 (by decide)] using hst
        clear hst hlz hPO
        simp only [setAll, Act.put, List.foldl_cons, List.foldl_nil, List.setIfInBounds_toArray, List.set_cons_succ, List.set_cons_zero]
        go_wp2_with fail
        go_ret
        exact ⟨rfl, fun _ => hPO2, hPO2.rest⟩
      case true =>
        rw [if_neg (by simp)]
        go_enter Try.func40, Try.ntmps40
        go_wp2_with fail
        refine wp_region_ups [(7, .pointer (some ⟨b, 0, none⟩)), (8, .pointer (some ⟨b, 0, none⟩)), (9, .pointer (some ⟨b, 2, none⟩)), (10, ci who), (11, .bool true), (5, .bool true)] 26 [7, 8, 9, 10, 11, 5] rfl rfl (by decide) (by kernel_rfl) (fun lz v => if lz 4 then PO w0 v b { p with rd := ins p.rd who } os ts else PO w0 v b p os ts) (by kernel_rfl) (by simpa using hPO.call (Mod.drew [] _)) (by kernel_rfl) (by kernel_rfl) ?_ ?_
        · skip
          intro lz T v j o hj hlj hdep hst hpar hgot hcl Kq hK
          have hjn : j < 6 := (Array.getElem?_eq_some_iff.1 hj).1
          obtain rfl | rfl | rfl | rfl | rfl | rfl : j = 0 ∨ j = 1 ∨ j = 2 ∨ j = 3 ∨ j = 4 ∨ j = 5 := by omega
          all_goals (have hj' := Option.some.inj (hj : some _ = some o); subst hj'; clear hj)
          · exact wp_ran rfl (exec_move rfl (eval_tmp ((hpar 0 rfl).trans rfl))) (hK _ _ (fun s hs => by cases hs; rfl) (by simpa using hst))
          · exact wp_ran rfl (exec_nil rfl (eval_tmp (hgot 0 _ 7 rfl (hdep ⟨0, .data⟩ (by simp) rfl) rfl))) (hK _ _ (fun s hs => by cases hs; rfl) (by simpa using hst))
          · exact wp_ran rfl (exec_fp24_2 rfl (eval_tmp (hgot 1 _ 8 rfl (hdep ⟨1, .data⟩ (by simp) rfl) rfl))) (hK _ _ (fun s hs => by cases hs; rfl) (by simpa using hst))
          · have hst2 : ∃ p, PO w0 v b p os ts := by
              by_cases hh : lz 4 = true
              · exact ⟨_, by simpa [hh] using hst⟩
              · exact ⟨_, by simpa [hh] using hst⟩
            exact wp_ran rfl (exec_load rfl (eval_tmp ((hpar 1 rfl).trans rfl)) (run_load1 Try.underlying3 rfl ((hst2.choose_spec.box HW.out).cell 0))) (hK _ _ (fun s hs => by cases hs; rfl) (by simpa using hst))
          · have hst2 : PO w0 v b p os ts := by simpa [hlj] using hst
            refine wp_called rfl (exec_call2 rfl rfl (eval_tmp (hgot 2 _ 9 rfl (hdep ⟨2, .data⟩ (by simp) rfl) rfl)) (eval_tmp (hgot 3 _ 10 rfl (hdep ⟨3, .data⟩ (by simp) rfl) rfl)) (enters_of Try.func41 (by kernel_rfl) rfl)) ((po_put_rd hst2 6 (by omega) HR.out who _ HC).mono ?_)
            rintro e v' ⟨rfl, h2⟩
            exact ⟨_, rfl, hK _ _ (fun s hs => by cases hs; rfl) (by simpa using h2)⟩
          · exact wp_ran rfl (exec_assign rfl (eval_tmp (hgot 4 _ 11 rfl (hdep ⟨4, .data⟩ (by simp) rfl) rfl))) (hK _ _ (fun s hs => by cases hs; rfl) (by simpa using hst))
        intro lz v hlz hst
        have hPO2 : PO w0 v b { p with rd := ins p.rd who } os ts := by simpa [hlz 4 (by decide)] using hst
        clear hst hlz hPO
        simp only [setAll, Act.put, List.foldl_cons, List.foldl_nil, List.setIfInBounds_toArray, List.set_cons_succ, List.set_cons_zero]
        go_wp2_with fail
        replace hPO := hPO2
        clear hPO2
        refine wp_region_ups [(12, .bool true), (13, .bool true), (14, .pointer (some ⟨b, 0, none⟩)), (15, .pointer (some ⟨b, 0, none⟩)), (16, .pointer (some ⟨b, 3, none⟩)), (17, ci who), (18, .bool false), (19, .bool false), (6, .bool false)] 26 [12, 13, 14, 15, 16, 17, 18, 19, 6] rfl rfl (by decide) (by kernel_rfl) (fun lz v => if lz 6 then PO w0 v b { p with rd := ins p.rd who, wr := ins p.wr who } os ts else PO w0 v b { p with rd := ins p.rd who } os ts) (by kernel_rfl) (by simpa using hPO.call (Mod.drew [] _)) (by kernel_rfl) (by kernel_rfl) ?_ ?_
        · skip
          intro lz T v j o hj hlj hdep hst hpar hgot hcl Kq hK
          have hjn : j < 9 := (Array.getElem?_eq_some_iff.1 hj).1
          obtain rfl | rfl | rfl | rfl | rfl | rfl | rfl | rfl | rfl : j = 0 ∨ j = 1 ∨ j = 2 ∨ j = 3 ∨ j = 4 ∨ j = 5 ∨ j = 6 ∨ j = 7 ∨ j = 8 := by omega
          all_goals (have hj' := Option.some.inj (hj : some _ = some o); subst hj'; clear hj)
          · have hst2 : ∃ p, PO w0 v b p os ts := by
              by_cases hh : lz 6 = true
              · exact ⟨_, by simpa [hh] using hst⟩
              · exact ⟨_, by simpa [hh] using hst⟩
            exact wp_ran rfl (exec_load rfl (eval_tmp ((hpar 2 rfl).trans rfl)) (run_load1 Try.underlying4 rfl ((hst2.choose_spec.box HT.out).cell 0))) (hK _ _ (fun s hs => by cases hs; rfl) (by simpa using hst))
          · exact wp_ran rfl (exec_move rfl (eval_tmp (hgot 0 _ 12 rfl (hdep ⟨0, .data⟩ (by simp) rfl) rfl))) (hK _ _ (fun s hs => by cases hs; rfl) (by simpa using hst))
          · exact wp_ranW (wanted_yes rfl rfl rfl (hgot 1 _ 13 rfl (hdep ⟨1, .guard⟩ (by simp) rfl) rfl)) (exec_move rfl (eval_tmp ((hpar 0 rfl).trans rfl))) (hK _ _ (fun s hs => by cases hs; rfl) (by simpa using hst))
          · exact wp_ranW (wanted_yes rfl rfl rfl (hgot 1 _ 13 rfl (hdep ⟨1, .guard⟩ (by simp) rfl) rfl)) (exec_nil rfl (eval_tmp (hgot 2 _ 14 rfl (hdep ⟨2, .data⟩ (by simp) rfl) rfl))) (hK _ _ (fun s hs => by cases hs; rfl) (by simpa using hst))
          · exact wp_ranW (wanted_yes rfl rfl rfl (hgot 1 _ 13 rfl (hdep ⟨1, .guard⟩ (by simp) rfl) rfl)) (exec_fp24_3 rfl (eval_tmp (hgot 3 _ 15 rfl (hdep ⟨3, .data⟩ (by simp) rfl) rfl))) (hK _ _ (fun s hs => by cases hs; rfl) (by simpa using hst))
          · have hst2 : ∃ p, PO w0 v b p os ts := by
              by_cases hh : lz 6 = true
              · exact ⟨_, by simpa [hh] using hst⟩
              · exact ⟨_, by simpa [hh] using hst⟩
            exact wp_ranW (wanted_yes rfl rfl rfl (hgot 1 _ 13 rfl (hdep ⟨1, .guard⟩ (by simp) rfl) rfl)) (exec_load rfl (eval_tmp ((hpar 1 rfl).trans rfl)) (run_load1 Try.underlying3 rfl ((hst2.choose_spec.box HW.out).cell 0))) (hK _ _ (fun s hs => by cases hs; rfl) (by simpa using hst))
          · have hst2 : PO w0 v b { p with rd := ins p.rd who } os ts := by simpa [hlj] using hst
            refine wp_calledW (wanted_yes rfl rfl rfl (hgot 1 _ 13 rfl (hdep ⟨1, .chain⟩ (by simp) rfl) rfl)) (exec_call2 rfl rfl (eval_tmp (hgot 4 _ 16 rfl (hdep ⟨4, .data⟩ (by simp) rfl) rfl)) (eval_tmp (hgot 5 _ 17 rfl (hdep ⟨5, .data⟩ (by simp) rfl) rfl)) (enters_of Try.func41 (by kernel_rfl) rfl)) ((po_put_wr hst2 6 (by omega) HR2.out who _ HD).mono ?_)
            rintro e v' ⟨rfl, h2⟩
            exact ⟨_, rfl, hK _ _ (fun s hs => by cases hs; rfl) (by simpa using h2)⟩
          · exact wp_ran rfl (exec_pick rfl (eval_tmp (hgot 1 _ 13 rfl (hdep ⟨1, .data⟩ (by simp) rfl) rfl)) (eval_tmp (hgot 6 _ 18 rfl (hdep ⟨6, .data⟩ (by simp) rfl) rfl)) rfl rfl) (hK _ _ (fun s hs => by cases hs; rfl) (by simpa using hst))
          · exact wp_ran rfl (exec_assign rfl (eval_tmp (hgot 7 _ 19 rfl (hdep ⟨7, .data⟩ (by simp) rfl) rfl))) (hK _ _ (fun s hs => by cases hs; rfl) (by simpa using hst))
        intro lz v hlz hst
        have hPO2 : PO w0 v b { p with rd := ins p.rd who, wr := ins p.wr who } os ts := by simpa [hlz 6 (by decide)] using hst
        clear hst hlz hPO
        simp only [setAll, Act.put, List.foldl_cons, List.foldl_nil, List.setIfInBounds_toArray, List.set_cons_succ, List.set_cons_zero]
        go_wp2_with fail
        go_ret
        exact ⟨rfl, fun _ => hPO2, hPO2.rest⟩
  case true =>
    cases wr
    case false =>
      rw [if_pos (by simp)]
      go_enter Try.func40, Try.ntmps40
      go_wp2_with fail
      refine wp_region_ups [(7, .pointer (some ⟨b, 0, none⟩)), (8, .pointer (some ⟨b, 0, none⟩)), (9, .pointer (some ⟨b, 2, none⟩)), (10, ci who), (11, .bool false), (5, .bool false)] 26 [7, 8, 9, 10, 11, 5] rfl rfl (by decide) (by kernel_rfl) (fun lz v => if lz 4 then PO w0 v b { p with rd := ins p.rd who } os ts else PO w0 v b p os ts) (by kernel_rfl) (by simpa using hPO.call (Mod.drew [] _)) (by kernel_rfl) (by kernel_rfl) ?_ ?_
      · skip
        intro lz T v j o hj hlj hdep hst hpar hgot hcl Kq hK
        have hjn : j < 6 := (Array.getElem?_eq_some_iff.1 hj).1
        obtain rfl | rfl | rfl | rfl | rfl | rfl : j = 0 ∨ j = 1 ∨ j = 2 ∨ j = 3 ∨ j = 4 ∨ j = 5 := by omega
        all_goals (have hj' := Option.some.inj (hj : some _ = some o); subst hj'; clear hj)
        · exact wp_ran rfl (exec_move rfl (eval_tmp ((hpar 0 rfl).trans rfl))) (hK _ _ (fun s hs => by cases hs; rfl) (by simpa using hst))
        · exact wp_ran rfl (exec_nil rfl (eval_tmp (hgot 0 _ 7 rfl (hdep ⟨0, .data⟩ (by simp) rfl) rfl))) (hK _ _ (fun s hs => by cases hs; rfl) (by simpa using hst))
        · exact wp_ran rfl (exec_fp24_2 rfl (eval_tmp (hgot 1 _ 8 rfl (hdep ⟨1, .data⟩ (by simp) rfl) rfl))) (hK _ _ (fun s hs => by cases hs; rfl) (by simpa using hst))
        · have hst2 : ∃ p, PO w0 v b p os ts := by
            by_cases hh : lz 4 = true
            · exact ⟨_, by simpa [hh] using hst⟩
            · exact ⟨_, by simpa [hh] using hst⟩
          exact wp_ran rfl (exec_load rfl (eval_tmp ((hpar 1 rfl).trans rfl)) (run_load1 Try.underlying3 rfl ((hst2.choose_spec.box HW.out).cell 0))) (hK _ _ (fun s hs => by cases hs; rfl) (by simpa using hst))
        · have hst2 : PO w0 v b p os ts := by simpa [hlj] using hst
          refine wp_called rfl (exec_call2 rfl rfl (eval_tmp (hgot 2 _ 9 rfl (hdep ⟨2, .data⟩ (by simp) rfl) rfl)) (eval_tmp (hgot 3 _ 10 rfl (hdep ⟨3, .data⟩ (by simp) rfl) rfl)) (enters_of Try.func41 (by kernel_rfl) rfl)) ((po_put_rd hst2 6 (by omega) HR.out who _ HC).mono ?_)
          rintro e v' ⟨rfl, h2⟩
          exact ⟨_, rfl, hK _ _ (fun s hs => by cases hs; rfl) (by simpa using h2)⟩
        · exact wp_ran rfl (exec_assign rfl (eval_tmp (hgot 4 _ 11 rfl (hdep ⟨4, .data⟩ (by simp) rfl) rfl))) (hK _ _ (fun s hs => by cases hs; rfl) (by simpa using hst))
      intro lz v hlz hst
      have hPO2 : PO w0 v b { p with rd := ins p.rd who } os ts := by simpa [hlz 4 (by decide)] using hst
      clear hst hlz hPO
      simp only [setAll, Act.put, List.foldl_cons, List.foldl_nil, List.setIfInBounds_toArray, List.set_cons_succ, List.set_cons_zero]
      have kt : v.cell? ⟨t, 0, none⟩ = some (.bool false) := (hPO2.box HT.out).cell 0
      go_wp2_with fail
      go_quiet (fail)
      go_wp2_with fail
      go_ret
      exact ⟨rfl, fun h => by simp at h, (hPO2.call (Mod.drewN [] _ _)).rest⟩
    case true =>
      cases d
      case false =>
        rw [if_neg (by simp)]
        go_enter Try.func40, Try.ntmps40
        go_wp2_with fail
        refine wp_region_ups [(7, .pointer (some ⟨b, 0, none⟩)), (8, .pointer (some ⟨b, 0, none⟩)), (9, .pointer (some ⟨b, 2, none⟩)), (10, ci who), (11, .bool false), (5, .bool false)] 26 [7, 8, 9, 10, 11, 5] rfl rfl (by decide) (by kernel_rfl) (fun lz v => if lz 4 then PO w0 v b { p with rd := ins p.rd who } os ts else PO w0 v b p os ts) (by kernel_rfl) (by simpa using hPO.call (Mod.drew [] _)) (by kernel_rfl) (by kernel_rfl) ?_ ?_
        · skip
          intro lz T v j o hj hlj hdep hst hpar hgot hcl Kq hK
          have hjn : j < 6 := (Array.getElem?_eq_some_iff.1 hj).1
          obtain rfl | rfl | rfl | rfl | rfl | rfl : j = 0 ∨ j = 1 ∨ j = 2 ∨ j = 3 ∨ j = 4 ∨ j = 5 := by omega
          all_goals (have hj' := Option.some.inj (hj : some _ = some o); subst hj'; clear hj)
          · exact wp_ran rfl (exec_move rfl (eval_tmp ((hpar 0 rfl).trans rfl))) (hK _ _ (fun s hs => by cases hs; rfl) (by simpa using hst))
          · exact wp_ran rfl (exec_nil rfl (eval_tmp (hgot 0 _ 7 rfl (hdep ⟨0, .data⟩ (by simp) rfl) rfl))) (hK _ _ (fun s hs => by cases hs; rfl) (by simpa using hst))
          · exact wp_ran rfl (exec_fp24_2 rfl (eval_tmp (hgot 1 _ 8 rfl (hdep ⟨1, .data⟩ (by simp) rfl) rfl))) (hK _ _ (fun s hs => by cases hs; rfl) (by simpa using hst))
          · have hst2 : ∃ p, PO w0 v b p os ts := by
              by_cases hh : lz 4 = true
              · exact ⟨_, by simpa [hh] using hst⟩
              · exact ⟨_, by simpa [hh] using hst⟩
            exact wp_ran rfl (exec_load rfl (eval_tmp ((hpar 1 rfl).trans rfl)) (run_load1 Try.underlying3 rfl ((hst2.choose_spec.box HW.out).cell 0))) (hK _ _ (fun s hs => by cases hs; rfl) (by simpa using hst))
          · have hst2 : PO w0 v b p os ts := by simpa [hlj] using hst
            refine wp_called rfl (exec_call2 rfl rfl (eval_tmp (hgot 2 _ 9 rfl (hdep ⟨2, .data⟩ (by simp) rfl) rfl)) (eval_tmp (hgot 3 _ 10 rfl (hdep ⟨3, .data⟩ (by simp) rfl) rfl)) (enters_of Try.func41 (by kernel_rfl) rfl)) ((po_put_rd hst2 6 (by omega) HR.out who _ HC).mono ?_)
            rintro e v' ⟨rfl, h2⟩
            exact ⟨_, rfl, hK _ _ (fun s hs => by cases hs; rfl) (by simpa using h2)⟩
          · exact wp_ran rfl (exec_assign rfl (eval_tmp (hgot 4 _ 11 rfl (hdep ⟨4, .data⟩ (by simp) rfl) rfl))) (hK _ _ (fun s hs => by cases hs; rfl) (by simpa using hst))
        intro lz v hlz hst
        have hPO2 : PO w0 v b { p with rd := ins p.rd who } os ts := by simpa [hlz 4 (by decide)] using hst
        clear hst hlz hPO
        simp only [setAll, Act.put, List.foldl_cons, List.foldl_nil, List.setIfInBounds_toArray, List.set_cons_succ, List.set_cons_zero]
        go_wp2_with fail
        replace hPO := hPO2
        clear hPO2
        refine wp_region_ups [(12, .bool true), (13, .bool true), (14, .pointer (some ⟨b, 0, none⟩)), (15, .pointer (some ⟨b, 0, none⟩)), (16, .pointer (some ⟨b, 3, none⟩)), (17, ci who), (18, .bool true), (19, .bool true), (6, .bool true)] 26 [12, 13, 14, 15, 16, 17, 18, 19, 6] rfl rfl (by decide) (by kernel_rfl) (fun lz v => if lz 6 then PO w0 v b { p with rd := ins p.rd who, wr := ins p.wr who } os ts else PO w0 v b { p with rd := ins p.rd who } os ts) (by kernel_rfl) (by simpa using hPO.call (Mod.drew [] _)) (by kernel_rfl) (by kernel_rfl) ?_ ?_
        · skip
          intro lz T v j o hj hlj hdep hst hpar hgot hcl Kq hK
          have hjn : j < 9 := (Array.getElem?_eq_some_iff.1 hj).1
          obtain rfl | rfl | rfl | rfl | rfl | rfl | rfl | rfl | rfl : j = 0 ∨ j = 1 ∨ j = 2 ∨ j = 3 ∨ j = 4 ∨ j = 5 ∨ j = 6 ∨ j = 7 ∨ j = 8 := by omega
          all_goals (have hj' := Option.some.inj (hj : some _ = some o); subst hj'; clear hj)
          · have hst2 : ∃ p, PO w0 v b p os ts := by
              by_cases hh : lz 6 = true
              · exact ⟨_, by simpa [hh] using hst⟩
              · exact ⟨_, by simpa [hh] using hst⟩
            exact wp_ran rfl (exec_load rfl (eval_tmp ((hpar 2 rfl).trans rfl)) (run_load1 Try.underlying4 rfl ((hst2.choose_spec.box HT.out).cell 0))) (hK _ _ (fun s hs => by cases hs; rfl) (by simpa using hst))
          · exact wp_ran rfl (exec_move rfl (eval_tmp (hgot 0 _ 12 rfl (hdep ⟨0, .data⟩ (by simp) rfl) rfl))) (hK _ _ (fun s hs => by cases hs; rfl) (by simpa using hst))
          · exact wp_ranW (wanted_yes rfl rfl rfl (hgot 1 _ 13 rfl (hdep ⟨1, .guard⟩ (by simp) rfl) rfl)) (exec_move rfl (eval_tmp ((hpar 0 rfl).trans rfl))) (hK _ _ (fun s hs => by cases hs; rfl) (by simpa using hst))
          · exact wp_ranW (wanted_yes rfl rfl rfl (hgot 1 _ 13 rfl (hdep ⟨1, .guard⟩ (by simp) rfl) rfl)) (exec_nil rfl (eval_tmp (hgot 2 _ 14 rfl (hdep ⟨2, .data⟩ (by simp) rfl) rfl))) (hK _ _ (fun s hs => by cases hs; rfl) (by simpa using hst))
          · exact wp_ranW (wanted_yes rfl rfl rfl (hgot 1 _ 13 rfl (hdep ⟨1, .guard⟩ (by simp) rfl) rfl)) (exec_fp24_3 rfl (eval_tmp (hgot 3 _ 15 rfl (hdep ⟨3, .data⟩ (by simp) rfl) rfl))) (hK _ _ (fun s hs => by cases hs; rfl) (by simpa using hst))
          · have hst2 : ∃ p, PO w0 v b p os ts := by
              by_cases hh : lz 6 = true
              · exact ⟨_, by simpa [hh] using hst⟩
              · exact ⟨_, by simpa [hh] using hst⟩
            exact wp_ranW (wanted_yes rfl rfl rfl (hgot 1 _ 13 rfl (hdep ⟨1, .guard⟩ (by simp) rfl) rfl)) (exec_load rfl (eval_tmp ((hpar 1 rfl).trans rfl)) (run_load1 Try.underlying3 rfl ((hst2.choose_spec.box HW.out).cell 0))) (hK _ _ (fun s hs => by cases hs; rfl) (by simpa using hst))
          · have hst2 : PO w0 v b { p with rd := ins p.rd who } os ts := by simpa [hlj] using hst
            refine wp_calledW (wanted_yes rfl rfl rfl (hgot 1 _ 13 rfl (hdep ⟨1, .chain⟩ (by simp) rfl) rfl)) (exec_call2 rfl rfl (eval_tmp (hgot 4 _ 16 rfl (hdep ⟨4, .data⟩ (by simp) rfl) rfl)) (eval_tmp (hgot 5 _ 17 rfl (hdep ⟨5, .data⟩ (by simp) rfl) rfl)) (enters_of Try.func41 (by kernel_rfl) rfl)) ((po_put_wr hst2 6 (by omega) HR2.out who _ HD).mono ?_)
            rintro e v' ⟨rfl, h2⟩
            exact ⟨_, rfl, hK _ _ (fun s hs => by cases hs; rfl) (by simpa using h2)⟩
          · exact wp_ran rfl (exec_pick rfl (eval_tmp (hgot 1 _ 13 rfl (hdep ⟨1, .data⟩ (by simp) rfl) rfl)) (eval_tmp (hgot 6 _ 18 rfl (hdep ⟨6, .data⟩ (by simp) rfl) rfl)) rfl rfl) (hK _ _ (fun s hs => by cases hs; rfl) (by simpa using hst))
          · exact wp_ran rfl (exec_assign rfl (eval_tmp (hgot 7 _ 19 rfl (hdep ⟨7, .data⟩ (by simp) rfl) rfl))) (hK _ _ (fun s hs => by cases hs; rfl) (by simpa using hst))
        intro lz v hlz hst
        have hPO2 : PO w0 v b { p with rd := ins p.rd who, wr := ins p.wr who } os ts := by simpa [hlz 6 (by decide)] using hst
        clear hst hlz hPO
        simp only [setAll, Act.put, List.foldl_cons, List.foldl_nil, List.setIfInBounds_toArray, List.set_cons_succ, List.set_cons_zero]
        go_wp2_with fail
        go_ret
        exact ⟨rfl, fun _ => hPO2, hPO2.rest⟩
      case true =>
        rw [if_pos (by simp)]
        go_enter Try.func40, Try.ntmps40
        go_wp2_with fail
        refine wp_region_ups [(7, .pointer (some ⟨b, 0, none⟩)), (8, .pointer (some ⟨b, 0, none⟩)), (9, .pointer (some ⟨b, 2, none⟩)), (10, ci who), (11, .bool false), (5, .bool false)] 26 [7, 8, 9, 10, 11, 5] rfl rfl (by decide) (by kernel_rfl) (fun lz v => if lz 4 then PO w0 v b { p with rd := ins p.rd who } os ts else PO w0 v b p os ts) (by kernel_rfl) (by simpa using hPO.call (Mod.drew [] _)) (by kernel_rfl) (by kernel_rfl) ?_ ?_
        · skip
          intro lz T v j o hj hlj hdep hst hpar hgot hcl Kq hK
          have hjn : j < 6 := (Array.getElem?_eq_some_iff.1 hj).1
          obtain rfl | rfl | rfl | rfl | rfl | rfl : j = 0 ∨ j = 1 ∨ j = 2 ∨ j = 3 ∨ j = 4 ∨ j = 5 := by omega
          all_goals (have hj' := Option.some.inj (hj : some _ = some o); subst hj'; clear hj)
          · exact wp_ran rfl (exec_move rfl (eval_tmp ((hpar 0 rfl).trans rfl))) (hK _ _ (fun s hs => by cases hs; rfl) (by simpa using hst))
          · exact wp_ran rfl (exec_nil rfl (eval_tmp (hgot 0 _ 7 rfl (hdep ⟨0, .data⟩ (by simp) rfl) rfl))) (hK _ _ (fun s hs => by cases hs; rfl) (by simpa using hst))
          · exact wp_ran rfl (exec_fp24_2 rfl (eval_tmp (hgot 1 _ 8 rfl (hdep ⟨1, .data⟩ (by simp) rfl) rfl))) (hK _ _ (fun s hs => by cases hs; rfl) (by simpa using hst))
          · have hst2 : ∃ p, PO w0 v b p os ts := by
              by_cases hh : lz 4 = true
              · exact ⟨_, by simpa [hh] using hst⟩
              · exact ⟨_, by simpa [hh] using hst⟩
            exact wp_ran rfl (exec_load rfl (eval_tmp ((hpar 1 rfl).trans rfl)) (run_load1 Try.underlying3 rfl ((hst2.choose_spec.box HW.out).cell 0))) (hK _ _ (fun s hs => by cases hs; rfl) (by simpa using hst))
          · have hst2 : PO w0 v b p os ts := by simpa [hlj] using hst
            refine wp_called rfl (exec_call2 rfl rfl (eval_tmp (hgot 2 _ 9 rfl (hdep ⟨2, .data⟩ (by simp) rfl) rfl)) (eval_tmp (hgot 3 _ 10 rfl (hdep ⟨3, .data⟩ (by simp) rfl) rfl)) (enters_of Try.func41 (by kernel_rfl) rfl)) ((po_put_rd hst2 6 (by omega) HR.out who _ HC).mono ?_)
            rintro e v' ⟨rfl, h2⟩
            exact ⟨_, rfl, hK _ _ (fun s hs => by cases hs; rfl) (by simpa using h2)⟩
          · exact wp_ran rfl (exec_assign rfl (eval_tmp (hgot 4 _ 11 rfl (hdep ⟨4, .data⟩ (by simp) rfl) rfl))) (hK _ _ (fun s hs => by cases hs; rfl) (by simpa using hst))
        intro lz v hlz hst
        have hPO2 : PO w0 v b { p with rd := ins p.rd who } os ts := by simpa [hlz 4 (by decide)] using hst
        clear hst hlz hPO
        simp only [setAll, Act.put, List.foldl_cons, List.foldl_nil, List.setIfInBounds_toArray, List.set_cons_succ, List.set_cons_zero]
        go_wp2_with fail
        replace hPO := hPO2
        clear hPO2
        refine wp_region_ups [(12, .bool true), (13, .bool true), (14, .pointer (some ⟨b, 0, none⟩)), (15, .pointer (some ⟨b, 0, none⟩)), (16, .pointer (some ⟨b, 3, none⟩)), (17, ci who), (18, .bool false), (19, .bool false), (6, .bool false)] 26 [12, 13, 14, 15, 16, 17, 18, 19, 6] rfl rfl (by decide) (by kernel_rfl) (fun lz v => if lz 6 then PO w0 v b { p with rd := ins p.rd who, wr := ins p.wr who } os ts else PO w0 v b { p with rd := ins p.rd who } os ts) (by kernel_rfl) (by simpa using hPO.call (Mod.drew [] _)) (by kernel_rfl) (by kernel_rfl) ?_ ?_
        · skip
          intro lz T v j o hj hlj hdep hst hpar hgot hcl Kq hK
          have hjn : j < 9 := (Array.getElem?_eq_some_iff.1 hj).1
          obtain rfl | rfl | rfl | rfl | rfl | rfl | rfl | rfl | rfl : j = 0 ∨ j = 1 ∨ j = 2 ∨ j = 3 ∨ j = 4 ∨ j = 5 ∨ j = 6 ∨ j = 7 ∨ j = 8 := by omega
          all_goals (have hj' := Option.some.inj (hj : some _ = some o); subst hj'; clear hj)
          · have hst2 : ∃ p, PO w0 v b p os ts := by
              by_cases hh : lz 6 = true
              · exact ⟨_, by simpa [hh] using hst⟩
              · exact ⟨_, by simpa [hh] using hst⟩
            exact wp_ran rfl (exec_load rfl (eval_tmp ((hpar 2 rfl).trans rfl)) (run_load1 Try.underlying4 rfl ((hst2.choose_spec.box HT.out).cell 0))) (hK _ _ (fun s hs => by cases hs; rfl) (by simpa using hst))
          · exact wp_ran rfl (exec_move rfl (eval_tmp (hgot 0 _ 12 rfl (hdep ⟨0, .data⟩ (by simp) rfl) rfl))) (hK _ _ (fun s hs => by cases hs; rfl) (by simpa using hst))
          · exact wp_ranW (wanted_yes rfl rfl rfl (hgot 1 _ 13 rfl (hdep ⟨1, .guard⟩ (by simp) rfl) rfl)) (exec_move rfl (eval_tmp ((hpar 0 rfl).trans rfl))) (hK _ _ (fun s hs => by cases hs; rfl) (by simpa using hst))
          · exact wp_ranW (wanted_yes rfl rfl rfl (hgot 1 _ 13 rfl (hdep ⟨1, .guard⟩ (by simp) rfl) rfl)) (exec_nil rfl (eval_tmp (hgot 2 _ 14 rfl (hdep ⟨2, .data⟩ (by simp) rfl) rfl))) (hK _ _ (fun s hs => by cases hs; rfl) (by simpa using hst))
          · exact wp_ranW (wanted_yes rfl rfl rfl (hgot 1 _ 13 rfl (hdep ⟨1, .guard⟩ (by simp) rfl) rfl)) (exec_fp24_3 rfl (eval_tmp (hgot 3 _ 15 rfl (hdep ⟨3, .data⟩ (by simp) rfl) rfl))) (hK _ _ (fun s hs => by cases hs; rfl) (by simpa using hst))
          · have hst2 : ∃ p, PO w0 v b p os ts := by
              by_cases hh : lz 6 = true
              · exact ⟨_, by simpa [hh] using hst⟩
              · exact ⟨_, by simpa [hh] using hst⟩
            exact wp_ranW (wanted_yes rfl rfl rfl (hgot 1 _ 13 rfl (hdep ⟨1, .guard⟩ (by simp) rfl) rfl)) (exec_load rfl (eval_tmp ((hpar 1 rfl).trans rfl)) (run_load1 Try.underlying3 rfl ((hst2.choose_spec.box HW.out).cell 0))) (hK _ _ (fun s hs => by cases hs; rfl) (by simpa using hst))
          · have hst2 : PO w0 v b { p with rd := ins p.rd who } os ts := by simpa [hlj] using hst
            refine wp_calledW (wanted_yes rfl rfl rfl (hgot 1 _ 13 rfl (hdep ⟨1, .chain⟩ (by simp) rfl) rfl)) (exec_call2 rfl rfl (eval_tmp (hgot 4 _ 16 rfl (hdep ⟨4, .data⟩ (by simp) rfl) rfl)) (eval_tmp (hgot 5 _ 17 rfl (hdep ⟨5, .data⟩ (by simp) rfl) rfl)) (enters_of Try.func41 (by kernel_rfl) rfl)) ((po_put_wr hst2 6 (by omega) HR2.out who _ HD).mono ?_)
            rintro e v' ⟨rfl, h2⟩
            exact ⟨_, rfl, hK _ _ (fun s hs => by cases hs; rfl) (by simpa using h2)⟩
          · exact wp_ran rfl (exec_pick rfl (eval_tmp (hgot 1 _ 13 rfl (hdep ⟨1, .data⟩ (by simp) rfl) rfl)) (eval_tmp (hgot 6 _ 18 rfl (hdep ⟨6, .data⟩ (by simp) rfl) rfl)) rfl rfl) (hK _ _ (fun s hs => by cases hs; rfl) (by simpa using hst))
          · exact wp_ran rfl (exec_assign rfl (eval_tmp (hgot 7 _ 19 rfl (hdep ⟨7, .data⟩ (by simp) rfl) rfl))) (hK _ _ (fun s hs => by cases hs; rfl) (by simpa using hst))
        intro lz v hlz hst
        have hPO2 : PO w0 v b { p with rd := ins p.rd who, wr := ins p.wr who } os ts := by simpa [hlz 6 (by decide)] using hst
        clear hst hlz hPO
        simp only [setAll, Act.put, List.foldl_cons, List.foldl_nil, List.setIfInBounds_toArray, List.set_cons_succ, List.set_cons_zero]
        go_wp2_with fail
        go_ret
        exact ⟨rfl, fun h => by simp at h, hPO2.rest⟩
end Go.Proofs.Ytaadmpainikfpaa
