/-
  What the closures do. My own work.
-/
import Derived.Test.YtaadmpainikfpaaWl
namespace Go.Proofs.Ytaadmpainikfpaa
open Go.RowKit Go.Shelf
attribute [local go_sem] Oper.semAt_some
set_option linter.unusedVariables false
set_option linter.unusedSimpArgs false
section
variable {o : Oper} {x : Operand} {ρ : Operand → Value} {v : World}
theorem exec_fp24_0 {g : Nat} (ho : o.op = .fieldAddr 24 x 0) (hx : ρ x = .pointer (some ⟨g, 0, none⟩)) : (execOp ρ o).run Try.prog v = .ok (.value (.pointer (some ⟨g, 0, none⟩))) v := exec_fa0 ho hx
theorem exec_fp24_2 {g : Nat} (ho : o.op = .fieldAddr 24 x 2) (hx : ρ x = .pointer (some ⟨g, 0, none⟩)) : (execOp ρ o).run Try.prog v = .ok (.value (.pointer (some ⟨g, 2, none⟩))) v := exec_fa2 ho hx
theorem exec_fp24_3 {g : Nat} (ho : o.op = .fieldAddr 24 x 3) (hx : ρ x = .pointer (some ⟨g, 0, none⟩)) : (execOp ρ o).run Try.prog v = .ok (.value (.pointer (some ⟨g, 3, none⟩))) v := exec_fa3 ho hx
theorem exec_fp24_4 {g : Nat} (ho : o.op = .fieldAddr 24 x 4) (hx : ρ x = .pointer (some ⟨g, 0, none⟩)) : (execOp ρ o).run Try.prog v = .ok (.value (.pointer (some ⟨g, 4, none⟩))) v := exec_fa4 ho hx
end
theorem PO.box {w0 w : World} {b : Nat} {p : Pm} {os ts : List Th} (h : PO w0 w b p os ts) {g : Nat} {t : TypeId} {cs : List Value} (hg : oB g t cs ∈ ts) : Holds w g t cs := (h.rest.k _ (.inr hg)).2.1
def ruB (r : Bool) (r' : Bool) : Prop := r = r'

theorem po_put_rd {w0 w : World} {b : Nat} {p : Pm} {os ts : List Th} (h : PO w0 w b p os ts) (m : Int) (hm : m ≤ 6) (hR : Rises p.rd m) (x : Int) (u : Bool) (hu : Hid (p.rd.contains x = u)) :
    Calls Try.prog 41 #[.pointer (some ⟨b, 2, none⟩), ci x] w fun e w' => e = .returned (.bool (!u)) ∧ PO w0 w' b { p with rd := ins p.rd x } os ts := by
  obtain ⟨A1, c1, A2, c2, A3, c3, F⟩ := h
  refine (put_c F 0 1 2 b _ _ p.rd.length p.rd x _ (by omega) rfl rfl rfl rfl (by have := hR.len hm; omega) hR.up u hu).mono ?_
  rintro e w' ⟨rfl, A', c', F'⟩
  exact ⟨rfl, A', c', A2, c2, A3, c3, F'⟩
theorem po_take_rd {w0 w : World} {b : Nat} {p : Pm} {os ts : List Th} (h : PO w0 w b p os ts) (m : Int) (hm : m ≤ 6) (hR : Rises p.rd m) (x : Int) (u : Bool) (hu : Hid (p.rd.contains x = u)) :
    Calls Try.prog 43 #[.pointer (some ⟨b, 2, none⟩), ci x] w fun e w' => e = .returned (.bool (u)) ∧ PO w0 w' b { p with rd := del p.rd x } os ts := by
  obtain ⟨A1, c1, A2, c2, A3, c3, F⟩ := h
  refine (take_c F 0 1 2 b _ _ p.rd.length p.rd x _ (by omega) rfl rfl rfl rfl (by have := hR.len hm; omega) hR.up u hu).mono ?_
  rintro e w' ⟨rfl, A', c', F'⟩
  exact ⟨rfl, A', c', A2, c2, A3, c3, F'⟩
theorem po_put_wr {w0 w : World} {b : Nat} {p : Pm} {os ts : List Th} (h : PO w0 w b p os ts) (m : Int) (hm : m ≤ 6) (hR : Rises p.wr m) (x : Int) (u : Bool) (hu : Hid (p.wr.contains x = u)) :
    Calls Try.prog 41 #[.pointer (some ⟨b, 3, none⟩), ci x] w fun e w' => e = .returned (.bool (!u)) ∧ PO w0 w' b { p with wr := ins p.wr x } os ts := by
  obtain ⟨A1, c1, A2, c2, A3, c3, F⟩ := h
  refine (put_c F 0 2 3 b _ _ p.wr.length p.wr x _ (by omega) rfl rfl rfl rfl (by have := hR.len hm; omega) hR.up u hu).mono ?_
  rintro e w' ⟨rfl, A', c', F'⟩
  exact ⟨rfl, A1, c1, A', c', A3, c3, F'⟩
theorem po_take_wr {w0 w : World} {b : Nat} {p : Pm} {os ts : List Th} (h : PO w0 w b p os ts) (m : Int) (hm : m ≤ 6) (hR : Rises p.wr m) (x : Int) (u : Bool) (hu : Hid (p.wr.contains x = u)) :
    Calls Try.prog 43 #[.pointer (some ⟨b, 3, none⟩), ci x] w fun e w' => e = .returned (.bool (u)) ∧ PO w0 w' b { p with wr := del p.wr x } os ts := by
  obtain ⟨A1, c1, A2, c2, A3, c3, F⟩ := h
  refine (take_c F 0 2 3 b _ _ p.wr.length p.wr x _ (by omega) rfl rfl rfl rfl (by have := hR.len hm; omega) hR.up u hu).mono ?_
  rintro e w' ⟨rfl, A', c', F'⟩
  exact ⟨rfl, A1, c1, A', c', A3, c3, F'⟩
theorem po_put_gp {w0 w : World} {b : Nat} {p : Pm} {os ts : List Th} (h : PO w0 w b p os ts) (m : Int) (hm : m ≤ 6) (hR : Rises p.gp m) (x : Int) (u : Bool) (hu : Hid (p.gp.contains x = u)) :
    Calls Try.prog 41 #[.pointer (some ⟨b, 4, none⟩), ci x] w fun e w' => e = .returned (.bool (!u)) ∧ PO w0 w' b { p with gp := ins p.gp x } os ts := by
  obtain ⟨A1, c1, A2, c2, A3, c3, F⟩ := h
  refine (put_c F 0 3 4 b _ _ p.gp.length p.gp x _ (by omega) rfl rfl rfl rfl (by have := hR.len hm; omega) hR.up u hu).mono ?_
  rintro e w' ⟨rfl, A', c', F'⟩
  exact ⟨rfl, A1, c1, A2, c2, A', c', F'⟩
theorem po_take_gp {w0 w : World} {b : Nat} {p : Pm} {os ts : List Th} (h : PO w0 w b p os ts) (m : Int) (hm : m ≤ 6) (hR : Rises p.gp m) (x : Int) (u : Bool) (hu : Hid (p.gp.contains x = u)) :
    Calls Try.prog 43 #[.pointer (some ⟨b, 4, none⟩), ci x] w fun e w' => e = .returned (.bool (u)) ∧ PO w0 w' b { p with gp := del p.gp x } os ts := by
  obtain ⟨A1, c1, A2, c2, A3, c3, F⟩ := h
  refine (take_c F 0 3 4 b _ _ p.gp.length p.gp x _ (by omega) rfl rfl rfl rfl (by have := hR.len hm; omega) hR.up u hu).mono ?_
  rintro e w' ⟨rfl, A', c', F'⟩
  exact ⟨rfl, A1, c1, A2, c2, A', c', F'⟩
theorem PO.call {w0 w v : World} {b : Nat} {p : Pm} {os ts : List Th} (h : PO w0 w b p os ts) (m : Mod [] w v) : PO w0 v b p os ts := by
  obtain ⟨A1, c1, A2, c2, A3, c3, F⟩ := h
  exact ⟨A1, c1, A2, c2, A3, c3, F.call m⟩
set_option maxHeartbeats 4000000 in
theorem shareG_c {w0 w : World} {b u : Nat} {p : Pm} {os ts : List Th} (who : Int) (h : PO w0 w b p os ts) (hu : oB u 3 [ci who] ∈ ts) (hr : p.Right) : Calls Try.prog 46 #[.pointer (some ⟨b, 0, none⟩), .pointer (some ⟨u, 0, none⟩)] w (ClR (sharedG p who) w0 b os ts) := by
  have HW := Lib.hid hu
  have HR := Lib.hid hr.g
  have HE1 := hr.e1
  have HE8 := hr.e8
  obtain ⟨c, hc⟩ : ∃ c, p.gp.contains who = c := ⟨_, rfl⟩
  have HC := Lib.hid hc
  have hres : sharedG p who = if c = true then (5, zp) else (0, { p with gp := ins p.gp who }) := by rw [sharedG, hc]
  rw [hres]
  clear hres hc hu hr
  have hPO := h
  clear h
  cases c
  case false =>
    rw [if_neg (by simp)]
    go_enter Try.func46, Try.ntmps46
    go_wp2_with fail
    refine wp_region_ups [(4, .pointer (some ⟨b, 0, none⟩)), (5, .pointer (some ⟨b, 0, none⟩)), (6, .pointer (some ⟨b, 4, none⟩)), (7, ci who), (8, .bool true), (9, .bool false)] 10 [4, 5, 6, 7, 8, 9] rfl rfl (by decide) (by kernel_rfl) (fun lz v => if lz 4 then PO w0 v b { p with gp := ins p.gp who } os ts else PO w0 v b p os ts) (by kernel_rfl) (by simpa using hPO.call (Mod.drew [] _)) (by kernel_rfl) (by kernel_rfl) ?_ ?_
    · skip
      intro lz T v j o hj hlj hdep hst hpar hgot hcl Kq hK
      have hjn : j < 6 := (Array.getElem?_eq_some_iff.1 hj).1
      obtain rfl | rfl | rfl | rfl | rfl | rfl : j = 0 ∨ j = 1 ∨ j = 2 ∨ j = 3 ∨ j = 4 ∨ j = 5 := by omega
      all_goals (have hj' := Option.some.inj (hj : some _ = some o); subst hj'; clear hj)
      · exact wp_ran rfl (exec_move rfl (eval_tmp ((hpar 0 rfl).trans rfl))) (hK _ _ (fun s hs => by cases hs; rfl) (by simpa using hst))
      · exact wp_ran rfl (exec_nil rfl (eval_tmp (hgot 0 _ 4 rfl (hdep ⟨0, .data⟩ (by simp) rfl) rfl))) (hK _ _ (fun s hs => by cases hs; rfl) (by simpa using hst))
      · exact wp_ran rfl (exec_fp24_4 rfl (eval_tmp (hgot 1 _ 5 rfl (hdep ⟨1, .data⟩ (by simp) rfl) rfl))) (hK _ _ (fun s hs => by cases hs; rfl) (by simpa using hst))
      · have hst2 : ∃ p, PO w0 v b p os ts := by
          by_cases hh : lz 4 = true
          · exact ⟨_, by simpa [hh] using hst⟩
          · exact ⟨_, by simpa [hh] using hst⟩
        exact wp_ran rfl (exec_load rfl (eval_tmp ((hpar 1 rfl).trans rfl)) (run_load1 Try.underlying3 rfl ((hst2.choose_spec.box HW.out).cell 0))) (hK _ _ (fun s hs => by cases hs; rfl) (by simpa using hst))
      · have hst2 : PO w0 v b p os ts := by simpa [hlj] using hst
        refine wp_called rfl (exec_call2 rfl rfl (eval_tmp (hgot 2 _ 6 rfl (hdep ⟨2, .data⟩ (by simp) rfl) rfl)) (eval_tmp (hgot 3 _ 7 rfl (hdep ⟨3, .data⟩ (by simp) rfl) rfl)) (enters_of Try.func41 (by kernel_rfl) rfl)) ((po_put_gp hst2 3 (by omega) HR.out who _ HC).mono ?_)
        rintro e v' ⟨rfl, h2⟩
        exact ⟨_, rfl, hK _ _ (fun s hs => by cases hs; rfl) (by simpa using h2)⟩
      · exact wp_ran rfl (exec_not rfl (eval_tmp (hgot 4 _ 8 rfl (hdep ⟨4, .data⟩ (by simp) rfl) rfl))) (hK _ _ (fun s hs => by cases hs; rfl) (by simpa using hst))
    intro lz v hlz hst
    have hPO2 : PO w0 v b { p with gp := ins p.gp who } os ts := by simpa [hlz 4 (by decide)] using hst
    clear hst hlz hPO
    simp only [setAll, Act.put, List.foldl_cons, List.foldl_nil, List.setIfInBounds_toArray, List.set_cons_succ, List.set_cons_zero]
    go_wp2_with fail
    go_ret
    exact ⟨rfl, fun _ => hPO2, hPO2.rest⟩
  case true =>
    rw [if_pos rfl]
    go_enter Try.func46, Try.ntmps46
    go_wp2_with fail
    refine wp_region_ups [(4, .pointer (some ⟨b, 0, none⟩)), (5, .pointer (some ⟨b, 0, none⟩)), (6, .pointer (some ⟨b, 4, none⟩)), (7, ci who), (8, .bool false), (9, .bool true)] 10 [4, 5, 6, 7, 8, 9] rfl rfl (by decide) (by kernel_rfl) (fun lz v => if lz 4 then PO w0 v b { p with gp := ins p.gp who } os ts else PO w0 v b p os ts) (by kernel_rfl) (by simpa using hPO.call (Mod.drew [] _)) (by kernel_rfl) (by kernel_rfl) ?_ ?_
    · skip
      intro lz T v j o hj hlj hdep hst hpar hgot hcl Kq hK
      have hjn : j < 6 := (Array.getElem?_eq_some_iff.1 hj).1
      obtain rfl | rfl | rfl | rfl | rfl | rfl : j = 0 ∨ j = 1 ∨ j = 2 ∨ j = 3 ∨ j = 4 ∨ j = 5 := by omega
      all_goals (have hj' := Option.some.inj (hj : some _ = some o); subst hj'; clear hj)
      · exact wp_ran rfl (exec_move rfl (eval_tmp ((hpar 0 rfl).trans rfl))) (hK _ _ (fun s hs => by cases hs; rfl) (by simpa using hst))
      · exact wp_ran rfl (exec_nil rfl (eval_tmp (hgot 0 _ 4 rfl (hdep ⟨0, .data⟩ (by simp) rfl) rfl))) (hK _ _ (fun s hs => by cases hs; rfl) (by simpa using hst))
      · exact wp_ran rfl (exec_fp24_4 rfl (eval_tmp (hgot 1 _ 5 rfl (hdep ⟨1, .data⟩ (by simp) rfl) rfl))) (hK _ _ (fun s hs => by cases hs; rfl) (by simpa using hst))
      · have hst2 : ∃ p, PO w0 v b p os ts := by
          by_cases hh : lz 4 = true
          · exact ⟨_, by simpa [hh] using hst⟩
          · exact ⟨_, by simpa [hh] using hst⟩
        exact wp_ran rfl (exec_load rfl (eval_tmp ((hpar 1 rfl).trans rfl)) (run_load1 Try.underlying3 rfl ((hst2.choose_spec.box HW.out).cell 0))) (hK _ _ (fun s hs => by cases hs; rfl) (by simpa using hst))
      · have hst2 : PO w0 v b p os ts := by simpa [hlj] using hst
        refine wp_called rfl (exec_call2 rfl rfl (eval_tmp (hgot 2 _ 6 rfl (hdep ⟨2, .data⟩ (by simp) rfl) rfl)) (eval_tmp (hgot 3 _ 7 rfl (hdep ⟨3, .data⟩ (by simp) rfl) rfl)) (enters_of Try.func41 (by kernel_rfl) rfl)) ((po_put_gp hst2 3 (by omega) HR.out who _ HC).mono ?_)
        rintro e v' ⟨rfl, h2⟩
        exact ⟨_, rfl, hK _ _ (fun s hs => by cases hs; rfl) (by simpa using h2)⟩
      · exact wp_ran rfl (exec_not rfl (eval_tmp (hgot 4 _ 8 rfl (hdep ⟨4, .data⟩ (by simp) rfl) rfl))) (hK _ _ (fun s hs => by cases hs; rfl) (by simpa using hst))
    intro lz v hlz hst
    have hPO2 : PO w0 v b { p with gp := ins p.gp who } os ts := by simpa [hlz 4 (by decide)] using hst
    clear hst hlz hPO
    simp only [setAll, Act.put, List.foldl_cons, List.foldl_nil, List.setIfInBounds_toArray, List.set_cons_succ, List.set_cons_zero]
    go_wp2_with fail
    go_ret
    exact ⟨rfl, fun h => by simp at h, hPO2.rest⟩
set_option maxHeartbeats 4000000 in
theorem backG_c {w0 w : World} {b u : Nat} {p : Pm} {os ts : List Th} (who : Int) (h : PO w0 w b p os ts) (hu : oB u 3 [ci who] ∈ ts) (hr : p.Right) : Calls Try.prog 47 #[.pointer (some ⟨b, 0, none⟩), .pointer (some ⟨u, 0, none⟩)] w (ClR (backedG p who) w0 b os ts) := by
  have HW := Lib.hid hu
  have HR := Lib.hid hr.g
  have HE1 := hr.e1
  have HE8 := hr.e8
  obtain ⟨c, hc⟩ : ∃ c, p.gp.contains who = c := ⟨_, rfl⟩
  have HC := Lib.hid hc
  have hres : backedG p who = if c = true then begun { p with gp := del p.gp who } else (4, zp) := by rw [backedG, hc]
  rw [hres]
  clear hres hc hu hr
  have hPO := h
  clear h
  cases c
  case false =>
    rw [if_neg (by simp)]
    go_enter Try.func47, Try.ntmps47
    go_wp2_with fail
    refine wp_region_ups [(4, .pointer (some ⟨b, 0, none⟩)), (5, .pointer (some ⟨b, 0, none⟩)), (6, .pointer (some ⟨b, 4, none⟩)), (7, ci who), (8, .bool false), (9, .bool true)] 12 [4, 5, 6, 7, 8, 9] rfl rfl (by decide) (by kernel_rfl) (fun lz v => if lz 4 then PO w0 v b { p with gp := del p.gp who } os ts else PO w0 v b p os ts) (by kernel_rfl) (by simpa using hPO.call (Mod.drew [] _)) (by kernel_rfl) (by kernel_rfl) ?_ ?_
    · skip
      intro lz T v j o hj hlj hdep hst hpar hgot hcl Kq hK
      have hjn : j < 6 := (Array.getElem?_eq_some_iff.1 hj).1
      obtain rfl | rfl | rfl | rfl | rfl | rfl : j = 0 ∨ j = 1 ∨ j = 2 ∨ j = 3 ∨ j = 4 ∨ j = 5 := by omega
      all_goals (have hj' := Option.some.inj (hj : some _ = some o); subst hj'; clear hj)
      · exact wp_ran rfl (exec_move rfl (eval_tmp ((hpar 0 rfl).trans rfl))) (hK _ _ (fun s hs => by cases hs; rfl) (by simpa using hst))
      · exact wp_ran rfl (exec_nil rfl (eval_tmp (hgot 0 _ 4 rfl (hdep ⟨0, .data⟩ (by simp) rfl) rfl))) (hK _ _ (fun s hs => by cases hs; rfl) (by simpa using hst))
      · exact wp_ran rfl (exec_fp24_4 rfl (eval_tmp (hgot 1 _ 5 rfl (hdep ⟨1, .data⟩ (by simp) rfl) rfl))) (hK _ _ (fun s hs => by cases hs; rfl) (by simpa using hst))
      · have hst2 : ∃ p, PO w0 v b p os ts := by
          by_cases hh : lz 4 = true
          · exact ⟨_, by simpa [hh] using hst⟩
          · exact ⟨_, by simpa [hh] using hst⟩
        exact wp_ran rfl (exec_load rfl (eval_tmp ((hpar 1 rfl).trans rfl)) (run_load1 Try.underlying3 rfl ((hst2.choose_spec.box HW.out).cell 0))) (hK _ _ (fun s hs => by cases hs; rfl) (by simpa using hst))
      · have hst2 : PO w0 v b p os ts := by simpa [hlj] using hst
        refine wp_called rfl (exec_call2 rfl rfl (eval_tmp (hgot 2 _ 6 rfl (hdep ⟨2, .data⟩ (by simp) rfl) rfl)) (eval_tmp (hgot 3 _ 7 rfl (hdep ⟨3, .data⟩ (by simp) rfl) rfl)) (enters_of Try.func43 (by kernel_rfl) rfl)) ((po_take_gp hst2 3 (by omega) HR.out who _ HC).mono ?_)
        rintro e v' ⟨rfl, h2⟩
        exact ⟨_, rfl, hK _ _ (fun s hs => by cases hs; rfl) (by simpa using h2)⟩
      · exact wp_ran rfl (exec_not rfl (eval_tmp (hgot 4 _ 8 rfl (hdep ⟨4, .data⟩ (by simp) rfl) rfl))) (hK _ _ (fun s hs => by cases hs; rfl) (by simpa using hst))
    intro lz v hlz hst
    have hPO2 : PO w0 v b { p with gp := del p.gp who } os ts := by simpa [hlz 4 (by decide)] using hst
    clear hst hlz hPO
    simp only [setAll, Act.put, List.foldl_cons, List.foldl_nil, List.setIfInBounds_toArray, List.set_cons_succ, List.set_cons_zero]
    go_wp2_with fail
    go_ret
    exact ⟨rfl, fun h => by simp at h, hPO2.rest⟩
  case true =>
    rw [if_pos rfl]
    go_enter Try.func47, Try.ntmps47
    go_wp2_with fail
    refine wp_region_ups [(4, .pointer (some ⟨b, 0, none⟩)), (5, .pointer (some ⟨b, 0, none⟩)), (6, .pointer (some ⟨b, 4, none⟩)), (7, ci who), (8, .bool true), (9, .bool false)] 12 [4, 5, 6, 7, 8, 9] rfl rfl (by decide) (by kernel_rfl) (fun lz v => if lz 4 then PO w0 v b { p with gp := del p.gp who } os ts else PO w0 v b p os ts) (by kernel_rfl) (by simpa using hPO.call (Mod.drew [] _)) (by kernel_rfl) (by kernel_rfl) ?_ ?_
    · skip
      intro lz T v j o hj hlj hdep hst hpar hgot hcl Kq hK
      have hjn : j < 6 := (Array.getElem?_eq_some_iff.1 hj).1
      obtain rfl | rfl | rfl | rfl | rfl | rfl : j = 0 ∨ j = 1 ∨ j = 2 ∨ j = 3 ∨ j = 4 ∨ j = 5 := by omega
      all_goals (have hj' := Option.some.inj (hj : some _ = some o); subst hj'; clear hj)
      · exact wp_ran rfl (exec_move rfl (eval_tmp ((hpar 0 rfl).trans rfl))) (hK _ _ (fun s hs => by cases hs; rfl) (by simpa using hst))
      · exact wp_ran rfl (exec_nil rfl (eval_tmp (hgot 0 _ 4 rfl (hdep ⟨0, .data⟩ (by simp) rfl) rfl))) (hK _ _ (fun s hs => by cases hs; rfl) (by simpa using hst))
      · exact wp_ran rfl (exec_fp24_4 rfl (eval_tmp (hgot 1 _ 5 rfl (hdep ⟨1, .data⟩ (by simp) rfl) rfl))) (hK _ _ (fun s hs => by cases hs; rfl) (by simpa using hst))
      · have hst2 : ∃ p, PO w0 v b p os ts := by
          by_cases hh : lz 4 = true
          · exact ⟨_, by simpa [hh] using hst⟩
          · exact ⟨_, by simpa [hh] using hst⟩
        exact wp_ran rfl (exec_load rfl (eval_tmp ((hpar 1 rfl).trans rfl)) (run_load1 Try.underlying3 rfl ((hst2.choose_spec.box HW.out).cell 0))) (hK _ _ (fun s hs => by cases hs; rfl) (by simpa using hst))
      · have hst2 : PO w0 v b p os ts := by simpa [hlj] using hst
        refine wp_called rfl (exec_call2 rfl rfl (eval_tmp (hgot 2 _ 6 rfl (hdep ⟨2, .data⟩ (by simp) rfl) rfl)) (eval_tmp (hgot 3 _ 7 rfl (hdep ⟨3, .data⟩ (by simp) rfl) rfl)) (enters_of Try.func43 (by kernel_rfl) rfl)) ((po_take_gp hst2 3 (by omega) HR.out who _ HC).mono ?_)
        rintro e v' ⟨rfl, h2⟩
        exact ⟨_, rfl, hK _ _ (fun s hs => by cases hs; rfl) (by simpa using h2)⟩
      · exact wp_ran rfl (exec_not rfl (eval_tmp (hgot 4 _ 8 rfl (hdep ⟨4, .data⟩ (by simp) rfl) rfl))) (hK _ _ (fun s hs => by cases hs; rfl) (by simpa using hst))
    intro lz v hlz hst
    have hPO2 : PO w0 v b { p with gp := del p.gp who } os ts := by simpa [hlz 4 (by decide)] using hst
    clear hst hlz hPO
    simp only [setAll, Act.put, List.foldl_cons, List.foldl_nil, List.setIfInBounds_toArray, List.set_cons_succ, List.set_cons_zero]
    have HB := begin_c hPO2 HE1 HE8
    go_wp2_with (go_at_call 44; refine HB.mono ?_; rintro e w' ⟨rfl, k1, k2⟩)
    go_ret
    exact ⟨rfl, k1, k2⟩
end Go.Proofs.Ytaadmpainikfpaa
