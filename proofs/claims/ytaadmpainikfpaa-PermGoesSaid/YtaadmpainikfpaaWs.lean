/-
  copied: permissions in memory of their own. My own work.
-/
import Derived.Test.YtaadmpainikfpaaWr
namespace Go.Proofs.Ytaadmpainikfpaa
open Go.RowKit Go.Shelf
attribute [local go_sem] Oper.semAt_some
set_option linter.unusedVariables false
set_option linter.unusedSimpArgs false
theorem results_cell1 {fn : Func} {p : Tmp} (h : fn.results = #[.cell p 24]) (tmps : Array Value) (w : World) (g : Nat) (cs : List Value) (hp : tmps.getD p undef = .pointer (some ⟨g, 0, none⟩)) (hc : Cells w (some ⟨g, 0, none⟩) cs) (h5 : cs.length = 5) :
    (results fn tmps).run Try.prog w = .ok (.agg cs.toArray) w := by
  have hp' : tmps[p]?.getD undef = .pointer (some ⟨g, 0, none⟩) := by simpa using hp
  simp [results, h, hp', asAddr, run_loads hc Try.underlying24 rfl (size24' h5)]
theorem run_lit0I (w : World) : (Instr.buildSlice 22 0 #[]).run Try.prog w = .ok (.slice (some ⟨w.heap.size, 0, none⟩) 0 0) (w.alloc (.cells ([] : List Value).toArray 3)) := by
  obtain ⟨i, hi, hz, hs, hb⟩ := info3
  unfold Instr.buildSlice
  simp only [Sem.run_bind, run_underlying Try.underlying22, sizeOf, typeInfo, run_program, hi, Result.andThen, Sem.run_pure, hs]
  simp [newRow, go_sem, Instr.fill, z3, Result.andThen]
theorem exec_lit0I {v : World} {o : Oper} {ρ : Operand → Value} (ho : o.op = .buildSlice 22 0 #[]) : (execOp ρ o).run Try.prog v = .ok (.value (.slice (some ⟨v.heap.size, 0, none⟩) 0 0)) (v.alloc (.cells ([] : List Value).toArray 3)) := by
  have hr := run_lit0I v
  unfold execOp
  simp only [ho, List.map_toArray, List.map_nil, Sem.run_bind, hr, Result.andThen, Sem.run_pure]
abbrev X2 := Nat × Option Addr × Nat
def cpRow (la ll : Bool) (x : X2) (l : List Int) : List Th := if la then [oI x.2.1 x.2.2 l] else if ll then [oI (some ⟨x.1, 0, none⟩) 0 []] else []
/-- The empty literal. -/
theorem Fm.litE {w0 w : World} {P Q ts : List Th} (F : Fm w0 w (P ++ Q) ts) : Fm w0 (w.alloc (.cells ([] : List Value).toArray 3)) (P ++ (oI (some ⟨w.heap.size, 0, none⟩) 0 [] :: Q)) ts := by
  have hv : Holds (w.alloc (.cells ([] : List Value).toArray 3)) w.heap.size 3 [] := Holds.made w 3 []
  have hO : OI _ (some ⟨w.heap.size, 0, none⟩) 0 [] := OwnG.shut (sp := []) (l := []) hv 0 rfl (by omega)
  exact (F.rowNew (Mod.alloc [] w _) hO (fun a ha => by cases ha; exact Nat.le_refl _)).perm List.perm_middle.symm
/-- What stands, behind it. -/
theorem Fm.appE {w0 w : World} {P Q ts : List Th} {g : Nat} (F : Fm w0 w (P ++ (oI (some ⟨g, 0, none⟩) 0 [] :: Q)) ts) (X : Option Addr) (d : Nat) (l : List Int) (hr : RI w X l.length d l) (hb : l.length ≤ 1000) :
    ∃ A' c' v, (Builtin.append_ #[22, 22] 22 #[.slice (some ⟨g, 0, none⟩) 0 0, .slice X l.length d]).run Try.prog w = .ok (.slice A' l.length c') v ∧ Fm w0 v (P ++ (oI A' c' l :: Q)) ts := by
  have hi : (P ++ (oI (some ⟨g, 0, none⟩) 0 [] :: Q))[P.length]? = some (oI (some ⟨g, 0, none⟩) 0 []) := by simp
  obtain ⟨A', c', v, hrun, hO, hm, hbl⟩ := run_appI w 22 (some ⟨g, 0, none⟩) 0 0 [] rfl (F.row P.length hi) X l.length d l hr (by omega)
  rw [List.nil_append] at hrun hO
  refine ⟨A', c', v, hrun, ?_⟩
  have F2 := fm_rowTurn F P.length hi hm hO hbl
  rwa [List.set_append_right _ _ (Nat.le_refl _), Nat.sub_self, List.set_cons_zero] at F2
def cpBox (o e : Int) (l1 l2 l3 : List Int) (S1 S2 S3 : Value) (x y z : X2) (l13 l15 l17 : Bool) : List Value :=
  [ci o, ci e, if l13 then .slice x.2.1 l1.length x.2.2 else S1, if l15 then .slice y.2.1 l2.length y.2.2 else S2, if l17 then .slice z.2.1 l3.length z.2.2 else S3]

theorem perm5b {α : Type} {a b c d e : α} : [a, b, c, d, e].Perm [d, a, b, c, e] := by
  have h1 : [a, b, c, d].Perm [d, a, b, c] := (List.perm_append_comm (l₁ := [a, b, c]) (l₂ := [d]))
  exact h1.append_right [e]
/-- Copied: the same permissions, told. -/
def CopR (p : Pm) (w : World) (e : Ending) (w' : World) : Prop := ∃ cs, e = .returned (.agg cs.toArray) ∧ PIs w' (Btw w.heap.size w'.heap.size) p cs ∧ Mod [] w w'
set_option maxRecDepth 100000 in
set_option maxHeartbeats 8000000 in
theorem copied_p {w : World} {S : Nat → Prop} {p : Pm} {cs : List Value} (h : PIs w S p cs) (hS : ∀ g, S g → g < w.heap.size) (hl : p.large = false) : Calls Try.prog 10 #[.agg cs.toArray] w (CopR p w) := by
  have FA := (Fm.nil w).arg (tP S p cs) (keeps_tP _ _ _) h hS
  obtain ⟨B1, d1, B2, d2, B3, d3, rfl, h⟩ := h
  obtain ⟨o, e, l1, l2, l3⟩ := p
  have H1 := Lib.hid h.rr
  have H2 := Lib.hid h.ww
  have H3 := Lib.hid h.gg
  simp only [Pm.large, Bool.or_eq_false_iff, decide_eq_false_iff_not] at hl
  have HL1 : Hid (l1.length ≤ 1000) := Lib.hid (by omega)
  have HL2 : Hid (l2.length ≤ 1000) := Lib.hid (by omega)
  have HL3 : Hid (l3.length ≤ 1000) := Lib.hid (by omega)
  simp only [pmc] at FA H1 H2 H3 ⊢
  obtain ⟨ts, hts⟩ : ∃ ts, ts = [tP S ⟨o, e, l1, l2, l3⟩ [ci o, ci e, .slice B1 l1.length d1, .slice B2 l2.length d2, .slice B3 l3.length d3]] := ⟨_, rfl⟩
  rw [← hts] at FA
  clear h hl hts
  go_enter Try.func10, Try.ntmps10
  go_wp2_with (first
    | (with_reducible refine fm_box FA (o := ⟨some 1, .box 24 (.tmp 0), _, _, _, _⟩) rfl 24 (.tmp 0) rfl [ci o, ci e, .slice B1 l1.length d1, .slice B2 l2.length d2, .slice B3 l3.length d3] rfl ?_; intro b1 w1 F1; clear FA)
    | (with_reducible refine fm_alloc F1 (o := ⟨some 2, .alloc 24, _, _, _, _⟩) rfl 24 rfl _ zero24 ?_; intro b2 w2 F9; clear F1))
  refine wp_region_upx (X := X2 × X2 × X2) (⟨⟨0, none, 0⟩, ⟨0, none, 0⟩, ⟨0, none, 0⟩⟩) (fun x => [(3, .slice (some ⟨x.1.1, 0, none⟩) 0 0), (4, .pointer (some ⟨b1, 2, none⟩)), (5, .slice B1 l1.length d1), (6, .slice x.1.2.1 l1.length x.1.2.2), (7, .slice (some ⟨x.2.1.1, 0, none⟩) 0 0), (8, .pointer (some ⟨b1, 3, none⟩)), (9, .slice B2 l2.length d2), (10, .slice x.2.1.2.1 l2.length x.2.1.2.2), (11, .slice (some ⟨x.2.2.1, 0, none⟩) 0 0), (12, .pointer (some ⟨b1, 4, none⟩)), (13, .slice B3 l3.length d3), (14, .slice x.2.2.2.1 l3.length x.2.2.2.2), (15, .pointer (some ⟨b1, 2, none⟩)), (16, .pointer (some ⟨b1, 3, none⟩)), (17, .pointer (some ⟨b1, 4, none⟩))]) 19 [3, 4, 5, 6, 7, 8, 9, 10, 11, 12, 13, 14, 15, 16, 17] rfl (fun _ => rfl) (by decide) (by kernel_rfl) (fun x lz v => Fm w v (cpRow (lz 3) (lz 0) x.1 l1 ++ (cpRow (lz 7) (lz 4) x.2.1 l2 ++ (cpRow (lz 11) (lz 8) x.2.2 l3 ++ [oB b2 24 zpm, oB b1 24 (cpBox o e l1 l2 l3 (.slice B1 l1.length d1) (.slice B2 l2.length d2) (.slice B3 l3.length d3) x.1 x.2.1 x.2.2 (lz 13) (lz 15) (lz 17))]))) ts) (by kernel_rfl) (by simpa [cpRow, cpBox] using F9.call (Mod.drew [] _)) (by kernel_rfl) (by kernel_rfl) ?_ ?_
  · skip
    intro x lz T v j o hj hlj hdep hst hpar hgot hcl Kq hK
    have hjn : j < 18 := (Array.getElem?_eq_some_iff.1 hj).1
    obtain rfl | rfl | rfl | rfl | rfl | rfl | rfl | rfl | rfl | rfl | rfl | rfl | rfl | rfl | rfl | rfl | rfl | rfl : j = 0 ∨ j = 1 ∨ j = 2 ∨ j = 3 ∨ j = 4 ∨ j = 5 ∨ j = 6 ∨ j = 7 ∨ j = 8 ∨ j = 9 ∨ j = 10 ∨ j = 11 ∨ j = 12 ∨ j = 13 ∨ j = 14 ∨ j = 15 ∨ j = 16 ∨ j = 17 := by omega
    all_goals (have hj' := Option.some.inj (hj : some _ = some o); subst hj'; clear hj)
    · have na : lz 3 = false := (by cases hh : lz 3 with | false => rfl | true => exact absurd (hcl 3 _ rfl hh ⟨0, .data⟩ (by simp) rfl) (by rw [hlj]; simp))
      have l13 : lz 13 = false := (by cases hh : lz 13 with | false => rfl | true => exact absurd (hcl 13 _ rfl hh ⟨0, .phase⟩ (by simp) rfl) (by rw [hlj]; simp))
      have l15 : lz 15 = false := (by cases hh : lz 15 with | false => rfl | true => exact absurd (hcl 15 _ rfl hh ⟨0, .phase⟩ (by simp) rfl) (by rw [hlj]; simp))
      have l17 : lz 17 = false := (by cases hh : lz 17 with | false => rfl | true => exact absurd (hcl 17 _ rfl hh ⟨0, .phase⟩ (by simp) rfl) (by rw [hlj]; simp))
      have F1 : Fm w v (([]) ++ (cpRow (lz 7) (lz 4) x.2.1 l2 ++ (cpRow (lz 11) (lz 8) x.2.2 l3 ++ [oB b2 24 zpm, oB b1 24 (cpBox o e l1 l2 l3 (.slice B1 l1.length d1) (.slice B2 l2.length d2) (.slice B3 l3.length d3) x.1 x.2.1 x.2.2 false false false)]))) ts := by simpa [cpRow, hlj, na, l13, l15, l17] using hst
      have F2 := F1.litE
      refine wp_ran rfl (exec_lit0I rfl) (hK ⟨(v.heap.size, x.1.2), x.2⟩ _ _ (fun j' o' s' g1 g2 g3 => by
          have g4 : j' < 18 := (Array.getElem?_eq_some_iff.1 g1).1
          clear hpar hgot hdep hK
          obtain rfl | rfl | rfl | rfl | rfl | rfl | rfl | rfl | rfl | rfl | rfl | rfl | rfl | rfl | rfl | rfl | rfl | rfl : j' = 0 ∨ j' = 1 ∨ j' = 2 ∨ j' = 3 ∨ j' = 4 ∨ j' = 5 ∨ j' = 6 ∨ j' = 7 ∨ j' = 8 ∨ j' = 9 ∨ j' = 10 ∨ j' = 11 ∨ j' = 12 ∨ j' = 13 ∨ j' = 14 ∨ j' = 15 ∨ j' = 16 ∨ j' = 17 := by omega
          all_goals (cases g1; cases g3 <;> first | rfl | (rw [hlj] at g2; cases g2))) (fun s hs => by cases hs; rfl) ?_)
      simpa [cpRow, cpBox, na, l13, l15, l17] using F2
    · exact wp_ran rfl (exec_fp24_2 rfl (eval_tmp ((hpar 1 rfl).trans rfl))) (hK x _ _ (fun _ _ _ _ _ _ => rfl) (fun s hs => by cases hs; rfl) (by simpa using hst))
    · have l13 : lz 13 = false := (by cases hh : lz 13 with | false => rfl | true => exact absurd (hcl 13 _ rfl hh ⟨2, .phase⟩ (by simp) rfl) (by rw [hlj]; simp))
      have l15 : lz 15 = false := (by cases hh : lz 15 with | false => rfl | true => exact absurd (hcl 15 _ rfl hh ⟨2, .phase⟩ (by simp) rfl) (by rw [hlj]; simp))
      have l17 : lz 17 = false := (by cases hh : lz 17 with | false => rfl | true => exact absurd (hcl 17 _ rfl hh ⟨2, .phase⟩ (by simp) rfl) (by rw [hlj]; simp))
      have kc : v.cell? ⟨b1, 2, none⟩ = some (.slice B1 l1.length d1) := by
        have F1 := hst
        rw [l13, l15, l17] at F1
        have F2 := F1.sub ((List.sublist_append_right _ _).trans ((List.sublist_append_right _ _).trans ((List.sublist_append_right _ _)))) (fun _ h => h) (os' := [oB b2 24 zpm, oB b1 24 (cpBox o e l1 l2 l3 (.slice B1 l1.length d1) (.slice B2 l2.length d2) (.slice B3 l3.length d3) x.1 x.2.1 x.2.2 false false false)])
        exact F2.cellO 1 rfl 2 rfl
      exact wp_ran rfl (exec_load rfl (eval_tmp (hgot 1 _ 4 rfl (hdep ⟨1, .data⟩ (by simp) rfl) rfl)) (run_load1 Try.underlying22 rfl kc)) (hK x _ _ (fun _ _ _ _ _ _ => rfl) (fun s hs => by cases hs; rfl) (by simpa using hst))
    · have tl : lz 0 = true := (hdep ⟨0, .data⟩ (by simp) rfl)
      have l13 : lz 13 = false := (by cases hh : lz 13 with | false => rfl | true => exact absurd (hcl 13 _ rfl hh ⟨3, .data⟩ (by simp) rfl) (by rw [hlj]; simp))
      have l15 : lz 15 = false := (by cases hh : lz 15 with | false => rfl | true => exact absurd (hcl 15 _ rfl hh ⟨3, .phase⟩ (by simp) rfl) (by rw [hlj]; simp))
      have l17 : lz 17 = false := (by cases hh : lz 17 with | false => rfl | true => exact absurd (hcl 17 _ rfl hh ⟨3, .phase⟩ (by simp) rfl) (by rw [hlj]; simp))
      have F1 : Fm w v (([]) ++ (oI (some ⟨x.1.1, 0, none⟩) 0 [] :: (cpRow (lz 7) (lz 4) x.2.1 l2 ++ (cpRow (lz 11) (lz 8) x.2.2 l3 ++ [oB b2 24 zpm, oB b1 24 (cpBox o e l1 l2 l3 (.slice B1 l1.length d1) (.slice B2 l2.length d2) (.slice B3 l3.length d3) x.1 x.2.1 x.2.2 false false false)])))) ts := by simpa [cpRow, hlj, tl, l13, l15, l17] using hst
      obtain ⟨A2, c2, v2, hrun, F2⟩ := F1.appE B1 d1 l1 (H1.out.call F1.m) HL1.out
      refine wp_ran rfl (exec_append (o := { dst := some 6, op := .call { callee := .builtin .append, args := #[.tmp 3, .tmp 5], argTypes := #[22, 22] }, type := 22, pos := _, after := _, guard := none }) rfl (eval_tmp (hgot 0 _ 3 rfl (hdep ⟨0, .data⟩ (by simp) rfl) rfl)) (eval_tmp (hgot 2 _ 5 rfl (hdep ⟨2, .data⟩ (by simp) rfl) rfl)) hrun) (hK ⟨(x.1.1, A2, c2), x.2⟩ _ _ (fun j' o' s' g1 g2 g3 => by
          have g4 : j' < 18 := (Array.getElem?_eq_some_iff.1 g1).1
          clear hpar hgot hdep hK
          obtain rfl | rfl | rfl | rfl | rfl | rfl | rfl | rfl | rfl | rfl | rfl | rfl | rfl | rfl | rfl | rfl | rfl | rfl : j' = 0 ∨ j' = 1 ∨ j' = 2 ∨ j' = 3 ∨ j' = 4 ∨ j' = 5 ∨ j' = 6 ∨ j' = 7 ∨ j' = 8 ∨ j' = 9 ∨ j' = 10 ∨ j' = 11 ∨ j' = 12 ∨ j' = 13 ∨ j' = 14 ∨ j' = 15 ∨ j' = 16 ∨ j' = 17 := by omega
          all_goals (cases g1; cases g3 <;> first | rfl | (rw [hlj] at g2; cases g2))) (fun s hs => by cases hs; rfl) ?_)
      simpa [cpRow, cpBox, tl, l13, l15, l17] using F2
    · have na : lz 7 = false := (by cases hh : lz 7 with | false => rfl | true => exact absurd (hcl 7 _ rfl hh ⟨4, .data⟩ (by simp) rfl) (by rw [hlj]; simp))
      have l13 : lz 13 = false := (by cases hh : lz 13 with | false => rfl | true => exact absurd (hcl 7 _ rfl (hcl 11 _ rfl (hcl 13 _ rfl hh ⟨11, .chain⟩ (by simp) rfl) ⟨7, .chain⟩ (by simp) rfl) ⟨4, .data⟩ (by simp) rfl) (by rw [hlj]; simp))
      have l15 : lz 15 = false := (by cases hh : lz 15 with | false => rfl | true => exact absurd (hcl 15 _ rfl hh ⟨4, .phase⟩ (by simp) rfl) (by rw [hlj]; simp))
      have l17 : lz 17 = false := (by cases hh : lz 17 with | false => rfl | true => exact absurd (hcl 17 _ rfl hh ⟨4, .phase⟩ (by simp) rfl) (by rw [hlj]; simp))
      have F1 : Fm w v ((cpRow (lz 3) (lz 0) x.1 l1) ++ (cpRow (lz 11) (lz 8) x.2.2 l3 ++ [oB b2 24 zpm, oB b1 24 (cpBox o e l1 l2 l3 (.slice B1 l1.length d1) (.slice B2 l2.length d2) (.slice B3 l3.length d3) x.1 x.2.1 x.2.2 false false false)])) ts := by simpa [cpRow, hlj, na, l13, l15, l17] using hst
      have F2 := F1.litE
      refine wp_ran rfl (exec_lit0I rfl) (hK ⟨x.1, (v.heap.size, x.2.1.2), x.2.2⟩ _ _ (fun j' o' s' g1 g2 g3 => by
          have g4 : j' < 18 := (Array.getElem?_eq_some_iff.1 g1).1
          clear hpar hgot hdep hK
          obtain rfl | rfl | rfl | rfl | rfl | rfl | rfl | rfl | rfl | rfl | rfl | rfl | rfl | rfl | rfl | rfl | rfl | rfl : j' = 0 ∨ j' = 1 ∨ j' = 2 ∨ j' = 3 ∨ j' = 4 ∨ j' = 5 ∨ j' = 6 ∨ j' = 7 ∨ j' = 8 ∨ j' = 9 ∨ j' = 10 ∨ j' = 11 ∨ j' = 12 ∨ j' = 13 ∨ j' = 14 ∨ j' = 15 ∨ j' = 16 ∨ j' = 17 := by omega
          all_goals (cases g1; cases g3 <;> first | rfl | (rw [hlj] at g2; cases g2))) (fun s hs => by cases hs; rfl) ?_)
      simpa [cpRow, cpBox, na, l13, l15, l17] using F2
    · exact wp_ran rfl (exec_fp24_3 rfl (eval_tmp ((hpar 1 rfl).trans rfl))) (hK x _ _ (fun _ _ _ _ _ _ => rfl) (fun s hs => by cases hs; rfl) (by simpa using hst))
    · have l13 : lz 13 = false := (by cases hh : lz 13 with | false => rfl | true => exact absurd (hcl 13 _ rfl hh ⟨6, .phase⟩ (by simp) rfl) (by rw [hlj]; simp))
      have l15 : lz 15 = false := (by cases hh : lz 15 with | false => rfl | true => exact absurd (hcl 15 _ rfl hh ⟨6, .phase⟩ (by simp) rfl) (by rw [hlj]; simp))
      have l17 : lz 17 = false := (by cases hh : lz 17 with | false => rfl | true => exact absurd (hcl 17 _ rfl hh ⟨6, .phase⟩ (by simp) rfl) (by rw [hlj]; simp))
      have kc : v.cell? ⟨b1, 3, none⟩ = some (.slice B2 l2.length d2) := by
        have F1 := hst
        rw [l13, l15, l17] at F1
        have F2 := F1.sub ((List.sublist_append_right _ _).trans ((List.sublist_append_right _ _).trans ((List.sublist_append_right _ _)))) (fun _ h => h) (os' := [oB b2 24 zpm, oB b1 24 (cpBox o e l1 l2 l3 (.slice B1 l1.length d1) (.slice B2 l2.length d2) (.slice B3 l3.length d3) x.1 x.2.1 x.2.2 false false false)])
        exact F2.cellO 1 rfl 3 rfl
      exact wp_ran rfl (exec_load rfl (eval_tmp (hgot 5 _ 8 rfl (hdep ⟨5, .data⟩ (by simp) rfl) rfl)) (run_load1 Try.underlying22 rfl kc)) (hK x _ _ (fun _ _ _ _ _ _ => rfl) (fun s hs => by cases hs; rfl) (by simpa using hst))
    · have tl : lz 4 = true := (hdep ⟨4, .data⟩ (by simp) rfl)
      have l13 : lz 13 = false := (by cases hh : lz 13 with | false => rfl | true => exact absurd (hcl 11 _ rfl (hcl 13 _ rfl hh ⟨11, .chain⟩ (by simp) rfl) ⟨7, .chain⟩ (by simp) rfl) (by rw [hlj]; simp))
      have l15 : lz 15 = false := (by cases hh : lz 15 with | false => rfl | true => exact absurd (hcl 15 _ rfl hh ⟨7, .data⟩ (by simp) rfl) (by rw [hlj]; simp))
      have l17 : lz 17 = false := (by cases hh : lz 17 with | false => rfl | true => exact absurd (hcl 17 _ rfl hh ⟨7, .phase⟩ (by simp) rfl) (by rw [hlj]; simp))
      have F1 : Fm w v ((cpRow (lz 3) (lz 0) x.1 l1) ++ (oI (some ⟨x.2.1.1, 0, none⟩) 0 [] :: (cpRow (lz 11) (lz 8) x.2.2 l3 ++ [oB b2 24 zpm, oB b1 24 (cpBox o e l1 l2 l3 (.slice B1 l1.length d1) (.slice B2 l2.length d2) (.slice B3 l3.length d3) x.1 x.2.1 x.2.2 false false false)]))) ts := by simpa [cpRow, hlj, tl, l13, l15, l17] using hst
      obtain ⟨A2, c2, v2, hrun, F2⟩ := F1.appE B2 d2 l2 (H2.out.call F1.m) HL2.out
      refine wp_ran rfl (exec_append (o := { dst := some 10, op := .call { callee := .builtin .append, args := #[.tmp 7, .tmp 9], argTypes := #[22, 22] }, type := 22, pos := _, after := _, guard := none }) rfl (eval_tmp (hgot 4 _ 7 rfl (hdep ⟨4, .data⟩ (by simp) rfl) rfl)) (eval_tmp (hgot 6 _ 9 rfl (hdep ⟨6, .data⟩ (by simp) rfl) rfl)) hrun) (hK ⟨x.1, (x.2.1.1, A2, c2), x.2.2⟩ _ _ (fun j' o' s' g1 g2 g3 => by
          have g4 : j' < 18 := (Array.getElem?_eq_some_iff.1 g1).1
          clear hpar hgot hdep hK
          obtain rfl | rfl | rfl | rfl | rfl | rfl | rfl | rfl | rfl | rfl | rfl | rfl | rfl | rfl | rfl | rfl | rfl | rfl : j' = 0 ∨ j' = 1 ∨ j' = 2 ∨ j' = 3 ∨ j' = 4 ∨ j' = 5 ∨ j' = 6 ∨ j' = 7 ∨ j' = 8 ∨ j' = 9 ∨ j' = 10 ∨ j' = 11 ∨ j' = 12 ∨ j' = 13 ∨ j' = 14 ∨ j' = 15 ∨ j' = 16 ∨ j' = 17 := by omega
          all_goals (cases g1; cases g3 <;> first | rfl | (rw [hlj] at g2; cases g2))) (fun s hs => by cases hs; rfl) ?_)
      simpa [cpRow, cpBox, tl, l13, l15, l17] using F2
    · have na : lz 11 = false := (by cases hh : lz 11 with | false => rfl | true => exact absurd (hcl 11 _ rfl hh ⟨8, .data⟩ (by simp) rfl) (by rw [hlj]; simp))
      have l13 : lz 13 = false := (by cases hh : lz 13 with | false => rfl | true => exact absurd (hcl 11 _ rfl (hcl 13 _ rfl hh ⟨11, .chain⟩ (by simp) rfl) ⟨8, .data⟩ (by simp) rfl) (by rw [hlj]; simp))
      have l15 : lz 15 = false := (by cases hh : lz 15 with | false => rfl | true => exact absurd (hcl 11 _ rfl (hcl 13 _ rfl (hcl 14 _ rfl (hcl 15 _ rfl hh ⟨14, .data⟩ (by simp) rfl) ⟨13, .phase⟩ (by simp) rfl) ⟨11, .chain⟩ (by simp) rfl) ⟨8, .data⟩ (by simp) rfl) (by rw [hlj]; simp))
      have l17 : lz 17 = false := (by cases hh : lz 17 with | false => rfl | true => exact absurd (hcl 17 _ rfl hh ⟨8, .phase⟩ (by simp) rfl) (by rw [hlj]; simp))
      have F1 : Fm w v ((cpRow (lz 3) (lz 0) x.1 l1 ++ cpRow (lz 7) (lz 4) x.2.1 l2) ++ [oB b2 24 zpm, oB b1 24 (cpBox o e l1 l2 l3 (.slice B1 l1.length d1) (.slice B2 l2.length d2) (.slice B3 l3.length d3) x.1 x.2.1 x.2.2 false false false)]) ts := by simpa [cpRow, hlj, na, l13, l15, l17] using hst
      have F2 := F1.litE
      refine wp_ran rfl (exec_lit0I rfl) (hK ⟨x.1, x.2.1, (v.heap.size, x.2.2.2)⟩ _ _ (fun j' o' s' g1 g2 g3 => by
          have g4 : j' < 18 := (Array.getElem?_eq_some_iff.1 g1).1
          clear hpar hgot hdep hK
          obtain rfl | rfl | rfl | rfl | rfl | rfl | rfl | rfl | rfl | rfl | rfl | rfl | rfl | rfl | rfl | rfl | rfl | rfl : j' = 0 ∨ j' = 1 ∨ j' = 2 ∨ j' = 3 ∨ j' = 4 ∨ j' = 5 ∨ j' = 6 ∨ j' = 7 ∨ j' = 8 ∨ j' = 9 ∨ j' = 10 ∨ j' = 11 ∨ j' = 12 ∨ j' = 13 ∨ j' = 14 ∨ j' = 15 ∨ j' = 16 ∨ j' = 17 := by omega
          all_goals (cases g1; cases g3 <;> first | rfl | (rw [hlj] at g2; cases g2))) (fun s hs => by cases hs; rfl) ?_)
      simpa [cpRow, cpBox, na, l13, l15, l17] using F2
    · exact wp_ran rfl (exec_fp24_4 rfl (eval_tmp ((hpar 1 rfl).trans rfl))) (hK x _ _ (fun _ _ _ _ _ _ => rfl) (fun s hs => by cases hs; rfl) (by simpa using hst))
    · have l13 : lz 13 = false := (by cases hh : lz 13 with | false => rfl | true => exact absurd (hcl 13 _ rfl hh ⟨10, .phase⟩ (by simp) rfl) (by rw [hlj]; simp))
      have l15 : lz 15 = false := (by cases hh : lz 15 with | false => rfl | true => exact absurd (hcl 15 _ rfl hh ⟨10, .phase⟩ (by simp) rfl) (by rw [hlj]; simp))
      have l17 : lz 17 = false := (by cases hh : lz 17 with | false => rfl | true => exact absurd (hcl 17 _ rfl hh ⟨10, .phase⟩ (by simp) rfl) (by rw [hlj]; simp))
      have kc : v.cell? ⟨b1, 4, none⟩ = some (.slice B3 l3.length d3) := by
        have F1 := hst
        rw [l13, l15, l17] at F1
        have F2 := F1.sub ((List.sublist_append_right _ _).trans ((List.sublist_append_right _ _).trans ((List.sublist_append_right _ _)))) (fun _ h => h) (os' := [oB b2 24 zpm, oB b1 24 (cpBox o e l1 l2 l3 (.slice B1 l1.length d1) (.slice B2 l2.length d2) (.slice B3 l3.length d3) x.1 x.2.1 x.2.2 false false false)])
        exact F2.cellO 1 rfl 4 rfl
      exact wp_ran rfl (exec_load rfl (eval_tmp (hgot 9 _ 12 rfl (hdep ⟨9, .data⟩ (by simp) rfl) rfl)) (run_load1 Try.underlying22 rfl kc)) (hK x _ _ (fun _ _ _ _ _ _ => rfl) (fun s hs => by cases hs; rfl) (by simpa using hst))
    · have tl : lz 8 = true := (hdep ⟨8, .data⟩ (by simp) rfl)
      have l13 : lz 13 = false := (by cases hh : lz 13 with | false => rfl | true => exact absurd (hcl 13 _ rfl hh ⟨11, .chain⟩ (by simp) rfl) (by rw [hlj]; simp))
      have l15 : lz 15 = false := (by cases hh : lz 15 with | false => rfl | true => exact absurd (hcl 13 _ rfl (hcl 14 _ rfl (hcl 15 _ rfl hh ⟨14, .data⟩ (by simp) rfl) ⟨13, .phase⟩ (by simp) rfl) ⟨11, .chain⟩ (by simp) rfl) (by rw [hlj]; simp))
      have l17 : lz 17 = false := (by cases hh : lz 17 with | false => rfl | true => exact absurd (hcl 17 _ rfl hh ⟨11, .data⟩ (by simp) rfl) (by rw [hlj]; simp))
      have F1 : Fm w v ((cpRow (lz 3) (lz 0) x.1 l1 ++ cpRow (lz 7) (lz 4) x.2.1 l2) ++ (oI (some ⟨x.2.2.1, 0, none⟩) 0 [] :: [oB b2 24 zpm, oB b1 24 (cpBox o e l1 l2 l3 (.slice B1 l1.length d1) (.slice B2 l2.length d2) (.slice B3 l3.length d3) x.1 x.2.1 x.2.2 false false false)])) ts := by simpa [cpRow, hlj, tl, l13, l15, l17] using hst
      obtain ⟨A2, c2, v2, hrun, F2⟩ := F1.appE B3 d3 l3 (H3.out.call F1.m) HL3.out
      refine wp_ran rfl (exec_append (o := { dst := some 14, op := .call { callee := .builtin .append, args := #[.tmp 11, .tmp 13], argTypes := #[22, 22] }, type := 22, pos := _, after := _, guard := none }) rfl (eval_tmp (hgot 8 _ 11 rfl (hdep ⟨8, .data⟩ (by simp) rfl) rfl)) (eval_tmp (hgot 10 _ 13 rfl (hdep ⟨10, .data⟩ (by simp) rfl) rfl)) hrun) (hK ⟨x.1, x.2.1, (x.2.2.1, A2, c2)⟩ _ _ (fun j' o' s' g1 g2 g3 => by
          have g4 : j' < 18 := (Array.getElem?_eq_some_iff.1 g1).1
          clear hpar hgot hdep hK
          obtain rfl | rfl | rfl | rfl | rfl | rfl | rfl | rfl | rfl | rfl | rfl | rfl | rfl | rfl | rfl | rfl | rfl | rfl : j' = 0 ∨ j' = 1 ∨ j' = 2 ∨ j' = 3 ∨ j' = 4 ∨ j' = 5 ∨ j' = 6 ∨ j' = 7 ∨ j' = 8 ∨ j' = 9 ∨ j' = 10 ∨ j' = 11 ∨ j' = 12 ∨ j' = 13 ∨ j' = 14 ∨ j' = 15 ∨ j' = 16 ∨ j' = 17 := by omega
          all_goals (cases g1; cases g3 <;> first | rfl | (rw [hlj] at g2; cases g2))) (fun s hs => by cases hs; rfl) ?_)
      simpa [cpRow, cpBox, tl, l13, l15, l17] using F2
    · exact wp_ran rfl (exec_fp24_2 rfl (eval_tmp ((hpar 1 rfl).trans rfl))) (hK x _ _ (fun _ _ _ _ _ _ => rfl) (fun s hs => by cases hs; rfl) (by simpa using hst))
    · have t3 : lz 3 = true := (hdep ⟨3, .data⟩ (by simp) rfl)
      have t7 : lz 7 = true := (hcl 11 _ rfl (hdep ⟨11, .chain⟩ (by simp) rfl) ⟨7, .chain⟩ (by simp) rfl)
      have t11 : lz 11 = true := (hdep ⟨11, .chain⟩ (by simp) rfl)
      have l15 : lz 15 = false := (by cases hh : lz 15 with | false => rfl | true => exact absurd (hcl 15 _ rfl hh ⟨13, .chain⟩ (by simp) rfl) (by rw [hlj]; simp))
      have l17 : lz 17 = false := (by cases hh : lz 17 with | false => rfl | true => exact absurd (hcl 17 _ rfl hh ⟨13, .phase⟩ (by simp) rfl) (by rw [hlj]; simp))
      have F1 : Fm w v [oI x.1.2.1 x.1.2.2 l1, oI x.2.1.2.1 x.2.1.2.2 l2, oI x.2.2.2.1 x.2.2.2.2 l3, oB b2 24 zpm, oB b1 24 (cpBox o e l1 l2 l3 (.slice B1 l1.length d1) (.slice B2 l2.length d2) (.slice B3 l3.length d3) x.1 x.2.1 x.2.2 false false false)] ts := by simpa [cpRow, hlj, t3, t7, t11, l15, l17] using hst
      refine wp_stored1 rfl rfl (eval_tmp (hgot 12 _ 15 rfl (hdep ⟨12, .data⟩ (by simp) rfl) rfl)) (eval_tmp (hgot 3 _ 6 rfl (hdep ⟨3, .data⟩ (by simp) rfl) rfl)) rfl one22 (F1.cellO 4 rfl 2 rfl) ((F1.blk 4 rfl).free 2) (hK x _ _ (fun _ _ _ _ _ _ => rfl) (fun s hs => by cases hs) ?_)
      have F2 : Fm w _ [oI x.1.2.1 x.1.2.2 l1, oI x.2.1.2.1 x.2.1.2.2 l2, oI x.2.2.2.1 x.2.2.2.2 l3, oB b2 24 zpm, oB b1 24 (cpBox o e l1 l2 l3 (.slice B1 l1.length d1) (.slice B2 l2.length d2) (.slice B3 l3.length d3) x.1 x.2.1 x.2.2 true false false)] ts := F1.setc 4 rfl 2 _
      simpa [cpRow, t3, t7, t11, l15, l17] using F2
    · exact wp_ran rfl (exec_fp24_3 rfl (eval_tmp ((hpar 1 rfl).trans rfl))) (hK x _ _ (fun _ _ _ _ _ _ => rfl) (fun s hs => by cases hs; rfl) (by simpa using hst))
    · have t3 : lz 3 = true := (hdep ⟨3, .phase⟩ (by simp) rfl)
      have t7 : lz 7 = true := (hdep ⟨7, .data⟩ (by simp) rfl)
      have t11 : lz 11 = true := (hcl 13 _ rfl (hcl 14 _ rfl (hdep ⟨14, .data⟩ (by simp) rfl) ⟨13, .phase⟩ (by simp) rfl) ⟨11, .chain⟩ (by simp) rfl)
      have t13 : lz 13 = true := (hdep ⟨13, .chain⟩ (by simp) rfl)
      have l17 : lz 17 = false := (by cases hh : lz 17 with | false => rfl | true => exact absurd (hcl 17 _ rfl hh ⟨15, .chain⟩ (by simp) rfl) (by rw [hlj]; simp))
      have F1 : Fm w v [oI x.1.2.1 x.1.2.2 l1, oI x.2.1.2.1 x.2.1.2.2 l2, oI x.2.2.2.1 x.2.2.2.2 l3, oB b2 24 zpm, oB b1 24 (cpBox o e l1 l2 l3 (.slice B1 l1.length d1) (.slice B2 l2.length d2) (.slice B3 l3.length d3) x.1 x.2.1 x.2.2 true false false)] ts := by simpa [cpRow, hlj, t3, t7, t11, t13, l17] using hst
      refine wp_stored1 rfl rfl (eval_tmp (hgot 14 _ 16 rfl (hdep ⟨14, .data⟩ (by simp) rfl) rfl)) (eval_tmp (hgot 7 _ 10 rfl (hdep ⟨7, .data⟩ (by simp) rfl) rfl)) rfl one22 (F1.cellO 4 rfl 3 rfl) ((F1.blk 4 rfl).free 3) (hK x _ _ (fun _ _ _ _ _ _ => rfl) (fun s hs => by cases hs) ?_)
      have F2 : Fm w _ [oI x.1.2.1 x.1.2.2 l1, oI x.2.1.2.1 x.2.1.2.2 l2, oI x.2.2.2.1 x.2.2.2.2 l3, oB b2 24 zpm, oB b1 24 (cpBox o e l1 l2 l3 (.slice B1 l1.length d1) (.slice B2 l2.length d2) (.slice B3 l3.length d3) x.1 x.2.1 x.2.2 true true false)] ts := F1.setc 4 rfl 3 _
      simpa [cpRow, t3, t7, t11, t13, l17] using F2
    · exact wp_ran rfl (exec_fp24_4 rfl (eval_tmp ((hpar 1 rfl).trans rfl))) (hK x _ _ (fun _ _ _ _ _ _ => rfl) (fun s hs => by cases hs; rfl) (by simpa using hst))
    · have t3 : lz 3 = true := (hdep ⟨3, .phase⟩ (by simp) rfl)
      have t7 : lz 7 = true := (hdep ⟨7, .phase⟩ (by simp) rfl)
      have t11 : lz 11 = true := (hdep ⟨11, .data⟩ (by simp) rfl)
      have t13 : lz 13 = true := (hdep ⟨13, .phase⟩ (by simp) rfl)
      have t15 : lz 15 = true := (hdep ⟨15, .chain⟩ (by simp) rfl)
      have F1 : Fm w v [oI x.1.2.1 x.1.2.2 l1, oI x.2.1.2.1 x.2.1.2.2 l2, oI x.2.2.2.1 x.2.2.2.2 l3, oB b2 24 zpm, oB b1 24 (cpBox o e l1 l2 l3 (.slice B1 l1.length d1) (.slice B2 l2.length d2) (.slice B3 l3.length d3) x.1 x.2.1 x.2.2 true true false)] ts := by simpa [cpRow, hlj, t3, t7, t11, t13, t15] using hst
      refine wp_stored1 rfl rfl (eval_tmp (hgot 16 _ 17 rfl (hdep ⟨16, .data⟩ (by simp) rfl) rfl)) (eval_tmp (hgot 11 _ 14 rfl (hdep ⟨11, .data⟩ (by simp) rfl) rfl)) rfl one22 (F1.cellO 4 rfl 4 rfl) ((F1.blk 4 rfl).free 4) (hK x _ _ (fun _ _ _ _ _ _ => rfl) (fun s hs => by cases hs) ?_)
      have F2 : Fm w _ [oI x.1.2.1 x.1.2.2 l1, oI x.2.1.2.1 x.2.1.2.2 l2, oI x.2.2.2.1 x.2.2.2.2 l3, oB b2 24 zpm, oB b1 24 (cpBox o e l1 l2 l3 (.slice B1 l1.length d1) (.slice B2 l2.length d2) (.slice B3 l3.length d3) x.1 x.2.1 x.2.2 true true true)] ts := F1.setc 4 rfl 4 _
      simpa [cpRow, t3, t7, t11, t13, t15] using F2
  intro x lz v hlz hst
  have F1 : Fm w v [oI x.1.2.1 x.1.2.2 l1, oI x.2.1.2.1 x.2.1.2.2 l2, oI x.2.2.2.1 x.2.2.2.2 l3, oB b2 24 zpm, oB b1 24 (pmc ⟨o, e, l1, l2, l3⟩ x.1.2.1 x.1.2.2 x.2.1.2.1 x.2.1.2.2 x.2.2.2.1 x.2.2.2.2)] ts := by
    rw [hlz 3 (by decide), hlz 7 (by decide), hlz 11 (by decide), hlz 13 (by decide), hlz 15 (by decide), hlz 17 (by decide)] at hst
    exact hst
  obtain ⟨⟨e1, A1, c1⟩, ⟨e2, A2, c2⟩, ⟨e3, A3, c3⟩⟩ := x
  simp only at F1
  clear hst hlz F9
  simp only [setAll, Act.put, List.foldl_cons, List.foldl_nil, List.setIfInBounds_toArray, List.set_cons_succ, List.set_cons_zero]
  obtain ⟨cs5, hcs5⟩ : ∃ cs, cs = pmc ⟨o, e, l1, l2, l3⟩ A1 c1 A2 c2 A3 c3 := ⟨_, rfl⟩
  rw [← hcs5] at F1
  have h5 : cs5.length = 5 := by rw [hcs5]; rfl
  have h1 : ∀ v ∈ cs5, v.oneCell' = true := by rw [hcs5]; exact ones5 _ _ _ _ _ _ _ _ _ _ _
  have HCS := Lib.hid hcs5
  clear hcs5
  go_wp2_with (first
    | (with_reducible refine fm_load F1 4 rfl (o := ⟨some 18, .load 24 (.tmp 1), _, _, _, _⟩) rfl (.tmp 1) rfl rfl h5 ?_)
    | (with_reducible refine fm_store F1 3 rfl (o := ⟨none, .store 24 (.tmp 2) (.tmp 18), _, _, _, _⟩) rfl (.tmp 2) (.tmp 18) rfl rfl cs5 rfl rfl h5 rfl h1 ?_; intro w6 F6))
  refine bodyPost_ret (results_cell1 rfl _ _ b2 _ rfl (F6.ret 3 rfl) h5) rfl ?_
  have F7 : Fm w w6 (oB b2 24 cs5 :: oI A1 c1 l1 :: oI A2 c2 l2 :: oI A3 c3 l3 :: [oB b1 24 cs5]) ts := Fm.perm F6 perm5b
  rw [HCS.out] at F7 ⊢
  exact ⟨_, rfl, told_fm (p := ⟨o, e, l1, l2, l3⟩) F7, F7.m⟩
end Go.Proofs.Ytaadmpainikfpaa
