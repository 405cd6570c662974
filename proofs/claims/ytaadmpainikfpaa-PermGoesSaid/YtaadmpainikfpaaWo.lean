/-
  changed: what a change makes of permissions, in memory of its own. My own work.
-/
import Derived.Test.YtaadmpainikfpaaWn
namespace Go.Proofs.Ytaadmpainikfpaa
open Go.RowKit Go.Shelf
attribute [local go_sem] Oper.semAt_some
set_option linter.unusedVariables false
set_option linter.unusedSimpArgs false
theorem wp_stored1 {v : World} {o : Oper} {ops : Array Oper} {T : Act} {Kq : Act → World → Prop} {Q : Exit → Act → World → Prop} {E : Prop} {ty : TypeId} {x y : Operand} {A : Addr} {u old : Value} (hg : o.guard = none) (ho : o.op = .store ty x y) (hx : T.eval x = .pointer (some A)) (hy : T.eval y = u) (h1 : u.oneCell' = true) (hs : (Try.prog.info? ty).map (·.size) = some 1) (hc : v.cell? A = some old) (hf : v.frozen? A = false)
    (hK : Kq (T.put o.dst undef) (v.setCell A u)) : if Region.wanted o (yielded ops T.tmps) = true then o.wp Try.prog T v Kq Q else E := by
  cases hq : Try.prog.info? ty with
  | none => rw [hq] at hs; cases hs
  | some it =>
    rw [hq] at hs
    exact wp_ran_skip hg (exec_store1 ho hx hy h1 hq (by simpa using hs) hc hf) hK
abbrev X3 := (Option Addr × Nat) × (Option Addr × Nat) × (Option Addr × Nat)
def stage (l2 l5 l8 l10 l12 l14 : Bool) : Nat := if l14 then 6 else if l12 then 5 else if l10 then 4 else if l8 then 3 else if l5 then 2 else if l2 then 1 else 0
def stOs (b4 b2 : Nat) (o e : Int) (l1 l2 l3 : List Int) (S1 S2 S3 : Value) (x : X3) : Nat → List Th
  | 0 => [oB b4 24 zpm, oB b2 24 [ci o, ci e, S1, S2, S3]]
  | 1 => [oI x.1.1 x.1.2 l1, oB b4 24 zpm, oB b2 24 [ci o, ci e, S1, S2, S3]]
  | 2 => [oI x.2.1.1 x.2.1.2 l2, oI x.1.1 x.1.2 l1, oB b4 24 zpm, oB b2 24 [ci o, ci e, S1, S2, S3]]
  | 3 => [oI x.2.2.1 x.2.2.2 l3, oI x.2.1.1 x.2.1.2 l2, oI x.1.1 x.1.2 l1, oB b4 24 zpm, oB b2 24 [ci o, ci e, S1, S2, S3]]
  | 4 => [oI x.2.2.1 x.2.2.2 l3, oI x.2.1.1 x.2.1.2 l2, oI x.1.1 x.1.2 l1, oB b4 24 zpm, oB b2 24 [ci o, ci e, .slice x.1.1 l1.length x.1.2, S2, S3]]
  | 5 => [oI x.2.2.1 x.2.2.2 l3, oI x.2.1.1 x.2.1.2 l2, oI x.1.1 x.1.2 l1, oB b4 24 zpm, oB b2 24 [ci o, ci e, .slice x.1.1 l1.length x.1.2, .slice x.2.1.1 l2.length x.2.1.2, S3]]
  | _ => [oI x.2.2.1 x.2.2.2 l3, oI x.2.1.1 x.2.1.2 l2, oI x.1.1 x.1.2 l1, oB b4 24 zpm, oB b2 24 [ci o, ci e, .slice x.1.1 l1.length x.1.2, .slice x.2.1.1 l2.length x.2.1.2, .slice x.2.2.1 l3.length x.2.2.2]]
theorem Fm.rowNew {w0 w v : World} {os ts : List Th} (F : Fm w0 w os ts) (m : Mod [] w v) {A : Option Addr} {c : Nat} {l : List Int} (hO : OI v A c l) (hb : ∀ a, A = some a → w.heap.size ≤ a.block) : Fm w0 v (oI A c l :: os) ts :=
  F.own m _ (keeps_oI _ _ _) hO fun g hg => by
    obtain ⟨a, ha, hae⟩ := mem_blk hg
    subst hae
    exact ⟨hb a ha, hO.lt a ha⟩
theorem Fm.cellO {w0 w : World} {os ts : List Th} (F : Fm w0 w os ts) (i : Nat) {b : Nat} {t : TypeId} {cs : List Value} (hi : os[i]? = some (oB b t cs)) (k : Nat) {V : Value} (hk : cs[k]? = some V) : w.cell? ⟨b, k, none⟩ = some V := ((F.blk i hi).cell k).trans hk
/-- Permissions of the call's own, told. -/
theorem told_fm {w0 w : World} {b : Nat} {p : Pm} {os ts : List Th} {A1 A2 A3 : Option Addr} {c1 c2 c3 : Nat} (F : Fm w0 w (oB b 24 (pmc p A1 c1 A2 c2 A3 c3) :: oI A1 c1 p.rd :: oI A2 c2 p.wr :: oI A3 c3 p.gp :: os) ts) : PIs w (Btw w0.heap.size w.heap.size) p (pmc p A1 c1 A2 c2 A3 c3) := by
  refine ⟨A1, c1, A2, c2, A3, c3, rfl, (F.row 1 rfl).ri _ rfl, (F.row 2 rfl).ri _ rfl, (F.row 3 rfl).ri _ rfl, fun a ha _ => ?_, fun a ha _ => ?_, fun a ha _ => ?_⟩
  · exact ⟨F.lo (oI A1 c1 p.rd) (by simp) a.block (by rw [ha]; exact blk_of), (F.row 1 rfl).lt a ha⟩
  · exact ⟨F.lo (oI A2 c2 p.wr) (by simp) a.block (by rw [ha]; exact blk_of), (F.row 2 rfl).lt a ha⟩
  · exact ⟨F.lo (oI A3 c3 p.gp) (by simp) a.block (by rw [ha]; exact blk_of), (F.row 3 rfl).lt a ha⟩

theorem perm5 {α : Type} {a b c d e : α} : [a, b, c, d, e].Perm [e, c, b, a, d] := by
  have h1 : [a, b, c, d, e].Perm (e :: [a, b, c, d]) := (List.perm_append_comm (l₁ := [a, b, c, d]) (l₂ := [e]))
  refine h1.trans (List.Perm.cons e ?_)
  exact ((List.Perm.swap b a [c, d]).trans ((List.Perm.swap c a [d]).cons b)).trans (List.Perm.swap c b [a, d])
set_option maxRecDepth 100000 in
set_option maxHeartbeats 8000000 in
theorem changed51_c {w : World} {S : Nat → Prop} {p : Pm} {cs : List Value} {ts : List Th} (h : PIs w S p cs) (F0 : Fm w w [] ts) (x0 x1 x2 : Value) (f : Pm → Int × Pm)
    (hC : ∀ v b os, PO w v b p os ts → p.Right → Calls Try.prog 51 #[.pointer (some ⟨b, 0, none⟩), x0, x1, x2] v (ClR (f p) w b os ts)) (hz : (f p).1 ≠ 0 → (f p).2 = zp) :
    Calls Try.prog 48 #[.agg cs.toArray, .func (.func 51) #[] #[x0, x1, x2]] w (ResR (if p.rightB then f p else (210, zp)) w) := by
  obtain ⟨B1, d1, B2, d2, B3, d3, rfl, h⟩ := h
  obtain ⟨o, e, l1, l2, l3⟩ := p
  have H1 := Lib.hid h.rr
  have H2 := Lib.hid h.ww
  have H3 := Lib.hid h.gg
  have HPI : Hid (PIs w S ⟨o, e, l1, l2, l3⟩ (pmc ⟨o, e, l1, l2, l3⟩ B1 d1 B2 d2 B3 d3)) := Lib.hid ⟨B1, d1, B2, d2, B3, d3, rfl, h⟩
  clear h
  simp only [pmc] at HPI H1 H2 H3 ⊢
  obtain ⟨rb, hrb⟩ : ∃ x, (Pm.mk o e l1 l2 l3).rightB = x := ⟨_, rfl⟩
  rw [hrb]
  have HB := Lib.hid hrb
  cases rb
  · rw [if_neg (by simp)]
    clear hC hz hrb
    go_enter Try.func48, Try.ntmps48
    go_wp2_with (first
      | (with_reducible refine fm_box F0 (o := ⟨some 2, .box 24 (.tmp 0), _, _, _, _⟩) rfl 24 (.tmp 0) rfl [ci o, ci e, .slice B1 l1.length d1, .slice B2 l2.length d2, .slice B3 l3.length d3] rfl ?_; intro b2 w1 F1; clear F0)
      | (with_reducible refine fm_alloc F1 (o := ⟨some 4, .alloc 24, _, _, _, _⟩) rfl 24 rfl _ zero24 ?_; intro b4 w2 F2; clear F1)
      | (with_reducible refine fm_load F2 1 rfl (o := ⟨some 8, .load 24 (.tmp 2), _, _, _, _⟩) rfl (.tmp 2) rfl rfl rfl ?_)
      | (go_at_call 15; refine (check_p (HPI.out.call F2.m) _ HB).mono ?_
         rintro r w3 ⟨rfl, m3⟩
         have F3 := F2.call m3
         clear F2 m3)
      | (with_reducible refine fm_store F3 0 rfl (o := ⟨none, .store 24 (.tmp 4) (.tmp 12), _, _, _, _⟩) rfl (.tmp 4) (.tmp 12) rfl rfl zpm rfl rfl rfl rfl (PIs.one (PIs.zero w (fun _ => True))) ?_; intro w4 F4; clear F3))
    refine bodyPost_ret (results_ct rfl _ _ b4 _ (.int .i64 210) rfl rfl (F4.ret 0 rfl) rfl) rfl ?_
    exact ⟨zpm, rfl, PIs.zero _ _, F4.m⟩
  rw [if_pos rfl]
  have hright := (Pm.right_iff _).1 hrb
  have HL1 := Lib.hid (hright.r.len (by omega))
  have HL2 := Lib.hid (hright.w.len (by omega))
  have HL3 := Lib.hid (hright.g.len (by omega))
  simp only at HL1 HL2 HL3
  obtain ⟨r, hr⟩ : ∃ r, f ⟨o, e, l1, l2, l3⟩ = r := ⟨_, rfl⟩
  rw [hr] at hC hz ⊢
  have HZ := Lib.hid hz
  have HC : Hid (∀ v b os, PO w v b ⟨o, e, l1, l2, l3⟩ os ts → Calls Try.prog 51 #[.pointer (some ⟨b, 0, none⟩), x0, x1, x2] v (ClR r w b os ts)) := Lib.hid fun v b os k => hC v b os k hright
  clear hC hrb hright hr hz
  go_enter Try.func48, Try.ntmps48
  go_wp2_with (first
    | (with_reducible refine fm_box F0 (o := ⟨some 2, .box 24 (.tmp 0), _, _, _, _⟩) rfl 24 (.tmp 0) rfl [ci o, ci e, .slice B1 l1.length d1, .slice B2 l2.length d2, .slice B3 l3.length d3] rfl ?_; intro b2 w1 F1; clear F0)
    | (with_reducible refine fm_alloc F1 (o := ⟨some 4, .alloc 24, _, _, _, _⟩) rfl 24 rfl _ zero24 ?_; intro b4 w2 F2; clear F1)
    | (with_reducible refine fm_load F2 1 rfl (o := ⟨some 8, .load 24 (.tmp 2), _, _, _, _⟩) rfl (.tmp 2) rfl rfl rfl ?_)
    | (go_at_call 15; refine (check_p (HPI.out.call F2.m) _ HB).mono ?_
       rintro r w3 ⟨rfl, m3⟩
       have F3 := F2.call m3
       clear F2 m3))
  refine wp_region_upx (X := X3) (⟨(none, 0), (none, 0), (none, 0)⟩) (fun x => [(14, .pointer (some ⟨b2, 2, none⟩)), (15, .slice B1 l1.length d1), (16, .slice x.1.1 l1.length x.1.2), (17, .pointer (some ⟨b2, 3, none⟩)), (18, .slice B2 l2.length d2), (19, .slice x.2.1.1 l2.length x.2.1.2), (20, .pointer (some ⟨b2, 4, none⟩)), (21, .slice B3 l3.length d3), (22, .slice x.2.2.1 l3.length x.2.2.2), (23, .pointer (some ⟨b2, 2, none⟩)), (24, .pointer (some ⟨b2, 3, none⟩)), (25, .pointer (some ⟨b2, 4, none⟩))]) 33 [14, 15, 16, 17, 18, 19, 20, 21, 22, 23, 24, 25] rfl (fun _ => rfl) (by decide) (by kernel_rfl) (fun x lz v => Fm w v (stOs b4 b2 o e l1 l2 l3 (.slice B1 l1.length d1) (.slice B2 l2.length d2) (.slice B3 l3.length d3) x (stage (lz 2) (lz 5) (lz 8) (lz 10) (lz 12) (lz 14))) ts) (by kernel_rfl) (F3.call (Mod.drew [] _)) (by kernel_rfl) (by kernel_rfl) ?_ ?_
  · skip
    intro x lz T v j o hj hlj hdep hst hpar hgot hcl Kq hK
    have hjn : j < 15 := (Array.getElem?_eq_some_iff.1 hj).1
    obtain rfl | rfl | rfl | rfl | rfl | rfl | rfl | rfl | rfl | rfl | rfl | rfl | rfl | rfl | rfl : j = 0 ∨ j = 1 ∨ j = 2 ∨ j = 3 ∨ j = 4 ∨ j = 5 ∨ j = 6 ∨ j = 7 ∨ j = 8 ∨ j = 9 ∨ j = 10 ∨ j = 11 ∨ j = 12 ∨ j = 13 ∨ j = 14 := by omega
    all_goals (have hj' := Option.some.inj (hj : some _ = some o); subst hj'; clear hj)
    · exact wp_ran rfl (exec_fp24_2 rfl (eval_tmp ((hpar 2 rfl).trans rfl))) (hK x _ _ (fun _ _ _ _ _ _ => rfl) (fun s hs => by cases hs; rfl) (by simpa using hst))
    · have l10 : lz 10 = false := (by cases hh : lz 10 with | false => rfl | true => exact absurd (hcl 10 _ rfl hh ⟨1, .phase⟩ (by simp) rfl) (by rw [hlj]; simp))
      have l12 : lz 12 = false := (by cases hh : lz 12 with | false => rfl | true => exact absurd (hcl 12 _ rfl hh ⟨1, .phase⟩ (by simp) rfl) (by rw [hlj]; simp))
      have l14 : lz 14 = false := (by cases hh : lz 14 with | false => rfl | true => exact absurd (hcl 14 _ rfl hh ⟨1, .phase⟩ (by simp) rfl) (by rw [hlj]; simp))
      have kc : v.cell? ⟨b2, 2, none⟩ = some (.slice B1 l1.length d1) := by
        have hst2 := hst
        rw [l10, l12, l14] at hst2
        cases h2 : lz 2 <;> cases h5 : lz 5 <;> cases h8 : lz 8 <;> rw [h2, h5, h8] at hst2 <;> first
          | exact hst2.cellO 1 rfl 2 rfl
          | exact hst2.cellO 2 rfl 2 rfl
          | exact hst2.cellO 3 rfl 2 rfl
          | exact hst2.cellO 4 rfl 2 rfl
      exact wp_ran rfl (exec_load rfl (eval_tmp (hgot 0 _ 14 rfl (hdep ⟨0, .data⟩ (by simp) rfl) rfl)) (run_load1 Try.underlying22 rfl kc)) (hK x _ _ (fun _ _ _ _ _ _ => rfl) (fun s hs => by cases hs; rfl) (by simpa using hst))
    · have l5 : lz 5 = false := (by cases hh : lz 5 with | false => rfl | true => exact absurd (hcl 5 _ rfl hh ⟨2, .chain⟩ (by simp) rfl) (by rw [hlj]; simp))
      have l8 : lz 8 = false := (by cases hh : lz 8 with | false => rfl | true => exact absurd (hcl 5 _ rfl (hcl 8 _ rfl hh ⟨5, .chain⟩ (by simp) rfl) ⟨2, .chain⟩ (by simp) rfl) (by rw [hlj]; simp))
      have l10 : lz 10 = false := (by cases hh : lz 10 with | false => rfl | true => exact absurd (hcl 10 _ rfl hh ⟨2, .data⟩ (by simp) rfl) (by rw [hlj]; simp))
      have l12 : lz 12 = false := (by cases hh : lz 12 with | false => rfl | true => exact absurd (hcl 12 _ rfl hh ⟨2, .phase⟩ (by simp) rfl) (by rw [hlj]; simp))
      have l14 : lz 14 = false := (by cases hh : lz 14 with | false => rfl | true => exact absurd (hcl 14 _ rfl hh ⟨2, .phase⟩ (by simp) rfl) (by rw [hlj]; simp))
      have hst2 : Fm w v (stOs b4 b2 o e l1 l2 l3 (.slice B1 l1.length d1) (.slice B2 l2.length d2) (.slice B3 l3.length d3) x 0) ts := by simpa [stage, hlj, l5, l8, l10, l12, l14] using hst
      refine wp_called rfl (exec_call1 rfl rfl (eval_tmp (hgot 1 _ 15 rfl (hdep ⟨1, .data⟩ (by simp) rfl) rfl)) (enters_of Try.func55 (by kernel_rfl) rfl)) ((copied_c B1 l1.length d1 l1 v (H1.out.call hst2.m) (by have := HL1.out; omega)).mono ?_)
      rintro r v' ⟨A2, c2, rfl, hO, m, hb⟩
      refine ⟨_, rfl, hK ⟨(A2, c2), x.2⟩ _ _ (fun j' o' s' g1 g2 g3 => by
          have g4 : j' < 15 := (Array.getElem?_eq_some_iff.1 g1).1
          clear hpar hgot hdep hK
          obtain rfl | rfl | rfl | rfl | rfl | rfl | rfl | rfl | rfl | rfl | rfl | rfl | rfl | rfl | rfl : j' = 0 ∨ j' = 1 ∨ j' = 2 ∨ j' = 3 ∨ j' = 4 ∨ j' = 5 ∨ j' = 6 ∨ j' = 7 ∨ j' = 8 ∨ j' = 9 ∨ j' = 10 ∨ j' = 11 ∨ j' = 12 ∨ j' = 13 ∨ j' = 14 := by omega
          all_goals (cases g1; cases g3 <;> first | rfl | (rw [hlj] at g2; cases g2))) (fun s hs => by cases hs; rfl) ?_⟩
      have F2 : Fm w v' (stOs b4 b2 o e l1 l2 l3 (.slice B1 l1.length d1) (.slice B2 l2.length d2) (.slice B3 l3.length d3) ⟨(A2, c2), x.2⟩ 1) ts := hst2.rowNew m hO hb
      simpa [stage, l5, l8, l10, l12, l14] using F2
    · exact wp_ran rfl (exec_fp24_3 rfl (eval_tmp ((hpar 2 rfl).trans rfl))) (hK x _ _ (fun _ _ _ _ _ _ => rfl) (fun s hs => by cases hs; rfl) (by simpa using hst))
    · have l10 : lz 10 = false := (by cases hh : lz 10 with | false => rfl | true => exact absurd (hcl 10 _ rfl hh ⟨4, .phase⟩ (by simp) rfl) (by rw [hlj]; simp))
      have l12 : lz 12 = false := (by cases hh : lz 12 with | false => rfl | true => exact absurd (hcl 12 _ rfl hh ⟨4, .phase⟩ (by simp) rfl) (by rw [hlj]; simp))
      have l14 : lz 14 = false := (by cases hh : lz 14 with | false => rfl | true => exact absurd (hcl 14 _ rfl hh ⟨4, .phase⟩ (by simp) rfl) (by rw [hlj]; simp))
      have kc : v.cell? ⟨b2, 3, none⟩ = some (.slice B2 l2.length d2) := by
        have hst2 := hst
        rw [l10, l12, l14] at hst2
        cases h2 : lz 2 <;> cases h5 : lz 5 <;> cases h8 : lz 8 <;> rw [h2, h5, h8] at hst2 <;> first
          | exact hst2.cellO 1 rfl 3 rfl
          | exact hst2.cellO 2 rfl 3 rfl
          | exact hst2.cellO 3 rfl 3 rfl
          | exact hst2.cellO 4 rfl 3 rfl
      exact wp_ran rfl (exec_load rfl (eval_tmp (hgot 3 _ 17 rfl (hdep ⟨3, .data⟩ (by simp) rfl) rfl)) (run_load1 Try.underlying22 rfl kc)) (hK x _ _ (fun _ _ _ _ _ _ => rfl) (fun s hs => by cases hs; rfl) (by simpa using hst))
    · have t2 : lz 2 = true := (hdep ⟨2, .chain⟩ (by simp) rfl)
      have l8 : lz 8 = false := (by cases hh : lz 8 with | false => rfl | true => exact absurd (hcl 8 _ rfl hh ⟨5, .chain⟩ (by simp) rfl) (by rw [hlj]; simp))
      have l10 : lz 10 = false := (by cases hh : lz 10 with | false => rfl | true => exact absurd (hcl 10 _ rfl hh ⟨5, .phase⟩ (by simp) rfl) (by rw [hlj]; simp))
      have l12 : lz 12 = false := (by cases hh : lz 12 with | false => rfl | true => exact absurd (hcl 12 _ rfl hh ⟨5, .data⟩ (by simp) rfl) (by rw [hlj]; simp))
      have l14 : lz 14 = false := (by cases hh : lz 14 with | false => rfl | true => exact absurd (hcl 14 _ rfl hh ⟨5, .phase⟩ (by simp) rfl) (by rw [hlj]; simp))
      have hst2 : Fm w v (stOs b4 b2 o e l1 l2 l3 (.slice B1 l1.length d1) (.slice B2 l2.length d2) (.slice B3 l3.length d3) x 1) ts := by simpa [stage, hlj, t2, l8, l10, l12, l14] using hst
      refine wp_called rfl (exec_call1 rfl rfl (eval_tmp (hgot 4 _ 18 rfl (hdep ⟨4, .data⟩ (by simp) rfl) rfl)) (enters_of Try.func55 (by kernel_rfl) rfl)) ((copied_c B2 l2.length d2 l2 v (H2.out.call hst2.m) (by have := HL2.out; omega)).mono ?_)
      rintro r v' ⟨A2, c2, rfl, hO, m, hb⟩
      refine ⟨_, rfl, hK ⟨x.1, (A2, c2), x.2.2⟩ _ _ (fun j' o' s' g1 g2 g3 => by
          have g4 : j' < 15 := (Array.getElem?_eq_some_iff.1 g1).1
          clear hpar hgot hdep hK
          obtain rfl | rfl | rfl | rfl | rfl | rfl | rfl | rfl | rfl | rfl | rfl | rfl | rfl | rfl | rfl : j' = 0 ∨ j' = 1 ∨ j' = 2 ∨ j' = 3 ∨ j' = 4 ∨ j' = 5 ∨ j' = 6 ∨ j' = 7 ∨ j' = 8 ∨ j' = 9 ∨ j' = 10 ∨ j' = 11 ∨ j' = 12 ∨ j' = 13 ∨ j' = 14 := by omega
          all_goals (cases g1; cases g3 <;> first | rfl | (rw [hlj] at g2; cases g2))) (fun s hs => by cases hs; rfl) ?_⟩
      have F2 : Fm w v' (stOs b4 b2 o e l1 l2 l3 (.slice B1 l1.length d1) (.slice B2 l2.length d2) (.slice B3 l3.length d3) ⟨x.1, (A2, c2), x.2.2⟩ 2) ts := hst2.rowNew m hO hb
      simpa [stage, t2, l8, l10, l12, l14] using F2
    · exact wp_ran rfl (exec_fp24_4 rfl (eval_tmp ((hpar 2 rfl).trans rfl))) (hK x _ _ (fun _ _ _ _ _ _ => rfl) (fun s hs => by cases hs; rfl) (by simpa using hst))
    · have l10 : lz 10 = false := (by cases hh : lz 10 with | false => rfl | true => exact absurd (hcl 10 _ rfl hh ⟨7, .phase⟩ (by simp) rfl) (by rw [hlj]; simp))
      have l12 : lz 12 = false := (by cases hh : lz 12 with | false => rfl | true => exact absurd (hcl 12 _ rfl hh ⟨7, .phase⟩ (by simp) rfl) (by rw [hlj]; simp))
      have l14 : lz 14 = false := (by cases hh : lz 14 with | false => rfl | true => exact absurd (hcl 14 _ rfl hh ⟨7, .phase⟩ (by simp) rfl) (by rw [hlj]; simp))
      have kc : v.cell? ⟨b2, 4, none⟩ = some (.slice B3 l3.length d3) := by
        have hst2 := hst
        rw [l10, l12, l14] at hst2
        cases h2 : lz 2 <;> cases h5 : lz 5 <;> cases h8 : lz 8 <;> rw [h2, h5, h8] at hst2 <;> first
          | exact hst2.cellO 1 rfl 4 rfl
          | exact hst2.cellO 2 rfl 4 rfl
          | exact hst2.cellO 3 rfl 4 rfl
          | exact hst2.cellO 4 rfl 4 rfl
      exact wp_ran rfl (exec_load rfl (eval_tmp (hgot 6 _ 20 rfl (hdep ⟨6, .data⟩ (by simp) rfl) rfl)) (run_load1 Try.underlying22 rfl kc)) (hK x _ _ (fun _ _ _ _ _ _ => rfl) (fun s hs => by cases hs; rfl) (by simpa using hst))
    · have t2 : lz 2 = true := (hcl 5 _ rfl (hdep ⟨5, .chain⟩ (by simp) rfl) ⟨2, .chain⟩ (by simp) rfl)
      have t5 : lz 5 = true := (hdep ⟨5, .chain⟩ (by simp) rfl)
      have l10 : lz 10 = false := (by cases hh : lz 10 with | false => rfl | true => exact absurd (hcl 10 _ rfl hh ⟨8, .chain⟩ (by simp) rfl) (by rw [hlj]; simp))
      have l12 : lz 12 = false := (by cases hh : lz 12 with | false => rfl | true => exact absurd (hcl 12 _ rfl hh ⟨8, .phase⟩ (by simp) rfl) (by rw [hlj]; simp))
      have l14 : lz 14 = false := (by cases hh : lz 14 with | false => rfl | true => exact absurd (hcl 14 _ rfl hh ⟨8, .data⟩ (by simp) rfl) (by rw [hlj]; simp))
      have hst2 : Fm w v (stOs b4 b2 o e l1 l2 l3 (.slice B1 l1.length d1) (.slice B2 l2.length d2) (.slice B3 l3.length d3) x 2) ts := by simpa [stage, hlj, t2, t5, l10, l12, l14] using hst
      refine wp_called rfl (exec_call1 rfl rfl (eval_tmp (hgot 7 _ 21 rfl (hdep ⟨7, .data⟩ (by simp) rfl) rfl)) (enters_of Try.func55 (by kernel_rfl) rfl)) ((copied_c B3 l3.length d3 l3 v (H3.out.call hst2.m) (by have := HL3.out; omega)).mono ?_)
      rintro r v' ⟨A2, c2, rfl, hO, m, hb⟩
      refine ⟨_, rfl, hK ⟨x.1, x.2.1, (A2, c2)⟩ _ _ (fun j' o' s' g1 g2 g3 => by
          have g4 : j' < 15 := (Array.getElem?_eq_some_iff.1 g1).1
          clear hpar hgot hdep hK
          obtain rfl | rfl | rfl | rfl | rfl | rfl | rfl | rfl | rfl | rfl | rfl | rfl | rfl | rfl | rfl : j' = 0 ∨ j' = 1 ∨ j' = 2 ∨ j' = 3 ∨ j' = 4 ∨ j' = 5 ∨ j' = 6 ∨ j' = 7 ∨ j' = 8 ∨ j' = 9 ∨ j' = 10 ∨ j' = 11 ∨ j' = 12 ∨ j' = 13 ∨ j' = 14 := by omega
          all_goals (cases g1; cases g3 <;> first | rfl | (rw [hlj] at g2; cases g2))) (fun s hs => by cases hs; rfl) ?_⟩
      have F2 : Fm w v' (stOs b4 b2 o e l1 l2 l3 (.slice B1 l1.length d1) (.slice B2 l2.length d2) (.slice B3 l3.length d3) ⟨x.1, x.2.1, (A2, c2)⟩ 3) ts := hst2.rowNew m hO hb
      simpa [stage, t2, t5, l10, l12, l14] using F2
    · exact wp_ran rfl (exec_fp24_2 rfl (eval_tmp ((hpar 2 rfl).trans rfl))) (hK x _ _ (fun _ _ _ _ _ _ => rfl) (fun s hs => by cases hs; rfl) (by simpa using hst))
    · have t2 : lz 2 = true := (hdep ⟨2, .data⟩ (by simp) rfl)
      have t5 : lz 5 = true := (hdep ⟨5, .phase⟩ (by simp) rfl)
      have t8 : lz 8 = true := (hdep ⟨8, .chain⟩ (by simp) rfl)
      have l12 : lz 12 = false := (by cases hh : lz 12 with | false => rfl | true => exact absurd (hcl 12 _ rfl hh ⟨10, .chain⟩ (by simp) rfl) (by rw [hlj]; simp))
      have l14 : lz 14 = false := (by cases hh : lz 14 with | false => rfl | true => exact absurd (hcl 14 _ rfl hh ⟨10, .phase⟩ (by simp) rfl) (by rw [hlj]; simp))
      have hst2 : Fm w v (stOs b4 b2 o e l1 l2 l3 (.slice B1 l1.length d1) (.slice B2 l2.length d2) (.slice B3 l3.length d3) x 3) ts := by simpa [stage, hlj, t2, t5, t8, l12, l14] using hst
      refine wp_stored1 rfl rfl (eval_tmp (hgot 9 _ 23 rfl (hdep ⟨9, .data⟩ (by simp) rfl) rfl)) (eval_tmp (hgot 2 _ 16 rfl (hdep ⟨2, .data⟩ (by simp) rfl) rfl)) rfl one22 (hst2.cellO 4 rfl 2 rfl) ((hst2.blk 4 rfl).free 2) (hK x _ _ (fun _ _ _ _ _ _ => rfl) (fun s hs => by cases hs) ?_)
      have F2 : Fm w _ (stOs b4 b2 o e l1 l2 l3 (.slice B1 l1.length d1) (.slice B2 l2.length d2) (.slice B3 l3.length d3) x 4) ts := hst2.setc 4 rfl 2 _
      simpa [stage, t2, t5, t8, l12, l14] using F2
    · exact wp_ran rfl (exec_fp24_3 rfl (eval_tmp ((hpar 2 rfl).trans rfl))) (hK x _ _ (fun _ _ _ _ _ _ => rfl) (fun s hs => by cases hs; rfl) (by simpa using hst))
    · have t2 : lz 2 = true := (hdep ⟨2, .phase⟩ (by simp) rfl)
      have t5 : lz 5 = true := (hdep ⟨5, .data⟩ (by simp) rfl)
      have t8 : lz 8 = true := (hdep ⟨8, .phase⟩ (by simp) rfl)
      have t10 : lz 10 = true := (hdep ⟨10, .chain⟩ (by simp) rfl)
      have l14 : lz 14 = false := (by cases hh : lz 14 with | false => rfl | true => exact absurd (hcl 14 _ rfl hh ⟨12, .chain⟩ (by simp) rfl) (by rw [hlj]; simp))
      have hst2 : Fm w v (stOs b4 b2 o e l1 l2 l3 (.slice B1 l1.length d1) (.slice B2 l2.length d2) (.slice B3 l3.length d3) x 4) ts := by simpa [stage, hlj, t2, t5, t8, t10, l14] using hst
      refine wp_stored1 rfl rfl (eval_tmp (hgot 11 _ 24 rfl (hdep ⟨11, .data⟩ (by simp) rfl) rfl)) (eval_tmp (hgot 5 _ 19 rfl (hdep ⟨5, .data⟩ (by simp) rfl) rfl)) rfl one22 (hst2.cellO 4 rfl 3 rfl) ((hst2.blk 4 rfl).free 3) (hK x _ _ (fun _ _ _ _ _ _ => rfl) (fun s hs => by cases hs) ?_)
      have F2 : Fm w _ (stOs b4 b2 o e l1 l2 l3 (.slice B1 l1.length d1) (.slice B2 l2.length d2) (.slice B3 l3.length d3) x 5) ts := hst2.setc 4 rfl 3 _
      simpa [stage, t2, t5, t8, t10, l14] using F2
    · exact wp_ran rfl (exec_fp24_4 rfl (eval_tmp ((hpar 2 rfl).trans rfl))) (hK x _ _ (fun _ _ _ _ _ _ => rfl) (fun s hs => by cases hs; rfl) (by simpa using hst))
    · have t2 : lz 2 = true := (hdep ⟨2, .phase⟩ (by simp) rfl)
      have t5 : lz 5 = true := (hdep ⟨5, .phase⟩ (by simp) rfl)
      have t8 : lz 8 = true := (hdep ⟨8, .data⟩ (by simp) rfl)
      have t10 : lz 10 = true := (hdep ⟨10, .phase⟩ (by simp) rfl)
      have t12 : lz 12 = true := (hdep ⟨12, .chain⟩ (by simp) rfl)
      have hst2 : Fm w v (stOs b4 b2 o e l1 l2 l3 (.slice B1 l1.length d1) (.slice B2 l2.length d2) (.slice B3 l3.length d3) x 5) ts := by simpa [stage, hlj, t2, t5, t8, t10, t12] using hst
      refine wp_stored1 rfl rfl (eval_tmp (hgot 13 _ 25 rfl (hdep ⟨13, .data⟩ (by simp) rfl) rfl)) (eval_tmp (hgot 8 _ 22 rfl (hdep ⟨8, .data⟩ (by simp) rfl) rfl)) rfl one22 (hst2.cellO 4 rfl 4 rfl) ((hst2.blk 4 rfl).free 4) (hK x _ _ (fun _ _ _ _ _ _ => rfl) (fun s hs => by cases hs) ?_)
      have F2 : Fm w _ (stOs b4 b2 o e l1 l2 l3 (.slice B1 l1.length d1) (.slice B2 l2.length d2) (.slice B3 l3.length d3) x 6) ts := hst2.setc 4 rfl 4 _
      simpa [stage, t2, t5, t8, t10, t12] using F2
  intro x lz v hlz hst
  rw [hlz 2 (by decide), hlz 5 (by decide), hlz 8 (by decide), hlz 10 (by decide), hlz 12 (by decide), hlz 14 (by decide)] at hst
  obtain ⟨⟨A1, c1⟩, ⟨A2, c2⟩, ⟨A3, c3⟩⟩ := x
  have hPO : PO w v b2 ⟨o, e, l1, l2, l3⟩ [oB b4 24 zpm] ts := ⟨A1, c1, A2, c2, A3, c3, Fm.perm hst perm5⟩
  clear hst hlz F3
  simp only [setAll, Act.put, List.foldl_cons, List.foldl_nil, List.setIfInBounds_toArray, List.set_cons_succ, List.set_cons_zero]
  obtain ⟨r1, r2⟩ := r
  have CC := HC.out v b2 _ hPO
  by_cases hr1 : r1 = 0
  · subst hr1
    go_wp2_with (first
      | (go_at_call 51; refine CC.mono ?_
         rintro ee w5 ⟨rfl, k1, k2⟩
         obtain ⟨A1, c1, A2, c2, A3, c3, FX⟩ : PO w w5 b2 r2 [oB b4 24 zpm] ts := k1 rfl
         obtain ⟨cs5, hcs5⟩ : ∃ cs, cs = pmc r2 A1 c1 A2 c2 A3 c3 := ⟨_, rfl⟩
         rw [← hcs5] at FX
         have h5 : cs5.length = 5 := by rw [hcs5]; rfl
         have h1 : ∀ v ∈ cs5, v.oneCell' = true := by
           rw [hcs5]
           intro v hv
           simp only [pmc, List.mem_cons, List.not_mem_nil, or_false] at hv
           rcases hv with rfl | rfl | rfl | rfl | rfl <;> rfl
         have HCS := Lib.hid hcs5
         clear CC k1 k2 hcs5)
      | (with_reducible refine fm_load FX 0 rfl (o := ⟨some 32, .load 24 (.tmp 2), _, _, _, _⟩) rfl (.tmp 2) rfl rfl h5 ?_)
      | (with_reducible refine fm_store FX 4 rfl (o := ⟨none, .store 24 (.tmp 4) (.tmp 32), _, _, _, _⟩) rfl (.tmp 4) (.tmp 32) rfl rfl cs5 rfl rfl h5 rfl h1 ?_; intro w6 F6))
    refine bodyPost_ret (results_ct rfl _ _ b4 _ (.int .i64 0) rfl rfl (F6.ret 4 rfl) h5) rfl ?_
    have F7 : Fm w w6 (oB b2 24 cs5 :: oI A1 c1 r2.rd :: oI A2 c2 r2.wr :: oI A3 c3 r2.gp :: [oB b4 24 cs5]) ts := F6
    rw [HCS.out] at F7 ⊢
    exact ⟨_, rfl, told_fm F7, F7.m⟩
  · have e1 : (r1 == 0) = false := beq_eq_false_iff_ne.2 hr1
    have e2 : (r1 != 0) = true := by simp [hr1]
    obtain rfl : r2 = zp := HZ.out hr1
    clear hr1
    go_wp2_with (first
      | (go_at_call 51; refine CC.mono ?_
         rintro ee w5 ⟨rfl, k1, k2⟩
         clear CC k1)
      | (with_reducible refine fm_store k2 0 rfl (o := ⟨none, .store 24 (.tmp 4) (.tmp 30), _, _, _, _⟩) rfl (.tmp 4) (.tmp 30) rfl rfl zpm rfl rfl rfl rfl (PIs.one (PIs.zero w (fun _ => True))) ?_; intro w6 F6; clear k2))
    refine bodyPost_ret (results_ct rfl _ _ b4 _ (.int .i64 r1) rfl rfl (F6.ret 0 rfl) rfl) rfl ?_
    exact ⟨zpm, rfl, PIs.zero _ _, F6.m⟩
set_option maxRecDepth 100000 in
set_option maxHeartbeats 8000000 in
theorem changed44_c {w : World} {S : Nat → Prop} {p : Pm} {cs : List Value} {ts : List Th} (h : PIs w S p cs) (F0 : Fm w w [] ts) (f : Pm → Int × Pm)
    (hC : ∀ v b os, PO w v b p os ts → p.Right → Calls Try.prog 44 #[.pointer (some ⟨b, 0, none⟩)] v (ClR (f p) w b os ts)) (hz : (f p).1 ≠ 0 → (f p).2 = zp) :
    Calls Try.prog 48 #[.agg cs.toArray, .func (.func 44) #[] #[]] w (ResR (if p.rightB then f p else (210, zp)) w) := by
  obtain ⟨B1, d1, B2, d2, B3, d3, rfl, h⟩ := h
  obtain ⟨o, e, l1, l2, l3⟩ := p
  have H1 := Lib.hid h.rr
  have H2 := Lib.hid h.ww
  have H3 := Lib.hid h.gg
  have HPI : Hid (PIs w S ⟨o, e, l1, l2, l3⟩ (pmc ⟨o, e, l1, l2, l3⟩ B1 d1 B2 d2 B3 d3)) := Lib.hid ⟨B1, d1, B2, d2, B3, d3, rfl, h⟩
  clear h
  simp only [pmc] at HPI H1 H2 H3 ⊢
  obtain ⟨rb, hrb⟩ : ∃ x, (Pm.mk o e l1 l2 l3).rightB = x := ⟨_, rfl⟩
  rw [hrb]
  have HB := Lib.hid hrb
  cases rb
  · rw [if_neg (by simp)]
    clear hC hz hrb
    go_enter Try.func48, Try.ntmps48
    go_wp2_with (first
      | (with_reducible refine fm_box F0 (o := ⟨some 2, .box 24 (.tmp 0), _, _, _, _⟩) rfl 24 (.tmp 0) rfl [ci o, ci e, .slice B1 l1.length d1, .slice B2 l2.length d2, .slice B3 l3.length d3] rfl ?_; intro b2 w1 F1; clear F0)
      | (with_reducible refine fm_alloc F1 (o := ⟨some 4, .alloc 24, _, _, _, _⟩) rfl 24 rfl _ zero24 ?_; intro b4 w2 F2; clear F1)
      | (with_reducible refine fm_load F2 1 rfl (o := ⟨some 8, .load 24 (.tmp 2), _, _, _, _⟩) rfl (.tmp 2) rfl rfl rfl ?_)
      | (go_at_call 15; refine (check_p (HPI.out.call F2.m) _ HB).mono ?_
         rintro r w3 ⟨rfl, m3⟩
         have F3 := F2.call m3
         clear F2 m3)
      | (with_reducible refine fm_store F3 0 rfl (o := ⟨none, .store 24 (.tmp 4) (.tmp 12), _, _, _, _⟩) rfl (.tmp 4) (.tmp 12) rfl rfl zpm rfl rfl rfl rfl (PIs.one (PIs.zero w (fun _ => True))) ?_; intro w4 F4; clear F3))
    refine bodyPost_ret (results_ct rfl _ _ b4 _ (.int .i64 210) rfl rfl (F4.ret 0 rfl) rfl) rfl ?_
    exact ⟨zpm, rfl, PIs.zero _ _, F4.m⟩
  rw [if_pos rfl]
  have hright := (Pm.right_iff _).1 hrb
  have HL1 := Lib.hid (hright.r.len (by omega))
  have HL2 := Lib.hid (hright.w.len (by omega))
  have HL3 := Lib.hid (hright.g.len (by omega))
  simp only at HL1 HL2 HL3
  obtain ⟨r, hr⟩ : ∃ r, f ⟨o, e, l1, l2, l3⟩ = r := ⟨_, rfl⟩
  rw [hr] at hC hz ⊢
  have HZ := Lib.hid hz
  have HC : Hid (∀ v b os, PO w v b ⟨o, e, l1, l2, l3⟩ os ts → Calls Try.prog 44 #[.pointer (some ⟨b, 0, none⟩)] v (ClR r w b os ts)) := Lib.hid fun v b os k => hC v b os k hright
  clear hC hrb hright hr hz
  go_enter Try.func48, Try.ntmps48
  go_wp2_with (first
    | (with_reducible refine fm_box F0 (o := ⟨some 2, .box 24 (.tmp 0), _, _, _, _⟩) rfl 24 (.tmp 0) rfl [ci o, ci e, .slice B1 l1.length d1, .slice B2 l2.length d2, .slice B3 l3.length d3] rfl ?_; intro b2 w1 F1; clear F0)
    | (with_reducible refine fm_alloc F1 (o := ⟨some 4, .alloc 24, _, _, _, _⟩) rfl 24 rfl _ zero24 ?_; intro b4 w2 F2; clear F1)
    | (with_reducible refine fm_load F2 1 rfl (o := ⟨some 8, .load 24 (.tmp 2), _, _, _, _⟩) rfl (.tmp 2) rfl rfl rfl ?_)
    | (go_at_call 15; refine (check_p (HPI.out.call F2.m) _ HB).mono ?_
       rintro r w3 ⟨rfl, m3⟩
       have F3 := F2.call m3
       clear F2 m3))
  refine wp_region_upx (X := X3) (⟨(none, 0), (none, 0), (none, 0)⟩) (fun x => [(14, .pointer (some ⟨b2, 2, none⟩)), (15, .slice B1 l1.length d1), (16, .slice x.1.1 l1.length x.1.2), (17, .pointer (some ⟨b2, 3, none⟩)), (18, .slice B2 l2.length d2), (19, .slice x.2.1.1 l2.length x.2.1.2), (20, .pointer (some ⟨b2, 4, none⟩)), (21, .slice B3 l3.length d3), (22, .slice x.2.2.1 l3.length x.2.2.2), (23, .pointer (some ⟨b2, 2, none⟩)), (24, .pointer (some ⟨b2, 3, none⟩)), (25, .pointer (some ⟨b2, 4, none⟩))]) 33 [14, 15, 16, 17, 18, 19, 20, 21, 22, 23, 24, 25] rfl (fun _ => rfl) (by decide) (by kernel_rfl) (fun x lz v => Fm w v (stOs b4 b2 o e l1 l2 l3 (.slice B1 l1.length d1) (.slice B2 l2.length d2) (.slice B3 l3.length d3) x (stage (lz 2) (lz 5) (lz 8) (lz 10) (lz 12) (lz 14))) ts) (by kernel_rfl) (F3.call (Mod.drew [] _)) (by kernel_rfl) (by kernel_rfl) ?_ ?_
  · skip
    intro x lz T v j o hj hlj hdep hst hpar hgot hcl Kq hK
    have hjn : j < 15 := (Array.getElem?_eq_some_iff.1 hj).1
    obtain rfl | rfl | rfl | rfl | rfl | rfl | rfl | rfl | rfl | rfl | rfl | rfl | rfl | rfl | rfl : j = 0 ∨ j = 1 ∨ j = 2 ∨ j = 3 ∨ j = 4 ∨ j = 5 ∨ j = 6 ∨ j = 7 ∨ j = 8 ∨ j = 9 ∨ j = 10 ∨ j = 11 ∨ j = 12 ∨ j = 13 ∨ j = 14 := by omega
    all_goals (have hj' := Option.some.inj (hj : some _ = some o); subst hj'; clear hj)
    · exact wp_ran rfl (exec_fp24_2 rfl (eval_tmp ((hpar 2 rfl).trans rfl))) (hK x _ _ (fun _ _ _ _ _ _ => rfl) (fun s hs => by cases hs; rfl) (by simpa using hst))
    · have l10 : lz 10 = false := (by cases hh : lz 10 with | false => rfl | true => exact absurd (hcl 10 _ rfl hh ⟨1, .phase⟩ (by simp) rfl) (by rw [hlj]; simp))
      have l12 : lz 12 = false := (by cases hh : lz 12 with | false => rfl | true => exact absurd (hcl 12 _ rfl hh ⟨1, .phase⟩ (by simp) rfl) (by rw [hlj]; simp))
      have l14 : lz 14 = false := (by cases hh : lz 14 with | false => rfl | true => exact absurd (hcl 14 _ rfl hh ⟨1, .phase⟩ (by simp) rfl) (by rw [hlj]; simp))
      have kc : v.cell? ⟨b2, 2, none⟩ = some (.slice B1 l1.length d1) := by
        have hst2 := hst
        rw [l10, l12, l14] at hst2
        cases h2 : lz 2 <;> cases h5 : lz 5 <;> cases h8 : lz 8 <;> rw [h2, h5, h8] at hst2 <;> first
          | exact hst2.cellO 1 rfl 2 rfl
          | exact hst2.cellO 2 rfl 2 rfl
          | exact hst2.cellO 3 rfl 2 rfl
          | exact hst2.cellO 4 rfl 2 rfl
      exact wp_ran rfl (exec_load rfl (eval_tmp (hgot 0 _ 14 rfl (hdep ⟨0, .data⟩ (by simp) rfl) rfl)) (run_load1 Try.underlying22 rfl kc)) (hK x _ _ (fun _ _ _ _ _ _ => rfl) (fun s hs => by cases hs; rfl) (by simpa using hst))
    · have l5 : lz 5 = false := (by cases hh : lz 5 with | false => rfl | true => exact absurd (hcl 5 _ rfl hh ⟨2, .chain⟩ (by simp) rfl) (by rw [hlj]; simp))
      have l8 : lz 8 = false := (by cases hh : lz 8 with | false => rfl | true => exact absurd (hcl 5 _ rfl (hcl 8 _ rfl hh ⟨5, .chain⟩ (by simp) rfl) ⟨2, .chain⟩ (by simp) rfl) (by rw [hlj]; simp))
      have l10 : lz 10 = false := (by cases hh : lz 10 with | false => rfl | true => exact absurd (hcl 10 _ rfl hh ⟨2, .data⟩ (by simp) rfl) (by rw [hlj]; simp))
      have l12 : lz 12 = false := (by cases hh : lz 12 with | false => rfl | true => exact absurd (hcl 12 _ rfl hh ⟨2, .phase⟩ (by simp) rfl) (by rw [hlj]; simp))
      have l14 : lz 14 = false := (by cases hh : lz 14 with | false => rfl | true => exact absurd (hcl 14 _ rfl hh ⟨2, .phase⟩ (by simp) rfl) (by rw [hlj]; simp))
      have hst2 : Fm w v (stOs b4 b2 o e l1 l2 l3 (.slice B1 l1.length d1) (.slice B2 l2.length d2) (.slice B3 l3.length d3) x 0) ts := by simpa [stage, hlj, l5, l8, l10, l12, l14] using hst
      refine wp_called rfl (exec_call1 rfl rfl (eval_tmp (hgot 1 _ 15 rfl (hdep ⟨1, .data⟩ (by simp) rfl) rfl)) (enters_of Try.func55 (by kernel_rfl) rfl)) ((copied_c B1 l1.length d1 l1 v (H1.out.call hst2.m) (by have := HL1.out; omega)).mono ?_)
      rintro r v' ⟨A2, c2, rfl, hO, m, hb⟩
      refine ⟨_, rfl, hK ⟨(A2, c2), x.2⟩ _ _ (fun j' o' s' g1 g2 g3 => by
          have g4 : j' < 15 := (Array.getElem?_eq_some_iff.1 g1).1
          clear hpar hgot hdep hK
          obtain rfl | rfl | rfl | rfl | rfl | rfl | rfl | rfl | rfl | rfl | rfl | rfl | rfl | rfl | rfl : j' = 0 ∨ j' = 1 ∨ j' = 2 ∨ j' = 3 ∨ j' = 4 ∨ j' = 5 ∨ j' = 6 ∨ j' = 7 ∨ j' = 8 ∨ j' = 9 ∨ j' = 10 ∨ j' = 11 ∨ j' = 12 ∨ j' = 13 ∨ j' = 14 := by omega
          all_goals (cases g1; cases g3 <;> first | rfl | (rw [hlj] at g2; cases g2))) (fun s hs => by cases hs; rfl) ?_⟩
      have F2 : Fm w v' (stOs b4 b2 o e l1 l2 l3 (.slice B1 l1.length d1) (.slice B2 l2.length d2) (.slice B3 l3.length d3) ⟨(A2, c2), x.2⟩ 1) ts := hst2.rowNew m hO hb
      simpa [stage, l5, l8, l10, l12, l14] using F2
    · exact wp_ran rfl (exec_fp24_3 rfl (eval_tmp ((hpar 2 rfl).trans rfl))) (hK x _ _ (fun _ _ _ _ _ _ => rfl) (fun s hs => by cases hs; rfl) (by simpa using hst))
    · have l10 : lz 10 = false := (by cases hh : lz 10 with | false => rfl | true => exact absurd (hcl 10 _ rfl hh ⟨4, .phase⟩ (by simp) rfl) (by rw [hlj]; simp))
      have l12 : lz 12 = false := (by cases hh : lz 12 with | false => rfl | true => exact absurd (hcl 12 _ rfl hh ⟨4, .phase⟩ (by simp) rfl) (by rw [hlj]; simp))
      have l14 : lz 14 = false := (by cases hh : lz 14 with | false => rfl | true => exact absurd (hcl 14 _ rfl hh ⟨4, .phase⟩ (by simp) rfl) (by rw [hlj]; simp))
      have kc : v.cell? ⟨b2, 3, none⟩ = some (.slice B2 l2.length d2) := by
        have hst2 := hst
        rw [l10, l12, l14] at hst2
        cases h2 : lz 2 <;> cases h5 : lz 5 <;> cases h8 : lz 8 <;> rw [h2, h5, h8] at hst2 <;> first
          | exact hst2.cellO 1 rfl 3 rfl
          | exact hst2.cellO 2 rfl 3 rfl
          | exact hst2.cellO 3 rfl 3 rfl
          | exact hst2.cellO 4 rfl 3 rfl
      exact wp_ran rfl (exec_load rfl (eval_tmp (hgot 3 _ 17 rfl (hdep ⟨3, .data⟩ (by simp) rfl) rfl)) (run_load1 Try.underlying22 rfl kc)) (hK x _ _ (fun _ _ _ _ _ _ => rfl) (fun s hs => by cases hs; rfl) (by simpa using hst))
    · have t2 : lz 2 = true := (hdep ⟨2, .chain⟩ (by simp) rfl)
      have l8 : lz 8 = false := (by cases hh : lz 8 with | false => rfl | true => exact absurd (hcl 8 _ rfl hh ⟨5, .chain⟩ (by simp) rfl) (by rw [hlj]; simp))
      have l10 : lz 10 = false := (by cases hh : lz 10 with | false => rfl | true => exact absurd (hcl 10 _ rfl hh ⟨5, .phase⟩ (by simp) rfl) (by rw [hlj]; simp))
      have l12 : lz 12 = false := (by cases hh : lz 12 with | false => rfl | true => exact absurd (hcl 12 _ rfl hh ⟨5, .data⟩ (by simp) rfl) (by rw [hlj]; simp))
      have l14 : lz 14 = false := (by cases hh : lz 14 with | false => rfl | true => exact absurd (hcl 14 _ rfl hh ⟨5, .phase⟩ (by simp) rfl) (by rw [hlj]; simp))
      have hst2 : Fm w v (stOs b4 b2 o e l1 l2 l3 (.slice B1 l1.length d1) (.slice B2 l2.length d2) (.slice B3 l3.length d3) x 1) ts := by simpa [stage, hlj, t2, l8, l10, l12, l14] using hst
      refine wp_called rfl (exec_call1 rfl rfl (eval_tmp (hgot 4 _ 18 rfl (hdep ⟨4, .data⟩ (by simp) rfl) rfl)) (enters_of Try.func55 (by kernel_rfl) rfl)) ((copied_c B2 l2.length d2 l2 v (H2.out.call hst2.m) (by have := HL2.out; omega)).mono ?_)
      rintro r v' ⟨A2, c2, rfl, hO, m, hb⟩
      refine ⟨_, rfl, hK ⟨x.1, (A2, c2), x.2.2⟩ _ _ (fun j' o' s' g1 g2 g3 => by
          have g4 : j' < 15 := (Array.getElem?_eq_some_iff.1 g1).1
          clear hpar hgot hdep hK
          obtain rfl | rfl | rfl | rfl | rfl | rfl | rfl | rfl | rfl | rfl | rfl | rfl | rfl | rfl | rfl : j' = 0 ∨ j' = 1 ∨ j' = 2 ∨ j' = 3 ∨ j' = 4 ∨ j' = 5 ∨ j' = 6 ∨ j' = 7 ∨ j' = 8 ∨ j' = 9 ∨ j' = 10 ∨ j' = 11 ∨ j' = 12 ∨ j' = 13 ∨ j' = 14 := by omega
          all_goals (cases g1; cases g3 <;> first | rfl | (rw [hlj] at g2; cases g2))) (fun s hs => by cases hs; rfl) ?_⟩
      have F2 : Fm w v' (stOs b4 b2 o e l1 l2 l3 (.slice B1 l1.length d1) (.slice B2 l2.length d2) (.slice B3 l3.length d3) ⟨x.1, (A2, c2), x.2.2⟩ 2) ts := hst2.rowNew m hO hb
      simpa [stage, t2, l8, l10, l12, l14] using F2
    · exact wp_ran rfl (exec_fp24_4 rfl (eval_tmp ((hpar 2 rfl).trans rfl))) (hK x _ _ (fun _ _ _ _ _ _ => rfl) (fun s hs => by cases hs; rfl) (by simpa using hst))
    · have l10 : lz 10 = false := (by cases hh : lz 10 with | false => rfl | true => exact absurd (hcl 10 _ rfl hh ⟨7, .phase⟩ (by simp) rfl) (by rw [hlj]; simp))
      have l12 : lz 12 = false := (by cases hh : lz 12 with | false => rfl | true => exact absurd (hcl 12 _ rfl hh ⟨7, .phase⟩ (by simp) rfl) (by rw [hlj]; simp))
      have l14 : lz 14 = false := (by cases hh : lz 14 with | false => rfl | true => exact absurd (hcl 14 _ rfl hh ⟨7, .phase⟩ (by simp) rfl) (by rw [hlj]; simp))
      have kc : v.cell? ⟨b2, 4, none⟩ = some (.slice B3 l3.length d3) := by
        have hst2 := hst
        rw [l10, l12, l14] at hst2
        cases h2 : lz 2 <;> cases h5 : lz 5 <;> cases h8 : lz 8 <;> rw [h2, h5, h8] at hst2 <;> first
          | exact hst2.cellO 1 rfl 4 rfl
          | exact hst2.cellO 2 rfl 4 rfl
          | exact hst2.cellO 3 rfl 4 rfl
          | exact hst2.cellO 4 rfl 4 rfl
      exact wp_ran rfl (exec_load rfl (eval_tmp (hgot 6 _ 20 rfl (hdep ⟨6, .data⟩ (by simp) rfl) rfl)) (run_load1 Try.underlying22 rfl kc)) (hK x _ _ (fun _ _ _ _ _ _ => rfl) (fun s hs => by cases hs; rfl) (by simpa using hst))
    · have t2 : lz 2 = true := (hcl 5 _ rfl (hdep ⟨5, .chain⟩ (by simp) rfl) ⟨2, .chain⟩ (by simp) rfl)
      have t5 : lz 5 = true := (hdep ⟨5, .chain⟩ (by simp) rfl)
      have l10 : lz 10 = false := (by cases hh : lz 10 with | false => rfl | true => exact absurd (hcl 10 _ rfl hh ⟨8, .chain⟩ (by simp) rfl) (by rw [hlj]; simp))
      have l12 : lz 12 = false := (by cases hh : lz 12 with | false => rfl | true => exact absurd (hcl 12 _ rfl hh ⟨8, .phase⟩ (by simp) rfl) (by rw [hlj]; simp))
      have l14 : lz 14 = false := (by cases hh : lz 14 with | false => rfl | true => exact absurd (hcl 14 _ rfl hh ⟨8, .data⟩ (by simp) rfl) (by rw [hlj]; simp))
      have hst2 : Fm w v (stOs b4 b2 o e l1 l2 l3 (.slice B1 l1.length d1) (.slice B2 l2.length d2) (.slice B3 l3.length d3) x 2) ts := by simpa [stage, hlj, t2, t5, l10, l12, l14] using hst
      refine wp_called rfl (exec_call1 rfl rfl (eval_tmp (hgot 7 _ 21 rfl (hdep ⟨7, .data⟩ (by simp) rfl) rfl)) (enters_of Try.func55 (by kernel_rfl) rfl)) ((copied_c B3 l3.length d3 l3 v (H3.out.call hst2.m) (by have := HL3.out; omega)).mono ?_)
      rintro r v' ⟨A2, c2, rfl, hO, m, hb⟩
      refine ⟨_, rfl, hK ⟨x.1, x.2.1, (A2, c2)⟩ _ _ (fun j' o' s' g1 g2 g3 => by
          have g4 : j' < 15 := (Array.getElem?_eq_some_iff.1 g1).1
          clear hpar hgot hdep hK
          obtain rfl | rfl | rfl | rfl | rfl | rfl | rfl | rfl | rfl | rfl | rfl | rfl | rfl | rfl | rfl : j' = 0 ∨ j' = 1 ∨ j' = 2 ∨ j' = 3 ∨ j' = 4 ∨ j' = 5 ∨ j' = 6 ∨ j' = 7 ∨ j' = 8 ∨ j' = 9 ∨ j' = 10 ∨ j' = 11 ∨ j' = 12 ∨ j' = 13 ∨ j' = 14 := by omega
          all_goals (cases g1; cases g3 <;> first | rfl | (rw [hlj] at g2; cases g2))) (fun s hs => by cases hs; rfl) ?_⟩
      have F2 : Fm w v' (stOs b4 b2 o e l1 l2 l3 (.slice B1 l1.length d1) (.slice B2 l2.length d2) (.slice B3 l3.length d3) ⟨x.1, x.2.1, (A2, c2)⟩ 3) ts := hst2.rowNew m hO hb
      simpa [stage, t2, t5, l10, l12, l14] using F2
    · exact wp_ran rfl (exec_fp24_2 rfl (eval_tmp ((hpar 2 rfl).trans rfl))) (hK x _ _ (fun _ _ _ _ _ _ => rfl) (fun s hs => by cases hs; rfl) (by simpa using hst))
    · have t2 : lz 2 = true := (hdep ⟨2, .data⟩ (by simp) rfl)
      have t5 : lz 5 = true := (hdep ⟨5, .phase⟩ (by simp) rfl)
      have t8 : lz 8 = true := (hdep ⟨8, .chain⟩ (by simp) rfl)
      have l12 : lz 12 = false := (by cases hh : lz 12 with | false => rfl | true => exact absurd (hcl 12 _ rfl hh ⟨10, .chain⟩ (by simp) rfl) (by rw [hlj]; simp))
      have l14 : lz 14 = false := (by cases hh : lz 14 with | false => rfl | true => exact absurd (hcl 14 _ rfl hh ⟨10, .phase⟩ (by simp) rfl) (by rw [hlj]; simp))
      have hst2 : Fm w v (stOs b4 b2 o e l1 l2 l3 (.slice B1 l1.length d1) (.slice B2 l2.length d2) (.slice B3 l3.length d3) x 3) ts := by simpa [stage, hlj, t2, t5, t8, l12, l14] using hst
      refine wp_stored1 rfl rfl (eval_tmp (hgot 9 _ 23 rfl (hdep ⟨9, .data⟩ (by simp) rfl) rfl)) (eval_tmp (hgot 2 _ 16 rfl (hdep ⟨2, .data⟩ (by simp) rfl) rfl)) rfl one22 (hst2.cellO 4 rfl 2 rfl) ((hst2.blk 4 rfl).free 2) (hK x _ _ (fun _ _ _ _ _ _ => rfl) (fun s hs => by cases hs) ?_)
      have F2 : Fm w _ (stOs b4 b2 o e l1 l2 l3 (.slice B1 l1.length d1) (.slice B2 l2.length d2) (.slice B3 l3.length d3) x 4) ts := hst2.setc 4 rfl 2 _
      simpa [stage, t2, t5, t8, l12, l14] using F2
    · exact wp_ran rfl (exec_fp24_3 rfl (eval_tmp ((hpar 2 rfl).trans rfl))) (hK x _ _ (fun _ _ _ _ _ _ => rfl) (fun s hs => by cases hs; rfl) (by simpa using hst))
    · have t2 : lz 2 = true := (hdep ⟨2, .phase⟩ (by simp) rfl)
      have t5 : lz 5 = true := (hdep ⟨5, .data⟩ (by simp) rfl)
      have t8 : lz 8 = true := (hdep ⟨8, .phase⟩ (by simp) rfl)
      have t10 : lz 10 = true := (hdep ⟨10, .chain⟩ (by simp) rfl)
      have l14 : lz 14 = false := (by cases hh : lz 14 with | false => rfl | true => exact absurd (hcl 14 _ rfl hh ⟨12, .chain⟩ (by simp) rfl) (by rw [hlj]; simp))
      have hst2 : Fm w v (stOs b4 b2 o e l1 l2 l3 (.slice B1 l1.length d1) (.slice B2 l2.length d2) (.slice B3 l3.length d3) x 4) ts := by simpa [stage, hlj, t2, t5, t8, t10, l14] using hst
      refine wp_stored1 rfl rfl (eval_tmp (hgot 11 _ 24 rfl (hdep ⟨11, .data⟩ (by simp) rfl) rfl)) (eval_tmp (hgot 5 _ 19 rfl (hdep ⟨5, .data⟩ (by simp) rfl) rfl)) rfl one22 (hst2.cellO 4 rfl 3 rfl) ((hst2.blk 4 rfl).free 3) (hK x _ _ (fun _ _ _ _ _ _ => rfl) (fun s hs => by cases hs) ?_)
      have F2 : Fm w _ (stOs b4 b2 o e l1 l2 l3 (.slice B1 l1.length d1) (.slice B2 l2.length d2) (.slice B3 l3.length d3) x 5) ts := hst2.setc 4 rfl 3 _
      simpa [stage, t2, t5, t8, t10, l14] using F2
    · exact wp_ran rfl (exec_fp24_4 rfl (eval_tmp ((hpar 2 rfl).trans rfl))) (hK x _ _ (fun _ _ _ _ _ _ => rfl) (fun s hs => by cases hs; rfl) (by simpa using hst))
    · have t2 : lz 2 = true := (hdep ⟨2, .phase⟩ (by simp) rfl)
      have t5 : lz 5 = true := (hdep ⟨5, .phase⟩ (by simp) rfl)
      have t8 : lz 8 = true := (hdep ⟨8, .data⟩ (by simp) rfl)
      have t10 : lz 10 = true := (hdep ⟨10, .phase⟩ (by simp) rfl)
      have t12 : lz 12 = true := (hdep ⟨12, .chain⟩ (by simp) rfl)
      have hst2 : Fm w v (stOs b4 b2 o e l1 l2 l3 (.slice B1 l1.length d1) (.slice B2 l2.length d2) (.slice B3 l3.length d3) x 5) ts := by simpa [stage, hlj, t2, t5, t8, t10, t12] using hst
      refine wp_stored1 rfl rfl (eval_tmp (hgot 13 _ 25 rfl (hdep ⟨13, .data⟩ (by simp) rfl) rfl)) (eval_tmp (hgot 8 _ 22 rfl (hdep ⟨8, .data⟩ (by simp) rfl) rfl)) rfl one22 (hst2.cellO 4 rfl 4 rfl) ((hst2.blk 4 rfl).free 4) (hK x _ _ (fun _ _ _ _ _ _ => rfl) (fun s hs => by cases hs) ?_)
      have F2 : Fm w _ (stOs b4 b2 o e l1 l2 l3 (.slice B1 l1.length d1) (.slice B2 l2.length d2) (.slice B3 l3.length d3) x 6) ts := hst2.setc 4 rfl 4 _
      simpa [stage, t2, t5, t8, t10, t12] using F2
  intro x lz v hlz hst
  rw [hlz 2 (by decide), hlz 5 (by decide), hlz 8 (by decide), hlz 10 (by decide), hlz 12 (by decide), hlz 14 (by decide)] at hst
  obtain ⟨⟨A1, c1⟩, ⟨A2, c2⟩, ⟨A3, c3⟩⟩ := x
  have hPO : PO w v b2 ⟨o, e, l1, l2, l3⟩ [oB b4 24 zpm] ts := ⟨A1, c1, A2, c2, A3, c3, Fm.perm hst perm5⟩
  clear hst hlz F3
  simp only [setAll, Act.put, List.foldl_cons, List.foldl_nil, List.setIfInBounds_toArray, List.set_cons_succ, List.set_cons_zero]
  obtain ⟨r1, r2⟩ := r
  have CC := HC.out v b2 _ hPO
  by_cases hr1 : r1 = 0
  · subst hr1
    go_wp2_with (first
      | (go_at_call 44; refine CC.mono ?_
         rintro ee w5 ⟨rfl, k1, k2⟩
         obtain ⟨A1, c1, A2, c2, A3, c3, FX⟩ : PO w w5 b2 r2 [oB b4 24 zpm] ts := k1 rfl
         obtain ⟨cs5, hcs5⟩ : ∃ cs, cs = pmc r2 A1 c1 A2 c2 A3 c3 := ⟨_, rfl⟩
         rw [← hcs5] at FX
         have h5 : cs5.length = 5 := by rw [hcs5]; rfl
         have h1 : ∀ v ∈ cs5, v.oneCell' = true := by
           rw [hcs5]
           intro v hv
           simp only [pmc, List.mem_cons, List.not_mem_nil, or_false] at hv
           rcases hv with rfl | rfl | rfl | rfl | rfl <;> rfl
         have HCS := Lib.hid hcs5
         clear CC k1 k2 hcs5)
      | (with_reducible refine fm_load FX 0 rfl (o := ⟨some 32, .load 24 (.tmp 2), _, _, _, _⟩) rfl (.tmp 2) rfl rfl h5 ?_)
      | (with_reducible refine fm_store FX 4 rfl (o := ⟨none, .store 24 (.tmp 4) (.tmp 32), _, _, _, _⟩) rfl (.tmp 4) (.tmp 32) rfl rfl cs5 rfl rfl h5 rfl h1 ?_; intro w6 F6))
    refine bodyPost_ret (results_ct rfl _ _ b4 _ (.int .i64 0) rfl rfl (F6.ret 4 rfl) h5) rfl ?_
    have F7 : Fm w w6 (oB b2 24 cs5 :: oI A1 c1 r2.rd :: oI A2 c2 r2.wr :: oI A3 c3 r2.gp :: [oB b4 24 cs5]) ts := F6
    rw [HCS.out] at F7 ⊢
    exact ⟨_, rfl, told_fm F7, F7.m⟩
  · have e1 : (r1 == 0) = false := beq_eq_false_iff_ne.2 hr1
    have e2 : (r1 != 0) = true := by simp [hr1]
    obtain rfl : r2 = zp := HZ.out hr1
    clear hr1
    go_wp2_with (first
      | (go_at_call 44; refine CC.mono ?_
         rintro ee w5 ⟨rfl, k1, k2⟩
         clear CC k1)
      | (with_reducible refine fm_store k2 0 rfl (o := ⟨none, .store 24 (.tmp 4) (.tmp 30), _, _, _, _⟩) rfl (.tmp 4) (.tmp 30) rfl rfl zpm rfl rfl rfl rfl (PIs.one (PIs.zero w (fun _ => True))) ?_; intro w6 F6; clear k2))
    refine bodyPost_ret (results_ct rfl _ _ b4 _ (.int .i64 r1) rfl rfl (F6.ret 0 rfl) rfl) rfl ?_
    exact ⟨zpm, rfl, PIs.zero _ _, F6.m⟩
end Go.Proofs.Ytaadmpainikfpaa
