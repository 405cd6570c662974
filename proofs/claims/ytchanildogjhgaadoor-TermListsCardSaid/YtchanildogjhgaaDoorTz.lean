/-
  The closure that is put off by first. My own work.
-/
import Derived.Test.YtchanildogjhgaaDoorTy
import Derived.Defers
import Derived.Recover
namespace Go.Proofs.YtchanildogjhgaaDoor
open Go.RowKit Go.Shelf
set_option linter.unusedVariables false
set_option linter.unusedSimpArgs false
theorem catch_idle (A B : Value) (w : World) : CallsD Tryd.prog 97 #[A, B] .returning w fun e u' w' => e = .returned (.tuple #[]) ∧ u' = .returning ∧ w' = w := by
  refine callsD_of_wpS Tryd.func97 rfl fun c₀ cs hu => ?_
  apply wpS_seq
  apply wpS_region
  simp [wpOpsS, go_sem, recoverD, hu, Tryd.ntmps97, Exit.thenS]
  apply wpS_seq
  apply wpS_region
  simp [wpOpsS, go_sem, recoverD, hu, Tryd.ntmps97, Exit.thenS]
  refine wpS_cond (t := false) (by simp [Act.eval, Array.replicate]) ?_
  simp only [Bool.false_eq_true, if_false]
  refine wpS_of_wp (_root_.Go.wp_skip ?_)
  cases c₀
  simp_all [bodyPostS, results, Tryd.results97]
theorem info28 : (Tryd.prog.info? 43).map (·.size) = some 1 := by kernel_rfl
theorem exec_ta28 {v : World} {o : Oper} {ρ : Operand → Value} {x : Operand} {V : Value} (ho : o.op = .typeAssert x 20 43 false) (hx : ρ x = .iface 43 V) : (execOp ρ o).run Tryd.prog v = .ok (.value V) v := by
  unfold execOp
  simp [ho, hx, go_sem, Instr.typeAssert, run_underlying Tryd.underlying43]
set_option maxRecDepth 100000 in
set_option maxHeartbeats 1000000 in
theorem catch_p (g2 g3 : Nat) (er : Int) (older : List PanicEntry) (old : Value) (w : World) (h2 : Holds w g2 24 (tmc 0 0 0 ⟨#[]⟩ none 0 0)) (h3 : Holds w g3 43 [old]) (hn : g2 ≠ g3) :
    CallsD Tryd.prog 97 #[.pointer (some ⟨g2, 0, none⟩), .pointer (some ⟨g3, 0, none⟩)] (.panicking ({ v := .iface 43 (.int .i64 er), recovered := false } :: older)) w fun e u' w' =>
      e = .returned (.tuple #[]) ∧ u' = .panicking ({ v := .iface 43 (.int .i64 er), recovered := true } :: older) ∧ Holds w' g2 24 (tmc 0 0 0 ⟨#[]⟩ none 0 0) ∧ Holds w' g3 43 [.int .i64 er] ∧ Mod [g2, g3] w w' := by
  obtain ⟨i28, info28', i28z⟩ : ∃ it, Tryd.prog.info? 43 = some it ∧ it.size = 1 := by
    have h := info28
    cases hq : Tryd.prog.info? 43 with
    | none => rw [hq] at h; cases h
    | some it => rw [hq] at h; exact ⟨it, rfl, by simpa using h⟩
  refine callsD_of_wpS Tryd.func97 rfl fun c₀ cs hu => ?_
  apply wpS_seq
  apply wpS_region
  simp [wpOpsS, go_sem, recoverD, hu, Tryd.ntmps97, Exit.thenS]
  apply wpS_seq
  apply wpS_region
  simp [wpOpsS, go_sem, recoverD, hu, Tryd.ntmps97, Exit.thenS]
  refine wpS_cond (t := true) (by simp [Act.eval, Array.replicate]) ?_
  simp only [if_true]
  refine wpS_of_wp ?_
  change Code.wp Tryd.prog _ _ ⟨#[.pointer (some ⟨g2, 0, none⟩), .pointer (some ⟨g3, 0, none⟩), .iface 43 (.int .i64 er), .iface 43 (.int .i64 er), .iface 43 (.int .i64 er), .bool true, undef, undef, undef], []⟩ w
  refine wp_region_ups [(6, .agg (tmc 0 0 0 ⟨#[]⟩ none 0 0).toArray), (7, .iface 43 (.int .i64 er)), (8, .int .i64 er)] 9 [6, 7, 8] rfl rfl (by decide) (by kernel_rfl) (fun lz v => ∃ c3, Holds v g2 24 (tmc 0 0 0 ⟨#[]⟩ none 0 0) ∧ Holds v g3 43 [c3] ∧ Mod [g2, g3] w v ∧ (lz 4 = true → c3 = .int .i64 er)) (by kernel_rfl) ⟨old, h2.keep (Mod.drew [] w) (by simp), h3.keep (Mod.drew [] w) (by simp), Mod.drew _ w, fun h => by cases h⟩ (by kernel_rfl) (by kernel_rfl) ?step ?fin
  case step =>
    intro lz T v j o hj hlj hdep hst hpar hgot hcl Kq hK
    have hjn : j < 5 := (Array.getElem?_eq_some_iff.1 hj).1
    obtain rfl | rfl | rfl | rfl | rfl : j = 0 ∨ j = 1 ∨ j = 2 ∨ j = 3 ∨ j = 4 := by omega
    all_goals (have hj' := Option.some.inj (hj : some _ = some o); subst hj'; clear hj)
    · exact wp_ran rfl (exec_bF rfl) (hK _ _ (fun s hs => by cases hs; rfl) (by simpa using hst))
    · exact wp_ran rfl (exec_move rfl (eval_tmp ((hpar 2 rfl).trans rfl))) (hK _ _ (fun s hs => by cases hs; rfl) (by simpa using hst))
    · exact wp_ran rfl (exec_ta28 rfl (eval_tmp (hgot 1 _ 7 rfl (hdep ⟨1, .data⟩ (by simp) rfl) rfl))) (hK _ _ (fun s hs => by cases hs; rfl) (by simpa using hst))
    · obtain ⟨c3, q1, q2, q3, q4⟩ := hst
      refine wp_stored rfl rfl (eval_tmp ((hpar 0 rfl).trans rfl)) (eval_tmp (hgot 0 _ 6 rfl (hdep ⟨0, .data⟩ (by simp) rfl) rfl)) rfl q1 rfl (tmc_one _ _ _ _ _ _ _) (size24t _ _ _ _ _ _ _) (fun v' r1 r2 => hK undef _ (fun s hs => by cases hs) ?_)
      exact ⟨c3, r1, q2.keep r2 (by simpa using fun e : g3 = g2 => hn e.symm), q3.trans r2 (fun i _ hi => by simp at hi ⊢; exact .inl hi), by simpa using q4⟩
    · obtain ⟨c3, q1, q2, q3, q4⟩ := hst
      refine wp_ran_skip rfl (exec_store1 (P := Tryd.prog) rfl (eval_tmp ((hpar 1 rfl).trans rfl)) (eval_tmp (hgot 2 _ 8 rfl (hdep ⟨2, .data⟩ (by simp) rfl) rfl)) rfl info28' i28z (by rw [q2.cell]; rfl) (q2.free 0)) (hK undef _ (fun s hs => by cases hs) ?_)
      have r2 : Mod [g3] v (v.setCell ⟨g3, 0, none⟩ (.int .i64 er)) := Mod.setCell (ms := [g3]) v (by simp) _
      exact ⟨_, q1.keep r2 (by simpa using hn), q2.set 0 _, q3.trans r2 (fun i _ hi => by simp at hi ⊢; exact .inr hi), fun _ => rfl⟩
  case fin =>
  intro lz vr hlz hst
  obtain ⟨c3, q1, q2, q3, q4⟩ := hst
  have e := q4 (hlz 4 (by decide))
  subst e
  simp only [setAll, List.foldl_cons, List.foldl_nil, List.set_cons_succ, List.set_cons_zero]
  exact ⟨rfl, _, rfl, .tuple #[], (by simp [results, Tryd.results97]), rfl, rfl, q1, q2, q3⟩
end Go.Proofs.YtchanildogjhgaaDoor
