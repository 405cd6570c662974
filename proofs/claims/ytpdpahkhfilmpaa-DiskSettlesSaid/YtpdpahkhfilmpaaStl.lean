/-
  What a disk holds behind a sync it holds behind every crash: the walk. My own work.
-/
import Derived.Test.YtpdpahkhfilmpaaSet
namespace Go.Proofs.Ytpdpahkhfilmpaa
open Go.RowKit
open Rg
def SSt (w : World) (g m : Nat) (A3 : Option Addr) (c3 : Nat) (S0 S1 S2 : St) (g8 : Nat) (cs : List Value) (l : List Bool) (x : Option Addr × Nat × Nat) (b3 b7 b9 b10 : Bool) (v : World) : Prop :=
  Holds v g8 61 cs ∧ (b3 = false → Far w v g m A3 c3 S0) ∧ (b3 = true → b10 = false → Far w v g m A3 c3 S1) ∧ (b10 = true → Far w v g m none 0 S2) ∧ (b7 = true → b9 = false → Holds v x.2.2 4 [] ∧ w.heap.size ≤ x.2.2) ∧ (b9 = true → b10 = false → Bools v x.1 l)
theorem SSt.keep {w v v' : World} {g m c3 g8 : Nat} {A3 : Option Addr} {S0 S1 S2 : St} {cs : List Value} {l : List Bool} {x : Option Addr × Nat × Nat} {b3 b7 b9 b10 : Bool} (h : SSt w g m A3 c3 S0 S1 S2 g8 cs l x b3 b7 b9 b10 v) (k : Mod [] v v') : SSt w g m A3 c3 S0 S1 S2 g8 cs l x b3 b7 b9 b10 v' :=
  ⟨h.1.keep k (by simp), fun q => (h.2.1 q).keep k, fun q q' => (h.2.2.1 q q').keep k, fun q => (h.2.2.2.1 q).keep k, fun q q' => ⟨(h.2.2.2.2.1 q q').1.keep k (by simp), (h.2.2.2.2.1 q q').2⟩, fun q q' => (h.2.2.2.2.2 q q').keep k (by simp)⟩
theorem exec_rem3 {P : Program} {v : World} {o : Oper} {ρ : Operand → Value} {x y : Operand} {t t' : TypeId} {k : Nat} (hk : k < 8) (ho : o.op = .binOp .rem t x y t') (hx : ρ x = .int .i64 (k : Int)) (hy : ρ y = .int .i64 3) : (execOp ρ o).run P v = .ok (.value (.int .i64 ((k % 3 : Nat) : Int))) v := by
  unfold execOp
  obtain rfl | rfl | rfl | rfl | rfl | rfl | rfl | rfl : k = 0 ∨ k = 1 ∨ k = 2 ∨ k = 3 ∨ k = 4 ∨ k = 5 ∨ k = 6 ∨ k = 7 := by omega
  all_goals (simp [ho, hx, hy, go_sem])
theorem exec_none47 {v : World} {o : Oper} {ρ : Operand → Value} (ho : o.op = .buildSlice 47 0 #[]) : (execOp ρ o).run Try.prog v = .ok (.value (.slice (some ⟨v.heap.size, 0, none⟩) 0 0)) (v.alloc (.cells #[] 4)) := by
  have h : (Instr.buildSlice 47 0 #[]).run Try.prog v = .ok (.slice (some ⟨v.heap.size, 0, none⟩) 0 0) (v.alloc (.cells #[] 4)) := by go_simp
  unfold execOp
  simp only [ho, List.map_toArray, List.map_nil, Sem.run_bind, h, Result.andThen, Sem.run_pure]
set_option maxRecDepth 1000000 in
set_option maxHeartbeats 2000000 in
theorem settles_w (A : Option Addr) (n c : Nat) (B : Option Addr) (nb cb : Nat) (w : World) (hn : n ≤ c) (hc : c ≤ maxLen) (hA : Acts w A n) (hnb : nb ≤ cb) (hcb : cb ≤ maxLen) (hB : Rowsb w B nb) :
    Calls Try.prog 7 #[.slice A n c, .slice B nb cb] w fun e w' => e = .returned (.bool true) ∧ Mod [] w w' := by
  have HA := Lib.hid hA
  have HB := Lib.hid hB
  have hnbZ : (nb : Int) ≤ 9223372036854775807 := by unfold maxLen at hcb; omega
  clear hA hB
  go_enter Try.func7, Try.ntmps7
  go_wp2_with fail
  refine (wakes_c _).mono ?_
  rintro e w1 ⟨rfl, m1⟩
  go_wp2_with fail
  refine (blank_c _).mono ?_
  rintro e w2 ⟨g, m, rfl, D1, m2, og, om⟩
  have F0 : Far w w2 g m none 0 (St.new 5) := ⟨D1, m1.then m2, Nat.le_trans m1.size og, Nat.le_trans m1.size om, fun a ha => by cases ha⟩
  clear D1 og om m1 m2
  go_wp2_with fail
  refine (few_c A n c _ hn hc).mono ?_
  rintro e w3 ⟨rfl, rfl⟩
  go_wp2_with fail
  obtain ⟨N, hN⟩ : ∃ N, N = min n 60 := ⟨_, rfl⟩
  have hNn : N ≤ n := by omega
  have hN60 : N ≤ 60 := by omega
  rw [← hN]
  clear hN
  go_loopw [21] (fun i wi => ∃ k : Nat, k ≤ N ∧ i = .int .i64 (k : Int) ∧ ∃ A1 c1 S, Far w wi g m A1 c1 S ∧ Calm S ∧ S.ops ≤ k) (fun i _ => N - (intOf i).toNat)
  case atStart => exact ⟨0, by omega, rfl, none, 0, _, F0, calm_new, Nat.le_refl _⟩
  case round =>
    clear F0
    obtain ⟨k, hk, rfl, A1, c1, S, FA, CA, so⟩ := hrel
    by_cases hkn : k < N
    · have hkZ : (k : Int) < (N : Int) := by omega
      obtain ⟨ga, oa, kd, a, K, ck, rfl, hca, hkind, _, _, _, _, _⟩ := HA.out k (by omega)
      replace hca := hca.keep FA.mm (by simp)
      go_wp2_with (first
        | (with_reducible refine wpList_loads (o := ⟨some 24, .load 49 (.tmp 23), _, _, _, _⟩) rfl 49 (.tmp 23) rfl ga (oa + k * 5) _ rfl hca _ Try.underlying49 rfl (by rw [dv_length]; exact size49) (.agg (dv kd a K ck).toArray) rfl ?_)
        | (with_reducible refine wpList_allocs (o := ⟨some 7, .alloc 49, _, _, _, _⟩) rfl 49 rfl _ zero49 ?_; intro wa hba ma za; replace za := Lib.hid za)
        | (with_reducible refine wpList_storesAll (o := ⟨none, .store 49 (.tmp 7) (.tmp 24), _, _, _, _⟩) rfl 49 (.tmp 7) (.tmp 24) rfl rfl wr.heap.size (dv kd a K ck) rfl (.agg (dv kd a K ck).toArray) rfl rfl 49 _ hba rfl (dv_one kd a K ck) (by rw [dv_length]; exact size49) ?_; intro wb hbb mb zb; replace zb := Lib.hid zb
           have mx : Mod [] wr wb := ma.trans mb (fun i hi h => by simp at h; omega)
           replace FA := FA.keep mx
           clear mx hba mb zb za ma hca)
        | (with_reducible refine wpList_loads (o := ⟨some 25, .load 49 (.tmp 7), _, _, _, _⟩) rfl 49 (.tmp 7) rfl wr.heap.size 0 _ rfl (Cells.of_holds hbb) _ Try.underlying49 rfl (by rw [dv_length]; exact size49) (.agg (dv kd a K ck).toArray) rfl ?_))
      refine (asks_c kd a K ck _ hkind).mono ?_
      rintro e wc ⟨rfl, mc⟩
      replace FA := FA.keep mc
      replace hbb := hbb.keep mc (by simp)
      obtain ⟨b9, e9⟩ : ∃ b, b = wr.heap.size := ⟨_, rfl⟩
      rw [← e9] at hbb ⊢
      clear mc e9
      by_cases hk3 : a.kind < 3
      · have hd3 : decide (a.kind < 3) = true := decide_eq_true hk3
        rw [hd3]
        clear hd3
        have X := fun v (D : DAt v g m A1 c1 S) => act3_c S g m A1 c1 kd a K ck v D hkind hk3 (by omega)
        have CA' := calm_act CA a hk3
        have so' := ops_step S a hk3
        go_wp2_with (with_reducible refine wpList_loads (o := ⟨some 28, .load 49 (.tmp 7), _, _, _, _⟩) rfl 49 (.tmp 7) rfl b9 0 _ rfl (Cells.of_holds hbb) _ Try.underlying49 rfl (by rw [dv_length]; exact size49) (.agg (dv kd a K ck).toArray) rfl ?_)
        refine (X _ FA.D).mono ?_
        clear X
        rintro e wd ⟨rfl, A3, c3, Dd, did⟩
        replace FA := FA.did Dd did
        clear Dd did hbb
        go_wp2_with fail
        exact ⟨⟨k + 1, by omega, by go_num, A3, c3, _, FA, CA', by omega⟩, by simp [intOf]; omega⟩
      · have hd3 : decide (a.kind < 3) = false := decide_eq_false hk3
        rw [hd3]
        go_wp2_with fail
        exact ⟨⟨k + 1, by omega, by go_num, A1, c1, S, FA, CA, by omega⟩, by simp [intOf]; omega⟩
    · obtain rfl : N = k := by omega
      obtain ⟨S1, hs1, C1, hl1, ho1⟩ := calm_sync CA
      have X := far_sync FA (by omega)
      rw [hs1] at X
      have ho1' : S1.ops ≤ 61 := by omega
      clear hs1 CA so hkn hk ho1
      go_wp2_with fail
      refine X.mono ?_
      clear X FA
      rintro e w4 ⟨rfl, ⟨A2, c2, FA⟩, _⟩
      have P := pending_c S1 g m A2 c2 0 w4 FA.D (by rw [hl1]; rfl)
      go_wp2_with fail
      refine P.mono ?_
      clear P
      rintro e w5 ⟨gp, rfl, _, m5, _⟩
      replace FA := FA.keep m5
      clear m5
      have P := content_c S1 g m A2 c2 w5 FA.D C1.dead C1.n (by omega)
      have ST : Still S1.firm S1 := ⟨C1, hl1, rfl⟩
      obtain ⟨f, hf⟩ : ∃ f, f = S1.firm := ⟨_, rfl⟩
      rw [← hf] at ST
      have hT := fun S' (h : Still f S') => Still.told h ST
      obtain ⟨B5, hB5⟩ : ∃ B, B = told S1 5 := ⟨_, rfl⟩
      rw [← hB5] at P hT
      have hl5 : B5.length = 5 := by rw [hB5]; rfl
      clear hB5 hf C1 hl1
      go_wp2_with fail
      refine P.mono ?_
      clear P
      rintro e w6 ⟨rfl, m6⟩
      replace FA := FA.keep m6
      clear m6
      have sz61 : (Try.prog.info? 61).map (·.size) = some (bs B5).length := by rw [bs_length, hl5]; exact size61
      have lz61 : (bs B5).length = (bs (List.replicate 5 (fil 0))).length := by rw [bs_length, bs_length, hl5]; rfl
      go_wp2_with (first
        | (with_reducible refine wpList_allocs (o := ⟨some 8, .alloc 61, _, _, _, _⟩) rfl 61 rfl _ zero61 ?_; intro w7 h8 m7 z7; replace z7 := Lib.hid z7)
        | (with_reducible refine wpList_storesAll (o := ⟨none, .store 61 (.tmp 8) (.tmp 41), _, _, _, _⟩) rfl 61 (.tmp 8) (.tmp 41) rfl rfl w6.heap.size (bs B5) rfl (.agg (bs B5).toArray) rfl rfl 61 _ h8 lz61 (bs_one B5) sz61 ?_; intro w8 k8 m8 z8; replace z8 := Lib.hid z8
           have mx : Mod [] w6 w8 := m7.trans m8 (fun i hi h => by simp at h; omega)
           replace FA := FA.keep mx
           clear mx m7 m8 z7 z8 h8))
      obtain ⟨g8, e8⟩ : ∃ b, b = w6.heap.size := ⟨_, rfl⟩
      rw [← e8] at k8 ⊢
      have HT := Lib.hid (And.intro hT (And.intro hl5 (And.intro sz61 hnb)))
      clear e8 hT hl5 sz61 lz61
      go_wp2_with fail
      go_loopw [44] (fun i wi => ∃ k : Nat, k ≤ nb ∧ k ≤ 8 ∧ i = .int .i64 (k : Int) ∧ ∃ A3 c3 S', Far w wi g m A3 c3 S' ∧ Still f S' ∧ S'.ops ≤ 61 + k ∧ Holds wi g8 61 (bs B5)) (fun i _ => nb - (intOf i).toNat)
      case atStart => exact ⟨0, by omega, by omega, rfl, A2, c2, S1, FA, ST, by omega, k8⟩
      case round =>
        clear FA ST k8 ho1'
        obtain ⟨k, hk, hk8, rfl, A3, c3, S', FA, ST, so, k8⟩ := hrel
        by_cases hkn : k < nb
        · have hkZ : (k : Int) < (nb : Int) := by omega
          obtain ⟨gB, oB, Kc, cK, l, rfl, hcell, hbl, hll⟩ := HB.out k hkn
          replace hcell := FA.mm.cell (p := ⟨gB, oB + k, none⟩) (by simp) hcell
          by_cases hk8' : k = 8
          · subst hk8'
            clear hk hk8 hbl hll
            go_wp2_with fail
            go_ret
            exact ⟨rfl, FA.mm⟩
          · have hklt : k < 8 := by omega
            have hkne : ((k : Int) == 8) = false := by simp; omega
            have hll63 : (l.length : Int) ≤ 140737488355328 := by omega
            have HQ := Lib.hid (And.intro hll (And.intro hklt (And.intro hk hbl)))
            clear hk8 hk8' hll hklt hk hbl
            go_wp2_with fail
            obtain ⟨S1', a1, a2, a3, _⟩ := ST.crash ((k % 3 : Nat) : Int) l
            obtain ⟨S2, hS2⟩ : ∃ S2, S2 = S1'.crash l := ⟨_, rfl⟩
            rw [← hS2] at a2 a3
            have hwf : (Lit.int .i64 ((k % 3 : Nat) : Int)).wf = true := by simp [Lit.wf, IntKind.min, IntKind.max, IntKind.signed, IntKind.bits]; omega
            have hs2o : S2.ops ≤ 69 := by rw [a3]; have := HQ.out.2.1; omega
            have HR := Lib.hid (And.intro hwf (And.intro a1 (And.intro a2 hs2o)))
            have HS2 := Lib.hid (And.intro hS2 (And.intro a3 so))
            clear hwf a1 a2 a3 hS2 hs2o so ST hcell
            have k8 : Holds wr.drew g8 61 (bs B5) := k8
            have FA : Far w wr.drew g m A3 c3 S' := FA.keep (Mod.drew [] wr)
            refine Rg.wp_region_lit (X := Option Addr × Nat × Nat) (none, 0, 0) (fun x => [Value.slice A n c, Value.slice (some { block := gB, off := oB }) nb cb, undef, undef, u4, Value.pointer (some { block := g, off := 0 }), undef, u7, Value.pointer (some { block := g8, off := 0 }), Value.int IntKind.i64 ↑k, Value.slice Kc l.length cK, u11, u12, Value.bool true, Value.bool false, Value.pointer (some { block := g, off := 0 }), Value.pointer (some { block := g, off := 0 }), Value.bool false, Value.slice A n c, Value.slice A N c, Value.int IntKind.i64 ↑N, Value.int IntKind.i64 ↑N, Value.bool false, u23, u24, u25, u26, u27, u28, u29, u30, Value.pointer (some { block := g, off := 0 }), Value.int IntKind.i64 0, Value.bool false, Value.bool false, Value.pointer (some { block := g, off := 0 }), Value.slice (some { block := gp, off := 0 }) 0 0, Value.int IntKind.i64 0, Value.bool false, Value.bool false, Value.pointer (some { block := g, off := 0 }), Value.agg (bs B5).toArray, Value.slice (some { block := gB, off := oB }) nb cb, Value.int IntKind.i64 ↑nb, Value.int IntKind.i64 ↑k, Value.bool true, Value.int IntKind.i64 ↑k, Value.pointer (some { block := gB, off := oB + k }), Value.slice Kc l.length cK, Value.int IntKind.i64 ↑k, Value.bool false, .pointer (some ⟨g, 0, none⟩), .int .i64 (k : Int), .int .i64 ((k % 3 : Nat) : Int), .int .i64 0, .bool false, .bool false, .pointer (some ⟨g, 0, none⟩), .slice (some ⟨x.2.2, 0, none⟩) 0 0, .slice Kc l.length cK, .slice x.1 l.length x.2.1, .int .i64 0, .bool false, .bool false, .bool false, .pointer (some ⟨g, 0, none⟩), .bool false, .bool false, .bool false, .pointer (some ⟨g, 0, none⟩), .agg (bs B5).toArray, .agg (bs B5).toArray, .bool false, .bool false, u74, u75, u76, u77, u78, u79, u80, u81, u82, u83]) 84 [0, 1, 2, 3, 4, 5, 6, 7, 8, 9, 10, 11, 12, 13, 14, 15, 16, 17, 18, 19, 20, 21, 22, 23, 24, 25, 26, 27, 28, 29, 30, 31, 32, 33, 34, 35, 36, 37, 38, 39, 40, 41, 42, 43, 44, 45, 46, 47, 48, 49, 50, 74, 75, 76, 77, 78, 79, 80, 81, 82, 83]
              (fun x lz v => SSt w g m A3 c3 S' S1' S2 g8 (bs B5) l x (lz 3) (lz 7) (lz 9) (lz 10) v) []
              (by kernel_rfl) (fun _ => rfl) rfl rfl rfl (fun _ => by simp only [List.map_cons, List.map_nil, List.getD_cons_zero, List.getD_cons_succ]) (⟨k8, (fun _ => FA), (fun h => by cases h), (fun h => by cases h), (fun h => by cases h), (fun h => by cases h)⟩) (by kernel_rfl) (by kernel_rfl) ?step ?fin
            case step =>
              intro x lz T v j o hj hlj hdep hst hpar hgot hcl K hK
              have hjn : j < 23 := (Array.getElem?_eq_some_iff.1 hj).1
              obtain rfl | rfl | rfl | rfl | rfl | rfl | rfl | rfl | rfl | rfl | rfl | rfl | rfl | rfl | rfl | rfl | rfl | rfl | rfl | rfl | rfl | rfl | rfl : j = 0 ∨ j = 1 ∨ j = 2 ∨ j = 3 ∨ j = 4 ∨ j = 5 ∨ j = 6 ∨ j = 7 ∨ j = 8 ∨ j = 9 ∨ j = 10 ∨ j = 11 ∨ j = 12 ∨ j = 13 ∨ j = 14 ∨ j = 15 ∨ j = 16 ∨ j = 17 ∨ j = 18 ∨ j = 19 ∨ j = 20 ∨ j = 21 ∨ j = 22 := by omega
              all_goals (have hj' := Option.some.inj (hj : some _ = some o); subst hj'; clear hj)
              · exact wp_ran rfl (exec_move rfl (eval_tmp (hpar 5 (by simp)))) (hK x _ _ (fun _ _ _ _ _ _ => rfl) (fun s hs => by cases hs; rfl) hst)
              · exact wp_ran rfl (exec_move rfl (eval_tmp (hpar 9 (by simp)))) (hK x _ _ (fun _ _ _ _ _ _ => rfl) (fun s hs => by cases hs; rfl) hst)
              · exact wp_ran rfl (exec_rem3 HQ.out.2.1 rfl (eval_tmp (hgot 1 _ 52 rfl (hdep ⟨1, .data⟩ (by simp) rfl) rfl)) rfl) (hK x _ _ (fun _ _ _ _ _ _ => rfl) (fun s hs => by cases hs; rfl) hst)
              · have n5 : lz 5 = false := by
                  cases hh : lz 5 with
                  | false => rfl
                  | true => exact absurd (hcl 4 _ rfl (hcl 5 _ rfl hh ⟨4, .data⟩ (by simp) rfl) ⟨3, .data⟩ (by simp) rfl) (by rw [hlj]; simp)
                have n7 : lz 7 = false := by
                  cases hh : lz 7 with
                  | false => rfl
                  | true => exact absurd (hcl 7 _ rfl hh ⟨5, .guard⟩ (by simp) rfl) (by rw [n5]; simp)
                have n9 : lz 9 = false := by
                  cases hh : lz 9 with
                  | false => rfl
                  | true => exact absurd (hcl 9 _ rfl hh ⟨5, .guard⟩ (by simp) rfl) (by rw [n5]; simp)
                have n10 : lz 10 = false := by
                  cases hh : lz 10 with
                  | false => rfl
                  | true => exact absurd (hcl 10 _ rfl hh ⟨5, .guard⟩ (by simp) rfl) (by rw [n5]; simp)
                have X := far_arm (hst.2.1 hlj) ((k % 3 : Nat) : Int) HR.out.1
                rw [HR.out.2.1] at X
                refine wp_called rfl (exec_call2 rfl rfl (eval_tmp (hgot 0 _ 51 rfl (hdep ⟨0, .data⟩ (by simp) rfl) rfl)) (eval_tmp (hgot 2 _ 53 rfl (hdep ⟨2, .data⟩ (by simp) rfl) rfl)) (enters_of Try.func24 (by kernel_rfl) rfl)) (X.mono (fun e v' hh => ⟨_, hh.1, hK x _ _ (fun _ _ _ _ _ _ => rfl) (fun s hs => by cases hs; rfl) ?_⟩))
                exact ⟨hh.2.2 _ _ _ (by decide) (by decide) hst.1, (fun h => by cases h), (fun _ _ => hh.2.1), (fun h => absurd (show lz 10 = true from h) (by rw [n10]; simp)), (fun h => absurd (show lz 7 = true from h) (by rw [n7]; simp)), (fun h => absurd (show lz 9 = true from h) (by rw [n9]; simp))⟩
              · exact wp_ran rfl (exec_nei rfl (eval_tmp (hgot 3 _ 54 rfl (hdep ⟨3, .data⟩ (by simp) rfl) rfl)) rfl) (hK x _ _ (fun _ _ _ _ _ _ => rfl) (fun s hs => by cases hs; rfl) hst)
              · exact wp_ran rfl (exec_move rfl (eval_tmp (hgot 4 _ 55 rfl (hdep ⟨4, .data⟩ (by simp) rfl) rfl))) (hK x _ _ (fun _ _ _ _ _ _ => rfl) (fun s hs => by cases hs; rfl) hst)
              · exact wp_ranW (wanted_yes rfl rfl rfl (hgot 5 _ 56 rfl (hdep ⟨5, .guard⟩ (by simp) rfl) rfl)) (exec_move rfl (eval_tmp (hpar 5 (by simp)))) (hK x _ _ (fun _ _ _ _ _ _ => rfl) (fun s hs => by cases hs; rfl) hst)
              · have a5 := (hdep ⟨5, .guard⟩ (by simp) rfl)
                have a4 := hcl 5 _ rfl a5 ⟨4, .data⟩ (by simp) rfl
                have a3 := hcl 4 _ rfl a4 ⟨3, .data⟩ (by simp) rfl
                have mA : Mod [] v (v.alloc (.cells #[] 4)) := Mod.alloc [] v _
                have hsz : w.heap.size ≤ v.heap.size := by
                  cases h10 : lz 10 with
                  | false => exact (hst.2.2.1 a3 h10).mm.size
                  | true => exact (hst.2.2.2.1 h10).mm.size
                exact wp_ranW (wanted_yes rfl rfl rfl (hgot 5 _ 56 rfl (hdep ⟨5, .guard⟩ (by simp) rfl) rfl)) (exec_none47 rfl) (hK (x.1, x.2.1, v.heap.size) _ _ (fun j' o' s' h1 h2 h3 => by
                  clear hst hpar hgot hdep hcl hK
                  have h4 : j' < 23 := (Array.getElem?_eq_some_iff.1 h1).1
                  obtain rfl | rfl | rfl | rfl | rfl | rfl | rfl | rfl | rfl | rfl | rfl | rfl | rfl | rfl | rfl | rfl | rfl | rfl | rfl | rfl | rfl | rfl | rfl : j' = 0 ∨ j' = 1 ∨ j' = 2 ∨ j' = 3 ∨ j' = 4 ∨ j' = 5 ∨ j' = 6 ∨ j' = 7 ∨ j' = 8 ∨ j' = 9 ∨ j' = 10 ∨ j' = 11 ∨ j' = 12 ∨ j' = 13 ∨ j' = 14 ∨ j' = 15 ∨ j' = 16 ∨ j' = 17 ∨ j' = 18 ∨ j' = 19 ∨ j' = 20 ∨ j' = 21 ∨ j' = 22 := by omega
                  all_goals (cases h1; cases h3 <;> first | rfl | (rw [hlj] at h2; cases h2))) (fun s hs => by cases hs; rfl) ⟨hst.1.keep mA (by simp), (fun h => absurd (show lz 3 = false from h) (by rw [a3]; simp)), (fun h1 h2 => (hst.2.2.1 h1 h2).keep mA), (fun h => (hst.2.2.2.1 h).keep mA), (fun _ _ => ⟨Holds.made v 4 [], hsz⟩), (fun h1 h2 => (hst.2.2.2.2.2 h1 h2).keep mA (by simp))⟩)
              · exact wp_ranW (wanted_yes rfl rfl rfl (hgot 5 _ 56 rfl (hdep ⟨5, .guard⟩ (by simp) rfl) rfl)) (exec_move rfl (eval_tmp (hpar 10 (by simp)))) (hK x _ _ (fun _ _ _ _ _ _ => rfl) (fun s hs => by cases hs; rfl) hst)
              · have a5 := (hdep ⟨5, .guard⟩ (by simp) rfl)
                have a4 := hcl 5 _ rfl a5 ⟨4, .data⟩ (by simp) rfl
                have a3 := hcl 4 _ rfl a4 ⟨3, .data⟩ (by simp) rfl
                have a7 := hdep ⟨7, .data⟩ (by simp) rfl
                have n10 : lz 10 = false := by
                  cases hh : lz 10 with
                  | false => rfl
                  | true => exact absurd (hcl 10 _ rfl hh ⟨9, .data⟩ (by simp) rfl) (by rw [hlj]; simp)
                have FF := hst.2.2.1 a3 n10
                obtain ⟨hE, hEs⟩ := hst.2.2.2.2.1 a7 hlj
                obtain ⟨A', c', v', hrun, hb, hm⟩ := run_appendB v _ (some ⟨x.2.2, 0, none⟩) 0 (OwnG.of_holds (f := fun b : Bool => [Value.bool b]) (e := 4) (size := 1) (l := []) hE (fun _ => rfl) (by decide)) Kc cK l (HQ.out.2.2.2.keep FF.mm (by simp)) HQ.out.1
                have hm' : Mod [x.2.2] v v' := hm.wk (fun i _ h => by simpa [blk] using h)
                have F1 : Far w v' g m A3 c3 S1' := ⟨FF.D.keep hm' (by simpa using (hE.ne FF.D.blk (by decide)).symm) (by simpa using (FF.D.firm.ne_holds hE).symm) (fun a ha => by simpa using FF.D.loose.ne hE (by decide) a ha), far_mod FF.mm hm' (fun i hi => by simp at hi; omega), FF.g, FF.m, FF.A⟩
                exact wp_ranW (wanted_yes rfl rfl rfl (hgot 5 _ 56 rfl (hdep ⟨5, .guard⟩ (by simp) rfl) rfl)) (exec_append rfl (eval_tmp (hgot 7 _ 58 rfl (hdep ⟨7, .data⟩ (by simp) rfl) rfl)) (eval_tmp (hgot 8 _ 59 rfl (hdep ⟨8, .data⟩ (by simp) rfl) rfl)) hrun) (hK (A', c', x.2.2) _ _ (fun j' o' s' h1 h2 h3 => by
                  clear hst hpar hgot hdep hcl hK
                  have h4 : j' < 23 := (Array.getElem?_eq_some_iff.1 h1).1
                  obtain rfl | rfl | rfl | rfl | rfl | rfl | rfl | rfl | rfl | rfl | rfl | rfl | rfl | rfl | rfl | rfl | rfl | rfl | rfl | rfl | rfl | rfl | rfl : j' = 0 ∨ j' = 1 ∨ j' = 2 ∨ j' = 3 ∨ j' = 4 ∨ j' = 5 ∨ j' = 6 ∨ j' = 7 ∨ j' = 8 ∨ j' = 9 ∨ j' = 10 ∨ j' = 11 ∨ j' = 12 ∨ j' = 13 ∨ j' = 14 ∨ j' = 15 ∨ j' = 16 ∨ j' = 17 ∨ j' = 18 ∨ j' = 19 ∨ j' = 20 ∨ j' = 21 ∨ j' = 22 := by omega
                  all_goals (cases h1; cases h3 <;> first | rfl | (rw [hlj] at h2; cases h2))) (fun s hs => by cases hs; rfl) ⟨hst.1.keep hm' (by simpa using (hE.ne hst.1 (by decide)).symm), (fun h => absurd (show lz 3 = false from h) (by rw [a3]; simp)), (fun _ _ => F1), (fun h => absurd (show lz 10 = true from h) (by rw [n10]; simp)), (fun _ h => by cases h), (fun _ _ => hb)⟩)
              · have a5 := (hdep ⟨5, .guard⟩ (by simp) rfl)
                have a4 := hcl 5 _ rfl a5 ⟨4, .data⟩ (by simp) rfl
                have a3 := hcl 4 _ rfl a4 ⟨3, .data⟩ (by simp) rfl
                have a9 := hdep ⟨9, .data⟩ (by simp) rfl
                have X := far_crash (hst.2.2.1 a3 hlj) x.1 l.length x.2.1 l (hst.2.2.2.2.2 a9 hlj) rfl (by have := HQ.out.1; unfold maxLen; omega)
                refine wp_calledW (wanted_yes rfl rfl rfl (hgot 5 _ 56 rfl (hdep ⟨5, .guard⟩ (by simp) rfl) rfl)) (exec_call2 rfl rfl (eval_tmp (hgot 6 _ 57 rfl (hdep ⟨6, .data⟩ (by simp) rfl) rfl)) (eval_tmp (hgot 9 _ 60 rfl (hdep ⟨9, .data⟩ (by simp) rfl) rfl)) (enters_of Try.func15 (by kernel_rfl) rfl)) (X.mono (fun e v' hh => ⟨_, hh.1, hK x _ _ (fun _ _ _ _ _ _ => rfl) (fun s hs => by cases hs; rfl) ?_⟩))
                exact ⟨hh.2.2 _ _ _ (by decide) (by decide) hst.1, (fun h => absurd (show lz 3 = false from h) (by rw [a3]; simp)), (fun _ h => by cases h), (fun _ => by rw [HS2.out.1]; exact hh.2.1), (fun _ h => absurd (show lz 9 = false from h) (by rw [a9]; simp)), (fun _ h => by cases h)⟩
              · exact wp_ranW (wanted_yes rfl rfl rfl (hgot 5 _ 56 rfl (hdep ⟨5, .guard⟩ (by simp) rfl) rfl)) (exec_nei rfl (eval_tmp (hgot 10 _ 61 rfl (hdep ⟨10, .data⟩ (by simp) rfl) rfl)) rfl) (hK x _ _ (fun _ _ _ _ _ _ => rfl) (fun s hs => by cases hs; rfl) hst)
              · exact wp_ran rfl (exec_pick rfl (eval_tmp (hgot 5 _ 56 rfl (hdep ⟨5, .data⟩ (by simp) rfl) rfl)) rfl (eval_tmp (hgot 11 _ 62 rfl (hdep ⟨11, .data⟩ (by simp) rfl) rfl)) rfl) (hK x _ _ (fun _ _ _ _ _ _ => rfl) (fun s hs => by cases hs; rfl) hst)
              · exact wp_ran rfl (exec_move rfl (eval_tmp (hgot 12 _ 63 rfl (hdep ⟨12, .data⟩ (by simp) rfl) rfl))) (hK x _ _ (fun _ _ _ _ _ _ => rfl) (fun s hs => by cases hs; rfl) hst)
              · exact wp_ranW (wanted_yes rfl rfl rfl (hgot 13 _ 64 rfl (hdep ⟨13, .guard⟩ (by simp) rfl) rfl)) (exec_move rfl (eval_tmp (hpar 5 (by simp)))) (hK x _ _ (fun _ _ _ _ _ _ => rfl) (fun s hs => by cases hs; rfl) hst)
              · have b13 := hdep ⟨13, .guard⟩ (by simp) rfl
                have b12 := hcl 13 _ rfl b13 ⟨12, .data⟩ (by simp) rfl
                have b11 := hcl 12 _ rfl b12 ⟨11, .data⟩ (by simp) rfl
                have b10 := hcl 11 _ rfl b11 ⟨10, .data⟩ (by simp) rfl
                have F2 := hst.2.2.2.1 b10
                have o3 := (dc_cells F2.D.blk).2.2.2.1
                rw [HR.out.2.2.1.calm.dead] at o3
                exact wp_calledW (wanted_yes rfl rfl rfl (hgot 13 _ 64 rfl (hdep ⟨13, .guard⟩ (by simp) rfl) rfl)) (exec_call1 rfl rfl (eval_tmp (hgot 14 _ 65 rfl (hdep ⟨14, .data⟩ (by simp) rfl) rfl)) (enters_of Try.func28 (by kernel_rfl) rfl)) ((dead_c g _ v o3).mono (fun e v' hh => ⟨_, hh.1, hK x _ _ (fun _ _ _ _ _ _ => rfl) (fun s hs => by cases hs; rfl) (by have hq := hh.2; subst hq; exact hst)⟩))
              · exact wp_ran rfl (exec_pick rfl (eval_tmp (hgot 13 _ 64 rfl (hdep ⟨13, .data⟩ (by simp) rfl) rfl)) rfl (eval_tmp (hgot 15 _ 66 rfl (hdep ⟨15, .data⟩ (by simp) rfl) rfl)) rfl) (hK x _ _ (fun _ _ _ _ _ _ => rfl) (fun s hs => by cases hs; rfl) hst)
              · exact wp_ran rfl (exec_move rfl (eval_tmp (hgot 16 _ 67 rfl (hdep ⟨16, .data⟩ (by simp) rfl) rfl))) (hK x _ _ (fun _ _ _ _ _ _ => rfl) (fun s hs => by cases hs; rfl) hst)
              · exact wp_ranW (wanted_yes rfl rfl rfl (hgot 17 _ 68 rfl (hdep ⟨17, .guard⟩ (by simp) rfl) rfl)) (exec_move rfl (eval_tmp (hpar 5 (by simp)))) (hK x _ _ (fun _ _ _ _ _ _ => rfl) (fun s hs => by cases hs; rfl) hst)
              · have b17 := hdep ⟨17, .guard⟩ (by simp) rfl
                have b16 := hcl 17 _ rfl b17 ⟨16, .data⟩ (by simp) rfl
                have b13 := hcl 16 _ rfl b16 ⟨13, .data⟩ (by simp) rfl
                have b12 := hcl 13 _ rfl b13 ⟨12, .data⟩ (by simp) rfl
                have b11 := hcl 12 _ rfl b12 ⟨11, .data⟩ (by simp) rfl
                have b10 := hcl 11 _ rfl b11 ⟨10, .data⟩ (by simp) rfl
                have F2 := hst.2.2.2.1 b10
                have X := content_c S2 g m none 0 v F2.D HR.out.2.2.1.calm.dead HR.out.2.2.1.calm.n (by have := HR.out.2.2.2; omega)
                rw [HT.out.1 S2 HR.out.2.2.1] at X
                exact wp_calledW (wanted_yes rfl rfl rfl (hgot 17 _ 68 rfl (hdep ⟨17, .guard⟩ (by simp) rfl) rfl)) (exec_call1 rfl rfl (eval_tmp (hgot 18 _ 69 rfl (hdep ⟨18, .data⟩ (by simp) rfl) rfl)) (enters_of Try.func35 (by kernel_rfl) rfl)) (X.mono (fun e v' hh => ⟨_, hh.1, hK x _ _ (fun _ _ _ _ _ _ => rfl) (fun s hs => by cases hs; rfl) (SSt.keep hst hh.2)⟩))
              · exact wp_ranW (wanted_yes rfl rfl rfl (hgot 17 _ 68 rfl (hdep ⟨17, .guard⟩ (by simp) rfl) rfl)) (exec_load rfl (eval_tmp (hpar 8 (by simp))) (run_loads (Cells.of_holds hst.1) Try.underlying61 rfl HT.out.2.2.1)) (hK x _ _ (fun _ _ _ _ _ _ => rfl) (fun s hs => by cases hs; rfl) hst)
              · exact wp_ranW (wanted_yes rfl rfl rfl (hgot 17 _ 68 rfl (hdep ⟨17, .guard⟩ (by simp) rfl) rfl)) (exec_neq61 (L := B5) HT.out.2.1 rfl (eval_tmp (hgot 19 _ 70 rfl (hdep ⟨19, .data⟩ (by simp) rfl) rfl)) (eval_tmp (hgot 20 _ 71 rfl (hdep ⟨20, .data⟩ (by simp) rfl) rfl))) (hK x _ _ (fun _ _ _ _ _ _ => rfl) (fun s hs => by cases hs; rfl) hst)
              · exact wp_ran rfl (exec_pick rfl (eval_tmp (hgot 17 _ 68 rfl (hdep ⟨17, .data⟩ (by simp) rfl) rfl)) rfl (eval_tmp (hgot 21 _ 72 rfl (hdep ⟨21, .data⟩ (by simp) rfl) rfl)) rfl) (hK x _ _ (fun _ _ _ _ _ _ => rfl) (fun s hs => by cases hs; rfl) hst)
            case fin =>
              intro x lz v hl hst
              have FB := hst.2.2.2.1 (hl 10 (by decide))
              have kb := hst.1
              obtain ⟨q, hq⟩ : ∃ q, q = k % 5 := ⟨_, rfl⟩
              have hkr : (k : Int) % 5 = (q : Int) := by omega
              obtain ⟨B', S3, b1, b2, b3⟩ := HR.out.2.2.1.read (q : Int) (by omega)
              have X := far_read FB (q : Int) (by have := HR.out.2.2.2; omega)
              rw [b1] at X
              have HX := Lib.hid X
              have HB3 := Lib.hid (And.intro b2 (And.intro b3 HS2.out.2.1))
              have hk8Z : (k : Int) < 8 := by have := HQ.out.2.1; omega
              clear hst hl k8 FA FB X b1 b2 b3 hq
              dsimp only
              go_wp2_with fail
              refine HX.out.mono ?_
              clear HX
              rintro e wx ⟨rfl, FC, kp⟩
              replace kb := kp _ _ _ (by decide) (by decide) kb
              clear kp
              go_wp2_with (first
                | (with_reducible refine wpList_allocs (o := ⟨some 11, .alloc 39, _, _, _, _⟩) rfl 39 rfl _ zero39 ?_; intro wu hA16 mA16 zA16; replace zA16 := Lib.hid zA16)
                | (with_reducible refine wpList_storesAll (o := ⟨none, .store 39 (.tmp 11) (.tmp 79), _, _, _, _⟩) rfl 39 (.tmp 11) (.tmp 79) rfl rfl wx.heap.size (bc B') rfl (bv B') rfl rfl 39 _ hA16 (by simp only [bc_length]) (bc_one _) (by rw [bc_length]; exact size39) ?_; intro wv' hB16 mB16 zB16; replace zB16 := Lib.hid zB16
                   have mx : Mod [] wx wv' := mA16.trans mB16 (fun i hi h => by simp at h; omega)
                   replace FC := FC.keep mx
                   replace kb := kb.keep mx (by simp)
                   clear mx hA16 mB16 zB16 zA16 mA16 hB16))
              have hs3 : S3.ops ≤ 61 + (k + 1) := by have := HB3.out.2.1; have := HB3.out.2.2; have := HS2.out.2.2; omega
              have hk1 : k + 1 ≤ nb := by have := HQ.out.2.2.1; omega
              exact ⟨⟨k + 1, hk1, by have := HQ.out.2.1; omega, by go_num, none, 0, S3, FC, HB3.out.1, hs3, kb⟩, by simp [intOf]; omega⟩

        · obtain rfl : k = nb := by omega
          go_wp2_with fail
          go_ret
          exact ⟨rfl, FA.mm⟩
end Go.Proofs.Ytpdpahkhfilmpaa
