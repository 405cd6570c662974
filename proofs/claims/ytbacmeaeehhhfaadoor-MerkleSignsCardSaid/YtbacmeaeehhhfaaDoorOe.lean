/-
  bytes.Equal, mayBe, the law's right, same. My own work.
-/
import Derived.Test.YtbacmeaeehhhfaaDoorOb
import Derived.Test.YtbacmeaeehhhfaaDoorNb
import Derived.Laws.IdiomStrings
namespace Go.Proofs.YtbacmeaeehhhfaaDoor
open Go.RowKit Go.Shelf
set_option linter.unusedVariables false
set_option linter.unusedSimpArgs false
theorem beq_c (A B : Option Addr) (l k : List UInt8) (c d : Nat) (w : World) (h : Reads w A l) (h' : Reads w B k) :
    Calls Tryd.prog 32 #[.slice A l.length c, .slice B k.length d] w fun e w' => e = .returned (.bool (decide (l = k))) ∧ w = w' := by
  have c1 := conv_reads (P := Tryd.prog) w 64 9 5 A c l Tryd.underlying64 Tryd.underlying5 Tryd.underlying9 h
  have c2 := conv_reads (P := Tryd.prog) w 64 9 5 B d k Tryd.underlying64 Tryd.underlying5 Tryd.underlying9 h'
  by_cases hlk : l = k
  · subst hlk
    go_enter Tryd.func32, Tryd.ntmps32
    go_wp2
    go_ret
    exact ⟨by simp, rfl⟩
  · have hd : decide (l = k) = false := by simpa using hlk
    rw [hd]
    clear hd
    go_enter Tryd.func32, Tryd.ntmps32
    go_wp2
    go_ret
    exact ⟨by simp [hlk], rfl⟩
theorem beq_n (A B : Option Addr) (l k : List UInt8) (n m c d : Nat) (w : World) (hn : n = l.length) (hm : m = k.length) (h : Reads w A l) (h' : Reads w B k) :
    Calls Tryd.prog 32 #[.slice A n c, .slice B m d] w fun e w' => e = .returned (.bool (decide (l = k))) ∧ w = w' := by
  subst hn hm
  exact beq_c A B l k c d w h h'
set_option maxRecDepth 100000 in
set_option maxHeartbeats 4000000 in
theorem lawSame_d (l : List Idv) (A B : Option Addr) (n c d : Nat) (hn : n = l.length) (h60 : n ≤ 100) (w : World) (RA : Cells w A (l.flatMap ic)) (RB : Cells w B (l.flatMap ic)) :
    Calls Tryd.prog 17 #[.slice A n c, .slice B n d] w fun r w' => r = .returned (.bool true) ∧ Mod [] w w' := by
  have HH := Lib.hid (And.intro hn (And.intro RA RB))
  have hnZ : (n : Int) ≤ 100 := by omega
  clear hn RA RB
  go_enter Tryd.func17, Tryd.ntmps17
  go_wp2_with (first
    | (with_reducible refine wpList_ranW (o := ⟨some 10, .binOp _ _ _ _ _, _, _, _, _⟩) (by with_unfolding_all rfl) (.bool false) _ (exec_nei (by simp) rfl rfl rfl) ?_))
  go_loopw [13] (fun i wi => ∃ (k : Nat), k ≤ n ∧ i = .int .i64 (k : Int) ∧ Mod [] w wi) (fun i _ => n - (intOf i).toNat)
  case atStart => exact ⟨0, by omega, rfl, Mod.refl _ _⟩
  case round =>
    obtain ⟨k, hk, rfl, hm⟩ := hrel
    by_cases hkn : k < n
    · have hkl : k < l.length := by rw [← HH.out.1]; exact hkn
      have hkZ : (k : Int) < (n : Int) := by omega
      obtain ⟨ga, oa, hA, hca⟩ := (HH.out.2.1.keep hm (by simp)).elem' ic 32 (by omega) ic_length k hkl
      obtain ⟨gb, ob, hB, hcb⟩ := (HH.out.2.2.keep hm (by simp)).elem' ic 32 (by omega) ic_length k hkl
      subst hA hB
      obtain ⟨z, hz⟩ : ∃ z, z = l[k] := ⟨_, rfl⟩
      rw [← hz] at hca hcb
      have HP := Lib.hid (And.intro hkn hm)
      clear hz hm HH hkl
      go_wp2_with fail
      obtain ⟨wq, hwq⟩ : ∃ v, v = wr := ⟨_, rfl⟩
      rw [← hwq] at hca hcb HP ⊢
      clear hwq
      refine wp_region_ups [(16, .slice (some ⟨ga, oa, none⟩) n c), (17, .int .i64 (k : Int)), (18, .pointer (some ⟨ga, oa + k * 32, none⟩)), (19, iv z), (20, .slice (some ⟨gb, ob, none⟩) n d), (21, .int .i64 (k : Int)), (22, .pointer (some ⟨gb, ob + k * 32, none⟩)), (23, iv z), (24, .bool false)] 26 [16, 17, 18, 19, 20, 21, 22, 23, 24] rfl rfl (by decide) (by kernel_rfl) (fun lz v => Mod [] wq.drew v) (by kernel_rfl) (Mod.refl _ _) (by kernel_rfl) (by kernel_rfl) ?step ?fin
      case step =>
        intro lz T v j o hj hlj hdep hst hpar hgot hcl Kq hK
        have mv : ∀ v, Mod [] wq.drew v → Mod [] wq v := fun v h => (Mod.drew [] wq).then h
        have hjn : j < 9 := (Array.getElem?_eq_some_iff.1 hj).1
        obtain rfl | rfl | rfl | rfl | rfl | rfl | rfl | rfl | rfl : j = 0 ∨ j = 1 ∨ j = 2 ∨ j = 3 ∨ j = 4 ∨ j = 5 ∨ j = 6 ∨ j = 7 ∨ j = 8 := by omega
        all_goals (have hj' := Option.some.inj (hj : some _ = some o); subst hj'; clear hj)
        · exact wp_ran rfl (exec_move rfl (eval_tmp ((hpar 0 rfl).trans rfl))) (hK _ _ (fun s hs => by cases hs; rfl) hst)
        · exact wp_ran rfl (exec_move rfl (eval_tmp ((hpar 5 rfl).trans rfl))) (hK _ _ (fun s hs => by cases hs; rfl) hst)
        · exact wp_ran rfl (exec_ixs Tryd.underlying33 size25 HP.out.1 rfl (eval_tmp (hgot 0 _ 16 rfl (hdep ⟨0, .data⟩ (by simp) rfl) rfl)) (eval_tmp (hgot 1 _ 17 rfl (hdep ⟨1, .data⟩ (by simp) rfl) rfl))) (hK _ _ (fun s hs => by cases hs; rfl) hst)
        · exact wp_ran rfl (exec_load rfl (eval_tmp (hgot 2 _ 18 rfl (hdep ⟨2, .data⟩ (by simp) rfl) rfl)) (run_loads (hca.keep (mv v hst) (by simp)) Tryd.underlying23 rfl (size25i z))) (hK _ _ (fun s hs => by cases hs; rfl) hst)
        · exact wp_ran rfl (exec_move rfl (eval_tmp ((hpar 1 rfl).trans rfl))) (hK _ _ (fun s hs => by cases hs; rfl) hst)
        · exact wp_ran rfl (exec_move rfl (eval_tmp ((hpar 5 rfl).trans rfl))) (hK _ _ (fun s hs => by cases hs; rfl) hst)
        · exact wp_ran rfl (exec_ixs Tryd.underlying33 size25 HP.out.1 rfl (eval_tmp (hgot 4 _ 20 rfl (hdep ⟨4, .data⟩ (by simp) rfl) rfl)) (eval_tmp (hgot 5 _ 21 rfl (hdep ⟨5, .data⟩ (by simp) rfl) rfl))) (hK _ _ (fun s hs => by cases hs; rfl) hst)
        · exact wp_ran rfl (exec_load rfl (eval_tmp (hgot 6 _ 22 rfl (hdep ⟨6, .data⟩ (by simp) rfl) rfl)) (run_loads (hcb.keep (mv v hst) (by simp)) Tryd.underlying23 rfl (size25i z))) (hK _ _ (fun s hs => by cases hs; rfl) hst)
        · exact wp_ran rfl (exec_ne25f rfl (eval_tmp (hgot 3 _ 19 rfl (hdep ⟨3, .data⟩ (by simp) rfl) rfl)) (eval_tmp (hgot 7 _ 23 rfl (hdep ⟨7, .data⟩ (by simp) rfl) rfl))) (hK _ _ (fun s hs => by cases hs; rfl) hst)
      case fin =>
      intro lz vr hlz hst
      have mq := (Mod.drew [] wq).then hst
      simp only [setAll, List.foldl_cons, List.foldl_nil, List.set_cons_succ, List.set_cons_zero]
      go_wp2_with fail
      exact ⟨⟨k + 1, by omega, by go_num, HP.out.2.then mq⟩, by simp [intOf]; omega⟩
    · obtain rfl : k = n := by omega
      clear HH
      go_wp2_with fail
      go_ret
      exact ⟨rfl, hm⟩
/-- May a signature be? -/
def mayB (i : Int) (n m : Nat) : Bool := lfOk i && (decide (n = 67) && decide (m = 3))
set_option maxRecDepth 100000 in
set_option maxHeartbeats 4000000 in
theorem mayBe_c (i : Int) (C : Option Addr) (n cC : Nat) (P : Option Addr) (m cP : Nat) (w : World) : Calls Tryd.prog 48 #[.agg (sgc i C n cC P m cP).toArray] w fun r w' => r = .returned (.bool (mayB i n m)) ∧ Mod [] w w' := by
  have LF := fun v => isLeaf_c i v
  cases hl : lfOk i with
  | false =>
    rw [hl] at LF
    obtain ⟨q, hq⟩ : ∃ q, q = mayB i n m := ⟨_, rfl⟩
    have hq2 : q = false := by rw [hq]; unfold mayB; rw [hl]; rfl
    rw [← hq, hq2]
    clear hl hq hq2
    go_enter Tryd.func48, Tryd.ntmps48
    go_wp2_with (first
      | (with_reducible refine wpList_boxes (o := ⟨some 1, .box 50 (.tmp 0), _, _, _, _⟩) rfl 50 (.tmp 0) rfl _ rfl (sgc i C n cC P m cP) rfl ?_; intro w1 hb1 m1 z1; replace z1 := Lib.hid z1
         have e0 := hb1.cell 0
         simp only [sgc, List.getElem?_cons_succ, List.getElem?_cons_zero] at e0)
      | (go_at_call 39; refine (LF _).mono ?_; rintro e w3 ⟨rfl, rfl⟩))
    go_ret
    exact ⟨rfl, m1⟩
  | true =>
    rw [hl] at LF
    by_cases h67 : n = 67
    · by_cases h3 : m = 3
      · subst h67 h3
        obtain ⟨q, hq⟩ : ∃ q, q = mayB i 67 3 := ⟨_, rfl⟩
        have hq2 : q = true := by rw [hq]; unfold mayB; rw [hl]; rfl
        rw [← hq, hq2]
        clear hl hq hq2
        go_enter Tryd.func48, Tryd.ntmps48
        go_wp2_with (first
          | (with_reducible refine wpList_boxes (o := ⟨some 1, .box 50 (.tmp 0), _, _, _, _⟩) rfl 50 (.tmp 0) rfl _ rfl (sgc i C 67 cC P 3 cP) rfl ?_; intro w1 hb1 m1 z1; replace z1 := Lib.hid z1
             have e0 := hb1.cell 0
             have e1 := hb1.cell 1
             have e2 := hb1.cell 2
             simp only [sgc, List.getElem?_cons_succ, List.getElem?_cons_zero] at e0 e1 e2)
          | (go_at_call 39; refine (LF _).mono ?_; rintro e w3 ⟨rfl, rfl⟩))
        go_ret
        exact ⟨rfl, m1⟩
      · obtain ⟨q, hq⟩ : ∃ q, q = mayB i n m := ⟨_, rfl⟩
        have hq2 : q = false := by rw [hq]; unfold mayB; rw [decide_eq_false h3]; simp
        rw [← hq, hq2]
        have b3 : ((m : Int) == 3) = false := by simp; omega
        subst h67
        clear hl hq hq2 h3
        go_enter Tryd.func48, Tryd.ntmps48
        go_wp2_with (first
          | (with_reducible refine wpList_boxes (o := ⟨some 1, .box 50 (.tmp 0), _, _, _, _⟩) rfl 50 (.tmp 0) rfl _ rfl (sgc i C 67 cC P m cP) rfl ?_; intro w1 hb1 m1 z1; replace z1 := Lib.hid z1
             have e0 := hb1.cell 0
             have e1 := hb1.cell 1
             have e2 := hb1.cell 2
             simp only [sgc, List.getElem?_cons_succ, List.getElem?_cons_zero] at e0 e1 e2)
          | (go_at_call 39; refine (LF _).mono ?_; rintro e w3 ⟨rfl, rfl⟩))
        go_ret
        exact ⟨rfl, m1⟩
    · obtain ⟨q, hq⟩ : ∃ q, q = mayB i n m := ⟨_, rfl⟩
      have hq2 : q = false := by rw [hq]; unfold mayB; rw [decide_eq_false h67]; simp
      rw [← hq, hq2]
      have b3 : ((n : Int) == 67) = false := by simp; omega
      clear hl hq hq2 h67
      go_enter Tryd.func48, Tryd.ntmps48
      go_wp2_with (first
        | (with_reducible refine wpList_boxes (o := ⟨some 1, .box 50 (.tmp 0), _, _, _, _⟩) rfl 50 (.tmp 0) rfl _ rfl (sgc i C n cC P m cP) rfl ?_; intro w1 hb1 m1 z1; replace z1 := Lib.hid z1
           have e0 := hb1.cell 0
           have e1 := hb1.cell 1
           simp only [sgc, List.getElem?_cons_succ, List.getElem?_cons_zero] at e0 e1)
        | (go_at_call 39; refine (LF _).mono ?_; rintro e w3 ⟨rfl, rfl⟩))
      go_ret
      exact ⟨rfl, m1⟩
set_option maxRecDepth 100000 in
set_option maxHeartbeats 4000000 in
theorem right_c (i : Int) (C : Option Addr) (n cC : Nat) (P : Option Addr) (m cP : Nat) (w : World) : Calls Tryd.prog 31 #[.agg (sgc i C n cC P m cP).toArray] w fun r w' => r = .returned (.bool (mayB i n m)) ∧ Mod [] w w' := by
  by_cases h0 : i < 0
  · have hq2 : mayB i n m = false := by unfold mayB; rw [lfOk_no (by omega)]; rfl
    rw [hq2]
    clear hq2
    have hd : decide (0 ≤ i) = false := decide_eq_false (by omega)
    go_enter Tryd.func31, Tryd.ntmps31
    go_wp2_with (first
      | (with_reducible refine wpList_boxes (o := ⟨some 1, .box 50 (.tmp 0), _, _, _, _⟩) rfl 50 (.tmp 0) rfl _ rfl (sgc i C n cC P m cP) rfl ?_; intro w1 hb1 m1 z1; replace z1 := Lib.hid z1
         have e0 := hb1.cell 0
         have e1 := hb1.cell 1
         have e2 := hb1.cell 2
         simp only [sgc, List.getElem?_cons_succ, List.getElem?_cons_zero] at e0 e1 e2))
    go_ret
    exact ⟨rfl, m1⟩
  have hd0 : decide (0 ≤ i) = true := decide_eq_true (by omega)
  by_cases h8 : 8 ≤ i
  · have hq2 : mayB i n m = false := by unfold mayB; rw [lfOk_no (by omega)]; rfl
    rw [hq2]
    clear hq2
    have hd : decide (i < 8) = false := decide_eq_false (by omega)
    go_enter Tryd.func31, Tryd.ntmps31
    go_wp2_with (first
      | (with_reducible refine wpList_boxes (o := ⟨some 1, .box 50 (.tmp 0), _, _, _, _⟩) rfl 50 (.tmp 0) rfl _ rfl (sgc i C n cC P m cP) rfl ?_; intro w1 hb1 m1 z1; replace z1 := Lib.hid z1
         have e0 := hb1.cell 0
         have e1 := hb1.cell 1
         have e2 := hb1.cell 2
         simp only [sgc, List.getElem?_cons_succ, List.getElem?_cons_zero] at e0 e1 e2))
    go_ret
    exact ⟨rfl, m1⟩
  have hd8 : decide (i < 8) = true := decide_eq_true (by omega)
  obtain ⟨k, rfl⟩ : ∃ k : Nat, i = (k : Int) := ⟨i.toNat, by omega⟩
  have hk8 : k < 8 := by omega
  by_cases h67 : n = 67
  · subst h67
    by_cases h3 : m = 3
    · subst h3
      have hq2 : mayB (k : Int) 67 3 = true := by unfold mayB; rw [lfOk_yes hk8]; rfl
      rw [hq2]
      clear hq2
      go_enter Tryd.func31, Tryd.ntmps31
      go_wp2_with (first
        | (with_reducible refine wpList_boxes (o := ⟨some 1, .box 50 (.tmp 0), _, _, _, _⟩) rfl 50 (.tmp 0) rfl _ rfl (sgc k C 67 cC P 3 cP) rfl ?_; intro w1 hb1 m1 z1; replace z1 := Lib.hid z1
           have e0 := hb1.cell 0
           have e1 := hb1.cell 1
           have e2 := hb1.cell 2
           simp only [sgc, List.getElem?_cons_succ, List.getElem?_cons_zero] at e0 e1 e2))
      go_ret
      exact ⟨rfl, m1⟩
    · have hq2 : mayB (k : Int) 67 m = false := by unfold mayB; rw [decide_eq_false h3]; simp
      rw [hq2]
      have b3 : ((m : Int) == 3) = false := by simp; omega
      clear hq2
      go_enter Tryd.func31, Tryd.ntmps31
      go_wp2_with (first
        | (with_reducible refine wpList_boxes (o := ⟨some 1, .box 50 (.tmp 0), _, _, _, _⟩) rfl 50 (.tmp 0) rfl _ rfl (sgc k C 67 cC P m cP) rfl ?_; intro w1 hb1 m1 z1; replace z1 := Lib.hid z1
           have e0 := hb1.cell 0
           have e1 := hb1.cell 1
           have e2 := hb1.cell 2
           simp only [sgc, List.getElem?_cons_succ, List.getElem?_cons_zero] at e0 e1 e2))
      go_ret
      exact ⟨rfl, m1⟩
  · have hq2 : mayB (k : Int) n m = false := by unfold mayB; rw [decide_eq_false h67]; simp
    rw [hq2]
    have b3 : ((n : Int) == 67) = false := by simp; omega
    clear hq2
    go_enter Tryd.func31, Tryd.ntmps31
    go_wp2_with (first
      | (with_reducible refine wpList_boxes (o := ⟨some 1, .box 50 (.tmp 0), _, _, _, _⟩) rfl 50 (.tmp 0) rfl _ rfl (sgc k C n cC P m cP) rfl ?_; intro w1 hb1 m1 z1; replace z1 := Lib.hid z1
         have e0 := hb1.cell 0
         have e1 := hb1.cell 1
         have e2 := hb1.cell 2
         simp only [sgc, List.getElem?_cons_succ, List.getElem?_cons_zero] at e0 e1 e2))
    go_ret
    exact ⟨rfl, m1⟩
set_option maxRecDepth 100000 in
set_option maxHeartbeats 4000000 in
/-- Two like signatures are the same. -/
theorem same_c (i : Int) (l m : List Idv) (A B C D : Option Addr) (n k cA cB cC cD : Nat) (hn : n = l.length) (hk : k = m.length) (h1 : n ≤ 100) (h2 : k ≤ 100) (w : World) (RA : Cells w A (l.flatMap ic)) (RB : Cells w B (m.flatMap ic)) (RC : Cells w C (l.flatMap ic)) (RD : Cells w D (m.flatMap ic)) :
    Calls Tryd.prog 24 #[.agg (sgc i A n cA B k cB).toArray, .agg (sgc i C n cC D k cD).toArray] w fun r w' => r = .returned (.bool true) ∧ Mod [] w w' := by
  have S1 := fun v (mv : Mod [] w v) => lawSame_d l A C n cA cC hn h1 v (RA.keep mv (by simp)) (RC.keep mv (by simp))
  have S2 := fun v (mv : Mod [] w v) => lawSame_d m B D k cB cD hk h2 v (RB.keep mv (by simp)) (RD.keep mv (by simp))
  clear hn hk h1 h2 RA RB RC RD
  go_enter Tryd.func24, Tryd.ntmps24
  go_wp2_with (first
    | (with_reducible refine wpList_boxes (o := ⟨some 2, .box 50 (.tmp 0), _, _, _, _⟩) rfl 50 (.tmp 0) rfl _ rfl (sgc i A n cA B k cB) rfl ?_; intro w1 hb1 m1 z1; replace z1 := Lib.hid z1
       obtain ⟨g1, hg1⟩ : ∃ q, q = w.heap.size := ⟨_, rfl⟩
       rw [← hg1] at hb1 ⊢
       clear z1 hg1)
    | (with_reducible refine wpList_boxes (o := ⟨some 3, .box 50 (.tmp 1), _, _, _, _⟩) rfl 50 (.tmp 1) rfl _ rfl (sgc i C n cC D k cD) rfl ?_; intro w2 hb2 m2 z2; replace z2 := Lib.hid z2
       obtain ⟨g2, hg2⟩ : ∃ q, q = w1.heap.size := ⟨_, rfl⟩
       rw [← hg2] at hb2 ⊢
       replace hb1 := hb1.keep m2 (by simp)
       replace m1 := m1.then m2
       have e0 := hb1.cell 0
       have e1 := hb1.cell 1
       have e2 := hb1.cell 2
       have f0 := hb2.cell 0
       have f1 := hb2.cell 1
       have f2 := hb2.cell 2
       simp only [sgc, List.getElem?_cons_succ, List.getElem?_cons_zero] at e0 e1 e2 f0 f1 f2
       clear z2 hg2)
    | (go_at_call 17; first
       | (with_reducible refine Calls.mono (S1 _ m1) ?_
          rintro e w3 ⟨rfl, m3⟩
          replace hb1 := hb1.keep m3 (by simp)
          replace hb2 := hb2.keep m3 (by simp)
          replace m1 := m1.then m3
          have e2 := hb1.cell 2
          have f2 := hb2.cell 2
          simp only [sgc, List.getElem?_cons_succ, List.getElem?_cons_zero] at e2 f2)
       | (with_reducible refine Calls.mono (S2 _ m1) ?_
          rintro e w4 ⟨rfl, m4⟩
          replace m1 := m1.then m4)))
  go_ret
  exact ⟨rfl, m1⟩
end Go.Proofs.YtbacmeaeehhhfaaDoor
