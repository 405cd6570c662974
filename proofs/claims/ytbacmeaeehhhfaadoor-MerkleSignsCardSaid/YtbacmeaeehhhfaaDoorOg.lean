/-
  Package merkle: Encode; the law's own bytesOf. My own work.
-/
import Derived.Test.YtbacmeaeehhhfaaDoorOf
namespace Go.Proofs.YtbacmeaeehhhfaaDoor
open Go.RowKit Go.Shelf
set_option linter.unusedVariables false
set_option linter.unusedSimpArgs false
set_option maxRecDepth 100000 in
theorem run_headB (b : UInt8) (w : World) : (Instr.buildSlice 64 1 #[(0, .int .u8 (b.toNat : Int))]).run Tryd.prog w = .ok (.slice (some ⟨w.heap.size, 0, none⟩) 1 1) (w.alloc (.cells ([b].map oct).toArray 5)) := by
  go_simp
theorem exec_headB {a : Act} {o : Oper} {w : World} {x : Operand} {b : UInt8} (ho : o.op = .buildSlice 64 1 #[(0, x)]) (hx : a.eval x = .int .u8 (b.toNat : Int)) : (execOp a.eval o).run Tryd.prog w = .ok (.value (.slice (some ⟨w.heap.size, 0, none⟩) 1 1)) (w.alloc (.cells ([b].map oct).toArray 5)) := by
  unfold execOp
  simp only [ho, List.map_toArray, List.map_cons, List.map_nil, hx, Sem.run_bind, run_headB, Result.andThen, Sem.run_pure]
theorem mayB_yes {k n m : Nat} (hk : k < 8) (hn : n = 67) (hm : m = 3) : mayB (k : Int) n m = true := by unfold mayB; rw [lfOk_yes hk, hn, hm]; rfl
set_option maxRecDepth 100000 in
set_option maxHeartbeats 4000000 in
theorem Encode_no (i : Int) (C : Option Addr) (n cC : Nat) (P : Option Addr) (m cP : Nat) (h : mayB i n m = false) (w : World) : Calls Tryd.prog 30 #[.agg (sgc i C n cC P m cP).toArray] w fun r w' => r = .returned (.tuple #[.slice none 0 0, .int .i64 2]) ∧ Mod [] w w' := by
  have MB := fun v => mayBe_c i C n cC P m cP v
  rw [h] at MB
  clear h
  go_enter Tryd.func30, Tryd.ntmps30
  go_wp2_with (first
    | (with_reducible refine wpList_boxes (o := ⟨some 1, .box 50 (.tmp 0), _, _, _, _⟩) rfl 50 (.tmp 0) rfl _ rfl (sgc i C n cC P m cP) rfl ?_; intro w1 hb1 m1 z1
       obtain ⟨b1, hq1⟩ : ∃ q, q = w.heap.size := ⟨_, rfl⟩
       rw [← hq1] at hb1 ⊢
       clear z1 hq1)
    | (with_reducible refine wpList_loads (o := ⟨some 5, .load 50 (.tmp 1), _, _, _, _⟩) rfl 50 (.tmp 1) rfl b1 0 _ rfl (Cells.of_holds hb1) _ Tryd.underlying50 rfl (size50s _ _ _ _ _ _ _) (.agg (sgc i C n cC P m cP).toArray) rfl ?_)
    | (go_at_call 48; refine (MB _).mono ?_; rintro e w3 ⟨rfl, m3⟩))
  go_ret2
  exact ⟨rfl, m1.then m3⟩
structure XE where
  A : Option Addr
  c : Nat
  B : Option Addr
  d : Nat
set_option maxRecDepth 100000 in
set_option maxHeartbeats 4000000 in
theorem Encode_yes (k : Nat) (hk : k < 8) (C : Option Addr) (cC : Nat) (P : Option Addr) (cP : Nat) (l m : List Idv) (hl : l.length = 67) (hm : m.length = 3) (w : World) (RC : Cells w C (l.flatMap ic)) (RP : Cells w P (m.flatMap ic)) (hC : ∀ a, C = some a → a.block < w.heap.size) (hP : ∀ a, P = some a → a.block < w.heap.size) :
    Calls Tryd.prog 30 #[.agg (sgc (k : Int) C 67 cC P 3 cP).toArray] w fun r w' => ∃ A c, r = .returned (.tuple #[.slice A 2241 c, .int .i64 0]) ∧ Owns w' w.heap.size 5 A c (sgB k l m) ∧ Mod [] w w' := by
  have hw1 := u8_in k (by omega)
  obtain ⟨u, hu⟩ : ∃ u, u = UInt8.ofNat k := ⟨_, rfl⟩
  obtain ⟨L1, hL1⟩ : ∃ L, L = [u] ++ flatI l := ⟨_, rfl⟩
  obtain ⟨L2, hL2⟩ : ∃ L, L = L1 ++ flatI m := ⟨_, rfl⟩
  have hs : sgB k l m = L2 := by rw [hL2, hL1, hu]; simp [sgB]
  have hl1 : L1.length = 2145 := by rw [hL1, List.length_append, flatI_length, hl]; rfl
  have hl2 : L2.length = 2241 := by rw [hL2, List.length_append, flatI_length, hm, hl1]
  rw [hs]
  rw [← hu] at hw1
  have HL : Hid ([u] ++ flatI l = L1 ∧ L1 ++ flatI m = L2 ∧ ([u] ++ flatI l).length = 2145 ∧ (L1 ++ flatI m).length = 2241) := Lib.hid ⟨hL1.symm, hL2.symm, by rw [← hL1]; exact hl1, by rw [← hL2]; exact hl2⟩
  have MB := fun v => mayBe_c (k : Int) C 67 cC P 3 cP v
  rw [mayB_yes hk rfl rfl] at MB
  obtain ⟨i0, hi0, hz0, hz1, hz2⟩ := info_parts u8_zero
  have HI := Lib.hid (And.intro hi0 (And.intro hz0 (And.intro hz1 hz2)))
  have LA := fun (b : Nat) (A0 : Option Addr) (c0 : Nat) v (hb : b ≤ v.heap.size) (O : Owns v b 5 A0 c0 [u]) (R : Cells v C (l.flatMap ic)) (hL : ∀ a, C = some a → a.block < b) => laid_c b A0 1 c0 [u] rfl C l 67 cC hl.symm (by decide) (by decide) v hb O R hL
  have LB := fun (b : Nat) (A0 : Option Addr) (c0 : Nat) v (hb : b ≤ v.heap.size) (O : Owns v b 5 A0 c0 L1) (R : Cells v P (m.flatMap ic)) (hL : ∀ a, P = some a → a.block < b) => laid_c b A0 2145 c0 L1 hl1.symm P m 3 cP hm.symm (by decide) (by decide) v hb O R hL
  have HR := Lib.hid (And.intro RC (And.intro RP (And.intro hC hP)))
  clear hs hu hL1 hL2 hl hm hl1 hl2 hk hi0 hz0 hz1 hz2 RC RP hC hP
  go_enter Tryd.func30, Tryd.ntmps30
  go_wp2_with (first
    | (with_reducible refine wpList_boxes (o := ⟨some 1, .box 50 (.tmp 0), _, _, _, _⟩) rfl 50 (.tmp 0) rfl _ rfl (sgc (k : Int) C 67 cC P 3 cP) rfl ?_; intro w1 hb1 m1 z1
       obtain ⟨b1, hq1⟩ : ∃ q, q = w.heap.size := ⟨_, rfl⟩
       rw [← hq1] at hb1 ⊢
       have hbw : b1 < w1.heap.size := by omega
       replace hq1 := Lib.hid hq1
       clear z1)
    | (with_reducible refine wpList_loads (o := ⟨some 5, .load 50 (.tmp 1), _, _, _, _⟩) rfl 50 (.tmp 1) rfl b1 0 _ rfl (Cells.of_holds hb1) _ Tryd.underlying50 rfl (size50s _ _ _ _ _ _ _) (.agg (sgc (k : Int) C 67 cC P 3 cP).toArray) rfl ?_)
    | (go_at_call 48; refine (MB _).mono ?_; rintro e w3 ⟨rfl, m3⟩
       replace hb1 := hb1.keep m3 (by simp)
       have mm := m1.then m3
       have hbw3 : b1 < w3.heap.size := by have := m3.size; omega
       have e0 := hb1.cell 0
       simp only [sgc, List.getElem?_cons_zero] at e0
       clear MB m1 m3 hbw)
    | (at_make; refine wpList_make0 (o := ⟨some 8, .makeSlice _ _ _, _, _, _, _⟩) _ rfl _ _ 64 rfl 5 i0 (.int .u8 0) Tryd.underlying64 HI.out.1 HI.out.2.1 HI.out.2.2.1 1 HI.out.2.2.2 rfl (2241 : Int) 2241 rfl rfl rfl (by decide) (by decide) ?_
       intro w4 hw4 hm4 hs4
       have hO := Owns.of_made (B := w3.heap.size) hw4 (Nat.le_refl _) (by decide)
       obtain ⟨Y, hY⟩ : ∃ Y : Option Addr, Y = some ⟨w3.heap.size, 0, none⟩ := ⟨_, rfl⟩
       obtain ⟨B0, hB0⟩ : ∃ B, B = w3.heap.size := ⟨_, rfl⟩
       rw [← hY] at hO ⊢
       rw [← hB0] at hO
       have hwB : w.heap.size ≤ B0 := by rw [hB0]; exact mm.size
       have hB4 : B0 ≤ w4.heap.size := by rw [hB0]; exact hm4.size
       have hb1B : b1 < B0 := by rw [hB0]; exact hbw3
       replace hb1 := hb1.keep hm4 (by simp)
       replace mm := mm.then hm4
       have e0 := hb1.cell 0
       simp only [sgc, List.getElem?_cons_zero] at e0
       replace hY := Lib.hid hY
       clear hs4 hw4 hm4 hB0 hbw3)
    | (with_reducible refine wpList_made (o := ⟨some 13, .buildSlice 64 1 _, _, _, _, _⟩) (by with_unfolding_all rfl) _ 5 ([u].map oct) (exec_headB rfl rfl) ?_
       intro w5 hb5 m5 z5
       obtain ⟨b5, hq5⟩ : ∃ q, q = w4.heap.size := ⟨_, rfl⟩
       rw [← hq5] at hb5 ⊢
       have R5 := Reads.of_holds hb5
       replace hO := hO.keep m5 (by simp)
       replace hb1 := hb1.keep m5 (by simp)
       replace mm := mm.then m5
       have hB5 : B0 ≤ w5.heap.size := Nat.le_trans hB4 m5.size
       clear z5 hq5 m5 hb5)
    | (at_builtin; go_loud (refine wpList_appends w5 (o := ⟨some 14, _, _, _, _, _⟩) rfl (.tmp 9) (.tmp 13) 64 rfl 5 i0 (.int .u8 0) 1 Tryd.underlying64 HI.out.1 HI.out.2.1 HI.out.2.2.1 HI.out.2.2.2 rfl B0 hB5 Y 0 2241 [] rfl rfl hO (some ⟨b5, 0, none⟩) 1 1 [u] rfl rfl R5 (by simp) (by simp [maxLen]) ?_)
       intro Y1 c1 w6 hO3 m6 q6
       rw [List.nil_append] at hO3
       have hYb : ∀ i ∈ blk Y, B0 ≤ i := fun i hi => by obtain ⟨a, ha, rfl⟩ := mem_blk hi; exact (hO.fits.2.2 a ha).1
       have k1 := hb1.keep m6 (fun hi => by have := hYb _ hi; omega)
       have mm6 : Mod [] w w6 := far_mod mm m6 (fun i hi => by have := hYb i hi; omega)
       have hB6 : B0 ≤ w6.heap.size := Nat.le_trans hB5 m6.size
       clear hO R5 m6 q6 hb1 mm))
  obtain ⟨A0, hA0⟩ : ∃ A, A = Y1 := ⟨_, rfl⟩
  obtain ⟨c0, hc0⟩ : ∃ c, c = c1 := ⟨_, rfl⟩
  obtain ⟨wq, hwq⟩ : ∃ v, v = w6 := ⟨_, rfl⟩
  rw [← hwq, ← hA0, ← hc0] at hO3
  rw [← hwq] at k1 mm6 hB6
  rw [← hwq, ← hA0, ← hc0]
  clear hwq hA0 hc0
  have O0 : Owns wq.drew B0 5 A0 c0 [u] := hO3.keep (Mod.drew [] wq) (by simp)
  replace k1 : Holds wq.drew b1 50 (sgc (k : Int) C 67 cC P 3 cP) := k1.keep (Mod.drew [] wq) (by simp)
  have hb1 := hb1B
  have MQ : Mod [] w wq.drew := mm6.then (Mod.drew [] wq)
  have FB : ∀ v, FromB B0 wq.drew v → B0 ≤ v.heap.size := fun v h => Nat.le_trans hB6 h.size
  have FT : ∀ v v', FromB B0 wq.drew v → FromB B0 v v' → FromB B0 wq.drew v' := fun v v' h h' => h.step h' (fun i hi => (mem_abv.1 hi).2)
  replace LA := fun v (h : FromB B0 wq.drew v) (O : Owns v B0 5 A0 c0 [u]) => LA B0 A0 c0 v (FB v h) O (h.cells (HR.out.1.keep MQ (by simp)) (fun a ha => Nat.lt_of_lt_of_le (HR.out.2.2.1 a ha) hwB)) (fun a ha => Nat.lt_of_lt_of_le (HR.out.2.2.1 a ha) hwB)
  replace LB := fun A c v (h : FromB B0 wq.drew v) (O : Owns v B0 5 A c L1) => LB B0 A c v (FB v h) O (h.cells (HR.out.2.1.keep MQ (by simp)) (fun a ha => Nat.lt_of_lt_of_le (HR.out.2.2.2 a ha) hwB)) (fun a ha => Nat.lt_of_lt_of_le (HR.out.2.2.2 a ha) hwB)
  clear hO3 mm6 hB6 hB4 hB5
  refine wp_region_upx (X := XE) ⟨none, 0, none, 0⟩ (fun x => [(15, .slice A0 1 c0), (16, .pointer (some ⟨b1, 1, none⟩)), (17, .slice C 67 cC), (18, .slice x.A 2145 x.c), (19, .pointer (some ⟨b1, 2, none⟩)), (20, .slice P 3 cP), (21, .slice x.B 2241 x.d), (2, .slice x.B 2241 x.d), (3, .int .i64 0)]) 22 [15, 16, 17, 18, 19, 20, 21, 2, 3] rfl (fun _ => rfl) (by decide) (by kernel_rfl) (fun x lz v => FromB B0 wq.drew v ∧ (lz 3 = false → Owns v B0 5 A0 c0 [u]) ∧ (lz 3 = true → lz 6 = false → Owns v B0 5 x.A x.c L1) ∧ (lz 6 = true → Owns v B0 5 x.B x.d L2)) (by kernel_rfl) ⟨FromB.refl _ _, fun _ => O0, (fun h => by cases h), (fun h => by cases h)⟩ (by kernel_rfl) (by kernel_rfl) ?step ?fin
  case step =>
    intro x lz T v j o hj hlj hdep hst hpar hgot hcl Kq hK
    have hjn : j < 9 := (Array.getElem?_eq_some_iff.1 hj).1
    obtain rfl | rfl | rfl | rfl | rfl | rfl | rfl | rfl | rfl : j = 0 ∨ j = 1 ∨ j = 2 ∨ j = 3 ∨ j = 4 ∨ j = 5 ∨ j = 6 ∨ j = 7 ∨ j = 8 := by omega
    all_goals (have hj' := Option.some.inj (hj : some _ = some o); subst hj'; clear hj)
    · exact wp_ran rfl (exec_move rfl (eval_tmp ((hpar 4 rfl).trans rfl))) (hK x _ _ (fun _ _ _ _ _ _ => rfl) (fun s hs => by cases hs; rfl) (by simpa using hst))
    · exact wp_ran rfl (exec_fg1 rfl (eval_tmp ((hpar 1 rfl).trans rfl))) (hK x _ _ (fun _ _ _ _ _ _ => rfl) (fun s hs => by cases hs; rfl) (by simpa using hst))
    · exact wp_ran rfl (exec_load rfl (eval_tmp (hgot 1 _ 16 rfl (hdep ⟨1, .data⟩ (by simp) rfl) rfl)) (run_load1 Tryd.underlying33 rfl (by simpa [sgc] using (hst.1.holds k1 hb1).cell 1))) (hK x _ _ (fun _ _ _ _ _ _ => rfl) (fun s hs => by cases hs; rfl) (by simpa using hst))
    · have l6 : lz 6 = false := (by cases hh : lz 6 with | false => rfl | true => exact absurd (hcl 6 _ rfl hh ⟨3, .data⟩ (by simp) rfl) (by rw [hlj]; simp))
      have O := hst.2.1 hlj
      refine wp_called rfl (exec_call2 rfl rfl (eval_tmp (hgot 0 _ 15 rfl (hdep ⟨0, .data⟩ (by simp) rfl) rfl)) (eval_tmp (hgot 2 _ 17 rfl (hdep ⟨2, .data⟩ (by simp) rfl) rfl)) (enters_of Tryd.func50 (by kernel_rfl) rfl)) ((LA v hst.1 O).mono ?_)
      rintro e v' ⟨A', c', n', rfl, hn', hO', m2⟩
      have hn2 := hn'.trans HL.out.2.2.1
      subst hn2
      rw [HL.out.1] at hO'
      exact ⟨_, rfl, hK { x with A := A', c := c' } _ _ (fun j' o' s' g1 g2 g3 => by
          have g4 : j' < 9 := (Array.getElem?_eq_some_iff.1 g1).1
          clear hpar hgot hdep hK
          obtain rfl | rfl | rfl | rfl | rfl | rfl | rfl | rfl | rfl : j' = 0 ∨ j' = 1 ∨ j' = 2 ∨ j' = 3 ∨ j' = 4 ∨ j' = 5 ∨ j' = 6 ∨ j' = 7 ∨ j' = 8 := by omega
          all_goals (cases g1; cases g3 <;> first | rfl | (rw [hlj] at g2; cases g2) | (rw [l6] at g2; cases g2))) (fun s hs => by cases hs; rfl) ⟨FT v v' hst.1 m2, (fun h => by simp at h), fun _ _ => hO', fun h => by simp [l6] at h⟩⟩
    · exact wp_ran rfl (exec_fg2 rfl (eval_tmp ((hpar 1 rfl).trans rfl))) (hK x _ _ (fun _ _ _ _ _ _ => rfl) (fun s hs => by cases hs; rfl) (by simpa using hst))
    · exact wp_ran rfl (exec_load rfl (eval_tmp (hgot 4 _ 19 rfl (hdep ⟨4, .data⟩ (by simp) rfl) rfl)) (run_load1 Tryd.underlying33 rfl (by simpa [sgc] using (hst.1.holds k1 hb1).cell 2))) (hK x _ _ (fun _ _ _ _ _ _ => rfl) (fun s hs => by cases hs; rfl) (by simpa using hst))
    · have l7 : lz 7 = false := (by cases hh : lz 7 with | false => rfl | true => exact absurd (hcl 7 _ rfl hh ⟨6, .data⟩ (by simp) rfl) (by rw [hlj]; simp))
      have l3 : lz 3 = true := hdep ⟨3, .data⟩ (by simp) rfl
      have O := hst.2.2.1 l3 hlj
      refine wp_called rfl (exec_call2 rfl rfl (eval_tmp (hgot 3 _ 18 rfl (hdep ⟨3, .data⟩ (by simp) rfl) rfl)) (eval_tmp (hgot 5 _ 20 rfl (hdep ⟨5, .data⟩ (by simp) rfl) rfl)) (enters_of Tryd.func50 (by kernel_rfl) rfl)) ((LB x.A x.c v hst.1 O).mono ?_)
      rintro e v' ⟨A', c', n', rfl, hn', hO', m2⟩
      have hn2 := hn'.trans HL.out.2.2.2
      subst hn2
      rw [HL.out.2.1] at hO'
      exact ⟨_, rfl, hK { x with B := A', d := c' } _ _ (fun j' o' s' g1 g2 g3 => by
          have g4 : j' < 9 := (Array.getElem?_eq_some_iff.1 g1).1
          clear hpar hgot hdep hK
          obtain rfl | rfl | rfl | rfl | rfl | rfl | rfl | rfl | rfl : j' = 0 ∨ j' = 1 ∨ j' = 2 ∨ j' = 3 ∨ j' = 4 ∨ j' = 5 ∨ j' = 6 ∨ j' = 7 ∨ j' = 8 := by omega
          all_goals (cases g1; cases g3 <;> first | rfl | (rw [hlj] at g2; cases g2) | (rw [l7] at g2; cases g2))) (fun s hs => by cases hs; rfl) ⟨FT v v' hst.1 m2, (fun h => by simp [l3] at h), (fun _ h => by simp at h), fun _ => hO'⟩⟩
    · exact wp_ran rfl (exec_assign rfl (eval_tmp (hgot 6 _ 21 rfl (hdep ⟨6, .data⟩ (by simp) rfl) rfl))) (hK x _ _ (fun _ _ _ _ _ _ => rfl) (fun s hs => by cases hs; rfl) (by simpa using hst))
    · exact wp_ran rfl (exec_assign rfl rfl) (hK x _ _ (fun _ _ _ _ _ _ => rfl) (fun s hs => by cases hs; rfl) (by simpa using hst))
  case fin =>
  intro x lz vr hlz hst
  have O := hst.2.2.2 (hlz 6 (by decide))
  have mq := hst.1
  clear hst hlz
  simp only [setAll, List.foldl_cons, List.foldl_nil, List.set_cons_succ, List.set_cons_zero]
  go_wp2_with fail
  go_ret2
  refine ⟨_, _, rfl, ⟨O.1, ?_⟩, FromB.far MQ mq hwB⟩
  rcases O.2 with h0 | ⟨g, cap, cur, hv, hb, rest⟩
  · exact .inl h0
  · exact .inr ⟨g, cap, cur, hv, Nat.le_trans hwB hb, rest⟩
set_option maxRecDepth 100000 in
set_option maxHeartbeats 4000000 in
theorem bytesOf_c (k : Nat) (hk : k < 8) (C : Option Addr) (cC : Nat) (P : Option Addr) (cP : Nat) (l m : List Idv) (hl : l.length = 67) (hm : m.length = 3) (w : World) (RC : Cells w C (l.flatMap ic)) (RP : Cells w P (m.flatMap ic)) (hC : ∀ a, C = some a → a.block < w.heap.size) (hP : ∀ a, P = some a → a.block < w.heap.size) :
    Calls Tryd.prog 33 #[.agg (sgc (k : Int) C 67 cC P 3 cP).toArray] w fun r w' => ∃ A c, r = .returned (.slice A 2241 c) ∧ Reads w' A (sgB k l m) ∧ Mod [] w w' := by
  have hw1 := u8_in k (by omega)
  obtain ⟨u, hu⟩ : ∃ u, u = UInt8.ofNat k := ⟨_, rfl⟩
  obtain ⟨L1, hL1⟩ : ∃ L, L = [u] ++ flatI l := ⟨_, rfl⟩
  have hs : sgB k l m = L1 ++ flatI m := by rw [hL1, hu]; simp [sgB]
  have hl1 : L1.length = 2145 := by rw [hL1, List.length_append, flatI_length, hl]; rfl
  rw [hs]
  rw [← hu] at hw1
  obtain ⟨mm, hmm⟩ : ∃ q, q = m := ⟨_, rfl⟩
  rw [← hmm] at hm RP ⊢
  have HL : Hid (l.length = 67 ∧ mm.length = 3 ∧ L1.length = 2145) := Lib.hid ⟨hl, hm, hl1⟩
  have HE : Hid (L1 = [u] ++ flatI l) := Lib.hid hL1
  obtain ⟨i0, hi0, hz0, hz1, hz2⟩ := info_parts u8_zero
  have HI := Lib.hid (And.intro hi0 (And.intro hz0 (And.intro hz1 hz2)))
  have HR := Lib.hid (And.intro RC (And.intro RP (And.intro hC hP)))
  clear hs hu hL1 hl hm hl1 hk hi0 hz0 hz1 hz2 RC RP hC hP hmm
  go_enter Tryd.func33, Tryd.ntmps33
  go_wp2_with (first
    | (with_reducible refine wpList_boxes (o := ⟨some 1, .box 50 (.tmp 0), _, _, _, _⟩) rfl 50 (.tmp 0) rfl _ rfl (sgc (k : Int) C 67 cC P 3 cP) rfl ?_; intro w1 hb1 m1 z1
       obtain ⟨b1, hq1⟩ : ∃ q, q = w.heap.size := ⟨_, rfl⟩
       rw [← hq1] at hb1 ⊢
       have hbw : b1 < w1.heap.size := by omega
       have hww : w.heap.size ≤ w1.heap.size := m1.size
       have e0 := hb1.cell 0
       have e1 := hb1.cell 1
       have e2 := hb1.cell 2
       simp only [sgc, List.getElem?_cons_succ, List.getElem?_cons_zero] at e0 e1 e2
       clear z1 hq1)
    | (with_reducible refine wpList_made (o := ⟨some 11, .buildSlice 64 1 _, _, _, _, _⟩) (by with_unfolding_all rfl) _ 5 ([u].map oct) (exec_headB rfl rfl) ?_
       intro w5 hb5 m5 z5
       obtain ⟨B0, hq5⟩ : ∃ q, q = w1.heap.size := ⟨_, rfl⟩
       rw [← hq5] at hb5 hbw hww ⊢
       have hO := Owns.of_holds (B := B0) hb5 (Nat.le_refl _) (by simp [maxLen])
       replace hb1 := hb1.keep m5 (by simp)
       have mm5 := m1.then m5
       have hB0 : B0 ≤ w5.heap.size := by omega
       have e1 := hb1.cell 1
       have e2 := hb1.cell 2
       simp only [sgc, List.getElem?_cons_succ, List.getElem?_cons_zero] at e1 e2
       clear z5 hq5 m5 hb5 m1))
  obtain ⟨Y0, hY0⟩ : ∃ Y : Option Addr, Y = some ⟨B0, 0, none⟩ := ⟨_, rfl⟩
  rw [← hY0] at hO ⊢
  clear hY0
  obtain ⟨wq, hwq⟩ : ∃ v, v = w5 := ⟨_, rfl⟩
  rw [← hwq] at hb1 hO mm5 hB0 e1 e2 ⊢
  clear hwq
  have R1 := HR.out.1.keep mm5 (by simp)
  have R2 := HR.out.2.1.keep mm5 (by simp)
  have R3 := fun a (ha : C = some a) => Nat.lt_of_lt_of_le (HR.out.2.2.1 a ha) hww
  have R4 := fun a (ha : P = some a) => Nat.lt_of_lt_of_le (HR.out.2.2.2 a ha) hww
  have HW := Lib.hid (And.intro R1 (And.intro R2 (And.intro R3 (And.intro R4 (And.intro mm5 (And.intro hb1 hww))))))
  clear R1 R2 R3 R4 HR mm5 hww
  go_wp2_with fail
  go_loopw [3, 15] (fun x i wi => ∃ (k : Nat) (A : Option Addr) (c m : Nat), k ≤ 67 ∧ i = .int .i64 (k : Int) ∧ x = .slice A m c ∧ m = ([u] ++ flatI (l.take k)).length ∧ Owns wi B0 5 A c ([u] ++ flatI (l.take k)) ∧ FromB B0 wq wi) (fun _ i _ => 67 - (intOf i).toNat)
  case atStart => exact ⟨0, Y0, 1, 1, by omega, rfl, rfl, by simp [flatI], by simpa [flatI] using hO, FromB.refl _ _⟩
  case round =>
    obtain ⟨k, A1, c, m, hk, rfl, rfl, hm, hOw, hmi⟩ := hrel
    by_cases hkn : k < 67
    · have hkl : k < l.length := by have := HL.out; omega
      have hkZ : (k : Int) < 67 := by omega
      have RAi := hmi.cells HW.out.1 HW.out.2.2.1
      obtain ⟨ga, oa, hLe, hci⟩ := RAi.elem' ic 32 (by omega) ic_length k hkl
      subst hLe
      have hsn := flatI_snoc l k hkl
      have hml : m ≤ 8000 := by have := HL.out; have h1u : [u].length = 1 := rfl; rw [hm, List.length_append, flatI_length, List.length_take]; omega
      have hBi : B0 ≤ wr.heap.size := Nat.le_trans hB0 hmi.size
      obtain ⟨p, hp⟩ : ∃ p, p = l[k] := ⟨_, rfl⟩
      rw [← hp] at hci hsn
      have HP := Lib.hid (And.intro hsn (And.intro hm (And.intro hOw (And.intro hmi (And.intro hml hBi)))))
      clear hp hsn hm hOw hml hmi hBi RAi
      go_wp2_with (first
        | (with_reducible refine wpList_loads (o := ⟨some 18, .load 23 (.tmp 17), _, _, _, _⟩) rfl 23 (.tmp 17) rfl ga (oa + k * 32) _ rfl hci _ Tryd.underlying23 rfl (size25i p) (iv p) rfl ?_)
        | (with_reducible refine wpList_allocs (o := ⟨some 5, .alloc 23, _, _, _, _⟩) rfl 23 rfl _ zeroI_25 ?_; intro w2 hb2 m2 z2; replace z2 := Lib.hid z2)
        | (with_reducible refine wpList_storesAll (o := ⟨none, .store 23 (.tmp 5) (.tmp 18), _, _, _, _⟩) rfl 23 (.tmp 5) (.tmp 18) rfl rfl wr.heap.size (ic p) rfl (iv p) rfl rfl 23 _ hb2 (by rw [ic_length, ic_length]) (ic_one p) (size25i p) ?_
           intro w3 hb3 m3 z3
           have mx : Mod [] wr w3 := m2.trans m3 (by intro i hi h; simp at h; omega)
           obtain ⟨bx, hbx⟩ : ∃ b, b = wr.heap.size := ⟨_, rfl⟩
           rw [← hbx] at hb3
           rw [← hbx]
           have hR : Reads w3 (some ⟨bx, 0, none⟩) p.1 := Reads.of_holds hb3
           have O3 := HP.out.2.2.1.keep mx (by simp)
           have hdl : p.1.length = 32 := p.2
           replace z3 := Lib.hid z3
           replace hbx := Lib.hid hbx
           clear hb2 m2 m3)
        | (at_builtin; refine wpList_appends w3 (o := ⟨some 21, _, _, _, _, _⟩) rfl (.tmp 19) (.tmp 20) 64 rfl 5 i0 (.int .u8 0) 1 Tryd.underlying64 HI.out.1 HI.out.2.1 HI.out.2.2.1 HI.out.2.2.2 rfl B0 (Nat.le_trans HP.out.2.2.2.2.2 mx.size) A1 m c ([u] ++ flatI (l.take k)) rfl HP.out.2.1 O3 (some ⟨bx, 0, none⟩) 32 32 p.1 rfl hdl.symm hR (by rw [← HP.out.2.1, hdl]; have := HP.out.2.2.2.2.1; omega) (by rw [← HP.out.2.1, hdl]; have := HP.out.2.2.2.2.1; unfold maxLen; omega) ?_
           intro A' c' w4 hO4 m4 q4))
      have hA4 : ∀ i ∈ blk A1, B0 ≤ i := fun i hi => by obtain ⟨a, ha, rfl⟩ := mem_blk hi; exact (O3.fits.2.2 a ha).1
      refine ⟨⟨k + 1, A', c', _, by omega, by go_num, rfl, by rw [HP.out.1]; simp only [List.length_append, List.length_cons, List.length_nil, p.2]; try omega, by rw [HP.out.1, ← List.append_assoc]; exact hO4, (HP.out.2.2.2.1.step mx (by simp)).step m4 hA4⟩, by simp [intOf]; omega⟩
    · obtain rfl : k = 67 := by omega
      have hall : l.take 67 = l := List.take_of_length_le (by have := HL.out; omega)
      rw [hall] at hm hOw
      rw [← HE.out] at hm hOw
      have hb1i := hmi.holds HW.out.2.2.2.2.2.1 hbw
      have e2 := hb1i.cell 2
      simp only [sgc, List.getElem?_cons_succ, List.getElem?_cons_zero] at e2
      clear hO e1 hkn hb1i
      go_wp2_with fail
      go_loopw [3, 26] (fun x i wi => ∃ (k : Nat) (A : Option Addr) (c m : Nat), k ≤ 3 ∧ i = .int .i64 (k : Int) ∧ x = .slice A m c ∧ m = (L1 ++ flatI (mm.take k)).length ∧ Owns wi B0 5 A c (L1 ++ flatI (mm.take k)) ∧ FromB B0 wq wi) (fun _ i _ => 3 - (intOf i).toNat)
      case atStart => exact ⟨0, A1, c, m, by omega, rfl, rfl, by simpa [flatI] using hm, by simpa [flatI] using hOw, hmi⟩
      case round =>
        obtain ⟨k, A1, c, m, hk, rfl, rfl, hm, hOw, hmi⟩ := hrel
        by_cases hkn : k < 3
        · have hkl : k < mm.length := by have := HL.out; omega
          have hkZ : (k : Int) < 3 := by omega
          have RAi := hmi.cells HW.out.2.1 HW.out.2.2.2.1
          obtain ⟨ga, oa, hLe, hci⟩ := RAi.elem' ic 32 (by omega) ic_length k hkl
          subst hLe
          have hsn := flatI_snoc mm k hkl
          have hml : m ≤ 8000 := by have := HL.out; have h1u : [u].length = 1 := rfl; rw [hm, List.length_append, flatI_length, List.length_take]; omega
          have hBi : B0 ≤ wr.heap.size := Nat.le_trans hB0 hmi.size
          obtain ⟨p, hp⟩ : ∃ p, p = mm[k] := ⟨_, rfl⟩
          rw [← hp] at hci hsn
          have HP := Lib.hid (And.intro hsn (And.intro hm (And.intro hOw (And.intro hmi (And.intro hml hBi)))))
          clear hp hsn hm hOw hml hmi hBi RAi
          go_wp2_with (first
            | (with_reducible refine wpList_loads (o := ⟨some 29, .load 23 (.tmp 28), _, _, _, _⟩) rfl 23 (.tmp 28) rfl ga (oa + k * 32) _ rfl hci _ Tryd.underlying23 rfl (size25i p) (iv p) rfl ?_)
            | (with_reducible refine wpList_allocs (o := ⟨some 7, .alloc 23, _, _, _, _⟩) rfl 23 rfl _ zeroI_25 ?_; intro w2 hb2 m2 z2; replace z2 := Lib.hid z2)
            | (with_reducible refine wpList_storesAll (o := ⟨none, .store 23 (.tmp 7) (.tmp 29), _, _, _, _⟩) rfl 23 (.tmp 7) (.tmp 29) rfl rfl wr.heap.size (ic p) rfl (iv p) rfl rfl 23 _ hb2 (by rw [ic_length, ic_length]) (ic_one p) (size25i p) ?_
               intro w3 hb3 m3 z3
               have mx : Mod [] wr w3 := m2.trans m3 (by intro i hi h; simp at h; omega)
               obtain ⟨bx, hbx⟩ : ∃ b, b = wr.heap.size := ⟨_, rfl⟩
               rw [← hbx] at hb3
               rw [← hbx]
               have hR : Reads w3 (some ⟨bx, 0, none⟩) p.1 := Reads.of_holds hb3
               have O3 := HP.out.2.2.1.keep mx (by simp)
               have hdl : p.1.length = 32 := p.2
               replace z3 := Lib.hid z3
               replace hbx := Lib.hid hbx
               clear hb2 m2 m3)
            | (at_builtin; refine wpList_appends w3 (o := ⟨some 32, _, _, _, _, _⟩) rfl (.tmp 30) (.tmp 31) 64 rfl 5 i0 (.int .u8 0) 1 Tryd.underlying64 HI.out.1 HI.out.2.1 HI.out.2.2.1 HI.out.2.2.2 rfl B0 (Nat.le_trans HP.out.2.2.2.2.2 mx.size) A1 m c (L1 ++ flatI (mm.take k)) rfl HP.out.2.1 O3 (some ⟨bx, 0, none⟩) 32 32 p.1 rfl hdl.symm hR (by rw [← HP.out.2.1, hdl]; have := HP.out.2.2.2.2.1; omega) (by rw [← HP.out.2.1, hdl]; have := HP.out.2.2.2.2.1; unfold maxLen; omega) ?_
               intro A' c' w4 hO4 m4 q4))
          have hA4 : ∀ i ∈ blk A1, B0 ≤ i := fun i hi => by obtain ⟨a, ha, rfl⟩ := mem_blk hi; exact (O3.fits.2.2 a ha).1
          refine ⟨⟨_, _, _, _, _, _, _, _, _, _, ?rel, rfl⟩, ?me⟩
          case me => simp [intOf]; omega
          refine ⟨k + 1, A', c', _, by omega, by go_num, rfl, by rw [HP.out.1]; simp only [List.length_append, List.length_cons, List.length_nil, p.2]; try omega, by rw [HP.out.1, ← List.append_assoc]; exact hO4, (HP.out.2.2.2.1.step mx (by simp)).step m4 hA4⟩
        · obtain rfl : k = 3 := by omega
          have hall : mm.take 3 = mm := List.take_of_length_le (by have := HL.out; omega)
          rw [hall] at hm hOw
          have hlen : m = 2241 := by rw [hm, List.length_append, flatI_length]; have := HL.out; omega
          subst hlen
          go_wp2_with fail
          go_ret
          exact ⟨_, _, rfl, hOw.reads, FromB.far HW.out.2.2.2.2.1 hmi HW.out.2.2.2.2.2.2⟩
end Go.Proofs.YtbacmeaeehhhfaaDoor
