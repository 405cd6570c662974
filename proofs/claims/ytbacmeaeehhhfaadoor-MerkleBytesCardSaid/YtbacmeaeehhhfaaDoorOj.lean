/-
  MerkleBytes: the walk. My own work.
-/
import Derived.Test.YtbacmeaeehhhfaaDoorOi
import Derived.Test.YtbacmeaeehhhfaaDoorOc
namespace Go.Proofs.YtbacmeaeehhhfaaDoor
open Go.RowKit Go.Shelf
set_option linter.unusedVariables false
set_option linter.unusedSimpArgs false
theorem exec_none64 {v : World} {o : Oper} {ρ : Operand → Value} (ho : o.op = .buildSlice 64 0 #[]) : (execOp ρ o).run Tryd.prog v = .ok (.value (.slice (some ⟨v.heap.size, 0, none⟩) 0 0)) (v.alloc (.cells (([] : List UInt8).map oct).toArray 5)) := by
  have hr : (Instr.buildSlice 64 0 #[]).run Tryd.prog v = .ok (.slice (some ⟨v.heap.size, 0, none⟩) 0 0) (v.alloc (.cells (([] : List UInt8).map oct).toArray 5)) := by kernel_rfl
  unfold execOp
  simp only [ho, List.map_toArray, List.map_nil, Sem.run_bind, hr, Result.andThen, Sem.run_pure]
structure XB where
  A : Option Addr
  c : Nat
  B : Option Addr
  d : Nat
  E : Option Addr
  f : Nat
theorem Reads.at0 {w : World} {g o : Nat} {q : List UInt8} {x : UInt8} {ys : List UInt8} (h : Reads w (some ⟨g, o, none⟩) q) (hq : q = x :: ys) : w.cell? ⟨g, o, none⟩ = some (.int .u8 (x.toNat : Int)) := by
  subst hq
  exact h.at 0 (by simp)
set_option maxRecDepth 100000 in
set_option maxHeartbeats 4000000 in
theorem bytes_w0 (A : Option Addr) (c N : Nat) (ss : List Sgn) (hN : N = ss.length) (B : Option Addr) (d M : Nat) (rs : List Brw) (hM : M = rs.length) (w : World) (Gl : Glob w) (RA : Cells w A (ss.flatMap sgv)) (hss : ∀ r ∈ ss, r.ok w) (RB : Cells w B (rs.flatMap brv)) (hrs : ∀ r ∈ rs, r.ok w) : Calls Tryd.prog 6 #[.slice A N c, .slice B M d] w fun r w' => r = .returned (.bool true) ∧ Mod [] w w' := by
  have WK := fun v (mv : Mod [] w v) => wakes_c v (Gl.then mv)
  obtain ⟨i0, j1, j2, j3, j4⟩ := info_parts u8_zero
  have HI := Lib.hid (And.intro j1 (And.intro j2 (And.intro j3 j4)))
  have HR := Lib.hid (And.intro hN (And.intro RA hss))
  have HS := Lib.hid (And.intro hM (And.intro RB hrs))
  clear Gl hN RA hss hM RB hrs j1 j2 j3 j4
  go_enter Tryd.func6, Tryd.ntmps6
  go_wp2_with (first
    | (go_at_call 10; refine (WK _ (Mod.refl _ _)).mono ?_
       rintro e w0 ⟨rfl, mm⟩
       clear WK))
  go_loopw [19] (fun i wi => ∃ (k : Nat), k ≤ 6 ∧ i = .int .i64 (k : Int) ∧ Mod [] w wi) (fun i _ => 6 - (intOf i).toNat)
  case atStart => exact ⟨0, by omega, rfl, mm⟩
  case round =>
    clear mm
    obtain ⟨k, hk, rfl, mm⟩ := hrel
    by_cases hkn : k < N
    · have hkZ : (k : Int) < (N : Int) := by omega
      obtain ⟨g, oo, hA, hcp⟩ := (HR.out.2.1.keep mm (by simp)).elem' sgv 3 (by omega) sgv_length k (by rw [← HR.out.1]; exact hkn)
      subst hA
      have hok := HR.out.2.2 (ss[k]'(by rw [← HR.out.1]; exact hkn)) (List.getElem_mem _)
      obtain ⟨r, hr⟩ : ∃ z, z = ss[k]'(by rw [← HR.out.1]; exact hkn) := ⟨_, rfl⟩
      rw [← hr] at hcp hok
      clear hr HR
      obtain ⟨i, SA, sc, sl, SB, sd, sm⟩ := r
      obtain ⟨⟨ok1, _, ok2⟩, ok3, _, ok4⟩ := hok
      replace ok1 : sl.length ≤ sc := ok1
      replace ok3 : sm.length ≤ sd := ok3
      replace ok2 : Cells w SA (sl.flatMap ic) := ok2
      replace ok4 : Cells w SB (sm.flatMap ic) := ok4
      replace hcp : Cells wr (some ⟨g, oo + k * 3, none⟩) (sgc i SA sl.length sc SB sm.length sd) := hcp
      obtain ⟨n1, hn1⟩ : ∃ n, n = (sl.take 70).length := ⟨_, rfl⟩
      obtain ⟨n2, hn2⟩ : ∃ n, n = (sm.take 5).length := ⟨_, rfl⟩
      have SI : Hid (∀ v, Mod [] w v → _) := Lib.hid fun v (mv : Mod [] w v) => signed_c i SA _ sc sl SB _ sd sm n1 n2 rfl rfl hn1 hn2 ok1 ok3 v (ok2.keep mv (by simp)) (ok4.keep mv (by simp))
      obtain ⟨nl, hnl⟩ : ∃ n, n = sl.length := ⟨_, rfl⟩
      obtain ⟨nm, hnm⟩ : ∃ n, n = sm.length := ⟨_, rfl⟩
      rw [← hnl, ← hnm] at SI hcp
      obtain ⟨l1, hl1⟩ : ∃ q, q = sl.take 70 := ⟨_, rfl⟩
      obtain ⟨r1, hr1⟩ : ∃ q, q = sm.take 5 := ⟨_, rfl⟩
      rw [← hl1, ← hr1] at SI
      rw [← hl1] at hn1
      rw [← hr1] at hn2
      clear ok1 ok2 ok3 ok4 hnl hnm hl1 hr1
      by_cases hk6 : k < 6
      · have hkZ6 : (k : Int) < 6 := by omega
        have e6 : ((k : Int) == 6) = false := beq_eq_false_iff_ne.2 (by omega)
        cases hb : mayB i n1 n2 with
        | false =>
          have HN := Lib.hid hb
          clear hb hn1 hn2
          go_wp2_with (first
            | (with_reducible refine wpList_loads (o := ⟨some 23, .load 50 (.tmp 22), _, _, _, _⟩) rfl 50 (.tmp 22) rfl g (oo + k * 3) _ rfl hcp _ Tryd.underlying50 rfl (size50s _ _ _ _ _ _ _) (.agg (sgc i SA nl sc SB nm sd).toArray) rfl ?_)
            | (with_reducible refine wpList_allocs (o := ⟨some 6, .alloc 50, _, _, _, _⟩) rfl 50 rfl _ zero50 ?_; intro y6 hy6 my6 zy6)
            | (with_reducible refine wpList_storesAll (o := ⟨none, .store 50 (.tmp 6) (.tmp 23), _, _, _, _⟩) rfl 50 (.tmp 6) (.tmp 23) rfl rfl wr.heap.size (sgc i SA nl sc SB nm sd) rfl (.agg (sgc i SA nl sc SB nm sd).toArray) rfl rfl 50 _ hy6 rfl (sgc_one _ _ _ _ _ _ _) (size50s _ _ _ _ _ _ _) ?_
               intro w1 h6 m6 z6
               have mx : Mod [] wr w1 := my6.trans m6 (by intro i hi h; simp at h; omega)
               replace mm := mm.then mx
               obtain ⟨b6, hq6⟩ : ∃ q, q = wr.heap.size := ⟨_, rfl⟩
               rw [← hq6] at h6 ⊢
               clear hy6 my6 zy6 m6 z6 mx hq6)
            | (with_reducible refine wpList_loads (o := ⟨some 26, .load 50 (.tmp 6), _, _, _, _⟩) rfl 50 (.tmp 6) rfl b6 0 _ rfl (Cells.of_holds h6) _ Tryd.underlying50 rfl (size50s _ _ _ _ _ _ _) (.agg (sgc i SA nl sc SB nm sd).toArray) rfl ?_)
            | (go_at_call 29; with_reducible refine Calls.mono (SI.out _ mm) ?_
               rintro e w2 ⟨A1, c1, B1, d1, rfl, O1, P1, m2, _, _⟩
               replace h6 := h6.keep m2 (by simp)
               replace mm := mm.then m2
               clear m2)
            | (with_reducible refine wpList_allocs (o := ⟨some 7, .alloc 50, _, _, _, _⟩) rfl 50 rfl _ zero50 ?_; intro y7 hy7 my7 zy7)
            | (with_reducible refine wpList_storesAll (o := ⟨none, .store 50 (.tmp 7) (.tmp 27), _, _, _, _⟩) rfl 50 (.tmp 7) (.tmp 27) rfl rfl w2.heap.size (sgc i A1 n1 c1 B1 n2 d1) rfl (.agg (sgc i A1 n1 c1 B1 n2 d1).toArray) rfl rfl 50 _ hy7 rfl (sgc_one _ _ _ _ _ _ _) (size50s _ _ _ _ _ _ _) ?_
               intro w3 h7 m7 z7
               have mx : Mod [] w2 w3 := my7.trans m7 (by intro i hi h; simp at h; omega)
               replace h6 := h6.keep mx (by simp)
               replace O1 := O1.keep mx (by simp)
               replace P1 := P1.keep mx (by simp)
               replace mm := mm.then mx
               obtain ⟨b7, hq7⟩ : ∃ q, q = w2.heap.size := ⟨_, rfl⟩
               rw [← hq7] at h7 ⊢
               clear hy7 my7 zy7 m7 z7 mx hq7)
            | (with_reducible refine wpList_loads (o := ⟨some 29, .load 50 (.tmp 7), _, _, _, _⟩) rfl 50 (.tmp 7) rfl b7 0 _ rfl (Cells.of_holds h7) _ Tryd.underlying50 rfl (size50s _ _ _ _ _ _ _) (.agg (sgc i A1 n1 c1 B1 n2 d1).toArray) rfl ?_)
            | (go_at_call 30; with_reducible refine Calls.mono (Encode_no i A1 n1 c1 B1 n2 d1 HN.out w3) ?_
               rintro e w4 ⟨rfl, m4⟩
               replace h7 := h7.keep m4 (by simp)
               replace mm := mm.then m4
               clear m4)
            | (with_reducible refine wpList_loads (o := ⟨some 33, .load 50 (.tmp 7), _, _, _, _⟩) rfl 50 (.tmp 7) rfl b7 0 _ rfl (Cells.of_holds h7) _ Tryd.underlying50 rfl (size50s _ _ _ _ _ _ _) (.agg (sgc i A1 n1 c1 B1 n2 d1).toArray) rfl ?_)
            | (go_at_call 31; have RC := right_c i A1 n1 c1 B1 n2 d1 w4; rw [HN.out] at RC; with_reducible refine Calls.mono RC ?_
               rintro e w5 ⟨rfl, m5⟩
               replace mm := mm.then m5
               clear m5 RC))
          exact ⟨⟨k + 1, by omega, by go_num, mm⟩, by simp [intOf]; omega⟩
        | true =>
          obtain ⟨K, rfl, hK8, h67, h3'⟩ := mayB_is hb
          subst h67 h3'
          obtain ⟨bb, hbb⟩ : ∃ b, b = sgB K l1 r1 := ⟨_, rfl⟩
          have HK := Lib.hid (And.intro hK8 (And.intro hn1.symm (And.intro hn2.symm (And.intro hbb.symm (show bb.length = 2241 by rw [hbb, sgB_length, ← hn1, ← hn2])))))
          clear hb hn1 hn2 hbb hK8
          go_wp2_with (first
            | (with_reducible refine wpList_loads (o := ⟨some 23, .load 50 (.tmp 22), _, _, _, _⟩) rfl 50 (.tmp 22) rfl g (oo + k * 3) _ rfl hcp _ Tryd.underlying50 rfl (size50s _ _ _ _ _ _ _) (.agg (sgc (K : Int) SA nl sc SB nm sd).toArray) rfl ?_)
            | (with_reducible refine wpList_allocs (o := ⟨some 6, .alloc 50, _, _, _, _⟩) rfl 50 rfl _ zero50 ?_; intro y6 hy6 my6 zy6)
            | (with_reducible refine wpList_storesAll (o := ⟨none, .store 50 (.tmp 6) (.tmp 23), _, _, _, _⟩) rfl 50 (.tmp 6) (.tmp 23) rfl rfl wr.heap.size (sgc (K : Int) SA nl sc SB nm sd) rfl (.agg (sgc (K : Int) SA nl sc SB nm sd).toArray) rfl rfl 50 _ hy6 rfl (sgc_one _ _ _ _ _ _ _) (size50s _ _ _ _ _ _ _) ?_
               intro w1 h6 m6 z6
               have mx : Mod [] wr w1 := my6.trans m6 (by intro i hi h; simp at h; omega)
               replace mm := mm.then mx
               obtain ⟨b6, hq6⟩ : ∃ q, q = wr.heap.size := ⟨_, rfl⟩
               rw [← hq6] at h6 ⊢
               clear hy6 my6 zy6 m6 z6 mx hq6)
            | (with_reducible refine wpList_loads (o := ⟨some 26, .load 50 (.tmp 6), _, _, _, _⟩) rfl 50 (.tmp 6) rfl b6 0 _ rfl (Cells.of_holds h6) _ Tryd.underlying50 rfl (size50s _ _ _ _ _ _ _) (.agg (sgc (K : Int) SA nl sc SB nm sd).toArray) rfl ?_)
            | (go_at_call 29; with_reducible refine Calls.mono (SI.out _ mm) ?_
               rintro e w2 ⟨A1, c1, B1, d1, rfl, O1, P1, m2, _, _⟩
               replace h6 := h6.keep m2 (by simp)
               replace mm := mm.then m2
               clear m2)
            | (with_reducible refine wpList_allocs (o := ⟨some 7, .alloc 50, _, _, _, _⟩) rfl 50 rfl _ zero50 ?_; intro y7 hy7 my7 zy7)
            | (with_reducible refine wpList_storesAll (o := ⟨none, .store 50 (.tmp 7) (.tmp 27), _, _, _, _⟩) rfl 50 (.tmp 7) (.tmp 27) rfl rfl w2.heap.size (sgc (K : Int) A1 67 c1 B1 3 d1) rfl (.agg (sgc (K : Int) A1 67 c1 B1 3 d1).toArray) rfl rfl 50 _ hy7 rfl (sgc_one _ _ _ _ _ _ _) (size50s _ _ _ _ _ _ _) ?_
               intro w3 h7 m7 z7
               have mx : Mod [] w2 w3 := my7.trans m7 (by intro i hi h; simp at h; omega)
               replace h6 := h6.keep mx (by simp)
               replace O1 := O1.keep mx (by simp)
               replace P1 := P1.keep mx (by simp)
               replace mm := mm.then mx
               obtain ⟨b7, hq7⟩ : ∃ q, q = w2.heap.size := ⟨_, rfl⟩
               rw [← hq7] at h7 ⊢
               clear hy7 my7 zy7 m7 z7 mx hq7)
            | (with_reducible refine wpList_loads (o := ⟨some 29, .load 50 (.tmp 7), _, _, _, _⟩) rfl 50 (.tmp 7) rfl b7 0 _ rfl (Cells.of_holds h7) _ Tryd.underlying50 rfl (size50s _ _ _ _ _ _ _) (.agg (sgc (K : Int) A1 67 c1 B1 3 d1).toArray) rfl ?_)
            | (go_at_call 30; with_reducible refine Calls.mono (Encode_yes K HK.out.1 A1 c1 B1 d1 l1 r1 HK.out.2.1 HK.out.2.2.1 w3 O1.cells P1.cells O1.lt P1.lt) ?_
               rintro e w4 ⟨Y, cy, rfl, OY, m4⟩
               replace h6 := h6.keep m4 (by simp)
               replace h7 := h7.keep m4 (by simp)
               replace O1 := O1.keep m4 (by simp)
               replace P1 := P1.keep m4 (by simp)
               replace mm := mm.then m4
               clear m4)
            | (with_reducible refine wpList_loads (o := ⟨some 33, .load 50 (.tmp 7), _, _, _, _⟩) rfl 50 (.tmp 7) rfl b7 0 _ rfl (Cells.of_holds h7) _ Tryd.underlying50 rfl (size50s _ _ _ _ _ _ _) (.agg (sgc (K : Int) A1 67 c1 B1 3 d1).toArray) rfl ?_)
            | (go_at_call 31; have RC := right_c (K : Int) A1 67 c1 B1 3 d1 w4; rw [mayB_yes HK.out.1 rfl rfl] at RC; with_reducible refine Calls.mono RC ?_
               rintro e w5 ⟨rfl, m5⟩
               replace h6 := h6.keep m5 (by simp)
               replace h7 := h7.keep m5 (by simp)
               replace O1 := O1.keep m5 (by simp)
               replace P1 := P1.keep m5 (by simp)
               replace OY := OY.keep m5 (by simp)
               replace mm := mm.then m5
               clear m5 RC))
          obtain ⟨wq, hwq⟩ : ∃ v, v = w5 := ⟨_, rfl⟩
          have RY := OY.reads
          rw [← hwq] at mm h6 h7 O1 P1 RY ⊢
          clear hwq OY
          have FM : ∀ v, Mod [] wq.drew v → Mod [] w v := fun v h => mm.then ((Mod.drew [] wq).then h)
          have k6 : Holds wq.drew b6 50 (sgc (K : Int) SA nl sc SB nm sd) := h6.keep (Mod.drew [] wq) (by simp)
          have k7 : Holds wq.drew b7 50 (sgc (K : Int) A1 67 c1 B1 3 d1) := h7.keep (Mod.drew [] wq) (by simp)
          replace O1 := O1.keep (Mod.drew [] wq) (by simp)
          replace P1 := P1.keep (Mod.drew [] wq) (by simp)
          replace RY := RY.keep (Mod.drew [] wq) (by simp)
          have BO : Hid (∀ v, Mod [] wq.drew v → Calls Tryd.prog 33 #[.agg (sgc (K : Int) A1 67 c1 B1 3 d1).toArray] v fun r w' => ∃ A c, r = .returned (.slice A 2241 c) ∧ Reads w' A bb ∧ Mod [] v w') := Lib.hid fun v hv => by
            have := bytesOf_c K HK.out.1 A1 c1 B1 d1 l1 r1 HK.out.2.1 HK.out.2.2.1 v (O1.cells.keep hv (by simp)) (P1.cells.keep hv (by simp)) (fun a ha => Nat.lt_of_lt_of_le (O1.lt a ha) hv.size) (fun a ha => Nat.lt_of_lt_of_le (P1.lt a ha) hv.size)
            rw [HK.out.2.2.2.1] at this
            exact this
          rw [HK.out.2.2.2.1] at RY
          have BE : Hid (∀ X x v, Mod [] wq.drew v → Reads v X bb → Calls Tryd.prog 32 #[.slice Y 2241 cy, .slice X 2241 x] v fun e w' => e = .returned (.bool true) ∧ v = w') := Lib.hid fun X x v hv hr => by
            have := beq_n Y X bb bb 2241 2241 cy x v HK.out.2.2.2.2.symm HK.out.2.2.2.2.symm (RY.keep hv (by simp)) hr
            rwa [decide_eq_true rfl] at this
          have SM : Hid (∀ X x Z z v, Mod [] wq.drew v → OwnG ic 23 32 v X x l1 → OwnG ic 23 32 v Z z r1 → Calls Tryd.prog 24 #[.agg (sgc (K : Int) A1 67 c1 B1 3 d1).toArray, .agg (sgc (K : Int) X 67 x Z 3 z).toArray] v fun r w' => r = .returned (.bool true) ∧ Mod [] v w') := Lib.hid fun X x Z z v hv hX hZ =>
            same_c (K : Int) l1 r1 A1 B1 X Z 67 3 c1 d1 x z HK.out.2.1.symm HK.out.2.2.1.symm (by decide) (by decide) v (O1.cells.keep hv (by simp)) (P1.cells.keep hv (by simp)) hX.cells hZ.cells
          clear h6 h7 mm
          refine wp_region_upx (X := XB) ⟨none, 0, none, 0, none, 0⟩ (fun x => [(43, .int .i64 0), (44, .bool false), (45, .bool false), (46, .slice Y 2241 cy), (47, .agg (sgc (K : Int) A1 67 c1 B1 3 d1).toArray), (48, .slice x.A 2241 x.c), (49, .bool true), (50, .bool false), (51, .bool false), (52, .bool false), (53, .agg (sgc (K : Int) A1 67 c1 B1 3 d1).toArray), (54, .agg (sgc (K : Int) SA nl sc SB nm sd).toArray), (55, .agg (sgc (K : Int) x.B 67 x.d x.E 3 x.f).toArray), (56, .bool true), (57, .bool false), (58, .bool false)]) 126 [43, 44, 45, 46, 47, 48, 49, 50, 51, 52, 53, 54, 55, 56, 57, 58] rfl (fun _ => rfl) (by decide) (by kernel_rfl) (fun x lz v => Mod [] wq.drew v ∧ (lz 5 = true → Reads v x.A bb) ∧ (lz 12 = true → OwnG ic 23 32 v x.B x.d l1 ∧ OwnG ic 23 32 v x.E x.f r1)) (by kernel_rfl) ⟨Mod.refl _ _, (fun h => by cases h), (fun h => by cases h)⟩ (by kernel_rfl) (by kernel_rfl) ?step ?fin
          case step =>
            intro x lz T v j o hj hlj hdep hst hpar hgot hcl Kq hK
            have hjn : j < 16 := (Array.getElem?_eq_some_iff.1 hj).1
            obtain rfl | rfl | rfl | rfl | rfl | rfl | rfl | rfl | rfl | rfl | rfl | rfl | rfl | rfl | rfl | rfl : j = 0 ∨ j = 1 ∨ j = 2 ∨ j = 3 ∨ j = 4 ∨ j = 5 ∨ j = 6 ∨ j = 7 ∨ j = 8 ∨ j = 9 ∨ j = 10 ∨ j = 11 ∨ j = 12 ∨ j = 13 ∨ j = 14 ∨ j = 15 := by omega
            all_goals (have hj' := Option.some.inj (hj : some _ = some o); subst hj'; clear hj)
            · exact wp_ran rfl (exec_move rfl (eval_tmp ((hpar 9 rfl).trans rfl))) (hK x _ _ (fun _ _ _ _ _ _ => rfl) (fun s hs => by cases hs; rfl) (by simpa using hst))
            · exact wp_ran rfl (exec_nei (rfl) rfl (eval_tmp (hgot 0 _ 43 rfl (hdep ⟨0, .data⟩ (by simp) rfl) rfl)) rfl) (hK x _ _ (fun _ _ _ _ _ _ => rfl) (fun s hs => by cases hs; rfl) (by simpa using hst))
            · exact wp_ran rfl (exec_move rfl (eval_tmp (hgot 1 _ 44 rfl (hdep ⟨1, .data⟩ (by simp) rfl) rfl))) (hK x _ _ (fun _ _ _ _ _ _ => rfl) (fun s hs => by cases hs; rfl) (by simpa using hst))
            · exact wp_ranW (wanted_yes rfl rfl rfl (hgot 2 _ 45 rfl (hdep ⟨2, .guard⟩ (by simp) rfl) rfl)) (exec_move rfl (eval_tmp ((hpar 8 rfl).trans rfl))) (hK x _ _ (fun _ _ _ _ _ _ => rfl) (fun s hs => by cases hs; rfl) (by simpa using hst))
            · exact wp_ranW (wanted_yes rfl rfl rfl (hgot 2 _ 45 rfl (hdep ⟨2, .guard⟩ (by simp) rfl) rfl)) (exec_load rfl (eval_tmp ((hpar 7 rfl).trans rfl)) (run_loads (Cells.of_holds (k7.keep hst.1 (by simp))) Tryd.underlying50 rfl (size50s _ _ _ _ _ _ _))) (hK x _ _ (fun _ _ _ _ _ _ => rfl) (fun s hs => by cases hs; rfl) (by simpa using hst))
            · refine wp_calledW (wanted_yes rfl rfl rfl (hgot 2 _ 45 rfl (hdep ⟨2, .guard⟩ (by simp) rfl) rfl)) (exec_call1 rfl rfl (eval_tmp (hgot 4 _ 47 rfl (hdep ⟨4, .data⟩ (by simp) rfl) rfl)) (enters_of Tryd.func33 (by kernel_rfl) rfl)) ((BO.out v hst.1).mono ?_)
              rintro e v' ⟨A', c', rfl, hR', m2⟩
              exact ⟨_, rfl, hK { x with A := A', c := c' } _ _ (fun j' o' s' g1 g2 g3 => by
                  have g4 : j' < 16 := (Array.getElem?_eq_some_iff.1 g1).1
                  clear hpar hgot hdep hK
                  obtain rfl | rfl | rfl | rfl | rfl | rfl | rfl | rfl | rfl | rfl | rfl | rfl | rfl | rfl | rfl | rfl : j' = 0 ∨ j' = 1 ∨ j' = 2 ∨ j' = 3 ∨ j' = 4 ∨ j' = 5 ∨ j' = 6 ∨ j' = 7 ∨ j' = 8 ∨ j' = 9 ∨ j' = 10 ∨ j' = 11 ∨ j' = 12 ∨ j' = 13 ∨ j' = 14 ∨ j' = 15 := by omega
                  all_goals (cases g1; cases g3 <;> first | rfl | (rw [hlj] at g2; cases g2))) (fun s hs => by cases hs; rfl) ⟨hst.1.then m2, fun _ => hR', fun h => ⟨(hst.2.2 (by simpa using h)).1.keep m2 (by simp), (hst.2.2 (by simpa using h)).2.keep m2 (by simp)⟩⟩⟩
            · refine wp_calledW (wanted_yes rfl rfl rfl (hgot 2 _ 45 rfl (hdep ⟨2, .guard⟩ (by simp) rfl) rfl)) (exec_call2 rfl rfl (eval_tmp (hgot 3 _ 46 rfl (hdep ⟨3, .data⟩ (by simp) rfl) rfl)) (eval_tmp (hgot 5 _ 48 rfl (hdep ⟨5, .data⟩ (by simp) rfl) rfl)) (enters_of Tryd.func32 (by kernel_rfl) rfl)) ((BE.out x.A x.c v hst.1 (hst.2.1 (hdep ⟨5, .data⟩ (by simp) rfl))).mono ?_)
              rintro e v' ⟨rfl, rfl⟩
              exact ⟨_, rfl, hK x _ _ (fun _ _ _ _ _ _ => rfl) (fun s hs => by cases hs; rfl) (by simpa using hst)⟩
            · exact wp_ranW (wanted_yes rfl rfl rfl (hgot 2 _ 45 rfl (hdep ⟨2, .guard⟩ (by simp) rfl) rfl)) (exec_not rfl (eval_tmp (hgot 6 _ 49 rfl (hdep ⟨6, .data⟩ (by simp) rfl) rfl))) (hK x _ _ (fun _ _ _ _ _ _ => rfl) (fun s hs => by cases hs; rfl) (by simpa using hst))
            · exact wp_ran rfl (exec_pick rfl (eval_tmp (hgot 2 _ 45 rfl (hdep ⟨2, .data⟩ (by simp) rfl) rfl)) rfl (eval_tmp (hgot 7 _ 50 rfl (hdep ⟨7, .data⟩ (by simp) rfl) rfl)) rfl) (hK x _ _ (fun _ _ _ _ _ _ => rfl) (fun s hs => by cases hs; rfl) (by simpa using hst))
            · exact wp_ran rfl (exec_move rfl (eval_tmp (hgot 8 _ 51 rfl (hdep ⟨8, .data⟩ (by simp) rfl) rfl))) (hK x _ _ (fun _ _ _ _ _ _ => rfl) (fun s hs => by cases hs; rfl) (by simpa using hst))
            · exact wp_ranW (wanted_yes rfl rfl rfl (hgot 9 _ 52 rfl (hdep ⟨9, .guard⟩ (by simp) rfl) rfl)) (exec_load rfl (eval_tmp ((hpar 7 rfl).trans rfl)) (run_loads (Cells.of_holds (k7.keep hst.1 (by simp))) Tryd.underlying50 rfl (size50s _ _ _ _ _ _ _))) (hK x _ _ (fun _ _ _ _ _ _ => rfl) (fun s hs => by cases hs; rfl) (by simpa using hst))
            · exact wp_ranW (wanted_yes rfl rfl rfl (hgot 9 _ 52 rfl (hdep ⟨9, .guard⟩ (by simp) rfl) rfl)) (exec_load rfl (eval_tmp ((hpar 6 rfl).trans rfl)) (run_loads (Cells.of_holds (k6.keep hst.1 (by simp))) Tryd.underlying50 rfl (size50s _ _ _ _ _ _ _))) (hK x _ _ (fun _ _ _ _ _ _ => rfl) (fun s hs => by cases hs; rfl) (by simpa using hst))
            · refine wp_calledW (wanted_yes rfl rfl rfl (hgot 9 _ 52 rfl (hdep ⟨9, .guard⟩ (by simp) rfl) rfl)) (exec_call1 rfl rfl (eval_tmp (hgot 11 _ 54 rfl (hdep ⟨11, .data⟩ (by simp) rfl) rfl)) (enters_of Tryd.func29 (by kernel_rfl) rfl)) ((SI.out v (FM v hst.1)).mono ?_)
              rintro e v' ⟨A', c', B', d', rfl, hO', hP', m2, _, _⟩
              exact ⟨_, rfl, hK { x with B := A', d := c', E := B', f := d' } _ _ (fun j' o' s' g1 g2 g3 => by
                  have g4 : j' < 16 := (Array.getElem?_eq_some_iff.1 g1).1
                  clear hpar hgot hdep hK
                  obtain rfl | rfl | rfl | rfl | rfl | rfl | rfl | rfl | rfl | rfl | rfl | rfl | rfl | rfl | rfl | rfl : j' = 0 ∨ j' = 1 ∨ j' = 2 ∨ j' = 3 ∨ j' = 4 ∨ j' = 5 ∨ j' = 6 ∨ j' = 7 ∨ j' = 8 ∨ j' = 9 ∨ j' = 10 ∨ j' = 11 ∨ j' = 12 ∨ j' = 13 ∨ j' = 14 ∨ j' = 15 := by omega
                  all_goals (cases g1; cases g3 <;> first | rfl | (rw [hlj] at g2; cases g2))) (fun s hs => by cases hs; rfl) ⟨hst.1.then m2, fun h => (hst.2.1 (by simpa using h)).keep m2 (by simp), fun _ => ⟨hO', hP'⟩⟩⟩
            · have a12 := hst.2.2 (hdep ⟨12, .data⟩ (by simp) rfl)
              refine wp_calledW (wanted_yes rfl rfl rfl (hgot 9 _ 52 rfl (hdep ⟨9, .guard⟩ (by simp) rfl) rfl)) (exec_call2 rfl rfl (eval_tmp (hgot 10 _ 53 rfl (hdep ⟨10, .data⟩ (by simp) rfl) rfl)) (eval_tmp (hgot 12 _ 55 rfl (hdep ⟨12, .data⟩ (by simp) rfl) rfl)) (enters_of Tryd.func24 (by kernel_rfl) rfl)) ((SM.out x.B x.d x.E x.f v hst.1 a12.1 a12.2).mono ?_)
              rintro e v' ⟨rfl, m2⟩
              exact ⟨_, rfl, hK x _ _ (fun _ _ _ _ _ _ => rfl) (fun s hs => by cases hs; rfl) ⟨hst.1.then m2, fun h => (hst.2.1 (by simpa using h)).keep m2 (by simp), fun h => ⟨(hst.2.2 (by simpa using h)).1.keep m2 (by simp), (hst.2.2 (by simpa using h)).2.keep m2 (by simp)⟩⟩⟩
            · exact wp_ranW (wanted_yes rfl rfl rfl (hgot 9 _ 52 rfl (hdep ⟨9, .guard⟩ (by simp) rfl) rfl)) (exec_not rfl (eval_tmp (hgot 13 _ 56 rfl (hdep ⟨13, .data⟩ (by simp) rfl) rfl))) (hK x _ _ (fun _ _ _ _ _ _ => rfl) (fun s hs => by cases hs; rfl) (by simpa using hst))
            · exact wp_ran rfl (exec_pick rfl (eval_tmp (hgot 9 _ 52 rfl (hdep ⟨9, .data⟩ (by simp) rfl) rfl)) rfl (eval_tmp (hgot 14 _ 57 rfl (hdep ⟨14, .data⟩ (by simp) rfl) rfl)) rfl) (hK x _ _ (fun _ _ _ _ _ _ => rfl) (fun s hs => by cases hs; rfl) (by simpa using hst))
          case fin =>
          intro x lz vr hlz hst
          have mm := FM vr hst.1
          clear hst hlz
          simp only [setAll, List.foldl_cons, List.foldl_nil, List.set_cons_succ, List.set_cons_zero]
          go_wp2_with fail
          exact ⟨⟨k + 1, by omega, by go_num, mm⟩, by simp [intOf]; omega⟩
      · obtain rfl : k = 6 := by omega
        clear hn1 hn2 SI
        go_wp2_with (first
          | (with_reducible refine wpList_loads (o := ⟨some 23, .load 50 (.tmp 22), _, _, _, _⟩) rfl 50 (.tmp 22) rfl g (oo + 6 * 3) _ rfl hcp _ Tryd.underlying50 rfl (size50s _ _ _ _ _ _ _) (.agg (sgc i SA nl sc SB nm sd).toArray) rfl ?_)
          | (with_reducible refine wpList_allocs (o := ⟨some 6, .alloc 50, _, _, _, _⟩) rfl 50 rfl _ zero50 ?_; intro y6 hy6 my6 zy6)
          | (with_reducible refine wpList_storesAll (o := ⟨none, .store 50 (.tmp 6) (.tmp 23), _, _, _, _⟩) rfl 50 (.tmp 6) (.tmp 23) rfl rfl wr.heap.size (sgc i SA nl sc SB nm sd) rfl (.agg (sgc i SA nl sc SB nm sd).toArray) rfl rfl 50 _ hy6 rfl (sgc_one _ _ _ _ _ _ _) (size50s _ _ _ _ _ _ _) ?_
             intro w1 h6 m6 z6
             have mx : Mod [] wr w1 := my6.trans m6 (by intro i hi h; simp at h; omega)
             replace mm := mm.then mx
             obtain ⟨b6, hq6⟩ : ∃ q, q = wr.heap.size := ⟨_, rfl⟩
             rw [← hq6] at h6 ⊢
             clear hy6 my6 zy6 m6 z6 mx hq6))
        go_loopw [62] (fun i wi => ∃ (k : Nat), k ≤ 8 ∧ i = .int .i64 (k : Int) ∧ Mod [] w wi) (fun i _ => 8 - (intOf i).toNat)
        case atStart => exact ⟨0, by omega, rfl, mm⟩
        case round =>
          clear mm
          obtain ⟨k, hk, rfl, mm⟩ := hrel
          by_cases hkn : k < M
          · have hkZ : (k : Int) < (M : Int) := by omega
            obtain ⟨g, oo, hA, hcp0⟩ := (HS.out.2.1.keep mm (by simp)).elem' brv 1 (by omega) brv_length k (by rw [← HS.out.1]; exact hkn)
            subst hA
            have hok := HS.out.2.2 (rs[k]'(by rw [← HS.out.1]; exact hkn)) (List.getElem_mem _)
            obtain ⟨r, hr⟩ : ∃ z, z = rs[k]'(by rw [← HS.out.1]; exact hkn) := ⟨_, rfl⟩
            rw [← hr] at hcp0 hok
            clear hr HS
            obtain ⟨RA0, rc, rl⟩ := r
            obtain ⟨ok1, ok2, ok3⟩ := hok
            replace ok1 : rl.length ≤ rc := ok1
            replace ok3 : Reads w RA0 rl := ok3
            have hcp : wr.cell? ⟨g, oo + k, none⟩ = some (.slice RA0 rl.length rc) := by
              have := hcp0.at 0 (by rw [brv_length]; decide)
              rw [Nat.mul_one] at this
              exact this
            obtain ⟨rn, hrn⟩ : ∃ n, n = rl.length := ⟨_, rfl⟩
            rw [← hrn] at hcp ok1
            clear hcp0 ok2
            by_cases hk8 : k < 8
            · have hkZ8 : (k : Int) < 8 := by omega
              have e8 : ((k : Int) == 8) = false := beq_eq_false_iff_ne.2 (by omega)
              obtain ⟨q, hq⟩ : ∃ q, q = rl.take 2300 := ⟨_, rfl⟩
              have hql : q.length = min rn 2300 := by rw [hq, List.length_take, ← hrn]; omega
              have RQ0 : Reads w RA0 q := by rw [hq]; exact ok3.pre 2300
              clear hq hrn ok3
              by_cases s1 : q.length < 2241
              · obtain ⟨m, hm⟩ : ∃ m, m = q.length := ⟨_, rfl⟩
                have HM := Lib.hid (And.intro (show (m : Int) = min (rn : Int) 2300 by omega) (And.intro (show m ≤ rc by omega) (And.intro hm (And.intro RQ0 (show q.length ≤ 2300 by omega)))))
                have HC : Hid (m < 2241) := Lib.hid (by omega)
                have hsZ : (m : Int) < 2241 := by omega
                clear hm hql RQ0 s1
                go_wp2_with (first
                  | (with_reducible refine wpList_load1 (o := ⟨some 66, .load 64 (.tmp 65), _, _, _, _⟩) rfl 64 (.tmp 65) rfl ⟨g, oo + k, none⟩ (.slice RA0 rn rc) rfl _ Tryd.underlying64 rfl hcp ?_)
                  | (with_reducible refine wpList_made (o := ⟨some 69, .buildSlice 64 0 _, _, _, _, _⟩) (by with_unfolding_all rfl) _ 5 (([] : List UInt8).map oct) (exec_none64 rfl) ?_
                     intro w1 hb1 m1 z1
                     replace z1 := Lib.hid z1
                     have hO := Owns.of_holds (B := wr.heap.size) hb1 (Nat.le_refl _) (by decide)
                     obtain ⟨Y, hY⟩ : ∃ Y : Option Addr, Y = some ⟨wr.heap.size, 0, none⟩ := ⟨_, rfl⟩
                     rw [← hY] at hO ⊢
                     clear hY hb1 z1)
                  | (with_reducible refine wpList_ranW (o := ⟨some 73, .call _, _, _, _, _⟩) (by with_unfolding_all rfl) (.int .i64 (m : Int)) _ (exec_min rfl rfl rfl HM.out.1) ?_)
                  | (with_reducible refine wpList_ranW (o := ⟨some 74, .slice _ _ _ _ _, _, _, _, _⟩) (by with_unfolding_all rfl) (.slice RA0 m rc) _ (exec_upto Tryd.underlying64 u8_one HM.out.2.1 rfl rfl rfl) ?_)
                  | (at_builtin; refine wpList_appends w1 (o := ⟨some 75, _, _, _, _, _⟩) rfl (.tmp 69) (.tmp 74) 64 rfl 5 i0 (.int .u8 0) 1 Tryd.underlying64 HI.out.1 HI.out.2.1 HI.out.2.2.1 HI.out.2.2.2 rfl wr.heap.size m1.size Y 0 0 [] rfl rfl hO RA0 m rc q rfl HM.out.2.2.1 (HM.out.2.2.2.1.keep (mm.then m1) (by simp)) (by have := HM.out.2.2.1; have := HM.out.2.2.2.2; simp; omega) (by have := HM.out.2.2.1; have := HM.out.2.2.2.2; simp; unfold maxLen; omega) ?_
                     intro Y1 c1 w2 hO2 m2 q2
                     have e2 : ([] ++ q).length = m := by rw [List.nil_append]; exact HM.out.2.2.1.symm
                     rw [e2]
                     rw [List.nil_append] at hO2
                     replace mm := far_mod (mm.then m1) m2 (fun i hi => by obtain ⟨a, ha, rfl⟩ := mem_blk hi; exact Nat.le_trans mm.size (hO.fits.2.2 a ha).1)
                     have RQ := hO2.reads
                     have FQ := hO2.fits
                     clear hO m1 m2 q2 hO2 e2)
                  | (go_at_call 34; with_reducible refine Calls.mono (Decode_short Y1 m c1 HC.out w2) ?_
                     rintro e w3 ⟨rfl, m3⟩
                     replace RQ := RQ.keep m3 (by simp)
                     replace mm := mm.then m3
                     clear m3)
                  | (with_reducible refine wpList_allocs (o := ⟨some 13, .alloc 50, _, _, _, _⟩) rfl 50 rfl _ zero50 ?_; intro y13 hy13 my13 zy13)
                  | (with_reducible refine wpList_storesAll (o := ⟨none, .store 50 (.tmp 13) (.tmp 79), _, _, _, _⟩) rfl 50 (.tmp 13) (.tmp 79) rfl rfl w3.heap.size (sgc 0 none 0 0 none 0 0) rfl (.agg (sgc 0 none 0 0 none 0 0).toArray) rfl rfl 50 _ hy13 rfl (sgc_one _ _ _ _ _ _ _) (size50s _ _ _ _ _ _ _) ?_
                     intro w4 h13 m13 z13
                     have mx : Mod [] w3 w4 := my13.trans m13 (by intro i hi h; simp at h; omega)
                     replace mm := mm.then mx
                     obtain ⟨b13, hq13⟩ : ∃ q, q = w3.heap.size := ⟨_, rfl⟩
                     rw [← hq13] at h13 ⊢
                     clear hy13 my13 zy13 m13 z13 mx hq13)
                  | (with_reducible refine wpList_ranW (o := ⟨some 102, .load 50 (.tmp 13), _, _, _, _⟩) (by with_unfolding_all rfl) (.agg (sgc 0 none 0 0 none 0 0).toArray) _ (exec_load rfl rfl (run_loads (Cells.of_holds h13) Tryd.underlying50 rfl (size50s _ _ _ _ _ _ _))) ?_)
                  | (with_reducible refine wpList_ranW (o := ⟨some 103, .build 50 _, _, _, _, _⟩) (by with_unfolding_all rfl) (.agg (sgc 0 none 0 0 none 0 0).toArray) _ (exec_build50z rfl) ?_)
                  | (go_at_call 24; with_reducible refine Calls.mono (same_c 0 [] [] none none none none 0 0 0 0 0 0 rfl rfl (by decide) (by decide) w4 (Cells.nil _ _) (Cells.nil _ _) (Cells.nil _ _) (Cells.nil _ _)) ?_
                     rintro e w5 ⟨rfl, m5⟩
                     replace mm := mm.then m5
                     clear m5))
                exact ⟨⟨k + 1, by omega, by go_num, mm⟩, by simp [intOf]; omega⟩
              by_cases s2 : 2241 < q.length
              · obtain ⟨m, hm⟩ : ∃ m, m = q.length := ⟨_, rfl⟩
                have HM := Lib.hid (And.intro (show (m : Int) = min (rn : Int) 2300 by omega) (And.intro (show m ≤ rc by omega) (And.intro hm (And.intro RQ0 (show q.length ≤ 2300 by omega)))))
                have HC : Hid (2241 < m) := Lib.hid (by omega)
                have hsZ : ¬ (m : Int) < 2241 := by omega
                have hsY : (2241 : Int) < (m : Int) := by omega
                clear hm hql RQ0 s1 s2
                go_wp2_with (first
                  | (with_reducible refine wpList_load1 (o := ⟨some 66, .load 64 (.tmp 65), _, _, _, _⟩) rfl 64 (.tmp 65) rfl ⟨g, oo + k, none⟩ (.slice RA0 rn rc) rfl _ Tryd.underlying64 rfl hcp ?_)
                  | (with_reducible refine wpList_made (o := ⟨some 69, .buildSlice 64 0 _, _, _, _, _⟩) (by with_unfolding_all rfl) _ 5 (([] : List UInt8).map oct) (exec_none64 rfl) ?_
                     intro w1 hb1 m1 z1
                     replace z1 := Lib.hid z1
                     have hO := Owns.of_holds (B := wr.heap.size) hb1 (Nat.le_refl _) (by decide)
                     obtain ⟨Y, hY⟩ : ∃ Y : Option Addr, Y = some ⟨wr.heap.size, 0, none⟩ := ⟨_, rfl⟩
                     rw [← hY] at hO ⊢
                     clear hY hb1 z1)
                  | (with_reducible refine wpList_ranW (o := ⟨some 73, .call _, _, _, _, _⟩) (by with_unfolding_all rfl) (.int .i64 (m : Int)) _ (exec_min rfl rfl rfl HM.out.1) ?_)
                  | (with_reducible refine wpList_ranW (o := ⟨some 74, .slice _ _ _ _ _, _, _, _, _⟩) (by with_unfolding_all rfl) (.slice RA0 m rc) _ (exec_upto Tryd.underlying64 u8_one HM.out.2.1 rfl rfl rfl) ?_)
                  | (at_builtin; refine wpList_appends w1 (o := ⟨some 75, _, _, _, _, _⟩) rfl (.tmp 69) (.tmp 74) 64 rfl 5 i0 (.int .u8 0) 1 Tryd.underlying64 HI.out.1 HI.out.2.1 HI.out.2.2.1 HI.out.2.2.2 rfl wr.heap.size m1.size Y 0 0 [] rfl rfl hO RA0 m rc q rfl HM.out.2.2.1 (HM.out.2.2.2.1.keep (mm.then m1) (by simp)) (by have := HM.out.2.2.1; have := HM.out.2.2.2.2; simp; omega) (by have := HM.out.2.2.1; have := HM.out.2.2.2.2; simp; unfold maxLen; omega) ?_
                     intro Y1 c1 w2 hO2 m2 q2
                     have e2 : ([] ++ q).length = m := by rw [List.nil_append]; exact HM.out.2.2.1.symm
                     rw [e2]
                     rw [List.nil_append] at hO2
                     replace mm := far_mod (mm.then m1) m2 (fun i hi => by obtain ⟨a, ha, rfl⟩ := mem_blk hi; exact Nat.le_trans mm.size (hO.fits.2.2 a ha).1)
                     have RQ := hO2.reads
                     have FQ := hO2.fits
                     clear hO m1 m2 q2 hO2 e2)
                  | (go_at_call 34; with_reducible refine Calls.mono (Decode_long Y1 m c1 HC.out w2) ?_
                     rintro e w3 ⟨rfl, m3⟩
                     replace RQ := RQ.keep m3 (by simp)
                     replace mm := mm.then m3
                     clear m3)
                  | (with_reducible refine wpList_allocs (o := ⟨some 13, .alloc 50, _, _, _, _⟩) rfl 50 rfl _ zero50 ?_; intro y13 hy13 my13 zy13)
                  | (with_reducible refine wpList_storesAll (o := ⟨none, .store 50 (.tmp 13) (.tmp 79), _, _, _, _⟩) rfl 50 (.tmp 13) (.tmp 79) rfl rfl w3.heap.size (sgc 0 none 0 0 none 0 0) rfl (.agg (sgc 0 none 0 0 none 0 0).toArray) rfl rfl 50 _ hy13 rfl (sgc_one _ _ _ _ _ _ _) (size50s _ _ _ _ _ _ _) ?_
                     intro w4 h13 m13 z13
                     have mx : Mod [] w3 w4 := my13.trans m13 (by intro i hi h; simp at h; omega)
                     replace mm := mm.then mx
                     obtain ⟨b13, hq13⟩ : ∃ q, q = w3.heap.size := ⟨_, rfl⟩
                     rw [← hq13] at h13 ⊢
                     clear hy13 my13 zy13 m13 z13 mx hq13)
                  | (with_reducible refine wpList_ranW (o := ⟨some 120, .load 50 (.tmp 13), _, _, _, _⟩) (by with_unfolding_all rfl) (.agg (sgc 0 none 0 0 none 0 0).toArray) _ (exec_load rfl rfl (run_loads (Cells.of_holds h13) Tryd.underlying50 rfl (size50s _ _ _ _ _ _ _))) ?_)
                  | (with_reducible refine wpList_ranW (o := ⟨some 121, .build 50 _, _, _, _, _⟩) (by with_unfolding_all rfl) (.agg (sgc 0 none 0 0 none 0 0).toArray) _ (exec_build50z rfl) ?_)
                  | (go_at_call 24; with_reducible refine Calls.mono (same_c 0 [] [] none none none none 0 0 0 0 0 0 rfl rfl (by decide) (by decide) w4 (Cells.nil _ _) (Cells.nil _ _) (Cells.nil _ _) (Cells.nil _ _)) ?_
                     rintro e w5 ⟨rfl, m5⟩
                     replace mm := mm.then m5
                     clear m5))
                exact ⟨⟨k + 1, by omega, by go_num, mm⟩, by simp [intOf]; omega⟩
              have hm : 2241 = q.length := by omega
              have HM := Lib.hid (And.intro (show (2241 : Int) = min (rn : Int) 2300 by omega) (And.intro (show 2241 ≤ rc by omega) (And.intro hm (And.intro RQ0 (show q.length ≤ 2300 by omega)))))
              obtain ⟨x, ys, hxy⟩ : ∃ x ys, q = x :: ys := by
                rcases q with _ | ⟨x, ys⟩
                · simp at hm
                · exact ⟨x, ys, rfl⟩
              have hys : ys.length = 2240 := by rw [hxy, List.length_cons] at hm; omega
              obtain ⟨kx, hkx⟩ : ∃ n, n = x.toNat := ⟨_, rfl⟩
              have hkx256 : kx < 256 := by rw [hkx]; exact x.toNat_lt
              clear hql RQ0 s1 s2
              by_cases hx : 8 ≤ x.toNat
              · have HC := Lib.hid (And.intro hkx (And.intro hxy hx))
                have hxZ : (8 : Int) ≤ (kx : Int) := by omega
                have DD : Hid (∀ gq oq c1 v, Reads v (some ⟨gq, oq, none⟩) q → Calls Tryd.prog 34 #[.slice (some ⟨gq, oq, none⟩) 2241 c1] v fun r w' => r = .returned (.tuple #[.agg (sgc 0 none 0 0 none 0 0).toArray, .int .i64 2]) ∧ Mod [] v w') := Lib.hid fun gq oq c1 v h2 => by
                  rw [hxy] at h2
                  exact Decode_leaf gq oq c1 x ys hx v h2
                clear hkx hxy hx hys hm
                go_wp2_with (first
                  | (with_reducible refine wpList_load1 (o := ⟨some 66, .load 64 (.tmp 65), _, _, _, _⟩) rfl 64 (.tmp 65) rfl ⟨g, oo + k, none⟩ (.slice RA0 rn rc) rfl _ Tryd.underlying64 rfl hcp ?_)
                  | (with_reducible refine wpList_made (o := ⟨some 69, .buildSlice 64 0 _, _, _, _, _⟩) (by with_unfolding_all rfl) _ 5 (([] : List UInt8).map oct) (exec_none64 rfl) ?_
                     intro w1 hb1 m1 z1
                     replace z1 := Lib.hid z1
                     have hO := Owns.of_holds (B := wr.heap.size) hb1 (Nat.le_refl _) (by decide)
                     obtain ⟨Y, hY⟩ : ∃ Y : Option Addr, Y = some ⟨wr.heap.size, 0, none⟩ := ⟨_, rfl⟩
                     rw [← hY] at hO ⊢
                     clear hY hb1 z1)
                  | (with_reducible refine wpList_ranW (o := ⟨some 73, .call _, _, _, _, _⟩) (by with_unfolding_all rfl) (.int .i64 2241) _ (exec_min rfl rfl rfl HM.out.1) ?_)
                  | (with_reducible refine wpList_ranW (o := ⟨some 74, .slice _ _ _ _ _, _, _, _, _⟩) (by with_unfolding_all rfl) (.slice RA0 2241 rc) _ (exec_upto Tryd.underlying64 u8_one HM.out.2.1 rfl rfl rfl) ?_)
                  | (at_builtin; refine wpList_appends w1 (o := ⟨some 75, _, _, _, _, _⟩) rfl (.tmp 69) (.tmp 74) 64 rfl 5 i0 (.int .u8 0) 1 Tryd.underlying64 HI.out.1 HI.out.2.1 HI.out.2.2.1 HI.out.2.2.2 rfl wr.heap.size m1.size Y 0 0 [] rfl rfl hO RA0 2241 rc q rfl HM.out.2.2.1 (HM.out.2.2.2.1.keep (mm.then m1) (by simp)) (by have := HM.out.2.2.1; have := HM.out.2.2.2.2; simp; omega) (by have := HM.out.2.2.1; have := HM.out.2.2.2.2; simp; unfold maxLen; omega) ?_
                     intro Y1 c1 w2 hO2 m2 q2
                     have e2 : ([] ++ q).length = 2241 := by rw [List.nil_append]; exact HM.out.2.2.1.symm
                     rw [e2]
                     rw [List.nil_append] at hO2
                     replace mm := far_mod (mm.then m1) m2 (fun i hi => by obtain ⟨a, ha, rfl⟩ := mem_blk hi; exact Nat.le_trans mm.size (hO.fits.2.2 a ha).1)
                     have RQ := hO2.reads
                     have FQ := hO2.fits
                     obtain ⟨gq, oq, hA9, hcq⟩ := RQ 0 (by rw [← HM.out.2.2.1]; decide)
                     subst hA9
                     have gq8 := (FQ.2.2 _ rfl).2
                     replace FQ := FQ.1
                     rw [← HM.out.2.2.1] at FQ
                     replace hcq : w2.cell? ⟨gq, oq, none⟩ = some (.int .u8 (kx : Int)) := by rw [HC.out.1]; exact RQ.at0 HC.out.2.1
                     clear hO m1 m2 q2 hO2 e2)
                  | (go_at_call 34; with_reducible refine Calls.mono (DD.out gq oq c1 w2 RQ) ?_
                     rintro e w3 ⟨rfl, m3⟩
                     replace hcq := m3.cell (by simp) hcq
                     replace mm := mm.then m3
                     clear m3)
                  | (with_reducible refine wpList_allocs (o := ⟨some 13, .alloc 50, _, _, _, _⟩) rfl 50 rfl _ zero50 ?_; intro y13 hy13 my13 zy13)
                  | (with_reducible refine wpList_storesAll (o := ⟨none, .store 50 (.tmp 13) (.tmp 79), _, _, _, _⟩) rfl 50 (.tmp 13) (.tmp 79) rfl rfl w3.heap.size (sgc 0 none 0 0 none 0 0) rfl (.agg (sgc 0 none 0 0 none 0 0).toArray) rfl rfl 50 _ hy13 rfl (sgc_one _ _ _ _ _ _ _) (size50s _ _ _ _ _ _ _) ?_
                     intro w4 h13 m13 z13
                     have mx : Mod [] w3 w4 := my13.trans m13 (by intro i hi h; simp at h; omega)
                     replace hcq := mx.cell (by simp) hcq
                     replace mm := mm.then mx
                     obtain ⟨b13, hq13⟩ : ∃ q, q = w3.heap.size := ⟨_, rfl⟩
                     rw [← hq13] at h13 ⊢
                     clear hy13 my13 zy13 m13 z13 mx hq13)
                  | (with_reducible refine wpList_ranW (o := ⟨some 113, .indexAddr _ _ _, _, _, _, _⟩) (by with_unfolding_all rfl) (.pointer (some ⟨gq, oq + 0 * 1, none⟩)) _ (exec_ixs (i := 0) Tryd.underlying64 u8_one (by decide) rfl rfl rfl) ?_)
                  | (with_reducible refine wpList_ranW (o := ⟨some 114, .load 5 _, _, _, _, _⟩) (by with_unfolding_all rfl) (.int .u8 (kx : Int)) _ (exec_load rfl rfl (run_load1 Tryd.underlying5 rfl hcq)) ?_)
                  | (with_reducible refine wpList_ranW (o := ⟨some 120, .load 50 (.tmp 13), _, _, _, _⟩) (by with_unfolding_all rfl) (.agg (sgc 0 none 0 0 none 0 0).toArray) _ (exec_load rfl rfl (run_loads (Cells.of_holds h13) Tryd.underlying50 rfl (size50s _ _ _ _ _ _ _))) ?_)
                  | (with_reducible refine wpList_ranW (o := ⟨some 121, .build 50 _, _, _, _, _⟩) (by with_unfolding_all rfl) (.agg (sgc 0 none 0 0 none 0 0).toArray) _ (exec_build50z rfl) ?_)
                  | (go_at_call 24; with_reducible refine Calls.mono (same_c 0 [] [] none none none none 0 0 0 0 0 0 rfl rfl (by decide) (by decide) w4 (Cells.nil _ _) (Cells.nil _ _) (Cells.nil _ _) (Cells.nil _ _)) ?_
                     rintro e w5 ⟨rfl, m5⟩
                     replace mm := mm.then m5
                     clear m5))
                exact ⟨⟨k + 1, by omega, by go_num, mm⟩, by simp [intOf]; omega⟩
              have hx8 : x.toNat < 8 := by omega
              have hxZ : ¬ (8 : Int) ≤ (kx : Int) := by omega
              have DD : Hid (∀ gq oq c1 v, 2241 ≤ c1 → Reads v (some ⟨gq, oq, none⟩) q → gq < v.heap.size → Calls Tryd.prog 34 #[.slice (some ⟨gq, oq, none⟩) 2241 c1] v fun r w' => ∃ A cA B cB, r = .returned (.tuple #[.agg (sgc (kx : Int) A 67 cA B 3 cB).toArray, .int .i64 0]) ∧ OwnG ic 23 32 w' A cA (unI (ys.take 2144) 67) ∧ OwnG ic 23 32 w' B cB (unI (ys.drop 2144) 3) ∧ Mod [] v w') := Lib.hid fun gq oq c1 v h1 h2 h3 => by
                rw [hxy] at h2
                rw [hkx]
                refine (Decode_yes gq oq c1 x ys hx8 hys h1 v h2 h3).mono ?_
                rintro e w' ⟨A, cA, B, cB, h1, h2, h3, h4, _⟩
                exact ⟨A, cA, B, cB, h1, h2, h3, h4⟩
              have BO : Hid (∀ A cA B cB v, OwnG ic 23 32 v A cA (unI (ys.take 2144) 67) → OwnG ic 23 32 v B cB (unI (ys.drop 2144) 3) → Calls Tryd.prog 33 #[.agg (sgc (kx : Int) A 67 cA B 3 cB).toArray] v fun r w' => ∃ A c, r = .returned (.slice A 2241 c) ∧ Reads w' A q ∧ Mod [] v w') := Lib.hid fun A cA B cB v h1 h2 => by
                have := bytesOf_c x.toNat hx8 A cA B cB _ _ (unI_length _ _) (unI_length _ _) v h1.cells h2.cells h1.lt h2.lt
                rw [sgB_back x ys hys, ← hxy, ← hkx] at this
                exact this
              have BE : Hid (∀ X Y x y v, Reads v X q → Reads v Y q → Calls Tryd.prog 32 #[.slice X 2241 x, .slice Y 2241 y] v fun e w' => e = .returned (.bool true) ∧ v = w') := Lib.hid fun X Y x y v h1 h2 => by
                have := beq_n X Y q q 2241 2241 x y v hm hm h1 h2
                rwa [decide_eq_true rfl] at this
              have HC := Lib.hid (And.intro hkx (And.intro hxy (And.intro (show kx < 8 by omega) trivial)))
              obtain ⟨L1, hL1⟩ : ∃ q, q = unI (ys.take 2144) 67 := ⟨_, rfl⟩
              obtain ⟨L2, hL2⟩ : ∃ q, q = unI (ys.drop 2144) 3 := ⟨_, rfl⟩
              rw [← hL1, ← hL2] at DD BO
              clear hL1 hL2 hkx hxy hx hx8 hys hm
              go_wp2_with (first
                | (with_reducible refine wpList_load1 (o := ⟨some 66, .load 64 (.tmp 65), _, _, _, _⟩) rfl 64 (.tmp 65) rfl ⟨g, oo + k, none⟩ (.slice RA0 rn rc) rfl _ Tryd.underlying64 rfl hcp ?_)
                | (with_reducible refine wpList_made (o := ⟨some 69, .buildSlice 64 0 _, _, _, _, _⟩) (by with_unfolding_all rfl) _ 5 (([] : List UInt8).map oct) (exec_none64 rfl) ?_
                   intro w1 hb1 m1 z1
                   replace z1 := Lib.hid z1
                   have hO := Owns.of_holds (B := wr.heap.size) hb1 (Nat.le_refl _) (by decide)
                   obtain ⟨Y, hY⟩ : ∃ Y : Option Addr, Y = some ⟨wr.heap.size, 0, none⟩ := ⟨_, rfl⟩
                   rw [← hY] at hO ⊢
                   clear hY hb1 z1)
                | (with_reducible refine wpList_ranW (o := ⟨some 73, .call _, _, _, _, _⟩) (by with_unfolding_all rfl) (.int .i64 2241) _ (exec_min rfl rfl rfl HM.out.1) ?_)
                | (with_reducible refine wpList_ranW (o := ⟨some 74, .slice _ _ _ _ _, _, _, _, _⟩) (by with_unfolding_all rfl) (.slice RA0 2241 rc) _ (exec_upto Tryd.underlying64 u8_one HM.out.2.1 rfl rfl rfl) ?_)
                | (at_builtin; refine wpList_appends w1 (o := ⟨some 75, _, _, _, _, _⟩) rfl (.tmp 69) (.tmp 74) 64 rfl 5 i0 (.int .u8 0) 1 Tryd.underlying64 HI.out.1 HI.out.2.1 HI.out.2.2.1 HI.out.2.2.2 rfl wr.heap.size m1.size Y 0 0 [] rfl rfl hO RA0 2241 rc q rfl HM.out.2.2.1 (HM.out.2.2.2.1.keep (mm.then m1) (by simp)) (by have := HM.out.2.2.1; have := HM.out.2.2.2.2; simp; omega) (by have := HM.out.2.2.1; have := HM.out.2.2.2.2; simp; unfold maxLen; omega) ?_
                   intro Y1 c1 w2 hO2 m2 q2
                   have e2 : ([] ++ q).length = 2241 := by rw [List.nil_append]; exact HM.out.2.2.1.symm
                   rw [e2]
                   rw [List.nil_append] at hO2
                   replace mm := far_mod (mm.then m1) m2 (fun i hi => by obtain ⟨a, ha, rfl⟩ := mem_blk hi; exact Nat.le_trans mm.size (hO.fits.2.2 a ha).1)
                   have RQ := hO2.reads
                   have FQ := hO2.fits
                   obtain ⟨gq, oq, hA9, hcq⟩ := RQ 0 (by rw [← HM.out.2.2.1]; decide)
                   subst hA9
                   have gq8 := (FQ.2.2 _ rfl).2
                   replace FQ := FQ.1
                   rw [← HM.out.2.2.1] at FQ
                   replace hcq : w2.cell? ⟨gq, oq, none⟩ = some (.int .u8 (kx : Int)) := by rw [HC.out.1]; exact RQ.at0 HC.out.2.1
                   clear hO m1 m2 q2 hO2 e2)
                | (go_at_call 34; with_reducible refine Calls.mono (DD.out gq oq c1 w2 FQ RQ gq8) ?_
                   rintro e w3 ⟨A8, c8, B8, d8, rfl, O8, P8, m3⟩
                   replace hcq := m3.cell (by simp) hcq
                   replace RQ := RQ.keep m3 (by simp)
                   replace mm := mm.then m3
                   clear m3)
                | (with_reducible refine wpList_allocs (o := ⟨some 13, .alloc 50, _, _, _, _⟩) rfl 50 rfl _ zero50 ?_; intro y13 hy13 my13 zy13)
                | (with_reducible refine wpList_storesAll (o := ⟨none, .store 50 (.tmp 13) (.tmp 79), _, _, _, _⟩) rfl 50 (.tmp 13) (.tmp 79) rfl rfl w3.heap.size (sgc (kx : Int) A8 67 c8 B8 3 d8) rfl (.agg (sgc (kx : Int) A8 67 c8 B8 3 d8).toArray) rfl rfl 50 _ hy13 rfl (sgc_one _ _ _ _ _ _ _) (size50s _ _ _ _ _ _ _) ?_
                   intro w4 h13 m13 z13
                   have mx : Mod [] w3 w4 := my13.trans m13 (by intro i hi h; simp at h; omega)
                   replace hcq := mx.cell (by simp) hcq
                   replace RQ := RQ.keep mx (by simp)
                   replace O8 := O8.keep mx (by simp)
                   replace P8 := P8.keep mx (by simp)
                   replace mm := mm.then mx
                   obtain ⟨b13, hq13⟩ : ∃ q, q = w3.heap.size := ⟨_, rfl⟩
                   rw [← hq13] at h13 ⊢
                   clear hy13 my13 zy13 m13 z13 mx hq13)
                | (with_reducible refine wpList_ranW (o := ⟨some 113, .indexAddr _ _ _, _, _, _, _⟩) (by with_unfolding_all rfl) (.pointer (some ⟨gq, oq + 0 * 1, none⟩)) _ (exec_ixs (i := 0) Tryd.underlying64 u8_one (by decide) rfl rfl rfl) ?_)
                | (with_reducible refine wpList_ranW (o := ⟨some 114, .load 5 _, _, _, _, _⟩) (by with_unfolding_all rfl) (.int .u8 (kx : Int)) _ (exec_load rfl rfl (run_load1 Tryd.underlying5 rfl hcq)) ?_)
                | (with_reducible refine wpList_ranW (o := ⟨some 84, .load 50 (.tmp 13), _, _, _, _⟩) (by with_unfolding_all rfl) (.agg (sgc (kx : Int) A8 67 c8 B8 3 d8).toArray) _ (exec_load rfl rfl (run_loads (Cells.of_holds h13) Tryd.underlying50 rfl (size50s _ _ _ _ _ _ _))) ?_)
                | (go_at_call 31; have RC := right_c (kx : Int) A8 67 c8 B8 3 d8 w4; rw [mayB_yes HC.out.2.2.1 rfl rfl] at RC; with_reducible refine Calls.mono RC ?_
                   rintro e w5 ⟨rfl, m5⟩
                   replace h13 := h13.keep m5 (by simp)
                   replace O8 := O8.keep m5 (by simp)
                   replace P8 := P8.keep m5 (by simp)
                   replace RQ := RQ.keep m5 (by simp)
                   replace mm := mm.then m5
                   clear m5 RC)
                | (with_reducible refine wpList_ranW (o := ⟨some 89, .load 50 (.tmp 13), _, _, _, _⟩) (by with_unfolding_all rfl) (.agg (sgc (kx : Int) A8 67 c8 B8 3 d8).toArray) _ (exec_load rfl rfl (run_loads (Cells.of_holds h13) Tryd.underlying50 rfl (size50s _ _ _ _ _ _ _))) ?_)
                | (go_at_call 33; with_reducible refine Calls.mono (BO.out A8 c8 B8 d8 w5 O8 P8) ?_
                   rintro e w6 ⟨Z, cz, rfl, RZ, m6⟩
                   replace RQ := RQ.keep m6 (by simp)
                   replace mm := mm.then m6
                   clear m6)
                | (go_at_call 32; with_reducible refine Calls.mono (BE.out Z (some ⟨gq, oq, none⟩) cz c1 w6 RZ RQ) ?_
                   rintro e w7 ⟨rfl, rfl⟩))
              exact ⟨⟨k + 1, by omega, by go_num, mm⟩, by simp [intOf]; omega⟩
            · obtain rfl : k = 8 := by omega
              clear hrn ok3
              go_wp2_with (first
                | (with_reducible refine wpList_load1 (o := ⟨some 66, .load 64 (.tmp 65), _, _, _, _⟩) rfl 64 (.tmp 65) rfl ⟨g, oo + 8, none⟩ (.slice RA0 rn rc) rfl _ Tryd.underlying64 rfl hcp ?_))
              go_ret
              exact ⟨rfl, mm⟩
          · have hkZ : ¬ (k : Int) < (M : Int) := by omega
            clear HS
            go_wp2_with fail
            go_ret
            exact ⟨rfl, mm⟩
    · have hkZ : ¬ (k : Int) < (N : Int) := by omega
      clear HR
      go_wp2_with fail
      go_loopw [62] (fun i wi => ∃ (k : Nat), k ≤ 8 ∧ i = .int .i64 (k : Int) ∧ Mod [] w wi) (fun i _ => 8 - (intOf i).toNat)
      case atStart => exact ⟨0, by omega, rfl, mm⟩
      case round =>
        clear mm
        obtain ⟨k, hk, rfl, mm⟩ := hrel
        by_cases hkn : k < M
        · have hkZ : (k : Int) < (M : Int) := by omega
          obtain ⟨g, oo, hA, hcp0⟩ := (HS.out.2.1.keep mm (by simp)).elem' brv 1 (by omega) brv_length k (by rw [← HS.out.1]; exact hkn)
          subst hA
          have hok := HS.out.2.2 (rs[k]'(by rw [← HS.out.1]; exact hkn)) (List.getElem_mem _)
          obtain ⟨r, hr⟩ : ∃ z, z = rs[k]'(by rw [← HS.out.1]; exact hkn) := ⟨_, rfl⟩
          rw [← hr] at hcp0 hok
          clear hr HS
          obtain ⟨RA0, rc, rl⟩ := r
          obtain ⟨ok1, ok2, ok3⟩ := hok
          replace ok1 : rl.length ≤ rc := ok1
          replace ok3 : Reads w RA0 rl := ok3
          have hcp : wr.cell? ⟨g, oo + k, none⟩ = some (.slice RA0 rl.length rc) := by
            have := hcp0.at 0 (by rw [brv_length]; decide)
            rw [Nat.mul_one] at this
            exact this
          obtain ⟨rn, hrn⟩ : ∃ n, n = rl.length := ⟨_, rfl⟩
          rw [← hrn] at hcp ok1
          clear hcp0 ok2
          by_cases hk8 : k < 8
          · have hkZ8 : (k : Int) < 8 := by omega
            have e8 : ((k : Int) == 8) = false := beq_eq_false_iff_ne.2 (by omega)
            obtain ⟨q, hq⟩ : ∃ q, q = rl.take 2300 := ⟨_, rfl⟩
            have hql : q.length = min rn 2300 := by rw [hq, List.length_take, ← hrn]; omega
            have RQ0 : Reads w RA0 q := by rw [hq]; exact ok3.pre 2300
            clear hq hrn ok3
            by_cases s1 : q.length < 2241
            · obtain ⟨m, hm⟩ : ∃ m, m = q.length := ⟨_, rfl⟩
              have HM := Lib.hid (And.intro (show (m : Int) = min (rn : Int) 2300 by omega) (And.intro (show m ≤ rc by omega) (And.intro hm (And.intro RQ0 (show q.length ≤ 2300 by omega)))))
              have HC : Hid (m < 2241) := Lib.hid (by omega)
              have hsZ : (m : Int) < 2241 := by omega
              clear hm hql RQ0 s1
              go_wp2_with (first
                | (with_reducible refine wpList_load1 (o := ⟨some 66, .load 64 (.tmp 65), _, _, _, _⟩) rfl 64 (.tmp 65) rfl ⟨g, oo + k, none⟩ (.slice RA0 rn rc) rfl _ Tryd.underlying64 rfl hcp ?_)
                | (with_reducible refine wpList_made (o := ⟨some 69, .buildSlice 64 0 _, _, _, _, _⟩) (by with_unfolding_all rfl) _ 5 (([] : List UInt8).map oct) (exec_none64 rfl) ?_
                   intro w1 hb1 m1 z1
                   replace z1 := Lib.hid z1
                   have hO := Owns.of_holds (B := wr.heap.size) hb1 (Nat.le_refl _) (by decide)
                   obtain ⟨Y, hY⟩ : ∃ Y : Option Addr, Y = some ⟨wr.heap.size, 0, none⟩ := ⟨_, rfl⟩
                   rw [← hY] at hO ⊢
                   clear hY hb1 z1)
                | (with_reducible refine wpList_ranW (o := ⟨some 73, .call _, _, _, _, _⟩) (by with_unfolding_all rfl) (.int .i64 (m : Int)) _ (exec_min rfl rfl rfl HM.out.1) ?_)
                | (with_reducible refine wpList_ranW (o := ⟨some 74, .slice _ _ _ _ _, _, _, _, _⟩) (by with_unfolding_all rfl) (.slice RA0 m rc) _ (exec_upto Tryd.underlying64 u8_one HM.out.2.1 rfl rfl rfl) ?_)
                | (at_builtin; refine wpList_appends w1 (o := ⟨some 75, _, _, _, _, _⟩) rfl (.tmp 69) (.tmp 74) 64 rfl 5 i0 (.int .u8 0) 1 Tryd.underlying64 HI.out.1 HI.out.2.1 HI.out.2.2.1 HI.out.2.2.2 rfl wr.heap.size m1.size Y 0 0 [] rfl rfl hO RA0 m rc q rfl HM.out.2.2.1 (HM.out.2.2.2.1.keep (mm.then m1) (by simp)) (by have := HM.out.2.2.1; have := HM.out.2.2.2.2; simp; omega) (by have := HM.out.2.2.1; have := HM.out.2.2.2.2; simp; unfold maxLen; omega) ?_
                   intro Y1 c1 w2 hO2 m2 q2
                   have e2 : ([] ++ q).length = m := by rw [List.nil_append]; exact HM.out.2.2.1.symm
                   rw [e2]
                   rw [List.nil_append] at hO2
                   replace mm := far_mod (mm.then m1) m2 (fun i hi => by obtain ⟨a, ha, rfl⟩ := mem_blk hi; exact Nat.le_trans mm.size (hO.fits.2.2 a ha).1)
                   have RQ := hO2.reads
                   have FQ := hO2.fits
                   clear hO m1 m2 q2 hO2 e2)
                | (go_at_call 34; with_reducible refine Calls.mono (Decode_short Y1 m c1 HC.out w2) ?_
                   rintro e w3 ⟨rfl, m3⟩
                   replace RQ := RQ.keep m3 (by simp)
                   replace mm := mm.then m3
                   clear m3)
                | (with_reducible refine wpList_allocs (o := ⟨some 13, .alloc 50, _, _, _, _⟩) rfl 50 rfl _ zero50 ?_; intro y13 hy13 my13 zy13)
                | (with_reducible refine wpList_storesAll (o := ⟨none, .store 50 (.tmp 13) (.tmp 79), _, _, _, _⟩) rfl 50 (.tmp 13) (.tmp 79) rfl rfl w3.heap.size (sgc 0 none 0 0 none 0 0) rfl (.agg (sgc 0 none 0 0 none 0 0).toArray) rfl rfl 50 _ hy13 rfl (sgc_one _ _ _ _ _ _ _) (size50s _ _ _ _ _ _ _) ?_
                   intro w4 h13 m13 z13
                   have mx : Mod [] w3 w4 := my13.trans m13 (by intro i hi h; simp at h; omega)
                   replace mm := mm.then mx
                   obtain ⟨b13, hq13⟩ : ∃ q, q = w3.heap.size := ⟨_, rfl⟩
                   rw [← hq13] at h13 ⊢
                   clear hy13 my13 zy13 m13 z13 mx hq13)
                | (with_reducible refine wpList_ranW (o := ⟨some 102, .load 50 (.tmp 13), _, _, _, _⟩) (by with_unfolding_all rfl) (.agg (sgc 0 none 0 0 none 0 0).toArray) _ (exec_load rfl rfl (run_loads (Cells.of_holds h13) Tryd.underlying50 rfl (size50s _ _ _ _ _ _ _))) ?_)
                | (with_reducible refine wpList_ranW (o := ⟨some 103, .build 50 _, _, _, _, _⟩) (by with_unfolding_all rfl) (.agg (sgc 0 none 0 0 none 0 0).toArray) _ (exec_build50z rfl) ?_)
                | (go_at_call 24; with_reducible refine Calls.mono (same_c 0 [] [] none none none none 0 0 0 0 0 0 rfl rfl (by decide) (by decide) w4 (Cells.nil _ _) (Cells.nil _ _) (Cells.nil _ _) (Cells.nil _ _)) ?_
                   rintro e w5 ⟨rfl, m5⟩
                   replace mm := mm.then m5
                   clear m5))
              exact ⟨⟨k + 1, by omega, by go_num, mm⟩, by simp [intOf]; omega⟩
            by_cases s2 : 2241 < q.length
            · obtain ⟨m, hm⟩ : ∃ m, m = q.length := ⟨_, rfl⟩
              have HM := Lib.hid (And.intro (show (m : Int) = min (rn : Int) 2300 by omega) (And.intro (show m ≤ rc by omega) (And.intro hm (And.intro RQ0 (show q.length ≤ 2300 by omega)))))
              have HC : Hid (2241 < m) := Lib.hid (by omega)
              have hsZ : ¬ (m : Int) < 2241 := by omega
              have hsY : (2241 : Int) < (m : Int) := by omega
              clear hm hql RQ0 s1 s2
              go_wp2_with (first
                | (with_reducible refine wpList_load1 (o := ⟨some 66, .load 64 (.tmp 65), _, _, _, _⟩) rfl 64 (.tmp 65) rfl ⟨g, oo + k, none⟩ (.slice RA0 rn rc) rfl _ Tryd.underlying64 rfl hcp ?_)
                | (with_reducible refine wpList_made (o := ⟨some 69, .buildSlice 64 0 _, _, _, _, _⟩) (by with_unfolding_all rfl) _ 5 (([] : List UInt8).map oct) (exec_none64 rfl) ?_
                   intro w1 hb1 m1 z1
                   replace z1 := Lib.hid z1
                   have hO := Owns.of_holds (B := wr.heap.size) hb1 (Nat.le_refl _) (by decide)
                   obtain ⟨Y, hY⟩ : ∃ Y : Option Addr, Y = some ⟨wr.heap.size, 0, none⟩ := ⟨_, rfl⟩
                   rw [← hY] at hO ⊢
                   clear hY hb1 z1)
                | (with_reducible refine wpList_ranW (o := ⟨some 73, .call _, _, _, _, _⟩) (by with_unfolding_all rfl) (.int .i64 (m : Int)) _ (exec_min rfl rfl rfl HM.out.1) ?_)
                | (with_reducible refine wpList_ranW (o := ⟨some 74, .slice _ _ _ _ _, _, _, _, _⟩) (by with_unfolding_all rfl) (.slice RA0 m rc) _ (exec_upto Tryd.underlying64 u8_one HM.out.2.1 rfl rfl rfl) ?_)
                | (at_builtin; refine wpList_appends w1 (o := ⟨some 75, _, _, _, _, _⟩) rfl (.tmp 69) (.tmp 74) 64 rfl 5 i0 (.int .u8 0) 1 Tryd.underlying64 HI.out.1 HI.out.2.1 HI.out.2.2.1 HI.out.2.2.2 rfl wr.heap.size m1.size Y 0 0 [] rfl rfl hO RA0 m rc q rfl HM.out.2.2.1 (HM.out.2.2.2.1.keep (mm.then m1) (by simp)) (by have := HM.out.2.2.1; have := HM.out.2.2.2.2; simp; omega) (by have := HM.out.2.2.1; have := HM.out.2.2.2.2; simp; unfold maxLen; omega) ?_
                   intro Y1 c1 w2 hO2 m2 q2
                   have e2 : ([] ++ q).length = m := by rw [List.nil_append]; exact HM.out.2.2.1.symm
                   rw [e2]
                   rw [List.nil_append] at hO2
                   replace mm := far_mod (mm.then m1) m2 (fun i hi => by obtain ⟨a, ha, rfl⟩ := mem_blk hi; exact Nat.le_trans mm.size (hO.fits.2.2 a ha).1)
                   have RQ := hO2.reads
                   have FQ := hO2.fits
                   clear hO m1 m2 q2 hO2 e2)
                | (go_at_call 34; with_reducible refine Calls.mono (Decode_long Y1 m c1 HC.out w2) ?_
                   rintro e w3 ⟨rfl, m3⟩
                   replace RQ := RQ.keep m3 (by simp)
                   replace mm := mm.then m3
                   clear m3)
                | (with_reducible refine wpList_allocs (o := ⟨some 13, .alloc 50, _, _, _, _⟩) rfl 50 rfl _ zero50 ?_; intro y13 hy13 my13 zy13)
                | (with_reducible refine wpList_storesAll (o := ⟨none, .store 50 (.tmp 13) (.tmp 79), _, _, _, _⟩) rfl 50 (.tmp 13) (.tmp 79) rfl rfl w3.heap.size (sgc 0 none 0 0 none 0 0) rfl (.agg (sgc 0 none 0 0 none 0 0).toArray) rfl rfl 50 _ hy13 rfl (sgc_one _ _ _ _ _ _ _) (size50s _ _ _ _ _ _ _) ?_
                   intro w4 h13 m13 z13
                   have mx : Mod [] w3 w4 := my13.trans m13 (by intro i hi h; simp at h; omega)
                   replace mm := mm.then mx
                   obtain ⟨b13, hq13⟩ : ∃ q, q = w3.heap.size := ⟨_, rfl⟩
                   rw [← hq13] at h13 ⊢
                   clear hy13 my13 zy13 m13 z13 mx hq13)
                | (with_reducible refine wpList_ranW (o := ⟨some 120, .load 50 (.tmp 13), _, _, _, _⟩) (by with_unfolding_all rfl) (.agg (sgc 0 none 0 0 none 0 0).toArray) _ (exec_load rfl rfl (run_loads (Cells.of_holds h13) Tryd.underlying50 rfl (size50s _ _ _ _ _ _ _))) ?_)
                | (with_reducible refine wpList_ranW (o := ⟨some 121, .build 50 _, _, _, _, _⟩) (by with_unfolding_all rfl) (.agg (sgc 0 none 0 0 none 0 0).toArray) _ (exec_build50z rfl) ?_)
                | (go_at_call 24; with_reducible refine Calls.mono (same_c 0 [] [] none none none none 0 0 0 0 0 0 rfl rfl (by decide) (by decide) w4 (Cells.nil _ _) (Cells.nil _ _) (Cells.nil _ _) (Cells.nil _ _)) ?_
                   rintro e w5 ⟨rfl, m5⟩
                   replace mm := mm.then m5
                   clear m5))
              exact ⟨⟨k + 1, by omega, by go_num, mm⟩, by simp [intOf]; omega⟩
            have hm : 2241 = q.length := by omega
            have HM := Lib.hid (And.intro (show (2241 : Int) = min (rn : Int) 2300 by omega) (And.intro (show 2241 ≤ rc by omega) (And.intro hm (And.intro RQ0 (show q.length ≤ 2300 by omega)))))
            obtain ⟨x, ys, hxy⟩ : ∃ x ys, q = x :: ys := by
              rcases q with _ | ⟨x, ys⟩
              · simp at hm
              · exact ⟨x, ys, rfl⟩
            have hys : ys.length = 2240 := by rw [hxy, List.length_cons] at hm; omega
            obtain ⟨kx, hkx⟩ : ∃ n, n = x.toNat := ⟨_, rfl⟩
            have hkx256 : kx < 256 := by rw [hkx]; exact x.toNat_lt
            clear hql RQ0 s1 s2
            by_cases hx : 8 ≤ x.toNat
            · have HC := Lib.hid (And.intro hkx (And.intro hxy hx))
              have hxZ : (8 : Int) ≤ (kx : Int) := by omega
              have DD : Hid (∀ gq oq c1 v, Reads v (some ⟨gq, oq, none⟩) q → Calls Tryd.prog 34 #[.slice (some ⟨gq, oq, none⟩) 2241 c1] v fun r w' => r = .returned (.tuple #[.agg (sgc 0 none 0 0 none 0 0).toArray, .int .i64 2]) ∧ Mod [] v w') := Lib.hid fun gq oq c1 v h2 => by
                rw [hxy] at h2
                exact Decode_leaf gq oq c1 x ys hx v h2
              clear hkx hxy hx hys hm
              go_wp2_with (first
                | (with_reducible refine wpList_load1 (o := ⟨some 66, .load 64 (.tmp 65), _, _, _, _⟩) rfl 64 (.tmp 65) rfl ⟨g, oo + k, none⟩ (.slice RA0 rn rc) rfl _ Tryd.underlying64 rfl hcp ?_)
                | (with_reducible refine wpList_made (o := ⟨some 69, .buildSlice 64 0 _, _, _, _, _⟩) (by with_unfolding_all rfl) _ 5 (([] : List UInt8).map oct) (exec_none64 rfl) ?_
                   intro w1 hb1 m1 z1
                   replace z1 := Lib.hid z1
                   have hO := Owns.of_holds (B := wr.heap.size) hb1 (Nat.le_refl _) (by decide)
                   obtain ⟨Y, hY⟩ : ∃ Y : Option Addr, Y = some ⟨wr.heap.size, 0, none⟩ := ⟨_, rfl⟩
                   rw [← hY] at hO ⊢
                   clear hY hb1 z1)
                | (with_reducible refine wpList_ranW (o := ⟨some 73, .call _, _, _, _, _⟩) (by with_unfolding_all rfl) (.int .i64 2241) _ (exec_min rfl rfl rfl HM.out.1) ?_)
                | (with_reducible refine wpList_ranW (o := ⟨some 74, .slice _ _ _ _ _, _, _, _, _⟩) (by with_unfolding_all rfl) (.slice RA0 2241 rc) _ (exec_upto Tryd.underlying64 u8_one HM.out.2.1 rfl rfl rfl) ?_)
                | (at_builtin; refine wpList_appends w1 (o := ⟨some 75, _, _, _, _, _⟩) rfl (.tmp 69) (.tmp 74) 64 rfl 5 i0 (.int .u8 0) 1 Tryd.underlying64 HI.out.1 HI.out.2.1 HI.out.2.2.1 HI.out.2.2.2 rfl wr.heap.size m1.size Y 0 0 [] rfl rfl hO RA0 2241 rc q rfl HM.out.2.2.1 (HM.out.2.2.2.1.keep (mm.then m1) (by simp)) (by have := HM.out.2.2.1; have := HM.out.2.2.2.2; simp; omega) (by have := HM.out.2.2.1; have := HM.out.2.2.2.2; simp; unfold maxLen; omega) ?_
                   intro Y1 c1 w2 hO2 m2 q2
                   have e2 : ([] ++ q).length = 2241 := by rw [List.nil_append]; exact HM.out.2.2.1.symm
                   rw [e2]
                   rw [List.nil_append] at hO2
                   replace mm := far_mod (mm.then m1) m2 (fun i hi => by obtain ⟨a, ha, rfl⟩ := mem_blk hi; exact Nat.le_trans mm.size (hO.fits.2.2 a ha).1)
                   have RQ := hO2.reads
                   have FQ := hO2.fits
                   obtain ⟨gq, oq, hA9, hcq⟩ := RQ 0 (by rw [← HM.out.2.2.1]; decide)
                   subst hA9
                   have gq8 := (FQ.2.2 _ rfl).2
                   replace FQ := FQ.1
                   rw [← HM.out.2.2.1] at FQ
                   replace hcq : w2.cell? ⟨gq, oq, none⟩ = some (.int .u8 (kx : Int)) := by rw [HC.out.1]; exact RQ.at0 HC.out.2.1
                   clear hO m1 m2 q2 hO2 e2)
                | (go_at_call 34; with_reducible refine Calls.mono (DD.out gq oq c1 w2 RQ) ?_
                   rintro e w3 ⟨rfl, m3⟩
                   replace hcq := m3.cell (by simp) hcq
                   replace mm := mm.then m3
                   clear m3)
                | (with_reducible refine wpList_allocs (o := ⟨some 13, .alloc 50, _, _, _, _⟩) rfl 50 rfl _ zero50 ?_; intro y13 hy13 my13 zy13)
                | (with_reducible refine wpList_storesAll (o := ⟨none, .store 50 (.tmp 13) (.tmp 79), _, _, _, _⟩) rfl 50 (.tmp 13) (.tmp 79) rfl rfl w3.heap.size (sgc 0 none 0 0 none 0 0) rfl (.agg (sgc 0 none 0 0 none 0 0).toArray) rfl rfl 50 _ hy13 rfl (sgc_one _ _ _ _ _ _ _) (size50s _ _ _ _ _ _ _) ?_
                   intro w4 h13 m13 z13
                   have mx : Mod [] w3 w4 := my13.trans m13 (by intro i hi h; simp at h; omega)
                   replace hcq := mx.cell (by simp) hcq
                   replace mm := mm.then mx
                   obtain ⟨b13, hq13⟩ : ∃ q, q = w3.heap.size := ⟨_, rfl⟩
                   rw [← hq13] at h13 ⊢
                   clear hy13 my13 zy13 m13 z13 mx hq13)
                | (with_reducible refine wpList_ranW (o := ⟨some 113, .indexAddr _ _ _, _, _, _, _⟩) (by with_unfolding_all rfl) (.pointer (some ⟨gq, oq + 0 * 1, none⟩)) _ (exec_ixs (i := 0) Tryd.underlying64 u8_one (by decide) rfl rfl rfl) ?_)
                | (with_reducible refine wpList_ranW (o := ⟨some 114, .load 5 _, _, _, _, _⟩) (by with_unfolding_all rfl) (.int .u8 (kx : Int)) _ (exec_load rfl rfl (run_load1 Tryd.underlying5 rfl hcq)) ?_)
                | (with_reducible refine wpList_ranW (o := ⟨some 120, .load 50 (.tmp 13), _, _, _, _⟩) (by with_unfolding_all rfl) (.agg (sgc 0 none 0 0 none 0 0).toArray) _ (exec_load rfl rfl (run_loads (Cells.of_holds h13) Tryd.underlying50 rfl (size50s _ _ _ _ _ _ _))) ?_)
                | (with_reducible refine wpList_ranW (o := ⟨some 121, .build 50 _, _, _, _, _⟩) (by with_unfolding_all rfl) (.agg (sgc 0 none 0 0 none 0 0).toArray) _ (exec_build50z rfl) ?_)
                | (go_at_call 24; with_reducible refine Calls.mono (same_c 0 [] [] none none none none 0 0 0 0 0 0 rfl rfl (by decide) (by decide) w4 (Cells.nil _ _) (Cells.nil _ _) (Cells.nil _ _) (Cells.nil _ _)) ?_
                   rintro e w5 ⟨rfl, m5⟩
                   replace mm := mm.then m5
                   clear m5))
              exact ⟨⟨k + 1, by omega, by go_num, mm⟩, by simp [intOf]; omega⟩
            have hx8 : x.toNat < 8 := by omega
            have hxZ : ¬ (8 : Int) ≤ (kx : Int) := by omega
            have DD : Hid (∀ gq oq c1 v, 2241 ≤ c1 → Reads v (some ⟨gq, oq, none⟩) q → gq < v.heap.size → Calls Tryd.prog 34 #[.slice (some ⟨gq, oq, none⟩) 2241 c1] v fun r w' => ∃ A cA B cB, r = .returned (.tuple #[.agg (sgc (kx : Int) A 67 cA B 3 cB).toArray, .int .i64 0]) ∧ OwnG ic 23 32 w' A cA (unI (ys.take 2144) 67) ∧ OwnG ic 23 32 w' B cB (unI (ys.drop 2144) 3) ∧ Mod [] v w') := Lib.hid fun gq oq c1 v h1 h2 h3 => by
              rw [hxy] at h2
              rw [hkx]
              refine (Decode_yes gq oq c1 x ys hx8 hys h1 v h2 h3).mono ?_
              rintro e w' ⟨A, cA, B, cB, h1, h2, h3, h4, _⟩
              exact ⟨A, cA, B, cB, h1, h2, h3, h4⟩
            have BO : Hid (∀ A cA B cB v, OwnG ic 23 32 v A cA (unI (ys.take 2144) 67) → OwnG ic 23 32 v B cB (unI (ys.drop 2144) 3) → Calls Tryd.prog 33 #[.agg (sgc (kx : Int) A 67 cA B 3 cB).toArray] v fun r w' => ∃ A c, r = .returned (.slice A 2241 c) ∧ Reads w' A q ∧ Mod [] v w') := Lib.hid fun A cA B cB v h1 h2 => by
              have := bytesOf_c x.toNat hx8 A cA B cB _ _ (unI_length _ _) (unI_length _ _) v h1.cells h2.cells h1.lt h2.lt
              rw [sgB_back x ys hys, ← hxy, ← hkx] at this
              exact this
            have BE : Hid (∀ X Y x y v, Reads v X q → Reads v Y q → Calls Tryd.prog 32 #[.slice X 2241 x, .slice Y 2241 y] v fun e w' => e = .returned (.bool true) ∧ v = w') := Lib.hid fun X Y x y v h1 h2 => by
              have := beq_n X Y q q 2241 2241 x y v hm hm h1 h2
              rwa [decide_eq_true rfl] at this
            have HC := Lib.hid (And.intro hkx (And.intro hxy (And.intro (show kx < 8 by omega) trivial)))
            obtain ⟨L1, hL1⟩ : ∃ q, q = unI (ys.take 2144) 67 := ⟨_, rfl⟩
            obtain ⟨L2, hL2⟩ : ∃ q, q = unI (ys.drop 2144) 3 := ⟨_, rfl⟩
            rw [← hL1, ← hL2] at DD BO
            clear hL1 hL2 hkx hxy hx hx8 hys hm
            go_wp2_with (first
              | (with_reducible refine wpList_load1 (o := ⟨some 66, .load 64 (.tmp 65), _, _, _, _⟩) rfl 64 (.tmp 65) rfl ⟨g, oo + k, none⟩ (.slice RA0 rn rc) rfl _ Tryd.underlying64 rfl hcp ?_)
              | (with_reducible refine wpList_made (o := ⟨some 69, .buildSlice 64 0 _, _, _, _, _⟩) (by with_unfolding_all rfl) _ 5 (([] : List UInt8).map oct) (exec_none64 rfl) ?_
                 intro w1 hb1 m1 z1
                 replace z1 := Lib.hid z1
                 have hO := Owns.of_holds (B := wr.heap.size) hb1 (Nat.le_refl _) (by decide)
                 obtain ⟨Y, hY⟩ : ∃ Y : Option Addr, Y = some ⟨wr.heap.size, 0, none⟩ := ⟨_, rfl⟩
                 rw [← hY] at hO ⊢
                 clear hY hb1 z1)
              | (with_reducible refine wpList_ranW (o := ⟨some 73, .call _, _, _, _, _⟩) (by with_unfolding_all rfl) (.int .i64 2241) _ (exec_min rfl rfl rfl HM.out.1) ?_)
              | (with_reducible refine wpList_ranW (o := ⟨some 74, .slice _ _ _ _ _, _, _, _, _⟩) (by with_unfolding_all rfl) (.slice RA0 2241 rc) _ (exec_upto Tryd.underlying64 u8_one HM.out.2.1 rfl rfl rfl) ?_)
              | (at_builtin; refine wpList_appends w1 (o := ⟨some 75, _, _, _, _, _⟩) rfl (.tmp 69) (.tmp 74) 64 rfl 5 i0 (.int .u8 0) 1 Tryd.underlying64 HI.out.1 HI.out.2.1 HI.out.2.2.1 HI.out.2.2.2 rfl wr.heap.size m1.size Y 0 0 [] rfl rfl hO RA0 2241 rc q rfl HM.out.2.2.1 (HM.out.2.2.2.1.keep (mm.then m1) (by simp)) (by have := HM.out.2.2.1; have := HM.out.2.2.2.2; simp; omega) (by have := HM.out.2.2.1; have := HM.out.2.2.2.2; simp; unfold maxLen; omega) ?_
                 intro Y1 c1 w2 hO2 m2 q2
                 have e2 : ([] ++ q).length = 2241 := by rw [List.nil_append]; exact HM.out.2.2.1.symm
                 rw [e2]
                 rw [List.nil_append] at hO2
                 replace mm := far_mod (mm.then m1) m2 (fun i hi => by obtain ⟨a, ha, rfl⟩ := mem_blk hi; exact Nat.le_trans mm.size (hO.fits.2.2 a ha).1)
                 have RQ := hO2.reads
                 have FQ := hO2.fits
                 obtain ⟨gq, oq, hA9, hcq⟩ := RQ 0 (by rw [← HM.out.2.2.1]; decide)
                 subst hA9
                 have gq8 := (FQ.2.2 _ rfl).2
                 replace FQ := FQ.1
                 rw [← HM.out.2.2.1] at FQ
                 replace hcq : w2.cell? ⟨gq, oq, none⟩ = some (.int .u8 (kx : Int)) := by rw [HC.out.1]; exact RQ.at0 HC.out.2.1
                 clear hO m1 m2 q2 hO2 e2)
              | (go_at_call 34; with_reducible refine Calls.mono (DD.out gq oq c1 w2 FQ RQ gq8) ?_
                 rintro e w3 ⟨A8, c8, B8, d8, rfl, O8, P8, m3⟩
                 replace hcq := m3.cell (by simp) hcq
                 replace RQ := RQ.keep m3 (by simp)
                 replace mm := mm.then m3
                 clear m3)
              | (with_reducible refine wpList_allocs (o := ⟨some 13, .alloc 50, _, _, _, _⟩) rfl 50 rfl _ zero50 ?_; intro y13 hy13 my13 zy13)
              | (with_reducible refine wpList_storesAll (o := ⟨none, .store 50 (.tmp 13) (.tmp 79), _, _, _, _⟩) rfl 50 (.tmp 13) (.tmp 79) rfl rfl w3.heap.size (sgc (kx : Int) A8 67 c8 B8 3 d8) rfl (.agg (sgc (kx : Int) A8 67 c8 B8 3 d8).toArray) rfl rfl 50 _ hy13 rfl (sgc_one _ _ _ _ _ _ _) (size50s _ _ _ _ _ _ _) ?_
                 intro w4 h13 m13 z13
                 have mx : Mod [] w3 w4 := my13.trans m13 (by intro i hi h; simp at h; omega)
                 replace hcq := mx.cell (by simp) hcq
                 replace RQ := RQ.keep mx (by simp)
                 replace O8 := O8.keep mx (by simp)
                 replace P8 := P8.keep mx (by simp)
                 replace mm := mm.then mx
                 obtain ⟨b13, hq13⟩ : ∃ q, q = w3.heap.size := ⟨_, rfl⟩
                 rw [← hq13] at h13 ⊢
                 clear hy13 my13 zy13 m13 z13 mx hq13)
              | (with_reducible refine wpList_ranW (o := ⟨some 113, .indexAddr _ _ _, _, _, _, _⟩) (by with_unfolding_all rfl) (.pointer (some ⟨gq, oq + 0 * 1, none⟩)) _ (exec_ixs (i := 0) Tryd.underlying64 u8_one (by decide) rfl rfl rfl) ?_)
              | (with_reducible refine wpList_ranW (o := ⟨some 114, .load 5 _, _, _, _, _⟩) (by with_unfolding_all rfl) (.int .u8 (kx : Int)) _ (exec_load rfl rfl (run_load1 Tryd.underlying5 rfl hcq)) ?_)
              | (with_reducible refine wpList_ranW (o := ⟨some 84, .load 50 (.tmp 13), _, _, _, _⟩) (by with_unfolding_all rfl) (.agg (sgc (kx : Int) A8 67 c8 B8 3 d8).toArray) _ (exec_load rfl rfl (run_loads (Cells.of_holds h13) Tryd.underlying50 rfl (size50s _ _ _ _ _ _ _))) ?_)
              | (go_at_call 31; have RC := right_c (kx : Int) A8 67 c8 B8 3 d8 w4; rw [mayB_yes HC.out.2.2.1 rfl rfl] at RC; with_reducible refine Calls.mono RC ?_
                 rintro e w5 ⟨rfl, m5⟩
                 replace h13 := h13.keep m5 (by simp)
                 replace O8 := O8.keep m5 (by simp)
                 replace P8 := P8.keep m5 (by simp)
                 replace RQ := RQ.keep m5 (by simp)
                 replace mm := mm.then m5
                 clear m5 RC)
              | (with_reducible refine wpList_ranW (o := ⟨some 89, .load 50 (.tmp 13), _, _, _, _⟩) (by with_unfolding_all rfl) (.agg (sgc (kx : Int) A8 67 c8 B8 3 d8).toArray) _ (exec_load rfl rfl (run_loads (Cells.of_holds h13) Tryd.underlying50 rfl (size50s _ _ _ _ _ _ _))) ?_)
              | (go_at_call 33; with_reducible refine Calls.mono (BO.out A8 c8 B8 d8 w5 O8 P8) ?_
                 rintro e w6 ⟨Z, cz, rfl, RZ, m6⟩
                 replace RQ := RQ.keep m6 (by simp)
                 replace mm := mm.then m6
                 clear m6)
              | (go_at_call 32; with_reducible refine Calls.mono (BE.out Z (some ⟨gq, oq, none⟩) cz c1 w6 RZ RQ) ?_
                 rintro e w7 ⟨rfl, rfl⟩))
            exact ⟨⟨k + 1, by omega, by go_num, mm⟩, by simp [intOf]; omega⟩
          · obtain rfl : k = 8 := by omega
            clear hrn ok3
            go_wp2_with (first
              | (with_reducible refine wpList_load1 (o := ⟨some 66, .load 64 (.tmp 65), _, _, _, _⟩) rfl 64 (.tmp 65) rfl ⟨g, oo + 8, none⟩ (.slice RA0 rn rc) rfl _ Tryd.underlying64 rfl hcp ?_))
            go_ret
            exact ⟨rfl, mm⟩
        · have hkZ : ¬ (k : Int) < (M : Int) := by omega
          clear HS
          go_wp2_with fail
          go_ret
          exact ⟨rfl, mm⟩
theorem bytes_w (A : Option Addr) (c : Nat) (ss : List Sgn) (B : Option Addr) (d : Nat) (rs : List Brw) (w : World) (RA : Cells w A (ss.flatMap sgv)) (hss : ∀ r ∈ ss, r.ok w) (RB : Cells w B (rs.flatMap brv)) (hrs : ∀ r ∈ rs, r.ok w) (Gl : Glob w) : Calls Tryd.prog 6 #[.slice A ss.length c, .slice B rs.length d] w fun r w' => r = .returned (.bool true) ∧ Mod [] w w' :=
  bytes_w0 A c _ ss rfl B d _ rs rfl w Gl RA hss RB hrs
end Go.Proofs.YtbacmeaeehhhfaaDoor
