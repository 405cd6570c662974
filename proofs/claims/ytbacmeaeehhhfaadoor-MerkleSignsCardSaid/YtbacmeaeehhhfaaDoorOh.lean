/-
  Package merkle: Decode. My own work.
-/
import Derived.Test.YtbacmeaeehhhfaaDoorOg
import Derived.Test.YtbacmeaeehhhfaaDoorOd
import Derived.ScopeJumps
namespace Go.Proofs.YtbacmeaeehhhfaaDoor
open Go.RowKit Go.Shelf
set_option linter.unusedVariables false
set_option linter.unusedSimpArgs false
theorem exec_ft {P : Program} {v : World} {o : Oper} {ρ : Operand → Value} {t e : TypeId} {x y p : Operand} {g f n c i j s : Nat} (hu : P.underlying t = some (.slice e)) (he : (P.info? e).map (·.size) = some s) (hij : i ≤ j) (hkc : j ≤ c) (hik : i < c) (ho : o.op = .slice t x (some y) (some p) none) (hx : ρ x = .slice (some ⟨g, f, none⟩) n c) (hy : ρ y = .int .i64 (i : Int)) (hp : ρ p = .int .i64 (j : Int)) :
    (execOp ρ o).run P v = .ok (.value (.slice (some ⟨g, f + i * s, none⟩) (j - i) (c - i))) v := by
  unfold execOp
  cases hq' : P.info? e with
  | none => rw [hq'] at he; cases he
  | some it =>
    have hs : it.size = s := by rw [hq'] at he; simpa using he
    simp [ho, hx, hy, hp, Instr.sliceAt, Instr.slice, Instr.sliceBounds, Instr.sliceBound, Sem.run_bind, run_underlying hu, go_sem, sizeOf, typeInfo, hq', hs, hij, hkc, add_plain]
    intro h
    omega
theorem exec_conv53 {v : World} {o : Oper} {ρ : Operand → Value} {x : Operand} {n : Nat} (hn : n < 256) (ho : o.op = .convert 5 3 x) (hx : ρ x = .int .u8 (n : Int)) : (execOp ρ o).run Tryd.prog v = .ok (.value (.int .i64 (n : Int))) v := by
  have h2 : IntKind.i64.wrap (n : Int) = (n : Int) := IntWalk.i64_in _ (by omega)
  unfold execOp
  simp [ho, hx, go_sem]
  exact h2
theorem Reads.sub {w : World} {g o : Nat} {l : List UInt8} (h : Reads w (some ⟨g, o, none⟩) l) (k m : Nat) : Reads w (some ⟨g, o + k, none⟩) ((l.drop k).take m) := fun i hi => by
  have hi' : i < (l.drop k).length := by rw [List.length_take] at hi; omega
  have hi2 : k + i < l.length := by rw [List.length_drop] at hi'; omega
  refine ⟨g, o + k, rfl, ?_⟩
  have := h.at (k + i) hi2
  rw [show o + k + i = o + (k + i) by omega, this]
  simp only [List.getElem_take, List.getElem_drop]
theorem xjump_ret {l : Nat} {J : Act → World → Prop} {Q : Exit → Act → World → Prop} {a : Act} {w : World} : Exit.jump l J Q .ret a w = Q .ret a w := rfl
set_option maxRecDepth 100000 in
set_option maxHeartbeats 4000000 in
theorem Decode_short (A : Option Addr) (n c : Nat) (h : n < 2241) (w : World) : Calls Tryd.prog 34 #[.slice A n c] w fun r w' => r = .returned (.tuple #[.agg (sgc 0 none 0 0 none 0 0).toArray, .int .i64 7]) ∧ Mod [] w w' := by
  have hZ : (n : Int) < 2241 := by omega
  go_enter Tryd.func34, Tryd.ntmps34
  go_wp2_with (first
    | (with_reducible refine wpList_allocs (o := ⟨some 2, .alloc 50, _, _, _, _⟩) rfl 50 rfl _ zero50 ?_; intro w2 hb2 m2 z2
       obtain ⟨b2, hq2⟩ : ∃ q, q = w.heap.size := ⟨_, rfl⟩
       rw [← hq2] at hb2 ⊢
       have hwb : w.heap.size ≤ b2 := by omega
       have hb2l : b2 < w2.heap.size := by omega
       clear z2 hq2))
  refine wp_scope_jumps 0 (fun a' v => v = w2 ∧ a' = { tmps := #[.slice A n c, undef, .pointer (some ⟨b2, 0, none⟩), .int .i64 0, .int .i64 7, .slice A n c, .int .i64 (n : Int), .bool true, undef, undef, undef, undef, undef, undef, undef, undef, undef, undef, undef, undef, undef, undef, undef, undef, undef, undef, undef, undef, undef, undef, undef, undef], defers := [] }) (fun _ _ => 0) rfl ?first ?pass
  case first =>
    go_wp2_with fail
    refine wp_goto ?_
    exact ⟨rfl, rfl, rfl⟩
  case pass =>
    rintro a' v ⟨rfl, rfl⟩
    go_wp2_with (first
      | (with_reducible refine wpList_ranW (o := ⟨some 30, .build 50 _, _, _, _, _⟩) (by with_unfolding_all rfl) (.agg (sgc 0 none 0 0 none 0 0).toArray) _ (exec_build50z rfl) ?_)
      | (with_reducible refine wpList_storesAll (o := ⟨none, .store 50 (.tmp 2) (.tmp 30), _, _, _, _⟩) rfl 50 (.tmp 2) (.tmp 30) rfl rfl b2 (sgc 0 none 0 0 none 0 0) rfl (.agg (sgc 0 none 0 0 none 0 0).toArray) rfl rfl 50 _ hb2 rfl (sgc_one _ _ _ _ _ _ _) (size50s _ _ _ _ _ _ _) ?_
         intro w6 hb6 m6 z6))
    rw [xjump_ret]
    refine bodyPost_ret (results_cell_tmp rfl _ _ b2 (sgc 0 none 0 0 none 0 0) (.int .i64 7) _ rfl rfl (Cells.of_holds hb6) Tryd.underlying50 rfl (size50s _ _ _ _ _ _ _)) rfl ?_
    exact ⟨rfl, far_mod m2 m6 (fun i hi => by simp at hi; omega)⟩
set_option maxRecDepth 100000 in
set_option maxHeartbeats 4000000 in
theorem Decode_long (A : Option Addr) (n c : Nat) (h : 2241 < n) (w : World) : Calls Tryd.prog 34 #[.slice A n c] w fun r w' => r = .returned (.tuple #[.agg (sgc 0 none 0 0 none 0 0).toArray, .int .i64 2]) ∧ Mod [] w w' := by
  have hZ : (2241 : Int) < (n : Int) := by omega
  go_enter Tryd.func34, Tryd.ntmps34
  go_wp2_with (first
    | (with_reducible refine wpList_allocs (o := ⟨some 2, .alloc 50, _, _, _, _⟩) rfl 50 rfl _ zero50 ?_; intro w2 hb2 m2 z2
       obtain ⟨b2, hq2⟩ : ∃ q, q = w.heap.size := ⟨_, rfl⟩
       rw [← hq2] at hb2 ⊢
       have hwb : w.heap.size ≤ b2 := by omega
       have hb2l : b2 < w2.heap.size := by omega
       clear z2 hq2))
  refine wp_scope_jumps 0 (fun a' v => v = w2 ∧ a' = { tmps := #[.slice A n c, undef, .pointer (some ⟨b2, 0, none⟩), .int .i64 0, .int .i64 2, .slice A n c, .int .i64 (n : Int), .bool (decide ((n : Int) < 2241)), .slice A n c, .int .i64 (n : Int), .bool true, .bool true, undef, undef, undef, undef, undef, undef, .bool true, undef, undef, undef, undef, undef, undef, undef, undef, undef, undef, undef, undef, undef], defers := [] }) (fun _ _ => 0) rfl ?first ?pass
  case first =>
    go_wp2_with fail
    refine wp_goto ?_
    exact ⟨rfl, rfl, rfl⟩
  case pass =>
    rintro a' v ⟨rfl, rfl⟩
    go_wp2_with (first
      | (with_reducible refine wpList_ranW (o := ⟨some 30, .build 50 _, _, _, _, _⟩) (by with_unfolding_all rfl) (.agg (sgc 0 none 0 0 none 0 0).toArray) _ (exec_build50z rfl) ?_)
      | (with_reducible refine wpList_storesAll (o := ⟨none, .store 50 (.tmp 2) (.tmp 30), _, _, _, _⟩) rfl 50 (.tmp 2) (.tmp 30) rfl rfl b2 (sgc 0 none 0 0 none 0 0) rfl (.agg (sgc 0 none 0 0 none 0 0).toArray) rfl rfl 50 _ hb2 rfl (sgc_one _ _ _ _ _ _ _) (size50s _ _ _ _ _ _ _) ?_
         intro w6 hb6 m6 z6))
    rw [xjump_ret]
    refine bodyPost_ret (results_cell_tmp rfl _ _ b2 (sgc 0 none 0 0 none 0 0) (.int .i64 2) _ rfl rfl (Cells.of_holds hb6) Tryd.underlying50 rfl (size50s _ _ _ _ _ _ _)) rfl ?_
    exact ⟨rfl, far_mod m2 m6 (fun i hi => by simp at hi; omega)⟩
set_option maxRecDepth 100000 in
set_option maxHeartbeats 4000000 in
theorem Decode_leaf (g o c : Nat) (x : UInt8) (bs : List UInt8) (hx : 8 ≤ x.toNat) (w : World) (R : Reads w (some ⟨g, o, none⟩) (x :: bs)) : Calls Tryd.prog 34 #[.slice (some ⟨g, o, none⟩) 2241 c] w fun r w' => r = .returned (.tuple #[.agg (sgc 0 none 0 0 none 0 0).toArray, .int .i64 2]) ∧ Mod [] w w' := by
  have c0 : w.cell? ⟨g, o, none⟩ = some (.int .u8 (x.toNat : Int)) := R.at 0 (by simp)
  have hx256 : x.toNat < 256 := x.toNat_lt
  obtain ⟨z, hz⟩ : ∃ z, z = x.toNat := ⟨_, rfl⟩
  rw [← hz] at c0 hx hx256
  have LF := fun v => isLeaf_c (z : Int) v
  rw [lfOk_no (by omega)] at LF
  have hwr : IntKind.i64.wrap (z : Int) = (z : Int) := IntWalk.i64_in _ (by omega)
  clear hz R hx
  go_enter Tryd.func34, Tryd.ntmps34
  go_wp2_with (first
    | (with_reducible refine wpList_allocs (o := ⟨some 2, .alloc 50, _, _, _, _⟩) rfl 50 rfl _ zero50 ?_; intro w2 hb2 m2 z2
       obtain ⟨b2, hq2⟩ : ∃ q, q = w.heap.size := ⟨_, rfl⟩
       rw [← hq2] at hb2 ⊢
       have hwb : w.heap.size ≤ b2 := by omega
       have hb2l : b2 < w2.heap.size := by omega
       clear z2 hq2))
  have d0 := m2.cell (by simp) c0
  refine wp_scope_jumps 0 (fun a' v => v = w2 ∧ a' = { tmps := #[.slice (some ⟨g, o, none⟩) 2241 c, undef, .pointer (some ⟨b2, 0, none⟩), .int .i64 0, .int .i64 2, .slice (some ⟨g, o, none⟩) 2241 c, .int .i64 2241, .bool false, .slice (some ⟨g, o, none⟩) 2241 c, .int .i64 2241, .bool false, .bool false, .slice (some ⟨g, o, none⟩) 2241 c, .pointer (some ⟨g, o, none⟩), .int .u8 (z : Int), .int .i64 (z : Int), .bool false, .bool true, .bool true, undef, undef, undef, undef, undef, undef, undef, undef, undef, undef, undef, undef, undef], defers := [] }) (fun _ _ => 0) rfl ?first ?pass
  case first =>
    go_wp2_with (first
      | (with_reducible refine wpList_ranW (o := ⟨some 15, .convert _ _ _, _, _, _, _⟩) (by with_unfolding_all rfl) (.int .i64 (z : Int)) _ (exec_conv53 hx256 rfl rfl) ?_)
      | (go_at_call 39; refine (LF _).mono ?_; rintro e w4 ⟨rfl, rfl⟩))
    refine wp_goto ?_
    exact ⟨rfl, rfl, rfl⟩
  case pass =>
    rintro a' v ⟨rfl, rfl⟩
    go_wp2_with (first
      | (with_reducible refine wpList_ranW (o := ⟨some 30, .build 50 _, _, _, _, _⟩) (by with_unfolding_all rfl) (.agg (sgc 0 none 0 0 none 0 0).toArray) _ (exec_build50z rfl) ?_)
      | (with_reducible refine wpList_storesAll (o := ⟨none, .store 50 (.tmp 2) (.tmp 30), _, _, _, _⟩) rfl 50 (.tmp 2) (.tmp 30) rfl rfl b2 (sgc 0 none 0 0 none 0 0) rfl (.agg (sgc 0 none 0 0 none 0 0).toArray) rfl rfl 50 _ hb2 rfl (sgc_one _ _ _ _ _ _ _) (size50s _ _ _ _ _ _ _) ?_
         intro w6 hb6 m6 z6))
    rw [xjump_ret]
    refine bodyPost_ret (results_cell_tmp rfl _ _ b2 (sgc 0 none 0 0 none 0 0) (.int .i64 2) _ rfl rfl (Cells.of_holds hb6) Tryd.underlying50 rfl (size50s _ _ _ _ _ _ _)) rfl ?_
    exact ⟨rfl, far_mod m2 m6 (fun i hi => by simp at hi; omega)⟩
set_option maxRecDepth 100000 in
set_option maxHeartbeats 4000000 in
theorem Decode_yes (g o c : Nat) (x : UInt8) (bs : List UInt8) (hx : x.toNat < 8) (hbs : bs.length = 2240) (hc : 2241 ≤ c) (w : World) (R : Reads w (some ⟨g, o, none⟩) (x :: bs)) (hg : g < w.heap.size) :
    Calls Tryd.prog 34 #[.slice (some ⟨g, o, none⟩) 2241 c] w fun r w' => ∃ A cA B cB, r = .returned (.tuple #[.agg (sgc (x.toNat : Int) A 67 cA B 3 cB).toArray, .int .i64 0]) ∧ OwnG ic 23 32 w' A cA (unI (bs.take 2144) 67) ∧ OwnG ic 23 32 w' B cB (unI (bs.drop 2144) 3) ∧ Mod [] w w' ∧ (∀ i ∈ blk A, w.heap.size ≤ i) ∧ (∀ i ∈ blk B, w.heap.size ≤ i) := by
  have c0 : w.cell? ⟨g, o, none⟩ = some (.int .u8 (x.toNat : Int)) := R.at 0 (by simp)
  have hx256 : x.toNat < 256 := x.toNat_lt
  have R1 := R.sub 1 2144
  have R2 := R.sub 2145 96
  rw [show ((x :: bs).drop 1).take 2144 = bs.take 2144 from rfl, show o + 1 = o + 1 * 1 by omega] at R1
  rw [show ((x :: bs).drop 2145).take 96 = bs.drop 2144 by rw [List.drop_succ_cons, List.take_of_length_le (by rw [List.length_drop]; omega)], show o + 2145 = o + 2145 * 1 by omega] at R2
  obtain ⟨l1, hl1⟩ : ∃ l, l = unI (bs.take 2144) 67 := ⟨_, rfl⟩
  obtain ⟨l2, hl2⟩ : ∃ l, l = unI (bs.drop 2144) 3 := ⟨_, rfl⟩
  have TA := fun v (mv : Mod [] w v) => taken_c g (o + 1 * 1) (bs.take 2144) 2144 (c - 1) 67 (by rw [List.length_take]; omega) (by omega) (by omega) (by omega) v (R1.keep mv (by simp)) (Nat.lt_of_lt_of_le hg mv.size)
  have TB := fun v (mv : Mod [] w v) => taken_c g (o + 2145 * 1) (bs.drop 2144) 96 (c - 2145) 3 (by rw [List.length_drop]; omega) (by omega) (by omega) (by omega) v (R2.keep mv (by simp)) (Nat.lt_of_lt_of_le hg mv.size)
  rw [← hl1] at TA ⊢
  rw [← hl2] at TB ⊢
  obtain ⟨z, hz⟩ : ∃ z, z = x.toNat := ⟨_, rfl⟩
  rw [← hz] at c0 hx hx256 ⊢
  have LF := fun v => isLeaf_c (z : Int) v
  rw [lfOk_yes hx] at LF
  have hwr : IntKind.i64.wrap (z : Int) = (z : Int) := IntWalk.i64_in _ (by omega)
  replace hc := Lib.hid hc
  clear hz R hx R1 R2 hl1 hl2 hbs hg
  go_enter Tryd.func34, Tryd.ntmps34
  go_wp2_with (first
    | (with_reducible refine wpList_allocs (o := ⟨some 2, .alloc 50, _, _, _, _⟩) rfl 50 rfl _ zero50 ?_; intro w2 hb2 m2 z2
       obtain ⟨b2, hq2⟩ : ∃ q, q = w.heap.size := ⟨_, rfl⟩
       rw [← hq2] at hb2 ⊢
       have hwb : w.heap.size ≤ b2 := by omega
       have hb2l : b2 < w2.heap.size := by omega
       clear z2 hq2))
  have d0 := m2.cell (by simp) c0
  go_step3
  go_wp2_with (first
    | (with_reducible refine wpList_ranW (o := ⟨some 15, .convert _ _ _, _, _, _, _⟩) (by with_unfolding_all rfl) (.int .i64 (z : Int)) _ (exec_conv53 hx256 rfl rfl) ?_)
    | (go_at_call 39; refine (LF _).mono ?_; rintro e w4 ⟨rfl, rfl⟩))
  obtain ⟨wq, hwq⟩ : ∃ v, v = w4 := ⟨_, rfl⟩
  rw [← hwq] at hb2 hb2l m2 ⊢
  clear hwq d0
  have k2 : Holds wq.drew b2 50 (sgc 0 none 0 0 none 0 0) := hb2.keep (Mod.drew [] wq) (by simp)
  have FM : ∀ v, Mod [b2] wq.drew v → Mod [] w v := fun v h => far_mod m2 ((Mod.drew [b2] wq).trans h (fun i _ hi => hi)) (fun i hi => by simp at hi; omega)
  refine wp_region_upx (X := XS) ⟨none, 0, none, 0⟩ (fun x => [(19, .slice (some ⟨g, o, none⟩) 2241 c), (20, .pointer (some ⟨g, o + 0 * 1, none⟩)), (21, .int .u8 (z : Int)), (22, .int .i64 (z : Int)), (23, .slice (some ⟨g, o, none⟩) 2241 c), (24, .slice (some ⟨g, o + 1 * 1, none⟩) 2144 (c - 1)), (25, .slice x.A 67 x.c), (26, .slice (some ⟨g, o, none⟩) 2241 c), (27, .slice (some ⟨g, o + 2145 * 1, none⟩) 96 (c - 2145)), (28, .slice x.B 3 x.d), (29, .agg (sgc (z : Int) x.A 67 x.c x.B 3 x.d).toArray), (3, .int .i64 0)]) 32 [19, 20, 21, 22, 23, 24, 25, 26, 27, 28, 29, 3] rfl (fun _ => rfl) (by decide) (by kernel_rfl) (fun x lz v => Mod [b2] wq.drew v ∧ (lz 6 = true → OwnG ic 23 32 v x.A x.c l1 ∧ ∀ i ∈ blk x.A, b2 < i) ∧ (lz 9 = true → OwnG ic 23 32 v x.B x.d l2 ∧ ∀ i ∈ blk x.B, b2 < i) ∧ Holds v b2 50 (if lz 11 = true then sgc (z : Int) x.A 67 x.c x.B 3 x.d else sgc 0 none 0 0 none 0 0)) (by kernel_rfl) ⟨Mod.refl _ _, (fun h => by cases h), (fun h => by cases h), k2⟩ (by kernel_rfl) (by kernel_rfl) ?step ?fin
  case step =>
    intro x lz T v j o hj hlj hdep hst hpar hgot hcl Kq hK
    have hjn : j < 13 := (Array.getElem?_eq_some_iff.1 hj).1
    obtain rfl | rfl | rfl | rfl | rfl | rfl | rfl | rfl | rfl | rfl | rfl | rfl | rfl : j = 0 ∨ j = 1 ∨ j = 2 ∨ j = 3 ∨ j = 4 ∨ j = 5 ∨ j = 6 ∨ j = 7 ∨ j = 8 ∨ j = 9 ∨ j = 10 ∨ j = 11 ∨ j = 12 := by omega
    all_goals (have hj' := Option.some.inj (hj : some _ = some o); subst hj'; clear hj)
    · exact wp_ran rfl (exec_move rfl (eval_tmp ((hpar 0 rfl).trans rfl))) (hK x _ _ (fun _ _ _ _ _ _ => rfl) (fun s hs => by cases hs; rfl) (by simpa using hst))
    · exact wp_ran rfl (exec_ixs (i := 0) Tryd.underlying64 u8_one (by decide) rfl (eval_tmp (hgot 0 _ 19 rfl (hdep ⟨0, .data⟩ (by simp) rfl) rfl)) rfl) (hK x _ _ (fun _ _ _ _ _ _ => rfl) (fun s hs => by cases hs; rfl) (by simpa using hst))
    · exact wp_ran rfl (exec_load rfl (eval_tmp (hgot 1 _ 20 rfl (hdep ⟨1, .data⟩ (by simp) rfl) rfl)) (run_load1 Tryd.underlying5 rfl (by simpa using (FM v hst.1).cell (by simp) c0))) (hK x _ _ (fun _ _ _ _ _ _ => rfl) (fun s hs => by cases hs; rfl) (by simpa using hst))
    · exact wp_ran rfl (exec_conv53 hx256 rfl (eval_tmp (hgot 2 _ 21 rfl (hdep ⟨2, .data⟩ (by simp) rfl) rfl))) (hK x _ _ (fun _ _ _ _ _ _ => rfl) (fun s hs => by cases hs; rfl) (by simpa using hst))
    · exact wp_ran rfl (exec_move rfl (eval_tmp ((hpar 0 rfl).trans rfl))) (hK x _ _ (fun _ _ _ _ _ _ => rfl) (fun s hs => by cases hs; rfl) (by simpa using hst))
    · exact wp_ran rfl (exec_ft (i := 1) (j := 2145) Tryd.underlying64 u8_one (by decide) (by have := hc.out; omega) (by have := hc.out; omega) rfl (eval_tmp (hgot 4 _ 23 rfl (hdep ⟨4, .data⟩ (by simp) rfl) rfl)) rfl rfl) (hK x _ _ (fun _ _ _ _ _ _ => rfl) (fun s hs => by cases hs; rfl) (by simpa using hst))
    · have l10 : lz 10 = false := (by cases hh : lz 10 with | false => rfl | true => exact absurd (hcl 10 _ rfl hh ⟨6, .data⟩ (by simp) rfl) (by rw [hlj]; simp))
      have l11 : lz 11 = false := (by cases hh : lz 11 with | false => rfl | true => exact absurd (hcl 11 _ rfl hh ⟨6, .phase⟩ (by simp) rfl) (by rw [hlj]; simp))
      refine wp_called rfl (exec_call1 rfl rfl (eval_tmp (hgot 5 _ 24 rfl (hdep ⟨5, .data⟩ (by simp) rfl) rfl)) (enters_of Tryd.func51 (by kernel_rfl) rfl)) ((TA v (FM v hst.1)).mono ?_)
      rintro e v' ⟨A', c', rfl, hO', m2, hb'⟩
      have hp := hst.2.2.2
      rw [if_neg (by rw [l11]; simp)] at hp
      exact ⟨_, rfl, hK { x with A := A', c := c' } _ _ (fun j' o' s' g1 g2 g3 => by
          have g4 : j' < 13 := (Array.getElem?_eq_some_iff.1 g1).1
          clear hpar hgot hdep hK
          obtain rfl | rfl | rfl | rfl | rfl | rfl | rfl | rfl | rfl | rfl | rfl | rfl | rfl : j' = 0 ∨ j' = 1 ∨ j' = 2 ∨ j' = 3 ∨ j' = 4 ∨ j' = 5 ∨ j' = 6 ∨ j' = 7 ∨ j' = 8 ∨ j' = 9 ∨ j' = 10 ∨ j' = 11 ∨ j' = 12 := by omega
          all_goals (cases g1; cases g3 <;> first | rfl | (rw [hlj] at g2; cases g2) | (rw [l10] at g2; cases g2))) (fun s hs => by cases hs; rfl) ⟨hst.1.then m2, fun h => ⟨hO', fun i hi => by have := hb' i hi; have := hp.lt; omega⟩, fun h => ⟨(hst.2.2.1 (by simpa using h)).1.keep m2 (by simp), (hst.2.2.1 (by simpa using h)).2⟩, by rw [if_neg (by simp [l11])]; exact hp.keep m2 (by simp)⟩⟩
    · exact wp_ran rfl (exec_move rfl (eval_tmp ((hpar 0 rfl).trans rfl))) (hK x _ _ (fun _ _ _ _ _ _ => rfl) (fun s hs => by cases hs; rfl) (by simpa using hst))
    · exact wp_ran rfl (exec_fro (i := 2145) Tryd.underlying64 u8_one (by decide) (by have := hc.out; omega) rfl (eval_tmp (hgot 7 _ 26 rfl (hdep ⟨7, .data⟩ (by simp) rfl) rfl)) rfl) (hK x _ _ (fun _ _ _ _ _ _ => rfl) (fun s hs => by cases hs; rfl) (by simpa using hst))
    · have l10 : lz 10 = false := (by cases hh : lz 10 with | false => rfl | true => exact absurd (hcl 10 _ rfl hh ⟨9, .data⟩ (by simp) rfl) (by rw [hlj]; simp))
      have l11 : lz 11 = false := (by cases hh : lz 11 with | false => rfl | true => exact absurd (hcl 11 _ rfl hh ⟨9, .phase⟩ (by simp) rfl) (by rw [hlj]; simp))
      refine wp_called rfl (exec_call1 rfl rfl (eval_tmp (hgot 8 _ 27 rfl (hdep ⟨8, .data⟩ (by simp) rfl) rfl)) (enters_of Tryd.func51 (by kernel_rfl) rfl)) ((TB v (FM v hst.1)).mono ?_)
      rintro e v' ⟨A', c', rfl, hO', m2, hb'⟩
      have hp := hst.2.2.2
      rw [if_neg (by rw [l11]; simp)] at hp
      exact ⟨_, rfl, hK { x with B := A', d := c' } _ _ (fun j' o' s' g1 g2 g3 => by
          have g4 : j' < 13 := (Array.getElem?_eq_some_iff.1 g1).1
          clear hpar hgot hdep hK
          obtain rfl | rfl | rfl | rfl | rfl | rfl | rfl | rfl | rfl | rfl | rfl | rfl | rfl : j' = 0 ∨ j' = 1 ∨ j' = 2 ∨ j' = 3 ∨ j' = 4 ∨ j' = 5 ∨ j' = 6 ∨ j' = 7 ∨ j' = 8 ∨ j' = 9 ∨ j' = 10 ∨ j' = 11 ∨ j' = 12 := by omega
          all_goals (cases g1; cases g3 <;> first | rfl | (rw [hlj] at g2; cases g2) | (rw [l10] at g2; cases g2))) (fun s hs => by cases hs; rfl) ⟨hst.1.then m2, fun h => ⟨(hst.2.1 (by simpa using h)).1.keep m2 (by simp), (hst.2.1 (by simpa using h)).2⟩, fun h => ⟨hO', fun i hi => by have := hb' i hi; have := hp.lt; omega⟩, by rw [if_neg (by simp [l11])]; exact hp.keep m2 (by simp)⟩⟩
    · exact wp_ran rfl (exec_build50 rfl (eval_tmp (hgot 3 _ 22 rfl (hdep ⟨3, .data⟩ (by simp) rfl) rfl)) (eval_tmp (hgot 6 _ 25 rfl (hdep ⟨6, .data⟩ (by simp) rfl) rfl)) (eval_tmp (hgot 9 _ 28 rfl (hdep ⟨9, .data⟩ (by simp) rfl) rfl))) (hK x _ _ (fun _ _ _ _ _ _ => rfl) (fun s hs => by cases hs; rfl) (by simpa using hst))
    · have hp := hst.2.2.2
      rw [if_neg (by rw [hlj]; simp)] at hp
      have a5 := hst.2.1 (hdep ⟨6, .phase⟩ (by simp) rfl)
      have a8 := hst.2.2.1 (hdep ⟨9, .phase⟩ (by simp) rfl)
      refine wp_stored (ty := 50) (V := .agg (sgc (z : Int) x.A 67 x.c x.B 3 x.d).toArray) (cs := sgc (z : Int) x.A 67 x.c x.B 3 x.d) rfl rfl (eval_tmp ((hpar 2 rfl).trans rfl)) (eval_tmp (hgot 10 _ 29 rfl (hdep ⟨10, .data⟩ (by simp) rfl) rfl)) rfl hp rfl (sgc_one _ _ _ _ _ _ _) (size50s _ _ _ _ _ _ _) (fun v' q1 q2 => hK x _ _ (fun _ _ _ _ _ _ => rfl) (fun s hs => by cases hs) ⟨Mod.trans hst.1 q2 (fun i _ hi => hi), fun _ => ⟨a5.1.keep q2 (fun a ha hm => by have := a5.2 a.block (by simp [blk, ha]); simp at hm; omega), a5.2⟩, fun _ => ⟨a8.1.keep q2 (fun a ha hm => by have := a8.2 a.block (by simp [blk, ha]); simp at hm; omega), a8.2⟩, by rw [if_pos (by simp)]; exact q1⟩)
    · exact wp_ran rfl (exec_assign rfl rfl) (hK x _ _ (fun _ _ _ _ _ _ => rfl) (fun s hs => by cases hs; rfl) (by simpa using hst))
  case fin =>
  intro x lz vr hlz hst
  have a5 := hst.2.1 (hlz 6 (by decide))
  have a8 := hst.2.2.1 (hlz 9 (by decide))
  have hp := hst.2.2.2
  rw [if_pos (hlz 11 (by decide))] at hp
  have mq := FM vr hst.1
  clear hst hlz
  simp only [setAll, List.foldl_cons, List.foldl_nil, List.set_cons_succ, List.set_cons_zero]
  go_wp2_with fail
  rw [Exit.noGoto_ret]
  refine bodyPost_ret (results_cell_tmp rfl _ _ b2 (sgc (z : Int) x.A 67 x.c x.B 3 x.d) (.int .i64 0) _ rfl rfl (Cells.of_holds hp) Tryd.underlying50 rfl (size50s _ _ _ _ _ _ _)) rfl ?_
  exact ⟨_, _, _, _, rfl, a5.1, a8.1, mq, fun i hi => by have := a5.2 i hi; omega, fun i hi => by have := a8.2 i hi; omega⟩
end Go.Proofs.YtbacmeaeehhhfaaDoor
