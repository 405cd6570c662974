/-
  The law's own signed: a signature in memory of its own. My own work.
-/
import Derived.Test.YtbacmeaeehhhfaaDoorOe
namespace Go.Proofs.YtbacmeaeehhhfaaDoor
open Go.RowKit Go.Shelf
set_option linter.unusedVariables false
set_option linter.unusedSimpArgs false
structure Rw1 where
  A : Option Addr
  c : Nat
  l : List Idv
/-- Two rows of the call's own, apart. -/
def TwoS (ms : List Nat) (W : World) (r s : Rw1) (v : World) : Prop :=
  Mod ms W v ∧ OwnG ic 23 32 v r.A r.c r.l ∧ OwnG ic 23 32 v s.A s.c s.l ∧ (∀ i ∈ blk r.A, W.heap.size ≤ i ∧ i ∉ blk s.A) ∧ (∀ i ∈ blk s.A, W.heap.size ≤ i)
section
variable {ms : List Nat} {W v v' : World} {r s : Rw1}
theorem TwoS.swap (h : TwoS ms W r s v) : TwoS ms W s r v := ⟨h.1, h.2.2.1, h.2.1, fun i hi => ⟨h.2.2.2.2 i hi, fun hh => (h.2.2.2.1 i hh).2 hi⟩, fun i hi => (h.2.2.2.1 i hi).1⟩
theorem TwoS.start (W : World) (h : Mod ms W v) : TwoS ms W ⟨none, 0, []⟩ ⟨none, 0, []⟩ v := ⟨h, OwnG.nil _ _ _ _, OwnG.nil _ _ _ _, (fun i hi => by simp [blk] at hi), (fun i hi => by simp [blk] at hi)⟩
theorem TwoS.lit (h : TwoS ms W ⟨none, 0, []⟩ s v) : TwoS ms W ⟨some ⟨v.heap.size, 0, none⟩, 0, []⟩ s (v.alloc (.cells ([] : List Value).toArray 23)) := by
  have m : Mod [] v (v.alloc (.cells ([] : List Value).toArray 23)) := Mod.alloc [] v _
  refine ⟨h.1.then m, OwnG.of_holds (l := ([] : List Idv)) (Holds.made v 23 []) ic_length (by decide), h.2.2.1.keep m (by simp), fun i hi => ?_, h.2.2.2.2⟩
  have hi' : i = v.heap.size := by simpa [blk] using hi
  subst hi'
  refine ⟨h.1.size, fun hh => ?_⟩
  obtain ⟨a, ha, hb⟩ := mem_blk hh
  have := h.2.2.1.lt a ha
  omega
theorem TwoS.app {A : Option Addr} {c : Nat} (h : TwoS ms W ⟨A, c, []⟩ s v) {o : Oper} {ρ : Operand → Value} (x y : Operand) (ho : o.op = .call { callee := .builtin .append, args := #[x, y], argTypes := #[33, 33] }) (hx : ρ x = .slice A 0 c) {X : Option Addr} {m d : Nat} {L : List Idv} (hm : m = L.length) (h100 : m ≤ 100) (hy : ρ y = .slice X m d) (hX : Cells v X (L.flatMap ic)) :
    ∃ A' c' v', (execOp ρ o).run Tryd.prog v = .ok (.value (.slice A' m c')) v' ∧ TwoS ms W ⟨A', c', L⟩ s v' ∧ Mod (blk A) v v' := by
  obtain ⟨i0, j1, j2, j3, j4⟩ := info_parts id_parts
  have h9 : (200 : Nat) ≤ maxLen := by decide
  subst hm
  obtain ⟨A', c', v', r1, r2, r3, r4⟩ : ∃ A' c' v', (execOp ρ o).run Tryd.prog v = .ok (.value (.slice A' L.length c')) v' ∧ OwnG ic 23 32 v' A' c' L ∧ Mod (blk A) v v' ∧ (∀ a, A' = some a → a.block ∈ blk A ∨ v.heap.size ≤ a.block) := by
    rcases X with _ | ad
    · have hL : L = [] := by
        rcases L with _ | ⟨x, L⟩
        · rfl
        · obtain ⟨g, o, hh, _⟩ := hX 0 (by rw [flat_length ic 32 ic_length]; simp)
          cases hh
      subst hL
      have hrun := run_append_noneG (P := Tryd.prog) v 33 o.type 23 i0 Tryd.underlying33 j1 h.2.1 d
      exact ⟨A, c, v, exec_append ho hx hy (by simpa using hrun), h.2.1, Mod.refl _ _, fun a ha => .inl (by subst ha; simp [blk])⟩
    · have := exec_appendG (P := Tryd.prog) (f := ic) (size := 32) v (o := o) (ρ := ρ) x y 33 ho 23 i0 (iv zeroI) 32 Tryd.underlying33 j1 j2 j3 j4 (by rfl) (by decide) ic_length ic_one A c [] (by simpa using hx) h.2.1 ad d L hy hX (by simp; omega) (by simp; omega)
      simpa using this
  refine ⟨A', c', v', r1, ⟨h.1.trans r3 (fun i hi hh => absurd hi (by have := (h.2.2.2.1 i hh).1; omega)), r2, h.2.2.1.keep r3 (fun a ha hh => (h.2.2.2.1 _ hh).2 (by simp [blk, ha])), fun i hi => ?_, h.2.2.2.2⟩, r3⟩
  obtain ⟨a, ha, rfl⟩ := mem_blk hi
  rcases r4 a ha with q | q
  · exact h.2.2.2.1 _ q
  · refine ⟨Nat.le_trans h.1.size q, fun hh => ?_⟩
    obtain ⟨b, hb, hb2⟩ := mem_blk hh
    have := h.2.2.1.lt b hb
    omega
theorem exec_none33 {o : Oper} {ρ : Operand → Value} (ho : o.op = .buildSlice 33 0 #[]) : (execOp ρ o).run Tryd.prog v = .ok (.value (.slice (some ⟨v.heap.size, 0, none⟩) 0 0)) (v.alloc (.cells ([] : List Value).toArray 23)) := by
  have hr : (Instr.buildSlice 33 0 #[]).run Tryd.prog v = .ok (.slice (some ⟨v.heap.size, 0, none⟩) 0 0) (v.alloc (.cells ([] : List Value).toArray 23)) := by kernel_rfl
  unfold execOp
  simp only [ho, List.map_toArray, List.map_nil, Sem.run_bind, hr, Result.andThen, Sem.run_pure]
theorem exec_uptoy {P : Program} {v : World} {o : Oper} {ρ : Operand → Value} {t e : TypeId} {x y : Operand} {A : Option Addr} {n c k s : Nat} (hu : P.underlying t = some (.slice e)) (he : (P.info? e).map (·.size) = some s) (hk : k ≤ c) (ho : o.op = .slice t x none (some y) none) (hx : ρ x = .slice A n c) (hy : ρ y = .int .i64 (k : Int)) :
    (execOp ρ o).run P v = .ok (.value (.slice A k c)) v := by
  unfold execOp
  have h0 : ∀ a : Addr, a.add 0 = a := fun _ => rfl
  cases hq : P.info? e with
  | none => rw [hq] at he; cases he
  | some it =>
    simp [ho, hx, hy, Instr.sliceAt, Instr.slice, Instr.sliceBounds, Instr.sliceBound, Sem.run_bind, run_underlying hu, go_sem, sizeOf, typeInfo, hq, hk, h0]
theorem Cells.preI {w : World} {A : Option Addr} {l : List Idv} (k : Nat) (h : Cells w A (l.flatMap ic)) : Cells w A ((l.take k).flatMap ic) := fun i hi => by
  have h' : Cells w A ((l.take k).flatMap ic ++ (l.drop k).flatMap ic) := by rw [← List.flatMap_append, List.take_append_drop]; exact h
  obtain ⟨g, o, e, hh⟩ := h' i (by simp only [List.length_append]; omega)
  exact ⟨g, o, e, by rw [hh, List.getElem_append_left hi]⟩
end
structure XT where
  b : Nat
  A : Option Addr
  c : Nat
  e : Nat
  B : Option Addr
  d : Nat
set_option maxRecDepth 100000 in
set_option maxHeartbeats 4000000 in
theorem signed_c (i : Int) (A : Option Addr) (nl c : Nat) (l : List Idv) (B : Option Addr) (nm d : Nat) (m : List Idv) (n1 n2 : Nat) (hl : nl = l.length) (hm : nm = m.length) (hn1 : n1 = (l.take 70).length) (hn2 : n2 = (m.take 5).length) (hc : nl ≤ c) (hd : nm ≤ d) (w : World) (RA : Cells w A (l.flatMap ic)) (RB : Cells w B (m.flatMap ic)) :
    Calls Tryd.prog 29 #[.agg (sgc i A nl c B nm d).toArray] w fun r w' => ∃ A' c' B' d', r = .returned (.agg (sgc i A' n1 c' B' n2 d').toArray) ∧ OwnG ic 23 32 w' A' c' (l.take 70) ∧ OwnG ic 23 32 w' B' d' (m.take 5) ∧ Mod [] w w' ∧ (∀ i ∈ blk A', w.heap.size ≤ i) ∧ (∀ i ∈ blk B', w.heap.size ≤ i) := by
  obtain ⟨q1, hq1⟩ : ∃ q, q = l.take 70 := ⟨_, rfl⟩
  obtain ⟨q2, hq2⟩ : ∃ q, q = m.take 5 := ⟨_, rfl⟩
  replace RA := RA.preI 70
  replace RB := RB.preI 5
  have e1 : n1 = min nl 70 := by rw [hn1, List.length_take, hl]; omega
  have e2 : n2 = min nm 5 := by rw [hn2, List.length_take, hm]; omega
  rw [← hq1] at hn1 RA ⊢
  rw [← hq2] at hn2 RB ⊢
  have HQ : Hid (n1 = q1.length ∧ n2 = q2.length ∧ (n1 : Int) = min (nl : Int) 70 ∧ (n2 : Int) = min (nm : Int) 5 ∧ n1 ≤ c ∧ n2 ≤ d ∧ n1 ≤ 100 ∧ n2 ≤ 100) := Lib.hid ⟨hn1, hn2, by omega, by omega, by omega, by omega, by omega, by omega⟩
  have HR := Lib.hid (And.intro RA RB)
  clear hq1 hq2 RA RB hl hm hn1 hn2 hc hd e1 e2
  go_enter Tryd.func29, Tryd.ntmps29
  go_wp2_with (first
    | (with_reducible refine wpList_boxes (o := ⟨some 1, .box 50 (.tmp 0), _, _, _, _⟩) rfl 50 (.tmp 0) rfl _ rfl (sgc i A nl c B nm d) rfl ?_; intro w1 hb1 m1 z1)
    | (with_reducible refine wpList_allocs (o := ⟨some 2, .alloc 50, _, _, _, _⟩) rfl 50 rfl _ zero50 ?_; intro w2 hb2 m2 z2
       obtain ⟨b1, hq1⟩ : ∃ q, q = w.heap.size := ⟨_, rfl⟩
       obtain ⟨b2, hq2⟩ : ∃ q, q = w1.heap.size := ⟨_, rfl⟩
       have k1 : Holds w2 b1 50 (sgc i A nl c B nm d) := by rw [hq1]; exact hb1.keep m2 (by simp)
       have k2 : Holds w2 b2 50 (sgc 0 none 0 0 none 0 0) := by rw [hq2]; exact hb2
       have mm := m1.then m2
       have h12 : ¬ b1 = b2 := by omega
       have hw2 : w.heap.size ≤ b2 := by omega
       have hb2 : b2 < w2.heap.size := by omega
       rw [← hq1, ← hq2]
       clear hb1 m1 z1 m2 z2 hq1 hq2))
  obtain ⟨wq, hwq⟩ : ∃ v, v = w2 := ⟨_, rfl⟩
  rw [← hwq] at k1 k2 mm hb2 ⊢
  clear hwq
  replace hb2 : b2 < wq.drew.heap.size := hb2
  have mv : ∀ v, Mod [b2] wq.drew v → Mod [b2] wq v := fun v h => (Mod.drew [b2] wq).trans h (fun i _ hi => hi)
  have FM : ∀ v, Mod [b2] wq.drew v → Mod [] w v := fun v h => far_mod mm ((Mod.drew [b2] wq).trans h (fun i _ hi => hi)) (fun i hi => by simp at hi; omega)
  have RA : ∀ v, Mod [b2] wq.drew v → Cells v A (q1.flatMap ic) := fun v h => HR.out.1.keep (FM v h) (by simp)
  have RB : ∀ v, Mod [b2] wq.drew v → Cells v B (q2.flatMap ic) := fun v h => HR.out.2.keep (FM v h) (by simp)
  refine wp_region_upx (X := XT) ⟨0, none, 0, 0, none, 0⟩ (fun x => [(3, .pointer (some ⟨b1, 0, none⟩)), (4, .int .i64 i), (5, .slice (some ⟨x.b, 0, none⟩) 0 0), (6, .pointer (some ⟨b1, 1, none⟩)), (7, .slice A nl c), (8, .pointer (some ⟨b1, 1, none⟩)), (9, .slice A nl c), (10, .int .i64 (nl : Int)), (11, .int .i64 (n1 : Int)), (12, .slice A n1 c), (13, .slice x.A n1 x.c), (14, .slice (some ⟨x.e, 0, none⟩) 0 0), (15, .pointer (some ⟨b1, 2, none⟩)), (16, .slice B nm d), (17, .pointer (some ⟨b1, 2, none⟩)), (18, .slice B nm d), (19, .int .i64 (nm : Int)), (20, .int .i64 (n2 : Int)), (21, .slice B n2 d), (22, .slice x.B n2 x.d), (23, .agg (sgc i x.A n1 x.c x.B n2 x.d).toArray)]) 24 [3, 4, 5, 6, 7, 8, 9, 10, 11, 12, 13, 14, 15, 16, 17, 18, 19, 20, 21, 22, 23] rfl (fun _ => rfl) (by decide) (by kernel_rfl) (fun x lz v => TwoS [b2] wq.drew (if lz 10 = true then ⟨x.A, x.c, q1⟩ else if lz 2 = true then ⟨some ⟨x.b, 0, none⟩, 0, []⟩ else ⟨none, 0, []⟩) (if lz 19 = true then ⟨x.B, x.d, q2⟩ else if lz 11 = true then ⟨some ⟨x.e, 0, none⟩, 0, []⟩ else ⟨none, 0, []⟩) v ∧ Holds v b2 50 (if lz 21 = true then sgc i x.A n1 x.c x.B n2 x.d else sgc 0 none 0 0 none 0 0)) (by kernel_rfl) ⟨TwoS.start _ (Mod.refl _ _), k2⟩ (by kernel_rfl) (by kernel_rfl) ?step ?fin
  case step =>
    intro x lz T v j o hj hlj hdep hst hpar hgot hcl Kq hK
    have hjn : j < 22 := (Array.getElem?_eq_some_iff.1 hj).1
    obtain rfl | rfl | rfl | rfl | rfl | rfl | rfl | rfl | rfl | rfl | rfl | rfl | rfl | rfl | rfl | rfl | rfl | rfl | rfl | rfl | rfl | rfl : j = 0 ∨ j = 1 ∨ j = 2 ∨ j = 3 ∨ j = 4 ∨ j = 5 ∨ j = 6 ∨ j = 7 ∨ j = 8 ∨ j = 9 ∨ j = 10 ∨ j = 11 ∨ j = 12 ∨ j = 13 ∨ j = 14 ∨ j = 15 ∨ j = 16 ∨ j = 17 ∨ j = 18 ∨ j = 19 ∨ j = 20 ∨ j = 21 := by omega
    all_goals (have hj' := Option.some.inj (hj : some _ = some o); subst hj'; clear hj)
    · exact wp_ran rfl (exec_fg0 rfl (eval_tmp ((hpar 1 rfl).trans rfl))) (hK x _ _ (fun _ _ _ _ _ _ => rfl) (fun s hs => by cases hs; rfl) (by simpa using hst))
    · exact wp_ran rfl (exec_load rfl (eval_tmp (hgot 0 _ 3 rfl (hdep ⟨0, .data⟩ (by simp) rfl) rfl)) (run_load1 Tryd.underlying3 rfl (by simpa [sgc] using (k1.keep (mv v hst.1.1) (by simpa using h12)).cell 0))) (hK x _ _ (fun _ _ _ _ _ _ => rfl) (fun s hs => by cases hs; rfl) (by simpa using hst))
    · have l10 : lz 10 = false := (by cases hh : lz 10 with | false => rfl | true => exact absurd (hcl 10 _ rfl hh ⟨2, .data⟩ (by simp) rfl) (by rw [hlj]; simp))
      have h1 : TwoS [b2] wq.drew ⟨none, 0, []⟩ (if lz 19 = true then ⟨x.B, x.d, q2⟩ else if lz 11 = true then ⟨some ⟨x.e, 0, none⟩, 0, []⟩ else ⟨none, 0, []⟩) v := by simpa [l10, hlj] using hst.1
      exact wp_ran rfl (exec_none33 rfl) (hK { x with b := v.heap.size } _ _ (fun j' o' s' g1 g2 g3 => by
          have g4 : j' < 22 := (Array.getElem?_eq_some_iff.1 g1).1
          clear hpar hgot hdep hK
          obtain rfl | rfl | rfl | rfl | rfl | rfl | rfl | rfl | rfl | rfl | rfl | rfl | rfl | rfl | rfl | rfl | rfl | rfl | rfl | rfl | rfl | rfl : j' = 0 ∨ j' = 1 ∨ j' = 2 ∨ j' = 3 ∨ j' = 4 ∨ j' = 5 ∨ j' = 6 ∨ j' = 7 ∨ j' = 8 ∨ j' = 9 ∨ j' = 10 ∨ j' = 11 ∨ j' = 12 ∨ j' = 13 ∨ j' = 14 ∨ j' = 15 ∨ j' = 16 ∨ j' = 17 ∨ j' = 18 ∨ j' = 19 ∨ j' = 20 ∨ j' = 21 := by omega
          all_goals (cases g1; cases g3 <;> first | rfl | (rw [hlj] at g2; cases g2) | (rw [l10] at g2; cases g2))) (fun s hs => by cases hs; rfl) ⟨by simpa [l10] using h1.lit, by simpa using hst.2.keep (Mod.alloc [] v _) (by simp)⟩)
    · exact wp_ran rfl (exec_fg1 rfl (eval_tmp ((hpar 1 rfl).trans rfl))) (hK x _ _ (fun _ _ _ _ _ _ => rfl) (fun s hs => by cases hs; rfl) (by simpa using hst))
    · exact wp_ran rfl (exec_load rfl (eval_tmp (hgot 3 _ 6 rfl (hdep ⟨3, .data⟩ (by simp) rfl) rfl)) (run_load1 Tryd.underlying33 rfl (by simpa [sgc] using (k1.keep (mv v hst.1.1) (by simpa using h12)).cell 1))) (hK x _ _ (fun _ _ _ _ _ _ => rfl) (fun s hs => by cases hs; rfl) (by simpa using hst))
    · exact wp_ran rfl (exec_fg1 rfl (eval_tmp ((hpar 1 rfl).trans rfl))) (hK x _ _ (fun _ _ _ _ _ _ => rfl) (fun s hs => by cases hs; rfl) (by simpa using hst))
    · exact wp_ran rfl (exec_load rfl (eval_tmp (hgot 5 _ 8 rfl (hdep ⟨5, .data⟩ (by simp) rfl) rfl)) (run_load1 Tryd.underlying33 rfl (by simpa [sgc] using (k1.keep (mv v hst.1.1) (by simpa using h12)).cell 1))) (hK x _ _ (fun _ _ _ _ _ _ => rfl) (fun s hs => by cases hs; rfl) (by simpa using hst))
    · exact wp_ran rfl (exec_len Tryd.underlying33 rfl (eval_tmp (hgot 6 _ 9 rfl (hdep ⟨6, .data⟩ (by simp) rfl) rfl))) (hK x _ _ (fun _ _ _ _ _ _ => rfl) (fun s hs => by cases hs; rfl) (by simpa using hst))
    · exact wp_ran rfl (exec_min rfl (eval_tmp (hgot 7 _ 10 rfl (hdep ⟨7, .data⟩ (by simp) rfl) rfl)) rfl HQ.out.2.2.1) (hK x _ _ (fun _ _ _ _ _ _ => rfl) (fun s hs => by cases hs; rfl) (by simpa using hst))
    · exact wp_ran rfl (exec_uptoy Tryd.underlying33 size25 HQ.out.2.2.2.2.1 rfl (eval_tmp (hgot 4 _ 7 rfl (hdep ⟨4, .data⟩ (by simp) rfl) rfl)) (eval_tmp (hgot 8 _ 11 rfl (hdep ⟨8, .data⟩ (by simp) rfl) rfl))) (hK x _ _ (fun _ _ _ _ _ _ => rfl) (fun s hs => by cases hs; rfl) (by simpa using hst))
    · have l20 : lz 20 = false := (by cases hh : lz 20 with | false => rfl | true => exact absurd (hcl 20 _ rfl hh ⟨10, .data⟩ (by simp) rfl) (by rw [hlj]; simp))
      have l21 : lz 21 = false := (by cases hh : lz 21 with | false => rfl | true => exact absurd (hcl 21 _ rfl hh ⟨10, .phase⟩ (by simp) rfl) (by rw [hlj]; simp))
      have l2 : lz 2 = true := hdep ⟨2, .data⟩ (by simp) rfl
      have h1 : TwoS [b2] wq.drew ⟨some ⟨x.b, 0, none⟩, 0, []⟩ (if lz 19 = true then ⟨x.B, x.d, q2⟩ else if lz 11 = true then ⟨some ⟨x.e, 0, none⟩, 0, []⟩ else ⟨none, 0, []⟩) v := by simpa [l2, hlj] using hst.1
      have hp : Holds v b2 50 (sgc 0 none 0 0 none 0 0) := by simpa [l21] using hst.2
      have hnb : b2 ∉ blk (some ⟨x.b, 0, none⟩) := fun hh => by have := (h1.2.2.2.1 _ hh).1; omega
      obtain ⟨A', c', v', r1, h2, m2⟩ := h1.app (ρ := T.eval) (o := { dst := some 13, op := .call { callee := .builtin .append, args := #[.tmp 5, .tmp 12], argTypes := #[33, 33] }, type := 33, pos := "x", after := #[], guard := none }) (.tmp 5) (.tmp 12) rfl (eval_tmp (hgot 2 _ 5 rfl (hdep ⟨2, .data⟩ (by simp) rfl) rfl)) HQ.out.1 (by have := HQ.out; omega) (eval_tmp (hgot 9 _ 12 rfl (hdep ⟨9, .data⟩ (by simp) rfl) rfl)) (RA v (hst.1.1))
      exact wp_ran rfl r1 (hK { x with A := A', c := c' } _ _ (fun j' o' s' g1 g2 g3 => by
          have g4 : j' < 22 := (Array.getElem?_eq_some_iff.1 g1).1
          clear hpar hgot hdep hK
          obtain rfl | rfl | rfl | rfl | rfl | rfl | rfl | rfl | rfl | rfl | rfl | rfl | rfl | rfl | rfl | rfl | rfl | rfl | rfl | rfl | rfl | rfl : j' = 0 ∨ j' = 1 ∨ j' = 2 ∨ j' = 3 ∨ j' = 4 ∨ j' = 5 ∨ j' = 6 ∨ j' = 7 ∨ j' = 8 ∨ j' = 9 ∨ j' = 10 ∨ j' = 11 ∨ j' = 12 ∨ j' = 13 ∨ j' = 14 ∨ j' = 15 ∨ j' = 16 ∨ j' = 17 ∨ j' = 18 ∨ j' = 19 ∨ j' = 20 ∨ j' = 21 := by omega
          all_goals (cases g1; cases g3 <;> first | rfl | (rw [hlj] at g2; cases g2) | (rw [l20] at g2; cases g2))) (fun s hs => by cases hs; rfl) ⟨by simpa using h2, by simpa [l21] using hp.keep m2 hnb⟩)
    · have l19 : lz 19 = false := (by cases hh : lz 19 with | false => rfl | true => exact absurd (hcl 19 _ rfl hh ⟨11, .data⟩ (by simp) rfl) (by rw [hlj]; simp))
      have h1 : TwoS [b2] wq.drew (if lz 10 = true then ⟨x.A, x.c, q1⟩ else if lz 2 = true then ⟨some ⟨x.b, 0, none⟩, 0, []⟩ else ⟨none, 0, []⟩) ⟨none, 0, []⟩ v := by simpa [l19, hlj] using hst.1
      exact wp_ran rfl (exec_none33 rfl) (hK { x with e := v.heap.size } _ _ (fun j' o' s' g1 g2 g3 => by
          have g4 : j' < 22 := (Array.getElem?_eq_some_iff.1 g1).1
          clear hpar hgot hdep hK
          obtain rfl | rfl | rfl | rfl | rfl | rfl | rfl | rfl | rfl | rfl | rfl | rfl | rfl | rfl | rfl | rfl | rfl | rfl | rfl | rfl | rfl | rfl : j' = 0 ∨ j' = 1 ∨ j' = 2 ∨ j' = 3 ∨ j' = 4 ∨ j' = 5 ∨ j' = 6 ∨ j' = 7 ∨ j' = 8 ∨ j' = 9 ∨ j' = 10 ∨ j' = 11 ∨ j' = 12 ∨ j' = 13 ∨ j' = 14 ∨ j' = 15 ∨ j' = 16 ∨ j' = 17 ∨ j' = 18 ∨ j' = 19 ∨ j' = 20 ∨ j' = 21 := by omega
          all_goals (cases g1; cases g3 <;> first | rfl | (rw [hlj] at g2; cases g2) | (rw [l19] at g2; cases g2))) (fun s hs => by cases hs; rfl) ⟨by simpa [l19] using h1.swap.lit.swap, by simpa using hst.2.keep (Mod.alloc [] v _) (by simp)⟩)
    · exact wp_ran rfl (exec_fg2 rfl (eval_tmp ((hpar 1 rfl).trans rfl))) (hK x _ _ (fun _ _ _ _ _ _ => rfl) (fun s hs => by cases hs; rfl) (by simpa using hst))
    · exact wp_ran rfl (exec_load rfl (eval_tmp (hgot 12 _ 15 rfl (hdep ⟨12, .data⟩ (by simp) rfl) rfl)) (run_load1 Tryd.underlying33 rfl (by simpa [sgc] using (k1.keep (mv v hst.1.1) (by simpa using h12)).cell 2))) (hK x _ _ (fun _ _ _ _ _ _ => rfl) (fun s hs => by cases hs; rfl) (by simpa using hst))
    · exact wp_ran rfl (exec_fg2 rfl (eval_tmp ((hpar 1 rfl).trans rfl))) (hK x _ _ (fun _ _ _ _ _ _ => rfl) (fun s hs => by cases hs; rfl) (by simpa using hst))
    · exact wp_ran rfl (exec_load rfl (eval_tmp (hgot 14 _ 17 rfl (hdep ⟨14, .data⟩ (by simp) rfl) rfl)) (run_load1 Tryd.underlying33 rfl (by simpa [sgc] using (k1.keep (mv v hst.1.1) (by simpa using h12)).cell 2))) (hK x _ _ (fun _ _ _ _ _ _ => rfl) (fun s hs => by cases hs; rfl) (by simpa using hst))
    · exact wp_ran rfl (exec_len Tryd.underlying33 rfl (eval_tmp (hgot 15 _ 18 rfl (hdep ⟨15, .data⟩ (by simp) rfl) rfl))) (hK x _ _ (fun _ _ _ _ _ _ => rfl) (fun s hs => by cases hs; rfl) (by simpa using hst))
    · exact wp_ran rfl (exec_min rfl (eval_tmp (hgot 16 _ 19 rfl (hdep ⟨16, .data⟩ (by simp) rfl) rfl)) rfl HQ.out.2.2.2.1) (hK x _ _ (fun _ _ _ _ _ _ => rfl) (fun s hs => by cases hs; rfl) (by simpa using hst))
    · exact wp_ran rfl (exec_uptoy Tryd.underlying33 size25 HQ.out.2.2.2.2.2.1 rfl (eval_tmp (hgot 13 _ 16 rfl (hdep ⟨13, .data⟩ (by simp) rfl) rfl)) (eval_tmp (hgot 17 _ 20 rfl (hdep ⟨17, .data⟩ (by simp) rfl) rfl))) (hK x _ _ (fun _ _ _ _ _ _ => rfl) (fun s hs => by cases hs; rfl) (by simpa using hst))
    · have l20 : lz 20 = false := (by cases hh : lz 20 with | false => rfl | true => exact absurd (hcl 20 _ rfl hh ⟨19, .data⟩ (by simp) rfl) (by rw [hlj]; simp))
      have l21 : lz 21 = false := (by cases hh : lz 21 with | false => rfl | true => exact absurd (hcl 21 _ rfl hh ⟨19, .phase⟩ (by simp) rfl) (by rw [hlj]; simp))
      have l11 : lz 11 = true := hdep ⟨11, .data⟩ (by simp) rfl
      have h1 : TwoS [b2] wq.drew (if lz 10 = true then ⟨x.A, x.c, q1⟩ else if lz 2 = true then ⟨some ⟨x.b, 0, none⟩, 0, []⟩ else ⟨none, 0, []⟩) ⟨some ⟨x.e, 0, none⟩, 0, []⟩ v := by simpa [l11, hlj] using hst.1
      have hp : Holds v b2 50 (sgc 0 none 0 0 none 0 0) := by simpa [l21] using hst.2
      have hnb : b2 ∉ blk (some ⟨x.e, 0, none⟩) := fun hh => by have := (h1.swap.2.2.2.1 _ hh).1; omega
      obtain ⟨A', c', v', r1, h2, m2⟩ := h1.swap.app (ρ := T.eval) (o := { dst := some 22, op := .call { callee := .builtin .append, args := #[.tmp 14, .tmp 21], argTypes := #[33, 33] }, type := 33, pos := "x", after := #[], guard := none }) (.tmp 14) (.tmp 21) rfl (eval_tmp (hgot 11 _ 14 rfl (hdep ⟨11, .data⟩ (by simp) rfl) rfl)) HQ.out.2.1 (by have := HQ.out; omega) (eval_tmp (hgot 18 _ 21 rfl (hdep ⟨18, .data⟩ (by simp) rfl) rfl)) (RB v (hst.1.1))
      exact wp_ran rfl r1 (hK { x with B := A', d := c' } _ _ (fun j' o' s' g1 g2 g3 => by
          have g4 : j' < 22 := (Array.getElem?_eq_some_iff.1 g1).1
          clear hpar hgot hdep hK
          obtain rfl | rfl | rfl | rfl | rfl | rfl | rfl | rfl | rfl | rfl | rfl | rfl | rfl | rfl | rfl | rfl | rfl | rfl | rfl | rfl | rfl | rfl : j' = 0 ∨ j' = 1 ∨ j' = 2 ∨ j' = 3 ∨ j' = 4 ∨ j' = 5 ∨ j' = 6 ∨ j' = 7 ∨ j' = 8 ∨ j' = 9 ∨ j' = 10 ∨ j' = 11 ∨ j' = 12 ∨ j' = 13 ∨ j' = 14 ∨ j' = 15 ∨ j' = 16 ∨ j' = 17 ∨ j' = 18 ∨ j' = 19 ∨ j' = 20 ∨ j' = 21 := by omega
          all_goals (cases g1; cases g3 <;> first | rfl | (rw [hlj] at g2; cases g2) | (rw [l20] at g2; cases g2))) (fun s hs => by cases hs; rfl) ⟨by simpa using h2.swap, by simpa [l21] using hp.keep m2 hnb⟩)
    · exact wp_ran rfl (exec_build50 rfl (eval_tmp (hgot 1 _ 4 rfl (hdep ⟨1, .data⟩ (by simp) rfl) rfl)) (eval_tmp (hgot 10 _ 13 rfl (hdep ⟨10, .data⟩ (by simp) rfl) rfl)) (eval_tmp (hgot 19 _ 22 rfl (hdep ⟨19, .data⟩ (by simp) rfl) rfl))) (hK x _ _ (fun _ _ _ _ _ _ => rfl) (fun s hs => by cases hs; rfl) (by simpa using hst))
    · have hp := hst.2
      rw [if_neg (by rw [hlj]; simp)] at hp
      have a10 : lz 10 = true := hdep ⟨10, .phase⟩ (by simp) rfl
      have a19 : lz 19 = true := hdep ⟨19, .phase⟩ (by simp) rfl
      have h1 : TwoS [b2] wq.drew ⟨x.A, x.c, q1⟩ ⟨x.B, x.d, q2⟩ v := by simpa [a10, a19] using hst.1
      refine wp_stored (ty := 50) (V := .agg (sgc i x.A n1 x.c x.B n2 x.d).toArray) (cs := sgc i x.A n1 x.c x.B n2 x.d) rfl rfl (eval_tmp ((hpar 2 rfl).trans rfl)) (eval_tmp (hgot 20 _ 23 rfl (hdep ⟨20, .data⟩ (by simp) rfl) rfl)) rfl hp rfl (sgc_one _ _ _ _ _ _ _) (size50s _ _ _ _ _ _ _) (fun v' q1' q2' => hK x _ _ (fun _ _ _ _ _ _ => rfl) (fun s hs => by cases hs) ⟨?_, by rw [if_pos (by simp)]; exact q1'⟩)
      have h2 : TwoS [b2] wq.drew ⟨x.A, x.c, q1⟩ ⟨x.B, x.d, q2⟩ v' := ⟨h1.1.trans q2' (fun i _ hi => hi), h1.2.1.keep q2' (fun a ha hm => by have ha' : x.A = some a := ha; have := (h1.2.2.2.1 a.block (by simp [blk, ha'])).1; simp at hm; omega), h1.2.2.1.keep q2' (fun a ha hm => by have ha' : x.B = some a := ha; have := h1.2.2.2.2 a.block (by simp [blk, ha']); simp at hm; omega), h1.2.2.2.1, h1.2.2.2.2⟩
      simpa [a10, a19] using h2
  case fin =>
  intro x lz vr hlz hst
  have a10 := hlz 10 (by decide)
  have a19 := hlz 19 (by decide)
  have h1 : TwoS [b2] wq.drew ⟨x.A, x.c, q1⟩ ⟨x.B, x.d, q2⟩ vr := by simpa [a10, a19] using hst.1
  have hp := hst.2
  rw [if_pos (hlz 21 (by decide))] at hp
  clear hst hlz
  simp only [Act.put, setAll, List.setIfInBounds_toArray, List.foldl_cons, List.foldl_nil, List.set_cons_succ, List.set_cons_zero]
  go_wp2_with fail
  refine bodyPost_ret (results_cell_row rfl _ _ b2 50 _ (0, 0) _ rfl hp Tryd.underlying50 rfl (by rw [List.size_toArray]; exact size50s _ _ _ _ _ _ _)) rfl ?_
  have hsz : w.heap.size ≤ wq.drew.heap.size := mm.size
  exact ⟨_, _, _, _, rfl, h1.2.1, h1.2.2.1, FM _ h1.1, fun i hi => Nat.le_trans hsz (h1.2.2.2.1 i hi).1, fun i hi => Nat.le_trans hsz (h1.2.2.2.2 i hi)⟩
end Go.Proofs.YtbacmeaeehhhfaaDoor
