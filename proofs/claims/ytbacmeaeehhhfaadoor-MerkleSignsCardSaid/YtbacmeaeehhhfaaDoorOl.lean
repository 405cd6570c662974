/-
  The law's own turned: a signature, and a digest, changed. My own work.
-/
import Derived.Test.YtbacmeaeehhhfaaDoorOk
import Derived.Test.YtbacmeaeehhhfaaDoorOi
namespace Go.Proofs.YtbacmeaeehhhfaaDoor
open Go.RowKit Go.Shelf
set_option linter.unusedVariables false
set_option linter.unusedSimpArgs false
theorem TwoS.turn {ms : List Nat} {W v v' : World} {r s : Rw1} {b : Nat} (h : TwoS ms W r s v) (m : Mod [b] v v') (hb : b ∈ ms) (hlt : b < W.heap.size) : TwoS ms W r s v' :=
  ⟨h.1.trans m (fun i _ hi => by have : i = b := by simpa using hi
                                 rw [this]; exact hb), h.2.1.keep m (fun a ha hm => by have := (h.2.2.2.1 a.block (by simp [blk, ha])).1; simp at hm; omega), h.2.2.1.keep m (fun a ha hm => by have := h.2.2.2.2 a.block (by simp [blk, ha]); simp at hm; omega), h.2.2.2.1, h.2.2.2.2⟩
theorem wp_sg {v : World} {o : Oper} {ops : Array Oper} {T : Act} {Kq : Act → World → Prop} {Q : Exit → Act → World → Prop} {E : Prop} {b k : Nat} {cs : List Value} {u : Value} {ty t : TypeId} {x y : Operand} (hg : o.guard = none) (ho : o.op = .store ty x y) (hx : T.eval x = .pointer (some ⟨b, k, none⟩)) (hy : T.eval y = u) (h1 : u.oneCell' = true) (hi : (Tryd.prog.info? ty).map (·.size) = some 1) (hh : Holds v b t cs) (hk : k < cs.length)
    (hK : ∀ v', Holds v' b t (cs.set k u) → Mod [b] v v' → Kq (T.put o.dst undef) v') : if Region.wanted o (yielded ops T.tmps) = true then o.wp Tryd.prog T v Kq Q else E := by
  cases hq : Tryd.prog.info? ty with
  | none => rw [hq] at hi; cases hi
  | some it => exact wp_ran_skip hg (exec_store1 ho hx hy h1 hq (by rw [hq] at hi; simpa using hi) (by rw [hh.cell k]; exact List.getElem?_eq_getElem hk) (hh.free k)) (hK _ (hh.set k u) (Mod.setCell _ (by simp) _))
theorem one33 : (Tryd.prog.info? 33).map (·.size) = some 1 := by kernel_rfl
section
variable {v : World} {o : Oper} {ρ : Operand → Value} {x y : Operand}
theorem exec_tu1 {g : Nat} (ho : o.op = .fieldAddr 57 x 1) (hx : ρ x = .pointer (some ⟨g, 0, none⟩)) : (execOp ρ o).run Tryd.prog v = .ok (.value (.pointer (some ⟨g, 1, none⟩))) v := by
  unfold execOp
  simp [ho, hx, go_sem]
theorem exec_tu2 {g : Nat} (ho : o.op = .fieldAddr 57 x 2) (hx : ρ x = .pointer (some ⟨g, 0, none⟩)) : (execOp ρ o).run Tryd.prog v = .ok (.value (.pointer (some ⟨g, 2, none⟩))) v := by
  unfold execOp
  simp [ho, hx, go_sem]
theorem exec_remZ {u k n : Int} (h0 : 0 ≤ u) (hk : k ≠ 0) (hn : n = u % k) (ho : o.op = .binOp .rem 73 x y 73) (hx : ρ x = .int .u64 u) (hy : ρ y = .int .u64 k) : (execOp ρ o).run Tryd.prog v = .ok (.value (.int .u64 n)) v := by
  have h : u.tmod k = n := by rw [Int.tmod_eq_emod_of_nonneg h0, hn]
  unfold execOp
  simp [ho, hx, hy, go_sem, hk]
  exact h
theorem exec_conv2Z {n : Int} (h0 : 0 ≤ n) (hn : n < 100000) (ho : o.op = .convert 73 3 x) (hx : ρ x = .int .u64 n) : (execOp ρ o).run Tryd.prog v = .ok (.value (.int .i64 n)) v := by
  have h2 : IntKind.i64.wrap n = n := IntWalk.i64_in _ (by omega)
  unfold execOp
  simp [ho, hx, go_sem]
  exact h2
theorem exec_ixu {P : Program} {t e : TypeId} {g n c z f i : Nat} (hu : P.underlying t = some (.slice e)) (he : (P.info? e).map (·.size) = some z) (hi : i < n) (ho : o.op = .indexAddr t x y) (hx : ρ x = .slice (some ⟨g, f, none⟩) n c) (hy : ρ y = .int .u64 (i : Int)) :
    (execOp ρ o).run P v = .ok (.value (.pointer (some ⟨g, f + i * z, none⟩))) v := by
  unfold execOp
  cases hq : P.info? e with
  | none => rw [hq] at he; cases he
  | some it =>
    have hs : it.size = z := by rw [hq] at he; simpa using he
    simp [ho, hx, hy, Instr.indexAt, Sem.run_bind, run_underlying hu, go_sem, sizeOf, typeInfo, hq, hs, hi, add_plain]
theorem exec_storeR {Y : Value} {a : Addr} {v' : World} (ho : o.op = .store 23 x y) (hx : ρ x = .pointer (some a)) (hy : ρ y = Y) (hr : (storeVar 23 a Y).run Tryd.prog v = .ok () v') : (execOp ρ o).run Tryd.prog v = .ok .skip v' := by
  unfold execOp
  simp only [ho, hx, hy, Instr.storeAt, Instr.sureAddr, Sem.run_bind, Sem.run_pure, Result.andThen_ok, hr]
end
theorem own_store0 {w : World} {g : Nat} {c : Nat} {l : List Idv} (h : OwnG ic 23 32 w (some ⟨g, 0, none⟩) c l) (k : Nat) (hk : k < l.length) (y : Idv) :
    ∃ v, (storeVar 23 ⟨g, 0 + k * 32, none⟩ (iv y)).run Tryd.prog w = .ok () v ∧ OwnG ic 23 32 v (some ⟨g, 0, none⟩) c (l.set k y) ∧ Mod [g] w v := by
  obtain ⟨g', v, e, h1, h2, h3⟩ := own_store h k hk y
  cases e
  rw [Nat.zero_add]
  exact ⟨v, h1, h2, h3⟩
theorem tu_y {w : World} {g : Nat} {r : Tur} (h : Holds w g 57 (tuc r)) : Cells w (some ⟨g, 2, none⟩) (ic r.y) := Cells.of_cells fun j hj => by
  have := h.cell (2 + j)
  rw [this]
  unfold tuc
  rw [List.getElem?_append_right (by simp)]
  simp only [List.length_cons, List.length_nil]
  rw [show 2 + j - (0 + 1 + 1) = j by omega, List.getElem?_eq_getElem hj]
theorem tu_k {w : World} {g : Nat} {r : Tur} (h : Holds w g 57 (tuc r)) : w.cell? ⟨g, 0, none⟩ = some (.int .i64 r.k) := h.cell 0
theorem tu_a {w : World} {g : Nat} {r : Tur} (h : Holds w g 57 (tuc r)) : w.cell? ⟨g, 1, none⟩ = some (.int .i64 r.a) := h.cell 1
theorem size57 (r : Tur) : (Tryd.prog.info? 57).map (·.size) = some (tuc r).length := by rw [tuc_length]; kernel_rfl
theorem results_cells {P : Program} {fn : Func} {p q : Tmp} {ty tz : TypeId} (h : fn.results = #[.cell p ty, .cell q tz]) (tmps : Array Value) (w : World) (g g' : Nat) (cs cs' : List Value) (d d' : TypeDesc)
    (hp : tmps.getD p undef = .pointer (some ⟨g, 0, none⟩)) (hq : tmps.getD q undef = .pointer (some ⟨g', 0, none⟩)) (hc : Cells w (some ⟨g, 0, none⟩) cs) (hc' : Cells w (some ⟨g', 0, none⟩) cs')
    (hu : P.underlying ty = some d) (hd : (match d with | .struct _ | .array _ _ => true | _ => false) = true) (hi : (P.info? ty).map (·.size) = some cs.length)
    (hu' : P.underlying tz = some d') (hd' : (match d' with | .struct _ | .array _ _ => true | _ => false) = true) (hi' : (P.info? tz).map (·.size) = some cs'.length) :
    (results fn tmps).run P w = .ok (.tuple #[.agg cs.toArray, .agg cs'.toArray]) w := by
  have hp' : tmps[p]?.getD undef = .pointer (some ⟨g, 0, none⟩) := by simpa using hp
  have hq' : tmps[q]?.getD undef = .pointer (some ⟨g', 0, none⟩) := by simpa using hq
  simp [results, h, hp', hq', asAddr, run_loads hc hu hd hi, run_loads hc' hu' hd' hi']
/-- What turned answers. -/
def TurnedR (w : World) (e : Ending) (w' : World) : Prop := ∃ (i : Int) (A : Option Addr) (n c : Nat) (l : List Idv) (B : Option Addr) (p d : Nat) (r : List Idv) (m : Idv), e = .returned (.tuple #[.agg (sgc i A n c B p d).toArray, iv m]) ∧ n = l.length ∧ p = r.length ∧ Cells w' A (l.flatMap ic) ∧ Cells w' B (r.flatMap ic) ∧ Mod [] w w'
structure XU where
  b : Nat
  A : Option Addr
  c : Nat
set_option maxRecDepth 100000 in
set_option maxHeartbeats 4000000 in
theorem turned_0 (i : Int) (A : Option Addr) (c : Nat) (l : List Idv) (hl : l.length = 67) (B : Option Addr) (d : Nat) (r : List Idv) (hr : r.length = 3) (m0 : Idv) (t : Tur) (hk : t.k % 18446744073709551616 % 6 = 0) (w : World) (RA : Cells w A (l.flatMap ic)) (RB : Cells w B (r.flatMap ic)) :
    Calls Tryd.prog 27 #[.agg (sgc i A 67 c B 3 d).toArray, iv m0, .agg (tuc t).toArray] w (TurnedR w) := by
  obtain ⟨tk, ta, ty⟩ := t
  obtain ⟨u, hu⟩ : ∃ u : Int, u = tk % 18446744073709551616 := ⟨_, rfl⟩
  obtain ⟨ua, hua⟩ : ∃ u : Int, u = ta % 18446744073709551616 := ⟨_, rfl⟩
  have HU : Hid (u = tk % 18446744073709551616 ∧ 0 ≤ u ∧ (0 : Int) = u % 6 ∧ ua = ta % 18446744073709551616 ∧ 0 ≤ ua) := Lib.hid ⟨hu, by omega, by simp only at hk; omega, hua, by omega⟩
  have HR := Lib.hid (And.intro RA RB)
  have HL := Lib.hid (And.intro hl hr)
  clear hk RA RB hl hr hu hua
  go_enter Tryd.func27, Tryd.ntmps27
  go_wp2_with (first
    | (with_reducible refine wpList_boxes (o := ⟨some 3, .box 50 (.tmp 0), _, _, _, _⟩) rfl 50 (.tmp 0) rfl _ rfl (sgc i A 67 c B 3 d) rfl ?_; intro w1 h3 m1 z1; replace z1 := Lib.hid z1)
    | (with_reducible refine wpList_boxes (o := ⟨some 4, .box 23 (.tmp 1), _, _, _, _⟩) rfl 23 (.tmp 1) rfl _ rfl (ic m0) rfl ?_; intro w2 h4 m2 z2; replace z2 := Lib.hid z2)
    | (with_reducible refine wpList_boxes (o := ⟨some 5, .box 57 (.tmp 2), _, _, _, _⟩) rfl 57 (.tmp 2) rfl _ rfl (tuc ⟨tk, ta, ty⟩) rfl ?_; intro w3 h5 m3 z3; replace z3 := Lib.hid z3)
    | (with_reducible refine wpList_allocs (o := ⟨some 6, .alloc 50, _, _, _, _⟩) rfl 50 rfl _ zero50 ?_; intro w4 h6 m4 z4; replace z4 := Lib.hid z4)
    | (with_reducible refine wpList_allocs (o := ⟨some 7, .alloc 23, _, _, _, _⟩) rfl 23 rfl _ zeroI_25 ?_; intro w5 h7 m5 z5
       obtain ⟨b3, hq3⟩ : ∃ q, q = w.heap.size := ⟨_, rfl⟩
       obtain ⟨b4, hq4⟩ : ∃ q, q = w1.heap.size := ⟨_, rfl⟩
       obtain ⟨b5, hq5⟩ : ∃ q, q = w2.heap.size := ⟨_, rfl⟩
       obtain ⟨b6, hq6⟩ : ∃ q, q = w3.heap.size := ⟨_, rfl⟩
       obtain ⟨b7, hq7⟩ : ∃ q, q = w4.heap.size := ⟨_, rfl⟩
       have HB : Hid (b3 < b4 ∧ b4 < b5 ∧ b5 < b6 ∧ b6 < b7 ∧ b7 < w5.heap.size ∧ w.heap.size = b3) := Lib.hid (by have := z1.out; have := z2.out; have := z3.out; have := z4.out; omega)
       rw [← hq3, ← hq4, ← hq5, ← hq6, ← hq7]
       have k3 : Holds w5 b3 50 (sgc i A 67 c B 3 d) := by rw [hq3]; exact (((h3.keep m2 (by simp)).keep m3 (by simp)).keep m4 (by simp)).keep m5 (by simp)
       have k4 : Holds w5 b4 23 (ic m0) := by rw [hq4]; exact ((h4.keep m3 (by simp)).keep m4 (by simp)).keep m5 (by simp)
       have k5 : Holds w5 b5 57 (tuc ⟨tk, ta, ty⟩) := by rw [hq5]; exact (h5.keep m4 (by simp)).keep m5 (by simp)
       have k6 : Holds w5 b6 50 (sgc 0 none 0 0 none 0 0) := by rw [hq6]; exact h6.keep m5 (by simp)
       have k7 : Holds w5 b7 23 (ic zeroI) := by rw [hq7]; exact h7
       have mm := (((m1.then m2).then m3).then m4).then m5
       clear h3 h4 h5 h6 h7 m1 m2 m3 m4 m5 z1 z2 z3 z4 z5 hq3 hq4 hq5 hq6 hq7))
  obtain ⟨wq, hwq⟩ : ∃ v, v = w5 := ⟨_, rfl⟩
  rw [← hwq] at k3 k4 k5 k6 k7 mm HB ⊢
  clear hwq
  replace k3 := k3.keep (Mod.drew [] wq) (by simp)
  replace k4 := k4.keep (Mod.drew [] wq) (by simp)
  replace k5 := k5.keep (Mod.drew [] wq) (by simp)
  replace k6 := k6.keep (Mod.drew [] wq) (by simp)
  replace k7 := k7.keep (Mod.drew [] wq) (by simp)
  have FM : ∀ v, Mod [b3] wq.drew v → Mod [] w v := fun v h => far_mod (mm.then (Mod.drew [] wq)) h (fun i hi => by simp at hi; have := HB.out; omega)
  have RA : ∀ v, Mod [b3] wq.drew v → Cells v A (l.flatMap ic) := fun v h => HR.out.1.keep (FM v h) (by simp)
  have RB : ∀ v, Mod [b3] wq.drew v → Cells v B (r.flatMap ic) := fun v h => HR.out.2.keep (FM v h) (by simp)
  have HQ : Hid (67 = l.length ∧ 3 = r.length ∧ b3 < wq.drew.heap.size ∧ b3 < wq.drew.heap.size) := Lib.hid ⟨HL.out.1.symm, HL.out.2.symm, by have := HB.out; exact Nat.lt_trans (by omega) HB.out.2.2.2.2.1, by have := HB.out; exact Nat.lt_trans (by omega) HB.out.2.2.2.2.1⟩
  clear mm
  refine wp_region_upx (X := XT) ⟨0, none, 0, 0, none, 0⟩ (fun x => [(8, .slice (some ⟨x.b, 0, none⟩) 0 0), (9, .pointer (some ⟨b3, 1, none⟩)), (10, .slice A 67 c), (11, .slice x.A 67 x.c), (12, .slice (some ⟨x.e, 0, none⟩) 0 0), (13, .pointer (some ⟨b3, 2, none⟩)), (14, .slice B 3 d), (15, .slice x.B 3 x.d), (16, .pointer (some ⟨b3, 1, none⟩)), (17, .pointer (some ⟨b3, 2, none⟩))]) 103 [8, 9, 10, 11, 12, 13, 14, 15, 16, 17] rfl (fun _ => rfl) (by decide) (by kernel_rfl) (fun x lz v => TwoS [b3] wq.drew (if lz 3 = true then ⟨x.A, x.c, l⟩ else if lz 0 = true then ⟨some ⟨x.b, 0, none⟩, 0, []⟩ else ⟨none, 0, []⟩) (if lz 7 = true then ⟨x.B, x.d, r⟩ else if lz 4 = true then ⟨some ⟨x.e, 0, none⟩, 0, []⟩ else ⟨none, 0, []⟩) v ∧ Holds v b3 50 (sgc i (if lz 9 = true then x.A else A) 67 (if lz 9 = true then x.c else c) (if lz 11 = true then x.B else B) 3 (if lz 11 = true then x.d else d))) (by kernel_rfl) ⟨TwoS.start _ (Mod.refl _ _), by simpa using k3⟩ (by kernel_rfl) (by kernel_rfl) ?step ?fin
  case step =>
    intro x lz T v j o hj hlj hdep hst hpar hgot hcl Kq hK
    have hjn : j < 12 := (Array.getElem?_eq_some_iff.1 hj).1
    obtain rfl | rfl | rfl | rfl | rfl | rfl | rfl | rfl | rfl | rfl | rfl | rfl : j = 0 ∨ j = 1 ∨ j = 2 ∨ j = 3 ∨ j = 4 ∨ j = 5 ∨ j = 6 ∨ j = 7 ∨ j = 8 ∨ j = 9 ∨ j = 10 ∨ j = 11 := by omega
    all_goals (have hj' := Option.some.inj (hj : some _ = some o); subst hj'; clear hj)
    · have l3 : lz 3 = false := (by cases hh : lz 3 with | false => rfl | true => exact absurd (hcl 3 _ rfl hh ⟨0, .data⟩ (by simp) rfl) (by rw [hlj]; simp))
      have h1 : TwoS [b3] wq.drew ⟨none, 0, []⟩ (if lz 7 = true then ⟨x.B, x.d, r⟩ else if lz 4 = true then ⟨some ⟨x.e, 0, none⟩, 0, []⟩ else ⟨none, 0, []⟩) v := by simpa [l3, hlj] using hst.1
      exact wp_ran rfl (exec_none33 rfl) (hK { x with b := v.heap.size } _ _ (fun j' o' s' g1 g2 g3 => by
          have g4 : j' < 12 := (Array.getElem?_eq_some_iff.1 g1).1
          clear hpar hgot hdep hK
          obtain rfl | rfl | rfl | rfl | rfl | rfl | rfl | rfl | rfl | rfl | rfl | rfl : j' = 0 ∨ j' = 1 ∨ j' = 2 ∨ j' = 3 ∨ j' = 4 ∨ j' = 5 ∨ j' = 6 ∨ j' = 7 ∨ j' = 8 ∨ j' = 9 ∨ j' = 10 ∨ j' = 11 := by omega
          all_goals (cases g1; cases g3 <;> first | rfl | (rw [hlj] at g2; cases g2) | (rw [l3] at g2; cases g2))) (fun s hs => by cases hs; rfl) ⟨by simpa [l3] using h1.lit, by simpa using hst.2.keep (Mod.alloc [] v _) (by simp)⟩)
    · exact wp_ran rfl (exec_fg1 rfl (eval_tmp ((hpar 3 rfl).trans rfl))) (hK x _ _ (fun _ _ _ _ _ _ => rfl) (fun s hs => by cases hs; rfl) (by simpa using hst))
    · have l9 : lz 9 = false := (by cases hh : lz 9 with | false => rfl | true => exact absurd (hcl 9 _ rfl hh ⟨2, .phase⟩ (by simp) rfl) (by rw [hlj]; simp))
      exact wp_ran rfl (exec_load rfl (eval_tmp (hgot 1 _ 9 rfl (hdep ⟨1, .data⟩ (by simp) rfl) rfl)) (run_load1 Tryd.underlying33 rfl (by have := hst.2.cell 1; simpa [sgc, l9] using this))) (hK x _ _ (fun _ _ _ _ _ _ => rfl) (fun s hs => by cases hs; rfl) (by simpa using hst))
    · have l9 : lz 9 = false := (by cases hh : lz 9 with | false => rfl | true => exact absurd (hcl 9 _ rfl hh ⟨3, .data⟩ (by simp) rfl) (by rw [hlj]; simp))
      have l0 : lz 0 = true := hdep ⟨0, .data⟩ (by simp) rfl
      have h1 : TwoS [b3] wq.drew ⟨some ⟨x.b, 0, none⟩, 0, []⟩ (if lz 7 = true then ⟨x.B, x.d, r⟩ else if lz 4 = true then ⟨some ⟨x.e, 0, none⟩, 0, []⟩ else ⟨none, 0, []⟩) v := by simpa [l0, hlj] using hst.1
      have hnb : b3 ∉ blk (some ⟨x.b, 0, none⟩) := fun hh => by have := (h1.2.2.2.1 _ hh).1; have := HQ.out.2.2.1; omega
      obtain ⟨A', c', v', r1, h2, m2⟩ := h1.app (ρ := T.eval) (o := { dst := some 11, op := .call { callee := .builtin .append, args := #[.tmp 8, .tmp 10], argTypes := #[33, 33] }, type := 33, pos := "x", after := #[], guard := none }) (.tmp 8) (.tmp 10) rfl (eval_tmp (hgot 0 _ 8 rfl (hdep ⟨0, .data⟩ (by simp) rfl) rfl)) HQ.out.1 (by omega) (eval_tmp (hgot 2 _ 10 rfl (hdep ⟨2, .data⟩ (by simp) rfl) rfl)) (RA v hst.1.1)
      exact wp_ran rfl r1 (hK { x with A := A', c := c' } _ _ (fun j' o' s' g1 g2 g3 => by
          have g4 : j' < 12 := (Array.getElem?_eq_some_iff.1 g1).1
          clear hpar hgot hdep hK
          obtain rfl | rfl | rfl | rfl | rfl | rfl | rfl | rfl | rfl | rfl | rfl | rfl : j' = 0 ∨ j' = 1 ∨ j' = 2 ∨ j' = 3 ∨ j' = 4 ∨ j' = 5 ∨ j' = 6 ∨ j' = 7 ∨ j' = 8 ∨ j' = 9 ∨ j' = 10 ∨ j' = 11 := by omega
          all_goals (cases g1; cases g3 <;> first | rfl | (rw [hlj] at g2; cases g2))) (fun s hs => by cases hs; rfl) ⟨by simpa using h2, by simpa [l9] using hst.2.keep m2 hnb⟩)
    · have l7 : lz 7 = false := (by cases hh : lz 7 with | false => rfl | true => exact absurd (hcl 7 _ rfl hh ⟨4, .data⟩ (by simp) rfl) (by rw [hlj]; simp))
      have h1 : TwoS [b3] wq.drew (if lz 3 = true then ⟨x.A, x.c, l⟩ else if lz 0 = true then ⟨some ⟨x.b, 0, none⟩, 0, []⟩ else ⟨none, 0, []⟩) ⟨none, 0, []⟩ v := by simpa [l7, hlj] using hst.1
      exact wp_ran rfl (exec_none33 rfl) (hK { x with e := v.heap.size } _ _ (fun j' o' s' g1 g2 g3 => by
          have g4 : j' < 12 := (Array.getElem?_eq_some_iff.1 g1).1
          clear hpar hgot hdep hK
          obtain rfl | rfl | rfl | rfl | rfl | rfl | rfl | rfl | rfl | rfl | rfl | rfl : j' = 0 ∨ j' = 1 ∨ j' = 2 ∨ j' = 3 ∨ j' = 4 ∨ j' = 5 ∨ j' = 6 ∨ j' = 7 ∨ j' = 8 ∨ j' = 9 ∨ j' = 10 ∨ j' = 11 := by omega
          all_goals (cases g1; cases g3 <;> first | rfl | (rw [hlj] at g2; cases g2) | (rw [l7] at g2; cases g2))) (fun s hs => by cases hs; rfl) ⟨by simpa [l7] using h1.swap.lit.swap, by simpa using hst.2.keep (Mod.alloc [] v _) (by simp)⟩)
    · exact wp_ran rfl (exec_fg2 rfl (eval_tmp ((hpar 3 rfl).trans rfl))) (hK x _ _ (fun _ _ _ _ _ _ => rfl) (fun s hs => by cases hs; rfl) (by simpa using hst))
    · have l11 : lz 11 = false := (by cases hh : lz 11 with | false => rfl | true => exact absurd (hcl 11 _ rfl hh ⟨6, .phase⟩ (by simp) rfl) (by rw [hlj]; simp))
      exact wp_ran rfl (exec_load rfl (eval_tmp (hgot 5 _ 13 rfl (hdep ⟨5, .data⟩ (by simp) rfl) rfl)) (run_load1 Tryd.underlying33 rfl (by have := hst.2.cell 2; simpa [sgc, l11] using this))) (hK x _ _ (fun _ _ _ _ _ _ => rfl) (fun s hs => by cases hs; rfl) (by simpa using hst))
    · have l11 : lz 11 = false := (by cases hh : lz 11 with | false => rfl | true => exact absurd (hcl 11 _ rfl hh ⟨7, .data⟩ (by simp) rfl) (by rw [hlj]; simp))
      have l4 : lz 4 = true := hdep ⟨4, .data⟩ (by simp) rfl
      have h1 : TwoS [b3] wq.drew (if lz 3 = true then ⟨x.A, x.c, l⟩ else if lz 0 = true then ⟨some ⟨x.b, 0, none⟩, 0, []⟩ else ⟨none, 0, []⟩) ⟨some ⟨x.e, 0, none⟩, 0, []⟩ v := by simpa [l4, hlj] using hst.1
      have hnb : b3 ∉ blk (some ⟨x.e, 0, none⟩) := fun hh => by have := (h1.swap.2.2.2.1 _ hh).1; have := HQ.out.2.2.1; omega
      obtain ⟨A', c', v', r1, h2, m2⟩ := h1.swap.app (ρ := T.eval) (o := { dst := some 15, op := .call { callee := .builtin .append, args := #[.tmp 12, .tmp 14], argTypes := #[33, 33] }, type := 33, pos := "x", after := #[], guard := none }) (.tmp 12) (.tmp 14) rfl (eval_tmp (hgot 4 _ 12 rfl (hdep ⟨4, .data⟩ (by simp) rfl) rfl)) HQ.out.2.1 (by omega) (eval_tmp (hgot 6 _ 14 rfl (hdep ⟨6, .data⟩ (by simp) rfl) rfl)) (RB v hst.1.1)
      exact wp_ran rfl r1 (hK { x with B := A', d := c' } _ _ (fun j' o' s' g1 g2 g3 => by
          have g4 : j' < 12 := (Array.getElem?_eq_some_iff.1 g1).1
          clear hpar hgot hdep hK
          obtain rfl | rfl | rfl | rfl | rfl | rfl | rfl | rfl | rfl | rfl | rfl | rfl : j' = 0 ∨ j' = 1 ∨ j' = 2 ∨ j' = 3 ∨ j' = 4 ∨ j' = 5 ∨ j' = 6 ∨ j' = 7 ∨ j' = 8 ∨ j' = 9 ∨ j' = 10 ∨ j' = 11 := by omega
          all_goals (cases g1; cases g3 <;> first | rfl | (rw [hlj] at g2; cases g2))) (fun s hs => by cases hs; rfl) ⟨by simpa using h2.swap, by simpa [l11] using hst.2.keep m2 hnb⟩)
    · exact wp_ran rfl (exec_fg1 rfl (eval_tmp ((hpar 3 rfl).trans rfl))) (hK x _ _ (fun _ _ _ _ _ _ => rfl) (fun s hs => by cases hs; rfl) (by simpa using hst))
    · have a3 : lz 3 = true := hdep ⟨3, .data⟩ (by simp) rfl
      refine wp_sg (k := 1) (t := 50) (cs := sgc i (if lz 9 = true then x.A else A) 67 (if lz 9 = true then x.c else c) (if lz 11 = true then x.B else B) 3 (if lz 11 = true then x.d else d)) (u := .slice x.A 67 x.c) rfl rfl (eval_tmp (hgot 8 _ 16 rfl (hdep ⟨8, .data⟩ (by simp) rfl) rfl)) (eval_tmp (hgot 3 _ 11 rfl (hdep ⟨3, .data⟩ (by simp) rfl) rfl)) rfl one33 hst.2 (by simp [sgc]) (fun v' q1 q2 => hK x undef _ (fun _ _ _ _ _ _ => rfl) (fun s hs => by cases hs) ⟨by simpa using hst.1.turn q2 (by simp) HQ.out.2.2.2, by simpa [hlj, sgc] using q1⟩)
    · exact wp_ran rfl (exec_fg2 rfl (eval_tmp ((hpar 3 rfl).trans rfl))) (hK x _ _ (fun _ _ _ _ _ _ => rfl) (fun s hs => by cases hs; rfl) (by simpa using hst))
    · have a7 : lz 7 = true := hdep ⟨7, .data⟩ (by simp) rfl
      refine wp_sg (k := 2) (t := 50) (cs := sgc i (if lz 9 = true then x.A else A) 67 (if lz 9 = true then x.c else c) (if lz 11 = true then x.B else B) 3 (if lz 11 = true then x.d else d)) (u := .slice x.B 3 x.d) rfl rfl (eval_tmp (hgot 10 _ 17 rfl (hdep ⟨10, .data⟩ (by simp) rfl) rfl)) (eval_tmp (hgot 7 _ 15 rfl (hdep ⟨7, .data⟩ (by simp) rfl) rfl)) rfl one33 hst.2 (by simp [sgc]) (fun v' q1 q2 => hK x undef _ (fun _ _ _ _ _ _ => rfl) (fun s hs => by cases hs) ⟨by simpa using hst.1.turn q2 (by simp) HQ.out.2.2.2, by simpa [hlj, sgc] using q1⟩)
  case fin =>
  intro x lz vr hlz hst
  have h1 : TwoS [b3] wq.drew ⟨x.A, x.c, l⟩ ⟨x.B, x.d, r⟩ vr := by simpa [hlz 3 (by decide), hlz 7 (by decide)] using hst.1
  have h3 : Holds vr b3 50 (sgc i x.A 67 x.c x.B 3 x.d) := by simpa [hlz 9 (by decide), hlz 11 (by decide)] using hst.2
  have mm := FM vr h1.1
  have h4 : Holds vr b4 23 (ic m0) := k4.keep h1.1 (by simp; have := HB.out; omega)
  have h5 : Holds vr b5 57 (tuc ⟨tk, ta, ty⟩) := k5.keep h1.1 (by simp; have := HB.out; omega)
  have h6 : Holds vr b6 50 (sgc 0 none 0 0 none 0 0) := k6.keep h1.1 (by simp; have := HB.out; omega)
  have h7 : Holds vr b7 23 (ic zeroI) := k7.keep h1.1 (by simp; have := HB.out; omega)
  have O1 : OwnG ic 23 32 vr x.A x.c l := h1.2.1
  have P1 : OwnG ic 23 32 vr x.B x.d r := h1.2.2.1
  have n1 : ∀ j ∈ blk x.A, b7 < j ∧ j ∉ blk x.B := fun j hj => by have := h1.2.2.2.1 j hj; exact ⟨Nat.lt_of_lt_of_le HB.out.2.2.2.2.1 (Nat.le_trans (Nat.le_of_eq rfl) this.1), this.2⟩
  have n2 : ∀ j ∈ blk x.B, b7 < j := fun j hj => Nat.lt_of_lt_of_le HB.out.2.2.2.2.1 (h1.2.2.2.2 j hj)
  clear hst hlz h1 k3 k4 k5 k6 k7 RA RB FM
  obtain ⟨xb, A1, c1, xe, B1, d1⟩ := x
  simp only at h3 O1 P1 n1 n2
  simp only [Act.put, setAll, List.setIfInBounds_toArray, List.foldl_cons, List.foldl_nil, List.set_cons_succ, List.set_cons_zero]
  have e0 := tu_k h5
  have e1 := tu_a h5
  simp only at e0 e1
  have f0 := h3.free 0
  have e3 := h3.cell 0
  simp only [sgc, List.getElem?_cons_zero] at e3
  go_wp2_with (first
    | (with_reducible refine wpList_ranW (o := ⟨some 20, .convert _ _ _, _, _, _, _⟩) (by with_unfolding_all rfl) (.int .u64 u) _ (exec_conv1 HU.out.1 rfl rfl) ?_)
    | (with_reducible refine wpList_ranW (o := ⟨some 21, .binOp .rem _ _ _ _, _, _, _, _⟩) (by with_unfolding_all rfl) (.int .u64 0) _ (exec_remZ HU.out.2.1 (by decide) HU.out.2.2.1 rfl rfl rfl) ?_))
  have q3 := h3.set 0 (.int .i64 ta)
  have qm : Mod [b3] vr (vr.setCell ⟨b3, 0, none⟩ (.int .i64 ta)) := Mod.setCell _ (by simp) _
  replace h3 : Holds (vr.setCell ⟨b3, 0, none⟩ (.int .i64 ta)) b3 50 (sgc ta A1 67 c1 B1 3 d1) := q3
  replace h4 := h4.keep qm (by simp; have := HB.out; omega)
  replace h6 := h6.keep qm (by simp; have := HB.out; omega)
  replace h7 := h7.keep qm (by simp; have := HB.out; omega)
  replace O1 := (O1.keep qm (fun a ha hm => by have := (n1 a.block (by simp [blk, ha])).1; have := HB.out; simp at hm; omega)).cells
  replace P1 := (P1.keep qm (fun a ha hm => by have := n2 a.block (by simp [blk, ha]); have := HB.out; simp at hm; omega)).cells
  replace mm := far_mod mm qm (fun i hi => by simp at hi; have := HB.out; omega)
  have nA : ∀ a, A1 = some a → a.block ∉ [b6, b7] := fun a ha => by have := (n1 a.block (by simp [blk, ha])).1; have := HB.out; simp; omega
  have nB : ∀ a, B1 = some a → a.block ∉ [b6, b7] := fun a ha => by have := n2 a.block (by simp [blk, ha]); have := HB.out; simp; omega
  clear q3 qm f0 e3
  obtain ⟨wz, hwz⟩ : ∃ v, v = (vr.setCell ⟨b3, 0, none⟩ (.int .i64 ta)) := ⟨_, rfl⟩
  rw [← hwz] at h3 h4 h6 h7 O1 P1 mm ⊢
  clear hwz
  replace h3 := h3.keep (Mod.drew [] wz) (by simp)
  replace h4 := h4.keep (Mod.drew [] wz) (by simp)
  replace h6 := h6.keep (Mod.drew [] wz) (by simp)
  replace h7 := h7.keep (Mod.drew [] wz) (by simp)
  refine wp_region_ups [(101, .agg (sgc ta A1 67 c1 B1 3 d1).toArray), (102, iv m0)] 103 [101, 102] rfl rfl (by decide) (by kernel_rfl) (fun lz v => Mod [b6, b7] wz.drew v ∧ Holds v b6 50 (if lz 2 = true then sgc ta A1 67 c1 B1 3 d1 else sgc 0 none 0 0 none 0 0) ∧ Holds v b7 23 (if lz 3 = true then ic m0 else ic zeroI)) (by kernel_rfl) ⟨Mod.refl _ _, by simpa using h6, by simpa using h7⟩ (by kernel_rfl) (by kernel_rfl) ?step ?fin
  case step =>
    intro lz T v j o hj hlj hdep hst hpar hgot hcl Kq hK
    have hjn : j < 4 := (Array.getElem?_eq_some_iff.1 hj).1
    obtain rfl | rfl | rfl | rfl : j = 0 ∨ j = 1 ∨ j = 2 ∨ j = 3 := by omega
    all_goals (have hj' := Option.some.inj (hj : some _ = some o); subst hj'; clear hj)
    · exact wp_ran rfl (exec_load rfl (eval_tmp ((hpar 3 rfl).trans rfl)) (run_loads (Cells.of_holds (h3.keep hst.1 (by simp; have := HB.out; omega))) Tryd.underlying50 rfl (size50s _ _ _ _ _ _ _))) (hK _ _ (fun s hs => by cases hs; rfl) (by simpa using hst))
    · exact wp_ran rfl (exec_load rfl (eval_tmp ((hpar 4 rfl).trans rfl)) (run_loads (Cells.of_holds (h4.keep hst.1 (by simp; have := HB.out; omega))) Tryd.underlying23 rfl (size25i m0))) (hK _ _ (fun s hs => by cases hs; rfl) (by simpa using hst))
    · have hp := hst.2.1
      rw [if_neg (by rw [hlj]; simp)] at hp
      refine wp_stored (ty := 50) (V := .agg (sgc ta A1 67 c1 B1 3 d1).toArray) (cs := sgc ta A1 67 c1 B1 3 d1) rfl rfl (eval_tmp ((hpar 6 rfl).trans rfl)) (eval_tmp (hgot 0 _ 101 rfl (hdep ⟨0, .data⟩ (by simp) rfl) rfl)) rfl hp rfl (sgc_one _ _ _ _ _ _ _) (size50s _ _ _ _ _ _ _) (fun v' q1 q2 => hK undef _ (fun s hs => by cases hs) ⟨hst.1.trans q2 (fun i _ hi => by simp at hi ⊢; exact .inl hi), by simpa using q1, by simpa using hst.2.2.keep q2 (by simp; have := HB.out; omega)⟩)
    · have hp := hst.2.2
      rw [if_neg (by rw [hlj]; simp)] at hp
      refine wp_stored (ty := 23) (V := iv m0) (cs := ic m0) rfl rfl (eval_tmp ((hpar 7 rfl).trans rfl)) (eval_tmp (hgot 1 _ 102 rfl (hdep ⟨1, .data⟩ (by simp) rfl) rfl)) rfl hp (by rw [ic_length, ic_length]) (ic_one m0) (size25i m0) (fun v' q1 q2 => hK undef _ (fun s hs => by cases hs) ⟨hst.1.trans q2 (fun i _ hi => by simp at hi ⊢; exact .inr hi), by simpa using hst.2.1.keep q2 (by simp; have := HB.out; omega), by simpa using q1⟩)
  case fin =>
  intro lz vz hlz hst
  obtain ⟨s1, s2, s3⟩ := hst
  rw [if_pos (hlz 2 (by decide))] at s2
  rw [if_pos (hlz 3 (by decide))] at s3
  have mz : Mod [] w vz := far_mod (mm.then (Mod.drew [] wz)) s1 (fun i hi => by simp at hi; have := HB.out; omega)
  replace O1 := (O1.keep (Mod.drew [] wz) (by simp)).keep s1 (fun a ha => nA a ha)
  replace P1 := (P1.keep (Mod.drew [] wz) (by simp)).keep s1 (fun a ha => nB a ha)
  simp only [Act.put, setAll, List.setIfInBounds_toArray, List.foldl_cons, List.foldl_nil, List.set_cons_succ, List.set_cons_zero]
  go_wp2_with fail
  refine bodyPost_ret (results_cells rfl _ _ b6 b7 (sgc ta A1 67 c1 B1 3 d1) (ic m0) _ _ rfl rfl (Cells.of_holds s2) (Cells.of_holds s3) Tryd.underlying50 rfl (size50s _ _ _ _ _ _ _) Tryd.underlying23 rfl (size25i m0)) rfl ?_
  exact ⟨_, _, _, _, l, _, _, _, r, _, rfl, by simp [HL.out.1], by simp [HL.out.2], O1, P1, mz⟩
set_option maxRecDepth 100000 in
set_option maxHeartbeats 4000000 in
theorem turned_1 (i : Int) (A : Option Addr) (c : Nat) (l : List Idv) (hl : l.length = 67) (B : Option Addr) (d : Nat) (r : List Idv) (hr : r.length = 3) (m0 : Idv) (t : Tur) (hk : t.k % 18446744073709551616 % 6 = 1) (w : World) (RA : Cells w A (l.flatMap ic)) (RB : Cells w B (r.flatMap ic)) :
    Calls Tryd.prog 27 #[.agg (sgc i A 67 c B 3 d).toArray, iv m0, .agg (tuc t).toArray] w (TurnedR w) := by
  obtain ⟨tk, ta, ty⟩ := t
  obtain ⟨u, hu⟩ : ∃ u : Int, u = tk % 18446744073709551616 := ⟨_, rfl⟩
  obtain ⟨ua, hua⟩ : ∃ u : Int, u = ta % 18446744073709551616 := ⟨_, rfl⟩
  have HU : Hid (u = tk % 18446744073709551616 ∧ 0 ≤ u ∧ (1 : Int) = u % 6 ∧ ua = ta % 18446744073709551616 ∧ 0 ≤ ua) := Lib.hid ⟨hu, by omega, by simp only at hk; omega, hua, by omega⟩
  have HR := Lib.hid (And.intro RA RB)
  have HL := Lib.hid (And.intro hl hr)
  clear hk RA RB hl hr hu hua
  go_enter Tryd.func27, Tryd.ntmps27
  go_wp2_with (first
    | (with_reducible refine wpList_boxes (o := ⟨some 3, .box 50 (.tmp 0), _, _, _, _⟩) rfl 50 (.tmp 0) rfl _ rfl (sgc i A 67 c B 3 d) rfl ?_; intro w1 h3 m1 z1; replace z1 := Lib.hid z1)
    | (with_reducible refine wpList_boxes (o := ⟨some 4, .box 23 (.tmp 1), _, _, _, _⟩) rfl 23 (.tmp 1) rfl _ rfl (ic m0) rfl ?_; intro w2 h4 m2 z2; replace z2 := Lib.hid z2)
    | (with_reducible refine wpList_boxes (o := ⟨some 5, .box 57 (.tmp 2), _, _, _, _⟩) rfl 57 (.tmp 2) rfl _ rfl (tuc ⟨tk, ta, ty⟩) rfl ?_; intro w3 h5 m3 z3; replace z3 := Lib.hid z3)
    | (with_reducible refine wpList_allocs (o := ⟨some 6, .alloc 50, _, _, _, _⟩) rfl 50 rfl _ zero50 ?_; intro w4 h6 m4 z4; replace z4 := Lib.hid z4)
    | (with_reducible refine wpList_allocs (o := ⟨some 7, .alloc 23, _, _, _, _⟩) rfl 23 rfl _ zeroI_25 ?_; intro w5 h7 m5 z5
       obtain ⟨b3, hq3⟩ : ∃ q, q = w.heap.size := ⟨_, rfl⟩
       obtain ⟨b4, hq4⟩ : ∃ q, q = w1.heap.size := ⟨_, rfl⟩
       obtain ⟨b5, hq5⟩ : ∃ q, q = w2.heap.size := ⟨_, rfl⟩
       obtain ⟨b6, hq6⟩ : ∃ q, q = w3.heap.size := ⟨_, rfl⟩
       obtain ⟨b7, hq7⟩ : ∃ q, q = w4.heap.size := ⟨_, rfl⟩
       have HB : Hid (b3 < b4 ∧ b4 < b5 ∧ b5 < b6 ∧ b6 < b7 ∧ b7 < w5.heap.size ∧ w.heap.size = b3) := Lib.hid (by have := z1.out; have := z2.out; have := z3.out; have := z4.out; omega)
       rw [← hq3, ← hq4, ← hq5, ← hq6, ← hq7]
       have k3 : Holds w5 b3 50 (sgc i A 67 c B 3 d) := by rw [hq3]; exact (((h3.keep m2 (by simp)).keep m3 (by simp)).keep m4 (by simp)).keep m5 (by simp)
       have k4 : Holds w5 b4 23 (ic m0) := by rw [hq4]; exact ((h4.keep m3 (by simp)).keep m4 (by simp)).keep m5 (by simp)
       have k5 : Holds w5 b5 57 (tuc ⟨tk, ta, ty⟩) := by rw [hq5]; exact (h5.keep m4 (by simp)).keep m5 (by simp)
       have k6 : Holds w5 b6 50 (sgc 0 none 0 0 none 0 0) := by rw [hq6]; exact h6.keep m5 (by simp)
       have k7 : Holds w5 b7 23 (ic zeroI) := by rw [hq7]; exact h7
       have mm := (((m1.then m2).then m3).then m4).then m5
       clear h3 h4 h5 h6 h7 m1 m2 m3 m4 m5 z1 z2 z3 z4 z5 hq3 hq4 hq5 hq6 hq7))
  obtain ⟨wq, hwq⟩ : ∃ v, v = w5 := ⟨_, rfl⟩
  rw [← hwq] at k3 k4 k5 k6 k7 mm HB ⊢
  clear hwq
  replace k3 := k3.keep (Mod.drew [] wq) (by simp)
  replace k4 := k4.keep (Mod.drew [] wq) (by simp)
  replace k5 := k5.keep (Mod.drew [] wq) (by simp)
  replace k6 := k6.keep (Mod.drew [] wq) (by simp)
  replace k7 := k7.keep (Mod.drew [] wq) (by simp)
  have FM : ∀ v, Mod [b3] wq.drew v → Mod [] w v := fun v h => far_mod (mm.then (Mod.drew [] wq)) h (fun i hi => by simp at hi; have := HB.out; omega)
  have RA : ∀ v, Mod [b3] wq.drew v → Cells v A (l.flatMap ic) := fun v h => HR.out.1.keep (FM v h) (by simp)
  have RB : ∀ v, Mod [b3] wq.drew v → Cells v B (r.flatMap ic) := fun v h => HR.out.2.keep (FM v h) (by simp)
  have HQ : Hid (67 = l.length ∧ 3 = r.length ∧ b3 < wq.drew.heap.size ∧ b3 < wq.drew.heap.size) := Lib.hid ⟨HL.out.1.symm, HL.out.2.symm, by have := HB.out; exact Nat.lt_trans (by omega) HB.out.2.2.2.2.1, by have := HB.out; exact Nat.lt_trans (by omega) HB.out.2.2.2.2.1⟩
  clear mm
  refine wp_region_upx (X := XT) ⟨0, none, 0, 0, none, 0⟩ (fun x => [(8, .slice (some ⟨x.b, 0, none⟩) 0 0), (9, .pointer (some ⟨b3, 1, none⟩)), (10, .slice A 67 c), (11, .slice x.A 67 x.c), (12, .slice (some ⟨x.e, 0, none⟩) 0 0), (13, .pointer (some ⟨b3, 2, none⟩)), (14, .slice B 3 d), (15, .slice x.B 3 x.d), (16, .pointer (some ⟨b3, 1, none⟩)), (17, .pointer (some ⟨b3, 2, none⟩))]) 103 [8, 9, 10, 11, 12, 13, 14, 15, 16, 17] rfl (fun _ => rfl) (by decide) (by kernel_rfl) (fun x lz v => TwoS [b3] wq.drew (if lz 3 = true then ⟨x.A, x.c, l⟩ else if lz 0 = true then ⟨some ⟨x.b, 0, none⟩, 0, []⟩ else ⟨none, 0, []⟩) (if lz 7 = true then ⟨x.B, x.d, r⟩ else if lz 4 = true then ⟨some ⟨x.e, 0, none⟩, 0, []⟩ else ⟨none, 0, []⟩) v ∧ Holds v b3 50 (sgc i (if lz 9 = true then x.A else A) 67 (if lz 9 = true then x.c else c) (if lz 11 = true then x.B else B) 3 (if lz 11 = true then x.d else d))) (by kernel_rfl) ⟨TwoS.start _ (Mod.refl _ _), by simpa using k3⟩ (by kernel_rfl) (by kernel_rfl) ?step ?fin
  case step =>
    intro x lz T v j o hj hlj hdep hst hpar hgot hcl Kq hK
    have hjn : j < 12 := (Array.getElem?_eq_some_iff.1 hj).1
    obtain rfl | rfl | rfl | rfl | rfl | rfl | rfl | rfl | rfl | rfl | rfl | rfl : j = 0 ∨ j = 1 ∨ j = 2 ∨ j = 3 ∨ j = 4 ∨ j = 5 ∨ j = 6 ∨ j = 7 ∨ j = 8 ∨ j = 9 ∨ j = 10 ∨ j = 11 := by omega
    all_goals (have hj' := Option.some.inj (hj : some _ = some o); subst hj'; clear hj)
    · have l3 : lz 3 = false := (by cases hh : lz 3 with | false => rfl | true => exact absurd (hcl 3 _ rfl hh ⟨0, .data⟩ (by simp) rfl) (by rw [hlj]; simp))
      have h1 : TwoS [b3] wq.drew ⟨none, 0, []⟩ (if lz 7 = true then ⟨x.B, x.d, r⟩ else if lz 4 = true then ⟨some ⟨x.e, 0, none⟩, 0, []⟩ else ⟨none, 0, []⟩) v := by simpa [l3, hlj] using hst.1
      exact wp_ran rfl (exec_none33 rfl) (hK { x with b := v.heap.size } _ _ (fun j' o' s' g1 g2 g3 => by
          have g4 : j' < 12 := (Array.getElem?_eq_some_iff.1 g1).1
          clear hpar hgot hdep hK
          obtain rfl | rfl | rfl | rfl | rfl | rfl | rfl | rfl | rfl | rfl | rfl | rfl : j' = 0 ∨ j' = 1 ∨ j' = 2 ∨ j' = 3 ∨ j' = 4 ∨ j' = 5 ∨ j' = 6 ∨ j' = 7 ∨ j' = 8 ∨ j' = 9 ∨ j' = 10 ∨ j' = 11 := by omega
          all_goals (cases g1; cases g3 <;> first | rfl | (rw [hlj] at g2; cases g2) | (rw [l3] at g2; cases g2))) (fun s hs => by cases hs; rfl) ⟨by simpa [l3] using h1.lit, by simpa using hst.2.keep (Mod.alloc [] v _) (by simp)⟩)
    · exact wp_ran rfl (exec_fg1 rfl (eval_tmp ((hpar 3 rfl).trans rfl))) (hK x _ _ (fun _ _ _ _ _ _ => rfl) (fun s hs => by cases hs; rfl) (by simpa using hst))
    · have l9 : lz 9 = false := (by cases hh : lz 9 with | false => rfl | true => exact absurd (hcl 9 _ rfl hh ⟨2, .phase⟩ (by simp) rfl) (by rw [hlj]; simp))
      exact wp_ran rfl (exec_load rfl (eval_tmp (hgot 1 _ 9 rfl (hdep ⟨1, .data⟩ (by simp) rfl) rfl)) (run_load1 Tryd.underlying33 rfl (by have := hst.2.cell 1; simpa [sgc, l9] using this))) (hK x _ _ (fun _ _ _ _ _ _ => rfl) (fun s hs => by cases hs; rfl) (by simpa using hst))
    · have l9 : lz 9 = false := (by cases hh : lz 9 with | false => rfl | true => exact absurd (hcl 9 _ rfl hh ⟨3, .data⟩ (by simp) rfl) (by rw [hlj]; simp))
      have l0 : lz 0 = true := hdep ⟨0, .data⟩ (by simp) rfl
      have h1 : TwoS [b3] wq.drew ⟨some ⟨x.b, 0, none⟩, 0, []⟩ (if lz 7 = true then ⟨x.B, x.d, r⟩ else if lz 4 = true then ⟨some ⟨x.e, 0, none⟩, 0, []⟩ else ⟨none, 0, []⟩) v := by simpa [l0, hlj] using hst.1
      have hnb : b3 ∉ blk (some ⟨x.b, 0, none⟩) := fun hh => by have := (h1.2.2.2.1 _ hh).1; have := HQ.out.2.2.1; omega
      obtain ⟨A', c', v', r1, h2, m2⟩ := h1.app (ρ := T.eval) (o := { dst := some 11, op := .call { callee := .builtin .append, args := #[.tmp 8, .tmp 10], argTypes := #[33, 33] }, type := 33, pos := "x", after := #[], guard := none }) (.tmp 8) (.tmp 10) rfl (eval_tmp (hgot 0 _ 8 rfl (hdep ⟨0, .data⟩ (by simp) rfl) rfl)) HQ.out.1 (by omega) (eval_tmp (hgot 2 _ 10 rfl (hdep ⟨2, .data⟩ (by simp) rfl) rfl)) (RA v hst.1.1)
      exact wp_ran rfl r1 (hK { x with A := A', c := c' } _ _ (fun j' o' s' g1 g2 g3 => by
          have g4 : j' < 12 := (Array.getElem?_eq_some_iff.1 g1).1
          clear hpar hgot hdep hK
          obtain rfl | rfl | rfl | rfl | rfl | rfl | rfl | rfl | rfl | rfl | rfl | rfl : j' = 0 ∨ j' = 1 ∨ j' = 2 ∨ j' = 3 ∨ j' = 4 ∨ j' = 5 ∨ j' = 6 ∨ j' = 7 ∨ j' = 8 ∨ j' = 9 ∨ j' = 10 ∨ j' = 11 := by omega
          all_goals (cases g1; cases g3 <;> first | rfl | (rw [hlj] at g2; cases g2))) (fun s hs => by cases hs; rfl) ⟨by simpa using h2, by simpa [l9] using hst.2.keep m2 hnb⟩)
    · have l7 : lz 7 = false := (by cases hh : lz 7 with | false => rfl | true => exact absurd (hcl 7 _ rfl hh ⟨4, .data⟩ (by simp) rfl) (by rw [hlj]; simp))
      have h1 : TwoS [b3] wq.drew (if lz 3 = true then ⟨x.A, x.c, l⟩ else if lz 0 = true then ⟨some ⟨x.b, 0, none⟩, 0, []⟩ else ⟨none, 0, []⟩) ⟨none, 0, []⟩ v := by simpa [l7, hlj] using hst.1
      exact wp_ran rfl (exec_none33 rfl) (hK { x with e := v.heap.size } _ _ (fun j' o' s' g1 g2 g3 => by
          have g4 : j' < 12 := (Array.getElem?_eq_some_iff.1 g1).1
          clear hpar hgot hdep hK
          obtain rfl | rfl | rfl | rfl | rfl | rfl | rfl | rfl | rfl | rfl | rfl | rfl : j' = 0 ∨ j' = 1 ∨ j' = 2 ∨ j' = 3 ∨ j' = 4 ∨ j' = 5 ∨ j' = 6 ∨ j' = 7 ∨ j' = 8 ∨ j' = 9 ∨ j' = 10 ∨ j' = 11 := by omega
          all_goals (cases g1; cases g3 <;> first | rfl | (rw [hlj] at g2; cases g2) | (rw [l7] at g2; cases g2))) (fun s hs => by cases hs; rfl) ⟨by simpa [l7] using h1.swap.lit.swap, by simpa using hst.2.keep (Mod.alloc [] v _) (by simp)⟩)
    · exact wp_ran rfl (exec_fg2 rfl (eval_tmp ((hpar 3 rfl).trans rfl))) (hK x _ _ (fun _ _ _ _ _ _ => rfl) (fun s hs => by cases hs; rfl) (by simpa using hst))
    · have l11 : lz 11 = false := (by cases hh : lz 11 with | false => rfl | true => exact absurd (hcl 11 _ rfl hh ⟨6, .phase⟩ (by simp) rfl) (by rw [hlj]; simp))
      exact wp_ran rfl (exec_load rfl (eval_tmp (hgot 5 _ 13 rfl (hdep ⟨5, .data⟩ (by simp) rfl) rfl)) (run_load1 Tryd.underlying33 rfl (by have := hst.2.cell 2; simpa [sgc, l11] using this))) (hK x _ _ (fun _ _ _ _ _ _ => rfl) (fun s hs => by cases hs; rfl) (by simpa using hst))
    · have l11 : lz 11 = false := (by cases hh : lz 11 with | false => rfl | true => exact absurd (hcl 11 _ rfl hh ⟨7, .data⟩ (by simp) rfl) (by rw [hlj]; simp))
      have l4 : lz 4 = true := hdep ⟨4, .data⟩ (by simp) rfl
      have h1 : TwoS [b3] wq.drew (if lz 3 = true then ⟨x.A, x.c, l⟩ else if lz 0 = true then ⟨some ⟨x.b, 0, none⟩, 0, []⟩ else ⟨none, 0, []⟩) ⟨some ⟨x.e, 0, none⟩, 0, []⟩ v := by simpa [l4, hlj] using hst.1
      have hnb : b3 ∉ blk (some ⟨x.e, 0, none⟩) := fun hh => by have := (h1.swap.2.2.2.1 _ hh).1; have := HQ.out.2.2.1; omega
      obtain ⟨A', c', v', r1, h2, m2⟩ := h1.swap.app (ρ := T.eval) (o := { dst := some 15, op := .call { callee := .builtin .append, args := #[.tmp 12, .tmp 14], argTypes := #[33, 33] }, type := 33, pos := "x", after := #[], guard := none }) (.tmp 12) (.tmp 14) rfl (eval_tmp (hgot 4 _ 12 rfl (hdep ⟨4, .data⟩ (by simp) rfl) rfl)) HQ.out.2.1 (by omega) (eval_tmp (hgot 6 _ 14 rfl (hdep ⟨6, .data⟩ (by simp) rfl) rfl)) (RB v hst.1.1)
      exact wp_ran rfl r1 (hK { x with B := A', d := c' } _ _ (fun j' o' s' g1 g2 g3 => by
          have g4 : j' < 12 := (Array.getElem?_eq_some_iff.1 g1).1
          clear hpar hgot hdep hK
          obtain rfl | rfl | rfl | rfl | rfl | rfl | rfl | rfl | rfl | rfl | rfl | rfl : j' = 0 ∨ j' = 1 ∨ j' = 2 ∨ j' = 3 ∨ j' = 4 ∨ j' = 5 ∨ j' = 6 ∨ j' = 7 ∨ j' = 8 ∨ j' = 9 ∨ j' = 10 ∨ j' = 11 := by omega
          all_goals (cases g1; cases g3 <;> first | rfl | (rw [hlj] at g2; cases g2))) (fun s hs => by cases hs; rfl) ⟨by simpa using h2.swap, by simpa [l11] using hst.2.keep m2 hnb⟩)
    · exact wp_ran rfl (exec_fg1 rfl (eval_tmp ((hpar 3 rfl).trans rfl))) (hK x _ _ (fun _ _ _ _ _ _ => rfl) (fun s hs => by cases hs; rfl) (by simpa using hst))
    · have a3 : lz 3 = true := hdep ⟨3, .data⟩ (by simp) rfl
      refine wp_sg (k := 1) (t := 50) (cs := sgc i (if lz 9 = true then x.A else A) 67 (if lz 9 = true then x.c else c) (if lz 11 = true then x.B else B) 3 (if lz 11 = true then x.d else d)) (u := .slice x.A 67 x.c) rfl rfl (eval_tmp (hgot 8 _ 16 rfl (hdep ⟨8, .data⟩ (by simp) rfl) rfl)) (eval_tmp (hgot 3 _ 11 rfl (hdep ⟨3, .data⟩ (by simp) rfl) rfl)) rfl one33 hst.2 (by simp [sgc]) (fun v' q1 q2 => hK x undef _ (fun _ _ _ _ _ _ => rfl) (fun s hs => by cases hs) ⟨by simpa using hst.1.turn q2 (by simp) HQ.out.2.2.2, by simpa [hlj, sgc] using q1⟩)
    · exact wp_ran rfl (exec_fg2 rfl (eval_tmp ((hpar 3 rfl).trans rfl))) (hK x _ _ (fun _ _ _ _ _ _ => rfl) (fun s hs => by cases hs; rfl) (by simpa using hst))
    · have a7 : lz 7 = true := hdep ⟨7, .data⟩ (by simp) rfl
      refine wp_sg (k := 2) (t := 50) (cs := sgc i (if lz 9 = true then x.A else A) 67 (if lz 9 = true then x.c else c) (if lz 11 = true then x.B else B) 3 (if lz 11 = true then x.d else d)) (u := .slice x.B 3 x.d) rfl rfl (eval_tmp (hgot 10 _ 17 rfl (hdep ⟨10, .data⟩ (by simp) rfl) rfl)) (eval_tmp (hgot 7 _ 15 rfl (hdep ⟨7, .data⟩ (by simp) rfl) rfl)) rfl one33 hst.2 (by simp [sgc]) (fun v' q1 q2 => hK x undef _ (fun _ _ _ _ _ _ => rfl) (fun s hs => by cases hs) ⟨by simpa using hst.1.turn q2 (by simp) HQ.out.2.2.2, by simpa [hlj, sgc] using q1⟩)
  case fin =>
  intro x lz vr hlz hst
  have h1 : TwoS [b3] wq.drew ⟨x.A, x.c, l⟩ ⟨x.B, x.d, r⟩ vr := by simpa [hlz 3 (by decide), hlz 7 (by decide)] using hst.1
  have h3 : Holds vr b3 50 (sgc i x.A 67 x.c x.B 3 x.d) := by simpa [hlz 9 (by decide), hlz 11 (by decide)] using hst.2
  have mm := FM vr h1.1
  have h4 : Holds vr b4 23 (ic m0) := k4.keep h1.1 (by simp; have := HB.out; omega)
  have h5 : Holds vr b5 57 (tuc ⟨tk, ta, ty⟩) := k5.keep h1.1 (by simp; have := HB.out; omega)
  have h6 : Holds vr b6 50 (sgc 0 none 0 0 none 0 0) := k6.keep h1.1 (by simp; have := HB.out; omega)
  have h7 : Holds vr b7 23 (ic zeroI) := k7.keep h1.1 (by simp; have := HB.out; omega)
  have O1 : OwnG ic 23 32 vr x.A x.c l := h1.2.1
  have P1 : OwnG ic 23 32 vr x.B x.d r := h1.2.2.1
  have n1 : ∀ j ∈ blk x.A, b7 < j ∧ j ∉ blk x.B := fun j hj => by have := h1.2.2.2.1 j hj; exact ⟨Nat.lt_of_lt_of_le HB.out.2.2.2.2.1 (Nat.le_trans (Nat.le_of_eq rfl) this.1), this.2⟩
  have n2 : ∀ j ∈ blk x.B, b7 < j := fun j hj => Nat.lt_of_lt_of_le HB.out.2.2.2.2.1 (h1.2.2.2.2 j hj)
  clear hst hlz h1 k3 k4 k5 k6 k7 RA RB FM
  obtain ⟨xb, A1, c1, xe, B1, d1⟩ := x
  simp only at h3 O1 P1 n1 n2
  simp only [Act.put, setAll, List.setIfInBounds_toArray, List.foldl_cons, List.foldl_nil, List.set_cons_succ, List.set_cons_zero]
  have e0 := tu_k h5
  have e1 := tu_a h5
  simp only at e0 e1
  obtain ⟨q, hq⟩ : ∃ q : Nat, (q : Int) = ua % 67 := ⟨(ua % 67).toNat, by have := HU.out; omega⟩
  have HQ2 : Hid ((q : Int) = ua % ((67 : Nat) : Int) ∧ q < 67) := Lib.hid ⟨hq, by omega⟩
  clear hq
  obtain ⟨g, hg⟩ := own_form O1 (by have := HL.out; omega)
  subst hg
  go_wp2_with (first
    | (with_reducible refine wpList_ranW (o := ⟨some 20, .convert _ _ _, _, _, _, _⟩) (by with_unfolding_all rfl) (.int .u64 u) _ (exec_conv1 HU.out.1 rfl rfl) ?_)
    | (with_reducible refine wpList_ranW (o := ⟨some 21, .binOp .rem _ _ _ _, _, _, _, _⟩) (by with_unfolding_all rfl) (.int .u64 1) _ (exec_remZ HU.out.2.1 (by decide) HU.out.2.2.1 rfl rfl rfl) ?_))
  obtain ⟨wq2, hwq2⟩ : ∃ v, v = vr := ⟨_, rfl⟩
  rw [← hwq2] at h3 h4 h5 h6 h7 O1 P1 mm ⊢
  clear hwq2 e0 e1
  replace h3 := h3.keep (Mod.drew [] wq2) (by simp)
  replace h4 := h4.keep (Mod.drew [] wq2) (by simp)
  replace h5 := h5.keep (Mod.drew [] wq2) (by simp)
  replace h6 := h6.keep (Mod.drew [] wq2) (by simp)
  replace h7 := h7.keep (Mod.drew [] wq2) (by simp)
  replace O1 := O1.keep (Mod.drew [] wq2) (by simp)
  replace P1 := P1.keep (Mod.drew [] wq2) (by simp)
  replace mm := mm.then (Mod.drew [] wq2)
  have gb : b7 < g := (n1 g (by simp [blk])).1
  refine wp_region_ups [(31, .pointer (some ⟨b3, 1, none⟩)), (32, .slice (some ⟨g, 0, none⟩) 67 c1), (33, .pointer (some ⟨b5, 1, none⟩)), (34, .int .i64 ta), (35, .int .u64 ua), (36, .pointer (some ⟨b3, 1, none⟩)), (37, .slice (some ⟨g, 0, none⟩) 67 c1), (38, .int .i64 67), (39, .int .u64 67), (40, .int .u64 (q : Int)), (41, .pointer (some ⟨b5, 2, none⟩)), (42, iv ty), (43, .pointer (some ⟨g, 0 + q * 32, none⟩))] 103 [31, 32, 33, 34, 35, 36, 37, 38, 39, 40, 41, 42, 43] rfl rfl (by decide) (by kernel_rfl) (fun lz v => Mod [g] wq2.drew v ∧ OwnG ic 23 32 v (some ⟨g, 0, none⟩) c1 (if lz 13 = true then l.set q ty else l)) (by kernel_rfl) ⟨Mod.refl _ _, by simpa using O1⟩ (by kernel_rfl) (by kernel_rfl) ?step ?fin
  case step =>
    intro lz T v j o hj hlj hdep hst hpar hgot hcl Kq hK
    have hjn : j < 14 := (Array.getElem?_eq_some_iff.1 hj).1
    obtain rfl | rfl | rfl | rfl | rfl | rfl | rfl | rfl | rfl | rfl | rfl | rfl | rfl | rfl : j = 0 ∨ j = 1 ∨ j = 2 ∨ j = 3 ∨ j = 4 ∨ j = 5 ∨ j = 6 ∨ j = 7 ∨ j = 8 ∨ j = 9 ∨ j = 10 ∨ j = 11 ∨ j = 12 ∨ j = 13 := by omega
    all_goals (have hj' := Option.some.inj (hj : some _ = some o); subst hj'; clear hj)
    · exact wp_ran rfl (exec_fg1 rfl (eval_tmp ((hpar 3 rfl).trans rfl))) (hK _ _ (fun s hs => by cases hs; rfl) (by simpa using hst))
    · exact wp_ran rfl (exec_load rfl (eval_tmp (hgot 0 _ 31 rfl (hdep ⟨0, .data⟩ (by simp) rfl) rfl)) (run_load1 Tryd.underlying33 rfl (by have := (h3.keep hst.1 (by simp; have := HB.out; omega)).cell 1; simpa [sgc] using this))) (hK _ _ (fun s hs => by cases hs; rfl) (by simpa using hst))
    · exact wp_ran rfl (exec_tu1 rfl (eval_tmp ((hpar 5 rfl).trans rfl))) (hK _ _ (fun s hs => by cases hs; rfl) (by simpa using hst))
    · exact wp_ran rfl (exec_load rfl (eval_tmp (hgot 2 _ 33 rfl (hdep ⟨2, .data⟩ (by simp) rfl) rfl)) (run_load1 Tryd.underlying3 rfl (tu_a (h5.keep hst.1 (by simp; have := HB.out; omega))))) (hK _ _ (fun s hs => by cases hs; rfl) (by simpa using hst))
    · exact wp_ran rfl (exec_conv1 HU.out.2.2.2.1 rfl (eval_tmp (hgot 3 _ 34 rfl (hdep ⟨3, .data⟩ (by simp) rfl) rfl))) (hK _ _ (fun s hs => by cases hs; rfl) (by simpa using hst))
    · exact wp_ran rfl (exec_fg1 rfl (eval_tmp ((hpar 3 rfl).trans rfl))) (hK _ _ (fun s hs => by cases hs; rfl) (by simpa using hst))
    · exact wp_ran rfl (exec_load rfl (eval_tmp (hgot 5 _ 36 rfl (hdep ⟨5, .data⟩ (by simp) rfl) rfl)) (run_load1 Tryd.underlying33 rfl (by have := (h3.keep hst.1 (by simp; have := HB.out; omega)).cell 1; simpa [sgc] using this))) (hK _ _ (fun s hs => by cases hs; rfl) (by simpa using hst))
    · exact wp_ran rfl (exec_len Tryd.underlying33 rfl (eval_tmp (hgot 6 _ 37 rfl (hdep ⟨6, .data⟩ (by simp) rfl) rfl))) (hK _ _ (fun s hs => by cases hs; rfl) (by simpa using hst))
    · exact wp_ran rfl (exec_conv1 rfl rfl (eval_tmp (hgot 7 _ 38 rfl (hdep ⟨7, .data⟩ (by simp) rfl) rfl))) (hK _ _ (fun s hs => by cases hs; rfl) (by simpa using hst))
    · exact wp_ran rfl (exec_remV (k := 67) HU.out.2.2.2.2 (by decide) HQ2.out.1 rfl (eval_tmp (hgot 4 _ 35 rfl (hdep ⟨4, .data⟩ (by simp) rfl) rfl)) (eval_tmp (hgot 8 _ 39 rfl (hdep ⟨8, .data⟩ (by simp) rfl) rfl))) (hK _ _ (fun s hs => by cases hs; rfl) (by simpa using hst))
    · exact wp_ran rfl (exec_tu2 rfl (eval_tmp ((hpar 5 rfl).trans rfl))) (hK _ _ (fun s hs => by cases hs; rfl) (by simpa using hst))
    · exact wp_ran rfl (exec_load rfl (eval_tmp (hgot 10 _ 41 rfl (hdep ⟨10, .data⟩ (by simp) rfl) rfl)) (run_loads (tu_y (h5.keep hst.1 (by simp; have := HB.out; omega))) Tryd.underlying23 rfl (size25i ty))) (hK _ _ (fun s hs => by cases hs; rfl) (by simpa using hst))
    · exact wp_ran rfl (exec_ixu Tryd.underlying33 size25 HQ2.out.2 rfl (eval_tmp (hgot 1 _ 32 rfl (hdep ⟨1, .data⟩ (by simp) rfl) rfl)) (eval_tmp (hgot 9 _ 40 rfl (hdep ⟨9, .data⟩ (by simp) rfl) rfl))) (hK _ _ (fun s hs => by cases hs; rfl) (by simpa using hst))
    · have hO := hst.2
      rw [if_neg (by rw [hlj]; simp)] at hO
      obtain ⟨v', r1, r2, r3⟩ := own_store0 hO q (by have := HL.out; have := HQ2.out.2; omega) ty
      exact wp_ran_skip rfl (exec_storeR rfl (eval_tmp (hgot 12 _ 43 rfl (hdep ⟨12, .data⟩ (by simp) rfl) rfl)) (eval_tmp (hgot 11 _ 42 rfl (hdep ⟨11, .data⟩ (by simp) rfl) rfl)) r1) (hK undef _ (fun s hs => by cases hs) ⟨hst.1.trans r3 (fun i _ hi => hi), by simpa using r2⟩)
  case fin =>
  intro lz vy hlz hst
  obtain ⟨qm, q4⟩ := hst
  rw [if_pos (hlz 13 (by decide))] at q4
  replace h3 := h3.keep qm (by simp; have := HB.out; omega)
  replace h4 := h4.keep qm (by simp; have := HB.out; omega)
  replace h6 := h6.keep qm (by simp; have := HB.out; omega)
  replace h7 := h7.keep qm (by simp; have := HB.out; omega)
  replace P1 := (P1.keep qm (fun a ha hm => (n1 g (by simp [blk])).2 (by simp at hm; rw [← hm]; simp [blk, ha]))).cells
  replace O1 := q4.cells
  replace mm := far_mod mm qm (fun i hi => by simp at hi; have := HB.out; omega)
  have nA : ∀ a, (some ⟨g, 0, none⟩ : Option Addr) = some a → a.block ∉ [b6, b7] := fun a ha => by have := (n1 a.block (by simp [blk, ha])).1; have := HB.out; simp; omega
  have nB : ∀ a, B1 = some a → a.block ∉ [b6, b7] := fun a ha => by have := n2 a.block (by simp [blk, ha]); have := HB.out; simp; omega
  clear q4 qm hlz
  simp only [Act.put, setAll, List.setIfInBounds_toArray, List.foldl_cons, List.foldl_nil, List.set_cons_succ, List.set_cons_zero]
  go_wp2_with fail
  obtain ⟨wz, hwz⟩ : ∃ v, v = vy := ⟨_, rfl⟩
  rw [← hwz] at h3 h4 h6 h7 O1 P1 mm ⊢
  clear hwz
  replace h3 := h3.keep (Mod.drew [] wz) (by simp)
  replace h4 := h4.keep (Mod.drew [] wz) (by simp)
  replace h6 := h6.keep (Mod.drew [] wz) (by simp)
  replace h7 := h7.keep (Mod.drew [] wz) (by simp)
  refine wp_region_ups [(101, .agg (sgc i (some ⟨g, 0, none⟩) 67 c1 B1 3 d1).toArray), (102, iv m0)] 103 [101, 102] rfl rfl (by decide) (by kernel_rfl) (fun lz v => Mod [b6, b7] wz.drew v ∧ Holds v b6 50 (if lz 2 = true then sgc i (some ⟨g, 0, none⟩) 67 c1 B1 3 d1 else sgc 0 none 0 0 none 0 0) ∧ Holds v b7 23 (if lz 3 = true then ic m0 else ic zeroI)) (by kernel_rfl) ⟨Mod.refl _ _, by simpa using h6, by simpa using h7⟩ (by kernel_rfl) (by kernel_rfl) ?step ?fin
  case step =>
    intro lz T v j o hj hlj hdep hst hpar hgot hcl Kq hK
    have hjn : j < 4 := (Array.getElem?_eq_some_iff.1 hj).1
    obtain rfl | rfl | rfl | rfl : j = 0 ∨ j = 1 ∨ j = 2 ∨ j = 3 := by omega
    all_goals (have hj' := Option.some.inj (hj : some _ = some o); subst hj'; clear hj)
    · exact wp_ran rfl (exec_load rfl (eval_tmp ((hpar 3 rfl).trans rfl)) (run_loads (Cells.of_holds (h3.keep hst.1 (by simp; have := HB.out; omega))) Tryd.underlying50 rfl (size50s _ _ _ _ _ _ _))) (hK _ _ (fun s hs => by cases hs; rfl) (by simpa using hst))
    · exact wp_ran rfl (exec_load rfl (eval_tmp ((hpar 4 rfl).trans rfl)) (run_loads (Cells.of_holds (h4.keep hst.1 (by simp; have := HB.out; omega))) Tryd.underlying23 rfl (size25i m0))) (hK _ _ (fun s hs => by cases hs; rfl) (by simpa using hst))
    · have hp := hst.2.1
      rw [if_neg (by rw [hlj]; simp)] at hp
      refine wp_stored (ty := 50) (V := .agg (sgc i (some ⟨g, 0, none⟩) 67 c1 B1 3 d1).toArray) (cs := sgc i (some ⟨g, 0, none⟩) 67 c1 B1 3 d1) rfl rfl (eval_tmp ((hpar 6 rfl).trans rfl)) (eval_tmp (hgot 0 _ 101 rfl (hdep ⟨0, .data⟩ (by simp) rfl) rfl)) rfl hp rfl (sgc_one _ _ _ _ _ _ _) (size50s _ _ _ _ _ _ _) (fun v' q1 q2 => hK undef _ (fun s hs => by cases hs) ⟨hst.1.trans q2 (fun i _ hi => by simp at hi ⊢; exact .inl hi), by simpa using q1, by simpa using hst.2.2.keep q2 (by simp; have := HB.out; omega)⟩)
    · have hp := hst.2.2
      rw [if_neg (by rw [hlj]; simp)] at hp
      refine wp_stored (ty := 23) (V := iv m0) (cs := ic m0) rfl rfl (eval_tmp ((hpar 7 rfl).trans rfl)) (eval_tmp (hgot 1 _ 102 rfl (hdep ⟨1, .data⟩ (by simp) rfl) rfl)) rfl hp (by rw [ic_length, ic_length]) (ic_one m0) (size25i m0) (fun v' q1 q2 => hK undef _ (fun s hs => by cases hs) ⟨hst.1.trans q2 (fun i _ hi => by simp at hi ⊢; exact .inr hi), by simpa using hst.2.1.keep q2 (by simp; have := HB.out; omega), by simpa using q1⟩)
  case fin =>
  intro lz vz hlz hst
  obtain ⟨s1, s2, s3⟩ := hst
  rw [if_pos (hlz 2 (by decide))] at s2
  rw [if_pos (hlz 3 (by decide))] at s3
  have mz : Mod [] w vz := far_mod (mm.then (Mod.drew [] wz)) s1 (fun i hi => by simp at hi; have := HB.out; omega)
  replace O1 := (O1.keep (Mod.drew [] wz) (by simp)).keep s1 (fun a ha => nA a ha)
  replace P1 := (P1.keep (Mod.drew [] wz) (by simp)).keep s1 (fun a ha => nB a ha)
  simp only [Act.put, setAll, List.setIfInBounds_toArray, List.foldl_cons, List.foldl_nil, List.set_cons_succ, List.set_cons_zero]
  go_wp2_with fail
  refine bodyPost_ret (results_cells rfl _ _ b6 b7 (sgc i (some ⟨g, 0, none⟩) 67 c1 B1 3 d1) (ic m0) _ _ rfl rfl (Cells.of_holds s2) (Cells.of_holds s3) Tryd.underlying50 rfl (size50s _ _ _ _ _ _ _) Tryd.underlying23 rfl (size25i m0)) rfl ?_
  exact ⟨_, _, _, _, (l.set q ty), _, _, _, r, _, rfl, by simp [HL.out.1], by simp [HL.out.2], O1, P1, mz⟩
set_option maxRecDepth 100000 in
set_option maxHeartbeats 4000000 in
theorem turned_2 (i : Int) (A : Option Addr) (c : Nat) (l : List Idv) (hl : l.length = 67) (B : Option Addr) (d : Nat) (r : List Idv) (hr : r.length = 3) (m0 : Idv) (t : Tur) (hk : t.k % 18446744073709551616 % 6 = 2) (w : World) (RA : Cells w A (l.flatMap ic)) (RB : Cells w B (r.flatMap ic)) :
    Calls Tryd.prog 27 #[.agg (sgc i A 67 c B 3 d).toArray, iv m0, .agg (tuc t).toArray] w (TurnedR w) := by
  obtain ⟨tk, ta, ty⟩ := t
  obtain ⟨u, hu⟩ : ∃ u : Int, u = tk % 18446744073709551616 := ⟨_, rfl⟩
  obtain ⟨ua, hua⟩ : ∃ u : Int, u = ta % 18446744073709551616 := ⟨_, rfl⟩
  have HU : Hid (u = tk % 18446744073709551616 ∧ 0 ≤ u ∧ (2 : Int) = u % 6 ∧ ua = ta % 18446744073709551616 ∧ 0 ≤ ua) := Lib.hid ⟨hu, by omega, by simp only at hk; omega, hua, by omega⟩
  have HR := Lib.hid (And.intro RA RB)
  have HL := Lib.hid (And.intro hl hr)
  clear hk RA RB hl hr hu hua
  go_enter Tryd.func27, Tryd.ntmps27
  go_wp2_with (first
    | (with_reducible refine wpList_boxes (o := ⟨some 3, .box 50 (.tmp 0), _, _, _, _⟩) rfl 50 (.tmp 0) rfl _ rfl (sgc i A 67 c B 3 d) rfl ?_; intro w1 h3 m1 z1; replace z1 := Lib.hid z1)
    | (with_reducible refine wpList_boxes (o := ⟨some 4, .box 23 (.tmp 1), _, _, _, _⟩) rfl 23 (.tmp 1) rfl _ rfl (ic m0) rfl ?_; intro w2 h4 m2 z2; replace z2 := Lib.hid z2)
    | (with_reducible refine wpList_boxes (o := ⟨some 5, .box 57 (.tmp 2), _, _, _, _⟩) rfl 57 (.tmp 2) rfl _ rfl (tuc ⟨tk, ta, ty⟩) rfl ?_; intro w3 h5 m3 z3; replace z3 := Lib.hid z3)
    | (with_reducible refine wpList_allocs (o := ⟨some 6, .alloc 50, _, _, _, _⟩) rfl 50 rfl _ zero50 ?_; intro w4 h6 m4 z4; replace z4 := Lib.hid z4)
    | (with_reducible refine wpList_allocs (o := ⟨some 7, .alloc 23, _, _, _, _⟩) rfl 23 rfl _ zeroI_25 ?_; intro w5 h7 m5 z5
       obtain ⟨b3, hq3⟩ : ∃ q, q = w.heap.size := ⟨_, rfl⟩
       obtain ⟨b4, hq4⟩ : ∃ q, q = w1.heap.size := ⟨_, rfl⟩
       obtain ⟨b5, hq5⟩ : ∃ q, q = w2.heap.size := ⟨_, rfl⟩
       obtain ⟨b6, hq6⟩ : ∃ q, q = w3.heap.size := ⟨_, rfl⟩
       obtain ⟨b7, hq7⟩ : ∃ q, q = w4.heap.size := ⟨_, rfl⟩
       have HB : Hid (b3 < b4 ∧ b4 < b5 ∧ b5 < b6 ∧ b6 < b7 ∧ b7 < w5.heap.size ∧ w.heap.size = b3) := Lib.hid (by have := z1.out; have := z2.out; have := z3.out; have := z4.out; omega)
       rw [← hq3, ← hq4, ← hq5, ← hq6, ← hq7]
       have k3 : Holds w5 b3 50 (sgc i A 67 c B 3 d) := by rw [hq3]; exact (((h3.keep m2 (by simp)).keep m3 (by simp)).keep m4 (by simp)).keep m5 (by simp)
       have k4 : Holds w5 b4 23 (ic m0) := by rw [hq4]; exact ((h4.keep m3 (by simp)).keep m4 (by simp)).keep m5 (by simp)
       have k5 : Holds w5 b5 57 (tuc ⟨tk, ta, ty⟩) := by rw [hq5]; exact (h5.keep m4 (by simp)).keep m5 (by simp)
       have k6 : Holds w5 b6 50 (sgc 0 none 0 0 none 0 0) := by rw [hq6]; exact h6.keep m5 (by simp)
       have k7 : Holds w5 b7 23 (ic zeroI) := by rw [hq7]; exact h7
       have mm := (((m1.then m2).then m3).then m4).then m5
       clear h3 h4 h5 h6 h7 m1 m2 m3 m4 m5 z1 z2 z3 z4 z5 hq3 hq4 hq5 hq6 hq7))
  obtain ⟨wq, hwq⟩ : ∃ v, v = w5 := ⟨_, rfl⟩
  rw [← hwq] at k3 k4 k5 k6 k7 mm HB ⊢
  clear hwq
  replace k3 := k3.keep (Mod.drew [] wq) (by simp)
  replace k4 := k4.keep (Mod.drew [] wq) (by simp)
  replace k5 := k5.keep (Mod.drew [] wq) (by simp)
  replace k6 := k6.keep (Mod.drew [] wq) (by simp)
  replace k7 := k7.keep (Mod.drew [] wq) (by simp)
  have FM : ∀ v, Mod [b3] wq.drew v → Mod [] w v := fun v h => far_mod (mm.then (Mod.drew [] wq)) h (fun i hi => by simp at hi; have := HB.out; omega)
  have RA : ∀ v, Mod [b3] wq.drew v → Cells v A (l.flatMap ic) := fun v h => HR.out.1.keep (FM v h) (by simp)
  have RB : ∀ v, Mod [b3] wq.drew v → Cells v B (r.flatMap ic) := fun v h => HR.out.2.keep (FM v h) (by simp)
  have HQ : Hid (67 = l.length ∧ 3 = r.length ∧ b3 < wq.drew.heap.size ∧ b3 < wq.drew.heap.size) := Lib.hid ⟨HL.out.1.symm, HL.out.2.symm, by have := HB.out; exact Nat.lt_trans (by omega) HB.out.2.2.2.2.1, by have := HB.out; exact Nat.lt_trans (by omega) HB.out.2.2.2.2.1⟩
  clear mm
  refine wp_region_upx (X := XT) ⟨0, none, 0, 0, none, 0⟩ (fun x => [(8, .slice (some ⟨x.b, 0, none⟩) 0 0), (9, .pointer (some ⟨b3, 1, none⟩)), (10, .slice A 67 c), (11, .slice x.A 67 x.c), (12, .slice (some ⟨x.e, 0, none⟩) 0 0), (13, .pointer (some ⟨b3, 2, none⟩)), (14, .slice B 3 d), (15, .slice x.B 3 x.d), (16, .pointer (some ⟨b3, 1, none⟩)), (17, .pointer (some ⟨b3, 2, none⟩))]) 103 [8, 9, 10, 11, 12, 13, 14, 15, 16, 17] rfl (fun _ => rfl) (by decide) (by kernel_rfl) (fun x lz v => TwoS [b3] wq.drew (if lz 3 = true then ⟨x.A, x.c, l⟩ else if lz 0 = true then ⟨some ⟨x.b, 0, none⟩, 0, []⟩ else ⟨none, 0, []⟩) (if lz 7 = true then ⟨x.B, x.d, r⟩ else if lz 4 = true then ⟨some ⟨x.e, 0, none⟩, 0, []⟩ else ⟨none, 0, []⟩) v ∧ Holds v b3 50 (sgc i (if lz 9 = true then x.A else A) 67 (if lz 9 = true then x.c else c) (if lz 11 = true then x.B else B) 3 (if lz 11 = true then x.d else d))) (by kernel_rfl) ⟨TwoS.start _ (Mod.refl _ _), by simpa using k3⟩ (by kernel_rfl) (by kernel_rfl) ?step ?fin
  case step =>
    intro x lz T v j o hj hlj hdep hst hpar hgot hcl Kq hK
    have hjn : j < 12 := (Array.getElem?_eq_some_iff.1 hj).1
    obtain rfl | rfl | rfl | rfl | rfl | rfl | rfl | rfl | rfl | rfl | rfl | rfl : j = 0 ∨ j = 1 ∨ j = 2 ∨ j = 3 ∨ j = 4 ∨ j = 5 ∨ j = 6 ∨ j = 7 ∨ j = 8 ∨ j = 9 ∨ j = 10 ∨ j = 11 := by omega
    all_goals (have hj' := Option.some.inj (hj : some _ = some o); subst hj'; clear hj)
    · have l3 : lz 3 = false := (by cases hh : lz 3 with | false => rfl | true => exact absurd (hcl 3 _ rfl hh ⟨0, .data⟩ (by simp) rfl) (by rw [hlj]; simp))
      have h1 : TwoS [b3] wq.drew ⟨none, 0, []⟩ (if lz 7 = true then ⟨x.B, x.d, r⟩ else if lz 4 = true then ⟨some ⟨x.e, 0, none⟩, 0, []⟩ else ⟨none, 0, []⟩) v := by simpa [l3, hlj] using hst.1
      exact wp_ran rfl (exec_none33 rfl) (hK { x with b := v.heap.size } _ _ (fun j' o' s' g1 g2 g3 => by
          have g4 : j' < 12 := (Array.getElem?_eq_some_iff.1 g1).1
          clear hpar hgot hdep hK
          obtain rfl | rfl | rfl | rfl | rfl | rfl | rfl | rfl | rfl | rfl | rfl | rfl : j' = 0 ∨ j' = 1 ∨ j' = 2 ∨ j' = 3 ∨ j' = 4 ∨ j' = 5 ∨ j' = 6 ∨ j' = 7 ∨ j' = 8 ∨ j' = 9 ∨ j' = 10 ∨ j' = 11 := by omega
          all_goals (cases g1; cases g3 <;> first | rfl | (rw [hlj] at g2; cases g2) | (rw [l3] at g2; cases g2))) (fun s hs => by cases hs; rfl) ⟨by simpa [l3] using h1.lit, by simpa using hst.2.keep (Mod.alloc [] v _) (by simp)⟩)
    · exact wp_ran rfl (exec_fg1 rfl (eval_tmp ((hpar 3 rfl).trans rfl))) (hK x _ _ (fun _ _ _ _ _ _ => rfl) (fun s hs => by cases hs; rfl) (by simpa using hst))
    · have l9 : lz 9 = false := (by cases hh : lz 9 with | false => rfl | true => exact absurd (hcl 9 _ rfl hh ⟨2, .phase⟩ (by simp) rfl) (by rw [hlj]; simp))
      exact wp_ran rfl (exec_load rfl (eval_tmp (hgot 1 _ 9 rfl (hdep ⟨1, .data⟩ (by simp) rfl) rfl)) (run_load1 Tryd.underlying33 rfl (by have := hst.2.cell 1; simpa [sgc, l9] using this))) (hK x _ _ (fun _ _ _ _ _ _ => rfl) (fun s hs => by cases hs; rfl) (by simpa using hst))
    · have l9 : lz 9 = false := (by cases hh : lz 9 with | false => rfl | true => exact absurd (hcl 9 _ rfl hh ⟨3, .data⟩ (by simp) rfl) (by rw [hlj]; simp))
      have l0 : lz 0 = true := hdep ⟨0, .data⟩ (by simp) rfl
      have h1 : TwoS [b3] wq.drew ⟨some ⟨x.b, 0, none⟩, 0, []⟩ (if lz 7 = true then ⟨x.B, x.d, r⟩ else if lz 4 = true then ⟨some ⟨x.e, 0, none⟩, 0, []⟩ else ⟨none, 0, []⟩) v := by simpa [l0, hlj] using hst.1
      have hnb : b3 ∉ blk (some ⟨x.b, 0, none⟩) := fun hh => by have := (h1.2.2.2.1 _ hh).1; have := HQ.out.2.2.1; omega
      obtain ⟨A', c', v', r1, h2, m2⟩ := h1.app (ρ := T.eval) (o := { dst := some 11, op := .call { callee := .builtin .append, args := #[.tmp 8, .tmp 10], argTypes := #[33, 33] }, type := 33, pos := "x", after := #[], guard := none }) (.tmp 8) (.tmp 10) rfl (eval_tmp (hgot 0 _ 8 rfl (hdep ⟨0, .data⟩ (by simp) rfl) rfl)) HQ.out.1 (by omega) (eval_tmp (hgot 2 _ 10 rfl (hdep ⟨2, .data⟩ (by simp) rfl) rfl)) (RA v hst.1.1)
      exact wp_ran rfl r1 (hK { x with A := A', c := c' } _ _ (fun j' o' s' g1 g2 g3 => by
          have g4 : j' < 12 := (Array.getElem?_eq_some_iff.1 g1).1
          clear hpar hgot hdep hK
          obtain rfl | rfl | rfl | rfl | rfl | rfl | rfl | rfl | rfl | rfl | rfl | rfl : j' = 0 ∨ j' = 1 ∨ j' = 2 ∨ j' = 3 ∨ j' = 4 ∨ j' = 5 ∨ j' = 6 ∨ j' = 7 ∨ j' = 8 ∨ j' = 9 ∨ j' = 10 ∨ j' = 11 := by omega
          all_goals (cases g1; cases g3 <;> first | rfl | (rw [hlj] at g2; cases g2))) (fun s hs => by cases hs; rfl) ⟨by simpa using h2, by simpa [l9] using hst.2.keep m2 hnb⟩)
    · have l7 : lz 7 = false := (by cases hh : lz 7 with | false => rfl | true => exact absurd (hcl 7 _ rfl hh ⟨4, .data⟩ (by simp) rfl) (by rw [hlj]; simp))
      have h1 : TwoS [b3] wq.drew (if lz 3 = true then ⟨x.A, x.c, l⟩ else if lz 0 = true then ⟨some ⟨x.b, 0, none⟩, 0, []⟩ else ⟨none, 0, []⟩) ⟨none, 0, []⟩ v := by simpa [l7, hlj] using hst.1
      exact wp_ran rfl (exec_none33 rfl) (hK { x with e := v.heap.size } _ _ (fun j' o' s' g1 g2 g3 => by
          have g4 : j' < 12 := (Array.getElem?_eq_some_iff.1 g1).1
          clear hpar hgot hdep hK
          obtain rfl | rfl | rfl | rfl | rfl | rfl | rfl | rfl | rfl | rfl | rfl | rfl : j' = 0 ∨ j' = 1 ∨ j' = 2 ∨ j' = 3 ∨ j' = 4 ∨ j' = 5 ∨ j' = 6 ∨ j' = 7 ∨ j' = 8 ∨ j' = 9 ∨ j' = 10 ∨ j' = 11 := by omega
          all_goals (cases g1; cases g3 <;> first | rfl | (rw [hlj] at g2; cases g2) | (rw [l7] at g2; cases g2))) (fun s hs => by cases hs; rfl) ⟨by simpa [l7] using h1.swap.lit.swap, by simpa using hst.2.keep (Mod.alloc [] v _) (by simp)⟩)
    · exact wp_ran rfl (exec_fg2 rfl (eval_tmp ((hpar 3 rfl).trans rfl))) (hK x _ _ (fun _ _ _ _ _ _ => rfl) (fun s hs => by cases hs; rfl) (by simpa using hst))
    · have l11 : lz 11 = false := (by cases hh : lz 11 with | false => rfl | true => exact absurd (hcl 11 _ rfl hh ⟨6, .phase⟩ (by simp) rfl) (by rw [hlj]; simp))
      exact wp_ran rfl (exec_load rfl (eval_tmp (hgot 5 _ 13 rfl (hdep ⟨5, .data⟩ (by simp) rfl) rfl)) (run_load1 Tryd.underlying33 rfl (by have := hst.2.cell 2; simpa [sgc, l11] using this))) (hK x _ _ (fun _ _ _ _ _ _ => rfl) (fun s hs => by cases hs; rfl) (by simpa using hst))
    · have l11 : lz 11 = false := (by cases hh : lz 11 with | false => rfl | true => exact absurd (hcl 11 _ rfl hh ⟨7, .data⟩ (by simp) rfl) (by rw [hlj]; simp))
      have l4 : lz 4 = true := hdep ⟨4, .data⟩ (by simp) rfl
      have h1 : TwoS [b3] wq.drew (if lz 3 = true then ⟨x.A, x.c, l⟩ else if lz 0 = true then ⟨some ⟨x.b, 0, none⟩, 0, []⟩ else ⟨none, 0, []⟩) ⟨some ⟨x.e, 0, none⟩, 0, []⟩ v := by simpa [l4, hlj] using hst.1
      have hnb : b3 ∉ blk (some ⟨x.e, 0, none⟩) := fun hh => by have := (h1.swap.2.2.2.1 _ hh).1; have := HQ.out.2.2.1; omega
      obtain ⟨A', c', v', r1, h2, m2⟩ := h1.swap.app (ρ := T.eval) (o := { dst := some 15, op := .call { callee := .builtin .append, args := #[.tmp 12, .tmp 14], argTypes := #[33, 33] }, type := 33, pos := "x", after := #[], guard := none }) (.tmp 12) (.tmp 14) rfl (eval_tmp (hgot 4 _ 12 rfl (hdep ⟨4, .data⟩ (by simp) rfl) rfl)) HQ.out.2.1 (by omega) (eval_tmp (hgot 6 _ 14 rfl (hdep ⟨6, .data⟩ (by simp) rfl) rfl)) (RB v hst.1.1)
      exact wp_ran rfl r1 (hK { x with B := A', d := c' } _ _ (fun j' o' s' g1 g2 g3 => by
          have g4 : j' < 12 := (Array.getElem?_eq_some_iff.1 g1).1
          clear hpar hgot hdep hK
          obtain rfl | rfl | rfl | rfl | rfl | rfl | rfl | rfl | rfl | rfl | rfl | rfl : j' = 0 ∨ j' = 1 ∨ j' = 2 ∨ j' = 3 ∨ j' = 4 ∨ j' = 5 ∨ j' = 6 ∨ j' = 7 ∨ j' = 8 ∨ j' = 9 ∨ j' = 10 ∨ j' = 11 := by omega
          all_goals (cases g1; cases g3 <;> first | rfl | (rw [hlj] at g2; cases g2))) (fun s hs => by cases hs; rfl) ⟨by simpa using h2.swap, by simpa [l11] using hst.2.keep m2 hnb⟩)
    · exact wp_ran rfl (exec_fg1 rfl (eval_tmp ((hpar 3 rfl).trans rfl))) (hK x _ _ (fun _ _ _ _ _ _ => rfl) (fun s hs => by cases hs; rfl) (by simpa using hst))
    · have a3 : lz 3 = true := hdep ⟨3, .data⟩ (by simp) rfl
      refine wp_sg (k := 1) (t := 50) (cs := sgc i (if lz 9 = true then x.A else A) 67 (if lz 9 = true then x.c else c) (if lz 11 = true then x.B else B) 3 (if lz 11 = true then x.d else d)) (u := .slice x.A 67 x.c) rfl rfl (eval_tmp (hgot 8 _ 16 rfl (hdep ⟨8, .data⟩ (by simp) rfl) rfl)) (eval_tmp (hgot 3 _ 11 rfl (hdep ⟨3, .data⟩ (by simp) rfl) rfl)) rfl one33 hst.2 (by simp [sgc]) (fun v' q1 q2 => hK x undef _ (fun _ _ _ _ _ _ => rfl) (fun s hs => by cases hs) ⟨by simpa using hst.1.turn q2 (by simp) HQ.out.2.2.2, by simpa [hlj, sgc] using q1⟩)
    · exact wp_ran rfl (exec_fg2 rfl (eval_tmp ((hpar 3 rfl).trans rfl))) (hK x _ _ (fun _ _ _ _ _ _ => rfl) (fun s hs => by cases hs; rfl) (by simpa using hst))
    · have a7 : lz 7 = true := hdep ⟨7, .data⟩ (by simp) rfl
      refine wp_sg (k := 2) (t := 50) (cs := sgc i (if lz 9 = true then x.A else A) 67 (if lz 9 = true then x.c else c) (if lz 11 = true then x.B else B) 3 (if lz 11 = true then x.d else d)) (u := .slice x.B 3 x.d) rfl rfl (eval_tmp (hgot 10 _ 17 rfl (hdep ⟨10, .data⟩ (by simp) rfl) rfl)) (eval_tmp (hgot 7 _ 15 rfl (hdep ⟨7, .data⟩ (by simp) rfl) rfl)) rfl one33 hst.2 (by simp [sgc]) (fun v' q1 q2 => hK x undef _ (fun _ _ _ _ _ _ => rfl) (fun s hs => by cases hs) ⟨by simpa using hst.1.turn q2 (by simp) HQ.out.2.2.2, by simpa [hlj, sgc] using q1⟩)
  case fin =>
  intro x lz vr hlz hst
  have h1 : TwoS [b3] wq.drew ⟨x.A, x.c, l⟩ ⟨x.B, x.d, r⟩ vr := by simpa [hlz 3 (by decide), hlz 7 (by decide)] using hst.1
  have h3 : Holds vr b3 50 (sgc i x.A 67 x.c x.B 3 x.d) := by simpa [hlz 9 (by decide), hlz 11 (by decide)] using hst.2
  have mm := FM vr h1.1
  have h4 : Holds vr b4 23 (ic m0) := k4.keep h1.1 (by simp; have := HB.out; omega)
  have h5 : Holds vr b5 57 (tuc ⟨tk, ta, ty⟩) := k5.keep h1.1 (by simp; have := HB.out; omega)
  have h6 : Holds vr b6 50 (sgc 0 none 0 0 none 0 0) := k6.keep h1.1 (by simp; have := HB.out; omega)
  have h7 : Holds vr b7 23 (ic zeroI) := k7.keep h1.1 (by simp; have := HB.out; omega)
  have O1 : OwnG ic 23 32 vr x.A x.c l := h1.2.1
  have P1 : OwnG ic 23 32 vr x.B x.d r := h1.2.2.1
  have n1 : ∀ j ∈ blk x.A, b7 < j ∧ j ∉ blk x.B := fun j hj => by have := h1.2.2.2.1 j hj; exact ⟨Nat.lt_of_lt_of_le HB.out.2.2.2.2.1 (Nat.le_trans (Nat.le_of_eq rfl) this.1), this.2⟩
  have n2 : ∀ j ∈ blk x.B, b7 < j := fun j hj => Nat.lt_of_lt_of_le HB.out.2.2.2.2.1 (h1.2.2.2.2 j hj)
  clear hst hlz h1 k3 k4 k5 k6 k7 RA RB FM
  obtain ⟨xb, A1, c1, xe, B1, d1⟩ := x
  simp only at h3 O1 P1 n1 n2
  simp only [Act.put, setAll, List.setIfInBounds_toArray, List.foldl_cons, List.foldl_nil, List.set_cons_succ, List.set_cons_zero]
  have e0 := tu_k h5
  have e1 := tu_a h5
  simp only at e0 e1
  obtain ⟨q, hq⟩ : ∃ q : Nat, (q : Int) = ua % 3 := ⟨(ua % 3).toNat, by have := HU.out; omega⟩
  have HQ2 : Hid ((q : Int) = ua % ((3 : Nat) : Int) ∧ q < 3) := Lib.hid ⟨hq, by omega⟩
  clear hq
  obtain ⟨g, hg⟩ := own_form P1 (by have := HL.out; omega)
  subst hg
  go_wp2_with (first
    | (with_reducible refine wpList_ranW (o := ⟨some 20, .convert _ _ _, _, _, _, _⟩) (by with_unfolding_all rfl) (.int .u64 u) _ (exec_conv1 HU.out.1 rfl rfl) ?_)
    | (with_reducible refine wpList_ranW (o := ⟨some 21, .binOp .rem _ _ _ _, _, _, _, _⟩) (by with_unfolding_all rfl) (.int .u64 2) _ (exec_remZ HU.out.2.1 (by decide) HU.out.2.2.1 rfl rfl rfl) ?_))
  obtain ⟨wq2, hwq2⟩ : ∃ v, v = vr := ⟨_, rfl⟩
  rw [← hwq2] at h3 h4 h5 h6 h7 O1 P1 mm ⊢
  clear hwq2 e0 e1
  replace h3 := h3.keep (Mod.drew [] wq2) (by simp)
  replace h4 := h4.keep (Mod.drew [] wq2) (by simp)
  replace h5 := h5.keep (Mod.drew [] wq2) (by simp)
  replace h6 := h6.keep (Mod.drew [] wq2) (by simp)
  replace h7 := h7.keep (Mod.drew [] wq2) (by simp)
  replace O1 := O1.keep (Mod.drew [] wq2) (by simp)
  replace P1 := P1.keep (Mod.drew [] wq2) (by simp)
  replace mm := mm.then (Mod.drew [] wq2)
  have gb : b7 < g := (n2 g (by simp [blk]))
  refine wp_region_ups [(46, .pointer (some ⟨b3, 2, none⟩)), (47, .slice (some ⟨g, 0, none⟩) 3 d1), (48, .pointer (some ⟨b5, 1, none⟩)), (49, .int .i64 ta), (50, .int .u64 ua), (51, .pointer (some ⟨b3, 2, none⟩)), (52, .slice (some ⟨g, 0, none⟩) 3 d1), (53, .int .i64 3), (54, .int .u64 3), (55, .int .u64 (q : Int)), (56, .pointer (some ⟨b5, 2, none⟩)), (57, iv ty), (58, .pointer (some ⟨g, 0 + q * 32, none⟩))] 103 [46, 47, 48, 49, 50, 51, 52, 53, 54, 55, 56, 57, 58] rfl rfl (by decide) (by kernel_rfl) (fun lz v => Mod [g] wq2.drew v ∧ OwnG ic 23 32 v (some ⟨g, 0, none⟩) d1 (if lz 13 = true then r.set q ty else r)) (by kernel_rfl) ⟨Mod.refl _ _, by simpa using P1⟩ (by kernel_rfl) (by kernel_rfl) ?step ?fin
  case step =>
    intro lz T v j o hj hlj hdep hst hpar hgot hcl Kq hK
    have hjn : j < 14 := (Array.getElem?_eq_some_iff.1 hj).1
    obtain rfl | rfl | rfl | rfl | rfl | rfl | rfl | rfl | rfl | rfl | rfl | rfl | rfl | rfl : j = 0 ∨ j = 1 ∨ j = 2 ∨ j = 3 ∨ j = 4 ∨ j = 5 ∨ j = 6 ∨ j = 7 ∨ j = 8 ∨ j = 9 ∨ j = 10 ∨ j = 11 ∨ j = 12 ∨ j = 13 := by omega
    all_goals (have hj' := Option.some.inj (hj : some _ = some o); subst hj'; clear hj)
    · exact wp_ran rfl (exec_fg2 rfl (eval_tmp ((hpar 3 rfl).trans rfl))) (hK _ _ (fun s hs => by cases hs; rfl) (by simpa using hst))
    · exact wp_ran rfl (exec_load rfl (eval_tmp (hgot 0 _ 46 rfl (hdep ⟨0, .data⟩ (by simp) rfl) rfl)) (run_load1 Tryd.underlying33 rfl (by have := (h3.keep hst.1 (by simp; have := HB.out; omega)).cell 2; simpa [sgc] using this))) (hK _ _ (fun s hs => by cases hs; rfl) (by simpa using hst))
    · exact wp_ran rfl (exec_tu1 rfl (eval_tmp ((hpar 5 rfl).trans rfl))) (hK _ _ (fun s hs => by cases hs; rfl) (by simpa using hst))
    · exact wp_ran rfl (exec_load rfl (eval_tmp (hgot 2 _ 48 rfl (hdep ⟨2, .data⟩ (by simp) rfl) rfl)) (run_load1 Tryd.underlying3 rfl (tu_a (h5.keep hst.1 (by simp; have := HB.out; omega))))) (hK _ _ (fun s hs => by cases hs; rfl) (by simpa using hst))
    · exact wp_ran rfl (exec_conv1 HU.out.2.2.2.1 rfl (eval_tmp (hgot 3 _ 49 rfl (hdep ⟨3, .data⟩ (by simp) rfl) rfl))) (hK _ _ (fun s hs => by cases hs; rfl) (by simpa using hst))
    · exact wp_ran rfl (exec_fg2 rfl (eval_tmp ((hpar 3 rfl).trans rfl))) (hK _ _ (fun s hs => by cases hs; rfl) (by simpa using hst))
    · exact wp_ran rfl (exec_load rfl (eval_tmp (hgot 5 _ 51 rfl (hdep ⟨5, .data⟩ (by simp) rfl) rfl)) (run_load1 Tryd.underlying33 rfl (by have := (h3.keep hst.1 (by simp; have := HB.out; omega)).cell 2; simpa [sgc] using this))) (hK _ _ (fun s hs => by cases hs; rfl) (by simpa using hst))
    · exact wp_ran rfl (exec_len Tryd.underlying33 rfl (eval_tmp (hgot 6 _ 52 rfl (hdep ⟨6, .data⟩ (by simp) rfl) rfl))) (hK _ _ (fun s hs => by cases hs; rfl) (by simpa using hst))
    · exact wp_ran rfl (exec_conv1 rfl rfl (eval_tmp (hgot 7 _ 53 rfl (hdep ⟨7, .data⟩ (by simp) rfl) rfl))) (hK _ _ (fun s hs => by cases hs; rfl) (by simpa using hst))
    · exact wp_ran rfl (exec_remV (k := 3) HU.out.2.2.2.2 (by decide) HQ2.out.1 rfl (eval_tmp (hgot 4 _ 50 rfl (hdep ⟨4, .data⟩ (by simp) rfl) rfl)) (eval_tmp (hgot 8 _ 54 rfl (hdep ⟨8, .data⟩ (by simp) rfl) rfl))) (hK _ _ (fun s hs => by cases hs; rfl) (by simpa using hst))
    · exact wp_ran rfl (exec_tu2 rfl (eval_tmp ((hpar 5 rfl).trans rfl))) (hK _ _ (fun s hs => by cases hs; rfl) (by simpa using hst))
    · exact wp_ran rfl (exec_load rfl (eval_tmp (hgot 10 _ 56 rfl (hdep ⟨10, .data⟩ (by simp) rfl) rfl)) (run_loads (tu_y (h5.keep hst.1 (by simp; have := HB.out; omega))) Tryd.underlying23 rfl (size25i ty))) (hK _ _ (fun s hs => by cases hs; rfl) (by simpa using hst))
    · exact wp_ran rfl (exec_ixu Tryd.underlying33 size25 HQ2.out.2 rfl (eval_tmp (hgot 1 _ 47 rfl (hdep ⟨1, .data⟩ (by simp) rfl) rfl)) (eval_tmp (hgot 9 _ 55 rfl (hdep ⟨9, .data⟩ (by simp) rfl) rfl))) (hK _ _ (fun s hs => by cases hs; rfl) (by simpa using hst))
    · have hO := hst.2
      rw [if_neg (by rw [hlj]; simp)] at hO
      obtain ⟨v', r1, r2, r3⟩ := own_store0 hO q (by have := HL.out; have := HQ2.out.2; omega) ty
      exact wp_ran_skip rfl (exec_storeR rfl (eval_tmp (hgot 12 _ 58 rfl (hdep ⟨12, .data⟩ (by simp) rfl) rfl)) (eval_tmp (hgot 11 _ 57 rfl (hdep ⟨11, .data⟩ (by simp) rfl) rfl)) r1) (hK undef _ (fun s hs => by cases hs) ⟨hst.1.trans r3 (fun i _ hi => hi), by simpa using r2⟩)
  case fin =>
  intro lz vy hlz hst
  obtain ⟨qm, q4⟩ := hst
  rw [if_pos (hlz 13 (by decide))] at q4
  replace h3 := h3.keep qm (by simp; have := HB.out; omega)
  replace h4 := h4.keep qm (by simp; have := HB.out; omega)
  replace h6 := h6.keep qm (by simp; have := HB.out; omega)
  replace h7 := h7.keep qm (by simp; have := HB.out; omega)
  replace O1 := (O1.keep qm (fun a ha hm => (n1 a.block (by simp [blk, ha])).2 (by simp at hm; rw [hm]; simp [blk]))).cells
  replace P1 := q4.cells
  replace mm := far_mod mm qm (fun i hi => by simp at hi; have := HB.out; omega)
  have nA : ∀ a, A1 = some a → a.block ∉ [b6, b7] := fun a ha => by have := (n1 a.block (by simp [blk, ha])).1; have := HB.out; simp; omega
  have nB : ∀ a, (some ⟨g, 0, none⟩ : Option Addr) = some a → a.block ∉ [b6, b7] := fun a ha => by have := n2 a.block (by simp [blk, ha]); have := HB.out; simp; omega
  clear q4 qm hlz
  simp only [Act.put, setAll, List.setIfInBounds_toArray, List.foldl_cons, List.foldl_nil, List.set_cons_succ, List.set_cons_zero]
  go_wp2_with fail
  obtain ⟨wz, hwz⟩ : ∃ v, v = vy := ⟨_, rfl⟩
  rw [← hwz] at h3 h4 h6 h7 O1 P1 mm ⊢
  clear hwz
  replace h3 := h3.keep (Mod.drew [] wz) (by simp)
  replace h4 := h4.keep (Mod.drew [] wz) (by simp)
  replace h6 := h6.keep (Mod.drew [] wz) (by simp)
  replace h7 := h7.keep (Mod.drew [] wz) (by simp)
  refine wp_region_ups [(101, .agg (sgc i A1 67 c1 (some ⟨g, 0, none⟩) 3 d1).toArray), (102, iv m0)] 103 [101, 102] rfl rfl (by decide) (by kernel_rfl) (fun lz v => Mod [b6, b7] wz.drew v ∧ Holds v b6 50 (if lz 2 = true then sgc i A1 67 c1 (some ⟨g, 0, none⟩) 3 d1 else sgc 0 none 0 0 none 0 0) ∧ Holds v b7 23 (if lz 3 = true then ic m0 else ic zeroI)) (by kernel_rfl) ⟨Mod.refl _ _, by simpa using h6, by simpa using h7⟩ (by kernel_rfl) (by kernel_rfl) ?step ?fin
  case step =>
    intro lz T v j o hj hlj hdep hst hpar hgot hcl Kq hK
    have hjn : j < 4 := (Array.getElem?_eq_some_iff.1 hj).1
    obtain rfl | rfl | rfl | rfl : j = 0 ∨ j = 1 ∨ j = 2 ∨ j = 3 := by omega
    all_goals (have hj' := Option.some.inj (hj : some _ = some o); subst hj'; clear hj)
    · exact wp_ran rfl (exec_load rfl (eval_tmp ((hpar 3 rfl).trans rfl)) (run_loads (Cells.of_holds (h3.keep hst.1 (by simp; have := HB.out; omega))) Tryd.underlying50 rfl (size50s _ _ _ _ _ _ _))) (hK _ _ (fun s hs => by cases hs; rfl) (by simpa using hst))
    · exact wp_ran rfl (exec_load rfl (eval_tmp ((hpar 4 rfl).trans rfl)) (run_loads (Cells.of_holds (h4.keep hst.1 (by simp; have := HB.out; omega))) Tryd.underlying23 rfl (size25i m0))) (hK _ _ (fun s hs => by cases hs; rfl) (by simpa using hst))
    · have hp := hst.2.1
      rw [if_neg (by rw [hlj]; simp)] at hp
      refine wp_stored (ty := 50) (V := .agg (sgc i A1 67 c1 (some ⟨g, 0, none⟩) 3 d1).toArray) (cs := sgc i A1 67 c1 (some ⟨g, 0, none⟩) 3 d1) rfl rfl (eval_tmp ((hpar 6 rfl).trans rfl)) (eval_tmp (hgot 0 _ 101 rfl (hdep ⟨0, .data⟩ (by simp) rfl) rfl)) rfl hp rfl (sgc_one _ _ _ _ _ _ _) (size50s _ _ _ _ _ _ _) (fun v' q1 q2 => hK undef _ (fun s hs => by cases hs) ⟨hst.1.trans q2 (fun i _ hi => by simp at hi ⊢; exact .inl hi), by simpa using q1, by simpa using hst.2.2.keep q2 (by simp; have := HB.out; omega)⟩)
    · have hp := hst.2.2
      rw [if_neg (by rw [hlj]; simp)] at hp
      refine wp_stored (ty := 23) (V := iv m0) (cs := ic m0) rfl rfl (eval_tmp ((hpar 7 rfl).trans rfl)) (eval_tmp (hgot 1 _ 102 rfl (hdep ⟨1, .data⟩ (by simp) rfl) rfl)) rfl hp (by rw [ic_length, ic_length]) (ic_one m0) (size25i m0) (fun v' q1 q2 => hK undef _ (fun s hs => by cases hs) ⟨hst.1.trans q2 (fun i _ hi => by simp at hi ⊢; exact .inr hi), by simpa using hst.2.1.keep q2 (by simp; have := HB.out; omega), by simpa using q1⟩)
  case fin =>
  intro lz vz hlz hst
  obtain ⟨s1, s2, s3⟩ := hst
  rw [if_pos (hlz 2 (by decide))] at s2
  rw [if_pos (hlz 3 (by decide))] at s3
  have mz : Mod [] w vz := far_mod (mm.then (Mod.drew [] wz)) s1 (fun i hi => by simp at hi; have := HB.out; omega)
  replace O1 := (O1.keep (Mod.drew [] wz) (by simp)).keep s1 (fun a ha => nA a ha)
  replace P1 := (P1.keep (Mod.drew [] wz) (by simp)).keep s1 (fun a ha => nB a ha)
  simp only [Act.put, setAll, List.setIfInBounds_toArray, List.foldl_cons, List.foldl_nil, List.set_cons_succ, List.set_cons_zero]
  go_wp2_with fail
  refine bodyPost_ret (results_cells rfl _ _ b6 b7 (sgc i A1 67 c1 (some ⟨g, 0, none⟩) 3 d1) (ic m0) _ _ rfl rfl (Cells.of_holds s2) (Cells.of_holds s3) Tryd.underlying50 rfl (size50s _ _ _ _ _ _ _) Tryd.underlying23 rfl (size25i m0)) rfl ?_
  exact ⟨_, _, _, _, l, _, _, _, (r.set q ty), _, rfl, by simp [HL.out.1], by simp [HL.out.2], O1, P1, mz⟩
set_option maxRecDepth 100000 in
set_option maxHeartbeats 4000000 in
theorem turned_3 (i : Int) (A : Option Addr) (c : Nat) (l : List Idv) (hl : l.length = 67) (B : Option Addr) (d : Nat) (r : List Idv) (hr : r.length = 3) (m0 : Idv) (t : Tur) (hk : t.k % 18446744073709551616 % 6 = 3) (w : World) (RA : Cells w A (l.flatMap ic)) (RB : Cells w B (r.flatMap ic)) :
    Calls Tryd.prog 27 #[.agg (sgc i A 67 c B 3 d).toArray, iv m0, .agg (tuc t).toArray] w (TurnedR w) := by
  obtain ⟨tk, ta, ty⟩ := t
  obtain ⟨u, hu⟩ : ∃ u : Int, u = tk % 18446744073709551616 := ⟨_, rfl⟩
  obtain ⟨ua, hua⟩ : ∃ u : Int, u = ta % 18446744073709551616 := ⟨_, rfl⟩
  have HU : Hid (u = tk % 18446744073709551616 ∧ 0 ≤ u ∧ (3 : Int) = u % 6 ∧ ua = ta % 18446744073709551616 ∧ 0 ≤ ua) := Lib.hid ⟨hu, by omega, by simp only at hk; omega, hua, by omega⟩
  have HR := Lib.hid (And.intro RA RB)
  have HL := Lib.hid (And.intro hl hr)
  clear hk RA RB hl hr hu hua
  go_enter Tryd.func27, Tryd.ntmps27
  go_wp2_with (first
    | (with_reducible refine wpList_boxes (o := ⟨some 3, .box 50 (.tmp 0), _, _, _, _⟩) rfl 50 (.tmp 0) rfl _ rfl (sgc i A 67 c B 3 d) rfl ?_; intro w1 h3 m1 z1; replace z1 := Lib.hid z1)
    | (with_reducible refine wpList_boxes (o := ⟨some 4, .box 23 (.tmp 1), _, _, _, _⟩) rfl 23 (.tmp 1) rfl _ rfl (ic m0) rfl ?_; intro w2 h4 m2 z2; replace z2 := Lib.hid z2)
    | (with_reducible refine wpList_boxes (o := ⟨some 5, .box 57 (.tmp 2), _, _, _, _⟩) rfl 57 (.tmp 2) rfl _ rfl (tuc ⟨tk, ta, ty⟩) rfl ?_; intro w3 h5 m3 z3; replace z3 := Lib.hid z3)
    | (with_reducible refine wpList_allocs (o := ⟨some 6, .alloc 50, _, _, _, _⟩) rfl 50 rfl _ zero50 ?_; intro w4 h6 m4 z4; replace z4 := Lib.hid z4)
    | (with_reducible refine wpList_allocs (o := ⟨some 7, .alloc 23, _, _, _, _⟩) rfl 23 rfl _ zeroI_25 ?_; intro w5 h7 m5 z5
       obtain ⟨b3, hq3⟩ : ∃ q, q = w.heap.size := ⟨_, rfl⟩
       obtain ⟨b4, hq4⟩ : ∃ q, q = w1.heap.size := ⟨_, rfl⟩
       obtain ⟨b5, hq5⟩ : ∃ q, q = w2.heap.size := ⟨_, rfl⟩
       obtain ⟨b6, hq6⟩ : ∃ q, q = w3.heap.size := ⟨_, rfl⟩
       obtain ⟨b7, hq7⟩ : ∃ q, q = w4.heap.size := ⟨_, rfl⟩
       have HB : Hid (b3 < b4 ∧ b4 < b5 ∧ b5 < b6 ∧ b6 < b7 ∧ b7 < w5.heap.size ∧ w.heap.size = b3) := Lib.hid (by have := z1.out; have := z2.out; have := z3.out; have := z4.out; omega)
       rw [← hq3, ← hq4, ← hq5, ← hq6, ← hq7]
       have k3 : Holds w5 b3 50 (sgc i A 67 c B 3 d) := by rw [hq3]; exact (((h3.keep m2 (by simp)).keep m3 (by simp)).keep m4 (by simp)).keep m5 (by simp)
       have k4 : Holds w5 b4 23 (ic m0) := by rw [hq4]; exact ((h4.keep m3 (by simp)).keep m4 (by simp)).keep m5 (by simp)
       have k5 : Holds w5 b5 57 (tuc ⟨tk, ta, ty⟩) := by rw [hq5]; exact (h5.keep m4 (by simp)).keep m5 (by simp)
       have k6 : Holds w5 b6 50 (sgc 0 none 0 0 none 0 0) := by rw [hq6]; exact h6.keep m5 (by simp)
       have k7 : Holds w5 b7 23 (ic zeroI) := by rw [hq7]; exact h7
       have mm := (((m1.then m2).then m3).then m4).then m5
       clear h3 h4 h5 h6 h7 m1 m2 m3 m4 m5 z1 z2 z3 z4 z5 hq3 hq4 hq5 hq6 hq7))
  obtain ⟨wq, hwq⟩ : ∃ v, v = w5 := ⟨_, rfl⟩
  rw [← hwq] at k3 k4 k5 k6 k7 mm HB ⊢
  clear hwq
  replace k3 := k3.keep (Mod.drew [] wq) (by simp)
  replace k4 := k4.keep (Mod.drew [] wq) (by simp)
  replace k5 := k5.keep (Mod.drew [] wq) (by simp)
  replace k6 := k6.keep (Mod.drew [] wq) (by simp)
  replace k7 := k7.keep (Mod.drew [] wq) (by simp)
  have FM : ∀ v, Mod [b3] wq.drew v → Mod [] w v := fun v h => far_mod (mm.then (Mod.drew [] wq)) h (fun i hi => by simp at hi; have := HB.out; omega)
  have RA : ∀ v, Mod [b3] wq.drew v → Cells v A (l.flatMap ic) := fun v h => HR.out.1.keep (FM v h) (by simp)
  have RB : ∀ v, Mod [b3] wq.drew v → Cells v B (r.flatMap ic) := fun v h => HR.out.2.keep (FM v h) (by simp)
  have HQ : Hid (67 = l.length ∧ 3 = r.length ∧ b3 < wq.drew.heap.size ∧ b3 < wq.drew.heap.size) := Lib.hid ⟨HL.out.1.symm, HL.out.2.symm, by have := HB.out; exact Nat.lt_trans (by omega) HB.out.2.2.2.2.1, by have := HB.out; exact Nat.lt_trans (by omega) HB.out.2.2.2.2.1⟩
  clear mm
  refine wp_region_upx (X := XT) ⟨0, none, 0, 0, none, 0⟩ (fun x => [(8, .slice (some ⟨x.b, 0, none⟩) 0 0), (9, .pointer (some ⟨b3, 1, none⟩)), (10, .slice A 67 c), (11, .slice x.A 67 x.c), (12, .slice (some ⟨x.e, 0, none⟩) 0 0), (13, .pointer (some ⟨b3, 2, none⟩)), (14, .slice B 3 d), (15, .slice x.B 3 x.d), (16, .pointer (some ⟨b3, 1, none⟩)), (17, .pointer (some ⟨b3, 2, none⟩))]) 103 [8, 9, 10, 11, 12, 13, 14, 15, 16, 17] rfl (fun _ => rfl) (by decide) (by kernel_rfl) (fun x lz v => TwoS [b3] wq.drew (if lz 3 = true then ⟨x.A, x.c, l⟩ else if lz 0 = true then ⟨some ⟨x.b, 0, none⟩, 0, []⟩ else ⟨none, 0, []⟩) (if lz 7 = true then ⟨x.B, x.d, r⟩ else if lz 4 = true then ⟨some ⟨x.e, 0, none⟩, 0, []⟩ else ⟨none, 0, []⟩) v ∧ Holds v b3 50 (sgc i (if lz 9 = true then x.A else A) 67 (if lz 9 = true then x.c else c) (if lz 11 = true then x.B else B) 3 (if lz 11 = true then x.d else d))) (by kernel_rfl) ⟨TwoS.start _ (Mod.refl _ _), by simpa using k3⟩ (by kernel_rfl) (by kernel_rfl) ?step ?fin
  case step =>
    intro x lz T v j o hj hlj hdep hst hpar hgot hcl Kq hK
    have hjn : j < 12 := (Array.getElem?_eq_some_iff.1 hj).1
    obtain rfl | rfl | rfl | rfl | rfl | rfl | rfl | rfl | rfl | rfl | rfl | rfl : j = 0 ∨ j = 1 ∨ j = 2 ∨ j = 3 ∨ j = 4 ∨ j = 5 ∨ j = 6 ∨ j = 7 ∨ j = 8 ∨ j = 9 ∨ j = 10 ∨ j = 11 := by omega
    all_goals (have hj' := Option.some.inj (hj : some _ = some o); subst hj'; clear hj)
    · have l3 : lz 3 = false := (by cases hh : lz 3 with | false => rfl | true => exact absurd (hcl 3 _ rfl hh ⟨0, .data⟩ (by simp) rfl) (by rw [hlj]; simp))
      have h1 : TwoS [b3] wq.drew ⟨none, 0, []⟩ (if lz 7 = true then ⟨x.B, x.d, r⟩ else if lz 4 = true then ⟨some ⟨x.e, 0, none⟩, 0, []⟩ else ⟨none, 0, []⟩) v := by simpa [l3, hlj] using hst.1
      exact wp_ran rfl (exec_none33 rfl) (hK { x with b := v.heap.size } _ _ (fun j' o' s' g1 g2 g3 => by
          have g4 : j' < 12 := (Array.getElem?_eq_some_iff.1 g1).1
          clear hpar hgot hdep hK
          obtain rfl | rfl | rfl | rfl | rfl | rfl | rfl | rfl | rfl | rfl | rfl | rfl : j' = 0 ∨ j' = 1 ∨ j' = 2 ∨ j' = 3 ∨ j' = 4 ∨ j' = 5 ∨ j' = 6 ∨ j' = 7 ∨ j' = 8 ∨ j' = 9 ∨ j' = 10 ∨ j' = 11 := by omega
          all_goals (cases g1; cases g3 <;> first | rfl | (rw [hlj] at g2; cases g2) | (rw [l3] at g2; cases g2))) (fun s hs => by cases hs; rfl) ⟨by simpa [l3] using h1.lit, by simpa using hst.2.keep (Mod.alloc [] v _) (by simp)⟩)
    · exact wp_ran rfl (exec_fg1 rfl (eval_tmp ((hpar 3 rfl).trans rfl))) (hK x _ _ (fun _ _ _ _ _ _ => rfl) (fun s hs => by cases hs; rfl) (by simpa using hst))
    · have l9 : lz 9 = false := (by cases hh : lz 9 with | false => rfl | true => exact absurd (hcl 9 _ rfl hh ⟨2, .phase⟩ (by simp) rfl) (by rw [hlj]; simp))
      exact wp_ran rfl (exec_load rfl (eval_tmp (hgot 1 _ 9 rfl (hdep ⟨1, .data⟩ (by simp) rfl) rfl)) (run_load1 Tryd.underlying33 rfl (by have := hst.2.cell 1; simpa [sgc, l9] using this))) (hK x _ _ (fun _ _ _ _ _ _ => rfl) (fun s hs => by cases hs; rfl) (by simpa using hst))
    · have l9 : lz 9 = false := (by cases hh : lz 9 with | false => rfl | true => exact absurd (hcl 9 _ rfl hh ⟨3, .data⟩ (by simp) rfl) (by rw [hlj]; simp))
      have l0 : lz 0 = true := hdep ⟨0, .data⟩ (by simp) rfl
      have h1 : TwoS [b3] wq.drew ⟨some ⟨x.b, 0, none⟩, 0, []⟩ (if lz 7 = true then ⟨x.B, x.d, r⟩ else if lz 4 = true then ⟨some ⟨x.e, 0, none⟩, 0, []⟩ else ⟨none, 0, []⟩) v := by simpa [l0, hlj] using hst.1
      have hnb : b3 ∉ blk (some ⟨x.b, 0, none⟩) := fun hh => by have := (h1.2.2.2.1 _ hh).1; have := HQ.out.2.2.1; omega
      obtain ⟨A', c', v', r1, h2, m2⟩ := h1.app (ρ := T.eval) (o := { dst := some 11, op := .call { callee := .builtin .append, args := #[.tmp 8, .tmp 10], argTypes := #[33, 33] }, type := 33, pos := "x", after := #[], guard := none }) (.tmp 8) (.tmp 10) rfl (eval_tmp (hgot 0 _ 8 rfl (hdep ⟨0, .data⟩ (by simp) rfl) rfl)) HQ.out.1 (by omega) (eval_tmp (hgot 2 _ 10 rfl (hdep ⟨2, .data⟩ (by simp) rfl) rfl)) (RA v hst.1.1)
      exact wp_ran rfl r1 (hK { x with A := A', c := c' } _ _ (fun j' o' s' g1 g2 g3 => by
          have g4 : j' < 12 := (Array.getElem?_eq_some_iff.1 g1).1
          clear hpar hgot hdep hK
          obtain rfl | rfl | rfl | rfl | rfl | rfl | rfl | rfl | rfl | rfl | rfl | rfl : j' = 0 ∨ j' = 1 ∨ j' = 2 ∨ j' = 3 ∨ j' = 4 ∨ j' = 5 ∨ j' = 6 ∨ j' = 7 ∨ j' = 8 ∨ j' = 9 ∨ j' = 10 ∨ j' = 11 := by omega
          all_goals (cases g1; cases g3 <;> first | rfl | (rw [hlj] at g2; cases g2))) (fun s hs => by cases hs; rfl) ⟨by simpa using h2, by simpa [l9] using hst.2.keep m2 hnb⟩)
    · have l7 : lz 7 = false := (by cases hh : lz 7 with | false => rfl | true => exact absurd (hcl 7 _ rfl hh ⟨4, .data⟩ (by simp) rfl) (by rw [hlj]; simp))
      have h1 : TwoS [b3] wq.drew (if lz 3 = true then ⟨x.A, x.c, l⟩ else if lz 0 = true then ⟨some ⟨x.b, 0, none⟩, 0, []⟩ else ⟨none, 0, []⟩) ⟨none, 0, []⟩ v := by simpa [l7, hlj] using hst.1
      exact wp_ran rfl (exec_none33 rfl) (hK { x with e := v.heap.size } _ _ (fun j' o' s' g1 g2 g3 => by
          have g4 : j' < 12 := (Array.getElem?_eq_some_iff.1 g1).1
          clear hpar hgot hdep hK
          obtain rfl | rfl | rfl | rfl | rfl | rfl | rfl | rfl | rfl | rfl | rfl | rfl : j' = 0 ∨ j' = 1 ∨ j' = 2 ∨ j' = 3 ∨ j' = 4 ∨ j' = 5 ∨ j' = 6 ∨ j' = 7 ∨ j' = 8 ∨ j' = 9 ∨ j' = 10 ∨ j' = 11 := by omega
          all_goals (cases g1; cases g3 <;> first | rfl | (rw [hlj] at g2; cases g2) | (rw [l7] at g2; cases g2))) (fun s hs => by cases hs; rfl) ⟨by simpa [l7] using h1.swap.lit.swap, by simpa using hst.2.keep (Mod.alloc [] v _) (by simp)⟩)
    · exact wp_ran rfl (exec_fg2 rfl (eval_tmp ((hpar 3 rfl).trans rfl))) (hK x _ _ (fun _ _ _ _ _ _ => rfl) (fun s hs => by cases hs; rfl) (by simpa using hst))
    · have l11 : lz 11 = false := (by cases hh : lz 11 with | false => rfl | true => exact absurd (hcl 11 _ rfl hh ⟨6, .phase⟩ (by simp) rfl) (by rw [hlj]; simp))
      exact wp_ran rfl (exec_load rfl (eval_tmp (hgot 5 _ 13 rfl (hdep ⟨5, .data⟩ (by simp) rfl) rfl)) (run_load1 Tryd.underlying33 rfl (by have := hst.2.cell 2; simpa [sgc, l11] using this))) (hK x _ _ (fun _ _ _ _ _ _ => rfl) (fun s hs => by cases hs; rfl) (by simpa using hst))
    · have l11 : lz 11 = false := (by cases hh : lz 11 with | false => rfl | true => exact absurd (hcl 11 _ rfl hh ⟨7, .data⟩ (by simp) rfl) (by rw [hlj]; simp))
      have l4 : lz 4 = true := hdep ⟨4, .data⟩ (by simp) rfl
      have h1 : TwoS [b3] wq.drew (if lz 3 = true then ⟨x.A, x.c, l⟩ else if lz 0 = true then ⟨some ⟨x.b, 0, none⟩, 0, []⟩ else ⟨none, 0, []⟩) ⟨some ⟨x.e, 0, none⟩, 0, []⟩ v := by simpa [l4, hlj] using hst.1
      have hnb : b3 ∉ blk (some ⟨x.e, 0, none⟩) := fun hh => by have := (h1.swap.2.2.2.1 _ hh).1; have := HQ.out.2.2.1; omega
      obtain ⟨A', c', v', r1, h2, m2⟩ := h1.swap.app (ρ := T.eval) (o := { dst := some 15, op := .call { callee := .builtin .append, args := #[.tmp 12, .tmp 14], argTypes := #[33, 33] }, type := 33, pos := "x", after := #[], guard := none }) (.tmp 12) (.tmp 14) rfl (eval_tmp (hgot 4 _ 12 rfl (hdep ⟨4, .data⟩ (by simp) rfl) rfl)) HQ.out.2.1 (by omega) (eval_tmp (hgot 6 _ 14 rfl (hdep ⟨6, .data⟩ (by simp) rfl) rfl)) (RB v hst.1.1)
      exact wp_ran rfl r1 (hK { x with B := A', d := c' } _ _ (fun j' o' s' g1 g2 g3 => by
          have g4 : j' < 12 := (Array.getElem?_eq_some_iff.1 g1).1
          clear hpar hgot hdep hK
          obtain rfl | rfl | rfl | rfl | rfl | rfl | rfl | rfl | rfl | rfl | rfl | rfl : j' = 0 ∨ j' = 1 ∨ j' = 2 ∨ j' = 3 ∨ j' = 4 ∨ j' = 5 ∨ j' = 6 ∨ j' = 7 ∨ j' = 8 ∨ j' = 9 ∨ j' = 10 ∨ j' = 11 := by omega
          all_goals (cases g1; cases g3 <;> first | rfl | (rw [hlj] at g2; cases g2))) (fun s hs => by cases hs; rfl) ⟨by simpa using h2.swap, by simpa [l11] using hst.2.keep m2 hnb⟩)
    · exact wp_ran rfl (exec_fg1 rfl (eval_tmp ((hpar 3 rfl).trans rfl))) (hK x _ _ (fun _ _ _ _ _ _ => rfl) (fun s hs => by cases hs; rfl) (by simpa using hst))
    · have a3 : lz 3 = true := hdep ⟨3, .data⟩ (by simp) rfl
      refine wp_sg (k := 1) (t := 50) (cs := sgc i (if lz 9 = true then x.A else A) 67 (if lz 9 = true then x.c else c) (if lz 11 = true then x.B else B) 3 (if lz 11 = true then x.d else d)) (u := .slice x.A 67 x.c) rfl rfl (eval_tmp (hgot 8 _ 16 rfl (hdep ⟨8, .data⟩ (by simp) rfl) rfl)) (eval_tmp (hgot 3 _ 11 rfl (hdep ⟨3, .data⟩ (by simp) rfl) rfl)) rfl one33 hst.2 (by simp [sgc]) (fun v' q1 q2 => hK x undef _ (fun _ _ _ _ _ _ => rfl) (fun s hs => by cases hs) ⟨by simpa using hst.1.turn q2 (by simp) HQ.out.2.2.2, by simpa [hlj, sgc] using q1⟩)
    · exact wp_ran rfl (exec_fg2 rfl (eval_tmp ((hpar 3 rfl).trans rfl))) (hK x _ _ (fun _ _ _ _ _ _ => rfl) (fun s hs => by cases hs; rfl) (by simpa using hst))
    · have a7 : lz 7 = true := hdep ⟨7, .data⟩ (by simp) rfl
      refine wp_sg (k := 2) (t := 50) (cs := sgc i (if lz 9 = true then x.A else A) 67 (if lz 9 = true then x.c else c) (if lz 11 = true then x.B else B) 3 (if lz 11 = true then x.d else d)) (u := .slice x.B 3 x.d) rfl rfl (eval_tmp (hgot 10 _ 17 rfl (hdep ⟨10, .data⟩ (by simp) rfl) rfl)) (eval_tmp (hgot 7 _ 15 rfl (hdep ⟨7, .data⟩ (by simp) rfl) rfl)) rfl one33 hst.2 (by simp [sgc]) (fun v' q1 q2 => hK x undef _ (fun _ _ _ _ _ _ => rfl) (fun s hs => by cases hs) ⟨by simpa using hst.1.turn q2 (by simp) HQ.out.2.2.2, by simpa [hlj, sgc] using q1⟩)
  case fin =>
  intro x lz vr hlz hst
  have h1 : TwoS [b3] wq.drew ⟨x.A, x.c, l⟩ ⟨x.B, x.d, r⟩ vr := by simpa [hlz 3 (by decide), hlz 7 (by decide)] using hst.1
  have h3 : Holds vr b3 50 (sgc i x.A 67 x.c x.B 3 x.d) := by simpa [hlz 9 (by decide), hlz 11 (by decide)] using hst.2
  have mm := FM vr h1.1
  have h4 : Holds vr b4 23 (ic m0) := k4.keep h1.1 (by simp; have := HB.out; omega)
  have h5 : Holds vr b5 57 (tuc ⟨tk, ta, ty⟩) := k5.keep h1.1 (by simp; have := HB.out; omega)
  have h6 : Holds vr b6 50 (sgc 0 none 0 0 none 0 0) := k6.keep h1.1 (by simp; have := HB.out; omega)
  have h7 : Holds vr b7 23 (ic zeroI) := k7.keep h1.1 (by simp; have := HB.out; omega)
  have O1 : OwnG ic 23 32 vr x.A x.c l := h1.2.1
  have P1 : OwnG ic 23 32 vr x.B x.d r := h1.2.2.1
  have n1 : ∀ j ∈ blk x.A, b7 < j ∧ j ∉ blk x.B := fun j hj => by have := h1.2.2.2.1 j hj; exact ⟨Nat.lt_of_lt_of_le HB.out.2.2.2.2.1 (Nat.le_trans (Nat.le_of_eq rfl) this.1), this.2⟩
  have n2 : ∀ j ∈ blk x.B, b7 < j := fun j hj => Nat.lt_of_lt_of_le HB.out.2.2.2.2.1 (h1.2.2.2.2 j hj)
  clear hst hlz h1 k3 k4 k5 k6 k7 RA RB FM
  obtain ⟨xb, A1, c1, xe, B1, d1⟩ := x
  simp only at h3 O1 P1 n1 n2
  simp only [Act.put, setAll, List.setIfInBounds_toArray, List.foldl_cons, List.foldl_nil, List.set_cons_succ, List.set_cons_zero]
  have e0 := tu_k h5
  have e1 := tu_a h5
  simp only at e0 e1
  obtain ⟨pr, hpr⟩ : ∃ q : Int, q = ua % 2 := ⟨_, rfl⟩
  obtain ⟨h, hh⟩ : ∃ h : Nat, (h : Int) = 68 - 2 * pr := ⟨(68 - 2 * pr).toNat, by have := HU.out; omega⟩
  have HP : Hid (pr = ua % 2 ∧ 0 ≤ pr ∧ pr < 100000 ∧ IntKind.i64.wrap (2 * pr) = 2 * pr ∧ IntKind.i64.wrap (68 - 2 * pr) = (h : Int) ∧ h ≤ 68) := Lib.hid ⟨hpr, by have := HU.out; omega, by have := HU.out; omega, IntWalk.i64_in _ (by have := HU.out; omega), by rw [hh]; exact IntWalk.i64_in _ (by have := HU.out; omega), by have := HU.out; omega⟩
  clear hpr hh
  obtain ⟨i0, j1, j2, j3, j4⟩ := info_parts id_parts
  have HI := Lib.hid (And.intro j1 (And.intro j2 (And.intro j3 j4)))
  clear j1 j2 j3 j4
  go_wp2_with (first
    | (with_reducible refine wpList_ranW (o := ⟨some 20, .convert _ _ _, _, _, _, _⟩) (by with_unfolding_all rfl) (.int .u64 u) _ (exec_conv1 HU.out.1 rfl rfl) ?_)
    | (with_reducible refine wpList_ranW (o := ⟨some 21, .binOp .rem _ _ _ _, _, _, _, _⟩) (by with_unfolding_all rfl) (.int .u64 3) _ (exec_remZ HU.out.2.1 (by decide) HU.out.2.2.1 rfl rfl rfl) ?_))
  obtain ⟨wq2, hwq2⟩ : ∃ v, v = vr := ⟨_, rfl⟩
  rw [← hwq2] at h3 h4 h5 h6 h7 O1 P1 mm ⊢
  clear hwq2 e0 e1
  replace h3 := h3.keep (Mod.drew [] wq2) (by simp)
  replace h4 := h4.keep (Mod.drew [] wq2) (by simp)
  replace h5 := h5.keep (Mod.drew [] wq2) (by simp)
  replace h6 := h6.keep (Mod.drew [] wq2) (by simp)
  replace h7 := h7.keep (Mod.drew [] wq2) (by simp)
  replace O1 := O1.keep (Mod.drew [] wq2) (by simp)
  replace P1 := P1.keep (Mod.drew [] wq2) (by simp)
  replace mm := mm.then (Mod.drew [] wq2)
  have b3A : b3 ∉ blk A1 := fun hh => by have := (n1 _ hh).1; have := HB.out; omega
  have b5A : b5 ∉ b3 :: blk A1 := fun hh => by
    rcases List.mem_cons.1 hh with e | hh
    · have := HB.out; omega
    · have := (n1 _ hh).1; have := HB.out; omega
  have h7w : b7 < wq2.drew.heap.size := h7.lt
  have HLT : ∀ j ∈ blk A1, j < wq2.drew.heap.size := fun j hj => by obtain ⟨a, ha, rfl⟩ := mem_blk hj; exact O1.lt a ha
  refine wp_region_upx (X := XU) ⟨0, none, 0⟩ (fun x => [(61, .pointer (some ⟨b3, 1, none⟩)), (62, .slice A1 67 c1), (63, .pointer (some ⟨b5, 2, none⟩)), (64, iv ty), (65, .slice (some ⟨x.b, 0, none⟩) 1 1), (66, .slice x.A 68 x.c), (67, .pointer (some ⟨b3, 1, none⟩)), (68, .slice A1 67 c1), (69, .int .i64 67), (70, .int .i64 68), (71, .pointer (some ⟨b5, 1, none⟩)), (72, .int .i64 ta), (73, .int .u64 ua), (74, .int .u64 pr), (75, .int .i64 pr), (76, .int .i64 (2 * pr)), (77, .int .i64 (h : Int)), (78, .slice x.A h x.c), (79, .pointer (some ⟨b3, 1, none⟩))]) 103 [61, 62, 63, 64, 65, 66, 67, 68, 69, 70, 71, 72, 73, 74, 75, 76, 77, 78, 79] rfl (fun _ => rfl) (by decide) (by kernel_rfl) (fun x lz v => Mod (b3 :: blk A1) wq2.drew v ∧ (lz 4 = true → Holds v x.b 23 (ic ty) ∧ wq2.drew.heap.size ≤ x.b) ∧ (if lz 5 = true then (OwnG ic 23 32 v x.A x.c (l ++ [ty]) ∧ ∀ j ∈ blk x.A, j ∈ blk A1 ∨ wq2.drew.heap.size ≤ j) else OwnG ic 23 32 v A1 c1 l) ∧ Holds v b3 50 (if lz 19 = true then sgc i x.A h x.c B1 3 d1 else sgc i A1 67 c1 B1 3 d1)) (by kernel_rfl) ⟨Mod.refl _ _, (fun h => by cases h), by simpa using O1, by simpa using h3⟩ (by kernel_rfl) (by kernel_rfl) ?step ?fin
  case step =>
    intro x lz T v j o hj hlj hdep hst hpar hgot hcl Kq hK
    have hjn : j < 20 := (Array.getElem?_eq_some_iff.1 hj).1
    obtain rfl | rfl | rfl | rfl | rfl | rfl | rfl | rfl | rfl | rfl | rfl | rfl | rfl | rfl | rfl | rfl | rfl | rfl | rfl | rfl : j = 0 ∨ j = 1 ∨ j = 2 ∨ j = 3 ∨ j = 4 ∨ j = 5 ∨ j = 6 ∨ j = 7 ∨ j = 8 ∨ j = 9 ∨ j = 10 ∨ j = 11 ∨ j = 12 ∨ j = 13 ∨ j = 14 ∨ j = 15 ∨ j = 16 ∨ j = 17 ∨ j = 18 ∨ j = 19 := by omega
    all_goals (have hj' := Option.some.inj (hj : some _ = some o); subst hj'; clear hj)
    · exact wp_ran rfl (exec_fg1 rfl (eval_tmp ((hpar 3 rfl).trans rfl))) (hK x _ _ (fun _ _ _ _ _ _ => rfl) (fun s hs => by cases hs; rfl) (by simpa using hst))
    · have l19 : lz 19 = false := (by cases hh : lz 19 with | false => rfl | true => exact absurd (hcl 19 _ rfl hh ⟨1, .phase⟩ (by simp) rfl) (by rw [hlj]; simp))
      exact wp_ran rfl (exec_load rfl (eval_tmp (hgot 0 _ 61 rfl (hdep ⟨0, .data⟩ (by simp) rfl) rfl)) (run_load1 Tryd.underlying33 rfl (by have := hst.2.2.2.cell 1; simpa [sgc, l19] using this))) (hK x _ _ (fun _ _ _ _ _ _ => rfl) (fun s hs => by cases hs; rfl) (by simpa using hst))
    · exact wp_ran rfl (exec_tu2 rfl (eval_tmp ((hpar 5 rfl).trans rfl))) (hK x _ _ (fun _ _ _ _ _ _ => rfl) (fun s hs => by cases hs; rfl) (by simpa using hst))
    · exact wp_ran rfl (exec_load rfl (eval_tmp (hgot 2 _ 63 rfl (hdep ⟨2, .data⟩ (by simp) rfl) rfl)) (run_loads (tu_y (h5.keep hst.1 b5A)) Tryd.underlying23 rfl (size25i ty))) (hK x _ _ (fun _ _ _ _ _ _ => rfl) (fun s hs => by cases hs; rfl) (by simpa using hst))
    · have l5 : lz 5 = false := (by cases hh : lz 5 with | false => rfl | true => exact absurd (hcl 5 _ rfl hh ⟨4, .data⟩ (by simp) rfl) (by rw [hlj]; simp))
      refine wp_ran rfl (exec_lit22 rfl (eval_tmp (hgot 3 _ 64 rfl (hdep ⟨3, .data⟩ (by simp) rfl) rfl))) (hK { x with b := v.heap.size } _ _ (fun j' o' s' g1 g2 g3 => by
          have g4 : j' < 20 := (Array.getElem?_eq_some_iff.1 g1).1
          clear hpar hgot hdep hK
          obtain rfl | rfl | rfl | rfl | rfl | rfl | rfl | rfl | rfl | rfl | rfl | rfl | rfl | rfl | rfl | rfl | rfl | rfl | rfl | rfl : j' = 0 ∨ j' = 1 ∨ j' = 2 ∨ j' = 3 ∨ j' = 4 ∨ j' = 5 ∨ j' = 6 ∨ j' = 7 ∨ j' = 8 ∨ j' = 9 ∨ j' = 10 ∨ j' = 11 ∨ j' = 12 ∨ j' = 13 ∨ j' = 14 ∨ j' = 15 ∨ j' = 16 ∨ j' = 17 ∨ j' = 18 ∨ j' = 19 := by omega
          all_goals (cases g1; cases g3 <;> first | rfl | (rw [hlj] at g2; cases g2) | (rw [l5] at g2; cases g2))) (fun s hs => by cases hs; rfl) ⟨hst.1.then (Mod.alloc [] v _), fun _ => ⟨Holds.made v 23 _, hst.1.size⟩, ?_, by simpa using hst.2.2.2.keep (Mod.alloc [] v _) (by simp)⟩)
      have hO := hst.2.2.1
      rw [if_neg (by rw [l5]; simp)] at hO
      rw [if_neg (by simp [l5])]
      exact hO.keep (Mod.alloc [] v _) (by simp)
    · have l17 : lz 17 = false := (by cases hh : lz 17 with | false => rfl | true => exact absurd (hcl 17 _ rfl hh ⟨5, .data⟩ (by simp) rfl) (by rw [hlj]; simp))
      have l19 : lz 19 = false := (by cases hh : lz 19 with | false => rfl | true => exact absurd (hcl 19 _ rfl hh ⟨5, .phase⟩ (by simp) rfl) (by rw [hlj]; simp))
      have hO := hst.2.2.1
      rw [if_neg (by rw [hlj]; simp)] at hO
      have h4' := hst.2.1 (hdep ⟨4, .data⟩ (by simp) rfl)
      have hp := hst.2.2.2
      rw [if_neg (by rw [l19]; simp)] at hp
      obtain ⟨A', c', v', r1, r2, r3, r4⟩ := exec_appendG (P := Tryd.prog) (f := ic) (size := 32) v (o := { dst := some 66, op := .call { callee := .builtin .append, args := #[.tmp 62, .tmp 65], argTypes := #[33, 33] }, type := 33, pos := "x", after := #[], guard := none }) (ρ := T.eval) (.tmp 62) (.tmp 65) 33 rfl 23 i0 (iv zeroI) 32 Tryd.underlying33 HI.out.1 HI.out.2.1 HI.out.2.2.1 HI.out.2.2.2 (by rfl) (by decide) ic_length ic_one A1 c1 l (by rw [HL.out.1]; exact (eval_tmp (hgot 1 _ 62 rfl (hdep ⟨1, .data⟩ (by simp) rfl) rfl))) hO ⟨x.b, 0, none⟩ 1 [ty] (eval_tmp (hgot 4 _ 65 rfl (hdep ⟨4, .data⟩ (by simp) rfl) rfl)) (by simpa using Cells.of_holds h4'.1) (by rw [HL.out.1]; simp) (by rw [HL.out.1]; simp [maxLen])
      have e68 : (l ++ [ty]).length = 68 := by simp [HL.out.1]
      rw [e68] at r1
      refine wp_ran rfl r1 (hK { x with A := A', c := c' } _ _ (fun j' o' s' g1 g2 g3 => by
          have g4 : j' < 20 := (Array.getElem?_eq_some_iff.1 g1).1
          clear hpar hgot hdep hK
          obtain rfl | rfl | rfl | rfl | rfl | rfl | rfl | rfl | rfl | rfl | rfl | rfl | rfl | rfl | rfl | rfl | rfl | rfl | rfl | rfl : j' = 0 ∨ j' = 1 ∨ j' = 2 ∨ j' = 3 ∨ j' = 4 ∨ j' = 5 ∨ j' = 6 ∨ j' = 7 ∨ j' = 8 ∨ j' = 9 ∨ j' = 10 ∨ j' = 11 ∨ j' = 12 ∨ j' = 13 ∨ j' = 14 ∨ j' = 15 ∨ j' = 16 ∨ j' = 17 ∨ j' = 18 ∨ j' = 19 := by omega
          all_goals (cases g1; cases g3 <;> first | rfl | (rw [hlj] at g2; cases g2) | (rw [l17] at g2; cases g2))) (fun s hs => by cases hs; rfl) ⟨hst.1.trans r3 (fun i _ hi => List.mem_cons_of_mem _ hi), fun h => ⟨h4'.1.keep r3 (fun hh => by have := HLT _ hh; have := h4'.2; omega), h4'.2⟩, ?_, ?_⟩)
      · rw [if_pos (by simp)]
        refine ⟨r2, fun j hj => ?_⟩
        obtain ⟨a, ha, rfl⟩ := mem_blk hj
        exact (r4 a ha).imp id (fun h => Nat.le_trans hst.1.size h)
      · rw [if_neg (by simp [l19])]
        exact hp.keep r3 b3A
    · exact wp_ran rfl (exec_fg1 rfl (eval_tmp ((hpar 3 rfl).trans rfl))) (hK x _ _ (fun _ _ _ _ _ _ => rfl) (fun s hs => by cases hs; rfl) (by simpa using hst))
    · have l19 : lz 19 = false := (by cases hh : lz 19 with | false => rfl | true => exact absurd (hcl 19 _ rfl hh ⟨7, .phase⟩ (by simp) rfl) (by rw [hlj]; simp))
      exact wp_ran rfl (exec_load rfl (eval_tmp (hgot 6 _ 67 rfl (hdep ⟨6, .data⟩ (by simp) rfl) rfl)) (run_load1 Tryd.underlying33 rfl (by have := hst.2.2.2.cell 1; simpa [sgc, l19] using this))) (hK x _ _ (fun _ _ _ _ _ _ => rfl) (fun s hs => by cases hs; rfl) (by simpa using hst))
    · exact wp_ran rfl (exec_len Tryd.underlying33 rfl (eval_tmp (hgot 7 _ 68 rfl (hdep ⟨7, .data⟩ (by simp) rfl) rfl))) (hK x _ _ (fun _ _ _ _ _ _ => rfl) (fun s hs => by cases hs; rfl) (by simpa using hst))
    · exact wp_ran rfl (exec_add (c := 68) rfl (eval_tmp (hgot 8 _ 69 rfl (hdep ⟨8, .data⟩ (by simp) rfl) rfl)) rfl (by decide)) (hK x _ _ (fun _ _ _ _ _ _ => rfl) (fun s hs => by cases hs; rfl) (by simpa using hst))
    · exact wp_ran rfl (exec_tu1 rfl (eval_tmp ((hpar 5 rfl).trans rfl))) (hK x _ _ (fun _ _ _ _ _ _ => rfl) (fun s hs => by cases hs; rfl) (by simpa using hst))
    · exact wp_ran rfl (exec_load rfl (eval_tmp (hgot 10 _ 71 rfl (hdep ⟨10, .data⟩ (by simp) rfl) rfl)) (run_load1 Tryd.underlying3 rfl (tu_a (h5.keep hst.1 b5A)))) (hK x _ _ (fun _ _ _ _ _ _ => rfl) (fun s hs => by cases hs; rfl) (by simpa using hst))
    · exact wp_ran rfl (exec_conv1 HU.out.2.2.2.1 rfl (eval_tmp (hgot 11 _ 72 rfl (hdep ⟨11, .data⟩ (by simp) rfl) rfl))) (hK x _ _ (fun _ _ _ _ _ _ => rfl) (fun s hs => by cases hs; rfl) (by simpa using hst))
    · exact wp_ran rfl (exec_remZ HU.out.2.2.2.2 (by decide) HP.out.1 rfl (eval_tmp (hgot 12 _ 73 rfl (hdep ⟨12, .data⟩ (by simp) rfl) rfl)) rfl) (hK x _ _ (fun _ _ _ _ _ _ => rfl) (fun s hs => by cases hs; rfl) (by simpa using hst))
    · exact wp_ran rfl (exec_conv2Z HP.out.2.1 HP.out.2.2.1 rfl (eval_tmp (hgot 13 _ 74 rfl (hdep ⟨13, .data⟩ (by simp) rfl) rfl))) (hK x _ _ (fun _ _ _ _ _ _ => rfl) (fun s hs => by cases hs; rfl) (by simpa using hst))
    · exact wp_ran rfl (exec_mul rfl rfl (eval_tmp (hgot 14 _ 75 rfl (hdep ⟨14, .data⟩ (by simp) rfl) rfl)) HP.out.2.2.2.1) (hK x _ _ (fun _ _ _ _ _ _ => rfl) (fun s hs => by cases hs; rfl) (by simpa using hst))
    · exact wp_ran rfl (exec_sub rfl (eval_tmp (hgot 9 _ 70 rfl (hdep ⟨9, .data⟩ (by simp) rfl) rfl)) (eval_tmp (hgot 15 _ 76 rfl (hdep ⟨15, .data⟩ (by simp) rfl) rfl)) HP.out.2.2.2.2.1) (hK x _ _ (fun _ _ _ _ _ _ => rfl) (fun s hs => by cases hs; rfl) (by simpa using hst))
    · have a5 := hst.2.2.1
      rw [if_pos (hdep ⟨5, .data⟩ (by simp) rfl)] at a5
      exact wp_ran rfl (exec_uptoy Tryd.underlying33 size25 (Nat.le_trans HP.out.2.2.2.2.2 (by have := a5.1.fits.1; simp [HL.out.1] at this; exact this)) rfl (eval_tmp (hgot 5 _ 66 rfl (hdep ⟨5, .data⟩ (by simp) rfl) rfl)) (eval_tmp (hgot 16 _ 77 rfl (hdep ⟨16, .data⟩ (by simp) rfl) rfl))) (hK x _ _ (fun _ _ _ _ _ _ => rfl) (fun s hs => by cases hs; rfl) (by simpa using hst))
    · exact wp_ran rfl (exec_fg1 rfl (eval_tmp ((hpar 3 rfl).trans rfl))) (hK x _ _ (fun _ _ _ _ _ _ => rfl) (fun s hs => by cases hs; rfl) (by simpa using hst))
    · have a5 := hst.2.2.1
      have l5 : lz 5 = true := hdep ⟨5, .phase⟩ (by simp) rfl
      rw [if_pos l5] at a5
      refine wp_sg (k := 1) (t := 50) (cs := sgc i A1 67 c1 B1 3 d1) (u := .slice x.A h x.c) rfl rfl (eval_tmp (hgot 18 _ 79 rfl (hdep ⟨18, .data⟩ (by simp) rfl) rfl)) (eval_tmp (hgot 17 _ 78 rfl (hdep ⟨17, .data⟩ (by simp) rfl) rfl)) rfl one33 (by have := hst.2.2.2; rwa [if_neg (by rw [hlj]; simp)] at this) (by simp [sgc]) (fun v' q1 q2 => hK x undef _ (fun _ _ _ _ _ _ => rfl) (fun s hs => by cases hs) ⟨hst.1.trans q2 (fun i _ hi => by simp at hi; rw [hi]; exact List.mem_cons_self ..), fun h => ⟨(hst.2.1 (by simpa using h)).1.keep q2 (by have := (hst.2.1 (by simpa using h)).2; simp; have := HB.out; omega), (hst.2.1 (by simpa using h)).2⟩, ?_, by rw [if_pos (by simp)]; exact q1⟩)
      rw [if_pos (by simp [l5])]
      exact ⟨a5.1.keep q2 (fun a ha hm => by
        simp at hm
        rcases a5.2 a.block (by simp [blk, ha]) with hh | hh
        · exact b3A (hm ▸ hh)
        · have := HB.out; omega), a5.2⟩
  case fin =>
  intro x lz vy hlz hst
  obtain ⟨qm, _, q4, q3⟩ := hst
  rw [if_pos (hlz 5 (by decide))] at q4
  rw [if_pos (hlz 19 (by decide))] at q3
  obtain ⟨q4, q5⟩ := q4
  have nx : ∀ j, j ≤ b7 → j ≠ b3 → j ∉ b3 :: blk A1 := fun j hj h3' hh => by
    rcases List.mem_cons.1 hh with e | hh
    · exact h3' e
    · have := (n1 _ hh).1
      omega
  replace h3 := q3
  replace h4 := h4.keep qm (nx _ (by have := HB.out; omega) (by have := HB.out; omega))
  replace h6 := h6.keep qm (nx _ (by have := HB.out; omega) (by have := HB.out; omega))
  replace h7 := h7.keep qm (nx _ (by have := HB.out; omega) (by have := HB.out; omega))
  replace P1 := (P1.keep qm (fun a ha hm => by
    rcases List.mem_cons.1 hm with e | hh
    · have := n2 a.block (by simp [blk, ha]); have := HB.out; omega
    · exact (n1 _ hh).2 (by simp [blk, ha]))).cells
  have q6 := q4.cells.preI h
  rw [show (l ++ [ty]).take h = (l ++ [ty]).take h from rfl] at q6
  replace O1 := q6
  replace mm := far_mod mm qm (fun j hj => by
    rcases List.mem_cons.1 hj with e | hh
    · have := HB.out; omega
    · have := (n1 _ hh).1; have := HB.out; omega)
  have nA : ∀ a, x.A = some a → a.block ∉ [b6, b7] := fun a ha => by
    rcases q5 a.block (by simp [blk, ha]) with hh | hh
    · have := (n1 _ hh).1; have := HB.out; simp; omega
    · have := HB.out; simp; omega
  have nB : ∀ a, B1 = some a → a.block ∉ [b6, b7] := fun a ha => by have := n2 a.block (by simp [blk, ha]); have := HB.out; simp; omega
  clear q4 q5 q6 q3 qm hlz
  simp only [Act.put, setAll, List.setIfInBounds_toArray, List.foldl_cons, List.foldl_nil, List.set_cons_succ, List.set_cons_zero]
  go_wp2_with fail
  obtain ⟨wz, hwz⟩ : ∃ v, v = vy := ⟨_, rfl⟩
  rw [← hwz] at h3 h4 h6 h7 O1 P1 mm ⊢
  clear hwz
  replace h3 := h3.keep (Mod.drew [] wz) (by simp)
  replace h4 := h4.keep (Mod.drew [] wz) (by simp)
  replace h6 := h6.keep (Mod.drew [] wz) (by simp)
  replace h7 := h7.keep (Mod.drew [] wz) (by simp)
  refine wp_region_ups [(101, .agg (sgc i x.A h x.c B1 3 d1).toArray), (102, iv m0)] 103 [101, 102] rfl rfl (by decide) (by kernel_rfl) (fun lz v => Mod [b6, b7] wz.drew v ∧ Holds v b6 50 (if lz 2 = true then sgc i x.A h x.c B1 3 d1 else sgc 0 none 0 0 none 0 0) ∧ Holds v b7 23 (if lz 3 = true then ic m0 else ic zeroI)) (by kernel_rfl) ⟨Mod.refl _ _, by simpa using h6, by simpa using h7⟩ (by kernel_rfl) (by kernel_rfl) ?step ?fin
  case step =>
    intro lz T v j o hj hlj hdep hst hpar hgot hcl Kq hK
    have hjn : j < 4 := (Array.getElem?_eq_some_iff.1 hj).1
    obtain rfl | rfl | rfl | rfl : j = 0 ∨ j = 1 ∨ j = 2 ∨ j = 3 := by omega
    all_goals (have hj' := Option.some.inj (hj : some _ = some o); subst hj'; clear hj)
    · exact wp_ran rfl (exec_load rfl (eval_tmp ((hpar 3 rfl).trans rfl)) (run_loads (Cells.of_holds (h3.keep hst.1 (by simp; have := HB.out; omega))) Tryd.underlying50 rfl (size50s _ _ _ _ _ _ _))) (hK _ _ (fun s hs => by cases hs; rfl) (by simpa using hst))
    · exact wp_ran rfl (exec_load rfl (eval_tmp ((hpar 4 rfl).trans rfl)) (run_loads (Cells.of_holds (h4.keep hst.1 (by simp; have := HB.out; omega))) Tryd.underlying23 rfl (size25i m0))) (hK _ _ (fun s hs => by cases hs; rfl) (by simpa using hst))
    · have hp := hst.2.1
      rw [if_neg (by rw [hlj]; simp)] at hp
      refine wp_stored (ty := 50) (V := .agg (sgc i x.A h x.c B1 3 d1).toArray) (cs := sgc i x.A h x.c B1 3 d1) rfl rfl (eval_tmp ((hpar 6 rfl).trans rfl)) (eval_tmp (hgot 0 _ 101 rfl (hdep ⟨0, .data⟩ (by simp) rfl) rfl)) rfl hp rfl (sgc_one _ _ _ _ _ _ _) (size50s _ _ _ _ _ _ _) (fun v' q1 q2 => hK undef _ (fun s hs => by cases hs) ⟨hst.1.trans q2 (fun i _ hi => by simp at hi ⊢; exact .inl hi), by simpa using q1, by simpa using hst.2.2.keep q2 (by simp; have := HB.out; omega)⟩)
    · have hp := hst.2.2
      rw [if_neg (by rw [hlj]; simp)] at hp
      refine wp_stored (ty := 23) (V := iv m0) (cs := ic m0) rfl rfl (eval_tmp ((hpar 7 rfl).trans rfl)) (eval_tmp (hgot 1 _ 102 rfl (hdep ⟨1, .data⟩ (by simp) rfl) rfl)) rfl hp (by rw [ic_length, ic_length]) (ic_one m0) (size25i m0) (fun v' q1 q2 => hK undef _ (fun s hs => by cases hs) ⟨hst.1.trans q2 (fun i _ hi => by simp at hi ⊢; exact .inr hi), by simpa using hst.2.1.keep q2 (by simp; have := HB.out; omega), by simpa using q1⟩)
  case fin =>
  intro lz vz hlz hst
  obtain ⟨s1, s2, s3⟩ := hst
  rw [if_pos (hlz 2 (by decide))] at s2
  rw [if_pos (hlz 3 (by decide))] at s3
  have mz : Mod [] w vz := far_mod (mm.then (Mod.drew [] wz)) s1 (fun i hi => by simp at hi; have := HB.out; omega)
  replace O1 := (O1.keep (Mod.drew [] wz) (by simp)).keep s1 (fun a ha => nA a ha)
  replace P1 := (P1.keep (Mod.drew [] wz) (by simp)).keep s1 (fun a ha => nB a ha)
  simp only [Act.put, setAll, List.setIfInBounds_toArray, List.foldl_cons, List.foldl_nil, List.set_cons_succ, List.set_cons_zero]
  go_wp2_with fail
  refine bodyPost_ret (results_cells rfl _ _ b6 b7 (sgc i x.A h x.c B1 3 d1) (ic m0) _ _ rfl rfl (Cells.of_holds s2) (Cells.of_holds s3) Tryd.underlying50 rfl (size50s _ _ _ _ _ _ _) Tryd.underlying23 rfl (size25i m0)) rfl ?_
  exact ⟨_, _, _, _, ((l ++ [ty]).take h), _, _, _, r, _, rfl, by simp [HL.out.1]; have := HP.out.2.2.2.2.2; omega, by simp [HL.out.2], O1, P1, mz⟩
set_option maxRecDepth 100000 in
set_option maxHeartbeats 4000000 in
theorem turned_4 (i : Int) (A : Option Addr) (c : Nat) (l : List Idv) (hl : l.length = 67) (B : Option Addr) (d : Nat) (r : List Idv) (hr : r.length = 3) (m0 : Idv) (t : Tur) (hk : t.k % 18446744073709551616 % 6 = 4) (w : World) (RA : Cells w A (l.flatMap ic)) (RB : Cells w B (r.flatMap ic)) :
    Calls Tryd.prog 27 #[.agg (sgc i A 67 c B 3 d).toArray, iv m0, .agg (tuc t).toArray] w (TurnedR w) := by
  obtain ⟨tk, ta, ty⟩ := t
  obtain ⟨u, hu⟩ : ∃ u : Int, u = tk % 18446744073709551616 := ⟨_, rfl⟩
  obtain ⟨ua, hua⟩ : ∃ u : Int, u = ta % 18446744073709551616 := ⟨_, rfl⟩
  have HU : Hid (u = tk % 18446744073709551616 ∧ 0 ≤ u ∧ (4 : Int) = u % 6 ∧ ua = ta % 18446744073709551616 ∧ 0 ≤ ua) := Lib.hid ⟨hu, by omega, by simp only at hk; omega, hua, by omega⟩
  have HR := Lib.hid (And.intro RA RB)
  have HL := Lib.hid (And.intro hl hr)
  clear hk RA RB hl hr hu hua
  go_enter Tryd.func27, Tryd.ntmps27
  go_wp2_with (first
    | (with_reducible refine wpList_boxes (o := ⟨some 3, .box 50 (.tmp 0), _, _, _, _⟩) rfl 50 (.tmp 0) rfl _ rfl (sgc i A 67 c B 3 d) rfl ?_; intro w1 h3 m1 z1; replace z1 := Lib.hid z1)
    | (with_reducible refine wpList_boxes (o := ⟨some 4, .box 23 (.tmp 1), _, _, _, _⟩) rfl 23 (.tmp 1) rfl _ rfl (ic m0) rfl ?_; intro w2 h4 m2 z2; replace z2 := Lib.hid z2)
    | (with_reducible refine wpList_boxes (o := ⟨some 5, .box 57 (.tmp 2), _, _, _, _⟩) rfl 57 (.tmp 2) rfl _ rfl (tuc ⟨tk, ta, ty⟩) rfl ?_; intro w3 h5 m3 z3; replace z3 := Lib.hid z3)
    | (with_reducible refine wpList_allocs (o := ⟨some 6, .alloc 50, _, _, _, _⟩) rfl 50 rfl _ zero50 ?_; intro w4 h6 m4 z4; replace z4 := Lib.hid z4)
    | (with_reducible refine wpList_allocs (o := ⟨some 7, .alloc 23, _, _, _, _⟩) rfl 23 rfl _ zeroI_25 ?_; intro w5 h7 m5 z5
       obtain ⟨b3, hq3⟩ : ∃ q, q = w.heap.size := ⟨_, rfl⟩
       obtain ⟨b4, hq4⟩ : ∃ q, q = w1.heap.size := ⟨_, rfl⟩
       obtain ⟨b5, hq5⟩ : ∃ q, q = w2.heap.size := ⟨_, rfl⟩
       obtain ⟨b6, hq6⟩ : ∃ q, q = w3.heap.size := ⟨_, rfl⟩
       obtain ⟨b7, hq7⟩ : ∃ q, q = w4.heap.size := ⟨_, rfl⟩
       have HB : Hid (b3 < b4 ∧ b4 < b5 ∧ b5 < b6 ∧ b6 < b7 ∧ b7 < w5.heap.size ∧ w.heap.size = b3) := Lib.hid (by have := z1.out; have := z2.out; have := z3.out; have := z4.out; omega)
       rw [← hq3, ← hq4, ← hq5, ← hq6, ← hq7]
       have k3 : Holds w5 b3 50 (sgc i A 67 c B 3 d) := by rw [hq3]; exact (((h3.keep m2 (by simp)).keep m3 (by simp)).keep m4 (by simp)).keep m5 (by simp)
       have k4 : Holds w5 b4 23 (ic m0) := by rw [hq4]; exact ((h4.keep m3 (by simp)).keep m4 (by simp)).keep m5 (by simp)
       have k5 : Holds w5 b5 57 (tuc ⟨tk, ta, ty⟩) := by rw [hq5]; exact (h5.keep m4 (by simp)).keep m5 (by simp)
       have k6 : Holds w5 b6 50 (sgc 0 none 0 0 none 0 0) := by rw [hq6]; exact h6.keep m5 (by simp)
       have k7 : Holds w5 b7 23 (ic zeroI) := by rw [hq7]; exact h7
       have mm := (((m1.then m2).then m3).then m4).then m5
       clear h3 h4 h5 h6 h7 m1 m2 m3 m4 m5 z1 z2 z3 z4 z5 hq3 hq4 hq5 hq6 hq7))
  obtain ⟨wq, hwq⟩ : ∃ v, v = w5 := ⟨_, rfl⟩
  rw [← hwq] at k3 k4 k5 k6 k7 mm HB ⊢
  clear hwq
  replace k3 := k3.keep (Mod.drew [] wq) (by simp)
  replace k4 := k4.keep (Mod.drew [] wq) (by simp)
  replace k5 := k5.keep (Mod.drew [] wq) (by simp)
  replace k6 := k6.keep (Mod.drew [] wq) (by simp)
  replace k7 := k7.keep (Mod.drew [] wq) (by simp)
  have FM : ∀ v, Mod [b3] wq.drew v → Mod [] w v := fun v h => far_mod (mm.then (Mod.drew [] wq)) h (fun i hi => by simp at hi; have := HB.out; omega)
  have RA : ∀ v, Mod [b3] wq.drew v → Cells v A (l.flatMap ic) := fun v h => HR.out.1.keep (FM v h) (by simp)
  have RB : ∀ v, Mod [b3] wq.drew v → Cells v B (r.flatMap ic) := fun v h => HR.out.2.keep (FM v h) (by simp)
  have HQ : Hid (67 = l.length ∧ 3 = r.length ∧ b3 < wq.drew.heap.size ∧ b3 < wq.drew.heap.size) := Lib.hid ⟨HL.out.1.symm, HL.out.2.symm, by have := HB.out; exact Nat.lt_trans (by omega) HB.out.2.2.2.2.1, by have := HB.out; exact Nat.lt_trans (by omega) HB.out.2.2.2.2.1⟩
  clear mm
  refine wp_region_upx (X := XT) ⟨0, none, 0, 0, none, 0⟩ (fun x => [(8, .slice (some ⟨x.b, 0, none⟩) 0 0), (9, .pointer (some ⟨b3, 1, none⟩)), (10, .slice A 67 c), (11, .slice x.A 67 x.c), (12, .slice (some ⟨x.e, 0, none⟩) 0 0), (13, .pointer (some ⟨b3, 2, none⟩)), (14, .slice B 3 d), (15, .slice x.B 3 x.d), (16, .pointer (some ⟨b3, 1, none⟩)), (17, .pointer (some ⟨b3, 2, none⟩))]) 103 [8, 9, 10, 11, 12, 13, 14, 15, 16, 17] rfl (fun _ => rfl) (by decide) (by kernel_rfl) (fun x lz v => TwoS [b3] wq.drew (if lz 3 = true then ⟨x.A, x.c, l⟩ else if lz 0 = true then ⟨some ⟨x.b, 0, none⟩, 0, []⟩ else ⟨none, 0, []⟩) (if lz 7 = true then ⟨x.B, x.d, r⟩ else if lz 4 = true then ⟨some ⟨x.e, 0, none⟩, 0, []⟩ else ⟨none, 0, []⟩) v ∧ Holds v b3 50 (sgc i (if lz 9 = true then x.A else A) 67 (if lz 9 = true then x.c else c) (if lz 11 = true then x.B else B) 3 (if lz 11 = true then x.d else d))) (by kernel_rfl) ⟨TwoS.start _ (Mod.refl _ _), by simpa using k3⟩ (by kernel_rfl) (by kernel_rfl) ?step ?fin
  case step =>
    intro x lz T v j o hj hlj hdep hst hpar hgot hcl Kq hK
    have hjn : j < 12 := (Array.getElem?_eq_some_iff.1 hj).1
    obtain rfl | rfl | rfl | rfl | rfl | rfl | rfl | rfl | rfl | rfl | rfl | rfl : j = 0 ∨ j = 1 ∨ j = 2 ∨ j = 3 ∨ j = 4 ∨ j = 5 ∨ j = 6 ∨ j = 7 ∨ j = 8 ∨ j = 9 ∨ j = 10 ∨ j = 11 := by omega
    all_goals (have hj' := Option.some.inj (hj : some _ = some o); subst hj'; clear hj)
    · have l3 : lz 3 = false := (by cases hh : lz 3 with | false => rfl | true => exact absurd (hcl 3 _ rfl hh ⟨0, .data⟩ (by simp) rfl) (by rw [hlj]; simp))
      have h1 : TwoS [b3] wq.drew ⟨none, 0, []⟩ (if lz 7 = true then ⟨x.B, x.d, r⟩ else if lz 4 = true then ⟨some ⟨x.e, 0, none⟩, 0, []⟩ else ⟨none, 0, []⟩) v := by simpa [l3, hlj] using hst.1
      exact wp_ran rfl (exec_none33 rfl) (hK { x with b := v.heap.size } _ _ (fun j' o' s' g1 g2 g3 => by
          have g4 : j' < 12 := (Array.getElem?_eq_some_iff.1 g1).1
          clear hpar hgot hdep hK
          obtain rfl | rfl | rfl | rfl | rfl | rfl | rfl | rfl | rfl | rfl | rfl | rfl : j' = 0 ∨ j' = 1 ∨ j' = 2 ∨ j' = 3 ∨ j' = 4 ∨ j' = 5 ∨ j' = 6 ∨ j' = 7 ∨ j' = 8 ∨ j' = 9 ∨ j' = 10 ∨ j' = 11 := by omega
          all_goals (cases g1; cases g3 <;> first | rfl | (rw [hlj] at g2; cases g2) | (rw [l3] at g2; cases g2))) (fun s hs => by cases hs; rfl) ⟨by simpa [l3] using h1.lit, by simpa using hst.2.keep (Mod.alloc [] v _) (by simp)⟩)
    · exact wp_ran rfl (exec_fg1 rfl (eval_tmp ((hpar 3 rfl).trans rfl))) (hK x _ _ (fun _ _ _ _ _ _ => rfl) (fun s hs => by cases hs; rfl) (by simpa using hst))
    · have l9 : lz 9 = false := (by cases hh : lz 9 with | false => rfl | true => exact absurd (hcl 9 _ rfl hh ⟨2, .phase⟩ (by simp) rfl) (by rw [hlj]; simp))
      exact wp_ran rfl (exec_load rfl (eval_tmp (hgot 1 _ 9 rfl (hdep ⟨1, .data⟩ (by simp) rfl) rfl)) (run_load1 Tryd.underlying33 rfl (by have := hst.2.cell 1; simpa [sgc, l9] using this))) (hK x _ _ (fun _ _ _ _ _ _ => rfl) (fun s hs => by cases hs; rfl) (by simpa using hst))
    · have l9 : lz 9 = false := (by cases hh : lz 9 with | false => rfl | true => exact absurd (hcl 9 _ rfl hh ⟨3, .data⟩ (by simp) rfl) (by rw [hlj]; simp))
      have l0 : lz 0 = true := hdep ⟨0, .data⟩ (by simp) rfl
      have h1 : TwoS [b3] wq.drew ⟨some ⟨x.b, 0, none⟩, 0, []⟩ (if lz 7 = true then ⟨x.B, x.d, r⟩ else if lz 4 = true then ⟨some ⟨x.e, 0, none⟩, 0, []⟩ else ⟨none, 0, []⟩) v := by simpa [l0, hlj] using hst.1
      have hnb : b3 ∉ blk (some ⟨x.b, 0, none⟩) := fun hh => by have := (h1.2.2.2.1 _ hh).1; have := HQ.out.2.2.1; omega
      obtain ⟨A', c', v', r1, h2, m2⟩ := h1.app (ρ := T.eval) (o := { dst := some 11, op := .call { callee := .builtin .append, args := #[.tmp 8, .tmp 10], argTypes := #[33, 33] }, type := 33, pos := "x", after := #[], guard := none }) (.tmp 8) (.tmp 10) rfl (eval_tmp (hgot 0 _ 8 rfl (hdep ⟨0, .data⟩ (by simp) rfl) rfl)) HQ.out.1 (by omega) (eval_tmp (hgot 2 _ 10 rfl (hdep ⟨2, .data⟩ (by simp) rfl) rfl)) (RA v hst.1.1)
      exact wp_ran rfl r1 (hK { x with A := A', c := c' } _ _ (fun j' o' s' g1 g2 g3 => by
          have g4 : j' < 12 := (Array.getElem?_eq_some_iff.1 g1).1
          clear hpar hgot hdep hK
          obtain rfl | rfl | rfl | rfl | rfl | rfl | rfl | rfl | rfl | rfl | rfl | rfl : j' = 0 ∨ j' = 1 ∨ j' = 2 ∨ j' = 3 ∨ j' = 4 ∨ j' = 5 ∨ j' = 6 ∨ j' = 7 ∨ j' = 8 ∨ j' = 9 ∨ j' = 10 ∨ j' = 11 := by omega
          all_goals (cases g1; cases g3 <;> first | rfl | (rw [hlj] at g2; cases g2))) (fun s hs => by cases hs; rfl) ⟨by simpa using h2, by simpa [l9] using hst.2.keep m2 hnb⟩)
    · have l7 : lz 7 = false := (by cases hh : lz 7 with | false => rfl | true => exact absurd (hcl 7 _ rfl hh ⟨4, .data⟩ (by simp) rfl) (by rw [hlj]; simp))
      have h1 : TwoS [b3] wq.drew (if lz 3 = true then ⟨x.A, x.c, l⟩ else if lz 0 = true then ⟨some ⟨x.b, 0, none⟩, 0, []⟩ else ⟨none, 0, []⟩) ⟨none, 0, []⟩ v := by simpa [l7, hlj] using hst.1
      exact wp_ran rfl (exec_none33 rfl) (hK { x with e := v.heap.size } _ _ (fun j' o' s' g1 g2 g3 => by
          have g4 : j' < 12 := (Array.getElem?_eq_some_iff.1 g1).1
          clear hpar hgot hdep hK
          obtain rfl | rfl | rfl | rfl | rfl | rfl | rfl | rfl | rfl | rfl | rfl | rfl : j' = 0 ∨ j' = 1 ∨ j' = 2 ∨ j' = 3 ∨ j' = 4 ∨ j' = 5 ∨ j' = 6 ∨ j' = 7 ∨ j' = 8 ∨ j' = 9 ∨ j' = 10 ∨ j' = 11 := by omega
          all_goals (cases g1; cases g3 <;> first | rfl | (rw [hlj] at g2; cases g2) | (rw [l7] at g2; cases g2))) (fun s hs => by cases hs; rfl) ⟨by simpa [l7] using h1.swap.lit.swap, by simpa using hst.2.keep (Mod.alloc [] v _) (by simp)⟩)
    · exact wp_ran rfl (exec_fg2 rfl (eval_tmp ((hpar 3 rfl).trans rfl))) (hK x _ _ (fun _ _ _ _ _ _ => rfl) (fun s hs => by cases hs; rfl) (by simpa using hst))
    · have l11 : lz 11 = false := (by cases hh : lz 11 with | false => rfl | true => exact absurd (hcl 11 _ rfl hh ⟨6, .phase⟩ (by simp) rfl) (by rw [hlj]; simp))
      exact wp_ran rfl (exec_load rfl (eval_tmp (hgot 5 _ 13 rfl (hdep ⟨5, .data⟩ (by simp) rfl) rfl)) (run_load1 Tryd.underlying33 rfl (by have := hst.2.cell 2; simpa [sgc, l11] using this))) (hK x _ _ (fun _ _ _ _ _ _ => rfl) (fun s hs => by cases hs; rfl) (by simpa using hst))
    · have l11 : lz 11 = false := (by cases hh : lz 11 with | false => rfl | true => exact absurd (hcl 11 _ rfl hh ⟨7, .data⟩ (by simp) rfl) (by rw [hlj]; simp))
      have l4 : lz 4 = true := hdep ⟨4, .data⟩ (by simp) rfl
      have h1 : TwoS [b3] wq.drew (if lz 3 = true then ⟨x.A, x.c, l⟩ else if lz 0 = true then ⟨some ⟨x.b, 0, none⟩, 0, []⟩ else ⟨none, 0, []⟩) ⟨some ⟨x.e, 0, none⟩, 0, []⟩ v := by simpa [l4, hlj] using hst.1
      have hnb : b3 ∉ blk (some ⟨x.e, 0, none⟩) := fun hh => by have := (h1.swap.2.2.2.1 _ hh).1; have := HQ.out.2.2.1; omega
      obtain ⟨A', c', v', r1, h2, m2⟩ := h1.swap.app (ρ := T.eval) (o := { dst := some 15, op := .call { callee := .builtin .append, args := #[.tmp 12, .tmp 14], argTypes := #[33, 33] }, type := 33, pos := "x", after := #[], guard := none }) (.tmp 12) (.tmp 14) rfl (eval_tmp (hgot 4 _ 12 rfl (hdep ⟨4, .data⟩ (by simp) rfl) rfl)) HQ.out.2.1 (by omega) (eval_tmp (hgot 6 _ 14 rfl (hdep ⟨6, .data⟩ (by simp) rfl) rfl)) (RB v hst.1.1)
      exact wp_ran rfl r1 (hK { x with B := A', d := c' } _ _ (fun j' o' s' g1 g2 g3 => by
          have g4 : j' < 12 := (Array.getElem?_eq_some_iff.1 g1).1
          clear hpar hgot hdep hK
          obtain rfl | rfl | rfl | rfl | rfl | rfl | rfl | rfl | rfl | rfl | rfl | rfl : j' = 0 ∨ j' = 1 ∨ j' = 2 ∨ j' = 3 ∨ j' = 4 ∨ j' = 5 ∨ j' = 6 ∨ j' = 7 ∨ j' = 8 ∨ j' = 9 ∨ j' = 10 ∨ j' = 11 := by omega
          all_goals (cases g1; cases g3 <;> first | rfl | (rw [hlj] at g2; cases g2))) (fun s hs => by cases hs; rfl) ⟨by simpa using h2.swap, by simpa [l11] using hst.2.keep m2 hnb⟩)
    · exact wp_ran rfl (exec_fg1 rfl (eval_tmp ((hpar 3 rfl).trans rfl))) (hK x _ _ (fun _ _ _ _ _ _ => rfl) (fun s hs => by cases hs; rfl) (by simpa using hst))
    · have a3 : lz 3 = true := hdep ⟨3, .data⟩ (by simp) rfl
      refine wp_sg (k := 1) (t := 50) (cs := sgc i (if lz 9 = true then x.A else A) 67 (if lz 9 = true then x.c else c) (if lz 11 = true then x.B else B) 3 (if lz 11 = true then x.d else d)) (u := .slice x.A 67 x.c) rfl rfl (eval_tmp (hgot 8 _ 16 rfl (hdep ⟨8, .data⟩ (by simp) rfl) rfl)) (eval_tmp (hgot 3 _ 11 rfl (hdep ⟨3, .data⟩ (by simp) rfl) rfl)) rfl one33 hst.2 (by simp [sgc]) (fun v' q1 q2 => hK x undef _ (fun _ _ _ _ _ _ => rfl) (fun s hs => by cases hs) ⟨by simpa using hst.1.turn q2 (by simp) HQ.out.2.2.2, by simpa [hlj, sgc] using q1⟩)
    · exact wp_ran rfl (exec_fg2 rfl (eval_tmp ((hpar 3 rfl).trans rfl))) (hK x _ _ (fun _ _ _ _ _ _ => rfl) (fun s hs => by cases hs; rfl) (by simpa using hst))
    · have a7 : lz 7 = true := hdep ⟨7, .data⟩ (by simp) rfl
      refine wp_sg (k := 2) (t := 50) (cs := sgc i (if lz 9 = true then x.A else A) 67 (if lz 9 = true then x.c else c) (if lz 11 = true then x.B else B) 3 (if lz 11 = true then x.d else d)) (u := .slice x.B 3 x.d) rfl rfl (eval_tmp (hgot 10 _ 17 rfl (hdep ⟨10, .data⟩ (by simp) rfl) rfl)) (eval_tmp (hgot 7 _ 15 rfl (hdep ⟨7, .data⟩ (by simp) rfl) rfl)) rfl one33 hst.2 (by simp [sgc]) (fun v' q1 q2 => hK x undef _ (fun _ _ _ _ _ _ => rfl) (fun s hs => by cases hs) ⟨by simpa using hst.1.turn q2 (by simp) HQ.out.2.2.2, by simpa [hlj, sgc] using q1⟩)
  case fin =>
  intro x lz vr hlz hst
  have h1 : TwoS [b3] wq.drew ⟨x.A, x.c, l⟩ ⟨x.B, x.d, r⟩ vr := by simpa [hlz 3 (by decide), hlz 7 (by decide)] using hst.1
  have h3 : Holds vr b3 50 (sgc i x.A 67 x.c x.B 3 x.d) := by simpa [hlz 9 (by decide), hlz 11 (by decide)] using hst.2
  have mm := FM vr h1.1
  have h4 : Holds vr b4 23 (ic m0) := k4.keep h1.1 (by simp; have := HB.out; omega)
  have h5 : Holds vr b5 57 (tuc ⟨tk, ta, ty⟩) := k5.keep h1.1 (by simp; have := HB.out; omega)
  have h6 : Holds vr b6 50 (sgc 0 none 0 0 none 0 0) := k6.keep h1.1 (by simp; have := HB.out; omega)
  have h7 : Holds vr b7 23 (ic zeroI) := k7.keep h1.1 (by simp; have := HB.out; omega)
  have O1 : OwnG ic 23 32 vr x.A x.c l := h1.2.1
  have P1 : OwnG ic 23 32 vr x.B x.d r := h1.2.2.1
  have n1 : ∀ j ∈ blk x.A, b7 < j ∧ j ∉ blk x.B := fun j hj => by have := h1.2.2.2.1 j hj; exact ⟨Nat.lt_of_lt_of_le HB.out.2.2.2.2.1 (Nat.le_trans (Nat.le_of_eq rfl) this.1), this.2⟩
  have n2 : ∀ j ∈ blk x.B, b7 < j := fun j hj => Nat.lt_of_lt_of_le HB.out.2.2.2.2.1 (h1.2.2.2.2 j hj)
  clear hst hlz h1 k3 k4 k5 k6 k7 RA RB FM
  obtain ⟨xb, A1, c1, xe, B1, d1⟩ := x
  simp only at h3 O1 P1 n1 n2
  simp only [Act.put, setAll, List.setIfInBounds_toArray, List.foldl_cons, List.foldl_nil, List.set_cons_succ, List.set_cons_zero]
  have e0 := tu_k h5
  have e1 := tu_a h5
  simp only at e0 e1
  obtain ⟨pr, hpr⟩ : ∃ q : Int, q = ua % 2 := ⟨_, rfl⟩
  obtain ⟨h, hh⟩ : ∃ h : Nat, (h : Int) = 4 - 2 * pr := ⟨(4 - 2 * pr).toNat, by have := HU.out; omega⟩
  have HP : Hid (pr = ua % 2 ∧ 0 ≤ pr ∧ pr < 100000 ∧ IntKind.i64.wrap (2 * pr) = 2 * pr ∧ IntKind.i64.wrap (4 - 2 * pr) = (h : Int) ∧ h ≤ 4) := Lib.hid ⟨hpr, by have := HU.out; omega, by have := HU.out; omega, IntWalk.i64_in _ (by have := HU.out; omega), by rw [hh]; exact IntWalk.i64_in _ (by have := HU.out; omega), by have := HU.out; omega⟩
  clear hpr hh
  obtain ⟨i0, j1, j2, j3, j4⟩ := info_parts id_parts
  have HI := Lib.hid (And.intro j1 (And.intro j2 (And.intro j3 j4)))
  clear j1 j2 j3 j4
  go_wp2_with (first
    | (with_reducible refine wpList_ranW (o := ⟨some 20, .convert _ _ _, _, _, _, _⟩) (by with_unfolding_all rfl) (.int .u64 u) _ (exec_conv1 HU.out.1 rfl rfl) ?_)
    | (with_reducible refine wpList_ranW (o := ⟨some 21, .binOp .rem _ _ _ _, _, _, _, _⟩) (by with_unfolding_all rfl) (.int .u64 4) _ (exec_remZ HU.out.2.1 (by decide) HU.out.2.2.1 rfl rfl rfl) ?_))
  obtain ⟨wq2, hwq2⟩ : ∃ v, v = vr := ⟨_, rfl⟩
  rw [← hwq2] at h3 h4 h5 h6 h7 O1 P1 mm ⊢
  clear hwq2 e0 e1
  replace h3 := h3.keep (Mod.drew [] wq2) (by simp)
  replace h4 := h4.keep (Mod.drew [] wq2) (by simp)
  replace h5 := h5.keep (Mod.drew [] wq2) (by simp)
  replace h6 := h6.keep (Mod.drew [] wq2) (by simp)
  replace h7 := h7.keep (Mod.drew [] wq2) (by simp)
  replace O1 := O1.keep (Mod.drew [] wq2) (by simp)
  replace P1 := P1.keep (Mod.drew [] wq2) (by simp)
  replace mm := mm.then (Mod.drew [] wq2)
  have b3A : b3 ∉ blk B1 := fun hh => by have := n2 _ hh; have := HB.out; omega
  have b5A : b5 ∉ b3 :: blk B1 := fun hh => by
    rcases List.mem_cons.1 hh with e | hh
    · have := HB.out; omega
    · have := n2 _ hh; have := HB.out; omega
  have h7w : b7 < wq2.drew.heap.size := h7.lt
  have HLT : ∀ j ∈ blk B1, j < wq2.drew.heap.size := fun j hj => by obtain ⟨a, ha, rfl⟩ := mem_blk hj; exact P1.lt a ha
  refine wp_region_upx (X := XU) ⟨0, none, 0⟩ (fun x => [(82, .pointer (some ⟨b3, 2, none⟩)), (83, .slice B1 3 d1), (84, .pointer (some ⟨b5, 2, none⟩)), (85, iv ty), (86, .slice (some ⟨x.b, 0, none⟩) 1 1), (87, .slice x.A 4 x.c), (88, .pointer (some ⟨b3, 2, none⟩)), (89, .slice B1 3 d1), (90, .int .i64 3), (91, .int .i64 4), (92, .pointer (some ⟨b5, 1, none⟩)), (93, .int .i64 ta), (94, .int .u64 ua), (95, .int .u64 pr), (96, .int .i64 pr), (97, .int .i64 (2 * pr)), (98, .int .i64 (h : Int)), (99, .slice x.A h x.c), (100, .pointer (some ⟨b3, 2, none⟩))]) 103 [82, 83, 84, 85, 86, 87, 88, 89, 90, 91, 92, 93, 94, 95, 96, 97, 98, 99, 100] rfl (fun _ => rfl) (by decide) (by kernel_rfl) (fun x lz v => Mod (b3 :: blk B1) wq2.drew v ∧ (lz 4 = true → Holds v x.b 23 (ic ty) ∧ wq2.drew.heap.size ≤ x.b) ∧ (if lz 5 = true then (OwnG ic 23 32 v x.A x.c (r ++ [ty]) ∧ ∀ j ∈ blk x.A, j ∈ blk B1 ∨ wq2.drew.heap.size ≤ j) else OwnG ic 23 32 v B1 d1 r) ∧ Holds v b3 50 (if lz 19 = true then sgc i A1 67 c1 x.A h x.c else sgc i A1 67 c1 B1 3 d1)) (by kernel_rfl) ⟨Mod.refl _ _, (fun h => by cases h), by simpa using P1, by simpa using h3⟩ (by kernel_rfl) (by kernel_rfl) ?step ?fin
  case step =>
    intro x lz T v j o hj hlj hdep hst hpar hgot hcl Kq hK
    have hjn : j < 20 := (Array.getElem?_eq_some_iff.1 hj).1
    obtain rfl | rfl | rfl | rfl | rfl | rfl | rfl | rfl | rfl | rfl | rfl | rfl | rfl | rfl | rfl | rfl | rfl | rfl | rfl | rfl : j = 0 ∨ j = 1 ∨ j = 2 ∨ j = 3 ∨ j = 4 ∨ j = 5 ∨ j = 6 ∨ j = 7 ∨ j = 8 ∨ j = 9 ∨ j = 10 ∨ j = 11 ∨ j = 12 ∨ j = 13 ∨ j = 14 ∨ j = 15 ∨ j = 16 ∨ j = 17 ∨ j = 18 ∨ j = 19 := by omega
    all_goals (have hj' := Option.some.inj (hj : some _ = some o); subst hj'; clear hj)
    · exact wp_ran rfl (exec_fg2 rfl (eval_tmp ((hpar 3 rfl).trans rfl))) (hK x _ _ (fun _ _ _ _ _ _ => rfl) (fun s hs => by cases hs; rfl) (by simpa using hst))
    · have l19 : lz 19 = false := (by cases hh : lz 19 with | false => rfl | true => exact absurd (hcl 19 _ rfl hh ⟨1, .phase⟩ (by simp) rfl) (by rw [hlj]; simp))
      exact wp_ran rfl (exec_load rfl (eval_tmp (hgot 0 _ 82 rfl (hdep ⟨0, .data⟩ (by simp) rfl) rfl)) (run_load1 Tryd.underlying33 rfl (by have := hst.2.2.2.cell 2; simpa [sgc, l19] using this))) (hK x _ _ (fun _ _ _ _ _ _ => rfl) (fun s hs => by cases hs; rfl) (by simpa using hst))
    · exact wp_ran rfl (exec_tu2 rfl (eval_tmp ((hpar 5 rfl).trans rfl))) (hK x _ _ (fun _ _ _ _ _ _ => rfl) (fun s hs => by cases hs; rfl) (by simpa using hst))
    · exact wp_ran rfl (exec_load rfl (eval_tmp (hgot 2 _ 84 rfl (hdep ⟨2, .data⟩ (by simp) rfl) rfl)) (run_loads (tu_y (h5.keep hst.1 b5A)) Tryd.underlying23 rfl (size25i ty))) (hK x _ _ (fun _ _ _ _ _ _ => rfl) (fun s hs => by cases hs; rfl) (by simpa using hst))
    · have l5 : lz 5 = false := (by cases hh : lz 5 with | false => rfl | true => exact absurd (hcl 5 _ rfl hh ⟨4, .data⟩ (by simp) rfl) (by rw [hlj]; simp))
      refine wp_ran rfl (exec_lit22 rfl (eval_tmp (hgot 3 _ 85 rfl (hdep ⟨3, .data⟩ (by simp) rfl) rfl))) (hK { x with b := v.heap.size } _ _ (fun j' o' s' g1 g2 g3 => by
          have g4 : j' < 20 := (Array.getElem?_eq_some_iff.1 g1).1
          clear hpar hgot hdep hK
          obtain rfl | rfl | rfl | rfl | rfl | rfl | rfl | rfl | rfl | rfl | rfl | rfl | rfl | rfl | rfl | rfl | rfl | rfl | rfl | rfl : j' = 0 ∨ j' = 1 ∨ j' = 2 ∨ j' = 3 ∨ j' = 4 ∨ j' = 5 ∨ j' = 6 ∨ j' = 7 ∨ j' = 8 ∨ j' = 9 ∨ j' = 10 ∨ j' = 11 ∨ j' = 12 ∨ j' = 13 ∨ j' = 14 ∨ j' = 15 ∨ j' = 16 ∨ j' = 17 ∨ j' = 18 ∨ j' = 19 := by omega
          all_goals (cases g1; cases g3 <;> first | rfl | (rw [hlj] at g2; cases g2) | (rw [l5] at g2; cases g2))) (fun s hs => by cases hs; rfl) ⟨hst.1.then (Mod.alloc [] v _), fun _ => ⟨Holds.made v 23 _, hst.1.size⟩, ?_, by simpa using hst.2.2.2.keep (Mod.alloc [] v _) (by simp)⟩)
      have hO := hst.2.2.1
      rw [if_neg (by rw [l5]; simp)] at hO
      rw [if_neg (by simp [l5])]
      exact hO.keep (Mod.alloc [] v _) (by simp)
    · have l17 : lz 17 = false := (by cases hh : lz 17 with | false => rfl | true => exact absurd (hcl 17 _ rfl hh ⟨5, .data⟩ (by simp) rfl) (by rw [hlj]; simp))
      have l19 : lz 19 = false := (by cases hh : lz 19 with | false => rfl | true => exact absurd (hcl 19 _ rfl hh ⟨5, .phase⟩ (by simp) rfl) (by rw [hlj]; simp))
      have hO := hst.2.2.1
      rw [if_neg (by rw [hlj]; simp)] at hO
      have h4' := hst.2.1 (hdep ⟨4, .data⟩ (by simp) rfl)
      have hp := hst.2.2.2
      rw [if_neg (by rw [l19]; simp)] at hp
      obtain ⟨A', c', v', r1, r2, r3, r4⟩ := exec_appendG (P := Tryd.prog) (f := ic) (size := 32) v (o := { dst := some 87, op := .call { callee := .builtin .append, args := #[.tmp 83, .tmp 86], argTypes := #[33, 33] }, type := 33, pos := "x", after := #[], guard := none }) (ρ := T.eval) (.tmp 83) (.tmp 86) 33 rfl 23 i0 (iv zeroI) 32 Tryd.underlying33 HI.out.1 HI.out.2.1 HI.out.2.2.1 HI.out.2.2.2 (by rfl) (by decide) ic_length ic_one B1 d1 r (by rw [HL.out.2]; exact (eval_tmp (hgot 1 _ 83 rfl (hdep ⟨1, .data⟩ (by simp) rfl) rfl))) hO ⟨x.b, 0, none⟩ 1 [ty] (eval_tmp (hgot 4 _ 86 rfl (hdep ⟨4, .data⟩ (by simp) rfl) rfl)) (by simpa using Cells.of_holds h4'.1) (by rw [HL.out.2]; simp) (by rw [HL.out.2]; simp [maxLen])
      have e68 : (r ++ [ty]).length = 4 := by simp [HL.out.2]
      rw [e68] at r1
      refine wp_ran rfl r1 (hK { x with A := A', c := c' } _ _ (fun j' o' s' g1 g2 g3 => by
          have g4 : j' < 20 := (Array.getElem?_eq_some_iff.1 g1).1
          clear hpar hgot hdep hK
          obtain rfl | rfl | rfl | rfl | rfl | rfl | rfl | rfl | rfl | rfl | rfl | rfl | rfl | rfl | rfl | rfl | rfl | rfl | rfl | rfl : j' = 0 ∨ j' = 1 ∨ j' = 2 ∨ j' = 3 ∨ j' = 4 ∨ j' = 5 ∨ j' = 6 ∨ j' = 7 ∨ j' = 8 ∨ j' = 9 ∨ j' = 10 ∨ j' = 11 ∨ j' = 12 ∨ j' = 13 ∨ j' = 14 ∨ j' = 15 ∨ j' = 16 ∨ j' = 17 ∨ j' = 18 ∨ j' = 19 := by omega
          all_goals (cases g1; cases g3 <;> first | rfl | (rw [hlj] at g2; cases g2) | (rw [l17] at g2; cases g2))) (fun s hs => by cases hs; rfl) ⟨hst.1.trans r3 (fun i _ hi => List.mem_cons_of_mem _ hi), fun h => ⟨h4'.1.keep r3 (fun hh => by have := HLT _ hh; have := h4'.2; omega), h4'.2⟩, ?_, ?_⟩)
      · rw [if_pos (by simp)]
        refine ⟨r2, fun j hj => ?_⟩
        obtain ⟨a, ha, rfl⟩ := mem_blk hj
        exact (r4 a ha).imp id (fun h => Nat.le_trans hst.1.size h)
      · rw [if_neg (by simp [l19])]
        exact hp.keep r3 b3A
    · exact wp_ran rfl (exec_fg2 rfl (eval_tmp ((hpar 3 rfl).trans rfl))) (hK x _ _ (fun _ _ _ _ _ _ => rfl) (fun s hs => by cases hs; rfl) (by simpa using hst))
    · have l19 : lz 19 = false := (by cases hh : lz 19 with | false => rfl | true => exact absurd (hcl 19 _ rfl hh ⟨7, .phase⟩ (by simp) rfl) (by rw [hlj]; simp))
      exact wp_ran rfl (exec_load rfl (eval_tmp (hgot 6 _ 88 rfl (hdep ⟨6, .data⟩ (by simp) rfl) rfl)) (run_load1 Tryd.underlying33 rfl (by have := hst.2.2.2.cell 2; simpa [sgc, l19] using this))) (hK x _ _ (fun _ _ _ _ _ _ => rfl) (fun s hs => by cases hs; rfl) (by simpa using hst))
    · exact wp_ran rfl (exec_len Tryd.underlying33 rfl (eval_tmp (hgot 7 _ 89 rfl (hdep ⟨7, .data⟩ (by simp) rfl) rfl))) (hK x _ _ (fun _ _ _ _ _ _ => rfl) (fun s hs => by cases hs; rfl) (by simpa using hst))
    · exact wp_ran rfl (exec_add (c := 4) rfl (eval_tmp (hgot 8 _ 90 rfl (hdep ⟨8, .data⟩ (by simp) rfl) rfl)) rfl (by decide)) (hK x _ _ (fun _ _ _ _ _ _ => rfl) (fun s hs => by cases hs; rfl) (by simpa using hst))
    · exact wp_ran rfl (exec_tu1 rfl (eval_tmp ((hpar 5 rfl).trans rfl))) (hK x _ _ (fun _ _ _ _ _ _ => rfl) (fun s hs => by cases hs; rfl) (by simpa using hst))
    · exact wp_ran rfl (exec_load rfl (eval_tmp (hgot 10 _ 92 rfl (hdep ⟨10, .data⟩ (by simp) rfl) rfl)) (run_load1 Tryd.underlying3 rfl (tu_a (h5.keep hst.1 b5A)))) (hK x _ _ (fun _ _ _ _ _ _ => rfl) (fun s hs => by cases hs; rfl) (by simpa using hst))
    · exact wp_ran rfl (exec_conv1 HU.out.2.2.2.1 rfl (eval_tmp (hgot 11 _ 93 rfl (hdep ⟨11, .data⟩ (by simp) rfl) rfl))) (hK x _ _ (fun _ _ _ _ _ _ => rfl) (fun s hs => by cases hs; rfl) (by simpa using hst))
    · exact wp_ran rfl (exec_remZ HU.out.2.2.2.2 (by decide) HP.out.1 rfl (eval_tmp (hgot 12 _ 94 rfl (hdep ⟨12, .data⟩ (by simp) rfl) rfl)) rfl) (hK x _ _ (fun _ _ _ _ _ _ => rfl) (fun s hs => by cases hs; rfl) (by simpa using hst))
    · exact wp_ran rfl (exec_conv2Z HP.out.2.1 HP.out.2.2.1 rfl (eval_tmp (hgot 13 _ 95 rfl (hdep ⟨13, .data⟩ (by simp) rfl) rfl))) (hK x _ _ (fun _ _ _ _ _ _ => rfl) (fun s hs => by cases hs; rfl) (by simpa using hst))
    · exact wp_ran rfl (exec_mul rfl rfl (eval_tmp (hgot 14 _ 96 rfl (hdep ⟨14, .data⟩ (by simp) rfl) rfl)) HP.out.2.2.2.1) (hK x _ _ (fun _ _ _ _ _ _ => rfl) (fun s hs => by cases hs; rfl) (by simpa using hst))
    · exact wp_ran rfl (exec_sub rfl (eval_tmp (hgot 9 _ 91 rfl (hdep ⟨9, .data⟩ (by simp) rfl) rfl)) (eval_tmp (hgot 15 _ 97 rfl (hdep ⟨15, .data⟩ (by simp) rfl) rfl)) HP.out.2.2.2.2.1) (hK x _ _ (fun _ _ _ _ _ _ => rfl) (fun s hs => by cases hs; rfl) (by simpa using hst))
    · have a5 := hst.2.2.1
      rw [if_pos (hdep ⟨5, .data⟩ (by simp) rfl)] at a5
      exact wp_ran rfl (exec_uptoy Tryd.underlying33 size25 (Nat.le_trans HP.out.2.2.2.2.2 (by have := a5.1.fits.1; simp [HL.out.2] at this; exact this)) rfl (eval_tmp (hgot 5 _ 87 rfl (hdep ⟨5, .data⟩ (by simp) rfl) rfl)) (eval_tmp (hgot 16 _ 98 rfl (hdep ⟨16, .data⟩ (by simp) rfl) rfl))) (hK x _ _ (fun _ _ _ _ _ _ => rfl) (fun s hs => by cases hs; rfl) (by simpa using hst))
    · exact wp_ran rfl (exec_fg2 rfl (eval_tmp ((hpar 3 rfl).trans rfl))) (hK x _ _ (fun _ _ _ _ _ _ => rfl) (fun s hs => by cases hs; rfl) (by simpa using hst))
    · have a5 := hst.2.2.1
      have l5 : lz 5 = true := hdep ⟨5, .phase⟩ (by simp) rfl
      rw [if_pos l5] at a5
      refine wp_sg (k := 2) (t := 50) (cs := sgc i A1 67 c1 B1 3 d1) (u := .slice x.A h x.c) rfl rfl (eval_tmp (hgot 18 _ 100 rfl (hdep ⟨18, .data⟩ (by simp) rfl) rfl)) (eval_tmp (hgot 17 _ 99 rfl (hdep ⟨17, .data⟩ (by simp) rfl) rfl)) rfl one33 (by have := hst.2.2.2; rwa [if_neg (by rw [hlj]; simp)] at this) (by simp [sgc]) (fun v' q1 q2 => hK x undef _ (fun _ _ _ _ _ _ => rfl) (fun s hs => by cases hs) ⟨hst.1.trans q2 (fun i _ hi => by simp at hi; rw [hi]; exact List.mem_cons_self ..), fun h => ⟨(hst.2.1 (by simpa using h)).1.keep q2 (by have := (hst.2.1 (by simpa using h)).2; simp; have := HB.out; omega), (hst.2.1 (by simpa using h)).2⟩, ?_, by rw [if_pos (by simp)]; exact q1⟩)
      rw [if_pos (by simp [l5])]
      exact ⟨a5.1.keep q2 (fun a ha hm => by
        simp at hm
        rcases a5.2 a.block (by simp [blk, ha]) with hh | hh
        · exact b3A (hm ▸ hh)
        · have := HB.out; omega), a5.2⟩
  case fin =>
  intro x lz vy hlz hst
  obtain ⟨qm, _, q4, q3⟩ := hst
  rw [if_pos (hlz 5 (by decide))] at q4
  rw [if_pos (hlz 19 (by decide))] at q3
  obtain ⟨q4, q5⟩ := q4
  have nx : ∀ j, j ≤ b7 → j ≠ b3 → j ∉ b3 :: blk B1 := fun j hj h3' hh => by
    rcases List.mem_cons.1 hh with e | hh
    · exact h3' e
    · have := n2 _ hh
      omega
  replace h3 := q3
  replace h4 := h4.keep qm (nx _ (by have := HB.out; omega) (by have := HB.out; omega))
  replace h6 := h6.keep qm (nx _ (by have := HB.out; omega) (by have := HB.out; omega))
  replace h7 := h7.keep qm (nx _ (by have := HB.out; omega) (by have := HB.out; omega))
  replace O1 := (O1.keep qm (fun a ha hm => by
    rcases List.mem_cons.1 hm with e | hh
    · have := (n1 a.block (by simp [blk, ha])).1; have := HB.out; omega
    · exact (n1 a.block (by simp [blk, ha])).2 hh)).cells
  have q6 := q4.cells.preI h
  rw [show (r ++ [ty]).take h = (r ++ [ty]).take h from rfl] at q6
  replace P1 := q6
  replace mm := far_mod mm qm (fun j hj => by
    rcases List.mem_cons.1 hj with e | hh
    · have := HB.out; omega
    · have := n2 _ hh; have := HB.out; omega)
  have nB : ∀ a, x.A = some a → a.block ∉ [b6, b7] := fun a ha => by
    rcases q5 a.block (by simp [blk, ha]) with hh | hh
    · have := n2 _ hh; have := HB.out; simp; omega
    · have := HB.out; simp; omega
  have nA : ∀ a, A1 = some a → a.block ∉ [b6, b7] := fun a ha => by have := (n1 a.block (by simp [blk, ha])).1; have := HB.out; simp; omega
  clear q4 q5 q6 q3 qm hlz
  simp only [Act.put, setAll, List.setIfInBounds_toArray, List.foldl_cons, List.foldl_nil, List.set_cons_succ, List.set_cons_zero]
  go_wp2_with fail
  obtain ⟨wz, hwz⟩ : ∃ v, v = vy := ⟨_, rfl⟩
  rw [← hwz] at h3 h4 h6 h7 O1 P1 mm ⊢
  clear hwz
  replace h3 := h3.keep (Mod.drew [] wz) (by simp)
  replace h4 := h4.keep (Mod.drew [] wz) (by simp)
  replace h6 := h6.keep (Mod.drew [] wz) (by simp)
  replace h7 := h7.keep (Mod.drew [] wz) (by simp)
  refine wp_region_ups [(101, .agg (sgc i A1 67 c1 x.A h x.c).toArray), (102, iv m0)] 103 [101, 102] rfl rfl (by decide) (by kernel_rfl) (fun lz v => Mod [b6, b7] wz.drew v ∧ Holds v b6 50 (if lz 2 = true then sgc i A1 67 c1 x.A h x.c else sgc 0 none 0 0 none 0 0) ∧ Holds v b7 23 (if lz 3 = true then ic m0 else ic zeroI)) (by kernel_rfl) ⟨Mod.refl _ _, by simpa using h6, by simpa using h7⟩ (by kernel_rfl) (by kernel_rfl) ?step ?fin
  case step =>
    intro lz T v j o hj hlj hdep hst hpar hgot hcl Kq hK
    have hjn : j < 4 := (Array.getElem?_eq_some_iff.1 hj).1
    obtain rfl | rfl | rfl | rfl : j = 0 ∨ j = 1 ∨ j = 2 ∨ j = 3 := by omega
    all_goals (have hj' := Option.some.inj (hj : some _ = some o); subst hj'; clear hj)
    · exact wp_ran rfl (exec_load rfl (eval_tmp ((hpar 3 rfl).trans rfl)) (run_loads (Cells.of_holds (h3.keep hst.1 (by simp; have := HB.out; omega))) Tryd.underlying50 rfl (size50s _ _ _ _ _ _ _))) (hK _ _ (fun s hs => by cases hs; rfl) (by simpa using hst))
    · exact wp_ran rfl (exec_load rfl (eval_tmp ((hpar 4 rfl).trans rfl)) (run_loads (Cells.of_holds (h4.keep hst.1 (by simp; have := HB.out; omega))) Tryd.underlying23 rfl (size25i m0))) (hK _ _ (fun s hs => by cases hs; rfl) (by simpa using hst))
    · have hp := hst.2.1
      rw [if_neg (by rw [hlj]; simp)] at hp
      refine wp_stored (ty := 50) (V := .agg (sgc i A1 67 c1 x.A h x.c).toArray) (cs := sgc i A1 67 c1 x.A h x.c) rfl rfl (eval_tmp ((hpar 6 rfl).trans rfl)) (eval_tmp (hgot 0 _ 101 rfl (hdep ⟨0, .data⟩ (by simp) rfl) rfl)) rfl hp rfl (sgc_one _ _ _ _ _ _ _) (size50s _ _ _ _ _ _ _) (fun v' q1 q2 => hK undef _ (fun s hs => by cases hs) ⟨hst.1.trans q2 (fun i _ hi => by simp at hi ⊢; exact .inl hi), by simpa using q1, by simpa using hst.2.2.keep q2 (by simp; have := HB.out; omega)⟩)
    · have hp := hst.2.2
      rw [if_neg (by rw [hlj]; simp)] at hp
      refine wp_stored (ty := 23) (V := iv m0) (cs := ic m0) rfl rfl (eval_tmp ((hpar 7 rfl).trans rfl)) (eval_tmp (hgot 1 _ 102 rfl (hdep ⟨1, .data⟩ (by simp) rfl) rfl)) rfl hp (by rw [ic_length, ic_length]) (ic_one m0) (size25i m0) (fun v' q1 q2 => hK undef _ (fun s hs => by cases hs) ⟨hst.1.trans q2 (fun i _ hi => by simp at hi ⊢; exact .inr hi), by simpa using hst.2.1.keep q2 (by simp; have := HB.out; omega), by simpa using q1⟩)
  case fin =>
  intro lz vz hlz hst
  obtain ⟨s1, s2, s3⟩ := hst
  rw [if_pos (hlz 2 (by decide))] at s2
  rw [if_pos (hlz 3 (by decide))] at s3
  have mz : Mod [] w vz := far_mod (mm.then (Mod.drew [] wz)) s1 (fun i hi => by simp at hi; have := HB.out; omega)
  replace O1 := (O1.keep (Mod.drew [] wz) (by simp)).keep s1 (fun a ha => nA a ha)
  replace P1 := (P1.keep (Mod.drew [] wz) (by simp)).keep s1 (fun a ha => nB a ha)
  simp only [Act.put, setAll, List.setIfInBounds_toArray, List.foldl_cons, List.foldl_nil, List.set_cons_succ, List.set_cons_zero]
  go_wp2_with fail
  refine bodyPost_ret (results_cells rfl _ _ b6 b7 (sgc i A1 67 c1 x.A h x.c) (ic m0) _ _ rfl rfl (Cells.of_holds s2) (Cells.of_holds s3) Tryd.underlying50 rfl (size50s _ _ _ _ _ _ _) Tryd.underlying23 rfl (size25i m0)) rfl ?_
  exact ⟨_, _, _, _, l, _, _, _, ((r ++ [ty]).take h), _, rfl, by simp [HL.out.1], by simp [HL.out.2]; have := HP.out.2.2.2.2.2; omega, O1, P1, mz⟩
set_option maxRecDepth 100000 in
set_option maxHeartbeats 4000000 in
theorem turned_5 (i : Int) (A : Option Addr) (c : Nat) (l : List Idv) (hl : l.length = 67) (B : Option Addr) (d : Nat) (r : List Idv) (hr : r.length = 3) (m0 : Idv) (t : Tur) (hk : t.k % 18446744073709551616 % 6 = 5) (w : World) (RA : Cells w A (l.flatMap ic)) (RB : Cells w B (r.flatMap ic)) :
    Calls Tryd.prog 27 #[.agg (sgc i A 67 c B 3 d).toArray, iv m0, .agg (tuc t).toArray] w (TurnedR w) := by
  obtain ⟨tk, ta, ty⟩ := t
  obtain ⟨u, hu⟩ : ∃ u : Int, u = tk % 18446744073709551616 := ⟨_, rfl⟩
  obtain ⟨ua, hua⟩ : ∃ u : Int, u = ta % 18446744073709551616 := ⟨_, rfl⟩
  have HU : Hid (u = tk % 18446744073709551616 ∧ 0 ≤ u ∧ (5 : Int) = u % 6 ∧ ua = ta % 18446744073709551616 ∧ 0 ≤ ua) := Lib.hid ⟨hu, by omega, by simp only at hk; omega, hua, by omega⟩
  have HR := Lib.hid (And.intro RA RB)
  have HL := Lib.hid (And.intro hl hr)
  clear hk RA RB hl hr hu hua
  go_enter Tryd.func27, Tryd.ntmps27
  go_wp2_with (first
    | (with_reducible refine wpList_boxes (o := ⟨some 3, .box 50 (.tmp 0), _, _, _, _⟩) rfl 50 (.tmp 0) rfl _ rfl (sgc i A 67 c B 3 d) rfl ?_; intro w1 h3 m1 z1; replace z1 := Lib.hid z1)
    | (with_reducible refine wpList_boxes (o := ⟨some 4, .box 23 (.tmp 1), _, _, _, _⟩) rfl 23 (.tmp 1) rfl _ rfl (ic m0) rfl ?_; intro w2 h4 m2 z2; replace z2 := Lib.hid z2)
    | (with_reducible refine wpList_boxes (o := ⟨some 5, .box 57 (.tmp 2), _, _, _, _⟩) rfl 57 (.tmp 2) rfl _ rfl (tuc ⟨tk, ta, ty⟩) rfl ?_; intro w3 h5 m3 z3; replace z3 := Lib.hid z3)
    | (with_reducible refine wpList_allocs (o := ⟨some 6, .alloc 50, _, _, _, _⟩) rfl 50 rfl _ zero50 ?_; intro w4 h6 m4 z4; replace z4 := Lib.hid z4)
    | (with_reducible refine wpList_allocs (o := ⟨some 7, .alloc 23, _, _, _, _⟩) rfl 23 rfl _ zeroI_25 ?_; intro w5 h7 m5 z5
       obtain ⟨b3, hq3⟩ : ∃ q, q = w.heap.size := ⟨_, rfl⟩
       obtain ⟨b4, hq4⟩ : ∃ q, q = w1.heap.size := ⟨_, rfl⟩
       obtain ⟨b5, hq5⟩ : ∃ q, q = w2.heap.size := ⟨_, rfl⟩
       obtain ⟨b6, hq6⟩ : ∃ q, q = w3.heap.size := ⟨_, rfl⟩
       obtain ⟨b7, hq7⟩ : ∃ q, q = w4.heap.size := ⟨_, rfl⟩
       have HB : Hid (b3 < b4 ∧ b4 < b5 ∧ b5 < b6 ∧ b6 < b7 ∧ b7 < w5.heap.size ∧ w.heap.size = b3) := Lib.hid (by have := z1.out; have := z2.out; have := z3.out; have := z4.out; omega)
       rw [← hq3, ← hq4, ← hq5, ← hq6, ← hq7]
       have k3 : Holds w5 b3 50 (sgc i A 67 c B 3 d) := by rw [hq3]; exact (((h3.keep m2 (by simp)).keep m3 (by simp)).keep m4 (by simp)).keep m5 (by simp)
       have k4 : Holds w5 b4 23 (ic m0) := by rw [hq4]; exact ((h4.keep m3 (by simp)).keep m4 (by simp)).keep m5 (by simp)
       have k5 : Holds w5 b5 57 (tuc ⟨tk, ta, ty⟩) := by rw [hq5]; exact (h5.keep m4 (by simp)).keep m5 (by simp)
       have k6 : Holds w5 b6 50 (sgc 0 none 0 0 none 0 0) := by rw [hq6]; exact h6.keep m5 (by simp)
       have k7 : Holds w5 b7 23 (ic zeroI) := by rw [hq7]; exact h7
       have mm := (((m1.then m2).then m3).then m4).then m5
       clear h3 h4 h5 h6 h7 m1 m2 m3 m4 m5 z1 z2 z3 z4 z5 hq3 hq4 hq5 hq6 hq7))
  obtain ⟨wq, hwq⟩ : ∃ v, v = w5 := ⟨_, rfl⟩
  rw [← hwq] at k3 k4 k5 k6 k7 mm HB ⊢
  clear hwq
  replace k3 := k3.keep (Mod.drew [] wq) (by simp)
  replace k4 := k4.keep (Mod.drew [] wq) (by simp)
  replace k5 := k5.keep (Mod.drew [] wq) (by simp)
  replace k6 := k6.keep (Mod.drew [] wq) (by simp)
  replace k7 := k7.keep (Mod.drew [] wq) (by simp)
  have FM : ∀ v, Mod [b3] wq.drew v → Mod [] w v := fun v h => far_mod (mm.then (Mod.drew [] wq)) h (fun i hi => by simp at hi; have := HB.out; omega)
  have RA : ∀ v, Mod [b3] wq.drew v → Cells v A (l.flatMap ic) := fun v h => HR.out.1.keep (FM v h) (by simp)
  have RB : ∀ v, Mod [b3] wq.drew v → Cells v B (r.flatMap ic) := fun v h => HR.out.2.keep (FM v h) (by simp)
  have HQ : Hid (67 = l.length ∧ 3 = r.length ∧ b3 < wq.drew.heap.size ∧ b3 < wq.drew.heap.size) := Lib.hid ⟨HL.out.1.symm, HL.out.2.symm, by have := HB.out; exact Nat.lt_trans (by omega) HB.out.2.2.2.2.1, by have := HB.out; exact Nat.lt_trans (by omega) HB.out.2.2.2.2.1⟩
  clear mm
  refine wp_region_upx (X := XT) ⟨0, none, 0, 0, none, 0⟩ (fun x => [(8, .slice (some ⟨x.b, 0, none⟩) 0 0), (9, .pointer (some ⟨b3, 1, none⟩)), (10, .slice A 67 c), (11, .slice x.A 67 x.c), (12, .slice (some ⟨x.e, 0, none⟩) 0 0), (13, .pointer (some ⟨b3, 2, none⟩)), (14, .slice B 3 d), (15, .slice x.B 3 x.d), (16, .pointer (some ⟨b3, 1, none⟩)), (17, .pointer (some ⟨b3, 2, none⟩))]) 103 [8, 9, 10, 11, 12, 13, 14, 15, 16, 17] rfl (fun _ => rfl) (by decide) (by kernel_rfl) (fun x lz v => TwoS [b3] wq.drew (if lz 3 = true then ⟨x.A, x.c, l⟩ else if lz 0 = true then ⟨some ⟨x.b, 0, none⟩, 0, []⟩ else ⟨none, 0, []⟩) (if lz 7 = true then ⟨x.B, x.d, r⟩ else if lz 4 = true then ⟨some ⟨x.e, 0, none⟩, 0, []⟩ else ⟨none, 0, []⟩) v ∧ Holds v b3 50 (sgc i (if lz 9 = true then x.A else A) 67 (if lz 9 = true then x.c else c) (if lz 11 = true then x.B else B) 3 (if lz 11 = true then x.d else d))) (by kernel_rfl) ⟨TwoS.start _ (Mod.refl _ _), by simpa using k3⟩ (by kernel_rfl) (by kernel_rfl) ?step ?fin
  case step =>
    intro x lz T v j o hj hlj hdep hst hpar hgot hcl Kq hK
    have hjn : j < 12 := (Array.getElem?_eq_some_iff.1 hj).1
    obtain rfl | rfl | rfl | rfl | rfl | rfl | rfl | rfl | rfl | rfl | rfl | rfl : j = 0 ∨ j = 1 ∨ j = 2 ∨ j = 3 ∨ j = 4 ∨ j = 5 ∨ j = 6 ∨ j = 7 ∨ j = 8 ∨ j = 9 ∨ j = 10 ∨ j = 11 := by omega
    all_goals (have hj' := Option.some.inj (hj : some _ = some o); subst hj'; clear hj)
    · have l3 : lz 3 = false := (by cases hh : lz 3 with | false => rfl | true => exact absurd (hcl 3 _ rfl hh ⟨0, .data⟩ (by simp) rfl) (by rw [hlj]; simp))
      have h1 : TwoS [b3] wq.drew ⟨none, 0, []⟩ (if lz 7 = true then ⟨x.B, x.d, r⟩ else if lz 4 = true then ⟨some ⟨x.e, 0, none⟩, 0, []⟩ else ⟨none, 0, []⟩) v := by simpa [l3, hlj] using hst.1
      exact wp_ran rfl (exec_none33 rfl) (hK { x with b := v.heap.size } _ _ (fun j' o' s' g1 g2 g3 => by
          have g4 : j' < 12 := (Array.getElem?_eq_some_iff.1 g1).1
          clear hpar hgot hdep hK
          obtain rfl | rfl | rfl | rfl | rfl | rfl | rfl | rfl | rfl | rfl | rfl | rfl : j' = 0 ∨ j' = 1 ∨ j' = 2 ∨ j' = 3 ∨ j' = 4 ∨ j' = 5 ∨ j' = 6 ∨ j' = 7 ∨ j' = 8 ∨ j' = 9 ∨ j' = 10 ∨ j' = 11 := by omega
          all_goals (cases g1; cases g3 <;> first | rfl | (rw [hlj] at g2; cases g2) | (rw [l3] at g2; cases g2))) (fun s hs => by cases hs; rfl) ⟨by simpa [l3] using h1.lit, by simpa using hst.2.keep (Mod.alloc [] v _) (by simp)⟩)
    · exact wp_ran rfl (exec_fg1 rfl (eval_tmp ((hpar 3 rfl).trans rfl))) (hK x _ _ (fun _ _ _ _ _ _ => rfl) (fun s hs => by cases hs; rfl) (by simpa using hst))
    · have l9 : lz 9 = false := (by cases hh : lz 9 with | false => rfl | true => exact absurd (hcl 9 _ rfl hh ⟨2, .phase⟩ (by simp) rfl) (by rw [hlj]; simp))
      exact wp_ran rfl (exec_load rfl (eval_tmp (hgot 1 _ 9 rfl (hdep ⟨1, .data⟩ (by simp) rfl) rfl)) (run_load1 Tryd.underlying33 rfl (by have := hst.2.cell 1; simpa [sgc, l9] using this))) (hK x _ _ (fun _ _ _ _ _ _ => rfl) (fun s hs => by cases hs; rfl) (by simpa using hst))
    · have l9 : lz 9 = false := (by cases hh : lz 9 with | false => rfl | true => exact absurd (hcl 9 _ rfl hh ⟨3, .data⟩ (by simp) rfl) (by rw [hlj]; simp))
      have l0 : lz 0 = true := hdep ⟨0, .data⟩ (by simp) rfl
      have h1 : TwoS [b3] wq.drew ⟨some ⟨x.b, 0, none⟩, 0, []⟩ (if lz 7 = true then ⟨x.B, x.d, r⟩ else if lz 4 = true then ⟨some ⟨x.e, 0, none⟩, 0, []⟩ else ⟨none, 0, []⟩) v := by simpa [l0, hlj] using hst.1
      have hnb : b3 ∉ blk (some ⟨x.b, 0, none⟩) := fun hh => by have := (h1.2.2.2.1 _ hh).1; have := HQ.out.2.2.1; omega
      obtain ⟨A', c', v', r1, h2, m2⟩ := h1.app (ρ := T.eval) (o := { dst := some 11, op := .call { callee := .builtin .append, args := #[.tmp 8, .tmp 10], argTypes := #[33, 33] }, type := 33, pos := "x", after := #[], guard := none }) (.tmp 8) (.tmp 10) rfl (eval_tmp (hgot 0 _ 8 rfl (hdep ⟨0, .data⟩ (by simp) rfl) rfl)) HQ.out.1 (by omega) (eval_tmp (hgot 2 _ 10 rfl (hdep ⟨2, .data⟩ (by simp) rfl) rfl)) (RA v hst.1.1)
      exact wp_ran rfl r1 (hK { x with A := A', c := c' } _ _ (fun j' o' s' g1 g2 g3 => by
          have g4 : j' < 12 := (Array.getElem?_eq_some_iff.1 g1).1
          clear hpar hgot hdep hK
          obtain rfl | rfl | rfl | rfl | rfl | rfl | rfl | rfl | rfl | rfl | rfl | rfl : j' = 0 ∨ j' = 1 ∨ j' = 2 ∨ j' = 3 ∨ j' = 4 ∨ j' = 5 ∨ j' = 6 ∨ j' = 7 ∨ j' = 8 ∨ j' = 9 ∨ j' = 10 ∨ j' = 11 := by omega
          all_goals (cases g1; cases g3 <;> first | rfl | (rw [hlj] at g2; cases g2))) (fun s hs => by cases hs; rfl) ⟨by simpa using h2, by simpa [l9] using hst.2.keep m2 hnb⟩)
    · have l7 : lz 7 = false := (by cases hh : lz 7 with | false => rfl | true => exact absurd (hcl 7 _ rfl hh ⟨4, .data⟩ (by simp) rfl) (by rw [hlj]; simp))
      have h1 : TwoS [b3] wq.drew (if lz 3 = true then ⟨x.A, x.c, l⟩ else if lz 0 = true then ⟨some ⟨x.b, 0, none⟩, 0, []⟩ else ⟨none, 0, []⟩) ⟨none, 0, []⟩ v := by simpa [l7, hlj] using hst.1
      exact wp_ran rfl (exec_none33 rfl) (hK { x with e := v.heap.size } _ _ (fun j' o' s' g1 g2 g3 => by
          have g4 : j' < 12 := (Array.getElem?_eq_some_iff.1 g1).1
          clear hpar hgot hdep hK
          obtain rfl | rfl | rfl | rfl | rfl | rfl | rfl | rfl | rfl | rfl | rfl | rfl : j' = 0 ∨ j' = 1 ∨ j' = 2 ∨ j' = 3 ∨ j' = 4 ∨ j' = 5 ∨ j' = 6 ∨ j' = 7 ∨ j' = 8 ∨ j' = 9 ∨ j' = 10 ∨ j' = 11 := by omega
          all_goals (cases g1; cases g3 <;> first | rfl | (rw [hlj] at g2; cases g2) | (rw [l7] at g2; cases g2))) (fun s hs => by cases hs; rfl) ⟨by simpa [l7] using h1.swap.lit.swap, by simpa using hst.2.keep (Mod.alloc [] v _) (by simp)⟩)
    · exact wp_ran rfl (exec_fg2 rfl (eval_tmp ((hpar 3 rfl).trans rfl))) (hK x _ _ (fun _ _ _ _ _ _ => rfl) (fun s hs => by cases hs; rfl) (by simpa using hst))
    · have l11 : lz 11 = false := (by cases hh : lz 11 with | false => rfl | true => exact absurd (hcl 11 _ rfl hh ⟨6, .phase⟩ (by simp) rfl) (by rw [hlj]; simp))
      exact wp_ran rfl (exec_load rfl (eval_tmp (hgot 5 _ 13 rfl (hdep ⟨5, .data⟩ (by simp) rfl) rfl)) (run_load1 Tryd.underlying33 rfl (by have := hst.2.cell 2; simpa [sgc, l11] using this))) (hK x _ _ (fun _ _ _ _ _ _ => rfl) (fun s hs => by cases hs; rfl) (by simpa using hst))
    · have l11 : lz 11 = false := (by cases hh : lz 11 with | false => rfl | true => exact absurd (hcl 11 _ rfl hh ⟨7, .data⟩ (by simp) rfl) (by rw [hlj]; simp))
      have l4 : lz 4 = true := hdep ⟨4, .data⟩ (by simp) rfl
      have h1 : TwoS [b3] wq.drew (if lz 3 = true then ⟨x.A, x.c, l⟩ else if lz 0 = true then ⟨some ⟨x.b, 0, none⟩, 0, []⟩ else ⟨none, 0, []⟩) ⟨some ⟨x.e, 0, none⟩, 0, []⟩ v := by simpa [l4, hlj] using hst.1
      have hnb : b3 ∉ blk (some ⟨x.e, 0, none⟩) := fun hh => by have := (h1.swap.2.2.2.1 _ hh).1; have := HQ.out.2.2.1; omega
      obtain ⟨A', c', v', r1, h2, m2⟩ := h1.swap.app (ρ := T.eval) (o := { dst := some 15, op := .call { callee := .builtin .append, args := #[.tmp 12, .tmp 14], argTypes := #[33, 33] }, type := 33, pos := "x", after := #[], guard := none }) (.tmp 12) (.tmp 14) rfl (eval_tmp (hgot 4 _ 12 rfl (hdep ⟨4, .data⟩ (by simp) rfl) rfl)) HQ.out.2.1 (by omega) (eval_tmp (hgot 6 _ 14 rfl (hdep ⟨6, .data⟩ (by simp) rfl) rfl)) (RB v hst.1.1)
      exact wp_ran rfl r1 (hK { x with B := A', d := c' } _ _ (fun j' o' s' g1 g2 g3 => by
          have g4 : j' < 12 := (Array.getElem?_eq_some_iff.1 g1).1
          clear hpar hgot hdep hK
          obtain rfl | rfl | rfl | rfl | rfl | rfl | rfl | rfl | rfl | rfl | rfl | rfl : j' = 0 ∨ j' = 1 ∨ j' = 2 ∨ j' = 3 ∨ j' = 4 ∨ j' = 5 ∨ j' = 6 ∨ j' = 7 ∨ j' = 8 ∨ j' = 9 ∨ j' = 10 ∨ j' = 11 := by omega
          all_goals (cases g1; cases g3 <;> first | rfl | (rw [hlj] at g2; cases g2))) (fun s hs => by cases hs; rfl) ⟨by simpa using h2.swap, by simpa [l11] using hst.2.keep m2 hnb⟩)
    · exact wp_ran rfl (exec_fg1 rfl (eval_tmp ((hpar 3 rfl).trans rfl))) (hK x _ _ (fun _ _ _ _ _ _ => rfl) (fun s hs => by cases hs; rfl) (by simpa using hst))
    · have a3 : lz 3 = true := hdep ⟨3, .data⟩ (by simp) rfl
      refine wp_sg (k := 1) (t := 50) (cs := sgc i (if lz 9 = true then x.A else A) 67 (if lz 9 = true then x.c else c) (if lz 11 = true then x.B else B) 3 (if lz 11 = true then x.d else d)) (u := .slice x.A 67 x.c) rfl rfl (eval_tmp (hgot 8 _ 16 rfl (hdep ⟨8, .data⟩ (by simp) rfl) rfl)) (eval_tmp (hgot 3 _ 11 rfl (hdep ⟨3, .data⟩ (by simp) rfl) rfl)) rfl one33 hst.2 (by simp [sgc]) (fun v' q1 q2 => hK x undef _ (fun _ _ _ _ _ _ => rfl) (fun s hs => by cases hs) ⟨by simpa using hst.1.turn q2 (by simp) HQ.out.2.2.2, by simpa [hlj, sgc] using q1⟩)
    · exact wp_ran rfl (exec_fg2 rfl (eval_tmp ((hpar 3 rfl).trans rfl))) (hK x _ _ (fun _ _ _ _ _ _ => rfl) (fun s hs => by cases hs; rfl) (by simpa using hst))
    · have a7 : lz 7 = true := hdep ⟨7, .data⟩ (by simp) rfl
      refine wp_sg (k := 2) (t := 50) (cs := sgc i (if lz 9 = true then x.A else A) 67 (if lz 9 = true then x.c else c) (if lz 11 = true then x.B else B) 3 (if lz 11 = true then x.d else d)) (u := .slice x.B 3 x.d) rfl rfl (eval_tmp (hgot 10 _ 17 rfl (hdep ⟨10, .data⟩ (by simp) rfl) rfl)) (eval_tmp (hgot 7 _ 15 rfl (hdep ⟨7, .data⟩ (by simp) rfl) rfl)) rfl one33 hst.2 (by simp [sgc]) (fun v' q1 q2 => hK x undef _ (fun _ _ _ _ _ _ => rfl) (fun s hs => by cases hs) ⟨by simpa using hst.1.turn q2 (by simp) HQ.out.2.2.2, by simpa [hlj, sgc] using q1⟩)
  case fin =>
  intro x lz vr hlz hst
  have h1 : TwoS [b3] wq.drew ⟨x.A, x.c, l⟩ ⟨x.B, x.d, r⟩ vr := by simpa [hlz 3 (by decide), hlz 7 (by decide)] using hst.1
  have h3 : Holds vr b3 50 (sgc i x.A 67 x.c x.B 3 x.d) := by simpa [hlz 9 (by decide), hlz 11 (by decide)] using hst.2
  have mm := FM vr h1.1
  have h4 : Holds vr b4 23 (ic m0) := k4.keep h1.1 (by simp; have := HB.out; omega)
  have h5 : Holds vr b5 57 (tuc ⟨tk, ta, ty⟩) := k5.keep h1.1 (by simp; have := HB.out; omega)
  have h6 : Holds vr b6 50 (sgc 0 none 0 0 none 0 0) := k6.keep h1.1 (by simp; have := HB.out; omega)
  have h7 : Holds vr b7 23 (ic zeroI) := k7.keep h1.1 (by simp; have := HB.out; omega)
  have O1 : OwnG ic 23 32 vr x.A x.c l := h1.2.1
  have P1 : OwnG ic 23 32 vr x.B x.d r := h1.2.2.1
  have n1 : ∀ j ∈ blk x.A, b7 < j ∧ j ∉ blk x.B := fun j hj => by have := h1.2.2.2.1 j hj; exact ⟨Nat.lt_of_lt_of_le HB.out.2.2.2.2.1 (Nat.le_trans (Nat.le_of_eq rfl) this.1), this.2⟩
  have n2 : ∀ j ∈ blk x.B, b7 < j := fun j hj => Nat.lt_of_lt_of_le HB.out.2.2.2.2.1 (h1.2.2.2.2 j hj)
  clear hst hlz h1 k3 k4 k5 k6 k7 RA RB FM
  obtain ⟨xb, A1, c1, xe, B1, d1⟩ := x
  simp only at h3 O1 P1 n1 n2
  simp only [Act.put, setAll, List.setIfInBounds_toArray, List.foldl_cons, List.foldl_nil, List.set_cons_succ, List.set_cons_zero]
  have e0 := tu_k h5
  have e1 := tu_a h5
  simp only at e0 e1
  go_wp2_with (first
    | (with_reducible refine wpList_ranW (o := ⟨some 20, .convert _ _ _, _, _, _, _⟩) (by with_unfolding_all rfl) (.int .u64 u) _ (exec_conv1 HU.out.1 rfl rfl) ?_)
    | (with_reducible refine wpList_ranW (o := ⟨some 21, .binOp .rem _ _ _ _, _, _, _, _⟩) (by with_unfolding_all rfl) (.int .u64 5) _ (exec_remZ HU.out.2.1 (by decide) HU.out.2.2.1 rfl rfl rfl) ?_)
    | (with_reducible refine wpList_loads (o := ⟨some 23, .load 23 (.tmp 22), _, _, _, _⟩) rfl 23 (.tmp 22) rfl b5 2 _ rfl (tu_y h5) _ Tryd.underlying23 rfl (size25i ty) (iv ty) rfl ?_)
    | (with_reducible refine wpList_storesAll (o := ⟨none, .store 23 (.tmp 4) (.tmp 23), _, _, _, _⟩) rfl 23 (.tmp 4) (.tmp 23) rfl rfl b4 (ic ty) rfl (iv ty) rfl rfl 23 _ h4 (by rw [ic_length, ic_length]) (ic_one ty) (size25i ty) ?_
       intro w8 q4 qm z8))
  replace h4 := q4
  replace h3 := h3.keep qm (by simp; have := HB.out; omega)
  replace h6 := h6.keep qm (by simp; have := HB.out; omega)
  replace h7 := h7.keep qm (by simp; have := HB.out; omega)
  replace O1 := (O1.keep qm (fun a ha hm => by have := (n1 a.block (by simp [blk, ha])).1; have := HB.out; simp at hm; omega)).cells
  replace P1 := (P1.keep qm (fun a ha hm => by have := n2 a.block (by simp [blk, ha]); have := HB.out; simp at hm; omega)).cells
  replace mm := far_mod mm qm (fun i hi => by simp at hi; have := HB.out; omega)
  have nA : ∀ a, A1 = some a → a.block ∉ [b6, b7] := fun a ha => by have := (n1 a.block (by simp [blk, ha])).1; have := HB.out; simp; omega
  have nB : ∀ a, B1 = some a → a.block ∉ [b6, b7] := fun a ha => by have := n2 a.block (by simp [blk, ha]); have := HB.out; simp; omega
  clear q4 qm z8
  obtain ⟨wz, hwz⟩ : ∃ v, v = w8 := ⟨_, rfl⟩
  rw [← hwz] at h3 h4 h6 h7 O1 P1 mm ⊢
  clear hwz
  replace h3 := h3.keep (Mod.drew [] wz) (by simp)
  replace h4 := h4.keep (Mod.drew [] wz) (by simp)
  replace h6 := h6.keep (Mod.drew [] wz) (by simp)
  replace h7 := h7.keep (Mod.drew [] wz) (by simp)
  refine wp_region_ups [(101, .agg (sgc i A1 67 c1 B1 3 d1).toArray), (102, iv ty)] 103 [101, 102] rfl rfl (by decide) (by kernel_rfl) (fun lz v => Mod [b6, b7] wz.drew v ∧ Holds v b6 50 (if lz 2 = true then sgc i A1 67 c1 B1 3 d1 else sgc 0 none 0 0 none 0 0) ∧ Holds v b7 23 (if lz 3 = true then ic ty else ic zeroI)) (by kernel_rfl) ⟨Mod.refl _ _, by simpa using h6, by simpa using h7⟩ (by kernel_rfl) (by kernel_rfl) ?step ?fin
  case step =>
    intro lz T v j o hj hlj hdep hst hpar hgot hcl Kq hK
    have hjn : j < 4 := (Array.getElem?_eq_some_iff.1 hj).1
    obtain rfl | rfl | rfl | rfl : j = 0 ∨ j = 1 ∨ j = 2 ∨ j = 3 := by omega
    all_goals (have hj' := Option.some.inj (hj : some _ = some o); subst hj'; clear hj)
    · exact wp_ran rfl (exec_load rfl (eval_tmp ((hpar 3 rfl).trans rfl)) (run_loads (Cells.of_holds (h3.keep hst.1 (by simp; have := HB.out; omega))) Tryd.underlying50 rfl (size50s _ _ _ _ _ _ _))) (hK _ _ (fun s hs => by cases hs; rfl) (by simpa using hst))
    · exact wp_ran rfl (exec_load rfl (eval_tmp ((hpar 4 rfl).trans rfl)) (run_loads (Cells.of_holds (h4.keep hst.1 (by simp; have := HB.out; omega))) Tryd.underlying23 rfl (size25i ty))) (hK _ _ (fun s hs => by cases hs; rfl) (by simpa using hst))
    · have hp := hst.2.1
      rw [if_neg (by rw [hlj]; simp)] at hp
      refine wp_stored (ty := 50) (V := .agg (sgc i A1 67 c1 B1 3 d1).toArray) (cs := sgc i A1 67 c1 B1 3 d1) rfl rfl (eval_tmp ((hpar 6 rfl).trans rfl)) (eval_tmp (hgot 0 _ 101 rfl (hdep ⟨0, .data⟩ (by simp) rfl) rfl)) rfl hp rfl (sgc_one _ _ _ _ _ _ _) (size50s _ _ _ _ _ _ _) (fun v' q1 q2 => hK undef _ (fun s hs => by cases hs) ⟨hst.1.trans q2 (fun i _ hi => by simp at hi ⊢; exact .inl hi), by simpa using q1, by simpa using hst.2.2.keep q2 (by simp; have := HB.out; omega)⟩)
    · have hp := hst.2.2
      rw [if_neg (by rw [hlj]; simp)] at hp
      refine wp_stored (ty := 23) (V := iv ty) (cs := ic ty) rfl rfl (eval_tmp ((hpar 7 rfl).trans rfl)) (eval_tmp (hgot 1 _ 102 rfl (hdep ⟨1, .data⟩ (by simp) rfl) rfl)) rfl hp (by rw [ic_length, ic_length]) (ic_one ty) (size25i ty) (fun v' q1 q2 => hK undef _ (fun s hs => by cases hs) ⟨hst.1.trans q2 (fun i _ hi => by simp at hi ⊢; exact .inr hi), by simpa using hst.2.1.keep q2 (by simp; have := HB.out; omega), by simpa using q1⟩)
  case fin =>
  intro lz vz hlz hst
  obtain ⟨s1, s2, s3⟩ := hst
  rw [if_pos (hlz 2 (by decide))] at s2
  rw [if_pos (hlz 3 (by decide))] at s3
  have mz : Mod [] w vz := far_mod (mm.then (Mod.drew [] wz)) s1 (fun i hi => by simp at hi; have := HB.out; omega)
  replace O1 := (O1.keep (Mod.drew [] wz) (by simp)).keep s1 (fun a ha => nA a ha)
  replace P1 := (P1.keep (Mod.drew [] wz) (by simp)).keep s1 (fun a ha => nB a ha)
  simp only [Act.put, setAll, List.setIfInBounds_toArray, List.foldl_cons, List.foldl_nil, List.set_cons_succ, List.set_cons_zero]
  go_wp2_with fail
  refine bodyPost_ret (results_cells rfl _ _ b6 b7 (sgc i A1 67 c1 B1 3 d1) (ic ty) _ _ rfl rfl (Cells.of_holds s2) (Cells.of_holds s3) Tryd.underlying50 rfl (size50s _ _ _ _ _ _ _) Tryd.underlying23 rfl (size25i ty)) rfl ?_
  exact ⟨_, _, _, _, l, _, _, _, r, _, rfl, by simp [HL.out.1], by simp [HL.out.2], O1, P1, mz⟩
theorem turned_c (i : Int) (A : Option Addr) (c : Nat) (l : List Idv) (hl : l.length = 67) (B : Option Addr) (d : Nat) (r : List Idv) (hr : r.length = 3) (m0 : Idv) (t : Tur) (w : World) (RA : Cells w A (l.flatMap ic)) (RB : Cells w B (r.flatMap ic)) :
    Calls Tryd.prog 27 #[.agg (sgc i A 67 c B 3 d).toArray, iv m0, .agg (tuc t).toArray] w (TurnedR w) := by
  have hk : t.k % 18446744073709551616 % 6 = 0 ∨ t.k % 18446744073709551616 % 6 = 1 ∨ t.k % 18446744073709551616 % 6 = 2 ∨ t.k % 18446744073709551616 % 6 = 3 ∨ t.k % 18446744073709551616 % 6 = 4 ∨ t.k % 18446744073709551616 % 6 = 5 := by omega
  rcases hk with hk | hk | hk | hk | hk | hk
  · exact turned_0 i A c l hl B d r hr m0 t hk w RA RB
  · exact turned_1 i A c l hl B d r hr m0 t hk w RA RB
  · exact turned_2 i A c l hl B d r hr m0 t hk w RA RB
  · exact turned_3 i A c l hl B d r hr m0 t hk w RA RB
  · exact turned_4 i A c l hl B d r hr m0 t hk w RA RB
  · exact turned_5 i A c l hl B d r hr m0 t hk w RA RB
end Go.Proofs.YtbacmeaeehhhfaaDoor
