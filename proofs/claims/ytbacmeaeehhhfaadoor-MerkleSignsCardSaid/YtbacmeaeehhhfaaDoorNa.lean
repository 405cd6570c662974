/-
  The law's own seed, join, climbed, Same. My own work.
-/
import Derived.Test.YtbacmeaeehhhfaaDoorMw
namespace Go.Proofs.YtbacmeaeehhhfaaDoor
open Go.RowKit Go.Shelf
set_option linter.unusedVariables false
set_option linter.unusedSimpArgs false
set_option maxRecDepth 100000 in
set_option maxHeartbeats 4000000 in
theorem lawSeed_c (x : Idv) (i : Nat) (hi : i < 256) (w : World) (Gl : Glob w) :
    Calls Tryd.prog 16 #[iv x, .int .i64 (i : Int)] w fun r w' => r = .returned (iv (lseedI x i)) ∧ Mod [] w w' := by
  have hw1 := u8_in i hi
  obtain ⟨d, hd⟩ : ∃ d, d = lseedI x i := ⟨_, rfl⟩
  rw [← hd]
  obtain ⟨ui, hui⟩ : ∃ u, u = UInt8.ofNat i := ⟨_, rfl⟩
  rw [← hui] at hw1
  obtain ⟨L, hL⟩ : ∃ L : List UInt8, L = [76, ui] ++ x.1 := ⟨_, rfl⟩
  have HD : Hid (digI L = d) := Lib.hid (by rw [hd, hL, hui]; rfl)
  obtain ⟨i0, hi0, hz0, hz1, hz2⟩ := info_parts u8_zero
  have HI := Lib.hid (And.intro hi0 (And.intro hz0 (And.intro hz1 hz2)))
  have HG := Lib.hid (And.intro Gl (And.intro hL (And.intro x.2 (show L.length = 34 by rw [hL, List.length_append, x.2]; rfl))))
  clear hd Gl hui hL hi0 hz0 hz1 hz2
  go_enter Tryd.func16, Tryd.ntmps16
  go_wp2_with (first
    | (with_reducible refine wpList_boxes (o := ⟨some 2, .box 23 (.tmp 0), _, _, _, _⟩) rfl 23 (.tmp 0) rfl _ rfl (ic x) rfl ?_; intro w1 hb1 m1 z1; replace z1 := Lib.hid z1)
    | (with_reducible refine wpList_allocs (o := ⟨some 4, .alloc 23, _, _, _, _⟩) rfl 23 rfl _ zeroI_25 ?_; intro w2 hb2 m2 z2; replace z2 := Lib.hid z2)
    | (with_reducible refine wpList_made (o := ⟨some 7, .buildSlice 64 2 _, _, _, _, _⟩) (by with_unfolding_all rfl) _ 5 ([76, ui].map oct) (exec_headL rfl rfl) ?_
       intro w3 hb3 m3 z3
       have hO := Owns.of_holds (B := w2.heap.size) hb3 (Nat.le_refl _) (by simp [maxLen])
       replace z3 := Lib.hid z3)
    | (refine wpList_appends w3 (o := ⟨some 9, _, _, _, _, _⟩) rfl (.tmp 7) (.tmp 8) 64 rfl 5 i0 (.int .u8 0) 1 Tryd.underlying64 HI.out.1 HI.out.2.1 HI.out.2.2.1 HI.out.2.2.2 rfl w2.heap.size m3.size (some ⟨w2.heap.size, 0, none⟩) 2 2 [76, ui] rfl rfl hO (some ⟨w.heap.size, 0, none⟩) 32 32 x.1 rfl HG.out.2.2.1.symm (Reads.of_holds ((hb1.keep m2 (by simp)).keep m3 (by simp))) (by rw [HG.out.2.2.1]; simp) (by rw [HG.out.2.2.1]; simp [maxLen]) ?_
       intro A' c' w4 hO4 m4 q4
       rw [← HG.out.2.1] at hO4 ⊢
       have hbl : ∀ i ∈ blk (some ⟨w2.heap.size, 0, none⟩), i = w2.heap.size := fun i hi => by simpa [blk] using hi
       have mm := far_mod ((m1.then m2).then m3) m4 (fun i hi => by rw [hbl i hi]; exact (m1.then m2).size)
       have X := sumI A' L L.length c' rfl hO4.fits.1 (by rw [HG.out.2.2.2]; decide) w4 (HG.out.1.then mm) hO4.reads
       rw [HD.out] at X
       obtain ⟨N, hN⟩ : ∃ N, N = L.length := ⟨_, rfl⟩
       rw [← hN] at X ⊢
       replace hN := Lib.hid hN
       have hb4 := (hb2.keep m3 (by simp)).keep m4 (fun hi => by have h1 := hbl _ hi; have := z2.out; omega)
       clear hO4 q4 hbl)
    | (go_at_call 42; refine X.mono ?_; rintro e w5 ⟨rfl, m5⟩)
    | (with_reducible refine wpList_storesAll (o := ⟨none, .store 23 (.tmp 4) (.tmp 10), _, _, _, _⟩) rfl 23 (.tmp 4) (.tmp 10) rfl rfl w1.heap.size (ic d) rfl (iv d) rfl rfl 23 _ (hb4.keep m5 (by simp)) (by rw [ic_length, ic_length]) (ic_one d) (size25i d) ?_
       intro w6 hb6 m6 z6))
  refine bodyPost_ret (results_cell_row rfl _ _ w1.heap.size 23 _ (0, 0) _ rfl hb6 Tryd.underlying23 rfl (by rw [List.size_toArray]; exact size25i d)) rfl ?_
  exact ⟨rfl, far_mod (mm.then m5) m6 (fun i hi => by simp at hi; rw [hi]; exact m1.size)⟩
theorem exec_all {P : Program} {v : World} {o : Oper} {ρ : Operand → Value} {t e : TypeId} {x : Operand} {g m : Nat} (hu : P.underlying t = some (.array m e)) (he : (P.info? e).map (·.size) = some 1) (hm : 0 < m) (ho : o.op = .slice t x none none none) (hx : ρ x = .pointer (some ⟨g, 0, none⟩)) :
    (execOp ρ o).run P v = .ok (.value (.slice (some ⟨g, 0, none⟩) m m)) v := by
  unfold execOp
  have h1 : ¬ m = 0 := by omega
  cases hq : P.info? e with
  | none => rw [hq] at he; cases he
  | some it =>
    have hs : it.size = 1 := by rw [hq] at he; simpa using he
    simp [ho, hx, Instr.sliceAt, Instr.sliceBounds, Instr.sliceBound, Sem.run_bind, run_underlying hu, go_sem, sizeOf, typeInfo, hq, hs, h1, add_plain]
structure XJ where
  b : Nat
  A : Option Addr
  c : Nat
  C : Option Addr
  k : Nat
def SJ (n0 b4 : Nat) (d : Idv) (L1 L2 : List UInt8) (W : World) (l0 l2 l4 l6 : Bool) (x : XJ) (v : World) : Prop :=
  Mod [b4] W v ∧ Holds v b4 23 (ic (if l6 = true then d else zeroI)) ∧ (l0 = true → l2 = false → Owns v n0 5 (some ⟨x.b, 0, none⟩) 1 [78]) ∧ (l2 = true → l4 = false → Owns v n0 5 x.A x.c L1) ∧ (l4 = true → Owns v n0 5 x.C x.k L2)
section
variable {n0 b4 : Nat} {d : Idv} {L1 L2 : List UInt8} {W : World} {l0 l2 l4 l6 : Bool} {x : XJ} {v v' : World}
theorem SJ.mod0 (h : SJ n0 b4 d L1 L2 W l0 l2 l4 l6 x v) (m : Mod [] v v') : SJ n0 b4 d L1 L2 W l0 l2 l4 l6 x v' :=
  ⟨h.1.then m, h.2.1.keep m (by simp), fun q r => (h.2.2.1 q r).keep m (by simp), fun q r => (h.2.2.2.1 q r).keep m (by simp), fun q => (h.2.2.2.2 q).keep m (by simp)⟩
theorem SJ.lit (h : SJ n0 b4 d L1 L2 W l0 false false l6 x v) (hn : n0 ≤ v.heap.size) : SJ n0 b4 d L1 L2 W true false false l6 { x with b := v.heap.size } (v.alloc (.cells ([(78 : UInt8)].map oct).toArray 5)) := by
  have m : Mod [] v (v.alloc (.cells ([(78 : UInt8)].map oct).toArray 5)) := Mod.alloc [] v _
  exact ⟨h.1.then m, h.2.1.keep m (by simp), fun _ _ => Owns.of_holds (l := [78]) (Holds.made v 5 _) hn (by decide), (fun q => by cases q), (fun q => by cases q)⟩
theorem exec_appB {o : Oper} {ρ : Operand → Value} (s y : Operand) (ho : o.op = .call { callee := .builtin .append, args := #[s, y], argTypes := #[64, 64] }) (hn : n0 ≤ v.heap.size) {A : Option Addr} {c n m : Nat} {l k L : List UInt8} (hl : l.length = n) (hk : k.length = 32) (hL : l ++ k = L) (hm : L.length = m) (h100 : n ≤ 100) (hs : ρ s = .slice A n c) (hO : Owns v n0 5 A c l) {g : Nat} (hy : ρ y = .slice (some ⟨g, 0, none⟩) 32 32) (hr : Reads v (some ⟨g, 0, none⟩) k) :
    ∃ A' c' w', (execOp ρ o).run Tryd.prog v = .ok (.value (.slice A' m c')) w' ∧ Owns w' n0 5 A' c' L ∧ Mod (blk A) v w' := by
  subst hl hL hm
  obtain ⟨i0, j1, j2, j3, j4⟩ := info_parts u8_zero
  have h9 : (200 : Nat) ≤ maxLen := by decide
  obtain ⟨A', c', w', r1, r2, r3, _⟩ := run_appends v 64 o.type 5 i0 (.int .u8 0) 1 Tryd.underlying64 j1 j2 j3 j4 (by rfl) n0 hn A c l hO ⟨g, 0, none⟩ 32 k (by omega) hr (by omega) (by omega)
  rw [hk] at r1
  exact ⟨A', c', w', exec_append ho hs hy r1, r2, r3⟩
theorem SJ.app1 (h : SJ n0 b4 d L1 L2 W true false false l6 x v) (hb : b4 < n0) (hn : n0 ≤ v.heap.size) {o : Oper} {ρ : Operand → Value} (s y : Operand) (ho : o.op = .call { callee := .builtin .append, args := #[s, y], argTypes := #[64, 64] }) (hs : ρ s = .slice (some ⟨x.b, 0, none⟩) 1 1) {g : Nat} {k : List UInt8} (hk : k.length = 32) (hL : [78] ++ k = L1) (hy : ρ y = .slice (some ⟨g, 0, none⟩) 32 32) (hr : Reads v (some ⟨g, 0, none⟩) k) (hW : W.heap.size = n0) :
    ∃ A' c' w', (execOp ρ o).run Tryd.prog v = .ok (.value (.slice A' 33 c')) w' ∧ SJ n0 b4 d L1 L2 W true true false l6 { x with A := A', c := c' } w' := by
  have O := h.2.2.1 rfl rfl
  obtain ⟨A', c', w', r1, r2, r3⟩ := exec_appB s y ho hn (n := 1) (m := 33) rfl hk hL (by rw [← hL]; simp [hk]) (by decide) hs O hy hr
  have hf : ∀ i ∈ blk (some ⟨x.b, 0, none⟩), n0 ≤ i := fun i hi => by obtain ⟨a, ha, rfl⟩ := mem_blk hi; exact (O.fits.2.2 a ha).1
  exact ⟨A', c', w', r1, h.1.trans r3 (fun i hi hh => by have := hf i hh; omega), h.2.1.keep r3 (fun hh => by have := hf _ hh; omega), (fun _ q => by cases q), (fun _ _ => r2), (fun q => by cases q)⟩
theorem SJ.app2 (h : SJ n0 b4 d L1 L2 W true true false l6 x v) (hb : b4 < n0) (hn : n0 ≤ v.heap.size) {o : Oper} {ρ : Operand → Value} (s y : Operand) (ho : o.op = .call { callee := .builtin .append, args := #[s, y], argTypes := #[64, 64] }) (hs : ρ s = .slice x.A 33 x.c) {g : Nat} {k : List UInt8} (h1 : L1.length = 33) (hk : k.length = 32) (hL : L1 ++ k = L2) (hy : ρ y = .slice (some ⟨g, 0, none⟩) 32 32) (hr : Reads v (some ⟨g, 0, none⟩) k) (hW : W.heap.size = n0) :
    ∃ A' c' w', (execOp ρ o).run Tryd.prog v = .ok (.value (.slice A' 65 c')) w' ∧ SJ n0 b4 d L1 L2 W true true true l6 { x with C := A', k := c' } w' := by
  have O := h.2.2.2.1 rfl rfl
  obtain ⟨A', c', w', r1, r2, r3⟩ := exec_appB s y ho hn (n := 33) (m := 65) h1 hk hL (by rw [← hL]; simp [hk, h1]) (by decide) hs O hy hr
  have hf : ∀ i ∈ blk x.A, n0 ≤ i := fun i hi => by obtain ⟨a, ha, rfl⟩ := mem_blk hi; exact (O.fits.2.2 a ha).1
  exact ⟨A', c', w', r1, h.1.trans r3 (fun i hi hh => by have := hf i hh; omega), h.2.1.keep r3 (fun hh => by have := hf _ hh; omega), (fun _ q => by cases q), (fun _ q => by cases q), (fun _ => r2)⟩
end
set_option maxRecDepth 100000 in
set_option maxHeartbeats 4000000 in
theorem lawJoin_c (p q : Idv) (w : World) (Gl : Glob w) :
    Calls Tryd.prog 20 #[iv p, iv q] w fun r w' => r = .returned (iv (joinI p q)) ∧ Mod [] w w' := by
  obtain ⟨d, hd⟩ : ∃ d, d = joinI p q := ⟨_, rfl⟩
  rw [← hd]
  obtain ⟨L1, hL1⟩ : ∃ L, L = [78] ++ p.1 := ⟨_, rfl⟩
  obtain ⟨L2, hL2⟩ : ∃ L, L = L1 ++ q.1 := ⟨_, rfl⟩
  have HD : Hid (digI L2 = d) := Lib.hid (by rw [hd, hL2, hL1]; rfl)
  have hl1 : L1.length = 33 := by rw [hL1, List.length_append, p.2]; rfl
  have hl2 : L2.length = 65 := by rw [hL2, List.length_append, q.2, hl1]
  have HL : Hid (L1 = [78] ++ p.1 ∧ L2 = L1 ++ q.1 ∧ L1.length = 33 ∧ L2.length = 65) := Lib.hid ⟨hL1, hL2, hl1, hl2⟩
  have HG := Lib.hid Gl
  clear hd Gl hL1 hL2 hl1 hl2
  go_enter Tryd.func20, Tryd.ntmps20
  go_wp2_with (first
    | (with_reducible refine wpList_boxes (o := ⟨some 2, .box 23 (.tmp 0), _, _, _, _⟩) rfl 23 (.tmp 0) rfl _ rfl (ic p) rfl ?_; intro w1 hb1 m1 z1; replace z1 := Lib.hid z1)
    | (with_reducible refine wpList_boxes (o := ⟨some 3, .box 23 (.tmp 1), _, _, _, _⟩) rfl 23 (.tmp 1) rfl _ rfl (ic q) rfl ?_; intro u1 hc1 n1 y1; replace y1 := Lib.hid y1)
    | (with_reducible refine wpList_allocs (o := ⟨some 4, .alloc 23, _, _, _, _⟩) rfl 23 rfl _ zeroI_25 ?_; intro w2 hb2 m2 z2; replace z2 := Lib.hid z2))
  obtain ⟨b2, e2⟩ : ∃ b, b = w.heap.size := ⟨_, rfl⟩
  obtain ⟨b3, e3⟩ : ∃ b, b = w1.heap.size := ⟨_, rfl⟩
  obtain ⟨b4, e4⟩ : ∃ b, b = u1.heap.size := ⟨_, rfl⟩
  have k2 : Holds w2 b2 23 (ic p) := by rw [e2]; exact (hb1.keep n1 (by simp)).keep m2 (by simp)
  have k3 : Holds w2 b3 23 (ic q) := by rw [e3]; exact hc1.keep m2 (by simp)
  have k4 : Holds w2 b4 23 (ic zeroI) := by rw [e4]; exact hb2
  have g1 := z1.out
  have g2 := y1.out
  have g3 := z2.out
  have hlt : b2 < b4 ∧ b3 < b4 ∧ b4 < w2.heap.size ∧ w.heap.size ≤ b4 := by rw [e2, e3, e4]; omega
  have mm := (m1.then n1).then m2
  rw [← e2, ← e3, ← e4]
  clear hb1 m1 z1 hc1 n1 y1 hb2 m2 z2 g1 g2 g3 e2 e3 e4
  obtain ⟨wq, hwq⟩ : ∃ v, v = w2 := ⟨_, rfl⟩
  rw [← hwq] at k2 k3 k4 hlt mm ⊢
  clear hwq
  obtain ⟨n0, hn0⟩ : ∃ n, n = wq.drew.heap.size := ⟨_, rfl⟩
  have FM : ∀ v, Mod [b4] wq.drew v → Mod [] w v := fun v h => far_mod (mm.then (Mod.drew [] wq)) h (fun i hi => by simp at hi; rw [hi]; exact hlt.2.2.2)
  have NS : ∀ v, Mod [b4] wq.drew v → n0 ≤ v.heap.size := fun v h => by rw [hn0]; exact h.size
  have hdw : wq.heap.size ≤ wq.drew.heap.size := (Mod.drew [] wq).size
  have HN : Hid (b4 < n0 ∧ [78] ++ p.1 = L1 ∧ L1 ++ q.1 = L2 ∧ L2.length = 65 ∧ b2 ≠ b4 ∧ b3 ≠ b4 ∧ wq.drew.heap.size = n0 ∧ L1.length = 33) := Lib.hid ⟨by omega, HL.out.1.symm, HL.out.2.1.symm, HL.out.2.2.2, by omega, by omega, hn0.symm, HL.out.2.2.1⟩
  clear hn0 hdw HL hlt
  refine wp_region_upx (X := XJ) ⟨0, none, 0, none, 0⟩ (fun x => [(5, .slice (some ⟨x.b, 0, none⟩) 1 1), (6, .slice (some ⟨b2, 0, none⟩) 32 32), (7, .slice x.A 33 x.c), (8, .slice (some ⟨b3, 0, none⟩) 32 32), (9, .slice x.C 65 x.k), (10, iv d)]) 11 [5, 6, 7, 8, 9, 10] rfl (fun _ => rfl) (by decide) (by kernel_rfl) (fun x lz v => SJ n0 b4 d L1 L2 wq.drew (lz 0) (lz 2) (lz 4) (lz 6) x v) (by kernel_rfl) ⟨Mod.refl _ _, k4.keep (Mod.drew [] wq) (by simp), (fun h => by cases h), (fun h => by cases h), (fun h => by cases h)⟩ (by kernel_rfl) (by kernel_rfl) ?step ?fin
  case step =>
    intro x lz T v j o hj hlj hdep hst hpar hgot hcl Kq hK
    have mv : ∀ v, Mod [b4] wq.drew v → Mod [b4] wq v := fun v h => (Mod.drew [b4] wq).trans h (fun i _ hi => hi)
    have hjn : j < 7 := (Array.getElem?_eq_some_iff.1 hj).1
    obtain rfl | rfl | rfl | rfl | rfl | rfl | rfl : j = 0 ∨ j = 1 ∨ j = 2 ∨ j = 3 ∨ j = 4 ∨ j = 5 ∨ j = 6 := by omega
    all_goals (have hj' := Option.some.inj (hj : some _ = some o); subst hj'; clear hj)
    · have l2 : lz 2 = false := (by cases hh : lz 2 with | false => rfl | true => exact absurd (hcl 2 _ rfl hh ⟨0, .data⟩ (by simp) rfl) (by rw [hlj]; simp))
      have l4 : lz 4 = false := (by cases hh : lz 4 with | false => rfl | true => exact absurd (hcl 4 _ rfl hh ⟨2, .data⟩ (by simp) rfl) (by rw [l2]; simp))
      have hs' : SJ n0 b4 d L1 L2 wq.drew (lz 0) false false (lz 6) x v := by simpa [l2, l4] using hst
      refine wp_ran rfl (exec_headN rfl) (hK { x with b := v.heap.size } _ _ (fun j' o' s' g1 g2 g3 => by
          have g4 : j' < 7 := (Array.getElem?_eq_some_iff.1 g1).1
          clear hpar hgot hdep hK
          obtain rfl | rfl | rfl | rfl | rfl | rfl | rfl : j' = 0 ∨ j' = 1 ∨ j' = 2 ∨ j' = 3 ∨ j' = 4 ∨ j' = 5 ∨ j' = 6 := by omega
          all_goals (cases g1; cases g3 <;> first | rfl | (rw [hlj] at g2; cases g2))) (fun s hs => by cases hs; rfl) ?_)
      simpa [l2, l4] using hs'.lit (NS v hst.1)
    · exact wp_ran rfl (exec_all Tryd.underlying23 u8_one (by decide) rfl (eval_tmp ((hpar 2 rfl).trans rfl))) (hK x _ _ (fun _ _ _ _ _ _ => rfl) (fun s hs => by cases hs; rfl) (by simpa using hst))
    · have l4 : lz 4 = false := (by cases hh : lz 4 with | false => rfl | true => exact absurd (hcl 4 _ rfl hh ⟨2, .data⟩ (by simp) rfl) (by rw [hlj]; simp))
      have t0 : lz 0 = true := hdep ⟨0, .data⟩ (by simp) rfl
      have hs' : SJ n0 b4 d L1 L2 wq.drew true false false (lz 6) x v := by simpa [t0, hlj, l4] using hst
      obtain ⟨A', c', w', r1, r2⟩ := hs'.app1 HN.out.1 (NS v hst.1) (o := { dst := some 7, op := .call { callee := .builtin .append, args := #[.tmp 5, .tmp 6], argTypes := #[64, 64] }, type := 64, pos := "world.go:14", after := #[⟨0, .data⟩, ⟨1, .data⟩], guard := none }) (ρ := T.eval) (.tmp 5) (.tmp 6) rfl (eval_tmp (hgot 0 _ 5 rfl (hdep ⟨0, .data⟩ (by simp) rfl) rfl)) p.2 HN.out.2.1 (eval_tmp (hgot 1 _ 6 rfl (hdep ⟨1, .data⟩ (by simp) rfl) rfl)) (Reads.of_holds (k2.keep (mv v hst.1) (by simpa using HN.out.2.2.2.2.1))) HN.out.2.2.2.2.2.2.1
      refine wp_ran rfl r1 (hK { x with A := A', c := c' } _ _ (fun j' o' s' g1 g2 g3 => by
          have g4 : j' < 7 := (Array.getElem?_eq_some_iff.1 g1).1
          clear hpar hgot hdep hK
          obtain rfl | rfl | rfl | rfl | rfl | rfl | rfl : j' = 0 ∨ j' = 1 ∨ j' = 2 ∨ j' = 3 ∨ j' = 4 ∨ j' = 5 ∨ j' = 6 := by omega
          all_goals (cases g1; cases g3 <;> first | rfl | (rw [hlj] at g2; cases g2))) (fun s hs => by cases hs; rfl) ?_)
      simpa [t0, l4] using r2
    · exact wp_ran rfl (exec_all Tryd.underlying23 u8_one (by decide) rfl (eval_tmp ((hpar 3 rfl).trans rfl))) (hK x _ _ (fun _ _ _ _ _ _ => rfl) (fun s hs => by cases hs; rfl) (by simpa using hst))
    · have t2 : lz 2 = true := hdep ⟨2, .data⟩ (by simp) rfl
      have t0 : lz 0 = true := hcl 2 _ rfl t2 ⟨0, .data⟩ (by simp) rfl
      have hs' : SJ n0 b4 d L1 L2 wq.drew true true false (lz 6) x v := by simpa [t0, t2, hlj] using hst
      obtain ⟨A', c', w', r1, r2⟩ := hs'.app2 HN.out.1 (NS v hst.1) (o := { dst := some 9, op := .call { callee := .builtin .append, args := #[.tmp 7, .tmp 8], argTypes := #[64, 64] }, type := 64, pos := "world.go:14", after := #[⟨2, .data⟩, ⟨3, .data⟩, ⟨2, .chain⟩], guard := none }) (ρ := T.eval) (.tmp 7) (.tmp 8) rfl (eval_tmp (hgot 2 _ 7 rfl (hdep ⟨2, .data⟩ (by simp) rfl) rfl)) HN.out.2.2.2.2.2.2.2 q.2 HN.out.2.2.1 (eval_tmp (hgot 3 _ 8 rfl (hdep ⟨3, .data⟩ (by simp) rfl) rfl)) (Reads.of_holds (k3.keep (mv v hst.1) (by simpa using HN.out.2.2.2.2.2.1))) HN.out.2.2.2.2.2.2.1
      refine wp_ran rfl r1 (hK { x with C := A', k := c' } _ _ (fun j' o' s' g1 g2 g3 => by
          have g4 : j' < 7 := (Array.getElem?_eq_some_iff.1 g1).1
          clear hpar hgot hdep hK
          obtain rfl | rfl | rfl | rfl | rfl | rfl | rfl : j' = 0 ∨ j' = 1 ∨ j' = 2 ∨ j' = 3 ∨ j' = 4 ∨ j' = 5 ∨ j' = 6 := by omega
          all_goals (cases g1; cases g3 <;> first | rfl | (rw [hlj] at g2; cases g2))) (fun s hs => by cases hs; rfl) ?_)
      simpa [t0, t2] using r2
    · have t4 : lz 4 = true := hdep ⟨4, .data⟩ (by simp) rfl
      have O := hst.2.2.2.2 t4
      have X := sumI x.C L2 65 x.k HN.out.2.2.2.1.symm (by have := O.fits.1; rw [HN.out.2.2.2.1] at this; exact this) (by decide) v (HG.out.then (FM v hst.1)) O.reads
      rw [HD.out] at X
      refine wp_called rfl (exec_call1 rfl rfl (eval_tmp (hgot 4 _ 9 rfl (hdep ⟨4, .data⟩ (by simp) rfl) rfl)) (enters_of Tryd.func42 (by kernel_rfl) rfl)) (X.mono ?_)
      rintro e v' ⟨rfl, m2⟩
      exact ⟨_, rfl, hK x _ _ (fun _ _ _ _ _ _ => rfl) (fun s hs => by cases hs; rfl) (by simpa using hst.mod0 m2)⟩
    · have t4 : lz 4 = true := hdep ⟨4, .phase⟩ (by simp) rfl
      have t2 : lz 2 = true := hdep ⟨2, .phase⟩ (by simp) rfl
      have t0 : lz 0 = true := hdep ⟨0, .phase⟩ (by simp) rfl
      have hp : Holds v b4 23 (ic zeroI) := by have := hst.2.1; rw [if_neg (by rw [hlj]; simp)] at this; exact this
      refine wp_stored (ty := 23) (V := iv d) (cs := ic d) rfl rfl (eval_tmp ((hpar 4 rfl).trans rfl)) (eval_tmp (hgot 5 _ 10 rfl (hdep ⟨5, .data⟩ (by simp) rfl) rfl)) rfl hp (by rw [ic_length, ic_length]) (ic_one d) (size25i d) (fun v' q1 q2 => hK x _ _ (fun _ _ _ _ _ _ => rfl) (fun s hs => by cases hs) ⟨Mod.trans hst.1 q2 (fun i _ hi => hi), by rw [if_pos (by simp)]; exact q1, (fun _ r => by simp [t2] at r), (fun _ r => by simp [t4] at r), fun _ => (hst.2.2.2.2 t4).keep q2 (fun a ha hm => by have := ((hst.2.2.2.2 t4).fits.2.2 a ha).1; simp at hm; have := HN.out.1; omega)⟩)
  case fin =>
  intro x lz vr hlz hst
  have hp := hst.2.1
  rw [if_pos (hlz 6 (by decide))] at hp
  have mq := FM vr hst.1
  clear hst hlz
  simp only [setAll, List.foldl_cons, List.foldl_nil, List.set_cons_succ, List.set_cons_zero]
  go_wp2_with fail
  refine bodyPost_ret (results_cell_row rfl _ _ b4 23 _ (0, 0) _ rfl hp Tryd.underlying23 rfl (by rw [List.size_toArray]; exact size25i d)) rfl ?_
  exact ⟨rfl, mq⟩
end Go.Proofs.YtbacmeaeehhhfaaDoor
