/-
  Package merkle: Root, neighbours, pathOf. My own work.
-/
import Derived.Test.YtbacmeaeehhhfaaDoorMe
namespace Go.Proofs.YtbacmeaeehhhfaaDoor
open Go.RowKit Go.Shelf
set_option linter.unusedVariables false
theorem exec_shr1 {P : Program} {v : World} {o : Oper} {ρ : Operand → Value} {t t' : TypeId} {x y : Operand} {a : Nat} (ho : o.op = .binOp .shr t x y t') (hx : ρ x = .int .i64 (a : Int)) (hy : ρ y = .int .u64 1) : (execOp ρ o).run P v = .ok (.value (.int .i64 ((a / 2 : Nat) : Int))) v := by
  unfold execOp
  simp [ho, hx, hy, go_sem]
theorem xor1i (a : Nat) (h : a < 8) : bits .xor .i64 (a : Int) 1 = ((a ^^^ 1 : Nat) : Int) := by
  obtain rfl | rfl | rfl | rfl | rfl | rfl | rfl | rfl : a = 0 ∨ a = 1 ∨ a = 2 ∨ a = 3 ∨ a = 4 ∨ a = 5 ∨ a = 6 ∨ a = 7 := by omega
  all_goals decide
theorem num_s : ∀ s, s < 3 → 8 / 2 ^ s = 4 / 2 ^ s * 2 ∧ 0 < 4 / 2 ^ s ∧ 4 / 2 ^ s ≤ 4 ∧ 8 / 2 ^ (s + 1) = 4 / 2 ^ s := by decide
theorem nb_lt : ∀ s, s < 3 → ∀ a, a < 8 → (a / 2 ^ s) ^^^ 1 < 8 / 2 ^ s ∧ a / 2 ^ s < 8 ∧ a / 2 ^ s / 2 = a / 2 ^ (s + 1) := by decide

/-- The rows of a seed's tree, the keys first. -/
def rowI (x : Idv) : Nat → List Idv
  | 0 => keysL x 8
  | s + 1 => halfL (rowI x s) ((rowI x s).length / 2)
theorem rowI_length (x : Idv) : ∀ s, s ≤ 3 → (rowI x s).length = 8 / 2 ^ s
  | 0, _ => keysL_length x 8
  | s + 1, h => by
    rw [rowI, halfL_length, rowI_length x s (by omega)]
    have := num_s s (by omega)
    omega
def rootI (x : Idv) : Idv := (rowI x 3).getD 0 zeroI
def nbI (x : Idv) (pl s : Nat) : Idv := (rowI x s).getD ((pl / 2 ^ s) ^^^ 1) zeroI
def pathL (x : Idv) (pl k : Nat) : List Idv := (List.range k).map (nbI x pl)
theorem pathL_length (x : Idv) (pl k : Nat) : (pathL x pl k).length = k := by simp [pathL]
theorem pathL_snoc (x : Idv) (pl k : Nat) : pathL x pl (k + 1) = pathL x pl k ++ [nbI x pl k] := by simp [pathL, List.range_succ]
theorem own_form {w : World} {A : Option Addr} {c : Nat} {l : List Idv} (h : OwnG ic 23 32 w A c l) (hk : 0 < l.length) : ∃ g, A = some ⟨g, 0, none⟩ := by
  rcases h.2 with ⟨hv, hn⟩ | ⟨g, cap, cur, hv, _⟩
  · omega
  · injection hv with e3 e4 e5
    exact ⟨g, e3⟩
def lenOf : Value → Nat
  | .slice _ n _ => n
  | _ => 0
set_option maxRecDepth 100000 in
set_option maxHeartbeats 4000000 in
theorem root_c (x : Idv) (w : World) (Gl : Glob w) : Calls Tryd.prog 12 #[iv x] w fun r w' => r = .returned (iv (rootI x)) ∧ Mod [] w w' := by
  obtain ⟨d, hd⟩ : ∃ d, d = rootI x := ⟨_, rfl⟩
  rw [← hd]
  have KC := fun v (mv : Mod [] w v) => keys_c x v (Gl.then mv)
  have HH := Lib.hid (And.intro Gl hd)
  clear Gl hd
  go_enter Tryd.func12, Tryd.ntmps12
  go_wp2_with (first
    | (with_reducible refine wpList_boxes (o := ⟨some 1, .box 23 (.tmp 0), _, _, _, _⟩) rfl 23 (.tmp 0) rfl _ rfl (ic x) rfl ?_; intro w1 hb1 m1 z1; replace z1 := Lib.hid z1)
    | (with_reducible refine wpList_allocs (o := ⟨some 2, .alloc 23, _, _, _, _⟩) rfl 23 rfl _ zeroI_25 ?_; intro w2 hb2 m2 z2; replace z2 := Lib.hid z2)
    | (with_reducible refine wpList_loads (o := ⟨some 4, .load 23 (.tmp 1), _, _, _, _⟩) rfl 23 (.tmp 1) rfl w.heap.size 0 _ rfl (Cells.of_holds (hb1.keep m2 (by simp))) _ Tryd.underlying23 rfl (size25i x) (iv x) rfl ?_)
    | (go_at_call 36; refine (KC _ (m1.then m2)).mono ?_
       rintro e w3 ⟨A, c, rfl, hO, m3, hbl⟩))
  obtain ⟨b2, hq2⟩ : ∃ q, q = w1.heap.size := ⟨_, rfl⟩
  have k2 : Holds w3 b2 23 (ic zeroI) := by rw [hq2]; exact hb2.keep m3 (by simp)
  have hw2 : w.heap.size ≤ b2 := by have := m1.size; omega
  have mm : Mod [] w w3 := (m1.then m2).then m3
  rw [← hq2]
  clear hb1 m1 z1 hb2 m2 z2 m3 hq2 KC
  have hw2 := Lib.hid hw2
  go_loopw [3] (fun r wi => ∃ (s n : Nat) (A : Option Addr) (c : Nat), s ≤ 3 ∧ n = 8 / 2 ^ s ∧ r = .slice A n c ∧ OwnG ic 23 32 wi A c (rowI x s) ∧ Holds wi b2 23 (ic zeroI) ∧ Mod [] w wi) (fun r _ => lenOf r)
  case atStart => exact ⟨0, 8, A, c, by omega, rfl, rfl, hO, k2, mm⟩
  case round =>
    obtain ⟨s, n, A, c, hs, hn, rfl, hO, k2, hm⟩ := hrel
    have hlen := rowI_length x s hs
    rw [← hn] at hlen
    obtain ⟨g, rfl⟩ := own_form hO (by rw [hlen, hn]; have : s = 0 ∨ s = 1 ∨ s = 2 ∨ s = 3 := by omega
                                       rcases this with rfl | rfl | rfl | rfl <;> decide)
    by_cases hs3 : s < 3
    · obtain ⟨n1, n2, n3, n4⟩ := num_s s hs3
      rw [← hn] at n1
      obtain ⟨h, hh⟩ : ∃ h, h = 4 / 2 ^ s := ⟨_, rfl⟩
      rw [← hh] at n1 n2 n3 n4
      have hfit := hO.fits
      rw [hlen] at hfit
      have HC := halved_c g 0 (rowI x s) n c h hlen.symm n1 n2 (by omega) hfit.1 wr (HH.out.1.then hm) hO.cells (hO.lt _ rfl)
      have hrow : halfL (rowI x s) h = rowI x (s + 1) := by rw [rowI, hlen]; congr 1; omega
      rw [hrow] at HC
      have hnZ : (n : Int) > 1 := by omega
      have HP := Lib.hid (And.intro n4 (And.intro n1 (And.intro k2 (And.intro hm n2))))
      clear n1 n2 n3 n4 hlen hfit hn hh hrow hO k2 hm
      go_wp2_with (go_at_call 37; refine HC.mono ?_; rintro e w4 ⟨A', c', rfl, hO', m4, hbl'⟩)
      exact ⟨⟨s + 1, h, A', c', by omega, HP.out.1.symm, rfl, hO', HP.out.2.2.1.keep m4 (by simp), HP.out.2.2.2.1.then m4⟩, by have := HP.out.2.1; have := HP.out.2.2.2.2; simp [lenOf]; omega⟩
    · obtain rfl : s = 3 := by omega
      have hn1 : n = 1 := hn
      subst hn1
      obtain ⟨_, _, e1, hc1⟩ := hO.cells.elem' ic 32 (by omega) ic_length 0 (by rw [hlen]; decide)
      cases e1
      have hr : (rowI x 3)[0]'(by rw [hlen]; decide) = d := by
        rw [HH.out.2, rootI, List.getD_eq_getElem?_getD, List.getElem?_eq_getElem (by rw [hlen]; decide)]
        rfl
      rw [hr] at hc1
      have HP := Lib.hid (And.intro k2 hm)
      clear hlen hn hO k2 hm hr
      go_wp2_with (first
        | (with_reducible refine wpList_loads (o := ⟨some 13, .load 23 (.tmp 12), _, _, _, _⟩) rfl 23 (.tmp 12) rfl g (0 + 0 * 32) _ rfl hc1 _ Tryd.underlying23 rfl (size25i d) (iv d) rfl ?_)
        | (with_reducible refine wpList_storesAll (o := ⟨none, .store 23 (.tmp 2) (.tmp 13), _, _, _, _⟩) rfl 23 (.tmp 2) (.tmp 13) rfl rfl b2 (ic d) rfl (iv d) rfl rfl 23 _ HP.out.1 (by rw [ic_length, ic_length]) (ic_one d) (size25i d) ?_
           intro w6 hb6 m6 z6))
      refine bodyPost_ret (results_cell_row rfl _ _ b2 23 _ (0, 0) _ rfl hb6 Tryd.underlying23 rfl (by rw [List.size_toArray]; exact size25i d)) rfl ?_
      exact ⟨rfl, far_mod HP.out.2 m6 (fun i hi => by have := hw2.out; simp at hi; omega)⟩
/-- What a round may turn: the cell p, and the row that it points to. -/
def KeepP (p : Nat) (W W' : World) : Prop := W.heap.size ≤ W'.heap.size ∧ ∀ A n c, Holds W p 33 [.slice A n c] → KeepC (p :: blk A) W W' ∧ ∃ A' n' c', Holds W' p 33 [.slice A' n' c'] ∧ ∀ i ∈ blk A', (W.heap.size ≤ i ∧ i < W'.heap.size) ∨ i ∈ blk A
theorem KeepP.trans {p : Nat} {A B C : World} (h : KeepP p A B) (k : KeepP p B C) : KeepP p A C := by
  refine ⟨Nat.le_trans h.1 k.1, fun a n c ha => ?_⟩
  obtain ⟨h1, b, n', c', hb, h2⟩ := h.2 a n c ha
  obtain ⟨k1, d, n2, c2, hd, k2⟩ := k.2 b n' c' hb
  refine ⟨⟨Nat.le_trans h.1 k.1, fun q o hq ho hc => k1.same q o (fun hm => ?_) (h1.same q o hq ho hc) hc⟩, d, n2, c2, hd, fun i hi => ?_⟩
  · rcases List.mem_cons.1 hm with e | e
    · exact hq (by simp [e])
    · rcases h2 q e with e' | e'
      · have := (Array.getElem?_eq_some_iff.1 ho).1; omega
      · exact hq (List.mem_cons_of_mem _ e')
  · rcases k2 i hi with e | e
    · left; have := h.1; omega
    · rcases h2 i e with e' | e'
      · left; have := k.1; omega
      · exact .inr e'
theorem KeepP.putObj {p : Nat} (W : World) (l : Nat) (o o' : Obj) (h : W.heap[l]? = some o) (hc : o.isCells = false) : KeepP p W (W.putObj l o') := by
  refine ⟨by simp [World.putObj], fun A n c hA => ⟨KeepC.putObj W l o o' h hc, A, n, c, ?_, fun i hi => .inr hi⟩⟩
  have hpl : p ≠ l := fun e => by
    subst e
    unfold Holds at hA
    rw [hA] at h
    cases h
    cases hc
  unfold Holds at hA ⊢
  rw [World.putObj_heap_other hpl]
  exact hA
/-- Memory as the iterator over neighbours reads it. -/
structure Nb (p g s c : Nat) (x : Idv) (W : World) : Prop where
  gl : Glob W
  row : Cells W (some ⟨g, 0, none⟩) ((rowI x s).flatMap ic)
  c8 : 8 / 2 ^ s ≤ c
  gp : g ≠ p ∧ g < W.heap.size ∧ 2 ≤ p
  pt : ∃ A m c, Holds W p 33 [.slice A m c] ∧ ∀ i ∈ blk A, 2 ≤ i ∧ i < W.heap.size ∧ i ≠ g
theorem Nb.keep {p g s c : Nat} {x : Idv} {W V : World} (h : Nb p g s c x W) (k : KeepP p W V) : Nb p g s c x V := by
  obtain ⟨A, m, cc, hA, hi⟩ := h.pt
  obtain ⟨k1, A', m', c', hA', hi'⟩ := k.2 A m cc hA
  have h2 := h.gl.two
  refine ⟨k1.glob h.gl (fun i hm => ?_), k1.cells h.row (fun a ha => ?_), h.c8, ⟨h.gp.1, Nat.lt_of_lt_of_le h.gp.2.1 k.1, h.gp.2.2⟩, A', m', c', hA', fun i hm => ?_⟩
  · rcases List.mem_cons.1 hm with e | e
    · rw [e]; exact h.gp.2.2
    · exact (hi i e).1
  · cases ha
    intro hm
    rcases List.mem_cons.1 hm with e | e
    · exact h.gp.1 e
    · exact (hi _ e).2.2 rfl
  · rcases hi' i hm with e | e
    · exact ⟨by omega, e.2, by have := h.gp.2.1; omega⟩
    · have := hi i e
      exact ⟨this.1, Nat.lt_of_lt_of_le this.2.1 k.1, this.2.2⟩
theorem Mod.keepP {p : Nat} {W V : World} (m : Mod [] W V) : KeepP p W V := ⟨m.size, fun A n c hA => ⟨m.keepC0, A, n, c, hA.keep m (by simp), fun i hi => .inr hi⟩⟩
abbrev encN (y : Idv) : Array Value := #[iv y]
def FxN (x : Idv) (pl : Nat) (pre : List Idv) (y : Idv) (_ : World) : Prop := y = nbI x pl pre.length
theorem neighbours_c (A : Option Addr) (n c : Nat) (z : Int) (w : World) : Calls Tryd.prog 54 #[.slice A n c, .int .i64 z] w fun r w' => r = .returned (.func (.func 66) #[] #[.pointer (some ⟨w.heap.size, 0, none⟩), .pointer (some ⟨w.heap.size + 1, 0, none⟩)]) ∧ Holds w' w.heap.size 33 [.slice A n c] ∧ Holds w' (w.heap.size + 1) 3 [.int .i64 z] ∧ Mod [] w w' ∧ w'.heap.size = w.heap.size + 2 := by
  have h1 : Holds (w.alloc (.cells #[.slice A n c] 33)) w.heap.size 33 [.slice A n c] := Holds.made w 33 [.slice A n c]
  have m1 : Mod [] w (w.alloc (.cells #[.slice A n c] 33)) := Mod.alloc [] w _
  have s1 : (w.alloc (.cells #[.slice A n c] 33)).heap.size = w.heap.size + 1 := by simp
  have h2 : Holds ((w.alloc (.cells #[.slice A n c] 33)).alloc (.cells #[.int .i64 z] 3)) (w.alloc (.cells #[.slice A n c] 33)).heap.size 3 [.int .i64 z] := Holds.made _ 3 [.int .i64 z]
  have m2 : Mod [] (w.alloc (.cells #[.slice A n c] 33)) ((w.alloc (.cells #[.slice A n c] 33)).alloc (.cells #[.int .i64 z] 3)) := Mod.alloc [] _ _
  have h3 := h1.keep m2 (by simp)
  have m3 := m1.then m2
  rw [s1] at h2
  have s2 : ((w.alloc (.cells #[.slice A n c] 33)).alloc (.cells #[.int .i64 z] 3)).heap.size = w.heap.size + 2 := by simp
  have HK := Lib.hid (And.intro h3 (And.intro h2 (And.intro m3 s2)))
  clear h1 m1 s1 m2 h3 m3 s2 h2
  go_enter Tryd.func54, Tryd.ntmps54
  go_wp2
  go_ret
  exact ⟨by simp, HK.out.1, HK.out.2.1, HK.out.2.2.1, HK.out.2.2.2⟩
set_option maxRecDepth 100000 in
set_option maxHeartbeats 4000000 in
theorem nbr_in (nn : Nat) (hn : 1 ≤ nn) (y b2 b3 p g0 c0 pl : Nat) (hpl : pl < 8) (x : Idv) (J Jx : List Idv → World → Prop) (W : World)
    (hJ : ∀ pre v v', J pre v → Mod [] v v' → J pre v')
    (hY : ∀ pre z V, FxN x pl pre z V → J pre V → pre.length < 3 → YieldAt Fence.wide (nn - 1) Tryd.prog y (encN z) V fun r W' => (r = .returned (.bool true) ∧ J (pre ++ [z]) W' ∧ KeepP p V W') ∨ (r = .returned (.bool false) ∧ Jx (pre ++ [z]) W'))
    (H2 : Holds W b2 33 [.slice (some ⟨g0, 0, none⟩) 8 c0]) (H3 : Holds W b3 3 [.int .i64 (pl : Int)]) (H : Nb p g0 0 c0 x W) (h0 : J [] W) :
    CallsIn Fence.wide nn Tryd.prog 66 #[.func (.yield y) #[] #[], .pointer (some ⟨b2, 0, none⟩), .pointer (some ⟨b3, 0, none⟩)] W fun r W' => (∃ v, r = .returned v) ∧ ((∃ zs, zs.length = 3 ∧ J zs W') ∨ ∃ pre, True ∧ Jx pre W') := by
  have HW := Lib.hid (And.intro H2 (And.intro H3 (And.intro H hpl)))
  clear H2 H3 H hpl
  have HFn : ∀ f, Fence.wide.fn f := fun _ => trivial
  refine callsIn_of_wp Tryd.func66 rfl trivial ?_ rfl
  simp only [Tryd.ntmps66, List.size_toArray, List.length_cons, List.length_nil, Nat.reduceAdd, Nat.reduceSub, Array.replicate_succ, Array.replicate_zero, List.push_toArray, List.append_toArray, List.nil_append, List.cons_append]
  gi_wp2_with fail
  refine Rgi.wpIn_ups [(6, .slice (some ⟨g0, 0, none⟩) 8 c0), (7, .int .i64 (pl : Int)), (4, .slice (some ⟨g0, 0, none⟩) 8 c0), (5, .int .i64 (pl : Int))] 23 [6, 7, 4, 5] rfl rfl (by decide) (by kernel_rfl) (fun lz v => Mod [] W.drew v) (by kernel_rfl) (Mod.refl _ _) (by kernel_rfl) (by kernel_rfl) ?step ?fin
  case step =>
    intro lz T v j' o' hj' hlj hdep hst hpar hgot hcl Kq hK
    have mv : ∀ v, Mod [] W.drew v → Mod [] W v := fun v h => (Mod.drew [] W).then h
    have hjn : j' < 4 := (Array.getElem?_eq_some_iff.1 hj').1
    obtain rfl | rfl | rfl | rfl : j' = 0 ∨ j' = 1 ∨ j' = 2 ∨ j' = 3 := by omega
    all_goals (have hj'' := Option.some.inj (hj' : some _ = some o'); subst hj''; clear hj')
    · exact Rgi.wpi_ran (fun _ => trivial) (by intro c hc; cases hc) rfl (exec_load rfl (eval_tmp ((hpar 1 rfl).trans rfl)) (run_load1 Tryd.underlying33 rfl ((HW.out.1.keep (mv v hst) (by simp)).cell 0))) (hK _ _ (fun s hs => by cases hs; rfl) hst)
    · exact Rgi.wpi_ran (fun _ => trivial) (by intro c hc; cases hc) rfl (exec_load rfl (eval_tmp ((hpar 2 rfl).trans rfl)) (run_load1 Tryd.underlying3 rfl ((HW.out.2.1.keep (mv v hst) (by simp)).cell 0))) (hK _ _ (fun s hs => by cases hs; rfl) hst)
    · exact Rgi.wpi_ran (fun _ => trivial) (by intro c hc; cases hc) rfl (exec_assign rfl (eval_tmp (hgot 0 _ 6 rfl (hdep ⟨0, .data⟩ (by simp) rfl) rfl))) (hK _ _ (fun s hs => by cases hs; rfl) hst)
    · exact Rgi.wpi_ran (fun _ => trivial) (by intro c hc; cases hc) rfl (exec_assign rfl (eval_tmp (hgot 1 _ 7 rfl (hdep ⟨1, .data⟩ (by simp) rfl) rfl))) (hK _ _ (fun s hs => by cases hs; rfl) hst)
  case fin =>
  intro lz w0 hlz hst
  have mw : Mod [] W w0 := (Mod.drew [] W).then hst
  have hJ0 := hJ _ _ _ h0 mw
  have hN0 := HW.out.2.2.1.keep mw.keepP
  clear hlz hst
  simp only [setAll, List.foldl_cons, List.foldl_nil, List.set_cons_succ, List.set_cons_zero]
  gi_wp2_with fail
  gi_loopw [4, 5] (fun r i wr => ∃ (pre : List Idv) (g c : Nat), pre.length ≤ 3 ∧ r = .slice (some ⟨g, 0, none⟩) (8 / 2 ^ pre.length) c ∧ i = .int .i64 ((pl / 2 ^ pre.length : Nat) : Int) ∧ J pre wr ∧ Nb p g pre.length c x wr) (fun r _ _ => lenOf r)
  case atStart => exact ⟨[], g0, c0, by simp, rfl, by simp, hJ0, hN0⟩
  case round =>
    obtain ⟨pre, g, c, hle, rfl, rfl, hJs, hB⟩ := hrel
    obtain ⟨s, hs⟩ : ∃ j, j = pre.length := ⟨_, rfl⟩
    rw [← hs] at hle hB ⊢
    obtain ⟨n, hn⟩ : ∃ n, n = 8 / 2 ^ s := ⟨_, rfl⟩
    obtain ⟨q, hq⟩ : ∃ n, n = pl / 2 ^ s := ⟨_, rfl⟩
    rw [← hn, ← hq]
    by_cases hlt : s < 3
    · obtain ⟨n1, n2, n3, n4⟩ := num_s s hlt
      obtain ⟨n5, n6, n7⟩ := nb_lt s hlt pl HW.out.2.2.2
      rw [← hn] at n1
      rw [← hq] at n5 n6 n7
      rw [← hn] at n5
      obtain ⟨h, hh⟩ : ∃ h, h = 4 / 2 ^ s := ⟨_, rfl⟩
      rw [← hh] at n1 n2 n3 n4
      have hlen := rowI_length x s (by omega)
      rw [← hn] at hlen
      obtain ⟨t, ht⟩ : ∃ t, t = q ^^^ 1 := ⟨_, rfl⟩
      have hx1 := xor1i q n6
      rw [← ht] at hx1 n5
      have hnZ : (n : Int) > 1 := by omega
      have hn8 : (n : Int) ≤ 8 := by omega
      have htZ : (t : Int) < (n : Int) := by omega
      have htl : t < (rowI x s).length := by rw [hlen]; exact n5
      obtain ⟨_, _, e1, hc1⟩ := hB.row.elem' ic 32 (by omega) ic_length t htl
      cases e1
      obtain ⟨z, hz⟩ : ∃ z, z = nbI x pl s := ⟨_, rfl⟩
      have hze : (rowI x s)[t] = z := by
        rw [hz, nbI, ← hq, ← ht, List.getD_eq_getElem?_getD, List.getElem?_eq_getElem htl]
        rfl
      rw [hze, Nat.zero_add] at hc1
      have hF : ∀ V, FxN x pl pre z V := fun V => by unfold FxN; rw [← hs]; exact hz
      have hyy := hY pre z wr (hF wr) hJs (by omega)
      obtain ⟨fn, tmps, assign, body, hy, hR⟩ := hyy
      have HQ := Lib.hid (And.intro hs (And.intro hB (And.intro n1 (And.intro n2 (And.intro n3 (And.intro n4 (And.intro n7 (And.intro hlen (And.intro hh (And.intro hx1 hn))))))))))
      clear hs hB hJs hn hq hle n1 n2 n3 n4 n5 n6 n7 hlen ht hx1 htl hz hze hh hJ0 hN0
      gi_wp2_with (first
        | (with_reducible refine wpListIn_ranW (o := ⟨some 18, .binOp _ _ _ _ _, _, _, _, _⟩) HFn rfl (by with_unfolding_all (intro c hc; cases hc)) (.int .i64 (t : Int)) wr (exec_xor rfl rfl rfl HQ.out.2.2.2.2.2.2.2.2.2.1) ?_)
        | (with_reducible refine wpListIn_loads (o := ⟨some 20, .load 23 (.tmp 19), _, _, _, _⟩) rfl 23 (.tmp 19) rfl g (t * 32) _ rfl hc1 _ Tryd.underlying23 rfl (size25i z) (iv z) rfl ?_))
      refine hR.mono ?_
      rintro r W3 (⟨rfl, hJ3, hk3⟩ | ⟨rfl, hJx3⟩)
      · have hB3 := HQ.out.2.1.keep hk3
        have HC := halved_c g 0 (rowI x s) n c h HQ.out.2.2.2.2.2.2.2.1.symm HQ.out.2.2.1 HQ.out.2.2.2.1 (by have := HQ.out.2.2.2.2.1; omega) (by rw [HQ.out.2.2.2.2.2.2.2.2.2.2]; exact hB3.c8) W3 hB3.gl hB3.row hB3.gp.2.1
        have hrow : halfL (rowI x s) h = rowI x (s + 1) := by rw [rowI, HQ.out.2.2.2.2.2.2.2.1]; congr 1; have := HQ.out.2.2.1; omega
        rw [hrow] at HC
        have HE := Lib.hid (And.intro hB3 hJ3)
        clear hB3 hJ3 hk3 hY hrow hc1 hR hy
        gi_wp2_with fail
        refine (callsIn_wide.2 HC).mono ?_
        rintro r w4 ⟨A', c', rfl, hO', m4, hbl'⟩
        clear HC
        gi_wp2_with (first
          | (with_reducible refine wpListIn_ranW (o := ⟨some 14, .binOp _ _ _ _ _, _, _, _, _⟩) HFn rfl (by with_unfolding_all (intro c hc; cases hc)) (.int .i64 ((q / 2 : Nat) : Int)) w4 (exec_shr1 rfl rfl rfl) ?_))
        obtain ⟨g', rfl⟩ := own_form hO' (by rw [rowI_length x (s + 1) (by omega), HQ.out.2.2.2.2.2.1]; exact HQ.out.2.2.2.1)
        have hfit := hO'.fits
        rw [rowI_length x (s + 1) (by omega)] at hfit
        have hB4 := HE.out.1.keep (m4.keepP (p := p))
        have hge : W3.heap.size ≤ g' := hbl' g' (by simp [blk])
        have hplt : p < W3.heap.size := by obtain ⟨A, m, cc, hA, _⟩ := HE.out.1.pt; exact hA.lt
        have hpl1 : (pre ++ [z]).length = s + 1 := by rw [List.length_append, ← HQ.out.1]; rfl
        refine ⟨⟨pre ++ [z], g', c', by rw [hpl1]; omega, by rw [hpl1, HQ.out.2.2.2.2.2.1], by rw [hpl1, ← HQ.out.2.2.2.2.2.2.1]; rfl, hJ _ _ _ HE.out.2 m4, ?_⟩, by have := HQ.out.2.2.1; have := HQ.out.2.2.2.1; simp [lenOf]; omega⟩
        rw [hpl1]
        refine ⟨hB4.gl, hO'.cells, hfit.1, ⟨by omega, hO'.lt _ rfl, hB4.gp.2.2⟩, ?_⟩
        obtain ⟨A, m, cc, hA, hi⟩ := HE.out.1.pt
        exact ⟨A, m, cc, hA.keep m4 (by simp), fun i hm => ⟨(hi i hm).1, Nat.lt_of_lt_of_le (hi i hm).2.1 m4.size, by have := (hi i hm).2.1; omega⟩⟩
      · gi_wp2
        refine bodyPost_ret (results_none rfl _ _ _) rfl ?_
        exact ⟨⟨_, rfl⟩, .inr ⟨_, trivial, hJx3⟩⟩
    · obtain rfl : s = 3 := by omega
      have hn1 : n = 1 := hn
      subst hn1
      have HQ := Lib.hid (And.intro hs hJs)
      clear hs hJs hle hB hn hq hJ0 hN0
      gi_wp2
      go_end0
      exact ⟨⟨_, rfl⟩, .inl ⟨pre, HQ.out.1.symm, HQ.out.2⟩⟩
theorem nbr_with (nn : Nat) (hn : 1 ≤ nn) (b2 b3 p g0 c0 pl : Nat) (hpl : pl < 8) (x : Idv) (w : World) (H2 : Holds w b2 33 [.slice (some ⟨g0, 0, none⟩) 8 c0]) (H3 : Holds w b3 3 [.int .i64 (pl : Int)]) (H : Nb p g0 0 c0 x w) :
    SeqWith Fence.wide nn Tryd.prog 66 #[.pointer (some ⟨b2, 0, none⟩), .pointer (some ⟨b3, 0, none⟩)] encN (FxN x pl) (KeepP p) (fun zs => zs.length = 3) (fun _ => True) 3 w := fun y J Jx W hW hJ _ hY h0 => by
  have hk : ∀ k o, w.heap[k]? = some o → W.heap[k]? = some o := fun k o h1 => (hW.block k (Array.getElem?_eq_some_iff.1 h1).1).trans h1
  have hkP : KeepP p w W := ⟨hW.size, fun A n c hA => ⟨⟨hW.size, fun k o _ h1 _ => hk k o h1⟩, A, n, c, hk _ _ hA, fun i hi => .inr hi⟩⟩
  exact nbr_in nn hn y b2 b3 p g0 c0 pl hpl x J Jx W (fun pre v v' h k => hJ pre v v' none h ⟨k.os, k.tape, k.output, k.size, fun i hi _ => k.block i hi (by simp)⟩ (fun r h => by cases h)) hY (hk _ _ H2) (hk _ _ H3) (H.keep hkP) h0
end Go.Proofs.YtbacmeaeehhhfaaDoor
