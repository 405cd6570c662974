/-
  slices.Chunk over digests, as it is ranged over. My own work.
-/
import Derived.Test.YtbacmeaeehhhfaaDoorMc
namespace Go.Proofs.YtbacmeaeehhhfaaDoor
open Go.RowKit Go.Shelf
set_option linter.unusedVariables false
theorem exec_slc {P : Program} {v : World} {o : Oper} {ρ : Operand → Value} {t e : TypeId} {x y p q : Operand} {g f n c i j k s : Nat} (hu : P.underlying t = some (.slice e)) (he : (P.info? e).map (·.size) = some s) (hij : i ≤ j) (hjk : j ≤ k) (hkc : k ≤ c) (hik : i < k) (ho : o.op = .slice t x (some y) (some p) (some q)) (hx : ρ x = .slice (some ⟨g, f, none⟩) n c) (hy : ρ y = .int .i64 (i : Int)) (hp : ρ p = .int .i64 (j : Int)) (hq : ρ q = .int .i64 (k : Int)) :
    (execOp ρ o).run P v = .ok (.value (.slice (some ⟨g, f + i * s, none⟩) (j - i) (k - i))) v := by
  unfold execOp
  cases hq' : P.info? e with
  | none => rw [hq'] at he; cases he
  | some it =>
    have hs : it.size = s := by rw [hq'] at he; simpa using he
    simp [ho, hx, hy, hp, hq, Instr.sliceAt, Instr.slice, Instr.sliceBounds, Instr.sliceBound, Sem.run_bind, run_underlying hu, go_sem, sizeOf, typeInfo, hq', hs, hij, hjk, hkc, add_plain]
    intro h
    omega
theorem exec_fro {P : Program} {v : World} {o : Oper} {ρ : Operand → Value} {t e : TypeId} {x y : Operand} {g f n c i s : Nat} (hu : P.underlying t = some (.slice e)) (he : (P.info? e).map (·.size) = some s) (hin : i ≤ n) (hic : i < c) (ho : o.op = .slice t x (some y) none none) (hx : ρ x = .slice (some ⟨g, f, none⟩) n c) (hy : ρ y = .int .i64 (i : Int)) :
    (execOp ρ o).run P v = .ok (.value (.slice (some ⟨g, f + i * s, none⟩) (n - i) (c - i))) v := by
  unfold execOp
  cases hq' : P.info? e with
  | none => rw [hq'] at he; cases he
  | some it =>
    have hs : it.size = s := by rw [hq'] at he; simpa using he
    simp [ho, hx, hy, Instr.sliceAt, Instr.slice, Instr.sliceBounds, Instr.sliceBound, Sem.run_bind, run_underlying hu, go_sem, sizeOf, typeInfo, hq', hs, hin, add_plain]
    intro h
    omega
theorem exec_min {P : Program} {v : World} {o : Oper} {ρ : Operand → Value} {x y : Operand} {a b c : Int} (ho : o.op = .call { callee := .builtin .min, args := #[x, y], argTypes := #[3, 3] }) (hx : ρ x = .int .i64 a) (hy : ρ y = .int .i64 b) (hc : c = min a b) : (execOp ρ o).run P v = .ok (.value (.int .i64 c)) v := by
  unfold execOp
  subst hc
  simp [ho, hx, hy, resolve, invoke, go_sem]
  split <;> omega
theorem Rgi.wpIn_ups {Fe : Fence} {nf : Nat} {P : Program} {ops : Array Oper} {Q : Exit → Act → World → Prop} {id : Nat} {a : Act} {w : World} (ups : List (Nat × Value)) (n : Nat) (ks : List Nat) (hn : a.tmps.size = n) (hks : ups.map (·.1) = ks) (hnd : ks.Nodup) (hD : ((List.range ops.size).all fun j => match (ops[j]?).bind (·.dst) with | some s => decide (s < n) && (ups.lookup s).isSome | none => true) = true) (st : (Nat → Bool) → World → Prop) (hm : P.follows .mixedOrders = true) (h0 : st (fun _ => false) w.drew)
    (hB : drawn2B ops n = true) (hC : coverB ops n (restOf n ks) = true)
    (hstep : ∀ (l : Nat → Bool) (T : Act) (v : World) (i : Nat) (o : Oper), ops[i]? = some o → l i = false → (∀ e ∈ o.after, Region.binds .any e = true → l e.on = true) → st l v →
      (∀ s, (decide (s < n) && !ks.contains s) = true → T.tmps[s]? = a.tmps[s]?) → (∀ (j : Nat) (o' : Oper) (s : Nat), ops[j]? = some o' → l j = true → o'.dst = some s → T.tmps[s]? = ups.lookup s) → Closed ops l →
      ∀ K : Act → World → Prop, (∀ u v', (∀ s, o.dst = some s → some u = ups.lookup s) → st (fun j => if j = i then true else l j) v' → K (T.put o.dst u) v') →
        if Region.wanted o (yielded ops T.tmps) = true then o.wpIn Fe nf P T v K Q else ((∀ f, o.about P v T.eval = some f → Fe.fn f) ∧ K (T.put o.dst undef) v))
    (hend : ∀ (l : Nat → Bool) (v : World), (∀ j, j < ops.size → l j = true) → st l v → Q .normal ⟨(setAll a.tmps.toList ups).toArray, a.defers⟩ v) :
    (Code.region id ops true).wpIn Fe nf P Q a w := by
  subst hn hks
  have key : ∀ (j : Nat) (o' : Oper) (s : Nat), ops[j]? = some o' → o'.dst = some s → some ((setAll a.tmps.toList ups).getD s undef) = ups.lookup s := fun j o' s h1 h2 => by
    have hj := (Array.getElem?_eq_some_iff.1 h1).1
    have h3 := List.all_eq_true.1 hD j (List.mem_range.2 hj)
    rw [h1] at h3
    simp only [Option.bind_some, h2, Bool.and_eq_true, decide_eq_true_eq] at h3
    obtain ⟨v, hv⟩ := Option.isSome_iff_exists.1 h3.2
    rw [hv, List.getD_eq_getElem?_getD, setAll_lookup s v ups _ hnd (by simpa using h3.1) hv]
    rfl
  refine Rgi.wpIn_reg1 (setAll a.tmps.toList ups) a.tmps.size (restOf a.tmps.size (ups.map (·.1))) st a.defers hm (by rw [setAll_length]; simp) rfl rfl ?_ h0 hB hC ?_ hend
  · apply List.map_congr_left
    intro s hs
    obtain ⟨h1, h2⟩ := List.mem_filter.1 hs
    have hlt : s < a.tmps.size := List.mem_range.1 h1
    have hk : s ∉ ups.map (·.1) := by simpa using h2
    have h3 := setAll_other s ups a.tmps.toList hk
    rw [List.getD_eq_getElem?_getD, h3]
    simp [hlt]
  · intro l T v i o ho hl hdep hst hpar hgot hcl K hK
    refine hstep l T v i o ho hl hdep hst (fun s hs => ?_) (fun j o' s h1 h2 h3 => ?_) hcl K (fun u v' hu hv => hK u v' (fun s hs => ?_) hv)
    · rw [Bool.and_eq_true, decide_eq_true_eq] at hs
      have hk : s ∉ ups.map (·.1) := by simpa using hs.2
      rw [hpar s (List.mem_filter.2 ⟨List.mem_range.2 hs.1, hs.2⟩), List.getD_eq_getElem?_getD, setAll_other s ups a.tmps.toList hk]
      simp [hs.1]
    · rw [hgot j o' s h1 h2 h3, key j o' s h1 h3]
    · have h1 := hu s hs
      have h2 := key i o s ho hs
      rw [← h1] at h2
      exact (Option.some.inj h2).symm

theorem ck_c (A : Option Addr) (n c : Nat) (w : World) : Calls Tryd.prog 53 #[.slice A n c, .int .i64 2] w fun r w' => r = .returned (.func (.func 65) #[] #[.pointer (some ⟨w.heap.size, 0, none⟩), .pointer (some ⟨w.heap.size + 1, 0, none⟩)]) ∧ Holds w' w.heap.size 33 [.slice A n c] ∧ Holds w' (w.heap.size + 1) 3 [.int .i64 2] ∧ Mod [] w w' ∧ w'.heap.size = w.heap.size + 2 := by
  have h1 : Holds (w.alloc (.cells #[.slice A n c] 33)) w.heap.size 33 [.slice A n c] := Holds.made w 33 [.slice A n c]
  have m1 : Mod [] w (w.alloc (.cells #[.slice A n c] 33)) := Mod.alloc [] w _
  have s1 : (w.alloc (.cells #[.slice A n c] 33)).heap.size = w.heap.size + 1 := by simp
  have h2 : Holds ((w.alloc (.cells #[.slice A n c] 33)).alloc (.cells #[.int .i64 2] 3)) (w.alloc (.cells #[.slice A n c] 33)).heap.size 3 [.int .i64 2] := Holds.made _ 3 [.int .i64 2]
  have m2 : Mod [] (w.alloc (.cells #[.slice A n c] 33)) ((w.alloc (.cells #[.slice A n c] 33)).alloc (.cells #[.int .i64 2] 3)) := Mod.alloc [] _ _
  have h3 := h1.keep m2 (by simp)
  have m3 := m1.then m2
  rw [s1] at h2
  have s2 : ((w.alloc (.cells #[.slice A n c] 33)).alloc (.cells #[.int .i64 2] 3)).heap.size = w.heap.size + 2 := by simp
  have HK := Lib.hid (And.intro h3 (And.intro h2 (And.intro m3 s2)))
  clear h1 m1 s1 m2 h3 m3 s2
  have c2 := h2.cell 0
  simp only [List.getElem?_cons_zero] at c2
  clear h2
  go_enter Tryd.func53, Tryd.ntmps53
  go_wp2
  go_ret
  exact ⟨by simp, HK.out.1, HK.out.2.1, HK.out.2.2.1, HK.out.2.2.2⟩
/-- Memory as the iterator reads it. -/
structure Cbck (ms : List Nat) (n0 b2 b3 g o n c : Nat) (W : World) : Prop where
  h1 : Holds W b2 33 [.slice (some ⟨g, o, none⟩) n c]
  h2 : Holds W b3 3 [.int .i64 2]
  ne : b2 < n0 ∧ b3 < n0 ∧ b2 ∉ ms ∧ b3 ∉ ms
theorem Cbck.keep {ms : List Nat} {n0 b2 b3 g o n c : Nat} {W V : World} (h : Cbck ms n0 b2 b3 g o n c W) (m : KeepL ms n0 W V) : Cbck ms n0 b2 b3 g o n c V :=
  ⟨m.holds h.h1 h.ne.1 h.ne.2.2.1, m.holds h.h2 h.ne.2.1 h.ne.2.2.2, h.ne⟩
abbrev encck (g o : Nat) (y : Nat) : Array Value := #[.slice (some ⟨g, o + y * 2 * 32, none⟩) 2 2]
def Fxck (pre : List Nat) (y : Nat) (_ : World) : Prop := y = pre.length
set_option maxRecDepth 100000 in
set_option maxHeartbeats 4000000 in
theorem ck_in (nn : Nat) (hn : 1 ≤ nn) (y b2 b3 n0 g o n c cnt : Nat) (hcnt : n = cnt * 2) (hnc : n ≤ c) (hn5 : n ≤ 100000) (ms : List Nat) (J Jx : List Nat → World → Prop) (W : World)
    (hJ : ∀ pre v v', J pre v → Mod [] v v' → J pre v')
    (hY : ∀ pre z V, Fxck pre z V → J pre V → pre.length < cnt → YieldAt Fence.wide (nn - 1) Tryd.prog y (encck g o z) V fun r W' => (r = .returned (.bool true) ∧ J (pre ++ [z]) W' ∧ KeepL ms n0 V W') ∨ (r = .returned (.bool false) ∧ Jx (pre ++ [z]) W'))
    (H : Cbck ms n0 b2 b3 g o n c W) (h0 : J [] W) :
    CallsIn Fence.wide nn Tryd.prog 65 #[.func (.yield y) #[] #[], .pointer (some ⟨b2, 0, none⟩), .pointer (some ⟨b3, 0, none⟩)] W fun r W' => (∃ v, r = .returned v) ∧ ((∃ zs, zs.length = cnt ∧ J zs W') ∨ ∃ pre, True ∧ Jx pre W') := by
  have HW := Lib.hid H
  have HC := Lib.hid (And.intro hcnt hnc)
  have hnZ : (n : Int) ≤ 100000 := by omega
  clear H hcnt hnc
  refine callsIn_of_wp Tryd.func65 rfl trivial ?_ rfl
  simp only [Tryd.ntmps65, List.size_toArray, List.length_cons, List.length_nil, Nat.reduceAdd, Nat.reduceSub, Array.replicate_succ, Array.replicate_zero, List.push_toArray, List.append_toArray, List.nil_append, List.cons_append]
  gi_wp2_with fail
  gi_loopw [4] (fun i wr => ∃ pre : List Nat, pre.length ≤ cnt ∧ i = .int .i64 ((pre.length * 2 : Nat) : Int) ∧ J pre wr ∧ Cbck ms n0 b2 b3 g o n c wr) (fun i _ => n - (intOf i).toNat)
  case atStart => exact ⟨[], by simp, rfl, h0, HW.out⟩
  case round =>
    obtain ⟨pre, hle, rfl, hJs, hB⟩ := hrel
    obtain ⟨j, hj⟩ : ∃ j, j = pre.length := ⟨_, rfl⟩
    rw [← hj] at hle ⊢
    obtain ⟨i, hi⟩ : ∃ i, i = j * 2 := ⟨_, rfl⟩
    rw [← hi]
    have c1 := hB.h1.cell 0
    have c2 := hB.h2.cell 0
    simp only [List.getElem?_cons_zero] at c1 c2
    by_cases hlt : j < cnt
    · have hin : i + 2 ≤ n := by rw [hi, HC.out.1, ← Nat.succ_mul]; exact Nat.mul_le_mul_right _ hlt
      have hinZ : (i : Int) < (n : Int) := by omega
      have hicZ : (i : Int) + 2 ≤ (c : Int) := by have := HC.out.2; omega
      obtain ⟨i2, hi2⟩ : ∃ q, q = i + 2 := ⟨_, rfl⟩
      have HI2 : Hid (IntKind.i64.wrap ((i : Int) + 2) = (i2 : Int)) := Lib.hid (by rw [IntWalk.i64_in _ (by omega)]; omega)
      have hmn : (2 : Int) = min (2 : Int) ((n - i : Nat) : Int) := by omega
      have HF : ∀ V, Fxck pre j V := fun V => hj
      have HQ := Lib.hid (And.intro hj (And.intro hlt (And.intro hB (And.intro hJs (And.intro hi (And.intro hi2 (And.intro hin hmn)))))))
      clear hj hB hJs hle hlt hi hi2 hin hmn
      gi_wp2_with fail
      refine Rgi.wpIn_ups [(13, .int .i64 2), (14, .slice (some ⟨g, o, none⟩) n c), (15, .int .i64 (i : Int)), (16, .slice (some ⟨g, o + i * 32, none⟩) (n - i) (c - i)), (17, .int .i64 ((n - i : Nat) : Int)), (18, .int .i64 2), (5, .int .i64 2)] 31 [13, 14, 15, 16, 17, 18, 5] rfl rfl (by decide) (by kernel_rfl) (fun lz v => Mod [] wr.drew v) (by kernel_rfl) (Mod.refl _ _) (by kernel_rfl) (by kernel_rfl) ?step ?fin
      case step =>
        intro lz T v j' o' hj' hlj hdep hst hpar hgot hcl Kq hK
        have mv : ∀ v, Mod [] wr.drew v → Mod [] wr v := fun v h => (Mod.drew [] wr).then h
        have hjn : j' < 7 := (Array.getElem?_eq_some_iff.1 hj').1
        obtain rfl | rfl | rfl | rfl | rfl | rfl | rfl : j' = 0 ∨ j' = 1 ∨ j' = 2 ∨ j' = 3 ∨ j' = 4 ∨ j' = 5 ∨ j' = 6 := by omega
        all_goals (have hj'' := Option.some.inj (hj' : some _ = some o'); subst hj''; clear hj')
        · exact Rgi.wpi_ran (fun _ => trivial) (by intro c hc; cases hc) rfl (exec_load rfl (eval_tmp ((hpar 2 rfl).trans rfl)) (run_load1 Tryd.underlying3 rfl ((HQ.out.2.2.1.h2.keep (mv v hst) (by simp)).cell 0))) (hK _ _ (fun s hs => by cases hs; rfl) hst)
        · exact Rgi.wpi_ran (fun _ => trivial) (by intro c hc; cases hc) rfl (exec_load rfl (eval_tmp ((hpar 1 rfl).trans rfl)) (run_load1 Tryd.underlying33 rfl ((HQ.out.2.2.1.h1.keep (mv v hst) (by simp)).cell 0))) (hK _ _ (fun s hs => by cases hs; rfl) hst)
        · exact Rgi.wpi_ran (fun _ => trivial) (by intro c hc; cases hc) rfl (exec_move rfl (eval_tmp ((hpar 4 rfl).trans rfl))) (hK _ _ (fun s hs => by cases hs; rfl) hst)
        · exact Rgi.wpi_ran (fun _ => trivial) (by intro c hc; cases hc) rfl (exec_fro Tryd.underlying33 size25 (by have := HQ.out.2.2.2.2.2.2.1; omega) (by have := HQ.out.2.2.2.2.2.2.1; have := HC.out.2; omega) rfl (eval_tmp (hgot 1 _ 14 rfl (hdep ⟨1, .data⟩ (by simp) rfl) rfl)) (eval_tmp (hgot 2 _ 15 rfl (hdep ⟨2, .data⟩ (by simp) rfl) rfl))) (hK _ _ (fun s hs => by cases hs; rfl) hst)
        · exact Rgi.wpi_ran (fun _ => trivial) (by intro c hc; cases hc) rfl (exec_len Tryd.underlying33 rfl (eval_tmp (hgot 3 _ 16 rfl (hdep ⟨3, .data⟩ (by simp) rfl) rfl))) (hK _ _ (fun s hs => by cases hs; rfl) hst)
        · exact Rgi.wpi_ran (fun _ => trivial) (by intro c hc; cases hc) rfl (exec_min rfl (eval_tmp (hgot 0 _ 13 rfl (hdep ⟨0, .data⟩ (by simp) rfl) rfl)) (eval_tmp (hgot 4 _ 17 rfl (hdep ⟨4, .data⟩ (by simp) rfl) rfl)) HQ.out.2.2.2.2.2.2.2) (hK _ _ (fun s hs => by cases hs; rfl) hst)
        · exact Rgi.wpi_ran (fun _ => trivial) (by intro c hc; cases hc) rfl (exec_assign rfl (eval_tmp (hgot 5 _ 18 rfl (hdep ⟨5, .data⟩ (by simp) rfl) rfl))) (hK _ _ (fun s hs => by cases hs; rfl) hst)
      case fin =>
      intro lz v hlz hst
      have mw : Mod [] wr v := (Mod.drew [] wr).then hst
      have hB := HQ.out.2.2.1.keep (mw.keepL n0 (fun _ h => by cases h))
      have hJs := hJ _ _ _ HQ.out.2.2.2.1 mw
      have hyy := hY pre j v (HF v) hJs (by have := HQ.out.1; have := HQ.out.2.1; omega)
      have eE : encck g o j = #[.slice (some ⟨g, o + i * 32, none⟩) 2 2] := by
        show #[Value.slice (some ⟨g, o + j * 2 * 32, none⟩) 2 2] = _
        rw [← HQ.out.2.2.2.2.1]
      rw [eE] at hyy
      clear eE
      obtain ⟨fn, tmps, assign, body, hy, hR⟩ := hyy
      have c1 := hB.h1.cell 0
      have c2 := hB.h2.cell 0
      simp only [List.getElem?_cons_zero] at c1 c2
      have HV := Lib.hid hB
      clear hst hlz hJs
      simp only [setAll, List.foldl_cons, List.foldl_nil, List.set_cons_succ, List.set_cons_zero]
      gi_wp2_with fail
      refine hR.mono ?_
      rintro r W3 (⟨rfl, hJ3, hk3⟩ | ⟨rfl, hJx3⟩)
      · have hB3 := HV.out.keep hk3
        have c3 := hB3.h2.cell 0
        simp only [List.getElem?_cons_zero] at c3
        have HE := Lib.hid (And.intro hB3 hJ3)
        clear hB3 hJ3 hk3 hB hY hJ
        gi_wp2_with (with_reducible refine wpListIn_ranW (o := ⟨some 12, .binOp _ _ _ _ _, _, _, _, _⟩) (fun _ => trivial) rfl (by with_unfolding_all (intro c hc; cases hc)) (.int .i64 (i2 : Int)) W3 (exec_add rfl rfl rfl HI2.out) ?_)
        exact ⟨⟨pre ++ [j], by have := HQ.out.1; have := HQ.out.2.1; simp; omega, by have := HQ.out.1; have := HQ.out.2.2.2.2.1; have := HQ.out.2.2.2.2.2.1; simp; omega, HE.out.2, HE.out.1⟩, by have := HQ.out.2.2.2.2.2.1; have := HQ.out.2.2.2.2.2.2.1; simp [intOf]; omega⟩
      · gi_wp2
        refine bodyPost_ret (results_none rfl _ _ _) rfl ?_
        exact ⟨⟨_, rfl⟩, .inr ⟨_, trivial, hJx3⟩⟩
    · obtain rfl : j = cnt := by omega
      have hie : i = n := by rw [hi, HC.out.1]
      have hinZ : ¬ (i : Int) < (n : Int) := by omega
      have HQ := Lib.hid (And.intro hj hJs)
      clear hj hJs hle hB hi hie
      gi_wp2
      go_end0
      exact ⟨⟨_, rfl⟩, .inl ⟨pre, HQ.out.1.symm, HQ.out.2⟩⟩
theorem ck_with (nn : Nat) (hn : 1 ≤ nn) (b2 b3 n0 g o n c cnt : Nat) (hcnt : n = cnt * 2) (hnc : n ≤ c) (hn5 : n ≤ 100000) (ms : List Nat) (w : World) (H : Cbck ms n0 b2 b3 g o n c w) (_hn0 : n0 ≤ w.heap.size) :
    SeqWith Fence.wide nn Tryd.prog 65 #[.pointer (some ⟨b2, 0, none⟩), .pointer (some ⟨b3, 0, none⟩)] (encck g o) Fxck (KeepL ms n0) (fun zs => zs.length = cnt) (fun _ => True) cnt w := fun y J Jx W hW hJ _ hY h0 => by
  have hk : KeepL ms n0 w W := ⟨hW.size, fun k h1 _ _ => hW.block k (by omega)⟩
  exact ck_in nn hn y b2 b3 n0 g o n c cnt hcnt hnc hn5 ms J Jx W (fun pre v v' h k => hJ pre v v' none h ⟨k.os, k.tape, k.output, k.size, fun i hi _ => k.block i hi (by simp)⟩ (fun r h => by cases h)) hY (H.keep hk) h0

theorem cb_c (A : Option Addr) (n c : Nat) (w : World) : Calls Tryd.prog 63 #[.slice A n c, .int .i64 32] w fun r w' => r = .returned (.func (.func 72) #[] #[.pointer (some ⟨w.heap.size, 0, none⟩), .pointer (some ⟨w.heap.size + 1, 0, none⟩)]) ∧ Holds w' w.heap.size 64 [.slice A n c] ∧ Holds w' (w.heap.size + 1) 3 [.int .i64 32] ∧ Mod [] w w' ∧ w'.heap.size = w.heap.size + 2 := by
  have h1 : Holds (w.alloc (.cells #[.slice A n c] 64)) w.heap.size 64 [.slice A n c] := Holds.made w 64 [.slice A n c]
  have m1 : Mod [] w (w.alloc (.cells #[.slice A n c] 64)) := Mod.alloc [] w _
  have s1 : (w.alloc (.cells #[.slice A n c] 64)).heap.size = w.heap.size + 1 := by simp
  have h2 : Holds ((w.alloc (.cells #[.slice A n c] 64)).alloc (.cells #[.int .i64 32] 3)) (w.alloc (.cells #[.slice A n c] 64)).heap.size 3 [.int .i64 32] := Holds.made _ 3 [.int .i64 32]
  have m2 : Mod [] (w.alloc (.cells #[.slice A n c] 64)) ((w.alloc (.cells #[.slice A n c] 64)).alloc (.cells #[.int .i64 32] 3)) := Mod.alloc [] _ _
  have h3 := h1.keep m2 (by simp)
  have m3 := m1.then m2
  rw [s1] at h2
  have s2 : ((w.alloc (.cells #[.slice A n c] 64)).alloc (.cells #[.int .i64 32] 3)).heap.size = w.heap.size + 2 := by simp
  have HK := Lib.hid (And.intro h3 (And.intro h2 (And.intro m3 s2)))
  clear h1 m1 s1 m2 h3 m3 s2
  have c2 := h2.cell 0
  simp only [List.getElem?_cons_zero] at c2
  clear h2
  go_enter Tryd.func63, Tryd.ntmps63
  go_wp2
  go_ret
  exact ⟨by simp, HK.out.1, HK.out.2.1, HK.out.2.2.1, HK.out.2.2.2⟩
/-- Memory as the iterator reads it. -/
structure Cbcb (ms : List Nat) (n0 b2 b3 g o n c : Nat) (W : World) : Prop where
  h1 : Holds W b2 64 [.slice (some ⟨g, o, none⟩) n c]
  h2 : Holds W b3 3 [.int .i64 32]
  ne : b2 < n0 ∧ b3 < n0 ∧ b2 ∉ ms ∧ b3 ∉ ms
theorem Cbcb.keep {ms : List Nat} {n0 b2 b3 g o n c : Nat} {W V : World} (h : Cbcb ms n0 b2 b3 g o n c W) (m : KeepL ms n0 W V) : Cbcb ms n0 b2 b3 g o n c V :=
  ⟨m.holds h.h1 h.ne.1 h.ne.2.2.1, m.holds h.h2 h.ne.2.1 h.ne.2.2.2, h.ne⟩
abbrev enccb (g o : Nat) (y : Nat) : Array Value := #[.slice (some ⟨g, o + y * 32 * 1, none⟩) 32 32]
def Fxcb (pre : List Nat) (y : Nat) (_ : World) : Prop := y = pre.length
set_option maxRecDepth 100000 in
set_option maxHeartbeats 4000000 in
theorem cb_in (nn : Nat) (hn : 1 ≤ nn) (y b2 b3 n0 g o n c cnt : Nat) (hcnt : n = cnt * 32) (hnc : n ≤ c) (hn5 : n ≤ 100000) (ms : List Nat) (J Jx : List Nat → World → Prop) (W : World)
    (hJ : ∀ pre v v', J pre v → Mod [] v v' → J pre v')
    (hY : ∀ pre z V, Fxcb pre z V → J pre V → pre.length < cnt → YieldAt Fence.wide (nn - 1) Tryd.prog y (enccb g o z) V fun r W' => (r = .returned (.bool true) ∧ J (pre ++ [z]) W' ∧ KeepL ms n0 V W') ∨ (r = .returned (.bool false) ∧ Jx (pre ++ [z]) W'))
    (H : Cbcb ms n0 b2 b3 g o n c W) (h0 : J [] W) :
    CallsIn Fence.wide nn Tryd.prog 72 #[.func (.yield y) #[] #[], .pointer (some ⟨b2, 0, none⟩), .pointer (some ⟨b3, 0, none⟩)] W fun r W' => (∃ v, r = .returned v) ∧ ((∃ zs, zs.length = cnt ∧ J zs W') ∨ ∃ pre, True ∧ Jx pre W') := by
  have HW := Lib.hid H
  have HC := Lib.hid (And.intro hcnt hnc)
  have hnZ : (n : Int) ≤ 100000 := by omega
  clear H hcnt hnc
  refine callsIn_of_wp Tryd.func72 rfl trivial ?_ rfl
  simp only [Tryd.ntmps72, List.size_toArray, List.length_cons, List.length_nil, Nat.reduceAdd, Nat.reduceSub, Array.replicate_succ, Array.replicate_zero, List.push_toArray, List.append_toArray, List.nil_append, List.cons_append]
  gi_wp2_with fail
  gi_loopw [4] (fun i wr => ∃ pre : List Nat, pre.length ≤ cnt ∧ i = .int .i64 ((pre.length * 32 : Nat) : Int) ∧ J pre wr ∧ Cbcb ms n0 b2 b3 g o n c wr) (fun i _ => n - (intOf i).toNat)
  case atStart => exact ⟨[], by simp, rfl, h0, HW.out⟩
  case round =>
    obtain ⟨pre, hle, rfl, hJs, hB⟩ := hrel
    obtain ⟨j, hj⟩ : ∃ j, j = pre.length := ⟨_, rfl⟩
    rw [← hj] at hle ⊢
    obtain ⟨i, hi⟩ : ∃ i, i = j * 32 := ⟨_, rfl⟩
    rw [← hi]
    have c1 := hB.h1.cell 0
    have c2 := hB.h2.cell 0
    simp only [List.getElem?_cons_zero] at c1 c2
    by_cases hlt : j < cnt
    · have hin : i + 32 ≤ n := by rw [hi, HC.out.1, ← Nat.succ_mul]; exact Nat.mul_le_mul_right _ hlt
      have hinZ : (i : Int) < (n : Int) := by omega
      have hicZ : (i : Int) + 32 ≤ (c : Int) := by have := HC.out.2; omega
      obtain ⟨i2, hi2⟩ : ∃ q, q = i + 32 := ⟨_, rfl⟩
      have HI2 : Hid (IntKind.i64.wrap ((i : Int) + 32) = (i2 : Int)) := Lib.hid (by rw [IntWalk.i64_in _ (by omega)]; omega)
      have hmn : (32 : Int) = min (32 : Int) ((n - i : Nat) : Int) := by omega
      have HF : ∀ V, Fxcb pre j V := fun V => hj
      have HQ := Lib.hid (And.intro hj (And.intro hlt (And.intro hB (And.intro hJs (And.intro hi (And.intro hi2 (And.intro hin hmn)))))))
      clear hj hB hJs hle hlt hi hi2 hin hmn
      gi_wp2_with fail
      refine Rgi.wpIn_ups [(13, .int .i64 32), (14, .slice (some ⟨g, o, none⟩) n c), (15, .int .i64 (i : Int)), (16, .slice (some ⟨g, o + i * 1, none⟩) (n - i) (c - i)), (17, .int .i64 ((n - i : Nat) : Int)), (18, .int .i64 32), (5, .int .i64 32)] 31 [13, 14, 15, 16, 17, 18, 5] rfl rfl (by decide) (by kernel_rfl) (fun lz v => Mod [] wr.drew v) (by kernel_rfl) (Mod.refl _ _) (by kernel_rfl) (by kernel_rfl) ?step ?fin
      case step =>
        intro lz T v j' o' hj' hlj hdep hst hpar hgot hcl Kq hK
        have mv : ∀ v, Mod [] wr.drew v → Mod [] wr v := fun v h => (Mod.drew [] wr).then h
        have hjn : j' < 7 := (Array.getElem?_eq_some_iff.1 hj').1
        obtain rfl | rfl | rfl | rfl | rfl | rfl | rfl : j' = 0 ∨ j' = 1 ∨ j' = 2 ∨ j' = 3 ∨ j' = 4 ∨ j' = 5 ∨ j' = 6 := by omega
        all_goals (have hj'' := Option.some.inj (hj' : some _ = some o'); subst hj''; clear hj')
        · exact Rgi.wpi_ran (fun _ => trivial) (by intro c hc; cases hc) rfl (exec_load rfl (eval_tmp ((hpar 2 rfl).trans rfl)) (run_load1 Tryd.underlying3 rfl ((HQ.out.2.2.1.h2.keep (mv v hst) (by simp)).cell 0))) (hK _ _ (fun s hs => by cases hs; rfl) hst)
        · exact Rgi.wpi_ran (fun _ => trivial) (by intro c hc; cases hc) rfl (exec_load rfl (eval_tmp ((hpar 1 rfl).trans rfl)) (run_load1 Tryd.underlying64 rfl ((HQ.out.2.2.1.h1.keep (mv v hst) (by simp)).cell 0))) (hK _ _ (fun s hs => by cases hs; rfl) hst)
        · exact Rgi.wpi_ran (fun _ => trivial) (by intro c hc; cases hc) rfl (exec_move rfl (eval_tmp ((hpar 4 rfl).trans rfl))) (hK _ _ (fun s hs => by cases hs; rfl) hst)
        · exact Rgi.wpi_ran (fun _ => trivial) (by intro c hc; cases hc) rfl (exec_fro Tryd.underlying64 u8_one (by have := HQ.out.2.2.2.2.2.2.1; omega) (by have := HQ.out.2.2.2.2.2.2.1; have := HC.out.2; omega) rfl (eval_tmp (hgot 1 _ 14 rfl (hdep ⟨1, .data⟩ (by simp) rfl) rfl)) (eval_tmp (hgot 2 _ 15 rfl (hdep ⟨2, .data⟩ (by simp) rfl) rfl))) (hK _ _ (fun s hs => by cases hs; rfl) hst)
        · exact Rgi.wpi_ran (fun _ => trivial) (by intro c hc; cases hc) rfl (exec_len Tryd.underlying64 rfl (eval_tmp (hgot 3 _ 16 rfl (hdep ⟨3, .data⟩ (by simp) rfl) rfl))) (hK _ _ (fun s hs => by cases hs; rfl) hst)
        · exact Rgi.wpi_ran (fun _ => trivial) (by intro c hc; cases hc) rfl (exec_min rfl (eval_tmp (hgot 0 _ 13 rfl (hdep ⟨0, .data⟩ (by simp) rfl) rfl)) (eval_tmp (hgot 4 _ 17 rfl (hdep ⟨4, .data⟩ (by simp) rfl) rfl)) HQ.out.2.2.2.2.2.2.2) (hK _ _ (fun s hs => by cases hs; rfl) hst)
        · exact Rgi.wpi_ran (fun _ => trivial) (by intro c hc; cases hc) rfl (exec_assign rfl (eval_tmp (hgot 5 _ 18 rfl (hdep ⟨5, .data⟩ (by simp) rfl) rfl))) (hK _ _ (fun s hs => by cases hs; rfl) hst)
      case fin =>
      intro lz v hlz hst
      have mw : Mod [] wr v := (Mod.drew [] wr).then hst
      have hB := HQ.out.2.2.1.keep (mw.keepL n0 (fun _ h => by cases h))
      have hJs := hJ _ _ _ HQ.out.2.2.2.1 mw
      have hyy := hY pre j v (HF v) hJs (by have := HQ.out.1; have := HQ.out.2.1; omega)
      have eE : enccb g o j = #[.slice (some ⟨g, o + i, none⟩) 32 32] := by
        show #[Value.slice (some ⟨g, o + j * 32 * 1, none⟩) 32 32] = _
        rw [Nat.mul_one, ← HQ.out.2.2.2.2.1]
      rw [eE] at hyy
      clear eE
      obtain ⟨fn, tmps, assign, body, hy, hR⟩ := hyy
      have c1 := hB.h1.cell 0
      have c2 := hB.h2.cell 0
      simp only [List.getElem?_cons_zero] at c1 c2
      have HV := Lib.hid hB
      clear hst hlz hJs
      simp only [setAll, List.foldl_cons, List.foldl_nil, List.set_cons_succ, List.set_cons_zero]
      gi_wp2_with fail
      refine hR.mono ?_
      rintro r W3 (⟨rfl, hJ3, hk3⟩ | ⟨rfl, hJx3⟩)
      · have hB3 := HV.out.keep hk3
        have c3 := hB3.h2.cell 0
        simp only [List.getElem?_cons_zero] at c3
        have HE := Lib.hid (And.intro hB3 hJ3)
        clear hB3 hJ3 hk3 hB hY hJ
        gi_wp2_with (with_reducible refine wpListIn_ranW (o := ⟨some 12, .binOp _ _ _ _ _, _, _, _, _⟩) (fun _ => trivial) rfl (by with_unfolding_all (intro c hc; cases hc)) (.int .i64 (i2 : Int)) W3 (exec_add rfl rfl rfl HI2.out) ?_)
        exact ⟨⟨pre ++ [j], by have := HQ.out.1; have := HQ.out.2.1; simp; omega, by have := HQ.out.1; have := HQ.out.2.2.2.2.1; have := HQ.out.2.2.2.2.2.1; simp; omega, HE.out.2, HE.out.1⟩, by have := HQ.out.2.2.2.2.2.1; have := HQ.out.2.2.2.2.2.2.1; simp [intOf]; omega⟩
      · gi_wp2
        refine bodyPost_ret (results_none rfl _ _ _) rfl ?_
        exact ⟨⟨_, rfl⟩, .inr ⟨_, trivial, hJx3⟩⟩
    · obtain rfl : j = cnt := by omega
      have hie : i = n := by rw [hi, HC.out.1]
      have hinZ : ¬ (i : Int) < (n : Int) := by omega
      have HQ := Lib.hid (And.intro hj hJs)
      clear hj hJs hle hB hi hie
      gi_wp2
      go_end0
      exact ⟨⟨_, rfl⟩, .inl ⟨pre, HQ.out.1.symm, HQ.out.2⟩⟩
theorem cb_with (nn : Nat) (hn : 1 ≤ nn) (b2 b3 n0 g o n c cnt : Nat) (hcnt : n = cnt * 32) (hnc : n ≤ c) (hn5 : n ≤ 100000) (ms : List Nat) (w : World) (H : Cbcb ms n0 b2 b3 g o n c w) (_hn0 : n0 ≤ w.heap.size) :
    SeqWith Fence.wide nn Tryd.prog 72 #[.pointer (some ⟨b2, 0, none⟩), .pointer (some ⟨b3, 0, none⟩)] (enccb g o) Fxcb (KeepL ms n0) (fun zs => zs.length = cnt) (fun _ => True) cnt w := fun y J Jx W hW hJ _ hY h0 => by
  have hk : KeepL ms n0 w W := ⟨hW.size, fun k h1 _ _ => hW.block k (by omega)⟩
  exact cb_in nn hn y b2 b3 n0 g o n c cnt hcnt hnc hn5 ms J Jx W (fun pre v v' h k => hJ pre v v' none h ⟨k.os, k.tape, k.output, k.size, fun i hi _ => k.block i hi (by simp)⟩ (fun r h => by cases h)) hY (H.keep hk) h0
end Go.Proofs.YtbacmeaeehhhfaaDoor
