/-
  My own texts Tn To Tp, one behind the other.
-/
import Derived.Test.YtchanildogjhgaaDoorA5
namespace Go.Proofs.YtchanildogjhgaaDoor
section
open Go.RowKit Go.Shelf
set_option linter.unusedVariables false
set_option linter.unusedSimpArgs false
theorem wpList_makeG {P : Program} {w : World} {ops : Array Oper} {rest : List Oper} {o : Oper} {a : Act} {Q : Exit → Act → World → Prop} (hgd : o.guard = none) (t : TypeId) (x y : Operand) (ho : o.op = .makeSlice t x y) (e : TypeId) (i : TypeInfo) (z : Value) (size bytes n : Nat) (ht : P.underlying t = some (.slice e)) (hi : P.info? e = some i) (hz : i.zero = some z) (hs : i.size = size) (hb : i.bytes = bytes)
    (hx : a.eval x = .int .i64 (n : Int)) (hy : a.eval y = .int .i64 (n : Int)) (h63 : bytes * n ≤ 281474976710656) (h64 : n ≤ 9223372036854775807)
    (h : ∀ v cs, Holds v w.heap.size e cs → cs.length = n * size → cs = (madeCells z.cells (n * size)).toList → Mod [] w v → v.heap.size = w.heap.size + 1 → wpList P ops Q rest (a.put o.dst (.slice (some ⟨w.heap.size, 0, none⟩) n n)) v) : wpList P ops Q (o :: rest) a w := by
  subst hs hb
  refine wpList_plain hgd fun K hK => ?_
  have hbb : (i.bytes : Int) * (n : Int) ≤ 281474976710656 := by
    have h : ((i.bytes * n : Nat) : Int) ≤ 281474976710656 := by omega
    rwa [Int.natCast_mul] at h
  have hrun := run_make (P := P) w t e i z ht hi hz .i64 .i64 (n : Int) (n : Int) (by omega) (by omega) hbb (by omega)
  simp only [Int.toNat_natCast] at hrun
  have hfin := h (w.alloc (.cells (madeCells z.cells (n * i.size)) e)) (madeCells z.cells (n * i.size)).toList (Holds.made w e (madeCells z.cells (n * i.size)).toList) (by simp [madeCells]) rfl (Mod.alloc [] w _) (by simp)
  unfold Oper.wp execOp
  simp only [ho, hx, hy, Sem.run_bind, hrun, Result.andThen]
  exact hK _ _ hfin
theorem info24 : ∃ i : TypeInfo, Tryd.prog.info? 24 = some i ∧ i.zero = some (.agg (tmc 0 0 0 ⟨#[]⟩ none 0 0).toArray) ∧ i.size = 5 ∧ i.bytes = 64 :=
  info_parts (show (Tryd.prog.info? 24).map (fun i => (i.zero, i.size, i.bytes)) = some (some (.agg (tmc 0 0 0 ⟨#[]⟩ none 0 0).toArray), 5, 64) by kernel_rfl)
theorem size24t (k u n : Int) (s : ByteArray) (A : Option Addr) (l c : Nat) : (Tryd.prog.info? 24).map (·.size) = some (tmc k u n s A l c).length := size24
theorem tmc_fit {k u n : Int} {s : ByteArray} {A : Option Addr} {l c a b : Nat} (h : a + 5 ≤ b) : a + (tmc k u n s A l c).length ≤ b := h
theorem Btw.mono {a b a' b' : Nat} (h1 : a' ≤ a) (h2 : b ≤ b') : ∀ g, Btw a b g → Btw a' b' g := fun g h => ⟨Nat.le_trans h1 h.1, Nat.lt_of_lt_of_le h.2 h2⟩
/-- What copied does with rows of terms of a depth. -/
def CopyP (w : World) (l : List Tm) (e : Ending) (w' : World) : Prop := ∃ A vs, e = .returned (.slice A l.length l.length) ∧ RowT w' (Btw w.heap.size w'.heap.size) A vs l ∧ Mod [] w w' ∧ (l = [] → A = none)
def CopyAll (m : Nat) : Prop := ∀ (A : Option Addr) (c : Nat) (vs : List (List Value)) (l : List Tm) (S : Nat → Prop) (w : World), (∀ t ∈ l, t.depth ≤ m) → RowT w S A vs l → l.length ≤ 2199023255552 →
  Calls Tryd.prog 55 #[.slice A l.length c] w (CopyP w l)
theorem RowT.nil (w : World) (S : Nat → Prop) (A : Option Addr) : RowT w S A [] [] := ⟨fun _ _ h => absurd rfl h, rfl, by simp, Cells.nil _ _, fun i h => by simp at h⟩
theorem copied_next {w wr u3 w5 v6 v9 : World} {R b3 j len nk : Nat} {done : List (List Value)} {rest : List Value} {l lk : List Tm} {k u n : Int} {s : ByteArray} {A' : Option Addr} {vs' : List (List Value)}
    (HJ : done.length = j ∧ (∀ v ∈ done, v.length = 5) ∧ rest.length = (len - j) * 5 ∧ Holds wr R 24 (done.flatMap id ++ rest) ∧ (∀ i (h : i < done.length) (h' : i < l.length), TIs wr (Btw (R + 1) wr.heap.size) l[i] done[i]) ∧ Mod [] w wr ∧ (∃ h : j < l.length, Tm.mk k u n s lk = l[j]) ∧ nk = lk.length ∧ s.size ≤ 140737488355328)
    (HK : RowT w5 (Btw u3.heap.size w5.heap.size) A' vs' lk ∧ Mod [] u3 w5 ∧ Mod [b3] w5 v6 ∧ Mod [] wr u3) (HB : b3 = wr.heap.size) (HW : R = w.heap.size)
    (hu : b3 < u3.heap.size) (hv9 : Holds v9 R 24 ((done.flatMap id ++ rest).take (j * 5) ++ tmc k u n s A' nk nk ++ (done.flatMap id ++ rest).drop (j * 5 + (tmc k u n s A' nk nk).length))) (mv9 : Mod [R] v6 v9) (hjl : j < len) (hlm : lk.length ≤ 2199023255552) :
    (done ++ [tmc k u n s A' nk nk]).length = j + 1 ∧ (∀ v ∈ done ++ [tmc k u n s A' nk nk], v.length = 5) ∧ (rest.drop 5).length = (len - (j + 1)) * 5 ∧ Holds v9 R 24 ((done ++ [tmc k u n s A' nk nk]).flatMap id ++ rest.drop 5) ∧
      (∀ i (h : i < (done ++ [tmc k u n s A' nk nk]).length) (h' : i < l.length), TIs v9 (Btw (R + 1) v9.heap.size) l[i] (done ++ [tmc k u n s A' nk nk])[i]) ∧ Mod [] w v9 := by
  obtain ⟨h1, h2, h3, h4, h5, h6, ⟨h7, h7'⟩, rfl, h9⟩ := HJ
  obtain ⟨k1, k2, k3, k4⟩ := HK
  have hRl := h4.lt
  have hf := flat5_len done h2
  rw [h1] at hf
  have m16 : Mod [b3] wr v6 := (k4.then k2).pre k3
  have m19 : Mod [R] wr v9 := by
    refine (m16.wk (ns := [R]) fun i hi hm => ?_).trans mv9 (fun _ _ h => h)
    simp at hm; omega
  refine ⟨by simp [h1], ?_, ?_, ?_, ?_, ?_⟩
  · intro v hv
    rcases List.mem_append.1 hv with h | h
    · exact h2 v h
    · simp at h; subst h; rfl
  · rw [List.length_drop, h3]
    have : len - j = (len - (j + 1)) + 1 := by omega
    rw [this, Nat.add_mul]; omega
  · have e : (done.flatMap id ++ rest).take (j * 5) ++ tmc k u n s A' lk.length lk.length ++ (done.flatMap id ++ rest).drop (j * 5 + (tmc k u n s A' lk.length lk.length).length) = (done ++ [tmc k u n s A' lk.length lk.length]).flatMap id ++ rest.drop 5 := by
      rw [List.take_left' hf, tmc_len, List.drop_append, hf, show j * 5 + 5 - j * 5 = 5 by omega, List.drop_eq_nil_of_le (by omega), List.nil_append]
      simp
    rw [e] at hv9
    exact hv9
  · intro i h h'
    by_cases hi : i < j
    · rw [List.getElem_append_left (by omega)]
      exact ((h5 i (by omega) h').keep m19 (fun g hg hm => by simp at hm; have := hg.1; omega)).mono (Btw.mono (Nat.le_refl _) m19.size)
    · have hij : i = j := by simp [h1] at h; omega
      subst hij
      rw [List.getElem_append_right (by omega)]
      simp only [h1, Nat.sub_self, List.getElem_cons_zero]
      rw [← h7']
      have q1 := k1.keep k3 (fun g hg hm => by simp at hm; have := hg.1; omega)
      have q2 := q1.keep mv9 (fun g hg hm => by simp at hm; have := hg.1; have := k4.size; omega)
      have q3 := q2.mono (S' := Btw (R + 1) v9.heap.size) (Btw.mono (by have := k4.size; omega) (Nat.le_trans k3.size mv9.size))
      exact q3.tis k u n s lk.length h9 (Nat.le_refl _) (by unfold maxLen; omega) hlm
  · exact far_mod h6 m19 (fun i hi => by simp at hi; omega)
set_option maxRecDepth 1000000 in
set_option maxHeartbeats 4000000 in
theorem copied_none (A : Option Addr) (c : Nat) (w : World) : Calls Tryd.prog 55 #[.slice A 0 c] w (CopyP w []) := by
  go_enter Tryd.func55, Tryd.ntmps55
  go_wp2_with fail
  go_ret
  exact ⟨none, [], rfl, RowT.nil _ _ _, Mod.refl _ _, fun _ => rfl⟩
set_option maxRecDepth 1000000 in
set_option maxHeartbeats 4000000 in
theorem copied_some (m : Nat) (ih : CopyAll m) (A : Option Addr) (len c : Nat) (vs : List (List Value)) (l : List Tm) (S : Nat → Prop) (w : World) (hl : len = l.length) (h0 : 0 < len) (hd : ∀ t ∈ l, t.depth ≤ m + 1) (hr : RowT w S A vs l) (hlm : len ≤ 2199023255552) :
    Calls Tryd.prog 55 #[.slice A len c] w (CopyP w l) := by
  obtain ⟨i0, i1, i2, i3, i4⟩ := info24
  have HI := Lib.hid (And.intro i1 (And.intro i2 (And.intro i3 i4)))
  have HR := Lib.hid (And.intro hl (And.intro hr (And.intro hd ih)))
  have hb0 : ((len : Int) == 0) = false := by simp; omega
  have hmx : 64 * len ≤ 281474976710656 := by omega
  have hmy : len ≤ 9223372036854775807 := by omega
  clear i1 i2 i3 i4 hl hr hd ih
  go_enter Tryd.func55, Tryd.ntmps55
  go_wp2_with (first
    | (with_reducible refine wpList_makeG (o := ⟨some 11, .makeSlice 22 (.tmp 10) (.tmp 10), _, _, _, _⟩) rfl 22 (.tmp 10) (.tmp 10) rfl 24 i0 _ 5 64 len Tryd.underlying22 HI.out.1 HI.out.2.1 HI.out.2.2.1 HI.out.2.2.2 rfl rfl hmx hmy ?_
       intro wz cs hz hcs _ mz zz
       clear zz))
  obtain ⟨R, hR⟩ : ∃ R, R = w.heap.size := ⟨_, rfl⟩
  rw [← hR] at hz ⊢
  have HW := Lib.hid hR
  have HC := Lib.hid hcs
  clear hcs hR
  go_loopw [14] (fun i wr => ∃ (j : Nat) (done : List (List Value)) (rest : List Value), i = .int .i64 j ∧ j ≤ len ∧ done.length = j ∧ (∀ v ∈ done, v.length = 5) ∧ rest.length = (len - j) * 5 ∧ Holds wr R 24 (done.flatMap id ++ rest) ∧ (∀ i (h : i < done.length) (h' : i < l.length), TIs wr (Btw (R + 1) wr.heap.size) l[i] done[i]) ∧ Mod [] w wr) (fun i _ => len - (intOf i).toNat)
  case atStart => exact ⟨0, [], cs, rfl, by omega, rfl, by simp, by rw [HC.out]; simp, by simpa using hz, fun i h => by simp at h, mz⟩
  case round =>
  obtain ⟨j, done, rest, rfl, hj, hdn, hd5, hrl, hH, hTs, mr⟩ := hrel
  by_cases hjl : j < len
  case neg =>
    obtain rfl : len = j := by omega
    have hre : rest = [] := List.eq_nil_of_length_eq_zero (by omega)
    subst hre
    have HF := Lib.hid (And.intro hdn (And.intro hd5 (And.intro hH (And.intro hTs mr))))
    clear hdn hd5 hrl hH hTs mr
    go_wp2_with fail
    go_ret
    obtain ⟨q1, q2, q3, q4, q5⟩ := HF.out
    have q6 := q3.lt
    refine ⟨some ⟨R, 0, none⟩, done, congrArg (fun z => Ending.returned (Value.slice (some ⟨R, 0, none⟩) z z)) HR.out.1, ⟨fun a ha _ => ?_, by rw [q1, HR.out.1], q2, ?_, fun i h1 h2 => (q4 i h2 h1).mono (Btw.mono (by have := HW.out; omega) (Nat.le_refl _))⟩, q5, fun h => by rw [HR.out.1, h] at h0; simp at h0⟩
    · cases ha; exact ⟨Nat.le_of_eq HW.out.symm, q6⟩
    · rw [List.append_nil] at q3; exact Cells.of_holds q3
  have hjl' : j < l.length := by rw [← HR.out.1]; exact hjl
  obtain ⟨g, q, cs, rfl, hcE, hT, hcs, _⟩ := HR.out.2.1.elem j hjl'
  replace hcE := hcE.keep mr (by simp)
  have hone := hT.one
  have hdj := HR.out.2.2.1 _ (List.getElem_mem hjl')
  obtain ⟨t, ht⟩ : ∃ t, t = l[j] := ⟨_, rfl⟩
  rw [← ht] at hT hdj
  obtain ⟨k, u, n, s, lk⟩ := t
  obtain ⟨K, ck, vk, rfl, hrk, hlk, hck, hlkm, hsz⟩ := hT.row
  rw [Tm.depth] at hdj
  have IHC := fun v (mv : Mod [] w v) => HR.out.2.2.2 K ck vk lk S v (fun t ht => by have := Tm.mem_depth ht; omega) (hrk.keep mv (by simp)) hlkm
  obtain ⟨nk, hnk⟩ : ∃ q, q = lk.length := ⟨_, rfl⟩
  have hlk2 := hlkm
  rw [← hnk] at IHC hcE hlkm
  have HJ := Lib.hid (And.intro hdn (And.intro hd5 (And.intro hrl (And.intro hH (And.intro hTs (And.intro mr (And.intro (⟨hjl', ht⟩ : ∃ h : j < l.length, Tm.mk k u n s lk = l[j]) (And.intro hnk hsz))))))))
  have hlt : j * 5 + 5 ≤ (done.flatMap id ++ rest).length := by
    rw [List.length_append, flat5_len done hd5, hrl, hdn, ← Nat.add_mul, show j + (len - j) = len by omega]
    omega
  rw [← hnk] at hone hcs
  clear hdn hd5 hrl hTs ht hrk hlk hck hdj hT hnk hsz
  go_wp2_with (first
    | (with_reducible refine wpList_loads (o := ⟨some 18, .load 24 (.tmp 17), _, _, _, _⟩) rfl 24 (.tmp 17) rfl g (q + j * 5) (tmc k u n s K nk ck) rfl (hcE) _ Tryd.underlying24 rfl (size24t _ _ _ _ _ _ _) (.agg (tmc k u n s K nk ck).toArray) rfl ?_)
    | (with_reducible refine wpList_allocs (o := ⟨some 5, .alloc 24, _, _, _, _⟩) rfl 24 rfl _ zero24 ?_; intro y2 hy2 my2 zy2; replace zy2 := Lib.hid zy2)
    | (with_reducible refine wpList_storesAll (o := ⟨none, .store 24 (.tmp 5) (.tmp 18), _, _, _, _⟩) rfl 24 (.tmp 5) (.tmp 18) rfl rfl wr.heap.size (tmc k u n s K nk ck) rfl (.agg (tmc k u n s K nk ck).toArray) rfl rfl 24 _ hy2 (zlen (tmc_len _ _ _ _ _ _ _)) (tmc_one _ _ _ _ _ _ _) (size24t _ _ _ _ _ _ _) ?_
       intro u3 hu3 mu3 zu3
       clear zu3
       have q3 : Mod [] wr u3 := my2.trans mu3 (by intro i hi h; simp at h; omega)
       obtain ⟨b3, hb3⟩ : ∃ b, b = wr.heap.size := ⟨_, rfl⟩
       rw [← hb3] at hu3 ⊢
       have HB := Lib.hid hb3
       have hbl := hu3.lt
       have e4 := hu3.cell 4
       simp only [tmc, List.getElem?_cons_succ, List.getElem?_cons_zero] at e4
       clear hy2 my2 zy2 mu3 hb3)
    | (go_at_call 55
       refine (IHC u3 (mr.then q3)).mono ?_
       rintro e w5 ⟨A', vs', rfl, hR', m5, _⟩
       replace hu3 := hu3.keep m5 (by simp)
       clear e4
       have e4 := hu3.cell 4
       simp only [tmc, List.getElem?_cons_succ, List.getElem?_cons_zero] at e4
       have f4 := hu3.free 4
       have hu6 : Holds (w5.setCell ⟨b3, 4, none⟩ (.slice A' nk nk)) b3 24 (tmc k u n s A' nk nk) := hu3.set 4 _
       have m6 : Mod [b3] w5 (w5.setCell ⟨b3, 4, none⟩ (.slice A' nk nk)) := Mod.setCell (ms := [b3]) w5 (by simp) _
       have HK := Lib.hid (And.intro hR' (And.intro m5 (And.intro m6 q3)))
       have hlt3 := hH.lt
       have nb : ¬ b3 = R := by rw [HB.out]; omega
       have hH6 : Holds (w5.setCell ⟨b3, 4, none⟩ (.slice A' nk nk)) R 24 (done.flatMap id ++ rest) := ((hH.keep q3 (by simp)).keep m5 (by simp)).keep m6 (by simpa using fun e : R = b3 => nb e.symm)
       rw [show lk.length = nk from HJ.out.2.2.2.2.2.2.2.1.symm]
       clear hR' m5 m6 q3 mr IHC hlt3 hu3)
    | (with_reducible refine wpList_loads (o := ⟨some 25, .load 24 (.tmp 5), _, _, _, _⟩) rfl 24 (.tmp 5) rfl b3 (0) (tmc k u n s A' nk nk) rfl (Cells.of_holds hu6) _ Tryd.underlying24 rfl (size24t _ _ _ _ _ _ _) (.agg (tmc k u n s A' nk nk).toArray) rfl ?_)
    | (with_reducible refine wpList_stores (o := ⟨none, .store 24 (.tmp 26) (.tmp 25), _, _, _, _⟩) rfl 24 (.tmp 26) (.tmp 25) rfl rfl R (j * 5) (tmc k u n s A' nk nk) rfl (.agg (tmc k u n s A' nk nk).toArray) rfl rfl 24 _ hH6 (tmc_fit hlt) (tmc_one _ _ _ _ _ _ _) (size24t _ _ _ _ _ _ _) ?_
       intro v9 hv9 mv9 zv9
       clear zv9
       have HX := Lib.hid (copied_next HJ.out HK.out HB.out HW.out hbl hv9 mv9 hjl hlk2)
       clear hv9 mv9 hH6 hu6 hH))
  exact ⟨⟨j + 1, done ++ [tmc k u n s A' nk nk], rest.drop 5, by go_num, by omega, HX.out.1, HX.out.2.1, HX.out.2.2.1, HX.out.2.2.2.1, HX.out.2.2.2.2.1, HX.out.2.2.2.2.2⟩, by simp [intOf]; omega⟩
theorem copied_all : ∀ m, CopyAll m
  | 0, A, c, vs, l, S, w, hd, hr, hl => by
    cases l with
    | nil => exact copied_none A c w
    | cons t l => have := hd t (by simp); have := Tm.depth_pos t; omega
  | m + 1, A, c, vs, l, S, w, hd, hr, hl => by
    cases hl0 : l with
    | nil => exact copied_none A c w
    | cons t l' => rw [← hl0]; exact copied_some m (copied_all m) A l.length c vs l S w rfl (by rw [hl0]; simp) hd hr hl
end
section
open Go.RowKit Go.Shelf
set_option linter.unusedVariables false
set_option linter.unusedSimpArgs false
set_option maxRecDepth 100000 in
theorem run_buildA (k : Int) (w : World) : (Instr.build 24 #[(0, .int .i64 k)]).run Tryd.prog w = .ok (.agg (tmc k 0 0 ⟨#[]⟩ none 0 0).toArray) w := by
  refine run_build w _ _ _ ?_
  kernel_rfl
set_option maxRecDepth 100000 in
theorem run_buildC (k u n : Int) (w : World) : (Instr.build 24 #[(0, .int .i64 k), (1, .int .i64 u), (2, .int .i64 n)]).run Tryd.prog w = .ok (.agg (tmc k u n ⟨#[]⟩ none 0 0).toArray) w := by
  refine run_build w _ _ _ ?_
  kernel_rfl
set_option maxRecDepth 100000 in
theorem run_buildD (k u : Int) (w : World) : (Instr.build 24 #[(0, .int .i64 k), (1, .int .i64 u)]).run Tryd.prog w = .ok (.agg (tmc k u 0 ⟨#[]⟩ none 0 0).toArray) w := by
  refine run_build w _ _ _ ?_
  kernel_rfl
section
variable {v : World} {o : Oper} {ρ : Operand → Value} {x y z : Operand}
theorem exec_bA {k : Int} (ho : o.op = .build 24 #[(0, x)]) (hx : ρ x = .int .i64 k) : (execOp ρ o).run Tryd.prog v = .ok (.value (.agg (tmc k 0 0 ⟨#[]⟩ none 0 0).toArray)) v := by
  unfold execOp
  simp only [ho, List.map_toArray, List.map_cons, List.map_nil, hx, Sem.run_bind, run_buildA, Result.andThen, Sem.run_pure]
theorem exec_bC {k u n : Int} (ho : o.op = .build 24 #[(0, x), (1, y), (2, z)]) (hx : ρ x = .int .i64 k) (hy : ρ y = .int .i64 u) (hz : ρ z = .int .i64 n) : (execOp ρ o).run Tryd.prog v = .ok (.value (.agg (tmc k u n ⟨#[]⟩ none 0 0).toArray)) v := by
  unfold execOp
  simp only [ho, List.map_toArray, List.map_cons, List.map_nil, hx, hy, hz, Sem.run_bind, run_buildC, Result.andThen, Sem.run_pure]
theorem exec_bD {k u : Int} (ho : o.op = .build 24 #[(0, x), (1, y)]) (hx : ρ x = .int .i64 k) (hy : ρ y = .int .i64 u) : (execOp ρ o).run Tryd.prog v = .ok (.value (.agg (tmc k u 0 ⟨#[]⟩ none 0 0).toArray)) v := by
  unfold execOp
  simp only [ho, List.map_toArray, List.map_cons, List.map_nil, hx, hy, Sem.run_bind, run_buildD, Result.andThen, Sem.run_pure]
end
/-- An operation that yields a value. -/
theorem wpList_ran {P : Program} {w : World} {ops : Array Oper} {rest : List Oper} {o : Oper} {a : Act} {Q : Exit → Act → World → Prop} (hg : o.guard = none) (V : Value) (hrun : (execOp a.eval o).run P w = .ok (.value V) w) (h : wpList P ops Q rest (a.put o.dst V) w) : wpList P ops Q (o :: rest) a w := by
  refine wpList_plain hg fun K hK => ?_
  unfold Oper.wp
  rw [hrun]
  exact hK _ _ h
theorem results_cell1 {fn : Func} {p : Tmp} (h : fn.results = #[.cell p 24]) (tmps : Array Value) (w : World) (g : Nat) (cs : List Value) (hp : tmps.getD p undef = .pointer (some ⟨g, 0, none⟩)) (hc : Cells w (some ⟨g, 0, none⟩) cs) (h5 : cs.length = 5) :
    (results fn tmps).run Tryd.prog w = .ok (.agg cs.toArray) w := by
  have hp' : tmps[p]?.getD undef = .pointer (some ⟨g, 0, none⟩) := by simpa using hp
  simp [results, h, hp', asAddr, run_loads hc Tryd.underlying24 rfl (size24' h5)]
theorem made_end {w w1 y2 w5 v6 u9 : World} {b2 b4 len : Nat} {k u n : Int} {s : ByteArray} {A' : Option Addr} {vs' : List (List Value)} {l : List Tm} (hR : RowT w5 (Btw y2.heap.size w5.heap.size) A' vs' l) (m5 : Mod [] y2 w5) (m6 : Mod [b2] w5 v6) (m9 : Mod [b4] v6 u9) (m2 : Mod [] w y2)
    (h2 : b2 = w.heap.size) (h4 : b4 = w1.heap.size) (hl : len = l.length) (hs : s.size ≤ 140737488355328) (hlm : len ≤ 2199023255552) (hz : y2.heap.size = w1.heap.size + 1) (h1 : w.heap.size < w1.heap.size) :
    TIs u9 (Btw w.heap.size u9.heap.size) (.mk k u n s l) (tmc k u n s A' len len) ∧ Mod [] w u9 := by
  subst hl
  have q1 := hR.keep m6 (fun g hg hm => by simp at hm; have := hg.1; omega)
  have q2 := q1.keep m9 (fun g hg hm => by simp at hm; have := hg.1; omega)
  have q3 := q2.mono (S' := Btw w.heap.size u9.heap.size) (Btw.mono m2.size (Nat.le_trans m6.size m9.size))
  refine ⟨q3.tis k u n s l.length hs (Nat.le_refl _) (by unfold maxLen; omega) hlm, ?_⟩
  exact far_mod (far_mod (m2.then m5) m6 (fun i hi => by simp at hi; omega)) m9 (fun i hi => by simp at hi; omega)
/-- What a function hands back that makes a term. -/
def MadeT (w : World) (t : Tm) (e : Ending) (w' : World) : Prop := ∃ cs, e = .returned (.agg cs.toArray) ∧ TIs w' (Btw w.heap.size w'.heap.size) t cs ∧ Mod [] w w'
set_option maxRecDepth 1000000 in
set_option maxHeartbeats 4000000 in
theorem made_c (k u n : Int) (s : ByteArray) (K0 : Option Addr) (l1 c1 : Nat) (A : Option Addr) (len c : Nat) (vs : List (List Value)) (l : List Tm) (S : Nat → Prop) (w : World) (hl : len = l.length) (hr : RowT w S A vs l) (hlm : len ≤ 2199023255552) (hs : s.size ≤ 140737488355328) :
    Calls Tryd.prog 53 #[.agg (tmc k u n s K0 l1 c1).toArray, .slice A len c] w (MadeT w (.mk k u n s l)) := by
  have IHC := fun v (mv : Mod [] w v) => copied_all (Tm.depthAll l) A c vs l S v (fun t ht => Tm.mem_depth ht) (hr.keep mv (by simp)) (by rw [← hl]; exact hlm)
  rw [← hl] at IHC
  have HL := Lib.hid (And.intro hl hs)
  clear hl hr hs
  go_enter Tryd.func53, Tryd.ntmps53
  go_wp2_with (first
    | (with_reducible refine wpList_boxes (o := ⟨some 2, .box 24 (.tmp 0), _, _, _, _⟩) rfl 24 (.tmp 0) rfl _ rfl (tmc k u n s K0 l1 c1) rfl ?_; intro w1 hb1 m1 z1; replace z1 := Lib.hid z1
       obtain ⟨b2, hq2⟩ : ∃ b, b = w.heap.size := ⟨_, rfl⟩
       rw [← hq2] at hb1 ⊢
       have HB2 := Lib.hid hq2
       clear z1 hq2)
    | (with_reducible refine wpList_allocs (o := ⟨some 4, .alloc 24, _, _, _, _⟩) rfl 24 rfl _ zero24 ?_; intro y2 hy2 my2 zy2
       obtain ⟨b4, hq4⟩ : ∃ b, b = w1.heap.size := ⟨_, rfl⟩
       rw [← hq4] at hy2 ⊢
       have HB4 := Lib.hid hq4
       have HZ4 := Lib.hid zy2
       have m2 := m1.then my2
       have hlt4 := hb1.lt
       have HBL := Lib.hid (HB2.out ▸ hlt4 : w.heap.size < w1.heap.size)
       replace hb1 := hb1.keep my2 (by simp)
       have n24 : ¬ b2 = b4 := by rw [hq4]; omega
       clear zy2 hq4 m1 my2 hlt4)
    | (go_at_call 55
       refine (IHC y2 m2).mono ?_
       rintro e w5 ⟨A', vs', rfl, hR', m5, _⟩
       rw [← HL.out.1]
       replace hb1 := hb1.keep m5 (by simp)
       replace hy2 := hy2.keep m5 (by simp)
       have e4 := hb1.cell 4
       simp only [tmc, List.getElem?_cons_succ, List.getElem?_cons_zero] at e4
       have f4 := hb1.free 4
       have hu6 : Holds (w5.setCell ⟨b2, 4, none⟩ (.slice A' len len)) b2 24 (tmc k u n s A' len len) := hb1.set 4 _
       have m6 : Mod [b2] w5 (w5.setCell ⟨b2, 4, none⟩ (.slice A' len len)) := Mod.setCell (ms := [b2]) w5 (by simp) _
       have hy6 := hy2.keep m6 (by simpa using fun e : b4 = b2 => n24 e.symm)
       have HR5 := Lib.hid (And.intro hR' (And.intro m5 m6))
       clear hR' m5 m6 hb1 hy2 IHC)
    | (with_reducible refine wpList_loads (o := ⟨some 8, .load 24 (.tmp 2), _, _, _, _⟩) rfl 24 (.tmp 2) rfl b2 (0) (tmc k u n s A' len len) rfl (Cells.of_holds hu6) _ Tryd.underlying24 rfl (size24t _ _ _ _ _ _ _) (.agg (tmc k u n s A' len len).toArray) rfl ?_)
    | (with_reducible refine wpList_storesAll (o := ⟨none, .store 24 (.tmp 4) (.tmp 8), _, _, _, _⟩) rfl 24 (.tmp 4) (.tmp 8) rfl rfl b4 (tmc k u n s A' len len) rfl (.agg (tmc k u n s A' len len).toArray) rfl rfl 24 _ hy6 (zlen (tmc_len _ _ _ _ _ _ _)) (tmc_one _ _ _ _ _ _ _) (size24t _ _ _ _ _ _ _) ?_
       intro u9 hu9 mu9 zu9
       clear zu9
       have HZ : Hid (TIs u9 (Btw w.heap.size u9.heap.size) (.mk k u n s l) (tmc k u n s A' len len) ∧ Mod [] w u9) := Lib.hid (made_end HR5.out.1 HR5.out.2.1 HR5.out.2.2 mu9 m2 HB2.out HB4.out HL.out.1 HL.out.2 hlm HZ4.out HBL.out)
       clear m2 mu9 hy6 hu6))
  refine bodyPost_ret (results_cell1 rfl _ _ b4 _ rfl (Cells.of_holds hu9) rfl) rfl ?_
  exact ⟨_, rfl, HZ.out.1, HZ.out.2⟩
end
section
open Go.RowKit Go.Shelf
set_option linter.unusedVariables false
set_option linter.unusedSimpArgs false
theorem run_lit2 {P : Program} {t e : TypeId} {it : TypeInfo} {Z V0 V1 : Value} {c0 c1 : List Value} {s : Nat} (w : World) (ht : P.underlying t = some (.slice e)) (hq : P.info? e = some it) (hs : it.size = s) (h0 : 0 < s) (hb : 2 * s ≤ 2 ^ 24) (hz : ∀ w, (zeroValue e).run P w = .ok Z w) (hV0 : V0.cells = c0.toArray) (hV1 : V1.cells = c1.toArray) (hc0 : c0.length = s) (hc1 : c1.length = s) :
    (Instr.buildSlice t 2 #[(0, V0), (1, V1)]).run P w = .ok (.slice (some ⟨w.heap.size, 0, none⟩) 2 2) (w.alloc (.cells (c0 ++ c1).toArray e)) := by
  have hf : ∀ z : Array Value, z.size = 2 * s → Instr.fill (fun i => some (i * s, s)) z [(0, V0), (1, V1)] = some (c0 ++ c1).toArray := by
    rintro ⟨z⟩ hz
    have hz' : z.length = 2 * s := by simpa using hz
    rw [fill_step (off := 0) (size := s) (by simp) (by rw [hV0]; simpa using hc0) (by rw [hV0]; simp; omega), hV0]
    have := fold_set c0 0 z (by omega)
    rw [show (c0.toArray.zipIdx.foldl (fun cs (x : Value × Nat) => match x with | (c, j) => cs.setIfInBounds (0 + j) c) z.toArray) = _ from this]
    rw [fill_step (off := s) (size := s) (by simp) (by rw [hV1]; simpa using hc1) (by rw [hV1]; simp; omega), hV1]
    have := fold_set c1 s (z.take 0 ++ c0 ++ z.drop (0 + c0.length)) (by simp; omega)
    rw [show (c1.toArray.zipIdx.foldl (fun cs (x : Value × Nat) => match x with | (c, j) => cs.setIfInBounds (s + j) c) (z.take 0 ++ c0 ++ z.drop (0 + c0.length)).toArray) = _ from this]
    simp only [List.take_zero, List.nil_append, Nat.zero_add, Instr.fill]
    congr 2
    rw [List.take_left' hc0, List.drop_eq_nil_of_le (by simp; omega), List.append_nil]
  have hf2 := hf ((Array.range (2 * s)).map (Z.cells[· % Z.cells.size]!)) (by simp)
  unfold Instr.buildSlice
  simp only [Sem.run_bind, run_underlying ht, sizeOf, typeInfo, run_program, hq, Result.andThen, Sem.run_pure, hs]
  rw [if_neg (by omega), if_neg (by omega)]
  simp only [Sem.run_bind, hz, Result.andThen, Sem.run_pure, hf2]
  simp [newRow, go_sem]
theorem run_lit22 {c0 c1 : List Value} (h0 : c0.length = 5) (h1 : c1.length = 5) (w : World) : (Instr.buildSlice 22 2 #[(0, .agg c0.toArray), (1, .agg c1.toArray)]).run Tryd.prog w = .ok (.slice (some ⟨w.heap.size, 0, none⟩) 2 2) (w.alloc (.cells (c0 ++ c1).toArray 24)) := by
  obtain ⟨i, hi, hz, hs, hb⟩ := info24
  exact run_lit2 (s := 5) w Tryd.underlying22 hi hs (by decide) (by decide) zero24 rfl rfl h0 h1
theorem run_lit21 {c0 : List Value} (h0 : c0.length = 5) (w : World) : (Instr.buildSlice 22 1 #[(0, .agg c0.toArray)]).run Tryd.prog w = .ok (.slice (some ⟨w.heap.size, 0, none⟩) 1 1) (w.alloc (.cells c0.toArray 24)) := by
  obtain ⟨i, hi, hz, hs, hb⟩ := info24
  exact run_lit1 (s := 5) w Tryd.underlying22 hi hs (by decide) (by decide) zero24 rfl h0
theorem RowT.two {w : World} {Sa Sb : Nat → Prop} {g : Nat} {a b : Tm} {ca cb : List Value} (h : Holds w g 24 (ca ++ cb)) (ha : TIs w Sa a ca) (hb : TIs w Sb b cb) : RowT w (fun x => x = g ∨ Sa x ∨ Sb x) (some ⟨g, 0, none⟩) [ca, cb] [a, b] := by
  refine ⟨fun x hx _ => by cases hx; exact .inl rfl, rfl, ?_, ?_, ?_⟩
  · intro v hv
    simp only [List.mem_cons, List.not_mem_nil, or_false] at hv
    rcases hv with rfl | rfl
    · exact ha.len
    · exact hb.len
  · exact Cells.of_holds (by simpa using h)
  · intro i h1 h2
    match i, h1, h2 with
    | 0, _, _ => exact ha.mono (fun _ h => .inr (.inl h))
    | 1, _, _ => exact hb.mono (fun _ h => .inr (.inr h))
theorem RowT.one {w : World} {Sa : Nat → Prop} {g : Nat} {a : Tm} {ca : List Value} (h : Holds w g 24 ca) (ha : TIs w Sa a ca) : RowT w (fun x => x = g ∨ Sa x) (some ⟨g, 0, none⟩) [ca] [a] := by
  refine ⟨fun x hx _ => by cases hx; exact .inl rfl, rfl, ?_, ?_, ?_⟩
  · intro v hv
    simp only [List.mem_cons, List.not_mem_nil, or_false] at hv
    subst hv
    exact ha.len
  · exact Cells.of_holds (by simpa using h)
  · intro i h1 h2
    match i, h1, h2 with
    | 0, _, _ => exact ha.mono (fun _ h => .inr h)
theorem makes_end {w w0 y2 w5 u9 : World} {b4 : Nat} {t : Tm} {cs : List Value} (hT : TIs w5 (Btw y2.heap.size w5.heap.size) t cs) (m5 : Mod [] y2 w5) (m9 : Mod [b4] w5 u9) (m2 : Mod [] w y2) (h4 : w.heap.size ≤ b4) (h5 : b4 < y2.heap.size) :
    TIs u9 (Btw w.heap.size u9.heap.size) t cs ∧ Mod [] w u9 := by
  have q1 := hT.keep m9 (fun g hg hm => by simp at hm; have := hg.1; omega)
  exact ⟨q1.mono (Btw.mono m2.size m9.size), far_mod (m2.then m5) m9 (fun i hi => by simp at hi; omega)⟩
set_option maxRecDepth 1000000 in
set_option maxHeartbeats 4000000 in
theorem fresh_c (u : Int) (n : Int) (w : World) : Calls Tryd.prog 18 #[.int .i64 u, .int .i64 n] w (MadeT w (.mk 2 u n ⟨#[]⟩ [])) := by
  go_enter Tryd.func18, Tryd.ntmps18
  go_wp2_with (first
    | (with_reducible refine wpList_allocs (o := ⟨some 4, .alloc 24, _, _, _, _⟩) rfl 24 rfl _ zero24 ?_; intro y2 hy2 my2 zy2
       obtain ⟨b4, hq4⟩ : ∃ b, b = w.heap.size := ⟨_, rfl⟩
       rw [← hq4] at hy2 ⊢
       have HB4 : Hid (w.heap.size ≤ b4) := Lib.hid (by rw [hq4]; exact Nat.le_refl _)
       have mm := my2
       clear zy2 hq4 my2)
    | (with_reducible refine wpList_ran (o := ⟨some 7, .build 24 _, _, _, _, _⟩) rfl (.agg (tmc 2 u n ⟨#[]⟩ none 0 0).toArray) (exec_bC rfl rfl rfl rfl) ?_)
    | (go_at_call 53
       refine (made_c 2 u n ⟨#[]⟩ none 0 0 none 0 0 [] [] (fun _ => True) _ rfl (RowT.nil _ _ _) (by omega) (by decide)).mono ?_
       rintro e w5 ⟨cs, rfl, hT5, m5⟩
       have hy5 := hy2.keep m5 (by simp)
       have h55 := hT5.len
       have ho5 := hT5.one
       have HT5 := Lib.hid (And.intro hT5 (And.intro m5 (And.intro mm hy2.lt)))
       clear hT5 m5)
    | (with_reducible refine wpList_storesAll (o := ⟨none, .store 24 (.tmp 4) (.tmp 8), _, _, _, _⟩) rfl 24 (.tmp 4) (.tmp 8) rfl rfl b4 (cs) rfl (.agg (cs).toArray) rfl rfl 24 _ hy5 (zlen h55) (ho5) (size24' h55) ?_
       intro u9 hu9 mu9 zu9
       clear zu9
       have HZ := Lib.hid (makes_end (w0 := w) HT5.out.1 HT5.out.2.1 mu9 HT5.out.2.2.1 HB4.out HT5.out.2.2.2)
       clear mu9 hy5))
  refine bodyPost_ret (results_cell1 rfl _ _ b4 _ rfl (Cells.of_holds hu9) h55) rfl ?_
  exact ⟨_, rfl, HZ.out.1, HZ.out.2⟩
set_option maxRecDepth 1000000 in
set_option maxHeartbeats 4000000 in
theorem secret_c (u : Int) (w : World) : Calls Tryd.prog 19 #[.int .i64 u] w (MadeT w (.mk 3 u 0 ⟨#[]⟩ [])) := by
  go_enter Tryd.func19, Tryd.ntmps19
  go_wp2_with (first
    | (with_reducible refine wpList_allocs (o := ⟨some 2, .alloc 24, _, _, _, _⟩) rfl 24 rfl _ zero24 ?_; intro y2 hy2 my2 zy2
       obtain ⟨b4, hq4⟩ : ∃ b, b = w.heap.size := ⟨_, rfl⟩
       rw [← hq4] at hy2 ⊢
       have HB4 : Hid (w.heap.size ≤ b4) := Lib.hid (by rw [hq4]; exact Nat.le_refl _)
       have mm := my2
       clear zy2 hq4 my2)
    | (with_reducible refine wpList_ran (o := ⟨some 4, .build 24 _, _, _, _, _⟩) rfl (.agg (tmc 3 u 0 ⟨#[]⟩ none 0 0).toArray) (exec_bD rfl rfl rfl) ?_)
    | (go_at_call 53
       refine (made_c 3 u 0 ⟨#[]⟩ none 0 0 none 0 0 [] [] (fun _ => True) _ rfl (RowT.nil _ _ _) (by omega) (by decide)).mono ?_
       rintro e w5 ⟨cs, rfl, hT5, m5⟩
       have hy5 := hy2.keep m5 (by simp)
       have h55 := hT5.len
       have ho5 := hT5.one
       have HT5 := Lib.hid (And.intro hT5 (And.intro m5 (And.intro mm hy2.lt)))
       clear hT5 m5)
    | (with_reducible refine wpList_storesAll (o := ⟨none, .store 24 (.tmp 2) (.tmp 5), _, _, _, _⟩) rfl 24 (.tmp 2) (.tmp 5) rfl rfl b4 (cs) rfl (.agg (cs).toArray) rfl rfl 24 _ hy5 (zlen h55) (ho5) (size24' h55) ?_
       intro u9 hu9 mu9 zu9
       clear zu9
       have HZ := Lib.hid (makes_end (w0 := w) HT5.out.1 HT5.out.2.1 mu9 HT5.out.2.2.1 HB4.out HT5.out.2.2.2)
       clear mu9 hy5))
  refine bodyPost_ret (results_cell1 rfl _ _ b4 _ rfl (Cells.of_holds hu9) h55) rfl ?_
  exact ⟨_, rfl, HZ.out.1, HZ.out.2⟩
set_option maxRecDepth 1000000 in
set_option maxHeartbeats 4000000 in
theorem lock_c (a : Tm) (ca : List Value) (Sa : Nat → Prop) (b : Tm) (cb : List Value) (Sb : Nat → Prop) (w : World) (hTa : TIs w Sa a ca) (hTb : TIs w Sb b cb) : Calls Tryd.prog 22 #[.agg ca.toArray, .agg cb.toArray] w (MadeT w (.mk 6 0 0 ⟨#[]⟩ [a, b])) := by
  have h5a := hTa.len
  have h5b := hTb.len
  go_enter Tryd.func22, Tryd.ntmps22
  go_wp2_with (first
    | (with_reducible refine wpList_boxes (o := ⟨some 2, .box 24 (.tmp 0), _, _, _, _⟩) rfl 24 (.tmp 0) rfl _ rfl (ca) rfl ?_; intro w1 hb1 m1 z1; replace z1 := Lib.hid z1
       obtain ⟨ba, hqa⟩ : ∃ b, b = w.heap.size := ⟨_, rfl⟩
       rw [← hqa] at hb1 ⊢
       have hba := hb1
       have mm := m1
       clear z1 hqa hb1)
    | (with_reducible refine wpList_boxes (o := ⟨some 3, .box 24 (.tmp 1), _, _, _, _⟩) rfl 24 (.tmp 1) rfl _ rfl (cb) rfl ?_; intro w2 hb2 m2 z2; replace z2 := Lib.hid z2
       obtain ⟨bb, hqb⟩ : ∃ b, b = w1.heap.size := ⟨_, rfl⟩
       rw [← hqb] at hb2 ⊢
       have hbb := hb2
       replace hba := hba.keep m2 (by simp)
       replace mm := mm.then m2
       clear z2 hqb hb2)
    | (with_reducible refine wpList_allocs (o := ⟨some 4, .alloc 24, _, _, _, _⟩) rfl 24 rfl _ zero24 ?_; intro y2 hy2 my2 zy2
       obtain ⟨b4, hq4⟩ : ∃ b, b = w2.heap.size := ⟨_, rfl⟩
       rw [← hq4] at hy2 ⊢
       have HB4 : Hid (w.heap.size ≤ b4) := Lib.hid (by rw [hq4]; exact mm.size)
       replace hba := hba.keep my2 (by simp)
       replace hbb := hbb.keep my2 (by simp)
       replace mm := mm.then my2
       clear zy2 hq4 my2)
    | (with_reducible refine wpList_ran (o := ⟨some 5, .build 24 _, _, _, _, _⟩) rfl (.agg (tmc 6 0 0 ⟨#[]⟩ none 0 0).toArray) (exec_bA rfl rfl) ?_)
    | (with_reducible refine wpList_loads (o := ⟨some 6, .load 24 (.tmp 2), _, _, _, _⟩) rfl 24 (.tmp 2) rfl ba (0) (ca) rfl (Cells.of_holds hba) _ Tryd.underlying24 rfl (size24' h5a) (.agg (ca).toArray) rfl ?_)
    | (with_reducible refine wpList_loads (o := ⟨some 7, .load 24 (.tmp 3), _, _, _, _⟩) rfl 24 (.tmp 3) rfl bb (0) (cb) rfl (Cells.of_holds hbb) _ Tryd.underlying24 rfl (size24' h5b) (.agg (cb).toArray) rfl ?_)
    | (with_reducible refine wpList_lits (o := ⟨some 8, .buildSlice 22 2 _, _, _, _, _⟩) rfl 22 24 2 _ rfl (ca ++ cb) ?_ ?_
       · with_unfolding_all exact run_lit22 h5a h5b _
       intro v3 hv3 mv3 zv3
       clear zv3
       replace hba := hba.keep mv3 (by simp)
       replace hbb := hbb.keep mv3 (by simp)
       have hy3 := hy2.keep mv3 (by simp)
       have ml := mm.then mv3
       have hlt := hy3.lt)
    | (go_at_call 53
       refine (made_c 6 0 0 ⟨#[]⟩ none 0 0 (some ⟨_, 0, none⟩) 2 2 _ _ _ _ rfl (RowT.two hv3 (hTa.keep ml (by simp)) (hTb.keep ml (by simp))) (by omega) (by decide)).mono ?_
       rintro e w5 ⟨cs, rfl, hT5, m5⟩
       have hy5 := hy3.keep m5 (by simp)
       have h55 := hT5.len
       have ho5 := hT5.one
       have HT5 := Lib.hid (And.intro hT5 (And.intro m5 (And.intro ml hy3.lt)))
       clear hT5 m5)
    | (with_reducible refine wpList_storesAll (o := ⟨none, .store 24 (.tmp 4) (.tmp 9), _, _, _, _⟩) rfl 24 (.tmp 4) (.tmp 9) rfl rfl b4 (cs) rfl (.agg (cs).toArray) rfl rfl 24 _ hy5 (zlen h55) (ho5) (size24' h55) ?_
       intro u9 hu9 mu9 zu9
       clear zu9
       have HZ := Lib.hid (makes_end (w0 := w) HT5.out.1 HT5.out.2.1 mu9 HT5.out.2.2.1 HB4.out HT5.out.2.2.2)
       clear mu9 hy5))
  refine bodyPost_ret (results_cell1 rfl _ _ b4 _ rfl (Cells.of_holds hu9) h55) rfl ?_
  exact ⟨_, rfl, HZ.out.1, HZ.out.2⟩
end
end Go.Proofs.YtchanildogjhgaaDoor

