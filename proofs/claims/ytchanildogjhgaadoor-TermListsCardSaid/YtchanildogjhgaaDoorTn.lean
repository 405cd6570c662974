/-
  copied, made: terms in memory of their own. My own work.
-/
import Derived.Test.YtchanildogjhgaaDoorTk
namespace Go.Proofs.YtchanildogjhgaaDoor
open Go.RowKit Go.Shelf
set_option linter.unusedVariables false
set_option linter.unusedSimpArgs false
theorem wpList_makeG {P : Program} {w : World} {ops : Array Oper} {rest : List Oper} {o : Oper} {a : Act} {Q : Exit → Act → World → Prop} (hgd : o.guard = none) (t : TypeId) (x y : Operand) (ho : o.op = .makeSlice t x y) (e : TypeId) (i : TypeInfo) (z : Value) (size bytes n : Nat) (ht : P.underlying t = some (.slice e)) (hi : P.info? e = some i) (hz : i.zero = some z) (hs : i.size = size) (hb : i.bytes = bytes)
    (hx : a.eval x = .int .i64 (n : Int)) (hy : a.eval y = .int .i64 (n : Int)) (h63 : bytes * n ≤ 281474976710656) (h64 : n ≤ 9223372036854775807)
    (h : ∀ v cs, Holds v w.heap.size e cs → cs.length = n * size → cs = (madeCells z.cells (n * size)).toList → Mod [] w v → v.heap.size = w.heap.size + 1 → wpList P ops Q rest (a.put o.dst (.slice (some ⟨w.heap.size, 0, none⟩) n n)) v) : wpList P ops Q (o :: rest) a w := by
  subst hs hb
  refine wpList_plain hgd fun K hK => ?_
  have hbb : (i.bytes : Int) * (n : Int) ≤ 281474976710656 := by
    have h : ((i.bytes * n : Nat) : Int) ≤ 281474976710656 := by omega
    rwa [Int.natCast_mul] at h
  have hrun := run_make (P := P) w t e i z ht hi hz .i64 .i64 (n : Int) (n : Int) (by omega) (by omega) hbb (by omega)
  simp only [Int.toNat_natCast] at hrun
  have hfin := h (w.alloc (.cells (madeCells z.cells (n * i.size)) e)) (madeCells z.cells (n * i.size)).toList (Holds.made w e (madeCells z.cells (n * i.size)).toList) (by simp [madeCells]) rfl (Mod.alloc [] w _) (by simp)
  unfold Oper.wp execOp
  simp only [ho, hx, hy, Sem.run_bind, hrun, Result.andThen]
  exact hK _ _ hfin
theorem info24 : ∃ i : TypeInfo, Tryd.prog.info? 24 = some i ∧ i.zero = some (.agg (tmc 0 0 0 ⟨#[]⟩ none 0 0).toArray) ∧ i.size = 5 ∧ i.bytes = 64 :=
  info_parts (show (Tryd.prog.info? 24).map (fun i => (i.zero, i.size, i.bytes)) = some (some (.agg (tmc 0 0 0 ⟨#[]⟩ none 0 0).toArray), 5, 64) by kernel_rfl)
theorem size24t (k u n : Int) (s : ByteArray) (A : Option Addr) (l c : Nat) : (Tryd.prog.info? 24).map (·.size) = some (tmc k u n s A l c).length := size24
theorem tmc_fit {k u n : Int} {s : ByteArray} {A : Option Addr} {l c a b : Nat} (h : a + 5 ≤ b) : a + (tmc k u n s A l c).length ≤ b := h
theorem Btw.mono {a b a' b' : Nat} (h1 : a' ≤ a) (h2 : b ≤ b') : ∀ g, Btw a b g → Btw a' b' g := fun g h => ⟨Nat.le_trans h1 h.1, Nat.lt_of_lt_of_le h.2 h2⟩
/-- What copied does with rows of terms of a depth. -/
def CopyP (w : World) (l : List Tm) (e : Ending) (w' : World) : Prop := ∃ A vs, e = .returned (.slice A l.length l.length) ∧ RowT w' (Btw w.heap.size w'.heap.size) A vs l ∧ Mod [] w w' ∧ (l = [] → A = none)
def CopyAll (m : Nat) : Prop := ∀ (A : Option Addr) (c : Nat) (vs : List (List Value)) (l : List Tm) (S : Nat → Prop) (w : World), (∀ t ∈ l, t.depth ≤ m) → RowT w S A vs l → l.length ≤ 2199023255552 →
  Calls Tryd.prog 55 #[.slice A l.length c] w (CopyP w l)
theorem RowT.nil (w : World) (S : Nat → Prop) (A : Option Addr) : RowT w S A [] [] := ⟨fun _ _ h => absurd rfl h, rfl, by simp, Cells.nil _ _, fun i h => by simp at h⟩
theorem copied_next {w wr u3 w5 v6 v9 : World} {R b3 j len nk : Nat} {done : List (List Value)} {rest : List Value} {l lk : List Tm} {k u n : Int} {s : ByteArray} {A' : Option Addr} {vs' : List (List Value)}
    (HJ : done.length = j ∧ (∀ v ∈ done, v.length = 5) ∧ rest.length = (len - j) * 5 ∧ Holds wr R 24 (done.flatMap id ++ rest) ∧ (∀ i (h : i < done.length) (h' : i < l.length), TIs wr (Btw (R + 1) wr.heap.size) l[i] done[i]) ∧ Mod [] w wr ∧ (∃ h : j < l.length, Tm.mk k u n s lk = l[j]) ∧ nk = lk.length ∧ s.size ≤ 140737488355328)
    (HK : RowT w5 (Btw u3.heap.size w5.heap.size) A' vs' lk ∧ Mod [] u3 w5 ∧ Mod [b3] w5 v6 ∧ Mod [] wr u3) (HB : b3 = wr.heap.size) (HW : R = w.heap.size)
    (hu : b3 < u3.heap.size) (hv9 : Holds v9 R 24 ((done.flatMap id ++ rest).take (j * 5) ++ tmc k u n s A' nk nk ++ (done.flatMap id ++ rest).drop (j * 5 + (tmc k u n s A' nk nk).length))) (mv9 : Mod [R] v6 v9) (hjl : j < len) (hlm : lk.length ≤ 2199023255552) :
    (done ++ [tmc k u n s A' nk nk]).length = j + 1 ∧ (∀ v ∈ done ++ [tmc k u n s A' nk nk], v.length = 5) ∧ (rest.drop 5).length = (len - (j + 1)) * 5 ∧ Holds v9 R 24 ((done ++ [tmc k u n s A' nk nk]).flatMap id ++ rest.drop 5) ∧
      (∀ i (h : i < (done ++ [tmc k u n s A' nk nk]).length) (h' : i < l.length), TIs v9 (Btw (R + 1) v9.heap.size) l[i] (done ++ [tmc k u n s A' nk nk])[i]) ∧ Mod [] w v9 := by
  obtain ⟨h1, h2, h3, h4, h5, h6, ⟨h7, h7'⟩, rfl, h9⟩ := HJ
  obtain ⟨k1, k2, k3, k4⟩ := HK
  have hRl := h4.lt
  have hf := flat5_len done h2
  rw [h1] at hf
  have m16 : Mod [b3] wr v6 := (k4.then k2).pre k3
  have m19 : Mod [R] wr v9 := by
    refine (m16.wk (ns := [R]) fun i hi hm => ?_).trans mv9 (fun _ _ h => h)
    simp at hm; omega
  refine ⟨by simp [h1], ?_, ?_, ?_, ?_, ?_⟩
  · intro v hv
    rcases List.mem_append.1 hv with h | h
    · exact h2 v h
    · simp at h; subst h; rfl
  · rw [List.length_drop, h3]
    have : len - j = (len - (j + 1)) + 1 := by omega
    rw [this, Nat.add_mul]; omega
  · have e : (done.flatMap id ++ rest).take (j * 5) ++ tmc k u n s A' lk.length lk.length ++ (done.flatMap id ++ rest).drop (j * 5 + (tmc k u n s A' lk.length lk.length).length) = (done ++ [tmc k u n s A' lk.length lk.length]).flatMap id ++ rest.drop 5 := by
      rw [List.take_left' hf, tmc_len, List.drop_append, hf, show j * 5 + 5 - j * 5 = 5 by omega, List.drop_eq_nil_of_le (by omega), List.nil_append]
      simp
    rw [e] at hv9
    exact hv9
  · intro i h h'
    by_cases hi : i < j
    · rw [List.getElem_append_left (by omega)]
      exact ((h5 i (by omega) h').keep m19 (fun g hg hm => by simp at hm; have := hg.1; omega)).mono (Btw.mono (Nat.le_refl _) m19.size)
    · have hij : i = j := by simp [h1] at h; omega
      subst hij
      rw [List.getElem_append_right (by omega)]
      simp only [h1, Nat.sub_self, List.getElem_cons_zero]
      rw [← h7']
      have q1 := k1.keep k3 (fun g hg hm => by simp at hm; have := hg.1; omega)
      have q2 := q1.keep mv9 (fun g hg hm => by simp at hm; have := hg.1; have := k4.size; omega)
      have q3 := q2.mono (S' := Btw (R + 1) v9.heap.size) (Btw.mono (by have := k4.size; omega) (Nat.le_trans k3.size mv9.size))
      exact q3.tis k u n s lk.length h9 (Nat.le_refl _) (by unfold maxLen; omega) hlm
  · exact far_mod h6 m19 (fun i hi => by simp at hi; omega)
set_option maxRecDepth 1000000 in
set_option maxHeartbeats 4000000 in
theorem copied_none (A : Option Addr) (c : Nat) (w : World) : Calls Tryd.prog 55 #[.slice A 0 c] w (CopyP w []) := by
  go_enter Tryd.func55, Tryd.ntmps55
  go_wp2_with fail
  go_ret
  exact ⟨none, [], rfl, RowT.nil _ _ _, Mod.refl _ _, fun _ => rfl⟩
set_option maxRecDepth 1000000 in
set_option maxHeartbeats 4000000 in
theorem copied_some (m : Nat) (ih : CopyAll m) (A : Option Addr) (len c : Nat) (vs : List (List Value)) (l : List Tm) (S : Nat → Prop) (w : World) (hl : len = l.length) (h0 : 0 < len) (hd : ∀ t ∈ l, t.depth ≤ m + 1) (hr : RowT w S A vs l) (hlm : len ≤ 2199023255552) :
    Calls Tryd.prog 55 #[.slice A len c] w (CopyP w l) := by
  obtain ⟨i0, i1, i2, i3, i4⟩ := info24
  have HI := Lib.hid (And.intro i1 (And.intro i2 (And.intro i3 i4)))
  have HR := Lib.hid (And.intro hl (And.intro hr (And.intro hd ih)))
  have hb0 : ((len : Int) == 0) = false := by simp; omega
  have hmx : 64 * len ≤ 281474976710656 := by omega
  have hmy : len ≤ 9223372036854775807 := by omega
  clear i1 i2 i3 i4 hl hr hd ih
  go_enter Tryd.func55, Tryd.ntmps55
  go_wp2_with (first
    | (with_reducible refine wpList_makeG (o := ⟨some 11, .makeSlice 22 (.tmp 10) (.tmp 10), _, _, _, _⟩) rfl 22 (.tmp 10) (.tmp 10) rfl 24 i0 _ 5 64 len Tryd.underlying22 HI.out.1 HI.out.2.1 HI.out.2.2.1 HI.out.2.2.2 rfl rfl hmx hmy ?_
       intro wz cs hz hcs _ mz zz
       clear zz))
  obtain ⟨R, hR⟩ : ∃ R, R = w.heap.size := ⟨_, rfl⟩
  rw [← hR] at hz ⊢
  have HW := Lib.hid hR
  have HC := Lib.hid hcs
  clear hcs hR
  go_loopw [14] (fun i wr => ∃ (j : Nat) (done : List (List Value)) (rest : List Value), i = .int .i64 j ∧ j ≤ len ∧ done.length = j ∧ (∀ v ∈ done, v.length = 5) ∧ rest.length = (len - j) * 5 ∧ Holds wr R 24 (done.flatMap id ++ rest) ∧ (∀ i (h : i < done.length) (h' : i < l.length), TIs wr (Btw (R + 1) wr.heap.size) l[i] done[i]) ∧ Mod [] w wr) (fun i _ => len - (intOf i).toNat)
  case atStart => exact ⟨0, [], cs, rfl, by omega, rfl, by simp, by rw [HC.out]; simp, by simpa using hz, fun i h => by simp at h, mz⟩
  case round =>
  obtain ⟨j, done, rest, rfl, hj, hdn, hd5, hrl, hH, hTs, mr⟩ := hrel
  by_cases hjl : j < len
  case neg =>
    obtain rfl : len = j := by omega
    have hre : rest = [] := List.eq_nil_of_length_eq_zero (by omega)
    subst hre
    have HF := Lib.hid (And.intro hdn (And.intro hd5 (And.intro hH (And.intro hTs mr))))
    clear hdn hd5 hrl hH hTs mr
    go_wp2_with fail
    go_ret
    obtain ⟨q1, q2, q3, q4, q5⟩ := HF.out
    have q6 := q3.lt
    refine ⟨some ⟨R, 0, none⟩, done, congrArg (fun z => Ending.returned (Value.slice (some ⟨R, 0, none⟩) z z)) HR.out.1, ⟨fun a ha _ => ?_, by rw [q1, HR.out.1], q2, ?_, fun i h1 h2 => (q4 i h2 h1).mono (Btw.mono (by have := HW.out; omega) (Nat.le_refl _))⟩, q5, fun h => by rw [HR.out.1, h] at h0; simp at h0⟩
    · cases ha; exact ⟨Nat.le_of_eq HW.out.symm, q6⟩
    · rw [List.append_nil] at q3; exact Cells.of_holds q3
  have hjl' : j < l.length := by rw [← HR.out.1]; exact hjl
  obtain ⟨g, q, cs, rfl, hcE, hT, hcs, _⟩ := HR.out.2.1.elem j hjl'
  replace hcE := hcE.keep mr (by simp)
  have hone := hT.one
  have hdj := HR.out.2.2.1 _ (List.getElem_mem hjl')
  obtain ⟨t, ht⟩ : ∃ t, t = l[j] := ⟨_, rfl⟩
  rw [← ht] at hT hdj
  obtain ⟨k, u, n, s, lk⟩ := t
  obtain ⟨K, ck, vk, rfl, hrk, hlk, hck, hlkm, hsz⟩ := hT.row
  rw [Tm.depth] at hdj
  have IHC := fun v (mv : Mod [] w v) => HR.out.2.2.2 K ck vk lk S v (fun t ht => by have := Tm.mem_depth ht; omega) (hrk.keep mv (by simp)) hlkm
  obtain ⟨nk, hnk⟩ : ∃ q, q = lk.length := ⟨_, rfl⟩
  have hlk2 := hlkm
  rw [← hnk] at IHC hcE hlkm
  have HJ := Lib.hid (And.intro hdn (And.intro hd5 (And.intro hrl (And.intro hH (And.intro hTs (And.intro mr (And.intro (⟨hjl', ht⟩ : ∃ h : j < l.length, Tm.mk k u n s lk = l[j]) (And.intro hnk hsz))))))))
  have hlt : j * 5 + 5 ≤ (done.flatMap id ++ rest).length := by
    rw [List.length_append, flat5_len done hd5, hrl, hdn, ← Nat.add_mul, show j + (len - j) = len by omega]
    omega
  rw [← hnk] at hone hcs
  clear hdn hd5 hrl hTs ht hrk hlk hck hdj hT hnk hsz
  go_wp2_with (first
    | (with_reducible refine wpList_loads (o := ⟨some 18, .load 24 (.tmp 17), _, _, _, _⟩) rfl 24 (.tmp 17) rfl g (q + j * 5) (tmc k u n s K nk ck) rfl (hcE) _ Tryd.underlying24 rfl (size24t _ _ _ _ _ _ _) (.agg (tmc k u n s K nk ck).toArray) rfl ?_)
    | (with_reducible refine wpList_allocs (o := ⟨some 5, .alloc 24, _, _, _, _⟩) rfl 24 rfl _ zero24 ?_; intro y2 hy2 my2 zy2; replace zy2 := Lib.hid zy2)
    | (with_reducible refine wpList_storesAll (o := ⟨none, .store 24 (.tmp 5) (.tmp 18), _, _, _, _⟩) rfl 24 (.tmp 5) (.tmp 18) rfl rfl wr.heap.size (tmc k u n s K nk ck) rfl (.agg (tmc k u n s K nk ck).toArray) rfl rfl 24 _ hy2 (zlen (tmc_len _ _ _ _ _ _ _)) (tmc_one _ _ _ _ _ _ _) (size24t _ _ _ _ _ _ _) ?_
       intro u3 hu3 mu3 zu3
       clear zu3
       have q3 : Mod [] wr u3 := my2.trans mu3 (by intro i hi h; simp at h; omega)
       obtain ⟨b3, hb3⟩ : ∃ b, b = wr.heap.size := ⟨_, rfl⟩
       rw [← hb3] at hu3 ⊢
       have HB := Lib.hid hb3
       have hbl := hu3.lt
       have e4 := hu3.cell 4
       simp only [tmc, List.getElem?_cons_succ, List.getElem?_cons_zero] at e4
       clear hy2 my2 zy2 mu3 hb3)
    | (go_at_call 55
       refine (IHC u3 (mr.then q3)).mono ?_
       rintro e w5 ⟨A', vs', rfl, hR', m5, _⟩
       replace hu3 := hu3.keep m5 (by simp)
       clear e4
       have e4 := hu3.cell 4
       simp only [tmc, List.getElem?_cons_succ, List.getElem?_cons_zero] at e4
       have f4 := hu3.free 4
       have hu6 : Holds (w5.setCell ⟨b3, 4, none⟩ (.slice A' nk nk)) b3 24 (tmc k u n s A' nk nk) := hu3.set 4 _
       have m6 : Mod [b3] w5 (w5.setCell ⟨b3, 4, none⟩ (.slice A' nk nk)) := Mod.setCell (ms := [b3]) w5 (by simp) _
       have HK := Lib.hid (And.intro hR' (And.intro m5 (And.intro m6 q3)))
       have hlt3 := hH.lt
       have nb : ¬ b3 = R := by rw [HB.out]; omega
       have hH6 : Holds (w5.setCell ⟨b3, 4, none⟩ (.slice A' nk nk)) R 24 (done.flatMap id ++ rest) := ((hH.keep q3 (by simp)).keep m5 (by simp)).keep m6 (by simpa using fun e : R = b3 => nb e.symm)
       rw [show lk.length = nk from HJ.out.2.2.2.2.2.2.2.1.symm]
       clear hR' m5 m6 q3 mr IHC hlt3 hu3)
    | (with_reducible refine wpList_loads (o := ⟨some 25, .load 24 (.tmp 5), _, _, _, _⟩) rfl 24 (.tmp 5) rfl b3 (0) (tmc k u n s A' nk nk) rfl (Cells.of_holds hu6) _ Tryd.underlying24 rfl (size24t _ _ _ _ _ _ _) (.agg (tmc k u n s A' nk nk).toArray) rfl ?_)
    | (with_reducible refine wpList_stores (o := ⟨none, .store 24 (.tmp 26) (.tmp 25), _, _, _, _⟩) rfl 24 (.tmp 26) (.tmp 25) rfl rfl R (j * 5) (tmc k u n s A' nk nk) rfl (.agg (tmc k u n s A' nk nk).toArray) rfl rfl 24 _ hH6 (tmc_fit hlt) (tmc_one _ _ _ _ _ _ _) (size24t _ _ _ _ _ _ _) ?_
       intro v9 hv9 mv9 zv9
       clear zv9
       have HX := Lib.hid (copied_next HJ.out HK.out HB.out HW.out hbl hv9 mv9 hjl hlk2)
       clear hv9 mv9 hH6 hu6 hH))
  exact ⟨⟨j + 1, done ++ [tmc k u n s A' nk nk], rest.drop 5, by go_num, by omega, HX.out.1, HX.out.2.1, HX.out.2.2.1, HX.out.2.2.2.1, HX.out.2.2.2.2.1, HX.out.2.2.2.2.2⟩, by simp [intOf]; omega⟩
theorem copied_all : ∀ m, CopyAll m
  | 0, A, c, vs, l, S, w, hd, hr, hl => by
    cases l with
    | nil => exact copied_none A c w
    | cons t l => have := hd t (by simp); have := Tm.depth_pos t; omega
  | m + 1, A, c, vs, l, S, w, hd, hr, hl => by
    cases hl0 : l with
    | nil => exact copied_none A c w
    | cons t l' => rw [← hl0]; exact copied_some m (copied_all m) A l.length c vs l S w rfl (by rw [hl0]; simp) hd hr hl
end Go.Proofs.YtchanildogjhgaaDoor
