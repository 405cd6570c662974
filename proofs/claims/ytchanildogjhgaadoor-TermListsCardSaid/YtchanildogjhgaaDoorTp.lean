/-
  The functions that make terms. My own work.
-/
import Derived.Test.YtchanildogjhgaaDoorTo
namespace Go.Proofs.YtchanildogjhgaaDoor
open Go.RowKit Go.Shelf
set_option linter.unusedVariables false
set_option linter.unusedSimpArgs false
theorem run_lit2 {P : Program} {t e : TypeId} {it : TypeInfo} {Z V0 V1 : Value} {c0 c1 : List Value} {s : Nat} (w : World) (ht : P.underlying t = some (.slice e)) (hq : P.info? e = some it) (hs : it.size = s) (h0 : 0 < s) (hb : 2 * s ≤ 2 ^ 24) (hz : ∀ w, (zeroValue e).run P w = .ok Z w) (hV0 : V0.cells = c0.toArray) (hV1 : V1.cells = c1.toArray) (hc0 : c0.length = s) (hc1 : c1.length = s) :
    (Instr.buildSlice t 2 #[(0, V0), (1, V1)]).run P w = .ok (.slice (some ⟨w.heap.size, 0, none⟩) 2 2) (w.alloc (.cells (c0 ++ c1).toArray e)) := by
  have hf : ∀ z : Array Value, z.size = 2 * s → Instr.fill (fun i => some (i * s, s)) z [(0, V0), (1, V1)] = some (c0 ++ c1).toArray := by
    rintro ⟨z⟩ hz
    have hz' : z.length = 2 * s := by simpa using hz
    rw [fill_step (off := 0) (size := s) (by simp) (by rw [hV0]; simpa using hc0) (by rw [hV0]; simp; omega), hV0]
    have := fold_set c0 0 z (by omega)
    rw [show (c0.toArray.zipIdx.foldl (fun cs (x : Value × Nat) => match x with | (c, j) => cs.setIfInBounds (0 + j) c) z.toArray) = _ from this]
    rw [fill_step (off := s) (size := s) (by simp) (by rw [hV1]; simpa using hc1) (by rw [hV1]; simp; omega), hV1]
    have := fold_set c1 s (z.take 0 ++ c0 ++ z.drop (0 + c0.length)) (by simp; omega)
    rw [show (c1.toArray.zipIdx.foldl (fun cs (x : Value × Nat) => match x with | (c, j) => cs.setIfInBounds (s + j) c) (z.take 0 ++ c0 ++ z.drop (0 + c0.length)).toArray) = _ from this]
    simp only [List.take_zero, List.nil_append, Nat.zero_add, Instr.fill]
    congr 2
    rw [List.take_left' hc0, List.drop_eq_nil_of_le (by simp; omega), List.append_nil]
  have hf2 := hf ((Array.range (2 * s)).map (Z.cells[· % Z.cells.size]!)) (by simp)
  unfold Instr.buildSlice
  simp only [Sem.run_bind, run_underlying ht, sizeOf, typeInfo, run_program, hq, Result.andThen, Sem.run_pure, hs]
  rw [if_neg (by omega), if_neg (by omega)]
  simp only [Sem.run_bind, hz, Result.andThen, Sem.run_pure, hf2]
  simp [newRow, go_sem]
theorem run_lit22 {c0 c1 : List Value} (h0 : c0.length = 5) (h1 : c1.length = 5) (w : World) : (Instr.buildSlice 22 2 #[(0, .agg c0.toArray), (1, .agg c1.toArray)]).run Tryd.prog w = .ok (.slice (some ⟨w.heap.size, 0, none⟩) 2 2) (w.alloc (.cells (c0 ++ c1).toArray 24)) := by
  obtain ⟨i, hi, hz, hs, hb⟩ := info24
  exact run_lit2 (s := 5) w Tryd.underlying22 hi hs (by decide) (by decide) zero24 rfl rfl h0 h1
theorem run_lit21 {c0 : List Value} (h0 : c0.length = 5) (w : World) : (Instr.buildSlice 22 1 #[(0, .agg c0.toArray)]).run Tryd.prog w = .ok (.slice (some ⟨w.heap.size, 0, none⟩) 1 1) (w.alloc (.cells c0.toArray 24)) := by
  obtain ⟨i, hi, hz, hs, hb⟩ := info24
  exact run_lit1 (s := 5) w Tryd.underlying22 hi hs (by decide) (by decide) zero24 rfl h0
theorem RowT.two {w : World} {Sa Sb : Nat → Prop} {g : Nat} {a b : Tm} {ca cb : List Value} (h : Holds w g 24 (ca ++ cb)) (ha : TIs w Sa a ca) (hb : TIs w Sb b cb) : RowT w (fun x => x = g ∨ Sa x ∨ Sb x) (some ⟨g, 0, none⟩) [ca, cb] [a, b] := by
  refine ⟨fun x hx _ => by cases hx; exact .inl rfl, rfl, ?_, ?_, ?_⟩
  · intro v hv
    simp only [List.mem_cons, List.not_mem_nil, or_false] at hv
    rcases hv with rfl | rfl
    · exact ha.len
    · exact hb.len
  · exact Cells.of_holds (by simpa using h)
  · intro i h1 h2
    match i, h1, h2 with
    | 0, _, _ => exact ha.mono (fun _ h => .inr (.inl h))
    | 1, _, _ => exact hb.mono (fun _ h => .inr (.inr h))
theorem RowT.one {w : World} {Sa : Nat → Prop} {g : Nat} {a : Tm} {ca : List Value} (h : Holds w g 24 ca) (ha : TIs w Sa a ca) : RowT w (fun x => x = g ∨ Sa x) (some ⟨g, 0, none⟩) [ca] [a] := by
  refine ⟨fun x hx _ => by cases hx; exact .inl rfl, rfl, ?_, ?_, ?_⟩
  · intro v hv
    simp only [List.mem_cons, List.not_mem_nil, or_false] at hv
    subst hv
    exact ha.len
  · exact Cells.of_holds (by simpa using h)
  · intro i h1 h2
    match i, h1, h2 with
    | 0, _, _ => exact ha.mono (fun _ h => .inr h)
theorem makes_end {w w0 y2 w5 u9 : World} {b4 : Nat} {t : Tm} {cs : List Value} (hT : TIs w5 (Btw y2.heap.size w5.heap.size) t cs) (m5 : Mod [] y2 w5) (m9 : Mod [b4] w5 u9) (m2 : Mod [] w y2) (h4 : w.heap.size ≤ b4) (h5 : b4 < y2.heap.size) :
    TIs u9 (Btw w.heap.size u9.heap.size) t cs ∧ Mod [] w u9 := by
  have q1 := hT.keep m9 (fun g hg hm => by simp at hm; have := hg.1; omega)
  exact ⟨q1.mono (Btw.mono m2.size m9.size), far_mod (m2.then m5) m9 (fun i hi => by simp at hi; omega)⟩
set_option maxRecDepth 1000000 in
set_option maxHeartbeats 4000000 in
theorem text_c (s : ByteArray) (hss : s.size ≤ 140737488355328) (w : World) : Calls Tryd.prog 16 #[.string s] w (MadeT w (.mk 1 0 0 s [])) := by
  go_enter Tryd.func16, Tryd.ntmps16
  go_wp2_with (first
    | (with_reducible refine wpList_allocs (o := ⟨some 2, .alloc 24, _, _, _, _⟩) rfl 24 rfl _ zero24 ?_; intro y2 hy2 my2 zy2
       obtain ⟨b4, hq4⟩ : ∃ b, b = w.heap.size := ⟨_, rfl⟩
       rw [← hq4] at hy2 ⊢
       have HB4 : Hid (w.heap.size ≤ b4) := Lib.hid (by rw [hq4]; exact Nat.le_refl _)
       have mm := my2
       clear zy2 hq4 my2)
    | (with_reducible refine wpList_ran (o := ⟨some 4, .build 24 _, _, _, _, _⟩) rfl (.agg (tmc 1 0 0 s none 0 0).toArray) (exec_bB rfl rfl rfl) ?_)
    | (go_at_call 53
       refine (made_c 1 0 0 s none 0 0 none 0 0 [] [] (fun _ => True) _ rfl (RowT.nil _ _ _) (by omega) hss).mono ?_
       rintro e w5 ⟨cs, rfl, hT5, m5⟩
       have hy5 := hy2.keep m5 (by simp)
       have h55 := hT5.len
       have ho5 := hT5.one
       have HT5 := Lib.hid (And.intro hT5 (And.intro m5 (And.intro mm hy2.lt)))
       clear hT5 m5)
    | (with_reducible refine wpList_storesAll (o := ⟨none, .store 24 (.tmp 2) (.tmp 5), _, _, _, _⟩) rfl 24 (.tmp 2) (.tmp 5) rfl rfl b4 (cs) rfl (.agg (cs).toArray) rfl rfl 24 _ hy5 (zlen h55) (ho5) (size24' h55) ?_
       intro u9 hu9 mu9 zu9
       clear zu9
       have HZ := Lib.hid (makes_end (w0 := w) HT5.out.1 HT5.out.2.1 mu9 HT5.out.2.2.1 HB4.out HT5.out.2.2.2)
       clear mu9 hy5))
  refine bodyPost_ret (results_cell1 rfl _ _ b4 _ rfl (Cells.of_holds hu9) h55) rfl ?_
  exact ⟨_, rfl, HZ.out.1, HZ.out.2⟩
set_option maxRecDepth 1000000 in
set_option maxHeartbeats 4000000 in
theorem fresh_c (u : Int) (n : Int) (w : World) : Calls Tryd.prog 18 #[.int .i64 u, .int .i64 n] w (MadeT w (.mk 2 u n ⟨#[]⟩ [])) := by
  go_enter Tryd.func18, Tryd.ntmps18
  go_wp2_with (first
    | (with_reducible refine wpList_allocs (o := ⟨some 4, .alloc 24, _, _, _, _⟩) rfl 24 rfl _ zero24 ?_; intro y2 hy2 my2 zy2
       obtain ⟨b4, hq4⟩ : ∃ b, b = w.heap.size := ⟨_, rfl⟩
       rw [← hq4] at hy2 ⊢
       have HB4 : Hid (w.heap.size ≤ b4) := Lib.hid (by rw [hq4]; exact Nat.le_refl _)
       have mm := my2
       clear zy2 hq4 my2)
    | (with_reducible refine wpList_ran (o := ⟨some 7, .build 24 _, _, _, _, _⟩) rfl (.agg (tmc 2 u n ⟨#[]⟩ none 0 0).toArray) (exec_bC rfl rfl rfl rfl) ?_)
    | (go_at_call 53
       refine (made_c 2 u n ⟨#[]⟩ none 0 0 none 0 0 [] [] (fun _ => True) _ rfl (RowT.nil _ _ _) (by omega) (by decide)).mono ?_
       rintro e w5 ⟨cs, rfl, hT5, m5⟩
       have hy5 := hy2.keep m5 (by simp)
       have h55 := hT5.len
       have ho5 := hT5.one
       have HT5 := Lib.hid (And.intro hT5 (And.intro m5 (And.intro mm hy2.lt)))
       clear hT5 m5)
    | (with_reducible refine wpList_storesAll (o := ⟨none, .store 24 (.tmp 4) (.tmp 8), _, _, _, _⟩) rfl 24 (.tmp 4) (.tmp 8) rfl rfl b4 (cs) rfl (.agg (cs).toArray) rfl rfl 24 _ hy5 (zlen h55) (ho5) (size24' h55) ?_
       intro u9 hu9 mu9 zu9
       clear zu9
       have HZ := Lib.hid (makes_end (w0 := w) HT5.out.1 HT5.out.2.1 mu9 HT5.out.2.2.1 HB4.out HT5.out.2.2.2)
       clear mu9 hy5))
  refine bodyPost_ret (results_cell1 rfl _ _ b4 _ rfl (Cells.of_holds hu9) h55) rfl ?_
  exact ⟨_, rfl, HZ.out.1, HZ.out.2⟩
set_option maxRecDepth 1000000 in
set_option maxHeartbeats 4000000 in
theorem secret_c (u : Int) (w : World) : Calls Tryd.prog 19 #[.int .i64 u] w (MadeT w (.mk 3 u 0 ⟨#[]⟩ [])) := by
  go_enter Tryd.func19, Tryd.ntmps19
  go_wp2_with (first
    | (with_reducible refine wpList_allocs (o := ⟨some 2, .alloc 24, _, _, _, _⟩) rfl 24 rfl _ zero24 ?_; intro y2 hy2 my2 zy2
       obtain ⟨b4, hq4⟩ : ∃ b, b = w.heap.size := ⟨_, rfl⟩
       rw [← hq4] at hy2 ⊢
       have HB4 : Hid (w.heap.size ≤ b4) := Lib.hid (by rw [hq4]; exact Nat.le_refl _)
       have mm := my2
       clear zy2 hq4 my2)
    | (with_reducible refine wpList_ran (o := ⟨some 4, .build 24 _, _, _, _, _⟩) rfl (.agg (tmc 3 u 0 ⟨#[]⟩ none 0 0).toArray) (exec_bD rfl rfl rfl) ?_)
    | (go_at_call 53
       refine (made_c 3 u 0 ⟨#[]⟩ none 0 0 none 0 0 [] [] (fun _ => True) _ rfl (RowT.nil _ _ _) (by omega) (by decide)).mono ?_
       rintro e w5 ⟨cs, rfl, hT5, m5⟩
       have hy5 := hy2.keep m5 (by simp)
       have h55 := hT5.len
       have ho5 := hT5.one
       have HT5 := Lib.hid (And.intro hT5 (And.intro m5 (And.intro mm hy2.lt)))
       clear hT5 m5)
    | (with_reducible refine wpList_storesAll (o := ⟨none, .store 24 (.tmp 2) (.tmp 5), _, _, _, _⟩) rfl 24 (.tmp 2) (.tmp 5) rfl rfl b4 (cs) rfl (.agg (cs).toArray) rfl rfl 24 _ hy5 (zlen h55) (ho5) (size24' h55) ?_
       intro u9 hu9 mu9 zu9
       clear zu9
       have HZ := Lib.hid (makes_end (w0 := w) HT5.out.1 HT5.out.2.1 mu9 HT5.out.2.2.1 HB4.out HT5.out.2.2.2)
       clear mu9 hy5))
  refine bodyPost_ret (results_cell1 rfl _ _ b4 _ rfl (Cells.of_holds hu9) h55) rfl ?_
  exact ⟨_, rfl, HZ.out.1, HZ.out.2⟩
set_option maxRecDepth 1000000 in
set_option maxHeartbeats 4000000 in
theorem pair_c (a : Tm) (ca : List Value) (Sa : Nat → Prop) (b : Tm) (cb : List Value) (Sb : Nat → Prop) (w : World) (hTa : TIs w Sa a ca) (hTb : TIs w Sb b cb) : Calls Tryd.prog 20 #[.agg ca.toArray, .agg cb.toArray] w (MadeT w (.mk 4 0 0 ⟨#[]⟩ [a, b])) := by
  have h5a := hTa.len
  have h5b := hTb.len
  go_enter Tryd.func20, Tryd.ntmps20
  go_wp2_with (first
    | (with_reducible refine wpList_boxes (o := ⟨some 2, .box 24 (.tmp 0), _, _, _, _⟩) rfl 24 (.tmp 0) rfl _ rfl (ca) rfl ?_; intro w1 hb1 m1 z1; replace z1 := Lib.hid z1
       obtain ⟨ba, hqa⟩ : ∃ b, b = w.heap.size := ⟨_, rfl⟩
       rw [← hqa] at hb1 ⊢
       have hba := hb1
       have mm := m1
       clear z1 hqa hb1)
    | (with_reducible refine wpList_boxes (o := ⟨some 3, .box 24 (.tmp 1), _, _, _, _⟩) rfl 24 (.tmp 1) rfl _ rfl (cb) rfl ?_; intro w2 hb2 m2 z2; replace z2 := Lib.hid z2
       obtain ⟨bb, hqb⟩ : ∃ b, b = w1.heap.size := ⟨_, rfl⟩
       rw [← hqb] at hb2 ⊢
       have hbb := hb2
       replace hba := hba.keep m2 (by simp)
       replace mm := mm.then m2
       clear z2 hqb hb2)
    | (with_reducible refine wpList_allocs (o := ⟨some 4, .alloc 24, _, _, _, _⟩) rfl 24 rfl _ zero24 ?_; intro y2 hy2 my2 zy2
       obtain ⟨b4, hq4⟩ : ∃ b, b = w2.heap.size := ⟨_, rfl⟩
       rw [← hq4] at hy2 ⊢
       have HB4 : Hid (w.heap.size ≤ b4) := Lib.hid (by rw [hq4]; exact mm.size)
       replace hba := hba.keep my2 (by simp)
       replace hbb := hbb.keep my2 (by simp)
       replace mm := mm.then my2
       clear zy2 hq4 my2)
    | (with_reducible refine wpList_ran (o := ⟨some 5, .build 24 _, _, _, _, _⟩) rfl (.agg (tmc 4 0 0 ⟨#[]⟩ none 0 0).toArray) (exec_bA rfl rfl) ?_)
    | (with_reducible refine wpList_loads (o := ⟨some 6, .load 24 (.tmp 2), _, _, _, _⟩) rfl 24 (.tmp 2) rfl ba (0) (ca) rfl (Cells.of_holds hba) _ Tryd.underlying24 rfl (size24' h5a) (.agg (ca).toArray) rfl ?_)
    | (with_reducible refine wpList_loads (o := ⟨some 7, .load 24 (.tmp 3), _, _, _, _⟩) rfl 24 (.tmp 3) rfl bb (0) (cb) rfl (Cells.of_holds hbb) _ Tryd.underlying24 rfl (size24' h5b) (.agg (cb).toArray) rfl ?_)
    | (with_reducible refine wpList_lits (o := ⟨some 8, .buildSlice 22 2 _, _, _, _, _⟩) rfl 22 24 2 _ rfl (ca ++ cb) ?_ ?_
       · with_unfolding_all exact run_lit22 h5a h5b _
       intro v3 hv3 mv3 zv3
       clear zv3
       replace hba := hba.keep mv3 (by simp)
       replace hbb := hbb.keep mv3 (by simp)
       have hy3 := hy2.keep mv3 (by simp)
       have ml := mm.then mv3
       have hlt := hy3.lt)
    | (go_at_call 53
       refine (made_c 4 0 0 ⟨#[]⟩ none 0 0 (some ⟨_, 0, none⟩) 2 2 _ _ _ _ rfl (RowT.two hv3 (hTa.keep ml (by simp)) (hTb.keep ml (by simp))) (by omega) (by decide)).mono ?_
       rintro e w5 ⟨cs, rfl, hT5, m5⟩
       have hy5 := hy3.keep m5 (by simp)
       have h55 := hT5.len
       have ho5 := hT5.one
       have HT5 := Lib.hid (And.intro hT5 (And.intro m5 (And.intro ml hy3.lt)))
       clear hT5 m5)
    | (with_reducible refine wpList_storesAll (o := ⟨none, .store 24 (.tmp 4) (.tmp 9), _, _, _, _⟩) rfl 24 (.tmp 4) (.tmp 9) rfl rfl b4 (cs) rfl (.agg (cs).toArray) rfl rfl 24 _ hy5 (zlen h55) (ho5) (size24' h55) ?_
       intro u9 hu9 mu9 zu9
       clear zu9
       have HZ := Lib.hid (makes_end (w0 := w) HT5.out.1 HT5.out.2.1 mu9 HT5.out.2.2.1 HB4.out HT5.out.2.2.2)
       clear mu9 hy5))
  refine bodyPost_ret (results_cell1 rfl _ _ b4 _ rfl (Cells.of_holds hu9) h55) rfl ?_
  exact ⟨_, rfl, HZ.out.1, HZ.out.2⟩
set_option maxRecDepth 1000000 in
set_option maxHeartbeats 4000000 in
theorem lock_c (a : Tm) (ca : List Value) (Sa : Nat → Prop) (b : Tm) (cb : List Value) (Sb : Nat → Prop) (w : World) (hTa : TIs w Sa a ca) (hTb : TIs w Sb b cb) : Calls Tryd.prog 22 #[.agg ca.toArray, .agg cb.toArray] w (MadeT w (.mk 6 0 0 ⟨#[]⟩ [a, b])) := by
  have h5a := hTa.len
  have h5b := hTb.len
  go_enter Tryd.func22, Tryd.ntmps22
  go_wp2_with (first
    | (with_reducible refine wpList_boxes (o := ⟨some 2, .box 24 (.tmp 0), _, _, _, _⟩) rfl 24 (.tmp 0) rfl _ rfl (ca) rfl ?_; intro w1 hb1 m1 z1; replace z1 := Lib.hid z1
       obtain ⟨ba, hqa⟩ : ∃ b, b = w.heap.size := ⟨_, rfl⟩
       rw [← hqa] at hb1 ⊢
       have hba := hb1
       have mm := m1
       clear z1 hqa hb1)
    | (with_reducible refine wpList_boxes (o := ⟨some 3, .box 24 (.tmp 1), _, _, _, _⟩) rfl 24 (.tmp 1) rfl _ rfl (cb) rfl ?_; intro w2 hb2 m2 z2; replace z2 := Lib.hid z2
       obtain ⟨bb, hqb⟩ : ∃ b, b = w1.heap.size := ⟨_, rfl⟩
       rw [← hqb] at hb2 ⊢
       have hbb := hb2
       replace hba := hba.keep m2 (by simp)
       replace mm := mm.then m2
       clear z2 hqb hb2)
    | (with_reducible refine wpList_allocs (o := ⟨some 4, .alloc 24, _, _, _, _⟩) rfl 24 rfl _ zero24 ?_; intro y2 hy2 my2 zy2
       obtain ⟨b4, hq4⟩ : ∃ b, b = w2.heap.size := ⟨_, rfl⟩
       rw [← hq4] at hy2 ⊢
       have HB4 : Hid (w.heap.size ≤ b4) := Lib.hid (by rw [hq4]; exact mm.size)
       replace hba := hba.keep my2 (by simp)
       replace hbb := hbb.keep my2 (by simp)
       replace mm := mm.then my2
       clear zy2 hq4 my2)
    | (with_reducible refine wpList_ran (o := ⟨some 5, .build 24 _, _, _, _, _⟩) rfl (.agg (tmc 6 0 0 ⟨#[]⟩ none 0 0).toArray) (exec_bA rfl rfl) ?_)
    | (with_reducible refine wpList_loads (o := ⟨some 6, .load 24 (.tmp 2), _, _, _, _⟩) rfl 24 (.tmp 2) rfl ba (0) (ca) rfl (Cells.of_holds hba) _ Tryd.underlying24 rfl (size24' h5a) (.agg (ca).toArray) rfl ?_)
    | (with_reducible refine wpList_loads (o := ⟨some 7, .load 24 (.tmp 3), _, _, _, _⟩) rfl 24 (.tmp 3) rfl bb (0) (cb) rfl (Cells.of_holds hbb) _ Tryd.underlying24 rfl (size24' h5b) (.agg (cb).toArray) rfl ?_)
    | (with_reducible refine wpList_lits (o := ⟨some 8, .buildSlice 22 2 _, _, _, _, _⟩) rfl 22 24 2 _ rfl (ca ++ cb) ?_ ?_
       · with_unfolding_all exact run_lit22 h5a h5b _
       intro v3 hv3 mv3 zv3
       clear zv3
       replace hba := hba.keep mv3 (by simp)
       replace hbb := hbb.keep mv3 (by simp)
       have hy3 := hy2.keep mv3 (by simp)
       have ml := mm.then mv3
       have hlt := hy3.lt)
    | (go_at_call 53
       refine (made_c 6 0 0 ⟨#[]⟩ none 0 0 (some ⟨_, 0, none⟩) 2 2 _ _ _ _ rfl (RowT.two hv3 (hTa.keep ml (by simp)) (hTb.keep ml (by simp))) (by omega) (by decide)).mono ?_
       rintro e w5 ⟨cs, rfl, hT5, m5⟩
       have hy5 := hy3.keep m5 (by simp)
       have h55 := hT5.len
       have ho5 := hT5.one
       have HT5 := Lib.hid (And.intro hT5 (And.intro m5 (And.intro ml hy3.lt)))
       clear hT5 m5)
    | (with_reducible refine wpList_storesAll (o := ⟨none, .store 24 (.tmp 4) (.tmp 9), _, _, _, _⟩) rfl 24 (.tmp 4) (.tmp 9) rfl rfl b4 (cs) rfl (.agg (cs).toArray) rfl rfl 24 _ hy5 (zlen h55) (ho5) (size24' h55) ?_
       intro u9 hu9 mu9 zu9
       clear zu9
       have HZ := Lib.hid (makes_end (w0 := w) HT5.out.1 HT5.out.2.1 mu9 HT5.out.2.2.1 HB4.out HT5.out.2.2.2)
       clear mu9 hy5))
  refine bodyPost_ret (results_cell1 rfl _ _ b4 _ rfl (Cells.of_holds hu9) h55) rfl ?_
  exact ⟨_, rfl, HZ.out.1, HZ.out.2⟩
set_option maxRecDepth 1000000 in
set_option maxHeartbeats 4000000 in
theorem hash_c (a : Tm) (ca : List Value) (Sa : Nat → Prop) (w : World) (hTa : TIs w Sa a ca) : Calls Tryd.prog 23 #[.agg ca.toArray] w (MadeT w (.mk 5 0 0 ⟨#[]⟩ [a])) := by
  have h5a := hTa.len
  go_enter Tryd.func23, Tryd.ntmps23
  go_wp2_with (first
    | (with_reducible refine wpList_boxes (o := ⟨some 1, .box 24 (.tmp 0), _, _, _, _⟩) rfl 24 (.tmp 0) rfl _ rfl (ca) rfl ?_; intro w1 hb1 m1 z1; replace z1 := Lib.hid z1
       obtain ⟨ba, hqa⟩ : ∃ b, b = w.heap.size := ⟨_, rfl⟩
       rw [← hqa] at hb1 ⊢
       have hba := hb1
       have mm := m1
       clear z1 hqa hb1)
    | (with_reducible refine wpList_allocs (o := ⟨some 2, .alloc 24, _, _, _, _⟩) rfl 24 rfl _ zero24 ?_; intro y2 hy2 my2 zy2
       obtain ⟨b4, hq4⟩ : ∃ b, b = w1.heap.size := ⟨_, rfl⟩
       rw [← hq4] at hy2 ⊢
       have HB4 : Hid (w.heap.size ≤ b4) := Lib.hid (by rw [hq4]; exact mm.size)
       replace hba := hba.keep my2 (by simp)
       replace mm := mm.then my2
       clear zy2 hq4 my2)
    | (with_reducible refine wpList_ran (o := ⟨some 3, .build 24 _, _, _, _, _⟩) rfl (.agg (tmc 5 0 0 ⟨#[]⟩ none 0 0).toArray) (exec_bA rfl rfl) ?_)
    | (with_reducible refine wpList_loads (o := ⟨some 4, .load 24 (.tmp 1), _, _, _, _⟩) rfl 24 (.tmp 1) rfl ba (0) (ca) rfl (Cells.of_holds hba) _ Tryd.underlying24 rfl (size24' h5a) (.agg (ca).toArray) rfl ?_)
    | (with_reducible refine wpList_lits (o := ⟨some 5, .buildSlice 22 1 _, _, _, _, _⟩) rfl 22 24 1 _ rfl (ca) ?_ ?_
       · with_unfolding_all exact run_lit21 h5a _
       intro v3 hv3 mv3 zv3
       clear zv3
       replace hba := hba.keep mv3 (by simp)
       have hy3 := hy2.keep mv3 (by simp)
       have ml := mm.then mv3
       have hlt := hy3.lt)
    | (go_at_call 53
       refine (made_c 5 0 0 ⟨#[]⟩ none 0 0 (some ⟨_, 0, none⟩) 1 1 _ _ _ _ rfl (RowT.one hv3 (hTa.keep ml (by simp))) (by omega) (by decide)).mono ?_
       rintro e w5 ⟨cs, rfl, hT5, m5⟩
       have hy5 := hy3.keep m5 (by simp)
       have h55 := hT5.len
       have ho5 := hT5.one
       have HT5 := Lib.hid (And.intro hT5 (And.intro m5 (And.intro ml hy3.lt)))
       clear hT5 m5)
    | (with_reducible refine wpList_storesAll (o := ⟨none, .store 24 (.tmp 2) (.tmp 6), _, _, _, _⟩) rfl 24 (.tmp 2) (.tmp 6) rfl rfl b4 (cs) rfl (.agg (cs).toArray) rfl rfl 24 _ hy5 (zlen h55) (ho5) (size24' h55) ?_
       intro u9 hu9 mu9 zu9
       clear zu9
       have HZ := Lib.hid (makes_end (w0 := w) HT5.out.1 HT5.out.2.1 mu9 HT5.out.2.2.1 HB4.out HT5.out.2.2.2)
       clear mu9 hy5))
  refine bodyPost_ret (results_cell1 rfl _ _ b4 _ rfl (Cells.of_holds hu9) h55) rfl ?_
  exact ⟨_, rfl, HZ.out.1, HZ.out.2⟩
set_option maxRecDepth 1000000 in
set_option maxHeartbeats 4000000 in
theorem seal_c (u : Int) (a : Tm) (ca : List Value) (Sa : Nat → Prop) (w : World) (hTa : TIs w Sa a ca) : Calls Tryd.prog 24 #[.int .i64 u, .agg ca.toArray] w (MadeT w (.mk 7 u 0 ⟨#[]⟩ [a])) := by
  have h5a := hTa.len
  go_enter Tryd.func24, Tryd.ntmps24
  go_wp2_with (first
    | (with_reducible refine wpList_boxes (o := ⟨some 3, .box 24 (.tmp 1), _, _, _, _⟩) rfl 24 (.tmp 1) rfl _ rfl (ca) rfl ?_; intro w1 hb1 m1 z1; replace z1 := Lib.hid z1
       obtain ⟨ba, hqa⟩ : ∃ b, b = w.heap.size := ⟨_, rfl⟩
       rw [← hqa] at hb1 ⊢
       have hba := hb1
       have mm := m1
       clear z1 hqa hb1)
    | (with_reducible refine wpList_allocs (o := ⟨some 4, .alloc 24, _, _, _, _⟩) rfl 24 rfl _ zero24 ?_; intro y2 hy2 my2 zy2
       obtain ⟨b4, hq4⟩ : ∃ b, b = w1.heap.size := ⟨_, rfl⟩
       rw [← hq4] at hy2 ⊢
       have HB4 : Hid (w.heap.size ≤ b4) := Lib.hid (by rw [hq4]; exact mm.size)
       replace hba := hba.keep my2 (by simp)
       replace mm := mm.then my2
       clear zy2 hq4 my2)
    | (with_reducible refine wpList_ran (o := ⟨some 6, .build 24 _, _, _, _, _⟩) rfl (.agg (tmc 7 u 0 ⟨#[]⟩ none 0 0).toArray) (exec_bD rfl rfl rfl) ?_)
    | (with_reducible refine wpList_loads (o := ⟨some 7, .load 24 (.tmp 3), _, _, _, _⟩) rfl 24 (.tmp 3) rfl ba (0) (ca) rfl (Cells.of_holds hba) _ Tryd.underlying24 rfl (size24' h5a) (.agg (ca).toArray) rfl ?_)
    | (with_reducible refine wpList_lits (o := ⟨some 8, .buildSlice 22 1 _, _, _, _, _⟩) rfl 22 24 1 _ rfl (ca) ?_ ?_
       · with_unfolding_all exact run_lit21 h5a _
       intro v3 hv3 mv3 zv3
       clear zv3
       replace hba := hba.keep mv3 (by simp)
       have hy3 := hy2.keep mv3 (by simp)
       have ml := mm.then mv3
       have hlt := hy3.lt)
    | (go_at_call 53
       refine (made_c 7 u 0 ⟨#[]⟩ none 0 0 (some ⟨_, 0, none⟩) 1 1 _ _ _ _ rfl (RowT.one hv3 (hTa.keep ml (by simp))) (by omega) (by decide)).mono ?_
       rintro e w5 ⟨cs, rfl, hT5, m5⟩
       have hy5 := hy3.keep m5 (by simp)
       have h55 := hT5.len
       have ho5 := hT5.one
       have HT5 := Lib.hid (And.intro hT5 (And.intro m5 (And.intro ml hy3.lt)))
       clear hT5 m5)
    | (with_reducible refine wpList_storesAll (o := ⟨none, .store 24 (.tmp 4) (.tmp 9), _, _, _, _⟩) rfl 24 (.tmp 4) (.tmp 9) rfl rfl b4 (cs) rfl (.agg (cs).toArray) rfl rfl 24 _ hy5 (zlen h55) (ho5) (size24' h55) ?_
       intro u9 hu9 mu9 zu9
       clear zu9
       have HZ := Lib.hid (makes_end (w0 := w) HT5.out.1 HT5.out.2.1 mu9 HT5.out.2.2.1 HB4.out HT5.out.2.2.2)
       clear mu9 hy5))
  refine bodyPost_ret (results_cell1 rfl _ _ b4 _ rfl (Cells.of_holds hu9) h55) rfl ?_
  exact ⟨_, rfl, HZ.out.1, HZ.out.2⟩
set_option maxRecDepth 1000000 in
set_option maxHeartbeats 4000000 in
theorem sign_c (u : Int) (n : Int) (a : Tm) (ca : List Value) (Sa : Nat → Prop) (w : World) (hTa : TIs w Sa a ca) : Calls Tryd.prog 25 #[.int .i64 u, .int .i64 n, .agg ca.toArray] w (MadeT w (.mk 8 u n ⟨#[]⟩ [a])) := by
  have h5a := hTa.len
  go_enter Tryd.func25, Tryd.ntmps25
  go_wp2_with (first
    | (with_reducible refine wpList_boxes (o := ⟨some 5, .box 24 (.tmp 2), _, _, _, _⟩) rfl 24 (.tmp 2) rfl _ rfl (ca) rfl ?_; intro w1 hb1 m1 z1; replace z1 := Lib.hid z1
       obtain ⟨ba, hqa⟩ : ∃ b, b = w.heap.size := ⟨_, rfl⟩
       rw [← hqa] at hb1 ⊢
       have hba := hb1
       have mm := m1
       clear z1 hqa hb1)
    | (with_reducible refine wpList_allocs (o := ⟨some 6, .alloc 24, _, _, _, _⟩) rfl 24 rfl _ zero24 ?_; intro y2 hy2 my2 zy2
       obtain ⟨b4, hq4⟩ : ∃ b, b = w1.heap.size := ⟨_, rfl⟩
       rw [← hq4] at hy2 ⊢
       have HB4 : Hid (w.heap.size ≤ b4) := Lib.hid (by rw [hq4]; exact mm.size)
       replace hba := hba.keep my2 (by simp)
       replace mm := mm.then my2
       clear zy2 hq4 my2)
    | (with_reducible refine wpList_ran (o := ⟨some 9, .build 24 _, _, _, _, _⟩) rfl (.agg (tmc 8 u n ⟨#[]⟩ none 0 0).toArray) (exec_bC rfl rfl rfl rfl) ?_)
    | (with_reducible refine wpList_loads (o := ⟨some 10, .load 24 (.tmp 5), _, _, _, _⟩) rfl 24 (.tmp 5) rfl ba (0) (ca) rfl (Cells.of_holds hba) _ Tryd.underlying24 rfl (size24' h5a) (.agg (ca).toArray) rfl ?_)
    | (with_reducible refine wpList_lits (o := ⟨some 11, .buildSlice 22 1 _, _, _, _, _⟩) rfl 22 24 1 _ rfl (ca) ?_ ?_
       · with_unfolding_all exact run_lit21 h5a _
       intro v3 hv3 mv3 zv3
       clear zv3
       replace hba := hba.keep mv3 (by simp)
       have hy3 := hy2.keep mv3 (by simp)
       have ml := mm.then mv3
       have hlt := hy3.lt)
    | (go_at_call 53
       refine (made_c 8 u n ⟨#[]⟩ none 0 0 (some ⟨_, 0, none⟩) 1 1 _ _ _ _ rfl (RowT.one hv3 (hTa.keep ml (by simp))) (by omega) (by decide)).mono ?_
       rintro e w5 ⟨cs, rfl, hT5, m5⟩
       have hy5 := hy3.keep m5 (by simp)
       have h55 := hT5.len
       have ho5 := hT5.one
       have HT5 := Lib.hid (And.intro hT5 (And.intro m5 (And.intro ml hy3.lt)))
       clear hT5 m5)
    | (with_reducible refine wpList_storesAll (o := ⟨none, .store 24 (.tmp 6) (.tmp 12), _, _, _, _⟩) rfl 24 (.tmp 6) (.tmp 12) rfl rfl b4 (cs) rfl (.agg (cs).toArray) rfl rfl 24 _ hy5 (zlen h55) (ho5) (size24' h55) ?_
       intro u9 hu9 mu9 zu9
       clear zu9
       have HZ := Lib.hid (makes_end (w0 := w) HT5.out.1 HT5.out.2.1 mu9 HT5.out.2.2.1 HB4.out HT5.out.2.2.2)
       clear mu9 hy5))
  refine bodyPost_ret (results_cell1 rfl _ _ b4 _ rfl (Cells.of_holds hu9) h55) rfl ?_
  exact ⟨_, rfl, HZ.out.1, HZ.out.2⟩
end Go.Proofs.YtchanildogjhgaaDoor
