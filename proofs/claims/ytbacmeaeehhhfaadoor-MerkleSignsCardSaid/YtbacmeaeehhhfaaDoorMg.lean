/-
  Package merkle: pathOf. My own work.
-/
import Derived.Test.YtbacmeaeehhhfaaDoorMf
namespace Go.Proofs.YtbacmeaeehhhfaaDoor
open Go.RowKit Go.Shelf
set_option linter.unusedVariables false
attribute [local go_sem] Oper.semAt_some
theorem d3 : 32 * 3 ≤ 281474976710656 := by decide
theorem m3c : 3 ≤ maxLen := by decide
set_option maxRecDepth 100000 in
set_option maxHeartbeats 4000000 in
theorem pathOf_c (x : Idv) (pl : Nat) (hpl : pl < 8) (w : World) (Gl : Glob w) :
    Calls Tryd.prog 41 #[iv x, .int .i64 (pl : Int)] w fun r w' => ∃ A c, r = .returned (.slice A 3 c) ∧ OwnG ic 23 32 w' A c (pathL x pl 3) ∧ Mod [] w w' ∧ (∀ i ∈ blk A, w.heap.size ≤ i) := by
  obtain ⟨i0, j1, j2, j3, j4⟩ := info_parts id_parts
  have HI := Lib.hid (And.intro j1 (And.intro j2 (And.intro j3 j4)))
  have KC := fun v (mv : Mod [] w v) => keys_c x v (Gl.then mv)
  have HH := Lib.hid (And.intro Gl hpl)
  have hplZ : (pl : Int) < 8 := by omega
  have HZS : (iv zeroI).cells.size = 32 := rfl
  have HFn : ∀ f, (Fence.wide).fn f := fun _ => trivial
  clear Gl j1 j2 j3 j4 hpl
  refine (callsIn_wide (n := 5)).1 ?_
  refine callsIn_of_wp_marks Tryd.func41 rfl trivial ?_ rfl
  simp only [Tryd.ntmps41, List.size_toArray, List.length_cons, List.length_nil, Nat.reduceAdd, Nat.reduceSub, Array.replicate_succ, Array.replicate_zero, List.push_toArray, List.append_toArray, List.nil_append, List.cons_append]
  refine wpIn_wide.2 ?_
  go_wp2_with (first
    | (with_reducible refine wpList_boxes (o := ⟨some 2, .box 23 (.tmp 0), _, _, _, _⟩) rfl 23 (.tmp 0) rfl _ rfl (ic x) rfl ?_; intro w1 hb1 m1 z1; replace z1 := Lib.hid z1)
    | (with_reducible refine wpList_make0G ic (o := ⟨some 7, .makeSlice 33 _ _, _, _, _, _⟩) rfl 33 _ _ rfl 23 i0 (iv zeroI) 32 32 3 Tryd.underlying33 HI.out.1 HI.out.2.1 HI.out.2.2.1 HI.out.2.2.2 rfl rfl d3 m3c ?_
       intro w3 hO m3 z3; replace z3 := Lib.hid z3)
    | (with_reducible refine wpList_alloc1 (o := ⟨some 5, .alloc 33, _, _, _, _⟩) rfl 33 rfl (.slice none 0 0) (slice_one _ _ _) zero22 ?_
       intro w4 hb4 m4 z4
       have y1 := z1.out
       have y3 := z3.out
       obtain ⟨b1, hq1⟩ : ∃ q, q = w.heap.size := ⟨_, rfl⟩
       obtain ⟨b3, hq3⟩ : ∃ q, q = w1.heap.size := ⟨_, rfl⟩
       obtain ⟨p, hq⟩ : ∃ q, q = w3.heap.size := ⟨_, rfl⟩
       have k1 : Holds w4 b1 23 (ic x) := by rw [hq1]; exact (hb1.keep m3 (by simp)).keep m4 (by simp)
       have k3 : OwnG ic 23 32 w4 (some ⟨b3, 0, none⟩) 3 [] := by rw [hq3]; exact hO.keep m4 (by simp)
       have mm4 : Mod [] w w4 := (m1.then m3).then m4
       have o1 : b1 < b3 := by omega
       have o3 : b3 < p := by omega
       have o4 : w4.heap.size = p + 1 := by omega
       have o5 : w.heap.size ≤ b1 := by omega
       have k4 := hb4
       rw [← hq] at k4 ⊢
       rw [← hq1, ← hq3]
       clear hb1 m1 z1 hO m3 z3 hb4 m4 z4 hq hq1 hq3 y1 y3
       replace o4 := Lib.hid o4)
    | (with_reducible refine wpList_store1 (o := ⟨none, .store 33 (.tmp 5) (.tmp 7), _, _, _, _⟩) rfl 33 (.tmp 5) (.tmp 7) rfl rfl p (.slice (some ⟨b3, 0, none⟩) 0 3) rfl rfl (slice_one _ _ _) size22 33 (.slice none 0 0) k4 ?_
       intro w4' k4' m4' z4'
       replace o4 := Lib.hid (show w4'.heap.size = p + 1 by have := o4.out; omega)
       have mm5 := far_mod mm4 m4' (by simp; omega)
       have HK := Lib.hid (And.intro (k1.keep m4' (by simp; omega)) (And.intro (k3.keep m4' (by rintro _ ⟨⟩; simp; omega)) k4'))
       clear k1 k3 mm4 k4 k4' m4' z4')
    | (with_reducible refine wpList_loads (o := ⟨some 8, .load 23 (.tmp 2), _, _, _, _⟩) rfl 23 (.tmp 2) rfl b1 0 _ rfl (Cells.of_holds HK.out.1) _ Tryd.underlying23 rfl (size25i x) (iv x) rfl ?_)
    | (go_at_call 36; refine (KC _ mm5).mono ?_
       rintro e w6 ⟨A0, c0, rfl, hO0, m6, hbl0⟩
       obtain ⟨g0, rfl⟩ := own_form hO0 (by rw [keysL_length]; decide)
       have mm6 := mm5.then m6
       have hg0 : w4'.heap.size ≤ g0 := hbl0 g0 (by simp [blk])
       clear KC hbl0)
    | (go_at_call 54; refine (neighbours_c _ 8 c0 (pl : Int) _).mono ?_
       rintro e w5 ⟨rfl, hs1, hs2, m5, z5⟩
       obtain ⟨bs, hbs⟩ : ∃ q, q = w6.heap.size := ⟨_, rfl⟩
       rw [← hbs] at hs1 hs2 ⊢
       replace z5 := Lib.hid z5
       replace hbs := Lib.hid hbs))
  obtain ⟨k1, k3, k4⟩ := HK.out
  have mm7 : Mod [] w w5 := mm6.then m5
  replace k3 := (k3.keep m6 (by simp)).keep m5 (by simp)
  replace k4 := (k4.keep m6 (by simp)).keep m5 (by simp)
  replace hO0 := hO0.keep m5 (by simp)
  have hfit := hO0.fits
  rw [keysL_length] at hfit
  have hp5 := k4.lt
  have o6 : p < g0 := by have := o4.out; omega
  have hg5 := hO0.lt _ rfl
  have hg5' : g0 < w5.heap.size := hg5
  have h2w := HH.out.1.two
  have hN : Nb p g0 0 c0 x w5 := ⟨HH.out.1.then mm7, hO0.cells, hfit.1, ⟨by omega, hg5', by omega⟩, some ⟨b3, 0, none⟩, 0, 3, k4, fun i hi => by simp [blk] at hi; omega⟩
  clear m5 z5 hbs k1 o4 m6 mm6 hfit hO0 hg5 mm5
  refine (wpIn_wide (n := 5)).1 ?_
  refine wpIn_rangeFunc_with (F := Fence.wide) (n := 5) rfl (by omega) (gf := 66) (lb := #[.pointer (some ⟨bs, 0, none⟩), .pointer (some ⟨bs + 1, 0, none⟩)]) rfl trivial (enters_of Tryd.func66 (by kernel_rfl) rfl)
    (nbr_with 4 (by omega) bs (bs + 1) p g0 c0 pl HH.out.2 x w5 hs1 hs2 hN)
    (fun h k => h.trans k) (fun W l o o' hl ho h1 _ => KeepP.putObj W l o o' ho h1) (Below.refl _ _) (fun _ => rfl)
    (fun pre W => pre = pathL x pl pre.length ∧ Mod [] w W ∧ w5.heap.size ≤ W.heap.size ∧ ∃ A c, Holds W p 33 [.slice A pre.length c] ∧ OwnG ic 23 32 W A c pre ∧ (∀ i ∈ blk A, i = b3 ∨ w5.heap.size ≤ i))
    (fun _ _ _ => False)
    (fun s A B row hs hg hr => ?hI) (fun _ _ _ _ _ hs _ _ => hs.elim) ⟨rfl, mm7, Nat.le_refl _, some ⟨b3, 0, none⟩, 3, k4, k3, fun i hi => .inl (by simpa [blk] using hi)⟩
    (fun pre z a' W => z = nbI x pl pre.length ∧ ∃ Bx, w5.heap.size ≤ Bx ∧ Holds W Bx 23 (ic z) ∧ (∃ A n c, Holds W p 33 [.slice A n c] ∧ Bx ∉ blk A) ∧ a' = { tmps := #[iv x, .int .i64 (pl : Int), .pointer (some ⟨b1, 0, none⟩), undef, .slice none 0 0, .pointer (some ⟨p, 0, none⟩), .pointer (some ⟨Bx, 0, none⟩), .slice (some ⟨b3, 0, none⟩) 0 3, iv x, .slice (some ⟨g0, 0, none⟩) 8 c0, .int .i64 (pl : Int), .func (.func 66) #[] #[.pointer (some ⟨bs, 0, none⟩), .pointer (some ⟨bs + 1, 0, none⟩)], iv z, undef, undef, undef, undef, undef], defers := [] })
    (fun pre z a' s A B row hs hg hr => ?hAx) ?assign ?body ?done ?stop
  case hI =>
    obtain ⟨h0, h2, h3, A', c, h4, h5, h6⟩ := hs
    exact ⟨h0, mod_own h2 hg (fun r e => Nat.le_trans mm7.size (hr r e).1), Nat.le_trans h3 hg.size, A', c, holds_own h4 hg (fun r e => (hr r e).2), h5.own hg (fun r e => (hr r e).2), h6⟩
  case hAx =>
    obtain ⟨h0, Bx, h1, h2, ⟨A, n, c, h4, h5⟩, h3⟩ := hs
    exact ⟨h0, Bx, h1, holds_own h2 hg (fun r e => (hr r e).2), ⟨A, n, c, holds_own h4 hg (fun r e => (hr r e).2), h5⟩, h3⟩
  case assign =>
    rintro L pre z W K ⟨h0, h2, h3, A', c4, h4, h5, h6⟩ hF hK
    rw [zip_one]
    change Code.wpIn _ _ _ _ _ { tmps := #[iv x, .int .i64 (pl : Int), .pointer (some ⟨b1, 0, none⟩), undef, .slice none 0 0, .pointer (some ⟨p, 0, none⟩), undef, .slice (some ⟨b3, 0, none⟩) 0 3, iv x, .slice (some ⟨g0, 0, none⟩) 8 c0, .int .i64 (pl : Int), .func (.func 66) #[] #[.pointer (some ⟨bs, 0, none⟩), .pointer (some ⟨bs + 1, 0, none⟩)], iv z, undef, undef, undef, undef, undef], defers := [] } W
    gi_wp2_with (first
      | (with_reducible refine wpListIn_allocs (o := ⟨some 6, .alloc 23, _, _, _, _⟩) rfl 23 rfl _ zeroI_25 ?_; intro v1 hv1 mv1 zv1)
      | (with_reducible refine wpListIn_storesAll (o := ⟨none, .store 23 (.tmp 6) (.tmp 12), _, _, _, _⟩) rfl 23 (.tmp 6) (.tmp 12) rfl rfl W.heap.size (ic z) rfl (iv z) rfl rfl 23 _ hv1 (by rw [ic_length, ic_length]) (ic_one z) (size25i z) ?_; intro v2 hv2 mv2 zv2))
    have mv : Mod [] W v2 := mv1.trans mv2 (by intro i hi h; simp at h; omega)
    exact hK _ _ (mv.keepsFrom _) mv.keepP ⟨h0, h2.then mv, Nat.le_trans h3 mv.size, A', c4, h4.keep mv (by simp), h5.keep mv (by simp), h6⟩ ⟨hF, W.heap.size, h3, hv2, ⟨A', _, c4, h4.keep mv (by simp), fun hh => by have := h5.notin hh; omega⟩, rfl⟩
  case body =>
    rintro L pre z a' W hl _ ⟨h0, h2, h3, A2, c2, h4, h5, h6⟩ ⟨hz, Bx, hBx, hX, ⟨A3, n3, c3, h7, h8⟩, rfl⟩ hlen
    obtain rfl := h7.slice_inj h4
    obtain ⟨k, hk⟩ : ∃ k, k = pre.length := ⟨_, rfl⟩
    rw [← hk] at h4 hlen
    have hfar : ∀ i ∈ p :: blk A3, w.heap.size ≤ i := fun i hi => by
      rcases List.mem_cons.1 hi with rfl | hi
      · omega
      · rcases h6 i hi with q | q
        · omega
        · have := mm7.size; omega
    have hpA : p ∉ blk A3 := fun hh => by
      rcases h6 p hh with q | q <;> omega
    clear h7
    have e4 := h4.cell 0
    simp only [List.getElem?_cons_zero] at e4
    have HB := Lib.hid (And.intro h0 (And.intro h2 (And.intro h3 (And.intro h4 (And.intro h5 (And.intro h6 (And.intro hz (And.intro hk hlen))))))))
    have H63 : (pre.length + [z].length) * 32 ≤ 140737488355328 := by simp; omega
    have H64 : pre.length + [z].length ≤ maxLen := by unfold maxLen; simp; omega
    have HL := Lib.hid (And.intro H63 H64)
    clear h0 h2 h3 h4 h5 h6 hz hk H63 H64
    have HFr : ∀ f, (Fence.wide.inRound L).fn f := fun _ => trivial
    gi_wp2_with (first
      | (with_reducible refine wpListIn_loads (o := ⟨some 14, .load 23 (.tmp 6), _, _, _, _⟩) rfl 23 (.tmp 6) rfl Bx 0 _ rfl (Cells.of_holds hX) _ Tryd.underlying23 rfl (size25i z) (iv z) rfl ?_)
      | (with_reducible refine wpListIn_ranW (o := ⟨some 15, .buildSlice 33 1 _, _, _, _, _⟩) HFr rfl (by with_unfolding_all (intro c hc; cases hc)) (.slice (some ⟨W.heap.size, 0, none⟩) 1 1) (W.alloc (.cells (ic z).toArray 23)) (exec_lit22 rfl rfl) ?_
         obtain ⟨v1, hv1⟩ : ∃ v, v = W.alloc (.cells (ic z).toArray 23) := ⟨_, rfl⟩
         have hb1 : Holds v1 W.heap.size 23 (ic z) := by rw [hv1]; exact Holds.made W 23 _
         have mv1 : Mod [] W v1 := by rw [hv1]; exact Mod.alloc [] W _
         have hO1 := HB.out.2.2.2.2.1.keep mv1 (by simp)
         have hr1 : Cells v1 (some ⟨W.heap.size, 0, none⟩) ([z].flatMap ic) := by rw [List.flatMap_cons, List.flatMap_nil, List.append_nil]; exact Cells.of_holds hb1
         have h41 := HB.out.2.2.2.1.keep mv1 (by simp)
         rw [← hv1]
         clear hv1 hb1 e4)
      | (with_reducible refine wpListIn_appendG (F := Fence.wide.inRound L) HFr (f := ic) v1 (o := ⟨some 16, _, _, _, _, _⟩) rfl (.tmp 13) (.tmp 15) 33 rfl 23 i0 (iv zeroI) 32 Tryd.underlying33 HI.out.1 HI.out.2.1 HI.out.2.2.1 HI.out.2.2.2 HZS (Nat.succ_pos 31) ic_length ic_one A3 k c2 pre rfl HB.out.2.2.2.2.2.2.2.1 hO1 (some ⟨W.heap.size, 0, none⟩) 1 1 [z] rfl rfl hr1 HL.out.1 HL.out.2 ?_
         intro A' c' v2 hO2 m2 q2
         have h42 := h41.keep m2 hpA
         have e4 := h42.cell 0
         simp only [List.getElem?_cons_zero] at e4
         have f4 := h42.free 0
         have hle : (pre ++ [z]).length = k + 1 := by rw [List.length_append, ← HB.out.2.2.2.2.2.2.2.1]; rfl
         have h43 := h42.set 0 (.slice A' (k + 1) c')
         have m3 : Mod [p] v2 (v2.setCell ⟨p, 0, none⟩ (.slice A' (k + 1) c')) := Mod.setCell v2 (by simp) _
         rw [hle]))
    obtain ⟨h0, h2, h3, h4, h5, h6, hz, hk, _⟩ := HB.out
    have hpW : p < W.heap.size := h4.lt
    obtain ⟨V, hV⟩ : ∃ V, V = v2.setCell ⟨p, 0, none⟩ (.slice A' (k + 1) c') := ⟨_, rfl⟩
    rw [← hV] at h43 m3 ⊢
    have q1 : Mod (p :: blk A3) W V := Mod.trans (ms := p :: blk A3) ((mv1.pre m2).wk (by intro i _ hi; exact List.mem_cons_of_mem _ hi)) m3 (fun i _ h => by simp at h; simp [h])
    have hpA' : ∀ a, A' = some a → a.block ≠ p := fun a ha e => by
      rcases q2 a ha with q | q
      · rw [e] at q; exact hpA q
      · have := mv1.size; omega
    have hO3 := hO2.keep m3 (fun a ha hm => hpA' a ha (by simpa using hm))
    have hsz := mv1.size
    refine ⟨⟨q1.size, fun k' o' _ hk' hc => (q1.block k' (Array.getElem?_eq_some_iff.1 hk').1 (fun hm => ?_)).trans hk'⟩, ⟨q1.size, fun A n c hA => ?_⟩, ?_, h2.trans q1 (fun i hi hm => by have := hfar i hm; omega), Nat.le_trans h3 q1.size, A', c', by rw [hle]; exact h43, hO3, fun i hi => ?_⟩
    · rcases List.mem_cons.1 hm with q | q
      · subst q
        unfold Holds at h4
        rw [h4] at hk'
        cases hk'
        cases hc
      · rw [h5.isCells q hk'] at hc
        cases hc
    · obtain rfl := hA.slice_inj h4
      refine ⟨q1.keepC, A', k + 1, c', h43, fun i hi => ?_⟩
      obtain ⟨a, ha, rfl⟩ := mem_blk hi
      rcases q2 a ha with q | q
      · exact .inr q
      · exact .inl ⟨by omega, hO3.lt a ha⟩
    · rw [List.length_append, show [z].length = 1 from rfl, pathL_snoc, ← h0, hz]
    · obtain ⟨a, ha, rfl⟩ := mem_blk hi
      rcases q2 a ha with q | q
      · exact h6 _ q
      · right; omega
  case done =>
    rintro D xs W hD hxs ⟨h0, h2, h3, A, c', h4, h5, h6⟩ hK
    rw [hxs] at h4 h0
    have HV := Lib.hid (And.intro h2 (And.intro hK (And.intro h5 (And.intro h6 h0))))
    clear h0 h2 h3 h5 h6 hK
    have hq0 := h4.cell 0
    simp only [List.getElem?_cons_zero] at hq0
    go_wp2_with (first
      | (with_reducible refine wpList_load1 (o := ⟨some 17, .load 33 (.tmp 5), _, _, _, _⟩) rfl 33 (.tmp 5) rfl ⟨p, 0, none⟩ (.slice A 3 c') rfl _ Tryd.underlying33 rfl hq0 ?_))
    obtain ⟨h3, hK, h5, h6, h0⟩ := HV.out
    rw [h0] at h5
    have hM : Mod [] w (W.putObj D (.deferred none)) := mod_own h3 (grownBy_putObj' W D (.deferred none)) (fun r e => by cases e; have := mm7.size; omega)
    have hO5 : OwnG ic 23 32 (W.putObj D (.deferred none)) A c' (pathL x pl 3) := h5.own (grownBy_putObj' W D (.deferred none)) (fun r e => by cases e; exact ⟨_, hK, rfl⟩)
    refine ⟨by simp, .inl ⟨_, _, rfl, run_takeDeferred hK, ?_⟩⟩
    exact ⟨_, results_tmp rfl _ _ _, A, c', rfl, hO5, hM, fun i hi => by
      rcases h6 i hi with q | q
      · omega
      · have := mm7.size; omega⟩
  case stop =>
    rintro D cd pre W hD _ hf hK
    exact hf.elim
end Go.Proofs.YtbacmeaeehhhfaaDoor
