/-
  Package wots: what is reached on a chain. My own work.
-/
import Derived.Test.YtdolihecjomjiaaDoorWd
namespace Go.Proofs.YtdolihecjomjiaaDoor
open Go.RowKit Go.Shelf
attribute [local go_sem] Oper.semAt_some
theorem any_mod {w W W' : World} {row : Option Nat} (h : Mod [] w W) (hg : W.grownBy W' row) (hr : ∀ r, row = some r → w.heap.size ≤ r) : Mod [] w W' :=
  ⟨hg.os.trans h.os, hg.tape.trans h.tape, hg.output.trans h.output, Nat.le_trans h.size hg.size, fun k hk _ => (hg.block k (Nat.lt_of_lt_of_le hk h.size) (fun e => by have := hr k e.symm; omega)).trans (h.block k hk (by simp))⟩
theorem any_holds {W W' : World} {g n : Nat} {t : TypeId} {cs : List Value} {row : Option Nat} (h : Holds W g t cs) (hg : W.grownBy W' row) (hr : ∀ r, row = some r → n ≤ r) (hn : g < n) : Holds W' g t cs :=
  (hg.block g h.lt (fun e => by have := hr g e.symm; omega)).trans h
set_option maxRecDepth 100000 in
set_option maxHeartbeats 4000000 in
theorem reached_c (x : Idv) (c f t N : Nat) (hN : f + N = t) (hc : c < 256) (ht : t ≤ 15) (w : World) (Gl : Glob w) :
    Calls Tryd.prog 31 #[iv x, .int .i64 (c : Int), .int .i64 (f : Int), .int .i64 (t : Int)] w fun r w' => r = .returned (iv (walkI c f N x)) ∧ Mod [] w w' := by
  obtain ⟨d, hd⟩ : ∃ d, d = walkI c f N x := ⟨_, rfl⟩
  rw [← hd]
  have HH := Lib.hid (And.intro hd (And.intro Gl (And.intro hN (And.intro hc ht))))
  clear hd Gl hN hc ht
  refine (callsIn_wide (n := 5)).1 ?_
  refine callsIn_of_wp_marks Tryd.func31 rfl trivial ?_ rfl
  simp only [Tryd.ntmps31, List.size_toArray, List.length_cons, List.length_nil, Nat.reduceAdd, Nat.reduceSub, Array.replicate_succ, Array.replicate_zero, List.push_toArray, List.append_toArray, List.nil_append, List.cons_append]
  refine wpIn_wide.2 ?_
  go_wp2_with (first
    | (with_reducible refine wpList_boxes (o := ⟨some 4, .box 25 (.tmp 0), _, _, _, _⟩) rfl 25 (.tmp 0) rfl _ rfl (ic x) rfl ?_; intro w1 hb1 m1 z1)
    | (with_reducible refine wpList_allocs (o := ⟨some 8, .alloc 25, _, _, _, _⟩) rfl 25 rfl _ zeroI_25 ?_; intro w2 hb2 m2 z2
       obtain ⟨b4, hb4⟩ : ∃ b, b = w.heap.size := ⟨_, rfl⟩
       obtain ⟨b8, hb8⟩ : ∃ b, b = w1.heap.size := ⟨_, rfl⟩
       have k4 : Holds w2 b4 25 (ic x) := by rw [hb4]; exact hb1.keep m2 (by simp)
       have k8 : Holds w2 b8 25 (ic zeroI) := by rw [hb8]; exact hb2
       have o1 : b4 < b8 := by omega
       have o2 : b8 < w2.heap.size := by omega
       have o3 : w.heap.size ≤ b4 := by omega
       have mm : Mod [] w w2 := m1.then m2
       rw [← hb4, ← hb8]
       clear hb4 hb8 hb1 hb2 m1 m2 z1 z2)
    | (with_reducible refine wpList_loads (o := ⟨some 10, .load 25 (.tmp 4), _, _, _, _⟩) rfl 25 (.tmp 4) rfl b4 0 _ rfl (Cells.of_holds k4) _ Tryd.underlying25 rfl (size25i x) (iv x) rfl ?_)
    | (go_at_call 37; refine (wbehind_c x _ _ _ _).mono ?_
       rintro e w3 ⟨c4, c5, c6, c7, rfl, p4, p5, p6, p7, q4, q5, q6, q7, m3⟩))
  have r4 : Holds w3 b4 25 (ic x) := k4.keep m3 (by simp)
  have r8 : Holds w3 b8 25 (ic zeroI) := k8.keep m3 (by simp)
  have mm3 : Mod [] w w3 := mm.then m3
  have hB : Bh [b4] c4 c5 c6 c7 x c f t w3 := ⟨HH.out.2.1.then mm3, q4, q5, q6, q7, by simp; have := HH.out.2.1.two; omega⟩
  have hlt8 : b8 < w3.heap.size := r8.lt
  refine (wpIn_wide (n := 5)).1 ?_
  refine wpIn_rangeFunc_any (F := Fence.wide) (n := 5) rfl (by omega) (gf := 43) (lb := #[.pointer (some ⟨c4, 0, none⟩), .pointer (some ⟨c6, 0, none⟩), .pointer (some ⟨c7, 0, none⟩), .pointer (some ⟨c5, 0, none⟩)]) rfl trivial (enters_of Tryd.func43 (by kernel_rfl) rfl)
    (behind_any 4 (by omega) c4 c5 c6 c7 [b4] x c f t N HH.out.2.2.1 HH.out.2.2.2.1 HH.out.2.2.2.2 w3 hB (by simp; omega))
    (fun h k => h.trans k) (fun W l o o' hl ho h1 _ => KeepC.putObj W l o o' ho h1) (Below.refl _ _) (fun _ => rfl)
    (fun pre W => Holds W b4 25 (ic (walkI c f pre.length x)) ∧ Holds W b8 25 (ic zeroI) ∧ Mod [] w W)
    (fun _ _ _ => False)
    (fun s A B row hs hg hr => ⟨any_holds hs.1 hg hr (by omega), any_holds hs.2.1 hg hr (by omega), any_mod hs.2.2 hg (fun r e => Nat.le_trans mm3.size (hr r e))⟩) (fun _ _ _ _ _ hs _ _ => hs.elim) ⟨r4, r8, mm3⟩
    (fun pre z a' W => z = walkI c f (pre.length + 1) x ∧ ∃ Bx, b8 < Bx ∧ Holds W Bx 25 (ic z) ∧ a' = { tmps := #[iv x, .int .i64 (c : Int), .int .i64 (f : Int), .int .i64 (t : Int), .pointer (some ⟨b4, 0, none⟩), undef, undef, undef, .pointer (some ⟨b8, 0, none⟩), .pointer (some ⟨Bx, 0, none⟩), iv x, .int .i64 (c : Int), .int .i64 (f : Int), .int .i64 (t : Int), .func (.func 43) #[] #[.pointer (some ⟨c4, 0, none⟩), .pointer (some ⟨c6, 0, none⟩), .pointer (some ⟨c7, 0, none⟩), .pointer (some ⟨c5, 0, none⟩)], iv z, undef, undef], defers := [] })
    (fun pre z a' s A B row hs hg hr => ?hAx) ?assign ?body ?done ?stop
  case hAx =>
    obtain ⟨h0, Bx, h1, h2, h3⟩ := hs
    exact ⟨h0, Bx, h1, holds_own h2 hg (fun r e => (hr r e).2), h3⟩
  case assign =>
    rintro l pre z W K ⟨h1, h2, h3⟩ hF hK
    have hlt := h2.lt
    rw [zip_one]
    change Code.wpIn _ _ _ _ _ { tmps := #[iv x, .int .i64 (c : Int), .int .i64 (f : Int), .int .i64 (t : Int), .pointer (some ⟨b4, 0, none⟩), undef, undef, undef, .pointer (some ⟨b8, 0, none⟩), undef, iv x, .int .i64 (c : Int), .int .i64 (f : Int), .int .i64 (t : Int), .func (.func 43) #[] #[.pointer (some ⟨c4, 0, none⟩), .pointer (some ⟨c6, 0, none⟩), .pointer (some ⟨c7, 0, none⟩), .pointer (some ⟨c5, 0, none⟩)], iv z, undef, undef], defers := [] } W
    gi_wp2_with (first
      | (with_reducible refine wpListIn_allocs (o := ⟨some 9, .alloc 25, _, _, _, _⟩) rfl 25 rfl _ zeroI_25 ?_; intro v1 hv1 mv1 zv1)
      | (with_reducible refine wpListIn_storesAll (o := ⟨none, .store 25 (.tmp 9) (.tmp 15), _, _, _, _⟩) rfl 25 (.tmp 9) (.tmp 15) rfl rfl W.heap.size (ic z) rfl (iv z) rfl rfl 25 _ hv1 (by rw [ic_length, ic_length]) (ic_one z) (size25i z) ?_; intro v2 hv2 mv2 zv2))
    have mv : Mod [] W v2 := mv1.trans mv2 (by intro i hi h; simp at h; omega)
    exact hK _ _ (mv.keepsFrom _) mv.keepC0 ⟨h1.keep mv (by simp), h2.keep mv (by simp), h3.then mv⟩ ⟨hF, W.heap.size, hlt, hv2, rfl⟩
  case body =>
    rintro l pre z a' W hl _ ⟨h1, h2, h3⟩ ⟨hz, Bx, hlt, hX, rfl⟩ _
    gi_wp2_with (first
      | (with_reducible refine wpListIn_loads (o := ⟨some 16, .load 25 (.tmp 9), _, _, _, _⟩) rfl 25 (.tmp 9) rfl Bx 0 _ rfl (Cells.of_holds hX) _ Tryd.underlying25 rfl (size25i z) (iv z) rfl ?_)
      | (with_reducible refine wpListIn_storesAll (o := ⟨none, .store 25 (.tmp 4) (.tmp 16), _, _, _, _⟩) rfl 25 (.tmp 4) (.tmp 16) rfl rfl b4 (ic z) rfl (iv z) rfl rfl 25 _ h1 (by rw [ic_length, ic_length]) (ic_one z) (size25i z) ?_; intro v2 hv2 mv2 zv2))
    exact ⟨mv2.keepsFrom1 h1 _, mv2.keepC, by rw [List.length_append, show pre.length + [z].length = pre.length + 1 from rfl, ← hz]; exact hv2, h2.keep mv2 (by simp; omega), far_mod h3 mv2 (by simp; omega)⟩
  case done =>
    rintro D xs W hD hxs ⟨h1, h2, h3⟩ hK
    have hD8 : D ≠ b8 := by omega
    rw [hxs, ← HH.out.1] at h1
    have HV := Lib.hid (And.intro h3 (And.intro hK (And.intro hD8 h2)))
    clear h3 h2 hK hD8
    go_wp2_with (first
      | (with_reducible refine wpList_loads (o := ⟨some 17, .load 25 (.tmp 4), _, _, _, _⟩) rfl 25 (.tmp 4) rfl b4 0 _ rfl (Cells.of_holds h1) _ Tryd.underlying25 rfl (size25i d) (iv d) rfl ?_)
      | (with_reducible refine wpList_storesAll (o := ⟨none, .store 25 (.tmp 8) (.tmp 17), _, _, _, _⟩) rfl 25 (.tmp 8) (.tmp 17) rfl rfl b8 (ic d) rfl (iv d) rfl rfl 25 _ HV.out.2.2.2 (by rw [ic_length, ic_length]) (ic_one d) (size25i d) ?_; intro v2 hv2 mv2 zv2))
    obtain ⟨h3, hK, hD8, _⟩ := HV.out
    have hK2 : v2.heap[D]? = some (.deferred (some [])) := (mv2.block D (Array.getElem?_eq_some_iff.1 hK).1 (by simpa using hD8)).trans hK
    have hB : Holds (v2.putObj D (.deferred none)) b8 25 (ic d) := holds_own hv2 (grownBy_putObj' v2 D (.deferred none)) (fun r e => by cases e; exact ⟨_, hK2, rfl⟩)
    have hM : Mod [] w (v2.putObj D (.deferred none)) := mod_own (far_mod h3 mv2 (by simp; omega)) (grownBy_putObj' v2 D (.deferred none)) (fun r e => by cases e; have := mm3.size; omega)
    refine ⟨by simp, .inl ⟨_, _, rfl, run_takeDeferred hK2, ?_⟩⟩
    exact ⟨_, results_cell_row rfl _ _ b8 25 _ (0, 0) _ rfl hB Tryd.underlying25 rfl (by rw [List.size_toArray]; exact size25i d), rfl, hM⟩
  case stop =>
    rintro D cd pre W hD _ hf hK
    exact hf.elim
end Go.Proofs.YtdolihecjomjiaaDoor
