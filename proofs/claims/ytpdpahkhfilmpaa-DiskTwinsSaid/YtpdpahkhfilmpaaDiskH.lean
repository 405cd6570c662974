/-
  Package disk: what a sector holds. Contracts of mine.
-/
import Derived.Test.YtpdpahkhfilmpaaDiskE
import Derived.StillTailTactics
import Derived.WalkMore
namespace Go.Proofs.Ytpdpahkhfilmpaa
open Go.RowKit Go.Shelf
attribute [local go_sem] Oper.semAt_some
theorem zip_one (p : Tmp) (v : Value) (T : Array Value) : ((#[p] : Array Tmp).zip #[v]).foldl (fun t (p, v) => t.setIfInBounds p v) T = T.setIfInBounds p v := by simp
theorem holds_own {W W' : World} {g : Nat} {t : TypeId} {cs : List Value} {row : Option Nat} (h : Holds W g t cs) (hg : W.grownBy W' row) (hr : ∀ r, row = some r → ∃ o : Obj, W.heap[r]? = some o ∧ o.isCells = false) : Holds W' g t cs :=
  (hg.block g h.lt (fun e => by obtain ⟨o, ho, hc⟩ := hr g e.symm; unfold Holds at h; rw [h] at ho; cases ho; cases hc)).trans h
theorem mod_own {w W W' : World} {row : Option Nat} (h : Mod [] w W) (hg : W.grownBy W' row) (hr : ∀ r, row = some r → w.heap.size ≤ r) : Mod [] w W' :=
  ⟨hg.os.trans h.os, hg.tape.trans h.tape, hg.output.trans h.output, Nat.le_trans h.size hg.size, fun k hk hn => (hg.block k (Nat.lt_of_lt_of_le hk h.size) (fun e => by have := hr k e.symm; omega)).trans (h.block k hk hn)⟩
theorem Mod.keepsFrom {W W' : World} (h : Mod [] W W') (B : Nat) : KeepsFrom B W W' := ⟨h.size, fun k o _ hk _ => (h.block k (Array.getElem?_eq_some_iff.1 hk).1 (by simp)).trans hk⟩
theorem Mod.keepsFrom1 {W W' : World} {g : Nat} {t : TypeId} {cs : List Value} (h : Mod [g] W W') (hh : Holds W g t cs) (B : Nat) : KeepsFrom B W W' := ⟨h.size, fun k o _ hk hc => (h.block k (Array.getElem?_eq_some_iff.1 hk).1 (by
  simp only [List.mem_singleton]
  rintro rfl
  unfold Holds at hh
  rw [hh] at hk
  cases hk
  cases hc)).trans hk⟩
theorem Mod.keepB {W W' : World} {b : Nat} (h : Mod [b] W W') (n : Nat) : KeepB b n W W' := ⟨h.size, fun k _ h2 h3 => h.block k h2 (by simpa using h3)⟩

theorem backwards_c (A : Option Addr) (n c : Nat) (w : World) : Calls Try.prog 55 #[.slice A n c] w fun e w' => e = .returned (.func (.func 57) #[] #[.pointer (some ⟨w.heap.size, 0, none⟩)]) ∧ Holds w' w.heap.size 70 [.slice A n c] ∧ Mod [] w w' ∧ w'.heap.size = w.heap.size + 1 := by
  go_enter Try.func55, Try.ntmps55
  go_wp2_with (with_reducible refine wpList_boxes (o := ⟨some 1, .box 70 (.tmp 0), _, _, _, _⟩) rfl 70 (.tmp 0) rfl _ rfl [.slice A n c] rfl ?_; intro w1 hb1 m1 z1)
  go_ret
  exact ⟨rfl, hb1, m1, z1⟩
set_option maxRecDepth 100000 in
set_option maxHeartbeats 2000000 in
theorem holds_c (S : St) (g m : Nat) (A : Option Addr) (c : Nat) (i : Int) (w : World) (h : Holds w g 74 (dc S m (.slice A S.loose.length c))) (hf : Firm w m S.firm) (hl : Cells w A (S.loose.flatMap wc)) (hn : S.loose.length ≤ 1099511627776) :
    Calls Try.prog 44 #[.pointer (some ⟨g, 0, none⟩), .int .i64 i] w fun e w' => e = .returned (bv (S.holds i)) ∧ Mod [] w w' := by
  refine (callsIn_wide (n := 5)).1 ?_
  refine callsIn_of_wp_marks Try.func44 rfl trivial ?_ rfl
  simp only [Try.ntmps44, List.size_toArray, List.length_cons, List.length_nil, Nat.reduceAdd, Nat.reduceSub, Array.replicate_succ, Array.replicate_zero, List.push_toArray, List.append_toArray, List.nil_append, List.cons_append]
  refine wpIn_wide.2 ?_
  have d1 := (dc_cells h).2.1
  go_wp2_with (first
    | (with_reducible refine wpList_boxes (o := ⟨some 3, .box 3 (.tmp 1), _, _, _, _⟩) rfl 3 (.tmp 1) rfl _ rfl [.int .i64 i] rfl ?_; intro w1 hb1 m1 z1)
    | (with_reducible refine wpList_allocs (o := ⟨some 4, .alloc 39, _, _, _, _⟩) rfl 39 rfl _ zero39 ?_; intro w2 hb2 m2 z2))
  go_step3
  go_wp2_with fail
  simp only [Act.put, Array.setIfInBounds, List.size_toArray, List.length_cons, List.length_nil, Nat.reduceAdd, Nat.reduceLT, dite_true, List.set_toArray, List.set_cons_succ, List.set_cons_zero]
  have mm2 : Mod [] w w2 := m1.then m2
  have d1' : w2.cell? ⟨g, 1, none⟩ = some (.map (some m)) := (dc_cells (h.keep mm2 (by simp))).2.1
  have dI : w2.cell? ⟨w.heap.size, 0, none⟩ = some (.int .i64 i) := (hb1.keep m2 (by simp)).cell 0
  have hf2 : Firm w2 m S.firm := hf.keep mm2 (by simp)
  have hlt : g < w2.heap.size := Nat.lt_of_lt_of_le h.lt mm2.size
  clear d1
  have hE : (Instr.lookup 68 (.map (some m)) (.int .i64 i) false).run Try.prog w2.drew = .ok (bv (S.firm i)) w2.drew := run_look (w := w2.drew) hf2 i
  have hE2 : ∀ o, (Instr.lookup 68 (.map (some m)) (.int .i64 i) false).run Try.prog (w2.alloc o).drew = .ok (bv (S.firm i)) (w2.alloc o).drew := fun o => run_look (w := w2.drew.alloc o) ((Firm.keep (v := w2.drew.alloc o) (w := w2.drew) hf2 (Mod.alloc [] _ _) (by simp))) i
  obtain ⟨C, hC⟩ : ∃ C, C = (bc (S.firm i)).toArray := ⟨_, rfl⟩
  have hv : bv (S.firm i) = .agg C := by rw [hC]; rfl
  have hCs : C.size = 64 := by rw [hC, List.size_toArray, bc_length]
  have hC1 : C.all (·.oneCell') = true := by rw [hC]; simpa using bc_one (S.firm i)
  have hsz2 : w2.heap.size = w.heap.size + 1 + 1 := by omega
  have hS : ∀ zs : Array Value, zs.size = 64 → (storeCells ⟨w.heap.size + 1 + 1, 0, none⟩ C.toList 0).run Try.prog (w2.alloc (.cells zs 39)).drew = .ok () (w2.alloc (.cells C 39)).drew := fun zs hz => by
    have := run_storeCells_new (P := Try.prog) w2.drew 39 zs C (by rw [hCs]; exact size39) (by omega) hC1
    rw [show w2.drew.heap.size = w.heap.size + 1 + 1 from hsz2] at this
    exact this
  rw [hv] at hE hE2
  have dA : ∀ o, (w2.alloc o).cell? ⟨g, 1, none⟩ = some (.map (some m)) := fun o => Mod.cell (Mod.alloc [] w2 o) (by simp) d1'
  have dB : ∀ o, (w2.alloc o).cell? ⟨w.heap.size, 0, none⟩ = some (.int .i64 i) := fun o => Mod.cell (Mod.alloc [] w2 o) (by simp) dI
  have HC := Lib.hid (And.intro hC (And.intro hv (And.intro hC1 hf2)))
  have HH := Lib.hid (And.intro h (And.intro hf hl))
  clear hC hv hC1 hf2 hf h hl
  go_region
  have hb3 : Holds (w2.alloc (.cells C 39)).drew (w.heap.size + 1 + 1) 39 (bc (S.firm i)) := by
    have := Holds.made w2 39 (bc (S.firm i))
    rw [hsz2, ← HC.out.1] at this
    exact this
  have m3 : Mod [] w2 (w2.alloc (.cells C 39)).drew := (Mod.alloc [] w2 _).then (Mod.drew [] _)
  have z3 : (w2.alloc (.cells C 39)).drew.heap.size = w2.heap.size + 1 := by simp
  clear hE hE2 hS dA dB hCs d1' dI hlt HC
  generalize (w2.alloc (.cells C 39)).drew = w3 at *
  obtain ⟨b5, hb5⟩ : ∃ b, b = w.heap.size + 1 + 1 := ⟨_, rfl⟩
  obtain ⟨b4, hb4⟩ : ∃ b, b = w1.heap.size := ⟨_, rfl⟩
  obtain ⟨b3, hb3e⟩ : ∃ b, b = w.heap.size := ⟨_, rfl⟩
  have hB3 : Holds w3 b3 3 [.int .i64 i] := by rw [hb3e]; exact (hb1.keep m2 (by simp)).keep m3 (by simp)
  have hB4 : Holds w3 b4 39 (bc (fil 0)) := by rw [hb4]; exact hb2.keep m3 (by simp)
  rw [← hb5] at hb3
  have o1 : b3 < b4 := by omega
  have o2 : b4 < b5 := by omega
  have o3 : w3.heap.size = b5 + 1 := by omega
  have o4 : w.heap.size ≤ b3 := by omega
  rw [← hb5, ← hb4, ← hb3e]
  have mm3 : Mod [] w w3 := mm2.then m3
  clear hb5 hb4 hb3e hb1 hb2 m1 m2 z1 z2 z3 hsz2 m3 mm2
  have d2 := (dc_cells (HH.out.1.keep mm3 (by simp))).2.2.1
  go_wp2_with fail
  go_step3
  go_wp2_with (go_at_call 55; refine (backwards_c _ _ _ _).mono ?_; rintro e w4 ⟨rfl, hbx, m4, z4⟩)
  refine (wpIn_wide (n := 5)).1 ?_
  have hc4 : Cells w4 A (S.loose.flatMap wc) := (HH.out.2.2.keep mm3 (by simp)).keep m4 (by simp)
  have mm4 : Mod [] w w4 := mm3.then m4
  replace hB3 := hB3.keep m4 (by simp)
  replace hB4 := hB4.keep m4 (by simp)
  replace hb3 := hb3.keep m4 (by simp)
  have hAlt : 0 < S.loose.length → ∀ a, A = some a → a.block < w4.heap.size ∧ a.block ≠ b5 := fun hp a ha => by
    obtain ⟨ad, e1, e2⟩ := HH.out.2.2.first (by rw [flat_length wc 65 wc_length]; omega)
    rw [ha] at e1
    cases e1
    have h1 := block_lt_of_cell (e2 0 _ (List.getElem?_eq_getElem (by rw [flat_length wc 65 wc_length]; omega)))
    have : (a.add 0).block = a.block := by unfold Addr.add; rfl
    omega
  refine wpIn_rangeFunc_ownH (F := Fence.wide) (n := 5) rfl (by omega) (gf := 57) (lb := #[.pointer (some ⟨b5 + 1, 0, none⟩)]) rfl trivial (enters_of Try.func57 (by kernel_rfl) rfl)
    (back_stops Fence.wide 4 trivial rfl (by omega) (b5 + 1) b5 w4.heap.size c A S.loose hn ⟨by omega, by omega⟩ hAlt w4 (by rw [o3] at hbx; exact Cells.of_holds hbx) hc4 (Nat.le_refl _))
    (fun h k => h.trans k) (fun W l o o' hl ho h1 h2 => ?hKb) (Below.refl _ _) (fun _ => rfl)
    (fun pre W => Holds W b5 39 (bc (S.firm i)) ∧ Holds W b3 3 [.int .i64 i] ∧ Holds W b4 39 (bc (fil 0)) ∧ Mod [] w W ∧ ∀ p ∈ pre, p.1 ≠ i)
    (fun cd pre W => cd = .exit 0 ∧ ∃ q p, pre = q ++ [p] ∧ (∀ x ∈ q, x.1 ≠ i) ∧ p.1 = i ∧ Holds W b5 39 (bc p.2) ∧ Holds W b3 3 [.int .i64 i] ∧ Holds W b4 39 (bc (fil 0)) ∧ Mod [] w W)
    (fun s A B row hs hg hr => ?hI) (fun cd s A B row hs hg hr => ?hIx) ⟨hb3, hB3, hB4, mm4, by simp⟩
    (fun x a' W => ∃ Bx, b5 < Bx ∧ Holds W Bx 84 (wc x) ∧ a' = { tmps := #[.pointer (some ⟨g, 0, none⟩), .int .i64 i, undef, .pointer (some ⟨b3, 0, none⟩), .pointer (some ⟨b4, 0, none⟩), .pointer (some ⟨b5, 0, none⟩), .pointer (some ⟨Bx, 0, none⟩), .pointer (some ⟨g, 0, none⟩), .pointer (some ⟨g, 0, none⟩), .pointer (some ⟨g, 1, none⟩), .map (some m), .int .i64 i, .agg C, .pointer (some ⟨g, 0, none⟩), .pointer (some ⟨g, 0, none⟩), .pointer (some ⟨g, 2, none⟩), .slice A S.loose.length c, .func (.func 57) #[] #[.pointer (some ⟨b5 + 1, 0, none⟩)], wv x, undef, undef, undef, undef, undef, undef, undef], defers := [] })
    (fun x a' s A B row hs hg hr => ?hAx) ?assign ?body ?done ?stop
  case hKb =>
    refine ⟨by simp [World.putObj], fun k hk _ _ => World.putObj_heap_other (by omega)⟩
  case hI =>
    obtain ⟨h1, h2, h3, h4, h5⟩ := hs
    exact ⟨holds_own h1 hg (fun r e => (hr r e).2), holds_own h2 hg (fun r e => (hr r e).2), holds_own h3 hg (fun r e => (hr r e).2), mod_own h4 hg (fun r e => Nat.le_trans mm4.size (hr r e).1), h5⟩
  case hIx =>
    obtain ⟨h0, q, p, h5, h6, h7, h1, h2, h3, h4⟩ := hs
    exact ⟨h0, q, p, h5, h6, h7, holds_own h1 hg (fun r e => (hr r e).2), holds_own h2 hg (fun r e => (hr r e).2), holds_own h3 hg (fun r e => (hr r e).2), mod_own h4 hg (fun r e => Nat.le_trans mm4.size (hr r e).1)⟩
  case hAx =>
    obtain ⟨Bx, h1, h2, h3⟩ := hs
    exact ⟨Bx, h1, holds_own h2 hg (fun r e => (hr r e).2), h3⟩
  case assign =>
    rintro l pre x W K ⟨h1, h2, h3, h4, h5⟩ hK
    have hlt := h1.lt
    rw [zip_one]
    change Code.wpIn _ _ _ _ _ { tmps := #[.pointer (some ⟨g, 0, none⟩), .int .i64 i, undef, .pointer (some ⟨b3, 0, none⟩), .pointer (some ⟨b4, 0, none⟩), .pointer (some ⟨b5, 0, none⟩), undef, .pointer (some ⟨g, 0, none⟩), .pointer (some ⟨g, 0, none⟩), .pointer (some ⟨g, 1, none⟩), .map (some m), .int .i64 i, .agg C, .pointer (some ⟨g, 0, none⟩), .pointer (some ⟨g, 0, none⟩), .pointer (some ⟨g, 2, none⟩), .slice A S.loose.length c, .func (.func 57) #[] #[.pointer (some ⟨b5 + 1, 0, none⟩)], wv x, undef, undef, undef, undef, undef, undef, undef], defers := [] } W
    gi_wp2_with (first
      | (with_reducible refine wpListIn_allocs (o := ⟨some 6, .alloc 84, _, _, _, _⟩) rfl 84 rfl _ zero84 ?_; intro v1 hv1 mv1 zv1)
      | (with_reducible refine wpListIn_storesAll (o := ⟨none, .store 84 (.tmp 6) (.tmp 18), _, _, _, _⟩) rfl 84 (.tmp 6) (.tmp 18) rfl rfl W.heap.size (wc x) rfl (wv x) rfl rfl 84 _ hv1 (by rw [wc_length, wc_length]) (wc_one x) (by rw [wc_length]; exact size84) ?_; intro v2 hv2 mv2 zv2))
    have mv : Mod [] W v2 := ⟨mv2.os.trans mv1.os, mv2.tape.trans mv1.tape, mv2.output.trans mv1.output, by omega, fun i hi hn => (mv2.block i (by omega) (by simp; omega)).trans (mv1.block i hi hn)⟩
    exact hK _ _ (mv.keepsFrom _) ((mv.wk (ns := [b5]) (fun _ _ h => by cases h)).keepB _) ⟨h1.keep mv (by simp), h2.keep mv (by simp), h3.keep mv (by simp), h4.then mv, h5⟩ ⟨W.heap.size, hlt, hv2, rfl⟩
  case body =>
    rintro l pre x a' W hl _ ⟨h1, h2, h3, h4, h5⟩ ⟨Bx, hlt, hX, rfl⟩ _
    have e0 := hX.cell 0
    simp only [wc, List.getElem?_cons_zero] at e0
    have e1 := h2.cell 0
    simp only [List.getElem?_cons_zero] at e1
    by_cases hx : x.1 = i
    · have hbl : Cells W (some ⟨Bx, 1, none⟩) (bc x.2) := (Cells.of_holds hX).part 1 (fun i hi => by simp [wc, Nat.add_comm 1 i, hi])
      gi_wp2_with (first
        | (with_reducible refine wpListIn_loads (o := ⟨some 24, .load 39 (.tmp 23), _, _, _, _⟩) rfl 39 (.tmp 23) rfl Bx 1 _ rfl hbl _ Try.underlying39 rfl (by rw [bc_length]; exact size39) (bv x.2) rfl ?_)
        | (with_reducible refine wpListIn_storesAll (o := ⟨none, .store 39 (.tmp 5) (.tmp 24), _, _, _, _⟩) rfl 39 (.tmp 5) (.tmp 24) rfl rfl b5 (bc x.2) rfl (bv x.2) rfl rfl 39 _ h1 (by rw [bc_length, bc_length]) (bc_one x.2) (by rw [bc_length]; exact size39) ?_; intro v2 hv2 mv2 zv2))
      exact ⟨mv2.keepsFrom1 h1 _, rfl, pre, x, rfl, h5, hx, hv2, h2.keep mv2 (by simp; omega), h3.keep mv2 (by simp; omega), h4.trans mv2 (by simp; omega)⟩
    · gi_wp2
      exact ⟨KeepsFrom.refl _ _, KeepB.refl _ _ _, h1, h2, h3, h4, fun p hp => by
        rcases List.mem_append.1 hp with hp | hp
        · exact h5 p hp
        · simp at hp; subst hp; exact hx⟩
  case done =>
    rintro D xs W hD rfl ⟨h1, h2, h3, h4, h5⟩ hK
    have hD4 : D ≠ b4 := by have := hB4.lt; omega
    have hv : S.holds i = S.firm i := app_none i _ _ (fun p hp => h5 p (by simpa using hp))
    have HV := Lib.hid (And.intro hv (And.intro h4 (And.intro hK hD4)))
    clear hv h4 h5 hK hD4 h2
    go_wp2_with (first
      | (with_reducible refine wpList_loads (o := ⟨some 25, .load 39 (.tmp 5), _, _, _, _⟩) rfl 39 (.tmp 5) rfl b5 0 _ rfl (Cells.of_holds h1) _ Try.underlying39 rfl (by rw [bc_length]; exact size39) (bv (S.firm i)) rfl ?_)
      | (with_reducible refine wpList_storesAll (o := ⟨none, .store 39 (.tmp 4) (.tmp 25), _, _, _, _⟩) rfl 39 (.tmp 4) (.tmp 25) rfl rfl b4 (bc (S.firm i)) rfl (bv (S.firm i)) rfl rfl 39 _ h3 (by rw [bc_length, bc_length]) (bc_one _) (by rw [bc_length]; exact size39) ?_; intro v2 hv2 mv2 zv2))
    obtain ⟨hv, h4, hK, hD4⟩ := HV.out
    have hK2 : v2.heap[D]? = some (.deferred (some [])) := (mv2.block D (Array.getElem?_eq_some_iff.1 hK).1 (by simpa using hD4)).trans hK
    have hB : Holds (v2.putObj D (.deferred none)) b4 39 (bc (S.firm i)) := holds_own hv2 (grownBy_putObj' v2 D (.deferred none)) (fun r e => by cases e; exact ⟨_, hK2, rfl⟩)
    have hM : Mod [] w (v2.putObj D (.deferred none)) := mod_own (h4.trans mv2 (by simp; omega)) (grownBy_putObj' v2 D (.deferred none)) (fun r e => by cases e; have := mm4.size; omega)
    rw [Exit.noGoto_ret]
    refine ⟨by simp, .inl ⟨_, _, rfl, run_takeDeferred hK2, ?_⟩⟩
    refine ⟨_, results_cell_row rfl _ _ b4 39 _ (0, 0) _ rfl hB Try.underlying39 rfl (by rw [List.size_toArray, bc_length]; exact size39), ?_, hM⟩
    rw [hv]
    rfl
  case stop =>
    rintro D cd pre W hD ⟨t, ht⟩ ⟨rfl, q, p, h5, h6, h7, h1, h2, h3, h4⟩ hK
    have hD4 : D ≠ b4 := by have := hB4.lt; omega
    have hv : S.holds i = p.2 := by
      have e : S.loose = t.reverse ++ (i, p.2) :: q.reverse := by
        have := congrArg List.reverse ht
        rw [List.reverse_reverse, h5] at this
        rw [this, ← h7]
        simp
      unfold St.holds
      rw [e]
      exact app_found _ i _ _ _ (fun x hx => h6 x (by simpa using hx))
    have HV := Lib.hid (And.intro hv (And.intro h4 (And.intro hK hD4)))
    clear hv h4 h5 h6 h7 hK hD4 h2 ht
    refine wpIn_wide.2 ?_
    go_wp2_with (first
      | (with_reducible refine wpList_loads (o := ⟨some 25, .load 39 (.tmp 5), _, _, _, _⟩) rfl 39 (.tmp 5) rfl b5 0 _ rfl (Cells.of_holds h1) _ Try.underlying39 rfl (by rw [bc_length]; exact size39) (bv p.2) rfl ?_)
      | (with_reducible refine wpList_storesAll (o := ⟨none, .store 39 (.tmp 4) (.tmp 25), _, _, _, _⟩) rfl 39 (.tmp 4) (.tmp 25) rfl rfl b4 (bc p.2) rfl (bv p.2) rfl rfl 39 _ h3 (by rw [bc_length, bc_length]) (bc_one _) (by rw [bc_length]; exact size39) ?_; intro v2 hv2 mv2 zv2))
    obtain ⟨hv, h4, hK, hD4⟩ := HV.out
    have hK2 : v2.heap[D]? = some (.deferred (some [])) := (mv2.block D (Array.getElem?_eq_some_iff.1 hK).1 (by simpa using hD4)).trans hK
    have hB : Holds (v2.putObj D (.deferred none)) b4 39 (bc (p.2)) := holds_own hv2 (grownBy_putObj' v2 D (.deferred none)) (fun r e => by cases e; exact ⟨_, hK2, rfl⟩)
    have hM : Mod [] w (v2.putObj D (.deferred none)) := mod_own (h4.trans mv2 (by simp; omega)) (grownBy_putObj' v2 D (.deferred none)) (fun r e => by cases e; have := mm4.size; omega)
    rw [Exit.noGoto_ret]
    refine ⟨by simp, .inl ⟨_, _, rfl, run_takeDeferred hK2, ?_⟩⟩
    refine ⟨_, results_cell_row rfl _ _ b4 39 _ (0, 0) _ rfl hB Try.underlying39 rfl (by rw [List.size_toArray, bc_length]; exact size39), ?_, hM⟩
    rw [hv]
    rfl
end Go.Proofs.Ytpdpahkhfilmpaa
