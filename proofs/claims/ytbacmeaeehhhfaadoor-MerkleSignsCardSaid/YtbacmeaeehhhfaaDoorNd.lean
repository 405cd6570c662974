/-
  The law's own root and path; no such leaf. My own work.
-/
import Derived.Test.YtbacmeaeehhhfaaDoorNc
namespace Go.Proofs.YtbacmeaeehhhfaaDoor
open Go.RowKit Go.Shelf
set_option linter.unusedVariables false
set_option linter.unusedSimpArgs false
theorem run_lit3 {P : Program} {t e : TypeId} {it : TypeInfo} {Z V U X : Value} {cs ds es : List Value} {s : Nat} (w : World) (ht : P.underlying t = some (.slice e)) (hq : P.info? e = some it) (hs : it.size = s) (h0 : 0 < s) (hb : s ≤ 1000) (hz : ∀ w, (zeroValue e).run P w = .ok Z w) (hV : V.cells = cs.toArray) (hcs : cs.length = s) (hU : U.cells = ds.toArray) (hds : ds.length = s) (hX : X.cells = es.toArray) (hes : es.length = s) :
    (Instr.buildSlice t 3 #[(0, V), (1, U), (2, X)]).run P w = .ok (.slice (some ⟨w.heap.size, 0, none⟩) 3 3) (w.alloc (.cells (cs ++ ds ++ es).toArray e)) := by
  have hf : ∀ z : Array Value, z.size = 3 * s → Instr.fill (fun i => some (i * s, s)) z [(0, V), (1, U), (2, X)] = some (cs ++ ds ++ es).toArray := by
    rintro ⟨z⟩ hz
    have hz' : z.length = 3 * s := by simpa using hz
    rw [fill_step (off := 0) (size := s) (by simp) (by rw [hV]; simpa using hcs) (by rw [hV]; simp; omega), hV]
    have h1 := fold_set cs 0 z (by omega)
    rw [show (cs.toArray.zipIdx.foldl (fun cs (x : Value × Nat) => match x with | (c, j) => cs.setIfInBounds (0 + j) c) z.toArray) = _ from h1]
    simp only [List.take_zero, List.nil_append, Nat.zero_add]
    obtain ⟨D, hD⟩ : ∃ D, D = List.drop cs.length z := ⟨_, rfl⟩
    have hDl : D.length = 2 * s := by rw [hD]; simp; omega
    rw [← hD]
    have hl2 : (cs ++ D).length = 3 * s := by simp; omega
    rw [fill_step (off := s) (size := s) (by simp) (by rw [hU]; simpa using hds) (by rw [hU]; simp only [List.size_toArray]; omega), hU]
    have h2 := fold_set ds s (cs ++ D) (by omega)
    rw [show (ds.toArray.zipIdx.foldl (fun cs (x : Value × Nat) => match x with | (c, j) => cs.setIfInBounds (s + j) c) (cs ++ D).toArray) = _ from h2]
    have e1 : List.take s (cs ++ D) = cs := by rw [← hcs]; exact List.take_left' rfl
    obtain ⟨F, hF⟩ : ∃ F, F = List.drop (s + ds.length) (cs ++ D) := ⟨_, rfl⟩
    have hFl : F.length = s := by rw [hF]; simp; omega
    rw [e1, ← hF]
    have hl3 : (cs ++ ds ++ F).length = 3 * s := by simp; omega
    rw [fill_step (off := 2 * s) (size := s) (by simp) (by rw [hX]; simpa using hes) (by rw [hX]; simp only [List.size_toArray]; omega), hX]
    have h3 := fold_set es (2 * s) (cs ++ ds ++ F) (by omega)
    rw [show (es.toArray.zipIdx.foldl (fun cs (x : Value × Nat) => match x with | (c, j) => cs.setIfInBounds (2 * s + j) c) (cs ++ ds ++ F).toArray) = _ from h3]
    have e3 : List.take (2 * s) (cs ++ ds ++ F) = cs ++ ds := List.take_left' (by simp; omega)
    have e4 : List.drop (2 * s + es.length) (cs ++ ds ++ F) = [] := List.drop_eq_nil_of_le (by omega)
    rw [e3, e4]
    simp [Instr.fill]
  have hf2 := hf ((Array.range (3 * s)).map (Z.cells[· % Z.cells.size]!)) (by simp)
  unfold Instr.buildSlice
  simp only [Sem.run_bind, run_underlying ht, sizeOf, typeInfo, run_program, hq, Result.andThen, Sem.run_pure, hs]
  rw [if_neg (by omega), if_neg (by omega)]
  simp only [Sem.run_bind, hz, Result.andThen, Sem.run_pure, hf2]
  simp [newRow, go_sem]
theorem exec_lit333 {w : World} {o : Oper} {a : Act} {x y z : Operand} {p q r : Idv} (ho : o.op = .buildSlice 33 3 #[(0, x), (1, y), (2, z)]) (hx : a.eval x = iv p) (hy : a.eval y = iv q) (hz : a.eval z = iv r) : (execOp a.eval o).run Tryd.prog w = .ok (.value (.slice (some ⟨w.heap.size, 0, none⟩) 3 3)) (w.alloc (.cells ([p, q, r].flatMap ic).toArray 23)) := by
  have hr : (Instr.buildSlice 33 3 #[(0, iv p), (1, iv q), (2, iv r)]).run Tryd.prog w = .ok (.slice (some ⟨w.heap.size, 0, none⟩) 3 3) (w.alloc (.cells ([p, q, r].flatMap ic).toArray 23)) := by
    cases hq : Tryd.prog.info? 23 with
    | none => exact absurd info25 (by rw [hq]; simp)
    | some it =>
      have := run_lit3 (V := iv p) (U := iv q) (X := iv r) w Tryd.underlying33 hq (by have := size25; rw [hq] at this; simpa using this) (by omega) (by omega) zeroI_25 (by rfl) (ic_length p) (by rfl) (ic_length q) (by rfl) (ic_length r)
      rw [this]
      simp
  unfold execOp
  simp only [ho, List.map_toArray, List.map_cons, List.map_nil, hx, hy, hz, Sem.run_bind, hr, Result.andThen, Sem.run_pure]
theorem exec_quoN {P : Program} {v : World} {o : Oper} {ρ : Operand → Value} {t t' : TypeId} {x y : Operand} {n k q : Nat} (hq : q = n / k) (hk : k ≠ 0) (hn : n ≤ 100000) (ho : o.op = .binOp .quo t x y t') (hx : ρ x = .int .i64 (n : Int)) (hy : ρ y = .int .i64 (k : Int)) : (execOp ρ o).run P v = .ok (.value (.int .i64 (q : Int))) v := by
  have h1 : (n : Int).tdiv (k : Int) = (q : Int) := by rw [hq]; exact (Int.ofNat_tdiv n k).symm
  have h3 : q ≤ n := by rw [hq]; exact Nat.div_le_self n k
  have h2 : IntKind.i64.wrap (q : Int) = (q : Int) := IntWalk.i64_in _ (by omega)
  have h4 : ((k : Int) == 0) = false := by simp [hk]
  unfold execOp
  simp [ho, hx, hy, go_sem, h1, h4, hk]
  exact h2
theorem rows_s (x : Idv) : halfL (keysL x 8) 4 = rowI x 1 ∧ halfL (rowI x 1) 2 = rowI x 2 ∧ halfL (rowI x 2) 1 = rowI x 3 := by
  have h0 : (rowI x 0).length = 8 := rowI_length x 0 (by decide)
  have h1 : (rowI x 1).length = 4 := rowI_length x 1 (by decide)
  have h2 : (rowI x 2).length = 2 := rowI_length x 2 (by decide)
  refine ⟨?_, ?_, ?_⟩
  · rw [rowI, h0]; rfl
  · rw [show rowI x 2 = halfL (rowI x 1) ((rowI x 1).length / 2) from rfl, h1]
  · rw [show rowI x 3 = halfL (rowI x 2) ((rowI x 2).length / 2) from rfl, h2]
theorem at_getD (l : List Idv) (i : Nat) (h : i < l.length) : l[i] = l.getD i zeroI := by rw [List.getD_eq_getElem?_getD, List.getElem?_eq_getElem h]; rfl
set_option maxRecDepth 100000 in
set_option maxHeartbeats 4000000 in
theorem lawRoot_c (x : Idv) (w : World) (Gl : Glob w) :
    Calls Tryd.prog 13 #[.agg ((keysL x 8).flatMap ic).toArray] w fun r w' => r = .returned (iv (rootI x)) ∧ Mod [] w w' := by
  obtain ⟨d, hd⟩ : ∃ d, d = rootI x := ⟨_, rfl⟩
  rw [← hd]
  obtain ⟨r1, r2, r3⟩ := rows_s x
  have l0 := keysL_length x 8
  have l1 : (rowI x 1).length = 4 := rowI_length x 1 (by decide)
  have l2 : (rowI x 2).length = 2 := rowI_length x 2 (by decide)
  have l3 : (rowI x 3).length = 1 := rowI_length x 3 (by decide)
  have hr : (rowI x 3)[0]'(by rw [l3]; decide) = d := by rw [at_getD, hd]; rfl
  have P0 := fun g v (mv : Mod [] w v) RA hg => pairs_c g 0 (keysL x 8) 8 8 4 l0.symm rfl (by decide) v (Gl.then mv) RA hg
  have P1 := fun g c v (mv : Mod [] w v) RA hg => pairs_c g 0 (rowI x 1) 4 c 2 l1.symm rfl (by decide) v (Gl.then mv) RA hg
  have P2 := fun g c v (mv : Mod [] w v) RA hg => pairs_c g 0 (rowI x 2) 2 c 1 l2.symm rfl (by decide) v (Gl.then mv) RA hg
  rw [r1] at P0
  rw [r2] at P1
  rw [r3] at P2
  have hone := kcs_one x
  have hlen := keysC_length x 8
  obtain ⟨C, hC⟩ : ∃ C, C = (keysL x 8).flatMap ic := ⟨_, rfl⟩
  rw [← hC] at P0 hone hlen ⊢
  have HL := Lib.hid (And.intro l1 (And.intro l2 (And.intro l3 (And.intro hone hlen))))
  have HR : Hid (∀ (g : Nat) (v : World), Cells v (some ⟨g, 0, none⟩) ((rowI x 3).flatMap ic) → Cells v (some ⟨g, 0 + 0 * 32, none⟩) (ic d)) := Lib.hid fun g v h => by
    obtain ⟨_, _, e1, hc1⟩ := h.elem' ic 32 (by omega) ic_length 0 (by rw [l3]; decide)
    cases e1
    rw [hr] at hc1
    exact hc1
  clear hd r1 r2 r3 l0 l1 l2 l3 hr hone hlen hC Gl
  go_enter Tryd.func13, Tryd.ntmps13
  go_wp2_with (first
    | (with_reducible refine wpList_boxes (o := ⟨some 1, .box 26 (.tmp 0), _, _, _, _⟩) rfl 26 (.tmp 0) rfl _ rfl C rfl ?_; intro w1 hb1 m1 z1; replace z1 := Lib.hid z1)
    | (with_reducible refine wpList_allocs (o := ⟨some 2, .alloc 23, _, _, _, _⟩) rfl 23 rfl _ zeroI_25 ?_; intro w2 hb2 m2 z2
       obtain ⟨b1, e1⟩ : ∃ b, b = w.heap.size := ⟨_, rfl⟩
       obtain ⟨b2, e2⟩ : ∃ b, b = w1.heap.size := ⟨_, rfl⟩
       have k1 : Holds w2 b1 26 C := by rw [e1]; exact hb1.keep m2 (by simp)
       have k2 : Holds w2 b2 23 (ic zeroI) := by rw [e2]; exact hb2
       have mm := m1.then m2
       have HO : Hid (w.heap.size ≤ b2) := Lib.hid (by have := m1.size; omega)
       rw [← e1, ← e2]
       clear hb1 m1 z1 hb2 m2 z2 e1 e2)
    | (go_at_call 38; refine (P0 b1 _ mm (Cells.of_holds k1) k1.lt).mono ?_
       rintro e w3 ⟨A1, c1, rfl, hO1, m3, _⟩
       obtain ⟨g1, rfl⟩ := own_form hO1 (by rw [HL.out.1]; decide)
       have hg1 := (hO1.lt _ rfl)
       replace k2 := k2.keep m3 (by simp)
       replace mm := mm.then m3
       clear m3 k1 P0)
    | (go_at_call 38; refine (P1 g1 c1 _ mm hO1.cells hg1).mono ?_
       rintro e w4 ⟨A2, c2, rfl, hO2, m4, _⟩
       obtain ⟨g2, rfl⟩ := own_form hO2 (by rw [HL.out.2.1]; decide)
       have hg2 := (hO2.lt _ rfl)
       replace k2 := k2.keep m4 (by simp)
       replace mm := mm.then m4
       clear m4 hO1 hg1 P1)
    | (go_at_call 38; refine (P2 g2 c2 _ mm hO2.cells hg2).mono ?_
       rintro e w5 ⟨A3, c3, rfl, hO3, m5, _⟩
       obtain ⟨g3, rfl⟩ := own_form hO3 (by rw [HL.out.2.2.1]; decide)
       have hc3 := HR.out g3 _ hO3.cells
       replace k2 := k2.keep m5 (by simp)
       replace mm := mm.then m5
       clear m5 hO2 hg2 P2)
    | (with_reducible refine wpList_loads (o := ⟨some 8, .load 23 (.tmp 7), _, _, _, _⟩) rfl 23 (.tmp 7) rfl g3 (0 + 0 * 32) _ rfl hc3 _ Tryd.underlying23 rfl (size25i d) (iv d) rfl ?_)
    | (with_reducible refine wpList_storesAll (o := ⟨none, .store 23 (.tmp 2) (.tmp 8), _, _, _, _⟩) rfl 23 (.tmp 2) (.tmp 8) rfl rfl b2 (ic d) rfl (iv d) rfl rfl 23 _ k2 (by rw [ic_length, ic_length]) (ic_one d) (size25i d) ?_
       intro w6 hb6 m6 z6))
  refine bodyPost_ret (results_cell_row rfl _ _ b2 23 _ (0, 0) _ rfl hb6 Tryd.underlying23 rfl (by rw [List.size_toArray]; exact size25i d)) rfl ?_
  exact ⟨rfl, far_mod mm m6 (fun i hi => by have := HO.out; simp at hi; omega)⟩
set_option maxRecDepth 100000 in
set_option maxHeartbeats 4000000 in
theorem lawPath_c (x : Idv) (n : Nat) (hn : n < 8) (w : World) (Gl : Glob w) :
    Calls Tryd.prog 18 #[.agg ((keysL x 8).flatMap ic).toArray, .int .i64 (n : Int)] w fun r w' => ∃ A c, r = .returned (.slice A 3 c) ∧ OwnG ic 23 32 w' A c (pathL x n 3) ∧ Mod [] w w' := by
  obtain ⟨r1, r2, _⟩ := rows_s x
  have l0 := keysL_length x 8
  have l1 : (rowI x 1).length = 4 := rowI_length x 1 (by decide)
  have l2 : (rowI x 2).length = 2 := rowI_length x 2 (by decide)
  have P0 := fun g v (mv : Mod [] w v) RA hg => pairs_c g 0 (keysL x 8) 8 8 4 l0.symm rfl (by decide) v (Gl.then mv) RA hg
  have P1 := fun g c v (mv : Mod [] w v) RA hg => pairs_c g 0 (rowI x 1) 4 c 2 l1.symm rfl (by decide) v (Gl.then mv) RA hg
  rw [r1] at P0
  rw [r2] at P1
  obtain ⟨n1, hn1⟩ : ∃ k, k = n ^^^ 1 := ⟨_, rfl⟩
  obtain ⟨h2, hh2⟩ : ∃ k, k = n / 2 := ⟨_, rfl⟩
  obtain ⟨h4, hh4⟩ : ∃ k, k = n / 4 := ⟨_, rfl⟩
  obtain ⟨n2, hn2⟩ : ∃ k, k = h2 ^^^ 1 := ⟨_, rfl⟩
  obtain ⟨n3, hn3⟩ : ∃ k, k = h4 ^^^ 1 := ⟨_, rfl⟩
  have x1 := xor1i n hn
  have x2 := xor1i h2 (by omega)
  have x3 := xor1i h4 (by omega)
  rw [← hn1] at x1
  rw [← hn2] at x2
  rw [← hn3] at x3
  have q1 : n1 < 8 := by have := (nb_lt 0 (by decide) n hn).1; simpa [hn1] using this
  have q2 : n2 < 4 := by have := (nb_lt 1 (by decide) n hn).1; simpa [hn2, hh2] using this
  have q3 : n3 < 2 := by have := (nb_lt 2 (by decide) n hn).1; simpa [hn3, hh4] using this
  obtain ⟨y0, hy0⟩ : ∃ y, y = (keysL x 8).getD n1 zeroI := ⟨_, rfl⟩
  obtain ⟨y1, hy1⟩ : ∃ y, y = (rowI x 1).getD n2 zeroI := ⟨_, rfl⟩
  obtain ⟨y2, hy2⟩ : ∃ y, y = (rowI x 2).getD n3 zeroI := ⟨_, rfl⟩
  have hp : pathL x n 3 = [y0, y1, y2] := by
    rw [path3, hy0, hy1, hy2, hn1, hn2, hn3, hh2, hh4]
    unfold nbI
    rw [show n / 2 ^ 0 = n from Nat.div_one n]
    rfl
  rw [hp]
  have HN : Hid (n1 < 8 ∧ n2 < 4 ∧ n3 < 2 ∧ h2 = n / 2 ∧ h4 = n / 4 ∧ n ≤ 100000 ∧ bits .xor .i64 (n : Int) 1 = (n1 : Int) ∧ bits .xor .i64 (h2 : Int) 1 = (n2 : Int) ∧ bits .xor .i64 (h4 : Int) 1 = (n3 : Int)) := Lib.hid ⟨q1, q2, q3, hh2, hh4, by omega, x1, x2, x3⟩
  have HC0 : Hid (∀ (g : Nat) (v : World), Cells v (some ⟨g, 0, none⟩) ((keysL x 8).flatMap ic) → Cells v (some ⟨g, 0 + n1 * 32, none⟩) (ic y0)) := Lib.hid fun g v h => by
    obtain ⟨_, _, e1, hc1⟩ := h.elem' ic 32 (by omega) ic_length n1 (by omega)
    cases e1
    rw [at_getD, ← hy0] at hc1
    exact hc1
  have HC1 : Hid (∀ (g : Nat) (v : World), Cells v (some ⟨g, 0, none⟩) ((rowI x 1).flatMap ic) → Cells v (some ⟨g, 0 + n2 * 32, none⟩) (ic y1)) := Lib.hid fun g v h => by
    obtain ⟨_, _, e1, hc1⟩ := h.elem' ic 32 (by omega) ic_length n2 (by omega)
    cases e1
    rw [at_getD, ← hy1] at hc1
    exact hc1
  have HC2 : Hid (∀ (g : Nat) (v : World), Cells v (some ⟨g, 0, none⟩) ((rowI x 2).flatMap ic) → Cells v (some ⟨g, 0 + n3 * 32, none⟩) (ic y2)) := Lib.hid fun g v h => by
    obtain ⟨_, _, e1, hc1⟩ := h.elem' ic 32 (by omega) ic_length n3 (by omega)
    cases e1
    rw [at_getD, ← hy2] at hc1
    exact hc1
  have hone := kcs_one x
  have hlen := keysC_length x 8
  obtain ⟨C, hC⟩ : ∃ C, C = (keysL x 8).flatMap ic := ⟨_, rfl⟩
  rw [← hC] at P0 hone hlen HC0 ⊢
  have HL := Lib.hid (And.intro l1 (And.intro l2 (And.intro hone hlen)))
  clear r1 r2 l0 l1 l2 hn hn1 hn2 hn3 hh2 hh4 x1 x2 x3 q1 q2 q3 hy0 hy1 hy2 hp hone hlen hC Gl
  go_enter Tryd.func18, Tryd.ntmps18
  go_wp2_with (first
    | (with_reducible refine wpList_boxes (o := ⟨some 2, .box 26 (.tmp 0), _, _, _, _⟩) rfl 26 (.tmp 0) rfl _ rfl C rfl ?_; intro w2 hb1 mm z1
       obtain ⟨b2, e2⟩ : ∃ b, b = w.heap.size := ⟨_, rfl⟩
       have k2 : Holds w2 b2 26 C := by rw [e2]; exact hb1
       rw [← e2]
       clear hb1 z1 e2)
    | (go_at_call 38; refine (P0 b2 _ mm (Cells.of_holds k2) k2.lt).mono ?_
       rintro e w3 ⟨A1, c1, rfl, hO1, m3, _⟩
       obtain ⟨g1, rfl⟩ := own_form hO1 (by rw [HL.out.1]; decide)
       have hg1 := (hO1.lt _ rfl)
       replace k2 := k2.keep m3 (by simp)
       replace mm := mm.then m3
       clear m3 P0)
    | (go_at_call 38; refine (P1 g1 c1 _ mm hO1.cells hg1).mono ?_
       rintro e w4 ⟨A2, c2, rfl, hO2, m4, _⟩
       obtain ⟨g2, rfl⟩ := own_form hO2 (by rw [HL.out.2.1]; decide)
       replace hO1 := hO1.keep m4 (by simp)
       replace k2 := k2.keep m4 (by simp)
       replace mm := mm.then m4
       clear m4 hg1 P1))
  have hc0 := HC0.out b2 _ (Cells.of_holds k2)
  have hc1 := HC1.out g1 _ hO1.cells
  have hc2 := HC2.out g2 _ hO2.cells
  obtain ⟨wq, hwq⟩ : ∃ v, v = w4 := ⟨_, rfl⟩
  rw [← hwq] at hc0 hc1 hc2 mm ⊢
  clear hwq hO1 hO2 k2 HC0 HC1 HC2 HL
  refine wp_region_upx (X := Nat) 0 (fun x => [(11, .int .i64 (n : Int)), (12, .int .i64 (n1 : Int)), (13, .pointer (some ⟨b2, 0 + n1 * 32, none⟩)), (14, iv y0), (15, .slice (some ⟨g1, 0, none⟩) 4 c1), (16, .int .i64 (n : Int)), (17, .int .i64 (h2 : Int)), (18, .int .i64 (n2 : Int)), (19, .pointer (some ⟨g1, 0 + n2 * 32, none⟩)), (20, iv y1), (21, .slice (some ⟨g2, 0, none⟩) 2 c2), (22, .int .i64 (n : Int)), (23, .int .i64 (h4 : Int)), (24, .int .i64 (n3 : Int)), (25, .pointer (some ⟨g2, 0 + n3 * 32, none⟩)), (26, iv y2), (27, .slice (some ⟨x, 0, none⟩) 3 3), (4, .slice (some ⟨x, 0, none⟩) 3 3)]) 28 [11, 12, 13, 14, 15, 16, 17, 18, 19, 20, 21, 22, 23, 24, 25, 26, 27, 4] rfl (fun _ => rfl) (by decide) (by kernel_rfl) (fun x lz v => Mod [] wq.drew v ∧ (lz 16 = true → Holds v x 23 ([y0, y1, y2].flatMap ic))) (by kernel_rfl) ⟨Mod.refl _ _, fun h => by cases h⟩ (by kernel_rfl) (by kernel_rfl) ?step ?fin
  case step =>
    intro x lz T v j o hj hlj hdep hst hpar hgot hcl Kq hK
    have mv : ∀ v, Mod [] wq.drew v → Mod [] wq v := fun v h => (Mod.drew [] wq).then h
    have hjn : j < 18 := (Array.getElem?_eq_some_iff.1 hj).1
    obtain rfl | rfl | rfl | rfl | rfl | rfl | rfl | rfl | rfl | rfl | rfl | rfl | rfl | rfl | rfl | rfl | rfl | rfl : j = 0 ∨ j = 1 ∨ j = 2 ∨ j = 3 ∨ j = 4 ∨ j = 5 ∨ j = 6 ∨ j = 7 ∨ j = 8 ∨ j = 9 ∨ j = 10 ∨ j = 11 ∨ j = 12 ∨ j = 13 ∨ j = 14 ∨ j = 15 ∨ j = 16 ∨ j = 17 := by omega
    all_goals (have hj' := Option.some.inj (hj : some _ = some o); subst hj'; clear hj)
    · exact wp_ran rfl (exec_move rfl (eval_tmp ((hpar 1 rfl).trans rfl))) (hK x _ _ (fun _ _ _ _ _ _ => rfl) (fun s hs => by cases hs; rfl) ⟨hst.1, by simpa using hst.2⟩)
    · exact wp_ran rfl (exec_xor rfl (eval_tmp (hgot 0 _ 11 rfl (hdep ⟨0, .data⟩ (by simp) rfl) rfl)) rfl (HN.out.2.2.2.2.2.2.1)) (hK x _ _ (fun _ _ _ _ _ _ => rfl) (fun s hs => by cases hs; rfl) ⟨hst.1, by simpa using hst.2⟩)
    · exact wp_ran rfl (exec_atz Tryd.underlying26 size25 HN.out.1 rfl (eval_tmp ((hpar 2 rfl).trans rfl)) (eval_tmp (hgot 1 _ 12 rfl (hdep ⟨1, .data⟩ (by simp) rfl) rfl))) (hK x _ _ (fun _ _ _ _ _ _ => rfl) (fun s hs => by cases hs; rfl) ⟨hst.1, by simpa using hst.2⟩)
    · exact wp_ran rfl (exec_load rfl (eval_tmp (hgot 2 _ 13 rfl (hdep ⟨2, .data⟩ (by simp) rfl) rfl)) (run_loads (hc0.keep (mv v hst.1) (by simp)) Tryd.underlying23 rfl (size25i y0))) (hK x _ _ (fun _ _ _ _ _ _ => rfl) (fun s hs => by cases hs; rfl) ⟨hst.1, by simpa using hst.2⟩)
    · exact wp_ran rfl (exec_move rfl (eval_tmp ((hpar 5 rfl).trans rfl))) (hK x _ _ (fun _ _ _ _ _ _ => rfl) (fun s hs => by cases hs; rfl) ⟨hst.1, by simpa using hst.2⟩)
    · exact wp_ran rfl (exec_move rfl (eval_tmp ((hpar 1 rfl).trans rfl))) (hK x _ _ (fun _ _ _ _ _ _ => rfl) (fun s hs => by cases hs; rfl) ⟨hst.1, by simpa using hst.2⟩)
    · exact wp_ran rfl (exec_quoN (k := 2) HN.out.2.2.2.1 (by decide) HN.out.2.2.2.2.2.1 rfl (eval_tmp (hgot 5 _ 16 rfl (hdep ⟨5, .data⟩ (by simp) rfl) rfl)) rfl) (hK x _ _ (fun _ _ _ _ _ _ => rfl) (fun s hs => by cases hs; rfl) ⟨hst.1, by simpa using hst.2⟩)
    · exact wp_ran rfl (exec_xor rfl (eval_tmp (hgot 6 _ 17 rfl (hdep ⟨6, .data⟩ (by simp) rfl) rfl)) rfl (HN.out.2.2.2.2.2.2.2.1)) (hK x _ _ (fun _ _ _ _ _ _ => rfl) (fun s hs => by cases hs; rfl) ⟨hst.1, by simpa using hst.2⟩)
    · exact wp_ran rfl (exec_ixs Tryd.underlying33 size25 HN.out.2.1 rfl (eval_tmp (hgot 4 _ 15 rfl (hdep ⟨4, .data⟩ (by simp) rfl) rfl)) (eval_tmp (hgot 7 _ 18 rfl (hdep ⟨7, .data⟩ (by simp) rfl) rfl))) (hK x _ _ (fun _ _ _ _ _ _ => rfl) (fun s hs => by cases hs; rfl) ⟨hst.1, by simpa using hst.2⟩)
    · exact wp_ran rfl (exec_load rfl (eval_tmp (hgot 8 _ 19 rfl (hdep ⟨8, .data⟩ (by simp) rfl) rfl)) (run_loads (hc1.keep (mv v hst.1) (by simp)) Tryd.underlying23 rfl (size25i y1))) (hK x _ _ (fun _ _ _ _ _ _ => rfl) (fun s hs => by cases hs; rfl) ⟨hst.1, by simpa using hst.2⟩)
    · exact wp_ran rfl (exec_move rfl (eval_tmp ((hpar 6 rfl).trans rfl))) (hK x _ _ (fun _ _ _ _ _ _ => rfl) (fun s hs => by cases hs; rfl) ⟨hst.1, by simpa using hst.2⟩)
    · exact wp_ran rfl (exec_move rfl (eval_tmp ((hpar 1 rfl).trans rfl))) (hK x _ _ (fun _ _ _ _ _ _ => rfl) (fun s hs => by cases hs; rfl) ⟨hst.1, by simpa using hst.2⟩)
    · exact wp_ran rfl (exec_quoN (k := 4) HN.out.2.2.2.2.1 (by decide) HN.out.2.2.2.2.2.1 rfl (eval_tmp (hgot 11 _ 22 rfl (hdep ⟨11, .data⟩ (by simp) rfl) rfl)) rfl) (hK x _ _ (fun _ _ _ _ _ _ => rfl) (fun s hs => by cases hs; rfl) ⟨hst.1, by simpa using hst.2⟩)
    · exact wp_ran rfl (exec_xor rfl (eval_tmp (hgot 12 _ 23 rfl (hdep ⟨12, .data⟩ (by simp) rfl) rfl)) rfl (HN.out.2.2.2.2.2.2.2.2)) (hK x _ _ (fun _ _ _ _ _ _ => rfl) (fun s hs => by cases hs; rfl) ⟨hst.1, by simpa using hst.2⟩)
    · exact wp_ran rfl (exec_ixs Tryd.underlying33 size25 HN.out.2.2.1 rfl (eval_tmp (hgot 10 _ 21 rfl (hdep ⟨10, .data⟩ (by simp) rfl) rfl)) (eval_tmp (hgot 13 _ 24 rfl (hdep ⟨13, .data⟩ (by simp) rfl) rfl))) (hK x _ _ (fun _ _ _ _ _ _ => rfl) (fun s hs => by cases hs; rfl) ⟨hst.1, by simpa using hst.2⟩)
    · exact wp_ran rfl (exec_load rfl (eval_tmp (hgot 14 _ 25 rfl (hdep ⟨14, .data⟩ (by simp) rfl) rfl)) (run_loads (hc2.keep (mv v hst.1) (by simp)) Tryd.underlying23 rfl (size25i y2))) (hK x _ _ (fun _ _ _ _ _ _ => rfl) (fun s hs => by cases hs; rfl) ⟨hst.1, by simpa using hst.2⟩)
    · have l17 : lz 17 = false := (by cases hh : lz 17 with | false => rfl | true => exact absurd (hcl 17 _ rfl hh ⟨16, .data⟩ (by simp) rfl) (by rw [hlj]; simp))
      refine wp_ran rfl (exec_lit333 rfl (eval_tmp (hgot 3 _ 14 rfl (hdep ⟨3, .data⟩ (by simp) rfl) rfl)) (eval_tmp (hgot 9 _ 20 rfl (hdep ⟨9, .data⟩ (by simp) rfl) rfl)) (eval_tmp (hgot 15 _ 26 rfl (hdep ⟨15, .data⟩ (by simp) rfl) rfl))) (hK v.heap.size _ _ (fun j' o' s' g1 g2 g3 => by
          have g4 : j' < 18 := (Array.getElem?_eq_some_iff.1 g1).1
          clear hpar hgot hdep hK
          obtain rfl | rfl | rfl | rfl | rfl | rfl | rfl | rfl | rfl | rfl | rfl | rfl | rfl | rfl | rfl | rfl | rfl | rfl : j' = 0 ∨ j' = 1 ∨ j' = 2 ∨ j' = 3 ∨ j' = 4 ∨ j' = 5 ∨ j' = 6 ∨ j' = 7 ∨ j' = 8 ∨ j' = 9 ∨ j' = 10 ∨ j' = 11 ∨ j' = 12 ∨ j' = 13 ∨ j' = 14 ∨ j' = 15 ∨ j' = 16 ∨ j' = 17 := by omega
          all_goals (cases g1; cases g3 <;> first | rfl | (rw [hlj] at g2; cases g2) | (rw [l17] at g2; cases g2))) (fun s hs => by cases hs; rfl) ⟨hst.1.then (Mod.alloc [] v _), fun _ => Holds.made v 23 _⟩)
    · exact wp_ran rfl (exec_assign rfl (eval_tmp (hgot 16 _ 27 rfl (hdep ⟨16, .data⟩ (by simp) rfl) rfl))) (hK x _ _ (fun _ _ _ _ _ _ => rfl) (fun s hs => by cases hs; rfl) ⟨hst.1, by simpa using hst.2⟩)
  case fin =>
  intro x lz vr hlz hst
  have hO3 := hst.2 (hlz 16 (by decide))
  have mq := (Mod.drew [] wq).then hst.1
  clear hst hlz
  simp only [setAll, List.foldl_cons, List.foldl_nil, List.set_cons_succ, List.set_cons_zero]
  go_wp2_with fail
  go_ret
  exact ⟨_, _, rfl, OwnG.of_holds (l := [y0, y1, y2]) hO3 ic_length (show 3 ≤ maxLen by decide), mm.then mq⟩
theorem exec_zb {v : World} {o : Oper} {ρ : Operand → Value} (ho : o.op = .build 23 #[]) : (execOp ρ o).run Tryd.prog v = .ok (.value (iv zeroI)) v := by
  have := zeroI_25 v
  unfold execOp
  simp [ho, Instr.build, go_sem, this]
  rfl
set_option maxRecDepth 100000 in
set_option maxHeartbeats 4000000 in
theorem Seed_no (s : Idv) (z : Int) (hn : lfOk z = false) (w : World) : Calls Tryd.prog 14 #[iv s, .int .i64 z] w fun r w' => r = .returned (.tuple #[iv zeroI, .int .i64 2]) ∧ Mod [] w w' := by
  have LF := fun v => isLeaf_c z v
  rw [hn] at LF
  clear hn
  go_enter Tryd.func14, Tryd.ntmps14
  go_wp2_with (first
    | (with_reducible refine wpList_boxes (o := ⟨some 2, .box 23 (.tmp 0), _, _, _, _⟩) rfl 23 (.tmp 0) rfl _ rfl (ic s) rfl ?_; intro w1 hb1 m1 z1; replace z1 := Lib.hid z1)
    | (with_reducible refine wpList_allocs (o := ⟨some 4, .alloc 23, _, _, _, _⟩) rfl 23 rfl _ zeroI_25 ?_; intro w2 hb2 m2 z2; replace z2 := Lib.hid z2
       have mm := m1.then m2)
    | (go_at_call 39; refine (LF _).mono ?_; rintro e w3 ⟨rfl, rfl⟩)
    | (with_reducible refine wpList_ranW (o := ⟨some 9, .build 23 _, _, _, _, _⟩) (by with_unfolding_all rfl) (iv zeroI) _ (exec_zb rfl) ?_)
    | (with_reducible refine wpList_storesAll (o := ⟨none, .store 23 (.tmp 4) (.tmp 9), _, _, _, _⟩) rfl 23 (.tmp 4) (.tmp 9) rfl rfl w1.heap.size (ic zeroI) rfl (iv zeroI) rfl rfl 23 _ hb2 (by rw [ic_length]) (ic_one zeroI) (size25i zeroI) ?_
       intro w5 hb5 m5 z5))
  refine bodyPost_ret (results_cell_tmp rfl _ _ w1.heap.size (ic zeroI) (.int .i64 2) _ rfl rfl (Cells.of_holds hb5) Tryd.underlying23 rfl (size25i zeroI)) rfl ?_
  exact ⟨rfl, far_mod mm m5 (fun i hi => by have := m1.size; simp at hi; omega)⟩
set_option maxRecDepth 100000 in
set_option maxHeartbeats 4000000 in
theorem Path_no (s : Idv) (z : Int) (hn : lfOk z = false) (w : World) : Calls Tryd.prog 15 #[iv s, .int .i64 z] w fun r w' => r = .returned (.tuple #[.slice none 0 0, .int .i64 2]) ∧ Mod [] w w' := by
  have LF := fun v => isLeaf_c z v
  rw [hn] at LF
  clear hn
  go_enter Tryd.func15, Tryd.ntmps15
  go_wp2_with (first
    | (with_reducible refine wpList_boxes (o := ⟨some 2, .box 23 (.tmp 0), _, _, _, _⟩) rfl 23 (.tmp 0) rfl _ rfl (ic s) rfl ?_; intro w1 hb1 m1 z1; replace z1 := Lib.hid z1)
    | (go_at_call 39; refine (LF _).mono ?_; rintro e w3 ⟨rfl, rfl⟩))
  go_ret2
  exact ⟨rfl, m1⟩
end Go.Proofs.YtbacmeaeehhhfaaDoor
