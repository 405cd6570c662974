/-
  Package merkle: taken. My own work.
-/
import Derived.Test.YtbacmeaeehhhfaaDoorMf
import Derived.Test.YtbacmeaeehhhfaaDoorOa
namespace Go.Proofs.YtbacmeaeehhhfaaDoor
open Go.RowKit Go.Shelf
set_option linter.unusedVariables false
set_option linter.unusedSimpArgs false
theorem exec_quoM {P : Program} {v : World} {o : Oper} {ρ : Operand → Value} {t t' : TypeId} {x y : Operand} {n k q : Nat} (hq : q = n / k) (hk : k ≠ 0) (hn : n ≤ 100000) (ho : o.op = .binOp .quo t x y t') (hx : ρ x = .int .i64 (n : Int)) (hy : ρ y = .int .i64 (k : Int)) : (execOp ρ o).run P v = .ok (.value (.int .i64 (q : Int))) v := by
  have h1 : (n : Int).tdiv (k : Int) = (q : Int) := by rw [hq]; exact (Int.ofNat_tdiv n k).symm
  have h3 : q ≤ n := by rw [hq]; exact Nat.div_le_self n k
  have h2 : IntKind.i64.wrap (q : Int) = (q : Int) := IntWalk.i64_in _ (by omega)
  have h4 : ((k : Int) == 0) = false := by simp [hk]
  unfold execOp
  simp [ho, hx, hy, go_sem, h1, h4, hk]
  exact h2
set_option maxRecDepth 100000 in
set_option maxHeartbeats 4000000 in
theorem taken_c (g o : Nat) (l : List UInt8) (n c h : Nat) (hn : n = l.length) (hh : n = h * 32) (hl : h ≤ 100) (hnc : n ≤ c) (w : World) (RA : Reads w (some ⟨g, o, none⟩) l) (hg : g < w.heap.size) :
    Calls Tryd.prog 51 #[.slice (some ⟨g, o, none⟩) n c] w fun r w' => ∃ A c', r = .returned (.slice A h c') ∧ OwnG ic 23 32 w' A c' (unI l h) ∧ Mod [] w w' ∧ (∀ i ∈ blk A, w.heap.size ≤ i) := by
  obtain ⟨i0, j1, j2, j3, j4⟩ := info_parts id_parts
  have HI := Lib.hid (And.intro j1 (And.intro j2 (And.intro j3 j4)))
  have HH := Lib.hid (And.intro hn (And.intro hh (And.intro hl (And.intro hnc (And.intro RA hg)))))
  have hd8 : 32 * h ≤ 281474976710656 := by omega
  have hm8 : h ≤ maxLen := by unfold maxLen; omega
  clear j1 j2 j3 j4 hn hh hl hnc RA hg
  refine (callsIn_wide (n := 5)).1 ?_
  refine callsIn_of_wp_marks Tryd.func51 rfl trivial ?_ rfl
  simp only [Tryd.ntmps51, List.size_toArray, List.length_cons, List.length_nil, Nat.reduceAdd, Nat.reduceSub, Array.replicate_succ, Array.replicate_zero, List.push_toArray, List.append_toArray, List.nil_append, List.cons_append]
  refine wpIn_wide.2 ?_
  go_wp2_with (first
    | (with_reducible refine wpList_ranW (o := ⟨some 7, .binOp _ _ _ _ _, _, _, _, _⟩) (by with_unfolding_all rfl) (.int .i64 (h : Int)) w ?_ ?_
       · with_unfolding_all exact exec_quoM (n := n) (k := 32) (q := h) (by have := HH.out.2.1; omega) (by decide) (by have := HH.out.2.1; have := HH.out.2.2.1; omega) rfl rfl rfl)
    | (with_reducible refine wpList_make0G ic (o := ⟨some 8, .makeSlice 33 _ _, _, _, _, _⟩) rfl 33 _ _ rfl 23 i0 (iv zeroI) 32 32 h Tryd.underlying33 HI.out.1 HI.out.2.1 HI.out.2.2.1 HI.out.2.2.2 rfl rfl hd8 hm8 ?_
       intro w3 hO m3 z3; replace z3 := Lib.hid z3)
    | (with_reducible refine wpList_alloc1 (o := ⟨some 3, .alloc 33, _, _, _, _⟩) rfl 33 rfl (.slice none 0 0) (slice_one _ _ _) zero22 ?_
       intro w4 hb4 m4 z4
       have y3 := z3.out
       obtain ⟨b3, hq3⟩ : ∃ q, q = w.heap.size := ⟨_, rfl⟩
       obtain ⟨p, hq⟩ : ∃ q, q = w3.heap.size := ⟨_, rfl⟩
       have k3 : OwnG ic 23 32 w4 (some ⟨b3, 0, none⟩) h [] := by rw [hq3]; exact hO.keep m4 (by simp)
       have mm4 : Mod [] w w4 := m3.then m4
       have o3 : b3 < p := by omega
       have o4 : w4.heap.size = p + 1 := by omega
       have k4 := hb4
       rw [← hq] at k4 ⊢
       rw [← hq3]
       replace hq3 := Lib.hid hq3
       clear hO m3 z3 hb4 m4 z4 hq y3
       replace o4 := Lib.hid o4)
    | (with_reducible refine wpList_store1 (o := ⟨none, .store 33 (.tmp 3) (.tmp 8), _, _, _, _⟩) rfl 33 (.tmp 3) (.tmp 8) rfl rfl p (.slice (some ⟨b3, 0, none⟩) 0 h) rfl rfl (slice_one _ _ _) size22 33 (.slice none 0 0) k4 ?_
       intro w4' k4' m4' z4'
       replace o4 := Lib.hid (show w4'.heap.size = p + 1 by have := o4.out; omega)
       have HK := Lib.hid (And.intro (k3.keep m4' (by rintro _ ⟨⟩; simp; omega)) (And.intro (far_mod mm4 m4' (by have := hq3.out; simp; omega)) k4'))
       clear k3 mm4 k4 k4' m4' z4')
    | (go_at_call 63; refine (cb_c _ n c _).mono ?_
       rintro e w5 ⟨rfl, hs1, hs2, m5, z5⟩
       obtain ⟨bs, hbs⟩ : ∃ q, q = w4'.heap.size := ⟨_, rfl⟩
       rw [← hbs] at hs1 hs2 ⊢
       replace z5 := Lib.hid z5
       replace hbs := Lib.hid hbs))
  obtain ⟨k3, mm4, k4⟩ := HK.out
  have mm5 : Mod [] w w5 := mm4.then m5
  replace k3 := k3.keep m5 (by simp)
  replace k4 := k4.keep m5 (by simp)
  have o6 : p < bs := by rw [hbs.out, o4.out]; omega
  have o7 : bs + 2 ≤ w5.heap.size := by rw [z5.out, hbs.out]; omega
  have ow : w.heap.size ≤ b3 := by rw [hq3.out]; omega
  have hB : Cbcb [b3, p] w5.heap.size bs (bs + 1) g o n c w5 := ⟨hs1, hs2, by simp; omega⟩
  clear m5 z5 hbs o4 hq3 hs1 hs2
  refine (wpIn_wide (n := 5)).1 ?_
  refine wpIn_rangeFunc_with (F := Fence.wide) (n := 5) rfl (by omega) (gf := 72) (lb := #[.pointer (some ⟨bs, 0, none⟩), .pointer (some ⟨bs + 1, 0, none⟩)]) rfl trivial (enters_of Tryd.func72 (by kernel_rfl) rfl)
    (cb_with 4 (by omega) bs (bs + 1) w5.heap.size g o n c h HH.out.2.1 HH.out.2.2.2.1 (by have := HH.out.2.1; have := HH.out.2.2.1; omega) [b3, p] w5 hB (Nat.le_refl _))
    (fun h k => h.trans k) (fun W l o o' hl ho h1 _ => ?hKb) (Below.refl _ _) (fun _ => rfl)
    (fun pre W => pre = List.range pre.length ∧ Mod [] w W ∧ w5.heap.size ≤ W.heap.size ∧ ∃ A c, Holds W p 33 [.slice A pre.length c] ∧ OwnG ic 23 32 W A c (unI l pre.length) ∧ (∀ i ∈ blk A, i = b3 ∨ w5.heap.size ≤ i))
    (fun _ _ _ => False)
    (fun s A B row hs hg hr => ?hI) (fun _ _ _ _ _ hs _ _ => hs.elim) ⟨rfl, mm5, Nat.le_refl _, some ⟨b3, 0, none⟩, h, k4, k3, fun i hi => .inl (by simpa [blk] using hi)⟩
    (fun pre z a' W => z = pre.length ∧ a' = { tmps := #[.slice (some ⟨g, o, none⟩) n c, undef, .slice none 0 0, .pointer (some ⟨p, 0, none⟩), .slice (some ⟨g, o + z * 32 * 1, none⟩) 32 32, .slice (some ⟨g, o, none⟩) n c, .int .i64 (n : Int), .int .i64 (h : Int), .slice (some ⟨b3, 0, none⟩) 0 h, .slice (some ⟨g, o, none⟩) n c, .func (.func 72) #[] #[.pointer (some ⟨bs, 0, none⟩), .pointer (some ⟨bs + 1, 0, none⟩)], .slice (some ⟨g, o + z * 32 * 1, none⟩) 32 32, undef, undef, undef, undef, undef, undef, undef], defers := [] })
    (fun pre z a' s A B row hs hg hr => hs) ?assign ?body ?done ?stop
  case hKb =>
    exact ⟨by simp [World.putObj], fun k hk _ _ => World.putObj_heap_other (by omega)⟩
  case hI =>
    obtain ⟨h0, h2, h3, A', c, h4, h5, h6⟩ := hs
    exact ⟨h0, mod_own h2 hg (fun r e => Nat.le_trans mm5.size (hr r e).1), Nat.le_trans h3 hg.size, A', c, holds_own h4 hg (fun r e => (hr r e).2), h5.own hg (fun r e => (hr r e).2), h6⟩
  case assign =>
    rintro L pre z W K ⟨h0, h2, h3, A', c4, h4, h5, h6⟩ hF hK
    rw [zip_one]
    change Code.wpIn _ _ _ _ _ { tmps := #[.slice (some ⟨g, o, none⟩) n c, undef, .slice none 0 0, .pointer (some ⟨p, 0, none⟩), undef, .slice (some ⟨g, o, none⟩) n c, .int .i64 (n : Int), .int .i64 (h : Int), .slice (some ⟨b3, 0, none⟩) 0 h, .slice (some ⟨g, o, none⟩) n c, .func (.func 72) #[] #[.pointer (some ⟨bs, 0, none⟩), .pointer (some ⟨bs + 1, 0, none⟩)], .slice (some ⟨g, o + z * 32 * 1, none⟩) 32 32, undef, undef, undef, undef, undef, undef, undef], defers := [] } W
    gi_wp2_with fail
    exact hK _ _ ((Mod.refl [] W).keepsFrom _) ((Mod.refl [] W).keepL _ (fun _ h => by cases h)) ⟨h0, h2, h3, A', c4, h4, h5, h6⟩ ⟨hF, rfl⟩
  case body =>
    rintro L pre k a' W hl _ ⟨h0, h2, h3, A2, c2, h4, h5, h6⟩ ⟨hz, rfl⟩ hlen
    have hk : k = pre.length := hz
    rw [← hk] at h0 h4 h5 hlen
    obtain ⟨r, hr⟩ : ∃ r, r = unI l k := ⟨_, rfl⟩
    have hrl : k = r.length := by rw [hr, unI_length]
    rw [← hr] at h5
    rw [hrl] at h4
    have q1 : k * 32 + 32 ≤ l.length := by rw [← HH.out.1, HH.out.2.1]; omega
    have RW := HH.out.2.2.2.2.1.keep h2 (by simp)
    obtain ⟨x, hx⟩ : ∃ x, x = idAt l k := ⟨_, rfl⟩
    have hc1 : Cells W (some ⟨g, o + k * 32 * 1, none⟩) (ic x) := by
      refine Cells.of_cells fun i hi => ?_
      have hi32 : i < 32 := by rwa [ic_length] at hi
      have hq := RW.at (k * 32 + i) (by omega)
      rw [show o + k * 32 * 1 + i = o + (k * 32 + i) by omega, hq]
      congr 1
      simp only [ic, List.getElem_map]
      congr 1
      simp only [hx, idAt_of q1, List.getElem_take, List.getElem_drop]
    have hsn : unI l (k + 1) = r ++ [x] := by rw [unI_snoc, ← hr, hx]
    have hgfar : ∀ i ∈ p :: blk A2, w.heap.size ≤ i := fun i hi => by
      rcases List.mem_cons.1 hi with rfl | hi
      · omega
      · rcases h6 i hi with q | q
        · omega
        · have := mm5.size; omega
    have hgn : g ∉ p :: blk A2 := fun hh => by have := hgfar g hh; have := HH.out.2.2.2.2.2; omega
    have hpA : p ∉ blk A2 := fun hh => by
      rcases h6 p hh with q | q <;> omega
    have hr100 : r.length ≤ 100 := by have := HH.out.2.2.1; omega
    have HB := Lib.hid (And.intro h0 (And.intro h2 (And.intro h3 (And.intro h6 (And.intro hsn (And.intro hrl (And.intro hk hr)))))))
    clear h0 h2 h3 hx hsn hrl RW q1 hk hz
    gi_wp2_with fail
    refine Rgi.wpIn_upx (X := Xk) ⟨0, none, 0⟩ (fun y => [(12, .slice A2 r.length c2), (13, .slice (some ⟨g, o + k * 32 * 1, none⟩) 32 32), (14, .pointer (some ⟨g, o + k * 32 * 1, none⟩)), (15, iv x), (16, .slice (some ⟨y.b, 0, none⟩) 1 1), (17, .slice y.C (r.length + 1) y.c)]) 19 [12, 13, 14, 15, 16, 17] rfl (fun _ => rfl) (by decide) (by kernel_rfl)
      (fun y lz v => SbK (p :: blk A2) W r x A2 c2 (lz 4) (lz 5) y v ∧ Holds v p 33 [if lz 6 = true then .slice y.C (r.length + 1) y.c else .slice A2 r.length c2]) (by kernel_rfl)
      ⟨⟨Mod.drew _ W, fun i hi => List.mem_cons_of_mem _ hi, fun _ => h5, (fun q => by cases q), (fun q => by cases q)⟩, h4⟩ (by kernel_rfl) (by kernel_rfl) ?step ?fin
    case step =>
      intro y lz T v j o' hj hlj hdep hst hpar hgot hcl Kq hK
      obtain ⟨hs, hp⟩ := hst
      have hjn : j < 7 := (Array.getElem?_eq_some_iff.1 hj).1
      obtain rfl | rfl | rfl | rfl | rfl | rfl | rfl : j = 0 ∨ j = 1 ∨ j = 2 ∨ j = 3 ∨ j = 4 ∨ j = 5 ∨ j = 6 := by omega
      all_goals (have hj' := Option.some.inj (hj : some _ = some o'); subst hj'; clear hj)
      · have l6 : lz 6 = false := (by cases hh : lz 6 with | false => rfl | true => exact absurd (hcl 6 _ rfl hh ⟨0, .phase⟩ (by simp) rfl) (by rw [hlj]; simp))
        rw [if_neg (by rw [l6]; simp)] at hp
        exact Rgi.wpi_ran (fun _ => trivial) (by intro c hc; cases hc) rfl (exec_load rfl (eval_tmp ((hpar 3 rfl).trans rfl)) (run_load1 Tryd.underlying33 rfl (by simpa using hp.cell 0))) (hK y _ _ (fun _ _ _ _ _ _ => rfl) (fun s hs => by cases hs; rfl) ⟨hs, by rw [if_neg (by simp [l6])]; exact hp⟩)
      · exact Rgi.wpi_ran (fun _ => trivial) (by intro c hc; cases hc) rfl (exec_move rfl (eval_tmp ((hpar 4 rfl).trans rfl))) (hK y _ _ (fun _ _ _ _ _ _ => rfl) (fun s hs => by cases hs; rfl) ⟨hs, by simpa using hp⟩)
      · exact Rgi.wpi_ran (fun _ => trivial) (by intro c hc; cases hc) rfl (exec_arr Tryd.underlying23 (Nat.le_refl _) rfl (eval_tmp (hgot 1 _ 13 rfl (hdep ⟨1, .data⟩ (by simp) rfl) rfl))) (hK y _ _ (fun _ _ _ _ _ _ => rfl) (fun s hs => by cases hs; rfl) ⟨hs, by simpa using hp⟩)
      · exact Rgi.wpi_ran (fun _ => trivial) (by intro c hc; cases hc) rfl (exec_load rfl (eval_tmp (hgot 2 _ 14 rfl (hdep ⟨2, .data⟩ (by simp) rfl) rfl)) (run_loads (hc1.keep hs.1 (by rintro _ ⟨⟩; exact hgn)) Tryd.underlying23 rfl (size25i x))) (hK y _ _ (fun _ _ _ _ _ _ => rfl) (fun s hs => by cases hs; rfl) ⟨hs, by simpa using hp⟩)
      · have l5 : lz 5 = false := (by cases hh : lz 5 with | false => rfl | true => exact absurd (hcl 5 _ rfl hh ⟨4, .data⟩ (by simp) rfl) (by rw [hlj]; simp))
        have l6 : lz 6 = false := (by cases hh : lz 6 with | false => rfl | true => exact absurd (hcl 6 _ rfl hh ⟨4, .phase⟩ (by simp) rfl) (by rw [hlj]; simp))
        have hs' : SbK (p :: blk A2) W r x A2 c2 (lz 4) false y v := by rw [← l5]; exact hs
        refine Rgi.wpi_ran (fun _ => trivial) (by intro c hc; cases hc) rfl (exec_lit22 rfl (eval_tmp (hgot 3 _ 15 rfl (hdep ⟨3, .data⟩ (by simp) rfl) rfl))) (hK { y with b := v.heap.size } _ _ (fun j' o' s' g1 g2 g3 => by
          have g4 : j' < 7 := (Array.getElem?_eq_some_iff.1 g1).1
          obtain rfl | rfl | rfl | rfl | rfl | rfl | rfl : j' = 0 ∨ j' = 1 ∨ j' = 2 ∨ j' = 3 ∨ j' = 4 ∨ j' = 5 ∨ j' = 6 := by omega
          all_goals (cases g1; cases g3 <;> first | rfl | (rw [hlj] at g2; cases g2) | (rw [l5] at g2; cases g2))) (fun s hs => by cases hs; rfl) ⟨?_, ?_⟩)
        · have := hs'.lit
          simpa [l5] using this
        · simpa [l6] using (show Holds v p 33 _ by simpa [l6] using hp).keep (Mod.alloc [] v _) (by simp)
      · have l6 : lz 6 = false := (by cases hh : lz 6 with | false => rfl | true => exact absurd (hcl 6 _ rfl hh ⟨5, .data⟩ (by simp) rfl) (by rw [hlj]; simp))
        have l4 : lz 4 = true := hdep ⟨4, .data⟩ (by simp) rfl
        have l0 : lz 0 = true := hdep ⟨0, .data⟩ (by simp) rfl
        have hs' : SbK (p :: blk A2) W r x A2 c2 true false y v := by rw [← l4, ← hlj]; exact hs
        obtain ⟨C1, c1, v', hrun, g1, g2⟩ := hs'.app (o := { dst := some 17, op := .call { callee := .builtin .append, args := #[.tmp 12, .tmp 16], argTypes := #[33, 33] }, type := 33, pos := "row.go:110", after := #[], guard := none }) (ρ := T.eval) (.tmp 12) (.tmp 16) rfl (eval_tmp (hgot 0 _ 12 rfl l0 rfl)) (eval_tmp (hgot 4 _ 16 rfl l4 rfl)) (by omega)
        refine Rgi.wpi_ran (fun _ => trivial) (by intro c hc; cases hc) rfl hrun (hK { y with C := C1, c := c1 } _ _ (fun j' o' s' g1 g2 g3 => by
          have g4 : j' < 7 := (Array.getElem?_eq_some_iff.1 g1).1
          obtain rfl | rfl | rfl | rfl | rfl | rfl | rfl : j' = 0 ∨ j' = 1 ∨ j' = 2 ∨ j' = 3 ∨ j' = 4 ∨ j' = 5 ∨ j' = 6 := by omega
          all_goals (cases g1; cases g3 <;> first | rfl | (rw [hlj] at g2; cases g2) | (rw [l6] at g2; cases g2))) (fun s hs => by cases hs; rfl) ⟨by simpa [l4] using g1, ?_⟩)
        simpa [l6] using (show Holds v p 33 _ by simpa [l6] using hp).keep g2 hpA
      · have l5 : lz 5 = true := hdep ⟨5, .data⟩ (by simp) rfl
        have l4 : lz 4 = true := hdep ⟨4, .phase⟩ (by simp) rfl
        have hp' : Holds v p 33 [.slice A2 r.length c2] := by simpa [hlj] using hp
        obtain ⟨it, hit, hi1⟩ : ∃ it, Tryd.prog.info? 33 = some it ∧ it.size = 1 := by
          have := size22
          cases hq : Tryd.prog.info? 33 with
          | none => rw [hq] at this; cases this
          | some it => exact ⟨it, rfl, by rw [hq] at this; simpa using this⟩
        have ms : Mod [p] v (v.setCell ⟨p, 0, none⟩ (.slice y.C (r.length + 1) y.c)) := Mod.setCell v (by simp) _
        refine Rgi.wpi_skip (fun _ => trivial) (by intro c hc; cases hc) rfl (exec_store1 rfl (eval_tmp ((hpar 3 rfl).trans rfl)) (eval_tmp (hgot 5 _ 17 rfl l5 rfl)) (slice_one _ _ _) hit hi1 (hp'.cell 0) (hp'.free 0)) (hK y _ _ (fun _ _ _ _ _ _ => rfl) (fun s hs => by cases hs) ⟨?_, ?_⟩)
        · obtain ⟨q1, q2, q3, q4, q5⟩ := hs
          have q6 := q5 l5
          have hpC : p ∉ blk y.C := fun hh => by
            obtain ⟨u, hu, hu2⟩ := mem_blk hh
            exact q6.1.ne hp' (by decide) u hu hu2
          refine ⟨q1.trans ms (fun i _ h => by simp at h; simp [h]), q2, fun q => ?_, fun _ q => ?_, fun _ => ⟨q6.1.keep ms (fun a ha hh => hpC (by simp at hh; simp [blk, ha, hh])), q6.2⟩⟩
          · simp [l5] at q
          · simp [l5] at q
        · simpa using hp'.set 0 (.slice y.C (r.length + 1) y.c)
    case fin =>
      intro y lz v hl' hst
      obtain ⟨⟨q1, q2, -, -, q5⟩, hp⟩ := hst
      have q6 := q5 (hl' 5 (by decide))
      have hp6 : Holds v p 33 [.slice y.C (r.length + 1) y.c] := by simpa [hl' 6 (by decide)] using hp
      obtain ⟨h0, h2, h3, h6', hsn, hrl, hk, hr'⟩ := HB.out
      have HV := Lib.hid (And.intro q1 (And.intro q2 (And.intro q6 hp6)))
      clear q1 q2 q5 q6 hp hp6
      gi_wp2_with fail
      obtain ⟨q1, q2, q6, hp6⟩ := HV.out
      refine ⟨⟨q1.size, fun k' o' _ hk' hc => (q1.block k' (Array.getElem?_eq_some_iff.1 hk').1 (fun hm => ?_)).trans hk'⟩, q1.keepL _ (fun i hi hlt => ?_), ?_, h2.trans q1 (fun i hi hm => by have := hgfar i hm; omega), Nat.le_trans h3 q1.size, y.C, y.c, ?_, ?_, ?_⟩
      · rcases List.mem_cons.1 hm with q | q
        · subst q
          unfold Holds at h4
          rw [h4] at hk'
          cases hk'
          cases hc
        · rw [h5.isCells q hk'] at hc
          cases hc
      · rcases List.mem_cons.1 hi with q | q
        · simp [q]
        · rcases h6 i q with q' | q'
          · simp [q']
          · omega
      · rw [List.length_append, show [k].length = 1 from rfl, ← hk, List.range_succ, ← h0]
      · rw [List.length_append, show [k].length = 1 from rfl, ← hk, hrl]
        exact hp6
      · rw [List.length_append, show [k].length = 1 from rfl, ← hk, hsn]
        exact q6.1
      · intro i hi
        rcases q6.2 i hi with q | q
        · exact h6 i q
        · right; omega
  case done =>
    rintro D xs W hD hxs ⟨h0, h2, h3, A, c', h4, h5, h6⟩ hK
    rw [hxs] at h4 h5
    have HV := Lib.hid (And.intro h2 (And.intro hK (And.intro h5 h6)))
    clear h0 h2 h3 h5 h6 hK
    have hq0 := h4.cell 0
    simp only [List.getElem?_cons_zero] at hq0
    go_wp2_with (first
      | (with_reducible refine wpList_load1 (o := ⟨some 18, .load 33 (.tmp 3), _, _, _, _⟩) rfl 33 (.tmp 3) rfl ⟨p, 0, none⟩ (.slice A h c') rfl _ Tryd.underlying33 rfl hq0 ?_))
    obtain ⟨h3, hK, h5, h6⟩ := HV.out
    have hM : Mod [] w (W.putObj D (.deferred none)) := mod_own h3 (grownBy_putObj' W D (.deferred none)) (fun r e => by cases e; have := mm5.size; omega)
    have hO5 : OwnG ic 23 32 (W.putObj D (.deferred none)) A c' (unI l h) := h5.own (grownBy_putObj' W D (.deferred none)) (fun r e => by cases e; exact ⟨_, hK, rfl⟩)
    refine ⟨by simp, .inl ⟨_, _, rfl, run_takeDeferred hK, ?_⟩⟩
    exact ⟨_, results_tmp rfl _ _ _, A, c', rfl, hO5, hM, fun i hi => by
      rcases h6 i hi with q | q
      · omega
      · have := mm5.size; omega⟩
  case stop =>
    rintro D cd pre W hD _ hf hK
    exact hf.elim
end Go.Proofs.YtbacmeaeehhhfaaDoor
