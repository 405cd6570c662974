/-
  Package wots: a seed's signature. My own work.
-/
import Derived.Test.YtdolihecjomjiaaDoorWk
namespace Go.Proofs.YtdolihecjomjiaaDoor
open Go.RowKit Go.Shelf
attribute [local go_sem] Oper.semAt_some
theorem exec_ixs {P : Program} {v : World} {o : Oper} {ρ : Operand → Value} {t e : TypeId} {n c g f z : Nat} {x y : Operand} {i : Nat} (hu : P.underlying t = some (.slice e)) (he : (P.info? e).map (·.size) = some z) (hi : i < n) (ho : o.op = .indexAddr t x y) (hx : ρ x = .slice (some ⟨g, f, none⟩) n c) (hy : ρ y = .int .i64 (i : Int)) :
    (execOp ρ o).run P v = .ok (.value (.pointer (some ⟨g, f + i * z, none⟩))) v := by
  unfold execOp
  cases hq : P.info? e with
  | none => rw [hq] at he; cases he
  | some it =>
    have hs : it.size = z := by rw [hq] at he; simpa using he
    simp [ho, hx, hy, Instr.indexAt, Sem.run_bind, run_underlying hu, go_sem, sizeOf, typeInfo, hq, hs, hi, add_plain]
theorem size3 : (Tryd.prog.info? 3).map (·.size) = some 1 := by kernel_rfl
theorem size26s : (Tryd.prog.info? 26).map (·.size) = some 1 := by kernel_rfl
theorem zero26s : ∀ w, (zeroValue 26).run Tryd.prog w = .ok (.slice none 0 0) w := by
  intro w; go_simp
/-- The digit of a chain. -/
def dgt (m : Idv) (i : Nat) : Nat := (digitsN m).getD i 0
theorem dgt_le (m : Idv) (i : Nat) : dgt m i ≤ 15 := by
  unfold dgt
  rw [List.getD_eq_getElem?_getD]
  by_cases h : i < (digitsN m).length
  · rw [List.getElem?_eq_getElem h]
    have := digitsN_lt (List.getElem_mem h)
    simp; omega
  · rw [List.getElem?_eq_none (by omega)]; simp
/-- What is shown of a chain. -/
def shwI (m : Idv) (y : Nat × Idv) : Idv := walkI y.1 0 (dgt m y.1) y.2
def signI (x m : Idv) : List Idv := (stsI x 67).map (shwI m)
set_option maxRecDepth 100000 in
set_option maxHeartbeats 4000000 in
theorem sign_c (x m : Idv) (w : World) (Gl : Glob w) :
    Calls Tryd.prog 19 #[iv x, iv m] w fun r w' => ∃ A c, r = .returned (.slice A 67 c) ∧ OwnG ic 25 32 w' A c (signI x m) ∧ Mod [] w w' ∧ (∀ i ∈ blk A, w.heap.size ≤ i) := by
  obtain ⟨i0, j1, j2, j3, j4⟩ := info_parts id_parts
  have HI := Lib.hid (And.intro j1 (And.intro j2 (And.intro j3 j4)))
  have HH := Lib.hid Gl
  clear Gl j1 j2 j3 j4
  refine (callsIn_wide (n := 5)).1 ?_
  refine callsIn_of_wp_marks Tryd.func19 rfl trivial ?_ rfl
  simp only [Tryd.ntmps19, List.size_toArray, List.length_cons, List.length_nil, Nat.reduceAdd, Nat.reduceSub, Array.replicate_succ, Array.replicate_zero, List.push_toArray, List.append_toArray, List.nil_append, List.cons_append]
  refine wpIn_wide.2 ?_
  go_wp2_with (first
    | (with_reducible refine wpList_boxes (o := ⟨some 2, .box 25 (.tmp 0), _, _, _, _⟩) rfl 25 (.tmp 0) rfl _ rfl (ic x) rfl ?_; intro w1 hb1 m1 z1; replace z1 := Lib.hid z1)
    | (with_reducible refine wpList_boxes (o := ⟨some 3, .box 25 (.tmp 1), _, _, _, _⟩) rfl 25 (.tmp 1) rfl _ rfl (ic m) rfl ?_; intro w2 hb2 m2 z2; replace z2 := Lib.hid z2)
    | (with_reducible refine wpList_loads (o := ⟨some 9, .load 25 (.tmp 3), _, _, _, _⟩) rfl 25 (.tmp 3) rfl w1.heap.size 0 _ rfl (Cells.of_holds hb2) _ Tryd.underlying25 rfl (size25i m) (iv m) rfl ?_)
    | (go_at_call 11; refine (digits_c m w2).mono ?_
       rintro e w3 ⟨Ad, cd, rfl, hd3, m3, q3⟩)
    | (with_reducible refine wpList_alloc1 (o := ⟨some 5, .alloc 26, _, _, _, _⟩) rfl 26 rfl (.slice none 0 0) (slice_one _ _ _) zero26s ?_
       intro w4 hb4 m4 z4
       have k4 := hb4
       obtain ⟨bd, hbd⟩ : ∃ q, q = w3.heap.size := ⟨_, rfl⟩
       rw [← hbd] at k4 ⊢
       replace z4 := Lib.hid z4
       replace hbd := Lib.hid hbd
       clear hb4)
    | (with_reducible refine wpList_store1 (o := ⟨none, .store 26 (.tmp 5) (.tmp 10), _, _, _, _⟩) rfl 26 (.tmp 5) (.tmp 10) rfl rfl bd (.slice Ad 67 cd) rfl rfl (slice_one _ _ _) size26s 26 (.slice none 0 0) k4 ?_
       intro w5 k5 m5 z5
       replace z5 := Lib.hid z5
       clear k4)
    | (with_reducible refine wpList_make0G ic (o := ⟨some 11, .makeSlice 22 _ _, _, _, _, _⟩) rfl 22 _ _ rfl 25 i0 (iv zeroI) 32 32 67 Tryd.underlying22 HI.out.1 HI.out.2.1 HI.out.2.2.1 HI.out.2.2.2 rfl rfl d67 m67 ?_
       intro w6 hO m6 z6; replace z6 := Lib.hid z6)
    | (with_reducible refine wpList_alloc1 (o := ⟨some 6, .alloc 22, _, _, _, _⟩) rfl 22 rfl (.slice none 0 0) (slice_one _ _ _) zero22 ?_
       intro w7 hb7 m7 z7
       have y1 := z1.out
       have y2 := z2.out
       have y4 := z4.out
       have y5 := z5.out
       have y6 := z6.out
       have y3 := m3.size
       have hbde := hbd.out
       obtain ⟨b1, hq1⟩ : ∃ q, q = w.heap.size := ⟨_, rfl⟩
       obtain ⟨b2, hq2⟩ : ∃ q, q = w1.heap.size := ⟨_, rfl⟩
       obtain ⟨b3, hq3⟩ : ∃ q, q = w5.heap.size := ⟨_, rfl⟩
       obtain ⟨p, hq⟩ : ∃ q, q = w6.heap.size := ⟨_, rfl⟩
       have m35 : Mod [] w3 w5 := far_mod m4 m5 (by simp; omega)
       have k1 : Holds w7 b1 25 (ic x) := by rw [hq1]; exact ((((hb1.keep m2 (by simp)).keep m3 (by simp)).keep m35 (by simp)).keep m6 (by simp)).keep m7 (by simp)
       have kd : Holds w7 bd 26 [.slice Ad 67 cd] := (k5.keep m6 (by simp)).keep m7 (by simp)
       have kD : OwnG fi 3 1 w7 Ad cd (digitsN m) := ((hd3.keep m35 (by simp)).keep m6 (by simp)).keep m7 (by simp)
       have kA : ∀ i ∈ blk Ad, i < bd := fun i hi => by have := hd3.notin hi; omega
       have k3 : OwnG ic 25 32 w7 (some ⟨b3, 0, none⟩) 67 [] := by rw [hq3]; exact hO.keep m7 (by simp)
       have mm7 : Mod [] w w7 := (((((m1.then m2).then m3).then m35).then m6).then m7)
       have o1 : b1 < b2 := by omega
       have o2 : b2 < bd := by omega
       have o3 : bd < b3 := by omega
       have o3' : b3 < p := by omega
       have o4 : w7.heap.size = p + 1 := by omega
       have o5 : w.heap.size ≤ b1 := by omega
       have k7 := hb7
       rw [← hq] at k7 ⊢
       rw [← hq1, ← hq2, ← hq3]
       clear hb1 m1 z1 hb2 m2 z2 hO m3 z4 m4 z5 m5 z6 m6 hb7 m7 z7 hq hq1 hq2 hq3 y1 y2 y3 y4 y5 y6 hbde hbd hd3 q3 k5 m35
       replace o4 := Lib.hid o4)
    | (with_reducible refine wpList_store1 (o := ⟨none, .store 22 (.tmp 6) (.tmp 11), _, _, _, _⟩) rfl 22 (.tmp 6) (.tmp 11) rfl rfl p (.slice (some ⟨b3, 0, none⟩) 0 67) rfl rfl (slice_one _ _ _) size22 22 (.slice none 0 0) k7 ?_
       intro w4' k4' m4' z4'
       replace o4 := Lib.hid (show w4'.heap.size = p + 1 by have := o4.out; omega)
       have HK := Lib.hid (And.intro (k1.keep m4' (by simp; omega)) (And.intro (kd.keep m4' (by simp; omega)) (And.intro (k3.keep m4' (by rintro _ ⟨⟩; simp; omega)) (And.intro (far_mod mm7 m4' (by simp; omega)) (And.intro k4' (kD.keep m4' (fun a ha hh => by have := kA a.block (by simp [blk, ha]); simp at hh; omega)))))))
       clear k1 kd k3 mm7 k7 k4' m4' z4' kD)
    | (with_reducible refine wpList_loads (o := ⟨some 12, .load 25 (.tmp 2), _, _, _, _⟩) rfl 25 (.tmp 2) rfl b1 0 _ rfl (Cells.of_holds HK.out.1) _ Tryd.underlying25 rfl (size25i x) (iv x) rfl ?_)
    | (go_at_call 33; refine (starts_c x _).mono ?_
       rintro e w5' ⟨rfl, hs5, m5, z5⟩
       obtain ⟨bs, hbs⟩ : ∃ q, q = w4'.heap.size := ⟨_, rfl⟩
       rw [← hbs] at hs5 ⊢
       replace z5 := Lib.hid z5
       replace hbs := Lib.hid hbs))
  obtain ⟨k1, kd, k3, mm4, k4, kD⟩ := HK.out
  have mm5 : Mod [] w w5' := mm4.then m5
  replace kd := kd.keep m5 (by simp)
  replace kD := kD.keep m5 (by simp)
  replace k3 := k3.keep m5 (by simp)
  replace k4 := k4.keep m5 (by simp)
  have o6 : bs = p + 1 := by rw [hbs.out, o4.out]
  have o7 : w5'.heap.size = bs + 1 := by rw [z5.out, hbs.out]
  have hB : Bs [b3, p] w5'.heap.size bs x w5' := ⟨HH.out.then mm5, hs5, by have := HH.out.two; simp; omega⟩
  clear m5 z5 hbs k1 o4
  refine (wpIn_wide (n := 5)).1 ?_
  refine wpIn_rangeFunc_with (F := Fence.wide) (n := 5) rfl (by omega) (gf := 42) (lb := #[.pointer (some ⟨bs, 0, none⟩)]) rfl trivial (enters_of Tryd.func42 (by kernel_rfl) rfl)
    (starts_with 4 (by omega) bs w5'.heap.size [b3, p] x w5' hB (Nat.le_refl _))
    (fun h k => h.trans k) (fun W l o o' hl ho h1 _ => ?hKb) (Below.refl _ _) (fun _ => rfl)
    (fun pre W => pre = stsI x pre.length ∧ (Holds W bd 26 [.slice Ad 67 cd] ∧ OwnG fi 3 1 W Ad cd (digitsN m)) ∧ Mod [] w W ∧ w5'.heap.size ≤ W.heap.size ∧ ∃ A c, Holds W p 22 [.slice A pre.length c] ∧ OwnG ic 25 32 W A c (pre.map (shwI m)) ∧ (∀ i ∈ blk A, i = b3 ∨ w5'.heap.size ≤ i))
    (fun _ _ _ => False)
    (fun s A B row hs hg hr => ?hI) (fun _ _ _ _ _ hs _ _ => hs.elim) ⟨rfl, ⟨kd, kD⟩, mm5, Nat.le_refl _, some ⟨b3, 0, none⟩, 67, k4, k3, fun i hi => .inl (by simpa [blk] using hi)⟩
    (fun pre z a' W => z = (pre.length, startI pre.length x) ∧ ∃ Bx, w5'.heap.size ≤ Bx ∧ Holds W Bx 25 (ic z.2) ∧ (∃ A n c, Holds W p 22 [.slice A n c] ∧ Bx ∉ blk A) ∧ a' = { tmps := #[iv x, iv m, .pointer (some ⟨b1, 0, none⟩), .pointer (some ⟨b2, 0, none⟩), .slice none 0 0, .pointer (some ⟨bd, 0, none⟩), .pointer (some ⟨p, 0, none⟩), .int .i64 (z.1 : Int), .pointer (some ⟨Bx, 0, none⟩), iv m, .slice Ad 67 cd, .slice (some ⟨b3, 0, none⟩) 0 67, iv x, .func (.func 42) #[] #[.pointer (some ⟨bs, 0, none⟩)], .int .i64 (z.1 : Int), iv z.2, undef, undef, undef, undef, undef, undef, undef, undef, undef, undef, undef], defers := [] })
    (fun pre z a' s A B row hs hg hr => ?hAx) ?assign ?body ?done ?stop
  case hKb =>
    exact ⟨by simp [World.putObj], fun k hk _ _ => World.putObj_heap_other (by omega)⟩
  case hI =>
    obtain ⟨h0, ⟨h1, h1'⟩, h2, h3, A', c, h4, h5, h6⟩ := hs
    exact ⟨h0, ⟨holds_own h1 hg (fun r e => (hr r e).2), h1'.own hg (fun r e => (hr r e).2)⟩, mod_own h2 hg (fun r e => Nat.le_trans mm5.size (hr r e).1), Nat.le_trans h3 hg.size, A', c, holds_own h4 hg (fun r e => (hr r e).2), h5.own hg (fun r e => (hr r e).2), h6⟩
  case hAx =>
    obtain ⟨h0, Bx, h1, h2, ⟨A, n, c, h4, h5⟩, h3⟩ := hs
    exact ⟨h0, Bx, h1, holds_own h2 hg (fun r e => (hr r e).2), ⟨A, n, c, holds_own h4 hg (fun r e => (hr r e).2), h5⟩, h3⟩
  case assign =>
    rintro l pre z W K ⟨h0, ⟨h1, h1'⟩, h2, h3, A', c, h4, h5, h6⟩ hF hK
    rw [zip_two]
    change Code.wpIn _ _ _ _ _ { tmps := #[iv x, iv m, .pointer (some ⟨b1, 0, none⟩), .pointer (some ⟨b2, 0, none⟩), .slice none 0 0, .pointer (some ⟨bd, 0, none⟩), .pointer (some ⟨p, 0, none⟩), undef, undef, iv m, .slice Ad 67 cd, .slice (some ⟨b3, 0, none⟩) 0 67, iv x, .func (.func 42) #[] #[.pointer (some ⟨bs, 0, none⟩)], .int .i64 (z.1 : Int), iv z.2, undef, undef, undef, undef, undef, undef, undef, undef, undef, undef, undef], defers := [] } W
    gi_wp2_with (first
      | (with_reducible refine wpListIn_allocs (o := ⟨some 8, .alloc 25, _, _, _, _⟩) rfl 25 rfl _ zeroI_25 ?_; intro v1 hv1 mv1 zv1)
      | (with_reducible refine wpListIn_storesAll (o := ⟨none, .store 25 (.tmp 8) (.tmp 15), _, _, _, _⟩) rfl 25 (.tmp 8) (.tmp 15) rfl rfl W.heap.size (ic z.2) rfl (iv z.2) rfl rfl 25 _ hv1 (by rw [ic_length, ic_length]) (ic_one z.2) (size25i z.2) ?_; intro v2 hv2 mv2 zv2))
    have mv : Mod [] W v2 := mv1.trans mv2 (by intro i hi h; simp at h; omega)
    exact hK _ _ (mv.keepsFrom _) (mv.keepL _ (fun _ h => by cases h)) ⟨h0, ⟨h1.keep mv (by simp), h1'.keep mv (by simp)⟩, h2.then mv, Nat.le_trans h3 mv.size, A', c, h4.keep mv (by simp), h5.keep mv (by simp), h6⟩ ⟨hF, W.heap.size, h3, hv2, ⟨A', _, c, h4.keep mv (by simp), fun hh => by have := h5.notin hh; omega⟩, rfl⟩
  case body =>
    rintro l pre z a' W hl _ ⟨h0, ⟨h1, h1'⟩, h2, h3, A, c, h4, h5, h6⟩ ⟨hz, Bx, hBx, hX, ⟨A2, n2, c2, h7, h8⟩, rfl⟩ hlen
    obtain rfl := h7.slice_inj h4
    obtain ⟨e, he⟩ : ∃ e, e = shwI m z := ⟨_, rfl⟩
    obtain ⟨r, hr⟩ : ∃ r, r = pre.map (shwI m) := ⟨_, rfl⟩
    have hrl : pre.length = r.length := by rw [hr, List.length_map]
    rw [← hr] at h5
    rw [hrl] at h4
    have hz67 : z.1 < 67 := by rw [hz]; exact hlen
    have hz1 : z.1 < 256 := by omega
    have hfar : ∀ i ∈ p :: blk A2, w.heap.size ≤ i := fun i hi => by
      rcases List.mem_cons.1 hi with rfl | hi
      · omega
      · rcases h6 i hi with q | q
        · omega
        · have := mm5.size; omega
    have hpA : p ∉ blk A2 := fun hh => by
      rcases h6 p hh with q | q <;> omega
    have hlow : ∀ i, i ≤ bd → i ∉ p :: blk A2 := fun i hi hh => by
      rcases List.mem_cons.1 hh with q | q
      · omega
      · rcases h6 i q with q | q <;> omega
    have hBxA : Bx ∉ p :: blk A2 := fun hh => by
      rcases List.mem_cons.1 hh with q | q
      · subst q
        unfold Holds at hX h4
        rw [h4] at hX
        simp at hX
      · exact h8 q
    clear h7 h8
    have hGl : ∀ v, Mod (p :: blk A2) W v → Glob v := fun v m => (HH.out.then h2).keep m (fun i hi => by have := hfar i hi; have := HH.out.two; omega)
    have hr67 : r.length < 67 := by omega
    obtain ⟨gd, od, hAd, hcd⟩ := h1'.int_at z.1 (by rw [digitsN_length]; exact hz67)
    obtain ⟨dg, hdg⟩ : ∃ d, d = dgt m z.1 := ⟨_, rfl⟩
    have hdgc : (digitsN m)[z.1]'(by rw [digitsN_length]; exact hz67) = dg := by rw [hdg]; unfold dgt; rw [List.getD_eq_getElem?_getD, List.getElem?_eq_getElem (by rw [digitsN_length]; exact hz67)]; rfl
    rw [hdgc] at hcd
    have hdg15 : dg ≤ 15 := by rw [hdg]; exact dgt_le m _
    have hee : walkI z.1 0 dg z.2 = e := by rw [he, hdg]; rfl
    have hgd : gd ≤ bd := by have := kA gd (by simp [blk, hAd]); omega
    have HB := Lib.hid (And.intro h0 (And.intro h1 (And.intro h2 (And.intro h3 (And.intro h1' (And.intro h5 h6))))))
    have hbd1 : ∀ v, Mod (p :: blk A2) W v → Holds v bd 26 [.slice Ad 67 cd] := fun v mv => h1.keep mv (hlow bd (Nat.le_refl _))
    have hcd1 : ∀ v, Mod (p :: blk A2) W v → v.cell? ⟨gd, od + z.1, none⟩ = some (.int .i64 (dg : Int)) := fun v mv => Mod.cell mv (hlow gd hgd) hcd
    clear h0 h1 h2 h3 h6 hcd hdgc hdg
    gi_wp2_with fail
    refine Rgi.wpIn_regx (X := Xk) ⟨0, none, 0⟩ (fun y => [iv x, iv m, .pointer (some ⟨b1, 0, none⟩), .pointer (some ⟨b2, 0, none⟩), .slice none 0 0, .pointer (some ⟨bd, 0, none⟩), .pointer (some ⟨p, 0, none⟩), .int .i64 (z.1 : Int), .pointer (some ⟨Bx, 0, none⟩), iv m, .slice Ad 67 cd, .slice (some ⟨b3, 0, none⟩) 0 67, iv x, .func (.func 42) #[] #[.pointer (some ⟨bs, 0, none⟩)], .int .i64 (z.1 : Int), iv z.2, .slice A2 r.length c, iv z.2, .int .i64 (z.1 : Int), .slice Ad 67 cd, .int .i64 (z.1 : Int), .pointer (some ⟨gd, od + z.1 * 1, none⟩), .int .i64 (dg : Int), iv e, .slice (some ⟨y.b, 0, none⟩) 1 1, .slice y.C (r.length + 1) y.c, undef]) 27 [0, 1, 2, 3, 4, 5, 6, 7, 8, 9, 10, 11, 12, 13, 14, 15, 26]
      (fun y lz v => SbK (p :: blk A2) W r e A2 c (lz 8) (lz 9) y v ∧ Holds v p 22 [if lz 10 = true then .slice y.C (r.length + 1) y.c else .slice A2 r.length c]) []
      (by kernel_rfl) (fun _ => rfl) rfl rfl rfl (fun _ => by simp only [List.map_cons, List.map_nil, List.getD_cons_zero, List.getD_cons_succ])
      ⟨⟨Mod.drew _ W, fun i hi => List.mem_cons_of_mem _ hi, fun _ => h5, (fun q => by cases q), (fun q => by cases q)⟩, h4⟩ (by kernel_rfl) (by kernel_rfl) ?step ?fin
    case step =>
      intro y lz T v j o hj hlj hdep hst hpar hgot hcl Kq hK
      obtain ⟨hs, hp⟩ := hst
      have hjn : j < 11 := (Array.getElem?_eq_some_iff.1 hj).1
      obtain rfl | rfl | rfl | rfl | rfl | rfl | rfl | rfl | rfl | rfl | rfl : j = 0 ∨ j = 1 ∨ j = 2 ∨ j = 3 ∨ j = 4 ∨ j = 5 ∨ j = 6 ∨ j = 7 ∨ j = 8 ∨ j = 9 ∨ j = 10 := by omega
      all_goals (have hj' := Option.some.inj (hj : some _ = some o); subst hj'; clear hj)
      · have l10 : lz 10 = false := (by cases hh : lz 10 with | false => rfl | true => exact absurd (hcl 10 _ rfl hh ⟨0, .phase⟩ (by simp) rfl) (by rw [hlj]; simp))
        rw [if_neg (by rw [l10]; simp)] at hp
        exact Rgi.wpi_ran (fun _ => trivial) (by intro c hc; cases hc) rfl (exec_load rfl (eval_tmp (hpar 6 (by simp))) (run_load1 Tryd.underlying22 rfl (by simpa using hp.cell 0))) (hK y _ _ (fun _ _ _ _ _ _ => rfl) (fun s hs => by cases hs; rfl) ⟨hs, by rw [if_neg (by simp [l10])]; exact hp⟩)
      · exact Rgi.wpi_ran (fun _ => trivial) (by intro c hc; cases hc) rfl (exec_load rfl (eval_tmp (hpar 8 (by simp))) (run_loads (Cells.of_holds (hX.keep hs.1 hBxA)) Tryd.underlying25 rfl (size25i z.2))) (hK y _ _ (fun _ _ _ _ _ _ => rfl) (fun s hs => by cases hs; rfl) ⟨hs, by simpa using hp⟩)
      · exact Rgi.wpi_ran (fun _ => trivial) (by intro c hc; cases hc) rfl (exec_move rfl (eval_tmp (hpar 7 (by simp)))) (hK y _ _ (fun _ _ _ _ _ _ => rfl) (fun s hs => by cases hs; rfl) ⟨hs, by simpa using hp⟩)
      · exact Rgi.wpi_ran (fun _ => trivial) (by intro c hc; cases hc) rfl (exec_load rfl (eval_tmp (hpar 5 (by simp))) (run_load1 Tryd.underlying26 rfl (by simpa using (hbd1 v hs.1).cell 0))) (hK y _ _ (fun _ _ _ _ _ _ => rfl) (fun s hs => by cases hs; rfl) ⟨hs, by simpa using hp⟩)
      · exact Rgi.wpi_ran (fun _ => trivial) (by intro c hc; cases hc) rfl (exec_move rfl (eval_tmp (hpar 7 (by simp)))) (hK y _ _ (fun _ _ _ _ _ _ => rfl) (fun s hs => by cases hs; rfl) ⟨hs, by simpa using hp⟩)
      · exact Rgi.wpi_ran (fun _ => trivial) (by intro c hc; cases hc) rfl (exec_ixs Tryd.underlying26 size3 hz67 rfl (by rw [← hAd]; exact eval_tmp (hgot 3 _ 19 rfl (hdep ⟨3, .data⟩ (by simp) rfl) rfl)) (eval_tmp (hgot 4 _ 20 rfl (hdep ⟨4, .data⟩ (by simp) rfl) rfl))) (hK y _ _ (fun _ _ _ _ _ _ => rfl) (fun s hs => by cases hs; rfl) ⟨hs, by simpa using hp⟩)
      · exact Rgi.wpi_ran (fun _ => trivial) (by intro c hc; cases hc) rfl (exec_load rfl (eval_tmp (hgot 5 _ 21 rfl (hdep ⟨5, .data⟩ (by simp) rfl) rfl)) (run_load1 Tryd.underlying3 rfl (by rw [Nat.mul_one]; exact hcd1 v hs.1))) (hK y _ _ (fun _ _ _ _ _ _ => rfl) (fun s hs => by cases hs; rfl) ⟨hs, by simpa using hp⟩)
      · refine Rgi.wpi_called (fun _ => trivial) (by intro c hc; cases hc) rfl (by intro h; cases h) (exec_call4 rfl rfl (eval_tmp (hgot 1 _ 17 rfl (hdep ⟨1, .data⟩ (by simp) rfl) rfl)) (eval_tmp (hgot 2 _ 18 rfl (hdep ⟨2, .data⟩ (by simp) rfl) rfl)) rfl (eval_tmp (hgot 6 _ 22 rfl (hdep ⟨6, .data⟩ (by simp) rfl) rfl)) (enters_of Tryd.func31 (by kernel_rfl) rfl)) ((CallsIn.inRound l (callsIn_wide.2 (reached_c z.2 z.1 0 dg dg (by omega) hz1 hdg15 v (hGl v hs.1)))).mono ?_)
        rintro e' v' ⟨rfl, mm⟩
        exact ⟨_, rfl, hK y _ _ (fun _ _ _ _ _ _ => rfl) (fun s hs => by cases hs; rw [hee]; rfl) ⟨hs.mod0 mm, by simpa using hp.keep mm (by simp)⟩⟩
      · have l9 : lz 9 = false := (by cases hh : lz 9 with | false => rfl | true => exact absurd (hcl 9 _ rfl hh ⟨8, .data⟩ (by simp) rfl) (by rw [hlj]; simp))
        have l10 : lz 10 = false := (by cases hh : lz 10 with | false => rfl | true => exact absurd (hcl 10 _ rfl hh ⟨8, .phase⟩ (by simp) rfl) (by rw [hlj]; simp))
        have hs' : SbK (p :: blk A2) W r e A2 c (lz 8) false y v := by rw [← l9]; exact hs
        refine Rgi.wpi_ran (fun _ => trivial) (by intro c hc; cases hc) rfl (exec_lit22 rfl (eval_tmp (hgot 7 _ 23 rfl (hdep ⟨7, .data⟩ (by simp) rfl) rfl))) (hK { y with b := v.heap.size } _ _ (fun j' o' s' g1 g2 g3 => by
          have g4 : j' < 11 := (Array.getElem?_eq_some_iff.1 g1).1
          obtain rfl | rfl | rfl | rfl | rfl | rfl | rfl | rfl | rfl | rfl | rfl : j' = 0 ∨ j' = 1 ∨ j' = 2 ∨ j' = 3 ∨ j' = 4 ∨ j' = 5 ∨ j' = 6 ∨ j' = 7 ∨ j' = 8 ∨ j' = 9 ∨ j' = 10 := by omega
          all_goals (cases g1; cases g3 <;> first | rfl | (rw [hlj] at g2; cases g2) | (rw [l9] at g2; cases g2))) (fun s hs => by cases hs; rfl) ⟨?_, ?_⟩)
        · have := hs'.lit
          simpa [l9] using this
        · simpa [l10] using (show Holds v p 22 _ by simpa [l10] using hp).keep (Mod.alloc [] v _) (by simp)
      · have l10 : lz 10 = false := (by cases hh : lz 10 with | false => rfl | true => exact absurd (hcl 10 _ rfl hh ⟨9, .data⟩ (by simp) rfl) (by rw [hlj]; simp))
        have l8 : lz 8 = true := hdep ⟨8, .data⟩ (by simp) rfl
        have l0 : lz 0 = true := hdep ⟨0, .data⟩ (by simp) rfl
        have hs' : SbK (p :: blk A2) W r e A2 c true false y v := by rw [← l8, ← hlj]; exact hs
        obtain ⟨C1, c1, v', hrun, g1, g2⟩ := hs'.app (o := { dst := some 25, op := .call { callee := .builtin .append, args := #[.tmp 16, .tmp 24], argTypes := #[22, 22] }, type := 22, pos := "wots.go:58", after := #[], guard := none }) (ρ := T.eval) (.tmp 16) (.tmp 24) rfl (eval_tmp (hgot 0 _ 16 rfl l0 rfl)) (eval_tmp (hgot 8 _ 24 rfl l8 rfl)) (by omega)
        refine Rgi.wpi_ran (fun _ => trivial) (by intro c hc; cases hc) rfl hrun (hK { y with C := C1, c := c1 } _ _ (fun j' o' s' g1 g2 g3 => by
          have g4 : j' < 11 := (Array.getElem?_eq_some_iff.1 g1).1
          obtain rfl | rfl | rfl | rfl | rfl | rfl | rfl | rfl | rfl | rfl | rfl : j' = 0 ∨ j' = 1 ∨ j' = 2 ∨ j' = 3 ∨ j' = 4 ∨ j' = 5 ∨ j' = 6 ∨ j' = 7 ∨ j' = 8 ∨ j' = 9 ∨ j' = 10 := by omega
          all_goals (cases g1; cases g3 <;> first | rfl | (rw [hlj] at g2; cases g2) | (rw [l10] at g2; cases g2))) (fun s hs => by cases hs; rfl) ⟨by simpa [l8] using g1, ?_⟩)
        simpa [l10] using (show Holds v p 22 _ by simpa [l10] using hp).keep g2 hpA
      · have l9 : lz 9 = true := hdep ⟨9, .data⟩ (by simp) rfl
        have hp' : Holds v p 22 [.slice A2 r.length c] := by simpa [hlj] using hp
        obtain ⟨it, hit, hi1⟩ : ∃ it, Tryd.prog.info? 22 = some it ∧ it.size = 1 := by
          have := size22
          cases hq : Tryd.prog.info? 22 with
          | none => rw [hq] at this; cases this
          | some it => exact ⟨it, rfl, by rw [hq] at this; simpa using this⟩
        have ms : Mod [p] v (v.setCell ⟨p, 0, none⟩ (.slice y.C (r.length + 1) y.c)) := Mod.setCell v (by simp) _
        refine Rgi.wpi_skip (fun _ => trivial) (by intro c hc; cases hc) rfl (exec_store1 rfl (eval_tmp (hpar 6 (by simp))) (eval_tmp (hgot 9 _ 25 rfl l9 rfl)) (slice_one _ _ _) hit hi1 (hp'.cell 0) (hp'.free 0)) (hK y _ _ (fun _ _ _ _ _ _ => rfl) (fun s hs => by cases hs) ⟨?_, ?_⟩)
        · obtain ⟨q1, q2, q3, q4, q5⟩ := hs
          have q6 := q5 l9
          have hpC : p ∉ blk y.C := fun hh => by
            obtain ⟨u, hu, hu2⟩ := mem_blk hh
            exact q6.1.ne hp' (by decide) u hu hu2
          refine ⟨q1.trans ms (fun i _ h => by simp at h; simp [h]), q2, fun q => ?_, fun _ q => ?_, fun _ => ⟨q6.1.keep ms (fun a ha hh => hpC (by simp at hh; simp [blk, ha, hh])), q6.2⟩⟩
          · simp [l9] at q
          · simp [l9] at q
        · simpa using hp'.set 0 (.slice y.C (r.length + 1) y.c)
    case fin =>
      intro y lz v hl hst
      obtain ⟨⟨q1, q2, -, -, q5⟩, hp⟩ := hst
      have q6 := q5 (hl 9 (by decide))
      have hp6 : Holds v p 22 [.slice y.C (r.length + 1) y.c] := by simpa [hl 10 (by decide)] using hp
      obtain ⟨h0, h1, h2, h3, h1', -, h6⟩ := HB.out
      have HV := Lib.hid (And.intro q1 (And.intro q2 (And.intro q6 hp6)))
      clear q1 q2 q5 q6 hp hp6
      gi_wp2_with fail
      obtain ⟨q1, q2, q6, hp6⟩ := HV.out
      refine ⟨⟨q1.size, fun k o _ hk hc => (q1.block k (Array.getElem?_eq_some_iff.1 hk).1 (fun hm => ?_)).trans hk⟩, q1.keepL _ (fun i hi hlt => ?_), ?_, ⟨hbd1 v q1, h1'.keep q1 (fun a ha => hlow _ (by have := kA a.block (by simp [blk, ha]); omega))⟩, h2.trans q1 (fun i hi hm => by have := hfar i hm; omega), Nat.le_trans h3 q1.size, y.C, y.c, ?_, ?_, ?_⟩
      · rcases List.mem_cons.1 hm with q | q
        · subst q
          unfold Holds at h4
          rw [h4] at hk
          cases hk
          cases hc
        · rw [h5.isCells q hk] at hc
          cases hc
      · rcases List.mem_cons.1 hi with q | q
        · simp [q]
        · rcases h6 i q with q' | q'
          · simp [q']
          · omega
      · rw [List.length_append, show [z].length = 1 from rfl, stsI_snoc, ← h0, hz]
      · rw [List.length_append, show [z].length = 1 from rfl, hrl]
        exact hp6
      · rw [List.map_append, ← hr]
        simpa [he] using q6.1
      · intro i hi
        rcases q6.2 i hi with q | q
        · exact h6 i q
        · right; omega
  case done =>
    rintro D xs W hD hxs ⟨h0, ⟨h1, h1'⟩, h2, h3, A, c, h4, h5, h6⟩ hK
    rw [hxs] at h0 h4
    have hk : xs.map (shwI m) = signI x m := by rw [h0]; rfl
    rw [hk] at h5
    have HV := Lib.hid (And.intro h2 (And.intro hK (And.intro h5 h6)))
    clear h0 h1 h1' h2 h3 h5 h6 hK hk
    have hq0 := h4.cell 0
    simp only [List.getElem?_cons_zero] at hq0
    go_wp2_with (first
      | (with_reducible refine wpList_load1 (o := ⟨some 26, .load 22 (.tmp 6), _, _, _, _⟩) rfl 22 (.tmp 6) rfl ⟨p, 0, none⟩ (.slice A 67 c) rfl _ Tryd.underlying22 rfl hq0 ?_))
    obtain ⟨h3, hK, h5, h6⟩ := HV.out
    have hM : Mod [] w (W.putObj D (.deferred none)) := mod_own h3 (grownBy_putObj' W D (.deferred none)) (fun r e => by cases e; have := mm5.size; omega)
    have hO5 : OwnG ic 25 32 (W.putObj D (.deferred none)) A c (signI x m) := h5.own (grownBy_putObj' W D (.deferred none)) (fun r e => by cases e; exact ⟨_, hK, rfl⟩)
    refine ⟨by simp, .inl ⟨_, _, rfl, run_takeDeferred hK, ?_⟩⟩
    exact ⟨_, results_tmp rfl _ _ _, A, c, rfl, hO5, hM, fun i hi => by
      rcases h6 i hi with q | q
      · omega
      · have := mm5.size; omega⟩
  case stop =>
    rintro D cd pre W hD _ hf hK
    exact hf.elim
end Go.Proofs.YtdolihecjomjiaaDoor
