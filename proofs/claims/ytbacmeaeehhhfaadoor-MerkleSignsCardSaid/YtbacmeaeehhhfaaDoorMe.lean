/-
  Package merkle: halved. My own work.
-/
import Derived.Test.YtbacmeaeehhhfaaDoorMd
namespace Go.Proofs.YtbacmeaeehhhfaaDoor
open Go.RowKit Go.Shelf
set_option linter.unusedVariables false
theorem Rgi.wpIn_upx {Fe : Fence} {nf : Nat} {P : Program} {X : Type} {ops : Array Oper} {Q : Exit → Act → World → Prop} {id : Nat} {a : Act} {w : World} (x0 : X) (ups : X → List (Nat × Value)) (n : Nat) (ks : List Nat) (hn : a.tmps.size = n) (hks : ∀ x, (ups x).map (·.1) = ks) (hnd : ks.Nodup) (hD : ((List.range ops.size).all fun j => match (ops[j]?).bind (·.dst) with | some s => decide (s < n) && ks.contains s | none => true) = true) (st : X → (Nat → Bool) → World → Prop) (hm : P.follows .mixedOrders = true) (h0 : st x0 (fun _ => false) w.drew)
    (hB : drawn2B ops n = true) (hC : coverB ops n (restOf n ks) = true)
    (hstep : ∀ (x : X) (l : Nat → Bool) (T : Act) (v : World) (i : Nat) (o : Oper), ops[i]? = some o → l i = false → (∀ e ∈ o.after, Region.binds .any e = true → l e.on = true) → st x l v →
      (∀ s, (decide (s < n) && !ks.contains s) = true → T.tmps[s]? = a.tmps[s]?) → (∀ (j : Nat) (o' : Oper) (s : Nat), ops[j]? = some o' → l j = true → o'.dst = some s → T.tmps[s]? = (ups x).lookup s) → Closed ops l →
      ∀ K : Act → World → Prop, (∀ x' u v', (∀ (j : Nat) (o' : Oper) (s : Nat), ops[j]? = some o' → l j = true → o'.dst = some s → (ups x').lookup s = (ups x).lookup s) → (∀ s, o.dst = some s → some u = (ups x').lookup s) → st x' (fun j => if j = i then true else l j) v' → K (T.put o.dst u) v') →
        if Region.wanted o (yielded ops T.tmps) = true then o.wpIn Fe nf P T v K Q else ((∀ f, o.about P v T.eval = some f → Fe.fn f) ∧ K (T.put o.dst undef) v))
    (hend : ∀ (x : X) (l : Nat → Bool) (v : World), (∀ j, j < ops.size → l j = true) → st x l v → Q .normal ⟨(setAll a.tmps.toList (ups x)).toArray, a.defers⟩ v) :
    (Code.region id ops true).wpIn Fe nf P Q a w := by
  subst hn
  have key : ∀ (x : X) (j : Nat) (o' : Oper) (s : Nat), ops[j]? = some o' → o'.dst = some s → some ((setAll a.tmps.toList (ups x)).getD s undef) = (ups x).lookup s := fun x j o' s h1 h2 => by
    have hj := (Array.getElem?_eq_some_iff.1 h1).1
    have h3 := List.all_eq_true.1 hD j (List.mem_range.2 hj)
    rw [h1] at h3
    simp only [Option.bind_some, h2, Bool.and_eq_true, decide_eq_true_eq] at h3
    have h4 : s ∈ (ups x).map (·.1) := by rw [hks]; simpa using h3.2
    obtain ⟨v, hv⟩ := lookup_some _ h4
    rw [hv, List.getD_eq_getElem?_getD, setAll_lookup s v (ups x) _ (by rw [hks]; exact hnd) (by simpa using h3.1) hv]
    rfl
  have oth : ∀ (x : X) (s : Nat), s < a.tmps.size → s ∉ ks → (setAll a.tmps.toList (ups x))[s]? = a.tmps.toList[s]? := fun x s _ hk => setAll_other s (ups x) a.tmps.toList (by rw [hks]; exact hk)
  refine Rgi.wpIn_regx x0 (fun x => setAll a.tmps.toList (ups x)) a.tmps.size (restOf a.tmps.size ks) st a.defers hm (fun x => by rw [setAll_length]; simp) rfl rfl ?_ (fun x => ?_) h0 hB hC ?_ hend
  · apply List.map_congr_left
    intro s hs
    obtain ⟨h1, h2⟩ := List.mem_filter.1 hs
    have hlt : s < a.tmps.size := List.mem_range.1 h1
    have hk : s ∉ ks := by simpa using h2
    rw [List.getD_eq_getElem?_getD, oth x0 s hlt hk]
    simp [hlt]
  · apply List.map_congr_left
    intro s hs
    obtain ⟨h1, h2⟩ := List.mem_filter.1 hs
    have hlt : s < a.tmps.size := List.mem_range.1 h1
    have hk : s ∉ ks := by simpa using h2
    rw [List.getD_eq_getElem?_getD, List.getD_eq_getElem?_getD, oth x s hlt hk, oth x0 s hlt hk]
  · intro x l T v i o ho hl hdep hst hpar hgot hcl K hK
    refine hstep x l T v i o ho hl hdep hst (fun s hs => ?_) (fun j o' s h1 h2 h3 => ?_) hcl K (fun x' u v' hx hu hv => hK x' u v' (fun j o' s g1 g2 g3 => ?_) (fun s hs => ?_) hv)
    · rw [Bool.and_eq_true, decide_eq_true_eq] at hs
      have hk : s ∉ ks := by simpa using hs.2
      rw [hpar s (List.mem_filter.2 ⟨List.mem_range.2 hs.1, hs.2⟩), List.getD_eq_getElem?_getD, oth x s hs.1 hk]
      simp [hs.1]
    · rw [hgot j o' s h1 h2 h3, key x j o' s h1 h3]
    · have e1 := key x' j o' s g1 g3
      have e2 := key x j o' s g1 g3
      rw [hx j o' s g1 g2 g3, ← e2] at e1
      exact Option.some.inj e1
    · have h1 := hu s hs
      have h2 := key x' i o s ho hs
      rw [← h1] at h2
      exact (Option.some.inj h2).symm

/-- The joins of the first pairs of a row. -/
def halfL (l : List Idv) (k : Nat) : List Idv := (List.range k).map fun i => joinI (l.getD (i * 2) zeroI) (l.getD (i * 2 + 1) zeroI)
theorem halfL_length (l : List Idv) (k : Nat) : (halfL l k).length = k := by simp [halfL]
theorem halfL_snoc (l : List Idv) (k : Nat) : halfL l (k + 1) = halfL l k ++ [joinI (l.getD (k * 2) zeroI) (l.getD (k * 2 + 1) zeroI)] := by simp [halfL, List.range_succ]
theorem exec_quo {P : Program} {v : World} {o : Oper} {ρ : Operand → Value} {t t' : TypeId} {x y : Operand} {h : Nat} (hh : h ≤ 100000) (ho : o.op = .binOp .quo t x y t') (hx : ρ x = .int .i64 ((h * 2 : Nat) : Int)) (hy : ρ y = .int .i64 2) : (execOp ρ o).run P v = .ok (.value (.int .i64 (h : Int))) v := by
  have h1 : ((h * 2 : Nat) : Int).tdiv 2 = (h : Int) := by
    show ((h * 2 / 2 : Nat) : Int) = _
    congr 1
    omega
  have h2 : IntKind.i64.wrap (h : Int) = (h : Int) := IntWalk.i64_in _ (by omega)
  unfold execOp
  simp [ho, hx, hy, go_sem]
  exact h2
set_option maxRecDepth 100000 in
set_option maxHeartbeats 4000000 in
theorem halved_c (g o : Nat) (l : List Idv) (n c h : Nat) (hn : n = l.length) (hh : n = h * 2) (h0 : 0 < h) (hl : h ≤ 100) (hnc : n ≤ c) (w : World) (Gl : Glob w) (RA : Cells w (some ⟨g, o, none⟩) (l.flatMap ic)) (hg : g < w.heap.size) :
    Calls Tryd.prog 37 #[.slice (some ⟨g, o, none⟩) n c] w fun r w' => ∃ A c', r = .returned (.slice A h c') ∧ OwnG ic 23 32 w' A c' (halfL l h) ∧ Mod [] w w' ∧ (∀ i ∈ blk A, w.heap.size ≤ i) := by
  obtain ⟨i0, j1, j2, j3, j4⟩ := info_parts id_parts
  have HI := Lib.hid (And.intro j1 (And.intro j2 (And.intro j3 j4)))
  have HH := Lib.hid (And.intro Gl (And.intro hn (And.intro hh (And.intro h0 (And.intro hl (And.intro hnc (And.intro RA hg)))))))
  have hd8 : 32 * h ≤ 281474976710656 := by omega
  have hm8 : h ≤ maxLen := by unfold maxLen; omega
  clear Gl j1 j2 j3 j4 hn hh h0 hl hnc RA hg
  refine (callsIn_wide (n := 5)).1 ?_
  refine callsIn_of_wp_marks Tryd.func37 rfl trivial ?_ rfl
  simp only [Tryd.ntmps37, List.size_toArray, List.length_cons, List.length_nil, Nat.reduceAdd, Nat.reduceSub, Array.replicate_succ, Array.replicate_zero, List.push_toArray, List.append_toArray, List.nil_append, List.cons_append]
  refine wpIn_wide.2 ?_
  go_wp2_with (first
    | (with_reducible refine wpList_ranW (o := ⟨some 7, .binOp _ _ _ _ _, _, _, _, _⟩) (by with_unfolding_all rfl) (.int .i64 (h : Int)) w ?_ ?_
       · with_unfolding_all exact exec_quo (by have := HH.out.2.2.2.2.1; omega) rfl (by rw [← HH.out.2.2.1]; rfl) rfl)
    | (with_reducible refine wpList_make0G ic (o := ⟨some 8, .makeSlice 33 _ _, _, _, _, _⟩) rfl 33 _ _ rfl 23 i0 (iv zeroI) 32 32 h Tryd.underlying33 HI.out.1 HI.out.2.1 HI.out.2.2.1 HI.out.2.2.2 rfl rfl hd8 hm8 ?_
       intro w3 hO m3 z3; replace z3 := Lib.hid z3)
    | (with_reducible refine wpList_alloc1 (o := ⟨some 3, .alloc 33, _, _, _, _⟩) rfl 33 rfl (.slice none 0 0) (slice_one _ _ _) zero22 ?_
       intro w4 hb4 m4 z4
       have y3 := z3.out
       obtain ⟨b3, hq3⟩ : ∃ q, q = w.heap.size := ⟨_, rfl⟩
       obtain ⟨p, hq⟩ : ∃ q, q = w3.heap.size := ⟨_, rfl⟩
       have k3 : OwnG ic 23 32 w4 (some ⟨b3, 0, none⟩) h [] := by rw [hq3]; exact hO.keep m4 (by simp)
       have mm4 : Mod [] w w4 := m3.then m4
       have o3 : b3 < p := by omega
       have o4 : w4.heap.size = p + 1 := by omega
       have k4 := hb4
       rw [← hq] at k4 ⊢
       rw [← hq3]
       replace hq3 := Lib.hid hq3
       clear hO m3 z3 hb4 m4 z4 hq y3
       replace o4 := Lib.hid o4)
    | (with_reducible refine wpList_store1 (o := ⟨none, .store 33 (.tmp 3) (.tmp 8), _, _, _, _⟩) rfl 33 (.tmp 3) (.tmp 8) rfl rfl p (.slice (some ⟨b3, 0, none⟩) 0 h) rfl rfl (slice_one _ _ _) size22 33 (.slice none 0 0) k4 ?_
       intro w4' k4' m4' z4'
       replace o4 := Lib.hid (show w4'.heap.size = p + 1 by have := o4.out; omega)
       have HK := Lib.hid (And.intro (k3.keep m4' (by rintro _ ⟨⟩; simp; omega)) (And.intro (far_mod mm4 m4' (by have := hq3.out; simp; omega)) k4'))
       clear k3 mm4 k4 k4' m4' z4')
    | (go_at_call 53; refine (ck_c _ n c _).mono ?_
       rintro e w5 ⟨rfl, hs1, hs2, m5, z5⟩
       obtain ⟨bs, hbs⟩ : ∃ q, q = w4'.heap.size := ⟨_, rfl⟩
       rw [← hbs] at hs1 hs2 ⊢
       replace z5 := Lib.hid z5
       replace hbs := Lib.hid hbs))
  obtain ⟨k3, mm4, k4⟩ := HK.out
  have mm5 : Mod [] w w5 := mm4.then m5
  replace k3 := k3.keep m5 (by simp)
  replace k4 := k4.keep m5 (by simp)
  have o6 : p < bs := by rw [hbs.out, o4.out]; omega
  have o7 : bs + 2 ≤ w5.heap.size := by rw [z5.out, hbs.out]; omega
  have ow : w.heap.size ≤ b3 := by rw [hq3.out]; omega
  have hB : Cbck [b3, p] w5.heap.size bs (bs + 1) g o n c w5 := ⟨hs1, hs2, by simp; omega⟩
  clear m5 z5 hbs o4 hq3 hs1 hs2
  refine (wpIn_wide (n := 5)).1 ?_
  refine wpIn_rangeFunc_with (F := Fence.wide) (n := 5) rfl (by omega) (gf := 65) (lb := #[.pointer (some ⟨bs, 0, none⟩), .pointer (some ⟨bs + 1, 0, none⟩)]) rfl trivial (enters_of Tryd.func65 (by kernel_rfl) rfl)
    (ck_with 4 (by omega) bs (bs + 1) w5.heap.size g o n c h HH.out.2.2.1 HH.out.2.2.2.2.2.1 (by have := HH.out.2.2.1; have := HH.out.2.2.2.2.1; omega) [b3, p] w5 hB (Nat.le_refl _))
    (fun h k => h.trans k) (fun W l o o' hl ho h1 _ => ?hKb) (Below.refl _ _) (fun _ => rfl)
    (fun pre W => pre = List.range pre.length ∧ Mod [] w W ∧ w5.heap.size ≤ W.heap.size ∧ ∃ A c, Holds W p 33 [.slice A pre.length c] ∧ OwnG ic 23 32 W A c (halfL l pre.length) ∧ (∀ i ∈ blk A, i = b3 ∨ w5.heap.size ≤ i))
    (fun _ _ _ => False)
    (fun s A B row hs hg hr => ?hI) (fun _ _ _ _ _ hs _ _ => hs.elim) ⟨rfl, mm5, Nat.le_refl _, some ⟨b3, 0, none⟩, h, k4, k3, fun i hi => .inl (by simpa [blk] using hi)⟩
    (fun pre z a' W => z = pre.length ∧ a' = { tmps := #[.slice (some ⟨g, o, none⟩) n c, undef, .slice none 0 0, .pointer (some ⟨p, 0, none⟩), .slice (some ⟨g, o + z * 2 * 32, none⟩) 2 2, .slice (some ⟨g, o, none⟩) n c, .int .i64 (n : Int), .int .i64 (h : Int), .slice (some ⟨b3, 0, none⟩) 0 h, .slice (some ⟨g, o, none⟩) n c, .func (.func 65) #[] #[.pointer (some ⟨bs, 0, none⟩), .pointer (some ⟨bs + 1, 0, none⟩)], .slice (some ⟨g, o + z * 2 * 32, none⟩) 2 2, undef, undef, undef, undef, undef, undef, undef, undef, undef, undef, undef], defers := [] })
    (fun pre z a' s A B row hs hg hr => hs) ?assign ?body ?done ?stop
  case hKb =>
    exact ⟨by simp [World.putObj], fun k hk _ _ => World.putObj_heap_other (by omega)⟩
  case hI =>
    obtain ⟨h0, h2, h3, A', c, h4, h5, h6⟩ := hs
    exact ⟨h0, mod_own h2 hg (fun r e => Nat.le_trans mm5.size (hr r e).1), Nat.le_trans h3 hg.size, A', c, holds_own h4 hg (fun r e => (hr r e).2), h5.own hg (fun r e => (hr r e).2), h6⟩
  case assign =>
    rintro L pre z W K ⟨h0, h2, h3, A', c4, h4, h5, h6⟩ hF hK
    rw [zip_one]
    change Code.wpIn _ _ _ _ _ { tmps := #[.slice (some ⟨g, o, none⟩) n c, undef, .slice none 0 0, .pointer (some ⟨p, 0, none⟩), undef, .slice (some ⟨g, o, none⟩) n c, .int .i64 (n : Int), .int .i64 (h : Int), .slice (some ⟨b3, 0, none⟩) 0 h, .slice (some ⟨g, o, none⟩) n c, .func (.func 65) #[] #[.pointer (some ⟨bs, 0, none⟩), .pointer (some ⟨bs + 1, 0, none⟩)], .slice (some ⟨g, o + z * 2 * 32, none⟩) 2 2, undef, undef, undef, undef, undef, undef, undef, undef, undef, undef, undef], defers := [] } W
    gi_wp2_with fail
    exact hK _ _ ((Mod.refl [] W).keepsFrom _) ((Mod.refl [] W).keepL _ (fun _ h => by cases h)) ⟨h0, h2, h3, A', c4, h4, h5, h6⟩ ⟨hF, rfl⟩
  case body =>
    rintro L pre k a' W hl _ ⟨h0, h2, h3, A2, c2, h4, h5, h6⟩ ⟨hz, rfl⟩ hlen
    have hk : k = pre.length := hz
    rw [← hk] at h0 h4 h5 hlen
    obtain ⟨r, hr⟩ : ∃ r, r = halfL l k := ⟨_, rfl⟩
    have hrl : k = r.length := by rw [hr, halfL_length]
    rw [← hr] at h5
    rw [hrl] at h4
    have q1 : k * 2 < l.length := by rw [← HH.out.2.1, HH.out.2.2.1]; omega
    have q2 : k * 2 + 1 < l.length := by rw [← HH.out.2.1, HH.out.2.2.1]; omega
    have RW := HH.out.2.2.2.2.2.2.1.keep h2 (by simp)
    obtain ⟨_, _, e1, hc1⟩ := RW.elem' ic 32 (by omega) ic_length (k * 2) q1
    cases e1
    obtain ⟨_, _, e2, hc2⟩ := RW.elem' ic 32 (by omega) ic_length (k * 2 + 1) q2
    cases e2
    obtain ⟨x, hx⟩ : ∃ x, x = l[k * 2] := ⟨_, rfl⟩
    obtain ⟨x', hx'⟩ : ∃ x, x = l[k * 2 + 1] := ⟨_, rfl⟩
    rw [← hx] at hc1
    rw [← hx'] at hc2
    obtain ⟨e, he⟩ : ∃ e, e = joinI x x' := ⟨_, rfl⟩
    have hsn : halfL l (k + 1) = r ++ [e] := by
      rw [halfL_snoc, ← hr, he, hx, hx', List.getD_eq_getElem?_getD, List.getD_eq_getElem?_getD, List.getElem?_eq_getElem q1, List.getElem?_eq_getElem q2]
      rfl
    have hgfar : ∀ i ∈ p :: blk A2, w.heap.size ≤ i := fun i hi => by
      rcases List.mem_cons.1 hi with rfl | hi
      · omega
      · rcases h6 i hi with q | q
        · omega
        · have := mm5.size; omega
    have hgn : g ∉ p :: blk A2 := fun hh => by have := hgfar g hh; have := HH.out.2.2.2.2.2.2.2; omega
    have hpA : p ∉ blk A2 := fun hh => by
      rcases h6 p hh with q | q <;> omega
    have hGl : ∀ v, Mod (p :: blk A2) W v → Glob v := fun v m => (HH.out.1.then h2).keep m (fun i hi => by have := hgfar i hi; have := HH.out.1.two; omega)
    have hr100 : r.length ≤ 100 := by have := HH.out.2.2.2.2.1; omega
    have HB := Lib.hid (And.intro h0 (And.intro h2 (And.intro h3 (And.intro h6 (And.intro hsn (And.intro hrl (And.intro hk hr)))))))
    clear h0 h2 h3 hx hx' hsn hrl RW q1 q2 hk hz
    gi_wp2_with fail
    refine Rgi.wpIn_upx (X := Xk) ⟨0, none, 0⟩ (fun y => [(12, .slice A2 r.length c2), (13, .slice (some ⟨g, o + k * 2 * 32, none⟩) 2 2), (14, .pointer (some ⟨g, o + k * 2 * 32 + 0 * 32, none⟩)), (15, iv x), (16, .slice (some ⟨g, o + k * 2 * 32, none⟩) 2 2), (17, .pointer (some ⟨g, o + k * 2 * 32 + 1 * 32, none⟩)), (18, iv x'), (19, iv e), (20, .slice (some ⟨y.b, 0, none⟩) 1 1), (21, .slice y.C (r.length + 1) y.c)]) 23 [12, 13, 14, 15, 16, 17, 18, 19, 20, 21] rfl (fun _ => rfl) (by decide) (by kernel_rfl)
      (fun y lz v => SbK (p :: blk A2) W r e A2 c2 (lz 8) (lz 9) y v ∧ Holds v p 33 [if lz 10 = true then .slice y.C (r.length + 1) y.c else .slice A2 r.length c2]) (by kernel_rfl)
      ⟨⟨Mod.drew _ W, fun i hi => List.mem_cons_of_mem _ hi, fun _ => h5, (fun q => by cases q), (fun q => by cases q)⟩, h4⟩ (by kernel_rfl) (by kernel_rfl) ?step ?fin
    case step =>
      intro y lz T v j o' hj hlj hdep hst hpar hgot hcl Kq hK
      obtain ⟨hs, hp⟩ := hst
      have hjn : j < 11 := (Array.getElem?_eq_some_iff.1 hj).1
      obtain rfl | rfl | rfl | rfl | rfl | rfl | rfl | rfl | rfl | rfl | rfl : j = 0 ∨ j = 1 ∨ j = 2 ∨ j = 3 ∨ j = 4 ∨ j = 5 ∨ j = 6 ∨ j = 7 ∨ j = 8 ∨ j = 9 ∨ j = 10 := by omega
      all_goals (have hj' := Option.some.inj (hj : some _ = some o'); subst hj'; clear hj)
      · have l10 : lz 10 = false := (by cases hh : lz 10 with | false => rfl | true => exact absurd (hcl 10 _ rfl hh ⟨0, .phase⟩ (by simp) rfl) (by rw [hlj]; simp))
        rw [if_neg (by rw [l10]; simp)] at hp
        exact Rgi.wpi_ran (fun _ => trivial) (by intro c hc; cases hc) rfl (exec_load rfl (eval_tmp ((hpar 3 rfl).trans rfl)) (run_load1 Tryd.underlying33 rfl (by simpa using hp.cell 0))) (hK y _ _ (fun _ _ _ _ _ _ => rfl) (fun s hs => by cases hs; rfl) ⟨hs, by rw [if_neg (by simp [l10])]; exact hp⟩)
      · exact Rgi.wpi_ran (fun _ => trivial) (by intro c hc; cases hc) rfl (exec_move rfl (eval_tmp ((hpar 4 rfl).trans rfl))) (hK y _ _ (fun _ _ _ _ _ _ => rfl) (fun s hs => by cases hs; rfl) ⟨hs, by simpa using hp⟩)
      · exact Rgi.wpi_ran (fun _ => trivial) (by intro c hc; cases hc) rfl (exec_ixs (i := 0) Tryd.underlying33 size25 (by decide) rfl (eval_tmp (hgot 1 _ 13 rfl (hdep ⟨1, .data⟩ (by simp) rfl) rfl)) rfl) (hK y _ _ (fun _ _ _ _ _ _ => rfl) (fun s hs => by cases hs; rfl) ⟨hs, by simpa using hp⟩)
      · exact Rgi.wpi_ran (fun _ => trivial) (by intro c hc; cases hc) rfl (exec_load rfl (eval_tmp (hgot 2 _ 14 rfl (hdep ⟨2, .data⟩ (by simp) rfl) rfl)) (run_loads (by simpa using hc1.keep hs.1 (by rintro _ ⟨⟩; exact hgn)) Tryd.underlying23 rfl (size25i x))) (hK y _ _ (fun _ _ _ _ _ _ => rfl) (fun s hs => by cases hs; rfl) ⟨hs, by simpa using hp⟩)
      · exact Rgi.wpi_ran (fun _ => trivial) (by intro c hc; cases hc) rfl (exec_move rfl (eval_tmp ((hpar 4 rfl).trans rfl))) (hK y _ _ (fun _ _ _ _ _ _ => rfl) (fun s hs => by cases hs; rfl) ⟨hs, by simpa using hp⟩)
      · exact Rgi.wpi_ran (fun _ => trivial) (by intro c hc; cases hc) rfl (exec_ixs (i := 1) Tryd.underlying33 size25 (by decide) rfl (eval_tmp (hgot 4 _ 16 rfl (hdep ⟨4, .data⟩ (by simp) rfl) rfl)) rfl) (hK y _ _ (fun _ _ _ _ _ _ => rfl) (fun s hs => by cases hs; rfl) ⟨hs, by simpa using hp⟩)
      · exact Rgi.wpi_ran (fun _ => trivial) (by intro c hc; cases hc) rfl (exec_load rfl (eval_tmp (hgot 5 _ 17 rfl (hdep ⟨5, .data⟩ (by simp) rfl) rfl)) (run_loads (by have := hc2.keep hs.1 (by rintro _ ⟨⟩; exact hgn); rwa [show o + (k * 2 + 1) * 32 = o + k * 2 * 32 + 1 * 32 by omega] at this) Tryd.underlying23 rfl (size25i x'))) (hK y _ _ (fun _ _ _ _ _ _ => rfl) (fun s hs => by cases hs; rfl) ⟨hs, by simpa using hp⟩)
      · refine Rgi.wpi_called (fun _ => trivial) (by intro c hc; cases hc) rfl (by intro h; cases h) (exec_call2 rfl rfl (eval_tmp (hgot 3 _ 15 rfl (hdep ⟨3, .data⟩ (by simp) rfl) rfl)) (eval_tmp (hgot 6 _ 18 rfl (hdep ⟨6, .data⟩ (by simp) rfl) rfl)) (enters_of Tryd.func19 (by kernel_rfl) rfl)) ((CallsIn.inRound L (callsIn_wide.2 (join_c x x' v (hGl v hs.1)))).mono ?_)
        rintro e' v' ⟨rfl, mm⟩
        exact ⟨_, rfl, hK y _ _ (fun _ _ _ _ _ _ => rfl) (fun s hs => by cases hs; rw [he]; rfl) ⟨hs.mod0 mm, by simpa using hp.keep mm (by simp)⟩⟩
      · have l9 : lz 9 = false := (by cases hh : lz 9 with | false => rfl | true => exact absurd (hcl 9 _ rfl hh ⟨8, .data⟩ (by simp) rfl) (by rw [hlj]; simp))
        have l10 : lz 10 = false := (by cases hh : lz 10 with | false => rfl | true => exact absurd (hcl 10 _ rfl hh ⟨8, .phase⟩ (by simp) rfl) (by rw [hlj]; simp))
        have hs' : SbK (p :: blk A2) W r e A2 c2 (lz 8) false y v := by rw [← l9]; exact hs
        refine Rgi.wpi_ran (fun _ => trivial) (by intro c hc; cases hc) rfl (exec_lit22 rfl (eval_tmp (hgot 7 _ 19 rfl (hdep ⟨7, .data⟩ (by simp) rfl) rfl))) (hK { y with b := v.heap.size } _ _ (fun j' o' s' g1 g2 g3 => by
          have g4 : j' < 11 := (Array.getElem?_eq_some_iff.1 g1).1
          obtain rfl | rfl | rfl | rfl | rfl | rfl | rfl | rfl | rfl | rfl | rfl : j' = 0 ∨ j' = 1 ∨ j' = 2 ∨ j' = 3 ∨ j' = 4 ∨ j' = 5 ∨ j' = 6 ∨ j' = 7 ∨ j' = 8 ∨ j' = 9 ∨ j' = 10 := by omega
          all_goals (cases g1; cases g3 <;> first | rfl | (rw [hlj] at g2; cases g2) | (rw [l9] at g2; cases g2))) (fun s hs => by cases hs; rfl) ⟨?_, ?_⟩)
        · have := hs'.lit
          simpa [l9] using this
        · simpa [l10] using (show Holds v p 33 _ by simpa [l10] using hp).keep (Mod.alloc [] v _) (by simp)
      · have l10 : lz 10 = false := (by cases hh : lz 10 with | false => rfl | true => exact absurd (hcl 10 _ rfl hh ⟨9, .data⟩ (by simp) rfl) (by rw [hlj]; simp))
        have l8 : lz 8 = true := hdep ⟨8, .data⟩ (by simp) rfl
        have l0 : lz 0 = true := hdep ⟨0, .data⟩ (by simp) rfl
        have hs' : SbK (p :: blk A2) W r e A2 c2 true false y v := by rw [← l8, ← hlj]; exact hs
        obtain ⟨C1, c1, v', hrun, g1, g2⟩ := hs'.app (o := { dst := some 21, op := .call { callee := .builtin .append, args := #[.tmp 12, .tmp 20], argTypes := #[33, 33] }, type := 33, pos := "row.go:54", after := #[], guard := none }) (ρ := T.eval) (.tmp 12) (.tmp 20) rfl (eval_tmp (hgot 0 _ 12 rfl l0 rfl)) (eval_tmp (hgot 8 _ 20 rfl l8 rfl)) (by omega)
        refine Rgi.wpi_ran (fun _ => trivial) (by intro c hc; cases hc) rfl hrun (hK { y with C := C1, c := c1 } _ _ (fun j' o' s' g1 g2 g3 => by
          have g4 : j' < 11 := (Array.getElem?_eq_some_iff.1 g1).1
          obtain rfl | rfl | rfl | rfl | rfl | rfl | rfl | rfl | rfl | rfl | rfl : j' = 0 ∨ j' = 1 ∨ j' = 2 ∨ j' = 3 ∨ j' = 4 ∨ j' = 5 ∨ j' = 6 ∨ j' = 7 ∨ j' = 8 ∨ j' = 9 ∨ j' = 10 := by omega
          all_goals (cases g1; cases g3 <;> first | rfl | (rw [hlj] at g2; cases g2) | (rw [l10] at g2; cases g2))) (fun s hs => by cases hs; rfl) ⟨by simpa [l8] using g1, ?_⟩)
        simpa [l10] using (show Holds v p 33 _ by simpa [l10] using hp).keep g2 hpA
      · have l9 : lz 9 = true := hdep ⟨9, .data⟩ (by simp) rfl
        have l8 : lz 8 = true := hdep ⟨8, .phase⟩ (by simp) rfl
        have hp' : Holds v p 33 [.slice A2 r.length c2] := by simpa [hlj] using hp
        obtain ⟨it, hit, hi1⟩ : ∃ it, Tryd.prog.info? 33 = some it ∧ it.size = 1 := by
          have := size22
          cases hq : Tryd.prog.info? 33 with
          | none => rw [hq] at this; cases this
          | some it => exact ⟨it, rfl, by rw [hq] at this; simpa using this⟩
        have ms : Mod [p] v (v.setCell ⟨p, 0, none⟩ (.slice y.C (r.length + 1) y.c)) := Mod.setCell v (by simp) _
        refine Rgi.wpi_skip (fun _ => trivial) (by intro c hc; cases hc) rfl (exec_store1 rfl (eval_tmp ((hpar 3 rfl).trans rfl)) (eval_tmp (hgot 9 _ 21 rfl l9 rfl)) (slice_one _ _ _) hit hi1 (hp'.cell 0) (hp'.free 0)) (hK y _ _ (fun _ _ _ _ _ _ => rfl) (fun s hs => by cases hs) ⟨?_, ?_⟩)
        · obtain ⟨q1, q2, q3, q4, q5⟩ := hs
          have q6 := q5 l9
          have hpC : p ∉ blk y.C := fun hh => by
            obtain ⟨u, hu, hu2⟩ := mem_blk hh
            exact q6.1.ne hp' (by decide) u hu hu2
          refine ⟨q1.trans ms (fun i _ h => by simp at h; simp [h]), q2, fun q => ?_, fun _ q => ?_, fun _ => ⟨q6.1.keep ms (fun a ha hh => hpC (by simp at hh; simp [blk, ha, hh])), q6.2⟩⟩
          · simp [l9] at q
          · simp [l9] at q
        · simpa using hp'.set 0 (.slice y.C (r.length + 1) y.c)
    case fin =>
      intro y lz v hl' hst
      obtain ⟨⟨q1, q2, -, -, q5⟩, hp⟩ := hst
      have q6 := q5 (hl' 9 (by decide))
      have hp6 : Holds v p 33 [.slice y.C (r.length + 1) y.c] := by simpa [hl' 10 (by decide)] using hp
      obtain ⟨h0, h2, h3, h6', hsn, hrl, hk, hr'⟩ := HB.out
      have HV := Lib.hid (And.intro q1 (And.intro q2 (And.intro q6 hp6)))
      clear q1 q2 q5 q6 hp hp6
      gi_wp2_with fail
      obtain ⟨q1, q2, q6, hp6⟩ := HV.out
      refine ⟨⟨q1.size, fun k' o' _ hk' hc => (q1.block k' (Array.getElem?_eq_some_iff.1 hk').1 (fun hm => ?_)).trans hk'⟩, q1.keepL _ (fun i hi hlt => ?_), ?_, h2.trans q1 (fun i hi hm => by have := hgfar i hm; omega), Nat.le_trans h3 q1.size, y.C, y.c, ?_, ?_, ?_⟩
      · rcases List.mem_cons.1 hm with q | q
        · subst q
          unfold Holds at h4
          rw [h4] at hk'
          cases hk'
          cases hc
        · rw [h5.isCells q hk'] at hc
          cases hc
      · rcases List.mem_cons.1 hi with q | q
        · simp [q]
        · rcases h6 i q with q' | q'
          · simp [q']
          · omega
      · rw [List.length_append, show [k].length = 1 from rfl, ← hk, List.range_succ, ← h0]
      · rw [List.length_append, show [k].length = 1 from rfl, ← hk, hrl]
        exact hp6
      · rw [List.length_append, show [k].length = 1 from rfl, ← hk, hsn]
        exact q6.1
      · intro i hi
        rcases q6.2 i hi with q | q
        · exact h6 i q
        · right; omega
  case done =>
    rintro D xs W hD hxs ⟨h0, h2, h3, A, c', h4, h5, h6⟩ hK
    rw [hxs] at h4 h5
    have HV := Lib.hid (And.intro h2 (And.intro hK (And.intro h5 h6)))
    clear h0 h2 h3 h5 h6 hK
    have hq0 := h4.cell 0
    simp only [List.getElem?_cons_zero] at hq0
    go_wp2_with (first
      | (with_reducible refine wpList_load1 (o := ⟨some 22, .load 33 (.tmp 3), _, _, _, _⟩) rfl 33 (.tmp 3) rfl ⟨p, 0, none⟩ (.slice A h c') rfl _ Tryd.underlying33 rfl hq0 ?_))
    obtain ⟨h3, hK, h5, h6⟩ := HV.out
    have hM : Mod [] w (W.putObj D (.deferred none)) := mod_own h3 (grownBy_putObj' W D (.deferred none)) (fun r e => by cases e; have := mm5.size; omega)
    have hO5 : OwnG ic 23 32 (W.putObj D (.deferred none)) A c' (halfL l h) := h5.own (grownBy_putObj' W D (.deferred none)) (fun r e => by cases e; exact ⟨_, hK, rfl⟩)
    refine ⟨by simp, .inl ⟨_, _, rfl, run_takeDeferred hK, ?_⟩⟩
    exact ⟨_, results_tmp rfl _ _ _, A, c', rfl, hO5, hM, fun i hi => by
      rcases h6 i hi with q | q
      · omega
      · have := mm5.size; omega⟩
  case stop =>
    rintro D cd pre W hD _ hf hK
    exact hf.elim
end Go.Proofs.YtbacmeaeehhhfaaDoor
