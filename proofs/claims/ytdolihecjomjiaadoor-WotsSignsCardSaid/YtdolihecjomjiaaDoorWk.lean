/-
  Package wots: the key of a seed. My own work.
-/
import Derived.Test.YtdolihecjomjiaaDoorWj
namespace Go.Proofs.YtdolihecjomjiaaDoor
open Go.RowKit Go.Shelf
attribute [local go_sem] Oper.semAt_some
theorem wpList_alloc1 {P : Program} {w : World} {ops : Array Oper} {rest : List Oper} {o : Oper} {a : Act} {Q : Exit → Act → World → Prop} (hgd : o.guard = none) (ty : TypeId) (ho : o.op = .alloc ty) (V : Value) (h1 : V.oneCell' = true) (hz : ∀ w, (zeroValue ty).run P w = .ok V w)
    (h : ∀ v, Holds v w.heap.size ty [V] → Mod [] w v → v.heap.size = w.heap.size + 1 → wpList P ops Q rest (a.put o.dst (.pointer (some ⟨w.heap.size, 0, none⟩))) v) : wpList P ops Q (o :: rest) a w := by
  refine wpList_plain hgd fun K hK => ?_
  have hrun : (Instr.alloc ty true (.tuple #[])).run P w = .ok (.pointer (some ⟨w.heap.size, 0, none⟩)) (w.alloc (.cells #[V] ty)) := by
    simp [Instr.alloc, hz, newVar, newRow, go_sem]
    split
    · simp [Value.oneCell'] at h1
    · rfl
  unfold Oper.wp execOp
  simp only [ho, Sem.run_bind, hrun, Result.andThen]
  exact hK _ _ (h _ (Holds.made w ty [V]) (Mod.alloc [] w _) (by simp))
theorem wpList_store1 {P : Program} {w : World} {ops : Array Oper} {rest : List Oper} {o : Oper} {a : Act} {Q : Exit → Act → World → Prop} (hgd : o.guard = none) (ty : TypeId) (x y : Operand) (ho : o.op = .store ty x y) (hdst : o.dst = none) (g : Nat) (u : Value) (hx : a.eval x = .pointer (some ⟨g, 0, none⟩)) (hy : a.eval y = u) (h1 : u.oneCell' = true)
    (hi : (P.info? ty).map (·.size) = some 1) (t : TypeId) (old : Value) (hh : Holds w g t [old])
    (h : ∀ v, Holds v g t [u] → Mod [g] w v → v.heap.size = w.heap.size → wpList P ops Q rest a v) : wpList P ops Q (o :: rest) a w := by
  cases hq : P.info? ty with
  | none => rw [hq] at hi; cases hi
  | some it =>
    have hs : it.size = 1 := by rw [hq] at hi; simpa using hi
    have hc : w.cell? ⟨g, 0, none⟩ = some old := hh.cell 0
    have hrun := exec_store1 (v := w) (ρ := a.eval) ho hx hy h1 hq hs hc (hh.free 0)
    refine wpList_plain hgd fun K hK => ?_
    unfold Oper.wp
    rw [hrun]
    refine hK _ _ ?_
    show wpList P ops Q rest (a.put o.dst undef) _
    rw [hdst]
    exact h _ (by simpa using hh.set 0 u) (Mod.setCell w (by simp) _) (by simp [World.setCell])
theorem wpList_load1 {P : Program} {w : World} {ops : Array Oper} {rest : List Oper} {o : Oper} {a : Act} {Q : Exit → Act → World → Prop} (hgd : o.guard = none) (ty : TypeId) (x : Operand) (ho : o.op = .load ty x) (A : Addr) (u : Value) (hx : a.eval x = .pointer (some A)) (d : TypeDesc) (hu : P.underlying ty = some d) (hd : (match d with | .struct _ | .array _ _ => true | _ => false) = false) (hc : w.cell? A = some u)
    (h : wpList P ops Q rest (a.put o.dst u) w) : wpList P ops Q (o :: rest) a w := by
  refine wpList_plain hgd fun K hK => ?_
  unfold Oper.wp
  rw [exec_load ho hx (run_load1 hu hd hc)]
  exact hK _ _ h
theorem Rgi.wpi_skip {Fe : Fence} {nf : Nat} {P : Program} {ops : Array Oper} {Q : Exit → Act → World → Prop} {o : Oper} {T : Act} {v v' : World} {K : Act → World → Prop} {E : Prop} (hF : ∀ f, Fe.fn f) (hd : ∀ c, o.op ≠ .defer c) (hg : o.guard = none) (h : (execOp T.eval o).run P v = .ok .skip v') (hK : K (T.put o.dst undef) v') :
    if Region.wanted o (yielded ops T.tmps) = true then o.wpIn Fe nf P T v K Q else E := by
  have hw : Region.wanted o (yielded ops T.tmps) = true := by simp [Region.wanted, hg]
  rw [if_pos hw]
  refine ⟨fun f _ => hF f, ?_⟩
  rw [Oper.semAt_plain Fe _ _ hd, h]
  exact hK
theorem size22 : (Tryd.prog.info? 22).map (·.size) = some 1 := by kernel_rfl
theorem zip_two (p q : Tmp) (v u : Value) (T : Array Value) : ((#[p, q] : Array Tmp).zip #[v, u]).foldl (fun t (p, v) => t.setIfInBounds p v) T = (T.setIfInBounds p v).setIfInBounds q u := by simp
theorem Holds.slice_inj {w : World} {p : Nat} {t : TypeId} {A B : Option Addr} {n m c d : Nat} (h : Holds w p t [.slice A n c]) (k : Holds w p t [.slice B m d]) : A = B := by
  unfold Holds at h k
  rw [h] at k
  simp at k
  exact k.1
theorem OwnG.isCells {α : Type} {f : α → List Value} {e : TypeId} {size : Nat} {w : World} {A : Option Addr} {c : Nat} {l : List α} (h : OwnG f e size w A c l) {i : Nat} (hi : i ∈ blk A) {o : Obj} (ho : w.heap[i]? = some o) : o.isCells = true := by
  obtain ⟨a, ha, rfl⟩ := mem_blk hi
  subst ha
  rcases h.2 with ⟨hv, _⟩ | ⟨g, cap, cur, hv, hb, hg, _⟩
  · injection hv with h1; cases h1
  · injection hv with h1
    cases h1
    rw [hg] at ho
    cases ho
    rfl
theorem slice_one (A : Option Addr) (n c : Nat) : (Value.slice A n c).oneCell' = true := rfl
theorem d67 : 32 * 67 ≤ 281474976710656 := by decide
theorem m67 : 67 ≤ maxLen := by decide
theorem zero22 : ∀ w, (zeroValue 22).run Tryd.prog w = .ok (.slice none 0 0) w := by
  intro w; go_simp
/-- The chains with their starts, up to one. -/
def stsI (x : Idv) (n : Nat) : List (Nat × Idv) := (List.range n).map fun i => (i, startI i x)
theorem stsI_snoc (x : Idv) (n : Nat) : stsI x (n + 1) = stsI x n ++ [(n, startI n x)] := by simp [stsI, List.range_succ]
theorem stsI_length (x : Idv) (n : Nat) : (stsI x n).length = n := by simp [stsI]
/-- The end of a chain. -/
def endI (y : Nat × Idv) : Idv := walkI y.1 0 15 y.2
def keyI (x : Idv) : Idv := endsI ((stsI x 67).map endI)
theorem not_blk {A : Option Addr} {i n : Nat} (h : ∀ j ∈ blk A, n ≤ j) (hi : i < n) : i ∉ blk A := fun hh => by have := h _ hh; omega
set_option maxRecDepth 100000 in
set_option maxHeartbeats 4000000 in
theorem key_c (x : Idv) (w : World) (Gl : Glob w) :
    Calls Tryd.prog 23 #[iv x] w fun r w' => r = .returned (iv (keyI x)) ∧ Mod [] w w' := by
  obtain ⟨d, hd⟩ : ∃ d, d = keyI x := ⟨_, rfl⟩
  rw [← hd]
  obtain ⟨i0, j1, j2, j3, j4⟩ := info_parts id_parts
  have HI := Lib.hid (And.intro j1 (And.intro j2 (And.intro j3 j4)))
  have HH := Lib.hid (And.intro hd Gl)
  clear hd Gl j1 j2 j3 j4
  refine (callsIn_wide (n := 5)).1 ?_
  refine callsIn_of_wp_marks Tryd.func23 rfl trivial ?_ rfl
  simp only [Tryd.ntmps23, List.size_toArray, List.length_cons, List.length_nil, Nat.reduceAdd, Nat.reduceSub, Array.replicate_succ, Array.replicate_zero, List.push_toArray, List.append_toArray, List.nil_append, List.cons_append]
  refine wpIn_wide.2 ?_
  go_wp2_with (first
    | (with_reducible refine wpList_boxes (o := ⟨some 1, .box 25 (.tmp 0), _, _, _, _⟩) rfl 25 (.tmp 0) rfl _ rfl (ic x) rfl ?_; intro w1 hb1 m1 z1; replace z1 := Lib.hid z1)
    | (with_reducible refine wpList_allocs (o := ⟨some 2, .alloc 25, _, _, _, _⟩) rfl 25 rfl _ zeroI_25 ?_; intro w2 hb2 m2 z2; replace z2 := Lib.hid z2)
    | (with_reducible refine wpList_make0G ic (o := ⟨some 6, .makeSlice 22 _ _, _, _, _, _⟩) rfl 22 _ _ rfl 25 i0 (iv zeroI) 32 32 67 Tryd.underlying22 HI.out.1 HI.out.2.1 HI.out.2.2.1 HI.out.2.2.2 rfl rfl d67 m67 ?_
       intro w3 hO m3 z3; replace z3 := Lib.hid z3)
    | (with_reducible refine wpList_alloc1 (o := ⟨some 3, .alloc 22, _, _, _, _⟩) rfl 22 rfl (.slice none 0 0) (slice_one _ _ _) zero22 ?_
       intro w4 hb4 m4 z4
       have y1 := z1.out
       have y2 := z2.out
       have y3 := z3.out
       obtain ⟨b1, hq1⟩ : ∃ q, q = w.heap.size := ⟨_, rfl⟩
       obtain ⟨b2, hq2⟩ : ∃ q, q = w1.heap.size := ⟨_, rfl⟩
       obtain ⟨b3, hq3⟩ : ∃ q, q = w2.heap.size := ⟨_, rfl⟩
       obtain ⟨p, hq⟩ : ∃ q, q = w3.heap.size := ⟨_, rfl⟩
       have k1 : Holds w4 b1 25 (ic x) := by rw [hq1]; exact ((hb1.keep m2 (by simp)).keep m3 (by simp)).keep m4 (by simp)
       have k2 : Holds w4 b2 25 (ic zeroI) := by rw [hq2]; exact (hb2.keep m3 (by simp)).keep m4 (by simp)
       have k3 : OwnG ic 25 32 w4 (some ⟨b3, 0, none⟩) 67 [] := by rw [hq3]; exact hO.keep m4 (by simp)
       have mm4 : Mod [] w w4 := ((m1.then m2).then m3).then m4
       have o1 : b1 < b2 := by omega
       have o2 : b2 < b3 := by omega
       have o3 : b3 < p := by omega
       have o4 : w4.heap.size = p + 1 := by omega
       have o5 : w.heap.size ≤ b1 := by omega
       have k4 := hb4
       rw [← hq] at k4 ⊢
       rw [← hq1, ← hq2, ← hq3]
       clear hb1 m1 z1 hb2 m2 z2 hO m3 z3 hb4 m4 z4 hq hq1 hq2 hq3 y1 y2 y3
       replace o4 := Lib.hid o4)
    | (with_reducible refine wpList_store1 (o := ⟨none, .store 22 (.tmp 3) (.tmp 6), _, _, _, _⟩) rfl 22 (.tmp 3) (.tmp 6) rfl rfl p (.slice (some ⟨b3, 0, none⟩) 0 67) rfl rfl (slice_one _ _ _) size22 22 (.slice none 0 0) k4 ?_
       intro w4' k4' m4' z4'
       replace o4 := Lib.hid (show w4'.heap.size = p + 1 by have := o4.out; omega)
       have HK := Lib.hid (And.intro (k1.keep m4' (by simp; omega)) (And.intro (k2.keep m4' (by simp; omega)) (And.intro (k3.keep m4' (by rintro _ ⟨⟩; simp; omega)) (And.intro (far_mod mm4 m4' (by simp; omega)) k4'))))
       clear k1 k2 k3 mm4 k4 k4' m4' z4')
    | (with_reducible refine wpList_loads (o := ⟨some 7, .load 25 (.tmp 1), _, _, _, _⟩) rfl 25 (.tmp 1) rfl b1 0 _ rfl (Cells.of_holds HK.out.1) _ Tryd.underlying25 rfl (size25i x) (iv x) rfl ?_)
    | (go_at_call 33; refine (starts_c x _).mono ?_
       rintro e w5 ⟨rfl, hs5, m5, z5⟩
       obtain ⟨bs, hbs⟩ : ∃ q, q = w4'.heap.size := ⟨_, rfl⟩
       rw [← hbs] at hs5 ⊢
       replace z5 := Lib.hid z5
       replace hbs := Lib.hid hbs))
  obtain ⟨k1, k2, k3, mm4, k4⟩ := HK.out
  have mm5 : Mod [] w w5 := mm4.then m5
  replace k2 := k2.keep m5 (by simp)
  replace k3 := k3.keep m5 (by simp)
  replace k4 := k4.keep m5 (by simp)
  have o6 : bs = p + 1 := by rw [hbs.out, o4.out]
  have o7 : w5.heap.size = bs + 1 := by rw [z5.out, hbs.out]
  have hB : Bs [b3, p] w5.heap.size bs x w5 := ⟨HH.out.2.then mm5, hs5, by have := HH.out.2.two; simp; omega⟩
  clear m5 z5 hbs k1 o4
  refine (wpIn_wide (n := 5)).1 ?_
  refine wpIn_rangeFunc_with (F := Fence.wide) (n := 5) rfl (by omega) (gf := 42) (lb := #[.pointer (some ⟨bs, 0, none⟩)]) rfl trivial (enters_of Tryd.func42 (by kernel_rfl) rfl)
    (starts_with 4 (by omega) bs w5.heap.size [b3, p] x w5 hB (Nat.le_refl _))
    (fun h k => h.trans k) (fun W l o o' hl ho h1 _ => ?hKb) (Below.refl _ _) (fun _ => rfl)
    (fun pre W => pre = stsI x pre.length ∧ Holds W b2 25 (ic zeroI) ∧ Mod [] w W ∧ w5.heap.size ≤ W.heap.size ∧ ∃ A c, Holds W p 22 [.slice A pre.length c] ∧ OwnG ic 25 32 W A c (pre.map endI) ∧ (∀ i ∈ blk A, i = b3 ∨ w5.heap.size ≤ i))
    (fun _ _ _ => False)
    (fun s A B row hs hg hr => ?hI) (fun _ _ _ _ _ hs _ _ => hs.elim) ⟨rfl, k2, mm5, Nat.le_refl _, some ⟨b3, 0, none⟩, 67, k4, k3, fun i hi => .inl (by simpa [blk] using hi)⟩
    (fun pre z a' W => z = (pre.length, startI pre.length x) ∧ ∃ Bx, w5.heap.size ≤ Bx ∧ Holds W Bx 25 (ic z.2) ∧ (∃ A n c, Holds W p 22 [.slice A n c] ∧ Bx ∉ blk A) ∧ a' = { tmps := #[iv x, .pointer (some ⟨b1, 0, none⟩), .pointer (some ⟨b2, 0, none⟩), .pointer (some ⟨p, 0, none⟩), .int .i64 (z.1 : Int), .pointer (some ⟨Bx, 0, none⟩), .slice (some ⟨b3, 0, none⟩) 0 67, iv x, .func (.func 42) #[] #[.pointer (some ⟨bs, 0, none⟩)], .int .i64 (z.1 : Int), iv z.2, undef, undef, undef, undef, undef, undef, undef, undef], defers := [] })
    (fun pre z a' s A B row hs hg hr => ?hAx) ?assign ?body ?done ?stop
  case hKb =>
    exact ⟨by simp [World.putObj], fun k hk _ _ => World.putObj_heap_other (by omega)⟩
  case hI =>
    obtain ⟨h0, h1, h2, h3, A', c, h4, h5, h6⟩ := hs
    exact ⟨h0, holds_own h1 hg (fun r e => (hr r e).2), mod_own h2 hg (fun r e => Nat.le_trans mm5.size (hr r e).1), Nat.le_trans h3 hg.size, A', c, holds_own h4 hg (fun r e => (hr r e).2), h5.own hg (fun r e => (hr r e).2), h6⟩
  case hAx =>
    obtain ⟨h0, Bx, h1, h2, ⟨A, n, c, h4, h5⟩, h3⟩ := hs
    exact ⟨h0, Bx, h1, holds_own h2 hg (fun r e => (hr r e).2), ⟨A, n, c, holds_own h4 hg (fun r e => (hr r e).2), h5⟩, h3⟩
  case assign =>
    rintro l pre z W K ⟨h0, h1, h2, h3, A', c, h4, h5, h6⟩ hF hK
    rw [zip_two]
    change Code.wpIn _ _ _ _ _ { tmps := #[iv x, .pointer (some ⟨b1, 0, none⟩), .pointer (some ⟨b2, 0, none⟩), .pointer (some ⟨p, 0, none⟩), undef, undef, .slice (some ⟨b3, 0, none⟩) 0 67, iv x, .func (.func 42) #[] #[.pointer (some ⟨bs, 0, none⟩)], .int .i64 (z.1 : Int), iv z.2, undef, undef, undef, undef, undef, undef, undef, undef], defers := [] } W
    gi_wp2_with (first
      | (with_reducible refine wpListIn_allocs (o := ⟨some 5, .alloc 25, _, _, _, _⟩) rfl 25 rfl _ zeroI_25 ?_; intro v1 hv1 mv1 zv1)
      | (with_reducible refine wpListIn_storesAll (o := ⟨none, .store 25 (.tmp 5) (.tmp 10), _, _, _, _⟩) rfl 25 (.tmp 5) (.tmp 10) rfl rfl W.heap.size (ic z.2) rfl (iv z.2) rfl rfl 25 _ hv1 (by rw [ic_length, ic_length]) (ic_one z.2) (size25i z.2) ?_; intro v2 hv2 mv2 zv2))
    have mv : Mod [] W v2 := mv1.trans mv2 (by intro i hi h; simp at h; omega)
    exact hK _ _ (mv.keepsFrom _) (mv.keepL _ (fun _ h => by cases h)) ⟨h0, h1.keep mv (by simp), h2.then mv, Nat.le_trans h3 mv.size, A', c, h4.keep mv (by simp), h5.keep mv (by simp), h6⟩ ⟨hF, W.heap.size, h3, hv2, ⟨A', _, c, h4.keep mv (by simp), fun hh => by have := h5.notin hh; omega⟩, rfl⟩
  case body =>
    rintro l pre z a' W hl _ ⟨h0, h1, h2, h3, A, c, h4, h5, h6⟩ ⟨hz, Bx, hBx, hX, ⟨A2, n2, c2, h7, h8⟩, rfl⟩ hlen
    obtain rfl := h7.slice_inj h4
    obtain ⟨e, he⟩ : ∃ e, e = endI z := ⟨_, rfl⟩
    obtain ⟨r, hr⟩ : ∃ r, r = pre.map endI := ⟨_, rfl⟩
    have hrl : pre.length = r.length := by rw [hr, List.length_map]
    rw [← hr] at h5
    rw [hrl] at h4
    have hz1 : z.1 < 256 := by rw [hz]; show pre.length < 256; omega
    have hfar : ∀ i ∈ p :: blk A2, w.heap.size ≤ i := fun i hi => by
      rcases List.mem_cons.1 hi with rfl | hi
      · omega
      · rcases h6 i hi with q | q
        · omega
        · have := mm5.size; omega
    have hpA : p ∉ blk A2 := fun hh => by
      rcases h6 p hh with q | q <;> omega
    have hb2 : b2 ∉ p :: blk A2 := fun hh => by
      rcases List.mem_cons.1 hh with q | q
      · omega
      · rcases h6 b2 q with q | q <;> omega
    have hBxA : Bx ∉ p :: blk A2 := fun hh => by
      rcases List.mem_cons.1 hh with q | q
      · subst q
        unfold Holds at hX h4
        rw [h4] at hX
        simp at hX
      · exact h8 q
    clear h7 h8
    have hGl : ∀ v, Mod (p :: blk A2) W v → Glob v := fun v m => (HH.out.2.then h2).keep m (fun i hi => by have := hfar i hi; have := HH.out.2.two; omega)
    have hr67 : r.length < 67 := by omega
    have HB := Lib.hid (And.intro h0 (And.intro h1 (And.intro h2 (And.intro h3 (And.intro h4 (And.intro h5 h6))))))
    clear h0 h1 h2 h3 h6
    gi_wp2_with fail
    refine Rgi.wpIn_regx (X := Xk) ⟨0, none, 0⟩ (fun y => [iv x, .pointer (some ⟨b1, 0, none⟩), .pointer (some ⟨b2, 0, none⟩), .pointer (some ⟨p, 0, none⟩), .int .i64 (z.1 : Int), .pointer (some ⟨Bx, 0, none⟩), .slice (some ⟨b3, 0, none⟩) 0 67, iv x, .func (.func 42) #[] #[.pointer (some ⟨bs, 0, none⟩)], .int .i64 (z.1 : Int), iv z.2, .slice A2 r.length c, iv z.2, .int .i64 (z.1 : Int), iv e, .slice (some ⟨y.b, 0, none⟩) 1 1, .slice y.C (r.length + 1) y.c, undef, undef]) 19 [0, 1, 2, 3, 4, 5, 6, 7, 8, 9, 10, 17, 18]
      (fun y lz v => SbK (p :: blk A2) W r e A2 c (lz 4) (lz 5) y v ∧ Holds v p 22 [if lz 6 = true then .slice y.C (r.length + 1) y.c else .slice A2 r.length c]) []
      (by kernel_rfl) (fun _ => rfl) rfl rfl rfl (fun _ => by simp only [List.map_cons, List.map_nil, List.getD_cons_zero, List.getD_cons_succ])
      ⟨⟨Mod.drew _ W, fun i hi => List.mem_cons_of_mem _ hi, fun _ => h5, (fun q => by cases q), (fun q => by cases q)⟩, h4⟩ (by kernel_rfl) (by kernel_rfl) ?step ?fin
    case step =>
      intro y lz T v j o hj hlj hdep hst hpar hgot hcl Kq hK
      obtain ⟨hs, hp⟩ := hst
      have hjn : j < 7 := (Array.getElem?_eq_some_iff.1 hj).1
      obtain rfl | rfl | rfl | rfl | rfl | rfl | rfl : j = 0 ∨ j = 1 ∨ j = 2 ∨ j = 3 ∨ j = 4 ∨ j = 5 ∨ j = 6 := by omega
      all_goals (have hj' := Option.some.inj (hj : some _ = some o); subst hj'; clear hj)
      · have l6 : lz 6 = false := (by cases hh : lz 6 with | false => rfl | true => exact absurd (hcl 6 _ rfl hh ⟨0, .phase⟩ (by simp) rfl) (by rw [hlj]; simp))
        rw [if_neg (by rw [l6]; simp)] at hp
        exact Rgi.wpi_ran (fun _ => trivial) (by intro c hc; cases hc) rfl (exec_load rfl (eval_tmp (hpar 3 (by simp))) (run_load1 Tryd.underlying22 rfl (by simpa using hp.cell 0))) (hK y _ _ (fun _ _ _ _ _ _ => rfl) (fun s hs => by cases hs; rfl) ⟨hs, by rw [if_neg (by simp [l6])]; exact hp⟩)
      · exact Rgi.wpi_ran (fun _ => trivial) (by intro c hc; cases hc) rfl (exec_load rfl (eval_tmp (hpar 5 (by simp))) (run_loads (Cells.of_holds (hX.keep hs.1 hBxA)) Tryd.underlying25 rfl (size25i z.2))) (hK y _ _ (fun _ _ _ _ _ _ => rfl) (fun s hs => by cases hs; rfl) ⟨hs, by simpa using hp⟩)
      · exact Rgi.wpi_ran (fun _ => trivial) (by intro c hc; cases hc) rfl (exec_move rfl (eval_tmp (hpar 4 (by simp)))) (hK y _ _ (fun _ _ _ _ _ _ => rfl) (fun s hs => by cases hs; rfl) ⟨hs, by simpa using hp⟩)
      · refine Rgi.wpi_called (fun _ => trivial) (by intro c hc; cases hc) rfl (by intro h; cases h) (exec_call4 rfl rfl (eval_tmp (hgot 1 _ 12 rfl (hdep ⟨1, .data⟩ (by simp) rfl) rfl)) (eval_tmp (hgot 2 _ 13 rfl (hdep ⟨2, .data⟩ (by simp) rfl) rfl)) rfl rfl (enters_of Tryd.func31 (by kernel_rfl) rfl)) ((CallsIn.inRound l (callsIn_wide.2 (reached_c z.2 z.1 0 15 15 rfl hz1 (by decide) v (hGl v hs.1)))).mono ?_)
        rintro e' v' ⟨rfl, mm⟩
        exact ⟨_, rfl, hK y _ _ (fun _ _ _ _ _ _ => rfl) (fun s hs => by cases hs; rw [he]; rfl) ⟨hs.mod0 mm, by simpa using hp.keep mm (by simp)⟩⟩
      · have l5 : lz 5 = false := (by cases hh : lz 5 with | false => rfl | true => exact absurd (hcl 5 _ rfl hh ⟨4, .data⟩ (by simp) rfl) (by rw [hlj]; simp))
        have l6 : lz 6 = false := (by cases hh : lz 6 with | false => rfl | true => exact absurd (hcl 6 _ rfl hh ⟨4, .phase⟩ (by simp) rfl) (by rw [hlj]; simp))
        have hs' : SbK (p :: blk A2) W r e A2 c (lz 4) false y v := by rw [← l5]; exact hs
        refine Rgi.wpi_ran (fun _ => trivial) (by intro c hc; cases hc) rfl (exec_lit22 rfl (eval_tmp (hgot 3 _ 14 rfl (hdep ⟨3, .data⟩ (by simp) rfl) rfl))) (hK { y with b := v.heap.size } _ _ (fun j' o' s' g1 g2 g3 => by
          have g4 : j' < 7 := (Array.getElem?_eq_some_iff.1 g1).1
          obtain rfl | rfl | rfl | rfl | rfl | rfl | rfl : j' = 0 ∨ j' = 1 ∨ j' = 2 ∨ j' = 3 ∨ j' = 4 ∨ j' = 5 ∨ j' = 6 := by omega
          all_goals (cases g1; cases g3 <;> first | rfl | (rw [hlj] at g2; cases g2) | (rw [l5] at g2; cases g2))) (fun s hs => by cases hs; rfl) ⟨?_, ?_⟩)
        · have := hs'.lit
          simpa [l5] using this
        · simpa [l6] using (show Holds v p 22 _ by simpa [l6] using hp).keep (Mod.alloc [] v _) (by simp)
      · have l6 : lz 6 = false := (by cases hh : lz 6 with | false => rfl | true => exact absurd (hcl 6 _ rfl hh ⟨5, .data⟩ (by simp) rfl) (by rw [hlj]; simp))
        have l4 : lz 4 = true := hdep ⟨4, .data⟩ (by simp) rfl
        have l0 : lz 0 = true := hdep ⟨0, .data⟩ (by simp) rfl
        have hs' : SbK (p :: blk A2) W r e A2 c true false y v := by rw [← l4, ← hlj]; exact hs
        obtain ⟨C1, c1, v', hrun, g1, g2⟩ := hs'.app (o := { dst := some 16, op := .call { callee := .builtin .append, args := #[.tmp 11, .tmp 15], argTypes := #[22, 22] }, type := 22, pos := "wots.go:47", after := #[], guard := none }) (ρ := T.eval) (.tmp 11) (.tmp 15) rfl (eval_tmp (hgot 0 _ 11 rfl l0 rfl)) (eval_tmp (hgot 4 _ 15 rfl l4 rfl)) (by omega)
        refine Rgi.wpi_ran (fun _ => trivial) (by intro c hc; cases hc) rfl hrun (hK { y with C := C1, c := c1 } _ _ (fun j' o' s' g1 g2 g3 => by
          have g4 : j' < 7 := (Array.getElem?_eq_some_iff.1 g1).1
          obtain rfl | rfl | rfl | rfl | rfl | rfl | rfl : j' = 0 ∨ j' = 1 ∨ j' = 2 ∨ j' = 3 ∨ j' = 4 ∨ j' = 5 ∨ j' = 6 := by omega
          all_goals (cases g1; cases g3 <;> first | rfl | (rw [hlj] at g2; cases g2) | (rw [l6] at g2; cases g2))) (fun s hs => by cases hs; rfl) ⟨by simpa [l4] using g1, ?_⟩)
        simpa [l6] using (show Holds v p 22 _ by simpa [l6] using hp).keep g2 hpA
      · have l5 : lz 5 = true := hdep ⟨5, .data⟩ (by simp) rfl
        have l4 : lz 4 = true := hdep ⟨4, .phase⟩ (by simp) rfl
        have hp' : Holds v p 22 [.slice A2 r.length c] := by simpa [hlj] using hp
        obtain ⟨it, hit, hi1⟩ : ∃ it, Tryd.prog.info? 22 = some it ∧ it.size = 1 := by
          have := size22
          cases hq : Tryd.prog.info? 22 with
          | none => rw [hq] at this; cases this
          | some it => exact ⟨it, rfl, by rw [hq] at this; simpa using this⟩
        have ms : Mod [p] v (v.setCell ⟨p, 0, none⟩ (.slice y.C (r.length + 1) y.c)) := Mod.setCell v (by simp) _
        refine Rgi.wpi_skip (fun _ => trivial) (by intro c hc; cases hc) rfl (exec_store1 rfl (eval_tmp (hpar 3 (by simp))) (eval_tmp (hgot 5 _ 16 rfl l5 rfl)) (slice_one _ _ _) hit hi1 (hp'.cell 0) (hp'.free 0)) (hK y _ _ (fun _ _ _ _ _ _ => rfl) (fun s hs => by cases hs) ⟨?_, ?_⟩)
        · obtain ⟨q1, q2, q3, q4, q5⟩ := hs
          have q6 := q5 l5
          have hpC : p ∉ blk y.C := fun hh => by
            obtain ⟨u, hu, hu2⟩ := mem_blk hh
            exact q6.1.ne hp' (by decide) u hu hu2
          refine ⟨q1.trans ms (fun i _ h => by simp at h; simp [h]), q2, fun q => ?_, fun _ q => ?_, fun _ => ⟨q6.1.keep ms (fun a ha hh => hpC (by simp at hh; simp [blk, ha, hh])), q6.2⟩⟩
          · simp [l5] at q
          · simp [l5] at q
        · simpa using hp'.set 0 (.slice y.C (r.length + 1) y.c)
    case fin =>
      intro y lz v hl hst
      obtain ⟨⟨q1, q2, -, -, q5⟩, hp⟩ := hst
      have q6 := q5 (hl 5 (by decide))
      have hp6 : Holds v p 22 [.slice y.C (r.length + 1) y.c] := by simpa [hl 6 (by decide)] using hp
      obtain ⟨h0, h1, h2, h3, -, -, h6⟩ := HB.out
      have HV := Lib.hid (And.intro q1 (And.intro q2 (And.intro q6 hp6)))
      clear q1 q2 q5 q6 hp hp6
      gi_wp2_with fail
      obtain ⟨q1, q2, q6, hp6⟩ := HV.out
      refine ⟨⟨q1.size, fun k o _ hk hc => (q1.block k (Array.getElem?_eq_some_iff.1 hk).1 (fun hm => ?_)).trans hk⟩, q1.keepL _ (fun i hi hlt => ?_), ?_, h1.keep q1 hb2, h2.trans q1 (fun i hi hm => by have := hfar i hm; omega), Nat.le_trans h3 q1.size, y.C, y.c, ?_, ?_, ?_⟩
      · rcases List.mem_cons.1 hm with q | q
        · subst q
          unfold Holds at h4
          rw [h4] at hk
          cases hk
          cases hc
        · rw [h5.isCells q hk] at hc
          cases hc
      · rcases List.mem_cons.1 hi with q | q
        · simp [q]
        · rcases h6 i q with q' | q'
          · simp [q']
          · omega
      · rw [List.length_append, show [z].length = 1 from rfl, stsI_snoc, ← h0, hz]
      · rw [List.length_append, show [z].length = 1 from rfl, hrl]
        exact hp6
      · rw [List.map_append, ← hr]
        simpa [he] using q6.1
      · intro i hi
        rcases q6.2 i hi with q | q
        · exact h6 i q
        · right; omega
  case done =>
    rintro D xs W hD hxs ⟨h0, h1, h2, h3, A, c, h4, h5, h6⟩ hK
    have hD2 : D ≠ b2 := by omega
    rw [hxs] at h0 h4
    have hk : endsI (xs.map endI) = d := by rw [HH.out.1, h0]; rfl
    have X := keyOf_c A (xs.map endI) 67 c (by rw [List.length_map, hxs]) (by decide) W (HH.out.2.then h2) h5.cells
    rw [hk] at X
    have HV := Lib.hid (And.intro h2 (And.intro hK (And.intro hD2 h1)))
    clear h0 h1 h2 h3 h5 h6 hK hD2 hk
    have hq0 := h4.cell 0
    simp only [List.getElem?_cons_zero] at hq0
    go_wp2_with (first
      | (with_reducible refine wpList_load1 (o := ⟨some 17, .load 22 (.tmp 3), _, _, _, _⟩) rfl 22 (.tmp 3) rfl ⟨p, 0, none⟩ (.slice A 67 c) rfl _ Tryd.underlying22 rfl hq0 ?_)
      | (go_at_call 35; refine X.mono ?_; rintro e w6 ⟨rfl, m6⟩)
      | (with_reducible refine wpList_storesAll (o := ⟨none, .store 25 (.tmp 2) (.tmp 18), _, _, _, _⟩) rfl 25 (.tmp 2) (.tmp 18) rfl rfl b2 (ic d) rfl (iv d) rfl rfl 25 _ (HV.out.2.2.2.keep m6 (by simp)) (by rw [ic_length, ic_length]) (ic_one d) (size25i d) ?_; intro v2 hv2 mv2 zv2))
    obtain ⟨h3, hK, hD2, _⟩ := HV.out
    have hK6 : w6.heap[D]? = some (.deferred (some [])) := (m6.block D (Array.getElem?_eq_some_iff.1 hK).1 (by simp)).trans hK
    have hK2 : v2.heap[D]? = some (.deferred (some [])) := (mv2.block D (Array.getElem?_eq_some_iff.1 hK6).1 (by simpa using hD2)).trans hK6
    have hB2 : Holds (v2.putObj D (.deferred none)) b2 25 (ic d) := holds_own hv2 (grownBy_putObj' v2 D (.deferred none)) (fun r e => by cases e; exact ⟨_, hK2, rfl⟩)
    have hM : Mod [] w (v2.putObj D (.deferred none)) := mod_own (far_mod (h3.then m6) mv2 (by simp; omega)) (grownBy_putObj' v2 D (.deferred none)) (fun r e => by cases e; have := mm5.size; omega)
    refine ⟨by simp, .inl ⟨_, _, rfl, run_takeDeferred hK2, ?_⟩⟩
    exact ⟨_, results_cell_row rfl _ _ b2 25 _ (0, 0) _ rfl hB2 Tryd.underlying25 rfl (by rw [List.size_toArray]; exact size25i d), rfl, hM⟩
  case stop =>
    rintro D cd pre W hD _ hf hK
    exact hf.elim
end Go.Proofs.YtdolihecjomjiaaDoor
