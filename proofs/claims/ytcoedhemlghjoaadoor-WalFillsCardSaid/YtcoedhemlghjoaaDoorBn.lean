/-
  My own texts Wh Wl Wm, one behind the other.
-/
import Derived.Test.YtcoedhemlghjoaaDoorBm
import Derived.Test.YtcoedhemlghjoaaDoorBe
namespace Go.Proofs.YtcoedhemlghjoaaDoor
section
open Go.RowKit Go.Shelf
attribute [local go_sem] Oper.semAt_some
theorem zero33 : ∀ w, (zeroValue 26).run Tryd.prog w = .ok (.int .i64 0) w := (zero_of_info (n := 1) (by kernel_rfl)).1
theorem own_cells {α : Type} {f : α → List Value} {e : TypeId} {size : Nat} {w : World} {A : Option Addr} {c : Nat} {l : List α} (h : OwnG f e size w A c l) : ∀ a, A = some a → ∃ o : Obj, w.heap[a.block]? = some o ∧ o.isCells = true := by
  rcases h.2 with ⟨hv, hn⟩ | ⟨g, cap, cur, hv, hb, hg, h1, h2, _⟩
  · injection hv with h1 h2 h3
    subst h1
    simp
  · injection hv with h3 h4 h5
    subst h3
    rintro _ ⟨⟩
    exact ⟨_, hg, rfl⟩
theorem grown_mod {W W' : World} {row : Option Nat} (h : W.grownBy W' row) : Mod row.toList W W' := ⟨h.os, h.tape, h.output, h.size, fun k hk hn => h.block k hk (fun e => hn (by rw [← e]; simp))⟩
theorem dat_own {W W' : World} {g m c B : Nat} {A : Option Addr} {S : St} {row : Option Nat} (h : DAt W g m A c S) (hg : W.grownBy W' row) (hr : ∀ r, row = some r → B ≤ r ∧ ∃ o : Obj, W.heap[r]? = some o ∧ o.isCells = false) (h1 : g < B) (h2 : m < B) : DAt W' g m A c S := by
  refine h.keep (grown_mod hg) (fun hh => ?_) (fun hh => ?_) (fun a ha hh => ?_)
  · have := (hr g (by simpa using hh)).1; omega
  · have := (hr m (by simpa using hh)).1; omega
  · obtain ⟨o, ho, hc⟩ := own_cells h.loose a ha
    obtain ⟨_, o', ho', hc'⟩ := hr a.block (by simpa using hh)
    rw [ho] at ho'
    cases ho'
    rw [hc] at hc'
    cases hc'
theorem modl_own {ms : List Nat} {w W W' : World} {row : Option Nat} (h : Mod ms w W) (hg : W.grownBy W' row) (hr : ∀ r, row = some r → w.heap.size ≤ r) : Mod ms w W' :=
  ⟨hg.os.trans h.os, hg.tape.trans h.tape, hg.output.trans h.output, Nat.le_trans h.size hg.size, fun k hk hn => (hg.block k (Nat.lt_of_lt_of_le hk h.size) (fun e => by have := hr k e.symm; omega)).trans (h.block k hk hn)⟩
theorem Mod.keepsCells {ms : List Nat} {W W' : World} (h : Mod ms W W') (hm : ∀ i ∈ ms, ∃ o : Obj, W.heap[i]? = some o ∧ o.isCells = true) (B : Nat) : KeepsFrom B W W' := ⟨h.size, fun k o _ hk hc => (h.block k (Array.getElem?_eq_some_iff.1 hk).1 (fun hh => by
  obtain ⟨o', ho, h1⟩ := hm k hh
  rw [hk] at ho
  cases ho
  rw [hc] at h1
  cases h1)).trans hk⟩
/-- Where a disk stands that was turned since v. -/
structure Twr (S : St) (g m : Nat) (A : Option Addr) (v : World) (W : World) (A' : Option Addr) (c' : Nat) : Prop where
  D : DAt W g m A' c' S
  mm : Mod (g :: m :: blk A) v W
  new : ∀ a, A' = some a → a.block ∈ blk A ∨ v.heap.size ≤ a.block
theorem Twr.own {S : St} {g m c' B : Nat} {A A' : Option Addr} {v W W' : World} {row : Option Nat} (h : Twr S g m A v W A' c') (hg : W.grownBy W' row) (hr : ∀ r, row = some r → B ≤ r ∧ ∃ o : Obj, W.heap[r]? = some o ∧ o.isCells = false) (h1 : g < v.heap.size) (h2 : m < v.heap.size) (hB : v.heap.size ≤ B) : Twr S g m A v W' A' c' :=
  ⟨dat_own h.D hg hr (by omega) (by omega), modl_own h.mm hg (fun r e => Nat.le_trans hB (hr r e).1), h.new⟩
theorem Twr.mod {S : St} {g m c' : Nat} {A A' : Option Addr} {v W W' : World} (h : Twr S g m A v W A' c') (k : Mod [] W W') : Twr S g m A v W' A' c' :=
  ⟨h.D.keep k (by simp) (by simp) (by simp), h.mm.trans k (fun i _ h => by cases h), h.new⟩
theorem notin88 {W : World} {g m c k : Nat} {A : Option Addr} {S : St} {t : TypeId} {cs : List Value} (D : DAt W g m A c S) (h : Holds W k t cs) (h1 : t ≠ 45) (h2 : 92 ≠ t) : k ∉ g :: blk A := by
  simp only [List.mem_cons, not_or]
  exact ⟨h.ne D.blk h1, notin_blk (D.loose.ne h h2)⟩
theorem Twr.write {S T : St} {g m c' c1 : Nat} {A A' A1 : Option Addr} {v W W1 : World} (h : Twr S g m A v W A' c') (D : DAt W1 g m A1 c1 T) (q1 : Mod (g :: blk A') W W1) (q2 : ∀ a, A1 = some a → a.block ∈ blk A' ∨ W.heap.size ≤ a.block) : Twr T g m A v W1 A1 c1 ∧ KeepL (g :: m :: blk A) v.heap.size W W1 ∧ ∀ B, KeepsFrom B W W1 := by
  have hs : ∀ i ∈ g :: blk A', i < v.heap.size → i ∈ g :: m :: blk A := by
    intro i hi hlt
    simp only [List.mem_cons] at hi ⊢
    rcases hi with rfl | hi
    · exact .inl rfl
    · obtain ⟨a, ha, rfl⟩ := mem_blk hi
      rcases h.new a ha with h1 | h1
      · exact .inr (.inr h1)
      · omega
  refine ⟨⟨D, h.mm.trans q1 (fun i hi hm => hs i hm hi), fun a ha => ?_⟩, q1.keepL _ hs, fun B => q1.keepsCells (fun i hi => ?_) B⟩
  · rcases q2 a ha with h1 | h1
    · obtain ⟨a2, ha2, e2⟩ := mem_blk h1
      rw [← e2]
      exact h.new a2 ha2
    · exact .inr (Nat.le_trans h.mm.size h1)
  · simp only [List.mem_cons] at hi
    rcases hi with rfl | hi
    · exact ⟨_, h.D.blk, rfl⟩
    · obtain ⟨a, ha, rfl⟩ := mem_blk hi
      exact own_cells h.D.loose a ha
theorem Twr.step {S : St} {g m c' k : Nat} {A A' : Option Addr} {v W V : World} {t : TypeId} {cs : List Value} (h : Twr S g m A v W A' c') (hh : Holds W k t cs) (h1 : t ≠ 45) (h2 : 92 ≠ t) (hk : v.heap.size ≤ k) (q : Mod [k] W V) : Twr S g m A v V A' c' := by
  have hn := notin88 h.D hh h1 h2
  simp only [List.mem_cons, not_or] at hn
  have h4 := h.D.firm.ne_holds hh
  refine ⟨h.D.keep q (by simpa using fun e => hn.1 e.symm) (by simpa using fun e => h4 e.symm) (fun a ha => by simpa using h.D.loose.ne hh h2 a ha), h.mm.trans q (fun i hi hm => by simp at hm; omega), h.new⟩
theorem results_cell_one {P : Program} {fn : Func} {p : Tmp} {ty : TypeId} (h : fn.results = #[.cell p ty]) (tmps : Array Value) (w : World) (g : Nat) (t : TypeId) (fr : Nat × Nat) (V : Value)
    (hp : tmps.getD p undef = .pointer (some ⟨g, 0, none⟩)) (hg : w.heap[g]? = some (.cells #[V] t fr)) {d : TypeDesc}
    (hu : P.underlying ty = some d) (hd : (match d with | .struct _ | .array _ _ => true | _ => false) = false) :
    (results fn tmps).run P w = .ok V w := by
  have hp' : tmps[p]?.getD undef = .pointer (some ⟨g, 0, none⟩) := by simpa using hp
  have hc : w.cell? ⟨g, 0, none⟩ = some V := by simp [World.cell?, hg]
  simp [results, h, hp', asAddr, Rg.run_load1 hu hd hc]
theorem wpList_alloc1 {P : Program} {w : World} {ops : Array Oper} {rest : List Oper} {o : Oper} {a : Act} {Q : Exit → Act → World → Prop} (hgd : o.guard = none) (ty : TypeId) (ho : o.op = .alloc ty) (V : Value) (h1 : V.oneCell' = true) (hz : ∀ w, (zeroValue ty).run P w = .ok V w)
    (h : ∀ v, Holds v w.heap.size ty [V] → Mod [] w v → v.heap.size = w.heap.size + 1 → wpList P ops Q rest (a.put o.dst (.pointer (some ⟨w.heap.size, 0, none⟩))) v) : wpList P ops Q (o :: rest) a w := by
  refine wpList_plain hgd fun K hK => ?_
  have hrun : (Instr.alloc ty true (.tuple #[])).run P w = .ok (.pointer (some ⟨w.heap.size, 0, none⟩)) (w.alloc (.cells #[V] ty)) := by
    simp [Instr.alloc, hz, newVar, newRow, go_sem]
    split
    · simp [Value.oneCell'] at h1
    · rfl
  unfold Oper.wp execOp
  simp only [ho, Sem.run_bind, hrun, Result.andThen]
  exact hK _ _ (h _ (Holds.made w ty [V]) (Mod.alloc [] w _) (by simp))
set_option maxRecDepth 100000 in
set_option maxHeartbeats 4000000 in
theorem write93_c (c s : List UInt32) (S : St) (g m cc : Nat) (A : Option Addr) (i : Nat) (b1 b2 b3 cap : Nat) (E : Option Addr) (e : List UInt8) (t k : Nat) (v : World) (D : DAt v g m A cc S) (H : Lf c s (g :: m :: blk A) v.heap.size b1 b2 b3 E e cap t k v) (hi : i ≤ 1000000) (ho : S.ops + 1000 ≤ 1099511627776) (ht : t < 4294967296) (hk : k < 4294967296) (he : e.length ≤ 9223372036854775807) :
    Calls Tryd.prog 38 #[.pointer (some ⟨g, 0, none⟩), .int .i64 (i : Int), .func (.func 57) #[] #[.pointer (some ⟨b1, 0, none⟩), .pointer (some ⟨b2, 0, none⟩), .pointer (some ⟨b3, 0, none⟩)]] v fun r v' => r = .returned (.int .i64 (S.writes i (leavesB c s t k e)).1) ∧
      ∃ A' c', DAt v' g m A' c' (S.writes i (leavesB c s t k e)).2 ∧ Mod (g :: m :: blk A) v v' ∧ (∀ a, A' = some a → a.block ∈ blk A ∨ v.heap.size ≤ a.block) := by
  obtain ⟨Z, hZ⟩ : ∃ Z, Z = leavesB c s t k e := ⟨_, rfl⟩
  have hZl : Z.length ≤ 834 := by rw [hZ, leavesB_length]; exact fills_le _
  have hZf : fills e.length = Z.length := by rw [hZ, leavesB_length]
  rw [← hZ]
  have HW := Lib.hid (And.intro D (And.intro H (And.intro hZ (And.intro hZl (And.intro hZf (And.intro ho (And.intro ht (And.intro hk he))))))))
  have hgv := D.blk.lt
  clear D H hZ hZl hZf ho ht hk he
  refine (callsIn_wide (n := 5)).1 ?_
  refine callsIn_of_wp_marks Tryd.func38 rfl trivial ?_ rfl
  simp only [Tryd.ntmps38, List.size_toArray, List.length_cons, List.length_nil, Nat.reduceAdd, Nat.reduceSub, Array.replicate_succ, Array.replicate_zero, List.push_toArray, List.append_toArray, List.nil_append, List.cons_append]
  refine wpIn_wide.2 ?_
  go_wp2_with (first
    | (with_reducible refine wpList_boxes (o := ⟨some 3, .box 25 (.tmp 0), _, _, _, _⟩) rfl 25 (.tmp 0) rfl _ rfl [.pointer (some ⟨g, 0, none⟩)] rfl ?_; intro w1 hb1 m1 z1; replace z1 := Lib.hid z1)
    | (with_reducible refine wpList_boxes (o := ⟨some 4, .box 3 (.tmp 1), _, _, _, _⟩) rfl 3 (.tmp 1) rfl _ rfl [.int .i64 (i : Int)] rfl ?_; intro w2 hb2 m2 z2; replace z2 := Lib.hid z2)
    | (refine wpList_alloc1 (o := ⟨some 6, .alloc 26, _, _, _, _⟩) rfl 26 rfl (.int .i64 0) rfl zero33 ?_; intro w3 hb3 m3 z3; replace z3 := Lib.hid z3))
  obtain ⟨D, H, hZ, hZl, hZf, ho, ht, hk, he⟩ := HW.out
  have mm3 : Mod [] v w3 := (m1.then m2).then m3
  have y1 := z1.out
  have y2 := z2.out
  have y3 := z3.out
  obtain ⟨bd, e1⟩ : ∃ b, b = v.heap.size := ⟨_, rfl⟩
  obtain ⟨bi, e2⟩ : ∃ b, b = w1.heap.size := ⟨_, rfl⟩
  obtain ⟨be, e3⟩ : ∃ b, b = w2.heap.size := ⟨_, rfl⟩
  have hB1 : Holds w3 bd 25 [.pointer (some ⟨g, 0, none⟩)] := by rw [e1]; exact (hb1.keep m2 (by simp)).keep m3 (by simp)
  have hB2 : Holds w3 bi 3 [.int .i64 (i : Int)] := by rw [e2]; exact hb2.keep m3 (by simp)
  have hB3 : Holds w3 be 26 [.int .i64 0] := by rw [e3]; exact hb3
  have o1 : v.heap.size ≤ bd := by omega
  have o2 : bd < bi := by omega
  have o3 : bi < be := by omega
  have o4 : be < w3.heap.size := by omega
  have hmv := D.firm.lt
  have T0 : Twr S g m A v w3 A cc := ⟨D.keep mm3 (by simp) (by simp) (by simp), mm3.wk (fun _ _ h => by cases h), fun a ha => .inl (by unfold blk; simp [ha])⟩
  rw [← e1, ← e2, ← e3]
  clear e1 e2 e3 hb1 hb2 hb3 m1 m2 m3 z1 z2 z3 y1 y2 y3 D
  refine (wpIn_wide (n := 5)).1 ?_
  refine wpIn_rangeFunc_ownH (F := Fence.wide) (n := 5) rfl (by omega) (gf := 57) (lb := #[.pointer (some ⟨b1, 0, none⟩), .pointer (some ⟨b2, 0, none⟩), .pointer (some ⟨b3, 0, none⟩)]) rfl trivial (enters_of Tryd.func57 (by kernel_rfl) rfl)
    (leaves_stops c s 4 (by omega) b1 b2 b3 v.heap.size cap (g :: m :: blk A) E e t k ht hk he w3 (H.mod mm3) mm3.size)
    (fun h k => h.trans k) (fun W l o o' hl ho h1 h2 => ?hKb) (Below.refl _ _) (fun _ => rfl)
    (fun pre W => Holds W bd 25 [.pointer (some ⟨g, 0, none⟩)] ∧ Holds W bi 3 [.int .i64 ((i + pre.length : Nat) : Int)] ∧ Holds W be 26 [.int .i64 0] ∧ (S.writes i pre).1 = 0 ∧ ∃ A' c', Twr (S.writes i pre).2 g m A v W A' c')
    (fun cd pre W => cd = .ret ∧ (S.writes i pre).1 ≠ 0 ∧ Holds W be 26 [.int .i64 (S.writes i pre).1] ∧ ∃ A' c', Twr (S.writes i pre).2 g m A v W A' c')
    (fun s A B row hs hg hr => ?hI) (fun cd s A B row hs hg hr => ?hIx) ⟨hB1, by simpa using hB2, hB3, rfl, A, cc, T0⟩
    (fun x a' W => ∃ Bx, be < Bx ∧ Holds W Bx 73 (bc x) ∧ a' = { tmps := #[.pointer (some ⟨g, 0, none⟩), .int .i64 (i : Int), .func (.func 57) #[] #[.pointer (some ⟨b1, 0, none⟩), .pointer (some ⟨b2, 0, none⟩), .pointer (some ⟨b3, 0, none⟩)], .pointer (some ⟨bd, 0, none⟩), .pointer (some ⟨bi, 0, none⟩), undef, .pointer (some ⟨be, 0, none⟩), .pointer (some ⟨Bx, 0, none⟩), undef, .func (.func 57) #[] #[.pointer (some ⟨b1, 0, none⟩), .pointer (some ⟨b2, 0, none⟩), .pointer (some ⟨b3, 0, none⟩)], bv x, undef, undef, undef, undef, undef, undef, undef, undef, undef], defers := [] })
    (fun x a' s A B row hs hg hr => ?hAx) ?assign ?body ?done ?stop
  case hKb => exact ⟨by simp [World.putObj], fun k hk _ _ => World.putObj_heap_other (by have := mm3.size; omega)⟩
  case hI =>
    obtain ⟨h1, h2, h3, h4, A', c', h5⟩ := hs
    exact ⟨holds_own h1 hg (fun r e => (hr r e).2), holds_own h2 hg (fun r e => (hr r e).2), holds_own h3 hg (fun r e => (hr r e).2), h4, A', c', h5.own hg hr hgv hmv mm3.size⟩
  case hIx =>
    obtain ⟨h0, h4, h3, A', c', h5⟩ := hs
    exact ⟨h0, h4, holds_own h3 hg (fun r e => (hr r e).2), A', c', h5.own hg hr hgv hmv mm3.size⟩
  case hAx =>
    obtain ⟨Bx, h1, h2, h3⟩ := hs
    exact ⟨Bx, h1, holds_own h2 hg (fun r e => (hr r e).2), h3⟩
  case assign =>
    rintro l pre x W K ⟨h1, h2, h3, h4, A', c', h5⟩ hK
    have hlt := h3.lt
    rw [zip_one]
    change Code.wpIn _ _ _ _ _ { tmps := #[.pointer (some ⟨g, 0, none⟩), .int .i64 (i : Int), .func (.func 57) #[] #[.pointer (some ⟨b1, 0, none⟩), .pointer (some ⟨b2, 0, none⟩), .pointer (some ⟨b3, 0, none⟩)], .pointer (some ⟨bd, 0, none⟩), .pointer (some ⟨bi, 0, none⟩), undef, .pointer (some ⟨be, 0, none⟩), undef, undef, .func (.func 57) #[] #[.pointer (some ⟨b1, 0, none⟩), .pointer (some ⟨b2, 0, none⟩), .pointer (some ⟨b3, 0, none⟩)], bv x, undef, undef, undef, undef, undef, undef, undef, undef, undef], defers := [] } W
    gi_wp2_with (first
      | (with_reducible refine wpListIn_allocs (o := ⟨some 7, .alloc 73, _, _, _, _⟩) rfl 73 rfl _ zero110 ?_; intro v1 hv1 mv1 zv1)
      | (with_reducible refine wpListIn_storesAll (o := ⟨none, .store 73 (.tmp 7) (.tmp 10), _, _, _, _⟩) rfl 73 (.tmp 7) (.tmp 10) rfl rfl W.heap.size (bc x) rfl (bv x) rfl rfl 73 _ hv1 (by rw [bc_length, bc_length]) (bc_one x) (by rw [bc_length]; exact size110) ?_; intro v2 hv2 mv2 zv2))
    have mv : Mod [] W v2 := ⟨mv2.os.trans mv1.os, mv2.tape.trans mv1.tape, mv2.output.trans mv1.output, by omega, fun i hi hn => (mv2.block i (by omega) (by simp; omega)).trans (mv1.block i hi hn)⟩
    exact hK _ _ (mv.keepsFrom _) (mv.keepL _ (fun _ h => by cases h)) ⟨h1.keep mv (by simp), h2.keep mv (by simp), h3.keep mv (by simp), h4, A', c', h5.mod mv⟩ ⟨W.heap.size, hlt, hv2, rfl⟩
  case body =>
    rintro l pre x a' W hl _ ⟨h1, h2, h3, h4, A', c', h5⟩ ⟨Bx, hlt, hX, rfl⟩ hpre
    have e1 := h1.cell 0
    have e2 := h2.cell 0
    simp only [List.getElem?_cons_zero] at e1 e2
    have hn2 : i + pre.length ≤ 1000834 := by omega
    obtain ⟨j, hj⟩ : ∃ j, j = i + pre.length := ⟨_, rfl⟩
    have hjj : i + (pre ++ [x]).length = j + 1 := by simp [hj]; omega
    have hjZ : (j : Int) ≤ 1000834 := by omega
    have hops := writes_ops pre S (i : Int)
    have XW := fun q => write_c (S.writes i pre).2 g m A' c' (j : Int) x q
    have hsn := writes_snoc x pre S (i : Int) h4
    have hji : (i : Int) + (pre.length : Int) = (j : Int) := by omega
    rw [hji] at hsn
    rw [← hsn] at XW
    obtain ⟨r, hr⟩ : ∃ r, r = (S.writes i (pre ++ [x])).1 := ⟨_, rfl⟩
    rw [← hr] at XW
    rw [← hj] at e2
    have hF : Hid (Holds W bd 25 [.pointer (some ⟨g, 0, none⟩)] ∧ Holds W bi 3 [.int .i64 ((i + pre.length : Nat) : Int)] ∧ Holds W be 26 [.int .i64 0] ∧ Twr (S.writes i pre).2 g m A v W A' c') := Lib.hid ⟨h1, h2, h3, h5⟩
    have XW' := XW W h5.D (by omega)
    have HJ := Lib.hid (And.intro hj (And.intro hjj hr))
    clear hj hjj hr hji hops XW hsn hn2 h1 h2 h3 h4 h5 HW H hZf ho
    by_cases h0 : r = 0
    · subst h0
      gi_wp2_with (first
        | (with_reducible refine wpListIn_loads (o := ⟨some 13, .load 73 (.tmp 7), _, _, _, _⟩) rfl 73 (.tmp 7) rfl Bx 0 _ rfl (Cells.of_holds hX) _ Tryd.underlying73 rfl (by rw [bc_length]; exact size110) (bv x) rfl ?_)
        | (refine ⟨trivial, (CallsIn.inRound l (callsIn_wide.2 XW')).mono ?_⟩
           rintro r W1 ⟨rfl, A1, c1, D1, q1, q2⟩
           have h2 := hF.out.2.1.keep q1 (notin88 hF.out.2.2.2.D hF.out.2.1 (by decide) (by decide))
           have e2 : W1.cell? ⟨bi, 0, none⟩ = some (.int .i64 (j : Int)) := by rw [HJ.out.1]; exact h2.cell 0
           have e3 : W1.frozen? ⟨bi, 0, none⟩ = false := h2.free 0
           replace h2 := Lib.hid h2))
      obtain ⟨f1, f2, f3, f4⟩ := hF.out
      obtain ⟨t1, t2, t3⟩ := f4.write D1 q1 q2
      have m2 : Mod [bi] W1 (W1.setCell ⟨bi, 0, none⟩ (.int .i64 ((j : Int) + 1))) := Mod.setCell _ (by simp) _
      have h5 := h2.out.set 0 (.int .i64 ((j : Int) + 1))
      have hd := (f1.keep q1 (notin88 f4.D f1 (by decide) (by decide))).keep m2 (by simp; omega)
      have he3 := (f3.keep q1 (notin88 f4.D f3 (by decide) (by decide))).keep m2 (by simp; omega)
      refine ⟨(t3 _).trans (m2.keepsFrom1 h2.out _), t2.trans (m2.keepL _ (fun i hi hl => by simp at hi; omega)), hd, ?_, he3, HJ.out.2.2.symm, A1, c1, t1.step h2.out (by decide) (by decide) (by omega) m2⟩
      rw [HJ.out.2.1]
      simpa using h5
    · have h0' : ¬ (r = 0) := h0
      gi_wp2_with (first
        | (with_reducible refine wpListIn_loads (o := ⟨some 13, .load 73 (.tmp 7), _, _, _, _⟩) rfl 73 (.tmp 7) rfl Bx 0 _ rfl (Cells.of_holds hX) _ Tryd.underlying73 rfl (by rw [bc_length]; exact size110) (bv x) rfl ?_)
        | (refine ⟨trivial, (CallsIn.inRound l (callsIn_wide.2 XW')).mono ?_⟩
           rintro r W1 ⟨rfl, A1, c1, D1, q1, q2⟩
           have h2 := hF.out.2.2.1.keep q1 (notin88 hF.out.2.2.2.D hF.out.2.2.1 (by decide) (by decide))
           have e2 : W1.cell? ⟨be, 0, none⟩ = some (.int .i64 0) := h2.cell 0
           have e3 : W1.frozen? ⟨be, 0, none⟩ = false := h2.free 0
           replace h2 := Lib.hid h2))
      obtain ⟨f1, f2, f3, f4⟩ := hF.out
      obtain ⟨t1, t2, t3⟩ := f4.write D1 q1 q2
      have m2 : Mod [be] W1 (W1.setCell ⟨be, 0, none⟩ (.int .i64 r)) := Mod.setCell _ (by simp) _
      have h5 := h2.out.set 0 (.int .i64 r)
      refine ⟨(t3 _).trans (m2.keepsFrom1 h2.out _), rfl, by rw [← HJ.out.2.2]; exact h0, ?_, A1, c1, t1.step h2.out (by decide) (by decide) (by omega) m2⟩
      rw [← HJ.out.2.2]
      simpa using h5
  case done =>
    rintro D xs W hD rfl ⟨h1, h2, h3, h4, A', c', h5⟩ hK
    have hD4 : D ≠ be := by omega
    rw [← hZ] at h4 h5
    have e2 : W.cell? ⟨be, 0, none⟩ = some (.int .i64 0) := h3.cell 0
    have e3 : W.frozen? ⟨be, 0, none⟩ = false := h3.free 0
    have HV := Lib.hid (And.intro h3 (And.intro h4 (And.intro h5 hK)))
    clear h1 h2 h3 h4 h5 hK H HW hZf ho
    go_wp2_with fail
    obtain ⟨h3, h4, h5, hK⟩ := HV.out
    have m2 : Mod [be] W (W.setCell ⟨be, 0, none⟩ (.int .i64 0)) := Mod.setCell _ (by simp) _
    have h6 := h3.set 0 (.int .i64 0)
    have hT := h5.step h3 (by decide) (by decide) (by omega) m2
    have hK2 : (W.setCell ⟨be, 0, none⟩ (.int .i64 0)).heap[D]? = some (.deferred (some [])) := (m2.block D (Array.getElem?_eq_some_iff.1 hK).1 (by simpa using hD4)).trans hK
    generalize W.setCell ⟨be, 0, none⟩ (.int .i64 0) = v2 at *
    have hB : Holds (v2.putObj D (.deferred none)) be 26 [.int .i64 0] := holds_own (by simpa using h6) (grownBy_putObj' v2 D (.deferred none)) (fun r e => by cases e; exact ⟨_, hK2, rfl⟩)
    have hM := hT.own (grownBy_putObj' v2 D (.deferred none)) (fun r e => by cases e; exact ⟨hD, _, hK2, rfl⟩) hgv hmv mm3.size
    refine ⟨by simp, .inl ⟨_, _, rfl, run_takeDeferred hK2, ?_⟩⟩
    refine ⟨_, results_cell_one rfl _ _ be 26 (0, 0) _ rfl hB Tryd.underlying26 rfl, ?_, A', c', hM.D, hM.mm, hM.new⟩
    rw [h4]
  case stop =>
    rintro D cd pre W hD ⟨u, hu⟩ ⟨rfl, h4, h3, A', c', h5⟩ hK
    have hD4 : D ≠ be := by omega
    have hst := writes_stop u pre S (i : Int) h4
    rw [← hu, ← hZ] at hst
    rw [← hst] at h3 h5
    have HV := Lib.hid (And.intro h3 (And.intro h5 hK))
    clear h3 h4 h5 hK H HW hZf ho hu hst
    refine wpIn_wide.2 ?_
    go_wp2_with fail
    obtain ⟨h3, h5, hK⟩ := HV.out
    have hB : Holds (W.putObj D (.deferred none)) be 26 [.int .i64 (S.writes i Z).1] := holds_own h3 (grownBy_putObj' W D (.deferred none)) (fun r e => by cases e; exact ⟨_, hK, rfl⟩)
    have hM := h5.own (grownBy_putObj' W D (.deferred none)) (fun r e => by cases e; exact ⟨hD, _, hK, rfl⟩) hgv hmv mm3.size
    refine ⟨by simp, .inl ⟨_, _, rfl, run_takeDeferred hK, ?_⟩⟩
    exact ⟨_, results_cell_one rfl _ _ be 26 (0, 0) _ rfl hB Tryd.underlying26 rfl, rfl, A', c', hM.D, hM.mm, hM.new⟩
end
section
open Go.RowKit
theorem run_build93 (t : Nat) (a : Int) (w : World) : (Instr.build 50 #[(0, hv t a)]).run Tryd.prog w = .ok (kv t a (.slice none 0 0) (.slice none 0 0) 0) w := by kernel_rfl
theorem exec_build93 {v : World} {o : Oper} {ρ : Operand → Value} {x : Operand} {t : Nat} {a : Int} (ho : o.op = .build 50 #[(0, x)]) (hx : ρ x = hv t a) : (execOp ρ o).run Tryd.prog v = .ok (.value (kv t a (.slice none 0 0) (.slice none 0 0) 0)) v := by
  unfold execOp
  simp only [ho, List.map_toArray, List.map_cons, List.map_nil, hx, Sem.run_bind, run_build93, Result.andThen, Sem.run_pure]
theorem size93_of (t : Nat) (a : Int) (st cm : Value) (e : Int) : (Tryd.prog.info? 50).map (·.size) = some (kc t a st cm e).length := size93
set_option maxRecDepth 100000 in
set_option maxHeartbeats 4000000 in
theorem begin_c (t : Nat) (a : Int) (A : Option Addr) (l : List UInt8) (n c : Nat) (hn : n = l.length) (w : World) (hl : n ≤ 140737488355328) (h : Reads w A l) :
    Calls Tryd.prog 16 #[hv t a, .slice A n c] w fun r w' => ∃ b, r = .returned (kv t a (.slice (some ⟨b, 0, none⟩) n n) (.slice none 0 0) (fills n : Int)) ∧ Holds w' b 5 (l.map oct) ∧ Mod [] w w' ∧ w.heap.size ≤ b := by
  have HH := Lib.hid (And.intro hn (And.intro hl h))
  clear hn hl h
  go_enter Tryd.func16, Tryd.ntmps16
  go_wp2_with (first
    | (with_reducible refine wpList_boxes (o := ⟨some 2, .box 47 (.tmp 0), _, _, _, _⟩) rfl 47 (.tmp 0) rfl _ rfl (hc t a) rfl ?_; intro w1 hb1 m1 z1; replace z1 := Lib.hid z1)
    | (with_reducible refine wpList_allocs (o := ⟨some 4, .alloc 50, _, _, _, _⟩) rfl 50 rfl _ zero93 ?_; intro w2 hb2 m2 z2; replace z2 := Lib.hid z2)
    | (with_reducible refine wpList_loads (o := ⟨some 6, .load 47 (.tmp 2), _, _, _, _⟩) rfl 47 (.tmp 2) rfl w.heap.size 0 _ rfl (Cells.of_holds (hb1.keep m2 (by simp))) _ Tryd.underlying47 rfl (size91_of t a) (hv t a) rfl ?_)
    | (with_reducible refine wpList_ranW (o := ⟨some 7, .build 50 _, _, _, _, _⟩) (by with_unfolding_all rfl) (kv t a (.slice none 0 0) (.slice none 0 0) 0) w2 (exec_build93 rfl rfl) ?_)
    | (with_reducible refine wpList_allocs (o := ⟨some 5, .alloc 50, _, _, _, _⟩) rfl 50 rfl _ zero93 ?_; intro w3 hb3 m3 z3; replace z3 := Lib.hid z3)
    | (with_reducible refine wpList_storesAll (o := ⟨none, .store 50 (.tmp 5) (.tmp 7), _, _, _, _⟩) rfl 50 (.tmp 5) (.tmp 7) rfl rfl w2.heap.size (kc t a (.slice none 0 0) (.slice none 0 0) 0) rfl (kv t a (.slice none 0 0) (.slice none 0 0) 0) rfl rfl 50 _ hb3 (by rw [kc_length, kc_length]) (kc_one _ _ _ _ _ _ _ _ _) (size93_of _ _ _ _ _) ?_; intro w4 hb4 m4 z4; replace z4 := Lib.hid z4))
  have y1 := z1.out
  have y2 := z2.out
  have y3 := z3.out
  have y4 := z4.out
  have mm : Mod [] w w4 := ((m1.then m2).then m3).trans m4 (fun i hi h => by simp at h; omega)
  obtain ⟨b4, e4⟩ : ∃ b, b = w1.heap.size := ⟨_, rfl⟩
  obtain ⟨b5, e5⟩ : ∃ b, b = w2.heap.size := ⟨_, rfl⟩
  have o1 : w.heap.size ≤ b4 := by omega
  have o2 : b4 < b5 := by omega
  have o3 : b5 < w4.heap.size := by omega
  have h4 : Holds w4 b4 50 (kc 0 0 (.slice none 0 0) (.slice none 0 0) 0) := by rw [e4]; exact (hb2.keep m3 (by simp)).keep m4 (by simp; omega)
  rw [← e5] at hb4 ⊢
  rw [← e4]
  have hR := HH.out.2.2.keep mm (by simp)
  clear e4 e5 y1 y2 y3 y4 z1 z2 z3 z4 hb1 hb2 hb3 m1 m2 m3 m4
  have X1 := copied73_c A l n c HH.out.1 w4 HH.out.2.1 hR
  clear hR
  have HO := Lib.hid (And.intro o1 (And.intro o2 o3))
  clear o1 o2 o3
  go_wp2_with fail
  refine X1.mono ?_
  rintro r w5 ⟨rfl, h5, m5, z5⟩
  obtain ⟨b, eb⟩ : ∃ b, b = w4.heap.size := ⟨_, rfl⟩
  rw [← eb] at h5 ⊢
  have hbo := Lib.hid (show b5 < b by have := HO.out; omega)
  clear eb z5 X1
  replace hb4 := hb4.keep m5 (by simp)
  replace h4 := h4.keep m5 (by simp)
  replace mm := mm.then m5
  clear m5
  have X2 := take0_c b5 50 t a (.slice none 0 0) (.slice none 0 0) (some ⟨b, 0, none⟩) n n [] w5 (by simpa using hb4) HH.out.2.1
  go_wp2_with fail
  refine X2.mono ?_
  rintro r w6 ⟨⟨u, rfl⟩, h6, m6⟩
  rw [List.append_nil] at h6
  replace h4 := h4.keep m6 (by have := HO.out; simp; omega)
  replace h5 := h5.keep m6 (by have := hbo.out; simp; omega)
  replace mm := mm.trans m6 (fun i hi h => by have := HO.out; simp at h; omega)
  clear X2 m6 hb4
  go_wp2_with (first
    | (with_reducible refine wpList_loads (o := ⟨some 11, .load 50 (.tmp 5), _, _, _, _⟩) rfl 50 (.tmp 5) rfl b5 0 _ rfl (Cells.of_holds h6) _ Tryd.underlying50 rfl (size93_of _ _ _ _ _) (kv t a (.slice (some ⟨b, 0, none⟩) n n) (.slice none 0 0) (fills n : Int)) rfl ?_)
    | (with_reducible refine wpList_storesAll (o := ⟨none, .store 50 (.tmp 4) (.tmp 11), _, _, _, _⟩) rfl 50 (.tmp 4) (.tmp 11) rfl rfl b4 (kc t a (.slice (some ⟨b, 0, none⟩) n n) (.slice none 0 0) (fills n : Int)) rfl (kv t a (.slice (some ⟨b, 0, none⟩) n n) (.slice none 0 0) (fills n : Int)) rfl rfl 50 _ h4 (by rw [kc_length, kc_length]) (kc_one _ _ _ _ _ _ _ _ _) (size93_of _ _ _ _ _) ?_; intro w7 hb7 m7 z7; replace z7 := Lib.hid z7))
  refine bodyPost_ret (results_cell_row rfl _ _ b4 50 _ (0, 0) _ rfl hb7 Tryd.underlying50 rfl (by rw [List.size_toArray]; exact size93_of _ _ _ _ _)) rfl ?_
  exact ⟨b, rfl, h5.keep m7 (by have := HO.out; have := hbo.out; simp; omega), mm.trans m7 (fun i hi h => by have := HO.out; simp at h; omega), by have := HO.out; have := hbo.out; omega⟩
end
section
open Go.RowKit
def secs (f k n : Nat) : List Value := (List.range n).map (fun j => Value.int .i64 (if j < k then ((f + j : Nat) : Int) else 0))
theorem secs_length (f k n : Nat) : (secs f k n).length = n := by simp [secs]
theorem secs_zero (f n : Nat) : secs f 0 n = List.replicate n (.int .i64 0) := by
  apply List.ext_getElem
  · simp [secs]
  · intro i h1 h2
    simp [secs]
theorem secs_set (f k n : Nat) : (secs f k n).set k (.int .i64 ((f + k : Nat) : Int)) = secs f (k + 1) n := by
  apply List.ext_getElem
  · simp [secs]
  · intro i h1 h2
    rw [List.getElem_set]
    split
    · rename_i h
      subst h
      simp [secs]
    · rename_i h
      have h3 : (i < k + 1) = (i < k) := by simp; omega
      simp [secs, h3]
theorem secs_all (f n : Nat) : secs f n n = ((List.range n).map (fun j => ((f + j : Nat) : Int))).map (Value.int .i64) := by
  apply List.ext_getElem
  · simp [secs]
  · intro i h1 h2
    have : i < n := by simpa [secs] using h1
    simp [secs, this]
theorem i64_parts : (Tryd.prog.info? 3).map (fun i => (i.zero, i.size, i.bytes)) = some (some (.int .i64 0), 1, 8) := by kernel_rfl
set_option maxRecDepth 100000 in
set_option maxHeartbeats 4000000 in
theorem sectors56_c (f n : Nat) (hf : f ≤ 1000000) (hn : n ≤ 1000000) (w : World) :
    Calls Tryd.prog 19 #[.int .i64 (f : Int), .int .i64 (n : Int)] w fun r w' => r = .returned (.slice (some ⟨w.heap.size, 0, none⟩) n n) ∧ Holds w' w.heap.size 3 (((List.range n).map (fun j => ((f + j : Nat) : Int))).map (Value.int .i64)) ∧ Mod [] w w' := by
  obtain ⟨i0, k1, k2, k3, k4⟩ := info_parts i64_parts
  have hnZ : (n : Int) ≤ 1000000 := by omega
  have hfZ : (f : Int) ≤ 1000000 := by omega
  obtain ⟨b, hb⟩ : ∃ b, b = w.heap.size := ⟨_, rfl⟩
  have HB := Lib.hid hb
  rw [← hb]
  go_enter Tryd.func19, Tryd.ntmps19
  go_wp2_with (at_make; go_loud (refine wpList_makes _ rfl _ _ 54 rfl 3 i0 (.int .i64 0) Tryd.underlying54 k1 k2 k3 8 k4 rfl .i64 .i64 _ _ n rfl rfl rfl rfl (by omega) (by unfold maxLen; omega) ?_); intro w1 hw1 hm1 hs1; replace hs1 := Lib.hid hs1)
  rw [← hb] at hw1
  rw [← hb]
  rw [← secs_zero f n] at hw1
  clear hb k1 k2 k3 k4
  go_loopw [11] (fun i wr => ∃ k : Nat, k ≤ n ∧ i = .int .i64 (k : Int) ∧ Holds wr b 3 (secs f k n) ∧ Mod [] w wr) (fun i _ => n - (intOf i).toNat)
  case atStart => exact ⟨0, by omega, rfl, hw1, hm1⟩
  case round =>
    obtain ⟨k, hk, rfl, hh, hmi⟩ := hrel
    by_cases hkn : k < n
    · have e1 : wr.cell? ⟨b, k, none⟩ = some ((secs f k n)[k]'(by rw [secs_length]; exact hkn)) := by rw [hh.cell k, List.getElem?_eq_getElem]
      have e2 : wr.frozen? ⟨b, k, none⟩ = false := hh.free k
      have hx : (f : Int) + (k : Int) = ((f + k : Nat) : Int) := by omega
      obtain ⟨x, hxx⟩ : ∃ x, x = f + k := ⟨_, rfl⟩
      rw [← hxx] at hx
      have HX := Lib.hid (And.intro hxx hh)
      clear hxx hh hw1
      go_wp2_with fail
      refine ⟨⟨k + 1, by omega, by simp, ?_, hmi.trans (Mod.setCell (ms := [b]) _ (by simp) _) (fun i hi h => by have := HB.out; simp at h; omega)⟩, by simp [intOf]; omega⟩
      have := HX.out.2.set k (.int .i64 (x : Int))
      rw [HX.out.1, secs_set] at this
      rw [HX.out.1]
      exact this
    · obtain rfl : n = k := by omega
      clear hw1
      go_wp2
      go_ret
      exact ⟨rfl, by rw [← secs_all]; exact hh, hmi⟩
/-- Noughts are written to the sectors of a list, then all is made firm; till something is refused. -/
def St.wipes (S : St) : List Int → Int × St
  | [] => S.sync
  | i :: l => if (S.write i (fil 0)).1 = 0 then St.wipes (S.write i (fil 0)).2 l else S.write i (fil 0)
theorem sync_ops1 (S : St) : S.sync.2.ops ≤ S.ops + 1 := by
  unfold St.sync
  simp only
  split
  · exact ask_ops1 S _ _
  · exact ask_ops1 S _ _
theorem wipes_ops : ∀ (l : List Int) (S : St), (S.wipes l).2.ops ≤ S.ops + l.length + 1 := by
  intro l
  induction l with
  | nil => intro S; exact sync_ops1 S
  | cons b l ih =>
    intro S
    have h1 := write_ops1 S b (fil 0)
    simp only [St.wipes]
    split
    · have := ih (S.write b (fil 0)).2
      simp only [List.length_cons]
      omega
    · simp only [List.length_cons]; omega
theorem Twr.sync {S T : St} {g m c' c1 : Nat} {A A' A1 : Option Addr} {v W W1 : World} (h : Twr S g m A v W A' c') (D : DAt W1 g m A1 c1 T) (q1 : Mod [g, m] W W1) (q2 : ∀ a, A1 = some a → A' = some a) : Twr T g m A v W1 A1 c1 :=
  ⟨D, h.mm.trans q1 (fun i hi hm => by simp at hm ⊢; rcases hm with rfl | rfl <;> simp), fun a ha => h.new a (q2 a ha)⟩
theorem run_build110 (w : World) : (Instr.build 73 #[]).run Tryd.prog w = .ok (bv (fil 0)) w := by kernel_rfl
theorem exec_build110 {v : World} {o : Oper} {ρ : Operand → Value} (ho : o.op = .build 73 #[]) : (execOp ρ o).run Tryd.prog v = .ok (.value (bv (fil 0))) v := by
  unfold execOp
  simp only [ho, List.map_toArray, List.map_nil, Sem.run_bind, run_build110, Result.andThen, Sem.run_pure]
set_option maxRecDepth 100000 in
set_option maxHeartbeats 4000000 in
theorem wipe_c (S : St) (g m cc : Nat) (A : Option Addr) (L : List Int) (B : Option Addr) (n cb : Nat) (hn : n = L.length) (v : World) (D : DAt v g m A cc S) (hL : Cells v B (L.map (Value.int .i64))) (hk : ∀ a, B = some a → a.block ∉ g :: m :: blk A) (hl : n ≤ 4000) (ho : S.ops + 5000 ≤ 1099511627776) :
    Calls Tryd.prog 18 #[.pointer (some ⟨g, 0, none⟩), .slice B n cb] v fun r v' => r = .returned (.int .i64 (S.wipes L).1) ∧ ∃ A' c', Twr (S.wipes L).2 g m A v v' A' c' := by
  have hlZ : (n : Int) ≤ 4000 := by omega
  have T0 : Twr S g m A v v A cc := ⟨D, Mod.refl _ _, fun a ha => .inl (by unfold blk; simp [ha])⟩
  have HW := Lib.hid (And.intro hn (And.intro hL (And.intro hk ho)))
  clear hn hL hk hl ho D
  go_enter Tryd.func18, Tryd.ntmps18
  go_wp2_with fail
  go_loopw [10] (fun i wr => ∃ (k : Nat) (T : St) (A' : Option Addr) (c' : Nat), k ≤ n ∧ i = .int .i64 (k : Int) ∧ Twr T g m A v wr A' c' ∧ S.wipes L = T.wipes (L.drop k) ∧ T.ops ≤ S.ops + k) (fun i _ => n - (intOf i).toNat)
  case atStart => exact ⟨0, S, A, cc, by omega, rfl, T0, by simp, by omega⟩
  case round =>
    obtain ⟨k, T, A', c', hkn, rfl, hT, hS, hop⟩ := hrel
    obtain ⟨hn, hL, hkk, ho⟩ := HW.out
    by_cases hlt : k < n
    · have hkl : k < (L.map (Value.int .i64)).length := by rw [List.length_map, ← hn]; exact hlt
      obtain ⟨ga, oa, rfl, hca⟩ := hL k hkl
      have hcb := (hL.keep hT.mm hkk)
      obtain ⟨ga', oa', e', hca'⟩ := hcb k hkl
      cases e'
      have hd : L.drop k = L[k]'(by rw [← hn]; exact hlt) :: L.drop (k + 1) := List.drop_eq_getElem_cons (by rw [← hn]; exact hlt)
      rw [List.getElem_map] at hca'
      generalize L[k]'(by rw [← hn]; exact hlt) = x at hd hca'
      rw [hd] at hS
      have XW := write_c T g m A' c' x (fil 0) wr hT.D (by omega)
      simp only [St.wipes] at hS
      obtain ⟨r, hr⟩ : ∃ r, r = (T.write x (fil 0)).1 := ⟨_, rfl⟩
      rw [← hr] at XW hS
      have hops := write_ops1 T x (fil 0)
      have HS := Lib.hid (And.intro hS (And.intro hr (And.intro hT (And.intro hop hops))))
      have hkZ : (k : Int) < (n : Int) := by omega
      clear hS hr hT hop hd hcb hca hkl hn hL hkk ho hops T0
      by_cases h0 : r = 0
      · subst h0
        go_wp2_with (with_reducible refine wpList_ranW (o := ⟨some 16, .build 73 _, _, _, _, _⟩) (by with_unfolding_all rfl) (bv (fil 0)) wr (exec_build110 rfl) ?_)
        refine XW.mono ?_
        rintro r w1 ⟨rfl, A1, c1, D1, q1, q2⟩
        go_wp2
        obtain ⟨hS, hr, hT, hop, hops⟩ := HS.out
        rw [if_pos trivial] at hS
        exact ⟨⟨k + 1, _, A1, c1, by omega, by simp, (hT.write D1 q1 q2).1, hS, by omega⟩, by simp [intOf]; omega⟩
      · go_wp2_with (with_reducible refine wpList_ranW (o := ⟨some 16, .build 73 _, _, _, _, _⟩) (by with_unfolding_all rfl) (bv (fil 0)) wr (exec_build110 rfl) ?_)
        refine XW.mono ?_
        rintro r w1 ⟨rfl, A1, c1, D1, q1, q2⟩
        go_wp2
        go_ret
        obtain ⟨hS, hr, hT, hop, hops⟩ := HS.out
        rw [if_neg h0] at hS
        rw [hS]
        exact ⟨by rw [hr]; rfl, A1, c1, (hT.write D1 q1 q2).1⟩
    · obtain rfl : n = k := by omega
      have hd : L.drop n = [] := List.drop_eq_nil_of_le (by rw [← hn]; exact Nat.le_refl _)
      rw [hd] at hS
      have XY := sync_c T g m A' c' wr hT.D (by omega)
      have HS := Lib.hid (And.intro hS hT)
      clear hd hS hT hn hL hkk ho T0 hop
      go_wp2_with fail
      refine XY.mono ?_
      rintro r w1 ⟨rfl, A1, c1, D1, q1, q2⟩
      go_wp2
      go_ret
      obtain ⟨hS, hT⟩ := HS.out
      rw [hS]
      exact ⟨rfl, A1, c1, hT.sync D1 q1 q2⟩
end
end Go.Proofs.YtcoedhemlghjoaaDoor
