/-
  Package wots: what stands at the places behind one, as it is ranged over. My own work.
-/
import Derived.Test.YtdolihecjomjiaaDoorWc
namespace Go.Proofs.YtdolihecjomjiaaDoor
open Go.RowKit Go.Shelf
attribute [local go_sem] Oper.semAt_some
/-- So many steps of chain i from the place n on. -/
def walkI (i n : Nat) : Nat → Idv → Idv
  | 0, x => x
  | k + 1, x => stepI i (n + k) (walkI i n k x)
theorem KeepC.glob {ms : List Nat} {w v : World} (h : Glob w) (m : KeepC ms w v) (h1 : ∀ i ∈ ms, 2 ≤ i) : Glob v :=
  ⟨m.cells h.G (fun a ha => by cases ha; exact fun h => absurd (h1 _ h) (by decide)), m.cells h.G1 (fun a ha => by cases ha; exact fun h => absurd (h1 _ h) (by decide)), Nat.le_trans h.two m.size⟩
theorem Mod.keepC0 {ms : List Nat} {W W' : World} (h : Mod [] W W') : KeepC ms W W' := ⟨h.size, fun k _ _ h2 _ => (h.block k (Array.getElem?_eq_some_iff.1 h2).1 (by simp)).trans h2⟩
theorem wbehind_c (x : Idv) (c f t : Int) (w : World) : Calls Tryd.prog 37 #[iv x, .int .i64 c, .int .i64 f, .int .i64 t] w fun r w' =>
    ∃ b4 b5 b6 b7, r = .returned (.func (.func 43) #[] #[.pointer (some ⟨b4, 0, none⟩), .pointer (some ⟨b6, 0, none⟩), .pointer (some ⟨b7, 0, none⟩), .pointer (some ⟨b5, 0, none⟩)]) ∧ w.heap.size ≤ b4 ∧ w.heap.size ≤ b5 ∧ w.heap.size ≤ b6 ∧ w.heap.size ≤ b7 ∧
      Holds w' b4 25 (ic x) ∧ Holds w' b5 3 [.int .i64 c] ∧ Holds w' b6 3 [.int .i64 f] ∧ Holds w' b7 3 [.int .i64 t] ∧ Mod [] w w' := by
  go_enter Tryd.func37, Tryd.ntmps37
  go_wp2_with (first
    | (with_reducible refine wpList_boxes (o := ⟨some 4, .box 25 (.tmp 0), _, _, _, _⟩) rfl 25 (.tmp 0) rfl _ rfl (ic x) rfl ?_; intro w1 hb1 m1 z1; replace z1 := Lib.hid z1)
    | (with_reducible refine wpList_boxes (o := ⟨some 5, .box 3 (.tmp 1), _, _, _, _⟩) rfl 3 (.tmp 1) rfl _ rfl [.int .i64 c] rfl ?_; intro w2 hb2 m2 z2; replace z2 := Lib.hid z2)
    | (with_reducible refine wpList_boxes (o := ⟨some 6, .box 3 (.tmp 2), _, _, _, _⟩) rfl 3 (.tmp 2) rfl _ rfl [.int .i64 f] rfl ?_; intro w3 hb3 m3 z3; replace z3 := Lib.hid z3)
    | (with_reducible refine wpList_boxes (o := ⟨some 7, .box 3 (.tmp 3), _, _, _, _⟩) rfl 3 (.tmp 3) rfl _ rfl [.int .i64 t] rfl ?_; intro w4 hb4 m4 z4; replace z4 := Lib.hid z4))
  go_ret
  exact ⟨_, _, _, _, rfl, Nat.le_refl _, m1.size, (m1.then m2).size, ((m1.then m2).then m3).size, ((hb1.keep m2 (by simp)).keep m3 (by simp)).keep m4 (by simp), (hb2.keep m3 (by simp)).keep m4 (by simp), hb3.keep m4 (by simp), hb4, ((m1.then m2).then m3).then m4⟩
/-- Memory as the iterator reads it. -/
structure Bh (ms : List Nat) (b4 b5 b6 b7 : Nat) (x : Idv) (c f t : Nat) (W : World) : Prop where
  gl : Glob W
  h4 : Holds W b4 25 (ic x)
  h5 : Holds W b5 3 [.int .i64 (c : Int)]
  h6 : Holds W b6 3 [.int .i64 (f : Int)]
  h7 : Holds W b7 3 [.int .i64 (t : Int)]
  ne : b4 ∉ ms ∧ b5 ∉ ms ∧ b6 ∉ ms ∧ b7 ∉ ms ∧ ∀ i ∈ ms, 2 ≤ i
theorem Bh.keep {ms : List Nat} {b4 b5 b6 b7 : Nat} {x : Idv} {c f t : Nat} {W V : World} (h : Bh ms b4 b5 b6 b7 x c f t W) (m : KeepC ms W V) : Bh ms b4 b5 b6 b7 x c f t V :=
  ⟨m.glob h.gl h.ne.2.2.2.2, m.holds h.h4 h.ne.1, m.holds h.h5 h.ne.2.1, m.holds h.h6 h.ne.2.2.1, m.holds h.h7 h.ne.2.2.2.1, h.ne⟩
theorem Bh.mod {ms : List Nat} {b4 b5 b6 b7 : Nat} {x : Idv} {c f t g : Nat} {W V : World} (h : Bh ms b4 b5 b6 b7 x c f t W) (m : Mod [g] W V) (h2 : 2 ≤ g) (n4 : b4 ≠ g) (n5 : b5 ≠ g) (n6 : b6 ≠ g) (n7 : b7 ≠ g) : Bh ms b4 b5 b6 b7 x c f t V :=
  ⟨h.gl.keep m (by simpa using h2), h.h4.keep m (by simpa using n4), h.h5.keep m (by simpa using n5), h.h6.keep m (by simpa using n6), h.h7.keep m (by simpa using n7), h.ne⟩
abbrev encB (y : Idv) : Array Value := #[iv y]
def FxB (c f : Nat) (x : Idv) (pre : List Idv) (y : Idv) (_ : World) : Prop := y = walkI c f (pre.length + 1) x
set_option maxRecDepth 100000 in
set_option maxHeartbeats 4000000 in
theorem behind_in (n : Nat) (hn : 1 ≤ n) (y b4 b5 b6 b7 : Nat) (ms : List Nat) (x : Idv) (c f t N : Nat) (hN : f + N = t) (hc : c < 256) (ht : t ≤ 15) (J Jx : List Idv → World → Prop) (W : World)
    (hJ : ∀ pre v v', J pre v → Mod [] v v' → J pre v') (hJ1 : ∀ pre g v v', J pre v → Mod [g] v v' → W.heap.size ≤ g → J pre v')
    (hY : ∀ pre z V, FxB c f x pre z V → J pre V → pre.length < N → YieldAt Fence.wide (n - 1) Tryd.prog y (encB z) V fun r W' => (r = .returned (.bool true) ∧ J (pre ++ [z]) W' ∧ KeepC ms V W') ∨ (r = .returned (.bool false) ∧ Jx (pre ++ [z]) W'))
    (H : Bh ms b4 b5 b6 b7 x c f t W) (hms : ∀ i ∈ ms, i < W.heap.size) (h0 : J [] W) :
    CallsIn Fence.wide n Tryd.prog 43 #[.func (.yield y) #[] #[], .pointer (some ⟨b4, 0, none⟩), .pointer (some ⟨b6, 0, none⟩), .pointer (some ⟨b7, 0, none⟩), .pointer (some ⟨b5, 0, none⟩)] W fun r W' => (∃ v, r = .returned v) ∧ ((∃ zs, zs.length = N ∧ J zs W') ∨ ∃ pre, True ∧ Jx pre W') := by
  have d6 := H.h6.cell 0
  simp only [List.getElem?_cons_zero] at d6
  have hfZ : (f : Int) ≤ 15 := by omega
  have htZ : (t : Int) ≤ 15 := by omega
  have HW := Lib.hid (And.intro H (And.intro hms (And.intro hN (And.intro hc ht))))
  clear H hms hN hc ht
  refine callsIn_of_wp Tryd.func43 rfl trivial ?_ rfl
  simp only [Tryd.ntmps43, List.size_toArray, List.length_cons, List.length_nil, Nat.reduceAdd, Nat.reduceSub, Array.replicate_succ, Array.replicate_zero, List.push_toArray, List.append_toArray, List.nil_append, List.cons_append]
  gi_wp2_with (first
    | (with_reducible refine wpListIn_loads (o := ⟨some 8, .load 25 (.tmp 1), _, _, _, _⟩) rfl 25 (.tmp 1) rfl b4 0 _ rfl (Cells.of_holds HW.out.1.h4) _ Tryd.underlying25 rfl (size25i x) (iv x) rfl ?_)
    | (with_reducible refine wpListIn_allocs (o := ⟨some 6, .alloc 25, _, _, _, _⟩) rfl 25 rfl _ zeroI_25 ?_; intro v1 hv1 mv1 zv1)
    | (with_reducible refine wpListIn_storesAll (o := ⟨none, .store 25 (.tmp 6) (.tmp 8), _, _, _, _⟩) rfl 25 (.tmp 6) (.tmp 8) rfl rfl W.heap.size (ic x) rfl (iv x) rfl rfl 25 _ hv1 (by rw [ic_length, ic_length]) (ic_one x) (size25i x) ?_
       intro v2 hv2 mv2 zv2
       have mm : Mod [] W v2 := mv1.trans mv2 (by intro i hi h; simp at h; omega)
       have e6 : v2.cell? ⟨b6, 0, none⟩ = some (.int .i64 (f : Int)) := Mod.cell mm (by simp) d6
       have hJ0 := hJ _ _ _ h0 mm
       obtain ⟨bg, hbg⟩ : ∃ b, b = W.heap.size := ⟨_, rfl⟩
       rw [← hbg] at hv2 ⊢
       have HB := Lib.hid (And.intro hbg (show W.heap.size < v2.heap.size by omega))
       clear hv1 mv1 zv1 mv2 zv2 hbg))
  gi_loopw [7] (fun i wr => ∃ pre : List Idv, pre.length ≤ N ∧ i = .int .i64 ((f + pre.length : Nat) : Int) ∧ J pre wr ∧ Holds wr bg 25 (ic (walkI c f pre.length x)) ∧ Bh ms b4 b5 b6 b7 x c f t wr ∧ v2.heap.size ≤ wr.heap.size) (fun i _ => ((t : Int) - intOf i).toNat)
  case atStart => exact ⟨[], Nat.zero_le _, by simp, hJ0, hv2, HW.out.1.keep mm.keepC0, Nat.le_refl _⟩
  case round =>
    obtain ⟨pre, hle, rfl, hJs, hbr, hB, hsz⟩ := hrel
    obtain ⟨j, hj⟩ : ∃ j, j = f + pre.length := ⟨_, rfl⟩
    rw [← hj]
    have a7 := hB.h7.cell 0
    have a5 := hB.h5.cell 0
    simp only [List.getElem?_cons_zero] at a7 a5
    by_cases hlt : j < t
    · have hjt : (j : Int) < (t : Int) := by omega
      obtain ⟨z0, hz0⟩ : ∃ z, z = walkI c f pre.length x := ⟨_, rfl⟩
      obtain ⟨z, hz⟩ : ∃ z, z = walkI c f (pre.length + 1) x := ⟨_, rfl⟩
      have hzz : stepI c j z0 = z := by rw [hz, hz0, hj]; rfl
      have X := stepped_c z0 c j HW.out.2.2.2.1 (by have := HW.out.2.2.2.2; omega) wr hB.gl
      rw [hzz] at X
      rw [← hz0] at hbr
      have hF : ∀ V, FxB c f x pre z V := fun V => hz
      have hlN : pre.length < N := by have := HW.out.2.2.1; omega
      have HQ := Lib.hid (And.intro hj (And.intro hlt (And.intro hB (And.intro hbr (And.intro hJs (And.intro hsz (And.intro hlN hz)))))))
      have hjZ : (j : Int) ≤ 15 := by omega
      clear hj hB hbr hJs hsz hz hz0 hzz hle hlt hv2 hJ0 mm e6 d6
      gi_wp2_with (first
        | (with_reducible refine wpListIn_loads (o := ⟨some 15, .load 25 (.tmp 6), _, _, _, _⟩) rfl 25 (.tmp 6) rfl bg 0 _ rfl (Cells.of_holds HQ.out.2.2.2.1) _ Tryd.underlying25 rfl (size25i z0) (iv z0) rfl ?_)
        | (refine ⟨trivial, (callsIn_wide.2 X).mono ?_⟩
           rintro r w1 ⟨rfl, m1⟩
           clear X)
        | (with_reducible refine wpListIn_storesAll (o := ⟨none, .store 25 (.tmp 6) (.tmp 18), _, _, _, _⟩) rfl 25 (.tmp 6) (.tmp 18) rfl rfl bg (ic z) rfl (iv z) rfl rfl 25 _ (HQ.out.2.2.2.1.keep m1 (by simp)) (by rw [ic_length, ic_length]) (ic_one z) (size25i z) ?_
           intro w2 hb2 m2 z2
           have hbgW : W.heap.size ≤ bg := by have := HB.out.1; omega
           have hB1 := HQ.out.2.2.1.keep m1.keepC0
           have hlt0 := HW.out.1.h4.lt
           have hlt1 := HW.out.1.h5.lt
           have hlt2 := HW.out.1.h6.lt
           have hlt3 := HW.out.1.h7.lt
           have hB2 : Bh ms b4 b5 b6 b7 x c f t w2 := hB1.mod m2 (by have := HW.out.1.gl.two; omega) (by omega) (by omega) (by omega) (by omega)
           have hJ2 := hJ1 _ bg _ _ (hJ _ _ _ HQ.out.2.2.2.2.1 m1) m2 hbgW
           have hyy := hY pre z w2 (hF w2) hJ2 hlN
           obtain ⟨fn, tmps, assign, body, hy, hR⟩ := hyy
           have HM := Lib.hid (And.intro hb2 (And.intro hB2 (And.intro (show wr.heap.size ≤ w2.heap.size from Nat.le_trans m1.size m2.size) hbgW)))
           clear m1 m2 z2 hB1 hB2 hJ2 hbgW hlt0 hlt1 hlt2 hlt3)
        | (with_reducible refine wpListIn_loads (o := ⟨some 20, .load 25 (.tmp 6), _, _, _, _⟩) rfl 25 (.tmp 6) rfl bg 0 _ rfl (Cells.of_holds HM.out.1) _ Tryd.underlying25 rfl (size25i z) (iv z) rfl ?_))
      refine hR.mono ?_
      rintro r W3 (⟨rfl, hJ3, hk3⟩ | ⟨rfl, hJx3⟩)
      · have hbg3 : bg ∉ ms := fun h => by have := HW.out.2.1 _ h; have := HM.out.2.2.2; omega
        gi_wp2
        refine ⟨⟨pre ++ [z], by simp; omega, by have := HQ.out.1; simp; omega, hJ3, by rw [List.length_append, show pre.length + [z].length = pre.length + 1 from rfl, ← HQ.out.2.2.2.2.2.2.2]; exact hk3.holds HM.out.1 hbg3, HM.out.2.1.keep hk3, by have := HM.out.2.2.1; have := hk3.size; have := HQ.out.2.2.2.2.2.1; omega⟩, by simp [intOf]; omega⟩
      · gi_wp2
        refine bodyPost_ret (results_none rfl _ _ _) rfl ?_
        exact ⟨⟨_, rfl⟩, .inr ⟨_, trivial, hJx3⟩⟩
    · have hjk : ¬ (j : Int) < (t : Int) := by omega
      have HQ := Lib.hid (And.intro hj (And.intro hJs hle))
      clear hj hJs hle hB hbr hsz hv2 hJ0 mm e6 d6
      gi_wp2
      go_end0
      exact ⟨⟨_, rfl⟩, .inl ⟨pre, by have := HW.out.2.2.1; have := HQ.out.1; have := HQ.out.2.2; omega, HQ.out.2.1⟩⟩
theorem behind_any (n : Nat) (hn : 1 ≤ n) (b4 b5 b6 b7 : Nat) (ms : List Nat) (x : Idv) (c f t N : Nat) (hN : f + N = t) (hc : c < 256) (ht : t ≤ 15) (w : World) (H : Bh ms b4 b5 b6 b7 x c f t w) (hms : ∀ i ∈ ms, i < w.heap.size) :
    SeqAny Fence.wide n Tryd.prog 43 #[.pointer (some ⟨b4, 0, none⟩), .pointer (some ⟨b6, 0, none⟩), .pointer (some ⟨b7, 0, none⟩), .pointer (some ⟨b5, 0, none⟩)] encB (FxB c f x) (KeepC ms) (fun zs => zs.length = N) (fun _ => True) N w := fun y J Jx W hW hJ hJx hY h0 => by
  have hk : KeepC ms w W := ⟨hW.size, fun k o _ h1 _ => (hW.block k (Array.getElem?_eq_some_iff.1 h1).1).trans h1⟩
  exact behind_in n hn y b4 b5 b6 b7 ms x c f t N hN hc ht J Jx W (fun pre v v' h m => hJ.mod h m) (fun pre g v v' h m hg => hJ.mod1 h m hg) hY (H.keep hk) (fun i hi => Nat.lt_of_lt_of_le (hms i hi) hW.size) h0
end Go.Proofs.YtdolihecjomjiaaDoor
