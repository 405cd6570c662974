/-
  Package wots: the chains with their starts, as they are ranged over. My own work.
-/
import Derived.Test.YtdolihecjomjiaaDoorWh
import Derived.Test.YtdolihecjomjiaaDoorRgi
namespace Go.Proofs.YtdolihecjomjiaaDoor
open Go.RowKit Go.Shelf
attribute [local go_sem] Oper.semAt_some
/-- What a round keeps: the blocks below n, but for a few. -/
structure KeepL (ms : List Nat) (n : Nat) (W W' : World) : Prop where
  size : W.heap.size ≤ W'.heap.size
  same : ∀ k, k < n → k < W.heap.size → k ∉ ms → W'.heap[k]? = W.heap[k]?
theorem KeepL.refl (ms : List Nat) (n : Nat) (W : World) : KeepL ms n W W := ⟨Nat.le_refl _, fun _ _ _ _ => rfl⟩
theorem KeepL.trans {ms : List Nat} {n : Nat} {A B C : World} (h : KeepL ms n A B) (k : KeepL ms n B C) : KeepL ms n A C :=
  ⟨Nat.le_trans h.size k.size, fun i h1 h2 h3 => (k.same i h1 (Nat.lt_of_lt_of_le h2 h.size) h3).trans (h.same i h1 h2 h3)⟩
theorem Mod.keepL {ms ns : List Nat} {W W' : World} (h : Mod ms W W') (n : Nat) (hs : ∀ i ∈ ms, i < n → i ∈ ns) : KeepL ns n W W' := ⟨h.size, fun k h1 h2 h3 => h.block k h2 (fun h4 => h3 (hs k h4 h1))⟩
theorem KeepL.cells {ms : List Nat} {n : Nat} {w v : World} {A : Option Addr} {cs : List Value} (h : Cells w A cs) (m : KeepL ms n w v) (hn : ∀ a, A = some a → a.block < n ∧ a.block ∉ ms) : Cells v A cs := by
  intro i hi
  obtain ⟨g, o, rfl, hc⟩ := h i hi
  obtain ⟨h1, h2⟩ := hn _ rfl
  have hlt : g < w.heap.size := by
    rcases Nat.lt_or_ge g w.heap.size with hlt | hge
    · exact hlt
    · simp [World.cell?, Array.getElem?_eq_none hge] at hc
  exact ⟨g, o, rfl, by rw [World.cell?_of_block (a := ⟨g, o + i, none⟩) (m.same g h1 hlt h2)]; exact hc⟩
theorem KeepL.reads {ms : List Nat} {n : Nat} {w v : World} {A : Option Addr} {l : List UInt8} (h : Reads w A l) (m : KeepL ms n w v) (hn : ∀ a, A = some a → a.block < n ∧ a.block ∉ ms) : Reads v A l := by
  intro i hi
  obtain ⟨g, o, rfl, hc⟩ := h i hi
  obtain ⟨h1, h2⟩ := hn _ rfl
  have hlt : g < w.heap.size := by
    rcases Nat.lt_or_ge g w.heap.size with hlt | hge
    · exact hlt
    · simp [World.cell?, Array.getElem?_eq_none hge] at hc
  exact ⟨g, o, rfl, by rw [World.cell?_of_block (a := ⟨g, o + i, none⟩) (m.same g h1 hlt h2)]; exact hc⟩
theorem KeepL.holds {ms : List Nat} {n : Nat} {w v : World} {g : Nat} {t : TypeId} {cs : List Value} (h : Holds w g t cs) (m : KeepL ms n w v) (h1 : g < n) (h2 : g ∉ ms) : Holds v g t cs := (m.same g h1 h.lt h2).trans h
/-- append of elements, one operation run. -/
theorem exec_appendG {α : Type} {f : α → List Value} {size : Nat} {P : Program} (w : World) {o : Oper} {ρ : Operand → Value} (s x : Operand) (t : TypeId)
    (ho : o.op = .call { callee := .builtin .append, args := #[s, x], argTypes := #[t, t] })
    (e : TypeId) (i : TypeInfo) (z : Value) (bytes : Nat) (ht : P.underlying t = some (.slice e)) (hi : P.info? e = some i) (hz : i.zero = some z) (hsize : i.size = size) (hby : i.bytes = bytes) (hzs : z.cells.size = size) (hs0 : 0 < size)
    (hf : ∀ x, (f x).length = size) (h1 : ∀ x, ∀ v ∈ f x, v.oneCell' = true)
    (A : Option Addr) (c : Nat) (l : List α) (hs : ρ s = .slice A l.length c) (hown : OwnG f e size w A c l)
    (ad : Addr) (d : Nat) (k : List α) (hx : ρ x = .slice (some ad) k.length d) (hr : Cells w (some ad) (k.flatMap f))
    (h63 : (l.length + k.length) * bytes ≤ 140737488355328) (h64 : l.length + k.length ≤ maxLen) :
    ∃ A' c' w', (execOp ρ o).run P w = .ok (.value (.slice A' (l ++ k).length c')) w' ∧ OwnG f e size w' A' c' (l ++ k) ∧ Mod (blk A) w w' ∧ (∀ a, A' = some a → a.block ∈ blk A ∨ w.heap.size ≤ a.block) := by
  have hkl := flat_length f size hf k
  have hcells : ∀ j u, (k.flatMap f)[j]? = some u → w.cell? (ad.add j) = some u := by
    intro j u hu
    rcases Nat.eq_zero_or_pos (k.flatMap f).length with h0 | h0
    · rw [List.eq_nil_of_length_eq_zero h0] at hu
      simp at hu
    · obtain ⟨ad', e', hh⟩ := hr.first h0
      injection e' with e'
      subst e'
      exact hh j u hu
  have hone : ∀ u ∈ k.flatMap f, u.oneCell' = true := fun u hu => by
    obtain ⟨x, _, hx⟩ := List.mem_flatMap.1 hu
    exact h1 x u hx
  obtain ⟨v', w', hrun, hown', hgr, _, hbl⟩ := run_append_own_at (P := P) w 0 t o.type e i z size bytes ht hi hz hsize hby hzs hs0 _ _ _ hown ad k.length d (k.flatMap f) hkl hcells hone h64 h63 (Nat.zero_le _)
  have hv : ∃ A' c', v' = .slice A' (l ++ k).length c' := by
    rcases hown'.2 with ⟨hv, hn⟩ | ⟨g, cap, cur, hv, _⟩
    · exact ⟨none, 0, by rw [hv, List.length_append, hn]⟩
    · exact ⟨_, _, by rw [hv, List.length_append]⟩
  obtain ⟨A', c', rfl⟩ := hv
  have hO : OwnG f e size w' A' c' (l ++ k) := by
    have := hown'
    rw [← List.length_append, ← List.flatMap_append] at this
    exact this
  have hob : ∀ (A : Option Addr) n c, (Value.slice A n c).ownBlock = A.map (·.block) := by intro A n c; cases A <;> rfl
  rw [hob] at hgr
  rw [hob, hob] at hbl
  refine ⟨A', c', w', ?_, hO, ⟨hgr.os, hgr.tape, hgr.output, hgr.size, fun j hj hn => hgr.block j hj ?_⟩, ?_⟩
  · unfold execOp
    simp only [ho, resolve, invoke, builtin, Sem.run_bind, Sem.run_pure, Result.andThen_ok, List.map_toArray, List.map_cons, List.map_nil, hs, hx, hrun]
  · intro hh
    exact hn (by unfold blk; rw [← hh]; simp)
  · intro b hb
    subst hb
    rcases hbl with hh | hh
    · left; unfold blk; rw [← hh]; simp
    · right
      simp at hh
      omega
theorem KeepL.glob {ms : List Nat} {n : Nat} {w v : World} (h : Glob w) (m : KeepL ms n w v) (h0 : 2 ≤ n) (h1 : ∀ i ∈ ms, 2 ≤ i) : Glob v :=
  ⟨m.cells h.G (fun a ha => by cases ha; exact ⟨by show 1 < n; omega, fun h => absurd (h1 _ h) (by decide)⟩), m.cells h.G1 (fun a ha => by cases ha; exact ⟨by show 0 < n; omega, fun h => absurd (h1 _ h) (by decide)⟩), Nat.le_trans h.two m.size⟩
theorem Rgi.wpi_called {Fe : Fence} {nf : Nat} {P : Program} {ops : Array Oper} {Q : Exit → Act → World → Prop} {o : Oper} {T : Act} {v : World} {f : FuncId} {args : Array Value} {K : Act → World → Prop} {E : Prop} (hF : ∀ f, Fe.fn f) (hd : ∀ c, o.op ≠ .defer c) (hg : o.guard = none) (hn : Fe.depth.isSome = true → 1 ≤ nf) (h : (execOp T.eval o).run P v = .ok (.enter f args) v)
    (hc : CallsIn Fe (nf - 1) P f args v fun e v' => ∃ u, e = .returned u ∧ K (T.put o.dst u) v') :
    if Region.wanted o (yielded ops T.tmps) = true then o.wpIn Fe nf P T v K Q else E := by
  have hw : Region.wanted o (yielded ops T.tmps) = true := by simp [Region.wanted, hg]
  rw [if_pos hw]
  refine ⟨fun f _ => hF f, ?_⟩
  rw [Oper.semAt_plain Fe _ _ hd, h, Oper.uponIn_enter]
  refine ⟨hn, hc.mono ?_⟩
  rintro e v' ⟨u, rfl, hK⟩
  exact hK
theorem starts_c (x : Idv) (w : World) : Calls Tryd.prog 33 #[iv x] w fun r w' => r = .returned (.func (.func 42) #[] #[.pointer (some ⟨w.heap.size, 0, none⟩)]) ∧ Holds w' w.heap.size 25 (ic x) ∧ Mod [] w w' ∧ w'.heap.size = w.heap.size + 1 := by
  go_enter Tryd.func33, Tryd.ntmps33
  go_wp2_with (with_reducible refine wpList_boxes (o := ⟨some 1, .box 25 (.tmp 0), _, _, _, _⟩) rfl 25 (.tmp 0) rfl _ rfl (ic x) rfl ?_; intro w1 hb1 m1 z1)
  go_ret
  exact ⟨rfl, hb1, m1, z1⟩
/-- Memory as the iterator reads it. -/
structure Bs (ms : List Nat) (n0 b1 : Nat) (x : Idv) (W : World) : Prop where
  gl : Glob W
  h1 : Holds W b1 25 (ic x)
  ne : b1 < n0 ∧ b1 ∉ ms ∧ 2 ≤ n0 ∧ ∀ i ∈ ms, 2 ≤ i
theorem Bs.keep {ms : List Nat} {n0 b1 : Nat} {x : Idv} {W V : World} (h : Bs ms n0 b1 x W) (m : KeepL ms n0 W V) : Bs ms n0 b1 x V :=
  ⟨m.glob h.gl h.ne.2.2.1 h.ne.2.2.2, m.holds h.h1 h.ne.1 h.ne.2.1, h.ne⟩
abbrev encS (y : Nat × Idv) : Array Value := #[.int .i64 (y.1 : Int), iv y.2]
def FxS (x : Idv) (pre : List (Nat × Idv)) (y : Nat × Idv) (_ : World) : Prop := y = (pre.length, startI pre.length x)
set_option maxRecDepth 100000 in
set_option maxHeartbeats 4000000 in
theorem starts_in (n : Nat) (hn : 1 ≤ n) (y b1 n0 : Nat) (ms : List Nat) (x : Idv) (J Jx : List (Nat × Idv) → World → Prop) (W : World)
    (hJ : ∀ pre v v', J pre v → Mod [] v v' → J pre v')
    (hY : ∀ pre z V, FxS x pre z V → J pre V → pre.length < 67 → YieldAt Fence.wide (n - 1) Tryd.prog y (encS z) V fun r W' => (r = .returned (.bool true) ∧ J (pre ++ [z]) W' ∧ KeepL ms n0 V W') ∨ (r = .returned (.bool false) ∧ Jx (pre ++ [z]) W'))
    (H : Bs ms n0 b1 x W) (h0 : J [] W) :
    CallsIn Fence.wide n Tryd.prog 42 #[.func (.yield y) #[] #[], .pointer (some ⟨b1, 0, none⟩)] W fun r W' => (∃ v, r = .returned v) ∧ ((∃ zs, zs.length = 67 ∧ J zs W') ∨ ∃ pre, True ∧ Jx pre W') := by
  have HW := Lib.hid H
  clear H
  refine callsIn_of_wp Tryd.func42 rfl trivial ?_ rfl
  simp only [Tryd.ntmps42, List.size_toArray, List.length_cons, List.length_nil, Nat.reduceAdd, Nat.reduceSub, Array.replicate_succ, Array.replicate_zero, List.push_toArray, List.append_toArray, List.nil_append, List.cons_append]
  gi_wp2_with fail
  gi_loopw [4] (fun i wr => ∃ pre : List (Nat × Idv), pre.length ≤ 67 ∧ i = .int .i64 (pre.length : Int) ∧ J pre wr ∧ Bs ms n0 b1 x wr) (fun i _ => ((67 : Int) - intOf i).toNat)
  case atStart => exact ⟨[], by simp, rfl, h0, HW.out⟩
  case round =>
    obtain ⟨pre, hle, rfl, hJs, hB⟩ := hrel
    obtain ⟨j, hj⟩ : ∃ j, j = pre.length := ⟨_, rfl⟩
    rw [← hj] at hle ⊢
    by_cases hlt : j < 67
    · have hjZ : (j : Int) < 67 := by omega
      obtain ⟨z, hz⟩ : ∃ z, z = startI j x := ⟨_, rfl⟩
      have X := started_c x j (by omega) wr hB.gl
      rw [← hz] at X
      have hF : ∀ V, FxS x pre (j, z) V := fun V => by unfold FxS; rw [hz, hj]
      have HQ := Lib.hid (And.intro hj (And.intro hlt (And.intro hB hJs)))
      clear hj hB hJs hz hle hlt
      gi_wp2_with (first
        | (with_reducible refine wpListIn_loads (o := ⟨some 9, .load 25 (.tmp 1), _, _, _, _⟩) rfl 25 (.tmp 1) rfl b1 0 _ rfl (Cells.of_holds HQ.out.2.2.1.h1) _ Tryd.underlying25 rfl (size25i x) (iv x) rfl ?_)
        | (refine ⟨trivial, (callsIn_wide.2 X).mono ?_⟩
           rintro r w1 ⟨rfl, m1⟩
           have hyy := hY pre (j, z) w1 (hF w1) (hJ _ _ _ HQ.out.2.2.2 m1) (by have := HQ.out.1; have := HQ.out.2.1; omega)
           obtain ⟨fn, tmps, assign, body, hy, hR⟩ := hyy
           have HM := Lib.hid m1
           clear X m1))
      refine hR.mono ?_
      rintro r W3 (⟨rfl, hJ3, hk3⟩ | ⟨rfl, hJx3⟩)
      · gi_wp2
        have hsz := HM.out.size
        refine ⟨⟨pre ++ [(j, z)], by have := HQ.out.1; have := HQ.out.2.1; simp; omega, by have := HQ.out.1; simp; omega, hJ3, (HQ.out.2.2.1.keep (HM.out.keepL n0 (fun _ h => by cases h))).keep hk3⟩, by simp [intOf]; omega⟩
      · gi_wp2
        refine bodyPost_ret (results_none rfl _ _ _) rfl ?_
        exact ⟨⟨_, rfl⟩, .inr ⟨_, trivial, hJx3⟩⟩
    · obtain rfl : j = 67 := by omega
      have HQ := Lib.hid (And.intro hj hJs)
      clear hj hJs hle hB
      gi_wp2
      go_end0
      exact ⟨⟨_, rfl⟩, .inl ⟨pre, HQ.out.1.symm, HQ.out.2⟩⟩
theorem starts_with (n : Nat) (hn : 1 ≤ n) (b1 n0 : Nat) (ms : List Nat) (x : Idv) (w : World) (H : Bs ms n0 b1 x w) (_hn0 : n0 ≤ w.heap.size) :
    SeqWith Fence.wide n Tryd.prog 42 #[.pointer (some ⟨b1, 0, none⟩)] encS (FxS x) (KeepL ms n0) (fun zs => zs.length = 67) (fun _ => True) 67 w := fun y J Jx W hW hJ _ hY h0 => by
  have hk : KeepL ms n0 w W := ⟨hW.size, fun k h1 _ _ => hW.block k (by omega)⟩
  exact starts_in n hn y b1 n0 ms x J Jx W (fun pre v v' h k => hJ pre v v' none h ⟨k.os, k.tape, k.output, k.size, fun i hi _ => k.block i hi (by simp)⟩ (fun r h => by cases h)) hY (H.keep hk) h0
end Go.Proofs.YtdolihecjomjiaaDoor
