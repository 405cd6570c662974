/-
  slices.Backward over a row of terms. My own work.
-/
import Derived.Test.YtchanildogjhgaaDoorRc
namespace Go.Proofs.YtchanildogjhgaaDoor
open Go.RowKit Go.Shelf
set_option linter.unusedVariables false
set_option linter.unusedSimpArgs false
attribute [local go_sem] Oper.semAt_some
/-- What a round keeps: all blocks below n but these. -/
structure KeepL (ms : List Nat) (n : Nat) (W W' : World) : Prop where
  size : W.heap.size ≤ W'.heap.size
  same : ∀ k, k < n → k < W.heap.size → k ∉ ms → W'.heap[k]? = W.heap[k]?
theorem KeepL.refl (ms : List Nat) (n : Nat) (W : World) : KeepL ms n W W := ⟨Nat.le_refl _, fun _ _ _ _ => rfl⟩
theorem KeepL.trans {ms : List Nat} {n : Nat} {A B C : World} (h : KeepL ms n A B) (k : KeepL ms n B C) : KeepL ms n A C :=
  ⟨Nat.le_trans h.size k.size, fun i h1 h2 h3 => (k.same i h1 (Nat.lt_of_lt_of_le h2 h.size) h3).trans (h.same i h1 h2 h3)⟩
theorem Mod.keepL {ms ns : List Nat} {W W' : World} (h : Mod ms W W') (n : Nat) (hs : ∀ i ∈ ms, i < n → i ∈ ns) : KeepL ns n W W' := ⟨h.size, fun k h1 h2 h3 => h.block k h2 (fun h4 => h3 (hs k h4 h1))⟩
theorem KeepL.cells {ms : List Nat} {n : Nat} {w v : World} {A : Option Addr} {cs : List Value} (h : Cells w A cs) (m : KeepL ms n w v) (hn : ∀ a, A = some a → a.block < n ∧ a.block ∉ ms) : Cells v A cs := by
  intro i hi
  obtain ⟨g, o, rfl, hc⟩ := h i hi
  obtain ⟨h1, h2⟩ := hn _ rfl
  have hlt : g < w.heap.size := by
    rcases Nat.lt_or_ge g w.heap.size with hlt | hge
    · exact hlt
    · simp [World.cell?, Array.getElem?_eq_none hge] at hc
  exact ⟨g, o, rfl, by rw [World.cell?_of_block (a := ⟨g, o + i, none⟩) (m.same g h1 hlt h2)]; exact hc⟩
theorem KeepL.reads {ms : List Nat} {n : Nat} {w v : World} {A : Option Addr} {l : List UInt8} (h : Reads w A l) (m : KeepL ms n w v) (hn : ∀ a, A = some a → a.block < n ∧ a.block ∉ ms) : Reads v A l := by
  intro i hi
  obtain ⟨g, o, rfl, hc⟩ := h i hi
  obtain ⟨h1, h2⟩ := hn _ rfl
  have hlt : g < w.heap.size := by
    rcases Nat.lt_or_ge g w.heap.size with hlt | hge
    · exact hlt
    · simp [World.cell?, Array.getElem?_eq_none hge] at hc
  exact ⟨g, o, rfl, by rw [World.cell?_of_block (a := ⟨g, o + i, none⟩) (m.same g h1 hlt h2)]; exact hc⟩
theorem KeepL.holds {ms : List Nat} {n : Nat} {w v : World} {g : Nat} {t : TypeId} {cs : List Value} (h : Holds w g t cs) (m : KeepL ms n w v) (h1 : g < n) (h2 : g ∉ ms) : Holds v g t cs := (m.same g h1 h.lt h2).trans h

theorem zip_two (p q : Tmp) (v u : Value) (T : Array Value) : ((#[p, q] : Array Tmp).zip #[v, u]).foldl (fun t (p, v) => t.setIfInBounds p v) T = (T.setIfInBounds p v).setIfInBounds q u := by simp
theorem KeepL.row {ms : List Nat} {n : Nat} {w v : World} {S : Nat → Prop} {A : Option Addr} {vs : List (List Value)} {l : List Tm} (h : RowT w S A vs l) (m : KeepL ms n w v) (hS : ∀ g, S g → g < n ∧ g < w.heap.size ∧ g ∉ ms) (ht : ∀ {t cs}, TIs w S t cs → TIs v S t cs) : RowT v S A vs l := by
  refine ⟨h.hA, h.hv, h.hz, ?_, fun i h1 h2 => ht (h.hk i h1 h2)⟩
  cases l with
  | nil =>
    obtain rfl : vs = [] := List.eq_nil_of_length_eq_zero h.hv
    exact Cells.nil _ _
  | cons t l => exact KeepL.cells h.hC m fun a ha => ⟨(hS _ (h.hA a ha (by simp))).1, (hS _ (h.hA a ha (by simp))).2.2⟩
theorem KeepL.tis {ms : List Nat} {n : Nat} {w v : World} {S : Nat → Prop} {t : Tm} {cs : List Value} (h : TIs w S t cs) (m : KeepL ms n w v) (hS : ∀ g, S g → g < n ∧ g < w.heap.size ∧ g ∉ ms) : TIs v S t cs := by
  induction h with
  | mk k u nn s l A c vs hs hl hc hcm hA hv hz hC hk ih =>
    refine .mk k u nn s l A c vs hs hl hc hcm hA hv hz ?_ ih
    cases l with
    | nil =>
      obtain rfl : vs = [] := List.eq_nil_of_length_eq_zero hv
      exact Cells.nil _ _
    | cons t l => exact KeepL.cells hC m fun a ha => ⟨(hS _ (hA a ha (by simp))).1, (hS _ (hA a ha (by simp))).2.2⟩
theorem bk_c (A : Option Addr) (n c : Nat) (w : World) : Calls Tryd.prog 54 #[.slice A n c] w fun r w' => r = .returned (.func (.func 79) #[] #[.pointer (some ⟨w.heap.size, 0, none⟩)]) ∧ Holds w' w.heap.size 22 [.slice A n c] ∧ Mod [] w w' ∧ w'.heap.size = w.heap.size + 1 := by
  have h1 : Holds (w.alloc (.cells #[.slice A n c] 22)) w.heap.size 22 [.slice A n c] := Holds.made w 22 [.slice A n c]
  have m1 : Mod [] w (w.alloc (.cells #[.slice A n c] 22)) := Mod.alloc [] w _
  have s1 : (w.alloc (.cells #[.slice A n c] 22)).heap.size = w.heap.size + 1 := by simp
  have HK := Lib.hid (And.intro h1 (And.intro m1 s1))
  clear h1 m1 s1
  go_enter Tryd.func54, Tryd.ntmps54
  go_wp2
  go_ret
  exact ⟨by simp, HK.out.1, HK.out.2.1, HK.out.2.2⟩
/-- Memory as the iterator reads it. -/
structure Cbbk (ms : List Nat) (n0 bs : Nat) (S : Nat → Prop) (A : Option Addr) (n c : Nat) (vs : List (List Value)) (l : List Tm) (W : World) : Prop where
  h1 : Holds W bs 22 [.slice A n c]
  h2 : RowT W S A vs l
  ne : bs < n0 ∧ bs ∉ ms ∧ n0 ≤ W.heap.size ∧ ∀ g, S g → g < n0 ∧ g ∉ ms
theorem Cbbk.keep {ms : List Nat} {n0 bs : Nat} {S : Nat → Prop} {A : Option Addr} {n c : Nat} {vs : List (List Value)} {l : List Tm} {W V : World} (h : Cbbk ms n0 bs S A n c vs l W) (m : KeepL ms n0 W V) : Cbbk ms n0 bs S A n c vs l V :=
  have hS : ∀ g, S g → g < n0 ∧ g < W.heap.size ∧ g ∉ ms := fun g hg => ⟨(h.ne.2.2.2 g hg).1, Nat.lt_of_lt_of_le (h.ne.2.2.2 g hg).1 h.ne.2.2.1, (h.ne.2.2.2 g hg).2⟩
  ⟨KeepL.holds h.h1 m h.ne.1 h.ne.2.1, KeepL.row h.h2 m hS (fun ht => KeepL.tis ht m hS), h.ne.1, h.ne.2.1, Nat.le_trans h.ne.2.2.1 m.size, h.ne.2.2.2⟩
abbrev encbk (n : Nat) (vs : List (List Value)) (y : Nat) : Array Value := #[.int .i64 ((n - 1 - y : Nat) : Int), .agg (vs.getD (n - 1 - y) []).toArray]
def Fxbk (n : Nat) (pre : List Nat) (y : Nat) (_ : World) : Prop := y = pre.length ∧ y < n
theorem cells_eq {w : World} {A : Option Addr} {xs ys : List Value} (h : xs.length = ys.length) (hy : Cells w A ys) (hx : Cells w A xs) : xs = ys := by
  refine List.ext_getElem h fun i h1 h2 => ?_
  obtain ⟨g, o, e, h3⟩ := hx i h1
  obtain ⟨g', o', e', h4⟩ := hy i h2
  rw [e] at e'
  cases e'
  rw [h3] at h4
  exact Option.some.inj h4
set_option maxRecDepth 1000000 in
set_option maxHeartbeats 4000000 in
theorem bk_in (nn : Nat) (hn : 1 ≤ nn) (y bs n0 : Nat) (S : Nat → Prop) (A : Option Addr) (n c : Nat) (vs : List (List Value)) (l : List Tm) (hl : n = l.length) (hn5 : n ≤ 100000) (ms : List Nat) (J Jx : List Nat → World → Prop) (W : World)
    (hY : ∀ pre z V, Fxbk n pre z V → J pre V → pre.length < n → YieldAt Fence.wide (nn - 1) Tryd.prog y (encbk n vs z) V fun r W' => (r = .returned (.bool true) ∧ J (pre ++ [z]) W' ∧ KeepL ms n0 V W') ∨ (r = .returned (.bool false) ∧ Jx (pre ++ [z]) W'))
    (H : Cbbk ms n0 bs S A n c vs l W) (h0 : J [] W) :
    CallsIn Fence.wide nn Tryd.prog 79 #[.func (.yield y) #[] #[], .pointer (some ⟨bs, 0, none⟩)] W fun r W' => (∃ v, r = .returned v) ∧ ((∃ zs, zs.length = n ∧ J zs W') ∨ ∃ pre, True ∧ Jx pre W') := by
  have HW := Lib.hid H
  have c1 := H.h1.cell 0
  simp only [List.getElem?_cons_zero] at c1
  have HL := Lib.hid hl
  have hnZ : (n : Int) ≤ 100000 := by omega
  clear H hl
  refine callsIn_of_wp Tryd.func79 rfl trivial ?_ rfl
  simp only [Tryd.ntmps79, List.size_toArray, List.length_cons, List.length_nil, Nat.reduceAdd, Nat.reduceSub, Array.replicate_succ, Array.replicate_zero, List.push_toArray, List.append_toArray, List.nil_append, List.cons_append]
  gi_wp2_with fail
  gi_loopw [3] (fun i wr => ∃ (pre : List Nat) (z : Int), i = .int .i64 z ∧ Hid (z + 1 + pre.length = n) ∧ pre.length ≤ n ∧ J pre wr ∧ Cbbk ms n0 bs S A n c vs l wr) (fun i _ => (intOf i + 1).toNat)
  case atStart => exact ⟨[], _, rfl, Lib.hid (by simp), by simp, h0, HW.out⟩
  case round =>
    obtain ⟨pre, z, rfl, hz, hle, hJs, hB⟩ := hrel
    have c2 := hB.h1.cell 0
    simp only [List.getElem?_cons_zero] at c2
    by_cases hlt : pre.length < n
    · obtain ⟨m, hm⟩ : ∃ m : Nat, (m : Int) = z := ⟨z.toNat, by have := hz.out; omega⟩
      subst hm
      have hmn : m < n := by have := hz.out; omega
      have hm5 : (m : Int) < 100000 := by omega
      have hm0 : (0 : Int) ≤ (m : Int) := by omega
      obtain ⟨g, o, cs, hA, hcE, hT, hcs, hSg⟩ := hB.h2.elem m (by rw [← HL.out]; exact hmn)
      subst hA
      have hmz : n - 1 - pre.length = m := by have := hz.out; omega
      have hyy := hY pre pre.length wr ⟨rfl, hlt⟩ hJs hlt
      have hvs : vs.getD m [] = cs := by
        have hv := hB.h2.hv
        have h5 := hB.h2.hz
        have hml : m < vs.length := by rw [hv, ← HL.out]; exact hmn
        rw [List.getD_eq_getElem?_getD, List.getElem?_eq_getElem hml, Option.getD_some]
        refine cells_eq (by rw [h5 _ (List.getElem_mem hml), hcs]) hcE (hB.h2.hC.part (m * 5) fun i hi => ?_)
        rw [flat5 vs h5 m i hml (by rw [h5 _ (List.getElem_mem hml)] at hi; exact hi), List.getElem?_eq_getElem hi]
      have eE : encbk n vs pre.length = #[.int .i64 (m : Int), .agg cs.toArray] := by
        show #[Value.int .i64 ((n - 1 - pre.length : Nat) : Int), Value.agg (vs.getD (n - 1 - pre.length) []).toArray] = _
        rw [hmz, hvs]
      rw [eE] at hyy
      clear eE
      have HQ := Lib.hid (And.intro hz (And.intro hlt (And.intro hB hJs)))
      clear hz hlt hB hJs hle hT hmz hvs hSg hY
      obtain ⟨fn, tmps, assign, body, hy, hR⟩ := hyy
      gi_wp2_with (with_reducible refine wpListIn_loads (o := ⟨some 16, .load 24 (.tmp 15), _, _, _, _⟩) rfl 24 (.tmp 15) rfl g (o + m * 5) cs rfl hcE _ Tryd.underlying24 rfl (size24' hcs) _ rfl ?_)
      refine hR.mono ?_
      rintro r W3 (⟨rfl, hJ3, hk3⟩ | ⟨rfl, hJx3⟩)
      · have hB3 := HQ.out.2.2.1.keep hk3
        have HE := Lib.hid (And.intro hB3 hJ3)
        clear hB3 hJ3 hk3
        gi_wp2_with fail
        exact ⟨⟨pre ++ [pre.length], (m : Int) - 1, by go_num, Lib.hid (by have := HQ.out.1.out; simp; omega), by have := HQ.out.2.1; simp; omega, HE.out.2, HE.out.1⟩, by simp [intOf]⟩
      · gi_wp2
        refine bodyPost_ret (results_none rfl _ _ _) rfl ?_
        exact ⟨⟨_, rfl⟩, .inr ⟨_, trivial, hJx3⟩⟩
    · have hz1 : z = -1 := by have := hz.out; omega
      subst hz1
      have HQ := Lib.hid (And.intro (show pre.length = n by omega) hJs)
      clear hz hJs hle hB hlt
      gi_wp2
      go_end0
      exact ⟨⟨_, rfl⟩, .inl ⟨pre, HQ.out.1, HQ.out.2⟩⟩
theorem bk_with (nn : Nat) (hn : 1 ≤ nn) (bs n0 : Nat) (S : Nat → Prop) (A : Option Addr) (n c : Nat) (vs : List (List Value)) (l : List Tm) (hl : n = l.length) (hn5 : n ≤ 100000) (ms : List Nat) (w : World) (H : Cbbk ms n0 bs S A n c vs l w) (hn0 : n0 ≤ w.heap.size) :
    SeqWith Fence.wide nn Tryd.prog 79 #[.pointer (some ⟨bs, 0, none⟩)] (encbk n vs) (Fxbk n) (KeepL ms n0) (fun zs => zs.length = n) (fun _ => True) n w := fun y J Jx W hW hJ _ hY h0 => by
  have hk : KeepL ms n0 w W := ⟨hW.size, fun k h1 _ _ => hW.block k (by omega)⟩
  exact bk_in nn hn y bs n0 S A n c vs l hl hn5 ms J Jx W hY (H.keep hk) h0
end Go.Proofs.YtchanildogjhgaaDoor
