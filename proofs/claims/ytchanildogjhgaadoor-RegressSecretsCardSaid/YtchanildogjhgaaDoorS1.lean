/-
  My own texts Sa Sb, one behind the other.
-/
import Derived.Test.YtchanildogjhgaaDoorR2
namespace Go.Proofs.YtchanildogjhgaaDoor
section
open Go.RowKit Go.Shelf
set_option linter.unusedVariables false
set_option linter.unusedSimpArgs false
attribute [local go_sem] Oper.semAt_some
/-- What a round keeps: all blocks below n but these. -/
structure KeepL (ms : List Nat) (n : Nat) (W W' : World) : Prop where
  size : W.heap.size ≤ W'.heap.size
  same : ∀ k, k < n → k < W.heap.size → k ∉ ms → W'.heap[k]? = W.heap[k]?
theorem KeepL.refl (ms : List Nat) (n : Nat) (W : World) : KeepL ms n W W := ⟨Nat.le_refl _, fun _ _ _ _ => rfl⟩
theorem KeepL.trans {ms : List Nat} {n : Nat} {A B C : World} (h : KeepL ms n A B) (k : KeepL ms n B C) : KeepL ms n A C :=
  ⟨Nat.le_trans h.size k.size, fun i h1 h2 h3 => (k.same i h1 (Nat.lt_of_lt_of_le h2 h.size) h3).trans (h.same i h1 h2 h3)⟩
theorem Mod.keepL {ms ns : List Nat} {W W' : World} (h : Mod ms W W') (n : Nat) (hs : ∀ i ∈ ms, i < n → i ∈ ns) : KeepL ns n W W' := ⟨h.size, fun k h1 h2 h3 => h.block k h2 (fun h4 => h3 (hs k h4 h1))⟩
theorem KeepL.cells {ms : List Nat} {n : Nat} {w v : World} {A : Option Addr} {cs : List Value} (h : Cells w A cs) (m : KeepL ms n w v) (hn : ∀ a, A = some a → a.block < n ∧ a.block ∉ ms) : Cells v A cs := by
  intro i hi
  obtain ⟨g, o, rfl, hc⟩ := h i hi
  obtain ⟨h1, h2⟩ := hn _ rfl
  have hlt : g < w.heap.size := by
    rcases Nat.lt_or_ge g w.heap.size with hlt | hge
    · exact hlt
    · simp [World.cell?, Array.getElem?_eq_none hge] at hc
  exact ⟨g, o, rfl, by rw [World.cell?_of_block (a := ⟨g, o + i, none⟩) (m.same g h1 hlt h2)]; exact hc⟩
theorem KeepL.reads {ms : List Nat} {n : Nat} {w v : World} {A : Option Addr} {l : List UInt8} (h : Reads w A l) (m : KeepL ms n w v) (hn : ∀ a, A = some a → a.block < n ∧ a.block ∉ ms) : Reads v A l := by
  intro i hi
  obtain ⟨g, o, rfl, hc⟩ := h i hi
  obtain ⟨h1, h2⟩ := hn _ rfl
  have hlt : g < w.heap.size := by
    rcases Nat.lt_or_ge g w.heap.size with hlt | hge
    · exact hlt
    · simp [World.cell?, Array.getElem?_eq_none hge] at hc
  exact ⟨g, o, rfl, by rw [World.cell?_of_block (a := ⟨g, o + i, none⟩) (m.same g h1 hlt h2)]; exact hc⟩
theorem KeepL.holds {ms : List Nat} {n : Nat} {w v : World} {g : Nat} {t : TypeId} {cs : List Value} (h : Holds w g t cs) (m : KeepL ms n w v) (h1 : g < n) (h2 : g ∉ ms) : Holds v g t cs := (m.same g h1 h.lt h2).trans h

theorem zip_two (p q : Tmp) (v u : Value) (T : Array Value) : ((#[p, q] : Array Tmp).zip #[v, u]).foldl (fun t (p, v) => t.setIfInBounds p v) T = (T.setIfInBounds p v).setIfInBounds q u := by simp
theorem KeepL.row {ms : List Nat} {n : Nat} {w v : World} {S : Nat → Prop} {A : Option Addr} {vs : List (List Value)} {l : List Tm} (h : RowT w S A vs l) (m : KeepL ms n w v) (hS : ∀ g, S g → g < n ∧ g < w.heap.size ∧ g ∉ ms) (ht : ∀ {t cs}, TIs w S t cs → TIs v S t cs) : RowT v S A vs l := by
  refine ⟨h.hA, h.hv, h.hz, ?_, fun i h1 h2 => ht (h.hk i h1 h2)⟩
  cases l with
  | nil =>
    obtain rfl : vs = [] := List.eq_nil_of_length_eq_zero h.hv
    exact Cells.nil _ _
  | cons t l => exact KeepL.cells h.hC m fun a ha => ⟨(hS _ (h.hA a ha (by simp))).1, (hS _ (h.hA a ha (by simp))).2.2⟩
theorem KeepL.tis {ms : List Nat} {n : Nat} {w v : World} {S : Nat → Prop} {t : Tm} {cs : List Value} (h : TIs w S t cs) (m : KeepL ms n w v) (hS : ∀ g, S g → g < n ∧ g < w.heap.size ∧ g ∉ ms) : TIs v S t cs := by
  induction h with
  | mk k u nn s l A c vs hs hl hc hcm hA hv hz hC hk ih =>
    refine .mk k u nn s l A c vs hs hl hc hcm hA hv hz ?_ ih
    cases l with
    | nil =>
      obtain rfl : vs = [] := List.eq_nil_of_length_eq_zero hv
      exact Cells.nil _ _
    | cons t l => exact KeepL.cells hC m fun a ha => ⟨(hS _ (hA a ha (by simp))).1, (hS _ (hA a ha (by simp))).2.2⟩
theorem bk_c (A : Option Addr) (n c : Nat) (w : World) : Calls Tryd.prog 54 #[.slice A n c] w fun r w' => r = .returned (.func (.func 79) #[] #[.pointer (some ⟨w.heap.size, 0, none⟩)]) ∧ Holds w' w.heap.size 22 [.slice A n c] ∧ Mod [] w w' ∧ w'.heap.size = w.heap.size + 1 := by
  have h1 : Holds (w.alloc (.cells #[.slice A n c] 22)) w.heap.size 22 [.slice A n c] := Holds.made w 22 [.slice A n c]
  have m1 : Mod [] w (w.alloc (.cells #[.slice A n c] 22)) := Mod.alloc [] w _
  have s1 : (w.alloc (.cells #[.slice A n c] 22)).heap.size = w.heap.size + 1 := by simp
  have HK := Lib.hid (And.intro h1 (And.intro m1 s1))
  clear h1 m1 s1
  go_enter Tryd.func54, Tryd.ntmps54
  go_wp2
  go_ret
  exact ⟨by simp, HK.out.1, HK.out.2.1, HK.out.2.2⟩
/-- Memory as the iterator reads it. -/
structure Cbbk (ms : List Nat) (n0 bs : Nat) (S : Nat → Prop) (A : Option Addr) (n c : Nat) (vs : List (List Value)) (l : List Tm) (W : World) : Prop where
  h1 : Holds W bs 22 [.slice A n c]
  h2 : RowT W S A vs l
  ne : bs < n0 ∧ bs ∉ ms ∧ n0 ≤ W.heap.size ∧ ∀ g, S g → g < n0 ∧ g ∉ ms
theorem Cbbk.keep {ms : List Nat} {n0 bs : Nat} {S : Nat → Prop} {A : Option Addr} {n c : Nat} {vs : List (List Value)} {l : List Tm} {W V : World} (h : Cbbk ms n0 bs S A n c vs l W) (m : KeepL ms n0 W V) : Cbbk ms n0 bs S A n c vs l V :=
  have hS : ∀ g, S g → g < n0 ∧ g < W.heap.size ∧ g ∉ ms := fun g hg => ⟨(h.ne.2.2.2 g hg).1, Nat.lt_of_lt_of_le (h.ne.2.2.2 g hg).1 h.ne.2.2.1, (h.ne.2.2.2 g hg).2⟩
  ⟨KeepL.holds h.h1 m h.ne.1 h.ne.2.1, KeepL.row h.h2 m hS (fun ht => KeepL.tis ht m hS), h.ne.1, h.ne.2.1, Nat.le_trans h.ne.2.2.1 m.size, h.ne.2.2.2⟩
abbrev encbk (n : Nat) (vs : List (List Value)) (y : Nat) : Array Value := #[.int .i64 ((n - 1 - y : Nat) : Int), .agg (vs.getD (n - 1 - y) []).toArray]
def Fxbk (n : Nat) (pre : List Nat) (y : Nat) (_ : World) : Prop := y = pre.length ∧ y < n
theorem cells_eq {w : World} {A : Option Addr} {xs ys : List Value} (h : xs.length = ys.length) (hy : Cells w A ys) (hx : Cells w A xs) : xs = ys := by
  refine List.ext_getElem h fun i h1 h2 => ?_
  obtain ⟨g, o, e, h3⟩ := hx i h1
  obtain ⟨g', o', e', h4⟩ := hy i h2
  rw [e] at e'
  cases e'
  rw [h3] at h4
  exact Option.some.inj h4
set_option maxRecDepth 1000000 in
set_option maxHeartbeats 4000000 in
theorem bk_in (nn : Nat) (hn : 1 ≤ nn) (y bs n0 : Nat) (S : Nat → Prop) (A : Option Addr) (n c : Nat) (vs : List (List Value)) (l : List Tm) (hl : n = l.length) (hn5 : n ≤ 100000) (ms : List Nat) (J Jx : List Nat → World → Prop) (W : World)
    (hY : ∀ pre z V, Fxbk n pre z V → J pre V → pre.length < n → YieldAt Fence.wide (nn - 1) Tryd.prog y (encbk n vs z) V fun r W' => (r = .returned (.bool true) ∧ J (pre ++ [z]) W' ∧ KeepL ms n0 V W') ∨ (r = .returned (.bool false) ∧ Jx (pre ++ [z]) W'))
    (H : Cbbk ms n0 bs S A n c vs l W) (h0 : J [] W) :
    CallsIn Fence.wide nn Tryd.prog 79 #[.func (.yield y) #[] #[], .pointer (some ⟨bs, 0, none⟩)] W fun r W' => (∃ v, r = .returned v) ∧ ((∃ zs, zs.length = n ∧ J zs W') ∨ ∃ pre, True ∧ Jx pre W') := by
  have HW := Lib.hid H
  have c1 := H.h1.cell 0
  simp only [List.getElem?_cons_zero] at c1
  have HL := Lib.hid hl
  have hnZ : (n : Int) ≤ 100000 := by omega
  clear H hl
  refine callsIn_of_wp Tryd.func79 rfl trivial ?_ rfl
  simp only [Tryd.ntmps79, List.size_toArray, List.length_cons, List.length_nil, Nat.reduceAdd, Nat.reduceSub, Array.replicate_succ, Array.replicate_zero, List.push_toArray, List.append_toArray, List.nil_append, List.cons_append]
  gi_wp2_with fail
  gi_loopw [3] (fun i wr => ∃ (pre : List Nat) (z : Int), i = .int .i64 z ∧ Hid (z + 1 + pre.length = n) ∧ pre.length ≤ n ∧ J pre wr ∧ Cbbk ms n0 bs S A n c vs l wr) (fun i _ => (intOf i + 1).toNat)
  case atStart => exact ⟨[], _, rfl, Lib.hid (by simp), by simp, h0, HW.out⟩
  case round =>
    obtain ⟨pre, z, rfl, hz, hle, hJs, hB⟩ := hrel
    have c2 := hB.h1.cell 0
    simp only [List.getElem?_cons_zero] at c2
    by_cases hlt : pre.length < n
    · obtain ⟨m, hm⟩ : ∃ m : Nat, (m : Int) = z := ⟨z.toNat, by have := hz.out; omega⟩
      subst hm
      have hmn : m < n := by have := hz.out; omega
      have hm5 : (m : Int) < 100000 := by omega
      have hm0 : (0 : Int) ≤ (m : Int) := by omega
      obtain ⟨g, o, cs, hA, hcE, hT, hcs, hSg⟩ := hB.h2.elem m (by rw [← HL.out]; exact hmn)
      subst hA
      have hmz : n - 1 - pre.length = m := by have := hz.out; omega
      have hyy := hY pre pre.length wr ⟨rfl, hlt⟩ hJs hlt
      have hvs : vs.getD m [] = cs := by
        have hv := hB.h2.hv
        have h5 := hB.h2.hz
        have hml : m < vs.length := by rw [hv, ← HL.out]; exact hmn
        rw [List.getD_eq_getElem?_getD, List.getElem?_eq_getElem hml, Option.getD_some]
        refine cells_eq (by rw [h5 _ (List.getElem_mem hml), hcs]) hcE (hB.h2.hC.part (m * 5) fun i hi => ?_)
        rw [flat5 vs h5 m i hml (by rw [h5 _ (List.getElem_mem hml)] at hi; exact hi), List.getElem?_eq_getElem hi]
      have eE : encbk n vs pre.length = #[.int .i64 (m : Int), .agg cs.toArray] := by
        show #[Value.int .i64 ((n - 1 - pre.length : Nat) : Int), Value.agg (vs.getD (n - 1 - pre.length) []).toArray] = _
        rw [hmz, hvs]
      rw [eE] at hyy
      clear eE
      have HQ := Lib.hid (And.intro hz (And.intro hlt (And.intro hB hJs)))
      clear hz hlt hB hJs hle hT hmz hvs hSg hY
      obtain ⟨fn, tmps, assign, body, hy, hR⟩ := hyy
      gi_wp2_with (with_reducible refine wpListIn_loads (o := ⟨some 16, .load 24 (.tmp 15), _, _, _, _⟩) rfl 24 (.tmp 15) rfl g (o + m * 5) cs rfl hcE _ Tryd.underlying24 rfl (size24' hcs) _ rfl ?_)
      refine hR.mono ?_
      rintro r W3 (⟨rfl, hJ3, hk3⟩ | ⟨rfl, hJx3⟩)
      · have hB3 := HQ.out.2.2.1.keep hk3
        have HE := Lib.hid (And.intro hB3 hJ3)
        clear hB3 hJ3 hk3
        gi_wp2_with fail
        exact ⟨⟨pre ++ [pre.length], (m : Int) - 1, by go_num, Lib.hid (by have := HQ.out.1.out; simp; omega), by have := HQ.out.2.1; simp; omega, HE.out.2, HE.out.1⟩, by simp [intOf]⟩
      · gi_wp2
        refine bodyPost_ret (results_none rfl _ _ _) rfl ?_
        exact ⟨⟨_, rfl⟩, .inr ⟨_, trivial, hJx3⟩⟩
    · have hz1 : z = -1 := by have := hz.out; omega
      subst hz1
      have HQ := Lib.hid (And.intro (show pre.length = n by omega) hJs)
      clear hz hJs hle hB hlt
      gi_wp2
      go_end0
      exact ⟨⟨_, rfl⟩, .inl ⟨pre, HQ.out.1, HQ.out.2⟩⟩
theorem bk_with (nn : Nat) (hn : 1 ≤ nn) (bs n0 : Nat) (S : Nat → Prop) (A : Option Addr) (n c : Nat) (vs : List (List Value)) (l : List Tm) (hl : n = l.length) (hn5 : n ≤ 100000) (ms : List Nat) (w : World) (H : Cbbk ms n0 bs S A n c vs l w) (hn0 : n0 ≤ w.heap.size) :
    SeqWith Fence.wide nn Tryd.prog 79 #[.pointer (some ⟨bs, 0, none⟩)] (encbk n vs) (Fxbk n) (KeepL ms n0) (fun zs => zs.length = n) (fun _ => True) n w := fun y J Jx W hW hJ _ hY h0 => by
  have hk : KeepL ms n0 w W := ⟨hW.size, fun k h1 _ _ => hW.block k (by omega)⟩
  exact bk_in nn hn y bs n0 S A n c vs l hl hn5 ms J Jx W hY (H.keep hk) h0
end
section
open Go.RowKit Go.Shelf
attribute [local go_sem] Oper.semAt_some
set_option linter.unusedVariables false
set_option linter.unusedSimpArgs false
/-- A list as a term. -/
def listT : List Tm → Tm
  | [] => .mk 1 0 0 ⟨#[]⟩ []
  | t :: l => .mk 4 0 0 ⟨#[]⟩ [t, listT l]
theorem exec_alloc24 {v : World} {o : Oper} {ρ : Operand → Value} (ho : o.op = .alloc 24) : (execOp ρ o).run Tryd.prog v = .ok (.value (.pointer (some ⟨v.heap.size, 0, none⟩))) (v.alloc (.cells (tmc 0 0 0 ⟨#[]⟩ none 0 0).toArray 24)) := by
  have hrun : (Instr.alloc 24 true (.tuple #[])).run Tryd.prog v = .ok (.pointer (some ⟨v.heap.size, 0, none⟩)) (v.alloc (.cells (tmc 0 0 0 ⟨#[]⟩ none 0 0).toArray 24)) := by
    simp [Instr.alloc, zero24, newVar, newRow, Value.cells, go_sem]
    rfl
  unfold execOp
  simp only [ho, Sem.run_bind, hrun, Result.andThen, Sem.run_pure]
/-- The term under way, in a round: what lies where. -/
structure Ls (w : World) (B p q : Nat) (t : Tm) (cs : List Value) (S : Nat → Prop) (W : World) : Prop where
  m : Mod [] w W
  sz : B ≤ W.heap.size
  h : Holds W p 24 cs
  t : TIs W S t cs
  s : ∀ g, S g → (g ≠ p ∧ g ≠ q) ∧ w.heap.size ≤ g ∧ g < W.heap.size ∧ (g < B ∨ ∃ t cs, Holds W g t cs)
theorem TIs.own {W V : World} {S : Nat → Prop} {row : Option Nat} (hg : W.grownBy V row) (hr : ∀ g, S g → ∀ r, row = some r → g ≠ r) (hlt : ∀ g, S g → g < W.heap.size) {t : Tm} {cs : List Value} (h : TIs W S t cs) : TIs V S t cs := by
  have m : Mod (row.toList) W V := ⟨hg.os, hg.tape, hg.output, hg.size, fun k hk hn => hg.block k hk (fun e => hn (by rw [← e]; simp))⟩
  exact h.keep m (fun g hgS hm => by
    cases row with
    | none => simp at hm
    | some r => simp at hm; exact hr g hgS r rfl hm)
theorem Ls.own {w W V : World} {B p q : Nat} {t : Tm} {cs : List Value} {S : Nat → Prop} {row : Option Nat} (h : Ls w B p q t cs S W) (hw : w.heap.size ≤ B) (hg : W.grownBy V row) (hr : ∀ r, row = some r → B ≤ r ∧ ∃ o : Obj, W.heap[r]? = some o ∧ o.isCells = false) : Ls w B p q t cs S V := by
  have hh : ∀ {g t cs}, Holds W g t cs → Holds V g t cs := fun h' => holds_own h' hg (fun r e => (hr r e).2)
  refine ⟨mod_own h.m hg (fun r e => Nat.le_trans hw (hr r e).1), Nat.le_trans h.sz hg.size, hh h.h, h.t.own hg (fun g hs r e e' => ?_) (fun g hs => (h.s g hs).2.2.1), fun g hs => ?_⟩
  · subst e'
    obtain ⟨h1, o, ho, hc⟩ := hr _ e
    rcases (h.s _ hs).2.2.2 with h2 | ⟨t', cs', h2⟩
    · omega
    · unfold Holds at h2
      rw [ho] at h2
      cases h2
      cases hc
  · obtain ⟨h1, h2, h3, h4⟩ := h.s g hs
    exact ⟨h1, h2, Nat.lt_of_lt_of_le h3 hg.size, h4.imp_right fun ⟨t', cs', h5⟩ => ⟨t', cs', hh h5⟩⟩
/-- The next term: a pair of one that stands and of the term under way. -/
theorem Ls.next {w W V1 V2 : World} {B p q b5 : Nat} {t u : Tm} {cs cu : List Value} {S Su : Nat → Prop} (h : Ls w B p q t cs S W) (hw : w.heap.size ≤ B) (hB : B ≤ b5) (hb5 : Holds W b5 24 cu) (hu : TIs W Su u cu) (hSu : ∀ g, Su g → (g ≠ p ∧ g ≠ q) ∧ w.heap.size ≤ g ∧ g < B)
    (hV : V1 = W.alloc (.cells (cu ++ cs).toArray 24)) (hh : Holds V2 p 24 (tmc 4 0 0 ⟨#[]⟩ (some ⟨W.heap.size, 0, none⟩) 2 2)) (m : Mod [p] V1 V2) (hp : p < B) (hq : q < B) (hpw : w.heap.size ≤ p) :
    ∃ S', Ls w B p q (.mk 4 0 0 ⟨#[]⟩ [u, t]) (tmc 4 0 0 ⟨#[]⟩ (some ⟨W.heap.size, 0, none⟩) 2 2) S' V2 := by
  have m1 : Mod [] W V1 := by rw [hV]; exact Mod.alloc [] W _
  have hn : Holds V1 W.heap.size 24 (cu ++ cs) := by rw [hV]; exact Holds.made W 24 _
  have hnp : W.heap.size ∉ [p] := by have := h.sz; simp; omega
  have hn2 := hn.keep m hnp
  have ht2 : TIs V2 S t cs := (h.t.keep m1 (by simp)).keep m (fun g hg => by have := (h.s g hg).1.1; simpa using this)
  have hu2 : TIs V2 Su u cu := (hu.keep m1 (by simp)).keep m (fun g hg => by have := (hSu g hg).1.1; simpa using this)
  have hsz := m1.size
  have hsz2 := m.size
  refine ⟨_, (h.m.then m1).trans m (fun i hi hm => by simp at hm; omega), Nat.le_trans h.sz (Nat.le_trans hsz hsz2), hh, (RowT.two hn2 hu2 ht2).tis 4 0 0 ⟨#[]⟩ 2 (by decide) (by simp) (by decide) (by simp), ?_⟩
  rintro g (rfl | hg | hg)
  · exact ⟨⟨by simpa using hnp, by have := h.sz; omega⟩, h.m.size, hn2.lt, .inr ⟨_, _, hn2⟩⟩
  · obtain ⟨h1, h2, h3⟩ := hSu g hg
    exact ⟨h1, h2, by have := h.sz; omega, .inl h3⟩
  · obtain ⟨h1, h2, h3, h4⟩ := h.s g hg
    exact ⟨h1, h2, by omega, h4.imp_right fun ⟨t', cs', h5⟩ => ⟨t', cs', (h5.keep m1 (by simp)).keep m (by simpa using h1.1)⟩⟩
theorem Ls.keep {w W V : World} {B p q : Nat} {t : Tm} {cs : List Value} {S : Nat → Prop} (h : Ls w B p q t cs S W) (m : Mod [] W V) : Ls w B p q t cs S V :=
  ⟨h.m.then m, Nat.le_trans h.sz m.size, h.h.keep m (by simp), h.t.keep m (by simp), fun g hg => by
    obtain ⟨h1, h2, h3, h4⟩ := h.s g hg
    exact ⟨h1, h2, Nat.lt_of_lt_of_le h3 m.size, h4.imp_right fun ⟨t', cs', h5⟩ => ⟨t', cs', h5.keep m (by simp)⟩⟩⟩
theorem listT_drop (l : List Tm) (m : Nat) (h : m < l.length) : listT (l.drop m) = .mk 4 0 0 ⟨#[]⟩ [l[m], listT (l.drop (m + 1))] := by
  rw [List.drop_eq_getElem_cons h, listT]
set_option maxRecDepth 1000000 in
set_option maxHeartbeats 4000000 in
theorem list_c (A0 : Option Addr) (n c0 : Nat) (vs0 : List (List Value)) (l : List Tm) (S0 : Nat → Prop) (w : World) (hl : n = l.length) (hn5 : n ≤ 100000) (hr : RowT w S0 A0 vs0 l) : Calls Tryd.prog 26 #[.slice A0 n c0] w (MadeT w (listT l)) := by
  have CP : ∀ v, Mod [] w v → Calls Tryd.prog 55 #[.slice A0 n c0] v fun e w' => ∃ A vs, e = .returned (.slice A n n) ∧ RowT w' (Btw v.heap.size w'.heap.size) A vs l ∧ Mod [] v w' := fun v mv => by
    have h := copied_all (Tm.depthAll l) A0 c0 vs0 l S0 v (fun t ht => Tm.mem_depth ht) (hr.keep mv (by simp)) (by omega)
    rw [← hl] at h
    refine h.mono ?_
    rintro e w' ⟨A, vs, h1, h2, h3, _⟩
    rw [← hl] at h1
    exact ⟨A, vs, h1, h2, h3⟩
  have HL := Lib.hid hl
  clear hr hl
  have FA := Fm.nil w
  refine (callsIn_wide (n := 5)).1 ?_
  refine callsIn_of_wp_marks Tryd.func26 rfl trivial ?_ rfl
  simp only [Tryd.ntmps26, List.size_toArray, List.length_cons, List.length_nil, Nat.reduceAdd, Nat.reduceSub, Array.replicate_succ, Array.replicate_zero, List.push_toArray, List.append_toArray, List.nil_append, List.cons_append]
  refine wpIn_wide.2 ?_
  go_wp2_with (first
    | (with_reducible refine fm_alloc FA (o := ⟨some 2, .alloc 24, _, _, _, _⟩) rfl 24 rfl _ zero24 ?_; intro b1 w1 F1; clear FA)
    | (go_at_call 16; refine (text_c ⟨#[]⟩ (by decide) w1).mono ?_
       rintro e w2 ⟨c2, rfl, h2, m2⟩
       have hc2 := h2.ones
       have F2 := F1.made m2 h2
       clear h2 m2 F1)
    | (with_reducible refine fm_alloc F2 (o := ⟨some 3, .alloc 24, _, _, _, _⟩) rfl 24 rfl _ zero24 ?_; intro p w3 F3; clear F2)
    | (with_reducible refine fm_store F3 0 rfl (o := ⟨none, .store 24 (.tmp 3) (.tmp 6), _, _, _, _⟩) rfl (.tmp 3) (.tmp 6) rfl rfl (c2) rfl rfl hc2.1 (tmc_len _ _ _ _ _ _ _) hc2.2 ?_; intro w4 F4; clear F3)
    | (go_at_call 55; refine (CP w4 F4.m).mono ?_
       rintro e w5 ⟨A1, vs, rfl, hR, m5⟩
       have F5 := F4.call m5
       clear CP)
    | (go_at_call 54; refine (bk_c A1 n n w5).mono ?_
       rintro e w6 ⟨rfl, hb, m6, z6⟩
       obtain ⟨bs, hbs⟩ : ∃ q, q = w5.heap.size := ⟨_, rfl⟩
       rw [← hbs] at hb ⊢
       have HBS := Lib.hid (And.intro hbs (And.intro z6 (And.intro m5.size (And.intro hR (And.intro m5 m6)))))
       have F6 := F5.call m6
       have HF4 := Lib.hid F4
       clear hbs z6 hR m5 m6 F5 F4))
  obtain ⟨hbs, z6, s5, hR, m5, m6⟩ := HBS.out
  have hp := F6.blk 0 rfl
  have hb1 := F6.blk 1 rfl
  have hT := F6.tis 0 rfl
  have hmw := F6.m
  have hplo : w.heap.size ≤ p := F6.lo _ (List.mem_cons_self ..) p rfl
  have hblo : w.heap.size ≤ b1 := F6.lo (oB b1 24 (tmc 0 0 0 ⟨#[]⟩ none 0 0)) (by simp) b1 rfl
  have hpb : p ≠ b1 := fun e => (List.pairwise_cons.1 F6.d).1 (oB b1 24 (tmc 0 0 0 ⟨#[]⟩ none 0 0)) (by simp) p rfl e
  have hp4 := (HF4.out.blk 0 rfl).lt
  have hb4 := (HF4.out.blk 1 rfl).lt
  have hS4 := HF4.out.slt 0 rfl
  have hS4lo := (HF4.out.s 0 rfl).2
  have hS4p := HF4.out.out (i := 0) rfl p rfl 0 rfl
  have hS4b := HF4.out.out (i := 1) rfl b1 rfl 0 rfl
  have hT0 := hT
  clear HF4
  have HRV := Lib.hid hR
  have H0 : Cbbk [p] w6.heap.size bs (Btw w4.heap.size w5.heap.size) A1 n n vs l w6 := ⟨hb, hR.keep m6 (by simp), by omega, by simp; omega, Nat.le_refl _, fun g hg => ⟨by have := hg.2; omega, by have := hg.1; simp; omega⟩⟩
  have L0 : Ls w w6.heap.size p b1 (listT []) c2 (Btw w1.heap.size w2.heap.size) w6 := ⟨hmw, Nat.le_refl _, hp, hT, fun g hg => ⟨⟨fun e => hS4p (e ▸ hg), fun e => hS4b (e ▸ hg)⟩, hS4lo g hg, by have := hS4 g hg; have := m5.size; have := m6.size; omega, .inl (by have := hS4 g hg; have := m5.size; have := m6.size; omega)⟩⟩
  have h51 : ∀ v ∈ vs, v.length = 5 := hR.hz
  have hvl : vs.length = n := by rw [hR.hv, HL.out]
  have hwB : w.heap.size ≤ w6.heap.size := hmw.size
  have hrowB : ∀ g, Btw w4.heap.size w5.heap.size g → (g ≠ p ∧ g ≠ b1) ∧ w.heap.size ≤ g ∧ g < w6.heap.size := fun g hg => by
    have h1 := hg.1
    have h2 := hg.2
    have h3 := m6.size
    exact ⟨⟨by omega, by omega⟩, by omega, by omega⟩
  have hb1h : Holds w6 b1 24 (tmc 0 0 0 ⟨#[]⟩ none 0 0) := hb1
  refine (wpIn_wide (n := 5)).1 ?_
  refine wpIn_rangeFunc_with (F := Fence.wide) (n := 5) rfl (by omega) (gf := 79) (lb := #[.pointer (some ⟨bs, 0, none⟩)]) rfl trivial (enters_of Tryd.func79 (by kernel_rfl) rfl)
    (bk_with 4 (by omega) bs w6.heap.size (Btw w4.heap.size w5.heap.size) A1 n n vs l HL.out hn5 [p] w6 H0 (Nat.le_refl _))
    (fun h k => h.trans k) (fun W l o o' hl ho h1 _ => ?hKb) (Below.refl _ _) (fun _ => rfl)
    (fun pre W => pre = List.range pre.length ∧ pre.length ≤ n ∧ Cbbk [p] w6.heap.size bs (Btw w4.heap.size w5.heap.size) A1 n n vs l W ∧ Holds W b1 24 (tmc 0 0 0 ⟨#[]⟩ none 0 0) ∧ ∃ cs S, Ls w w6.heap.size p b1 (listT (l.drop (n - pre.length))) cs S W)
    (fun _ _ _ => False)
    (fun s A B row hs hg hr => ?hI) (fun _ _ _ _ _ hs _ _ => hs.elim) ⟨rfl, Nat.zero_le _, H0, hb1h, c2, (Btw w1.heap.size w2.heap.size), by rw [List.length_nil, Nat.sub_zero, HL.out, List.drop_length]; exact L0⟩
    (fun pre z a' W => z = pre.length ∧ ∃ b5, w6.heap.size ≤ b5 ∧ Holds W b5 24 (vs.getD (n - 1 - z) []) ∧ a' = { tmps := #[.slice A0 n c0, undef, .pointer (some ⟨b1, 0, none⟩), .pointer (some ⟨p, 0, none⟩), undef, .pointer (some ⟨b5, 0, none⟩), .agg c2.toArray, .slice A0 n c0, .slice A1 n n, .func (.func 79) #[] #[.pointer (some ⟨bs, 0, none⟩)], .int .i64 ((n - 1 - z : Nat) : Int), .agg (vs.getD (n - 1 - z) []).toArray, undef, undef, undef, undef, undef], defers := [] })
    (fun pre z a' s A B row hs hg hr => ?hAx) ?assign ?body ?done ?stop
  case hKb =>
    exact ⟨by simp [World.putObj], fun k hk _ _ => World.putObj_heap_other (by omega)⟩
  case hI =>
    obtain ⟨h0, h1, h2, h3, cs, S, h4⟩ := hs
    have m : Mod (row.toList) A B := ⟨hg.os, hg.tape, hg.output, hg.size, fun k hk hn => hg.block k hk (fun e => hn (by rw [← e]; simp))⟩
    exact ⟨h0, h1, h2.keep (m.keepL _ (fun i hi hlt => by
      cases row with
      | none => simp at hi
      | some r => simp at hi; have := (hr r rfl).1; omega)), holds_own h3 hg (fun r e => (hr r e).2), cs, S, h4.own hwB hg hr⟩
  case hAx =>
    obtain ⟨h0, b5, h1, h2, h3⟩ := hs
    exact ⟨h0, b5, h1, holds_own h2 hg (fun r e => (hr r e).2), h3⟩
  case assign =>
    rintro L pre z W K ⟨h0, h1, h2, h3, cs, S, h4⟩ hF hK
    obtain ⟨ce, hce⟩ : ∃ q, q = vs.getD (n - 1 - z) [] := ⟨_, rfl⟩
    obtain ⟨hz, hzn⟩ := hF
    obtain ⟨m, hm⟩ : ∃ m, m = n - 1 - z := ⟨_, rfl⟩
    have hml : m < vs.length := by omega
    have hce5 : (vs.getD m []).length = 5 ∧ ∀ v ∈ vs.getD m [], v.oneCell' = true := by
      have hv : vs.getD m [] = vs[m] := by rw [List.getD_eq_getElem?_getD, List.getElem?_eq_getElem hml, Option.getD_some]
      rw [hv]
      exact (h2.h2.hk m (by rw [← HL.out]; omega) hml).ones
    have encE : encbk n vs z = #[.int .i64 (m : Int), .agg (vs.getD m []).toArray] := by rw [hm]
    obtain ⟨ce, hce⟩ : ∃ q, q = vs.getD m [] := ⟨_, rfl⟩
    rw [← hce] at hce5 encE
    rw [encE, zip_two]
    have HX := Lib.hid (And.intro hz (And.intro hzn (And.intro hm hce)))
    have HH := Lib.hid (And.intro h0 (And.intro h1 (And.intro h2 (And.intro h3 h4))))
    clear encE hz hzn hm hce hml h0 h1 h2 h3 h4
    change Code.wpIn _ _ _ _ _ { tmps := #[.slice A0 n c0, undef, .pointer (some ⟨b1, 0, none⟩), .pointer (some ⟨p, 0, none⟩), undef, undef, .agg c2.toArray, .slice A0 n c0, .slice A1 n n, .func (.func 79) #[] #[.pointer (some ⟨bs, 0, none⟩)], .int .i64 (m : Int), .agg ce.toArray, undef, undef, undef, undef, undef], defers := [] } W
    gi_wp2_with (first
      | (with_reducible refine wpListIn_allocs (o := ⟨some 5, .alloc 24, _, _, _, _⟩) rfl 24 rfl _ zero24 ?_; intro W1 hW1 mW1 zW1
         obtain ⟨b5, hb5⟩ : ∃ q, q = W.heap.size := ⟨_, rfl⟩
         rw [← hb5] at hW1 ⊢
         replace hb5 := Lib.hid hb5
         replace zW1 := Lib.hid zW1)
      | (with_reducible refine wpListIn_storesAll (o := ⟨none, .store 24 (.tmp 5) (.tmp 11), _, _, _, _⟩) rfl 24 (.tmp 5) (.tmp 11) rfl rfl b5 ce rfl _ rfl rfl 24 _ hW1 (hce5.1.trans (tmc_len _ _ _ _ _ _ _).symm) hce5.2 (size24' hce5.1) ?_
         intro W2 hW2 mW2 zW2))
    have mm : Mod [] W W2 := mW1.trans mW2 (fun i hi hn => by have := hb5.out; simp at hn; omega)
    obtain ⟨hz, hzn, hm, hce⟩ := HX.out
    obtain ⟨h0, h1, h2, h3, h4⟩ := HH.out
    refine hK _ _ (mm.keepsFrom _) (mm.keepL _ (fun _ h => by cases h)) ⟨h0, h1, h2.keep (mm.keepL _ (fun _ h => by cases h)), h3.keep mm (by simp), cs, S, h4.keep mm⟩ ⟨hz, b5, by rw [hb5.out]; exact h4.sz, ?_, ?_⟩
    · rw [← hm, ← hce]; exact hW2
    · rw [← hm, ← hce]
      rfl
  case body =>
    rintro L pre z a' W hl _ ⟨h0, h1, h2, h3, cs, S, h4⟩ ⟨hz, b5, hB5, hb5, rfl⟩ hlen
    obtain ⟨m, hm⟩ : ∃ m, m = n - 1 - z := ⟨_, rfl⟩
    rw [← hm] at hb5 ⊢
    have hml : m < vs.length := by omega
    have hmL : m < l.length := by rw [← HL.out]; omega
    have hvm : vs.getD m [] = vs[m] := by rw [List.getD_eq_getElem?_getD, List.getElem?_eq_getElem hml, Option.getD_some]
    have hu := h2.h2.hk m hmL hml
    rw [← hvm] at hu
    obtain ⟨ce, hce⟩ : ∃ q, q = vs.getD m [] := ⟨_, rfl⟩
    rw [← hce] at hu hb5 ⊢
    have h5e := hu.ones
    have h5c := h4.t.ones
    have hp4' := h4.h
    obtain ⟨gW, hgW⟩ : ∃ q, q = W.heap.size := ⟨_, rfl⟩
    have hpW : Holds (W.alloc (.cells (ce ++ cs).toArray 24)) p 24 cs := hp4'.keep (Mod.alloc [] W _) (by simp)
    have hFn : ∀ f, (Fence.wide.inRound L).fn f := fun _ => trivial
    have LIT : ∀ (ρ : Operand → Value) {o : Oper} {x y : Operand}, o.op = .buildSlice 22 2 #[(0, x), (1, y)] → ρ x = .agg ce.toArray → ρ y = .agg cs.toArray → (execOp ρ o).run Tryd.prog W = .ok (.value (.slice (some ⟨gW, 0, none⟩) 2 2)) (W.alloc (.cells (ce ++ cs).toArray 24)) := fun ρ o x y q1 q2 q3 => by rw [hgW]; exact exec_lit2 h5e.1 h5c.1 q1 q2 q3
    have HH := Lib.hid (And.intro h0 (And.intro h1 (And.intro h2 (And.intro h3 (And.intro h4 (And.intro hu (And.intro hz (And.intro hm (And.intro hlen (And.intro hgW (And.intro hmL hB5)))))))))))
    clear h0 h1 h2 h3 h4 hu hz hm hlen hce hvm hml hgW hB5
    gi_wp2_with (first
      | (with_reducible refine wpListIn_loads (o := ⟨some 12, .load 24 (.tmp 5), _, _, _, _⟩) rfl 24 (.tmp 5) rfl b5 0 ce rfl (Cells.of_holds hb5) _ Tryd.underlying24 rfl (size24' h5e.1) _ rfl ?_)
      | (with_reducible refine wpListIn_loads (o := ⟨some 13, .load 24 (.tmp 3), _, _, _, _⟩) rfl 24 (.tmp 3) rfl p 0 cs rfl (Cells.of_holds hp4') _ Tryd.underlying24 rfl (size24' h5c.1) _ rfl ?_)
      | (with_reducible refine wpListIn_ranW (o := ⟨some 14, _, _, _, _, _⟩) hFn rfl (by with_unfolding_all (intro c hc; cases hc)) (.slice (some ⟨gW, 0, none⟩) 2 2) (W.alloc (.cells (ce ++ cs).toArray 24)) (LIT _ rfl rfl rfl) ?_)
      | (with_reducible refine wpListIn_ranW (o := ⟨some 15, _, _, _, _, _⟩) hFn rfl (by with_unfolding_all (intro c hc; cases hc)) (.agg (tmc 4 0 0 ⟨#[]⟩ (some ⟨gW, 0, none⟩) 2 2).toArray) (W.alloc (.cells (ce ++ cs).toArray 24)) (exec_bH rfl rfl rfl) ?_)
      | (with_reducible refine wpListIn_storesAll (o := ⟨none, .store 24 (.tmp 3) (.tmp 15), _, _, _, _⟩) rfl 24 (.tmp 3) (.tmp 15) rfl rfl p (tmc 4 0 0 ⟨#[]⟩ (some ⟨gW, 0, none⟩) 2 2) rfl _ rfl rfl 24 _ hpW ((tmc_len _ _ _ _ _ _ _).trans h5c.1.symm) (tmc_one _ _ _ _ _ _ _) (size24' (tmc_len _ _ _ _ _ _ _)) ?_
         intro V2 hV2 mV2 zV2))
    obtain ⟨h0, h1, h2, h3, h4, hu, hz, hm, hlen, hgW, hmL, hB5⟩ := HH.out
    rw [hgW] at hV2
    have mW2 : Mod [p] W V2 := ((Mod.alloc [] W (.cells (ce ++ cs).toArray 24)).wk (fun _ _ h => by cases h)).trans mV2 (fun i _ h => h)
    obtain ⟨S', hN⟩ := h4.next hwB hB5 hb5 hu hrowB rfl hV2 mV2 (by omega) (by omega) hplo
    refine ⟨mW2.keepsFrom1 hp4' _, mW2.keepL _ (fun i hi _ => hi), ?_, ?_, h2.keep (mW2.keepL _ (fun i hi _ => hi)), h3.keep mW2 (by simpa using fun e => hpb e.symm), tmc 4 0 0 ⟨#[]⟩ (some ⟨W.heap.size, 0, none⟩) 2 2, S', ?_⟩
    · rw [List.length_append, show [z].length = 1 from rfl, List.range_succ, ← h0, ← hz]
    · rw [List.length_append, show [z].length = 1 from rfl]; omega
    · have e1 : n - (pre ++ [z]).length = m := by rw [List.length_append, show [z].length = 1 from rfl]; omega
      have e2 : n - pre.length = m + 1 := by omega
      rw [e1, listT_drop l m hmL, ← e2]
      exact hN
  case done =>
    rintro D xs W hD hxs ⟨h0, h1, h2, h3, cs, S, h4⟩ hK
    rw [hxs, Nat.sub_self, List.drop_zero] at h4
    obtain ⟨lw, lz, lh, lt, lS⟩ := h4
    have hcs := lt.ones
    have HV := Lib.hid (And.intro lw (And.intro hK (And.intro lt (And.intro lS (And.intro h3 lh)))))
    clear h0 h1 h2 lw hK lt lS
    go_wp2_with (first
      | (with_reducible refine wpList_loads (o := ⟨some 16, .load 24 (.tmp 3), _, _, _, _⟩) rfl 24 (.tmp 3) rfl p 0 cs rfl (Cells.of_holds lh) _ Tryd.underlying24 rfl (size24' hcs.1) _ rfl ?_)
      | (with_reducible refine wpList_storesAll (o := ⟨none, .store 24 (.tmp 2) (.tmp 16), _, _, _, _⟩) rfl 24 (.tmp 2) (.tmp 16) rfl rfl b1 cs rfl _ rfl rfl 24 _ h3 (hcs.1.trans (tmc_len _ _ _ _ _ _ _).symm) hcs.2 (size24' hcs.1) ?_
         intro V hV mV zV))
    obtain ⟨lw, hK, lt, lS, h3', lh'⟩ := HV.out
    have hKV : V.heap[D]? = some (.deferred (some [])) := (mV.block D (Array.getElem?_eq_some_iff.1 hK).1 (by simp; omega)).trans hK
    have gP := grownBy_putObj' V D (.deferred none)
    have hM : Mod [] w (V.putObj D (.deferred none)) := mod_own (lw.trans mV (fun i hi hm => by simp at hm; omega)) gP (fun r e => by cases e; omega)
    have hb2 : Holds (V.putObj D (.deferred none)) b1 24 cs := holds_own hV gP (fun r e => by cases e; exact ⟨_, hKV, rfl⟩)
    have ltV : TIs V S (listT l) cs := lt.keep mV (fun g hg => by
      have := (lS g hg).1.2
      simpa using this)
    have ltP : TIs (V.putObj D (.deferred none)) S (listT l) cs := ltV.own gP (fun g hg r e e' => by
      cases e
      have hSg := (lS g hg).2.2
      rcases hSg.2 with h | ⟨t', cs', h⟩
      · omega
      · have hh := h
        unfold Holds at hh
        rw [← e'] at hK
        rw [hh] at hK
        cases hK) (fun g hg => Nat.lt_of_lt_of_le (lS g hg).2.2.1 mV.size)
    refine ⟨by simp, .inl ⟨_, _, rfl, run_takeDeferred hKV, ?_⟩⟩
    exact ⟨_, results_cell1 rfl _ _ b1 cs rfl (Cells.of_holds hb2) hcs.1, cs, rfl, ltP.mono (fun g hg => ⟨(lS g hg).2.1, by have := (lS g hg).2.2.1; have := mV.size; have := gP.size; omega⟩), hM⟩
  case stop =>
    rintro D cd pre W hD _ hf hK
    exact hf.elim
end
end Go.Proofs.YtchanildogjhgaaDoor
