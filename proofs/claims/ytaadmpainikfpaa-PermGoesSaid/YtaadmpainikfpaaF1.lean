/-
  The call's own blocks and what else stands, as one predicate; the operations that turn it (out of my text Fm of another seat). My own work.
-/
import Derived.Test.YtaadmpainikfpaaA1
namespace Go.Proofs.Ytaadmpainikfpaa
open Go.RowKit Go.Shelf
set_option linter.unusedVariables false
theorem wpList_alloc1x {P : Program} {w : World} {ops : Array Oper} {rest : List Oper} {o : Oper} {a : Act} {Q : Exit → Act → World → Prop} (hgd : o.guard = none) (ty : TypeId) (ho : o.op = .alloc ty) (V : Value) (h1 : V.oneCell' = true) (hz : ∀ w, (zeroValue ty).run P w = .ok V w)
    (h : ∀ v, Holds v w.heap.size ty [V] → Mod [] w v → v.heap.size = w.heap.size + 1 → wpList P ops Q rest (a.put o.dst (.pointer (some ⟨w.heap.size, 0, none⟩))) v) : wpList P ops Q (o :: rest) a w := by
  refine wpList_plain hgd fun K hK => ?_
  have hrun : (Instr.alloc ty true (.tuple #[])).run P w = .ok (.pointer (some ⟨w.heap.size, 0, none⟩)) (w.alloc (.cells #[V] ty)) := by
    simp [Instr.alloc, hz, newVar, newRow, go_sem]
    split
    · simp [Value.oneCell'] at h1
    · rfl
  unfold Oper.wp execOp
  simp only [ho, Sem.run_bind, hrun, Result.andThen]
  exact hK _ _ (h _ (Holds.made w ty [V]) (Mod.alloc [] w _) (by simp))
theorem mem_blk {A : Option Addr} {i : Nat} (h : i ∈ blk A) : ∃ a, A = some a ∧ a.block = i := by
  cases A with
  | none => simp [blk] at h
  | some a => exact ⟨a, rfl, by have h1 : i = a.block := by simpa [blk] using h
                                exact h1.symm⟩
theorem blk_of {a : Addr} : a.block ∈ blk (some a) := by simp [blk]
section
variable {w v : World} {old : Value}
theorem wpList_ran {P : Program} {w : World} {ops : Array Oper} {rest : List Oper} {o : Oper} {a : Act} {Q : Exit → Act → World → Prop} (hg : o.guard = none) (V : Value) (hrun : (execOp a.eval o).run P w = .ok (.value V) w) (h : wpList P ops Q rest (a.put o.dst V) w) : wpList P ops Q (o :: rest) a w := by
  refine wpList_plain hg fun K hK => ?_
  unfold Oper.wp
  rw [hrun]
  exact hK _ _ h
theorem wpList_store1 {ops : Array Oper} {rest : List Oper} {o : Oper} {a : Act} {Q : Exit → Act → World → Prop} (hgd : o.guard = none) (ty : TypeId) (x y : Operand) (ho : o.op = .store ty x y) (hdst : o.dst = none) (A : Addr) (hx : a.eval x = .pointer (some A)) (V old : Value) (hy : a.eval y = V) (h1 : V.oneCell' = true)
    (hs : (Try.prog.info? ty).map (·.size) = some 1) (hc : w.cell? A = some old) (hf : w.frozen? A = false) (h : wpList Try.prog ops Q rest a (w.setCell A V)) : wpList Try.prog ops Q (o :: rest) a w := by
  cases hq : Try.prog.info? ty with
  | none => rw [hq] at hs; cases hs
  | some it =>
    have hit : it.size = 1 := by rw [hq] at hs; simpa using hs
    have hr := exec_store1 (P := Try.prog) ho hx hy h1 hq hit hc hf
    refine wpList_plain hgd fun K hK => ?_
    unfold Oper.wp
    rw [hr]
    refine hK _ _ ?_
    show wpList Try.prog ops Q rest (a.put o.dst undef) _
    rw [hdst]
    exact h
end

theorem size24 : (Try.prog.info? 24).map (·.size) = some 5 := by kernel_rfl
theorem size24' {cs : List Value} (h : cs.length = 5) : (Try.prog.info? 24).map (·.size) = some cs.length := by rw [h]; exact size24
/-- Permissions that are zero values. -/
def zpm : List Value := [.int .i64 0, .int .i64 0, .slice none 0 0, .slice none 0 0, .slice none 0 0]
theorem zero24 (w : World) : (zeroValue 24).run Try.prog w = .ok (.agg zpm.toArray) w := by kernel_rfl
abbrev Th := (Nat → Prop) × (World → Prop)
def keeps (x : Th) : Prop := ∀ (w v : World) (ms : List Nat), Mod ms w v → (∀ g, x.1 g → g ∉ ms) → x.2 w → x.2 v
def oB (b : Nat) (t : TypeId) (cs : List Value) : Th := ((· = b), fun w => Holds w b t cs)
abbrev Up (lo : Nat) : Nat → Prop := fun g => lo ≤ g
abbrev Any : Nat → Prop := fun _ => True
abbrev Ov (S : Nat → Prop) (lo : Nat) : Nat → Prop := fun g => S g ∨ lo ≤ g
def tB (A : Option Addr) (l : List UInt8) : Th := ((· ∈ blk A), fun w => Reads w A l)
theorem keeps_oB (b : Nat) (t : TypeId) (cs : List Value) : keeps (oB b t cs) := fun w v ms m h hw => Holds.keep hw m (h b rfl)
theorem keeps_tB (A : Option Addr) (l : List UInt8) : keeps (tB A l) := fun w v ms m h hw => Reads.keep hw m (fun a ha => h _ (by rw [ha]; exact blk_of))
structure Fm (w0 w : World) (os ts : List Th) : Prop where
  m : Mod [] w0 w
  k : ∀ x, x ∈ os ∨ x ∈ ts → keeps x ∧ x.2 w ∧ ∀ g, x.1 g → g < w.heap.size
  lo : ∀ x ∈ os, ∀ g, x.1 g → w0.heap.size ≤ g
  d : os.Pairwise fun x y => ∀ g, x.1 g → ¬ y.1 g
  e : ∀ x ∈ os, ∀ y ∈ ts, ∀ g, x.1 g → ¬ y.1 g
section
variable {w0 w v : World} {os ts : List Th}
theorem Fm.nil (w : World) : Fm w w [] [] := ⟨Mod.refl _ _, by simp, by simp, List.Pairwise.nil, by simp⟩
theorem Fm.sub {os' ts' : List Th} (F : Fm w0 w os ts) (ho : os'.Sublist os) (ht : ∀ x ∈ ts', x ∈ ts) : Fm w0 w os' ts' :=
  ⟨F.m, fun x hx => F.k x (hx.imp (fun h => ho.subset h) (ht x)), fun x hx => F.lo x (ho.subset hx), F.d.sublist ho, fun x hx y hy => F.e x (ho.subset hx) y (ht y hy)⟩
theorem Fm.call (F : Fm w0 w os ts) (m : Mod [] w v) : Fm w0 v os ts :=
  ⟨F.m.then m, fun x hx => by obtain ⟨h1, h2, h3⟩ := F.k x hx; exact ⟨h1, h1 _ _ _ m (by simp) h2, fun g hg => Nat.lt_of_lt_of_le (h3 g hg) m.size⟩, F.lo, F.d, F.e⟩
theorem Fm.arg (F : Fm w0 w os ts) (x : Th) (hk : keeps x) (hx : x.2 w) (hs : ∀ g, x.1 g → g < w0.heap.size) : Fm w0 w os (x :: ts) := by
  refine ⟨F.m, fun y hy => ?_, F.lo, F.d, fun y hy z hz g hg hz' => ?_⟩
  · rcases hy with hy | hy
    · exact F.k y (.inl hy)
    · rcases List.mem_cons.1 hy with rfl | hy
      · exact ⟨hk, hx, fun g hg => Nat.lt_of_lt_of_le (hs g hg) F.m.size⟩
      · exact F.k y (.inr hy)
  · rcases List.mem_cons.1 hz with rfl | hz
    · have := F.lo y hy g hg
      have := hs g hz'
      omega
    · exact F.e y hy z hz g hg hz'
theorem Fm.put (F : Fm w0 w os ts) (m : Mod [] w v) (x : Th) (hk : keeps x) (hx : x.2 v) (hs : ∀ g, x.1 g → (w.heap.size ≤ g ∧ g < v.heap.size) ∨ ∃ y ∈ ts, y.1 g) : Fm w0 v os (x :: ts) := by
  have F' := F.call m
  refine ⟨F'.m, fun y hy => ?_, F'.lo, F'.d, fun y hy z hz g hg hz' => ?_⟩
  · rcases hy with hy | hy
    · exact F'.k y (.inl hy)
    · rcases List.mem_cons.1 hy with rfl | hy
      · refine ⟨hk, hx, fun g hg => ?_⟩
        rcases hs g hg with h | ⟨z, hz, h⟩
        · exact h.2
        · exact (F'.k z (.inr hz)).2.2 g h
      · exact F'.k y (.inr hy)
  · rcases List.mem_cons.1 hz with rfl | hz
    · rcases hs g hz' with h | ⟨z', hz2, h⟩
      · have := (F.k y (.inl hy)).2.2 g hg
        omega
      · exact F'.e y hy z' hz2 g hg h
    · exact F'.e y hy z hz g hg hz'
theorem Fm.own (F : Fm w0 w os ts) (m : Mod [] w v) (x : Th) (hk : keeps x) (hx : x.2 v) (hs : ∀ g, x.1 g → w.heap.size ≤ g ∧ g < v.heap.size) : Fm w0 v (x :: os) ts := by
  have F' := F.call m
  refine ⟨F'.m, fun y hy => ?_, fun y hy g hg => ?_, List.pairwise_cons.2 ⟨fun y hy g hg hy' => ?_, F'.d⟩, fun y hy z hz g hg hz' => ?_⟩
  · rcases hy with hy | hy
    · rcases List.mem_cons.1 hy with rfl | hy
      · exact ⟨hk, hx, fun g hg => (hs g hg).2⟩
      · exact F'.k y (.inl hy)
    · exact F'.k y (.inr hy)
  · rcases List.mem_cons.1 hy with rfl | hy
    · exact Nat.le_trans F.m.size (hs g hg).1
    · exact F'.lo y hy g hg
  · have := (F.k y (.inl hy)).2.2 g hy'
    have := (hs g hg).1
    omega
  · rcases List.mem_cons.1 hy with rfl | hy
    · have := (F.k z (.inr hz)).2.2 g hz'
      have := (hs g hg).1
      omega
    · exact F'.e y hy z hz g hg hz'
theorem Fm.turn (F : Fm w0 w os ts) {ms : List Nat} (m : Mod ms w v) (i : Nat) {x : Th} (hi : os[i]? = some x) (hm : ∀ g ∈ ms, x.1 g) (y : Th) (hk : keeps y) (hy : y.2 v) (hs : ∀ g, y.1 g → (x.1 g ∨ w.heap.size ≤ g) ∧ g < v.heap.size) : Fm w0 v (os.set i y) ts := by
  obtain ⟨hil, hix⟩ := List.getElem?_eq_some_iff.1 hi
  have hxm : x ∈ os := by rw [← hix]; exact List.getElem_mem hil
  have hne : ∀ j (hj : j < os.length), j ≠ i → ∀ g, os[j].1 g → ¬ x.1 g := by
    intro j hj hji g hg hx
    rw [← hix] at hx
    rcases Nat.lt_or_gt_of_ne hji with h | h
    · exact List.pairwise_iff_getElem.1 F.d j i hj hil h g hg hx
    · exact List.pairwise_iff_getElem.1 F.d i j hil hj h g hx hg
  have hout : ∀ z, (z ∈ ts ∨ ∃ j, ∃ hj : j < os.length, j ≠ i ∧ os[j] = z) → keeps z ∧ z.2 v ∧ (∀ g, z.1 g → g < v.heap.size) ∧ (∀ g, z.1 g → ¬ x.1 g) ∧ (∀ g, z.1 g → g < w.heap.size) := by
    intro z hz
    have hx' : ∀ g, z.1 g → ¬ x.1 g := by
      rcases hz with hz | ⟨j, hj, hji, rfl⟩
      · exact fun g hg hx => F.e x hxm z hz g hx hg
      · exact hne j hj hji
    obtain ⟨h1, h2, h3⟩ := F.k z (hz.elim .inr fun ⟨j, hj, _, e⟩ => .inl (e ▸ List.getElem_mem hj))
    exact ⟨h1, h1 _ _ _ m (fun g hg hgm => hx' g hg (hm g hgm)) h2, fun g hg => Nat.lt_of_lt_of_le (h3 g hg) m.size, hx', h3⟩
  have hin : ∀ z ∈ os.set i y, z = y ∨ ∃ j, ∃ hj : j < os.length, j ≠ i ∧ os[j] = z := by
    intro z hz
    obtain ⟨j, hj, e⟩ := List.getElem_of_mem hz
    rw [List.length_set] at hj
    rw [List.getElem_set] at e
    split at e
    · exact .inl e.symm
    · rename_i h; exact .inr ⟨j, hj, fun h' => h h'.symm, e⟩
  have hlox := F.lo x hxm
  have hms : Mod [] w0 v := F.m.trans m (fun g hg hgm => by have := hlox g (hm g hgm); omega)
  refine ⟨hms, fun z hz => ?_, fun z hz g hg => ?_, ?_, fun z hz u hu g hg hu' => ?_⟩
  · rcases hz with hz | hz
    · rcases hin z hz with rfl | h
      · exact ⟨hk, hy, fun g hg => (hs g hg).2⟩
      · obtain ⟨h1, h2, h3, _⟩ := hout z (.inr h); exact ⟨h1, h2, h3⟩
    · obtain ⟨h1, h2, h3, _⟩ := hout z (.inl hz); exact ⟨h1, h2, h3⟩
  · rcases hin z hz with rfl | ⟨j, hj, _, rfl⟩
    · rcases (hs g hg).1 with h | h
      · exact hlox g h
      · exact Nat.le_trans F.m.size h
    · exact F.lo _ (List.getElem_mem hj) g hg
  · rw [List.pairwise_iff_getElem]
    intro a b ha hb hab g hg hg'
    rw [List.length_set] at ha hb
    rw [List.getElem_set] at hg hg'
    by_cases h1 : i = a
    · rw [if_pos h1] at hg
      rw [if_neg (by omega)] at hg'
      obtain ⟨_, _, _, h4, h5⟩ := hout os[b] (.inr ⟨b, hb, by omega, rfl⟩)
      rcases (hs g hg).1 with h | h
      · exact h4 g hg' h
      · have := h5 g hg'; omega
    · rw [if_neg h1] at hg
      obtain ⟨_, _, _, h4, h5⟩ := hout os[a] (.inr ⟨a, ha, fun h => h1 h.symm, rfl⟩)
      by_cases h2 : i = b
      · rw [if_pos h2] at hg'
        rcases (hs g hg').1 with h | h
        · exact h4 g hg h
        · have := h5 g hg; omega
      · rw [if_neg h2] at hg'
        exact List.pairwise_iff_getElem.1 F.d a b ha hb hab g hg hg'
  · rcases hin z hz with rfl | ⟨j, hj, _, rfl⟩
    · obtain ⟨_, _, _, h4, h5⟩ := hout u (.inl hu)
      rcases (hs g hg).1 with h | h
      · exact h4 g hu' h
      · have := h5 g hu'; omega
    · exact F.e _ (List.getElem_mem hj) u hu g hg hu'
theorem Fm.freeze (F : Fm w0 w os ts) (i : Nat) {x : Th} (hi : os[i]? = some x) : Fm w0 w (os.eraseIdx i) (x :: ts) := by
  obtain ⟨hil, hix⟩ := List.getElem?_eq_some_iff.1 hi
  have hxm : x ∈ os := by rw [← hix]; exact List.getElem_mem hil
  have hsub := List.eraseIdx_sublist os i
  refine ⟨F.m, fun y hy => ?_, fun y hy => F.lo y (hsub.subset hy), F.d.sublist hsub, fun y hy z hz g hg hz' => ?_⟩
  · rcases hy with hy | hy
    · exact F.k y (.inl (hsub.subset hy))
    · rcases List.mem_cons.1 hy with rfl | hy
      · exact F.k y (.inl hxm)
      · exact F.k y (.inr hy)
  · rcases List.mem_cons.1 hz with rfl | hz
    · obtain ⟨j, hj, e⟩ := List.getElem_of_mem hy
      rw [List.getElem_eraseIdx] at e
      rw [List.length_eraseIdx] at hj
      rw [if_pos hil] at hj
      rw [← hix] at hz'
      split at e
      · subst e; exact List.pairwise_iff_getElem.1 F.d j i (by omega) hil (by assumption) g hg hz'
      · subst e; exact List.pairwise_iff_getElem.1 F.d i (j + 1) hil (by omega) (by omega) g hz' hg
    · exact F.e y (hsub.subset hy) z hz g hg hz'
theorem Fm.o (F : Fm w0 w os ts) (i : Nat) {x : Th} (hi : os[i]? = some x) : x.2 w := (F.k x (.inl (by obtain ⟨h, e⟩ := List.getElem?_eq_some_iff.1 hi; rw [← e]; exact List.getElem_mem h))).2.1
theorem Fm.s (F : Fm w0 w os ts) (i : Nat) {x : Th} (hi : ts[i]? = some x) : x.2 w := (F.k x (.inr (by obtain ⟨h, e⟩ := List.getElem?_eq_some_iff.1 hi; rw [← e]; exact List.getElem_mem h))).2.1
theorem Fm.slt (F : Fm w0 w os ts) (i : Nat) {x : Th} (hi : ts[i]? = some x) : ∀ g, x.1 g → g < w.heap.size := (F.k x (.inr (by obtain ⟨h, e⟩ := List.getElem?_eq_some_iff.1 hi; rw [← e]; exact List.getElem_mem h))).2.2
theorem Fm.blk (F : Fm w0 w os ts) (i : Nat) {b : Nat} {t : TypeId} {cs : List Value} (hi : os[i]? = some (oB b t cs)) : Holds w b t cs := F.o i hi
theorem wpList_ran_w {ops : Array Oper} {rest : List Oper} {o : Oper} {a : Act} {Q : Exit → Act → World → Prop} (hg : o.guard = none) (V : Value) (hrun : (execOp a.eval o).run Try.prog w = .ok (.value V) v) (h : wpList Try.prog ops Q rest (a.put o.dst V) v) : wpList Try.prog ops Q (o :: rest) a w := by
  refine wpList_plain hg fun K hK => ?_
  unfold Oper.wp
  simp only [hrun]
  exact hK _ _ h
theorem Fm.ltm (F : Fm w0 w os ts) {x : Th} (hi : x ∈ ts) : ∀ g, x.1 g → g < w.heap.size := (F.k _ (.inr hi)).2.2
theorem results_ct {fn : Func} {p p' : Tmp} (h : fn.results = #[.cell p 24, .tmp p']) (tmps : Array Value) (w : World) (g : Nat) (cs : List Value) (V : Value) (hp : tmps.getD p undef = .pointer (some ⟨g, 0, none⟩)) (hV : tmps.getD p' undef = V) (hc : Cells w (some ⟨g, 0, none⟩) cs) (h5 : cs.length = 5) :
    (results fn tmps).run Try.prog w = .ok (.tuple #[.agg cs.toArray, V]) w := by
  have e1 : tmps[p]?.getD undef = .pointer (some ⟨g, 0, none⟩) := by simpa using hp
  have e2 : tmps[p']?.getD undef = V := by simpa using hV
  have r1 := run_loads hc Try.underlying24 rfl (size24' h5)
  simp [results, h, e1, e2, asAddr, r1, Result.andThen]
theorem Fm.name (F : Fm w0 w os ts) : ∃ l, l = ts ∧ Fm w0 w os l := ⟨_, rfl, F⟩
theorem Fm.mem (F : Fm w0 w os ts) (i : Nat) {x : Th} (hi : ts[i]? = some x) : x ∈ ts := by obtain ⟨h, e⟩ := List.getElem?_eq_some_iff.1 hi; rw [← e]; exact List.getElem_mem h
theorem Fm.out (F : Fm w0 w os ts) {i : Nat} {x : Th} (hi : os[i]? = some x) (g : Nat) (hg : x.1 g) (j : Nat) {y : Th} (hj : ts[j]? = some y) : ¬ y.1 g := by
  obtain ⟨h, e⟩ := List.getElem?_eq_some_iff.1 hi
  obtain ⟨h', e'⟩ := List.getElem?_eq_some_iff.1 hj
  exact F.e x (by rw [← e]; exact List.getElem_mem h) y (by rw [← e']; exact List.getElem_mem h') g hg
variable {ops : Array Oper} {rest : List Oper} {o : Oper} {a : Act} {Q : Exit → Act → World → Prop}
theorem Holds.new_keeps {b : Nat} {t : TypeId} {cs : List Value} (h : Holds v b t cs) (hb : b = w.heap.size) : ∀ g, (oB b t cs).1 g → w.heap.size ≤ g ∧ g < v.heap.size := fun g hg => by
  have : g = b := hg
  have := h.lt
  omega
theorem fm_box (F : Fm w0 w os ts) (hgd : o.guard = none) (ty : TypeId) (x : Operand) (ho : o.op = .box ty x) (cs : List Value) (hx : a.eval x = .agg cs.toArray)
    (h : ∀ b v, Fm w0 v (oB b ty cs :: os) ts → wpList Try.prog ops Q rest (a.put o.dst (.pointer (some ⟨b, 0, none⟩))) v) : wpList Try.prog ops Q (o :: rest) a w :=
  wpList_boxes hgd ty x ho _ hx cs rfl fun v hv m z => h _ v (F.own m _ (keeps_oB _ _ _) hv (hv.new_keeps rfl))
theorem fm_box1 (F : Fm w0 w os ts) (hgd : o.guard = none) (ty : TypeId) (x : Operand) (ho : o.op = .box ty x) (V : Value) (hV : V.cells = [V].toArray) (hx : a.eval x = V)
    (h : ∀ b v, Fm w0 v (oB b ty [V] :: os) ts → wpList Try.prog ops Q rest (a.put o.dst (.pointer (some ⟨b, 0, none⟩))) v) : wpList Try.prog ops Q (o :: rest) a w :=
  wpList_boxes hgd ty x ho _ hx [V] hV fun v hv m z => h _ v (F.own m _ (keeps_oB _ _ _) hv (hv.new_keeps rfl))
theorem fm_alloc (F : Fm w0 w os ts) (hgd : o.guard = none) (ty : TypeId) (ho : o.op = .alloc ty) (cs : List Value) (hz : ∀ w, (zeroValue ty).run Try.prog w = .ok (.agg cs.toArray) w)
    (h : ∀ b v, Fm w0 v (oB b ty cs :: os) ts → wpList Try.prog ops Q rest (a.put o.dst (.pointer (some ⟨b, 0, none⟩))) v) : wpList Try.prog ops Q (o :: rest) a w :=
  wpList_allocs hgd ty ho cs hz fun v hv m z => h _ v (F.own m _ (keeps_oB _ _ _) hv (hv.new_keeps rfl))
theorem fm_alloc1 (F : Fm w0 w os ts) (hgd : o.guard = none) (ty : TypeId) (ho : o.op = .alloc ty) (V : Value) (h1 : V.oneCell' = true) (hz : ∀ w, (zeroValue ty).run Try.prog w = .ok V w)
    (h : ∀ b v, Fm w0 v (oB b ty [V] :: os) ts → wpList Try.prog ops Q rest (a.put o.dst (.pointer (some ⟨b, 0, none⟩))) v) : wpList Try.prog ops Q (o :: rest) a w :=
  wpList_alloc1x hgd ty ho V h1 hz fun v hv m z => h _ v (F.own m _ (keeps_oB _ _ _) hv (hv.new_keeps rfl))
theorem fm_load (F : Fm w0 w os ts) (i : Nat) {b : Nat} {cs : List Value} (hi : os[i]? = some (oB b 24 cs)) (hgd : o.guard = none) (x : Operand) (ho : o.op = .load 24 x) (hx : a.eval x = .pointer (some ⟨b, 0, none⟩)) (h5 : cs.length = 5)
    (h : wpList Try.prog ops Q rest (a.put o.dst (.agg cs.toArray)) w) : wpList Try.prog ops Q (o :: rest) a w :=
  wpList_loads hgd 24 x ho b 0 cs hx (Cells.of_holds (F.blk i hi)) _ Try.underlying24 rfl (size24' h5) _ rfl h
theorem fm_ranW (hw : Region.wanted o (yielded ops a.tmps) = true) (V : Value) (v : World) (hrun : (execOp a.eval o).run Try.prog w = .ok (.value V) v) (h : wpList Try.prog ops Q rest (a.put o.dst V) v) : wpList Try.prog ops Q (o :: rest) a w := by
  refine wpList_step fun K hK => ?_
  rw [if_pos hw]
  unfold Oper.wp
  rw [hrun]
  exact hK _ _ h
theorem fm_loadG (F : Fm w0 w os ts) (i : Nat) {b : Nat} {cs : List Value} (hi : os[i]? = some (oB b 24 cs)) (hw : Region.wanted o (yielded ops a.tmps) = true) (x : Operand) (ho : o.op = .load 24 x) (hx : a.eval x = .pointer (some ⟨b, 0, none⟩)) (h5 : cs.length = 5)
    (h : wpList Try.prog ops Q rest (a.put o.dst (.agg cs.toArray)) w) : wpList Try.prog ops Q (o :: rest) a w :=
  fm_ranW hw _ w (exec_load ho hx (run_loads (Cells.of_holds (F.blk i hi)) Try.underlying24 rfl (size24' h5))) h
theorem fm_store (F : Fm w0 w os ts) (i : Nat) {b : Nat} {old : List Value} (hi : os[i]? = some (oB b 24 old)) (hgd : o.guard = none) (x y : Operand) (ho : o.op = .store 24 x y) (hdst : o.dst = none) (cs : List Value) (hx : a.eval x = .pointer (some ⟨b, 0, none⟩)) (hy : a.eval y = .agg cs.toArray)
    (h5 : cs.length = 5) (ho5 : old.length = 5) (h1 : ∀ v ∈ cs, v.oneCell' = true)
    (h : ∀ v, Fm w0 v (os.set i (oB b 24 cs)) ts → wpList Try.prog ops Q rest a v) : wpList Try.prog ops Q (o :: rest) a w :=
  wpList_storesAll hgd 24 x y ho hdst b cs hx _ hy rfl 24 old (F.blk i hi) (by omega) h1 (size24' h5) fun v hv m z => h v (F.turn m i hi (fun g hg => List.mem_singleton.1 hg) _ (keeps_oB _ _ _) hv fun g hg => ⟨.inl hg, by have : g = b := hg; have := hv.lt; omega⟩)
theorem Fm.ret (F : Fm w0 w os ts) (i : Nat) {b : Nat} {cs : List Value} (hi : os[i]? = some (oB b 24 cs)) : Cells w (some ⟨b, 0, none⟩) cs := Cells.of_holds (F.blk i hi)
theorem Fm.also (F : Fm w0 w os ts) (x : Th) (hk : keeps x) (hx : x.2 w) (hs : ∀ g, x.1 g → ∃ y ∈ ts, y.1 g) : Fm w0 w os (x :: ts) := F.put (Mod.refl [] w) x hk hx fun g hg => .inr (hs g hg)
theorem fm_load1 (F : Fm w0 w os ts) (i k : Nat) {b : Nat} {t : TypeId} {cs : List Value} (hi : os[i]? = some (oB b t cs)) (V : Value) (hk : cs[k]? = some V) (hgd : o.guard = none) (ty : TypeId) (x : Operand) (ho : o.op = .load ty x) (hx : a.eval x = .pointer (some ⟨b, k, none⟩)) (hr : w.cell? ⟨b, k, none⟩ = some V → (loadVar ty ⟨b, k, none⟩).run Try.prog w = .ok V w)
    (h : wpList Try.prog ops Q rest (a.put o.dst V) w) : wpList Try.prog ops Q (o :: rest) a w := by
  have hc : w.cell? ⟨b, k, none⟩ = some V := ((F.blk i hi).cell k).trans hk
  exact wpList_ran hgd V (exec_load ho hx (hr hc)) h
theorem fm_load1G' {w0 w : World} {os ts : List Th} {ops : Array Oper} {rest : List Oper} {o : Oper} {a : Act} {Q : Exit → Act → World → Prop} (F : Fm w0 w os ts) (i k : Nat) {b : Nat} {t : TypeId} {cs : List Value} (hi : os[i]? = some (oB b t cs)) (V : Value) (hk : cs[k]? = some V) (hw : Region.wanted o (yielded ops a.tmps) = true) (ty : TypeId) (x : Operand) (ho : o.op = .load ty x) (hx : a.eval x = .pointer (some ⟨b, k, none⟩)) (hr : w.cell? ⟨b, k, none⟩ = some V → (loadVar ty ⟨b, k, none⟩).run Try.prog w = .ok V w)
    (h : wpList Try.prog ops Q rest (a.put o.dst V) w) : wpList Try.prog ops Q (o :: rest) a w := by
  have hc : w.cell? ⟨b, k, none⟩ = some V := ((F.blk i hi).cell k).trans hk
  exact fm_ranW hw V w (exec_load ho hx (hr hc)) h
theorem Fm.fuse {x y : Th} (F : Fm w0 w (x :: os) ts) (i : Nat) (hi : os[i]? = some y) (z : Th) (hk : keeps z) (hz : z.2 w) (hs : ∀ g, z.1 g → x.1 g ∨ y.1 g) : Fm w0 w (os.set i z) ts := by
  obtain ⟨hil, hiy⟩ := List.getElem?_eq_some_iff.1 hi
  have hym : y ∈ os := by rw [← hiy]; exact List.getElem_mem hil
  have hd := List.pairwise_cons.1 F.d
  have hin : ∀ u ∈ os.set i z, u = z ∨ ∃ j, ∃ hj : j < os.length, j ≠ i ∧ os[j] = u := by
    intro u hu
    obtain ⟨j, hj, e⟩ := List.getElem_of_mem hu
    rw [List.length_set] at hj
    rw [List.getElem_set] at e
    split at e
    · exact .inl e.symm
    · rename_i h; exact .inr ⟨j, hj, fun h' => h h'.symm, e⟩
  have zlt : ∀ g, z.1 g → g < w.heap.size := fun g hg => (hs g hg).elim ((F.k x (.inl (List.mem_cons_self ..))).2.2 g) ((F.k y (.inl (List.mem_cons_of_mem _ hym))).2.2 g)
  have zlo : ∀ g, z.1 g → w0.heap.size ≤ g := fun g hg => (hs g hg).elim (F.lo x (List.mem_cons_self ..) g) (F.lo y (List.mem_cons_of_mem _ hym) g)
  have apart : ∀ j (hj : j < os.length), j ≠ i → ∀ g, os[j].1 g → ¬ z.1 g := by
    intro j hj hji g hg hz'
    rcases hs g hz' with h | h
    · exact hd.1 _ (List.getElem_mem hj) g h hg
    · rw [← hiy] at h
      rcases Nat.lt_or_gt_of_ne hji with h' | h'
      · exact List.pairwise_iff_getElem.1 hd.2 j i hj hil h' g hg h
      · exact List.pairwise_iff_getElem.1 hd.2 i j hil hj h' g h hg
  refine ⟨F.m, fun u hu => ?_, fun u hu g hg => ?_, ?_, fun u hu t ht g hg hg' => ?_⟩
  · rcases hu with hu | hu
    · rcases hin u hu with rfl | ⟨j, hj, _, rfl⟩
      · exact ⟨hk, hz, zlt⟩
      · exact F.k _ (.inl (List.mem_cons_of_mem _ (List.getElem_mem hj)))
    · exact F.k u (.inr hu)
  · rcases hin u hu with rfl | ⟨j, hj, _, rfl⟩
    · exact zlo g hg
    · exact F.lo _ (List.mem_cons_of_mem _ (List.getElem_mem hj)) g hg
  · rw [List.pairwise_iff_getElem]
    intro a b ha hb hab g hg hg'
    rw [List.length_set] at ha hb
    rw [List.getElem_set] at hg hg'
    by_cases h1 : i = a
    · rw [if_pos h1] at hg
      rw [if_neg (by omega)] at hg'
      exact apart b hb (by omega) g hg' hg
    · rw [if_neg h1] at hg
      by_cases h2 : i = b
      · rw [if_pos h2] at hg'
        exact apart a ha (fun h => h1 h.symm) g hg hg'
      · rw [if_neg h2] at hg'
        exact List.pairwise_iff_getElem.1 hd.2 a b ha hb hab g hg hg'
  · rcases hin u hu with rfl | ⟨j, hj, _, rfl⟩
    · rcases hs g hg with h | h
      · exact F.e x (List.mem_cons_self ..) t ht g h hg'
      · exact F.e y (List.mem_cons_of_mem _ hym) t ht g h hg'
    · exact F.e _ (List.mem_cons_of_mem _ (List.getElem_mem hj)) t ht g hg hg'
theorem Fm.setc (F : Fm w0 w os ts) (i : Nat) {b : Nat} {t : TypeId} {cs : List Value} (hi : os[i]? = some (oB b t cs)) (k : Nat) (u : Value) : Fm w0 (w.setCell ⟨b, k, none⟩ u) (os.set i (oB b t (cs.set k u))) ts := by
  have hh := (F.blk i hi).set k u
  exact F.turn (Mod.setCell (ms := [b]) w (by simp) u) i hi (fun g hg => List.mem_singleton.1 hg) _ (keeps_oB _ _ _) hh fun g hg => ⟨.inl hg, by have : g = b := hg; have := hh.lt; omega⟩
theorem fm_store1 (F : Fm w0 w os ts) (i k : Nat) {b : Nat} {t : TypeId} {cs : List Value} (hi : os[i]? = some (oB b t cs)) (hk : k < cs.length) (ty : TypeId) (u : Value) (h1 : u.oneCell' = true) (hs : (Try.prog.info? ty).map (·.size) = some 1) (hgd : o.guard = none) (x y : Operand) (ho : o.op = .store ty x y) (hdst : o.dst = none) (hx : a.eval x = .pointer (some ⟨b, k, none⟩)) (hy : a.eval y = u)
    (h : ∀ v, Fm w0 v (os.set i (oB b t (cs.set k u))) ts → wpList Try.prog ops Q rest a v) : wpList Try.prog ops Q (o :: rest) a w :=
  wpList_store1 hgd ty x y ho hdst ⟨b, k, none⟩ hx u cs[k] hy h1 hs (by rw [(F.blk i hi).cell, List.getElem?_eq_getElem hk]) ((F.blk i hi).free k) (h _ (F.setc i hi k u))
theorem Fm.skip {w0 w v : World} {os ts : List Th} {ns : List Nat} (F : Fm w0 w os ts) (m : Mod ns w v) (h0 : ∀ g ∈ ns, w0.heap.size ≤ g) (hn : ∀ g ∈ ns, ∀ x, x ∈ os ∨ x ∈ ts → ¬ x.1 g) : Fm w0 v os ts :=
  ⟨F.m.trans m (fun i hi h => by have := h0 i h; omega), fun x hx => by obtain ⟨h1, h2, h3⟩ := F.k x hx; exact ⟨h1, h1 _ _ _ m (fun g hg hgm => hn g hgm x hx hg) h2, fun g hg => Nat.lt_of_lt_of_le (h3 g hg) m.size⟩, F.lo, F.d, F.e⟩
theorem Fm.adopt (F : Fm w0 w os ts) (x : Th) (hk : keeps x) (hx : x.2 w) (hlo : ∀ g, x.1 g → w0.heap.size ≤ g ∧ g < w.heap.size) (hd : ∀ y, y ∈ os ∨ y ∈ ts → ∀ g, x.1 g → ¬ y.1 g) : Fm w0 w (x :: os) ts := by
  refine ⟨F.m, fun y hy => ?_, fun y hy g hg => ?_, List.pairwise_cons.2 ⟨fun y hy g hg hy' => hd y (.inl hy) g hg hy', F.d⟩, fun y hy z hz g hg hz' => ?_⟩
  · rcases hy with hy | hy
    · rcases List.mem_cons.1 hy with rfl | hy
      · exact ⟨hk, hx, fun g hg => (hlo g hg).2⟩
      · exact F.k y (.inl hy)
    · exact F.k y (.inr hy)
  · rcases List.mem_cons.1 hy with rfl | hy
    · exact (hlo g hg).1
    · exact F.lo y hy g hg
  · rcases List.mem_cons.1 hy with rfl | hy
    · exact hd z (.inr hz) g hg hz'
    · exact F.e y hy z hz g hg hz'
end
end Go.Proofs.Ytaadmpainikfpaa
