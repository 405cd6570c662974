/-
  My own texts Rk Wa Wb Wc Wd We Wf Wg, one behind the other.
-/
import Derived.Test.YtbacmeaeehhhfaaDoorB4
import Derived.Test.YtbacmeaeehhhfaaDoorB1
import Derived.StillTailTactics
import Derived.RangeFuncNested
import Derived.RangeFuncBound
import Derived.RangeFuncCalls
import Derived.RangeFuncLeaves
import Derived.Shelf.Abstract
import Derived.Shelf.RegionOpen
import Derived.WalkKit
import Derived.WalkMore
import Derived.OwnWalkIn
import Derived.TacticsInMore
import Derived.LoopNIn
import Derived.LoopIn
import Derived.Test.YtbacmeaeehhhfaaDoorKn
namespace Go.Proofs.YtbacmeaeehhhfaaDoor
section
open Go.RowKit Go.Shelf
/-- The slice (A, n, c) is nobody else's and holds these. -/
def OwnG {α : Type} (f : α → List Value) (e : TypeId) (size : Nat) (w : World) (A : Option Addr) (c : Nat) (l : List α) : Prop := w.ownsRow 0 e size (.slice A l.length c) l.length (l.flatMap f)
section
variable {α : Type} {f : α → List Value} {e : TypeId} {size : Nat} {w v : World} {A : Option Addr} {c : Nat} {l : List α}
theorem OwnG.nil (f : α → List Value) (e : TypeId) (size : Nat) (w : World) : OwnG f e size w none 0 [] := World.ownsRow_nil w 0 e size
theorem OwnG.of_holds {g : Nat} (h : Holds w g e (l.flatMap f)) (hf : ∀ x, (f x).length = size) (hl : l.length ≤ maxLen) : OwnG f e size w (some ⟨g, 0, none⟩) l.length l := by
  have hlen := flat_length f size hf l
  refine ⟨hlen, .inr ⟨g, l.length, (l.flatMap f).toArray, rfl, Nat.zero_le _, h, Nat.le_refl _, hl, by simpa using hlen, ?_⟩⟩
  rw [← hlen]
  exact List.take_of_length_le (by simp)
theorem OwnG.fits (h : OwnG f e size w A c l) : l.length ≤ c ∧ c ≤ maxLen := by
  rcases h.2 with ⟨hv, hn⟩ | ⟨g, cap, cur, hv, hb, hg, h1, h2, _⟩
  · injection hv with h1 h2 h3
    subst h3
    exact ⟨by omega, by omega⟩
  · injection hv with h3 h4 h5
    subst h5
    exact ⟨h1, h2⟩
theorem OwnG.lt (h : OwnG f e size w A c l) : ∀ a, A = some a → a.block < w.heap.size := by
  rcases h.2 with ⟨hv, hn⟩ | ⟨g, cap, cur, hv, hb, hg, h1, h2, _⟩
  · injection hv with h1 h2 h3
    subst h1
    simp
  · injection hv with h3 h4 h5
    subst h3
    rintro _ ⟨⟩
    exact (Array.getElem?_eq_some_iff.1 hg).1
theorem OwnG.ne {g : Nat} {t : TypeId} {cs : List Value} (h : OwnG f e size w A c l) (h' : Holds w g t cs) (ht : e ≠ t) : ∀ a, A = some a → a.block ≠ g := by
  rcases h.2 with ⟨hv, hn⟩ | ⟨k, cap, cur, hv, hb, hg, h1, h2, _⟩
  · injection hv with h1 h2 h3
    subst h1
    simp
  · injection hv with h3 h4 h5
    subst h3
    rintro _ ⟨⟩ rfl
    unfold Holds at h'
    rw [hg] at h'
    injection h' with h'
    injection h' with _ hh
    exact ht hh
theorem OwnG.cells (h : OwnG f e size w A c l) : Cells w A (l.flatMap f) := by
  intro i hi
  have hlen := h.1
  rcases h.2 with ⟨hv, hn⟩ | ⟨g, cap, cur, hv, hb, hg, h1, h2, h3, h4⟩
  · rw [hn] at hlen; omega
  · injection hv with e3 e4 e5
    subst e3
    refine ⟨g, 0, rfl, ?_⟩
    rw [Nat.zero_add, cell_of_row w g i cur e (0, 0) hg]
    have : (cur.toList.take (l.length * size))[i]? = some (l.flatMap f)[i] := by rw [h4]; exact List.getElem?_eq_getElem hi
    rw [List.getElem?_take] at this
    split at this
    · simpa using this
    · cases this
theorem OwnG.keep {ms : List Nat} (h : OwnG f e size w A c l) (m : Mod ms w v) (hn : ∀ a, A = some a → a.block ∉ ms) : OwnG f e size v A c l := by
  refine ⟨h.1, ?_⟩
  rcases h.2 with h0 | ⟨g, cap, cur, hv, hb, hg, rest⟩
  · exact .inl h0
  · refine .inr ⟨g, cap, cur, hv, hb, ?_, rest⟩
    injection hv with h3 h4 h5
    subst h3
    rw [m.block g (Array.getElem?_eq_some_iff.1 hg).1 (hn _ rfl)]
    exact hg
end

theorem run_append_noneG {α : Type} {f : α → List Value} {size : Nat} {P : Program} (w : World) (t ty e : TypeId) (i : TypeInfo) (ht : P.underlying t = some (.slice e)) (hi : P.info? e = some i) {A : Option Addr} {c : Nat} {l : List α} (h : OwnG f e size w A c l) (c' : Nat) :
    (Builtin.append_ #[t, t] ty #[.slice A l.length c, .slice none 0 c']).run P w = .ok (.slice A l.length c) w := by
  have hfit := h.fits.1
  rcases A with _ | a
  · have : l.length = 0 ∧ c = 0 := by
      rcases h.2 with ⟨hv, hn⟩ | ⟨g, cap, cur, hv, _⟩
      · injection hv with h1 h2 h3
        exact ⟨hn, h3⟩
      · injection hv with h1; cases h1
    obtain ⟨h0, rfl⟩ := this
    rw [h0]
    simp [Builtin.append_, run_underlying ht, sizeOf, typeInfo, hi, Builtin.lenOf, Builtin.firstCells]
  · simp [Builtin.append_, run_underlying ht, sizeOf, typeInfo, hi, Builtin.lenOf, Builtin.firstCells, hfit, storeCells]

/-- append(s, x...), s the call's own, x whatever, in a walk. -/
theorem wpList_appendG {α : Type} {f : α → List Value} {size : Nat} {P : Program} (w : World) {ops : Array Oper} {rest : List Oper} {o : Oper} {a : Act} {Q : Exit → Act → World → Prop} (hgd : o.guard = none) (s x : Operand) (t : TypeId)
    (ho : o.op = .call { callee := .builtin .append, args := #[s, x], argTypes := #[t, t] })
    (e : TypeId) (i : TypeInfo) (z : Value) (bytes : Nat) (ht : P.underlying t = some (.slice e)) (hi : P.info? e = some i) (hz : i.zero = some z) (hsize : i.size = size) (hby : i.bytes = bytes) (hzs : z.cells.size = size) (hs0 : 0 < size)
    (hf : ∀ x, (f x).length = size) (h1 : ∀ x, ∀ v ∈ f x, v.oneCell' = true)
    (A : Option Addr) (n c : Nat) (l : List α) (hs : a.eval s = .slice A n c) (hn : n = l.length) (hown : OwnG f e size w A c l)
    (X : Option Addr) (m d : Nat) (k : List α) (hx : a.eval x = .slice X m d) (hm : m = k.length) (hr : Cells w X (k.flatMap f))
    (h63 : (l.length + k.length) * bytes ≤ 140737488355328) (h64 : l.length + k.length ≤ maxLen)
    (h : ∀ A' c' v, OwnG f e size v A' c' (l ++ k) → Mod (blk A) w v → (∀ a, A' = some a → a.block ∈ blk A ∨ w.heap.size ≤ a.block) → wpList P ops Q rest (a.put o.dst (.slice A' (l ++ k).length c')) v) :
    wpList P ops Q (o :: rest) a w := by
  subst hn hm
  have hkl := flat_length f size hf k
  rcases X with _ | ad
  · have hk : k = [] := by
      rcases k with _ | ⟨x, k⟩
      · rfl
      · obtain ⟨g, o, hh, _⟩ := hr 0 (by rw [hkl]; simp; omega)
        cases hh
    subst hk
    have hrun := run_append_noneG (P := P) w t o.type e i ht hi hown d
    simp only [List.length_nil] at hx
    refine wpList_plain hgd fun K hK => ?_
    have := h A c w (by simpa using hown) (Mod.refl _ _) (fun b hb => .inl (by subst hb; simp [blk]))
    unfold Oper.wp execOp
    simp only [ho, resolve, invoke, builtin, Sem.run_bind, Sem.run_pure, Result.andThen_ok, List.map_toArray, List.map_cons, List.map_nil, hs, hx, hrun]
    exact hK _ _ (by simpa using this)
  · have hcells : ∀ j u, (k.flatMap f)[j]? = some u → w.cell? (ad.add j) = some u := by
      intro j u hu
      rcases Nat.eq_zero_or_pos (k.flatMap f).length with h0 | h0
      · rw [List.eq_nil_of_length_eq_zero h0] at hu
        simp at hu
      · obtain ⟨ad', e', hh⟩ := hr.first h0
        injection e' with e'
        subst e'
        exact hh j u hu
    have hone : ∀ u ∈ k.flatMap f, u.oneCell' = true := fun u hu => by
      obtain ⟨x, _, hx⟩ := List.mem_flatMap.1 hu
      exact h1 x u hx
    obtain ⟨v', w', hrun, hown', hgr, _, hbl⟩ := run_append_own_at (P := P) w 0 t o.type e i z size bytes ht hi hz hsize hby hzs hs0 _ _ _ hown ad k.length d (k.flatMap f) hkl hcells hone h64 h63 (Nat.zero_le _)
    have hv : ∃ A' c', v' = .slice A' (l ++ k).length c' := by
      rcases hown'.2 with ⟨hv, hn⟩ | ⟨g, cap, cur, hv, _⟩
      · exact ⟨none, 0, by rw [hv, List.length_append, hn]⟩
      · exact ⟨_, _, by rw [hv, List.length_append]⟩
    obtain ⟨A', c', rfl⟩ := hv
    have hO : OwnG f e size w' A' c' (l ++ k) := by
      have := hown'
      rw [← List.length_append, ← List.flatMap_append] at this
      exact this
    have hob : ∀ (A : Option Addr) n c, (Value.slice A n c).ownBlock = A.map (·.block) := by intro A n c; cases A <;> rfl
    rw [hob] at hgr
    rw [hob, hob] at hbl
    refine wpList_plain hgd fun K hK => ?_
    unfold Oper.wp execOp
    simp only [ho, resolve, invoke, builtin, Sem.run_bind, Sem.run_pure, Result.andThen_ok, List.map_toArray, List.map_cons, List.map_nil, hs, hx, hrun]
    refine hK _ _ (h A' c' w' hO ⟨hgr.os, hgr.tape, hgr.output, hgr.size, fun j hj hn => hgr.block j hj ?_⟩ ?_)
    · intro hh
      exact hn (by unfold blk; rw [← hh]; simp)
    · intro b hb
      subst hb
      rcases hbl with hh | hh
      · left; unfold blk; rw [← hh]; simp
      · right
        simp at hh
        omega

theorem fill_step {place : Nat → Option (Nat × Nat)} {i off size : Nat} {v : Value} {rest : List (Nat × Value)} {cells : Array Value} (hp : place i = some (off, size)) (hs : v.cells.size = size) (hl : off + v.cells.size ≤ cells.size) :
    Instr.fill place cells ((i, v) :: rest) = Instr.fill place (v.cells.zipIdx.foldl (fun cs (c, j) => cs.setIfInBounds (off + j) c) cells) rest := by
  rw [Instr.fill]
  simp only [hp]
  rw [if_neg (by simp [hs]; omega)]
theorem run_lit1 {P : Program} {t e : TypeId} {it : TypeInfo} {Z V : Value} {cs : List Value} {s : Nat} (w : World) (ht : P.underlying t = some (.slice e)) (hq : P.info? e = some it) (hs : it.size = s) (h0 : 0 < s) (hb : s ≤ 2 ^ 24) (hz : ∀ w, (zeroValue e).run P w = .ok Z w) (hV : V.cells = cs.toArray) (hcs : cs.length = s) :
    (Instr.buildSlice t 1 #[(0, V)]).run P w = .ok (.slice (some ⟨w.heap.size, 0, none⟩) 1 1) (w.alloc (.cells cs.toArray e)) := by
  have hf : ∀ z : Array Value, z.size = s → Instr.fill (fun i => some (i * s, s)) z [(0, V)] = some cs.toArray := by
    rintro ⟨z⟩ hz
    have hz' : z.length = s := by simpa using hz
    rw [fill_step (off := 0) (size := s) (by simp) (by rw [hV]; simpa using hcs) (by rw [hV]; simp; omega), hV]
    have := fold_set cs 0 z (by omega)
    rw [show (cs.toArray.zipIdx.foldl (fun cs (x : Value × Nat) => match x with | (c, j) => cs.setIfInBounds (0 + j) c) z.toArray) = _ from this]
    have e : List.drop (0 + cs.length) z = [] := List.drop_eq_nil_of_le (by omega)
    rw [e]
    simp [Instr.fill]
  have hf2 := hf ((Array.range (1 * s)).map (Z.cells[· % Z.cells.size]!)) (by simp)
  unfold Instr.buildSlice
  simp only [Sem.run_bind, run_underlying ht, sizeOf, typeInfo, run_program, hq, Result.andThen, Sem.run_pure, hs]
  rw [if_neg (by omega), if_neg (by omega)]
  simp only [Sem.run_bind, hz, Result.andThen, Sem.run_pure, hf2]
  simp [newRow, go_sem]
/-- A slice literal of one element. -/
theorem wpList_lits {P : Program} {w : World} {ops : Array Oper} {rest : List Oper} {o : Oper} {a : Act} {Q : Exit → Act → World → Prop} (hgd : o.guard = none) (t e : TypeId) (n : Nat) (parts : Array (Nat × Operand)) (ho : o.op = .buildSlice t n parts) (cs : List Value)
    (hrun : (Instr.buildSlice t n (parts.map fun (i, x) => (i, a.eval x))).run P w = .ok (.slice (some ⟨w.heap.size, 0, none⟩) n n) (w.alloc (.cells cs.toArray e)))
    (h : ∀ v, Holds v w.heap.size e cs → Mod [] w v → v.heap.size = w.heap.size + 1 → wpList P ops Q rest (a.put o.dst (.slice (some ⟨w.heap.size, 0, none⟩) n n)) v) : wpList P ops Q (o :: rest) a w := by
  refine wpList_plain hgd fun K hK => ?_
  unfold Oper.wp execOp
  simp only [ho, Sem.run_bind, hrun, Result.andThen]
  exact hK _ _ (h _ (Holds.made w e cs) (Mod.alloc [] w _) (by simp))
section laws
variable {P : Program} {w : World} {ops : Array Oper} {rest : List Oper} {o : Oper} {a : Act} {Q : Exit → Act → World → Prop}
/-- An operation that yields a value, if it is wanted. -/
theorem wpList_ranW (hw : Region.wanted o (yielded ops a.tmps) = true) (V : Value) (v : World) (hrun : (execOp a.eval o).run P w = .ok (.value V) v) (h : wpList P ops Q rest (a.put o.dst V) v) : wpList P ops Q (o :: rest) a w := by
  refine wpList_step fun K hK => ?_
  rw [if_pos hw]
  unfold Oper.wp
  rw [hrun]
  exact hK _ _ h
end laws
/-- append, run. -/
theorem wpList_appended {P : Program} {w : World} {ops : Array Oper} {rest : List Oper} {o : Oper} {a : Act} {Q : Exit → Act → World → Prop} (V : Value) (v : World) {U X : Value} (hgd : o.guard = none) (s x : Operand) (t : TypeId) (ho : o.op = .call { callee := .builtin .append, args := #[s, x], argTypes := #[t, t] }) (hs : a.eval s = U) (hx : a.eval x = X)
    (hrun : (Builtin.append_ #[t, t] o.type #[U, X]).run P w = .ok V v) (h : wpList P ops Q rest (a.put o.dst V) v) : wpList P ops Q (o :: rest) a w :=
  wpList_ranW (by unfold Region.wanted; rw [hgd]) V v (exec_append ho hs hx hrun) h
section laws
variable {P : Program} {w : World} {ops : Array Oper} {rest : List Oper} {o : Oper} {a : Act} {Q : Exit → Act → World → Prop} {F : Fence} {n : Nat}
/-- A value of many cells is loaded, within a fence. -/
theorem wpListIn_loads (hgd : o.guard = none) (ty : TypeId) (x : Operand) (ho : o.op = .load ty x) (g f : Nat) (cs : List Value) (hx : a.eval x = .pointer (some ⟨g, f, none⟩)) (hc : Cells w (some ⟨g, f, none⟩) cs)
    (d : TypeDesc) (hu : P.underlying ty = some d) (hd : (match d with | .struct _ | .array _ _ => true | _ => false) = true) (hi : (P.info? ty).map (·.size) = some cs.length)
    (V : Value) (hV : V = .agg cs.toArray)
    (h : wpListIn F n P ops Q rest (a.put o.dst V) w) : wpListIn F n P ops Q (o :: rest) a w := by
  subst hV
  refine wpListIn_plain hgd fun K hK => ?_
  unfold Oper.wpIn
  refine ⟨by simp [Oper.about, ho], ?_⟩
  rw [Oper.semAt_plain F _ _ (by rw [ho]; intro c hc'; cases hc')]
  unfold execOp
  simp only [ho, hx, Instr.loadAt, Instr.sureAddr, Sem.run_bind, Sem.run_pure, Result.andThen_ok, run_loads hc hu hd hi]
  exact hK _ _ h
theorem wpListIn_storesAll (hgd : o.guard = none) (ty : TypeId) (x y : Operand) (ho : o.op = .store ty x y) (hdst : o.dst = none) (g : Nat) (cs : List Value) (hx : a.eval x = .pointer (some ⟨g, 0, none⟩)) (V : Value) (hy : a.eval y = V) (hV : V = .agg cs.toArray)
    (t : TypeId) (old : List Value) (hh : Holds w g t old) (hf : cs.length = old.length) (h1 : ∀ v ∈ cs, v.oneCell' = true) (hi : (P.info? ty).map (·.size) = some cs.length)
    (h : ∀ v, Holds v g t cs → Mod [g] w v → v.heap.size = w.heap.size → wpListIn F n P ops Q rest a v) : wpListIn F n P ops Q (o :: rest) a w := by
  subst hV
  obtain ⟨v, hrun, h2, h3, h4⟩ := run_stores (P := P) (ty := ty) (f := 0) hh (by omega) h1 hi
  refine wpListIn_plain hgd fun K hK => ?_
  unfold Oper.wpIn
  refine ⟨by simp [Oper.about, ho], ?_⟩
  rw [Oper.semAt_plain F _ _ (by rw [ho]; intro c hc'; cases hc')]
  unfold execOp
  simp only [ho, hx, hy, Instr.storeAt, Instr.sureAddr, Sem.run_bind, Sem.run_pure, Result.andThen_ok, hrun]
  refine hK _ _ ?_
  show wpListIn F n P ops Q rest (a.put o.dst undef) _
  rw [hdst]
  exact h v (by simpa [hf] using h2) h3 h4
theorem wpListIn_allocs (hgd : o.guard = none) (ty : TypeId) (ho : o.op = .alloc ty) (cs : List Value) (hz : ∀ w, (zeroValue ty).run P w = .ok (.agg cs.toArray) w)
    (h : ∀ v, Holds v w.heap.size ty cs → Mod [] w v → v.heap.size = w.heap.size + 1 → wpListIn F n P ops Q rest (a.put o.dst (.pointer (some ⟨w.heap.size, 0, none⟩))) v) : wpListIn F n P ops Q (o :: rest) a w := by
  refine wpListIn_plain hgd fun K hK => ?_
  have hrun : (Instr.alloc ty true (.tuple #[])).run P w = .ok (.pointer (some ⟨w.heap.size, 0, none⟩)) (w.alloc (.cells cs.toArray ty)) := by
    simp [Instr.alloc, hz, newVar, newRow, Value.cells, go_sem]
  unfold Oper.wpIn
  refine ⟨by simp [Oper.about, ho], ?_⟩
  rw [Oper.semAt_plain F _ _ (by rw [ho]; intro c hc'; cases hc')]
  unfold execOp
  simp only [ho, Sem.run_bind, hrun, Result.andThen]
  exact hK _ _ (h _ (Holds.made w ty cs) (Mod.alloc [] w _) (by simp))
end laws
theorem zip_one (p : Tmp) (v : Value) (T : Array Value) : ((#[p] : Array Tmp).zip #[v]).foldl (fun t (p, v) => t.setIfInBounds p v) T = T.setIfInBounds p v := by simp
theorem holds_own {W W' : World} {g : Nat} {t : TypeId} {cs : List Value} {row : Option Nat} (h : Holds W g t cs) (hg : W.grownBy W' row) (hr : ∀ r, row = some r → ∃ o : Obj, W.heap[r]? = some o ∧ o.isCells = false) : Holds W' g t cs :=
  (hg.block g h.lt (fun e => by obtain ⟨o, ho, hc⟩ := hr g e.symm; unfold Holds at h; rw [h] at ho; cases ho; cases hc)).trans h
theorem mod_own {w W W' : World} {row : Option Nat} (h : Mod [] w W) (hg : W.grownBy W' row) (hr : ∀ r, row = some r → w.heap.size ≤ r) : Mod [] w W' :=
  ⟨hg.os.trans h.os, hg.tape.trans h.tape, hg.output.trans h.output, Nat.le_trans h.size hg.size, fun k hk hn => (hg.block k (Nat.lt_of_lt_of_le hk h.size) (fun e => by have := hr k e.symm; omega)).trans (h.block k hk hn)⟩
theorem Mod.keepsFrom {W W' : World} (h : Mod [] W W') (B : Nat) : KeepsFrom B W W' := ⟨h.size, fun k o _ hk _ => (h.block k (Array.getElem?_eq_some_iff.1 hk).1 (by simp)).trans hk⟩
theorem Mod.keepsFrom1 {W W' : World} {g : Nat} {t : TypeId} {cs : List Value} (h : Mod [g] W W') (hh : Holds W g t cs) (B : Nat) : KeepsFrom B W W' := ⟨h.size, fun k o _ hk hc => (h.block k (Array.getElem?_eq_some_iff.1 hk).1 (by
  simp only [List.mem_singleton]
  rintro rfl
  unfold Holds at hh
  rw [hh] at hk
  cases hk
  cases hc)).trans hk⟩
/-- An operation that is run, within a fence. -/
theorem wpListIn_ranW {F : Fence} {n : Nat} {P : Program} {w : World} {ops : Array Oper} {rest : List Oper} {o : Oper} {a : Act} {Q : Exit → Act → World → Prop} (hF : ∀ f, F.fn f) (hgd : o.guard = none) (hd : ∀ c, o.op ≠ .defer c) (V : Value) (v : World) (hrun : (execOp a.eval o).run P w = .ok (.value V) v)
    (h : wpListIn F n P ops Q rest (a.put o.dst V) v) : wpListIn F n P ops Q (o :: rest) a w := by
  refine wpListIn_plain hgd fun K hK => ?_
  refine ⟨fun f _ => hF f, ?_⟩
  rw [Oper.semAt_plain F _ _ hd, hrun]
  exact hK _ _ h
/-- append of elements, within a fence. -/
theorem wpListIn_appendG {α : Type} {F : Fence} {n0 : Nat} (hF : ∀ f, F.fn f) {f : α → List Value} {size : Nat} {P : Program} (w : World) {ops : Array Oper} {rest : List Oper} {o : Oper} {a : Act} {Q : Exit → Act → World → Prop} (hgd : o.guard = none) (s x : Operand) (t : TypeId)
    (ho : o.op = .call { callee := .builtin .append, args := #[s, x], argTypes := #[t, t] })
    (e : TypeId) (i : TypeInfo) (z : Value) (bytes : Nat) (ht : P.underlying t = some (.slice e)) (hi : P.info? e = some i) (hz : i.zero = some z) (hsize : i.size = size) (hby : i.bytes = bytes) (hzs : z.cells.size = size) (hs0 : 0 < size)
    (hf : ∀ x, (f x).length = size) (h1 : ∀ x, ∀ v ∈ f x, v.oneCell' = true)
    (A : Option Addr) (n c : Nat) (l : List α) (hs : a.eval s = .slice A n c) (hn : n = l.length) (hown : OwnG f e size w A c l)
    (X : Option Addr) (m d : Nat) (k : List α) (hx : a.eval x = .slice X m d) (hm : m = k.length) (hr : Cells w X (k.flatMap f))
    (h63 : (l.length + k.length) * bytes ≤ 140737488355328) (h64 : l.length + k.length ≤ maxLen)
    (h : ∀ A' c' v, OwnG f e size v A' c' (l ++ k) → Mod (blk A) w v → (∀ a, A' = some a → a.block ∈ blk A ∨ w.heap.size ≤ a.block) → wpListIn F n0 P ops Q rest (a.put o.dst (.slice A' (l ++ k).length c')) v) :
    wpListIn F n0 P ops Q (o :: rest) a w := by
  subst hn hm
  have hkl := flat_length f size hf k
  rcases X with _ | ad
  · have hk : k = [] := by
      rcases k with _ | ⟨x, k⟩
      · rfl
      · obtain ⟨g, o, hh, _⟩ := hr 0 (by rw [hkl]; simp; omega)
        cases hh
    subst hk
    have hrun := run_append_noneG (P := P) w t o.type e i ht hi hown d
    simp only [List.length_nil] at hx
    refine wpListIn_plain hgd fun K hK => ?_
    have := h A c w (by simpa using hown) (Mod.refl _ _) (fun b hb => .inl (by subst hb; simp [blk]))
    refine ⟨fun f _ => hF f, ?_⟩
    rw [Oper.semAt_plain F _ _ (by rw [ho]; intro c hc; cases hc)]
    unfold execOp
    simp only [ho, resolve, invoke, builtin, Sem.run_bind, Sem.run_pure, Result.andThen_ok, List.map_toArray, List.map_cons, List.map_nil, hs, hx, hrun]
    exact hK _ _ (by simpa using this)
  · have hcells : ∀ j u, (k.flatMap f)[j]? = some u → w.cell? (ad.add j) = some u := by
      intro j u hu
      rcases Nat.eq_zero_or_pos (k.flatMap f).length with h0 | h0
      · rw [List.eq_nil_of_length_eq_zero h0] at hu
        simp at hu
      · obtain ⟨ad', e', hh⟩ := hr.first h0
        injection e' with e'
        subst e'
        exact hh j u hu
    have hone : ∀ u ∈ k.flatMap f, u.oneCell' = true := fun u hu => by
      obtain ⟨x, _, hx⟩ := List.mem_flatMap.1 hu
      exact h1 x u hx
    obtain ⟨v', w', hrun, hown', hgr, _, hbl⟩ := run_append_own_at (P := P) w 0 t o.type e i z size bytes ht hi hz hsize hby hzs hs0 _ _ _ hown ad k.length d (k.flatMap f) hkl hcells hone h64 h63 (Nat.zero_le _)
    have hv : ∃ A' c', v' = .slice A' (l ++ k).length c' := by
      rcases hown'.2 with ⟨hv, hn⟩ | ⟨g, cap, cur, hv, _⟩
      · exact ⟨none, 0, by rw [hv, List.length_append, hn]⟩
      · exact ⟨_, _, by rw [hv, List.length_append]⟩
    obtain ⟨A', c', rfl⟩ := hv
    have hO : OwnG f e size w' A' c' (l ++ k) := by
      have := hown'
      rw [← List.length_append, ← List.flatMap_append] at this
      exact this
    have hob : ∀ (A : Option Addr) n c, (Value.slice A n c).ownBlock = A.map (·.block) := by intro A n c; cases A <;> rfl
    rw [hob] at hgr
    rw [hob, hob] at hbl
    refine wpListIn_plain hgd fun K hK => ?_
    refine ⟨fun f _ => hF f, ?_⟩
    rw [Oper.semAt_plain F _ _ (by rw [ho]; intro c hc; cases hc)]
    unfold execOp
    simp only [ho, resolve, invoke, builtin, Sem.run_bind, Sem.run_pure, Result.andThen_ok, List.map_toArray, List.map_cons, List.map_nil, hs, hx, hrun]
    refine hK _ _ (h A' c' w' hO ⟨hgr.os, hgr.tape, hgr.output, hgr.size, fun j hj hn => hgr.block j hj ?_⟩ ?_)
    · intro hh
      exact hn (by unfold blk; rw [← hh]; simp)
    · intro b hb
      subst hb
      rcases hbl with hh | hh
      · left; unfold blk; rw [← hh]; simp
      · right
        simp at hh
        omega
/-- What an iterator does that tells Fx of each thing it hands over, in the world in which it does. -/
def SeqWith {α : Type} (F : Fence) (n : Nat) (P : Program) (g : Nat) (lb : Array Value) (encs : α → Array Value) (Fx : List α → α → World → Prop) (Kp : World → World → Prop) (S Sp : List α → Prop) (N : Nat) (w : World) : Prop :=
  ∀ (l : Nat) (J Jx : List α → World → Prop) (W : World), Below w.heap.size w W → AbidesFrom W.heap.size J → AbidesFrom W.heap.size Jx →
    (∀ pre x V, Fx pre x V → J pre V → pre.length < N → YieldAt F (n - 1) P l (encs x) V fun r V' => (r = .returned (.bool true) ∧ J (pre ++ [x]) V' ∧ Kp V V') ∨ (r = .returned (.bool false) ∧ Jx (pre ++ [x]) V')) →
    J [] W → CallsIn F n P g (#[.func (.yield l) #[] #[]] ++ lb) W fun r V => (∃ v, r = .returned v) ∧ ((∃ xs, S xs ∧ J xs V) ∨ (∃ pre, Sp pre ∧ Jx pre V))
section
variable {F : Fence} {n : Nat} {P : Program} {w : World}
theorem wpIn_rangeFunc_with {α : Type} {g : Operand} {ps : Array Tmp} {assign body : Code} {Q : Exit → Act → World → Prop} {a : Act}
    (hro : F.round = none) (h1 : 1 ≤ n) {gf : Nat} {lb : Array Value} (hg : a.eval g = .func (.func gf) #[] lb) (hFg : F.fn gf) (eg : ∀ args w, (callFunc gf args).run P w = .ok (.enter gf args) w)
    {encs : α → Array Value} {Fx : List α → α → World → Prop} {Kp : World → World → Prop} {S Sp : List α → Prop} {N : Nat} {w0 : World} (hseq : SeqWith F (n - 1) P gf lb encs Fx Kp S Sp N w0)
    (hKt : ∀ {A B C : World}, Kp A B → Kp B C → Kp A C) (hKb : ∀ (W : World) (l : Nat) (o o' : Obj), w.heap.size ≤ l → W.heap[l]? = some o → o.isCells = false → o.isWalk = false → Kp W (W.putObj l o')) (hb0 : Below w0.heap.size w0 w) (hps : ∀ x, (encs x).size = ps.size)
    (I : List α → World → Prop) (Ix : Code → List α → World → Prop) (hI : OwnFrom w.heap.size I) (hIx : ∀ c, OwnFrom w.heap.size (Ix c)) (h0 : I [] w) (Ax : List α → α → Act → World → Prop) (hAx : ∀ pre x a', OwnFrom w.heap.size (fun (_ : Unit) W => Ax pre x a' W))
    (hassign : ∀ (l : Nat) (pre : List α) (x : α) (W : World) (K : Act → World → Prop), I pre W → Fx pre x W → (∀ a' W', KeepsFrom w.heap.size W W' → Kp W W' → I pre W' → Ax pre x a' W' → K a' W') →
      assign.wpIn (F.inRound l) (n - 1 - 1) P (Exit.then K (fun _ _ _ => False)) { tmps := (ps.zip (encs x)).foldl (fun t (p, v) => t.setIfInBounds p v) a.tmps, defers := [] } W)
    (hbody : ∀ (l : Nat) (pre : List α) (x : α) (a' : Act) (W : World), w.heap.size ≤ l → (∃ r, W.heap[l]? = some (.loop r)) → I pre W → Ax pre x a' W → pre.length < N → body.wpIn (F.inRound l) (n - 1 - 1) P (ownPostG w.heap.size Kp I Ix (pre ++ [x]) W) a' W)
    (hdone : ∀ (D : Nat) (xs : List α) (W : World), w.heap.size ≤ D → S xs → I xs W → W.heap[D]? = some (.deferred (some [])) → Q .normal { a with defers := { target := .collected D, args := #[] } :: a.defers } W)
    (hstop : ∀ (D : Nat) (c : Code) (pre : List α) (W : World), w.heap.size ≤ D → Sp pre → Ix c pre W → W.heap[D]? = some (.deferred (some [])) → c.wpIn F n P Q { a with defers := { target := .collected D, args := #[] } :: a.defers } W) :
    (Code.rangeFunc g ps assign body).wpIn F n P Q a w := by
  refine wpIn_rangeFunc fun fn hfn => ?_
  rw [hro]
  -- the two blocks of the range: D for what its rounds would defer, and behind it the range's own record
  generalize hD : w.heap.size = D at *
  let R : LoopState → Option Code → Loop := fun st pe => { state := st, pending := pe, fn, tmps := a.tmps, params := ps, assign, body, defers := D }
  have hR : ∀ st pe, R st pe = { state := st, pending := pe, fn, tmps := a.tmps, params := ps, assign, body, defers := D } := fun _ _ => rfl
  clear_value R
  generalize hV : (w.alloc (.deferred (some []))).alloc (.loop (R .ready none)) = V
  have rec0 : V.heap[D + 1]? = some (.loop (R .ready none)) := by
    rw [← hV, ← hD]
    have := World.alloc_heap_new (w.alloc (.deferred (some []))) (.loop (R .ready none))
    rwa [World.size_alloc] at this
  have def0 : V.heap[D]? = some (.deferred (some [])) := by
    rw [← hV, ← hD]
    exact (Below.heap_alloc _ _ _ (by simp)).trans (World.alloc_heap_new w _)
  have hVs : D + 2 ≤ V.heap.size := by rw [← hV, ← hD]; simp
  have inv0 : I [] V := by rw [← hV]; exact hI.alloc _ (hI.alloc _ h0)
  have bel0 : Below w0.heap.size w0 V := by
    rw [← hV]
    exact hb0.trans ((((Below.refl _ w).alloc (Nat.le_refl _) _).alloc (by simp) _).mono hb0.size)
  refine ⟨D + 1, [{ target := .collected D, args := #[] }], V, { target := .fn (.func gf) lb, args := #[.func (.yield (D + 1)) #[] #[]] }, V, gf, #[.func (.yield (D + 1)) #[] #[]] ++ lb, V, ?_, ?_, ?_, ?_, fun _ => h1, ?_⟩
  · rw [← hV, ← hD, hR, ← hD]
    exact run_enterLoop_outer _ _ _ _ _
  · simp only [resolve, hg]
    simp [go_sem]
  · intro f' hf'
    simp [Target.leads] at hf'
    subst hf'
    exact hFg
  · simp [invoke, go_sem, eg]
  have cells : ∀ {A B : World} {row : Option Nat}, (∀ r, row = some r → V.heap.size ≤ r ∧ ∃ o : Obj, A.heap[r]? = some o ∧ o.isWalk = true) → (∀ r, row = some r → D ≤ r ∧ ∃ o : Obj, A.heap[r]? = some o ∧ o.isCells = false) :=
    fun hr r e => by
      obtain ⟨q1, o, q2, q3⟩ := hr r e
      exact ⟨by omega, o, q2, Obj.not_cells_of_walk q3⟩
  have stay : ∀ {A B : World} {row : Option Nat} {k : Nat} {o : Obj}, A.grownBy B row → (∀ r, row = some r → V.heap.size ≤ r ∧ ∃ o : Obj, A.heap[r]? = some o ∧ o.isWalk = true) → A.heap[k]? = some o → o.isWalk = false → B.heap[k]? = some o :=
    fun hgr hr hk ho => (grownBy_keeps hgr (fun r e => (hr r e).2) hk ho).trans hk
  refine (hseq (D + 1) (fun pre W => I pre W ∧ W.heap[D + 1]? = some (.loop (R .ready none)) ∧ W.heap[D]? = some (.deferred (some [])))
    (fun pre W => ∃ c, Ix c pre W ∧ W.heap[D + 1]? = some (.loop (R .done (some c))) ∧ W.heap[D]? = some (.deferred (some []))) V bel0
    (fun s A B row hs hgr hr => ⟨hI s A B row hs.1 hgr (cells (B := B) hr), stay hgr hr hs.2.1 rfl, stay hgr hr hs.2.2 rfl⟩)
    (fun s A B row hs hgr hr => by obtain ⟨c, q1, q2, q3⟩ := hs; exact ⟨c, hIx c s A B row q1 hgr (cells (B := B) hr), stay hgr hr q2 rfl, stay hgr hr q3 rfl⟩)
    ?round ⟨inv0, rec0, def0⟩).mono ?behind
  case behind =>
    rintro r W2 ⟨⟨v, rfl⟩, (⟨xs, q1, q2, q3, q4⟩ | ⟨pre, q1, c, q2, q3, q4⟩)⟩
    · have hend := run_endLoop (P := P) q3 (by rw [hR]; simp)
      rw [hR] at hend
      exact ⟨none, _, hend, hdone D xs _ (Nat.le_refl _) q1 (hI.putObj _ q2 (by omega) q3 rfl) ((World.putObj_heap_other (by omega)).trans q4)⟩
    · have hend := run_endLoop (P := P) q3 (by rw [hR]; simp)
      rw [hR] at hend
      exact ⟨some c, _, hend, hstop D c pre _ (Nat.le_refl _) q1 ((hIx c).putObj _ q2 (by omega) q3 rfl) ((World.putObj_heap_other (by omega)).trans q4)⟩
  case round =>
    rintro pre x W hf ⟨q1, q2, q3⟩ hlen
    have hy := run_yield (P := P) (args := encs x) q2 (by rw [hR]; exact hps x)
    rw [hR] at hy
    refine ⟨fn, _, assign, body, hy, roundIn_of_wpIn hfn (hassign _ pre x W _ q1 hf ?_)⟩
    intro a' W' k1 k2 k3 k4
    have r2 := k1.same _ _ (by omega) q2 rfl
    have r3 := k1.same _ _ (Nat.le_refl _) q3 rfl
    have hlt := (Array.getElem?_eq_some_iff.1 r2).1
    refine ⟨_, run_beginRound r2 (by rw [hR]), ?_⟩
    have b2 : (W'.putObj (D + 1) (.loop { R .ready none with state := .busy })).heap[D + 1]? = some (.loop { R .ready none with state := .busy }) := World.putObj_heap_same hlt
    have b3 : (W'.putObj (D + 1) (.loop { R .ready none with state := .busy })).heap[D]? = some (.deferred (some [])) := (World.putObj_heap_other (by omega)).trans r3
    have bk : Kp W' (W'.putObj (D + 1) (.loop { R .ready none with state := .busy })) := hKb _ _ _ _ (by omega) r2 rfl rfl
    refine wpIn_mono (hbody _ pre x a' _ (by omega) ⟨_, b2⟩ (hI.putObj _ k3 (by omega) r2 rfl) ((hAx pre x a').putObj (s := ()) _ k4 (by omega) r2 rfl) hlen) ?_
    have ends : ∀ (j : Option Code) (W3 : World), KeepsFrom D (W'.putObj (D + 1) (.loop { R .ready none with state := .busy })) W3 →
        (Instr.endRound (D + 1) j).run P W3 = .ok (.bool j.isNone) (W3.putObj (D + 1) (.loop (R (if j.isNone then .ready else .done) j))) ∧ W3.heap[D + 1]? = some (.loop { R .ready none with state := .busy }) ∧
        (W3.putObj (D + 1) (.loop (R (if j.isNone then .ready else .done) j))).heap[D + 1]? = some (.loop (R (if j.isNone then .ready else .done) j)) ∧ (W3.putObj (D + 1) (.loop (R (if j.isNone then .ready else .done) j))).heap[D]? = some (.deferred (some [])) := fun j W3 hk3 => by
      have e2 := hk3.same _ _ (by omega) b2 rfl
      have er := run_endRound (P := P) j e2
      refine ⟨?_, e2, World.putObj_heap_same (Array.getElem?_eq_some_iff.1 e2).1, (World.putObj_heap_other (by omega)).trans (hk3.same _ _ (Nat.le_refl _) b3 rfl)⟩
      rw [hR] at er ⊢
      exact er
    rintro e a3 W3 hp
    cases e with
    | normal =>
      obtain ⟨p1, p2, p3⟩ := hp
      obtain ⟨s1, s2, s3, s4⟩ := ends none W3 p1
      exact ⟨_, _, s1, .inl ⟨rfl, ⟨hI.putObj _ p3 (by omega) s2 rfl, s3, s4⟩, hKt k2 (hKt (hKt bk p2) (hKb _ _ _ _ (by omega) s2 rfl rfl))⟩⟩
    | ret =>
      obtain ⟨s1, s2, s3, s4⟩ := ends (some .ret) W3 hp.1
      exact ⟨_, _, s1, .inr ⟨rfl, .ret, (hIx _).putObj _ hp.2 (by omega) s2 rfl, s3, s4⟩⟩
    | exit id =>
      obtain ⟨s1, s2, s3, s4⟩ := ends (some (.exit id)) W3 hp.1
      exact ⟨_, _, s1, .inr ⟨rfl, .exit id, (hIx _).putObj _ hp.2 (by omega) s2 rfl, s3, s4⟩⟩
    | goto t =>
      obtain ⟨s1, s2, s3, s4⟩ := ends (some (.goto t)) W3 hp.1
      exact ⟨_, _, s1, .inr ⟨rfl, .goto t, (hIx _).putObj _ hp.2 (by omega) s2 rfl, s3, s4⟩⟩
    | panic ch => exact hp.elim
    | outgrown => exact hp.elim
end
/-- What a round keeps: all cells but those of a few blocks. -/
structure KeepC (ms : List Nat) (W W' : World) : Prop where
  size : W.heap.size ≤ W'.heap.size
  same : ∀ k o, k ∉ ms → W.heap[k]? = some o → o.isCells = true → W'.heap[k]? = some o
theorem KeepC.refl (ms : List Nat) (W : World) : KeepC ms W W := ⟨Nat.le_refl _, fun _ _ _ h _ => h⟩
theorem KeepC.trans {ms : List Nat} {A B C : World} (h : KeepC ms A B) (k : KeepC ms B C) : KeepC ms A C :=
  ⟨Nat.le_trans h.size k.size, fun i o h1 h2 h3 => k.same i o h1 (h.same i o h1 h2 h3) h3⟩
theorem Mod.keepC {ms : List Nat} {W W' : World} (h : Mod ms W W') : KeepC ms W W' := ⟨h.size, fun k _ h1 h2 _ => (h.block k (Array.getElem?_eq_some_iff.1 h2).1 h1).trans h2⟩
theorem KeepC.holds {ms : List Nat} {w v : World} {g : Nat} {t : TypeId} {cs : List Value} (h : Holds w g t cs) (m : KeepC ms w v) (h2 : g ∉ ms) : Holds v g t cs := m.same g _ h2 h rfl
theorem KeepC.cells {ms : List Nat} {w v : World} {A : Option Addr} {cs : List Value} (h : Cells w A cs) (m : KeepC ms w v) (hn : ∀ a, A = some a → a.block ∉ ms) : Cells v A cs := by
  intro i hi
  obtain ⟨g, o, rfl, hc⟩ := h i hi
  refine ⟨g, o, rfl, ?_⟩
  cases hb : w.heap[g]? with
  | none => simp [World.cell?, hb] at hc
  | some b =>
    have hic : b.isCells = true := by
      cases b with
      | cells => rfl
      | _ => simp [World.cell?, hb] at hc ⊢
    rw [World.cell?_of_block (a := ⟨g, o + i, none⟩) (w := w) ((m.same g b (hn _ rfl) hb hic).trans hb.symm)]
    exact hc
theorem KeepC.putObj {ms : List Nat} (W : World) (l : Nat) (o o' : Obj) (h : W.heap[l]? = some o) (hc : o.isCells = false) : KeepC ms W (W.putObj l o') :=
  ⟨by simp [World.putObj], fun k b _ hk hb => by
    by_cases hkl : k = l
    · subst hkl; rw [h] at hk; cases hk; rw [hc] at hb; cases hb
    · rw [World.putObj_heap_other hkl]; exact hk⟩
/-- What stays whatever is done with blocks from n on. -/
def AnyFrom {σ : Type} (n : Nat) (I : σ → World → Prop) : Prop := ∀ (s : σ) (A B : World) (row : Option Nat), I s A → A.grownBy B row → (∀ r, row = some r → n ≤ r) → I s B
theorem AnyFrom.mod {σ : Type} {n : Nat} {I : σ → World → Prop} (h : AnyFrom n I) {s : σ} {A B : World} (hs : I s A) (m : Mod [] A B) : I s B :=
  h s A B none hs ⟨m.os, m.tape, m.output, m.size, fun i hi _ => m.block i hi (by simp)⟩ (fun r h => by cases h)
theorem AnyFrom.mod1 {σ : Type} {n g : Nat} {I : σ → World → Prop} (h : AnyFrom n I) {s : σ} {A B : World} (hs : I s A) (m : Mod [g] A B) (hg : n ≤ g) : I s B :=
  h s A B (some g) hs ⟨m.os, m.tape, m.output, m.size, fun i hi hn => m.block i hi (by simp; intro e; exact hn (by rw [e]))⟩ (fun r h => by cases h; exact hg)
theorem AnyFrom.putObj {σ : Type} {n : Nat} {I : σ → World → Prop} (h : AnyFrom n I) {s : σ} {W : World} {l : Nat} (o' : Obj) (hs : I s W) (hl : n ≤ l) : I s (W.putObj l o') :=
  h s W _ (some l) hs (grownBy_putObj' W l o') (fun r e => by cases e; exact hl)
theorem AnyFrom.alloc {σ : Type} {n : Nat} {I : σ → World → Prop} (h : AnyFrom n I) {s : σ} {W : World} (o : Obj) (hs : I s W) : I s (W.alloc o) := h.mod hs (Mod.alloc [] W o)
/-- An iterator that may have cells of its own: it hands over what Fx says, and changes nothing that was there. -/
def SeqAny {α : Type} (F : Fence) (n : Nat) (P : Program) (g : Nat) (lb : Array Value) (encs : α → Array Value) (Fx : List α → α → World → Prop) (Kp : World → World → Prop) (S Sp : List α → Prop) (N : Nat) (w : World) : Prop :=
  ∀ (l : Nat) (J Jx : List α → World → Prop) (W : World), Below w.heap.size w W → AnyFrom W.heap.size J → AnyFrom W.heap.size Jx →
    (∀ pre x V, Fx pre x V → J pre V → pre.length < N → YieldAt F (n - 1) P l (encs x) V fun r V' => (r = .returned (.bool true) ∧ J (pre ++ [x]) V' ∧ Kp V V') ∨ (r = .returned (.bool false) ∧ Jx (pre ++ [x]) V')) →
    J [] W → CallsIn F n P g (#[.func (.yield l) #[] #[]] ++ lb) W fun r V => (∃ v, r = .returned v) ∧ ((∃ xs, S xs ∧ J xs V) ∨ (∃ pre, Sp pre ∧ Jx pre V))
section
variable {F : Fence} {n : Nat} {P : Program} {w : World}
theorem wpIn_rangeFunc_any {α : Type} {g : Operand} {ps : Array Tmp} {assign body : Code} {Q : Exit → Act → World → Prop} {a : Act}
    (hro : F.round = none) (h1 : 1 ≤ n) {gf : Nat} {lb : Array Value} (hg : a.eval g = .func (.func gf) #[] lb) (hFg : F.fn gf) (eg : ∀ args w, (callFunc gf args).run P w = .ok (.enter gf args) w)
    {encs : α → Array Value} {Fx : List α → α → World → Prop} {Kp : World → World → Prop} {S Sp : List α → Prop} {N : Nat} {w0 : World} (hseq : SeqAny F (n - 1) P gf lb encs Fx Kp S Sp N w0)
    (hKt : ∀ {A B C : World}, Kp A B → Kp B C → Kp A C) (hKb : ∀ (W : World) (l : Nat) (o o' : Obj), w.heap.size ≤ l → W.heap[l]? = some o → o.isCells = false → o.isWalk = false → Kp W (W.putObj l o')) (hb0 : Below w0.heap.size w0 w) (hps : ∀ x, (encs x).size = ps.size)
    (I : List α → World → Prop) (Ix : Code → List α → World → Prop) (hI : AnyFrom w.heap.size I) (hIx : ∀ c, AnyFrom w.heap.size (Ix c)) (h0 : I [] w) (Ax : List α → α → Act → World → Prop) (hAx : ∀ pre x a', OwnFrom w.heap.size (fun (_ : Unit) W => Ax pre x a' W))
    (hassign : ∀ (l : Nat) (pre : List α) (x : α) (W : World) (K : Act → World → Prop), I pre W → Fx pre x W → (∀ a' W', KeepsFrom w.heap.size W W' → Kp W W' → I pre W' → Ax pre x a' W' → K a' W') →
      assign.wpIn (F.inRound l) (n - 1 - 1) P (Exit.then K (fun _ _ _ => False)) { tmps := (ps.zip (encs x)).foldl (fun t (p, v) => t.setIfInBounds p v) a.tmps, defers := [] } W)
    (hbody : ∀ (l : Nat) (pre : List α) (x : α) (a' : Act) (W : World), w.heap.size ≤ l → (∃ r, W.heap[l]? = some (.loop r)) → I pre W → Ax pre x a' W → pre.length < N → body.wpIn (F.inRound l) (n - 1 - 1) P (ownPostG w.heap.size Kp I Ix (pre ++ [x]) W) a' W)
    (hdone : ∀ (D : Nat) (xs : List α) (W : World), w.heap.size ≤ D → S xs → I xs W → W.heap[D]? = some (.deferred (some [])) → Q .normal { a with defers := { target := .collected D, args := #[] } :: a.defers } W)
    (hstop : ∀ (D : Nat) (c : Code) (pre : List α) (W : World), w.heap.size ≤ D → Sp pre → Ix c pre W → W.heap[D]? = some (.deferred (some [])) → c.wpIn F n P Q { a with defers := { target := .collected D, args := #[] } :: a.defers } W) :
    (Code.rangeFunc g ps assign body).wpIn F n P Q a w := by
  refine wpIn_rangeFunc fun fn hfn => ?_
  rw [hro]
  -- the two blocks of the range: D for what its rounds would defer, and behind it the range's own record
  generalize hD : w.heap.size = D at *
  let R : LoopState → Option Code → Loop := fun st pe => { state := st, pending := pe, fn, tmps := a.tmps, params := ps, assign, body, defers := D }
  have hR : ∀ st pe, R st pe = { state := st, pending := pe, fn, tmps := a.tmps, params := ps, assign, body, defers := D } := fun _ _ => rfl
  clear_value R
  generalize hV : (w.alloc (.deferred (some []))).alloc (.loop (R .ready none)) = V
  have rec0 : V.heap[D + 1]? = some (.loop (R .ready none)) := by
    rw [← hV, ← hD]
    have := World.alloc_heap_new (w.alloc (.deferred (some []))) (.loop (R .ready none))
    rwa [World.size_alloc] at this
  have def0 : V.heap[D]? = some (.deferred (some [])) := by
    rw [← hV, ← hD]
    exact (Below.heap_alloc _ _ _ (by simp)).trans (World.alloc_heap_new w _)
  have hVs : D + 2 ≤ V.heap.size := by rw [← hV, ← hD]; simp
  have inv0 : I [] V := by rw [← hV]; exact hI.alloc _ (hI.alloc _ h0)
  have bel0 : Below w0.heap.size w0 V := by
    rw [← hV]
    exact hb0.trans ((((Below.refl _ w).alloc (Nat.le_refl _) _).alloc (by simp) _).mono hb0.size)
  refine ⟨D + 1, [{ target := .collected D, args := #[] }], V, { target := .fn (.func gf) lb, args := #[.func (.yield (D + 1)) #[] #[]] }, V, gf, #[.func (.yield (D + 1)) #[] #[]] ++ lb, V, ?_, ?_, ?_, ?_, fun _ => h1, ?_⟩
  · rw [← hV, ← hD, hR, ← hD]
    exact run_enterLoop_outer _ _ _ _ _
  · simp only [resolve, hg]
    simp [go_sem]
  · intro f' hf'
    simp [Target.leads] at hf'
    subst hf'
    exact hFg
  · simp [invoke, go_sem, eg]
  have stay : ∀ {A B : World} {row : Option Nat} {k : Nat} {o : Obj}, A.grownBy B row → (∀ r, row = some r → V.heap.size ≤ r) → k < V.heap.size → A.heap[k]? = some o → B.heap[k]? = some o :=
    fun hgr hr hk ho => (hgr.block _ (Array.getElem?_eq_some_iff.1 ho).1 (fun e => by have := hr _ e.symm; omega)).trans ho
  refine (hseq (D + 1) (fun pre W => I pre W ∧ W.heap[D + 1]? = some (.loop (R .ready none)) ∧ W.heap[D]? = some (.deferred (some [])))
    (fun pre W => ∃ c, Ix c pre W ∧ W.heap[D + 1]? = some (.loop (R .done (some c))) ∧ W.heap[D]? = some (.deferred (some []))) V bel0
    (fun s A B row hs hgr hr => ⟨hI s A B row hs.1 hgr (fun r e => by have := hr r e; omega), stay hgr hr (by omega) hs.2.1, stay hgr hr (by omega) hs.2.2⟩)
    (fun s A B row hs hgr hr => by obtain ⟨c, q1, q2, q3⟩ := hs; exact ⟨c, hIx c s A B row q1 hgr (fun r e => by have := hr r e; omega), stay hgr hr (by omega) q2, stay hgr hr (by omega) q3⟩)
    ?round ⟨inv0, rec0, def0⟩).mono ?behind
  case behind =>
    rintro r W2 ⟨⟨v, rfl⟩, (⟨xs, q1, q2, q3, q4⟩ | ⟨pre, q1, c, q2, q3, q4⟩)⟩
    · have hend := run_endLoop (P := P) q3 (by rw [hR]; simp)
      rw [hR] at hend
      exact ⟨none, _, hend, hdone D xs _ (Nat.le_refl _) q1 (hI.putObj _ q2 (by omega)) ((World.putObj_heap_other (by omega)).trans q4)⟩
    · have hend := run_endLoop (P := P) q3 (by rw [hR]; simp)
      rw [hR] at hend
      exact ⟨some c, _, hend, hstop D c pre _ (Nat.le_refl _) q1 ((hIx c).putObj _ q2 (by omega)) ((World.putObj_heap_other (by omega)).trans q4)⟩
  case round =>
    rintro pre x W hf ⟨q1, q2, q3⟩ hlen
    have hy := run_yield (P := P) (args := encs x) q2 (by rw [hR]; exact hps x)
    rw [hR] at hy
    refine ⟨fn, _, assign, body, hy, roundIn_of_wpIn hfn (hassign _ pre x W _ q1 hf ?_)⟩
    intro a' W' k1 k2 k3 k4
    have r2 := k1.same _ _ (by omega) q2 rfl
    have r3 := k1.same _ _ (Nat.le_refl _) q3 rfl
    have hlt := (Array.getElem?_eq_some_iff.1 r2).1
    refine ⟨_, run_beginRound r2 (by rw [hR]), ?_⟩
    have b2 : (W'.putObj (D + 1) (.loop { R .ready none with state := .busy })).heap[D + 1]? = some (.loop { R .ready none with state := .busy }) := World.putObj_heap_same hlt
    have b3 : (W'.putObj (D + 1) (.loop { R .ready none with state := .busy })).heap[D]? = some (.deferred (some [])) := (World.putObj_heap_other (by omega)).trans r3
    have bk : Kp W' (W'.putObj (D + 1) (.loop { R .ready none with state := .busy })) := hKb _ _ _ _ (by omega) r2 rfl rfl
    refine wpIn_mono (hbody _ pre x a' _ (by omega) ⟨_, b2⟩ (hI.putObj _ k3 (by omega)) ((hAx pre x a').putObj (s := ()) _ k4 (by omega) r2 rfl) hlen) ?_
    have ends : ∀ (j : Option Code) (W3 : World), KeepsFrom D (W'.putObj (D + 1) (.loop { R .ready none with state := .busy })) W3 →
        (Instr.endRound (D + 1) j).run P W3 = .ok (.bool j.isNone) (W3.putObj (D + 1) (.loop (R (if j.isNone then .ready else .done) j))) ∧ W3.heap[D + 1]? = some (.loop { R .ready none with state := .busy }) ∧
        (W3.putObj (D + 1) (.loop (R (if j.isNone then .ready else .done) j))).heap[D + 1]? = some (.loop (R (if j.isNone then .ready else .done) j)) ∧ (W3.putObj (D + 1) (.loop (R (if j.isNone then .ready else .done) j))).heap[D]? = some (.deferred (some [])) := fun j W3 hk3 => by
      have e2 := hk3.same _ _ (by omega) b2 rfl
      have er := run_endRound (P := P) j e2
      refine ⟨?_, e2, World.putObj_heap_same (Array.getElem?_eq_some_iff.1 e2).1, (World.putObj_heap_other (by omega)).trans (hk3.same _ _ (Nat.le_refl _) b3 rfl)⟩
      rw [hR] at er ⊢
      exact er
    rintro e a3 W3 hp
    cases e with
    | normal =>
      obtain ⟨p1, p2, p3⟩ := hp
      obtain ⟨s1, s2, s3, s4⟩ := ends none W3 p1
      exact ⟨_, _, s1, .inl ⟨rfl, ⟨hI.putObj _ p3 (by omega), s3, s4⟩, hKt k2 (hKt (hKt bk p2) (hKb _ _ _ _ (by omega) s2 rfl rfl))⟩⟩
    | ret =>
      obtain ⟨s1, s2, s3, s4⟩ := ends (some .ret) W3 hp.1
      exact ⟨_, _, s1, .inr ⟨rfl, .ret, (hIx _).putObj _ hp.2 (by omega), s3, s4⟩⟩
    | exit id =>
      obtain ⟨s1, s2, s3, s4⟩ := ends (some (.exit id)) W3 hp.1
      exact ⟨_, _, s1, .inr ⟨rfl, .exit id, (hIx _).putObj _ hp.2 (by omega), s3, s4⟩⟩
    | goto t =>
      obtain ⟨s1, s2, s3, s4⟩ := ends (some (.goto t)) W3 hp.1
      exact ⟨_, _, s1, .inr ⟨rfl, .goto t, (hIx _).putObj _ hp.2 (by omega), s3, s4⟩⟩
    | panic ch => exact hp.elim
    | outgrown => exact hp.elim
end
theorem wpList_make0G {α : Type} (f : α → List Value) {P : Program} {w : World} {ops : Array Oper} {rest : List Oper} {o : Oper} {a : Act} {Q : Exit → Act → World → Prop} (hgd : o.guard = none) (t : TypeId) (x y : Operand) (ho : o.op = .makeSlice t x y) (e : TypeId) (i : TypeInfo) (z : Value) (size bytes n : Nat) (ht : P.underlying t = some (.slice e)) (hi : P.info? e = some i) (hz : i.zero = some z) (hs : i.size = size) (hb : i.bytes = bytes)
    (hx : a.eval x = .int .i64 0) (hy : a.eval y = .int .i64 (n : Int)) (h63 : bytes * n ≤ 281474976710656) (h64 : n ≤ maxLen)
    (h : ∀ v, OwnG f e size v (some ⟨w.heap.size, 0, none⟩) n [] → Mod [] w v → v.heap.size = w.heap.size + 1 → wpList P ops Q rest (a.put o.dst (.slice (some ⟨w.heap.size, 0, none⟩) 0 n)) v) : wpList P ops Q (o :: rest) a w := by
  subst hs hb
  refine wpList_plain hgd fun K hK => ?_
  have hm : maxLen ≤ 9223372036854775807 := by decide
  have hbb : (i.bytes : Int) * (n : Int) ≤ 281474976710656 := by
    have h : ((i.bytes * n : Nat) : Int) ≤ 281474976710656 := by omega
    rwa [Int.natCast_mul] at h
  have hrun := run_make (P := P) w t e i z ht hi hz .i64 .i64 (0 : Int) (n : Int) (by omega) (by omega) hbb (by omega)
  simp only [Int.toNat_natCast] at hrun
  have hfin := h (w.alloc (.cells (madeCells z.cells (n * i.size)) e)) ⟨by simp, .inr ⟨w.heap.size, n, madeCells z.cells (n * i.size), rfl, Nat.zero_le _, Holds.made w e (madeCells z.cells (n * i.size)).toList, Nat.zero_le _, h64, by simp [madeCells], by simp⟩⟩ (Mod.alloc [] w _) (by simp)
  unfold Oper.wp execOp
  simp only [ho, hx, hy, Sem.run_bind, hrun, Result.andThen]
  exact hK _ _ hfin
end
section
open Go.RowKit Go.Shelf
/-- A digest: 32 bytes. -/
abbrev Idv := { l : List UInt8 // l.length = 32 }
def ic (x : Idv) : List Value := x.1.map oct
def iv (x : Idv) : Value := .agg (ic x).toArray
theorem ic_length (x : Idv) : (ic x).length = 32 := by simp [ic, x.2]
theorem ic_one (x : Idv) : ∀ v ∈ ic x, v.oneCell' = true := octs_one x.1
def digI (bb : List UInt8) : Idv := ⟨dig bb, dig_length bb⟩
def zeroI : Idv := ⟨List.replicate 32 0, rfl⟩
theorem zeroI_25 : ∀ w, (zeroValue 23).run Tryd.prog w = .ok (.agg (ic zeroI).toArray) w := zero25
/-- What sha's own variables hold. -/
structure Glob (w : World) : Prop where
  G : Cells w (some ⟨1, 0, none⟩) (Kc.map wd)
  G1 : Cells w (some ⟨0, 0, none⟩) (Sc.map wd)
  two : 2 ≤ w.heap.size
theorem Glob.keep {w v : World} {ms : List Nat} (h : Glob w) (m : Mod ms w v) (hm : ∀ i ∈ ms, 2 ≤ i) : Glob v :=
  ⟨h.G.keep m (by rintro _ ⟨⟩ h; have := hm _ h; simp at this), h.G1.keep m (by rintro _ ⟨⟩ h; have := hm _ h; simp at this), Nat.le_trans h.two m.size⟩
theorem Glob.then {w v : World} (h : Glob w) (m : Mod [] w v) : Glob v := h.keep m (by simp)
theorem Glob.of {w : World} (G : Cells w (some ⟨1, 0, none⟩) (Kc.map wd)) (G1 : Cells w (some ⟨0, 0, none⟩) (Sc.map wd)) : Glob w :=
  ⟨G, G1, by
    have h := G.at 0 (by simp [Kc_length])
    have := block_lt_of_cell h
    exact this⟩
theorem sumI (Ad : Option Addr) (bb : List UInt8) (n cap : Nat) (hn : n = bb.length) (hcap : n ≤ cap) (hb : n ≤ 1000000) (w : World) (G : Glob w) (R : Reads w Ad bb) :
    Calls Tryd.prog 42 #[.slice Ad n cap] w fun e w' => e = .returned (iv (digI bb)) ∧ Mod [] w w' :=
  sum_c Kc Sc Kc_length Sc_length Ad bb n cap hn (by omega) (by omega) w G.G G.G1 R
theorem mem_blk {A : Option Addr} {k : Nat} (h : k ∈ blk A) : ∃ a, A = some a ∧ a.block = k := by
  cases A with
  | none => simp [blk] at h
  | some a => exact ⟨a, rfl, by simp [blk] at h; exact h.symm⟩
theorem far_mod {w v v' : World} {ms : List Nat} (h : Mod [] w v) (k : Mod ms v v') (hm : ∀ i ∈ ms, w.heap.size ≤ i) : Mod [] w v' := h.trans k (fun i hi h => by have := hm i h; omega)
theorem Owns.of_made {w : World} {y B n : Nat} (h : Holds w y 5 (List.replicate n (.int .u8 0))) (hB : B ≤ y) (hn : n ≤ maxLen) : Owns w B 5 (some ⟨y, 0, none⟩) n [] := by
  refine ⟨by simp, .inr ⟨y, n, _, rfl, hB, h, Nat.zero_le _, hn, by simp, by simp⟩⟩
/-- make([]T, 0, n) of one-cell elements, in a walk. -/
theorem wpList_make0 {P : Program} (w : World) {ops : Array Oper} {rest : List Oper} {o : Oper} {a : Act} {Q : Exit → Act → World → Prop}
    (hg : o.guard = none) (l c : Operand) (t : TypeId) (hop : o.op = Op.makeSlice t l c)
    (e : TypeId) (i : TypeInfo) (z : Value) (h1 : P.underlying t = some (.slice e)) (h2 : P.info? e = some i) (h3 : i.zero = some z) (h4 : i.size = 1) (bytes : Nat) (h5 : i.bytes = bytes) (hz : z.cells = #[z])
    (C : Int) (n : Nat) (hl : a.eval l = .int .i64 0) (hc : a.eval c = .int .i64 C) (hC : C = (n : Int)) (b2 : bytes * n ≤ 281474976710656) (b3 : n ≤ maxLen)
    (hK : ∀ v, Holds v w.heap.size e (List.replicate n z) → Mod [] w v → v.heap.size = w.heap.size + 1 → wpList P ops Q rest (a.put o.dst (.slice (some ⟨w.heap.size, 0, none⟩) 0 n)) v) :
    wpList P ops Q (o :: rest) a w := by
  refine wpList_plain hg fun K hK' => ?_
  subst h5
  have hb : (i.bytes : Int) * (n : Int) ≤ 281474976710656 := by
    have h : ((i.bytes * n : Nat) : Int) ≤ 281474976710656 := by omega
    rwa [Int.natCast_mul] at h
  have b3' : (n : Int) ≤ 9223372036854775807 := by unfold maxLen at b3; omega
  have hrun := run_make (P := P) w t e i z h1 h2 h3 .i64 .i64 0 (n : Int) (by omega) (by omega) hb b3'
  subst hC
  simp only [Int.toNat_natCast, h4, Nat.mul_one, hz, made_rep] at hrun
  unfold Oper.wp
  simp [execOp, hop, hl, hc, hrun, Result.andThen]
  exact hK' _ _ (hK _ (Holds.made w e _) (Mod.alloc [] w _) (by simp))
/-- Digests one behind the other. -/
def flatI (l : List Idv) : List UInt8 := l.flatMap (·.1)
theorem flatI_length (l : List Idv) : (flatI l).length = l.length * 32 := by
  induction l with
  | nil => rfl
  | cons x l ih => simp only [flatI, List.flatMap_cons, List.length_append, List.length_cons] at ih ⊢; rw [ih, x.2]; omega
theorem flatI_snoc (l : List Idv) (k : Nat) (h : k < l.length) : flatI (l.take (k + 1)) = flatI (l.take k) ++ l[k].1 := by
  rw [List.take_succ_eq_append_getElem h, flatI, List.flatMap_append]
  simp [flatI]
end
section
open Go.RowKit Go.Shelf
theorem size25i (x : Idv) : (Tryd.prog.info? 23).map (·.size) = some (ic x).length := by rw [ic_length]; exact size25
set_option maxRecDepth 100000 in
set_option maxHeartbeats 4000000 in
theorem digest_c (H : Option Addr) (hd : List UInt8) (nh ch : Nat) (hnh : nh = hd.length) (hh : nh ≤ 3) (A : Option Addr) (l : List Idv) (n ca : Nat) (hn : n = l.length) (hl : n ≤ 100) (w : World) (Gl : Glob w) (RH : Reads w H hd) (RA : Cells w A (l.flatMap ic)) :
    Calls Tryd.prog 64 #[.slice H nh ch, .slice A n ca] w fun r w' => r = .returned (iv (digI (hd ++ flatI l))) ∧ Mod [] w w' := by
  obtain ⟨i0, hi, hz0, hz1, hz2⟩ := info_parts u8_zero
  obtain ⟨q, hq⟩ : ∃ q, q = nh + n * 32 := ⟨_, rfl⟩
  have hq2 : q ≤ 4000 := by omega
  have HQ : Hid (IntKind.i64.wrap ((nh : Int) + IntKind.i64.wrap ((n : Int) * 32)) = (q : Int)) := Lib.hid (by
    rw [IntWalk.i64_in ((n : Int) * 32) (by omega)]
    have : (nh : Int) + (n : Int) * 32 = (q : Int) := by omega
    rw [this]
    exact IntWalk.i64_in _ (by omega))
  have HQ1 : Hid (IntKind.i64.wrap ((n : Int) * 32) = ((n * 32 : Nat) : Int)) := Lib.hid (by rw [IntWalk.i64_in ((n : Int) * 32) (by omega)]; omega)
  obtain ⟨n32, hn32⟩ : ∃ k, k = n * 32 := ⟨_, rfl⟩
  rw [← hn32] at HQ1
  have HQ2 : Hid (IntKind.i64.wrap ((nh : Int) + (n32 : Int)) = (q : Int)) := Lib.hid (by have := HQ.out; rw [HQ1.out] at this; exact this)
  have HI := Lib.hid (And.intro hi (And.intro hz0 (And.intro hz1 hz2)))
  have HH := Lib.hid (And.intro hn (And.intro RA (And.intro hq (And.intro hq2 (And.intro RH (And.intro hnh (And.intro hh Gl)))))))
  have hnZ : (n : Int) ≤ 100 := by omega
  have hnhZ : (nh : Int) ≤ 3 := by omega
  obtain ⟨d, hdd⟩ : ∃ d, d = digI (hd ++ flatI l) := ⟨_, rfl⟩
  rw [← hdd]
  have HDD := Lib.hid hdd
  clear hn RA hi hz0 hz1 hz2 hq hl hq2 RH hnh hh Gl HQ hn32 hdd
  go_enter Tryd.func64, Tryd.ntmps64
  go_wp2_with (first
    | (with_reducible refine wpList_allocs (o := ⟨some 4, .alloc 23, _, _, _, _⟩) rfl 23 rfl _ zeroI_25 ?_; intro w1 hb1 m1 z1; replace z1 := Lib.hid z1)
    | (with_reducible refine wpList_ranW (o := ⟨some 12, .binOp _ _ _ _ _, _, _, _, _⟩) (by with_unfolding_all rfl) (.int .i64 (n32 : Int)) w1 (exec_mul rfl rfl rfl HQ1.out) ?_)
    | (with_reducible refine wpList_ranW (o := ⟨some 13, .binOp _ _ _ _ _, _, _, _, _⟩) (by with_unfolding_all rfl) (.int .i64 (q : Int)) w1 (exec_add rfl rfl rfl HQ2.out) ?_)
    | (refine wpList_make0 (o := ⟨some 14, .makeSlice _ _ _, _, _, _, _⟩) _ rfl _ _ 64 rfl 5 i0 (.int .u8 0) Tryd.underlying64 HI.out.1 HI.out.2.1 HI.out.2.2.1 1 HI.out.2.2.2 rfl (q : Int) q rfl rfl rfl (by have := HH.out.2.2.2.1; omega) (by have := HH.out.2.2.2.1; unfold maxLen; omega) ?_
       intro w2 hw2 hm2 hs2
       replace hs2 := Lib.hid hs2
       have hO := Owns.of_made (B := w1.heap.size) hw2 (Nat.le_refl _) (by have := HH.out.2.2.2.1; unfold maxLen; omega)
       obtain ⟨Y, hY⟩ : ∃ Y : Option Addr, Y = some ⟨w1.heap.size, 0, none⟩ := ⟨_, rfl⟩
       rw [← hY] at hO ⊢
       clear hY hs2 hw2)
    | (refine wpList_appends w2 (o := ⟨some 17, _, _, _, _, _⟩) rfl (.tmp 15) (.tmp 16) 64 rfl 5 i0 (.int .u8 0) 1 Tryd.underlying64 HI.out.1 HI.out.2.1 HI.out.2.2.1 HI.out.2.2.2 rfl w1.heap.size hm2.size Y 0 q [] rfl rfl hO H nh ch hd rfl HH.out.2.2.2.2.2.1 (HH.out.2.2.2.2.1.keep (m1.then hm2) (by simp)) (by have := HH.out.2.2.2.2.2.1; have := HH.out.2.2.2.2.2.2.1; simp; omega) (by have := HH.out.2.2.2.2.2.1; have := HH.out.2.2.2.2.2.2.1; simp; unfold maxLen; omega) ?_
       intro Y1 c1 w3 hO3 m3 q3
       obtain ⟨h0, hh0⟩ : ∃ k, k = ([] ++ hd).length := ⟨_, rfl⟩
       rw [← hh0]
       replace hh0 := Lib.hid hh0))
  have hlt1 : w.heap.size < w1.heap.size := by have := z1.out; omega
  have mm3 : Mod [] w w3 := far_mod (m1.then hm2) m3 (fun i hi => by obtain ⟨a, ha, rfl⟩ := mem_blk hi; exact Nat.le_trans m1.size (hO.fits.2.2 a ha).1)
  have hb3 : Holds w3 w.heap.size 23 (ic zeroI) := (hb1.keep hm2 (by simp)).keep m3 (fun hi => by obtain ⟨a, ha, h⟩ := mem_blk hi; have := hO.fits.2.2 a ha; omega)
  have hBw : w1.heap.size ≤ w3.heap.size := Nat.le_trans hm2.size m3.size
  obtain ⟨B0, hB0⟩ : ∃ b, b = w1.heap.size := ⟨_, rfl⟩
  obtain ⟨b4, hb4⟩ : ∃ b, b = w.heap.size := ⟨_, rfl⟩
  rw [← hB0] at hO3 hlt1 hBw
  rw [← hb4] at hb3 hlt1 ⊢
  have hw0 : w.heap.size ≤ b4 := by omega
  clear hO hm2 m3 q3 hb1 m1 z1 hb4
  go_loopw [20, 5] (fun i x wi => ∃ (k : Nat) (A : Option Addr) (c m : Nat), k ≤ n ∧ i = .int .i64 (k : Int) ∧ x = .slice A m c ∧ m = (hd ++ flatI (l.take k)).length ∧ Owns wi B0 5 A c (hd ++ flatI (l.take k)) ∧ Holds wi b4 23 (ic zeroI) ∧ B0 ≤ wi.heap.size ∧ Mod [] w wi) (fun i _ _ => n - (intOf i).toNat)
  case atStart => exact ⟨0, Y1, c1, h0, by omega, rfl, rfl, by rw [hh0.out]; simp [flatI], by simpa [flatI] using hO3, hb3, hBw, mm3⟩
  case round =>
    obtain ⟨k, A1, c, m, hk, rfl, rfl, hm, hOw, hbi, hBi, hmi⟩ := hrel
    by_cases hkn : k < n
    · have hkl : k < l.length := by rw [← HH.out.1]; exact hkn
      have hkZ : (k : Int) < (n : Int) := by omega
      obtain ⟨ga, oa, rfl, hce⟩ := HH.out.2.1.elem' ic 32 (by omega) ic_length k hkl
      have hsn := flatI_snoc l k hkl
      have hml : m ≤ 4000 := by rw [hm, List.length_append, flatI_length, List.length_take]; have := HH.out.2.2.2.2.2.1; have := HH.out.2.2.2.2.2.2.1; omega
      obtain ⟨p, hp⟩ : ∃ p, p = l[k] := ⟨_, rfl⟩
      rw [← hp] at hce hsn
      have hci := hce.keep hmi (by simp)
      have HP := Lib.hid (And.intro hsn (And.intro hm (And.intro hOw (And.intro hmi (And.intro hml (And.intro hbi hBi))))))
      clear hp hce hsn hm hOw hml hO3 mm3 hb3 hbi hBi hBw
      go_wp2_with (first
        | (with_reducible refine wpList_loads (o := ⟨some 23, .load 23 (.tmp 22), _, _, _, _⟩) rfl 23 (.tmp 22) rfl ga (oa + k * 32) _ rfl hci _ Tryd.underlying23 rfl (size25i p) (iv p) rfl ?_)
        | (with_reducible refine wpList_allocs (o := ⟨some 7, .alloc 23, _, _, _, _⟩) rfl 23 rfl _ zeroI_25 ?_; intro w2 hb2 m2 z2; replace z2 := Lib.hid z2)
        | (with_reducible refine wpList_storesAll (o := ⟨none, .store 23 (.tmp 7) (.tmp 23), _, _, _, _⟩) rfl 23 (.tmp 7) (.tmp 23) rfl rfl wr.heap.size (ic p) rfl (iv p) rfl rfl 23 _ hb2 (by rw [ic_length, ic_length]) (ic_one p) (size25i p) ?_
           intro w3 hb3 m3 z3
           have mx : Mod [] wr w3 := m2.trans m3 (by intro i hi h; simp at h; omega)
           obtain ⟨bx, hbx⟩ : ∃ b, b = wr.heap.size := ⟨_, rfl⟩
           rw [← hbx] at hb3
           rw [← hbx]
           have hR : Reads w3 (some ⟨bx, 0, none⟩) p.1 := Reads.of_holds hb3
           have O3 := HP.out.2.2.1.keep mx (by simp)
           have hdl : p.1.length = 32 := p.2
           replace z3 := Lib.hid z3
           replace hbx := Lib.hid hbx
           clear hb2 m2 m3)
        | (refine wpList_appends w3 (o := ⟨some 26, _, _, _, _, _⟩) rfl (.tmp 24) (.tmp 25) 64 rfl 5 i0 (.int .u8 0) 1 Tryd.underlying64 HI.out.1 HI.out.2.1 HI.out.2.2.1 HI.out.2.2.2 rfl B0 (Nat.le_trans HP.out.2.2.2.2.2.2 mx.size) A1 m c (hd ++ flatI (l.take k)) rfl HP.out.2.1 O3 (some ⟨bx, 0, none⟩) 32 32 p.1 rfl hdl.symm hR (by rw [← HP.out.2.1, hdl]; have := HP.out.2.2.2.2.1; omega) (by rw [← HP.out.2.1, hdl]; have := HP.out.2.2.2.2.1; unfold maxLen; omega) ?_
           intro A' c' w4 hO4 m4 q4))
      have hA4 : ∀ i ∈ blk A1, B0 ≤ i := fun i hi => by obtain ⟨a, ha, rfl⟩ := mem_blk hi; exact (O3.fits.2.2 a ha).1
      refine ⟨⟨k + 1, A', c', _, by omega, by go_num, rfl, by rw [HP.out.1]; simp only [List.length_append, p.2], by rw [HP.out.1, ← List.append_assoc]; exact hO4, (HP.out.2.2.2.2.2.1.keep mx (by simp)).keep m4 (fun hi => by have := hA4 _ hi; omega), Nat.le_trans HP.out.2.2.2.2.2.2 (Nat.le_trans mx.size m4.size), far_mod (HP.out.2.2.2.1.then mx) m4 (fun i hi => by have := hA4 _ hi; omega)⟩, by simp [intOf]; omega⟩
    · obtain rfl : n = k := by omega
      have hall : l.take n = l := List.take_of_length_le (by rw [← HH.out.1]; omega)
      rw [hall] at hm hOw
      have hml : m ≤ 4000 := by rw [hm, List.length_append, flatI_length, ← HH.out.1]; have := HH.out.2.2.2.2.2.1; have := HH.out.2.2.2.2.2.2.1; omega
      have X := sumI A1 (hd ++ flatI l) m c hm (by rw [hm]; exact hOw.fits.1) (by omega) wr (HH.out.2.2.2.2.2.2.2.then hmi) hOw.reads
      have HP := Lib.hid (And.intro hmi hbi)
      rw [← HDD.out] at X
      clear hm hall hO3 mm3 hb3 hmi hbi hBi hOw hml hBw
      go_wp2_with (first
        | (go_at_call 42; refine X.mono ?_; rintro e w5 ⟨rfl, m5⟩)
        | (with_reducible refine wpList_storesAll (o := ⟨none, .store 23 (.tmp 4) (.tmp 29), _, _, _, _⟩) rfl 23 (.tmp 4) (.tmp 29) rfl rfl b4 (ic d) rfl (iv d) rfl rfl 23 _ (HP.out.2.keep m5 (by simp)) (by rw [ic_length, ic_length]) (ic_one d) (size25i d) ?_
           intro w6 hb6 m6 z6))
      refine bodyPost_ret (results_cell_row rfl _ _ b4 23 _ (0, 0) _ rfl hb6 Tryd.underlying23 rfl (by rw [List.size_toArray]; exact size25i d)) rfl ?_
      exact ⟨rfl, far_mod (HP.out.1.then m5) m6 (fun i hi => by simp at hi; omega)⟩
end
section
open Go.RowKit Go.Shelf
def stepI (i n : Nat) (x : Idv) : Idv := digI (67 :: UInt8.ofNat i :: UInt8.ofNat n :: x.1)
def startI (i : Nat) (s : Idv) : Idv := digI (83 :: UInt8.ofNat i :: s.1)
def endsI (l : List Idv) : Idv := digI (75 :: flatI l)
theorem flatI_one (x : Idv) : flatI [x] = x.1 := by simp [flatI]
theorem info25 : (Tryd.prog.info? 23).isSome = true := by kernel_rfl
theorem run_lit22 (x : Idv) (w : World) : (Instr.buildSlice 33 1 #[(0, iv x)]).run Tryd.prog w = .ok (.slice (some ⟨w.heap.size, 0, none⟩) 1 1) (w.alloc (.cells (ic x).toArray 23)) := by
  cases hq : Tryd.prog.info? 23 with
  | none => exact absurd info25 (by rw [hq]; simp)
  | some it => exact run_lit1 w Tryd.underlying33 hq (by have := size25; rw [hq] at this; simpa using this) (by omega) (by omega) zeroI_25 (by rfl) (ic_length x)
theorem u8_in (i : Nat) (h : i < 256) : IntKind.u8.wrap (i : Int) = ((UInt8.ofNat i).toNat : Int) := by
  have : (UInt8.ofNat i).toNat = i := by simp; omega
  rw [this]
  simp [IntKind.wrap, IntKind.bits, IntKind.signed]
  omega
theorem run_head3 (b c : UInt8) (w : World) : (Instr.buildSlice 64 3 #[(0, .int .u8 67), (1, .int .u8 (b.toNat : Int)), (2, .int .u8 (c.toNat : Int))]).run Tryd.prog w = .ok (.slice (some ⟨w.heap.size, 0, none⟩) 3 3) (w.alloc (.cells ([67, b, c].map oct).toArray 5)) := by
  go_simp
  rfl
theorem run_head2 (b : UInt8) (w : World) : (Instr.buildSlice 64 2 #[(0, .int .u8 83), (1, .int .u8 (b.toNat : Int))]).run Tryd.prog w = .ok (.slice (some ⟨w.heap.size, 0, none⟩) 2 2) (w.alloc (.cells ([83, b].map oct).toArray 5)) := by
  go_simp
  rfl
theorem run_head1 (w : World) : (Instr.buildSlice 64 1 #[(0, .int .u8 75)]).run Tryd.prog w = .ok (.slice (some ⟨w.heap.size, 0, none⟩) 1 1) (w.alloc (.cells ([(75 : UInt8)].map oct).toArray 5)) := by
  go_simp
  rfl
/-- An operation that makes a block. -/
theorem wpList_made {P : Program} {w : World} {ops : Array Oper} {rest : List Oper} {o : Oper} {a : Act} {Q : Exit → Act → World → Prop} (hw : Region.wanted o (yielded ops a.tmps) = true) (V : Value) (t : TypeId) (cs : List Value) (hrun : (execOp a.eval o).run P w = .ok (.value V) (w.alloc (.cells cs.toArray t)))
    (h : ∀ v, Holds v w.heap.size t cs → Mod [] w v → v.heap.size = w.heap.size + 1 → wpList P ops Q rest (a.put o.dst V) v) : wpList P ops Q (o :: rest) a w :=
  wpList_ranW hw V _ hrun (h _ (Holds.made w t cs) (Mod.alloc [] w _) (by simp))
section
variable {a : Act} {o : Oper} {w : World} {x y : Operand}
theorem exec_head3 {b c : UInt8} (ho : o.op = .buildSlice 64 3 #[(0, .const (.int .u8 67)), (1, x), (2, y)]) (hx : a.eval x = .int .u8 (b.toNat : Int)) (hy : a.eval y = .int .u8 (c.toNat : Int)) : (execOp a.eval o).run Tryd.prog w = .ok (.value (.slice (some ⟨w.heap.size, 0, none⟩) 3 3)) (w.alloc (.cells ([67, b, c].map oct).toArray 5)) := by
  unfold execOp
  have hc : a.eval (.const (.int .u8 67)) = .int .u8 67 := rfl
  simp only [ho, List.map_toArray, List.map_cons, List.map_nil, hc, hx, hy, Sem.run_bind, run_head3, Result.andThen, Sem.run_pure]
theorem exec_head2 {b : UInt8} (ho : o.op = .buildSlice 64 2 #[(0, .const (.int .u8 83)), (1, x)]) (hx : a.eval x = .int .u8 (b.toNat : Int)) : (execOp a.eval o).run Tryd.prog w = .ok (.value (.slice (some ⟨w.heap.size, 0, none⟩) 2 2)) (w.alloc (.cells ([83, b].map oct).toArray 5)) := by
  unfold execOp
  have hc : a.eval (.const (.int .u8 83)) = .int .u8 83 := rfl
  simp only [ho, List.map_toArray, List.map_cons, List.map_nil, hc, hx, Sem.run_bind, run_head2, Result.andThen, Sem.run_pure]
theorem exec_head1 (ho : o.op = .buildSlice 64 1 #[(0, .const (.int .u8 75))]) : (execOp a.eval o).run Tryd.prog w = .ok (.value (.slice (some ⟨w.heap.size, 0, none⟩) 1 1)) (w.alloc (.cells ([(75 : UInt8)].map oct).toArray 5)) := by
  unfold execOp
  have hc : a.eval (.const (.int .u8 75)) = .int .u8 75 := rfl
  simp only [ho, List.map_toArray, List.map_cons, List.map_nil, hc, Sem.run_bind, run_head1, Result.andThen, Sem.run_pure]
theorem exec_lit22 {p : Idv} (ho : o.op = .buildSlice 33 1 #[(0, x)]) (hx : a.eval x = iv p) : (execOp a.eval o).run Tryd.prog w = .ok (.value (.slice (some ⟨w.heap.size, 0, none⟩) 1 1)) (w.alloc (.cells (ic p).toArray 23)) := by
  unfold execOp
  simp only [ho, List.map_toArray, List.map_cons, List.map_nil, hx, Sem.run_bind, run_lit22, Result.andThen, Sem.run_pure]
end
set_option maxRecDepth 100000 in
set_option maxHeartbeats 4000000 in
theorem stepped_c (x : Idv) (i n : Nat) (hi : i < 256) (hn : n < 256) (w : World) (Gl : Glob w) :
    Calls Tryd.prog 71 #[iv x, .int .i64 (i : Int), .int .i64 (n : Int)] w fun r w' => r = .returned (iv (stepI i n x)) ∧ Mod [] w w' := by
  have hw1 := u8_in i hi
  have hw2 := u8_in n hn
  obtain ⟨d, hd⟩ : ∃ d, d = stepI i n x := ⟨_, rfl⟩
  rw [← hd]
  obtain ⟨ui, hui⟩ : ∃ u, u = UInt8.ofNat i := ⟨_, rfl⟩
  obtain ⟨un, hun⟩ : ∃ u, u = UInt8.ofNat n := ⟨_, rfl⟩
  rw [← hui] at hw1
  rw [← hun] at hw2
  have HD : Hid (digI ([67, ui, un] ++ flatI [x]) = d) := Lib.hid (by rw [hd, hui, hun, flatI_one]; rfl)
  have HG := Lib.hid (And.intro Gl (And.intro (show (3 : Nat) = [67, ui, un].length from rfl) (show (1 : Nat) = [x].length from rfl)))
  clear hd Gl hui hun
  go_enter Tryd.func71, Tryd.ntmps71
  go_wp2_with (first
    | (with_reducible refine wpList_boxes (o := ⟨some 3, .box 23 (.tmp 0), _, _, _, _⟩) rfl 23 (.tmp 0) rfl _ rfl (ic x) rfl ?_; intro w1 hb1 m1 z1; replace z1 := Lib.hid z1)
    | (with_reducible refine wpList_allocs (o := ⟨some 6, .alloc 23, _, _, _, _⟩) rfl 23 rfl _ zeroI_25 ?_; intro w2 hb2 m2 z2; replace z2 := Lib.hid z2)
    | (with_reducible refine wpList_made (o := ⟨some 11, .buildSlice 64 3 _, _, _, _, _⟩) (by with_unfolding_all rfl) _ 5 ([67, ui, un].map oct) (exec_head3 rfl rfl rfl) ?_
       intro w3 hb3 m3 z3
       replace z3 := Lib.hid z3)
    | (with_reducible refine wpList_loads (o := ⟨some 12, .load 23 (.tmp 3), _, _, _, _⟩) rfl 23 (.tmp 3) rfl w.heap.size 0 _ rfl (Cells.of_holds ((hb1.keep m2 (by simp)).keep m3 (by simp))) _ Tryd.underlying23 rfl (size25i x) (iv x) rfl ?_)
    | (with_reducible refine wpList_made (o := ⟨some 13, .buildSlice 33 1 _, _, _, _, _⟩) (by with_unfolding_all rfl) _ 23 (ic x) (exec_lit22 rfl rfl) ?_
       intro w4 hb4 m4 z4
       replace z4 := Lib.hid z4
       have X := digest_c (some ⟨w2.heap.size, 0, none⟩) [67, ui, un] 3 3 HG.out.2.1 (by decide) (some ⟨w3.heap.size, 0, none⟩) [x] 1 1 HG.out.2.2 (by decide) w4 (HG.out.1.then (((m1.then m2).then m3).then m4)) (Reads.of_holds (hb3.keep m4 (by simp))) (by simpa using Cells.of_holds hb4)
       rw [HD.out] at X)
    | (go_at_call 64; refine X.mono ?_; rintro e w5 ⟨rfl, m5⟩)
    | (with_reducible refine wpList_storesAll (o := ⟨none, .store 23 (.tmp 6) (.tmp 14), _, _, _, _⟩) rfl 23 (.tmp 6) (.tmp 14) rfl rfl w1.heap.size (ic d) rfl (iv d) rfl rfl 23 _ (((hb2.keep m3 (by simp)).keep m4 (by simp)).keep m5 (by simp)) (by rw [ic_length, ic_length]) (ic_one d) (size25i d) ?_
       intro w6 hb6 m6 z6))
  refine bodyPost_ret (results_cell_row rfl _ _ w1.heap.size 23 _ (0, 0) _ rfl hb6 Tryd.underlying23 rfl (by rw [List.size_toArray]; exact size25i d)) rfl ?_
  exact ⟨rfl, far_mod ((((m1.then m2).then m3).then m4).then m5) m6 (fun i hi => by simp at hi; rw [hi]; exact m1.size)⟩
set_option maxRecDepth 100000 in
set_option maxHeartbeats 4000000 in
theorem started_c (x : Idv) (i : Nat) (hi : i < 256) (w : World) (Gl : Glob w) :
    Calls Tryd.prog 61 #[iv x, .int .i64 (i : Int)] w fun r w' => r = .returned (iv (startI i x)) ∧ Mod [] w w' := by
  have hw1 := u8_in i hi
  obtain ⟨d, hd⟩ : ∃ d, d = startI i x := ⟨_, rfl⟩
  rw [← hd]
  obtain ⟨ui, hui⟩ : ∃ u, u = UInt8.ofNat i := ⟨_, rfl⟩
  rw [← hui] at hw1
  have HD : Hid (digI ([83, ui] ++ flatI [x]) = d) := Lib.hid (by rw [hd, hui, flatI_one]; rfl)
  have HG := Lib.hid (And.intro Gl (And.intro (show (2 : Nat) = [83, ui].length from rfl) (show (1 : Nat) = [x].length from rfl)))
  clear hd Gl hui
  go_enter Tryd.func61, Tryd.ntmps61
  go_wp2_with (first
    | (with_reducible refine wpList_boxes (o := ⟨some 2, .box 23 (.tmp 0), _, _, _, _⟩) rfl 23 (.tmp 0) rfl _ rfl (ic x) rfl ?_; intro w1 hb1 m1 z1; replace z1 := Lib.hid z1)
    | (with_reducible refine wpList_allocs (o := ⟨some 4, .alloc 23, _, _, _, _⟩) rfl 23 rfl _ zeroI_25 ?_; intro w2 hb2 m2 z2; replace z2 := Lib.hid z2)
    | (with_reducible refine wpList_made (o := ⟨some 7, .buildSlice 64 2 _, _, _, _, _⟩) (by with_unfolding_all rfl) _ 5 ([83, ui].map oct) (exec_head2 rfl rfl) ?_
       intro w3 hb3 m3 z3
       replace z3 := Lib.hid z3)
    | (with_reducible refine wpList_loads (o := ⟨some 8, .load 23 (.tmp 2), _, _, _, _⟩) rfl 23 (.tmp 2) rfl w.heap.size 0 _ rfl (Cells.of_holds ((hb1.keep m2 (by simp)).keep m3 (by simp))) _ Tryd.underlying23 rfl (size25i x) (iv x) rfl ?_)
    | (with_reducible refine wpList_made (o := ⟨some 9, .buildSlice 33 1 _, _, _, _, _⟩) (by with_unfolding_all rfl) _ 23 (ic x) (exec_lit22 rfl rfl) ?_
       intro w4 hb4 m4 z4
       replace z4 := Lib.hid z4
       have X := digest_c (some ⟨w2.heap.size, 0, none⟩) [83, ui] 2 2 HG.out.2.1 (by decide) (some ⟨w3.heap.size, 0, none⟩) [x] 1 1 HG.out.2.2 (by decide) w4 (HG.out.1.then (((m1.then m2).then m3).then m4)) (Reads.of_holds (hb3.keep m4 (by simp))) (by simpa using Cells.of_holds hb4)
       rw [HD.out] at X)
    | (go_at_call 64; refine X.mono ?_; rintro e w5 ⟨rfl, m5⟩)
    | (with_reducible refine wpList_storesAll (o := ⟨none, .store 23 (.tmp 4) (.tmp 10), _, _, _, _⟩) rfl 23 (.tmp 4) (.tmp 10) rfl rfl w1.heap.size (ic d) rfl (iv d) rfl rfl 23 _ (((hb2.keep m3 (by simp)).keep m4 (by simp)).keep m5 (by simp)) (by rw [ic_length, ic_length]) (ic_one d) (size25i d) ?_
       intro w6 hb6 m6 z6))
  refine bodyPost_ret (results_cell_row rfl _ _ w1.heap.size 23 _ (0, 0) _ rfl hb6 Tryd.underlying23 rfl (by rw [List.size_toArray]; exact size25i d)) rfl ?_
  exact ⟨rfl, far_mod ((((m1.then m2).then m3).then m4).then m5) m6 (fun i hi => by simp at hi; rw [hi]; exact m1.size)⟩
set_option maxRecDepth 100000 in
set_option maxHeartbeats 4000000 in
theorem keyOf_c (A : Option Addr) (l : List Idv) (n c : Nat) (hn : n = l.length) (hl : n ≤ 100) (w : World) (Gl : Glob w) (RA : Cells w A (l.flatMap ic)) :
    Calls Tryd.prog 52 #[.slice A n c] w fun r w' => r = .returned (iv (endsI l)) ∧ Mod [] w w' := by
  obtain ⟨d, hd⟩ : ∃ d, d = endsI l := ⟨_, rfl⟩
  rw [← hd]
  have HD : Hid (digI ([75] ++ flatI l) = d) := Lib.hid (by rw [hd]; rfl)
  have HG := Lib.hid (And.intro Gl (And.intro (show (1 : Nat) = [(75 : UInt8)].length from rfl) (And.intro hn (And.intro hl RA))))
  clear hd Gl hn hl RA
  go_enter Tryd.func52, Tryd.ntmps52
  go_wp2_with (first
    | (with_reducible refine wpList_allocs (o := ⟨some 2, .alloc 23, _, _, _, _⟩) rfl 23 rfl _ zeroI_25 ?_; intro w2 hb2 m2 z2; replace z2 := Lib.hid z2)
    | (with_reducible refine wpList_made (o := ⟨some 3, .buildSlice 64 1 _, _, _, _, _⟩) (by with_unfolding_all rfl) _ 5 ([75].map oct) (exec_head1 rfl) ?_
       intro w3 hb3 m3 z3
       replace z3 := Lib.hid z3
       have X := digest_c (some ⟨w2.heap.size, 0, none⟩) [75] 1 1 HG.out.2.1 (by decide) A l n c HG.out.2.2.1 HG.out.2.2.2.1 w3 (HG.out.1.then (m2.then m3)) (Reads.of_holds hb3) (HG.out.2.2.2.2.keep (m2.then m3) (by simp))
       rw [HD.out] at X)
    | (go_at_call 64; refine X.mono ?_; rintro e w5 ⟨rfl, m5⟩)
    | (with_reducible refine wpList_storesAll (o := ⟨none, .store 23 (.tmp 2) (.tmp 5), _, _, _, _⟩) rfl 23 (.tmp 2) (.tmp 5) rfl rfl w.heap.size (ic d) rfl (iv d) rfl rfl 23 _ ((hb2.keep m3 (by simp)).keep m5 (by simp)) (by rw [ic_length, ic_length]) (ic_one d) (size25i d) ?_
       intro w6 hb6 m6 z6))
  refine bodyPost_ret (results_cell_row rfl _ _ w.heap.size 23 _ (0, 0) _ rfl hb6 Tryd.underlying23 rfl (by rw [List.size_toArray]; exact size25i d)) rfl ?_
  exact ⟨rfl, far_mod ((m2.then m3).then m5) m6 (fun i hi => by simp at hi; rw [hi]; exact Nat.le_refl _)⟩
end
section
open Go.RowKit Go.Shelf
attribute [local go_sem] Oper.semAt_some
/-- So many steps of chain i from the place n on. -/
def walkI (i n : Nat) : Nat → Idv → Idv
  | 0, x => x
  | k + 1, x => stepI i (n + k) (walkI i n k x)
theorem KeepC.glob {ms : List Nat} {w v : World} (h : Glob w) (m : KeepC ms w v) (h1 : ∀ i ∈ ms, 2 ≤ i) : Glob v :=
  ⟨m.cells h.G (fun a ha => by cases ha; exact fun h => absurd (h1 _ h) (by decide)), m.cells h.G1 (fun a ha => by cases ha; exact fun h => absurd (h1 _ h) (by decide)), Nat.le_trans h.two m.size⟩
theorem Mod.keepC0 {ms : List Nat} {W W' : World} (h : Mod [] W W') : KeepC ms W W' := ⟨h.size, fun k _ _ h2 _ => (h.block k (Array.getElem?_eq_some_iff.1 h2).1 (by simp)).trans h2⟩
theorem wbehind_c (x : Idv) (c f t : Int) (w : World) : Calls Tryd.prog 62 #[iv x, .int .i64 c, .int .i64 f, .int .i64 t] w fun r w' =>
    ∃ b4 b5 b6 b7, r = .returned (.func (.func 70) #[] #[.pointer (some ⟨b4, 0, none⟩), .pointer (some ⟨b6, 0, none⟩), .pointer (some ⟨b7, 0, none⟩), .pointer (some ⟨b5, 0, none⟩)]) ∧ w.heap.size ≤ b4 ∧ w.heap.size ≤ b5 ∧ w.heap.size ≤ b6 ∧ w.heap.size ≤ b7 ∧
      Holds w' b4 23 (ic x) ∧ Holds w' b5 3 [.int .i64 c] ∧ Holds w' b6 3 [.int .i64 f] ∧ Holds w' b7 3 [.int .i64 t] ∧ Mod [] w w' := by
  go_enter Tryd.func62, Tryd.ntmps62
  go_wp2_with (first
    | (with_reducible refine wpList_boxes (o := ⟨some 4, .box 23 (.tmp 0), _, _, _, _⟩) rfl 23 (.tmp 0) rfl _ rfl (ic x) rfl ?_; intro w1 hb1 m1 z1; replace z1 := Lib.hid z1)
    | (with_reducible refine wpList_boxes (o := ⟨some 5, .box 3 (.tmp 1), _, _, _, _⟩) rfl 3 (.tmp 1) rfl _ rfl [.int .i64 c] rfl ?_; intro w2 hb2 m2 z2; replace z2 := Lib.hid z2)
    | (with_reducible refine wpList_boxes (o := ⟨some 6, .box 3 (.tmp 2), _, _, _, _⟩) rfl 3 (.tmp 2) rfl _ rfl [.int .i64 f] rfl ?_; intro w3 hb3 m3 z3; replace z3 := Lib.hid z3)
    | (with_reducible refine wpList_boxes (o := ⟨some 7, .box 3 (.tmp 3), _, _, _, _⟩) rfl 3 (.tmp 3) rfl _ rfl [.int .i64 t] rfl ?_; intro w4 hb4 m4 z4; replace z4 := Lib.hid z4))
  go_ret
  exact ⟨_, _, _, _, rfl, Nat.le_refl _, m1.size, (m1.then m2).size, ((m1.then m2).then m3).size, ((hb1.keep m2 (by simp)).keep m3 (by simp)).keep m4 (by simp), (hb2.keep m3 (by simp)).keep m4 (by simp), hb3.keep m4 (by simp), hb4, ((m1.then m2).then m3).then m4⟩
/-- Memory as the iterator reads it. -/
structure Bh (ms : List Nat) (b4 b5 b6 b7 : Nat) (x : Idv) (c f t : Nat) (W : World) : Prop where
  gl : Glob W
  h4 : Holds W b4 23 (ic x)
  h5 : Holds W b5 3 [.int .i64 (c : Int)]
  h6 : Holds W b6 3 [.int .i64 (f : Int)]
  h7 : Holds W b7 3 [.int .i64 (t : Int)]
  ne : b4 ∉ ms ∧ b5 ∉ ms ∧ b6 ∉ ms ∧ b7 ∉ ms ∧ ∀ i ∈ ms, 2 ≤ i
theorem Bh.keep {ms : List Nat} {b4 b5 b6 b7 : Nat} {x : Idv} {c f t : Nat} {W V : World} (h : Bh ms b4 b5 b6 b7 x c f t W) (m : KeepC ms W V) : Bh ms b4 b5 b6 b7 x c f t V :=
  ⟨m.glob h.gl h.ne.2.2.2.2, m.holds h.h4 h.ne.1, m.holds h.h5 h.ne.2.1, m.holds h.h6 h.ne.2.2.1, m.holds h.h7 h.ne.2.2.2.1, h.ne⟩
theorem Bh.mod {ms : List Nat} {b4 b5 b6 b7 : Nat} {x : Idv} {c f t g : Nat} {W V : World} (h : Bh ms b4 b5 b6 b7 x c f t W) (m : Mod [g] W V) (h2 : 2 ≤ g) (n4 : b4 ≠ g) (n5 : b5 ≠ g) (n6 : b6 ≠ g) (n7 : b7 ≠ g) : Bh ms b4 b5 b6 b7 x c f t V :=
  ⟨h.gl.keep m (by simpa using h2), h.h4.keep m (by simpa using n4), h.h5.keep m (by simpa using n5), h.h6.keep m (by simpa using n6), h.h7.keep m (by simpa using n7), h.ne⟩
abbrev encB (y : Idv) : Array Value := #[iv y]
def FxB (c f : Nat) (x : Idv) (pre : List Idv) (y : Idv) (_ : World) : Prop := y = walkI c f (pre.length + 1) x
set_option maxRecDepth 100000 in
set_option maxHeartbeats 4000000 in
theorem behind_in (n : Nat) (hn : 1 ≤ n) (y b4 b5 b6 b7 : Nat) (ms : List Nat) (x : Idv) (c f t N : Nat) (hN : f + N = t) (hc : c < 256) (ht : t ≤ 15) (J Jx : List Idv → World → Prop) (W : World)
    (hJ : ∀ pre v v', J pre v → Mod [] v v' → J pre v') (hJ1 : ∀ pre g v v', J pre v → Mod [g] v v' → W.heap.size ≤ g → J pre v')
    (hY : ∀ pre z V, FxB c f x pre z V → J pre V → pre.length < N → YieldAt Fence.wide (n - 1) Tryd.prog y (encB z) V fun r W' => (r = .returned (.bool true) ∧ J (pre ++ [z]) W' ∧ KeepC ms V W') ∨ (r = .returned (.bool false) ∧ Jx (pre ++ [z]) W'))
    (H : Bh ms b4 b5 b6 b7 x c f t W) (hms : ∀ i ∈ ms, i < W.heap.size) (h0 : J [] W) :
    CallsIn Fence.wide n Tryd.prog 70 #[.func (.yield y) #[] #[], .pointer (some ⟨b4, 0, none⟩), .pointer (some ⟨b6, 0, none⟩), .pointer (some ⟨b7, 0, none⟩), .pointer (some ⟨b5, 0, none⟩)] W fun r W' => (∃ v, r = .returned v) ∧ ((∃ zs, zs.length = N ∧ J zs W') ∨ ∃ pre, True ∧ Jx pre W') := by
  have d6 := H.h6.cell 0
  simp only [List.getElem?_cons_zero] at d6
  have hfZ : (f : Int) ≤ 15 := by omega
  have htZ : (t : Int) ≤ 15 := by omega
  have HW := Lib.hid (And.intro H (And.intro hms (And.intro hN (And.intro hc ht))))
  clear H hms hN hc ht
  refine callsIn_of_wp Tryd.func70 rfl trivial ?_ rfl
  simp only [Tryd.ntmps70, List.size_toArray, List.length_cons, List.length_nil, Nat.reduceAdd, Nat.reduceSub, Array.replicate_succ, Array.replicate_zero, List.push_toArray, List.append_toArray, List.nil_append, List.cons_append]
  gi_wp2_with (first
    | (with_reducible refine wpListIn_loads (o := ⟨some 8, .load 23 (.tmp 1), _, _, _, _⟩) rfl 23 (.tmp 1) rfl b4 0 _ rfl (Cells.of_holds HW.out.1.h4) _ Tryd.underlying23 rfl (size25i x) (iv x) rfl ?_)
    | (with_reducible refine wpListIn_allocs (o := ⟨some 6, .alloc 23, _, _, _, _⟩) rfl 23 rfl _ zeroI_25 ?_; intro v1 hv1 mv1 zv1)
    | (with_reducible refine wpListIn_storesAll (o := ⟨none, .store 23 (.tmp 6) (.tmp 8), _, _, _, _⟩) rfl 23 (.tmp 6) (.tmp 8) rfl rfl W.heap.size (ic x) rfl (iv x) rfl rfl 23 _ hv1 (by rw [ic_length, ic_length]) (ic_one x) (size25i x) ?_
       intro v2 hv2 mv2 zv2
       have mm : Mod [] W v2 := mv1.trans mv2 (by intro i hi h; simp at h; omega)
       have e6 : v2.cell? ⟨b6, 0, none⟩ = some (.int .i64 (f : Int)) := Mod.cell mm (by simp) d6
       have hJ0 := hJ _ _ _ h0 mm
       obtain ⟨bg, hbg⟩ : ∃ b, b = W.heap.size := ⟨_, rfl⟩
       rw [← hbg] at hv2 ⊢
       have HB := Lib.hid (And.intro hbg (show W.heap.size < v2.heap.size by omega))
       clear hv1 mv1 zv1 mv2 zv2 hbg))
  gi_loopw [7] (fun i wr => ∃ pre : List Idv, pre.length ≤ N ∧ i = .int .i64 ((f + pre.length : Nat) : Int) ∧ J pre wr ∧ Holds wr bg 23 (ic (walkI c f pre.length x)) ∧ Bh ms b4 b5 b6 b7 x c f t wr ∧ v2.heap.size ≤ wr.heap.size) (fun i _ => ((t : Int) - intOf i).toNat)
  case atStart => exact ⟨[], Nat.zero_le _, by simp, hJ0, hv2, HW.out.1.keep mm.keepC0, Nat.le_refl _⟩
  case round =>
    obtain ⟨pre, hle, rfl, hJs, hbr, hB, hsz⟩ := hrel
    obtain ⟨j, hj⟩ : ∃ j, j = f + pre.length := ⟨_, rfl⟩
    rw [← hj]
    have a7 := hB.h7.cell 0
    have a5 := hB.h5.cell 0
    simp only [List.getElem?_cons_zero] at a7 a5
    by_cases hlt : j < t
    · have hjt : (j : Int) < (t : Int) := by omega
      obtain ⟨z0, hz0⟩ : ∃ z, z = walkI c f pre.length x := ⟨_, rfl⟩
      obtain ⟨z, hz⟩ : ∃ z, z = walkI c f (pre.length + 1) x := ⟨_, rfl⟩
      have hzz : stepI c j z0 = z := by rw [hz, hz0, hj]; rfl
      have X := stepped_c z0 c j HW.out.2.2.2.1 (by have := HW.out.2.2.2.2; omega) wr hB.gl
      rw [hzz] at X
      rw [← hz0] at hbr
      have hF : ∀ V, FxB c f x pre z V := fun V => hz
      have hlN : pre.length < N := by have := HW.out.2.2.1; omega
      have HQ := Lib.hid (And.intro hj (And.intro hlt (And.intro hB (And.intro hbr (And.intro hJs (And.intro hsz (And.intro hlN hz)))))))
      have hjZ : (j : Int) ≤ 15 := by omega
      clear hj hB hbr hJs hsz hz hz0 hzz hle hlt hv2 hJ0 mm e6 d6
      gi_wp2_with (first
        | (with_reducible refine wpListIn_loads (o := ⟨some 15, .load 23 (.tmp 6), _, _, _, _⟩) rfl 23 (.tmp 6) rfl bg 0 _ rfl (Cells.of_holds HQ.out.2.2.2.1) _ Tryd.underlying23 rfl (size25i z0) (iv z0) rfl ?_)
        | (refine ⟨trivial, (callsIn_wide.2 X).mono ?_⟩
           rintro r w1 ⟨rfl, m1⟩
           clear X)
        | (with_reducible refine wpListIn_storesAll (o := ⟨none, .store 23 (.tmp 6) (.tmp 18), _, _, _, _⟩) rfl 23 (.tmp 6) (.tmp 18) rfl rfl bg (ic z) rfl (iv z) rfl rfl 23 _ (HQ.out.2.2.2.1.keep m1 (by simp)) (by rw [ic_length, ic_length]) (ic_one z) (size25i z) ?_
           intro w2 hb2 m2 z2
           have hbgW : W.heap.size ≤ bg := by have := HB.out.1; omega
           have hB1 := HQ.out.2.2.1.keep m1.keepC0
           have hlt0 := HW.out.1.h4.lt
           have hlt1 := HW.out.1.h5.lt
           have hlt2 := HW.out.1.h6.lt
           have hlt3 := HW.out.1.h7.lt
           have hB2 : Bh ms b4 b5 b6 b7 x c f t w2 := hB1.mod m2 (by have := HW.out.1.gl.two; omega) (by omega) (by omega) (by omega) (by omega)
           have hJ2 := hJ1 _ bg _ _ (hJ _ _ _ HQ.out.2.2.2.2.1 m1) m2 hbgW
           have hyy := hY pre z w2 (hF w2) hJ2 hlN
           obtain ⟨fn, tmps, assign, body, hy, hR⟩ := hyy
           have HM := Lib.hid (And.intro hb2 (And.intro hB2 (And.intro (show wr.heap.size ≤ w2.heap.size from Nat.le_trans m1.size m2.size) hbgW)))
           clear m1 m2 z2 hB1 hB2 hJ2 hbgW hlt0 hlt1 hlt2 hlt3)
        | (with_reducible refine wpListIn_loads (o := ⟨some 20, .load 23 (.tmp 6), _, _, _, _⟩) rfl 23 (.tmp 6) rfl bg 0 _ rfl (Cells.of_holds HM.out.1) _ Tryd.underlying23 rfl (size25i z) (iv z) rfl ?_))
      refine hR.mono ?_
      rintro r W3 (⟨rfl, hJ3, hk3⟩ | ⟨rfl, hJx3⟩)
      · have hbg3 : bg ∉ ms := fun h => by have := HW.out.2.1 _ h; have := HM.out.2.2.2; omega
        gi_wp2
        refine ⟨⟨pre ++ [z], by simp; omega, by have := HQ.out.1; simp; omega, hJ3, by rw [List.length_append, show pre.length + [z].length = pre.length + 1 from rfl, ← HQ.out.2.2.2.2.2.2.2]; exact hk3.holds HM.out.1 hbg3, HM.out.2.1.keep hk3, by have := HM.out.2.2.1; have := hk3.size; have := HQ.out.2.2.2.2.2.1; omega⟩, by simp [intOf]; omega⟩
      · gi_wp2
        refine bodyPost_ret (results_none rfl _ _ _) rfl ?_
        exact ⟨⟨_, rfl⟩, .inr ⟨_, trivial, hJx3⟩⟩
    · have hjk : ¬ (j : Int) < (t : Int) := by omega
      have HQ := Lib.hid (And.intro hj (And.intro hJs hle))
      clear hj hJs hle hB hbr hsz hv2 hJ0 mm e6 d6
      gi_wp2
      go_end0
      exact ⟨⟨_, rfl⟩, .inl ⟨pre, by have := HW.out.2.2.1; have := HQ.out.1; have := HQ.out.2.2; omega, HQ.out.2.1⟩⟩
theorem behind_any (n : Nat) (hn : 1 ≤ n) (b4 b5 b6 b7 : Nat) (ms : List Nat) (x : Idv) (c f t N : Nat) (hN : f + N = t) (hc : c < 256) (ht : t ≤ 15) (w : World) (H : Bh ms b4 b5 b6 b7 x c f t w) (hms : ∀ i ∈ ms, i < w.heap.size) :
    SeqAny Fence.wide n Tryd.prog 70 #[.pointer (some ⟨b4, 0, none⟩), .pointer (some ⟨b6, 0, none⟩), .pointer (some ⟨b7, 0, none⟩), .pointer (some ⟨b5, 0, none⟩)] encB (FxB c f x) (KeepC ms) (fun zs => zs.length = N) (fun _ => True) N w := fun y J Jx W hW hJ hJx hY h0 => by
  have hk : KeepC ms w W := ⟨hW.size, fun k o _ h1 _ => (hW.block k (Array.getElem?_eq_some_iff.1 h1).1).trans h1⟩
  exact behind_in n hn y b4 b5 b6 b7 ms x c f t N hN hc ht J Jx W (fun pre v v' h m => hJ.mod h m) (fun pre g v v' h m hg => hJ.mod1 h m hg) hY (H.keep hk) (fun i hi => Nat.lt_of_lt_of_le (hms i hi) hW.size) h0
end
section
open Go.RowKit Go.Shelf
attribute [local go_sem] Oper.semAt_some
theorem any_mod {w W W' : World} {row : Option Nat} (h : Mod [] w W) (hg : W.grownBy W' row) (hr : ∀ r, row = some r → w.heap.size ≤ r) : Mod [] w W' :=
  ⟨hg.os.trans h.os, hg.tape.trans h.tape, hg.output.trans h.output, Nat.le_trans h.size hg.size, fun k hk _ => (hg.block k (Nat.lt_of_lt_of_le hk h.size) (fun e => by have := hr k e.symm; omega)).trans (h.block k hk (by simp))⟩
theorem any_holds {W W' : World} {g n : Nat} {t : TypeId} {cs : List Value} {row : Option Nat} (h : Holds W g t cs) (hg : W.grownBy W' row) (hr : ∀ r, row = some r → n ≤ r) (hn : g < n) : Holds W' g t cs :=
  (hg.block g h.lt (fun e => by have := hr g e.symm; omega)).trans h
set_option maxRecDepth 100000 in
set_option maxHeartbeats 4000000 in
theorem reached_c (x : Idv) (c f t N : Nat) (hN : f + N = t) (hc : c < 256) (ht : t ≤ 15) (w : World) (Gl : Glob w) :
    Calls Tryd.prog 47 #[iv x, .int .i64 (c : Int), .int .i64 (f : Int), .int .i64 (t : Int)] w fun r w' => r = .returned (iv (walkI c f N x)) ∧ Mod [] w w' := by
  obtain ⟨d, hd⟩ : ∃ d, d = walkI c f N x := ⟨_, rfl⟩
  rw [← hd]
  have HH := Lib.hid (And.intro hd (And.intro Gl (And.intro hN (And.intro hc ht))))
  clear hd Gl hN hc ht
  refine (callsIn_wide (n := 5)).1 ?_
  refine callsIn_of_wp_marks Tryd.func47 rfl trivial ?_ rfl
  simp only [Tryd.ntmps47, List.size_toArray, List.length_cons, List.length_nil, Nat.reduceAdd, Nat.reduceSub, Array.replicate_succ, Array.replicate_zero, List.push_toArray, List.append_toArray, List.nil_append, List.cons_append]
  refine wpIn_wide.2 ?_
  go_wp2_with (first
    | (with_reducible refine wpList_boxes (o := ⟨some 4, .box 23 (.tmp 0), _, _, _, _⟩) rfl 23 (.tmp 0) rfl _ rfl (ic x) rfl ?_; intro w1 hb1 m1 z1)
    | (with_reducible refine wpList_allocs (o := ⟨some 8, .alloc 23, _, _, _, _⟩) rfl 23 rfl _ zeroI_25 ?_; intro w2 hb2 m2 z2
       obtain ⟨b4, hb4⟩ : ∃ b, b = w.heap.size := ⟨_, rfl⟩
       obtain ⟨b8, hb8⟩ : ∃ b, b = w1.heap.size := ⟨_, rfl⟩
       have k4 : Holds w2 b4 23 (ic x) := by rw [hb4]; exact hb1.keep m2 (by simp)
       have k8 : Holds w2 b8 23 (ic zeroI) := by rw [hb8]; exact hb2
       have o1 : b4 < b8 := by omega
       have o2 : b8 < w2.heap.size := by omega
       have o3 : w.heap.size ≤ b4 := by omega
       have mm : Mod [] w w2 := m1.then m2
       rw [← hb4, ← hb8]
       clear hb4 hb8 hb1 hb2 m1 m2 z1 z2)
    | (with_reducible refine wpList_loads (o := ⟨some 10, .load 23 (.tmp 4), _, _, _, _⟩) rfl 23 (.tmp 4) rfl b4 0 _ rfl (Cells.of_holds k4) _ Tryd.underlying23 rfl (size25i x) (iv x) rfl ?_)
    | (go_at_call 62; refine (wbehind_c x _ _ _ _).mono ?_
       rintro e w3 ⟨c4, c5, c6, c7, rfl, p4, p5, p6, p7, q4, q5, q6, q7, m3⟩))
  have r4 : Holds w3 b4 23 (ic x) := k4.keep m3 (by simp)
  have r8 : Holds w3 b8 23 (ic zeroI) := k8.keep m3 (by simp)
  have mm3 : Mod [] w w3 := mm.then m3
  have hB : Bh [b4] c4 c5 c6 c7 x c f t w3 := ⟨HH.out.2.1.then mm3, q4, q5, q6, q7, by simp; have := HH.out.2.1.two; omega⟩
  have hlt8 : b8 < w3.heap.size := r8.lt
  refine (wpIn_wide (n := 5)).1 ?_
  refine wpIn_rangeFunc_any (F := Fence.wide) (n := 5) rfl (by omega) (gf := 70) (lb := #[.pointer (some ⟨c4, 0, none⟩), .pointer (some ⟨c6, 0, none⟩), .pointer (some ⟨c7, 0, none⟩), .pointer (some ⟨c5, 0, none⟩)]) rfl trivial (enters_of Tryd.func70 (by kernel_rfl) rfl)
    (behind_any 4 (by omega) c4 c5 c6 c7 [b4] x c f t N HH.out.2.2.1 HH.out.2.2.2.1 HH.out.2.2.2.2 w3 hB (by simp; omega))
    (fun h k => h.trans k) (fun W l o o' hl ho h1 _ => KeepC.putObj W l o o' ho h1) (Below.refl _ _) (fun _ => rfl)
    (fun pre W => Holds W b4 23 (ic (walkI c f pre.length x)) ∧ Holds W b8 23 (ic zeroI) ∧ Mod [] w W)
    (fun _ _ _ => False)
    (fun s A B row hs hg hr => ⟨any_holds hs.1 hg hr (by omega), any_holds hs.2.1 hg hr (by omega), any_mod hs.2.2 hg (fun r e => Nat.le_trans mm3.size (hr r e))⟩) (fun _ _ _ _ _ hs _ _ => hs.elim) ⟨r4, r8, mm3⟩
    (fun pre z a' W => z = walkI c f (pre.length + 1) x ∧ ∃ Bx, b8 < Bx ∧ Holds W Bx 23 (ic z) ∧ a' = { tmps := #[iv x, .int .i64 (c : Int), .int .i64 (f : Int), .int .i64 (t : Int), .pointer (some ⟨b4, 0, none⟩), undef, undef, undef, .pointer (some ⟨b8, 0, none⟩), .pointer (some ⟨Bx, 0, none⟩), iv x, .int .i64 (c : Int), .int .i64 (f : Int), .int .i64 (t : Int), .func (.func 70) #[] #[.pointer (some ⟨c4, 0, none⟩), .pointer (some ⟨c6, 0, none⟩), .pointer (some ⟨c7, 0, none⟩), .pointer (some ⟨c5, 0, none⟩)], iv z, undef, undef], defers := [] })
    (fun pre z a' s A B row hs hg hr => ?hAx) ?assign ?body ?done ?stop
  case hAx =>
    obtain ⟨h0, Bx, h1, h2, h3⟩ := hs
    exact ⟨h0, Bx, h1, holds_own h2 hg (fun r e => (hr r e).2), h3⟩
  case assign =>
    rintro l pre z W K ⟨h1, h2, h3⟩ hF hK
    have hlt := h2.lt
    rw [zip_one]
    change Code.wpIn _ _ _ _ _ { tmps := #[iv x, .int .i64 (c : Int), .int .i64 (f : Int), .int .i64 (t : Int), .pointer (some ⟨b4, 0, none⟩), undef, undef, undef, .pointer (some ⟨b8, 0, none⟩), undef, iv x, .int .i64 (c : Int), .int .i64 (f : Int), .int .i64 (t : Int), .func (.func 70) #[] #[.pointer (some ⟨c4, 0, none⟩), .pointer (some ⟨c6, 0, none⟩), .pointer (some ⟨c7, 0, none⟩), .pointer (some ⟨c5, 0, none⟩)], iv z, undef, undef], defers := [] } W
    gi_wp2_with (first
      | (with_reducible refine wpListIn_allocs (o := ⟨some 9, .alloc 23, _, _, _, _⟩) rfl 23 rfl _ zeroI_25 ?_; intro v1 hv1 mv1 zv1)
      | (with_reducible refine wpListIn_storesAll (o := ⟨none, .store 23 (.tmp 9) (.tmp 15), _, _, _, _⟩) rfl 23 (.tmp 9) (.tmp 15) rfl rfl W.heap.size (ic z) rfl (iv z) rfl rfl 23 _ hv1 (by rw [ic_length, ic_length]) (ic_one z) (size25i z) ?_; intro v2 hv2 mv2 zv2))
    have mv : Mod [] W v2 := mv1.trans mv2 (by intro i hi h; simp at h; omega)
    exact hK _ _ (mv.keepsFrom _) mv.keepC0 ⟨h1.keep mv (by simp), h2.keep mv (by simp), h3.then mv⟩ ⟨hF, W.heap.size, hlt, hv2, rfl⟩
  case body =>
    rintro l pre z a' W hl _ ⟨h1, h2, h3⟩ ⟨hz, Bx, hlt, hX, rfl⟩ _
    gi_wp2_with (first
      | (with_reducible refine wpListIn_loads (o := ⟨some 16, .load 23 (.tmp 9), _, _, _, _⟩) rfl 23 (.tmp 9) rfl Bx 0 _ rfl (Cells.of_holds hX) _ Tryd.underlying23 rfl (size25i z) (iv z) rfl ?_)
      | (with_reducible refine wpListIn_storesAll (o := ⟨none, .store 23 (.tmp 4) (.tmp 16), _, _, _, _⟩) rfl 23 (.tmp 4) (.tmp 16) rfl rfl b4 (ic z) rfl (iv z) rfl rfl 23 _ h1 (by rw [ic_length, ic_length]) (ic_one z) (size25i z) ?_; intro v2 hv2 mv2 zv2))
    exact ⟨mv2.keepsFrom1 h1 _, mv2.keepC, by rw [List.length_append, show pre.length + [z].length = pre.length + 1 from rfl, ← hz]; exact hv2, h2.keep mv2 (by simp; omega), far_mod h3 mv2 (by simp; omega)⟩
  case done =>
    rintro D xs W hD hxs ⟨h1, h2, h3⟩ hK
    have hD8 : D ≠ b8 := by omega
    rw [hxs, ← HH.out.1] at h1
    have HV := Lib.hid (And.intro h3 (And.intro hK (And.intro hD8 h2)))
    clear h3 h2 hK hD8
    go_wp2_with (first
      | (with_reducible refine wpList_loads (o := ⟨some 17, .load 23 (.tmp 4), _, _, _, _⟩) rfl 23 (.tmp 4) rfl b4 0 _ rfl (Cells.of_holds h1) _ Tryd.underlying23 rfl (size25i d) (iv d) rfl ?_)
      | (with_reducible refine wpList_storesAll (o := ⟨none, .store 23 (.tmp 8) (.tmp 17), _, _, _, _⟩) rfl 23 (.tmp 8) (.tmp 17) rfl rfl b8 (ic d) rfl (iv d) rfl rfl 23 _ HV.out.2.2.2 (by rw [ic_length, ic_length]) (ic_one d) (size25i d) ?_; intro v2 hv2 mv2 zv2))
    obtain ⟨h3, hK, hD8, _⟩ := HV.out
    have hK2 : v2.heap[D]? = some (.deferred (some [])) := (mv2.block D (Array.getElem?_eq_some_iff.1 hK).1 (by simpa using hD8)).trans hK
    have hB : Holds (v2.putObj D (.deferred none)) b8 23 (ic d) := holds_own hv2 (grownBy_putObj' v2 D (.deferred none)) (fun r e => by cases e; exact ⟨_, hK2, rfl⟩)
    have hM : Mod [] w (v2.putObj D (.deferred none)) := mod_own (far_mod h3 mv2 (by simp; omega)) (grownBy_putObj' v2 D (.deferred none)) (fun r e => by cases e; have := mm3.size; omega)
    refine ⟨by simp, .inl ⟨_, _, rfl, run_takeDeferred hK2, ?_⟩⟩
    exact ⟨_, results_cell_row rfl _ _ b8 23 _ (0, 0) _ rfl hB Tryd.underlying23 rfl (by rw [List.size_toArray]; exact size25i d), rfl, hM⟩
  case stop =>
    rintro D cd pre W hD _ hf hK
    exact hf.elim
end
section
open Go.RowKit Go.Shelf
/-- A number as a cell. -/
def fi (n : Nat) : List Value := [.int .i64 (n : Int)]
theorem fi_length (n : Nat) : (fi n).length = 1 := rfl
theorem fi_one (n : Nat) : ∀ v ∈ fi n, v.oneCell' = true := by simp [fi, Value.oneCell']
/-- So many digits of n, the highest first. -/
def digs (n count : Nat) : List Nat := (List.range count).map fun k => n / 2 ^ (4 * (count - 1 - k)) % 16
theorem digs_length (n count : Nat) : (digs n count).length = count := by simp [digs]
theorem digs_next (n count k : Nat) (h : k < count) : (digs n count).take (k + 1) = (digs n count).take k ++ [n / 2 ^ (4 * (count - 1 - k)) % 16] := by
  rw [List.take_succ_eq_append_getElem (by rw [digs_length]; exact h)]
  simp [digs]
theorem exec_shr {P : Program} {v : World} {o : Oper} {ρ : Operand → Value} {t t' : TypeId} {x y : Operand} {a s : Nat} (hs : s < 64) (ho : o.op = .binOp .shr t x y t') (hx : ρ x = .int .i64 (a : Int)) (hy : ρ y = .int .i64 (s : Int)) : (execOp ρ o).run P v = .ok (.value (.int .i64 ((a / 2 ^ s : Nat) : Int))) v := by
  unfold execOp
  simp [ho, hx, hy, go_sem]
theorem and15i (a : Nat) : bits .and .i64 (a : Int) 15 = ((a % 16 : Nat) : Int) := by
  have e : (15 : Int) = ((15 : Nat) : Int) := rfl
  rw [e]
  show IntKind.i64.wrap ((BitVec.ofInt 64 (a : Int) &&& BitVec.ofInt 64 ((15 : Nat) : Int)).toNat : Int) = _
  rw [ofInt_nat, ofInt_nat, BitVec.toNat_and, BitVec.toNat_ofNat, BitVec.toNat_ofNat]
  have h1 : a % 2 ^ 64 &&& 15 % 2 ^ 64 = a % 16 := by
    rw [show (15 % 2 ^ 64 : Nat) = 2 ^ 4 - 1 from rfl, Nat.and_two_pow_sub_one_eq_mod]
    omega
  rw [h1, IntWalk.i64_in _ (by omega)]
theorem run_lit26 (d : Nat) (w : World) : (Instr.buildSlice 24 1 #[(0, .int .i64 (d : Int))]).run Tryd.prog w = .ok (.slice (some ⟨w.heap.size, 0, none⟩) 1 1) (w.alloc (.cells (fi d).toArray 3)) := by
  go_simp
  rfl
theorem exec_lit26 {a : Act} {o : Oper} {w : World} {x : Operand} {d : Nat} (ho : o.op = .buildSlice 24 1 #[(0, x)]) (hx : a.eval x = .int .i64 (d : Int)) : (execOp a.eval o).run Tryd.prog w = .ok (.value (.slice (some ⟨w.heap.size, 0, none⟩) 1 1)) (w.alloc (.cells (fi d).toArray 3)) := by
  unfold execOp
  simp only [ho, List.map_toArray, List.map_cons, List.map_nil, hx, Sem.run_bind, run_lit26, Result.andThen, Sem.run_pure]
theorem int_zero : (Tryd.prog.info? 3).map (fun i => (i.zero, i.size, i.bytes)) = some (some (.int .i64 0), 1, 8) := by kernel_rfl
theorem OwnG.notin {α : Type} {f : α → List Value} {e : TypeId} {size : Nat} {w : World} {A : Option Addr} {c : Nat} {l : List α} (h : OwnG f e size w A c l) {i : Nat} (hi : i ∈ blk A) : i < w.heap.size := by
  obtain ⟨a, ha, rfl⟩ := mem_blk hi
  exact h.lt a ha
set_option maxRecDepth 100000 in
set_option maxHeartbeats 4000000 in
theorem inDigits_c (A : Option Addr) (c m : Nat) (l : List Nat) (n count : Nat) (hm : m = l.length) (hl : m ≤ 1000) (hn : n < 2147483648) (hc0 : 0 < count) (hc : count ≤ 3) (w : World) (hO : OwnG fi 3 1 w A c l) :
    Calls Tryd.prog 59 #[.slice A m c, .int .i64 (n : Int), .int .i64 (count : Int)] w fun r w' => ∃ A' c', r = .returned (.slice A' (l ++ digs n count).length c') ∧ OwnG fi 3 1 w' A' c' (l ++ digs n count) ∧ Mod (blk A) w w' ∧ (∀ i ∈ blk A', i ∈ blk A ∨ w.heap.size ≤ i) := by
  obtain ⟨i0, hi, hz0, hz1, hz2⟩ := info_parts int_zero
  have HI := Lib.hid (And.intro hi (And.intro hz0 (And.intro hz1 hz2)))
  have hcZ : (count : Int) ≤ 3 := by omega
  obtain ⟨c1, hc1⟩ : ∃ k, k = count - 1 := ⟨_, rfl⟩
  have HC : Hid (IntKind.i64.wrap ((count : Int) - 1) = (c1 : Int)) := Lib.hid (by rw [IntWalk.i64_in _ (by omega)]; omega)
  have HH := Lib.hid (And.intro hm (And.intro hl (And.intro hn (And.intro hc (And.intro hO (And.intro hc1 hc0))))))
  clear hi hz0 hz1 hz2 hm hl hn hc hO hc1 hc0
  go_enter Tryd.func59, Tryd.ntmps59
  go_wp2_with fail
  go_loopw [9, 0] (fun i x wi => ∃ (k : Nat) (A1 : Option Addr) (c' m' : Nat), k ≤ count ∧ i = .int .i64 (k : Int) ∧ x = .slice A1 m' c' ∧ m' = (l ++ (digs n count).take k).length ∧ OwnG fi 3 1 wi A1 c' (l ++ (digs n count).take k) ∧ Mod (blk A) w wi ∧ (∀ i ∈ blk A1, i ∈ blk A ∨ w.heap.size ≤ i)) (fun i _ _ => count - (intOf i).toNat)
  case atStart => exact ⟨0, A, c, m, by omega, rfl, rfl, by simpa using HH.out.1, by simpa using HH.out.2.2.2.2.1, Mod.refl _ _, fun i hi => .inl hi⟩
  case round =>
    obtain ⟨k, A1, c', m', hk, rfl, rfl, hm, hOw, hmi, hbl⟩ := hrel
    by_cases hkn : k < count
    · have hkZ : (k : Int) < (count : Int) := by omega
      obtain ⟨e, he⟩ : ∃ e, e = c1 - k := ⟨_, rfl⟩
      obtain ⟨s4, hs4⟩ : ∃ e, e = 4 * (count - 1 - k) := ⟨_, rfl⟩
      obtain ⟨d, hd⟩ : ∃ d, d = n / 2 ^ s4 % 16 := ⟨_, rfl⟩
      have hcc := HH.out.2.2.2.2.2.1
      have hcc3 := HH.out.2.2.2.1
      have he1 : IntKind.i64.wrap ((c1 : Int) - (k : Int)) = (e : Int) := by rw [IntWalk.i64_in _ (by omega)]; omega
      have he2 : IntKind.i64.wrap (4 * (e : Int)) = (s4 : Int) := by rw [IntWalk.i64_in _ (by omega)]; omega
      have hs63 : s4 < 64 := by omega
      have hsn := digs_next n count k hkn
      rw [← hs4, ← hd] at hsn
      obtain ⟨q, hq⟩ : ∃ q, q = n / 2 ^ s4 := ⟨_, rfl⟩
      have hml : m' ≤ 1003 := by rw [hm, List.length_append, List.length_take, digs_length]; have := HH.out.1; have := HH.out.2.1; omega
      have HE := Lib.hid (And.intro he1 (And.intro he2 (And.intro hs63 (And.intro hd (And.intro hsn (And.intro hm (And.intro hOw (And.intro hmi (And.intro hbl (And.intro hml hq))))))))))
      clear he he1 he2 hs4 hd hsn hs63 hm hOw hmi hbl hml hcc hcc3 hq
      go_wp2_with (first
        | (with_reducible refine wpList_ranW (o := ⟨some 15, .binOp _ _ _ _ _, _, _, _, _⟩) (by with_unfolding_all rfl) (.int .i64 (c1 : Int)) wr (exec_sub rfl rfl rfl HC.out) ?_)
        | (with_reducible refine wpList_ranW (o := ⟨some 17, .binOp _ _ _ _ _, _, _, _, _⟩) (by with_unfolding_all rfl) (.int .i64 (e : Int)) wr (exec_sub rfl rfl rfl HE.out.1) ?_)
        | (with_reducible refine wpList_ranW (o := ⟨some 18, .binOp _ _ _ _ _, _, _, _, _⟩) (by with_unfolding_all rfl) (.int .i64 (s4 : Int)) wr (exec_mul rfl rfl rfl HE.out.2.1) ?_)
        | (with_reducible refine wpList_ranW (o := ⟨some 19, .binOp _ _ _ _ _, _, _, _, _⟩) (by with_unfolding_all rfl) (.int .i64 (q : Int)) wr (by rw [HE.out.2.2.2.2.2.2.2.2.2.2]; exact exec_shr HE.out.2.2.1 rfl rfl rfl) ?_)
        | (with_reducible refine wpList_ranW (o := ⟨some 20, .binOp _ _ _ _ _, _, _, _, _⟩) (by with_unfolding_all rfl) (.int .i64 (d : Int)) wr (exec_and rfl rfl rfl (by rw [HE.out.2.2.2.1, ← HE.out.2.2.2.2.2.2.2.2.2.2]; exact and15i q)) ?_)
        | (with_reducible refine wpList_made (o := ⟨some 21, .buildSlice 24 1 _, _, _, _, _⟩) (by with_unfolding_all rfl) _ 3 (fi d) (exec_lit26 rfl rfl) ?_
           intro w3 hb3 m3 z3
           have O3 := HE.out.2.2.2.2.2.2.1.keep m3 (by simp)
           replace z3 := Lib.hid z3)
        | (refine wpList_appendG (f := fi) w3 (o := ⟨some 22, _, _, _, _, _⟩) rfl (.tmp 12) (.tmp 21) 24 rfl 3 i0 (.int .i64 0) 8 Tryd.underlying24 HI.out.1 HI.out.2.1 HI.out.2.2.1 HI.out.2.2.2 rfl (by decide) fi_length fi_one A1 m' c' (l ++ (digs n count).take k) rfl HE.out.2.2.2.2.2.1 O3 (some ⟨wr.heap.size, 0, none⟩) 1 1 [d] rfl rfl (by simpa using Cells.of_holds hb3) (by rw [← HE.out.2.2.2.2.2.1]; have := HE.out.2.2.2.2.2.2.2.2.2.1; simp; omega) (by rw [← HE.out.2.2.2.2.2.1]; have := HE.out.2.2.2.2.2.2.2.2.2.1; unfold maxLen; simp; omega) ?_
           intro A' c'' w4 hO4 m4 q4))
      have hmi := HE.out.2.2.2.2.2.2.2.1
      have hbl := HE.out.2.2.2.2.2.2.2.2.1
      refine ⟨⟨k + 1, A', c'', _, by omega, by go_num, rfl, by rw [HE.out.2.2.2.2.1]; simp only [List.length_append, List.length_take, digs_length, List.length_cons, List.length_nil], by rw [HE.out.2.2.2.2.1, ← List.append_assoc]; exact hO4, (hmi.then m3).trans m4 (fun i hi h => ?_), fun i hi => ?_⟩, by simp [intOf]; omega⟩
      · rcases hbl i h with h1 | h1
        · exact h1
        · omega
      · obtain ⟨a, ha, rfl⟩ := mem_blk hi
        rcases q4 a ha with h1 | h1
        · exact hbl _ h1
        · right; have := hmi.size; have := m3.size; omega
    · obtain rfl : count = k := by omega
      have hall : (digs n count).take count = digs n count := List.take_of_length_le (by rw [digs_length]; exact Nat.le_refl _)
      rw [hall] at hm hOw
      clear hall
      have HE := Lib.hid (And.intro hm (And.intro hOw (And.intro hmi hbl)))
      clear hm hOw hmi hbl
      go_wp2
      go_ret
      exact ⟨A1, c', by rw [HE.out.1]; rfl, HE.out.2.1, HE.out.2.2.1, HE.out.2.2.2⟩
end
section
open Go.RowKit Go.Shelf
theorem info5 : ∃ it, Tryd.prog.info? 5 = some it ∧ it.size = 1 := by
  obtain ⟨i0, h1, h2, h3, h4⟩ := info_parts u8_zero
  exact ⟨i0, h1, h3⟩
theorem run_index25 (x : Idv) (k : Nat) (hk : k < x.1.length) (v : World) : (Instr.index 23 (iv x) (.int .i64 (k : Int))).run Tryd.prog v = .ok (oct x.1[k]) v := by
  obtain ⟨it, h1, h2⟩ := info5
  have hx := x.2
  have h4 : k < 32 := by omega
  simp [Instr.index, iv, ic, run_underlying Tryd.underlying23, go_sem, sizeOf, typeInfo, h1, h2, part, isAgg, run_underlying Tryd.underlying5, h4, hk]
theorem exec_index25 {v : World} {o : Oper} {ρ : Operand → Value} {x y : Operand} {X : Idv} {k : Nat} (hk : k < X.1.length) (ho : o.op = .index 23 x y) (hx : ρ x = iv X) (hy : ρ y = .int .i64 (k : Int)) : (execOp ρ o).run Tryd.prog v = .ok (.value (oct X.1[k])) v := by
  unfold execOp
  simp only [ho, hx, hy, Sem.run_bind, run_index25 X k hk, Result.andThen, Sem.run_pure]
theorem conv53 (b : UInt8) : IntKind.i64.wrap (b.toNat : Int) = (b.toNat : Int) := IntWalk.i64_in _ (by have := UInt8.toNat_lt b; omega)
/-- The 64 digits of a digest. -/
def bits2 (l : List UInt8) : List Nat := l.flatMap fun b => digs b.toNat 2
theorem bits2_length (l : List UInt8) : (bits2 l).length = l.length * 2 := by
  induction l with
  | nil => rfl
  | cons b l ih => simp only [bits2, List.flatMap_cons, List.length_append, List.length_cons, digs_length] at ih ⊢; omega
theorem bits2_snoc (l : List UInt8) (k : Nat) (h : k < l.length) : bits2 (l.take (k + 1)) = bits2 (l.take k) ++ digs l[k].toNat 2 := by
  rw [List.take_succ_eq_append_getElem h, bits2, List.flatMap_append]
  simp [bits2]
theorem digs_lt {n c d : Nat} (h : d ∈ digs n c) : d < 16 := by
  unfold digs at h
  obtain ⟨k, _, rfl⟩ := List.mem_map.1 h
  exact Nat.mod_lt _ (by decide)
theorem bits2_lt {l : List UInt8} {d : Nat} (h : d ∈ bits2 l) : d < 16 := by
  obtain ⟨b, _, hb⟩ := List.mem_flatMap.1 h
  exact digs_lt hb
/-- What 15 is more than each of these, together. -/
def csum (l : List Nat) : Nat := (l.map fun d => 15 - d).sum
theorem csum_snoc (l : List Nat) (k : Nat) (h : k < l.length) : csum (l.take (k + 1)) = csum (l.take k) + (15 - l[k]) := by
  rw [List.take_succ_eq_append_getElem h]
  unfold csum
  rw [List.map_append, List.sum_append]
  simp
theorem csum_le (l : List Nat) : csum l ≤ 15 * l.length := by
  induction l with
  | nil => simp [csum]
  | cons d l ih => simp only [csum, List.map_cons, List.sum_cons, List.length_cons] at ih ⊢; omega
/-- All digits of a digest. -/
def digitsN (x : Idv) : List Nat := bits2 x.1 ++ digs (csum (bits2 x.1)) 3
theorem digitsN_length (x : Idv) : (digitsN x).length = 67 := by
  unfold digitsN
  rw [List.length_append, bits2_length, digs_length, x.2]
theorem digitsN_lt {x : Idv} {d : Nat} (h : d ∈ digitsN x) : d < 16 := by
  rcases List.mem_append.1 h with h | h
  · exact bits2_lt h
  · exact digs_lt h
theorem OwnG.int_at {w : World} {A : Option Addr} {c : Nat} {l : List Nat} (h : OwnG fi 3 1 w A c l) (k : Nat) (hk : k < l.length) : ∃ g o, A = some ⟨g, o, none⟩ ∧ w.cell? ⟨g, o + k, none⟩ = some (.int .i64 (l[k] : Int)) := by
  obtain ⟨g, o, hA, hc⟩ := h.cells.elem' fi 1 (by decide) fi_length k hk
  exact ⟨g, o, hA, by simpa [fi] using hc.at 0 (by simp [fi])⟩
set_option maxRecDepth 100000 in
set_option maxHeartbeats 4000000 in
theorem digits_c (x : Idv) (w : World) :
    Calls Tryd.prog 45 #[iv x] w fun r w' => ∃ A c, r = .returned (.slice A 67 c) ∧ OwnG fi 3 1 w' A c (digitsN x) ∧ Mod [] w w' ∧ (∀ i ∈ blk A, w.heap.size ≤ i) := by
  obtain ⟨i0, hi, hz0, hz1, hz2⟩ := info_parts int_zero
  have HI := Lib.hid (And.intro hi (And.intro hz0 (And.intro hz1 hz2)))
  have hx := x.2
  have HX := Lib.hid hx
  clear hi hz0 hz1 hz2 hx
  go_enter Tryd.func45, Tryd.ntmps45
  go_wp2_with (first
    | (with_reducible refine wpList_boxes (o := ⟨some 1, .box 23 (.tmp 0), _, _, _, _⟩) rfl 23 (.tmp 0) rfl _ rfl (ic x) rfl ?_; intro w1 hb1 m1 z1; replace z1 := Lib.hid z1)
    | (refine wpList_make0G fi (o := ⟨some 9, .makeSlice 24 _ _, _, _, _, _⟩) rfl 24 _ _ rfl 3 i0 (.int .i64 0) 1 8 67 Tryd.underlying24 HI.out.1 HI.out.2.1 HI.out.2.2.1 HI.out.2.2.2 rfl rfl (by decide) (by decide) ?_
       intro w2 hO m2 z2
       replace z2 := Lib.hid z2
       obtain ⟨Y, hY⟩ : ∃ Y : Option Addr, Y = some ⟨w1.heap.size, 0, none⟩ := ⟨_, rfl⟩
       have hYb : ∀ i ∈ blk Y, w.heap.size < i := fun i hi => by obtain ⟨a, ha, rfl⟩ := mem_blk hi; rw [hY] at ha; cases ha; have := z1.out; show w.heap.size < w1.heap.size; omega
       rw [← hY] at hO ⊢
       clear hY)
    | (with_reducible refine wpList_loads (o := ⟨some 10, .load 23 (.tmp 1), _, _, _, _⟩) rfl 23 (.tmp 1) rfl w.heap.size 0 _ rfl (Cells.of_holds (hb1.keep m2 (by simp))) _ Tryd.underlying23 rfl (size25i x) (iv x) rfl ?_))
  have mm2 : Mod [] w w2 := m1.then m2
  clear hb1 m1 m2 z1 z2
  go_loopw [11, 3] (fun i s wi => ∃ (k : Nat) (A1 : Option Addr) (c' m' : Nat), k ≤ 32 ∧ i = .int .i64 (k : Int) ∧ s = .slice A1 m' c' ∧ m' = k * 2 ∧ OwnG fi 3 1 wi A1 c' (bits2 (x.1.take k)) ∧ Mod [] w wi ∧ (∀ i ∈ blk A1, w.heap.size ≤ i)) (fun i _ _ => 32 - (intOf i).toNat)
  case atStart => exact ⟨0, Y, 67, 0, by omega, rfl, rfl, rfl, by simpa [bits2] using hO, mm2, fun i hi => Nat.le_of_lt (hYb i hi)⟩
  case round =>
    obtain ⟨k, A1, c', m', hk, rfl, rfl, hm, hOw, hmi, hbl⟩ := hrel
    by_cases hkn : k < 32
    · have hkZ : (k : Int) < 32 := by omega
      have hkl : k < x.1.length := by rw [HX.out]; exact hkn
      have hsn := bits2_snoc x.1 k hkl
      obtain ⟨b, hb⟩ : ∃ b, b = x.1[k] := ⟨_, rfl⟩
      rw [← hb] at hsn
      have hml : m' = (bits2 (x.1.take k)).length := by rw [bits2_length, List.length_take, HX.out, hm]; omega
      have X := inDigits_c A1 c' m' _ b.toNat 2 hml (by omega) (by have := UInt8.toNat_lt b; omega) (by decide) (by decide) wr hOw
      have hix : ∀ (v : World) (o : Oper) (ρ : Operand → Value) (y z : Operand), o.op = .index 23 y z → ρ y = iv x → ρ z = .int .i64 (k : Int) → (execOp ρ o).run Tryd.prog v = .ok (.value (oct b)) v := fun v o ρ y z h1 h2 h3 => by rw [hb]; exact exec_index25 hkl h1 h2 h3
      have HE := Lib.hid (And.intro hix (And.intro trivial (And.intro hsn (And.intro hm (And.intro hmi hbl)))))
      have hcv := conv53 b
      clear hix hb hsn hm hOw hmi hbl hml hkl hO hYb mm2
      go_wp2_with (first
        | (with_reducible refine wpList_ranW (o := ⟨some 13, .index 23 _ _, _, _, _, _⟩) (by with_unfolding_all rfl) (oct b) wr (HE.out.1 _ _ _ _ _ rfl rfl rfl) ?_)
        | (go_at_call 59; refine X.mono ?_; rintro e w3 ⟨A', c'', rfl, hO3, m3, q3⟩))
      have hmi := HE.out.2.2.2.2.1
      have hbl := HE.out.2.2.2.2.2
      refine ⟨⟨k + 1, A', c'', _, by omega, by go_num, rfl, by simp only [bits2_length, digs_length, List.length_take, HX.out]; omega, by rw [HE.out.2.2.1]; exact hO3, far_mod hmi m3 hbl, fun i hi => by
        rcases q3 i hi with h | h
        · exact hbl i h
        · exact Nat.le_trans hmi.size h⟩, by simp [intOf]; omega⟩
    · obtain rfl : k = 32 := by omega
      have hall : x.1.take 32 = x.1 := List.take_of_length_le (by rw [HX.out]; exact Nat.le_refl _)
      rw [hall] at hOw
      obtain rfl : m' = 64 := hm
      obtain ⟨d, hd⟩ : ∃ d, d = bits2 x.1 := ⟨_, rfl⟩
      have hdl : d.length = 64 := by rw [hd, bits2_length, HX.out]
      have hd16 : ∀ y ∈ d, y < 16 := fun y hy => by rw [hd] at hy; exact bits2_lt hy
      have hD : digitsN x = d ++ digs (csum d) 3 := by rw [hd]; rfl
      rw [← hd] at hOw
      have HE := Lib.hid (And.intro hOw (And.intro hmi (And.intro hbl (And.intro hdl (And.intro hd16 hD)))))
      clear hOw hmi hbl hall hO hYb mm2 hd hdl hd16 hD
      go_wp2_with fail
      go_loopw [21, 6] (fun i s wi => ∃ (k q : Nat), k ≤ 64 ∧ i = .int .i64 (k : Int) ∧ s = .int .i64 (q : Int) ∧ q = csum (d.take k) ∧ wi = wr) (fun i _ _ => 64 - (intOf i).toNat)
      case atStart => exact ⟨0, 0, by omega, rfl, rfl, rfl, rfl⟩
      case round =>
        obtain ⟨k, q, hk, rfl, rfl, hq, rfl⟩ := hrel
        by_cases hkn : k < 64
        · have hkZ : (k : Int) < 64 := by omega
          obtain ⟨ga, oa, rfl, hce⟩ := HE.out.1.int_at k (by rw [HE.out.2.2.2.1]; exact hkn)
          have hsn := csum_snoc d k (by rw [HE.out.2.2.2.1]; exact hkn)
          have hlt := HE.out.2.2.2.2.1 _ (List.getElem_mem (l := d) (n := k) (by rw [HE.out.2.2.2.1]; exact hkn))
          have hql := csum_le (d.take k)
          rw [← hq, List.length_take, HE.out.2.2.2.1] at hql
          obtain ⟨y, hy⟩ : ∃ y, y = d[k]'(by rw [HE.out.2.2.2.1]; exact hkn) := ⟨_, rfl⟩
          rw [← hy] at hce hsn hlt
          have hyZ : (y : Int) ≤ 15 := by omega
          have hqZ : (q : Int) ≤ 960 := by omega
          have HQ := Lib.hid (And.intro hsn hq)
          clear hsn hq hy hql hlt
          go_wp2
          refine ⟨⟨k + 1, q + (15 - y), by omega, by go_num, by go_num, by rw [HQ.out.1, ← HQ.out.2], by first | trivial | rfl⟩, by simp [intOf]; omega⟩
        · obtain rfl : k = 64 := by omega
          have hall : d.take 64 = d := List.take_of_length_le (by rw [HE.out.2.2.2.1]; exact Nat.le_refl _)
          rw [hall] at hq
          have hql := csum_le d
          rw [← hq, HE.out.2.2.2.1] at hql
          have X := inDigits_c A1 c' 64 _ q 3 HE.out.2.2.2.1.symm (by decide) (by omega) (by decide) (by decide) wr HE.out.1
          have HQ := Lib.hid hq
          clear hq hql hall
          go_wp2_with (go_at_call 59; refine X.mono ?_; rintro e w3 ⟨A', c'', rfl, hO3, m3, q3⟩)
          have hmi := HE.out.2.1
          have hbl := HE.out.2.2.1
          have hD := HE.out.2.2.2.2.2
          have hln : d.length + (digs q 3).length = 67 := by rw [digs_length, HE.out.2.2.2.1]
          go_ret
          refine ⟨A', c'', ?_, by rw [hD, ← HQ.out]; exact hO3, far_mod hmi m3 hbl, fun i hi => ?_⟩
          · rw [hln]; rfl
          · rcases q3 i hi with h | h
            · exact hbl i h
            · exact Nat.le_trans hmi.size h
end
end Go.Proofs.YtbacmeaeehhhfaaDoor
