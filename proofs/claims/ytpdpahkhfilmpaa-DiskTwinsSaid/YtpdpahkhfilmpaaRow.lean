/-
  Rows of the call's own, of elements of whatever size: kept, read, appended to. My own work.
-/
import Derived.Test.YtpdpahkhfilmpaaDmem
import Derived.Test.YtpdpahkhfilmpaaApp
import Derived.StillTailTactics
namespace Go.Proofs.Ytpdpahkhfilmpaa
open Go.RowKit

/-- The slice (A, n, c) is nobody else's and holds these. -/
def OwnG {α : Type} (f : α → List Value) (e : TypeId) (size : Nat) (w : World) (A : Option Addr) (c : Nat) (l : List α) : Prop := w.ownsRow 0 e size (.slice A l.length c) l.length (l.flatMap f)
section
variable {α : Type} {f : α → List Value} {e : TypeId} {size : Nat} {w v : World} {A : Option Addr} {c : Nat} {l : List α}
theorem OwnG.nil (f : α → List Value) (e : TypeId) (size : Nat) (w : World) : OwnG f e size w none 0 [] := World.ownsRow_nil w 0 e size
theorem OwnG.of_holds {g : Nat} (h : Holds w g e (l.flatMap f)) (hf : ∀ x, (f x).length = size) (hl : l.length ≤ maxLen) : OwnG f e size w (some ⟨g, 0, none⟩) l.length l := by
  have hlen := flat_length f size hf l
  refine ⟨hlen, .inr ⟨g, l.length, (l.flatMap f).toArray, rfl, Nat.zero_le _, h, Nat.le_refl _, hl, by simpa using hlen, ?_⟩⟩
  rw [← hlen]
  exact List.take_of_length_le (by simp)
theorem OwnG.fits (h : OwnG f e size w A c l) : l.length ≤ c ∧ c ≤ maxLen := by
  rcases h.2 with ⟨hv, hn⟩ | ⟨g, cap, cur, hv, hb, hg, h1, h2, _⟩
  · injection hv with h1 h2 h3
    subst h3
    exact ⟨by omega, by omega⟩
  · injection hv with h3 h4 h5
    subst h5
    exact ⟨h1, h2⟩
theorem OwnG.lt (h : OwnG f e size w A c l) : ∀ a, A = some a → a.block < w.heap.size := by
  rcases h.2 with ⟨hv, hn⟩ | ⟨g, cap, cur, hv, hb, hg, h1, h2, _⟩
  · injection hv with h1 h2 h3
    subst h1
    simp
  · injection hv with h3 h4 h5
    subst h3
    rintro _ ⟨⟩
    exact (Array.getElem?_eq_some_iff.1 hg).1
theorem OwnG.ne {g : Nat} {t : TypeId} {cs : List Value} (h : OwnG f e size w A c l) (h' : Holds w g t cs) (ht : e ≠ t) : ∀ a, A = some a → a.block ≠ g := by
  rcases h.2 with ⟨hv, hn⟩ | ⟨k, cap, cur, hv, hb, hg, h1, h2, _⟩
  · injection hv with h1 h2 h3
    subst h1
    simp
  · injection hv with h3 h4 h5
    subst h3
    rintro _ ⟨⟩ rfl
    unfold Holds at h'
    rw [hg] at h'
    injection h' with h'
    injection h' with _ hh
    exact ht hh
theorem OwnG.cells (h : OwnG f e size w A c l) : Cells w A (l.flatMap f) := by
  intro i hi
  have hlen := h.1
  rcases h.2 with ⟨hv, hn⟩ | ⟨g, cap, cur, hv, hb, hg, h1, h2, h3, h4⟩
  · rw [hn] at hlen; omega
  · injection hv with e3 e4 e5
    subst e3
    refine ⟨g, 0, rfl, ?_⟩
    rw [Nat.zero_add, cell_of_row w g i cur e (0, 0) hg]
    have : (cur.toList.take (l.length * size))[i]? = some (l.flatMap f)[i] := by rw [h4]; exact List.getElem?_eq_getElem hi
    rw [List.getElem?_take] at this
    split at this
    · simpa using this
    · cases this
theorem OwnG.keep {ms : List Nat} (h : OwnG f e size w A c l) (m : Mod ms w v) (hn : ∀ a, A = some a → a.block ∉ ms) : OwnG f e size v A c l := by
  refine ⟨h.1, ?_⟩
  rcases h.2 with h0 | ⟨g, cap, cur, hv, hb, hg, rest⟩
  · exact .inl h0
  · refine .inr ⟨g, cap, cur, hv, hb, ?_, rest⟩
    injection hv with h3 h4 h5
    subst h3
    rw [m.block g (Array.getElem?_eq_some_iff.1 hg).1 (hn _ rfl)]
    exact hg
end

theorem run_append_noneG {α : Type} {f : α → List Value} {size : Nat} {P : Program} (w : World) (t ty e : TypeId) (i : TypeInfo) (ht : P.underlying t = some (.slice e)) (hi : P.info? e = some i) {A : Option Addr} {c : Nat} {l : List α} (h : OwnG f e size w A c l) (c' : Nat) :
    (Builtin.append_ #[t, t] ty #[.slice A l.length c, .slice none 0 c']).run P w = .ok (.slice A l.length c) w := by
  have hfit := h.fits.1
  rcases A with _ | a
  · have : l.length = 0 ∧ c = 0 := by
      rcases h.2 with ⟨hv, hn⟩ | ⟨g, cap, cur, hv, _⟩
      · injection hv with h1 h2 h3
        exact ⟨hn, h3⟩
      · injection hv with h1; cases h1
    obtain ⟨h0, rfl⟩ := this
    rw [h0]
    simp [Builtin.append_, run_underlying ht, sizeOf, typeInfo, hi, Builtin.lenOf, Builtin.firstCells]
  · simp [Builtin.append_, run_underlying ht, sizeOf, typeInfo, hi, Builtin.lenOf, Builtin.firstCells, hfit, storeCells]

/-- append(s, x...), s the call's own, x whatever, in a walk. -/
theorem wpList_appendG {α : Type} {f : α → List Value} {size : Nat} {P : Program} (w : World) {ops : Array Oper} {rest : List Oper} {o : Oper} {a : Act} {Q : Exit → Act → World → Prop} (hgd : o.guard = none) (s x : Operand) (t : TypeId)
    (ho : o.op = .call { callee := .builtin .append, args := #[s, x], argTypes := #[t, t] })
    (e : TypeId) (i : TypeInfo) (z : Value) (bytes : Nat) (ht : P.underlying t = some (.slice e)) (hi : P.info? e = some i) (hz : i.zero = some z) (hsize : i.size = size) (hby : i.bytes = bytes) (hzs : z.cells.size = size) (hs0 : 0 < size)
    (hf : ∀ x, (f x).length = size) (h1 : ∀ x, ∀ v ∈ f x, v.oneCell' = true)
    (A : Option Addr) (n c : Nat) (l : List α) (hs : a.eval s = .slice A n c) (hn : n = l.length) (hown : OwnG f e size w A c l)
    (X : Option Addr) (m d : Nat) (k : List α) (hx : a.eval x = .slice X m d) (hm : m = k.length) (hr : Cells w X (k.flatMap f))
    (h63 : (l.length + k.length) * bytes ≤ 140737488355328) (h64 : l.length + k.length ≤ maxLen)
    (h : ∀ A' c' v, OwnG f e size v A' c' (l ++ k) → Mod (blk A) w v → (∀ a, A' = some a → a.block ∈ blk A ∨ w.heap.size ≤ a.block) → wpList P ops Q rest (a.put o.dst (.slice A' (l ++ k).length c')) v) :
    wpList P ops Q (o :: rest) a w := by
  subst hn hm
  have hkl := flat_length f size hf k
  rcases X with _ | ad
  · have hk : k = [] := by
      rcases k with _ | ⟨x, k⟩
      · rfl
      · obtain ⟨g, o, hh, _⟩ := hr 0 (by rw [hkl]; simp; omega)
        cases hh
    subst hk
    have hrun := run_append_noneG (P := P) w t o.type e i ht hi hown d
    simp only [List.length_nil] at hx
    refine wpList_plain hgd fun K hK => ?_
    have := h A c w (by simpa using hown) (Mod.refl _ _) (fun b hb => .inl (by subst hb; simp [blk]))
    unfold Oper.wp execOp
    simp only [ho, resolve, invoke, builtin, Sem.run_bind, Sem.run_pure, Result.andThen_ok, List.map_toArray, List.map_cons, List.map_nil, hs, hx, hrun]
    exact hK _ _ (by simpa using this)
  · have hcells : ∀ j u, (k.flatMap f)[j]? = some u → w.cell? (ad.add j) = some u := by
      intro j u hu
      rcases Nat.eq_zero_or_pos (k.flatMap f).length with h0 | h0
      · rw [List.eq_nil_of_length_eq_zero h0] at hu
        simp at hu
      · obtain ⟨ad', e', hh⟩ := hr.first h0
        injection e' with e'
        subst e'
        exact hh j u hu
    have hone : ∀ u ∈ k.flatMap f, u.oneCell' = true := fun u hu => by
      obtain ⟨x, _, hx⟩ := List.mem_flatMap.1 hu
      exact h1 x u hx
    obtain ⟨v', w', hrun, hown', hgr, _, hbl⟩ := run_append_own_at (P := P) w 0 t o.type e i z size bytes ht hi hz hsize hby hzs hs0 _ _ _ hown ad k.length d (k.flatMap f) hkl hcells hone h64 h63 (Nat.zero_le _)
    have hv : ∃ A' c', v' = .slice A' (l ++ k).length c' := by
      rcases hown'.2 with ⟨hv, hn⟩ | ⟨g, cap, cur, hv, _⟩
      · exact ⟨none, 0, by rw [hv, List.length_append, hn]⟩
      · exact ⟨_, _, by rw [hv, List.length_append]⟩
    obtain ⟨A', c', rfl⟩ := hv
    have hO : OwnG f e size w' A' c' (l ++ k) := by
      have := hown'
      rw [← List.length_append, ← List.flatMap_append] at this
      exact this
    have hob : ∀ (A : Option Addr) n c, (Value.slice A n c).ownBlock = A.map (·.block) := by intro A n c; cases A <;> rfl
    rw [hob] at hgr
    rw [hob, hob] at hbl
    refine wpList_plain hgd fun K hK => ?_
    unfold Oper.wp execOp
    simp only [ho, resolve, invoke, builtin, Sem.run_bind, Sem.run_pure, Result.andThen_ok, List.map_toArray, List.map_cons, List.map_nil, hs, hx, hrun]
    refine hK _ _ (h A' c' w' hO ⟨hgr.os, hgr.tape, hgr.output, hgr.size, fun j hj hn => hgr.block j hj ?_⟩ ?_)
    · intro hh
      exact hn (by unfold blk; rw [← hh]; simp)
    · intro b hb
      subst hb
      rcases hbl with hh | hh
      · left; unfold blk; rw [← hh]; simp
      · right
        simp at hh
        omega

theorem fill_step {place : Nat → Option (Nat × Nat)} {i off size : Nat} {v : Value} {rest : List (Nat × Value)} {cells : Array Value} (hp : place i = some (off, size)) (hs : v.cells.size = size) (hl : off + v.cells.size ≤ cells.size) :
    Instr.fill place cells ((i, v) :: rest) = Instr.fill place (v.cells.zipIdx.foldl (fun cs (c, j) => cs.setIfInBounds (off + j) c) cells) rest := by
  rw [Instr.fill]
  simp only [hp]
  rw [if_neg (by simp [hs]; omega)]
/-- A write is built of its two parts. -/
theorem fill_wc (i : Int) (b : Blk) (z0 : Value) (zs : List Value) (hz : zs.length = 64) (place : Nat → Option (Nat × Nat)) (p0 : place 0 = some (0, 1)) (p1 : place 1 = some (1, 64)) :
    Instr.fill place (z0 :: zs).toArray [(0, .int .i64 i), (1, bv b)] = some (wc (i, b)).toArray := by
  have hb := bc_length b
  have h2 := fold_set (bc b) 1 (.int .i64 i :: zs) (by simp only [List.length_cons]; omega)
  have e : List.drop (1 + (bc b).length) (Value.int .i64 i :: zs) = [] := by
    apply List.drop_eq_nil_of_le; simp only [List.length_cons]; omega
  rw [e] at h2
  simp only [List.take_succ_cons, List.take_zero, List.append_nil, List.cons_append, List.nil_append] at h2
  have hc : (Value.int .i64 i).cells = #[.int .i64 i] := rfl
  have h0 : (#[Value.int .i64 i].zipIdx.foldl (fun (x : Array Value) (p : Value × Nat) => x.setIfInBounds (0 + p.2) p.1) (z0 :: zs).toArray) = (Value.int .i64 i :: zs).toArray := by simp
  rw [fill_step p0 rfl (by simp [hc]), hc]
  rw [show (#[Value.int .i64 i].zipIdx.foldl (fun cs (x : Value × Nat) => match x with | (c, j) => cs.setIfInBounds (0 + j) c) (z0 :: zs).toArray) = (Value.int .i64 i :: zs).toArray from h0]
  rw [fill_step p1 (by rw [bv_cells]; simpa using hb) (by rw [bv_cells]; simp [hb, hz]), bv_cells]
  rw [show ((bc b).toArray.zipIdx.foldl (fun cs (x : Value × Nat) => match x with | (c, j) => cs.setIfInBounds (1 + j) c) (Value.int .i64 i :: zs).toArray) = _ from h2]
  rfl
theorem run_build84 (i : Int) (b : Blk) (w : World) : (Instr.build 84 #[(0, .int .i64 i), (1, bv b)]).run Try.prog w = .ok (wv (i, b)) w := by
  refine run_build w _ _ _ ?_
  unfold Program.built
  rw [Try.underlying84]
  cases hq : Try.prog.info? 84 with
  | none => exact absurd (show (Try.prog.info? 84).isSome = true by kernel_rfl) (by rw [hq]; simp)
  | some it =>
    have hz : it.zero = some (.agg (wc (0, fil 0)).toArray) := by
      have : (Try.prog.info? 84).bind (·.zero) = some (.agg (wc (0, fil 0)).toArray) := by kernel_rfl
      rw [hq] at this
      exact this
    simp only [hz]
    rw [show (List.mapM (fun f : Field => (Try.prog.info? f.type).map fun i => (f.offset, i.size)) _) = some [(0, 1), (1, 64)] from by kernel_rfl]
    exact fill_wc i b _ _ (bc_length _) _ rfl rfl
theorem run_build80 (i : Int) (b : Blk) (w : World) : (Instr.build 80 #[(0, .int .i64 i), (1, bv b)]).run Try.prog w = .ok (wv (i, b)) w := by
  refine run_build w _ _ _ ?_
  unfold Program.built
  rw [Try.underlying80]
  cases hq : Try.prog.info? 80 with
  | none => exact absurd (show (Try.prog.info? 80).isSome = true by kernel_rfl) (by rw [hq]; simp)
  | some it =>
    have hz : it.zero = some (.agg (wc (0, fil 0)).toArray) := by
      have : (Try.prog.info? 80).bind (·.zero) = some (.agg (wc (0, fil 0)).toArray) := by kernel_rfl
      rw [hq] at this
      exact this
    simp only [hz]
    rw [show (List.mapM (fun f : Field => (Try.prog.info? f.type).map fun i => (f.offset, i.size)) _) = some [(0, 1), (1, 64)] from by kernel_rfl]
    exact fill_wc i b _ _ (bc_length _) _ rfl rfl
/-- An operation that yields a value, in a region that is gone through in the text's order. -/
theorem wpStill_value {P : Program} {w : World} {ops : Array Oper} {rest : List Oper} {o : Oper} {a : Act} {Q : Act → Prop} (hgd : o.guard = none) (V : Value) (hrun : (execOp a.eval o).run P w = .ok (.value V) w) (h : wpStill P ops w Q rest (a.put o.dst V)) : wpStill P ops w Q (o :: rest) a := by
  refine wpStill_step (fun K hK => ?_)
  have hw : Region.wanted o (yielded ops a.tmps) = true := by unfold Region.wanted; rw [hgd]
  rw [if_pos hw]
  unfold Oper.still
  rw [hrun, Oper.stillUpon_value]
  exact hK _ h
theorem wpStill_build84 {w : World} {ops : Array Oper} {rest : List Oper} {o : Oper} {a : Act} {Q : Act → Prop} (hgd : o.guard = none) (x y : Operand) (ho : o.op = .build 84 #[(0, x), (1, y)]) (i : Int) (b : Blk) (hx : a.eval x = .int .i64 i) (hy : a.eval y = bv b) (h : wpStill Try.prog ops w Q rest (a.put o.dst (wv (i, b)))) : wpStill Try.prog ops w Q (o :: rest) a := by
  refine wpStill_value hgd _ ?_ h
  unfold execOp
  simp only [ho, List.map_toArray, List.map_cons, List.map_nil, hx, hy, Sem.run_bind, run_build84, Result.andThen, Sem.run_pure]
theorem run_lit1 {P : Program} {t e : TypeId} {it : TypeInfo} {Z V : Value} {cs : List Value} {s : Nat} (w : World) (ht : P.underlying t = some (.slice e)) (hq : P.info? e = some it) (hs : it.size = s) (h0 : 0 < s) (hb : s ≤ 2 ^ 24) (hz : ∀ w, (zeroValue e).run P w = .ok Z w) (hV : V.cells = cs.toArray) (hcs : cs.length = s) :
    (Instr.buildSlice t 1 #[(0, V)]).run P w = .ok (.slice (some ⟨w.heap.size, 0, none⟩) 1 1) (w.alloc (.cells cs.toArray e)) := by
  have hf : ∀ z : Array Value, z.size = s → Instr.fill (fun i => some (i * s, s)) z [(0, V)] = some cs.toArray := by
    rintro ⟨z⟩ hz
    have hz' : z.length = s := by simpa using hz
    rw [fill_step (off := 0) (size := s) (by simp) (by rw [hV]; simpa using hcs) (by rw [hV]; simp; omega), hV]
    have := fold_set cs 0 z (by omega)
    rw [show (cs.toArray.zipIdx.foldl (fun cs (x : Value × Nat) => match x with | (c, j) => cs.setIfInBounds (0 + j) c) z.toArray) = _ from this]
    have e : List.drop (0 + cs.length) z = [] := List.drop_eq_nil_of_le (by omega)
    rw [e]
    simp [Instr.fill]
  have hf2 := hf ((Array.range (1 * s)).map (Z.cells[· % Z.cells.size]!)) (by simp)
  unfold Instr.buildSlice
  simp only [Sem.run_bind, run_underlying ht, sizeOf, typeInfo, run_program, hq, Result.andThen, Sem.run_pure, hs]
  rw [if_neg (by omega), if_neg (by omega)]
  simp only [Sem.run_bind, hz, Result.andThen, Sem.run_pure, hf2]
  simp [newRow, go_sem]
theorem info_of (T : TypeId) (h : (Try.prog.info? T).isSome = true) : ∃ it, Try.prog.info? T = some it := by
  cases hq : Try.prog.info? T with
  | none => rw [hq] at h; cases h
  | some it => exact ⟨it, rfl⟩
theorem run_lit70 (p : Int × Blk) (w : World) : (Instr.buildSlice 70 1 #[(0, wv p)]).run Try.prog w = .ok (.slice (some ⟨w.heap.size, 0, none⟩) 1 1) (w.alloc (.cells (wc p).toArray 84)) := by
  obtain ⟨it, hq⟩ := info_of 84 (by kernel_rfl)
  exact run_lit1 w Try.underlying70 hq (by have := size84; rw [hq] at this; simpa using this) (by omega) (by omega) zero84 (wv_cells p) (wc_length p)
theorem run_lit28 (p : Int × Blk) (w : World) : (Instr.buildSlice 28 1 #[(0, wv p)]).run Try.prog w = .ok (.slice (some ⟨w.heap.size, 0, none⟩) 1 1) (w.alloc (.cells (wc p).toArray 80)) := by
  obtain ⟨it, hq⟩ := info_of 80 (by kernel_rfl)
  exact run_lit1 w Try.underlying28 hq (by have := size80; rw [hq] at this; simpa using this) (by omega) (by omega) zero80 (wv_cells p) (wc_length p)
/-- A slice literal of one element. -/
theorem wpList_lits {P : Program} {w : World} {ops : Array Oper} {rest : List Oper} {o : Oper} {a : Act} {Q : Exit → Act → World → Prop} (hgd : o.guard = none) (t e : TypeId) (n : Nat) (parts : Array (Nat × Operand)) (ho : o.op = .buildSlice t n parts) (cs : List Value)
    (hrun : (Instr.buildSlice t n (parts.map fun (i, x) => (i, a.eval x))).run P w = .ok (.slice (some ⟨w.heap.size, 0, none⟩) n n) (w.alloc (.cells cs.toArray e)))
    (h : ∀ v, Holds v w.heap.size e cs → Mod [] w v → v.heap.size = w.heap.size + 1 → wpList P ops Q rest (a.put o.dst (.slice (some ⟨w.heap.size, 0, none⟩) n n)) v) : wpList P ops Q (o :: rest) a w := by
  refine wpList_plain hgd fun K hK => ?_
  unfold Oper.wp execOp
  simp only [ho, Sem.run_bind, hrun, Result.andThen]
  exact hK _ _ (h _ (Holds.made w e cs) (Mod.alloc [] w _) (by simp))
end Go.Proofs.Ytpdpahkhfilmpaa
