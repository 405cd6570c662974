/-
  A region that draws its order, whose steps yield what is listed: the rest of the frame as it was. Rows of walks that came in. My own work.
-/
import Derived.Test.YtdolihecjomjiaaDoorWw
import Derived.Test.YtdolihecjomjiaaDoorWs
import Derived.Test.YtdolihecjomjiaaDoorWt
namespace Go.Proofs.YtdolihecjomjiaaDoor
open Go.RowKit
/-- The frame with these slots set. -/
def setAll (l : List Value) (ups : List (Nat × Value)) : List Value := ups.foldl (fun l p => l.set p.1 p.2) l
theorem setAll_length (ups : List (Nat × Value)) : ∀ l, (setAll l ups).length = l.length := by
  induction ups with
  | nil => intro l; rfl
  | cons p ups ih => intro l; show (setAll (l.set p.1 p.2) ups).length = _; rw [ih, List.length_set]
theorem setAll_other (s : Nat) (ups : List (Nat × Value)) : ∀ l, s ∉ ups.map (·.1) → (setAll l ups)[s]? = l[s]? := by
  induction ups with
  | nil => intro l _; rfl
  | cons p ups ih =>
    intro l h
    simp only [List.map_cons, List.mem_cons, not_or] at h
    show (setAll (l.set p.1 p.2) ups)[s]? = _
    rw [ih _ h.2, List.getElem?_set_ne (fun e => h.1 e.symm)]
/-- The slots that aren't set. -/
def restOf (n : Nat) (ks : List Nat) : List Nat := (List.range n).filter fun s => !ks.contains s
theorem setAll_lookup (s : Nat) (v : Value) (ups : List (Nat × Value)) : ∀ l : List Value, (ups.map (·.1)).Nodup → s < l.length → ups.lookup s = some v → (setAll l ups)[s]? = some v := by
  induction ups with
  | nil => intro l _ _ h; cases h
  | cons p ups ih =>
    intro l hd hl h
    rw [List.map_cons, List.nodup_cons] at hd
    show (setAll (l.set p.1 p.2) ups)[s]? = some v
    by_cases hs : s = p.1
    · subst hs
      rw [setAll_other _ _ _ hd.1]
      have : some p.2 = some v := by simpa [List.lookup] using h
      rw [List.getElem?_set_self hl, this]
    · have h' : ups.lookup s = some v := by
        have hb : (s == p.1) = false := by simpa using hs
        simpa [List.lookup, hb] using h
      exact ih _ hd.2 (by rw [List.length_set]; exact hl) h'
theorem wp_region_ups {P : Program} {ops : Array Oper} {Q : Exit → Act → World → Prop} {id : Nat} {a : Act} {w : World} (ups : List (Nat × Value)) (n : Nat) (ks : List Nat) (hn : a.tmps.size = n) (hks : ups.map (·.1) = ks) (hnd : ks.Nodup) (hD : ((List.range ops.size).all fun j => match (ops[j]?).bind (·.dst) with | some s => decide (s < n) && (ups.lookup s).isSome | none => true) = true) (st : (Nat → Bool) → World → Prop) (hm : P.follows .mixedOrders = true) (h0 : st (fun _ => false) w.drew)
    (hB : drawn2B ops n = true) (hC : coverB ops n (restOf n ks) = true)
    (hstep : ∀ (l : Nat → Bool) (T : Act) (v : World) (i : Nat) (o : Oper), ops[i]? = some o → l i = false → (∀ e ∈ o.after, Region.binds .any e = true → l e.on = true) → st l v →
      (∀ s, (decide (s < n) && !ks.contains s) = true → T.tmps[s]? = a.tmps[s]?) → (∀ (j : Nat) (o' : Oper) (s : Nat), ops[j]? = some o' → l j = true → o'.dst = some s → T.tmps[s]? = ups.lookup s) → Closed ops l →
      ∀ K : Act → World → Prop, (∀ u v', (∀ s, o.dst = some s → some u = ups.lookup s) → st (fun j => if j = i then true else l j) v' → K (T.put o.dst u) v') →
        if Region.wanted o (yielded ops T.tmps) = true then o.wp P T v K Q else K (T.put o.dst undef) v)
    (hend : ∀ (l : Nat → Bool) (v : World), (∀ j, j < ops.size → l j = true) → st l v → Q .normal ⟨(setAll a.tmps.toList ups).toArray, a.defers⟩ v) :
    (Code.region id ops true).wp P Q a w := by
  subst hn hks
  have key : ∀ (j : Nat) (o' : Oper) (s : Nat), ops[j]? = some o' → o'.dst = some s → some ((setAll a.tmps.toList ups).getD s undef) = ups.lookup s := fun j o' s h1 h2 => by
    have hj := (Array.getElem?_eq_some_iff.1 h1).1
    have h3 := List.all_eq_true.1 hD j (List.mem_range.2 hj)
    rw [h1] at h3
    simp only [Option.bind_some, h2, Bool.and_eq_true, decide_eq_true_eq] at h3
    obtain ⟨v, hv⟩ := Option.isSome_iff_exists.1 h3.2
    rw [hv, List.getD_eq_getElem?_getD, setAll_lookup s v ups _ hnd (by simpa using h3.1) hv]
    rfl
  refine wp_region_lit1 (setAll a.tmps.toList ups) a.tmps.size (restOf a.tmps.size (ups.map (·.1))) st a.defers hm (by rw [setAll_length]; simp) rfl rfl ?_ h0 hB hC ?_ hend
  · apply List.map_congr_left
    intro s hs
    obtain ⟨h1, h2⟩ := List.mem_filter.1 hs
    have hlt : s < a.tmps.size := List.mem_range.1 h1
    have hk : s ∉ ups.map (·.1) := by simpa using h2
    have h3 := setAll_other s ups a.tmps.toList hk
    rw [List.getD_eq_getElem?_getD, h3]
    simp [hlt]
  · intro l T v i o ho hl hdep hst hpar hgot hcl K hK
    refine hstep l T v i o ho hl hdep hst (fun s hs => ?_) (fun j o' s h1 h2 h3 => ?_) hcl K (fun u v' hu hv => hK u v' (fun s hs => ?_) hv)
    · rw [Bool.and_eq_true, decide_eq_true_eq] at hs
      have hk : s ∉ ups.map (·.1) := by simpa using hs.2
      rw [hpar s (List.mem_filter.2 ⟨List.mem_range.2 hs.1, hs.2⟩), List.getD_eq_getElem?_getD, setAll_other s ups a.tmps.toList hk]
      simp [hs.1]
    · rw [hgot j o' s h1 h2 h3, key j o' s h1 h3]
    · have h1 := hu s hs
      have h2 := key i o s ho hs
      rw [← h1] at h2
      exact (Option.some.inj h2).symm
/-- What is asked of a chain. -/
structure Wlk where
  x : Idv
  c : Int
  f : Int
  t : Int
def wkc (r : Wlk) : List Value := ic r.x ++ [.int .i64 r.c, .int .i64 r.f, .int .i64 r.t]
theorem wkc_length (r : Wlk) : (wkc r).length = 35 := by simp [wkc, ic_length]
theorem wkc_one (r : Wlk) : ∀ v ∈ wkc r, v.oneCell' = true := by
  intro v hv
  rcases List.mem_append.1 hv with h | h
  · exact ic_one r.x v h
  · simp at h
    rcases h with rfl | rfl | rfl <;> rfl
section
open Go.ChangeShapes Go.WideShapes Go.ChangeAt
variable {H : Type} {enc : TypeId × Value → H} {W : World} {fuel : Nat} {x : DataW H × List MemPlace}
theorem walk_in {cs : List Value} (h : DataW.trod enc Tryd.prog W 0 (fun _ => true) true fuel 31 cs = some x) : ∃ r : Wlk, cs = wkc r := by
  obtain ⟨xs, n, _, _, hlen, hxl, hf⟩ := DataW.trod_struct Tryd.underlying31 h
  have h4 : Tryd.prog.cellsOf 31 = 35 := by kernel_rfl
  have c3 : Tryd.prog.cellsOf 3 = 1 := by kernel_rfl
  have c25 : Tryd.prog.cellsOf 25 = 32 := by kernel_rfl
  rw [h4] at hlen
  match xs, hxl with
  | [y0, y1, y2, y3], _ =>
    have g0 : DataW.trod enc Tryd.prog W 0 (fun _ => true) true n 25 ((cs.drop 0).take 32) = some y0 := by have := hf 0 _ rfl; simpa [c25] using this
    have g1 : DataW.trod enc Tryd.prog W 0 (fun _ => true) true n 3 ((cs.drop 32).take 1) = some y1 := by have := hf 1 _ rfl; simpa [c3] using this
    have g2 : DataW.trod enc Tryd.prog W 0 (fun _ => true) true n 3 ((cs.drop 33).take 1) = some y2 := by have := hf 2 _ rfl; simpa [c3] using this
    have g3 : DataW.trod enc Tryd.prog W 0 (fun _ => true) true n 3 ((cs.drop 34).take 1) = some y3 := by have := hf 3 _ rfl; simpa [c3] using this
    obtain ⟨r0, e0⟩ := id_in g0
    obtain ⟨a1, e1, _, _⟩ := DataW.trod_int Tryd.underlying3 g1
    obtain ⟨a2, e2, _, _⟩ := DataW.trod_int Tryd.underlying3 g2
    obtain ⟨a3, e3, _, _⟩ := DataW.trod_int Tryd.underlying3 g3
    refine ⟨⟨r0, a1, a2, a3⟩, ?_⟩
    show cs = ic r0 ++ [.int .i64 a1, .int .i64 a2, .int .i64 a3]
    rw [← e0]
    have d : cs = (cs.drop 0).take 32 ++ ((cs.drop 32).take 1 ++ ((cs.drop 33).take 1 ++ (cs.drop 34).take 1)) := by
      apply List.ext_getElem?
      intro i
      by_cases h1 : i < 32
      · rw [List.getElem?_append_left (by simp; omega)]; simp [h1]
      · rw [List.getElem?_append_right (by simp; omega)]
        by_cases h2 : i < 33
        · obtain rfl : i = 32 := by omega
          rw [List.getElem?_append_left (by simp; omega)]; simp [hlen]
        · rw [List.getElem?_append_right (by simp; omega)]
          by_cases h3 : i < 34
          · obtain rfl : i = 33 := by omega
            rw [List.getElem?_append_left (by simp; omega)]; simp [hlen]
          · rw [List.getElem?_append_right (by simp; omega)]
            by_cases h5 : i < 35
            · obtain rfl : i = 34 := by omega
              simp [hlen]
            · rw [List.getElem?_eq_none (by omega), List.getElem?_eq_none (by simp; omega)]
    rw [e1, e2, e3] at d
    exact d
theorem wcells_join {b o : Nat} {l : List Wlk} (h : ∀ i (hi : i < l.length), Cells W (some ⟨b, o + i * 35, none⟩) (wkc l[i])) : Cells W (some ⟨b, o, none⟩) (l.flatMap wkc) := by
  refine Cells.of_cells fun j hj => ?_
  have hl := flat_length wkc 35 wkc_length l
  rw [hl] at hj
  have hi : j / 35 < l.length := by omega
  have h1 := (h (j / 35) hi).at (j % 35) (by rw [wkc_length]; omega)
  have h2 := flat_at wkc 35 wkc_length l (j / 35) (j % 35) hi (by omega)
  rw [show j / 35 * 35 + j % 35 = j by omega, List.getElem?_eq_getElem (by rw [hl]; exact hj), List.getElem?_eq_getElem (by rw [wkc_length]; omega)] at h2
  have h3 := Option.some.inj h2
  rw [h3, ← h1]
  congr 2
  omega
theorem walks_in {cs : List Value} (h : DataW.trod enc Tryd.prog W 0 (fun _ => true) true fuel 29 cs = some x) :
    ∃ A c, ∃ l : List Wlk, cs = [.slice A l.length c] ∧ l.length ≤ c ∧ c ≤ maxLen ∧ Cells W A (l.flatMap wkc) := by
  have h4 : Tryd.prog.cellsOf 31 = 35 := by kernel_rfl
  rcases Deep.open_slice Tryd.underlying29 h with ⟨rfl, _⟩ | ⟨a, len, cap, m, n, D, Pl, rfl, _, hl, hm, hmm, _, hx⟩
  · exact ⟨none, 0, [], rfl, Nat.le_refl _, by simp, Cells.nil _ _⟩
  · simp only [if_true] at hmm
    have key : ∀ i : Nat, ∃ r : Wlk, i < len → ∃ b o, a = ⟨b, o, none⟩ ∧ Cells W (some ⟨b, o + i * 35, none⟩) (wkc r) := by
      intro i
      by_cases hi : i < len
      · obtain ⟨cs', h1, h2⟩ := hx i (by omega)
        obtain ⟨r, hf⟩ := walk_in h2
        rw [h4] at h1
        obtain ⟨_, hlen, hcell⟩ := World.cells?_some h1
        have hsp : ∀ j, j < 35 → ∃ v, W.cell? ((a.add (i * 35)).add j) = some v ∧ cs'[j]? = some v := fun j hj => by
          have := hcell j (by omega)
          refine ⟨cs'[j]'(by omega), ?_, List.getElem?_eq_getElem (by omega)⟩
          rw [this]
          exact List.getElem?_eq_getElem _
        refine ⟨r, fun _ => ?_⟩
        obtain ⟨b, o, s⟩ := a
        have hs : s = none := by
          obtain ⟨cs0, h10, h20⟩ := hx 0 (by omega)
          obtain ⟨_, hlen0, hcell0⟩ := World.cells?_some h10
          have q0 := hcell0 0 (by rw [h4]; omega)
          obtain ⟨r0, hd0⟩ := walk_in h20
          rw [hd0, List.getElem?_eq_getElem (by rw [wkc_length]; omega)] at q0
          simpa [Addr.add] using World.cell?_spot q0
        subst hs
        refine ⟨b, o, rfl, Cells.of_cells fun j hj => ?_⟩
        have hj4 : j < 35 := by rwa [wkc_length] at hj
        obtain ⟨v, e1, e2⟩ := hsp j hj4
        rw [add_plain, add_plain] at e1
        rw [e1]
        rw [hf, List.getElem?_eq_getElem hj] at e2
        exact e2.symm
      · exact ⟨⟨zeroI, 0, 0, 0⟩, fun h => absurd h hi⟩
    obtain ⟨f, hf⟩ := Classical.axiomOfChoice key
    have hL : ((List.range len).map f).length = len := by simp
    refine ⟨some a, cap, (List.range len).map f, by rw [hL], by rw [hL]; exact hl, hmm ▸ hm, ?_⟩
    rcases Nat.eq_zero_or_pos len with h0 | h0
    · subst h0
      exact Cells.nil _ _
    · obtain ⟨b, o, rfl, _⟩ := hf 0 h0
      refine wcells_join fun i hi => ?_
      rw [hL] at hi
      obtain ⟨b', o', e1, q2⟩ := hf i hi
      cases e1
      simp only [List.getElem_map, List.getElem_range]
      exact q2
end
theorem size31 (r : Wlk) : (Tryd.prog.info? 31).map (·.size) = some (wkc r).length := by rw [wkc_length]; kernel_rfl
theorem zero31 : ∀ w, (zeroValue 31).run Tryd.prog w = .ok (.agg (wkc ⟨zeroI, 0, 0, 0⟩).toArray) w := (zero_of_info (n := 35) (by kernel_rfl)).1
section
variable {v : World} {o : Oper} {ρ : Operand → Value} {x : Operand} {g : Nat}
theorem exec_fa0 (ho : o.op = .fieldAddr 31 x 0) (hx : ρ x = .pointer (some ⟨g, 0, none⟩)) : (execOp ρ o).run Tryd.prog v = .ok (.value (.pointer (some ⟨g, 0, none⟩))) v := by
  unfold execOp
  simp [ho, hx, go_sem]
theorem exec_fa1 (ho : o.op = .fieldAddr 31 x 1) (hx : ρ x = .pointer (some ⟨g, 0, none⟩)) : (execOp ρ o).run Tryd.prog v = .ok (.value (.pointer (some ⟨g, 32, none⟩))) v := by
  unfold execOp
  simp [ho, hx, go_sem]
theorem exec_fa2 (ho : o.op = .fieldAddr 31 x 2) (hx : ρ x = .pointer (some ⟨g, 0, none⟩)) : (execOp ρ o).run Tryd.prog v = .ok (.value (.pointer (some ⟨g, 33, none⟩))) v := by
  unfold execOp
  simp [ho, hx, go_sem]
theorem exec_fa3 (ho : o.op = .fieldAddr 31 x 3) (hx : ρ x = .pointer (some ⟨g, 0, none⟩)) : (execOp ρ o).run Tryd.prog v = .ok (.value (.pointer (some ⟨g, 34, none⟩))) v := by
  unfold execOp
  simp [ho, hx, go_sem]
theorem wk_x {r : Wlk} (h : Holds v g 31 (wkc r)) : Cells v (some ⟨g, 0, none⟩) (ic r.x) := by
  have := (Cells.of_holds h).part 0 (ds := ic r.x) (fun i hi => by
    unfold wkc
    rw [Nat.zero_add, List.getElem?_append_left hi, List.getElem?_eq_getElem hi])
  simpa using this
theorem wk_c {r : Wlk} (h : Holds v g 31 (wkc r)) : v.cell? ⟨g, 32, none⟩ = some (.int .i64 r.c) := by
  have := h.cell 32
  rw [this]
  unfold wkc
  rw [List.getElem?_append_right (by rw [ic_length]; omega), ic_length]; rfl
theorem wk_f {r : Wlk} (h : Holds v g 31 (wkc r)) : v.cell? ⟨g, 33, none⟩ = some (.int .i64 r.f) := by
  have := h.cell 33
  rw [this]
  unfold wkc
  rw [List.getElem?_append_right (by rw [ic_length]; omega), ic_length]; rfl
theorem wk_t {r : Wlk} (h : Holds v g 31 (wkc r)) : v.cell? ⟨g, 34, none⟩ = some (.int .i64 r.t) := by
  have := h.cell 34
  rw [this]
  unfold wkc
  rw [List.getElem?_append_right (by rw [ic_length]; omega), ic_length]; rfl
end
end Go.Proofs.YtdolihecjomjiaaDoor
