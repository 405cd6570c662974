/-
  Rows of the call's own; slices.Insert, Delete, BinarySearch, Contains, Equal over them; copied. My own work.
-/
import Derived.Test.YtaadmpainikfpaaWb
import Derived.Test.YtaadmpainikfpaaShf
namespace Go.Proofs.Ytaadmpainikfpaa
open Go.RowKit Go.Shelf
attribute [local go_sem] Oper.semAt_some
set_option linter.unusedVariables false
set_option linter.unusedSimpArgs false
theorem run_appendG2 {α : Type} {f : α → List Value} {size : Nat} {P : Program} (w : World) (t ot : TypeId)
    (e : TypeId) (i : TypeInfo) (z : Value) (bytes : Nat) (ht : P.underlying t = some (.slice e)) (hi : P.info? e = some i) (hz : i.zero = some z) (hsize : i.size = size) (hby : i.bytes = bytes) (hzs : z.cells.size = size) (hs0 : 0 < size)
    (hf : ∀ x, (f x).length = size) (h1 : ∀ x, ∀ v ∈ f x, v.oneCell' = true)
    (A : Option Addr) (n c : Nat) (l : List α) (hn : n = l.length) (hown : OwnG f e size w A c l)
    (X : Option Addr) (m d : Nat) (k : List α) (hm : m = k.length) (hr : Cells w X (k.flatMap f))
    (h63 : (l.length + k.length) * bytes ≤ 140737488355328) (h64 : l.length + k.length ≤ maxLen) :
    ∃ A' c' v, (Builtin.append_ #[t, t] ot #[.slice A n c, .slice X m d]).run P w = .ok (.slice A' (l ++ k).length c') v ∧ OwnG f e size v A' c' (l ++ k) ∧ Mod (blk A) w v ∧ (∀ a, A' = some a → a.block ∈ blk A ∨ w.heap.size ≤ a.block) := by
  subst hn hm
  have hkl := flat_length f size hf k
  rcases X with _ | ad
  · have hk : k = [] := by
      rcases k with _ | ⟨x, k⟩
      · rfl
      · obtain ⟨g, o, hh, _⟩ := hr 0 (by rw [hkl]; simp; omega)
        cases hh
    subst hk
    have hrun := run_append_noneG (P := P) w t ot e i ht hi hown d
    exact ⟨A, c, w, by simpa using hrun, by simpa using hown, Mod.refl _ _, fun b hb => .inl (by subst hb; simp [blk])⟩
  · have hcells : ∀ j u, (k.flatMap f)[j]? = some u → w.cell? (ad.add j) = some u := by
      intro j u hu
      rcases Nat.eq_zero_or_pos (k.flatMap f).length with h0 | h0
      · rw [List.eq_nil_of_length_eq_zero h0] at hu
        simp at hu
      · obtain ⟨ad', e', hh⟩ := hr.first h0
        injection e' with e'
        subst e'
        exact hh j u hu
    have hone : ∀ u ∈ k.flatMap f, u.oneCell' = true := fun u hu => by
      obtain ⟨x, _, hx⟩ := List.mem_flatMap.1 hu
      exact h1 x u hx
    obtain ⟨v', w', hrun, hown', hgr, _, hbl⟩ := run_append_own_at (P := P) w 0 t ot e i z size bytes ht hi hz hsize hby hzs hs0 _ _ _ hown ad k.length d (k.flatMap f) hkl hcells hone h64 h63 (Nat.zero_le _)
    have hv : ∃ A' c', v' = .slice A' (l ++ k).length c' := by
      rcases hown'.2 with ⟨hv, hn⟩ | ⟨g, cap, cur, hv, _⟩
      · exact ⟨none, 0, by rw [hv, List.length_append, hn]⟩
      · exact ⟨_, _, by rw [hv, List.length_append]⟩
    obtain ⟨A', c', rfl⟩ := hv
    have hO : OwnG f e size w' A' c' (l ++ k) := by
      have := hown'
      rw [← List.length_append, ← List.flatMap_append] at this
      exact this
    have hob : ∀ (A : Option Addr) n c, (Value.slice A n c).ownBlock = A.map (·.block) := by intro A n c; cases A <;> rfl
    rw [hob] at hgr
    rw [hob, hob] at hbl
    refine ⟨A', c', w', hrun, hO, ⟨hgr.os, hgr.tape, hgr.output, hgr.size, fun j hj hn => hgr.block j hj ?_⟩, ?_⟩
    · intro hh
      exact hn (by unfold blk; rw [← hh]; simp)
    · intro b hb
      subst hb
      rcases hbl with hh | hh
      · left; unfold blk; rw [← hh]; simp
      · right
        simp at hh
        omega
def fz (z : Int) : List Value := [ci z]
theorem fz_flat (l : List Int) : l.flatMap fz = l.map ci := by
  induction l with
  | nil => rfl
  | cons x l ih => rw [List.flatMap_cons, ih]; rfl
theorem ci_one (l : List Int) : ∀ v ∈ l.map ci, v.oneCell' = true := by
  intro v hv
  obtain ⟨z, _, rfl⟩ := List.mem_map.1 hv
  rfl
abbrev OI (w : World) (A : Option Addr) (c : Nat) (l : List Int) : Prop := OwnG fz 3 1 w A c l
theorem OwnG.open' {w : World} {A : Option Addr} {c : Nat} {l : List Int} (h : OI w A c l) : (A = none ∧ c = 0 ∧ l = []) ∨ ∃ g sp, A = some ⟨g, 0, none⟩ ∧ Holds w g 3 (l.map ci ++ sp) ∧ c = l.length + sp.length ∧ c ≤ 9223372036854775807 := by
  have hf := h.fits
  rcases h.2 with ⟨hv, hn⟩ | ⟨g, cap, cur, hv, hb, hg, h1, h2, h3, h4⟩
  · injection hv with h1 h2 h3
    exact .inl ⟨h1, h3, List.eq_nil_of_length_eq_zero hn⟩
  · injection hv with e1 e2 e3
    subst e3
    rw [fz_flat, Nat.mul_one] at h4
    refine .inr ⟨g, cur.toList.drop l.length, e1, ?_, ?_, by unfold maxLen at h2; omega⟩
    · unfold Holds
      rw [hg, ← h4, List.take_append_drop]
    · have hs : cur.toList.length = cur.size := Array.length_toList ..
      rw [List.length_drop, hs]
      omega
theorem OwnG.shut {w : World} {g : Nat} {sp : List Value} {l : List Int} (h : Holds w g 3 (l.map ci ++ sp)) (c : Nat) (hc : c = l.length + sp.length) (hb : c ≤ 9223372036854775807) : OI w (some ⟨g, 0, none⟩) c l := by
  subst hc
  refine ⟨by rw [fz_flat]; simp, .inr ⟨g, _, _, rfl, Nat.zero_le _, h, by omega, by unfold maxLen; omega, by simp, ?_⟩⟩
  rw [fz_flat]
  simp
theorem OwnG.ri {w : World} {A : Option Addr} {c : Nat} {l : List Int} (h : OI w A c l) (n : Nat) (hn : n = l.length) : RI w A n c l := by
  have hf := h.fits
  refine ⟨hn, by omega, by have := hf.2; unfold maxLen at this; omega, ?_⟩
  have := h.cells
  rwa [fz_flat] at this
theorem Holds.setCells {g : Nat} {t : TypeId} : ∀ (vs : List Value) (o : Nat) {w : World} {cs : List Value}, Holds w g t cs → o + vs.length ≤ cs.length → Holds (w.setCells g o vs) g t (cs.take o ++ vs ++ cs.drop (o + vs.length))
  | [], o, w, cs, h, _ => by
    rw [World.setCells, List.append_nil, List.length_nil, Nat.add_zero, List.take_append_drop]
    exact h
  | v :: r, o, w, cs, h, ho => by
    rw [List.length_cons] at ho
    have ih := Holds.setCells r (o + 1) (h.set o v) (by rw [List.length_set]; omega)
    rw [World.setCells]
    have e : (cs.set o v).take (o + 1) ++ r ++ (cs.set o v).drop (o + 1 + r.length) = cs.take o ++ (v :: r) ++ cs.drop (o + (v :: r).length) := by
      have h1 : (cs.set o v).take (o + 1) = cs.take o ++ [v] := by
        rw [List.take_succ_eq_append_getElem (by rw [List.length_set]; omega), List.getElem_set_self, List.take_set_of_le (Nat.le_refl _)]
      have h2 : (cs.set o v).drop (o + 1 + r.length) = cs.drop (o + (v :: r).length) := by
        rw [List.drop_set_of_lt (by omega), List.length_cons]
        congr 1
        omega
      rw [h1, h2]
      simp
    rw [e] at ih
    exact ih
theorem Mod.setCells {g : Nat} : ∀ (vs : List Value) (o : Nat) (w : World), Mod [g] w (w.setCells g o vs)
  | [], o, w => Mod.refl _ _
  | v :: r, o, w => by
    rw [World.setCells]
    exact (Mod.setCell (ms := [g]) w (by simp) v).trans (Mod.setCells r (o + 1) _) (fun _ _ h => h)
theorem size_setCells (g : Nat) : ∀ (vs : List Value) (o : Nat) (w : World), (w.setCells g o vs).heap.size = w.heap.size
  | [], _, _ => rfl
  | v :: r, o, w => by rw [World.setCells, size_setCells g r, World.size_setCell]
theorem Holds.drew {w : World} {g : Nat} {t : TypeId} {cs : List Value} (h : Holds w g t cs) : Holds w.drew g t cs := h
theorem Holds.drewN {w : World} {g : Nat} {t : TypeId} {cs : List Value} (h : Holds w g t cs) (q : Nat) : Holds (w.drewN q) g t cs := h.keep (Mod.drewN [] w q) (by simp)
/-- Where a row lies that was made or turned. -/
def InsR (w : World) (A : Option Addr) (n : Nat) (l : List Int) (e : Ending) (w' : World) : Prop := ∃ A' c', e = .returned (.slice A' n c') ∧ OI w' A' c' l ∧ Mod (blk A) w w' ∧ ∀ a, A' = some a → a.block ∈ blk A ∨ w.heap.size ≤ a.block
theorem getElem_holds {w : World} {g : Nat} {t : TypeId} {cs : List Value} (h : Holds w g t cs) (j : Nat) (v : Value) (hv : cs[j]? = some v) : w.cell? ⟨g, j, none⟩ = some v := (h.cell j).trans hv
theorem splice_eq {A B D Y : List Value} {x : Value} {i k : Nat} (hA : A.length = i) (hB : B.length = k) : (A ++ [x] ++ (B ++ Y)).take (i + 1) ++ D ++ (A ++ [x] ++ (B ++ Y)).drop (i + 1 + k) = A ++ [x] ++ D ++ Y := by
  have h1 : (A ++ [x]).length = i + 1 := by rw [List.length_append, hA, List.length_singleton]
  have h2 : (A ++ [x] ++ B).length = i + 1 + k := by rw [List.length_append, h1, hB]
  rw [List.take_left' h1, ← List.append_assoc (A ++ [x]) B Y, List.drop_left' h2]
theorem insert_c (A : Option Addr) (c n i : Nat) (l : List Int) (x : Int) (vb : Nat) (w : World) (h : OI w A c l) (hn : n = l.length) (hi : i ≤ n) (hb : n ≤ 1000) (hv : Holds w vb 3 [ci x]) (hne : vb ∉ blk A) :
    Calls Try.prog 53 #[.slice A n c, .int .i64 i, .slice (some ⟨vb, 0, none⟩) 1 1] w (InsR w A (n + 1) (l.take i ++ x :: l.drop i)) := by
  have hvs : ∀ (j : Nat) (v : Value), [ci x][j]? = some v → w.cell? ⟨vb, 0 + j, none⟩ = some v := fun j v hj => by rw [Nat.zero_add]; exact getElem_holds hv j v hj
  have h1v : ∀ v ∈ [ci x], v.oneCell' = true := fun v hv => by rw [List.mem_singleton] at hv; subst hv; rfl
  have hf := h.fits
  rcases Nat.lt_or_ge i n with hin | hin
  · rcases h.open' with ⟨rfl, rfl, rfl⟩ | ⟨g, sp, rfl, hg, hc, hcb⟩
    · simp at hn; omega
    have hcs : ∀ (j : Nat) (v : Value), (l.map ci)[j]? = some v → w.cell? ⟨g, 0 + j, none⟩ = some v := fun j v hj => by
      rw [Nat.zero_add]
      refine getElem_holds hg j v ?_
      obtain ⟨hj', _⟩ := List.getElem?_eq_some_iff.1 hj
      rw [List.getElem?_append_left hj', hj]
    rcases Nat.lt_or_ge c (n + 1) with hcn | hcn
    · refine (Any2.slices_Insert_int_grow Try.laysNm221 g 0 n c i vb 0 1 1 (l.map ci) [ci x] w hin (by omega) (by omega) hcn (by omega) (by simp [hn]) rfl hcs hvs (ci_one l) h1v).mono ?_
      rintro e w' ⟨rfl, rfl⟩
      have hge := grownCap_ge w (n + 1) c 3
      have hle := grownCap_le_maxLen w (n + 1) c 3 (by unfold maxLen; omega)
      obtain ⟨Z, hZ⟩ : ∃ Z, Z = Builtin.zeroCells (Value.int .i64 0).cells (n + 1 - i) := ⟨_, rfl⟩
      obtain ⟨Y, hY⟩ : ∃ Y, Y = Builtin.zeroCells (Value.int .i64 0).cells (grownCap w (n + 1) c 3 - (n + 1)) := ⟨_, rfl⟩
      have hZs : Z.toList.length = n + 1 - i := by rw [hZ, Array.length_toList, size_zeroCells]; simp [Value.cells]
      have hYs : Y.toList.length = grownCap w (n + 1) c 3 - (n + 1) := by rw [hY, Array.length_toList, size_zeroCells]; simp [Value.cells]
      have hs3 : (Try.laysNm221_ren.t 3) = 3 := rfl
      rw [hs3, ← hZ, ← hY]
      have eA : ((l.map ci).take i).toArray ++ Z ++ Y = ((l.map ci).take i ++ Z.toList ++ Y.toList).toArray := by simp
      rw [eA]
      have H0 := Holds.made w 3 ((l.map ci).take i ++ Z.toList ++ Y.toList)
      have hti : ((l.map ci).take i).length = i := by rw [List.length_take, List.length_map]; omega
      have H1 := Holds.setCells [ci x] i H0.drew (by simp only [List.length_append, hti, hZs, hYs, List.length_singleton]; omega)
      have e1 : ((l.map ci).take i ++ Z.toList ++ Y.toList).take i ++ [ci x] ++ ((l.map ci).take i ++ Z.toList ++ Y.toList).drop (i + [ci x].length) = (l.map ci).take i ++ [ci x] ++ (Z.toList.drop 1 ++ Y.toList) := by
        rw [List.append_assoc, List.append_assoc, List.take_left' hti, List.append_assoc]
        congr 2
        rw [List.length_singleton, List.drop_append, hti, List.drop_of_length_le (by omega), List.nil_append, show i + 1 - i = 1 by omega, List.drop_append_of_le_length (by omega)]
      rw [e1] at H1
      have H2 := Holds.setCells ((l.map ci).drop i) (i + 1) H1.drew (by simp only [List.length_append, hti, hZs, hYs, List.length_singleton, List.length_drop, List.length_map]; omega)
      have hd : ((l.map ci).drop i).length = n - i := by rw [List.length_drop, List.length_map, hn]
      rw [splice_eq (A := (l.map ci).take i) (B := Z.toList.drop 1) (x := ci x) (k := ((l.map ci).drop i).length) hti (by rw [hd, List.length_drop, hZs]; omega)] at H2
      have e2 : (l.map ci).take i ++ [ci x] ++ (l.map ci).drop i ++ Y.toList = (l.take i ++ x :: l.drop i).map ci ++ Y.toList := by simp
      rw [e2] at H2
      refine ⟨_, _, rfl, OwnG.shut H2 _ (by rw [hYs]; simp only [List.length_append, List.length_cons, List.length_take, List.length_drop]; omega) (by unfold maxLen at hle; omega), ?_, ?_⟩
      · have m1 : Mod [] w (w.alloc (.cells ((l.map ci).take i ++ Z.toList ++ Y.toList).toArray 3)) := Mod.alloc [] w _
        have m2 := ((m1.then (Mod.drew [] _)).trans (Mod.setCells (g := w.heap.size) [ci x] i _) (fun j hj h => by simp at h; omega)).then (Mod.drew [] _)
        exact (m2.trans (Mod.setCells (g := w.heap.size) ((l.map ci).drop i) (i + 1) _) (fun j hj h => by simp at h; omega)).wk (fun _ _ h => by cases h)
      · rintro a ⟨⟩
        exact .inr (Nat.le_refl _)
    · have hsp : 1 ≤ sp.length := by omega
      have hsome : ∀ j, j < n + 1 → (w.cell? ⟨g, 0 + j, none⟩).isSome = true := fun j hj => by
        rw [Nat.zero_add, hg.cell, List.getElem?_eq_getElem (by simp; omega)]
        rfl
      have hgb : g ≠ vb := fun e => hne (by simp [blk, e])
      refine (Any2.slices_Insert_int_shift Try.laysNm221 g 0 n c i vb 0 1 1 (l.map ci) [ci x] w hin (by omega) (by omega) (by omega) (fun e => hgb e.symm) (by simp [hn]) rfl hcs hsome (fun j _ => hg.free _) hvs (ci_one l) h1v 3 3 1 c (by unfold World.shape?; unfold Holds at hv; rw [hv]; rfl) (by unfold World.shape?; unfold Holds at hg; rw [hg]; simp [hc]) (by omega) (hv.free 0) (hv.free 1)).mono ?_
      rintro e w' ⟨rfl, rfl⟩
      rw [Nat.zero_add, Nat.zero_add]
      have H1 := Holds.setCells ((l.map ci).drop i) (i + 1) hg.drew (by simp; omega)
      have H2 := Holds.setCells [ci x] i H1 (by simp; omega)
      have hti : ((l.map ci).take i).length = i := by rw [List.length_take, List.length_map]; omega
      have hd : ((l.map ci).drop i).length = n - i := by rw [List.length_drop, List.length_map, hn]
      have e2 : ((l.map ci ++ sp).take (i + 1) ++ (l.map ci).drop i ++ (l.map ci ++ sp).drop (i + 1 + ((l.map ci).drop i).length)).take i ++ [ci x] ++ ((l.map ci ++ sp).take (i + 1) ++ (l.map ci).drop i ++ (l.map ci ++ sp).drop (i + 1 + ((l.map ci).drop i).length)).drop (i + [ci x].length) = (l.take i ++ x :: l.drop i).map ci ++ sp.drop 1 := by
        have h0 : ((l.map ci ++ sp).take (i + 1)).length = i + 1 := by simp; omega
        rw [hd, List.append_assoc ((l.map ci ++ sp).take (i + 1)), List.take_append_of_le_length (by omega), List.take_take, Nat.min_eq_left (by omega), List.take_append_of_le_length (by simp; omega), List.length_singleton, List.drop_left' h0]
        have h1 : (l.map ci ++ sp).drop (i + 1 + (n - i)) = sp.drop 1 := by
          rw [List.drop_append, List.drop_of_length_le (by simp; omega), List.nil_append, List.length_map]
          congr 1
          omega
        rw [h1]
        simp
      rw [e2] at H2
      refine ⟨_, _, rfl, OwnG.shut H2 _ (by simp; omega) hcb, ?_, ?_⟩
      · have m1 := ((Mod.drew [g] w).trans (Mod.setCells (g := g) ((l.map ci).drop i) (i + 1) _) (fun _ _ h => h)).trans (Mod.setCells (g := g) [ci x] i _) (fun _ _ h => h)
        exact m1
      · rintro a ⟨⟩
        exact .inl (by simp [blk])
  · obtain rfl : i = n := by omega
    have hfin : l.take i ++ x :: l.drop i = l ++ [x] := by rw [List.take_of_length_le (by omega), List.drop_of_length_le (by omega)]
    rw [hfin]
    rcases Nat.lt_or_ge c (i + 1) with hcn | hcn
    · have hcs : ∀ a, A = some a → ∀ (j : Nat) (v : Value), (l.map ci)[j]? = some v → w.cell? (a.add j) = some v := fun a ha j v hj => by
        rcases h.open' with ⟨rfl, _⟩ | ⟨g, sp, rfl, hg, hc, hcb⟩
        · cases ha
        · cases ha
          rw [add_plain, Nat.zero_add]
          refine getElem_holds hg j v ?_
          obtain ⟨hj', _⟩ := List.getElem?_eq_some_iff.1 hj
          rw [List.getElem?_append_left hj', hj]
      have hnil : A = none → i = 0 := fun e => by
        rcases h.open' with ⟨_, _, rfl⟩ | ⟨g, sp, rfl, _⟩
        · simpa using hn
        · cases e
      refine (Any2.slices_Insert_int_end_grow Try.laysNm221 A i c vb 0 1 1 (l.map ci) [ci x] w (by omega) (by omega) hcn (by omega) (by simp [hn]) rfl hnil hcs hvs h1v).mono ?_
      rintro e w' ⟨rfl, rfl⟩
      have hge := grownCap_ge w (i + 1) c 3
      have hle := grownCap_le_maxLen w (i + 1) c 3 (by unfold maxLen; omega)
      obtain ⟨Y, hY⟩ : ∃ Y, Y = Builtin.zeroCells (Value.int .i64 0).cells (grownCap w (i + 1) c 3 - (i + 1)) := ⟨_, rfl⟩
      have hYs : Y.toList.length = grownCap w (i + 1) c 3 - (i + 1) := by rw [hY, Array.length_toList, size_zeroCells]; simp [Value.cells]
      have hs3 : (Try.laysNm221_ren.t 3) = 3 := rfl
      rw [hs3, ← hY]
      have eA : (l.map ci ++ [ci x]).toArray ++ Y = ((l ++ [x]).map ci ++ Y.toList).toArray := by simp
      rw [eA]
      have H0 := Holds.made w.drew 3 ((l ++ [x]).map ci ++ Y.toList)
      refine ⟨_, _, rfl, OwnG.shut (g := w.heap.size) H0 _ (by rw [hYs]; simp only [List.length_append, List.length_singleton]; omega) (by unfold maxLen at hle; omega), ?_, ?_⟩
      · exact (Mod.drew _ w).then (Mod.alloc [] w.drew _)
      · rintro a ⟨⟩
        exact .inr (Nat.le_refl _)
    · rcases h.open' with ⟨rfl, rfl, rfl⟩ | ⟨g, sp, rfl, hg, hc, hcb⟩
      · omega
      have hsp : 1 ≤ sp.length := by omega
      refine (Any2.slices_Insert_int_end_room Try.laysNm221 g 0 i c vb 0 1 1 [ci x] w (by omega) hcn (by omega) rfl (fun j hj => ?_) (fun j _ => hg.free _) hvs h1v).mono ?_
      · rw [hg.cell, List.getElem?_eq_getElem (by simp; omega)]
        rfl
      rintro e w' ⟨rfl, rfl⟩
      have H1 := Holds.setCells [ci x] (0 + i) hg (by simp; omega)
      have e1 : (l.map ci ++ sp).take (0 + i) ++ [ci x] ++ (l.map ci ++ sp).drop (0 + i + [ci x].length) = (l ++ [x]).map ci ++ sp.drop 1 := by
        rw [Nat.zero_add, List.take_left' (by simp [hn]), List.length_singleton, List.drop_append, List.drop_of_length_le (by simp; omega), List.nil_append, List.length_map, show i + 1 - l.length = 1 by omega]
        simp
      rw [e1] at H1
      refine ⟨_, _, rfl, OwnG.shut H1 _ (by simp; omega) hcb, Mod.setCells _ _ _, ?_⟩
      rintro a ⟨⟩
      exact .inl (by simp [blk])
end Go.Proofs.Ytaadmpainikfpaa
