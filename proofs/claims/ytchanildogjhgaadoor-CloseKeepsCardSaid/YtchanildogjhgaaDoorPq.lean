/-
  CloseKeeps: what lies in the region that asks, operation by operation. My own work.
-/
import Derived.Test.YtchanildogjhgaaDoorPn
import Derived.Test.YtchanildogjhgaaDoorPo
namespace Go.Proofs.YtchanildogjhgaaDoor
section
open Go.RowKit Go.Shelf
attribute [local go_sem] Oper.semAt_some
set_option linter.unusedVariables false
set_option linter.unusedSimpArgs false
/-- What is made: the empty literal's block, the row with what is known, the literal's block, the row with the term, the answer. -/
abbrev XQ := Nat × (Option Addr × Nat) × Nat × (Option Addr × Nat) × Bool
def RowSt (l0 l2 l5 : Bool) (x : XQ) (os ts : List Th) (K : List Tm) (t : Tm) : Prop :=
  if l5 then ∃ xs S, os = [oR x.2.2.2.1.1 x.2.2.2.1.2 xs] ∧ tLs Any S (K ++ [t]) xs ∈ ts
  else if l2 then ∃ xs S, os = [oR x.2.1.1 x.2.1.2 xs] ∧ tLs Any S K xs ∈ ts
  else if l0 then os = [oR (some ⟨x.1, 0, none⟩) 0 []] ∧ tLs Any (fun _ => False) [] [] ∈ ts
  else os = []
def LitSt (l4 : Bool) (x : XQ) (ts : List Th) (t : Tm) : Prop := l4 = true → ∃ S vs, tR Any S (some ⟨x.2.2.1, 0, none⟩) vs [t] ∈ ts
def KqS (w : World) (OB TB : List Th) (K : List Tm) (t q : Tm) (l0 l2 l4 l5 l7 : Bool) (x : XQ) (v : World) : Prop :=
  ∃ os ts, Fm w v (os ++ OB) ts ∧ (∀ y ∈ TB, y ∈ ts) ∧ RowSt l0 l2 l5 x os ts K t ∧ LitSt l4 x ts t ∧ (l7 = true → (x.2.2.2.2 = true ↔ Tm.Gk (K ++ [t]) false q))
section
variable {w v : World} {OB TB : List Th} {K : List Tm} {t q : Tm} {l0 l2 l4 l5 l7 : Bool} {x : XQ}
theorem RowSt.mono {os ts ts' : List Th} (h : RowSt l0 l2 l5 x os ts K t) (hs : ∀ y ∈ ts, y ∈ ts') : RowSt l0 l2 l5 x os ts' K t := by
  unfold RowSt at h ⊢
  split
  · rename_i h5
    rw [if_pos h5] at h
    obtain ⟨xs, S, h1, h2⟩ := h
    exact ⟨xs, S, h1, hs _ h2⟩
  · rename_i h5
    rw [if_neg h5] at h
    split
    · rename_i h2'
      rw [if_pos h2'] at h
      obtain ⟨xs, S, h1, h2⟩ := h
      exact ⟨xs, S, h1, hs _ h2⟩
    · rename_i h2'
      rw [if_neg h2'] at h
      split
      · rename_i h0
        rw [if_pos h0] at h
        exact ⟨h.1, hs _ h.2⟩
      · rename_i h0
        rw [if_neg h0] at h
        exact h
theorem KqS.call (h : KqS w OB TB K t q l0 l2 l4 l5 l7 x v) {v' : World} (m : Mod [] v v') : KqS w OB TB K t q l0 l2 l4 l5 l7 x v' := by
  obtain ⟨os, ts, F, h1, h2, h3, h4⟩ := h
  exact ⟨os, ts, F.call m, h1, h2, h3, h4⟩
theorem KqS.begin (F : Fm w v OB TB) (x : XQ) : KqS w OB TB K t q false false false false false x v :=
  ⟨[], TB, F, fun _ h => h, rfl, fun h => (by cases h), fun h => (by cases h)⟩
theorem KqS.own (h : KqS w OB TB K t q l0 l2 l4 l5 l7 x v) {y : Th} (hy : y ∈ OB) : y.2 v := by
  obtain ⟨os, ts, F, _⟩ := h
  exact (F.k y (.inl (List.mem_append_right _ hy))).2.1
theorem KqS.std (h : KqS w OB TB K t q l0 l2 l4 l5 l7 x v) {y : Th} (hy : y ∈ TB) : y.2 v ∧ ∀ g, y.1 g → g < v.heap.size := by
  obtain ⟨os, ts, F, hTB, _⟩ := h
  exact ⟨(F.k y (.inr (hTB y hy))).2.1, (F.k y (.inr (hTB y hy))).2.2⟩
theorem KqS.op0 (h : KqS w OB TB K t q false false l4 false false x v) : KqS w OB TB K t q true false l4 false false ⟨v.heap.size, x.2⟩ (v.alloc (.cells ([] : List Value).toArray 24)) := by
  obtain ⟨os, ts, F, h1, h2, h3, h4⟩ := h
  have ho : os = [] := h2
  subst ho
  refine ⟨_, _, F.lit0, fun y hy => List.mem_cons_of_mem _ (h1 y hy), ⟨rfl, List.mem_cons_self ..⟩, fun h => ?_, fun h => (by cases h)⟩
  obtain ⟨S, vs, hh⟩ := h3 h
  exact ⟨S, vs, List.mem_cons_of_mem _ hh⟩
theorem KqS.op2 (h : KqS w OB TB K t q true false l4 false false x v) {S : Nat → Prop} {A : Option Addr} {vs : List (List Value)} (hR : tR Any S A vs K ∈ TB) (n c : Nat) (hn : n = K.length) (hb : n < 1000) :
    ∃ A2 c2 v2, (Builtin.append_ #[22, 22] 22 #[.slice (some ⟨x.1, 0, none⟩) 0 0, .slice A n c]).run Tryd.prog v = .ok (.slice A2 n c2) v2 ∧ KqS w OB TB K t q true true l4 false false ⟨x.1, (A2, c2), x.2.2⟩ v2 := by
  obtain ⟨os, ts, F, h1, h2, h3, h4⟩ := h
  obtain ⟨rfl, hls⟩ : os = [oR (some ⟨x.1, 0, none⟩) 0 []] ∧ tLs Any (fun _ => False) [] [] ∈ ts := h2
  obtain ⟨A2, c2, xs2, S2, v2, hrun, F2⟩ := F.appR 0 rfl hls (h1 _ hR) 0 n c rfl hn (by omega) 22
  rw [Nat.zero_add] at hrun
  refine ⟨A2, c2, v2, hrun, [oR A2 c2 xs2], _, F2, fun y hy => List.mem_cons_of_mem _ (h1 y hy), ⟨xs2, S2, rfl, List.mem_cons_self ..⟩, fun h => ?_, fun h => (by cases h)⟩
  obtain ⟨S, vs, hh⟩ := h3 h
  exact ⟨S, vs, List.mem_cons_of_mem _ hh⟩
theorem KqS.op4 (h : KqS w OB TB K t q l0 l2 false false false x v) {S L : Nat → Prop} {cs : List Value} (hT : tT L S t cs ∈ TB) : KqS w OB TB K t q l0 l2 true false false ⟨x.1, x.2.1, v.heap.size, x.2.2.2⟩ (v.alloc (.cells cs.toArray 24)) := by
  obtain ⟨os, ts, F, h1, h2, h3, h4⟩ := h
  obtain ⟨S2, F2⟩ := F.row1 (h1 _ hT) Any (fun _ _ => trivial) (fun _ _ => trivial)
  exact ⟨os, _, F2, fun y hy => List.mem_cons_of_mem _ (h1 y hy), RowSt.mono (show RowSt l0 l2 false ⟨x.1, x.2.1, v.heap.size, x.2.2.2⟩ os ts K t from h2) (fun y hy => List.mem_cons_of_mem _ hy), fun _ => ⟨S2, _, List.mem_cons_self ..⟩, fun h => (by cases h)⟩
theorem KqS.op5 (h : KqS w OB TB K t q true true true false false x v) (n : Nat) (hn : n = K.length) (hb : n < 1000) :
    ∃ A2 c2 v2, (Builtin.append_ #[22, 22] 22 #[.slice x.2.1.1 n x.2.1.2, .slice (some ⟨x.2.2.1, 0, none⟩) 1 1]).run Tryd.prog v = .ok (.slice A2 (n + 1) c2) v2 ∧ KqS w OB TB K t q true true true true false ⟨x.1, x.2.1, x.2.2.1, (A2, c2), x.2.2.2.2⟩ v2 := by
  obtain ⟨os, ts, F, h1, h2, h3, h4⟩ := h
  obtain ⟨xs, S, rfl, hls⟩ : ∃ xs S, os = [oR x.2.1.1 x.2.1.2 xs] ∧ tLs Any S K xs ∈ ts := h2
  obtain ⟨S4, vs4, hlit⟩ := h3 rfl
  obtain ⟨A2, c2, xs2, S2, v2, hrun, F2⟩ := F.appR 0 rfl hls hlit n 1 1 hn rfl (by omega) 22
  exact ⟨A2, c2, v2, hrun, [oR A2 c2 xs2], _, F2, fun y hy => List.mem_cons_of_mem _ (h1 y hy), ⟨xs2, S2, rfl, List.mem_cons_self ..⟩, fun _ => ⟨S4, vs4, List.mem_cons_of_mem _ hlit⟩, fun h => (by cases h)⟩
theorem KqS.op7 (h : KqS w OB TB K t q true true true true false x v) : ∃ S vs, RowT v S x.2.2.2.1.1 vs (K ++ [t]) ∧ ∀ g, S g → g < v.heap.size := by
  obtain ⟨os, ts, F, h1, h2, h3, h4⟩ := h
  obtain ⟨xs, S, rfl, hls⟩ : ∃ xs S, os = [oR x.2.2.2.1.1 x.2.2.2.1.2 xs] ∧ tLs Any S (K ++ [t]) xs ∈ ts := h2
  exact F.rowStands 0 rfl hls
theorem KqS.told (h : KqS w OB TB K t q true true true true false x v) {v' : World} (m : Mod [] v v') (b : Bool) (hb : b = true ↔ Tm.Gk (K ++ [t]) false q) : KqS w OB TB K t q true true true true true ⟨x.1, x.2.1, x.2.2.1, x.2.2.2.1, b⟩ v' := by
  obtain ⟨os, ts, F, h1, h2, h3, h4⟩ := h
  exact ⟨os, ts, F.call m, h1, h2, h3, fun _ => hb⟩
theorem KqS.back (h : KqS w OB TB K t q true true true true true x v) : Fm w v OB TB ∧ (x.2.2.2.2 = true ↔ Tm.Gk (K ++ [t]) false q) := by
  obtain ⟨os, ts, F, h1, h2, h3, h4⟩ := h
  exact ⟨F.sub (List.sublist_append_right _ _) h1, h4 rfl⟩
end
/-- The three terms may be asked about. -/
theorem kp_right {key : Tm} {V : Int} (ha : (kpA V).right = true) (hk : key.right = true) (hd : key.depth ≤ 20) (hc : key.count ≤ 120) (j : Nat) (hj : j < 3) : ([kpL key V, kpS V, kpH V][j]'hj).right = true ∧ ([kpL key V, kpS V, kpH V][j]'hj).count ≤ 200 := by
  have hao := (right_ok ha).1
  have hko := (right_ok hk).1
  have e1 : (kpL key V).depth = 1 + max key.depth (max 1 0) := rfl
  have e2 : (kpS V).depth = 2 := rfl
  have e3 : (kpH V).depth = 2 := rfl
  have c1 : (kpL key V).count = 1 + (key.count + (1 + 0 + 0)) := rfl
  have c2 : (kpS V).count = 2 := rfl
  have c3 : (kpH V).count = 2 := rfl
  have mk : ∀ t : Tm, t.ok = true → t.depth ≤ 60 → t.count ≤ 200 → t.right = true ∧ t.count ≤ 200 := fun t h1 h2 h3 => ⟨by unfold Tm.right; rw [h1, decide_eq_true h2, decide_eq_true (by omega)]; rfl, h3⟩
  match j, hj with
  | 0, _ => exact mk _ (ok_by (show Tm.one 6 0 0 0 2 = true by decide) (by simp [hao, hko])) (by simp only [List.getElem_cons_zero]; omega) (by simp only [List.getElem_cons_zero]; omega)
  | 1, _ => exact mk _ (ok_by (show Tm.one 7 1 0 0 1 = true by decide) (by simp [hao])) (by show (kpS V).depth ≤ 60; omega) (by show (kpS V).count ≤ 200; omega)
  | 2, _ => exact mk _ (ok_by (show Tm.one 5 0 0 0 1 = true by decide) (by simp [hao])) (by show (kpH V).depth ≤ 60; omega) (by show (kpH V).count ≤ 200; omega)
end
end Go.Proofs.YtchanildogjhgaaDoor
