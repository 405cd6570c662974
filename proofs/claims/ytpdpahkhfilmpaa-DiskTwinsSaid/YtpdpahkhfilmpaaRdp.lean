/-
  The document's own disk, as a value: what Ask does to its story (a region that draws its order, two appends). Words of mine.
-/
import Derived.Test.YtpdpahkhfilmpaaRdo
namespace Go.Proofs.Ytpdpahkhfilmpaa
open Go.RowKit
open Rg
theorem info80 : ∃ it, Try.prog.info? 80 = some it ∧ it.zero = some (wv (0, fil 0)) ∧ it.size = 65 ∧ it.bytes = 72 := by
  obtain ⟨it, hq⟩ := info_of 80 (by kernel_rfl)
  have h1 : (Try.prog.info? 80).bind (·.zero) = some (wv (0, fil 0)) := by kernel_rfl
  have h2 : (Try.prog.info? 80).map (·.size) = some 65 := by kernel_rfl
  have h3 : (Try.prog.info? 80).map (·.bytes) = some 72 := by kernel_rfl
  rw [hq] at h1 h2 h3
  exact ⟨it, hq, h1, by simpa using h2, by simpa using h3⟩
theorem run_append80 (v : World) (ty : TypeId) (A : Option Addr) (c : Nat) (l : Story) (hown : OwnG wc 80 65 v A c l) (X : Option Addr) (d : Nat) (k : Story) (hr : Cells v X (k.flatMap wc)) (hk : l.length + k.length ≤ 1099511627776) :
    ∃ A' c' v', (Builtin.append_ #[28, 28] ty #[.slice A l.length c, .slice X k.length d]).run Try.prog v = .ok (.slice A' (l ++ k).length c') v' ∧ OwnG wc 80 65 v' A' c' (l ++ k) ∧ Mod (blk A) v v' ∧ ∀ a, A' = some a → a.block ∈ blk A ∨ v.heap.size ≤ a.block := by
  obtain ⟨it, k1, k2, k3, k4⟩ := info80
  have hkl := flat_length wc 65 wc_length k
  rcases X with _ | ad
  · have hk0 : k = [] := by
      rcases k with _ | ⟨x, k⟩
      · rfl
      · obtain ⟨g, o, hh, _⟩ := hr 0 (by rw [hkl]; simp)
        cases hh
    subst hk0
    have hrun := run_append_noneG (P := Try.prog) v 28 ty 80 it Try.underlying28 k1 hown d
    exact ⟨A, c, v, by simpa using hrun, by simpa using hown, Mod.refl _ _, fun a ha => .inl (by subst ha; simp [blk])⟩
  · have hcells : ∀ j u, (k.flatMap wc)[j]? = some u → v.cell? (ad.add j) = some u := by
      intro j u hu
      rcases Nat.eq_zero_or_pos (k.flatMap wc).length with h0 | h0
      · rw [List.eq_nil_of_length_eq_zero h0] at hu
        simp at hu
      · obtain ⟨ad', e', hh⟩ := hr.first h0
        injection e' with e'
        subst e'
        exact hh j u hu
    have hone : ∀ u ∈ k.flatMap wc, u.oneCell' = true := fun u hu => by
      obtain ⟨x, _, hx⟩ := List.mem_flatMap.1 hu
      exact wc_one x u hx
    obtain ⟨v', w', hrun, hown', hgr, _, hbl⟩ := run_append_own_at (P := Try.prog) v 0 28 ty 80 it (wv (0, fil 0)) 65 72 Try.underlying28 k1 k2 k3 k4 (by rw [wv_cells]; simp [wc_length]) (by decide) _ _ _ hown ad k.length d (k.flatMap wc) hkl hcells hone (by unfold maxLen; omega) (by omega) (Nat.zero_le _)
    have hv : ∃ A' c', v' = .slice A' (l ++ k).length c' := by
      rcases hown'.2 with ⟨hv, hn⟩ | ⟨g, cap, cur, hv, _⟩
      · exact ⟨none, 0, by rw [hv, List.length_append, hn]⟩
      · exact ⟨_, _, by rw [hv, List.length_append]⟩
    obtain ⟨A', c', rfl⟩ := hv
    have hO : OwnG wc 80 65 w' A' c' (l ++ k) := by
      have := hown'
      rw [← List.length_append, ← List.flatMap_append] at this
      exact this
    have hob : ∀ (A : Option Addr) n c, (Value.slice A n c).ownBlock = A.map (·.block) := by intro A n c; cases A <;> rfl
    rw [hob] at hgr
    rw [hob, hob] at hbl
    refine ⟨A', c', w', hrun, hO, ⟨hgr.os, hgr.tape, hgr.output, hgr.size, fun j hj hn => hgr.block j hj ?_⟩, ?_⟩
    · intro hh
      exact hn (by unfold blk; rw [← hh]; simp)
    · intro b hb
      subst hb
      rcases hbl with hh | hh
      · left; unfold blk; rw [← hh]; simp
      · right
        have : b.block = v.heap.size := by simpa using hh
        omega
theorem exec_field30 {v : World} {o : Oper} {ρ : Operand → Value} {x : Operand} {g : Nat} (ho : o.op = .fieldAddr 30 x 2) (hx : ρ x = .pointer (some ⟨g, 0, none⟩)) : (execOp ρ o).run Try.prog v = .ok (.value (.pointer (some ⟨g, 2, none⟩))) v := by
  unfold execOp
  simp [ho, hx, go_sem]
theorem exec_none28 {v : World} {o : Oper} {ρ : Operand → Value} (ho : o.op = .buildSlice 28 0 #[]) : (execOp ρ o).run Try.prog v = .ok (.value (.slice (some ⟨v.heap.size, 0, none⟩) 0 0)) (v.alloc (.cells #[] 80)) := by
  have h : (Instr.buildSlice 28 0 #[]).run Try.prog v = .ok (.slice (some ⟨v.heap.size, 0, none⟩) 0 0) (v.alloc (.cells #[] 80)) := by go_simp
  unfold execOp
  simp only [ho, List.map_toArray, List.map_nil, Sem.run_bind, h, Result.andThen, Sem.run_pure]
theorem own80 {w : World} {g : Nat} (h : Holds w g 80 []) : OwnG wc 80 65 w (some ⟨g, 0, none⟩) 0 [] := OwnG.of_holds (f := wc) (e := 80) (size := 65) (l := []) h wc_length (by decide)
theorem exec_build80 {v : World} {o : Oper} {ρ : Operand → Value} {x y : Operand} {i : Int} {b : Blk} (ho : o.op = .build 80 #[(0, x), (1, y)]) (hx : ρ x = .int .i64 i) (hy : ρ y = bv b) : (execOp ρ o).run Try.prog v = .ok (.value (wv (i, b))) v := by
  unfold execOp
  simp only [ho, List.map_toArray, List.map_cons, List.map_nil, hx, hy, Sem.run_bind, run_build80, Result.andThen, Sem.run_pure]
def New (w : World) (A : Option Addr) : Prop := ∀ a, A = some a → w.heap.size ≤ a.block
theorem New.notin {w : World} {A : Option Addr} (h : New w A) {g : Nat} (hg : g < w.heap.size) : g ∉ blk A := by
  intro hh
  obtain ⟨a, ha, e⟩ := mem_blk hh
  have := h a ha
  omega
theorem New.keep {w v v' : World} {A : Option Addr} {ms : List Nat} (h : New w A) (m : Mod ms w v) (k : Mod (blk A) v v') : Mod ms w v' :=
  m.trans k (fun i hi hh => by
    obtain ⟨a, ha, e⟩ := mem_blk hh
    have := h a ha
    omega)
theorem New.of {w v : World} {A A' : Option Addr} {ms : List Nat} (h : New w A) (m : Mod ms w v) (k : ∀ a, A' = some a → a.block ∈ blk A ∨ v.heap.size ≤ a.block) : New w A' := fun a ha => by
  rcases k a ha with hh | hh
  · obtain ⟨b, hb, e⟩ := mem_blk hh
    have := h b hb
    omega
  · have := m.size
    omega
theorem new_some {w : World} {g : Nat} (h : w.heap.size ≤ g) : New w (some ⟨g, 0, none⟩) := fun a ha => by cases ha; exact h
theorem holds_ne {v : World} {a b : Nat} {p : Int × Blk} (h : Holds v a 80 []) (k : Holds v b 80 (wc p)) : b ≠ a := by
  rintro rfl
  unfold Holds at h k
  rw [h] at k
  have := congrArg (fun o => match o with | some (Obj.cells cs _ _) => cs.size | _ => 0) k
  simp [wc_length] at this
abbrev X4 := Nat × (Option Addr × Nat) × Nat × (Option Addr × Nat)
/-- How the world stands amid the region. -/
def ASt (w : World) (g : Nat) (C0 : List Value) (C2 : Option Addr → Nat → List Value) (l : Story) (p : Int × Blk) (x : X4) (b0 b3 b7 b8 b10 : Bool) (v : World) : Prop :=
  Mod [g] w v ∧ (b10 = false → Holds v g 30 C0) ∧ (b0 = true → b3 = false → Holds v x.1 80 [] ∧ w.heap.size ≤ x.1) ∧ (b3 = true → b8 = false → OwnG wc 80 65 v x.2.1.1 x.2.1.2 l ∧ New w x.2.1.1) ∧
    (b7 = true → b8 = false → Holds v x.2.2.1 80 (wc p) ∧ w.heap.size ≤ x.2.2.1) ∧ (b8 = true → OwnG wc 80 65 v x.2.2.2.1 x.2.2.2.2 (l ++ [p]) ∧ New w x.2.2.2.1) ∧ (b10 = true → Holds v g 30 (C2 x.2.2.2.1 x.2.2.2.2))
section
variable {w v v' : World} {g : Nat} {C0 : List Value} {C2 : Option Addr → Nat → List Value} {l : Story} {p : Int × Blk} {x : X4} {b0 b3 b7 b8 b10 : Bool}
theorem OwnG.kp (h : OwnG wc 80 65 v x.2.1.1 x.2.1.2 l) (k : Mod [] v v') : OwnG wc 80 65 v' x.2.1.1 x.2.1.2 l := h.keep k (fun _ _ => by simp)
theorem ASt.made0 (h : ASt w g C0 C2 l p x b0 b3 b7 b8 b10 v) : ASt w g C0 C2 l p (v.heap.size, x.2) true b3 b7 b8 b10 (v.alloc (.cells #[] 80)) := by
  have m : Mod [] v (v.alloc (.cells #[] 80)) := Mod.alloc [] v _
  obtain ⟨h1, h2, h3, h4, h5, h6, h7⟩ := h
  exact ⟨h1.then m, fun q => (h2 q).keep m (by simp), fun _ _ => ⟨Holds.made v 80 [], h1.size⟩, fun q q' => ⟨(h4 q q').1.keep m (fun _ _ => by simp), (h4 q q').2⟩, fun q q' => ⟨(h5 q q').1.keep m (by simp), (h5 q q').2⟩, fun q => ⟨(h6 q).1.keep m (fun _ _ => by simp), (h6 q).2⟩, fun q => (h7 q).keep m (by simp)⟩
theorem ASt.made1 (h : ASt w g C0 C2 l p x b0 b3 b7 b8 b10 v) : ASt w g C0 C2 l p (x.1, x.2.1, v.heap.size, x.2.2.2) b0 b3 true b8 b10 (v.alloc (.cells (wc p).toArray 80)) := by
  have m : Mod [] v (v.alloc (.cells (wc p).toArray 80)) := Mod.alloc [] v _
  obtain ⟨h1, h2, h3, h4, h5, h6, h7⟩ := h
  exact ⟨h1.then m, fun q => (h2 q).keep m (by simp), fun q q' => ⟨(h3 q q').1.keep m (by simp), (h3 q q').2⟩, fun q q' => ⟨(h4 q q').1.keep m (fun _ _ => by simp), (h4 q q').2⟩, fun _ _ => ⟨Holds.made v 80 _, h1.size⟩, fun q => ⟨(h6 q).1.keep m (fun _ _ => by simp), (h6 q).2⟩, fun q => (h7 q).keep m (by simp)⟩
theorem ASt.app1 (h : ASt w g C0 C2 l p x true false b7 false b10 v) (hg : g < w.heap.size) (ty : TypeId) {A : Option Addr} {c : Nat} (hA : Cells w A (l.flatMap wc)) (hn : ∀ a, A = some a → a.block ≠ g) (hl : l.length ≤ 1099511627776) :
    ∃ A' c' v', (Builtin.append_ #[28, 28] ty #[.slice (some ⟨x.1, 0, none⟩) 0 0, .slice A l.length c]).run Try.prog v = .ok (.slice A' l.length c') v' ∧ ASt w g C0 C2 l p (x.1, (A', c'), x.2.2) true true b7 false b10 v' := by
  obtain ⟨h1, h2, h3, h4, h5, h6, h7⟩ := h
  obtain ⟨k1, k2⟩ := h3 rfl rfl
  obtain ⟨A', c', v', hrun, hO, hm, hb⟩ := run_append80 v ty _ 0 [] (own80 k1) A c l (hA.keep h1 (fun a ha => by simpa using hn a ha)) (by simpa using hl)
  simp only [List.length_nil, List.nil_append] at hrun hO
  have hN := new_some k2
  have hgn : g ∉ blk (some (⟨x.1, 0, none⟩ : Addr)) := hN.notin hg
  exact ⟨A', c', v', hrun, hN.keep h1 hm, fun q => (h2 q).keep hm hgn, (fun _ q => by cases q), fun _ _ => ⟨hO, hN.of h1 hb⟩, fun q q' => ⟨(h5 q q').1.keep hm (by simpa [blk] using holds_ne k1 (h5 q q').1), (h5 q q').2⟩, (fun q => by cases q), fun q => (h7 q).keep hm hgn⟩
theorem ASt.app2 (h : ASt w g C0 C2 l p x b0 true true false false v) (hg : g < w.heap.size) (ty : TypeId) (hl : l.length < 1099511627776) :
    ∃ A' c' v', (Builtin.append_ #[28, 28] ty #[.slice x.2.1.1 l.length x.2.1.2, .slice (some ⟨x.2.2.1, 0, none⟩) 1 1]).run Try.prog v = .ok (.slice A' (l.length + 1) c') v' ∧ ASt w g C0 C2 l p (x.1, x.2.1, x.2.2.1, (A', c')) b0 true true true false v' := by
  obtain ⟨h1, h2, h3, h4, h5, h6, h7⟩ := h
  obtain ⟨k1, k2⟩ := h4 rfl rfl
  obtain ⟨k3, k4⟩ := h5 rfl rfl
  obtain ⟨A', c', v', hrun, hO, hm, hb⟩ := run_append80 v ty _ _ l k1 (some ⟨x.2.2.1, 0, none⟩) 1 [p] (by rw [List.flatMap_cons, List.flatMap_nil, List.append_nil]; exact Cells.of_holds k3) (by simp; omega)
  have e : (l ++ [p]).length = l.length + 1 := by simp
  rw [e] at hrun
  have hgn : g ∉ blk x.2.1.1 := k2.notin hg
  exact ⟨A', c', v', hrun, k2.keep h1 hm, fun q => (h2 q).keep hm hgn, (fun _ q => by cases q), (fun _ q => by cases q), (fun _ q => by cases q), fun _ => ⟨hO, k2.of h1 hb⟩, (fun q => by cases q)⟩
theorem ASt.stored (h : ASt w g C0 C2 l p x b0 true b7 true false v) (hg : g < w.heap.size) {V : Value} (hV : C0.set 2 V = C2 x.2.2.2.1 x.2.2.2.2) : ASt w g C0 C2 l p x b0 true b7 true true (v.setCell ⟨g, 2, none⟩ V) := by
  obtain ⟨h1, h2, h3, h4, h5, h6, h7⟩ := h
  have m : Mod [g] v (v.setCell ⟨g, 2, none⟩ V) := Mod.setCell _ (by simp) _
  obtain ⟨k1, k2⟩ := h6 rfl
  exact ⟨h1.trans m (fun _ _ q => q), (fun q => by cases q), (fun _ q => by cases q), (fun _ q => by cases q), (fun _ q => by cases q), fun _ => ⟨k1.keep m (fun a ha => by have := k2 a ha; simp; omega), k2⟩, fun _ => by rw [← hV]; exact (h2 rfl).set 2 V⟩
end
end Go.Proofs.Ytpdpahkhfilmpaa
