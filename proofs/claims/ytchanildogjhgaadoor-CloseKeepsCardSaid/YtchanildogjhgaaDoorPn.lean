/-
  CloseKeeps: the three terms that are asked about. My own work.
-/
import Derived.Test.YtchanildogjhgaaDoorPm
import Derived.Test.YtchanildogjhgaaDoorPk
namespace Go.Proofs.YtchanildogjhgaaDoor
section
open Go.RowKit Go.Shelf
attribute [local go_sem] Oper.semAt_some
set_option linter.unusedVariables false
set_option linter.unusedSimpArgs false
theorem exec_lit3 {v : World} {o : Oper} {ρ : Operand → Value} {x y z : Operand} {c0 c1 c2 : List Value} (h0 : c0.length = 5) (h1 : c1.length = 5) (h2 : c2.length = 5) (ho : o.op = .buildSlice 22 3 #[(0, x), (1, y), (2, z)]) (hx : ρ x = .agg c0.toArray) (hy : ρ y = .agg c1.toArray) (hz : ρ z = .agg c2.toArray) : (execOp ρ o).run Tryd.prog v = .ok (.value (.slice (some ⟨v.heap.size, 0, none⟩) 3 3)) (v.alloc (.cells (c0 ++ c1 ++ c2).toArray 24)) := by
  have hr := run_lit23 h0 h1 h2 v
  unfold execOp
  simp only [ho, List.map_toArray, List.map_cons, List.map_nil, hx, hy, hz, Sem.run_bind, hr, Result.andThen, Sem.run_pure]
theorem Fm.row3 {w0 w : World} {os ts : List Th} (F : Fm w0 w os ts) {L1 S1 L2 S2 L3 S3 : Nat → Prop} {t1 t2 t3 : Tm} {c1 c2 c3 : List Value} (h1 : tT L1 S1 t1 c1 ∈ ts) (h2 : tT L2 S2 t2 c2 ∈ ts) (h3 : tT L3 S3 t3 c3 ∈ ts) : ∃ S', Fm w0 (w.alloc (.cells (c1 ++ c2 ++ c3).toArray 24)) os (tR Any S' (some ⟨w.heap.size, 0, none⟩) [c1, c2, c3] [t1, t2, t3] :: ts) := by
  obtain ⟨_, ⟨hT1, hq1⟩, _⟩ := F.k _ (.inr h1)
  obtain ⟨_, ⟨hT2, hq2⟩, _⟩ := F.k _ (.inr h2)
  obtain ⟨_, ⟨hT3, hq3⟩, _⟩ := F.k _ (.inr h3)
  have m := Mod.alloc [] w (.cells (c1 ++ c2 ++ c3).toArray 24)
  have hH := Holds.made w 24 (c1 ++ c2 ++ c3)
  have k1 := (hT1.keep m (by simp)).mono (S' := fun x => x = w.heap.size ∨ S1 x ∨ S2 x ∨ S3 x) fun _ h => .inr (.inl h)
  have k2 := (hT2.keep m (by simp)).mono (S' := fun x => x = w.heap.size ∨ S1 x ∨ S2 x ∨ S3 x) fun _ h => .inr (.inr (.inl h))
  have k3 := (hT3.keep m (by simp)).mono (S' := fun x => x = w.heap.size ∨ S1 x ∨ S2 x ∨ S3 x) fun _ h => .inr (.inr (.inr h))
  refine ⟨_, F.put m _ (keeps_tR Any (fun x => x = w.heap.size ∨ S1 x ∨ S2 x ∨ S3 x) (some ⟨w.heap.size, 0, none⟩) [c1, c2, c3] [t1, t2, t3]) ⟨⟨fun x hx _ => by cases hx; exact .inl rfl, rfl, ?_, Cells.of_holds (by simpa using hH), ?_⟩, fun _ _ => trivial⟩ fun g hg => ?_⟩
  · intro v hv
    simp only [List.mem_cons, List.not_mem_nil, or_false] at hv
    rcases hv with rfl | rfl | rfl
    · exact hT1.len
    · exact hT2.len
    · exact hT3.len
  · intro i a b
    match i, a, b with
    | 0, _, _ => exact k1
    | 1, _, _ => exact k2
    | 2, _, _ => exact k3
  · rcases hg with rfl | hg | hg | hg
    · exact .inl ⟨Nat.le_refl _, by simp⟩
    · exact .inr ⟨_, h1, hg⟩
    · exact .inr ⟨_, h2, hg⟩
    · exact .inr ⟨_, h3, hg⟩
/-- The terms that are told one after the other. -/
abbrev kpA (V : Int) : Tm := .mk 2 6 V ⟨#[]⟩ []
abbrev kpL (key : Tm) (V : Int) : Tm := .mk 6 0 0 ⟨#[]⟩ [key, kpA V]
abbrev kpS (V : Int) : Tm := .mk 7 1 0 ⟨#[]⟩ [kpA V]
abbrev kpH (V : Int) : Tm := .mk 5 0 0 ⟨#[]⟩ [kpA V]
/-- What is right of a term with right Kids. -/
theorem ok_by {k u n : Int} {l : List Tm} (h1 : Tm.one k u n 0 l.length = true) (h2 : ∀ t ∈ l, t.ok = true) : (Tm.mk k u n ⟨#[]⟩ l).ok = true := by
  have h3 : Tm.okAll l = true := by
    clear h1
    induction l with
    | nil => rfl
    | cons x l ih => rw [Tm.okAll]; simp [h2 x (by simp), ih fun t ht => h2 t (List.mem_cons_of_mem _ ht)]
  rw [Tm.ok]
  simp [h3]
  exact h1
theorem kp_answers {key : Tm} {K : List Tm} {V : Int} (hK : ∀ t ∈ K, ¬ Occ (kpA V) t) (hk : ¬ Occ (kpA V) key) (o1 o2 : Bool) (h1 : Ans o1 K key) (h2 : Ans o2 K (Tm.sec 1)) (j : Nat) (hj : j < 3) (b : Bool) (hb : b = true ↔ Tm.Gk (K ++ [([kpL key V, kpS V, kpH V][j]'hj)]) false (kpA V)) : b = (decide (j = 0) && o1 || decide (j = 1) && o2) := by
  have a1 := keeps_lock hK hk
  have a2 := keeps_seal (v := 1) hK
  have a3 := keeps_hash hK
  unfold Ans at h1 h2
  match j, hj with
  | 0, _ =>
    have := hb.trans (a1.trans h1.symm)
    cases b <;> cases o1 <;> simp_all
  | 1, _ =>
    have := hb.trans (a2.trans h2.symm)
    cases b <;> cases o2 <;> simp_all
  | 2, _ =>
    have : ¬ b = true := fun h => a3 (hb.1 h)
    cases b <;> simp_all
end
end Go.Proofs.YtchanildogjhgaaDoor
