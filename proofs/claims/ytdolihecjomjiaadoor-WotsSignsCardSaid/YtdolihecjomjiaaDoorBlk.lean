/-
  What stands between the steps of Block's own statements. My own work.
-/
import Derived.Test.YtdolihecjomjiaaDoorShaE
namespace Go.Proofs.YtdolihecjomjiaaDoor
open Go.RowKit
theorem exec_stores {P : Program} {v : World} {o : Oper} {ρ : Operand → Value} {ty : TypeId} {x y : Operand} {g : Nat} {t : TypeId} {V : Value} {cs old : List Value} (ho : o.op = .store ty x y) (hx : ρ x = .pointer (some ⟨g, 0, none⟩)) (hy : ρ y = V) (hV : V = .agg cs.toArray) (hh : Holds v g t old) (hf : cs.length = old.length) (h1 : ∀ u ∈ cs, u.oneCell' = true) (hi : (P.info? ty).map (·.size) = some cs.length) :
    ∃ v', (execOp ρ o).run P v = .ok .skip v' ∧ Holds v' g t cs ∧ Mod [g] v v' ∧ v'.heap.size = v.heap.size := by
  subst hV
  obtain ⟨v', hrun, h2, h3, h4⟩ := run_stores (P := P) (ty := ty) (f := 0) hh (by omega) h1 hi
  refine ⟨v', ?_, by simpa [hf] using h2, h3, h4⟩
  unfold execOp
  simp only [ho, hx, hy, Instr.storeAt, Instr.sureAddr, Sem.run_bind, Sem.run_pure, Result.andThen_ok, hrun]
theorem wp_stored {P : Program} {v : World} {o : Oper} {ops : Array Oper} {T : Act} {Kq : Act → World → Prop} {Q : Exit → Act → World → Prop} {E : Prop} {ty : TypeId} {x y : Operand} {g : Nat} {t : TypeId} {V : Value} {cs old : List Value} (hg : o.guard = none) (ho : o.op = .store ty x y) (hx : T.eval x = .pointer (some ⟨g, 0, none⟩)) (hy : T.eval y = V) (hV : V = .agg cs.toArray) (hh : Holds v g t old) (hf : cs.length = old.length) (h1 : ∀ u ∈ cs, u.oneCell' = true) (hi : (P.info? ty).map (·.size) = some cs.length)
    (hK : ∀ v', Holds v' g t cs → Mod [g] v v' → Kq (T.put o.dst undef) v') : if Region.wanted o (yielded ops T.tmps) = true then o.wp P T v Kq Q else E := by
  obtain ⟨v', hr, q1, q2, _⟩ := exec_stores ho hx hy hV hh hf h1 hi
  exact wp_ran_skip hg hr (hK v' q1 q2)
/-- A variable is made, in a region that draws its order. -/
theorem wp_alloced {P : Program} {v : World} {o : Oper} {ops : Array Oper} {T : Act} {Kq : Act → World → Prop} {Q : Exit → Act → World → Prop} {E : Prop} {ty : TypeId} {cs : List Value} (hg : o.guard = none) (ho : o.op = .alloc ty) (hz : ∀ w, (zeroValue ty).run P w = .ok (.agg cs.toArray) w)
    (hK : ∀ v', Holds v' v.heap.size ty cs → Mod [] v v' → Kq (T.put o.dst (.pointer (some ⟨v.heap.size, 0, none⟩))) v') : if Region.wanted o (yielded ops T.tmps) = true then o.wp P T v Kq Q else E := by
  have hrun : (Instr.alloc ty true (.tuple #[])).run P v = .ok (.pointer (some ⟨v.heap.size, 0, none⟩)) (v.alloc (.cells cs.toArray ty)) := by
    simp [Instr.alloc, hz, newVar, newRow, Value.cells, go_sem]
  refine wp_ran (v' := v.alloc (.cells cs.toArray ty)) hg ?_ (hK _ (Holds.made v ty cs) (Mod.alloc [] v _))
  unfold execOp
  simp only [ho, Sem.run_bind, hrun, Result.andThen, Sem.run_pure]
theorem Cells.lt {w : World} {g o : Nat} {cs : List Value} (h : Cells w (some ⟨g, o, none⟩) cs) (hp : 0 < cs.length) : g < w.heap.size := by
  have h0 := h.at 0 hp
  rcases Nat.lt_or_ge g w.heap.size with hlt | hge
  · exact hlt
  · simp [World.cell?, Array.getElem?_eq_none hge] at h0
def BlkSt (h f : List UInt32) (z : Nat) (W : World) (x : Nat × Nat) (l3 l4 l5 l6 : Bool) (v : World) : Prop :=
  Mod [] W v ∧ (l3 = true → z ≤ x.1 ∧ Holds v x.1 80 ((if l5 = true then h else List.replicate 8 0).map wd)) ∧ (l4 = true → z ≤ x.2 ∧ Holds v x.2 82 ((if l6 = true then f else List.replicate 16 0).map wd))
section
variable {h f : List UInt32} {z : Nat} {W v v' : World} {x : Nat × Nat} {l3 l4 l5 l6 : Bool}
theorem BlkSt.start : BlkSt h f z W x false false false false W := ⟨Mod.refl _ _, (fun h => by cases h), (fun h => by cases h)⟩
theorem BlkSt.keep (s : BlkSt h f z W x l3 l4 l5 l6 v) (m : Mod [] v v') : BlkSt h f z W x l3 l4 l5 l6 v' :=
  ⟨s.1.then m, fun h => ⟨(s.2.1 h).1, (s.2.1 h).2.keep m (by simp)⟩, fun h => ⟨(s.2.2 h).1, (s.2.2 h).2.keep m (by simp)⟩⟩
theorem BlkSt.new1 (s : BlkSt h f z W x false l4 l5 l6 v) (h5 : l5 = false) (hz : z ≤ W.heap.size) (q : Holds v' v.heap.size 80 ((List.replicate 8 (0 : UInt32)).map wd)) (m : Mod [] v v') : BlkSt h f z W (v.heap.size, x.2) true l4 l5 l6 v' := by
  subst h5
  exact ⟨s.1.then m, fun _ => ⟨Nat.le_trans hz s.1.size, q⟩, fun h => ⟨(s.2.2 h).1, (s.2.2 h).2.keep m (by simp)⟩⟩
theorem BlkSt.new2 (s : BlkSt h f z W x l3 false l5 l6 v) (h6 : l6 = false) (hz : z ≤ W.heap.size) (q : Holds v' v.heap.size 82 ((List.replicate 16 (0 : UInt32)).map wd)) (m : Mod [] v v') : BlkSt h f z W (x.1, v.heap.size) l3 true l5 l6 v' := by
  subst h6
  exact ⟨s.1.then m, fun h => ⟨(s.2.1 h).1, (s.2.1 h).2.keep m (by simp)⟩, fun _ => ⟨Nat.le_trans hz s.1.size, q⟩⟩
theorem BlkSt.put1 (s : BlkSt h f z W x true l4 l5 l6 v) (hz : W.heap.size ≤ z) (q : Holds v' x.1 80 (h.map wd)) (m : Mod [x.1] v v') : BlkSt h f z W x true l4 true l6 v' := by
  have h1 := s.2.1 rfl
  refine ⟨s.1.trans m (by intro i hi hm; simp at hm; omega), fun _ => ⟨h1.1, q⟩, fun h => ⟨(s.2.2 h).1, (s.2.2 h).2.keep m ?_⟩⟩
  simpa using (h1.2.ne (s.2.2 h).2 (by decide)).symm
theorem BlkSt.put2 (s : BlkSt h f z W x l3 true l5 l6 v) (hz : W.heap.size ≤ z) (q : Holds v' x.2 82 (f.map wd)) (m : Mod [x.2] v v') : BlkSt h f z W x l3 true l5 true v' := by
  have h1 := s.2.2 rfl
  refine ⟨s.1.trans m (by intro i hi hm; simp at hm; omega), fun h => ⟨(s.2.1 h).1, (s.2.1 h).2.keep m ?_⟩, fun _ => ⟨h1.1, q⟩⟩
  simpa using (h1.2.ne (s.2.1 h).2 (by decide)).symm
end
def RndSt (g5 g6 : Nat) (R R' L L' : List UInt32) (W : World) (l5 l7 : Bool) (v : World) : Prop := Holds v g6 82 ((if l5 = true then R' else R).map wd) ∧ Holds v g5 80 ((if l7 = true then L' else L).map wd) ∧ Mod [g6, g5] W v
section
variable {g5 g6 : Nat} {R R' L L' : List UInt32} {W v v' : World} {l5 l7 : Bool}
theorem RndSt.put5 (s : RndSt g5 g6 R R' L L' W l5 l7 v) (q : Holds v' g6 82 (R'.map wd)) (m : Mod [g6] v v') : RndSt g5 g6 R R' L L' W true l7 v' :=
  ⟨q, s.2.1.keep m (by simpa using s.2.1.ne s.1 (by decide)), s.2.2.trans (m.wk (ns := [g6, g5]) (fun i _ h => by simp at h; simp [h])) (fun _ _ h => h)⟩
theorem RndSt.put7 (s : RndSt g5 g6 R R' L L' W l5 l7 v) (q : Holds v' g5 80 (L'.map wd)) (m : Mod [g5] v v') : RndSt g5 g6 R R' L L' W l5 true v' :=
  ⟨s.1.keep m (by simpa using (s.2.1.ne s.1 (by decide)).symm), q, s.2.2.trans (m.wk (ns := [g6, g5]) (fun i _ h => by simp at h; simp [h])) (fun _ _ h => h)⟩
end
end Go.Proofs.YtdolihecjomjiaaDoor
