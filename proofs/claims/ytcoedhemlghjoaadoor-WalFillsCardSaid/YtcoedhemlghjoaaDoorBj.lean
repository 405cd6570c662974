/-
  My own texts ShShaE ShBlk ShShaF ShCut ShShaG, one behind the other.
-/
import Derived.Test.YtcoedhemlghjoaaDoorBi
import Derived.Test.YtcoedhemlghjoaaDoorBo
namespace Go.Proofs.YtcoedhemlghjoaaDoor
section
namespace Sh
open Go.RowKit
/-- The t-th word of these bytes. -/
def wordAt (b : List UInt8) (t : Nat) : UInt32 := UInt32.ofNat (obe ((b.drop (4 * t)).take 4))
def first16 (b : List UInt8) : List UInt32 := (List.range 16).map (wordAt b)
theorem first16_length (b : List UInt8) : (first16 b).length = 16 := by simp [first16]
theorem size109 : (Tryd.prog.info? 72).map (·.size) = some 64 := by kernel_rfl
theorem size205 : (Tryd.prog.info? 131).map (·.size) = some 16 := by kernel_rfl
theorem size203 : (Tryd.prog.info? 129).map (·.size) = some 8 := by kernel_rfl
theorem size188 : (Tryd.prog.info? 118).map (·.size) = some 8 := by kernel_rfl
theorem zero205 : ∀ w, (zeroValue 131).run Tryd.prog w = .ok (.agg ((List.replicate 16 (0 : UInt32)).map wd).toArray) w := (zero_of_info (n := 16) (by kernel_rfl)).1
theorem zero203 : ∀ w, (zeroValue 129).run Tryd.prog w = .ok (.agg ((List.replicate 8 (0 : UInt32)).map wd).toArray) w := (zero_of_info (n := 8) (by kernel_rfl)).1
theorem zero188 : ∀ w, (zeroValue 118).run Tryd.prog w = .ok (.agg ((List.replicate 8 (0 : UInt32)).map wd).toArray) w := (zero_of_info (n := 8) (by kernel_rfl)).1
theorem size58_of (L : List UInt32) (h : L.length = 16) : (Tryd.prog.info? 131).map (·.size) = some (L.map wd).length := by rw [List.length_map, h]; exact size205
theorem size26_of (L : List UInt32) (h : L.length = 8) : (Tryd.prog.info? 118).map (·.size) = some (L.map wd).length := by rw [List.length_map, h]; exact size188
theorem size56_of (L : List UInt32) (h : L.length = 8) : (Tryd.prog.info? 129).map (·.size) = some (L.map wd).length := by rw [List.length_map, h]; exact size203
theorem wordAt_val (b : List UInt8) (t : Nat) : (wordAt b t).toNat = obe ((b.drop (4 * t)).take 4) := by
  unfold wordAt
  rw [UInt32.toNat_ofNat', Nat.mod_eq_of_lt]
  have h1 := be_lt ((b.drop (4 * t)).take 4)
  have h2 : 256 ^ ((b.drop (4 * t)).take 4).length ≤ 256 ^ 4 := Nat.pow_le_pow_right (by omega) (by simp; omega)
  omega
theorem tookw (b : List UInt8) (t : Nat) (hb : b.length = 64) (ht : t < 16) : offNum (b.drop (4 * t)) 0 4 = (wordAt b t).toNat := by
  rw [wordAt_val]
  unfold offNum
  rw [if_pos rfl, if_pos (by simp; omega)]
theorem tookr (b : List UInt8) (t : Nat) (hb : b.length = 64) (ht : t < 16) : offRest (b.drop (4 * t)) 0 ((4 : Nat) : Int) = b.drop (4 * (t + 1)) := by
  unfold offRest
  rw [if_pos ⟨rfl, by omega, by simp; omega⟩, List.drop_drop]
  congr 1
theorem tooke (b : List UInt8) (t : Nat) (hb : b.length = 64) (ht : t < 16) : offErr (b.drop (4 * t)) 0 ((4 : Nat) : Int) = 0 := by
  unfold offErr
  rw [if_pos rfl, if_neg (by omega), if_neg (by simp; omega)]
def upto (b : List UInt8) (t : Nat) : List UInt32 := (List.range t).map (wordAt b) ++ List.replicate (16 - t) 0
theorem upto_length (b : List UInt8) (t : Nat) (ht : t ≤ 16) : (upto b t).length = 16 := by simp [upto]; omega
theorem upto_next (b : List UInt8) (t : Nat) (ht : t < 16) : (upto b t).set t (wordAt b t) = upto b (t + 1) := by
  unfold upto
  rw [set_at _ _ _ _ _ (by simp) (by omega), List.range_succ, List.map_append]
  rfl
set_option maxRecDepth 1000000 in
set_option maxHeartbeats 4000000 in
theorem first_c (b : List UInt8) (hb : b.length = 64) (w : World) :
    Calls Tryd.prog 83 #[.agg (b.map oct).toArray] w fun e w' => e = .returned (.agg ((first16 b).map wd).toArray) ∧ Mod [] w w' := by
  have HB := Lib.hid hb
  clear hb
  go_enter Tryd.func83, Tryd.ntmps83
  go_wp2_with (first
    | (with_reducible refine wpList_boxes (o := ⟨some 1, .box 72 (.tmp 0), _, _, _, _⟩) rfl 72 (.tmp 0) rfl _ rfl (b.map oct) rfl ?_; intro w1 hb1 m1 z1; replace z1 := Lib.hid z1)
    | (with_reducible refine wpList_allocs (o := ⟨some 2, .alloc 131, _, _, _, _⟩) rfl 131 rfl _ zero205 ?_; intro w2 hb2 m2 z2; replace z2 := Lib.hid z2)
    | (with_reducible refine wpList_allocs (o := ⟨some 3, .alloc 131, _, _, _, _⟩) rfl 131 rfl _ zero205 ?_; intro w3 hb3 m3 z3; replace z3 := Lib.hid z3))
  refine (read_n _ b _ _ _ HB.out.symm (by rw [HB.out]; omega) (Reads.of_holds ((hb1.keep m2 (by simp)).keep m3 (by simp)))).mono ?_
  rintro e w4 ⟨gr, br, rfl, o1, o2, R4, m4⟩
  have h2 := (hb2.keep m3 (by simp)).keep m4 (by simp)
  have h3 := hb3.keep m4 (by simp)
  have mm : Mod [] w w4 := ((m1.then m2).then m3).then m4
  obtain ⟨b2, e2⟩ : ∃ b, b = w1.heap.size := ⟨_, rfl⟩
  obtain ⟨b3, e3⟩ : ∃ b, b = w2.heap.size := ⟨_, rfl⟩
  have q1 : w.heap.size < b2 := by have := z1.out; omega
  have q2 : b2 < b3 := by have := z2.out; omega
  have q3 : b3 < gr := by have := z3.out; omega
  have q4 : b3 < br := by have := z3.out; omega
  rw [← e2] at h2
  rw [← e3] at h3
  rw [← e2, ← e3]
  have h3' : Holds w4 b3 131 ((upto b 0).map wd) := h3
  clear e2 e3 hb1 hb2 hb3 m1 m2 m3 m4 z1 z2 z3 o1 o2 h3
  go_wp2_with fail
  go_loopw [8] (fun i wi => ∃ t : Nat, t ≤ 16 ∧ i = .int .i64 (t : Int) ∧ Rdr wi gr br (b.drop (4 * t)) 0 ∧ Holds wi b3 131 ((upto b t).map wd) ∧ Holds wi b2 131 ((List.replicate 16 (0 : UInt32)).map wd) ∧ Mod [] w wi) (fun i _ => 16 - (intOf i).toNat)
  case atStart => exact ⟨0, by omega, rfl, R4, h3', h2, mm⟩
  case round =>
    clear R4 h2 h3' mm
    obtain ⟨t, ht, rfl, Rt, h3, h2, mm⟩ := hrel
    by_cases hlt : t < 16
    · have X := u32_c gr br (b.drop (4 * t)) 0 _ Rt
      unfold Took_ at X
      rw [tookw b t HB.out hlt, tookr b t HB.out hlt, tooke b t HB.out hlt] at X
      have hz : (t : Int) < 16 := by omega
      go_wp2_with fail
      refine X.mono ?_
      clear X
      rintro e w5 ⟨rfl, R5, m5⟩
      have h35 := h3.keep m5 (by simp; omega)
      have h25 := h2.keep m5 (by simp; omega)
      have hcell := word_cell h35 (i := t) (by rw [upto_length b t ht]; exact hlt)
      have hfree := h35.free t
      have hset := word_set h35 t (wordAt b t)
      rw [upto_next b t hlt] at hset
      rw [Nat.zero_add] at hcell hset
      clear h3 h2 Rt
      have m6 : Mod [b3] w5 (w5.setCell ⟨b3, t, none⟩ (wd (wordAt b t))) := Mod.setCell w5 (by simp) _
      have m7 : Mod [] w (w5.setCell ⟨b3, t, none⟩ (wd (wordAt b t))) := ⟨m6.os.trans (m5.os.trans mm.os), m6.tape.trans (m5.tape.trans mm.tape), m6.output.trans (m5.output.trans mm.output), Nat.le_trans mm.size (Nat.le_trans m5.size m6.size), fun k hk _ => by
        rw [m6.block k (by have := mm.size; have := m5.size; omega) (by simp; omega), m5.block k (by have := mm.size; omega) (by simp; omega), mm.block k hk (by simp)]⟩
      have R7 := R5.keep m6 (by simp; omega) (by simp; omega)
      have h27 := h25.keep m6 (by simp; omega)
      clear m5 m6 mm R5 h25 h35
      go_wp2_with fail
      exact ⟨⟨t + 1, by omega, by go_num, R7, hset, h27, m7⟩, by simp [intOf]; omega⟩
    · obtain rfl : t = 16 := by omega
      have hu : upto b 16 = first16 b := by simp [upto, first16]
      rw [hu] at h3
      have hl := first16_length b
      have HL := Lib.hid hl
      clear hl hu Rt
      go_wp2_with (first
        | (with_reducible refine wpList_loads (o := ⟨some 16, .load 131 (.tmp 3), _, _, _, _⟩) rfl 131 (.tmp 3) rfl b3 0 _ rfl (Cells.of_holds h3) _ Tryd.underlying131 rfl (size58_of _ HL.out) (.agg ((first16 b).map wd).toArray) rfl ?_)
        | (with_reducible refine wpList_storesAll (o := ⟨none, .store 131 (.tmp 2) (.tmp 16), _, _, _, _⟩) rfl 131 (.tmp 2) (.tmp 16) rfl rfl b2 ((first16 b).map wd) rfl (.agg ((first16 b).map wd).toArray) rfl rfl 131 _ h2 (by rw [List.length_map, List.length_map, HL.out, List.length_replicate]) (words_one _) (size58_of _ HL.out) ?_; intro w7 hw7 m7 z7))
      refine bodyPost_ret (results_cell_row rfl _ _ b2 131 _ (0, 0) _ rfl hw7 Tryd.underlying131 rfl (by rw [List.size_toArray]; exact size58_of _ HL.out)) rfl ?_
      exact ⟨rfl, ⟨m7.os.trans mm.os, m7.tape.trans mm.tape, m7.output.trans mm.output, Nat.le_trans mm.size m7.size, fun k hk _ => by rw [m7.block k (by have := mm.size; omega) (by simp; omega), mm.block k hk (by simp)]⟩⟩
end Sh
end
section
namespace Sh
open Go.RowKit
theorem exec_stores {P : Program} {v : World} {o : Oper} {ρ : Operand → Value} {ty : TypeId} {x y : Operand} {g : Nat} {t : TypeId} {V : Value} {cs old : List Value} (ho : o.op = .store ty x y) (hx : ρ x = .pointer (some ⟨g, 0, none⟩)) (hy : ρ y = V) (hV : V = .agg cs.toArray) (hh : Holds v g t old) (hf : cs.length = old.length) (h1 : ∀ u ∈ cs, u.oneCell' = true) (hi : (P.info? ty).map (·.size) = some cs.length) :
    ∃ v', (execOp ρ o).run P v = .ok .skip v' ∧ Holds v' g t cs ∧ Mod [g] v v' ∧ v'.heap.size = v.heap.size := by
  subst hV
  obtain ⟨v', hrun, h2, h3, h4⟩ := run_stores (P := P) (ty := ty) (f := 0) hh (by omega) h1 hi
  refine ⟨v', ?_, by simpa [hf] using h2, h3, h4⟩
  unfold execOp
  simp only [ho, hx, hy, Instr.storeAt, Instr.sureAddr, Sem.run_bind, Sem.run_pure, Result.andThen_ok, hrun]
theorem wp_stored {P : Program} {v : World} {o : Oper} {ops : Array Oper} {T : Act} {Kq : Act → World → Prop} {Q : Exit → Act → World → Prop} {E : Prop} {ty : TypeId} {x y : Operand} {g : Nat} {t : TypeId} {V : Value} {cs old : List Value} (hg : o.guard = none) (ho : o.op = .store ty x y) (hx : T.eval x = .pointer (some ⟨g, 0, none⟩)) (hy : T.eval y = V) (hV : V = .agg cs.toArray) (hh : Holds v g t old) (hf : cs.length = old.length) (h1 : ∀ u ∈ cs, u.oneCell' = true) (hi : (P.info? ty).map (·.size) = some cs.length)
    (hK : ∀ v', Holds v' g t cs → Mod [g] v v' → Kq (T.put o.dst undef) v') : if Region.wanted o (yielded ops T.tmps) = true then o.wp P T v Kq Q else E := by
  obtain ⟨v', hr, q1, q2, _⟩ := exec_stores ho hx hy hV hh hf h1 hi
  exact wp_ran_skip hg hr (hK v' q1 q2)
/-- A variable is made, in a region that draws its order. -/
theorem wp_alloced {P : Program} {v : World} {o : Oper} {ops : Array Oper} {T : Act} {Kq : Act → World → Prop} {Q : Exit → Act → World → Prop} {E : Prop} {ty : TypeId} {cs : List Value} (hg : o.guard = none) (ho : o.op = .alloc ty) (hz : ∀ w, (zeroValue ty).run P w = .ok (.agg cs.toArray) w)
    (hK : ∀ v', Holds v' v.heap.size ty cs → Mod [] v v' → Kq (T.put o.dst (.pointer (some ⟨v.heap.size, 0, none⟩))) v') : if Region.wanted o (yielded ops T.tmps) = true then o.wp P T v Kq Q else E := by
  have hrun : (Instr.alloc ty true (.tuple #[])).run P v = .ok (.pointer (some ⟨v.heap.size, 0, none⟩)) (v.alloc (.cells cs.toArray ty)) := by
    simp [Instr.alloc, hz, newVar, newRow, Value.cells, go_sem]
  refine wp_ran (v' := v.alloc (.cells cs.toArray ty)) hg ?_ (hK _ (Holds.made v ty cs) (Mod.alloc [] v _))
  unfold execOp
  simp only [ho, Sem.run_bind, hrun, Result.andThen, Sem.run_pure]
theorem _root_.Go.Proofs.YtcoedhemlghjoaaDoor.Cells.lt {w : World} {g o : Nat} {cs : List Value} (h : Cells w (some ⟨g, o, none⟩) cs) (hp : 0 < cs.length) : g < w.heap.size := by
  have h0 := h.at 0 hp
  rcases Nat.lt_or_ge g w.heap.size with hlt | hge
  · exact hlt
  · simp [World.cell?, Array.getElem?_eq_none hge] at h0
def BlkSt (h f : List UInt32) (z : Nat) (W : World) (x : Nat × Nat) (l3 l4 l5 l6 : Bool) (v : World) : Prop :=
  Mod [] W v ∧ (l3 = true → z ≤ x.1 ∧ Holds v x.1 129 ((if l5 = true then h else List.replicate 8 0).map wd)) ∧ (l4 = true → z ≤ x.2 ∧ Holds v x.2 131 ((if l6 = true then f else List.replicate 16 0).map wd))
section
variable {h f : List UInt32} {z : Nat} {W v v' : World} {x : Nat × Nat} {l3 l4 l5 l6 : Bool}
theorem BlkSt.start : BlkSt h f z W x false false false false W := ⟨Mod.refl _ _, (fun h => by cases h), (fun h => by cases h)⟩
theorem BlkSt.keep (s : BlkSt h f z W x l3 l4 l5 l6 v) (m : Mod [] v v') : BlkSt h f z W x l3 l4 l5 l6 v' :=
  ⟨s.1.then m, fun h => ⟨(s.2.1 h).1, (s.2.1 h).2.keep m (by simp)⟩, fun h => ⟨(s.2.2 h).1, (s.2.2 h).2.keep m (by simp)⟩⟩
theorem BlkSt.new1 (s : BlkSt h f z W x false l4 l5 l6 v) (h5 : l5 = false) (hz : z ≤ W.heap.size) (q : Holds v' v.heap.size 129 ((List.replicate 8 (0 : UInt32)).map wd)) (m : Mod [] v v') : BlkSt h f z W (v.heap.size, x.2) true l4 l5 l6 v' := by
  subst h5
  exact ⟨s.1.then m, fun _ => ⟨Nat.le_trans hz s.1.size, q⟩, fun h => ⟨(s.2.2 h).1, (s.2.2 h).2.keep m (by simp)⟩⟩
theorem BlkSt.new2 (s : BlkSt h f z W x l3 false l5 l6 v) (h6 : l6 = false) (hz : z ≤ W.heap.size) (q : Holds v' v.heap.size 131 ((List.replicate 16 (0 : UInt32)).map wd)) (m : Mod [] v v') : BlkSt h f z W (x.1, v.heap.size) l3 true l5 l6 v' := by
  subst h6
  exact ⟨s.1.then m, fun h => ⟨(s.2.1 h).1, (s.2.1 h).2.keep m (by simp)⟩, fun _ => ⟨Nat.le_trans hz s.1.size, q⟩⟩
theorem BlkSt.put1 (s : BlkSt h f z W x true l4 l5 l6 v) (hz : W.heap.size ≤ z) (q : Holds v' x.1 129 (h.map wd)) (m : Mod [x.1] v v') : BlkSt h f z W x true l4 true l6 v' := by
  have h1 := s.2.1 rfl
  refine ⟨s.1.trans m (by intro i hi hm; simp at hm; omega), fun _ => ⟨h1.1, q⟩, fun h => ⟨(s.2.2 h).1, (s.2.2 h).2.keep m ?_⟩⟩
  simpa using (h1.2.ne (s.2.2 h).2 (by decide)).symm
theorem BlkSt.put2 (s : BlkSt h f z W x l3 true l5 l6 v) (hz : W.heap.size ≤ z) (q : Holds v' x.2 131 (f.map wd)) (m : Mod [x.2] v v') : BlkSt h f z W x l3 true l5 true v' := by
  have h1 := s.2.2 rfl
  refine ⟨s.1.trans m (by intro i hi hm; simp at hm; omega), fun h => ⟨(s.2.1 h).1, (s.2.1 h).2.keep m ?_⟩, fun _ => ⟨h1.1, q⟩⟩
  simpa using (h1.2.ne (s.2.1 h).2 (by decide)).symm
end
def RndSt (g5 g6 : Nat) (R R' L L' : List UInt32) (W : World) (l5 l7 : Bool) (v : World) : Prop := Holds v g6 131 ((if l5 = true then R' else R).map wd) ∧ Holds v g5 129 ((if l7 = true then L' else L).map wd) ∧ Mod [g6, g5] W v
section
variable {g5 g6 : Nat} {R R' L L' : List UInt32} {W v v' : World} {l5 l7 : Bool}
theorem RndSt.put5 (s : RndSt g5 g6 R R' L L' W l5 l7 v) (q : Holds v' g6 131 (R'.map wd)) (m : Mod [g6] v v') : RndSt g5 g6 R R' L L' W true l7 v' :=
  ⟨q, s.2.1.keep m (by simpa using s.2.1.ne s.1 (by decide)), s.2.2.trans (m.wk (ns := [g6, g5]) (fun i _ h => by simp at h; simp [h])) (fun _ _ h => h)⟩
theorem RndSt.put7 (s : RndSt g5 g6 R R' L L' W l5 l7 v) (q : Holds v' g5 129 (L'.map wd)) (m : Mod [g5] v v') : RndSt g5 g6 R R' L L' W l5 true v' :=
  ⟨s.1.keep m (by simpa using (s.2.1.ne s.1 (by decide)).symm), q, s.2.2.trans (m.wk (ns := [g6, g5]) (fun i _ h => by simp at h; simp [h])) (fun _ _ h => h)⟩
end
end Sh
end
section
namespace Sh
open Go.RowKit
theorem gcell {v : World} {c : List UInt32} (h : Cells v (some ⟨1, 0, none⟩) (c.map wd)) {i : Nat} (hi : i < c.length) : v.cell? ⟨1, 0 + i, none⟩ = some (wd (g0 c i)) := by
  have := h.at i (by simpa using hi)
  simpa [g0, hi] using this
set_option maxRecDepth 1000000 in
set_option maxHeartbeats 8000000 in
theorem block_c (c h : List UInt32) (b : List UInt8) (hc : c.length = 64) (hh : h.length = 8) (hb : b.length = 64) (w : World) (G : Cells w (some ⟨1, 0, none⟩) (c.map wd)) :
    Calls Tryd.prog 80 #[.agg (h.map wd).toArray, .agg (b.map oct).toArray] w fun e w' => e = .returned (.agg ((blkN c h (first16 b)).map wd).toArray) ∧ Mod [] w w' := by
  have hf := first16_length b
  have hG0 : 1 < w.heap.size := G.lt (by simp [hc])
  have HB := Lib.hid (And.intro hb (And.intro hc (And.intro hh (And.intro hf hG0))))
  clear hb hc hh hf hG0
  go_enter Tryd.func80, Tryd.ntmps80
  go_wp2_with (first
    | (with_reducible refine wpList_boxes (o := ⟨some 2, .box 118 (.tmp 0), _, _, _, _⟩) rfl 118 (.tmp 0) rfl _ rfl (h.map wd) rfl ?_; intro w1 hb1 m1 z1; replace z1 := Lib.hid z1)
    | (with_reducible refine wpList_boxes (o := ⟨some 3, .box 72 (.tmp 1), _, _, _, _⟩) rfl 72 (.tmp 1) rfl _ rfl (b.map oct) rfl ?_; intro w2 hb2 m2 z2; replace z2 := Lib.hid z2)
    | (with_reducible refine wpList_allocs (o := ⟨some 4, .alloc 118, _, _, _, _⟩) rfl 118 rfl _ zero188 ?_; intro w3 hb3 m3 z3; replace z3 := Lib.hid z3))
  obtain ⟨g2, e1⟩ : ∃ b, b = w.heap.size := ⟨_, rfl⟩
  obtain ⟨g3, e2⟩ : ∃ b, b = w1.heap.size := ⟨_, rfl⟩
  obtain ⟨g4, e3⟩ : ∃ b, b = w2.heap.size := ⟨_, rfl⟩
  have q0 : w.heap.size ≤ g2 := by omega
  have q1 : g2 < g3 := by have := z1.out; omega
  have q2 : g3 < g4 := by have := z2.out; omega
  have q3 : g4 < w3.heap.size := by have := z3.out; omega
  replace hb1 := (hb1.keep m2 (by simp)).keep m3 (by simp)
  replace hb2 := hb2.keep m3 (by simp)
  have mm : Mod [] w w3.drew := ((m1.then m2).then m3).then (Mod.drew [] _)
  rw [← e1] at hb1
  rw [← e2] at hb2
  rw [← e3] at hb3
  rw [← e1, ← e2, ← e3]
  have Q0 := Lib.hid q0
  clear e1 e2 e3 m1 m2 m3 z1 z2 z3 q0
  replace hb1 : Holds w3.drew g2 118 (h.map wd) := hb1
  replace hb2 : Holds w3.drew g3 72 (b.map oct) := hb2
  replace hb3 : Holds w3.drew g4 118 ((List.replicate 8 (0 : UInt32)).map wd) := hb3
  refine wp_region_lit ((0, 0)) (fun x => [.agg (h.map wd).toArray, .agg (b.map oct).toArray, .pointer (some ⟨g2, 0, none⟩), .pointer (some ⟨g3, 0, none⟩), .pointer (some ⟨g4, 0, none⟩), .pointer (some ⟨x.1, 0, none⟩), .pointer (some ⟨x.2, 0, none⟩), undef, undef, .agg (h.map wd).toArray, .agg (b.map oct).toArray, .agg ((first16 b).map wd).toArray, undef, undef, undef, undef, undef, undef, undef, undef, undef, undef, undef, undef, undef, undef, undef, undef, undef, undef, undef, undef, undef, undef, undef, undef, undef]) 37 [0, 1, 2, 3, 4, 7, 8, 12, 13, 14, 15, 16, 17, 18, 19, 20, 21, 22, 23, 24, 25, 26, 27, 28, 29, 30, 31, 32, 33, 34, 35, 36]
    (fun x l v => BlkSt h (first16 b) w3.drew.heap.size w3.drew x (l 3) (l 4) (l 5) (l 6) v) []
    (by kernel_rfl) (fun _ => rfl) rfl rfl rfl (fun _ => rfl) (BlkSt.start) (by kernel_rfl) (by kernel_rfl) ?step ?fin
  case step =>
    intro x l T v j o hj hlj hdep hst hpar hgot hcl K hK
    have hjn : j < 7 := (Array.getElem?_eq_some_iff.1 hj).1
    obtain rfl | rfl | rfl | rfl | rfl | rfl | rfl : j = 0 ∨ j = 1 ∨ j = 2 ∨ j = 3 ∨ j = 4 ∨ j = 5 ∨ j = 6 := by omega
    all_goals (have hj' := Option.some.inj (hj : some _ = some o); subst hj'; clear hj)
    · exact wp_ran rfl (exec_load rfl (eval_tmp (hpar 2 (by simp))) (run_loads (Cells.of_holds (hb1.keep hst.1 (by simp))) Tryd.underlying118 rfl (size26_of _ HB.out.2.2.1))) (hK x _ _ (fun _ _ _ _ _ _ => rfl) (fun s hs => by cases hs; rfl) hst)
    · exact wp_ran rfl (exec_load rfl (eval_tmp (hpar 3 (by simp))) (run_loads (Cells.of_holds (hb2.keep hst.1 (by simp))) Tryd.underlying72 rfl (by rw [List.length_map, HB.out.1]; exact size109))) (hK x _ _ (fun _ _ _ _ _ _ => rfl) (fun s hs => by cases hs; rfl) hst)
    · exact wp_called rfl (exec_call1 rfl rfl (eval_tmp (hgot 1 _ 10 rfl (hdep ⟨1, .data⟩ (by simp) rfl) rfl)) (enters_of Tryd.func83 (by kernel_rfl) rfl)) ((first_c b HB.out.1 _).mono (fun e v' hh => ⟨_, hh.1, hK x _ _ (fun _ _ _ _ _ _ => rfl) (fun s hs => by cases hs; rfl) (BlkSt.keep hst hh.2)⟩))
    · have h0 : l 5 = false := by
        cases h5 : l 5 with
        | false => rfl
        | true => exact absurd (hcl 5 _ rfl h5 ⟨3, .data⟩ (by simp) rfl) (by rw [hlj]; simp)
      have hst' := hst
      rw [hlj] at hst'
      exact wp_alloced (cs := (List.replicate 8 (0 : UInt32)).map wd) rfl rfl zero203 (fun v' q m => hK (v.heap.size, x.2) _ _ (fun j' o' s' h1 h2 h3 => by
              clear hst hst' hpar hgot hdep hcl hK
              have h4 : j' < 7 := (Array.getElem?_eq_some_iff.1 h1).1
              obtain rfl | rfl | rfl | rfl | rfl | rfl | rfl : j' = 0 ∨ j' = 1 ∨ j' = 2 ∨ j' = 3 ∨ j' = 4 ∨ j' = 5 ∨ j' = 6 := by omega
              all_goals (cases h1; cases h3 <;> first | rfl | (rw [hlj] at h2; cases h2))) (fun s hs => by cases hs; rfl) (BlkSt.new1 hst' h0 (Nat.le_refl _) q m))
    · have h0 : l 6 = false := by
        cases h5 : l 6 with
        | false => rfl
        | true => exact absurd (hcl 6 _ rfl h5 ⟨4, .data⟩ (by simp) rfl) (by rw [hlj]; simp)
      have hst' := hst
      rw [hlj] at hst'
      exact wp_alloced (cs := (List.replicate 16 (0 : UInt32)).map wd) rfl rfl zero205 (fun v' q m => hK (x.1, v.heap.size) _ _ (fun j' o' s' h1 h2 h3 => by
              clear hst hst' hpar hgot hdep hcl hK
              have h4 : j' < 7 := (Array.getElem?_eq_some_iff.1 h1).1
              obtain rfl | rfl | rfl | rfl | rfl | rfl | rfl : j' = 0 ∨ j' = 1 ∨ j' = 2 ∨ j' = 3 ∨ j' = 4 ∨ j' = 5 ∨ j' = 6 := by omega
              all_goals (cases h1; cases h3 <;> first | rfl | (rw [hlj] at h2; cases h2))) (fun s hs => by cases hs; rfl) (BlkSt.new2 hst' h0 (Nat.le_refl _) q m))
    · have hst' := hst
      rw [hlj, hdep ⟨3, .data⟩ (by simp) rfl] at hst'
      have k1 := (hst'.2.1 rfl).2
      exact wp_stored (ty := 129) (V := .agg (h.map wd).toArray) (cs := h.map wd) rfl rfl (eval_tmp (hgot 3 _ 5 rfl (hdep ⟨3, .data⟩ (by simp) rfl) rfl)) (eval_tmp (hgot 0 _ 9 rfl (hdep ⟨0, .data⟩ (by simp) rfl) rfl)) rfl k1 (by rw [List.length_map, if_neg (by simp), List.length_map, HB.out.2.2.1, List.length_replicate]) (words_one _) (size56_of _ HB.out.2.2.1) (fun v' q1 q2 => hK x _ _ (fun _ _ _ _ _ _ => rfl) (fun s hs => by cases hs) (by
            have e3 := hdep ⟨3, .data⟩ (by simp) rfl
            show BlkSt _ _ _ _ x (l 3) (l 4) true (l 6) v'
            rw [e3]
            exact BlkSt.put1 hst' (Nat.le_refl _) q1 q2))
    · have hst' := hst
      rw [hlj, hdep ⟨4, .data⟩ (by simp) rfl] at hst'
      have k1 := (hst'.2.2 rfl).2
      exact wp_stored (ty := 131) (V := .agg ((first16 b).map wd).toArray) (cs := (first16 b).map wd) rfl rfl (eval_tmp (hgot 4 _ 6 rfl (hdep ⟨4, .data⟩ (by simp) rfl) rfl)) (eval_tmp (hgot 2 _ 11 rfl (hdep ⟨2, .data⟩ (by simp) rfl) rfl)) rfl k1 (by rw [List.length_map, if_neg (by simp), List.length_map, HB.out.2.2.2.1, List.length_replicate]) (words_one _) (size58_of _ HB.out.2.2.2.1) (fun v' q1 q2 => hK x _ _ (fun _ _ _ _ _ _ => rfl) (fun s hs => by cases hs) (by
            have e3 := hdep ⟨4, .data⟩ (by simp) rfl
            show BlkSt _ _ _ _ x (l 3) (l 4) (l 5) true v'
            rw [e3]
            exact BlkSt.put2 hst' (Nat.le_refl _) q1 q2))
  case fin =>
    intro x l v hl hst
    have e3 := hl 3 (by decide)
    have e4 := hl 4 (by decide)
    have e5 := hl 5 (by decide)
    have e6 := hl 6 (by decide)
    have s : BlkSt h (first16 b) w3.drew.heap.size w3.drew x true true true true v := by
      have s := hst
      rw [e3, e4, e5, e6] at s
      exact s
    obtain ⟨g5, g6⟩ := x
    obtain ⟨k1, k2, k3⟩ := s
    obtain ⟨k4, k5⟩ := k2 rfl
    obtain ⟨k6, k7⟩ := k3 rfl
    replace k5 : Holds v g5 129 (h.map wd) := k5
    replace k7 : Holds v g6 131 ((first16 b).map wd) := k7
    have k4' : w3.heap.size ≤ g5 := k4
    have k6' : w3.heap.size ≤ g6 := k6
    have k8 := hb1.keep k1 (by simp)
    have k9 := hb3.keep k1 (by simp)
    have mk := mm.then k1
    have Gk := G.keep mk (by simp)
    obtain ⟨wv, rfl⟩ : ∃ u, u = v := ⟨_, rfl⟩
    have QQ := Lib.hid (And.intro Q0.out (And.intro q1 (And.intro q2 (And.intro q3 (And.intro k4' k6')))))
    clear hst hl e3 e4 e5 e6 hb1 hb2 hb3 k1 k2 k3 k4 k6 k4' k6' mm G Q0 q1 q2 q3
    dsimp only
    go_wp2_with fail
    go_loopw [12] (fun i wi => ∃ (t : Nat) (R L : List UInt32), t ≤ 64 ∧ i = .int .i64 (t : Int) ∧ Ring (first16 b) t R ∧ Eight h (sums c (first16 b)) t L ∧ Holds wi g6 131 (R.map wd) ∧ Holds wi g5 129 (L.map wd) ∧ Holds wi g2 118 (h.map wd) ∧ Holds wi g4 118 ((List.replicate 8 (0 : UInt32)).map wd) ∧ Cells wi (some ⟨1, 0, none⟩) (c.map wd) ∧ Mod [] w wi) (fun i _ => 64 - (intOf i).toNat)
    case atStart => exact ⟨0, _, _, by omega, rfl, Ring.start _ HB.out.2.2.2.1, Eight.start _ _ HB.out.2.2.1, k7, k5, k8, k9, Gk, mk⟩
    case round =>
      clear k5 k7 k8 k9 mk Gk
      obtain ⟨t, R, L, ht, rfl, hR, hL, k7, k5, k8, k9, Gk, mk⟩ := hrel
      by_cases hlt : t < 64
      · have hz : (t : Int) < 64 := by omega
        have HT := Lib.hid (And.intro hlt (And.intro hR hL))
        clear hlt hR hL ht
        go_wp2_with fail
        clear hz
        refine wp_region_lit1 [.agg (h.map wd).toArray, .agg (b.map oct).toArray, .pointer (some ⟨g2, 0, none⟩), .pointer (some ⟨g3, 0, none⟩), .pointer (some ⟨g4, 0, none⟩), .pointer (some ⟨g5, 0, none⟩), .pointer (some ⟨g6, 0, none⟩), .int .i64 (t : Int), undef, .agg (h.map wd).toArray, .agg (b.map oct).toArray, .agg ((first16 b).map wd).toArray, .int .i64 (t : Int), .bool true, .int .i64 (t : Int), .int .i64 (t : Int), .int .i64 (t : Int), .pointer (some ⟨1, 0 + t, none⟩), wd (g0 c t), .int .i64 (t : Int), wd (ringW t R), wd (g0 c t + ringW t R), .tuple #[], u23, undef, undef, undef, undef, undef, undef, undef, undef, undef, undef, undef, undef, undef] 37 [0, 1, 2, 3, 4, 5, 6, 7, 8, 9, 10, 11, 12, 13, 14, 23, 24, 25, 26, 27, 28, 29, 30, 31, 32, 33, 34, 35, 36]
          (fun l v => RndSt g5 g6 R (ringL t R) L (stepL t (g0 c t + ringW t R) L) wr.drew (l 5) (l 7) v) []
          (by kernel_rfl) rfl rfl rfl rfl (⟨k7, k5, Mod.refl _ _⟩) (by kernel_rfl) (by kernel_rfl) ?step ?fin
        case step =>
          intro l T v j o hj hlj hdep hst hpar hgot hcl K hK
          have hjn : j < 8 := (Array.getElem?_eq_some_iff.1 hj).1
          have hGv : Cells v (some ⟨1, 0, none⟩) (c.map wd) := Cells.keep (w := wr.drew) Gk hst.2.2 (by
            rintro _ ⟨⟩
            have h1 := QQ.out
            have h2 := HB.out.2.2.2.2
            have h3 : 1 ≠ g6 := by omega
            have h4 : 1 ≠ g5 := by omega
            simp [h3, h4])
          obtain rfl | rfl | rfl | rfl | rfl | rfl | rfl | rfl : j = 0 ∨ j = 1 ∨ j = 2 ∨ j = 3 ∨ j = 4 ∨ j = 5 ∨ j = 6 ∨ j = 7 := by omega
          all_goals (have hj' := Option.some.inj (hj : some _ = some o); subst hj'; clear hj)
          · exact wp_ran rfl (exec_move rfl (eval_tmp (hpar 7 (by simp)))) (hK _ _ (fun s hs => by cases hs; rfl) hst)
          · exact wp_ran rfl (exec_move rfl (eval_tmp (hpar 7 (by simp)))) (hK _ _ (fun s hs => by cases hs; rfl) hst)
          · exact wp_ran rfl (exec_at Tryd.underlying134 info55 HT.out.1 rfl rfl (eval_tmp (hgot 1 _ 16 rfl (hdep ⟨1, .data⟩ (by simp) rfl) rfl))) (hK _ _ (fun s hs => by cases hs; rfl) hst)
          · exact wp_ran rfl (exec_load rfl (eval_tmp (hgot 2 _ 17 rfl (hdep ⟨2, .data⟩ (by simp) rfl) rfl)) (run_load1 Tryd.underlying36 rfl (gcell hGv (by rw [HB.out.2.1]; exact HT.out.1)))) (hK _ _ (fun s hs => by cases hs; rfl) hst)
          · exact wp_ran rfl (exec_move rfl (eval_tmp (hpar 7 (by simp)))) (hK _ _ (fun s hs => by cases hs; rfl) hst)
          · have hst' := hst
            rw [hlj] at hst'
            exact wp_called rfl (exec_call2 rfl rfl (eval_tmp (hpar 6 (by simp))) (eval_tmp (hgot 4 _ 19 rfl (hdep ⟨4, .data⟩ (by simp) rfl) rfl)) (enters_of Tryd.func85 (by kernel_rfl) rfl)) ((word_c g6 t R _ HT.out.2.1.len HT.out.1 hst'.1).mono (fun e v' hh => ⟨_, hh.1, hK _ _ (fun s hs => by cases hs; rfl) (RndSt.put5 hst hh.2.1 hh.2.2)⟩))
          · exact wp_ran rfl (exec_add rfl (eval_tmp (hgot 3 _ 18 rfl (hdep ⟨3, .data⟩ (by simp) rfl) rfl)) (eval_tmp (hgot 5 _ 20 rfl (hdep ⟨5, .data⟩ (by simp) rfl) rfl)) (add_wd _ _)) (hK _ _ (fun s hs => by cases hs; rfl) hst)
          · have hst' := hst
            rw [hlj] at hst'
            exact wp_called rfl (exec_call3 rfl rfl (eval_tmp (hpar 5 (by simp))) (eval_tmp (hgot 0 _ 15 rfl (hdep ⟨0, .data⟩ (by simp) rfl) rfl)) (eval_tmp (hgot 6 _ 21 rfl (hdep ⟨6, .data⟩ (by simp) rfl) rfl)) (enters_of Tryd.func84 (by kernel_rfl) rfl)) ((step_c g5 t (g0 c t + ringW t R) L _ HT.out.2.2.len HT.out.1 hst'.2.1).mono (fun e v' hh => ⟨_, hh.1, hK _ _ (fun s hs => by cases hs; rfl) (RndSt.put7 hst hh.2.1 hh.2.2)⟩))
        case fin =>
          intro l v hl hst
          have e5 := hl 5 (by decide)
          have e7 := hl 7 (by decide)
          rw [e5, e7] at hst
          obtain ⟨n6, n5, nm⟩ := hst
          have hx : g0 c t + ringW t R = g0 (sums c (first16 b)) t := by rw [HT.out.2.1.word HB.out.2.2.2.1 HT.out.1, sums_at c _ t HB.out.2.1 HB.out.2.2.2.1 HT.out.1]
          replace n5 : Holds v g5 129 ((stepL t (g0 c t + ringW t R) L).map wd) := n5
          replace n6 : Holds v g6 131 ((ringL t R).map wd) := n6
          have hE := HT.out.2.2.next (by rw [sums_length c _ HB.out.2.1 HB.out.2.2.2.1]; exact HT.out.1)
          rw [← hx] at hE
          have hRn := HT.out.2.1.next HB.out.2.2.2.1 HT.out.1
          have n8 := Holds.keep (w := wr.drew) k8 nm (by simp; have := QQ.out; omega)
          have n9 := Holds.keep (w := wr.drew) k9 nm (by simp; have := QQ.out; omega)
          have nG := Cells.keep (w := wr.drew) Gk nm (by rintro _ ⟨⟩; have := QQ.out; have := HB.out.2.2.2.2; simp; omega)
          have mn : Mod [] w v := ⟨nm.os.trans mk.os, nm.tape.trans mk.tape, nm.output.trans mk.output, Nat.le_trans mk.size nm.size, fun i hi _ => by
            rw [nm.block i (Nat.lt_of_lt_of_le hi mk.size) (by simp; have := QQ.out; omega), show wr.drew.heap[i]? = wr.heap[i]? from rfl, mk.block i hi (by simp)]⟩
          have ht1 : t + 1 ≤ 64 := HT.out.1
          have HN := Lib.hid (And.intro ht1 (And.intro hRn (And.intro hE (And.intro n6 (And.intro n5 (And.intro n8 (And.intro n9 (And.intro nG mn))))))))
          clear hx hE hRn n5 n6 n8 n9 nG mn nm e5 e7 hl ht1 k5 k7 k8 k9 Gk mk
          have hz : (t : Int) < 64 := by have := HT.out.1; omega
          dsimp only
          go_wp2_with fail
          exact ⟨⟨t + 1, _, _, HN.out.1, by go_num, HN.out.2.1, HN.out.2.2.1, HN.out.2.2.2.1, HN.out.2.2.2.2.1, HN.out.2.2.2.2.2.1, HN.out.2.2.2.2.2.2.1, HN.out.2.2.2.2.2.2.2.1, HN.out.2.2.2.2.2.2.2.2⟩, by simp [intOf]; omega⟩
      · obtain rfl : t = 64 := by omega
        have HT := Lib.hid (And.intro hR hL)
        clear hlt hR hL ht k7 Gk
        go_wp2_with fail
        go_loopw [24] (fun i wi => ∃ (k : Nat) (H : List UInt32), k ≤ 8 ∧ i = .int .i64 (k : Int) ∧ Added h L k H ∧ Holds wi g2 118 (H.map wd) ∧ Holds wi g5 129 (L.map wd) ∧ Holds wi g4 118 ((List.replicate 8 (0 : UInt32)).map wd) ∧ Mod [] w wi) (fun i _ => 8 - (intOf i).toNat)
        case atStart => exact ⟨0, _, by omega, rfl, Added.start _ _ HB.out.2.2.1, k8, k5, k9, mk⟩
        case round =>
          clear k5 k8 k9 mk
          obtain ⟨k, H, hk, rfl, hH, k8, k5, k9, mk⟩ := hrel
          by_cases hlt : k < 8
          · have hz : (k : Int) < 8 := by omega
            have HK := Lib.hid (And.intro hlt hH)
            clear hlt hH hk
            go_wp2_with fail
            clear hz
            refine wp_region_lit1 [.agg (h.map wd).toArray, .agg (b.map oct).toArray, .pointer (some ⟨g2, 0, none⟩), .pointer (some ⟨g3, 0, none⟩), .pointer (some ⟨g4, 0, none⟩), .pointer (some ⟨g5, 0, none⟩), .pointer (some ⟨g6, 0, none⟩), u7, .int .i64 (k : Int), .agg (h.map wd).toArray, .agg (b.map oct).toArray, .agg ((first16 b).map wd).toArray, .int .i64 ((64 : Nat) : Int), .bool false, u14, u15, u16, u17, u18, u19, u20, u21, u22, u23, .int .i64 (k : Int), .bool true, .int .i64 (k : Int), .int .i64 (k : Int), .pointer (some ⟨g2, 0 + k, none⟩), wd (g0 H k), .int .i64 (k : Int), .pointer (some ⟨g5, 0 + k, none⟩), wd (g0 L k), wd (g0 H k + g0 L k), .pointer (some ⟨g2, 0 + k, none⟩), u35, undef] 37 [0, 1, 2, 3, 4, 5, 6, 7, 8, 9, 10, 11, 12, 13, 14, 15, 16, 17, 18, 19, 20, 21, 22, 23, 24, 25, 26, 35, 36]
              (Sto 8 (fun v => Mod [] wr.drew v) (fun v => Holds v g2 118 ((H.set k (g0 H k + g0 L k)).map wd) ∧ Mod [g2] wr.drew v)) []
              (by kernel_rfl) rfl rfl rfl rfl (Sto.start (Mod.refl _ _)) (by kernel_rfl) (by kernel_rfl) ?step ?fin
            case step =>
              intro l T v j o hj hlj hdep hst hpar hgot hcl K hK
              have hjn : j < 9 := (Array.getElem?_eq_some_iff.1 hj).1
              have hq := fun h => Sto.now (j := j) hst hlj h
              obtain rfl | rfl | rfl | rfl | rfl | rfl | rfl | rfl | rfl : j = 0 ∨ j = 1 ∨ j = 2 ∨ j = 3 ∨ j = 4 ∨ j = 5 ∨ j = 6 ∨ j = 7 ∨ j = 8 := by omega
              all_goals (have hj' := Option.some.inj (hj : some _ = some o); subst hj'; clear hj)
              · exact wp_ran rfl (exec_move rfl (eval_tmp (hpar 8 (by simp)))) (hK _ _ (fun s hs => by cases hs; rfl) (Sto.keep (hq (by decide)) (by decide) (hq (by decide)).2))
              · exact wp_ran rfl (exec_at Tryd.underlying118 info55 HK.out.1 rfl (eval_tmp (hpar 2 (by simp))) (eval_tmp (hgot 0 _ 27 rfl (hdep ⟨0, .data⟩ (by simp) rfl) rfl))) (hK _ _ (fun s hs => by cases hs; rfl) (Sto.keep (hq (by decide)) (by decide) (hq (by decide)).2))
              · exact wp_ran rfl (exec_load rfl (eval_tmp (hgot 1 _ 28 rfl (hdep ⟨1, .data⟩ (by simp) rfl) rfl)) (word_load (Holds.keep (w := wr.drew) k8 (hq (by decide)).2 (by simp)) (by rw [HK.out.2.len]; exact HK.out.1))) (hK _ _ (fun s hs => by cases hs; rfl) (Sto.keep (hq (by decide)) (by decide) (hq (by decide)).2))
              · exact wp_ran rfl (exec_move rfl (eval_tmp (hpar 8 (by simp)))) (hK _ _ (fun s hs => by cases hs; rfl) (Sto.keep (hq (by decide)) (by decide) (hq (by decide)).2))
              · exact wp_ran rfl (exec_at Tryd.underlying129 info55 HK.out.1 rfl (eval_tmp (hpar 5 (by simp))) (eval_tmp (hgot 3 _ 30 rfl (hdep ⟨3, .data⟩ (by simp) rfl) rfl))) (hK _ _ (fun s hs => by cases hs; rfl) (Sto.keep (hq (by decide)) (by decide) (hq (by decide)).2))
              · exact wp_ran rfl (exec_load rfl (eval_tmp (hgot 4 _ 31 rfl (hdep ⟨4, .data⟩ (by simp) rfl) rfl)) (word_load (Holds.keep (w := wr.drew) k5 (hq (by decide)).2 (by simp)) (by rw [HT.out.2.len]; exact HK.out.1))) (hK _ _ (fun s hs => by cases hs; rfl) (Sto.keep (hq (by decide)) (by decide) (hq (by decide)).2))
              · exact wp_ran rfl (exec_add rfl (eval_tmp (hgot 2 _ 29 rfl (hdep ⟨2, .data⟩ (by simp) rfl) rfl)) (eval_tmp (hgot 5 _ 32 rfl (hdep ⟨5, .data⟩ (by simp) rfl) rfl)) (add_wd _ _)) (hK _ _ (fun s hs => by cases hs; rfl) (Sto.keep (hq (by decide)) (by decide) (hq (by decide)).2))
              · exact wp_ran rfl (exec_at Tryd.underlying118 info55 HK.out.1 rfl (eval_tmp (hpar 2 (by simp))) (eval_tmp (hgot 0 _ 27 rfl (hdep ⟨0, .data⟩ (by simp) rfl) rfl))) (hK _ _ (fun s hs => by cases hs; rfl) (Sto.keep (hq (by decide)) (by decide) (hq (by decide)).2))
              · exact wp_ran_skip rfl (exec_word (z := g0 H k + g0 L k) rfl (eval_tmp (hgot 7 _ 34 rfl (hdep ⟨7, .data⟩ (by simp) rfl) rfl)) (eval_tmp (hgot 6 _ 33 rfl (hdep ⟨6, .data⟩ (by simp) rfl) rfl)) (Holds.keep (w := wr.drew) k8 (hq (by decide)).2 (by simp)) (by rw [HK.out.2.len]; exact HK.out.1)) (hK _ _ (fun s hs => by cases hs) (Sto.done (reach_all (by kernel_rfl) hcl rfl hdep) ⟨word_set (Holds.keep (w := wr.drew) k8 (hq (by decide)).2 (by simp)) _ _, (hq (by decide)).2.pre (Mod.setCell _ (by simp) _)⟩))
            case fin =>
              intro l v hl hst
              obtain ⟨n8, nm⟩ := Sto.fin hst hl (by decide)
              have n5 := Holds.keep (w := wr.drew) k5 nm (by simp; have := QQ.out; omega)
              have n9 := Holds.keep (w := wr.drew) k9 nm (by simp; have := QQ.out; omega)
              have mn : Mod [] w v := ⟨nm.os.trans mk.os, nm.tape.trans mk.tape, nm.output.trans mk.output, Nat.le_trans mk.size nm.size, fun i hi _ => by
                rw [nm.block i (Nat.lt_of_lt_of_le hi mk.size) (by simp; have := QQ.out; omega), show wr.drew.heap[i]? = wr.heap[i]? from rfl, mk.block i hi (by simp)]⟩
              have hk1 : k + 1 ≤ 8 := HK.out.1
              have hA := HK.out.2.next HK.out.1
              have HN := Lib.hid (And.intro hk1 (And.intro hA (And.intro n8 (And.intro n5 (And.intro n9 mn)))))
              have hz : (k : Int) < 8 := by have := HK.out.1; omega
              clear n8 n5 n9 mn nm hst hl hk1 hA k5 k8 k9 mk
              dsimp only
              go_wp2_with fail
              exact ⟨⟨k + 1, _, HN.out.1, by go_num, HN.out.2.1, HN.out.2.2.1, HN.out.2.2.2.1, HN.out.2.2.2.2.1, HN.out.2.2.2.2.2⟩, by simp [intOf]; omega⟩
          · obtain rfl : k = 8 := by omega
            have hall := hH.all HB.out.2.2.1 HT.out.2.len
            have hL : L = steps h (sums c (first16 b)) := by
              have hs := steps_length h (sums c (first16 b)) HB.out.2.2.1
              have hx := HT.out.2.at_
              rw [List.take_of_length_le (by rw [sums_length c _ HB.out.2.1 HB.out.2.2.2.1]; omega)] at hx
              apply List.ext_getElem
              · rw [HT.out.2.len, hs]
              · intro i h1 h2
                have := hx i (by rw [HT.out.2.len] at h1; exact h1)
                rw [show plc i 64 = i by unfold plc; rw [HT.out.2.len] at h1; omega, g0_get _ _ h1, g0_get _ _ h2] at this
                exact this
            have hN : H = blkN c h (first16 b) := by rw [hall, hL]; rfl
            have hlen := hH.len
            have HL := Lib.hid (And.intro hlen (And.intro hN (And.intro mk QQ.out)))
            clear hall hL hN hlen hH hlt hk k5 mk
            go_wp2_with (first
              | (with_reducible refine wpList_loads (o := ⟨some 36, .load 118 (.tmp 2), _, _, _, _⟩) rfl 118 (.tmp 2) rfl g2 0 _ rfl (Cells.of_holds k8) _ Tryd.underlying118 rfl (size26_of _ HL.out.1) (.agg (H.map wd).toArray) rfl ?_)
              | (with_reducible refine wpList_storesAll (o := ⟨none, .store 118 (.tmp 4) (.tmp 36), _, _, _, _⟩) rfl 118 (.tmp 4) (.tmp 36) rfl rfl g4 (H.map wd) rfl (.agg (H.map wd).toArray) rfl rfl 118 _ k9 (by rw [List.length_map, List.length_map, HL.out.1, List.length_replicate]) (words_one _) (size26_of _ HL.out.1) ?_; intro w7 hw7 m7 z7))
            refine bodyPost_ret (results_cell_row rfl _ _ g4 118 _ (0, 0) _ rfl hw7 Tryd.underlying118 rfl (by rw [List.size_toArray]; exact size26_of _ HL.out.1)) rfl ?_
            obtain ⟨l1, l2, l3, l4⟩ := HL.out
            refine ⟨by rw [l2], ⟨m7.os.trans l3.os, m7.tape.trans l3.tape, m7.output.trans l3.output, Nat.le_trans l3.size m7.size, fun i hi _ => by rw [m7.block i (Nat.lt_of_lt_of_le hi l3.size) (by simp; omega), l3.block i hi (by simp)]⟩⟩
end Sh
end
section
namespace Sh
open Go.RowKit
/-- Where what stands behind k bytes lies. -/
def frm (A : Option Addr) (k c : Nat) : Option Addr := if c = k then A else A.map (·.add k)
theorem _root_.Go.Proofs.YtcoedhemlghjoaaDoor.Reads.from {w : World} {A : Option Addr} {l : List UInt8} (h : Reads w A l) (k c : Nat) (hc : l.length ≤ c) : Reads w (frm A k c) (l.drop k) := by
  intro i hi
  have hi' : k + i < l.length := by simp at hi; omega
  obtain ⟨g, o, rfl, hx⟩ := h (k + i) hi'
  unfold frm
  rw [if_neg (by omega)]
  refine ⟨g, o + k, by rw [Option.map_some, add_plain], ?_⟩
  rw [Nat.add_assoc, hx]
  simp
theorem _root_.Go.Proofs.YtcoedhemlghjoaaDoor.Reads.first {w : World} {A : Option Addr} {l : List UInt8} (h : Reads w A l) (k : Nat) : Reads w A (l.take k) := by
  intro i hi
  have hi' : i < l.length := by simp at hi; omega
  obtain ⟨g, o, rfl, hx⟩ := h i hi'
  exact ⟨g, o, rfl, by rw [hx]; simp⟩
theorem _root_.Go.Proofs.YtcoedhemlghjoaaDoor.Reads.cells {w : World} {A : Option Addr} {l : List UInt8} (h : Reads w A l) : Cells w A (l.map oct) := by
  intro i hi
  obtain ⟨g, o, hA, hx⟩ := h i (by simpa using hi)
  exact ⟨g, o, hA, by rw [hx]; simp⟩
section
variable {P : Program} {v : World} {o : Oper} {ρ : Operand → Value}
theorem exec_from {t e : TypeId} {x y : Operand} {A : Option Addr} {n c k : Nat} (hu : P.underlying t = some (.slice e)) (he : (P.info? e).map (·.size) = some 1) (hk : k ≤ n) (ho : o.op = .slice t x (some y) none none) (hx : ρ x = .slice A n c) (hy : ρ y = .int .i64 (k : Int)) :
    (execOp ρ o).run P v = .ok (.value (.slice (frm A k c) (n - k) (c - k))) v := by
  unfold execOp
  cases hq : P.info? e with
  | none => rw [hq] at he; cases he
  | some it =>
    have hs : it.size = 1 := by rw [hq] at he; simpa using he
    simp [ho, hx, hy, Instr.sliceAt, Instr.slice, Instr.sliceBounds, Instr.sliceBound, Sem.run_bind, run_underlying hu, go_sem, sizeOf, typeInfo, hq, hs, hk, frm]
theorem exec_upto {t e : TypeId} {x y : Operand} {A : Option Addr} {n c k : Nat} (hu : P.underlying t = some (.slice e)) (he : (P.info? e).map (·.size) = some 1) (hk : k ≤ c) (ho : o.op = .slice t x none (some y) none) (hx : ρ x = .slice A n c) (hy : ρ y = .int .i64 (k : Int)) :
    (execOp ρ o).run P v = .ok (.value (.slice A k c)) v := by
  unfold execOp
  have h0 : ∀ a : Addr, a.add 0 = a := fun _ => rfl
  have h1 : (if c = 0 then A else A.map (·.add 0)) = A := by
    split
    · rfl
    · cases A <;> simp [h0]
  cases hq : P.info? e with
  | none => rw [hq] at he; cases he
  | some it =>
    simp [ho, hx, hy, Instr.sliceAt, Instr.slice, Instr.sliceBounds, Instr.sliceBound, Sem.run_bind, run_underlying hu, go_sem, sizeOf, typeInfo, hq, hk, h0]
theorem exec_arr {t e : TypeId} {x : Operand} {A : Option Addr} {n m c : Nat} (hu : P.underlying t = some (.array m e)) (hm : m ≤ n) (ho : o.op = .sliceToArrayPointer t x) (hx : ρ x = .slice A n c) : (execOp ρ o).run P v = .ok (.value (.pointer A)) v := by
  unfold execOp
  simp [ho, hx, Instr.arrayAt, Sem.run_bind, run_underlying hu, go_sem, hm]
/-- A slice of an array, from its k-th element on. -/
theorem exec_cut {t e : TypeId} {x y : Operand} {g m k : Nat} (hu : P.underlying t = some (.array m e)) (he : (P.info? e).map (·.size) = some 1) (hk : k < m) (ho : o.op = .slice t x (some y) none none) (hx : ρ x = .pointer (some ⟨g, 0, none⟩)) (hy : ρ y = .int .i64 (k : Int)) :
    (execOp ρ o).run P v = .ok (.value (.slice (some ⟨g, k, none⟩) (m - k) (m - k))) v := by
  unfold execOp
  have h1 : ¬ m = k := by omega
  have h2 : k ≤ m := by omega
  cases hq : P.info? e with
  | none => rw [hq] at he; cases he
  | some it =>
    have hs : it.size = 1 := by rw [hq] at he; simpa using he
    simp [ho, hx, hy, Instr.sliceAt, Instr.sliceBounds, Instr.sliceBound, Sem.run_bind, run_underlying hu, go_sem, sizeOf, typeInfo, hq, hs, h1, h2, add_plain]
theorem exec_convi {t t' : TypeId} {x : Operand} {k : IntKind} {a : Int} (ho : o.op = .convert t t' x) (hx : ρ x = .int .i64 a) (h : (convert t t' (.int .i64 a)).run P v = .ok (.int k a) v) : (execOp ρ o).run P v = .ok (.value (.int k a)) v := by
  unfold execOp
  simp only [ho, hx, Sem.run_bind, h, Result.andThen, Sem.run_pure]
/-- Bytes are copied into a block that is known, from a place on. -/
theorem exec_copy {t s e : TypeId} {x y : Operand} {g f n c n' c' : Nat} {ad : Addr} {T : TypeId} {old : List Value} {l : List UInt8} (hu : P.underlying t = some (.slice e)) (he : (P.info? e).map (·.size) = some 1) (ho : o.op = .call { callee := .builtin .copy, args := #[x, y], argTypes := #[t, s] }) (hx : ρ x = .slice (some ⟨g, f, none⟩) n c) (hy : ρ y = .slice (some ad) n' c') (hh : Holds v g T old) (hn : l.length = n') (hn' : l.length ≤ n) (hr : Reads v (some ad) l) (hp : 0 < l.length) (hfit : f + l.length ≤ old.length) :
    ∃ v', (execOp ρ o).run P v = .ok (.value (.int .i64 (l.length : Int))) v' ∧ Holds v' g T (old.take f ++ (l.map oct ++ old.drop (f + l.length))) ∧ Mod [g] v v' := by
  obtain ⟨ad', e', hsrc⟩ := hr.src hp
  injection e' with e'
  subst e'
  have hrun := run_copy_row (P := P) v t s o.type e g f n c ad n' c' old.toArray T (l.map oct) hu he hh (by simp only [List.length_map]; rw [← hn]; exact (Nat.min_eq_left hn').symm) hsrc (by simpa using hfit) (octs_one l)
  refine ⟨v.setRow g (List.take f old.toArray.toList ++ List.map oct l ++ List.drop (f + (List.map oct l).length) old.toArray.toList).toArray, ?_, ?_, ?_⟩
  · unfold execOp
    simp [ho, resolve, invoke, builtin, hx, hy, hrun, Result.andThen, goInt]
  · have := setRow_heap v g old.toArray (List.take f old.toArray.toList ++ List.map oct l ++ List.drop (f + (List.map oct l).length) old.toArray.toList).toArray T (0, 0) hh
    simpa [Holds] using this
  · exact ⟨rfl, rfl, rfl, by simp [World.setRow], fun k _ hk => setRow_other v g k _ (by simpa using hk)⟩
end
/-- Eight numbers behind so many blocks of these bytes. -/
def beh (c h : List UInt32) (l : List UInt8) : Nat → List UInt32
  | 0 => h
  | k + 1 => blkN c (beh c h l k) (first16 ((l.drop (k * 64)).take 64))
theorem blkN_length (c h f : List UInt32) (hh : h.length = 8) : (blkN c h f).length = 8 := by
  unfold blkN
  rw [List.length_zipWith, steps_length _ _ hh, hh]; rfl
theorem beh_length (c h : List UInt32) (l : List UInt8) (hh : h.length = 8) (k : Nat) : (beh c h l k).length = 8 := by
  induction k with
  | zero => exact hh
  | succ k ih => exact blkN_length c _ _ ih
theorem beh_succ (c h : List UInt32) (l : List UInt8) (k : Nat) : blkN c (beh c h l k) (first16 ((l.drop (k * 64)).take 64)) = beh c h l (k + 1) := rfl
theorem block_beh (c h : List UInt32) (l : List UInt8) (k : Nat) (hc : c.length = 64) (hh : h.length = 8) (hk : k * 64 + 64 ≤ l.length) (w : World) (G : Cells w (some ⟨1, 0, none⟩) (c.map wd)) :
    Calls Tryd.prog 80 #[.agg ((beh c h l k).map wd).toArray, .agg (((l.drop (k * 64)).take 64).map oct).toArray] w fun e w' => e = .returned (.agg ((beh c h l (k + 1)).map wd).toArray) ∧ Mod [] w w' := by
  have := block_c c (beh c h l k) ((l.drop (k * 64)).take 64) hc (beh_length c h l hh k) (by simp; omega) w G
  rw [beh_succ] at this
  exact this
theorem mul_n (n k : Nat) (h : n * k ≤ 9223372036854775807) : IntKind.i64.wrap ((n : Int) * (k : Int)) = ((n * k : Nat) : Int) := by
  have : ((n * k : Nat) : Int) ≤ 9223372036854775807 := by omega
  have h0 : (0 : Int) ≤ ((n * k : Nat) : Int) := Int.natCast_nonneg _
  rw [← Int.natCast_mul]
  generalize ((n * k : Nat) : Int) = z at *
  simp [IntKind.wrap, IntKind.bits, IntKind.signed]; omega
end Sh
end
section
namespace Sh
open Go.RowKit
set_option maxRecDepth 1000000 in
set_option maxHeartbeats 8000000 in
theorem behind_c (c h : List UInt32) (hc : c.length = 64) (hh : h.length = 8) (A : Option Addr) (bb : List UInt8) (n cap : Nat) (hn : n = bb.length) (hcap : bb.length ≤ cap) (hl : bb.length ≤ 9223372036854775807) (w : World) (G : Cells w (some ⟨1, 0, none⟩) (c.map wd)) (R : Reads w A bb) :
    Calls Tryd.prog 74 #[.agg (h.map wd).toArray, .slice A n cap] w fun e w' => e = .returned (.agg ((beh c h bb (bb.length / 64)).map wd).toArray) ∧ Mod [] w w' := by
  subst hn
  obtain ⟨q, hq⟩ : ∃ q, q = bb.length / 64 := ⟨_, rfl⟩
  have hq' : ((bb.length : Int) / 64) = (q : Int) := by omega
  have hql : q * 64 ≤ bb.length := by omega
  have hqb : (q : Int) ≤ 9223372036854775806 := by omega
  rw [← hq]
  have HB := Lib.hid (And.intro hc (And.intro hh (And.intro hcap (And.intro hql (And.intro (beh_length c h bb hh) hl)))))
  clear hc hh hcap hq hql hl
  go_enter Tryd.func74, Tryd.ntmps74
  go_wp2_with (first
    | (with_reducible refine wpList_boxes (o := ⟨some 2, .box 118 (.tmp 0), _, _, _, _⟩) rfl 118 (.tmp 0) rfl _ rfl (h.map wd) rfl ?_; intro w1 hb1 m1 z1; replace z1 := Lib.hid z1)
    | (with_reducible refine wpList_allocs (o := ⟨some 4, .alloc 118, _, _, _, _⟩) rfl 118 rfl _ zero188 ?_; intro w3 hb3 m3 z3; replace z3 := Lib.hid z3))
  obtain ⟨g2, e1⟩ : ∃ b, b = w.heap.size := ⟨_, rfl⟩
  obtain ⟨g4, e3⟩ : ∃ b, b = w1.heap.size := ⟨_, rfl⟩
  have q0 : w.heap.size ≤ g2 := by omega
  have q1 : g2 < g4 := by have := z1.out; omega
  replace hb1 := hb1.keep m3 (by simp)
  have mm : Mod [] w w3 := m1.then m3
  rw [← e1] at hb1
  rw [← e3] at hb3
  rw [← e1, ← e3]
  have QQ := Lib.hid (And.intro q0 q1)
  clear e1 e3 m1 m3 z1 z3 q0 q1
  go_loopw [9] (fun i wi => ∃ k : Nat, k ≤ q ∧ i = .int .i64 (k : Int) ∧ Holds wi g2 118 ((beh c h bb k).map wd) ∧ Holds wi g4 118 ((List.replicate 8 (0 : UInt32)).map wd) ∧ Mod [] w wi) (fun i _ => q - (intOf i).toNat)
  case atStart => exact ⟨0, by omega, rfl, hb1, hb3, mm⟩
  case round =>
    clear hb1 hb3 mm
    obtain ⟨k, hk, rfl, k2, k4, mk⟩ := hrel
    by_cases hlt : k < q
    · have hz : (k : Int) < (q : Int) := by omega
      have HK := Lib.hid hlt
      clear hlt hk
      go_wp2_with fail
      clear hz
      refine wp_region_lit1 [.agg (h.map wd).toArray, .slice A bb.length cap, .pointer (some ⟨g2, 0, none⟩), undef, .pointer (some ⟨g4, 0, none⟩), .int .i64 (k : Int), .slice A bb.length cap, .int .i64 (bb.length : Int), .int .i64 (q : Int), .int .i64 (k : Int), .bool true, .int .i64 (k : Int), .agg ((beh c h bb k).map wd).toArray, .slice A bb.length cap, .int .i64 (k : Int), .int .i64 ((k * 64 : Nat) : Int), .slice (frm A (k * 64) cap) (bb.length - k * 64) (cap - k * 64), .pointer (frm A (k * 64) cap), .agg (((bb.drop (k * 64)).take 64).map oct).toArray, .agg ((beh c h bb (k + 1)).map wd).toArray, u20, undef] 22 [0, 1, 2, 3, 4, 5, 6, 7, 8, 9, 10, 11, 20, 21]
        (Sto 8 (fun v => Mod [] wr.drew v) (fun v => Holds v g2 118 ((beh c h bb (k + 1)).map wd) ∧ Mod [g2] wr.drew v)) []
        (by kernel_rfl) rfl rfl rfl rfl (Sto.start (Mod.refl _ _)) (by kernel_rfl) (by kernel_rfl) ?step ?fin
      case step =>
        intro l T v j o hj hlj hdep hst hpar hgot hcl K hK
        have hjn : j < 9 := (Array.getElem?_eq_some_iff.1 hj).1
        have hq := fun h => Sto.now (j := j) hst hlj h
        obtain rfl | rfl | rfl | rfl | rfl | rfl | rfl | rfl | rfl : j = 0 ∨ j = 1 ∨ j = 2 ∨ j = 3 ∨ j = 4 ∨ j = 5 ∨ j = 6 ∨ j = 7 ∨ j = 8 := by omega
        all_goals (have hj' := Option.some.inj (hj : some _ = some o); subst hj'; clear hj)
        · exact wp_ran rfl (exec_load rfl (eval_tmp (hpar 2 (by simp))) (run_loads (Cells.of_holds (Holds.keep (w := wr.drew) k2 (hq (by decide)).2 (by simp))) Tryd.underlying118 rfl (size26_of _ (HB.out.2.2.2.2.1 _)))) (hK _ _ (fun s hs => by cases hs; rfl) (Sto.keep (hq (by decide)) (by decide) (hq (by decide)).2))
        · exact wp_ran rfl (exec_move rfl (eval_tmp (hpar 1 (by simp)))) (hK _ _ (fun s hs => by cases hs; rfl) (Sto.keep (hq (by decide)) (by decide) (hq (by decide)).2))
        · exact wp_ran rfl (exec_move rfl (eval_tmp (hpar 5 (by simp)))) (hK _ _ (fun s hs => by cases hs; rfl) (Sto.keep (hq (by decide)) (by decide) (hq (by decide)).2))
        · exact wp_ran rfl (exec_mul rfl (eval_tmp (hgot 2 _ 14 rfl (hdep ⟨2, .data⟩ (by simp) rfl) rfl)) rfl (mul_n k 64 (by have := HB.out; have := HK.out; omega))) (hK _ _ (fun s hs => by cases hs; rfl) (Sto.keep (hq (by decide)) (by decide) (hq (by decide)).2))
        · exact wp_ran rfl (exec_from Tryd.underlying34 u8_one (by have := HB.out; have := HK.out; omega) rfl (eval_tmp (hgot 1 _ 13 rfl (hdep ⟨1, .data⟩ (by simp) rfl) rfl)) (eval_tmp (hgot 3 _ 15 rfl (hdep ⟨3, .data⟩ (by simp) rfl) rfl))) (hK _ _ (fun s hs => by cases hs; rfl) (Sto.keep (hq (by decide)) (by decide) (hq (by decide)).2))
        · exact wp_ran rfl (exec_arr Tryd.underlying72 (by have := HB.out; have := HK.out; omega) rfl (eval_tmp (hgot 4 _ 16 rfl (hdep ⟨4, .data⟩ (by simp) rfl) rfl))) (hK _ _ (fun s hs => by cases hs; rfl) (Sto.keep (hq (by decide)) (by decide) (hq (by decide)).2))
        · have hR := ((R.keep (mk.then (Mod.drewed (hq (by decide)).2)) (by simp)).from (k * 64) cap HB.out.2.2.1).first 64
          have hlen : ((bb.drop (k * 64)).take 64).length = 64 := by have := HB.out; have := HK.out; simp; omega
          obtain ⟨ga, oa, hA, _⟩ := hR 0 (by omega)
          rw [hA] at hR
          have hE : T.eval (.tmp 17) = .pointer (some ⟨ga, oa, none⟩) := (show T.eval (.tmp 17) = .pointer (frm A (k * 64) cap) from (eval_tmp (hgot 5 _ 17 rfl (hdep ⟨5, .data⟩ (by simp) rfl) rfl))).trans (congrArg Value.pointer hA)
          exact wp_ran rfl (exec_load rfl hE (run_loads hR.cells Tryd.underlying72 rfl (by rw [List.length_map, hlen]; exact size109))) (hK _ _ (fun s hs => by cases hs; rfl) (Sto.keep (hq (by decide)) (by decide) (hq (by decide)).2))
        · exact wp_called rfl (exec_call2 rfl rfl (eval_tmp (hgot 0 _ 12 rfl (hdep ⟨0, .data⟩ (by simp) rfl) rfl)) (eval_tmp (hgot 6 _ 18 rfl (hdep ⟨6, .data⟩ (by simp) rfl) rfl)) (enters_of Tryd.func80 (by kernel_rfl) rfl)) ((block_beh c h bb k HB.out.1 HB.out.2.1 (by have := HB.out; have := HK.out; omega) _ (G.keep (mk.then (Mod.drewed (hq (by decide)).2)) (by simp))).mono (fun e v' hh => ⟨_, hh.1, hK _ _ (fun s hs => by cases hs; rfl) (Sto.keep (hq (by decide)) (by decide) ((hq (by decide)).2.then hh.2))⟩))
        · exact wp_stored (ty := 118) (V := .agg ((beh c h bb (k + 1)).map wd).toArray) (cs := (beh c h bb (k + 1)).map wd) rfl rfl (eval_tmp (hpar 2 (by simp))) (eval_tmp (hgot 7 _ 19 rfl (hdep ⟨7, .data⟩ (by simp) rfl) rfl)) rfl (Holds.keep (w := wr.drew) k2 (hq (by decide)).2 (by simp)) (by rw [List.length_map, List.length_map, HB.out.2.2.2.2.1, HB.out.2.2.2.2.1]) (words_one _) (size26_of _ (HB.out.2.2.2.2.1 _)) (fun v' q1 q2 => hK _ _ (fun s hs => by cases hs) (Sto.done (reach_all (by kernel_rfl) hcl rfl hdep) ⟨q1, (hq (by decide)).2.pre q2⟩))
      case fin =>
        intro l v hl hst
        obtain ⟨n2, nm⟩ := Sto.fin hst hl (by decide)
        have n4 := Holds.keep (w := wr.drew) k4 nm (by simp; have := QQ.out; omega)
        have mn : Mod [] w v := ⟨nm.os.trans mk.os, nm.tape.trans mk.tape, nm.output.trans mk.output, Nat.le_trans mk.size nm.size, fun i hi _ => by
          rw [nm.block i (Nat.lt_of_lt_of_le hi mk.size) (by simp; have := QQ.out; omega), show wr.drew.heap[i]? = wr.heap[i]? from rfl, mk.block i hi (by simp)]⟩
        have hk1 : k + 1 ≤ q := HK.out
        have HN := Lib.hid (And.intro hk1 (And.intro n2 (And.intro n4 mn)))
        have hz : (k : Int) < (q : Int) := by have := HK.out; omega
        have hz2 : (q : Int) ≤ 9223372036854775806 := by have := HB.out; omega
        clear n2 n4 mn nm hst hl hk1 k2 k4 mk
        try dsimp only
        go_wp2_with fail
        exact ⟨⟨k + 1, HN.out.1, by go_num, HN.out.2.1, HN.out.2.2.1, HN.out.2.2.2⟩, by simp [intOf]; omega⟩
    · obtain rfl : k = q := by omega
      have HL := Lib.hid (And.intro mk QQ.out)
      clear mk hlt hk
      go_wp2_with (first
        | (with_reducible refine wpList_loads (o := ⟨some 21, .load 118 (.tmp 2), _, _, _, _⟩) rfl 118 (.tmp 2) rfl g2 0 _ rfl (Cells.of_holds k2) _ Tryd.underlying118 rfl (size26_of _ (HB.out.2.2.2.2.1 _)) (.agg ((beh c h bb k).map wd).toArray) rfl ?_)
        | (with_reducible refine wpList_storesAll (o := ⟨none, .store 118 (.tmp 4) (.tmp 21), _, _, _, _⟩) rfl 118 (.tmp 4) (.tmp 21) rfl rfl g4 ((beh c h bb k).map wd) rfl (.agg ((beh c h bb k).map wd).toArray) rfl rfl 118 _ k4 (by rw [List.length_map, List.length_map, HB.out.2.2.2.2.1, List.length_replicate]) (words_one _) (size26_of _ (HB.out.2.2.2.2.1 _)) ?_; intro w7 hw7 m7 z7))
      refine bodyPost_ret (results_cell_row rfl _ _ g4 118 _ (0, 0) _ rfl hw7 Tryd.underlying118 rfl (by rw [List.size_toArray]; exact size26_of _ (HB.out.2.2.2.2.1 _))) rfl ?_
      obtain ⟨l3, l4⟩ := HL.out
      exact ⟨rfl, ⟨m7.os.trans l3.os, m7.tape.trans l3.tape, m7.output.trans l3.output, Nat.le_trans l3.size m7.size, fun i hi _ => by rw [m7.block i (Nat.lt_of_lt_of_le hi l3.size) (by simp; omega), l3.block i hi (by simp)]⟩⟩
end Sh
end
end Go.Proofs.YtcoedhemlghjoaaDoor
