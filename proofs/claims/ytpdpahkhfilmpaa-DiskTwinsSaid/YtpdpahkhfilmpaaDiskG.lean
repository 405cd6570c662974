/-
  Package disk: Read, Write, Sync, Crash, New, Pending, Copy. Contracts of mine.
-/
import Derived.Test.YtpdpahkhfilmpaaDiskF
import Derived.StillTailTactics
namespace Go.Proofs.Ytpdpahkhfilmpaa
open Go.RowKit

theorem Fits.ask {S : St} (h : Fits S) (there lasts : Bool) (ho : S.ops + 1 ≤ 1099511627776) : Fits (S.ask there lasts).2 ∧ (S.ask there lasts).2.ops ≤ S.ops + 1 ∧ (S.ask there lasts).2.loose = S.loose ∧ (S.ask there lasts).2.firm = S.firm ∧ S.ops ≤ (S.ask there lasts).2.ops ∧ ((S.ask there lasts).1 = 0 → (S.ask there lasts).2.ops = S.ops + 1) ∧ (S.ask there lasts).2.n = S.n := by
  obtain ⟨h1, h2, h3, h4, h5, h6⟩ := h
  unfold St.ask
  split
  · exact ⟨⟨h1, h2, h3, h4, h5, h6⟩, by simp, rfl, rfl, by simp, fun h => by simp at h, rfl⟩
  split
  · exact ⟨⟨h1, h2, h3, h4, h5, h6⟩, by simp, rfl, rfl, by simp, fun h => by simp at h, rfl⟩
  split
  · exact ⟨⟨h1, h2, h3, by simp, by simp, h6⟩, by simp, rfl, rfl, by simp, fun h => by simp at h, rfl⟩
  have d1 : ∀ x : Int, -9223372036854775808 ≤ x → -9223372036854775808 ≤ down x := fun x hx => by unfold down; split <;> omega
  have d2 : ∀ x : Int, x < 9223372036854775808 → down x < 9223372036854775808 := fun x hx => by unfold down; split <;> omega
  split
  · exact ⟨⟨h1, by simp, by simp, d1 _ h4, d2 _ h5, h6⟩, by simp, rfl, rfl, by simp, fun h => by simp at h, rfl⟩
  · refine ⟨⟨h1, ?_, ?_, d1 _ h4, d2 _ h5, ho⟩, by simp, rfl, rfl, by simp, fun _ => rfl, rfl⟩
    · show _ ≤ (if lasts = true then down S.armed else S.armed)
      split
      · exact d1 _ h2
      · exact h2
    · show (if lasts = true then down S.armed else S.armed) < _
      split
      · exact d2 _ h3
      · exact h3

set_option maxRecDepth 100000 in
set_option maxHeartbeats 2000000 in
theorem read1_c (S : St) (g m b2 b3 b6 : Nat) (A : Option Addr) (c : Nat) (i : Int) (old : List Value) (w : World) (h : Holds w g 74 (dc S m (.slice A S.loose.length c))) (hf : Firm w m S.firm) (hl : Cells w A (S.loose.flatMap wc)) (hn : S.loose.length ≤ 1099511627776)
    (h2 : Holds w b2 24 [.pointer (some ⟨g, 0, none⟩)]) (h3 : Holds w b3 3 [.int .i64 i]) (h6 : Holds w b6 39 old) (ho : old.length = 64) :
    Calls Try.prog 43 #[.pointer (some ⟨b2, 0, none⟩), .pointer (some ⟨b3, 0, none⟩), .pointer (some ⟨b6, 0, none⟩)] w fun e w' => e = .returned (.tuple #[]) ∧ Holds w' b6 39 (bc (S.holds i)) ∧ Mod [b6] w w' := by
  have a2 := h2.cell 0
  have a3 := h3.cell 0
  simp only [List.getElem?_cons_zero] at a2 a3
  have H := holds_c S g m A c i w.drew h hf hl hn
  have h6' : Holds w.drew b6 39 old := h6
  have m0 : Mod [] w w.drew := Mod.drew [] w
  clear h hf hl h2 h3 h6
  go_enter Try.func43, Try.ntmps43
  go_wp2_with fail
  refine wp_region_still_tail 4 (by kernel_rfl) (by kernel_rfl) ?_
  simp only [List.take_succ_cons, List.take_zero, List.drop_succ_cons, List.drop_zero]
  iterate 4 still_step
  refine wpStill_nil ?_
  clear a2 a3
  change wpList _ _ _ _ _ w.drew
  generalize w.drew = w1 at *
  go_wp2_with (first
    | (go_at_call 44; refine H.mono ?_; rintro e w2 ⟨rfl, m2⟩; replace h6' := h6'.keep m2 (by simp))
    | (with_reducible refine wpList_storesAll (o := ⟨none, .store 39 (.tmp 2) (.tmp 7), _, _, _, _⟩) rfl 39 (.tmp 2) (.tmp 7) rfl rfl b6 (bc (S.holds i)) rfl (bv (S.holds i)) rfl rfl 39 _ h6' (by rw [bc_length, ho]) (bc_one _) (by rw [bc_length]; exact size39) ?_; intro w3 hw3 m3 z3))
  go_end0
  exact ⟨rfl, hw3, (m0.then m2).pre m3⟩

theorem results_cell_tmp {P : Program} {fn : Func} {p q : Tmp} {ty : TypeId} (h : fn.results = #[.cell p ty, .tmp q]) (tmps : Array Value) (w : World) (g : Nat) (cs : List Value) (x : Value) (d : TypeDesc)
    (hp : tmps.getD p undef = .pointer (some ⟨g, 0, none⟩)) (hq : tmps.getD q undef = x) (hc : Cells w (some ⟨g, 0, none⟩) cs)
    (hu : P.underlying ty = some d) (hd : (match d with | .struct _ | .array _ _ => true | _ => false) = true) (hi : (P.info? ty).map (·.size) = some cs.length) :
    (results fn tmps).run P w = .ok (.tuple #[.agg cs.toArray, x]) w := by
  have hp' : tmps[p]?.getD undef = .pointer (some ⟨g, 0, none⟩) := by simpa using hp
  have hq' : tmps[q]?.getD undef = x := by simpa using hq
  simp [results, h, hp', hq', asAddr, run_loads hc hu hd hi]
set_option maxRecDepth 100000 in
set_option maxHeartbeats 2000000 in
theorem read_c (S : St) (g m : Nat) (A : Option Addr) (c : Nat) (i : Int) (w : World) (D : DAt w g m A c S) (ho : S.ops + 1 ≤ 1099511627776) :
    Calls Try.prog 17 #[.pointer (some ⟨g, 0, none⟩), .int .i64 i] w fun e w' => e = .returned (.tuple #[bv (S.read i).1, .int .i64 (S.read i).2.1]) ∧ DAt w' g m A c (S.read i).2.2 ∧ Mod [g] w w' := by
  have hlt := D.blk.lt
  go_enter Try.func17, Try.ntmps17
  go_wp2_with (first
    | (with_reducible refine wpList_boxes (o := ⟨some 2, .box 24 (.tmp 0), _, _, _, _⟩) rfl 24 (.tmp 0) rfl _ rfl [.pointer (some ⟨g, 0, none⟩)] rfl ?_; intro w1 hb1 m1 z1; replace z1 := Lib.hid z1)
    | (with_reducible refine wpList_boxes (o := ⟨some 3, .box 3 (.tmp 1), _, _, _, _⟩) rfl 3 (.tmp 1) rfl _ rfl [.int .i64 i] rfl ?_; intro w2 hb2 m2 z2; replace z2 := Lib.hid z2)
    | (with_reducible refine wpList_allocs (o := ⟨some 4, .alloc 39, _, _, _, _⟩) rfl 39 rfl _ zero39 ?_; intro w3 hb3 m3 z3; replace z3 := Lib.hid z3)
    | (with_reducible refine wpList_allocs (o := ⟨some 6, .alloc 39, _, _, _, _⟩) rfl 39 rfl _ zero39 ?_; intro w4 hb4 m4 z4; replace z4 := Lib.hid z4))
  have mm : Mod [] w w4 := ((m1.then m2).then m3).then m4
  have D4 := D.keep mm (by simp) (by simp) (by simp)
  have k1 : Holds w4 w.heap.size 24 [.pointer (some ⟨g, 0, none⟩)] := ((hb1.keep m2 (by simp)).keep m3 (by simp)).keep m4 (by simp)
  have k2 : Holds w4 w1.heap.size 3 [.int .i64 i] := (hb2.keep m3 (by simp)).keep m4 (by simp)
  have k3 : Holds w4 w2.heap.size 39 (bc (fil 0)) := hb3.keep m4 (by simp)
  have k4 : Holds w4 w3.heap.size 39 (bc (fil 0)) := hb4
  replace z1 := z1.out
  replace z2 := z2.out
  replace z3 := z3.out
  replace z4 := z4.out
  obtain ⟨b1, e1⟩ : ∃ b, b = w.heap.size := ⟨_, rfl⟩
  obtain ⟨b2, e2⟩ : ∃ b, b = w1.heap.size := ⟨_, rfl⟩
  obtain ⟨b3, e3⟩ : ∃ b, b = w2.heap.size := ⟨_, rfl⟩
  obtain ⟨b4, e4⟩ : ∃ b, b = w3.heap.size := ⟨_, rfl⟩
  have o1 : g < b1 := by omega
  have o2 : b1 < b2 := by omega
  have o3 : b2 < b3 := by omega
  have o4 : b3 < b4 := by omega
  have o5 : w.heap.size ≤ b1 := by omega
  rw [← e1] at k1
  rw [← e2] at k2
  rw [← e3] at k3
  rw [← e4] at k4
  rw [← e1, ← e2, ← e3, ← e4]
  clear e1 e2 e3 e4 hb1 hb2 hb3 hb4 m1 m2 m3 m4 z1 z2 z3 z4
  have a1 := k1.cell 0
  have a2 := k2.cell 0
  simp only [List.getElem?_cons_zero] at a1 a2
  have hH := has_c g S.n i w4.drew (D4.blk.cell 0)
  have m5 : Mod [] w w4.drew := mm.then (Mod.drew [] w4)
  have D5 := D4.keep (Mod.drew [] w4) (by simp) (by simp) (by simp)
  replace k1 := k1.keep (Mod.drew [] w4) (by simp)
  replace k2 := k2.keep (Mod.drew [] w4) (by simp)
  replace k3 := k3.keep (Mod.drew [] w4) (by simp)
  replace k4 := k4.keep (Mod.drew [] w4) (by simp)
  go_wp2_with fail
  refine wp_region_still_tail 5 (by kernel_rfl) (by kernel_rfl) ?_
  simp only [List.take_succ_cons, List.take_zero, List.drop_succ_cons, List.drop_zero]
  iterate 3 still_step
  still_call hH
  still_step
  refine wpStill_nil ?_
  clear a1 a2 hH D4 mm
  change wpList _ _ _ _ _ w4.drew
  generalize w4.drew = w5 at *
  obtain ⟨r, hr⟩ : ∃ r, S.ask (S.has i) false = r := ⟨_, rfl⟩
  obtain ⟨f1, f2, f3, f4, f5, f6, f7⟩ := D5.fits.ask (S.has i) false ho
  have HA := ask_43 S g m (.slice A S.loose.length c) (S.has i) false D5.fits w5 (.pointer (some ⟨b1, 0, none⟩)) (.pointer (some ⟨b2, 0, none⟩)) (.pointer (some ⟨b4, 0, none⟩))
    (fun v => Holds v g 74 (dc r.2 m (.slice A S.loose.length c)) ∧ Holds v b4 39 (bc (r.2.holds i)) ∧ Mod [g, b4] w5 v) D5.blk (by
      rw [hr] at f3 f4 ⊢
      intro h0 v hv mv zv
      have hne : m ≠ g := fun e => D5.firm.ne_holds D5.blk e.symm
      have := read1_c r.2 g m b1 b2 b4 A c i (bc (fil 0)) v (by rw [f3]; exact hv) (by rw [f4]; exact D5.firm.keep mv (by simpa using hne)) (by rw [f3]; exact D5.loose.cells.keep mv (fun a ha => by simpa using D5.loose.ne D5.blk (by decide) a ha)) (by rw [f3]; exact D5.long)
        (k1.keep mv (by simp; omega)) (k2.keep mv (by simp; omega)) (k4.keep mv (by simp; omega)) (bc_length _)
      refine this.mono ?_
      rintro e v2 ⟨rfl, q1, q2⟩
      exact ⟨rfl, hv.keep q2 (by simp; omega), q1, (mv.wk (fun i _ h => by simp at h; simp [h])).trans (q2.wk (ns := [g, b4]) (fun i _ h => by simp at h; simp [h])) (fun _ _ h => h)⟩)
  rw [hr] at HA f1 f2 f3 f4 f5 f6 f7
  have hrd : S.read i = (if r.1 = 0 then r.2.holds i else fil 0, r.1, r.2) := by unfold St.read; rw [hr]
  have HA2 : Calls Try.prog 41 #[.pointer (some ⟨g, 0, none⟩), .bool (S.has i), .bool false, .func (.func 43) #[] #[.pointer (some ⟨b1, 0, none⟩), .pointer (some ⟨b2, 0, none⟩), .pointer (some ⟨b4, 0, none⟩)]] w5 fun e w' => e = .returned (.int .i64 r.1) ∧ Holds w' g 74 (dc r.2 m (.slice A S.loose.length c)) ∧ Holds w' b4 39 (bc (if r.1 = 0 then r.2.holds i else fil 0)) ∧ Mod [g, b4] w5 w' := by
    refine HA.mono ?_
    rintro e v ⟨rfl, q1, q2⟩
    by_cases h0 : r.1 = 0
    · rw [if_pos h0]
      exact ⟨rfl, q2 h0⟩
    · rw [if_neg h0]
      obtain ⟨u1, u2, u3⟩ := q1 h0
      exact ⟨rfl, u1, k4.keep u2 (by simp; omega), u2.wk (fun i _ h => by simp at h; simp [h])⟩
  obtain ⟨n, hn⟩ : ∃ n, n = r.1 := ⟨_, rfl⟩
  obtain ⟨B, hB⟩ : ∃ B, B = (if r.1 = 0 then r.2.holds i else fil 0) := ⟨_, rfl⟩
  rw [← hB, ← hn] at HA2 hrd
  have hhas : S.has i = decide (0 ≤ i ∧ i < (S.n : Int)) := rfl
  rw [hhas, Bool.decide_and] at HA2
  have HZ := Lib.hid (And.intro hrd (And.intro f3 (And.intro f4 (And.intro f1 f5))))
  clear HA hrd hr hn hB hhas f6 f7 f2 f3 f4 f1 f5
  go_wp2_with fail
  refine HA2.mono ?_
  clear HA2
  rintro e w6 ⟨rfl, q1, q2, q3⟩
  replace k3 := k3.keep q3 (by simp; omega)
  go_wp2_with (first
    | (with_reducible refine wpList_loads (o := ⟨some 14, .load 39 (.tmp 6), _, _, _, _⟩) rfl 39 (.tmp 6) rfl b4 0 _ rfl (Cells.of_holds q2) _ Try.underlying39 rfl (by rw [bc_length]; exact size39) (bv B) rfl ?_)
    | (with_reducible refine wpList_storesAll (o := ⟨none, .store 39 (.tmp 4) (.tmp 14), _, _, _, _⟩) rfl 39 (.tmp 4) (.tmp 14) rfl rfl b3 (bc B) rfl (bv B) rfl rfl 39 _ k3 (by rw [bc_length, bc_length]) (bc_one _) (by rw [bc_length]; exact size39) ?_; intro w7 hw7 m7 z7))
  have hM : Mod [g] w w7 := ⟨m7.os.trans (q3.os.trans m5.os), m7.tape.trans (q3.tape.trans m5.tape), m7.output.trans (q3.output.trans m5.output), Nat.le_trans m5.size (Nat.le_trans q3.size m7.size), fun k hk hn => by
    simp only [List.mem_singleton] at hn
    have s5 := m5.size
    have s6 := q3.size
    rw [m7.block k (by omega) (by simp; omega), q3.block k (by omega) (by simp; omega), m5.block k hk (by simp)]⟩
  obtain ⟨z1, z2, z3, z4, z5⟩ := HZ.out
  refine bodyPost_ret (results_cell_tmp rfl _ _ b3 (bc B) (.int .i64 n) _ rfl rfl (Cells.of_holds hw7) Try.underlying39 rfl (by rw [bc_length]; exact size39)) rfl ?_
  rw [z1]
  exact ⟨rfl, D.turn hM (q1.keep m7 (by simp; omega)) z2 z3 z4 z5, hM⟩
end Go.Proofs.Ytpdpahkhfilmpaa
