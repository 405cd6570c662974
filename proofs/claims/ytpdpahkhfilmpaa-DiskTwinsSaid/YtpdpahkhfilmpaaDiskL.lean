/-
  Package disk: New, Copy, Pending. Contracts of mine.
-/
import Derived.Test.YtpdpahkhfilmpaaDiskK
import Derived.Test.YtpdpahkhfilmpaaDiskJ
import Derived.StillTailTactics
namespace Go.Proofs.Ytpdpahkhfilmpaa
open Go.RowKit
theorem new_bad (n : Int) (w : World) (h : ¬ (1 ≤ n ∧ n ≤ 2048)) : Calls Try.prog 11 #[.int .i64 n] w fun e w' => e = .returned (.tuple #[.pointer none, .int .i64 2]) ∧ w' = w := by
  by_cases h1 : n < 1
  · clear h
    go_enter Try.func11, Try.ntmps11
    go_wp2
    go_ret2
    exact ⟨rfl, rfl⟩
  · have h2 : 2048 < n := by omega
    have h1 : 1 ≤ n := by omega
    clear h
    go_enter Try.func11, Try.ntmps11
    go_wp2
    go_ret2
    exact ⟨rfl, rfl⟩
set_option maxRecDepth 100000 in
set_option maxHeartbeats 2000000 in
theorem new_good (n : Nat) (w : World) (h1 : 1 ≤ n) (h2 : n ≤ 2048) : Calls Try.prog 11 #[.int .i64 (n : Int)] w fun e w' =>
    ∃ g m, e = .returned (.tuple #[.pointer (some ⟨g, 0, none⟩), .int .i64 0]) ∧ DAt w' g m none 0 (St.new n) ∧ Mod [] w w' ∧ w.heap.size ≤ g ∧ w.heap.size ≤ m := by
  have hmm := @run_makeMap Try.prog
  have k1 : (1 : Int) ≤ (n : Int) := by omega
  have k2 : (n : Int) ≤ 2048 := by omega
  go_enter Try.func11, Try.ntmps11
  go_wp2_with (with_reducible refine wpList_boxes (o := ⟨some 14, .box 74 (.tmp 13), _, _, _, _⟩) rfl 74 (.tmp 13) rfl _ rfl [.int .i64 (n : Int), .map (some w.heap.size), .slice none 0 0, .bool false, .int .i64 (-1), .int .i64 (-1), .int .i64 0] rfl ?_; intro w1 hb m1 z1)
  go_ret2
  rw [World.size_alloc] at hb
  have hF : Firm w1 w.heap.size (fun _ => fil 0) := Firm.keep Firm.new m1 (by simp)
  exact ⟨w.heap.size + 1, w.heap.size, rfl, ⟨hb, hF, OwnG.nil _ _ _ _, ⟨h2, by simp [St.new], by simp [St.new], by simp [St.new], by simp [St.new], by simp [St.new]⟩, Nat.zero_le _⟩, (Mod.alloc [] w _).then m1, by omega, Nat.le_refl _⟩

theorem copy_nil (w : World) : Calls Try.prog 19 #[.pointer none] w fun e w' => e = .returned (.pointer none) ∧ w' = w := by
  go_enter Try.func19, Try.ntmps19
  go_wp2_with fail
  go_ret
  exact ⟨rfl, rfl⟩
set_option maxRecDepth 100000 in
set_option maxHeartbeats 2000000 in
theorem copy_c (S : St) (g m : Nat) (A : Option Addr) (c : Nat) (w : World) (D : DAt w g m A c S) : Calls Try.prog 19 #[.pointer (some ⟨g, 0, none⟩)] w fun e w' =>
    ∃ g2 m2 A2 c2, e = .returned (.pointer (some ⟨g2, 0, none⟩)) ∧ DAt w' g2 m2 A2 c2 S ∧ Mod [] w w' ∧ w.heap.size ≤ g2 ∧ w.heap.size ≤ m2 ∧ (∀ a, A2 = some a → w.heap.size ≤ a.block) := by
  have hlt := D.blk.lt
  obtain ⟨c0, c1, c2, c3, c4, c5, c6⟩ := dc_cells D.blk
  obtain ⟨it, hq⟩ := info_of 84 (by kernel_rfl)
  have hz : it.zero = some (.agg (wc (0, fil 0)).toArray) := by
    have : (Try.prog.info? 84).bind (·.zero) = some (.agg (wc (0, fil 0)).toArray) := by kernel_rfl
    rw [hq] at this
    exact this
  have hs : it.size = 65 := by have := size84; rw [hq] at this; simpa using this
  have hby : it.bytes = 72 := by
    have : (Try.prog.info? 84).map (·.bytes) = some 72 := by kernel_rfl
    rw [hq] at this
    simpa using this
  have hlong := D.long
  obtain ⟨n, hn⟩ : ∃ n, n = S.loose.length := ⟨_, rfl⟩
  have HD := Lib.hid (And.intro D hn)
  rw [← hn] at c2 hlong
  clear D hn
  go_enter Try.func19, Try.ntmps19
  go_wp2_with (with_reducible refine wpList_boxes (o := ⟨some 11, .box 74 (.tmp 10), _, _, _, _⟩) rfl 74 (.tmp 10) rfl _ rfl (dc S m (.slice A n c)) rfl ?_; intro w1 hb m1 z1; replace z1 := Lib.hid z1; have D1 := HD.out.1.keep m1 (by simp) (by simp) (by simp); have q1 := (dc_cells D1.blk).2.1)
  clear c0 c1 c2 c3 c4 c5 c6
  have z1' := z1.out
  obtain ⟨g2, hg2⟩ : ∃ g2, g2 = w.heap.size := ⟨_, rfl⟩
  rw [← hg2] at hb ⊢
  have o1 : g < g2 := by omega
  have o2 : w1.heap.size = g2 + 1 := by omega
  have o3 : w.heap.size ≤ g2 := by omega
  clear hg2 z1 z1'
  replace o2 := Lib.hid o2
  refine (clone_c m S.firm _ D1.firm).mono ?_
  rintro e w2 ⟨rfl, hF2, m2, z2⟩
  have hb2 := hb.keep m2 (by simp)
  have f1 := hb2.free 1
  have p1 := hb2.cell 1
  simp only [dc, List.getElem?_cons_succ, List.getElem?_cons_zero] at p1
  obtain ⟨m', hm'⟩ : ∃ m', m' = w1.heap.size := ⟨_, rfl⟩
  rw [← hm'] at hF2 ⊢
  have o4 : g2 < m' := by have := o2.out; omega
  have o5 : w2.heap.size = m' + 1 := by omega
  clear hm' z2
  have D2 := D1.keep m2 (by simp) (by simp) (by simp)
  have hb3 : Holds (w2.setCell ⟨g2, 1, none⟩ (.map (some m'))) g2 74 (dc S m' (.slice A n c)) := hb2.set 1 _
  have m3 : Mod [g2] w2 (w2.setCell ⟨g2, 1, none⟩ (.map (some m'))) := Mod.setCell _ (by simp) _
  have hgn : ∀ a, A = some a → a.block ∉ [g2] := fun a ha => by
    have := HD.out.1.loose.lt a ha
    simp
    omega
  have D3 := D2.keep m3 (by simp; omega) (by have := HD.out.1.firm.lt; simp; omega) hgn
  have hF3 : Firm (w2.setCell ⟨g2, 1, none⟩ (.map (some m'))) m' S.firm := hF2.keep m3 (by simp; omega)
  have mm3 : Mod [] w (w2.setCell ⟨g2, 1, none⟩ (.map (some m'))) := ⟨m2.os.trans m1.os, m2.tape.trans m1.tape, m2.output.trans m1.output, by simp [World.setCell]; exact Nat.le_trans m1.size m2.size, fun k hk hn => by
    rw [m3.block k (by have := m1.size; have := m2.size; omega) (by simp; omega), m2.block k (by have := m1.size; omega) (by simp), m1.block k hk (by simp)]⟩
  have o6 : (w2.setCell ⟨g2, 1, none⟩ (.map (some m'))).heap.size = m' + 1 := by simp [World.setCell, o5]
  have r2 := (dc_cells D2.blk).2.2.1
  rw [← HD.out.2] at r2
  clear q1 D1 D2 hb hb2 m1 m2 m3 o2
  have hgn2 := hgn
  go_wp2_with (with_reducible refine wpList_makeG (o := ⟨some 29, .makeSlice 70 (.tmp 28) (.tmp 28), _, _, _, _⟩) rfl 70 (.tmp 28) (.tmp 28) rfl 84 it _ 65 72 n Try.underlying70 hq hz hs hby rfl rfl (by omega) (by omega) ?_
               intro w4 cs hc4 hl4 _ m4 z4
               have hb4 := hb3.keep m4 (by simp)
               have f2 := hb4.free 2
               have p2 := hb4.cell 2
               simp only [dc, List.getElem?_cons_succ, List.getElem?_cons_zero] at p2
               replace z4 := Lib.hid z4)
  replace z4 := z4.out
  obtain ⟨g3, hg3⟩ : ∃ g3, g3 = m' + 1 := ⟨_, rfl⟩
  rw [o6, ← hg3] at hc4
  rw [← hg3]
  have o7 : m' < g3 := by omega
  clear hg3 o5 o6 f1 p1 r2
  have m5 : Mod [g2] w4 (w4.setCell ⟨g2, 2, none⟩ (.slice (some ⟨g3, 0, none⟩) n n)) := Mod.setCell _ (by simp) _
  have hb5 : Holds (w4.setCell ⟨g2, 2, none⟩ (.slice (some ⟨g3, 0, none⟩) n n)) g2 74 (dc S m' (.slice (some ⟨g3, 0, none⟩) n n)) := hb4.set 2 _
  have D5 := (D3.keep m4 (by simp) (by simp) (by simp)).keep m5 (by simp; omega) (by have := HD.out.1.firm.lt; simp; omega) hgn2
  have hF5 := (hF3.keep m4 (by simp)).keep m5 (by simp; omega)
  have hc5 := hc4.keep m5 (by simp; omega)
  have mm5 : Mod [] w (w4.setCell ⟨g2, 2, none⟩ (.slice (some ⟨g3, 0, none⟩) n n)) := ⟨m4.os.trans mm3.os, m4.tape.trans mm3.tape, m4.output.trans mm3.output, by simp [World.setCell]; exact Nat.le_trans mm3.size m4.size, fun k hk hn => by
    rw [m5.block k (by have := mm3.size; have := m4.size; omega) (by simp; omega), m4.block k (by have := mm3.size; omega) (by simp), mm3.block k hk (by simp)]⟩
  generalize w4.setCell ⟨g2, 2, none⟩ (.slice (some ⟨g3, 0, none⟩) n n) = w5 at *
  clear hb4 f2 p2 hc4 hF3 D3 hb3 m4 mm3 m5
  have e1 := (dc_cells D5.blk).2.2.1
  rw [← HD.out.2] at e1
  have e2 := hb5.cell 2
  simp only [dc, List.getElem?_cons_succ, List.getElem?_cons_zero] at e2
  go_wp2_with fail
  refine wp_region_still_tail 10 (by kernel_rfl) (by kernel_rfl) ?_
  simp only [List.take_succ_cons, List.take_zero, List.drop_succ_cons, List.drop_zero]
  iterate 10 still_step
  refine wpStill_nil ?_
  have mm6 : Mod [] w w5.drew := mm5.then (Mod.drew [] w5)
  have hb6 := hb5.keep (Mod.drew [] w5) (by simp)
  have hF6 := hF5.keep (Mod.drew [] w5) (by simp)
  have hc6 := hc5.keep (Mod.drew [] w5) (by simp)
  have D6 := D5.keep (Mod.drew [] w5) (by simp) (by simp) (by simp)
  clear hb5 hF5 hc5 D5 e1 e2
  change wpList _ _ _ _ _ w5.drew
  generalize w5.drew = w6 at *
  refine wpList_copyG rfl (.tmp 37) (.tmp 42) 70 rfl Try.underlying70 size84 wc_length (by omega) wc_one rfl rfl hc6 D6.loose.cells HD.out.2 hl4 ?_
  intro w7 hc7 m7 z7
  have hb7 := hb6.keep m7 (by simp; omega)
  have hF7 := hF6.keep m7 (by simp; omega)
  have mm7 : Mod [] w w7 := ⟨m7.os.trans mm6.os, m7.tape.trans mm6.tape, m7.output.trans mm6.output, Nat.le_trans mm6.size m7.size, fun k hk hn => by
    rw [m7.block k (by have := mm6.size; omega) (by simp; omega), mm6.block k hk (by simp)]⟩
  clear hb6 hF6 hc6 m7 mm6 D6
  go_wp2
  go_ret
  have hD := HD.out.1
  have hnn := HD.out.2
  refine ⟨g2, m', some ⟨g3, 0, none⟩, n, rfl, ⟨by rw [← hnn]; exact hb7, hF7, ?_, hD.fits, hD.few⟩, mm7, o3, by omega, fun a ha => by cases ha; show w.heap.size ≤ g3; omega⟩
  have := OwnG.of_holds (f := wc) (size := 65) hc7 wc_length (by unfold maxLen; omega)
  rw [← hnn] at this
  exact this
end Go.Proofs.Ytpdpahkhfilmpaa
