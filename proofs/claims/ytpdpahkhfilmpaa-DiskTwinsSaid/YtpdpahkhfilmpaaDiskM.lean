/-
  Package disk: Pending; what is told of no disk. Contracts of mine.
-/
import Derived.Test.YtpdpahkhfilmpaaDiskK
import Derived.Test.YtpdpahkhfilmpaaDiskJ
import Derived.Deep.QuietTactic
import Derived.StillTailTactics
namespace Go.Proofs.Ytpdpahkhfilmpaa
open Go.RowKit
/-- The sectors of these writes, as numbers lie. -/
def sects (l : Story) : List Value := l.map fun p => .int .i64 p.1
theorem take_set_snoc {α : Type} : ∀ (l : List α) (k : Nat) (v : α), k < l.length → (l.set k v).take (k + 1) = l.take k ++ [v]
  | [], k, v, h => by simp at h
  | x :: l, 0, v, _ => by simp
  | x :: l, k + 1, v, h => by simp [take_set_snoc l k v (by simpa using h)]
theorem pending_nil (w : World) : Calls Try.prog 29 #[.pointer none] w fun e w' => e = .returned (.slice none 0 0) ∧ w' = w := by
  go_enter Try.func29, Try.ntmps29
  go_wp2_with fail
  go_ret
  exact ⟨rfl, rfl⟩
set_option maxRecDepth 100000 in
set_option maxHeartbeats 2000000 in
theorem pending_c (S : St) (g m : Nat) (A : Option Addr) (c n : Nat) (w : World) (D : DAt w g m A c S) (hn : n = S.loose.length) : Calls Try.prog 29 #[.pointer (some ⟨g, 0, none⟩)] w fun e w' =>
    ∃ gp, e = .returned (.slice (some ⟨gp, 0, none⟩) n n) ∧ Holds w' gp 3 (sects S.loose) ∧ Mod [] w w' ∧ w.heap.size ≤ gp := by
  have c2 := (dc_cells D.blk).2.2.1
  obtain ⟨it, hq⟩ := info_of 3 (by kernel_rfl)
  have hz : it.zero = some (.int .i64 0) := by
    have : (Try.prog.info? 3).bind (·.zero) = some (.int .i64 0) := by kernel_rfl
    rw [hq] at this
    exact this
  have hs : it.size = 1 := by
    have : (Try.prog.info? 3).map (·.size) = some 1 := by kernel_rfl
    rw [hq] at this
    simpa using this
  have hby : it.bytes = 8 := by
    have : (Try.prog.info? 3).map (·.bytes) = some 8 := by kernel_rfl
    rw [hq] at this
    simpa using this
  have hlong := D.long
  rw [← hn] at c2 hlong
  have HD := Lib.hid (And.intro D hn)
  clear D hn
  have hlZ : (n : Int) ≤ 1099511627776 := by omega
  go_enter Try.func29, Try.ntmps29
  go_wp2_with (with_reducible refine wpList_makeG (o := ⟨some 14, .makeSlice 56 (.tmp 13) (.tmp 13), _, _, _, _⟩) rfl 56 (.tmp 13) (.tmp 13) rfl 3 it _ 1 8 n Try.underlying56 hq hz hs hby rfl rfl (by omega) (by omega) ?_
               intro w1 cs hc hl _ m1 z1
               have D1 := HD.out.1.keep m1 (by simp) (by simp) (by simp)
               have c3 := (dc_cells D1.blk).2.2.1
               rw [← HD.out.2] at c3
               replace z1 := Lib.hid z1)
  replace z1 := z1.out
  obtain ⟨gp, hg⟩ : ∃ gp, gp = w.heap.size := ⟨_, rfl⟩
  rw [← hg] at hc ⊢
  have HZ := Lib.hid (And.intro m1 (And.intro (show w.heap.size ≤ gp by omega) (And.intro (show cs.length = n by omega) (And.intro hc D1))))
  clear m1 z1 hl hc D1 c2 c3 hq hz hs hby hg
  obtain ⟨wo, hwo⟩ : ∃ wo, wo = w1 := ⟨_, rfl⟩
  have HW := Lib.hid hwo
  clear hwo
  go_loopw [21] (fun i wi => ∃ k : Nat, k ≤ n ∧ i = .int .i64 (k : Int) ∧ Mod [gp] wo wi ∧ ∃ cs : List Value, cs.length = n ∧ Holds wi gp 3 cs ∧ cs.take k = sects (S.loose.take k)) (fun i _ => n - (intOf i).toNat)
  case atStart => exact ⟨0, by omega, rfl, by rw [HW.out]; exact Mod.refl _ _, cs, HZ.out.2.2.1, HZ.out.2.2.2.1, by simp [sects]⟩
  case round =>
    obtain ⟨k, hk, rfl, hmi, ds, hds, hhi, htk⟩ := hrel
    by_cases hkn : k < n
    · have hkl : k < S.loose.length := by rw [← HD.out.2]; exact hkn
      obtain ⟨ga, oa, rfl, hce⟩ := HZ.out.2.2.2.2.loose.cells.elem' wc 65 (by omega) wc_length k hkl
      have hgne : ga ≠ gp := by
        have h1 := HD.out.1.loose.lt _ rfl
        have h2 := HZ.out.2.1
        simp at h1
        omega
      rw [← HW.out] at hce
      have hci := hce.keep hmi (by simpa using hgne)
      obtain ⟨p, hp⟩ : ∃ p, p = S.loose[k] := ⟨_, rfl⟩
      rw [← hp] at hci
      have hnx : ((ds.set k (.int .i64 p.1)).take (k + 1)) = sects (S.loose.take (k + 1)) := by
        rw [take_set_snoc ds k _ (by omega), htk, List.take_add_one, List.getElem?_eq_getElem hkl, ← hp]
        simp [sects]
      have HN := Lib.hid (And.intro hnx (And.intro hds hhi))
      clear hp hce htk hnx hds
      have hgi := hhi.lt
      go_wp2_with (first
        | (with_reducible refine wpList_loads (o := ⟨some 25, .load 84 (.tmp 24), _, _, _, _⟩) rfl 84 (.tmp 24) rfl ga (oa + k * 65) _ rfl hci _ Try.underlying84 rfl (by rw [wc_length]; exact size84) (wv p) rfl ?_)
        | (with_reducible refine wpList_allocs (o := ⟨some 5, .alloc 84, _, _, _, _⟩) rfl 84 rfl _ zero84 ?_; intro w2 hb2 m2 z2; replace z2 := Lib.hid z2)
        | (with_reducible refine wpList_storesAll (o := ⟨none, .store 84 (.tmp 5) (.tmp 25), _, _, _, _⟩) rfl 84 (.tmp 5) (.tmp 25) rfl rfl wr.heap.size (wc p) rfl (wv p) rfl rfl 84 _ hb2 (by rw [wc_length, wc_length]) (wc_one p) (by rw [wc_length]; exact size84) ?_
           intro w3 hb3 m3 z3
           have e0 := hb3.cell 0
           simp only [wc, List.getElem?_cons_zero] at e0
           have mx : Mod [] wr w3 := ⟨m3.os.trans m2.os, m3.tape.trans m2.tape, m3.output.trans m2.output, Nat.le_trans m2.size m3.size, fun i hi hn => (m3.block i (by have := m2.size; omega) (by simp; omega)).trans (m2.block i hi hn)⟩
           have hh3 := HN.out.2.2.keep mx (by simp)
           have e1 := hh3.cell k
           have e2 := hh3.free k
           rw [List.getElem?_eq_getElem (show k < ds.length by rw [HN.out.2.1]; exact hkn)] at e1
           generalize ds[k]'(by rw [HN.out.2.1]; exact hkn) = old at e1
           replace z3 := Lib.hid z3
           clear hb2 m2 m3 hb3))
      exact ⟨⟨k + 1, by omega, by go_num, (hmi.then mx).trans (Mod.setCell (ms := [gp]) w3 (p := ⟨gp, k, none⟩) (by simp) _) (fun _ _ h => h), ds.set k (.int .i64 p.1), by rw [List.length_set]; exact HN.out.2.1, hh3.set k _, HN.out.1⟩, by simp [intOf]; omega⟩
    · obtain rfl : n = k := by omega
      have hall : ds = sects S.loose := by
        have h1 : ds.take n = ds := List.take_of_length_le (by omega)
        have h2 : S.loose.take n = S.loose := List.take_of_length_le (by rw [← HD.out.2]; omega)
        rw [h1, h2] at htk
        exact htk
      rw [hall] at hhi
      rw [HW.out] at hmi
      have HZ2 := Lib.hid (And.intro hhi hmi)
      clear hhi hmi htk hall hds
      go_wp2
      go_ret
      obtain ⟨q1, q2⟩ := HZ2.out
      obtain ⟨z1, z2, _⟩ := HZ.out
      exact ⟨gp, rfl, q1, ⟨q2.os.trans z1.os, q2.tape.trans z1.tape, q2.output.trans z1.output, Nat.le_trans z1.size q2.size, fun k hk hn => by
        rw [q2.block k (by have := z1.size; omega) (by simp; omega), z1.block k hk (by simp)]⟩, z2⟩
end Go.Proofs.Ytpdpahkhfilmpaa
