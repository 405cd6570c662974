/-
  The document's own disk, as a value: Loose. A contract of mine.
-/
import Derived.Test.YtpdpahkhfilmpaaRdk
namespace Go.Proofs.Ytpdpahkhfilmpaa
open Go.RowKit
open Rg
def iv (z : Int) : List Value := [.int .i64 z]
theorem iv_one : ∀ z, ∀ v ∈ iv z, v.oneCell' = true := fun z v h => by simp [iv] at h; subst h; rfl
theorem info3 : ∃ it, Try.prog.info? 3 = some it ∧ it.zero = some (.int .i64 0) ∧ it.size = 1 ∧ it.bytes = 8 := by
  obtain ⟨it, hq⟩ := info_of 3 (by kernel_rfl)
  have h1 : (Try.prog.info? 3).bind (·.zero) = some (.int .i64 0) := by kernel_rfl
  have h2 : (Try.prog.info? 3).map (·.size) = some 1 := by kernel_rfl
  have h3 : (Try.prog.info? 3).map (·.bytes) = some 8 := by kernel_rfl
  rw [hq] at h1 h2 h3
  exact ⟨it, hq, h1, by simpa using h2, by simpa using h3⟩
theorem exec_lit3 {v : World} {o : Oper} {ρ : Operand → Value} {x : Operand} {z : Int} (ho : o.op = .buildSlice 56 1 #[(0, x)]) (hx : ρ x = .int .i64 z) : (execOp ρ o).run Try.prog v = .ok (.value (.slice (some ⟨v.heap.size, 0, none⟩) 1 1)) (v.alloc (.cells #[.int .i64 z] 3)) := by
  obtain ⟨it, hq, hz, hs, _⟩ := info3
  have h0 : ∀ w, (zeroValue 3).run Try.prog w = .ok (.int .i64 0) w := (zero_of_info (n := 1) (by kernel_rfl)).1
  exact exec_lit ho hx (run_lit1 v Try.underlying56 hq hs (by decide) (by decide) h0 (cs := [.int .i64 z]) rfl rfl)
theorem flat_iv (l : List Int) : l.flatMap iv = l.map (Value.int .i64) := by
  induction l with
  | nil => rfl
  | cons b l ih => simp [iv, ih]
def frs (A : Option Addr) (k c : Nat) : Option Addr := if c = k then A else A.map (·.add (k * 65))
theorem flat_drop (l : Story) (k : Nat) : (l.drop k).flatMap wc = (l.flatMap wc).drop (k * 65) := by
  induction l generalizing k with
  | nil => simp
  | cons p l ih =>
    cases k with
    | zero => simp
    | succ k =>
      have hp := wc_length p
      rw [List.drop_succ_cons, ih, List.flatMap_cons, List.drop_append, (List.drop_eq_nil_of_le (by omega) : List.drop ((k + 1) * 65) (wc p) = []), List.nil_append]
      congr 1
      omega
theorem Cells.fromw {w : World} {A : Option Addr} {l : Story} (h : Cells w A (l.flatMap wc)) (k c : Nat) (hc : l.length ≤ c) : Cells w (frs A k c) ((l.drop k).flatMap wc) := by
  rw [flat_drop]
  intro i hi
  have hfl : (l.flatMap wc).length = l.length * 65 := flat_length wc 65 wc_length l
  have hi' : k * 65 + i < (l.flatMap wc).length := by simp only [List.length_drop] at hi; omega
  obtain ⟨g, o, rfl, hx⟩ := h (k * 65 + i) hi'
  unfold frs
  rw [if_neg (by omega)]
  refine ⟨g, o + k * 65, by rw [Option.map_some, add_plain], ?_⟩
  rw [Nat.add_assoc, hx]
  simp
theorem exec_from28 {v : World} {o : Oper} {ρ : Operand → Value} {x y : Operand} {A : Option Addr} {n c k : Nat} (hk : k ≤ n) (_ : n ≤ c) (ho : o.op = .slice 28 x (some y) none none) (hx : ρ x = .slice A n c) (hy : ρ y = .int .i64 (k : Int)) :
    (execOp ρ o).run Try.prog v = .ok (.value (.slice (frs A k c) (n - k) (c - k))) v := by
  unfold execOp
  obtain ⟨it, hq⟩ := info_of 80 (by kernel_rfl)
  have hs : it.size = 65 := by have := size80; rw [hq] at this; simpa using this
  simp [ho, hx, hy, Instr.sliceAt, Instr.slice, Instr.sliceBounds, Instr.sliceBound, Sem.run_bind, run_underlying Try.underlying28, go_sem, sizeOf, typeInfo, hq, hs, hk, frs]
set_option maxRecDepth 100000 in
set_option maxHeartbeats 2000000 in
theorem loose_c (R : RSt) (A : Option Addr) (c : Nat) (w : World) (hR : Told w R A c) (hl : R.story.length ≤ 1099511627776) (hf : R.firm ≤ R.story.length) : Calls Try.prog 37 #[rv R A c] w fun e w' => ∃ A' c', e = .returned (.slice A' (R.story.length - R.firm) c') ∧ Cells w' A' (sects (R.story.drop R.firm)) ∧ Mod [] w w' := by
  obtain ⟨N, hN⟩ : ∃ N, N = R.story.length := ⟨_, rfl⟩
  obtain ⟨F, hF⟩ : ∃ F, F = R.firm := ⟨_, rfl⟩
  have hNZ : (N : Int) ≤ 1099511627776 := by omega
  have hFZ : (F : Int) ≤ (N : Int) := by omega
  have hcap := hR.fits.1
  have hcZ : (N : Int) ≤ (c : Int) := by omega
  have hFN : F ≤ N := by omega
  have hNc : N ≤ c := by omega
  rw [← hN, ← hF]
  have HR := Lib.hid (And.intro hR (And.intro hN (And.intro hF (And.intro hl hcap))))
  clear hR hl hN hF hf hcap
  obtain ⟨D, hD⟩ : ∃ D, D = R.story.drop F := ⟨_, rfl⟩
  obtain ⟨M, hM⟩ : ∃ M, M = N - F := ⟨_, rfl⟩
  have hDl : D.length = M := by rw [hD, hM, HR.out.2.1, List.length_drop]
  obtain ⟨Af, hAf⟩ : ∃ Af, Af = frs A F c := ⟨_, rfl⟩
  obtain ⟨cf, hcf⟩ : ∃ cf, cf = c - F := ⟨_, rfl⟩
  have hcells : Cells w Af (D.flatMap wc) := by rw [hAf, hD]; exact Cells.fromw HR.out.1.cells F c (by rw [← HR.out.2.1]; exact hNc)
  have hMN : M ≤ 1099511627776 := by omega
  have hMZ : (M : Int) ≤ 1099511627776 := by omega
  have hsec : sects (R.story.drop F) = (D.map (·.1)).map (Value.int .i64) := by rw [hD]; unfold sects; rw [List.map_map]; rfl
  rw [hsec, ← hM]
  have HD := Lib.hid (And.intro hcells (And.intro hDl hMN))
  have HF := Lib.hid (And.intro hM (And.intro hAf hcf))
  clear hD hM hAf hcf hDl hcells hMN hsec
  obtain ⟨i3, k1, k2, k3, k4⟩ := info3
  have hI := Lib.hid (And.intro k1 (And.intro k2 (And.intro k3 k4)))
  clear k1 k2 k3 k4
  go_enter Try.func37, Try.ntmps37
  go_wp2_with (first
    | (with_reducible refine wpList_boxes (o := ⟨some 1, .box 30 (.tmp 0), _, _, _, _⟩) rfl 30 (.tmp 0) rfl _ rfl (rc R A c) rfl ?_; intro w1 hb1 m1 z1; replace z1 := Lib.hid z1; have c2 := hb1.cell 2; have c1 := hb1.cell 1; simp only [rc, List.getElem?_cons_succ, List.getElem?_cons_zero] at c1 c2; rw [← HR.out.2.1] at c2; rw [← HR.out.2.2.1] at c1)
    | (with_reducible refine wpList_ranW (o := ⟨some 10, .slice 28 (.tmp 7) (some (.tmp 9)) none none, _, _, _, _⟩) (by with_unfolding_all rfl) (.slice Af M cf) _ (by rw [HF.out.1, HF.out.2.1, HF.out.2.2]; exact exec_from28 hFN hNc rfl rfl rfl) ?_))
  clear hFN hNc c1 c2 hFZ hcZ hNZ z1 hb1
  go_loopw [3, 12] (fun row i wi => ∃ k : Nat, k ≤ M ∧ i = .int .i64 (k : Int) ∧ ∃ A' c', row = .slice A' k c' ∧ OwnG iv 3 1 wi A' c' ((D.take k).map (·.1)) ∧ (∀ a, A' = some a → w.heap.size ≤ a.block) ∧ Mod [] w wi) (fun _ i _ => M - (intOf i).toNat)
  case atStart => exact ⟨0, by omega, rfl, none, 0, rfl, OwnG.nil _ _ _ _, (fun a h => by cases h), m1⟩
  case round =>
    clear m1
    obtain ⟨k, hk, rfl, A', c', rfl, hO, hA', mm⟩ := hrel
    have hkl : ((D.take k).map (·.1)).length = k := by rw [List.length_map, List.length_take, HD.out.2.1]; omega
    by_cases hkn : k < M
    · have hkZ : (k : Int) < (M : Int) := by omega
      obtain ⟨ga, oa, rfl, hca⟩ := Cells.elem' wc 65 (by decide) wc_length (HD.out.1.keep mm (by simp)) k (by rw [HD.out.2.1]; exact hkn)
      have htk : (D.take (k + 1)).map (·.1) = (D.take k).map (·.1) ++ [(D[k]'(by rw [HD.out.2.1]; exact hkn)).1] := by rw [List.take_succ_eq_append_getElem (by rw [HD.out.2.1]; exact hkn), List.map_append]; rfl
      obtain ⟨⟨at', b⟩, hp⟩ : ∃ p, p = D[k]'(by rw [HD.out.2.1]; exact hkn) := ⟨_, rfl⟩
      rw [← hp] at hca htk
      have HK := Lib.hid (And.intro htk hkl)
      have hk40 : k ≤ 1099511627776 := by have := HD.out.2.2; omega
      clear hp htk hkl
      go_wp2_with (first
        | (with_reducible refine wpList_loads (o := ⟨some 15, .load 80 (.tmp 14), _, _, _, _⟩) rfl 80 (.tmp 14) rfl ga (oa + k * 65) _ rfl hca _ Try.underlying80 rfl (size80' _) (.agg (wc (at', b)).toArray) rfl ?_)
        | (with_reducible refine wpList_allocs (o := ⟨some 5, .alloc 80, _, _, _, _⟩) rfl 80 rfl _ zero80 ?_; intro w7 hb7 m7 z7; replace z7 := Lib.hid z7)
        | (with_reducible refine wpList_storesAll (o := ⟨none, .store 80 (.tmp 5) (.tmp 15), _, _, _, _⟩) rfl 80 (.tmp 5) (.tmp 15) rfl rfl wr.heap.size (wc (at', b)) rfl (.agg (wc (at', b)).toArray) rfl rfl 80 _ hb7 (by rw [wc_length, wc_length]) (wc_one _) (size80' _) ?_; intro w8 hb8 m8 z8; replace z8 := Lib.hid z8
           have mx : Mod [] wr w8 := m7.trans m8 (fun i hi h => by simp at h; omega)
           replace hO := hO.keep mx (by simp)
           replace mm := mm.then mx
           have c0 := hb8.cell 0
           simp only [wc, List.getElem?_cons_zero] at c0
           clear mx hb7 m7 m8 z7 z8 hca)
        | (with_reducible refine wpList_ranW (o := ⟨some 19, .buildSlice 56 1 _, _, _, _, _⟩) (by with_unfolding_all rfl) (.slice (some ⟨w8.heap.size, 0, none⟩) 1 1) (w8.alloc (.cells #[.int .i64 at'] 3)) (exec_lit3 (z := at') rfl rfl) ?_
           have hN : Holds (w8.alloc (.cells #[.int .i64 at'] 3)) w8.heap.size 3 [.int .i64 at'] := Holds.made w8 3 _
           have mN : Mod [] w8 (w8.alloc (.cells #[.int .i64 at'] 3)) := Mod.alloc [] w8 _
           obtain ⟨wn, hwn⟩ : ∃ v, v = w8.alloc (.cells #[.int .i64 at'] 3) := ⟨_, rfl⟩
           rw [← hwn] at hN mN ⊢
           clear hwn
           replace hO := hO.keep mN (by simp)
           replace mm := mm.then mN)
        | (with_reducible refine wpList_appendG (f := iv) (o := ⟨some 20, _, _, _, _, _⟩) _ rfl (.tmp 16) (.tmp 19) 56 rfl 3 i3 (.int .i64 0) 8 Try.underlying56 hI.out.1 hI.out.2.1 hI.out.2.2.1 hI.out.2.2.2 rfl (by decide) (fun _ => rfl) iv_one A' k c' ((D.take k).map (·.1)) rfl HK.out.2.symm hO (some ⟨w8.heap.size, 0, none⟩) 1 1 [at'] rfl rfl (Cells.of_holds hN) (by rw [HK.out.2]; simp; omega) (by rw [HK.out.2]; unfold maxLen; simp; omega) ?_; intro A2 c2' wo hO2 mO hOb))
      rw [← HK.out.1] at hO2
      have hl2 : ((D.take (k + 1)).map (·.1)).length = k + 1 := by rw [List.length_map, List.length_take, HD.out.2.1]; omega
      have hl3 : ((D.take k).map (·.1) ++ [at']).length = k + 1 := by rw [List.length_append, HK.out.2]; rfl
      exact ⟨⟨k + 1, hkn, by go_num, A2, c2', by rw [HD.out.2.1, Nat.min_eq_left (by omega)], hO2, fun a ha => by
        rcases hOb a ha with h1 | h1
        · obtain ⟨b', hb', e'⟩ := mem_blk h1
          rw [← e']; exact hA' b' hb'
        · have := mm.size; omega, mm.trans mO (fun i hi h => by obtain ⟨b', hb', e'⟩ := mem_blk h; have := hA' b' hb'; omega)⟩, by simp [intOf]; omega⟩
    · obtain rfl : M = k := by omega
      rw [List.take_of_length_le (by rw [HD.out.2.1]; exact Nat.le_refl _)] at hO
      have hcs := hO.cells
      rw [flat_iv] at hcs
      clear hkl hkn hk hO
      go_wp2_with fail
      go_ret
      exact ⟨A', c', rfl, hcs, mm⟩
end Go.Proofs.Ytpdpahkhfilmpaa
