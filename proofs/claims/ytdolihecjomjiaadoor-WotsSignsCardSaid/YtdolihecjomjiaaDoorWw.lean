/-
  The statements' own: walk, ends. My own work.
-/
import Derived.Test.YtdolihecjomjiaaDoorWo
namespace Go.Proofs.YtdolihecjomjiaaDoor
open Go.RowKit Go.Shelf
set_option maxRecDepth 100000 in
set_option maxHeartbeats 4000000 in
theorem lwalk_c (x : Idv) (c f t N : Nat) (hN : f + N = t) (hc : c < 256) (ht : t ≤ 15) (w : World) (Gl : Glob w) :
    Calls Tryd.prog 18 #[iv x, .int .i64 (c : Int), .int .i64 (f : Int), .int .i64 (t : Int)] w fun r w' => r = .returned (iv (walkI c f N x)) ∧ Mod [] w w' := by
  obtain ⟨d, hd⟩ : ∃ d, d = walkI c f N x := ⟨_, rfl⟩
  rw [← hd]
  have htZ : (t : Int) ≤ 15 := by omega
  have HH := Lib.hid (And.intro hd (And.intro Gl (And.intro hN (And.intro hc ht))))
  clear hd Gl hN hc ht
  go_enter Tryd.func18, Tryd.ntmps18
  go_wp2_with (first
    | (with_reducible refine wpList_boxes (o := ⟨some 4, .box 25 (.tmp 0), _, _, _, _⟩) rfl 25 (.tmp 0) rfl _ rfl (ic x) rfl ?_; intro w1 hb1 m1 z1; replace z1 := Lib.hid z1)
    | (with_reducible refine wpList_allocs (o := ⟨some 8, .alloc 25, _, _, _, _⟩) rfl 25 rfl _ zeroI_25 ?_; intro w2 hb2 m2 z2
       have y1 := z1.out
       obtain ⟨b4, hq4⟩ : ∃ q, q = w.heap.size := ⟨_, rfl⟩
       obtain ⟨b8, hq8⟩ : ∃ q, q = w1.heap.size := ⟨_, rfl⟩
       have k4 : Holds w2 b4 25 (ic x) := by rw [hq4]; exact hb1.keep m2 (by simp)
       have k8 : Holds w2 b8 25 (ic zeroI) := by rw [hq8]; exact hb2
       have o1 : b4 < b8 := by omega
       have o5 : w.heap.size ≤ b4 := by omega
       have HK := Lib.hid (And.intro k4 (And.intro k8 (m1.then m2)))
       rw [← hq4, ← hq8]
       clear hb1 m1 z1 hb2 m2 z2 y1 hq4 hq8 k4 k8))
  go_loopw [9] (fun i wi => ∃ j : Nat, j ≤ N ∧ i = .int .i64 ((f + j : Nat) : Int) ∧ Holds wi b4 25 (ic (walkI c f j x)) ∧ Holds wi b8 25 (ic zeroI) ∧ Mod [] w wi) (fun i _ => ((t : Int) - intOf i).toNat)
  case atStart => exact ⟨0, Nat.zero_le _, by simp, HK.out.1, HK.out.2.1, HK.out.2.2⟩
  case round =>
    obtain ⟨j, hj, rfl, h4, h8, hmi⟩ := hrel
    obtain ⟨q, hq⟩ : ∃ q, q = f + j := ⟨_, rfl⟩
    rw [← hq]
    by_cases hlt : q < t
    · have hqZ : (q : Int) < (t : Int) := by omega
      obtain ⟨z0, hz0⟩ : ∃ z, z = walkI c f j x := ⟨_, rfl⟩
      obtain ⟨z, hz⟩ : ∃ z, z = walkI c f (j + 1) x := ⟨_, rfl⟩
      have X := lstep_c z0 c q HH.out.2.2.2.1 (by have := HH.out.2.2.2.2; omega) wr (HH.out.2.1.then hmi)
      rw [show stepI c q z0 = z by rw [hz, hz0, hq]; rfl] at X
      rw [← hz0] at h4
      have HQ := Lib.hid (And.intro h4 (And.intro h8 (And.intro hmi (And.intro hz (And.intro hq (show j < N by have := HH.out.2.2.1; omega))))))
      clear h4 h8 hmi hz hz0 hq hj HK
      go_wp2_with (first
        | (with_reducible refine wpList_loads (o := ⟨some 16, .load 25 (.tmp 4), _, _, _, _⟩) rfl 25 (.tmp 4) rfl b4 0 _ rfl (Cells.of_holds HQ.out.1) _ Tryd.underlying25 rfl (size25i z0) (iv z0) rfl ?_)
        | (go_at_call 17; refine X.mono ?_; rintro e w3 ⟨rfl, m3⟩; clear X)
        | (with_reducible refine wpList_storesAll (o := ⟨none, .store 25 (.tmp 4) (.tmp 19), _, _, _, _⟩) rfl 25 (.tmp 4) (.tmp 19) rfl rfl b4 (ic z) rfl (iv z) rfl rfl 25 _ (HQ.out.1.keep m3 (by simp)) (by rw [ic_length, ic_length]) (ic_one z) (size25i z) ?_
           intro w4 hb4 m4 z4
           replace z4 := Lib.hid z4))
      refine ⟨⟨j + 1, by have := HQ.out.2.2.2.2.2; omega, by have := HQ.out.2.2.2.2.1; go_num, by rw [← HQ.out.2.2.2.1]; exact hb4, (HQ.out.2.1.keep m3 (by simp)).keep m4 (by simp; omega), far_mod (HQ.out.2.2.1.then m3) m4 (by simp; omega)⟩, by simp [intOf]; omega⟩
    · have hqZ : ¬ (q : Int) < (t : Int) := by omega
      obtain rfl : j = N := by have := HH.out.2.2.1; omega
      rw [← HH.out.1] at h4
      have HQ := Lib.hid (And.intro h4 (And.intro h8 hmi))
      clear h4 h8 hmi hq HK
      go_wp2_with (first
        | (with_reducible refine wpList_loads (o := ⟨some 20, .load 25 (.tmp 4), _, _, _, _⟩) rfl 25 (.tmp 4) rfl b4 0 _ rfl (Cells.of_holds HQ.out.1) _ Tryd.underlying25 rfl (size25i d) (iv d) rfl ?_)
        | (with_reducible refine wpList_storesAll (o := ⟨none, .store 25 (.tmp 8) (.tmp 20), _, _, _, _⟩) rfl 25 (.tmp 8) (.tmp 20) rfl rfl b8 (ic d) rfl (iv d) rfl rfl 25 _ HQ.out.2.1 (by rw [ic_length, ic_length]) (ic_one d) (size25i d) ?_
           intro w4 hb4 m4 z4
           replace z4 := Lib.hid z4))
      refine bodyPost_ret (results_cell_row rfl _ _ b8 25 _ (0, 0) _ rfl hb4 Tryd.underlying25 rfl (by rw [List.size_toArray]; exact size25i d)) rfl ?_
      exact ⟨rfl, far_mod HQ.out.2.2 m4 (by simp; omega)⟩
set_option maxRecDepth 100000 in
set_option maxHeartbeats 4000000 in
theorem lends_c (A : Option Addr) (l : List Idv) (n ca : Nat) (hn : n = l.length) (hl : n ≤ 100) (w : World) (Gl : Glob w) (RA : Cells w A (l.flatMap ic)) :
    Calls Tryd.prog 34 #[.slice A n ca] w fun r w' => r = .returned (iv (endsI l)) ∧ Mod [] w w' := by
  obtain ⟨i0, hi, hz0, hz1, hz2⟩ := info_parts u8_zero
  have HI := Lib.hid (And.intro hi (And.intro hz0 (And.intro hz1 hz2)))
  obtain ⟨d, hdd⟩ : ∃ d, d = endsI l := ⟨_, rfl⟩
  rw [← hdd]
  have HDD : Hid (d = digI ([75] ++ flatI l)) := Lib.hid (by rw [hdd]; rfl)
  have HH := Lib.hid (And.intro hn (And.intro RA (And.intro hl Gl)))
  have hnZ : (n : Int) ≤ 100 := by omega
  clear hn RA hi hz0 hz1 hz2 hl Gl hdd
  go_enter Tryd.func34, Tryd.ntmps34
  go_wp2_with (first
    | (with_reducible refine wpList_allocs (o := ⟨some 2, .alloc 25, _, _, _, _⟩) rfl 25 rfl _ zeroI_25 ?_; intro w1 hb1 m1 z1; replace z1 := Lib.hid z1)
    | (with_reducible refine wpList_made (o := ⟨some 6, .buildSlice 58 1 _, _, _, _, _⟩) (by with_unfolding_all rfl) _ 5 ([75].map oct) (exec_head1 rfl) ?_
       intro w2 hb2 m2 z2
       have y1 := z1.out
       have hO := Owns.of_holds (B := w1.heap.size) hb2 (Nat.le_refl _) (by simp [maxLen])
       obtain ⟨B0, hB0⟩ : ∃ b, b = w1.heap.size := ⟨_, rfl⟩
       obtain ⟨b4, hb4⟩ : ∃ b, b = w.heap.size := ⟨_, rfl⟩
       have k4 : Holds w2 b4 25 (ic zeroI) := by rw [hb4]; exact hb1.keep m2 (by simp)
       have o1 : b4 < B0 := by omega
       have o2 : B0 < w2.heap.size := by omega
       have o5 : w.heap.size ≤ b4 := by omega
       have mm : Mod [] w w2 := m1.then m2
       rw [← hB0] at hO ⊢
       rw [← hb4]
       obtain ⟨Y, hY⟩ : ∃ Y : Option Addr, Y = some ⟨B0, 0, none⟩ := ⟨_, rfl⟩
       rw [← hY] at hO ⊢
       have HK := Lib.hid (And.intro hO (And.intro k4 (And.intro (Nat.le_of_lt o2) mm)))
       clear hb1 m1 z1 hb2 m2 z2 y1 hB0 hb4 k4 mm hO hY o2))
  go_loopw [9, 3] (fun i x wi => ∃ (k : Nat) (A1 : Option Addr) (c m : Nat), k ≤ n ∧ i = .int .i64 (k : Int) ∧ x = .slice A1 m c ∧ m = ([75] ++ flatI (l.take k)).length ∧ Owns wi B0 5 A1 c ([75] ++ flatI (l.take k)) ∧ Holds wi b4 25 (ic zeroI) ∧ B0 ≤ wi.heap.size ∧ Mod [] w wi) (fun i _ _ => n - (intOf i).toNat)
  case atStart => exact ⟨0, Y, 1, 1, by omega, rfl, rfl, rfl, HK.out.1, HK.out.2.1, HK.out.2.2.1, HK.out.2.2.2⟩
  case round =>
    obtain ⟨k, A1, c, m, hk, rfl, rfl, hm, hOw, hbi, hBi, hmi⟩ := hrel
    by_cases hkn : k < n
    · have hkl : k < l.length := by rw [← HH.out.1]; exact hkn
      have hkZ : (k : Int) < (n : Int) := by omega
      obtain ⟨ga, oa, rfl, hce⟩ := HH.out.2.1.elem' ic 32 (by omega) ic_length k hkl
      have hsn := flatI_snoc l k hkl
      have hml : m ≤ 4000 := by rw [hm, List.length_append, flatI_length, List.length_take]; have := HH.out.2.2.1; simp; omega
      obtain ⟨p, hp⟩ : ∃ p, p = l[k] := ⟨_, rfl⟩
      rw [← hp] at hce hsn
      have hci := hce.keep hmi (by simp)
      have HP := Lib.hid (And.intro hsn (And.intro hm (And.intro hOw (And.intro hmi (And.intro hml (And.intro hbi hBi))))))
      clear hp hce hsn hm hOw hml hbi hBi HK
      go_wp2_with (first
        | (with_reducible refine wpList_loads (o := ⟨some 12, .load 25 (.tmp 11), _, _, _, _⟩) rfl 25 (.tmp 11) rfl ga (oa + k * 32) _ rfl hci _ Tryd.underlying25 rfl (size25i p) (iv p) rfl ?_)
        | (with_reducible refine wpList_allocs (o := ⟨some 5, .alloc 25, _, _, _, _⟩) rfl 25 rfl _ zeroI_25 ?_; intro w2 hb2 m2 z2; replace z2 := Lib.hid z2)
        | (with_reducible refine wpList_storesAll (o := ⟨none, .store 25 (.tmp 5) (.tmp 12), _, _, _, _⟩) rfl 25 (.tmp 5) (.tmp 12) rfl rfl wr.heap.size (ic p) rfl (iv p) rfl rfl 25 _ hb2 (by rw [ic_length, ic_length]) (ic_one p) (size25i p) ?_
           intro w3 hb3 m3 z3
           have mx : Mod [] wr w3 := m2.trans m3 (by intro i hi h; simp at h; omega)
           obtain ⟨bx, hbx⟩ : ∃ b, b = wr.heap.size := ⟨_, rfl⟩
           rw [← hbx] at hb3
           rw [← hbx]
           have hR : Reads w3 (some ⟨bx, 0, none⟩) p.1 := Reads.of_holds hb3
           have O3 := HP.out.2.2.1.keep mx (by simp)
           have hdl : p.1.length = 32 := p.2
           replace z3 := Lib.hid z3
           replace hbx := Lib.hid hbx
           clear hb2 m2 m3)
        | (refine wpList_appends w3 (o := ⟨some 15, _, _, _, _, _⟩) rfl (.tmp 13) (.tmp 14) 58 rfl 5 i0 (.int .u8 0) 1 Tryd.underlying58 HI.out.1 HI.out.2.1 HI.out.2.2.1 HI.out.2.2.2 rfl B0 (Nat.le_trans HP.out.2.2.2.2.2.2 mx.size) A1 m c ([75] ++ flatI (l.take k)) rfl HP.out.2.1 O3 (some ⟨bx, 0, none⟩) 32 32 p.1 rfl hdl.symm hR (by rw [← HP.out.2.1, hdl]; have := HP.out.2.2.2.2.1; omega) (by rw [← HP.out.2.1, hdl]; have := HP.out.2.2.2.2.1; unfold maxLen; omega) ?_
           intro A' c' w4 hO4 m4 q4))
      have hA4 : ∀ i ∈ blk A1, B0 ≤ i := fun i hi => by obtain ⟨a, ha, rfl⟩ := mem_blk hi; exact (O3.fits.2.2 a ha).1
      refine ⟨⟨k + 1, A', c', _, by omega, by go_num, rfl, by rw [HP.out.1]; simp only [List.length_append, p.2, List.length_cons, List.length_nil]; omega, by rw [HP.out.1, ← List.append_assoc]; exact hO4, (HP.out.2.2.2.2.2.1.keep mx (by simp)).keep m4 (fun hi => by have := hA4 _ hi; omega), Nat.le_trans HP.out.2.2.2.2.2.2 (Nat.le_trans mx.size m4.size), far_mod (HP.out.2.2.2.1.then mx) m4 (fun i hi => by have := hA4 _ hi; omega)⟩, by simp [intOf]; omega⟩
    · obtain rfl : n = k := by omega
      have hall : l.take n = l := List.take_of_length_le (by rw [← HH.out.1]; omega)
      rw [hall] at hm hOw
      have hml : m ≤ 4000 := by rw [hm, List.length_append, flatI_length, ← HH.out.1]; have := HH.out.2.2.1; simp; omega
      have X := sumI A1 ([75] ++ flatI l) m c hm (by rw [hm]; exact hOw.fits.1) (by omega) wr (HH.out.2.2.2.then hmi) hOw.reads
      rw [← HDD.out] at X
      have HP := Lib.hid (And.intro hmi hbi)
      clear hm hall hmi hbi hBi hOw hml HK
      go_wp2_with (first
        | (go_at_call 32; refine X.mono ?_; rintro e w5 ⟨rfl, m5⟩)
        | (with_reducible refine wpList_storesAll (o := ⟨none, .store 25 (.tmp 2) (.tmp 18), _, _, _, _⟩) rfl 25 (.tmp 2) (.tmp 18) rfl rfl b4 (ic d) rfl (iv d) rfl rfl 25 _ (HP.out.2.keep m5 (by simp)) (by rw [ic_length, ic_length]) (ic_one d) (size25i d) ?_
           intro w6 hb6 m6 z6))
      refine bodyPost_ret (results_cell_row rfl _ _ b4 25 _ (0, 0) _ rfl hb6 Tryd.underlying25 rfl (by rw [List.size_toArray]; exact size25i d)) rfl ?_
      exact ⟨rfl, far_mod (HP.out.1.then m5) m6 (fun i hi => by simp at hi; omega)⟩
end Go.Proofs.YtdolihecjomjiaaDoor
