/-
  Package wots: digest, the SHA-256 of a head and of the digests behind it. My own work.
-/
import Derived.Test.YtdolihecjomjiaaDoorWa
namespace Go.Proofs.YtdolihecjomjiaaDoor
open Go.RowKit Go.Shelf
theorem size25i (x : Idv) : (Tryd.prog.info? 25).map (·.size) = some (ic x).length := by rw [ic_length]; exact size25
set_option maxRecDepth 100000 in
set_option maxHeartbeats 4000000 in
theorem digest_c (H : Option Addr) (hd : List UInt8) (nh ch : Nat) (hnh : nh = hd.length) (hh : nh ≤ 3) (A : Option Addr) (l : List Idv) (n ca : Nat) (hn : n = l.length) (hl : n ≤ 100) (w : World) (Gl : Glob w) (RH : Reads w H hd) (RA : Cells w A (l.flatMap ic)) :
    Calls Tryd.prog 36 #[.slice H nh ch, .slice A n ca] w fun r w' => r = .returned (iv (digI (hd ++ flatI l))) ∧ Mod [] w w' := by
  obtain ⟨i0, hi, hz0, hz1, hz2⟩ := info_parts u8_zero
  obtain ⟨q, hq⟩ : ∃ q, q = nh + n * 32 := ⟨_, rfl⟩
  have hq2 : q ≤ 4000 := by omega
  have HQ : Hid (IntKind.i64.wrap ((nh : Int) + IntKind.i64.wrap ((n : Int) * 32)) = (q : Int)) := Lib.hid (by
    rw [IntWalk.i64_in ((n : Int) * 32) (by omega)]
    have : (nh : Int) + (n : Int) * 32 = (q : Int) := by omega
    rw [this]
    exact IntWalk.i64_in _ (by omega))
  have HQ1 : Hid (IntKind.i64.wrap ((n : Int) * 32) = ((n * 32 : Nat) : Int)) := Lib.hid (by rw [IntWalk.i64_in ((n : Int) * 32) (by omega)]; omega)
  obtain ⟨n32, hn32⟩ : ∃ k, k = n * 32 := ⟨_, rfl⟩
  rw [← hn32] at HQ1
  have HQ2 : Hid (IntKind.i64.wrap ((nh : Int) + (n32 : Int)) = (q : Int)) := Lib.hid (by have := HQ.out; rw [HQ1.out] at this; exact this)
  have HI := Lib.hid (And.intro hi (And.intro hz0 (And.intro hz1 hz2)))
  have HH := Lib.hid (And.intro hn (And.intro RA (And.intro hq (And.intro hq2 (And.intro RH (And.intro hnh (And.intro hh Gl)))))))
  have hnZ : (n : Int) ≤ 100 := by omega
  have hnhZ : (nh : Int) ≤ 3 := by omega
  obtain ⟨d, hdd⟩ : ∃ d, d = digI (hd ++ flatI l) := ⟨_, rfl⟩
  rw [← hdd]
  have HDD := Lib.hid hdd
  clear hn RA hi hz0 hz1 hz2 hq hl hq2 RH hnh hh Gl HQ hn32 hdd
  go_enter Tryd.func36, Tryd.ntmps36
  go_wp2_with (first
    | (with_reducible refine wpList_allocs (o := ⟨some 4, .alloc 25, _, _, _, _⟩) rfl 25 rfl _ zeroI_25 ?_; intro w1 hb1 m1 z1; replace z1 := Lib.hid z1)
    | (with_reducible refine wpList_ranW (o := ⟨some 12, .binOp _ _ _ _ _, _, _, _, _⟩) (by with_unfolding_all rfl) (.int .i64 (n32 : Int)) w1 (exec_mul rfl rfl rfl HQ1.out) ?_)
    | (with_reducible refine wpList_ranW (o := ⟨some 13, .binOp _ _ _ _ _, _, _, _, _⟩) (by with_unfolding_all rfl) (.int .i64 (q : Int)) w1 (exec_add rfl rfl rfl HQ2.out) ?_)
    | (refine wpList_make0 (o := ⟨some 14, .makeSlice _ _ _, _, _, _, _⟩) _ rfl _ _ 58 rfl 5 i0 (.int .u8 0) Tryd.underlying58 HI.out.1 HI.out.2.1 HI.out.2.2.1 1 HI.out.2.2.2 rfl (q : Int) q rfl rfl rfl (by have := HH.out.2.2.2.1; omega) (by have := HH.out.2.2.2.1; unfold maxLen; omega) ?_
       intro w2 hw2 hm2 hs2
       replace hs2 := Lib.hid hs2
       have hO := Owns.of_made (B := w1.heap.size) hw2 (Nat.le_refl _) (by have := HH.out.2.2.2.1; unfold maxLen; omega)
       obtain ⟨Y, hY⟩ : ∃ Y : Option Addr, Y = some ⟨w1.heap.size, 0, none⟩ := ⟨_, rfl⟩
       rw [← hY] at hO ⊢
       clear hY hs2 hw2)
    | (refine wpList_appends w2 (o := ⟨some 17, _, _, _, _, _⟩) rfl (.tmp 15) (.tmp 16) 58 rfl 5 i0 (.int .u8 0) 1 Tryd.underlying58 HI.out.1 HI.out.2.1 HI.out.2.2.1 HI.out.2.2.2 rfl w1.heap.size hm2.size Y 0 q [] rfl rfl hO H nh ch hd rfl HH.out.2.2.2.2.2.1 (HH.out.2.2.2.2.1.keep (m1.then hm2) (by simp)) (by have := HH.out.2.2.2.2.2.1; have := HH.out.2.2.2.2.2.2.1; simp; omega) (by have := HH.out.2.2.2.2.2.1; have := HH.out.2.2.2.2.2.2.1; simp; unfold maxLen; omega) ?_
       intro Y1 c1 w3 hO3 m3 q3
       obtain ⟨h0, hh0⟩ : ∃ k, k = ([] ++ hd).length := ⟨_, rfl⟩
       rw [← hh0]
       replace hh0 := Lib.hid hh0))
  have hlt1 : w.heap.size < w1.heap.size := by have := z1.out; omega
  have mm3 : Mod [] w w3 := far_mod (m1.then hm2) m3 (fun i hi => by obtain ⟨a, ha, rfl⟩ := mem_blk hi; exact Nat.le_trans m1.size (hO.fits.2.2 a ha).1)
  have hb3 : Holds w3 w.heap.size 25 (ic zeroI) := (hb1.keep hm2 (by simp)).keep m3 (fun hi => by obtain ⟨a, ha, h⟩ := mem_blk hi; have := hO.fits.2.2 a ha; omega)
  have hBw : w1.heap.size ≤ w3.heap.size := Nat.le_trans hm2.size m3.size
  obtain ⟨B0, hB0⟩ : ∃ b, b = w1.heap.size := ⟨_, rfl⟩
  obtain ⟨b4, hb4⟩ : ∃ b, b = w.heap.size := ⟨_, rfl⟩
  rw [← hB0] at hO3 hlt1 hBw
  rw [← hb4] at hb3 hlt1 ⊢
  have hw0 : w.heap.size ≤ b4 := by omega
  clear hO hm2 m3 q3 hb1 m1 z1 hb4
  go_loopw [20, 5] (fun i x wi => ∃ (k : Nat) (A : Option Addr) (c m : Nat), k ≤ n ∧ i = .int .i64 (k : Int) ∧ x = .slice A m c ∧ m = (hd ++ flatI (l.take k)).length ∧ Owns wi B0 5 A c (hd ++ flatI (l.take k)) ∧ Holds wi b4 25 (ic zeroI) ∧ B0 ≤ wi.heap.size ∧ Mod [] w wi) (fun i _ _ => n - (intOf i).toNat)
  case atStart => exact ⟨0, Y1, c1, h0, by omega, rfl, rfl, by rw [hh0.out]; simp [flatI], by simpa [flatI] using hO3, hb3, hBw, mm3⟩
  case round =>
    obtain ⟨k, A1, c, m, hk, rfl, rfl, hm, hOw, hbi, hBi, hmi⟩ := hrel
    by_cases hkn : k < n
    · have hkl : k < l.length := by rw [← HH.out.1]; exact hkn
      have hkZ : (k : Int) < (n : Int) := by omega
      obtain ⟨ga, oa, rfl, hce⟩ := HH.out.2.1.elem' ic 32 (by omega) ic_length k hkl
      have hsn := flatI_snoc l k hkl
      have hml : m ≤ 4000 := by rw [hm, List.length_append, flatI_length, List.length_take]; have := HH.out.2.2.2.2.2.1; have := HH.out.2.2.2.2.2.2.1; omega
      obtain ⟨p, hp⟩ : ∃ p, p = l[k] := ⟨_, rfl⟩
      rw [← hp] at hce hsn
      have hci := hce.keep hmi (by simp)
      have HP := Lib.hid (And.intro hsn (And.intro hm (And.intro hOw (And.intro hmi (And.intro hml (And.intro hbi hBi))))))
      clear hp hce hsn hm hOw hml hO3 mm3 hb3 hbi hBi hBw
      go_wp2_with (first
        | (with_reducible refine wpList_loads (o := ⟨some 23, .load 25 (.tmp 22), _, _, _, _⟩) rfl 25 (.tmp 22) rfl ga (oa + k * 32) _ rfl hci _ Tryd.underlying25 rfl (size25i p) (iv p) rfl ?_)
        | (with_reducible refine wpList_allocs (o := ⟨some 7, .alloc 25, _, _, _, _⟩) rfl 25 rfl _ zeroI_25 ?_; intro w2 hb2 m2 z2; replace z2 := Lib.hid z2)
        | (with_reducible refine wpList_storesAll (o := ⟨none, .store 25 (.tmp 7) (.tmp 23), _, _, _, _⟩) rfl 25 (.tmp 7) (.tmp 23) rfl rfl wr.heap.size (ic p) rfl (iv p) rfl rfl 25 _ hb2 (by rw [ic_length, ic_length]) (ic_one p) (size25i p) ?_
           intro w3 hb3 m3 z3
           have mx : Mod [] wr w3 := m2.trans m3 (by intro i hi h; simp at h; omega)
           obtain ⟨bx, hbx⟩ : ∃ b, b = wr.heap.size := ⟨_, rfl⟩
           rw [← hbx] at hb3
           rw [← hbx]
           have hR : Reads w3 (some ⟨bx, 0, none⟩) p.1 := Reads.of_holds hb3
           have O3 := HP.out.2.2.1.keep mx (by simp)
           have hdl : p.1.length = 32 := p.2
           replace z3 := Lib.hid z3
           replace hbx := Lib.hid hbx
           clear hb2 m2 m3)
        | (refine wpList_appends w3 (o := ⟨some 26, _, _, _, _, _⟩) rfl (.tmp 24) (.tmp 25) 58 rfl 5 i0 (.int .u8 0) 1 Tryd.underlying58 HI.out.1 HI.out.2.1 HI.out.2.2.1 HI.out.2.2.2 rfl B0 (Nat.le_trans HP.out.2.2.2.2.2.2 mx.size) A1 m c (hd ++ flatI (l.take k)) rfl HP.out.2.1 O3 (some ⟨bx, 0, none⟩) 32 32 p.1 rfl hdl.symm hR (by rw [← HP.out.2.1, hdl]; have := HP.out.2.2.2.2.1; omega) (by rw [← HP.out.2.1, hdl]; have := HP.out.2.2.2.2.1; unfold maxLen; omega) ?_
           intro A' c' w4 hO4 m4 q4))
      have hA4 : ∀ i ∈ blk A1, B0 ≤ i := fun i hi => by obtain ⟨a, ha, rfl⟩ := mem_blk hi; exact (O3.fits.2.2 a ha).1
      refine ⟨⟨k + 1, A', c', _, by omega, by go_num, rfl, by rw [HP.out.1]; simp only [List.length_append, p.2], by rw [HP.out.1, ← List.append_assoc]; exact hO4, (HP.out.2.2.2.2.2.1.keep mx (by simp)).keep m4 (fun hi => by have := hA4 _ hi; omega), Nat.le_trans HP.out.2.2.2.2.2.2 (Nat.le_trans mx.size m4.size), far_mod (HP.out.2.2.2.1.then mx) m4 (fun i hi => by have := hA4 _ hi; omega)⟩, by simp [intOf]; omega⟩
    · obtain rfl : n = k := by omega
      have hall : l.take n = l := List.take_of_length_le (by rw [← HH.out.1]; omega)
      rw [hall] at hm hOw
      have hml : m ≤ 4000 := by rw [hm, List.length_append, flatI_length, ← HH.out.1]; have := HH.out.2.2.2.2.2.1; have := HH.out.2.2.2.2.2.2.1; omega
      have X := sumI A1 (hd ++ flatI l) m c hm (by rw [hm]; exact hOw.fits.1) (by omega) wr (HH.out.2.2.2.2.2.2.2.then hmi) hOw.reads
      have HP := Lib.hid (And.intro hmi hbi)
      rw [← HDD.out] at X
      clear hm hall hO3 mm3 hb3 hmi hbi hBi hOw hml hBw
      go_wp2_with (first
        | (go_at_call 32; refine X.mono ?_; rintro e w5 ⟨rfl, m5⟩)
        | (with_reducible refine wpList_storesAll (o := ⟨none, .store 25 (.tmp 4) (.tmp 29), _, _, _, _⟩) rfl 25 (.tmp 4) (.tmp 29) rfl rfl b4 (ic d) rfl (iv d) rfl rfl 25 _ (HP.out.2.keep m5 (by simp)) (by rw [ic_length, ic_length]) (ic_one d) (size25i d) ?_
           intro w6 hb6 m6 z6))
      refine bodyPost_ret (results_cell_row rfl _ _ b4 25 _ (0, 0) _ rfl hb6 Tryd.underlying25 rfl (by rw [List.size_toArray]; exact size25i d)) rfl ?_
      exact ⟨rfl, far_mod (HP.out.1.then m5) m6 (fun i hi => by simp at hi; omega)⟩
end Go.Proofs.YtdolihecjomjiaaDoor
