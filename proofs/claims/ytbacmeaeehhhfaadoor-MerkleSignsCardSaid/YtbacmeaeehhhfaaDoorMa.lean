/-
  Package merkle: laid, digest; a leaf's seed, a join. My own work.
-/
import Derived.Test.YtbacmeaeehhhfaaDoorB6
namespace Go.Proofs.YtbacmeaeehhhfaaDoor
open Go.RowKit Go.Shelf
set_option linter.unusedVariables false
/-- The blocks of a world from one on. -/
def abv (b : Nat) (w : World) : List Nat := (List.range w.heap.size).filter fun i => decide (b ≤ i)
theorem mem_abv {b i : Nat} {w : World} : i ∈ abv b w ↔ i < w.heap.size ∧ b ≤ i := by simp [abv]
/-- Only blocks from one on may have turned. -/
def FromB (b : Nat) (w v : World) : Prop := Mod (abv b w) w v
theorem FromB.refl (b : Nat) (w : World) : FromB b w w := Mod.refl _ _
theorem FromB.step {b : Nat} {w v v' : World} {ms : List Nat} (h : FromB b w v) (m : Mod ms v v') (hm : ∀ i ∈ ms, b ≤ i) : FromB b w v' :=
  Mod.trans h m fun i hi hmi => mem_abv.2 ⟨hi, hm i hmi⟩
theorem FromB.far {b : Nat} {w0 w v : World} (m : Mod [] w0 w) (h : FromB b w v) (hb : w0.heap.size ≤ b) : Mod [] w0 v :=
  Mod.trans m h fun i hi hm => by have := (mem_abv.1 hm).2; omega
theorem FromB.size {b : Nat} {w v : World} (h : FromB b w v) : w.heap.size ≤ v.heap.size := Mod.size h
theorem FromB.holds {b g : Nat} {w v : World} {t : TypeId} {cs : List Value} (h : FromB b w v) (hh : Holds w g t cs) (hg : g < b) : Holds v g t cs := hh.keep h fun hi => by have := (mem_abv.1 hi).2; omega
theorem FromB.cells {b : Nat} {w v : World} {A : Option Addr} {cs : List Value} (h : FromB b w v) (hh : Cells w A cs) (hg : ∀ a, A = some a → a.block < b) : Cells v A cs := hh.keep h fun a ha hi => by have := (mem_abv.1 hi).2; have := hg a ha; omega
set_option maxRecDepth 100000 in
set_option maxHeartbeats 4000000 in
theorem laid_c (b : Nat) (A0 : Option Addr) (n0 c0 : Nat) (bb : List UInt8) (hn0 : n0 = bb.length) (L : Option Addr) (l : List Idv) (n ca : Nat) (hn : n = l.length) (hl : n ≤ 100) (hb0 : n0 ≤ 4000) (w : World) (hb : b ≤ w.heap.size) (O : Owns w b 5 A0 c0 bb) (RA : Cells w L (l.flatMap ic)) (hL : ∀ a, L = some a → a.block < b) :
    Calls Tryd.prog 50 #[.slice A0 n0 c0, .slice L n ca] w fun r w' => ∃ A' c' n', r = .returned (.slice A' n' c') ∧ n' = (bb ++ flatI l).length ∧ Owns w' b 5 A' c' (bb ++ flatI l) ∧ FromB b w w' := by
  obtain ⟨i0, hi, hz0, hz1, hz2⟩ := info_parts u8_zero
  have HI := Lib.hid (And.intro hi (And.intro hz0 (And.intro hz1 hz2)))
  have HH := Lib.hid (And.intro hn (And.intro RA (And.intro hL (And.intro hn0 (And.intro hb O)))))
  have hnZ : (n : Int) ≤ 100 := by omega
  clear hn RA hi hz0 hz1 hz2 hn0 hL hb O
  go_enter Tryd.func50, Tryd.ntmps50
  go_wp2_with fail
  go_loopw [0, 9] (fun x i wi => ∃ (k : Nat) (A : Option Addr) (c m : Nat), k ≤ n ∧ i = .int .i64 (k : Int) ∧ x = .slice A m c ∧ m = (bb ++ flatI (l.take k)).length ∧ Owns wi b 5 A c (bb ++ flatI (l.take k)) ∧ FromB b w wi) (fun _ i _ => n - (intOf i).toNat)
  case atStart => exact ⟨0, A0, c0, n0, by omega, rfl, rfl, by rw [HH.out.2.2.2.1]; simp [flatI], by simpa [flatI] using HH.out.2.2.2.2.2, FromB.refl _ _⟩
  case round =>
    obtain ⟨k, A1, c, m, hk, rfl, rfl, hm, hOw, hmi⟩ := hrel
    by_cases hkn : k < n
    · have hkl : k < l.length := by rw [← HH.out.1]; exact hkn
      have hkZ : (k : Int) < (n : Int) := by omega
      have RAi := hmi.cells HH.out.2.1 HH.out.2.2.1
      obtain ⟨ga, oa, hLe, hci⟩ := RAi.elem' ic 32 (by omega) ic_length k hkl
      have hgb : ga < b := HH.out.2.2.1 _ hLe
      subst hLe
      have hsn := flatI_snoc l k hkl
      have hml : m ≤ 8000 := by rw [hm, List.length_append, flatI_length, List.length_take]; have := HH.out.2.2.2.1; omega
      have hBi : b ≤ wr.heap.size := Nat.le_trans HH.out.2.2.2.2.1 hmi.size
      obtain ⟨p, hp⟩ : ∃ p, p = l[k] := ⟨_, rfl⟩
      rw [← hp] at hci hsn
      have HP := Lib.hid (And.intro hsn (And.intro hm (And.intro hOw (And.intro hmi (And.intro hml hBi)))))
      clear hp hsn hm hOw hml hmi hBi RAi
      go_wp2_with (first
        | (with_reducible refine wpList_loads (o := ⟨some 12, .load 23 (.tmp 11), _, _, _, _⟩) rfl 23 (.tmp 11) rfl ga (oa + k * 32) _ rfl hci _ Tryd.underlying23 rfl (size25i p) (iv p) rfl ?_)
        | (with_reducible refine wpList_allocs (o := ⟨some 6, .alloc 23, _, _, _, _⟩) rfl 23 rfl _ zeroI_25 ?_; intro w2 hb2 m2 z2; replace z2 := Lib.hid z2)
        | (with_reducible refine wpList_storesAll (o := ⟨none, .store 23 (.tmp 6) (.tmp 12), _, _, _, _⟩) rfl 23 (.tmp 6) (.tmp 12) rfl rfl wr.heap.size (ic p) rfl (iv p) rfl rfl 23 _ hb2 (by rw [ic_length, ic_length]) (ic_one p) (size25i p) ?_
           intro w3 hb3 m3 z3
           have mx : Mod [] wr w3 := m2.trans m3 (by intro i hi h; simp at h; omega)
           obtain ⟨bx, hbx⟩ : ∃ b, b = wr.heap.size := ⟨_, rfl⟩
           rw [← hbx] at hb3
           rw [← hbx]
           have hR : Reads w3 (some ⟨bx, 0, none⟩) p.1 := Reads.of_holds hb3
           have O3 := HP.out.2.2.1.keep mx (by simp)
           have hdl : p.1.length = 32 := p.2
           replace z3 := Lib.hid z3
           replace hbx := Lib.hid hbx
           clear hb2 m2 m3)
        | (at_builtin; refine wpList_appends w3 (o := ⟨some 15, _, _, _, _, _⟩) rfl (.tmp 13) (.tmp 14) 64 rfl 5 i0 (.int .u8 0) 1 Tryd.underlying64 HI.out.1 HI.out.2.1 HI.out.2.2.1 HI.out.2.2.2 rfl b (Nat.le_trans HP.out.2.2.2.2.2 mx.size) A1 m c (bb ++ flatI (l.take k)) rfl HP.out.2.1 O3 (some ⟨bx, 0, none⟩) 32 32 p.1 rfl hdl.symm hR (by rw [← HP.out.2.1, hdl]; have := HP.out.2.2.2.2.1; omega) (by rw [← HP.out.2.1, hdl]; have := HP.out.2.2.2.2.1; unfold maxLen; omega) ?_
           intro A' c' w4 hO4 m4 q4))
      have hA4 : ∀ i ∈ blk A1, b ≤ i := fun i hi => by obtain ⟨a, ha, rfl⟩ := mem_blk hi; exact (O3.fits.2.2 a ha).1
      refine ⟨⟨k + 1, A', c', _, by omega, by go_num, rfl, by rw [HP.out.1]; simp only [List.length_append, p.2], by rw [HP.out.1, ← List.append_assoc]; exact hO4, (HP.out.2.2.2.1.step mx (by simp)).step m4 hA4⟩, by simp [intOf]; omega⟩
    · obtain rfl : n = k := by omega
      have hall : l.take n = l := List.take_of_length_le (by rw [← HH.out.1]; omega)
      rw [hall] at hm hOw
      go_wp2_with fail
      go_ret
      exact ⟨_, _, _, rfl, hm, hOw, hmi⟩
set_option maxRecDepth 100000 in
set_option maxHeartbeats 4000000 in
/-- The SHA-256 of a head and of the digests behind it. -/
theorem mdigest_c (H : Option Addr) (hd : List UInt8) (nh ch : Nat) (hnh : nh = hd.length) (hh : nh ≤ 3) (A : Option Addr) (l : List Idv) (n ca : Nat) (hn : n = l.length) (hl : n ≤ 100) (w : World) (Gl : Glob w) (RH : Reads w H hd) (RA : Cells w A (l.flatMap ic)) (hA : ∀ a, A = some a → a.block < w.heap.size) :
    Calls Tryd.prog 43 #[.slice H nh ch, .slice A n ca] w fun r w' => r = .returned (iv (digI (hd ++ flatI l))) ∧ Mod [] w w' := by
  obtain ⟨i0, hi, hz0, hz1, hz2⟩ := info_parts u8_zero
  obtain ⟨q, hq⟩ : ∃ q, q = nh + n * 32 := ⟨_, rfl⟩
  have hq2 : q ≤ 4000 := by omega
  obtain ⟨n32, hn32⟩ : ∃ k, k = n * 32 := ⟨_, rfl⟩
  have HQ1 : Hid (IntKind.i64.wrap ((n : Int) * 32) = (n32 : Int)) := Lib.hid (by rw [IntWalk.i64_in ((n : Int) * 32) (by omega)]; omega)
  have HQ2 : Hid (IntKind.i64.wrap ((nh : Int) + (n32 : Int)) = (q : Int)) := Lib.hid (by
    have : (nh : Int) + (n32 : Int) = (q : Int) := by omega
    rw [this]
    exact IntWalk.i64_in _ (by omega))
  have HI := Lib.hid (And.intro hi (And.intro hz0 (And.intro hz1 hz2)))
  have LC := fun (b : Nat) (A0 : Option Addr) n0 c0 (hn0 : n0 = hd.length) v (mv : Mod [] w v) (hb : b ≤ v.heap.size) (O : Owns v b 5 A0 c0 hd) (hb2 : w.heap.size ≤ b) => laid_c b A0 n0 c0 hd hn0 A l n ca hn hl (by omega) v hb O (RA.keep mv (by simp)) (fun a ha => Nat.lt_of_lt_of_le (hA a ha) hb2)
  have SM := fun (A : Option Addr) n cap (hn : n = (hd ++ flatI l).length) (hcap : n ≤ cap) v (mv : Mod [] w v) (R : Reads v A (hd ++ flatI l)) => sumI A (hd ++ flatI l) n cap hn hcap (by rw [hn, List.length_append, flatI_length]; omega) v (Gl.then mv) R
  have HH := Lib.hid (And.intro hq2 (And.intro RH (And.intro hnh hh)))
  have hnZ : (n : Int) ≤ 100 := by omega
  have hnhZ : (nh : Int) ≤ 3 := by omega
  obtain ⟨d, hdd⟩ : ∃ d, d = digI (hd ++ flatI l) := ⟨_, rfl⟩
  rw [← hdd] at SM ⊢
  clear hn RA hi hz0 hz1 hz2 hq hl hq2 RH hnh hh Gl hn32 hdd hA
  go_enter Tryd.func43, Tryd.ntmps43
  go_wp2_with (first
    | (with_reducible refine wpList_allocs (o := ⟨some 4, .alloc 23, _, _, _, _⟩) rfl 23 rfl _ zeroI_25 ?_; intro w1 hb1 m1 z1; replace z1 := Lib.hid z1)
    | (with_reducible refine wpList_ranW (o := ⟨some 10, .binOp _ _ _ _ _, _, _, _, _⟩) (by with_unfolding_all rfl) (.int .i64 (n32 : Int)) w1 (exec_mul rfl rfl rfl HQ1.out) ?_)
    | (with_reducible refine wpList_ranW (o := ⟨some 11, .binOp _ _ _ _ _, _, _, _, _⟩) (by with_unfolding_all rfl) (.int .i64 (q : Int)) w1 (exec_add rfl rfl rfl HQ2.out) ?_)
    | (at_make; refine wpList_make0 (o := ⟨some 12, .makeSlice _ _ _, _, _, _, _⟩) _ rfl _ _ 64 rfl 5 i0 (.int .u8 0) Tryd.underlying64 HI.out.1 HI.out.2.1 HI.out.2.2.1 1 HI.out.2.2.2 rfl (q : Int) q rfl rfl rfl (by have := HH.out.1; omega) (by have := HH.out.1; unfold maxLen; omega) ?_
       intro w2 hw2 hm2 hs2
       replace hs2 := Lib.hid hs2
       have hO := Owns.of_made (B := w1.heap.size) hw2 (Nat.le_refl _) (by have := HH.out.1; unfold maxLen; omega)
       obtain ⟨Y, hY⟩ : ∃ Y : Option Addr, Y = some ⟨w1.heap.size, 0, none⟩ := ⟨_, rfl⟩
       rw [← hY] at hO ⊢
       clear hY hs2 hw2)
    | (at_builtin; refine wpList_appends w2 (o := ⟨some 15, _, _, _, _, _⟩) rfl (.tmp 13) (.tmp 14) 64 rfl 5 i0 (.int .u8 0) 1 Tryd.underlying64 HI.out.1 HI.out.2.1 HI.out.2.2.1 HI.out.2.2.2 rfl w1.heap.size hm2.size Y 0 q [] rfl rfl hO H nh ch hd rfl HH.out.2.2.1 (HH.out.2.1.keep (m1.then hm2) (by simp)) (by have := HH.out.2.2; simp; omega) (by have := HH.out.2.2; simp; unfold maxLen; omega) ?_
       intro Y1 c1 w3 hO3 m3 q3
       obtain ⟨h0, hh0⟩ : ∃ k, k = ([] ++ hd).length := ⟨_, rfl⟩
       rw [← hh0]
       replace hh0 := Lib.hid hh0
       have m33 : Mod [] w w3 := far_mod (m1.then hm2) m3 (fun i hi => by obtain ⟨a, ha, rfl⟩ := mem_blk hi; exact Nat.le_trans m1.size (hO.fits.2.2 a ha).1)
       have hb3 : Holds w3 w.heap.size 23 (ic zeroI) := (hb1.keep hm2 (by simp)).keep m3 (fun hi => by obtain ⟨a, ha, h⟩ := mem_blk hi; have := hO.fits.2.2 a ha; have := z1.out; omega)
       have hO3' : Owns w3 w1.heap.size 5 Y1 c1 hd := by simpa using hO3
       have hle3 : w1.heap.size ≤ w3.heap.size := Nat.le_trans hm2.size m3.size
       have hle1 := m1.size
       clear hO hm2 m3 q3 hb1 m1 hO3)
    | (go_at_call 50; refine (LC w1.heap.size Y1 h0 c1 (by rw [hh0.out]; simp) w3 m33 hle3 hO3' hle1).mono ?_
       rintro e w4 ⟨A4, c4, n4, rfl, hn4, hO4, F4⟩
       replace hn4 := Lib.hid hn4
       have m44 := F4.far m33 hle1
       have hb4 := F4.holds hb3 (by have := z1.out; omega)
       clear LC hb3 hO3')
    | (go_at_call 42; refine (SM A4 n4 c4 hn4.out (by rw [hn4.out]; exact hO4.fits.1) w4 m44 hO4.reads).mono ?_
       rintro e w5 ⟨rfl, m5⟩)
    | (with_reducible refine wpList_storesAll (o := ⟨none, .store 23 (.tmp 4) (.tmp 18), _, _, _, _⟩) rfl 23 (.tmp 4) (.tmp 18) rfl rfl w.heap.size (ic d) rfl (iv d) rfl rfl 23 _ (hb4.keep m5 (by simp)) (by rw [ic_length, ic_length]) (ic_one d) (size25i d) ?_
       intro w6 hb6 m6 z6))
  refine bodyPost_ret (results_cell_row rfl _ _ w.heap.size 23 _ (0, 0) _ rfl hb6 Tryd.underlying23 rfl (by rw [List.size_toArray]; exact size25i d)) rfl ?_
  exact ⟨rfl, far_mod (m44.then m5) m6 (fun i hi => by simp at hi; omega)⟩
end Go.Proofs.YtbacmeaeehhhfaaDoor
