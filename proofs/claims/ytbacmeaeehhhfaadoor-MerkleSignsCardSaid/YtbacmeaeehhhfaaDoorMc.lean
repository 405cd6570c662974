/-
  Package merkle: keys, climbed. My own work.
-/
import Derived.Test.YtbacmeaeehhhfaaDoorMb
namespace Go.Proofs.YtbacmeaeehhhfaaDoor
open Go.RowKit Go.Shelf
set_option linter.unusedVariables false
/-- The keys of the first leaves. -/
def keysL (x : Idv) (n : Nat) : List Idv := (List.range n).map fun i => keyI (lseedI x i)
theorem keysL_length (x : Idv) (n : Nat) : (keysL x n).length = n := by simp [keysL]
theorem keysL_snoc (x : Idv) (n : Nat) : keysL x (n + 1) = keysL x n ++ [keyI (lseedI x n)] := by simp [keysL, List.range_succ]
theorem d8 : 32 * 8 ≤ 281474976710656 := by decide
theorem m8 : 8 ≤ maxLen := by decide
set_option maxRecDepth 100000 in
set_option maxHeartbeats 4000000 in
theorem keys_c (x : Idv) (w : World) (Gl : Glob w) :
    Calls Tryd.prog 36 #[iv x] w fun r w' => ∃ A c, r = .returned (.slice A 8 c) ∧ OwnG ic 23 32 w' A c (keysL x 8) ∧ Mod [] w w' ∧ (∀ i ∈ blk A, w.heap.size ≤ i) := by
  obtain ⟨i0, j1, j2, j3, j4⟩ := info_parts id_parts
  have HI := Lib.hid (And.intro j1 (And.intro j2 (And.intro j3 j4)))
  clear j1 j2 j3 j4
  go_enter Tryd.func36, Tryd.ntmps36
  go_wp2_with (first
    | (with_reducible refine wpList_boxes (o := ⟨some 1, .box 23 (.tmp 0), _, _, _, _⟩) rfl 23 (.tmp 0) rfl _ rfl (ic x) rfl ?_; intro w1 hb1 m1 z1; replace z1 := Lib.hid z1)
    | (with_reducible refine wpList_make0G ic (o := ⟨some 5, .makeSlice 33 _ _, _, _, _, _⟩) rfl 33 _ _ rfl 23 i0 (iv zeroI) 32 32 8 Tryd.underlying33 HI.out.1 HI.out.2.1 HI.out.2.2.1 HI.out.2.2.2 rfl rfl d8 m8 ?_
       intro w2 hO m2 z2; replace z2 := Lib.hid z2))
  obtain ⟨b1, hq1⟩ : ∃ q, q = w.heap.size := ⟨_, rfl⟩
  obtain ⟨b2, hq2⟩ : ∃ q, q = w1.heap.size := ⟨_, rfl⟩
  have hk1 : Holds w2 b1 23 (ic x) := by rw [hq1]; exact hb1.keep m2 (by simp)
  rw [← hq1]
  rw [← hq2] at hO ⊢
  have mm : Mod [] w w2 := m1.then m2
  have h12 : b1 < b2 := by have := z1.out; omega
  clear hb1 m1 m2 z1 z2 hq2
  replace hq1 := Lib.hid hq1
  go_loopw [3, 6] (fun r i wi => ∃ (k : Nat) (A : Option Addr) (c : Nat), k ≤ 8 ∧ i = .int .i64 (k : Int) ∧ r = .slice A k c ∧ OwnG ic 23 32 wi A c (keysL x k) ∧ (∀ i ∈ blk A, b1 < i) ∧ Holds wi b1 23 (ic x) ∧ Mod [] w wi) (fun _ i _ => 8 - (intOf i).toNat)
  case atStart => exact ⟨0, some ⟨b2, 0, none⟩, 8, by omega, rfl, rfl, hO, fun i hi => by simp [blk] at hi; omega, hk1, mm⟩
  case round =>
    obtain ⟨k, A, c, hk, rfl, rfl, hOw, hbA, hb, hm⟩ := hrel
    by_cases hk8 : k < 8
    · have hkZ : (k : Int) < 8 := by omega
      have LS := fun v (mv : Mod [] w v) => leafSeed_c x k (by omega) v (Gl.then mv)
      obtain ⟨s, hs⟩ : ∃ s, s = lseedI x k := ⟨_, rfl⟩
      have KC := fun v (mv : Mod [] w v) => key_c s v (Gl.then mv)
      obtain ⟨y, hy⟩ : ∃ y, y = keyI s := ⟨_, rfl⟩
      rw [← hs] at LS
      rw [← hy] at KC
      have hsn := keysL_snoc x k
      rw [← hs, ← hy] at hsn
      have hlen : k = (keysL x k).length := (keysL_length x k).symm
      have HP := Lib.hid (And.intro hsn (And.intro hlen (And.intro hOw (And.intro hbA (And.intro hb hm)))))
      clear hsn hlen hOw hbA hs hy hO hk1 mm
      go_wp2_with (first
        | (with_reducible refine wpList_loads (o := ⟨some 10, .load 23 (.tmp 1), _, _, _, _⟩) rfl 23 (.tmp 1) rfl b1 0 _ rfl (Cells.of_holds hb) _ Tryd.underlying23 rfl (size25i x) (iv x) rfl ?_)
        | (go_at_call 40; refine (LS _ hm).mono ?_
           rintro e w3 ⟨rfl, m3⟩
           have mm3 := hm.then m3)
        | (go_at_call 35; refine (KC _ mm3).mono ?_
           rintro e w4 ⟨rfl, m4⟩
           have mm4 := mm3.then m4)
        | (with_reducible refine wpList_made (o := ⟨some 14, .buildSlice 33 1 _, _, _, _, _⟩) (by with_unfolding_all rfl) _ 23 (ic y) (exec_lit22 rfl rfl) ?_
           intro w5 hb5 m5 z5
           have mx : Mod [] wr w5 := (m3.then m4).then m5
           have O5 := HP.out.2.2.1.keep mx (by simp)
           replace z5 := Lib.hid z5)
        | (at_builtin; refine wpList_appendG (f := ic) w5 (o := ⟨some 15, _, _, _, _, _⟩) rfl (.tmp 9) (.tmp 14) 33 rfl 23 i0 (iv zeroI) 32 Tryd.underlying33 HI.out.1 HI.out.2.1 HI.out.2.2.1 HI.out.2.2.2 rfl (by decide) ic_length ic_one A k c (keysL x k) rfl HP.out.2.1 O5 (some ⟨w4.heap.size, 0, none⟩) 1 1 [y] rfl rfl (by simpa using Cells.of_holds hb5) (by rw [← HP.out.2.1]; simp; omega) (by rw [← HP.out.2.1]; unfold maxLen; simp; omega) ?_
           intro A' c' w6 hO6 m6 q6))
      have hl1 : (keysL x k ++ [y]).length = k + 1 := by rw [List.length_append, ← HP.out.2.1]; rfl
      have hle : w.heap.size ≤ w5.heap.size := (mm4.then m5).size
      have hb1w := hq1.out
      have hsz5 := hb5.lt
      refine ⟨⟨k + 1, A', c', by omega, by go_num, by rw [keysL_length], by rw [HP.out.1]; exact hO6, fun i hi => ?_, (hb.keep mx (by simp)).keep m6 (fun hi => by have := HP.out.2.2.2.1 _ hi; omega), far_mod (mm4.then m5) m6 (fun i hi => by have := HP.out.2.2.2.1 _ hi; omega)⟩, by simp [intOf]; omega⟩
      obtain ⟨a, ha, rfl⟩ := mem_blk hi
      rcases q6 a ha with h1 | h1
      · exact HP.out.2.2.2.1 _ h1
      · have := m5.size; have := m4.size; have := m3.size; have := hb.lt; have := mx.size; omega
    · obtain rfl : k = 8 := by omega
      have HP := Lib.hid (And.intro hOw (And.intro hbA hm))
      clear hOw hbA hm hb hO hk1 mm
      go_wp2_with fail
      go_ret
      exact ⟨A, c, rfl, HP.out.1, HP.out.2.2, fun i hi => by have := HP.out.2.1 i hi; have := hq1.out; omega⟩
/-- What is reached from a key, from the k-th bit on. -/
def climbK (n : Nat) : Nat → Idv → List Idv → Idv
  | _, x, [] => x
  | k, x, y :: l => climbK n (k + 1) (if n / 2 ^ k % 2 = 0 then joinI x y else joinI y x) l
def climbI (x : Idv) (n : Nat) (l : List Idv) : Idv := climbK n 0 x l
theorem and1i (a : Nat) : bits .and .i64 (a : Int) 1 = ((a % 2 : Nat) : Int) := by
  have e : (1 : Int) = ((1 : Nat) : Int) := rfl
  rw [e]
  show IntKind.i64.wrap ((BitVec.ofInt 64 (a : Int) &&& BitVec.ofInt 64 ((1 : Nat) : Int)).toNat : Int) = _
  rw [ofInt_nat, ofInt_nat, BitVec.toNat_and, BitVec.toNat_ofNat, BitVec.toNat_ofNat]
  have h1 : a % 2 ^ 64 &&& 1 % 2 ^ 64 = a % 2 := by
    rw [show (1 % 2 ^ 64 : Nat) = 2 ^ 1 - 1 from rfl, Nat.and_two_pow_sub_one_eq_mod]
    omega
  rw [h1, IntWalk.i64_in _ (by omega)]
set_option maxRecDepth 100000 in
set_option maxHeartbeats 4000000 in
theorem climbed_c (x : Idv) (n : Nat) (A : Option Addr) (l : List Idv) (m c : Nat) (hm : m = l.length) (hl : m ≤ 60) (w : World) (Gl : Glob w) (RA : Cells w A (l.flatMap ic)) :
    Calls Tryd.prog 44 #[iv x, .int .i64 (n : Int), .slice A m c] w fun r w' => r = .returned (iv (climbI x n l)) ∧ Mod [] w w' := by
  obtain ⟨d, hd⟩ : ∃ d, d = climbI x n l := ⟨_, rfl⟩
  rw [← hd]
  have HH := Lib.hid (And.intro hm (And.intro RA (And.intro Gl hd)))
  have hlZ : (m : Int) ≤ 60 := by omega
  clear hm RA Gl hd
  go_enter Tryd.func44, Tryd.ntmps44
  go_wp2_with (first
    | (with_reducible refine wpList_boxes (o := ⟨some 3, .box 23 (.tmp 0), _, _, _, _⟩) rfl 23 (.tmp 0) rfl _ rfl (ic x) rfl ?_; intro w1 hb1 m1 z1; replace z1 := Lib.hid z1)
    | (with_reducible refine wpList_allocs (o := ⟨some 6, .alloc 23, _, _, _, _⟩) rfl 23 rfl _ zeroI_25 ?_; intro w2 hb2 m2 z2; replace z2 := Lib.hid z2)
    | (with_reducible refine wpList_loads (o := ⟨some 10, .load 23 (.tmp 3), _, _, _, _⟩) rfl 23 (.tmp 3) rfl w.heap.size 0 _ rfl (Cells.of_holds (hb1.keep m2 (by simp))) _ Tryd.underlying23 rfl (size25i x) (iv x) rfl ?_)
    | (with_reducible refine wpList_allocs (o := ⟨some 7, .alloc 23, _, _, _, _⟩) rfl 23 rfl _ zeroI_25 ?_; intro w3 hb3 m3 z3; replace z3 := Lib.hid z3)
    | (with_reducible refine wpList_storesAll (o := ⟨none, .store 23 (.tmp 7) (.tmp 10), _, _, _, _⟩) rfl 23 (.tmp 7) (.tmp 10) rfl rfl w2.heap.size (ic x) rfl (iv x) rfl rfl 23 _ hb3 (by rw [ic_length, ic_length]) (ic_one x) (size25i x) ?_
       intro w4 hb4 m4 z4; replace z4 := Lib.hid z4))
  obtain ⟨b6, hq6⟩ : ∃ q, q = w1.heap.size := ⟨_, rfl⟩
  obtain ⟨b7, hq7⟩ : ∃ q, q = w2.heap.size := ⟨_, rfl⟩
  have k6 : Holds w4 b6 23 (ic zeroI) := by rw [hq6]; exact (hb2.keep m3 (by simp)).keep m4 (by simp; have := z2.out; omega)
  rw [← hq7] at hb4 m4 ⊢
  rw [← hq6]
  have h67 : b6 < b7 := by have := z2.out; omega
  have hw6 : w.heap.size ≤ b6 := by have := m1.size; omega
  have mm4 : Mod [] w w4 := far_mod ((m1.then m2).then m3) m4 (fun i hi => by simp at hi; omega)
  have HO := Lib.hid (And.intro h67 hw6)
  clear hb1 m1 z1 hb2 m2 z2 hb3 m3 z3 m4 z4 hq6 hq7 h67 hw6
  go_loopw [13] (fun i wi => ∃ (k : Nat) (y : Idv), k ≤ m ∧ i = .int .i64 (k : Int) ∧ climbI x n l = climbK n k y (l.drop k) ∧ Holds wi b7 23 (ic y) ∧ Holds wi b6 23 (ic zeroI) ∧ Mod [] w wi) (fun i _ => m - (intOf i).toNat)
  case atStart => exact ⟨0, x, by omega, rfl, by rw [List.drop_zero]; rfl, hb4, k6, mm4⟩
  case round =>
    obtain ⟨k, y, hk, rfl, hcl, h7, h6, hmi⟩ := hrel
    by_cases hkm : k < m
    · have hkl : k < l.length := by rw [← HH.out.1]; exact hkm
      have hkZ : (k : Int) < (m : Int) := by omega
      obtain ⟨g, o, hAe, hce⟩ := (HH.out.2.1.keep hmi (by simp)).elem' ic 32 (by omega) ic_length k hkl
      subst hAe
      obtain ⟨z, hz⟩ : ∃ z, z = l[k] := ⟨_, rfl⟩
      rw [← hz] at hce
      have hcl2 := hcl
      rw [List.drop_eq_getElem_cons hkl, ← hz, climbK] at hcl2
      obtain ⟨q, hq⟩ : ∃ q, q = n / 2 ^ k := ⟨_, rfl⟩
      rw [← hq] at hcl2
      have hk64 : k < 64 := by omega
      have JA := fun v (mv : Mod [] w v) => join_c y z v (HH.out.2.2.1.then mv)
      have JB := fun v (mv : Mod [] w v) => join_c z y v (HH.out.2.2.1.then mv)
      have HP := Lib.hid (And.intro hq (And.intro hk64 (And.intro h7 (And.intro h6 hmi))))
      clear hz hq hk64 hcl h7 h6 hmi hb4 k6 mm4
      rcases Nat.mod_two_eq_zero_or_one q with h0 | h0
      · rw [if_pos h0] at hcl2
        obtain ⟨j, hj⟩ : ∃ j, j = joinI y z := ⟨_, rfl⟩
        rw [← hj] at JA hcl2
        have HA0 : bits .and .i64 (q : Int) 1 = (0 : Int) := by
          have := and1i q
          rw [h0] at this
          exact this
        have HA := Lib.hid HA0
        have hcl3 := Lib.hid hcl2
        clear hcl2 hj JB HA0 h0
        go_wp2_with (first
          | (with_reducible refine wpList_loads (o := ⟨some 17, .load 23 (.tmp 16), _, _, _, _⟩) rfl 23 (.tmp 16) rfl g (o + k * 32) _ rfl hce _ Tryd.underlying23 rfl (size25i z) (iv z) rfl ?_)
          | (with_reducible refine wpList_allocs (o := ⟨some 9, .alloc 23, _, _, _, _⟩) rfl 23 rfl _ zeroI_25 ?_; intro y1 hy1 my1 zy1)
          | (with_reducible refine wpList_storesAll (o := ⟨none, .store 23 (.tmp 9) (.tmp 17), _, _, _, _⟩) rfl 23 (.tmp 9) (.tmp 17) rfl rfl wr.heap.size (ic z) rfl (iv z) rfl rfl 23 _ hy1 (by rw [ic_length, ic_length]) (ic_one z) (size25i z) ?_
             intro u1 hu1 mu1 zu1
             have mx : Mod [] wr u1 := my1.trans mu1 (by intro i hi h; simp at h; omega)
             have k7 := HP.out.2.2.1.keep mx (by simp)
             have k6 := HP.out.2.2.2.1.keep mx (by simp)
             have km := HP.out.2.2.2.2.then mx
             obtain ⟨b9, hb9⟩ : ∃ b, b = wr.heap.size := ⟨_, rfl⟩
             rw [← hb9] at hu1 ⊢
             clear hy1 my1 zy1 mu1 zu1 mx hb9)
          | (with_reducible refine wpList_ranW (o := ⟨some 20, .binOp _ _ _ _ _, _, _, _, _⟩) (by with_unfolding_all rfl) (.int .i64 (q : Int)) u1 (by rw [HP.out.1]; exact exec_shr HP.out.2.1 rfl rfl rfl) ?_)
          | (with_reducible refine wpList_ranW (o := ⟨some 21, .binOp _ _ _ _ _, _, _, _, _⟩) (by with_unfolding_all rfl) (.int .i64 0) u1 (exec_and rfl rfl rfl HA.out) ?_)
          | (with_reducible refine wpList_loads (o := ⟨some 23, .load 23 (.tmp 7), _, _, _, _⟩) rfl 23 (.tmp 7) rfl b7 0 _ rfl (Cells.of_holds k7) _ Tryd.underlying23 rfl (size25i y) (iv y) rfl ?_)
          | (with_reducible refine wpList_loads (o := ⟨some 24, .load 23 (.tmp 9), _, _, _, _⟩) rfl 23 (.tmp 9) rfl b9 0 _ rfl (Cells.of_holds hu1) _ Tryd.underlying23 rfl (size25i z) (iv z) rfl ?_)
          | (go_at_call 19; refine (JA _ km).mono ?_; rintro e u2 ⟨rfl, m2⟩)
          | (with_reducible refine wpList_storesAll (o := ⟨none, .store 23 (.tmp 7) (.tmp 25), _, _, _, _⟩) rfl 23 (.tmp 7) (.tmp 25) rfl rfl b7 (ic j) rfl (iv j) rfl rfl 23 _ (k7.keep m2 (by simp)) (by rw [ic_length, ic_length]) (ic_one j) (size25i j) ?_
             intro u3 hu3 mu3 zu3))
        exact ⟨⟨k + 1, j, by omega, by go_num, hcl3.out, hu3, (k6.keep m2 (by simp)).keep mu3 (by have := HO.out.1; simp; omega), far_mod (km.then m2) mu3 (fun i hi => by have := HO.out; simp at hi; omega)⟩, by simp [intOf]; omega⟩
      · rw [if_neg (by omega)] at hcl2
        obtain ⟨j, hj⟩ : ∃ j, j = joinI z y := ⟨_, rfl⟩
        rw [← hj] at JB hcl2
        have HA0 : bits .and .i64 (q : Int) 1 = (1 : Int) := by
          have := and1i q
          rw [h0] at this
          exact this
        have HA := Lib.hid HA0
        have hcl3 := Lib.hid hcl2
        clear hcl2 hj JA HA0 h0
        go_wp2_with (first
          | (with_reducible refine wpList_loads (o := ⟨some 17, .load 23 (.tmp 16), _, _, _, _⟩) rfl 23 (.tmp 16) rfl g (o + k * 32) _ rfl hce _ Tryd.underlying23 rfl (size25i z) (iv z) rfl ?_)
          | (with_reducible refine wpList_allocs (o := ⟨some 9, .alloc 23, _, _, _, _⟩) rfl 23 rfl _ zeroI_25 ?_; intro y1 hy1 my1 zy1)
          | (with_reducible refine wpList_storesAll (o := ⟨none, .store 23 (.tmp 9) (.tmp 17), _, _, _, _⟩) rfl 23 (.tmp 9) (.tmp 17) rfl rfl wr.heap.size (ic z) rfl (iv z) rfl rfl 23 _ hy1 (by rw [ic_length, ic_length]) (ic_one z) (size25i z) ?_
             intro u1 hu1 mu1 zu1
             have mx : Mod [] wr u1 := my1.trans mu1 (by intro i hi h; simp at h; omega)
             have k7 := HP.out.2.2.1.keep mx (by simp)
             have k6 := HP.out.2.2.2.1.keep mx (by simp)
             have km := HP.out.2.2.2.2.then mx
             obtain ⟨b9, hb9⟩ : ∃ b, b = wr.heap.size := ⟨_, rfl⟩
             rw [← hb9] at hu1 ⊢
             clear hy1 my1 zy1 mu1 zu1 mx hb9)
          | (with_reducible refine wpList_ranW (o := ⟨some 20, .binOp _ _ _ _ _, _, _, _, _⟩) (by with_unfolding_all rfl) (.int .i64 (q : Int)) u1 (by rw [HP.out.1]; exact exec_shr HP.out.2.1 rfl rfl rfl) ?_)
          | (with_reducible refine wpList_ranW (o := ⟨some 21, .binOp _ _ _ _ _, _, _, _, _⟩) (by with_unfolding_all rfl) (.int .i64 1) u1 (exec_and rfl rfl rfl HA.out) ?_)
          | (with_reducible refine wpList_loads (o := ⟨some 27, .load 23 (.tmp 7), _, _, _, _⟩) rfl 23 (.tmp 7) rfl b7 0 _ rfl (Cells.of_holds k7) _ Tryd.underlying23 rfl (size25i y) (iv y) rfl ?_)
          | (with_reducible refine wpList_loads (o := ⟨some 26, .load 23 (.tmp 9), _, _, _, _⟩) rfl 23 (.tmp 9) rfl b9 0 _ rfl (Cells.of_holds hu1) _ Tryd.underlying23 rfl (size25i z) (iv z) rfl ?_)
          | (go_at_call 19; refine (JB _ km).mono ?_; rintro e u2 ⟨rfl, m2⟩)
          | (with_reducible refine wpList_storesAll (o := ⟨none, .store 23 (.tmp 7) (.tmp 28), _, _, _, _⟩) rfl 23 (.tmp 7) (.tmp 28) rfl rfl b7 (ic j) rfl (iv j) rfl rfl 23 _ (k7.keep m2 (by simp)) (by rw [ic_length, ic_length]) (ic_one j) (size25i j) ?_
             intro u3 hu3 mu3 zu3))
        exact ⟨⟨k + 1, j, by omega, by go_num, hcl3.out, hu3, (k6.keep m2 (by simp)).keep mu3 (by have := HO.out.1; simp; omega), far_mod (km.then m2) mu3 (fun i hi => by have := HO.out; simp at hi; omega)⟩, by simp [intOf]; omega⟩
    · obtain rfl : m = k := by omega
      rw [List.drop_eq_nil_of_le (by rw [← HH.out.1]; exact Nat.le_refl _), climbK, ← HH.out.2.2.2] at hcl
      subst hcl
      clear hb4 k6 mm4
      go_wp2_with (first
        | (with_reducible refine wpList_loads (o := ⟨some 30, .load 23 (.tmp 7), _, _, _, _⟩) rfl 23 (.tmp 7) rfl b7 0 _ rfl (Cells.of_holds h7) _ Tryd.underlying23 rfl (size25i d) (iv d) rfl ?_)
        | (with_reducible refine wpList_storesAll (o := ⟨none, .store 23 (.tmp 6) (.tmp 30), _, _, _, _⟩) rfl 23 (.tmp 6) (.tmp 30) rfl rfl b6 (ic d) rfl (iv d) rfl rfl 23 _ h6 (by rw [ic_length, ic_length]) (ic_one d) (size25i d) ?_
           intro u3 hu3 mu3 zu3))
      refine bodyPost_ret (results_cell_row rfl _ _ b6 23 _ (0, 0) _ rfl hu3 Tryd.underlying23 rfl (by rw [List.size_toArray]; exact size25i d)) rfl ?_
      exact ⟨rfl, far_mod hmi mu3 (fun i hi => by have := HO.out; simp at hi; omega)⟩
end Go.Proofs.YtbacmeaeehhhfaaDoor
