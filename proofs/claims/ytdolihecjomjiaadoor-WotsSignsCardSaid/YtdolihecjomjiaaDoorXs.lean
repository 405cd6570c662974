/-
  WotsSigns: what it calls, its turns, its regions, its walk. My own work.
-/
import Derived.Test.YtdolihecjomjiaaDoorXa
import Derived.Test.YtdolihecjomjiaaDoorXc
import Derived.Test.YtdolihecjomjiaaDoorWp
namespace Go.Proofs.YtdolihecjomjiaaDoor
open Go.RowKit Go.Shelf
theorem exec_ne25s {v : World} {o : Oper} {ρ : Operand → Value} {x y : Operand} {X : Idv} (ho : o.op = .binOp .neq 25 x y 25) (hx : ρ x = iv X) (hy : ρ y = iv X) : (execOp ρ o).run Tryd.prog v = .ok (.value (.bool false)) v := by
  have := exec_ne25 (v := v) ho hx hy
  rwa [decide_eq_true rfl] at this
theorem p32 : 0 < 32 := by decide
structure Xd where
  A : Option Addr
  ca : Nat
  B : Option Addr
  cb : Nat

def sgnL (x m : Idv) (n : Nat) : List Idv := (List.range n).map fun i => walkI i 0 (dgt m i) (startI i x)
theorem sgnL_snoc (x m : Idv) (n : Nat) : sgnL x m (n + 1) = sgnL x m n ++ [walkI n 0 (dgt m n) (startI n x)] := by simp [sgnL, List.range_succ]
theorem sgnL_length (x m : Idv) (n : Nat) : (sgnL x m n).length = n := by simp [sgnL]
theorem sgnL_all (x m : Idv) : sgnL x m 67 = signI x m := by
  unfold sgnL signI stsI
  rw [List.map_map]
  rfl
def keyL (x : Idv) (n : Nat) : List Idv := (List.range n).map fun i => walkI i 0 15 (startI i x)
theorem keyL_snoc (x : Idv) (n : Nat) : keyL x (n + 1) = keyL x n ++ [walkI n 0 15 (startI n x)] := by simp [keyL, List.range_succ]
theorem keyL_length (x : Idv) (n : Nat) : (keyL x n).length = n := by simp [keyL]
theorem keyL_all (x : Idv) : endsI (keyL x 67) = keyI x := by
  unfold keyL keyI stsI
  rw [List.map_map]
  rfl
set_option maxRecDepth 100000 in
set_option maxHeartbeats 4000000 in
theorem lsigned_c (x m : Idv) (w : World) (Gl : Glob w) :
    Calls Tryd.prog 20 #[iv x, iv m] w fun r w' => ∃ A c, r = .returned (.slice A 67 c) ∧ OwnG ic 25 32 w' A c (signI x m) ∧ Mod [] w w' ∧ (∀ i ∈ blk A, w.heap.size ≤ i) := by
  obtain ⟨i0, j1, j2, j3, j4⟩ := info_parts id_parts
  have HI := Lib.hid (And.intro j1 (And.intro j2 (And.intro j3 j4)))
  have HH := Lib.hid Gl
  clear Gl j1 j2 j3 j4
  go_enter Tryd.func20, Tryd.ntmps20
  go_wp2_with (first
    | (with_reducible refine wpList_boxes (o := ⟨some 2, .box 25 (.tmp 0), _, _, _, _⟩) rfl 25 (.tmp 0) rfl _ rfl (ic x) rfl ?_; intro w1 hb1 m1 z1; replace z1 := Lib.hid z1)
    | (with_reducible refine wpList_boxes (o := ⟨some 3, .box 25 (.tmp 1), _, _, _, _⟩) rfl 25 (.tmp 1) rfl _ rfl (ic m) rfl ?_; intro w2 hb2 m2 z2; replace z2 := Lib.hid z2)
    | (with_reducible refine wpList_loads (o := ⟨some 8, .load 25 (.tmp 3), _, _, _, _⟩) rfl 25 (.tmp 3) rfl w1.heap.size 0 _ rfl (Cells.of_holds hb2) _ Tryd.underlying25 rfl (size25i m) (iv m) rfl ?_)
    | (go_at_call 12; refine (rdigits_c m w2).mono ?_
       rintro e w3 ⟨Ad, cd, rfl, hd3, m3, q3⟩
       have y1 := z1.out
       have y2 := z2.out
       obtain ⟨b2, hq2⟩ : ∃ q, q = w.heap.size := ⟨_, rfl⟩
       obtain ⟨b3, hq3⟩ : ∃ q, q = w3.heap.size := ⟨_, rfl⟩
       have k2 : Holds w3 b2 25 (ic x) := by rw [hq2]; exact (hb1.keep m2 (by simp)).keep m3 (by simp)
       have kA : ∀ i ∈ blk Ad, i < b3 := fun i hi => by have := hd3.notin hi; omega
       have o2 : b2 < b3 := by have := m3.size; omega
       have o5 : w.heap.size ≤ b2 := by omega
       have o6 : w.heap.size ≤ b3 := by omega
       have HK := Lib.hid (And.intro k2 (And.intro hd3 (And.intro ((m1.then m2).then m3) (Nat.le_of_eq hq3))))
       rw [← hq2]
       clear hb1 m1 z1 hb2 m2 z2 m3 y1 y2 hq2 hq3 hd3 q3 k2))
  go_loopw [11, 5] (fun i x' wi => ∃ (k : Nat) (A1 : Option Addr) (c' : Nat), k ≤ 67 ∧ i = .int .i64 (k : Int) ∧ x' = .slice A1 k c' ∧ OwnG ic 25 32 wi A1 c' (sgnL x m k) ∧ (∀ i ∈ blk A1, b3 ≤ i) ∧ Holds wi b2 25 (ic x) ∧ OwnG fi 3 1 wi Ad cd (digitsN m) ∧ b3 ≤ wi.heap.size ∧ Mod [] w wi) (fun i _ _ => 67 - (intOf i).toNat)
  case atStart => exact ⟨0, none, 0, by omega, rfl, rfl, OwnG.nil ic 25 32 _, fun i hi => by simp [blk] at hi, HK.out.1, HK.out.2.1, HK.out.2.2.2, HK.out.2.2.1⟩
  case round =>
    obtain ⟨k, A1, c', hk, rfl, rfl, hOw, hbl, h4, hD, hsz, hmi⟩ := hrel
    by_cases hkn : k < 67
    · have hkZ : (k : Int) < 67 := by omega
      obtain ⟨gd, od, rfl, hcd⟩ := hD.int_at k (by rw [digitsN_length]; exact hkn)
      obtain ⟨dg, hdg⟩ : ∃ d, d = dgt m k := ⟨_, rfl⟩
      have hdgc : (digitsN m)[k]'(by rw [digitsN_length]; exact hkn) = dg := by rw [hdg]; unfold dgt; rw [List.getD_eq_getElem?_getD, List.getElem?_eq_getElem (by rw [digitsN_length]; exact hkn)]; rfl
      rw [hdgc] at hcd
      have hdg15 : dg ≤ 15 := by rw [hdg]; exact dgt_le m _
      obtain ⟨y, hy⟩ : ∃ y, y = startI k x := ⟨_, rfl⟩
      obtain ⟨e, he⟩ : ∃ e, e = walkI k 0 dg y := ⟨_, rfl⟩
      obtain ⟨r, hr⟩ : ∃ r, r = sgnL x m k := ⟨_, rfl⟩
      have hsn : sgnL x m (k + 1) = r ++ [e] := by rw [sgnL_snoc, ← hr, he, hdg, hy]
      have hrl : r.length = k := by rw [hr, sgnL_length]
      rw [← hr] at hOw
      have Y := lstart_c x k (by omega) wr (HH.out.then hmi)
      rw [← hy] at Y
      have X := fun v (mv : Mod [] wr v) => lwalk_c y k 0 dg dg (by omega) (by omega) hdg15 v (HH.out.then (hmi.then mv))
      rw [← he] at X
      have HP := Lib.hid (And.intro hsn (And.intro hOw (And.intro hbl (And.intro h4 (And.intro hD (And.intro hsz (And.intro hmi hrl)))))))
      clear hdgc hdg hdg15 hy he hr hsn hrl hOw hbl h4 hD hsz hmi HK
      go_wp2_with (first
        | (with_reducible refine wpList_loads (o := ⟨some 17, .load 25 (.tmp 2), _, _, _, _⟩) rfl 25 (.tmp 2) rfl b2 0 _ rfl (Cells.of_holds HP.out.2.2.2.1) _ Tryd.underlying25 rfl (size25i x) (iv x) rfl ?_)
        | (go_at_call 16; refine Y.mono ?_; rintro e' w3 ⟨rfl, m3⟩; clear Y; replace X := X w3 m3)
        | (go_at_call 18; refine X.mono ?_; rintro e' w33 ⟨rfl, m33⟩; clear X)
        | (with_reducible refine wpList_made (o := ⟨some 23, .buildSlice 22 1 _, _, _, _, _⟩) (by with_unfolding_all rfl) _ 25 (ic e) (exec_lit22 rfl rfl) ?_
           intro w4 hb4 m4 z4
           have O4 := (HP.out.2.1.keep (m3.then m33) (by simp)).keep m4 (by simp)
           replace z4 := Lib.hid z4)
        | (refine wpList_appendG (f := ic) w4 (o := ⟨some 24, _, _, _, _, _⟩) rfl (.tmp 16) (.tmp 23) 22 rfl 25 i0 (iv zeroI) 32 Tryd.underlying22 HI.out.1 HI.out.2.1 HI.out.2.2.1 HI.out.2.2.2 rfl (by decide) ic_length ic_one A1 k c' r rfl HP.out.2.2.2.2.2.2.2.symm O4 (some ⟨w33.heap.size, 0, none⟩) 1 1 [e] rfl rfl (by simpa using Cells.of_holds hb4) (by rw [HP.out.2.2.2.2.2.2.2]; simp; omega) (by rw [HP.out.2.2.2.2.2.2.2]; simp [maxLen]; omega) ?_
           intro A' c'' w5 hO5 m5 q5))
      have hbl := HP.out.2.2.1
      have hmi := HP.out.2.2.2.2.2.2.1
      have m34 : Mod [] wr w4 := (m3.then m33).then m4
      refine ⟨⟨k + 1, A', c'', by omega, by go_num, by rw [HP.out.2.2.2.2.2.2.2], by rw [HP.out.1]; exact hO5, fun i hi => ?_, ?_, ?_, ?_, ?_⟩, by simp [intOf]; omega⟩
      · obtain ⟨a, ha, rfl⟩ := mem_blk hi
        rcases q5 a ha with q | q
        · exact hbl _ q
        · have := (m3.then m33).size; have := m34.size; have := HP.out.2.2.2.2.2.1; omega
      · exact (HP.out.2.2.2.1.keep m34 (by simp)).keep m5 (fun hh => by have := hbl _ hh; omega)
      · exact (HP.out.2.2.2.2.1.keep m34 (by simp)).keep m5 (fun a ha hh => by have := hbl _ hh; have := kA a.block (by simp [blk, ha]); omega)
      · have := m34.size; have := m5.size; have := HP.out.2.2.2.2.2.1; omega
      · exact far_mod (hmi.then m34) m5 (fun i hi => by have := hbl i hi; omega)
    · obtain rfl : k = 67 := by omega
      have HP := Lib.hid (And.intro hOw (And.intro hmi hbl))
      clear hOw hbl h4 hD hsz hmi HK
      go_wp2
      go_ret
      exact ⟨A1, c', rfl, by rw [← sgnL_all]; exact HP.out.1, HP.out.2.1, fun i hi => by have := HP.out.2.2 i hi; omega⟩
set_option maxRecDepth 100000 in
set_option maxHeartbeats 4000000 in
theorem lkey_c (x : Idv) (w : World) (Gl : Glob w) :
    Calls Tryd.prog 21 #[iv x] w fun r w' => r = .returned (iv (keyI x)) ∧ Mod [] w w' := by
  obtain ⟨d, hd⟩ : ∃ d, d = keyI x := ⟨_, rfl⟩
  rw [← hd]
  obtain ⟨i0, j1, j2, j3, j4⟩ := info_parts id_parts
  have HI := Lib.hid (And.intro j1 (And.intro j2 (And.intro j3 j4)))
  have HH := Lib.hid Gl
  replace hd := Lib.hid hd
  clear Gl j1 j2 j3 j4
  go_enter Tryd.func21, Tryd.ntmps21
  go_wp2_with (first
    | (with_reducible refine wpList_boxes (o := ⟨some 1, .box 25 (.tmp 0), _, _, _, _⟩) rfl 25 (.tmp 0) rfl _ rfl (ic x) rfl ?_; intro w1 hb1 m1 z1; replace z1 := Lib.hid z1)
    | (with_reducible refine wpList_allocs (o := ⟨some 2, .alloc 25, _, _, _, _⟩) rfl 25 rfl _ zeroI_25 ?_; intro w2 hb2 m2 z2
       have y1 := z1.out
       obtain ⟨b2, hq2⟩ : ∃ q, q = w.heap.size := ⟨_, rfl⟩
       obtain ⟨b4, hq4⟩ : ∃ q, q = w1.heap.size := ⟨_, rfl⟩
       obtain ⟨b3, hq3⟩ : ∃ q, q = w2.heap.size := ⟨_, rfl⟩
       have k2 : Holds w2 b2 25 (ic x) := by rw [hq2]; exact hb1.keep m2 (by simp)
       have k4 : Holds w2 b4 25 (ic zeroI) := by rw [hq4]; exact hb2
       have o1 : b2 < b4 := by omega
       have o2 : b4 < b3 := by omega
       have o5 : w.heap.size ≤ b2 := by omega
       have o6 : w.heap.size ≤ b3 := by omega
       have HK := Lib.hid (And.intro k2 (And.intro k4 (And.intro (m1.then m2) (Nat.le_of_eq hq3))))
       rw [← hq2, ← hq4]
       clear hb1 m1 z1 hb2 m2 z2 y1 hq2 hq4 hq3 k2 k4))
  go_loopw [5, 3] (fun i x' wi => ∃ (k : Nat) (A1 : Option Addr) (c' : Nat), k ≤ 67 ∧ i = .int .i64 (k : Int) ∧ x' = .slice A1 k c' ∧ OwnG ic 25 32 wi A1 c' (keyL x k) ∧ (∀ i ∈ blk A1, b3 ≤ i) ∧ Holds wi b2 25 (ic x) ∧ Holds wi b4 25 (ic zeroI) ∧ b3 ≤ wi.heap.size ∧ Mod [] w wi) (fun i _ _ => 67 - (intOf i).toNat)
  case atStart => exact ⟨0, none, 0, by omega, rfl, rfl, OwnG.nil ic 25 32 _, fun i hi => by simp [blk] at hi, HK.out.1, HK.out.2.1, HK.out.2.2.2, HK.out.2.2.1⟩
  case round =>
    obtain ⟨k, A1, c', hk, rfl, rfl, hOw, hbl, h4, hD, hsz, hmi⟩ := hrel
    by_cases hkn : k < 67
    · have hkZ : (k : Int) < 67 := by omega
      obtain ⟨y, hy⟩ : ∃ y, y = startI k x := ⟨_, rfl⟩
      obtain ⟨e, he⟩ : ∃ e, e = walkI k 0 15 y := ⟨_, rfl⟩
      obtain ⟨r, hr⟩ : ∃ r, r = keyL x k := ⟨_, rfl⟩
      have hsn : keyL x (k + 1) = r ++ [e] := by rw [keyL_snoc, ← hr, he, hy]
      have hrl : r.length = k := by rw [hr, keyL_length]
      rw [← hr] at hOw
      have Y := lstart_c x k (by omega) wr (HH.out.then hmi)
      rw [← hy] at Y
      have X := fun v (mv : Mod [] wr v) => lwalk_c y k 0 15 15 (by omega) (by omega) (by decide) v (HH.out.then (hmi.then mv))
      rw [← he] at X
      have HP := Lib.hid (And.intro hsn (And.intro hOw (And.intro hbl (And.intro h4 (And.intro hD (And.intro hsz (And.intro hmi hrl)))))))
      clear hy he hr hsn hrl hOw hbl h4 hD hsz hmi HK
      go_wp2_with (first
        | (with_reducible refine wpList_loads (o := ⟨some 9, .load 25 (.tmp 1), _, _, _, _⟩) rfl 25 (.tmp 1) rfl b2 0 _ rfl (Cells.of_holds HP.out.2.2.2.1) _ Tryd.underlying25 rfl (size25i x) (iv x) rfl ?_)
        | (go_at_call 16; refine Y.mono ?_; rintro e' w3 ⟨rfl, m3⟩; clear Y; replace X := X w3 m3)
        | (go_at_call 18; refine X.mono ?_; rintro e' w33 ⟨rfl, m33⟩; clear X)
        | (with_reducible refine wpList_made (o := ⟨some 14, .buildSlice 22 1 _, _, _, _, _⟩) (by with_unfolding_all rfl) _ 25 (ic e) (exec_lit22 rfl rfl) ?_
           intro w4 hb4 m4 z4
           have O4 := (HP.out.2.1.keep (m3.then m33) (by simp)).keep m4 (by simp)
           replace z4 := Lib.hid z4)
        | (refine wpList_appendG (f := ic) w4 (o := ⟨some 15, _, _, _, _, _⟩) rfl (.tmp 8) (.tmp 14) 22 rfl 25 i0 (iv zeroI) 32 Tryd.underlying22 HI.out.1 HI.out.2.1 HI.out.2.2.1 HI.out.2.2.2 rfl (by decide) ic_length ic_one A1 k c' r rfl HP.out.2.2.2.2.2.2.2.symm O4 (some ⟨w33.heap.size, 0, none⟩) 1 1 [e] rfl rfl (by simpa using Cells.of_holds hb4) (by rw [HP.out.2.2.2.2.2.2.2]; simp; omega) (by rw [HP.out.2.2.2.2.2.2.2]; simp [maxLen]; omega) ?_
           intro A' c'' w5 hO5 m5 q5))
      have hbl := HP.out.2.2.1
      have hmi := HP.out.2.2.2.2.2.2.1
      have m34 : Mod [] wr w4 := (m3.then m33).then m4
      refine ⟨⟨k + 1, A', c'', by omega, by go_num, by rw [HP.out.2.2.2.2.2.2.2], by rw [HP.out.1]; exact hO5, fun i hi => ?_, ?_, ?_, ?_, ?_⟩, by simp [intOf]; omega⟩
      · obtain ⟨a, ha, rfl⟩ := mem_blk hi
        rcases q5 a ha with q | q
        · exact hbl _ q
        · have := (m3.then m33).size; have := m34.size; have := HP.out.2.2.2.2.2.1; omega
      · exact (HP.out.2.2.2.1.keep m34 (by simp)).keep m5 (fun hh => by have := hbl _ hh; omega)
      · exact (HP.out.2.2.2.2.1.keep m34 (by simp)).keep m5 (fun hh => by have := hbl _ hh; omega)
      · have := m34.size; have := m5.size; have := HP.out.2.2.2.2.2.1; omega
      · exact far_mod (hmi.then m34) m5 (fun i hi => by have := hbl i hi; omega)
    · obtain rfl : k = 67 := by omega
      have X := lends_c A1 (keyL x 67) 67 c' (by rw [keyL_length]) (by decide) wr (HH.out.then hmi) hOw.cells
      rw [show endsI (keyL x 67) = d by rw [hd.out]; exact keyL_all x] at X
      have HP := Lib.hid (And.intro hD hmi)
      clear hOw hbl h4 hD hsz hmi HK
      go_wp2_with (first
        | (go_at_call 34; refine X.mono ?_; rintro e w6' ⟨rfl, m6⟩)
        | (with_reducible refine wpList_storesAll (o := ⟨none, .store 25 (.tmp 2) (.tmp 18), _, _, _, _⟩) rfl 25 (.tmp 2) (.tmp 18) rfl rfl b4 (ic d) rfl (iv d) rfl rfl 25 _ (HP.out.1.keep m6 (by simp)) (by rw [ic_length, ic_length]) (ic_one d) (size25i d) ?_; intro v2 hv2 mv2 zv2))
      refine bodyPost_ret (results_cell_row rfl _ _ b4 25 _ (0, 0) _ rfl hv2 Tryd.underlying25 rfl (by rw [List.size_toArray]; exact size25i d)) rfl ?_
      exact ⟨rfl, far_mod (HP.out.2.then m6) mv2 (by simp; omega)⟩

/-- A turn: where, and to what. -/
structure Trn where
  a : Int
  y : Idv
def tnc (r : Trn) : List Value := .int .i64 r.a :: ic r.y
theorem tnc_length (r : Trn) : (tnc r).length = 33 := by simp [tnc, ic_length]
theorem tnc_one (r : Trn) : ∀ v ∈ tnc r, v.oneCell' = true := by
  intro v hv
  rcases List.mem_cons.1 hv with h | h
  · rw [h]; rfl
  · exact ic_one r.y v h
section
open Go.ChangeShapes Go.WideShapes Go.ChangeAt
variable {H : Type} {enc : TypeId × Value → H} {W : World} {fuel : Nat} {x : DataW H × List MemPlace}
theorem turn_in {cs : List Value} (h : DataW.trod enc Tryd.prog W 0 (fun _ => true) true fuel 46 cs = some x) : ∃ r : Trn, cs = tnc r := by
  obtain ⟨xs, n, _, _, hlen, hxl, hf⟩ := DataW.trod_struct Tryd.underlying46 h
  have h4 : Tryd.prog.cellsOf 46 = 33 := by kernel_rfl
  have c3 : Tryd.prog.cellsOf 3 = 1 := by kernel_rfl
  have c25 : Tryd.prog.cellsOf 25 = 32 := by kernel_rfl
  rw [h4] at hlen
  match xs, hxl with
  | [y0, y1], _ =>
    have g0 : DataW.trod enc Tryd.prog W 0 (fun _ => true) true n 3 ((cs.drop 0).take 1) = some y0 := by have := hf 0 _ rfl; simpa [c3] using this
    have g1 : DataW.trod enc Tryd.prog W 0 (fun _ => true) true n 25 ((cs.drop 1).take 32) = some y1 := by have := hf 1 _ rfl; simpa [c25] using this
    obtain ⟨a0, e0, _, _⟩ := DataW.trod_int Tryd.underlying3 g0
    obtain ⟨r1, e1⟩ := id_in g1
    refine ⟨⟨a0, r1⟩, ?_⟩
    show cs = [.int .i64 a0] ++ ic r1
    rw [← e1]
    have d : cs = (cs.drop 0).take 1 ++ (cs.drop 1).take 32 := by
      apply List.ext_getElem?
      intro i
      by_cases h1 : i < 1
      · obtain rfl : i = 0 := by omega
        rw [List.getElem?_append_left (by simp; omega)]; simp
      · rw [List.getElem?_append_right (by simp; omega)]
        by_cases h5 : i < 33
        · have h6 : i - 1 < 32 := by omega
          have h7 : 1 + (i - min 1 cs.length) = i := by omega
          simp [hlen]
          rw [List.getElem?_take, if_pos h6, List.getElem?_tail, show i - 1 + 1 = i by omega]
        · rw [List.getElem?_eq_none (by omega), List.getElem?_eq_none (by simp; omega)]
    rw [e0] at d
    exact d
theorem tcells_join {b o : Nat} {l : List Trn} (h : ∀ i (hi : i < l.length), Cells W (some ⟨b, o + i * 33, none⟩) (tnc l[i])) : Cells W (some ⟨b, o, none⟩) (l.flatMap tnc) := by
  refine Cells.of_cells fun j hj => ?_
  have hl := flat_length tnc 33 tnc_length l
  rw [hl] at hj
  have hi : j / 33 < l.length := by omega
  have h1 := (h (j / 33) hi).at (j % 33) (by rw [tnc_length]; omega)
  have h2 := flat_at tnc 33 tnc_length l (j / 33) (j % 33) hi (by omega)
  rw [show j / 33 * 33 + j % 33 = j by omega, List.getElem?_eq_getElem (by rw [hl]; exact hj), List.getElem?_eq_getElem (by rw [tnc_length]; omega)] at h2
  have h3 := Option.some.inj h2
  rw [h3, ← h1]
  congr 2
  omega
theorem turns_in {cs : List Value} (h : DataW.trod enc Tryd.prog W 0 (fun _ => true) true fuel 41 cs = some x) :
    ∃ A c, ∃ l : List Trn, cs = [.slice A l.length c] ∧ l.length ≤ c ∧ c ≤ maxLen ∧ Cells W A (l.flatMap tnc) := by
  have h4 : Tryd.prog.cellsOf 46 = 33 := by kernel_rfl
  rcases Deep.open_slice Tryd.underlying41 h with ⟨rfl, _⟩ | ⟨a, len, cap, m, n, D, Pl, rfl, _, hl, hm, hmm, _, hx⟩
  · exact ⟨none, 0, [], rfl, Nat.le_refl _, by simp, Cells.nil _ _⟩
  · simp only [if_true] at hmm
    have key : ∀ i : Nat, ∃ r : Trn, i < len → ∃ b o, a = ⟨b, o, none⟩ ∧ Cells W (some ⟨b, o + i * 33, none⟩) (tnc r) := by
      intro i
      by_cases hi : i < len
      · obtain ⟨cs', h1, h2⟩ := hx i (by omega)
        obtain ⟨r, hf⟩ := turn_in h2
        rw [h4] at h1
        obtain ⟨_, hlen, hcell⟩ := World.cells?_some h1
        have hsp : ∀ j, j < 33 → ∃ v, W.cell? ((a.add (i * 33)).add j) = some v ∧ cs'[j]? = some v := fun j hj => by
          have := hcell j (by omega)
          refine ⟨cs'[j]'(by omega), ?_, List.getElem?_eq_getElem (by omega)⟩
          rw [this]
          exact List.getElem?_eq_getElem _
        refine ⟨r, fun _ => ?_⟩
        obtain ⟨b, o, s⟩ := a
        have hs : s = none := by
          obtain ⟨cs0, h10, h20⟩ := hx 0 (by omega)
          obtain ⟨_, hlen0, hcell0⟩ := World.cells?_some h10
          have q0 := hcell0 0 (by rw [h4]; omega)
          obtain ⟨r0, hd0⟩ := turn_in h20
          rw [hd0, List.getElem?_eq_getElem (by rw [tnc_length]; omega)] at q0
          simpa [Addr.add] using World.cell?_spot q0
        subst hs
        refine ⟨b, o, rfl, Cells.of_cells fun j hj => ?_⟩
        have hj4 : j < 33 := by rwa [tnc_length] at hj
        obtain ⟨v, e1, e2⟩ := hsp j hj4
        rw [add_plain, add_plain] at e1
        rw [e1]
        rw [hf, List.getElem?_eq_getElem hj] at e2
        exact e2.symm
      · exact ⟨⟨0, zeroI⟩, fun h => absurd h hi⟩
    obtain ⟨f, hf⟩ := Classical.axiomOfChoice key
    have hL : ((List.range len).map f).length = len := by simp
    refine ⟨some a, cap, (List.range len).map f, by rw [hL], by rw [hL]; exact hl, hmm ▸ hm, ?_⟩
    rcases Nat.eq_zero_or_pos len with h0 | h0
    · subst h0
      exact Cells.nil _ _
    · obtain ⟨b, o, rfl, _⟩ := hf 0 h0
      refine tcells_join fun i hi => ?_
      rw [hL] at hi
      obtain ⟨b', o', e1, q2⟩ := hf i hi
      cases e1
      simp only [List.getElem_map, List.getElem_range]
      exact q2
end
theorem size46 (r : Trn) : (Tryd.prog.info? 46).map (·.size) = some (tnc r).length := by rw [tnc_length]; kernel_rfl
theorem zero46 : ∀ w, (zeroValue 46).run Tryd.prog w = .ok (.agg (tnc ⟨0, zeroI⟩).toArray) w := (zero_of_info (n := 33) (by kernel_rfl)).1
section
variable {v : World} {o : Oper} {ρ : Operand → Value} {x : Operand} {g : Nat}
theorem exec_ta (ho : o.op = .fieldAddr 46 x 0) (hx : ρ x = .pointer (some ⟨g, 0, none⟩)) : (execOp ρ o).run Tryd.prog v = .ok (.value (.pointer (some ⟨g, 0, none⟩))) v := by
  unfold execOp
  simp [ho, hx, go_sem]
theorem exec_ty (ho : o.op = .fieldAddr 46 x 1) (hx : ρ x = .pointer (some ⟨g, 0, none⟩)) : (execOp ρ o).run Tryd.prog v = .ok (.value (.pointer (some ⟨g, 1, none⟩))) v := by
  unfold execOp
  simp [ho, hx, go_sem]
theorem tn_a {r : Trn} (h : Holds v g 46 (tnc r)) : v.cell? ⟨g, 0, none⟩ = some (.int .i64 r.a) := h.cell 0
theorem tn_y {r : Trn} (h : Holds v g 46 (tnc r)) : Cells v (some ⟨g, 1, none⟩) (ic r.y) := by
  have := (Cells.of_holds h).part 1 (ds := ic r.y) (fun i hi => by
    unfold tnc
    rw [Nat.add_comm, List.getElem?_cons_succ, List.getElem?_eq_getElem hi])
  simpa using this
theorem exec_cu {a : Int} (ho : o.op = .convert 3 47 x) (hx : ρ x = .int .i64 a) : (execOp ρ o).run Tryd.prog v = .ok (.value (.int .u64 (IntKind.u64.wrap a))) v := by
  unfold execOp
  simp [ho, hx, go_sem, convert, run_underlying Tryd.underlying3, run_underlying Tryd.underlying47]
theorem exec_ru {y : Operand} {u : Nat} (ho : o.op = .binOp .rem 47 x y 47) (hx : ρ x = .int .u64 (u : Int)) (hy : ρ y = .int .u64 67) : (execOp ρ o).run Tryd.prog v = .ok (.value (.int .u64 ((u % 67 : Nat) : Int))) v := by
  unfold execOp
  simp [ho, hx, hy, go_sem]
  exact Int.tmod_eq_emod_of_nonneg (by omega)
theorem wrap_nat (a : Int) : ∃ u : Nat, IntKind.u64.wrap a = (u : Int) := by
  refine ⟨(IntKind.u64.wrap a).toNat, ?_⟩
  have : 0 ≤ IntKind.u64.wrap a := by simp [IntKind.wrap, IntKind.signed]; try omega
  omega
theorem exec_ixu {P : Program} {t e : TypeId} {n c z f i : Nat} {y : Operand} (hu : P.underlying t = some (.slice e)) (he : (P.info? e).map (·.size) = some z) (hi : i < n) (ho : o.op = .indexAddr t x y) (hx : ρ x = .slice (some ⟨g, f, none⟩) n c) (hy : ρ y = .int .u64 (i : Int)) :
    (execOp ρ o).run P v = .ok (.value (.pointer (some ⟨g, f + i * z, none⟩))) v := by
  unfold execOp
  cases hq : P.info? e with
  | none => rw [hq] at he; cases he
  | some it =>
    have hs : it.size = z := by rw [hq] at he; simpa using he
    simp [ho, hx, hy, Instr.indexAt, Sem.run_bind, run_underlying hu, go_sem, sizeOf, typeInfo, hq, hs, hi, add_plain]
end
theorem flat_store (l : List Idv) (k : Nat) (y : Idv) (hk : k < l.length) (old : List Value) (hlen : l.length * 32 ≤ old.length) (ho : old.take (l.length * 32) = l.flatMap ic) : (old.take (k * 32) ++ ic y ++ old.drop (k * 32 + 32)).take (l.length * 32) = (l.set k y).flatMap ic := by
  have hl2 := flat_length ic 32 ic_length (l.set k y)
  rw [List.length_set] at hl2
  apply List.ext_getElem?
  intro j
  by_cases hj : j < l.length * 32
  · rw [List.getElem?_take, if_pos hj]
    have e1 := flat_at ic 32 ic_length (l.set k y) (j / 32) (j % 32) (by rw [List.length_set]; omega) (by omega)
    have e0 := flat_at ic 32 ic_length l (j / 32) (j % 32) (by omega) (by omega)
    rw [show j / 32 * 32 + j % 32 = j by omega] at e1 e0
    have ho' : old[j]? = (l.flatMap ic)[j]? := by rw [← ho, List.getElem?_take, if_pos hj]
    rw [e0] at ho'
    rw [e1]
    have hi := ic_length y
    by_cases h1 : j < k * 32
    · rw [List.append_assoc, List.getElem?_append_left (by simp; omega), List.getElem?_take, if_pos h1, ho', List.getElem_set_ne (by omega)]
    · rw [List.append_assoc, List.getElem?_append_right (by simp; omega)]
      have hm : (List.take (k * 32) old).length = k * 32 := by simp; omega
      rw [hm]
      by_cases h2 : j < k * 32 + 32
      · rw [List.getElem?_append_left (by omega)]
        have : j / 32 = k := by omega
        subst this
        rw [List.getElem_set_self]
        congr 1; omega
      · rw [List.getElem?_append_right (by omega), hi, List.getElem?_drop, show k * 32 + 32 + (j - k * 32 - 32) = j by omega, ho', List.getElem_set_ne (by omega)]
  · rw [List.getElem?_eq_none (by simp; omega), List.getElem?_eq_none (by omega)]
theorem own_store {w : World} {A : Option Addr} {c : Nat} {l : List Idv} (h : OwnG ic 25 32 w A c l) (k : Nat) (hk : k < l.length) (y : Idv) :
    ∃ g v, A = some ⟨g, 0, none⟩ ∧ (storeVar 25 ⟨g, k * 32, none⟩ (.agg (ic y).toArray)).run Tryd.prog w = .ok () v ∧ OwnG ic 25 32 v A c (l.set k y) ∧ Mod [g] w v := by
  have hfl := h.1
  rcases h.2 with ⟨hv, hn⟩ | ⟨g, cap, cur, hv, hb, hg, h1, h2, h3, h4⟩
  · omega
  · injection hv with e3 e4 e5
    subst e3
    subst e5
    have hsz : cur.toList.length = c * 32 := by simpa using h3
    have hle : (k + 1) * 32 ≤ c * 32 := Nat.mul_le_mul_right _ (by omega)
    obtain ⟨v, r1, r2, r3, r4⟩ := run_stores (P := Tryd.prog) (w := w) (g := g) (f := k * 32) (t := 25) (ty := 25) (old := cur.toList) (cs := ic y) hg (by rw [ic_length]; omega) (ic_one y) (size25i y)
    refine ⟨g, v, rfl, r1, ?_, r3⟩
    unfold OwnG
    rw [List.length_set]
    refine ⟨by rw [flat_length ic 32 ic_length, List.length_set], .inr ⟨g, c, _, rfl, Nat.zero_le _, r2, h1, h2, ?_, ?_⟩⟩
    · simp [ic_length]; omega
    · rw [ic_length]
      exact flat_store l k y hk cur.toList (by rw [hsz]; exact Nat.mul_le_mul_right _ h1) h4

set_option maxRecDepth 100000 in
set_option maxHeartbeats 4000000 in
theorem same_yes (A B : Option Addr) (n c d : Nat) (l : List Idv) (hn : n = l.length) (hl : n ≤ 100) (w : World) (RA : Cells w A (l.flatMap ic)) (RB : Cells w B (l.flatMap ic)) :
    Calls Tryd.prog 22 #[.slice A n c, .slice B n d] w fun r w' => r = .returned (.bool true) ∧ Mod [] w w' := by
  have HH := Lib.hid (And.intro hn (And.intro RA RB))
  have hlZ : (n : Int) ≤ 100 := by omega
  clear hn RA RB
  go_enter Tryd.func22, Tryd.ntmps22
  go_wp2_with fail
  go_loopw [13] (fun i wi => ∃ k : Nat, k ≤ n ∧ i = .int .i64 (k : Int) ∧ Mod [] w wi) (fun i _ => ((n : Int) - intOf i).toNat)
  case atStart => exact ⟨0, by omega, rfl, Mod.refl _ _⟩
  case round =>
  obtain ⟨k, hk, rfl, hmi⟩ := hrel
  by_cases hkn : k < n
  case neg =>
    obtain rfl : n = k := by omega
    go_wp2_with fail
    go_ret
    exact ⟨rfl, hmi⟩
  have hkZ : (k : Int) < (n : Int) := by omega
  have hkl : k < l.length := by rw [← HH.out.1]; exact hkn
  obtain ⟨ga, oa, rfl, hca⟩ := HH.out.2.1.elem' ic 32 (by omega) ic_length k hkl
  obtain ⟨gb, ob, rfl, hcb⟩ := HH.out.2.2.elem' ic 32 (by omega) ic_length k hkl
  obtain ⟨e, he⟩ : ∃ q, q = l[k] := ⟨_, rfl⟩
  rw [← he] at hca hcb
  have HP := Lib.hid (And.intro (hca.keep hmi (by simp)) (And.intro (hcb.keep hmi (by simp)) hmi))
  clear hca hcb he hkl hmi
  go_wp2_with fail
  refine wp_region_ups [(16, .slice (some ⟨ga, oa, none⟩) n c), (17, .int .i64 (k : Int)), (18, .pointer (some ⟨ga, oa + k * 32, none⟩)), (19, iv e), (20, .slice (some ⟨gb, ob, none⟩) n d), (21, .int .i64 (k : Int)), (22, .pointer (some ⟨gb, ob + k * 32, none⟩)), (23, iv e), (24, .bool false)] 26 [16, 17, 18, 19, 20, 21, 22, 23, 24] rfl rfl (by decide) (by kernel_rfl) (fun lz v => Mod [] wr.drew v) (by kernel_rfl) (Mod.refl _ _) (by kernel_rfl) (by kernel_rfl) ?step ?fin
  case step =>
    intro lz T v j o hj hlj hdep hst hpar hgot hcl Kq hK
    have mv : ∀ v, Mod [] wr.drew v → Mod [] wr v := fun v h => (Mod.drew [] wr).then h
    have hjn : j < 9 := (Array.getElem?_eq_some_iff.1 hj).1
    obtain rfl | rfl | rfl | rfl | rfl | rfl | rfl | rfl | rfl : j = 0 ∨ j = 1 ∨ j = 2 ∨ j = 3 ∨ j = 4 ∨ j = 5 ∨ j = 6 ∨ j = 7 ∨ j = 8 := by omega
    all_goals (have hj' := Option.some.inj (hj : some _ = some o); subst hj'; clear hj)
    · exact wp_ran rfl (exec_move rfl (eval_tmp ((hpar 0 rfl).trans rfl))) (hK _ _ (fun s hs => by cases hs; rfl) hst)
    · exact wp_ran rfl (exec_move rfl (eval_tmp ((hpar 5 rfl).trans rfl))) (hK _ _ (fun s hs => by cases hs; rfl) hst)
    · exact wp_ran rfl (exec_ixs Tryd.underlying22 size25' hkn rfl (eval_tmp (hgot 0 _ 16 rfl (hdep ⟨0, .data⟩ (by simp) rfl) rfl)) (eval_tmp (hgot 1 _ 17 rfl (hdep ⟨1, .data⟩ (by simp) rfl) rfl))) (hK _ _ (fun s hs => by cases hs; rfl) hst)
    · exact wp_ran rfl (exec_load rfl (eval_tmp (hgot 2 _ 18 rfl (hdep ⟨2, .data⟩ (by simp) rfl) rfl)) (run_loads (HP.out.1.keep (mv v hst) (by simp)) Tryd.underlying25 rfl (size25i e))) (hK _ _ (fun s hs => by cases hs; rfl) hst)
    · exact wp_ran rfl (exec_move rfl (eval_tmp ((hpar 1 rfl).trans rfl))) (hK _ _ (fun s hs => by cases hs; rfl) hst)
    · exact wp_ran rfl (exec_move rfl (eval_tmp ((hpar 5 rfl).trans rfl))) (hK _ _ (fun s hs => by cases hs; rfl) hst)
    · exact wp_ran rfl (exec_ixs Tryd.underlying22 size25' hkn rfl (eval_tmp (hgot 4 _ 20 rfl (hdep ⟨4, .data⟩ (by simp) rfl) rfl)) (eval_tmp (hgot 5 _ 21 rfl (hdep ⟨5, .data⟩ (by simp) rfl) rfl))) (hK _ _ (fun s hs => by cases hs; rfl) hst)
    · exact wp_ran rfl (exec_load rfl (eval_tmp (hgot 6 _ 22 rfl (hdep ⟨6, .data⟩ (by simp) rfl) rfl)) (run_loads (HP.out.2.1.keep (mv v hst) (by simp)) Tryd.underlying25 rfl (size25i e))) (hK _ _ (fun s hs => by cases hs; rfl) hst)
    · exact wp_ran rfl (exec_ne25s rfl (eval_tmp (hgot 3 _ 19 rfl (hdep ⟨3, .data⟩ (by simp) rfl) rfl)) (eval_tmp (hgot 7 _ 23 rfl (hdep ⟨7, .data⟩ (by simp) rfl) rfl))) (hK _ _ (fun s hs => by cases hs; rfl) hst)
  case fin =>
  intro lz vr hlz hst
  replace hst : Mod [] wr vr := (Mod.drew [] wr).then hst
  have hmi := HP.out.2.2.then hst
  clear hst hlz HP
  simp only [setAll, List.foldl_cons, List.foldl_nil, List.toList_toArray, List.set_cons_succ, List.set_cons_zero]
  go_wp2_with fail
  exact ⟨⟨k + 1, by omega, by go_num, hmi⟩, by simp [intOf]; omega⟩

theorem lookup_some {s : Nat} : ∀ l : List (Nat × Value), s ∈ l.map (·.1) → ∃ v, l.lookup s = some v := by
  intro l
  induction l with
  | nil => intro h; cases h
  | cons p l ih =>
    intro h
    by_cases hs : s = p.1
    · subst hs
      exact ⟨p.2, by simp [List.lookup]⟩
    · have hb : (s == p.1) = false := by simpa using hs
      rcases List.mem_cons.1 (by simpa using h : s ∈ p.1 :: l.map (·.1)) with h1 | h1
      · exact absurd h1 hs
      · obtain ⟨v, hv⟩ := ih h1
        exact ⟨v, by simp [List.lookup, hb, hv]⟩
theorem wp_region_upx {P : Program} {X : Type} {ops : Array Oper} {Q : Exit → Act → World → Prop} {id : Nat} {a : Act} {w : World} (x0 : X) (ups : X → List (Nat × Value)) (n : Nat) (ks : List Nat) (hn : a.tmps.size = n) (hks : ∀ x, (ups x).map (·.1) = ks) (hnd : ks.Nodup) (hD : ((List.range ops.size).all fun j => match (ops[j]?).bind (·.dst) with | some s => decide (s < n) && ks.contains s | none => true) = true) (st : X → (Nat → Bool) → World → Prop) (hm : P.follows .mixedOrders = true) (h0 : st x0 (fun _ => false) w.drew)
    (hB : drawn2B ops n = true) (hC : coverB ops n (restOf n ks) = true)
    (hstep : ∀ (x : X) (l : Nat → Bool) (T : Act) (v : World) (i : Nat) (o : Oper), ops[i]? = some o → l i = false → (∀ e ∈ o.after, Region.binds .any e = true → l e.on = true) → st x l v →
      (∀ s, (decide (s < n) && !ks.contains s) = true → T.tmps[s]? = a.tmps[s]?) → (∀ (j : Nat) (o' : Oper) (s : Nat), ops[j]? = some o' → l j = true → o'.dst = some s → T.tmps[s]? = (ups x).lookup s) → Closed ops l →
      ∀ K : Act → World → Prop, (∀ x' u v', (∀ (j : Nat) (o' : Oper) (s : Nat), ops[j]? = some o' → l j = true → o'.dst = some s → (ups x').lookup s = (ups x).lookup s) → (∀ s, o.dst = some s → some u = (ups x').lookup s) → st x' (fun j => if j = i then true else l j) v' → K (T.put o.dst u) v') →
        if Region.wanted o (yielded ops T.tmps) = true then o.wp P T v K Q else K (T.put o.dst undef) v)
    (hend : ∀ (x : X) (l : Nat → Bool) (v : World), (∀ j, j < ops.size → l j = true) → st x l v → Q .normal ⟨(setAll a.tmps.toList (ups x)).toArray, a.defers⟩ v) :
    (Code.region id ops true).wp P Q a w := by
  subst hn
  have key : ∀ (x : X) (j : Nat) (o' : Oper) (s : Nat), ops[j]? = some o' → o'.dst = some s → some ((setAll a.tmps.toList (ups x)).getD s undef) = (ups x).lookup s := fun x j o' s h1 h2 => by
    have hj := (Array.getElem?_eq_some_iff.1 h1).1
    have h3 := List.all_eq_true.1 hD j (List.mem_range.2 hj)
    rw [h1] at h3
    simp only [Option.bind_some, h2, Bool.and_eq_true, decide_eq_true_eq] at h3
    have h4 : s ∈ (ups x).map (·.1) := by rw [hks]; simpa using h3.2
    obtain ⟨v, hv⟩ := lookup_some _ h4
    rw [hv, List.getD_eq_getElem?_getD, setAll_lookup s v (ups x) _ (by rw [hks]; exact hnd) (by simpa using h3.1) hv]
    rfl
  have oth : ∀ (x : X) (s : Nat), s < a.tmps.size → s ∉ ks → (setAll a.tmps.toList (ups x))[s]? = a.tmps.toList[s]? := fun x s _ hk => setAll_other s (ups x) a.tmps.toList (by rw [hks]; exact hk)
  refine wp_region_lit x0 (fun x => setAll a.tmps.toList (ups x)) a.tmps.size (restOf a.tmps.size ks) st a.defers hm (fun x => by rw [setAll_length]; simp) rfl rfl ?_ (fun x => ?_) h0 hB hC ?_ hend
  · apply List.map_congr_left
    intro s hs
    obtain ⟨h1, h2⟩ := List.mem_filter.1 hs
    have hlt : s < a.tmps.size := List.mem_range.1 h1
    have hk : s ∉ ks := by simpa using h2
    rw [List.getD_eq_getElem?_getD, oth x0 s hlt hk]
    simp [hlt]
  · apply List.map_congr_left
    intro s hs
    obtain ⟨h1, h2⟩ := List.mem_filter.1 hs
    have hlt : s < a.tmps.size := List.mem_range.1 h1
    have hk : s ∉ ks := by simpa using h2
    rw [List.getD_eq_getElem?_getD, List.getD_eq_getElem?_getD, oth x s hlt hk, oth x0 s hlt hk]
  · intro x l T v i o ho hl hdep hst hpar hgot hcl K hK
    refine hstep x l T v i o ho hl hdep hst (fun s hs => ?_) (fun j o' s h1 h2 h3 => ?_) hcl K (fun x' u v' hx hu hv => hK x' u v' (fun j o' s g1 g2 g3 => ?_) (fun s hs => ?_) hv)
    · rw [Bool.and_eq_true, decide_eq_true_eq] at hs
      have hk : s ∉ ks := by simpa using hs.2
      rw [hpar s (List.mem_filter.2 ⟨List.mem_range.2 hs.1, hs.2⟩), List.getD_eq_getElem?_getD, oth x s hs.1 hk]
      simp [hs.1]
    · rw [hgot j o' s h1 h2 h3, key x j o' s h1 h3]
    · have e1 := key x' j o' s g1 g3
      have e2 := key x j o' s g1 g3
      rw [hx j o' s g1 g2 g3, ← e2] at e1
      exact Option.some.inj e1
    · have h1 := hu s hs
      have h2 := key x' i o s ho hs
      rw [← h1] at h2
      exact (Option.some.inj h2).symm
section
variable {v : World} {o : Oper} {ρ : Operand → Value} {x y : Operand}
theorem exec_nebs {t t' : TypeId} {b : Bool} (hu : Tryd.prog.underlying t = some .bool) (ho : o.op = .binOp .neq t x y t') (hx : ρ x = .bool b) (hy : ρ y = .bool b) : (execOp ρ o).run Tryd.prog v = .ok (.value (.bool false)) v := by
  have h := exec_neb (v := v) hu ho hx hy
  cases b <;> exact h
theorem exec_eq25b {X Y : Idv} {b : Bool} (hb : b = decide (X = Y)) (ho : o.op = .binOp .eql 25 x y 25) (hx : ρ x = iv X) (hy : ρ y = iv Y) : (execOp ρ o).run Tryd.prog v = .ok (.value (.bool b)) v := by
  subst hb
  exact exec_eq25 ho hx hy
theorem exec_storeR {Y : Value} {a : Addr} {v' : World} (ho : o.op = .store 25 x y) (hx : ρ x = .pointer (some a)) (hy : ρ y = Y) (hr : (storeVar 25 a Y).run Tryd.prog v = .ok () v') : (execOp ρ o).run Tryd.prog v = .ok .skip v' := by
  unfold execOp
  simp only [ho, hx, hy, Instr.storeAt, Instr.sureAddr, Sem.run_bind, Sem.run_pure, Result.andThen_ok, hr]
end
theorem own_store0 {w : World} {g : Nat} {c : Nat} {l : List Idv} (h : OwnG ic 25 32 w (some ⟨g, 0, none⟩) c l) (k : Nat) (hk : k < l.length) (y : Idv) :
    ∃ v, (storeVar 25 ⟨g, 0 + k * 32, none⟩ (iv y)).run Tryd.prog w = .ok () v ∧ OwnG ic 25 32 v (some ⟨g, 0, none⟩) c (l.set k y) ∧ Mod [g] w v := by
  obtain ⟨g', v, e, h1, h2, h3⟩ := own_store h k hk y
  cases e
  rw [Nat.zero_add]
  exact ⟨v, h1, h2, h3⟩
theorem own_form {w : World} {A : Option Addr} {c : Nat} {l : List Idv} (h : OwnG ic 25 32 w A c l) (hk : 0 < l.length) : ∃ g, A = some ⟨g, 0, none⟩ := by
  obtain ⟨g, v, e, _⟩ := own_store h 0 hk zeroI
  exact ⟨g, e⟩

section
variable {v : World} {o : Oper} {ρ : Operand → Value} {x y : Operand}
theorem exec_cuu {a : Int} {u : Nat} (hu : IntKind.u64.wrap a = (u : Int)) (ho : o.op = .convert 3 47 x) (hx : ρ x = .int .i64 a) : (execOp ρ o).run Tryd.prog v = .ok (.value (.int .u64 (u : Int))) v := by
  rw [← hu]
  exact exec_cu ho hx
theorem exec_cu67 (ho : o.op = .convert 3 47 x) (hx : ρ x = .int .i64 67) : (execOp ρ o).run Tryd.prog v = .ok (.value (.int .u64 67)) v :=
  exec_cuu (u := 67) (by decide) ho hx
theorem exec_ruq {u q : Nat} (hq : q = u % 67) (ho : o.op = .binOp .rem 47 x y 47) (hx : ρ x = .int .u64 (u : Int)) (hy : ρ y = .int .u64 67) : (execOp ρ o).run Tryd.prog v = .ok (.value (.int .u64 (q : Int))) v := by
  subst hq
  exact exec_ru ho hx hy
end
set_option maxRecDepth 100000 in
set_option maxHeartbeats 40000000 in
theorem signs0_w (x m : Idv) (A : Option Addr) (cap : Nat) (l : List Trn) (hl : l.length ≤ cap) (hm : cap ≤ maxLen) (w : World) (RA : Cells w A (l.flatMap tnc)) (Gl : Glob w) :
    Calls Tryd.prog 5 #[iv x, iv m, .slice A l.length cap] w fun r w' => r = .returned (.bool true) ∧ Mod [] w w' := by
  have WK := fun v (mv : Mod [] w v) => wakes_c v (Gl.then mv)
  obtain ⟨s, hs⟩ : ∃ s, s = signI x m := ⟨_, rfl⟩
  obtain ⟨q, hq⟩ : ∃ q, q = keyI x := ⟨_, rfl⟩
  have S1 := fun v (mv : Mod [] w v) => sign_c x m v (Gl.then mv)
  have S2 := fun v (mv : Mod [] w v) => lsigned_c x m v (Gl.then mv)
  have K1 := fun v (mv : Mod [] w v) => lkey_c x v (Gl.then mv)
  have K2 := fun v (mv : Mod [] w v) => key_c x v (Gl.then mv)
  have hs67 : s.length = 67 := by rw [hs]; exact signI_length x m
  rw [← hs] at S1 S2
  rw [← hq] at K1 K2
  obtain ⟨i0, j1, j2, j3, j4⟩ := info_parts id_parts
  have HI := Lib.hid (And.intro j1 (And.intro j2 (And.intro j3 j4)))
  obtain ⟨n, hn⟩ : ∃ n, n = l.length := ⟨_, rfl⟩
  rw [← hn] at hl ⊢
  have hm9 : maxLen ≤ 9223372036854775807 := by decide
  have hnZ : (n : Int) ≤ 9223372036854775807 := by omega
  have HL := Lib.hid (And.intro hn (And.intro RA (And.intro Gl hs67)))
  have h63 : (([] : List Idv).length + s.length) * 32 ≤ 140737488355328 := by rw [List.length_nil]; omega
  have h64 : ([] : List Idv).length + s.length ≤ maxLen := by
    have h9 : (200 : Nat) ≤ maxLen := by decide
    rw [List.length_nil]; omega
  have HS := Lib.hid (And.intro h63 h64)
  clear hl hm hm9 hn RA Gl hs hq hs67 j1 j2 j3 j4 h63 h64
  go_enter Tryd.func5, Tryd.ntmps5
  go_wp2_with (first
    | (with_reducible refine wpList_boxes (o := ⟨some 3, .box 25 (.tmp 0), _, _, _, _⟩) rfl 25 (.tmp 0) rfl _ rfl (ic x) rfl ?_; intro w1 hb1 m1 z1; replace z1 := Lib.hid z1)
    | (with_reducible refine wpList_boxes (o := ⟨some 4, .box 25 (.tmp 1), _, _, _, _⟩) rfl 25 (.tmp 1) rfl _ rfl (ic m) rfl ?_; intro w2 hb2 m2 z2; replace z2 := Lib.hid z2)
    | (go_at_call 10; refine (WK w2 (m1.then m2)).mono ?_
       rintro e w3 ⟨rfl, m3⟩
       obtain ⟨b3, hq3⟩ : ∃ q, q = w.heap.size := ⟨_, rfl⟩
       obtain ⟨b4, hq5⟩ : ∃ q, q = w1.heap.size := ⟨_, rfl⟩
       have k3 : Holds w3 b3 25 (ic x) := by rw [hq3]; exact (hb1.keep m2 (by simp)).keep m3 (by simp)
       have k4 : Holds w3 b4 25 (ic m) := by rw [hq5]; exact hb2.keep m3 (by simp)
       have mm : Mod [] w w3 := (m1.then m2).then m3
       rw [← hq3, ← hq5]
       clear hb1 hb2 m1 m2 z1 z2 m3 hq3 hq5 WK))
  refine wp_region_upx (X := Xd) ⟨none, 0, none, 0⟩ (fun y => [(19, iv x), (20, iv m), (21, .slice y.A 67 y.ca), (22, iv x), (23, iv m), (24, .slice y.B 67 y.cb), (7, .slice y.A 67 y.ca), (8, .slice y.B 67 y.cb)]) 103 [19, 20, 21, 22, 23, 24, 7, 8] rfl (fun _ => rfl) (by decide) (by kernel_rfl)
    (fun y lz v => Mod [] w3 v ∧ (lz 2 = true → OwnG ic 25 32 v y.A y.ca s) ∧ (lz 5 = true → OwnG ic 25 32 v y.B y.cb s)) (by kernel_rfl) ⟨Mod.drew _ w3, (fun q => by cases q), (fun q => by cases q)⟩ (by kernel_rfl) (by kernel_rfl) ?step ?fin
  case step =>
    intro y lz T v j o hj hlj hdep hst hpar hgot hcl Kq hK
    obtain ⟨s0, s1, s3⟩ := hst
    have hjn : j < 8 := (Array.getElem?_eq_some_iff.1 hj).1
    obtain rfl | rfl | rfl | rfl | rfl | rfl | rfl | rfl : j = 0 ∨ j = 1 ∨ j = 2 ∨ j = 3 ∨ j = 4 ∨ j = 5 ∨ j = 6 ∨ j = 7 := by omega
    all_goals (have hj' := Option.some.inj (hj : some _ = some o); subst hj'; clear hj)
    · exact wp_ran rfl (exec_load rfl (eval_tmp ((hpar 3 rfl).trans rfl)) (run_loads (Cells.of_holds (k3.keep s0 (by simp))) Tryd.underlying25 rfl (size25i x))) (hK y _ _ (fun _ _ _ _ _ _ => rfl) (fun s hs => by cases hs; rfl) ⟨s0, by simpa using s1, by simpa using s3⟩)
    · exact wp_ran rfl (exec_load rfl (eval_tmp ((hpar 4 rfl).trans rfl)) (run_loads (Cells.of_holds (k4.keep s0 (by simp))) Tryd.underlying25 rfl (size25i m))) (hK y _ _ (fun _ _ _ _ _ _ => rfl) (fun s hs => by cases hs; rfl) ⟨s0, by simpa using s1, by simpa using s3⟩)
    · refine wp_called rfl (exec_call2 rfl rfl (eval_tmp (hgot 0 _ 19 rfl (hdep ⟨0, .data⟩ (by simp) rfl) rfl)) (eval_tmp (hgot 1 _ 20 rfl (hdep ⟨1, .data⟩ (by simp) rfl) rfl)) (enters_of Tryd.func19 (by kernel_rfl) rfl)) ((S1 v (mm.then s0)).mono ?_)
      rintro e v' ⟨A', c', rfl, g1, g2, g3⟩
      have l4 : lz 6 = false := (by cases hh : lz 6 with | false => rfl | true => exact absurd (hcl 6 _ rfl hh ⟨2, .data⟩ (by simp) rfl) (by rw [hlj]; simp))
      exact ⟨_, rfl, hK { y with A := A', ca := c' } _ _ (fun j' o' s' g1 g2 g3 => by
          have g4 : j' < 8 := (Array.getElem?_eq_some_iff.1 g1).1
          obtain rfl | rfl | rfl | rfl | rfl | rfl | rfl | rfl : j' = 0 ∨ j' = 1 ∨ j' = 2 ∨ j' = 3 ∨ j' = 4 ∨ j' = 5 ∨ j' = 6 ∨ j' = 7 := by omega
          all_goals (cases g1; cases g3 <;> first | rfl | (rw [hlj] at g2; cases g2) | (rw [l4] at g2; cases g2))) (fun s hs => by cases hs; rfl) ⟨s0.then g2, fun _ => g1, by simpa using fun q => (s3 q).keep g2 (by simp)⟩⟩
    · exact wp_ran rfl (exec_load rfl (eval_tmp ((hpar 3 rfl).trans rfl)) (run_loads (Cells.of_holds (k3.keep s0 (by simp))) Tryd.underlying25 rfl (size25i x))) (hK y _ _ (fun _ _ _ _ _ _ => rfl) (fun s hs => by cases hs; rfl) ⟨s0, by simpa using s1, by simpa using s3⟩)
    · exact wp_ran rfl (exec_load rfl (eval_tmp ((hpar 4 rfl).trans rfl)) (run_loads (Cells.of_holds (k4.keep s0 (by simp))) Tryd.underlying25 rfl (size25i m))) (hK y _ _ (fun _ _ _ _ _ _ => rfl) (fun s hs => by cases hs; rfl) ⟨s0, by simpa using s1, by simpa using s3⟩)
    · refine wp_called rfl (exec_call2 rfl rfl (eval_tmp (hgot 3 _ 22 rfl (hdep ⟨3, .data⟩ (by simp) rfl) rfl)) (eval_tmp (hgot 4 _ 23 rfl (hdep ⟨4, .data⟩ (by simp) rfl) rfl)) (enters_of Tryd.func20 (by kernel_rfl) rfl)) ((S2 v (mm.then s0)).mono ?_)
      rintro e v' ⟨A', c', rfl, g1, g2, g3⟩
      have l4 : lz 7 = false := (by cases hh : lz 7 with | false => rfl | true => exact absurd (hcl 7 _ rfl hh ⟨5, .data⟩ (by simp) rfl) (by rw [hlj]; simp))
      exact ⟨_, rfl, hK { y with B := A', cb := c' } _ _ (fun j' o' s' g1 g2 g3 => by
          have g4 : j' < 8 := (Array.getElem?_eq_some_iff.1 g1).1
          obtain rfl | rfl | rfl | rfl | rfl | rfl | rfl | rfl : j' = 0 ∨ j' = 1 ∨ j' = 2 ∨ j' = 3 ∨ j' = 4 ∨ j' = 5 ∨ j' = 6 ∨ j' = 7 := by omega
          all_goals (cases g1; cases g3 <;> first | rfl | (rw [hlj] at g2; cases g2) | (rw [l4] at g2; cases g2))) (fun s hs => by cases hs; rfl) ⟨s0.then g2, by simpa using fun q => (s1 q).keep g2 (by simp), fun _ => g1⟩⟩
    · exact wp_ran rfl (exec_assign rfl (eval_tmp (hgot 2 _ 21 rfl (hdep ⟨2, .data⟩ (by simp) rfl) rfl))) (hK y _ _ (fun _ _ _ _ _ _ => rfl) (fun s hs => by cases hs; rfl) ⟨s0, by simpa using s1, by simpa using s3⟩)
    · exact wp_ran rfl (exec_assign rfl (eval_tmp (hgot 5 _ 24 rfl (hdep ⟨5, .data⟩ (by simp) rfl) rfl))) (hK y _ _ (fun _ _ _ _ _ _ => rfl) (fun s hs => by cases hs; rfl) ⟨s0, by simpa using s1, by simpa using s3⟩)
  case fin =>
  intro y lz vr hl hst
  obtain ⟨s0, s1, s3⟩ := hst
  have hA := s1 (hl 2 (by decide))
  have hB := s3 (hl 5 (by decide))
  replace mm : Mod [] w vr := mm.then s0
  replace k3 := k3.keep s0 (by simp)
  replace k4 := k4.keep s0 (by simp)
  obtain ⟨Ya, hYa⟩ : ∃ q, q = y.A := ⟨_, rfl⟩
  obtain ⟨Yb, hYb⟩ : ∃ q, q = y.B := ⟨_, rfl⟩
  obtain ⟨na, hna⟩ : ∃ q, q = y.ca := ⟨_, rfl⟩
  obtain ⟨nb, hnb⟩ : ∃ q, q = y.cb := ⟨_, rfl⟩
  rw [← hYa, ← hna] at hA
  rw [← hYb, ← hnb] at hB
  rw [← hYa, ← hYb, ← hna, ← hnb]
  clear s0 s1 s3 hYa hYb hna hnb hl S1 S2
  simp only [setAll, List.foldl_cons, List.foldl_nil, List.set_cons_succ, List.set_cons_zero]
  go_wp2_with (first
    | (with_reducible refine wpList_loads (o := ⟨some 25, .load 25 (.tmp 3), _, _, _, _⟩) rfl 25 (.tmp 3) rfl b3 0 _ rfl (Cells.of_holds k3) _ Tryd.underlying25 rfl (size25i x) (iv x) rfl ?_)
    | (go_at_call 21; refine (K1 _ mm).mono ?_
       rintro e v1 ⟨rfl, m1⟩
       replace k3 := k3.keep m1 (by simp)
       replace k4 := k4.keep m1 (by simp)
       replace hA := hA.keep m1 (by simp)
       replace hB := hB.keep m1 (by simp)
       replace mm := mm.then m1
       clear K1 m1)
    | (with_reducible refine wpList_allocs (o := ⟨some 9, .alloc 25, _, _, _, _⟩) rfl 25 rfl _ zeroI_25 ?_; intro y1 hy1 my1 zy1; replace zy1 := Lib.hid zy1)
    | (with_reducible refine wpList_storesAll (o := ⟨none, .store 25 (.tmp 9) (.tmp 26), _, _, _, _⟩) rfl 25 (.tmp 9) (.tmp 26) rfl rfl v1.heap.size (ic q) rfl (iv q) rfl rfl 25 _ hy1 (by rw [ic_length, ic_length]) (ic_one _) (size25i _) ?_
       intro u1 k9 mu1 zu1
       clear zu1
       have q1 : Mod [] v1 u1 := my1.trans mu1 (by intro i hi h; simp at h; omega)
       obtain ⟨b9, hd1⟩ : ∃ b, b = v1.heap.size := ⟨_, rfl⟩
       rw [← hd1] at k9 ⊢
       replace k3 := k3.keep q1 (by simp)
       replace k4 := k4.keep q1 (by simp)
       replace hA := hA.keep q1 (by simp)
       replace hB := hB.keep q1 (by simp)
       replace mm := mm.then q1
       clear hy1 my1 zy1 mu1 q1 hd1))
  refine wp_region_ups [(27, .slice Ya 67 na), (28, .slice Yb 67 nb), (29, .bool true), (30, .bool false), (31, .bool false), (32, iv x), (33, iv q), (34, iv q), (35, .bool false), (36, .bool false)] 103 [27, 28, 29, 30, 31, 32, 33, 34, 35, 36] rfl rfl (by decide +kernel) (by kernel_rfl) (fun lz v => Mod [] u1.drew v) (by kernel_rfl) (Mod.refl _ _) (by kernel_rfl) (by kernel_rfl) ?step ?fin
  case step =>
    intro lz T v j o hj hlj hdep hst hpar hgot hcl Kq hK
    have mv : ∀ v, Mod [] u1.drew v → Mod [] u1 v := fun v h => (Mod.drew [] u1).then h
    have hjn : j < 10 := (Array.getElem?_eq_some_iff.1 hj).1
    obtain rfl | rfl | rfl | rfl | rfl | rfl | rfl | rfl | rfl | rfl : j = 0 ∨ j = 1 ∨ j = 2 ∨ j = 3 ∨ j = 4 ∨ j = 5 ∨ j = 6 ∨ j = 7 ∨ j = 8 ∨ j = 9 := by omega
    all_goals (have hj' := Option.some.inj (hj : some _ = some o); subst hj'; clear hj)
    · exact wp_ran rfl (exec_move rfl (eval_tmp ((hpar 7 rfl).trans rfl))) (hK _ _ (fun s hs => by cases hs; rfl) hst)
    · exact wp_ran rfl (exec_move rfl (eval_tmp ((hpar 8 rfl).trans rfl))) (hK _ _ (fun s hs => by cases hs; rfl) hst)
    · exact wp_called rfl (exec_call2 rfl rfl (eval_tmp (hgot 0 _ 27 rfl (hdep ⟨0, .data⟩ (by simp) rfl) rfl)) (eval_tmp (hgot 1 _ 28 rfl (hdep ⟨1, .data⟩ (by simp) rfl) rfl)) (enters_of Tryd.func22 (by kernel_rfl) rfl)) ((same_yes Ya Yb 67 na nb s HL.out.2.2.2.symm (by decide) v (hA.keep (mv v hst) (by simp)).cells (hB.keep (mv v hst) (by simp)).cells).mono (fun e v' hh => ⟨_, hh.1, hK _ _ (fun s hs => by cases hs; rfl) (hst.then hh.2)⟩))
    · exact wp_ran rfl (exec_not rfl (eval_tmp (hgot 2 _ 29 rfl (hdep ⟨2, .data⟩ (by simp) rfl) rfl))) (hK _ _ (fun s hs => by cases hs; rfl) hst)
    · exact wp_ran rfl (exec_move rfl (eval_tmp (hgot 3 _ 30 rfl (hdep ⟨3, .data⟩ (by simp) rfl) rfl))) (hK _ _ (fun s hs => by cases hs; rfl) hst)
    · exact wp_ranW (wanted_yes rfl rfl rfl (hgot 4 _ 31 rfl (hdep ⟨4, .guard⟩ (by simp) rfl) rfl)) (exec_load rfl (eval_tmp ((hpar 3 rfl).trans rfl)) (run_loads (Cells.of_holds (k3.keep (mv v hst) (by simp))) Tryd.underlying25 rfl (size25i x))) (hK _ _ (fun s hs => by cases hs; rfl) hst)
    · exact wp_calledW (wanted_yes rfl rfl rfl (hgot 4 _ 31 rfl (hdep ⟨4, .guard⟩ (by simp) rfl) rfl)) (exec_call1 rfl rfl (eval_tmp (hgot 5 _ 32 rfl (hdep ⟨5, .data⟩ (by simp) rfl) rfl)) (enters_of Tryd.func23 (by kernel_rfl) rfl)) ((K2 v (mm.then (mv v hst))).mono (fun e v' hh => ⟨_, hh.1, hK _ _ (fun s hs => by cases hs; rfl) (hst.then hh.2)⟩))
    · exact wp_ranW (wanted_yes rfl rfl rfl (hgot 4 _ 31 rfl (hdep ⟨4, .guard⟩ (by simp) rfl) rfl)) (exec_load rfl (eval_tmp ((hpar 9 rfl).trans rfl)) (run_loads (Cells.of_holds (k9.keep (mv v hst) (by simp))) Tryd.underlying25 rfl (size25i q))) (hK _ _ (fun s hs => by cases hs; rfl) hst)
    · exact wp_ranW (wanted_yes rfl rfl rfl (hgot 4 _ 31 rfl (hdep ⟨4, .guard⟩ (by simp) rfl) rfl)) (exec_ne25s rfl (eval_tmp (hgot 6 _ 33 rfl (hdep ⟨6, .data⟩ (by simp) rfl) rfl)) (eval_tmp (hgot 7 _ 34 rfl (hdep ⟨7, .data⟩ (by simp) rfl) rfl))) (hK _ _ (fun s hs => by cases hs; rfl) hst)
    · exact wp_ran rfl (exec_pick rfl (eval_tmp (hgot 4 _ 31 rfl (hdep ⟨4, .data⟩ (by simp) rfl) rfl)) rfl (eval_tmp (hgot 8 _ 35 rfl (hdep ⟨8, .data⟩ (by simp) rfl) rfl)) rfl) (hK _ _ (fun s hs => by cases hs; rfl) hst)
  case fin =>
  intro lz vr hlz hst
  replace hst : Mod [] u1 vr := (Mod.drew [] u1).then hst
  replace k4 := k4.keep hst (by simp)
  replace k9 := k9.keep hst (by simp)
  replace hB := hB.keep hst (by simp)
  replace mm := mm.then hst
  have HK := Lib.hid (And.intro k4 (And.intro k9 (And.intro hB mm)))
  clear hst hlz K2 hA k3 k4 k9 hB mm
  simp only [Act.put, setAll, List.foldl_cons, List.foldl_nil, List.setIfInBounds_toArray, List.set_cons_succ, List.set_cons_zero]
  go_wp2_with fail
  go_loopw [39] (fun i wi => ∃ k : Nat, k ≤ n ∧ i = .int .i64 (k : Int) ∧ Holds wi b4 25 (ic m) ∧ Holds wi b9 25 (ic q) ∧ OwnG ic 25 32 wi Yb nb s ∧ Mod [] w wi) (fun i _ => ((n : Int) - intOf i).toNat)
  case atStart => exact ⟨0, by omega, rfl, HK.out.1, HK.out.2.1, HK.out.2.2.1, HK.out.2.2.2⟩
  case round =>
  obtain ⟨k, hk, rfl, k4, k9, hB, mm⟩ := hrel
  by_cases hkn : k < n
  case neg =>
    obtain rfl : n = k := by omega
    go_wp2_with fail
    go_ret
    exact ⟨rfl, mm⟩
  have hkZ : (k : Int) < (n : Int) := by omega
  have hkl : k < l.length := by rw [← HL.out.1]; exact hkn
  obtain ⟨ga, oa, rfl, hce⟩ := HL.out.2.1.elem' tnc 33 (by omega) tnc_length k hkl
  obtain ⟨r, hr⟩ : ∃ q, q = l[k] := ⟨_, rfl⟩
  rw [← hr] at hce
  have hci := hce.keep mm (by simp)
  clear hce hr hkl HK
  by_cases h6 : k = 6
  · subst h6
    go_wp2_with (first
      | (with_reducible refine wpList_loads (o := ⟨some 43, .load 46 (.tmp 42), _, _, _, _⟩) rfl 46 (.tmp 42) rfl ga (oa + 6 * 33) _ rfl hci _ Tryd.underlying46 rfl (size46 r) (.agg (tnc r).toArray) rfl ?_)
      | (with_reducible refine wpList_allocs (o := ⟨some 11, .alloc 46, _, _, _, _⟩) rfl 46 rfl _ zero46 ?_; intro w1 hb1 m1 z1; replace z1 := Lib.hid z1)
      | (with_reducible refine wpList_storesAll (o := ⟨none, .store 46 (.tmp 11) (.tmp 43), _, _, _, _⟩) rfl 46 (.tmp 11) (.tmp 43) rfl rfl wr.heap.size (tnc r) rfl (.agg (tnc r).toArray) rfl rfl 46 _ hb1 (by rw [tnc_length, tnc_length]) (tnc_one r) (size46 r) ?_
         intro w2 k11 m2 z2
         clear z2
         have mx : Mod [] wr w2 := m1.trans m2 (by intro i hi h; simp at h; omega)
         obtain ⟨b11, hb4e⟩ : ∃ q, q = wr.heap.size := ⟨_, rfl⟩
         rw [← hb4e] at k11 ⊢
         replace k4 := k4.keep mx (by simp)
         replace k9 := k9.keep mx (by simp)
         replace hB := hB.keep mx (by simp)
         replace mm := mm.then mx
         clear hb1 m1 z1 m2 mx hb4e hci))
    go_ret
    exact ⟨rfl, mm⟩
  have h6Z : ¬ (k : Int) = 6 := by omega
  go_wp2_with (first
    | (with_reducible refine wpList_loads (o := ⟨some 43, .load 46 (.tmp 42), _, _, _, _⟩) rfl 46 (.tmp 42) rfl ga (oa + k * 33) _ rfl hci _ Tryd.underlying46 rfl (size46 r) (.agg (tnc r).toArray) rfl ?_)
    | (with_reducible refine wpList_allocs (o := ⟨some 11, .alloc 46, _, _, _, _⟩) rfl 46 rfl _ zero46 ?_; intro w1 hb1 m1 z1; replace z1 := Lib.hid z1)
    | (with_reducible refine wpList_storesAll (o := ⟨none, .store 46 (.tmp 11) (.tmp 43), _, _, _, _⟩) rfl 46 (.tmp 11) (.tmp 43) rfl rfl wr.heap.size (tnc r) rfl (.agg (tnc r).toArray) rfl rfl 46 _ hb1 (by rw [tnc_length, tnc_length]) (tnc_one r) (size46 r) ?_
       intro w2 k11 m2 z2
       clear z2
       have mx : Mod [] wr w2 := m1.trans m2 (by intro i hi h; simp at h; omega)
       obtain ⟨b11, hb4e⟩ : ∃ q, q = wr.heap.size := ⟨_, rfl⟩
       rw [← hb4e] at k11 ⊢
       replace k4 := k4.keep mx (by simp)
       replace k9 := k9.keep mx (by simp)
       replace hB := hB.keep mx (by simp)
       replace mm := mm.then mx
       clear hb1 m1 z1 m2 mx hb4e hci)
    | (with_reducible refine wpList_made (o := ⟨some 46, .buildSlice 22 0 _, _, _, _, _⟩) (by with_unfolding_all rfl) _ 25 ([] : List Value) (exec_none22 rfl) ?_
       intro w4 hb4 m4 z4
       have O4 : OwnG ic 25 32 w4 (some ⟨w2.heap.size, 0, none⟩) 0 [] := OwnG.of_holds (l := []) hb4 ic_length (by decide)
       have i4 := k4.lt
       have i9 := k9.lt
       have i11 := k11.lt
       have iB := hB.lt
       replace k4 := k4.keep m4 (by simp)
       replace k9 := k9.keep m4 (by simp)
       replace k11 := k11.keep m4 (by simp)
       replace hB := hB.keep m4 (by simp)
       have hsz : w.heap.size ≤ w2.heap.size := mm.size
       have hsz4 : w2.heap.size ≤ w4.heap.size := m4.size
       replace mm := mm.then m4
       obtain ⟨N2, hN2⟩ : ∃ q, q = w2.heap.size := ⟨_, rfl⟩
       rw [← hN2] at O4 i4 i9 i11 iB hsz hsz4 ⊢
       obtain ⟨Y, hY⟩ : ∃ Y : Option Addr, Y = some ⟨N2, 0, none⟩ := ⟨_, rfl⟩
       have hYb : ∀ i ∈ blk Y, N2 ≤ i := by rw [hY]; intro i hi; have : i = N2 := by simpa [blk] using hi
                                            omega
       rw [← hY] at O4 ⊢
       clear hb4 m4 z4 hY hN2)
    | (with_reducible refine wpList_appendG (f := ic) w4 (o := ⟨some 48, _, _, _, _, _⟩) rfl (.tmp 46) (.tmp 47) 22 rfl 25 i0 (iv zeroI) 32 Tryd.underlying22 HI.out.1 HI.out.2.1 HI.out.2.2.1 HI.out.2.2.2 (by with_unfolding_all rfl) p32 ic_length ic_one Y 0 0 [] rfl List.length_nil.symm O4 Yb 67 nb s rfl HL.out.2.2.2.symm hB.cells HS.out.1 HS.out.2 ?_
       intro A2 c2 w5 hO5 m5 q5
       have hO : OwnG ic 25 32 w5 A2 c2 s := by simpa using hO5
       have hA2 : ∀ i ∈ blk A2, N2 ≤ i := fun i hi => by
         obtain ⟨a, ha, rfl⟩ := mem_blk hi
         rcases q5 a ha with h | h
         · exact hYb _ h
         · omega
       replace k4 := k4.keep m5 (fun h => by have := hYb _ h; omega)
       replace k9 := k9.keep m5 (fun h => by have := hYb _ h; omega)
       replace k11 := k11.keep m5 (fun h => by have := hYb _ h; omega)
       replace hB := hB.keep m5 (fun a ha h => by have := hYb _ h; have := iB a ha; omega)
       replace mm := far_mod mm m5 (fun i hi => by have := hYb _ hi; omega)
       obtain ⟨j', hj'⟩ : ∃ q, q = ([] ++ s).length := ⟨_, rfl⟩
       rw [← hj']
       obtain rfl : j' = 67 := by rw [hj']; exact HL.out.2.2.2
       clear hO5 m5 q5 O4 hYb hsz4 hj'))
  obtain ⟨g2, rfl⟩ := own_form hO (by rw [HL.out.2.2.2]; omega)
  obtain ⟨u, hu⟩ := wrap_nat r.a
  obtain ⟨qq, hqq⟩ : ∃ qq, qq = u % 67 := ⟨_, rfl⟩
  have hqq67 : qq < 67 := by omega
  have hg2 : N2 ≤ g2 := hA2 g2 (by simp [blk])
  obtain ⟨s2, hs2⟩ : ∃ t, t = s.set qq r.y := ⟨_, rfl⟩
  have hs267 : s2.length = 67 := by rw [hs2, List.length_set]; exact HL.out.2.2.2
  have ini : Holds w5.drew b4 25 (ic m) ∧ Holds w5.drew b9 25 (ic q) ∧ Holds w5.drew b11 46 (tnc r) ∧ OwnG ic 25 32 w5.drew Yb nb s ∧ Mod [] w w5.drew := ⟨k4.keep (Mod.drew [] w5) (by simp), k9.keep (Mod.drew [] w5) (by simp), k11.keep (Mod.drew [] w5) (by simp), hB.keep (Mod.drew [] w5) (by simp), mm.then (Mod.drew [] w5)⟩
  have iniO := hO.keep (Mod.drew [] w5) (by simp)
  clear k4 k9 k11 hB mm hO hA2
  refine wp_region_ups [(49, .slice (some ⟨g2, 0, none⟩) 67 c2), (50, .pointer (some ⟨b11, 0, none⟩)), (51, .int .i64 r.a), (52, .int .u64 (u : Int)), (53, .slice (some ⟨g2, 0, none⟩) 67 c2), (54, .int .i64 67), (55, .int .u64 67), (56, .int .u64 (qq : Int)), (57, .pointer (some ⟨b11, 1, none⟩)), (58, iv r.y), (59, .pointer (some ⟨g2, 0 + qq * 32, none⟩))] 103 [49, 50, 51, 52, 53, 54, 55, 56, 57, 58, 59] rfl rfl (by decide) (by kernel_rfl) (fun lz v => (Holds v b4 25 (ic m) ∧ Holds v b9 25 (ic q) ∧ Holds v b11 46 (tnc r) ∧ OwnG ic 25 32 v Yb nb s ∧ Mod [] w v) ∧ (lz 11 = false → OwnG ic 25 32 v (some ⟨g2, 0, none⟩) c2 s) ∧ (lz 11 = true → OwnG ic 25 32 v (some ⟨g2, 0, none⟩) c2 s2)) (by kernel_rfl) ⟨ini, fun _ => iniO, fun h => by cases h⟩ (by kernel_rfl) (by kernel_rfl) ?step ?fin
  case step =>
    intro lz T v j o hj hlj hdep hst hpar hgot hcl Kq hK
    obtain ⟨s0, s1, s3⟩ := hst
    have hjn : j < 12 := (Array.getElem?_eq_some_iff.1 hj).1
    obtain rfl | rfl | rfl | rfl | rfl | rfl | rfl | rfl | rfl | rfl | rfl | rfl : j = 0 ∨ j = 1 ∨ j = 2 ∨ j = 3 ∨ j = 4 ∨ j = 5 ∨ j = 6 ∨ j = 7 ∨ j = 8 ∨ j = 9 ∨ j = 10 ∨ j = 11 := by omega
    all_goals (have hj' := Option.some.inj (hj : some _ = some o); subst hj'; clear hj)
    · exact wp_ran rfl (exec_move rfl (eval_tmp ((hpar 12 rfl).trans rfl))) (hK _ _ (fun s hs => by cases hs; rfl) ⟨s0, by simpa using s1, by simpa using s3⟩)
    · exact wp_ran rfl (exec_ta rfl (eval_tmp ((hpar 11 rfl).trans rfl))) (hK _ _ (fun s hs => by cases hs; rfl) ⟨s0, by simpa using s1, by simpa using s3⟩)
    · exact wp_ran rfl (exec_load rfl (eval_tmp (hgot 1 _ 50 rfl (hdep ⟨1, .data⟩ (by simp) rfl) rfl)) (run_load1 Tryd.underlying3 rfl (tn_a s0.2.2.1))) (hK _ _ (fun s hs => by cases hs; rfl) ⟨s0, by simpa using s1, by simpa using s3⟩)
    · exact wp_ran rfl (exec_cuu hu rfl (eval_tmp (hgot 2 _ 51 rfl (hdep ⟨2, .data⟩ (by simp) rfl) rfl))) (hK _ _ (fun s hs => by cases hs; rfl) ⟨s0, by simpa using s1, by simpa using s3⟩)
    · exact wp_ran rfl (exec_move rfl (eval_tmp ((hpar 12 rfl).trans rfl))) (hK _ _ (fun s hs => by cases hs; rfl) ⟨s0, by simpa using s1, by simpa using s3⟩)
    · exact wp_ran rfl (exec_len Tryd.underlying22 rfl (eval_tmp (hgot 4 _ 53 rfl (hdep ⟨4, .data⟩ (by simp) rfl) rfl))) (hK _ _ (fun s hs => by cases hs; rfl) ⟨s0, by simpa using s1, by simpa using s3⟩)
    · exact wp_ran rfl (exec_cu67 rfl (eval_tmp (hgot 5 _ 54 rfl (hdep ⟨5, .data⟩ (by simp) rfl) rfl))) (hK _ _ (fun s hs => by cases hs; rfl) ⟨s0, by simpa using s1, by simpa using s3⟩)
    · exact wp_ran rfl (exec_ruq hqq rfl (eval_tmp (hgot 3 _ 52 rfl (hdep ⟨3, .data⟩ (by simp) rfl) rfl)) (eval_tmp (hgot 6 _ 55 rfl (hdep ⟨6, .data⟩ (by simp) rfl) rfl))) (hK _ _ (fun s hs => by cases hs; rfl) ⟨s0, by simpa using s1, by simpa using s3⟩)
    · exact wp_ran rfl (exec_ty rfl (eval_tmp ((hpar 11 rfl).trans rfl))) (hK _ _ (fun s hs => by cases hs; rfl) ⟨s0, by simpa using s1, by simpa using s3⟩)
    · exact wp_ran rfl (exec_load rfl (eval_tmp (hgot 8 _ 57 rfl (hdep ⟨8, .data⟩ (by simp) rfl) rfl)) (run_loads (tn_y s0.2.2.1) Tryd.underlying25 rfl (size25i r.y))) (hK _ _ (fun s hs => by cases hs; rfl) ⟨s0, by simpa using s1, by simpa using s3⟩)
    · exact wp_ran rfl (exec_ixu Tryd.underlying22 size25' hqq67 rfl (eval_tmp (hgot 0 _ 49 rfl (hdep ⟨0, .data⟩ (by simp) rfl) rfl)) (eval_tmp (hgot 7 _ 56 rfl (hdep ⟨7, .data⟩ (by simp) rfl) rfl))) (hK _ _ (fun s hs => by cases hs; rfl) ⟨s0, by simpa using s1, by simpa using s3⟩)
    · obtain ⟨v', r1, r2, r3⟩ := own_store0 (s1 hlj) qq (by rw [HL.out.2.2.2]; exact hqq67) r.y
      rw [← hs2] at r2
      obtain ⟨c1, c2', c3, c4, c5⟩ := s0
      exact wp_ran_skip rfl (exec_storeR rfl (eval_tmp (hgot 10 _ 59 rfl (hdep ⟨10, .data⟩ (by simp) rfl) rfl)) (eval_tmp (hgot 9 _ 58 rfl (hdep ⟨9, .data⟩ (by simp) rfl) rfl)) r1) (hK undef _ (fun s hs => by cases hs) ⟨⟨c1.keep r3 (by simp; omega), c2'.keep r3 (by simp; omega), c3.keep r3 (by simp; omega), c4.keep r3 (fun a ha h => by have := iB a ha; simp at h; omega), far_mod c5 r3 (by simp; omega)⟩, fun h => by simp at h, fun _ => r2⟩)
  case fin =>
  intro lz vr hlz hst
  obtain ⟨⟨k4, k9, _, hB, mm⟩, _, s3⟩ := hst
  have hO2 := s3 (hlz 11 (by decide))
  obtain ⟨d, hd⟩ : ∃ d, d = recI m s2 := ⟨_, rfl⟩
  obtain ⟨bb, hbb⟩ : ∃ b, b = decide (d = q) := ⟨_, rfl⟩
  have R := fun v (mv : Mod [] w v) (A : Option Addr) c (h : OwnG ic 25 32 v A c s2) => recover_c m s2 A c hs267 v (HL.out.2.2.1.then mv) h.cells
  have LR := fun v (mv : Mod [] w v) (A : Option Addr) c (h : OwnG ic 25 32 v A c s2) => lrecovered_c m s2 A c hs267 v (HL.out.2.2.1.then mv) h.cells
  have V1 := fun v (mv : Mod [] w v) (A : Option Addr) c (h : OwnG ic 25 32 v A c s2) => verify_c q m s2 A c hs267 v (HL.out.2.2.1.then mv) h.cells
  have V2 := fun v (mv : Mod [] w v) (A : Option Addr) c (h : OwnG ic 25 32 v A c s2) => verify_c d m s2 A c hs267 v (HL.out.2.2.1.then mv) h.cells
  rw [show decide (recI m s2 = d) = true from decide_eq_true hd.symm] at V2
  rw [← hd] at R LR V1
  rw [← hbb] at V1
  have HB := Lib.hid (And.intro hs267 hbb)
  have h63 : (([] : List Idv).length + s2.length) * 32 ≤ 140737488355328 := by rw [List.length_nil]; omega
  have h64 : ([] : List Idv).length + s2.length ≤ maxLen := by
    have h9 : (200 : Nat) ≤ maxLen := by decide
    rw [List.length_nil]; omega
  have HS2 := Lib.hid (And.intro h63 h64)
  clear s3 hlz hd hbb hs267 hs2 hqq hu hqq67 ini iniO h63 h64 i4 i9 i11 iB hsz hg2
  simp only [setAll, List.foldl_cons, List.foldl_nil, List.set_cons_succ, List.set_cons_zero]
  go_wp2_with (first
    | (with_reducible refine wpList_made (o := ⟨some 60, .buildSlice 22 0 _, _, _, _, _⟩) (by with_unfolding_all rfl) _ 25 ([] : List Value) (exec_none22 rfl) ?_
       intro w6 hb6 m6 z6
       have O6 : OwnG ic 25 32 w6 (some ⟨vr.heap.size, 0, none⟩) 0 [] := OwnG.of_holds (l := []) hb6 ic_length (by decide)
       have i4 := k4.lt
       have i9 := k9.lt
       have iB := hB.lt
       have i2 := hO2.lt
       have hsz : w.heap.size ≤ vr.heap.size := mm.size
       replace k4 := k4.keep m6 (by simp)
       replace k9 := k9.keep m6 (by simp)
       replace hB := hB.keep m6 (by simp)
       replace hO2 := hO2.keep m6 (by simp)
       replace mm := mm.then m6
       obtain ⟨N3, hN3⟩ : ∃ q, q = vr.heap.size := ⟨_, rfl⟩
       rw [← hN3] at O6 i4 i9 iB i2 hsz ⊢
       obtain ⟨Y, hY⟩ : ∃ Y : Option Addr, Y = some ⟨N3, 0, none⟩ := ⟨_, rfl⟩
       have hYb : ∀ i ∈ blk Y, N3 ≤ i := by rw [hY]; intro i hi; have : i = N3 := by simpa [blk] using hi
                                            omega
       rw [← hY] at O6 ⊢
       clear hb6 m6 z6 hY hN3)
    | (with_reducible refine wpList_appendG (f := ic) w6 (o := ⟨some 62, _, _, _, _, _⟩) rfl (.tmp 60) (.tmp 61) 22 rfl 25 i0 (iv zeroI) 32 Tryd.underlying22 HI.out.1 HI.out.2.1 HI.out.2.2.1 HI.out.2.2.2 (by with_unfolding_all rfl) p32 ic_length ic_one Y 0 0 [] rfl List.length_nil.symm O6 (some ⟨g2, 0, none⟩) 67 c2 s2 rfl HB.out.1.symm hO2.cells HS2.out.1 HS2.out.2 ?_
       intro A3 c3 w7 hO7 m7 q7
       have hO3 : OwnG ic 25 32 w7 A3 c3 s2 := by simpa using hO7
       replace k4 := k4.keep m7 (fun h => by have := hYb _ h; omega)
       replace k9 := k9.keep m7 (fun h => by have := hYb _ h; omega)
       replace hB := hB.keep m7 (fun a ha h => by have := hYb _ h; have := iB a ha; omega)
       replace hO2 := hO2.keep m7 (fun a ha h => by have := hYb _ h; have := i2 a ha; omega)
       replace mm := far_mod mm m7 (fun i hi => by have := hYb _ hi; omega)
       obtain ⟨j', hj'⟩ : ∃ q, q = ([] ++ s2).length := ⟨_, rfl⟩
       rw [← hj']
       obtain rfl : j' = 67 := by rw [hj']; exact HB.out.1
       clear hO7 m7 q7 O6 hYb i4 i9 iB i2 hsz hj')
    | (with_reducible refine wpList_loads (o := ⟨some 64, .load 25 (.tmp 4), _, _, _, _⟩) rfl 25 (.tmp 4) rfl b4 0 _ rfl (Cells.of_holds k4) _ Tryd.underlying25 rfl (size25i m) (iv m) rfl ?_)
    | (go_at_call 24; refine (R _ mm _ _ hO2).mono ?_
       rintro e v8 ⟨rfl, m8⟩
       replace k4 := k4.keep m8 (by simp)
       replace k9 := k9.keep m8 (by simp)
       replace hB := hB.keep m8 (by simp)
       replace hO2 := hO2.keep m8 (by simp)
       replace hO3 := hO3.keep m8 (by simp)
       replace mm := mm.then m8
       clear R m8)
    | (with_reducible refine wpList_allocs (o := ⟨some 14, .alloc 25, _, _, _, _⟩) rfl 25 rfl _ zeroI_25 ?_; intro y8 hy8 my8 zy8; replace zy8 := Lib.hid zy8)
    | (with_reducible refine wpList_storesAll (o := ⟨none, .store 25 (.tmp 14) (.tmp 67), _, _, _, _⟩) rfl 25 (.tmp 14) (.tmp 67) rfl rfl v8.heap.size (ic d) rfl (iv d) rfl rfl 25 _ hy8 (by rw [ic_length, ic_length]) (ic_one _) (size25i _) ?_
       intro u8 k14 mu8 zu8
       clear zu8
       have q8 : Mod [] v8 u8 := my8.trans mu8 (by intro i hi h; simp at h; omega)
       obtain ⟨d8, hd8⟩ : ∃ b, b = v8.heap.size := ⟨_, rfl⟩
       rw [← hd8] at k14 ⊢
       replace k4 := k4.keep q8 (by simp)
       replace k9 := k9.keep q8 (by simp)
       replace hB := hB.keep q8 (by simp)
       replace hO2 := hO2.keep q8 (by simp)
       replace hO3 := hO3.keep q8 (by simp)
       replace mm := mm.then q8
       clear hy8 my8 zy8 mu8 q8 hd8)
    | (with_reducible refine wpList_loads (o := ⟨some 69, .load 25 (.tmp 4), _, _, _, _⟩) rfl 25 (.tmp 4) rfl b4 0 _ rfl (Cells.of_holds k4) _ Tryd.underlying25 rfl (size25i m) (iv m) rfl ?_)
    | (go_at_call 25; refine (LR _ mm _ _ hO3).mono ?_
       rintro e v9 ⟨rfl, m9⟩
       replace k4 := k4.keep m9 (by simp)
       replace k9 := k9.keep m9 (by simp)
       replace hB := hB.keep m9 (by simp)
       replace hO2 := hO2.keep m9 (by simp)
       replace hO3 := hO3.keep m9 (by simp)
       replace k14 := k14.keep m9 (by simp)
       replace mm := mm.then m9
       clear LR m9)
    | (with_reducible refine wpList_allocs (o := ⟨some 16, .alloc 25, _, _, _, _⟩) rfl 25 rfl _ zeroI_25 ?_; intro y9 hy9 my9 zy9; replace zy9 := Lib.hid zy9)
    | (with_reducible refine wpList_storesAll (o := ⟨none, .store 25 (.tmp 16) (.tmp 71), _, _, _, _⟩) rfl 25 (.tmp 16) (.tmp 71) rfl rfl v9.heap.size (ic d) rfl (iv d) rfl rfl 25 _ hy9 (by rw [ic_length, ic_length]) (ic_one _) (size25i _) ?_
       intro u9 k16 mu9 zu9
       clear zu9
       have q9 : Mod [] v9 u9 := my9.trans mu9 (by intro i hi h; simp at h; omega)
       obtain ⟨d9, hd9⟩ : ∃ b, b = v9.heap.size := ⟨_, rfl⟩
       rw [← hd9] at k16 ⊢
       replace k4 := k4.keep q9 (by simp)
       replace k9 := k9.keep q9 (by simp)
       replace hB := hB.keep q9 (by simp)
       replace hO2 := hO2.keep q9 (by simp)
       replace hO3 := hO3.keep q9 (by simp)
       replace k14 := k14.keep q9 (by simp)
       replace mm := mm.then q9
       clear hy9 my9 zy9 mu9 q9 hd9))
  refine wp_region_ups [(72, .int .i64 0), (73, .bool false), (74, .bool false), (75, iv d), (76, iv d), (77, .bool false), (78, .bool false), (79, .bool false), (80, iv q), (81, iv m), (82, .slice (some ⟨g2, 0, none⟩) 67 c2), (83, .bool bb), (84, iv d), (85, iv q), (86, .bool bb), (87, .bool false), (88, .bool false), (89, .bool false), (90, iv d), (91, iv m), (92, .slice (some ⟨g2, 0, none⟩) 67 c2), (93, .bool true), (94, .bool false), (95, .bool false), (96, .bool false), (97, .slice (some ⟨g2, 0, none⟩) 67 c2), (98, .slice A3 67 c3), (99, .bool true), (100, .bool false), (101, .bool false)] 103 [72, 73, 74, 75, 76, 77, 78, 79, 80, 81, 82, 83, 84, 85, 86, 87, 88, 89, 90, 91, 92, 93, 94, 95, 96, 97, 98, 99, 100, 101] rfl rfl (by decide +kernel) (by kernel_rfl) (fun lz v => Mod [] u9.drew v) (by kernel_rfl) (Mod.refl _ _) (by kernel_rfl) (by kernel_rfl) ?step ?fin
  case step =>
    intro lz T v j o hj hlj hdep hst hpar hgot hcl Kq hK
    have mv : ∀ v, Mod [] u9.drew v → Mod [] u9 v := fun v h => (Mod.drew [] u9).then h
    have hjn : j < 30 := (Array.getElem?_eq_some_iff.1 hj).1
    obtain rfl | rfl | rfl | rfl | rfl | rfl | rfl | rfl | rfl | rfl | rfl | rfl | rfl | rfl | rfl | rfl | rfl | rfl | rfl | rfl | rfl | rfl | rfl | rfl | rfl | rfl | rfl | rfl | rfl | rfl : j = 0 ∨ j = 1 ∨ j = 2 ∨ j = 3 ∨ j = 4 ∨ j = 5 ∨ j = 6 ∨ j = 7 ∨ j = 8 ∨ j = 9 ∨ j = 10 ∨ j = 11 ∨ j = 12 ∨ j = 13 ∨ j = 14 ∨ j = 15 ∨ j = 16 ∨ j = 17 ∨ j = 18 ∨ j = 19 ∨ j = 20 ∨ j = 21 ∨ j = 22 ∨ j = 23 ∨ j = 24 ∨ j = 25 ∨ j = 26 ∨ j = 27 ∨ j = 28 ∨ j = 29 := by omega
    all_goals (have hj' := Option.some.inj (hj : some _ = some o); subst hj'; clear hj)
    · exact wp_ran rfl (exec_move rfl (eval_tmp ((hpar 15 rfl).trans rfl))) (hK _ _ (fun s hs => by cases hs; rfl) hst)
    · exact wp_ran rfl (exec_nei32 rfl (eval_tmp (hgot 0 _ 72 rfl (hdep ⟨0, .data⟩ (by simp) rfl) rfl)) rfl) (hK _ _ (fun s hs => by cases hs; rfl) hst)
    · exact wp_ran rfl (exec_move rfl (eval_tmp (hgot 1 _ 73 rfl (hdep ⟨1, .data⟩ (by simp) rfl) rfl))) (hK _ _ (fun s hs => by cases hs; rfl) hst)
    · exact wp_ranW (wanted_yes rfl rfl rfl (hgot 2 _ 74 rfl (hdep ⟨2, .guard⟩ (by simp) rfl) rfl)) (exec_load rfl (eval_tmp ((hpar 14 rfl).trans rfl)) (run_loads (Cells.of_holds (k14.keep (mv v hst) (by simp))) Tryd.underlying25 rfl (size25i d))) (hK _ _ (fun s hs => by cases hs; rfl) hst)
    · exact wp_ranW (wanted_yes rfl rfl rfl (hgot 2 _ 74 rfl (hdep ⟨2, .guard⟩ (by simp) rfl) rfl)) (exec_load rfl (eval_tmp ((hpar 16 rfl).trans rfl)) (run_loads (Cells.of_holds (k16.keep (mv v hst) (by simp))) Tryd.underlying25 rfl (size25i d))) (hK _ _ (fun s hs => by cases hs; rfl) hst)
    · exact wp_ranW (wanted_yes rfl rfl rfl (hgot 2 _ 74 rfl (hdep ⟨2, .guard⟩ (by simp) rfl) rfl)) (exec_ne25s rfl (eval_tmp (hgot 3 _ 75 rfl (hdep ⟨3, .data⟩ (by simp) rfl) rfl)) (eval_tmp (hgot 4 _ 76 rfl (hdep ⟨4, .data⟩ (by simp) rfl) rfl))) (hK _ _ (fun s hs => by cases hs; rfl) hst)
    · exact wp_ran rfl (exec_pick rfl (eval_tmp (hgot 2 _ 74 rfl (hdep ⟨2, .data⟩ (by simp) rfl) rfl)) rfl (eval_tmp (hgot 5 _ 77 rfl (hdep ⟨5, .data⟩ (by simp) rfl) rfl)) rfl) (hK _ _ (fun s hs => by cases hs; rfl) hst)
    · exact wp_ran rfl (exec_move rfl (eval_tmp (hgot 6 _ 78 rfl (hdep ⟨6, .data⟩ (by simp) rfl) rfl))) (hK _ _ (fun s hs => by cases hs; rfl) hst)
    · exact wp_ranW (wanted_yes rfl rfl rfl (hgot 7 _ 79 rfl (hdep ⟨7, .guard⟩ (by simp) rfl) rfl)) (exec_load rfl (eval_tmp ((hpar 9 rfl).trans rfl)) (run_loads (Cells.of_holds (k9.keep (mv v hst) (by simp))) Tryd.underlying25 rfl (size25i q))) (hK _ _ (fun s hs => by cases hs; rfl) hst)
    · exact wp_ranW (wanted_yes rfl rfl rfl (hgot 7 _ 79 rfl (hdep ⟨7, .guard⟩ (by simp) rfl) rfl)) (exec_load rfl (eval_tmp ((hpar 4 rfl).trans rfl)) (run_loads (Cells.of_holds (k4.keep (mv v hst) (by simp))) Tryd.underlying25 rfl (size25i m))) (hK _ _ (fun s hs => by cases hs; rfl) hst)
    · exact wp_ranW (wanted_yes rfl rfl rfl (hgot 7 _ 79 rfl (hdep ⟨7, .guard⟩ (by simp) rfl) rfl)) (exec_move rfl (eval_tmp ((hpar 12 rfl).trans rfl))) (hK _ _ (fun s hs => by cases hs; rfl) hst)
    · exact wp_calledW (wanted_yes rfl rfl rfl (hgot 7 _ 79 rfl (hdep ⟨7, .guard⟩ (by simp) rfl) rfl)) (exec_call3 rfl rfl (eval_tmp (hgot 8 _ 80 rfl (hdep ⟨8, .data⟩ (by simp) rfl) rfl)) (eval_tmp (hgot 9 _ 81 rfl (hdep ⟨9, .data⟩ (by simp) rfl) rfl)) (eval_tmp (hgot 10 _ 82 rfl (hdep ⟨10, .data⟩ (by simp) rfl) rfl)) (enters_of Tryd.func26 (by kernel_rfl) rfl)) ((V1 v (mm.then (mv v hst)) _ _ (hO2.keep (mv v hst) (by simp))).mono (fun e v' hh => ⟨_, hh.1, hK _ _ (fun s hs => by cases hs; rfl) (hst.then hh.2)⟩))
    · exact wp_ranW (wanted_yes rfl rfl rfl (hgot 7 _ 79 rfl (hdep ⟨7, .guard⟩ (by simp) rfl) rfl)) (exec_load rfl (eval_tmp ((hpar 16 rfl).trans rfl)) (run_loads (Cells.of_holds (k16.keep (mv v hst) (by simp))) Tryd.underlying25 rfl (size25i d))) (hK _ _ (fun s hs => by cases hs; rfl) hst)
    · exact wp_ranW (wanted_yes rfl rfl rfl (hgot 7 _ 79 rfl (hdep ⟨7, .guard⟩ (by simp) rfl) rfl)) (exec_load rfl (eval_tmp ((hpar 9 rfl).trans rfl)) (run_loads (Cells.of_holds (k9.keep (mv v hst) (by simp))) Tryd.underlying25 rfl (size25i q))) (hK _ _ (fun s hs => by cases hs; rfl) hst)
    · exact wp_ranW (wanted_yes rfl rfl rfl (hgot 7 _ 79 rfl (hdep ⟨7, .guard⟩ (by simp) rfl) rfl)) (exec_eq25b HB.out.2 rfl (eval_tmp (hgot 12 _ 84 rfl (hdep ⟨12, .data⟩ (by simp) rfl) rfl)) (eval_tmp (hgot 13 _ 85 rfl (hdep ⟨13, .data⟩ (by simp) rfl) rfl))) (hK _ _ (fun s hs => by cases hs; rfl) hst)
    · exact wp_ranW (wanted_yes rfl rfl rfl (hgot 7 _ 79 rfl (hdep ⟨7, .guard⟩ (by simp) rfl) rfl)) (exec_nebs Tryd.underlying4 rfl (eval_tmp (hgot 11 _ 83 rfl (hdep ⟨11, .data⟩ (by simp) rfl) rfl)) (eval_tmp (hgot 14 _ 86 rfl (hdep ⟨14, .data⟩ (by simp) rfl) rfl))) (hK _ _ (fun s hs => by cases hs; rfl) hst)
    · exact wp_ran rfl (exec_pick rfl (eval_tmp (hgot 7 _ 79 rfl (hdep ⟨7, .data⟩ (by simp) rfl) rfl)) rfl (eval_tmp (hgot 15 _ 87 rfl (hdep ⟨15, .data⟩ (by simp) rfl) rfl)) rfl) (hK _ _ (fun s hs => by cases hs; rfl) hst)
    · exact wp_ran rfl (exec_move rfl (eval_tmp (hgot 16 _ 88 rfl (hdep ⟨16, .data⟩ (by simp) rfl) rfl))) (hK _ _ (fun s hs => by cases hs; rfl) hst)
    · exact wp_ranW (wanted_yes rfl rfl rfl (hgot 17 _ 89 rfl (hdep ⟨17, .guard⟩ (by simp) rfl) rfl)) (exec_load rfl (eval_tmp ((hpar 16 rfl).trans rfl)) (run_loads (Cells.of_holds (k16.keep (mv v hst) (by simp))) Tryd.underlying25 rfl (size25i d))) (hK _ _ (fun s hs => by cases hs; rfl) hst)
    · exact wp_ranW (wanted_yes rfl rfl rfl (hgot 17 _ 89 rfl (hdep ⟨17, .guard⟩ (by simp) rfl) rfl)) (exec_load rfl (eval_tmp ((hpar 4 rfl).trans rfl)) (run_loads (Cells.of_holds (k4.keep (mv v hst) (by simp))) Tryd.underlying25 rfl (size25i m))) (hK _ _ (fun s hs => by cases hs; rfl) hst)
    · exact wp_ranW (wanted_yes rfl rfl rfl (hgot 17 _ 89 rfl (hdep ⟨17, .guard⟩ (by simp) rfl) rfl)) (exec_move rfl (eval_tmp ((hpar 12 rfl).trans rfl))) (hK _ _ (fun s hs => by cases hs; rfl) hst)
    · exact wp_calledW (wanted_yes rfl rfl rfl (hgot 17 _ 89 rfl (hdep ⟨17, .guard⟩ (by simp) rfl) rfl)) (exec_call3 rfl rfl (eval_tmp (hgot 18 _ 90 rfl (hdep ⟨18, .data⟩ (by simp) rfl) rfl)) (eval_tmp (hgot 19 _ 91 rfl (hdep ⟨19, .data⟩ (by simp) rfl) rfl)) (eval_tmp (hgot 20 _ 92 rfl (hdep ⟨20, .data⟩ (by simp) rfl) rfl)) (enters_of Tryd.func26 (by kernel_rfl) rfl)) ((V2 v (mm.then (mv v hst)) _ _ (hO2.keep (mv v hst) (by simp))).mono (fun e v' hh => ⟨_, hh.1, hK _ _ (fun s hs => by cases hs; rfl) (hst.then hh.2)⟩))
    · exact wp_ranW (wanted_yes rfl rfl rfl (hgot 17 _ 89 rfl (hdep ⟨17, .guard⟩ (by simp) rfl) rfl)) (exec_not rfl (eval_tmp (hgot 21 _ 93 rfl (hdep ⟨21, .data⟩ (by simp) rfl) rfl))) (hK _ _ (fun s hs => by cases hs; rfl) hst)
    · exact wp_ran rfl (exec_pick rfl (eval_tmp (hgot 17 _ 89 rfl (hdep ⟨17, .data⟩ (by simp) rfl) rfl)) rfl (eval_tmp (hgot 22 _ 94 rfl (hdep ⟨22, .data⟩ (by simp) rfl) rfl)) rfl) (hK _ _ (fun s hs => by cases hs; rfl) hst)
    · exact wp_ran rfl (exec_move rfl (eval_tmp (hgot 23 _ 95 rfl (hdep ⟨23, .data⟩ (by simp) rfl) rfl))) (hK _ _ (fun s hs => by cases hs; rfl) hst)
    · exact wp_ranW (wanted_yes rfl rfl rfl (hgot 24 _ 96 rfl (hdep ⟨24, .guard⟩ (by simp) rfl) rfl)) (exec_move rfl (eval_tmp ((hpar 12 rfl).trans rfl))) (hK _ _ (fun s hs => by cases hs; rfl) hst)
    · exact wp_ranW (wanted_yes rfl rfl rfl (hgot 24 _ 96 rfl (hdep ⟨24, .guard⟩ (by simp) rfl) rfl)) (exec_move rfl (eval_tmp ((hpar 13 rfl).trans rfl))) (hK _ _ (fun s hs => by cases hs; rfl) hst)
    · exact wp_calledW (wanted_yes rfl rfl rfl (hgot 24 _ 96 rfl (hdep ⟨24, .guard⟩ (by simp) rfl) rfl)) (exec_call2 rfl rfl (eval_tmp (hgot 25 _ 97 rfl (hdep ⟨25, .data⟩ (by simp) rfl) rfl)) (eval_tmp (hgot 26 _ 98 rfl (hdep ⟨26, .data⟩ (by simp) rfl) rfl)) (enters_of Tryd.func22 (by kernel_rfl) rfl)) ((same_yes _ _ 67 _ _ s2 HB.out.1.symm (by decide) v (hO2.keep (mv v hst) (by simp)).cells (hO3.keep (mv v hst) (by simp)).cells).mono (fun e v' hh => ⟨_, hh.1, hK _ _ (fun s hs => by cases hs; rfl) (hst.then hh.2)⟩))
    · exact wp_ranW (wanted_yes rfl rfl rfl (hgot 24 _ 96 rfl (hdep ⟨24, .guard⟩ (by simp) rfl) rfl)) (exec_not rfl (eval_tmp (hgot 27 _ 99 rfl (hdep ⟨27, .data⟩ (by simp) rfl) rfl))) (hK _ _ (fun s hs => by cases hs; rfl) hst)
    · exact wp_ran rfl (exec_pick rfl (eval_tmp (hgot 24 _ 96 rfl (hdep ⟨24, .data⟩ (by simp) rfl) rfl)) rfl (eval_tmp (hgot 28 _ 100 rfl (hdep ⟨28, .data⟩ (by simp) rfl) rfl)) rfl) (hK _ _ (fun s hs => by cases hs; rfl) hst)
  case fin =>
  intro lz vr hlz hst
  replace hst : Mod [] u9 vr := (Mod.drew [] u9).then hst
  replace k4 := k4.keep hst (by simp)
  replace k9 := k9.keep hst (by simp)
  replace hB := hB.keep hst (by simp)
  replace mm := mm.then hst
  clear hst hlz V1 V2 hO2 hO3 k14 k16
  simp only [Act.put, setAll, List.foldl_cons, List.foldl_nil, List.setIfInBounds_toArray, List.set_cons_succ, List.set_cons_zero]
  go_wp2_with fail
  exact ⟨⟨k + 1, by omega, by go_num, k4, k9, hB, mm⟩, by simp [intOf]; omega⟩
theorem signs_w (L0 L1 : List UInt8) (A : Option Addr) (cap : Nat) (l : List Trn) (h0 : L0.length = 32) (h1 : L1.length = 32) (hl : l.length ≤ cap) (hm : cap ≤ maxLen) (w : World) (RA : Cells w A (l.flatMap tnc)) (Gl : Glob w) :
    Calls Tryd.prog 5 #[.agg (L0.map oct).toArray, .agg (L1.map oct).toArray, .slice A l.length cap] w fun r w' => r = .returned (.bool true) ∧ Mod [] w w' :=
  signs0_w ⟨L0, h0⟩ ⟨L1, h1⟩ A cap l hl hm w RA Gl
end Go.Proofs.YtdolihecjomjiaaDoor
