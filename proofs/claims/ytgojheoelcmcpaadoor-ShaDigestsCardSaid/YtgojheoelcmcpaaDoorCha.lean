/-
  ShaChains: the walk. My own work.
-/
import Derived.Test.YtgojheoelcmcpaaDoorChn
namespace Go.Proofs.YtgojheoelcmcpaaDoor
open Go.RowKit
theorem octs_at : ∀ (L : List UInt32) (k j : Nat), k < L.length → j < 4 → (octs L).getD (4 * k + j) 0 = (hi (g0 L k).toNat 4).getD j 0
  | x :: L, 0, j, _, hj => by
    have h4 : (hi x.toNat 4).length = 4 := hi_length _ _
    simp only [octs, List.flatMap_cons, Nat.mul_zero, Nat.zero_add, List.getD_eq_getElem?_getD]
    rw [List.getElem?_append_left (by omega)]
    rfl
  | x :: L, k + 1, j, hk, hj => by
    have h4 : (hi x.toNat 4).length = 4 := hi_length _ _
    have ih := octs_at L k j (by simpa using hk) hj
    simp only [octs, List.flatMap_cons, List.getD_eq_getElem?_getD] at ih ⊢
    rw [List.getElem?_append_right (by omega), h4, show 4 * (k + 1) + j - 4 = 4 * k + j by omega, ih]
    rfl
theorem hi4 (x j : Nat) (hj : j < 4) : ((hi x 4).getD j 0).toNat = x / 256 ^ (3 - j) % 256 := by
  have h : j < (hi x 4).length := by rw [hi_length]; exact hj
  rw [List.getD_eq_getElem?_getD, List.getElem?_eq_getElem h, Option.getD_some, hi_at]
  simp
theorem word_back (L : List UInt32) (k : Nat) (hk : k < L.length) : ((octs L).getD (4 * k) 0).toNat * 16777216 + ((octs L).getD (4 * k + 1) 0).toNat * 65536 + ((octs L).getD (4 * k + 2) 0).toNat * 256 + ((octs L).getD (4 * k + 3) 0).toNat = (g0 L k).toNat := by
  have e0 := octs_at L k 0 hk (by omega)
  have e1 := octs_at L k 1 hk (by omega)
  have e2 := octs_at L k 2 hk (by omega)
  have e3 := octs_at L k 3 hk (by omega)
  rw [Nat.add_zero] at e0
  rw [e0, e1, e2, e3, hi4 _ _ (by omega), hi4 _ _ (by omega), hi4 _ _ (by omega), hi4 _ _ (by omega)]
  have := u32_lt (g0 L k)
  generalize (g0 L k).toNat = x at *
  simp only [Nat.reduceSub, Nat.reducePow]
  omega
theorem or32 (c i b : Nat) (hb : b < 2 ^ i) (ha : c * 2 ^ i + b < 4294967296) : bits .or .u32 ((c * 2 ^ i : Nat) : Int) ((b : Nat) : Int) = ((c * 2 ^ i + b : Nat) : Int) := by
  show IntKind.u32.wrap ((BitVec.ofInt 32 ((c * 2 ^ i : Nat) : Int) ||| BitVec.ofInt 32 ((b : Nat) : Int)).toNat : Int) = _
  rw [ofInt_nat, ofInt_nat, BitVec.toNat_or, BitVec.toNat_ofNat, BitVec.toNat_ofNat, Nat.mod_eq_of_lt (by omega : c * 2 ^ i < 2 ^ 32), Nat.mod_eq_of_lt (by omega : b < 2 ^ 32)]
  rw [Nat.mul_comm, ← Nat.two_pow_add_eq_or_of_lt hb, wrap32, Nat.mod_eq_of_lt (by rw [Nat.mul_comm]; exact ha)]
theorem or32a (c b : Nat) (hb : b < 16777216) (ha : c * 16777216 + b < 4294967296) : bits .or .u32 ((c * 16777216 : Nat) : Int) ((b : Nat) : Int) = ((c * 16777216 + b : Nat) : Int) := or32 c 24 b hb ha
theorem or32b (c b : Nat) (hb : b < 65536) (ha : c * 65536 + b < 4294967296) : bits .or .u32 ((c * 65536 : Nat) : Int) ((b : Nat) : Int) = ((c * 65536 + b : Nat) : Int) := or32 c 16 b hb ha
theorem or32c (c b : Nat) (hb : b < 256) (ha : c * 256 + b < 4294967296) : bits .or .u32 ((c * 256 : Nat) : Int) ((b : Nat) : Int) = ((c * 256 + b : Nat) : Int) := or32 c 8 b hb ha
theorem exec_conv32 {v : World} {o : Oper} {ρ : Operand → Value} {x : Operand} {b : UInt8} (ho : o.op = .convert 5 23 x) (hx : ρ x = oct b) : (execOp ρ o).run Tryd.prog v = .ok (.value (.int .u32 (b.toNat : Int))) v := by
  have h : (convert 5 23 (.int .u8 (b.toNat : Int))).run Tryd.prog v = .ok (.int .u32 (IntKind.u32.wrap (b.toNat : Int))) v := by go_simp
  rw [wrap32, Nat.mod_eq_of_lt (by have := b.toNat_lt; omega)] at h
  unfold execOp
  simp only [ho, hx, Sem.run_bind, h, Result.andThen, Sem.run_pure]
theorem exec_shl32 {v : World} {o : Oper} {ρ : Operand → Value} {x y : Operand} {b : UInt8} {t t' : TypeId} {n m : Nat} (hn : n ≤ 24) (hm : m = 2 ^ n) (ho : o.op = .binOp .shl t x y t') (hx : ρ x = .int .u32 (b.toNat : Int)) (hy : ρ y = .int .u64 (n : Int)) : (execOp ρ o).run Tryd.prog v = .ok (.value (.int .u32 ((b.toNat * m : Nat) : Int))) v := by
  have h := shift_shl .u32 .u64 (b.toNat : Int) (n : Int) (by omega) (by show (n : Int) ≤ 32; omega)
  have h2 : IntKind.u32.wrap ((b.toNat : Int) * 2 ^ ((n : Int)).toNat) = ((b.toNat * m : Nat) : Int) := by
    have h1 := b.toNat_lt
    have h3 : 2 ^ n ≤ 2 ^ 24 := Nat.pow_le_pow_right (by omega) hn
    have h4 : b.toNat * m ≤ 255 * 2 ^ 24 := Nat.mul_le_mul (by omega) (by omega)
    rw [Int.toNat_natCast, show ((b.toNat : Int) * 2 ^ n) = ((b.toNat * m : Nat) : Int) by rw [hm]; simp, wrap32, Nat.mod_eq_of_lt (by omega)]
  rw [h2] at h
  unfold execOp
  simp only [ho, hx, hy, Sem.run_bind, go_sem, h]
  rfl
theorem exec_same {P : Program} {v : World} {o : Oper} {ρ : Operand → Value} {x y : Operand} {t t' : TypeId} {k : IntKind} {a b : Int} (h : a = b) (ho : o.op = .binOp .neq t x y t') (hx : ρ x = .int k a) (hy : ρ y = .int k b) : (execOp ρ o).run P v = .ok (.value (.bool false)) v := by
  subst h
  unfold execOp
  simp [ho, hx, hy, go_sem]
theorem byte_load {v : World} {g : Nat} {t : TypeId} {L : List UInt8} (h : Holds v g t (L.map oct)) {i : Nat} (hi : i < L.length) : (loadVar 5 ⟨g, 0 + i, none⟩).run Tryd.prog v = .ok (oct (L.getD i 0)) v := by
  refine run_load1 Tryd.underlying5 rfl ?_
  rw [Nat.zero_add, h.cell i]
  simp [List.getD_eq_getElem?_getD, hi]
theorem nat_e1 (b0 b1 : Nat) : (b0 * 256 + b1) * 65536 = b0 * 16777216 + b1 * 65536 := by
  rw [Nat.add_mul, Nat.mul_assoc]
set_option maxRecDepth 100000 in
theorem hors (H2 : List UInt32) (kk : Nat) (hk : kk < H2.length) :
    bits .or .u32 ((((octs H2).getD (4 * kk) 0).toNat * 16777216 : Nat) : Int) ((((octs H2).getD (4 * kk + 1) 0).toNat * 65536 : Nat) : Int) = (((((octs H2).getD (4 * kk) 0).toNat * 256 + ((octs H2).getD (4 * kk + 1) 0).toNat) * 65536 : Nat) : Int) ∧
    bits .or .u32 (((((octs H2).getD (4 * kk) 0).toNat * 256 + ((octs H2).getD (4 * kk + 1) 0).toNat) * 65536 : Nat) : Int) ((((octs H2).getD (4 * kk + 2) 0).toNat * 256 : Nat) : Int) = ((((((octs H2).getD (4 * kk) 0).toNat * 256 + ((octs H2).getD (4 * kk + 1) 0).toNat) * 256 + ((octs H2).getD (4 * kk + 2) 0).toNat) * 256 : Nat) : Int) ∧
    bits .or .u32 ((((((octs H2).getD (4 * kk) 0).toNat * 256 + ((octs H2).getD (4 * kk + 1) 0).toNat) * 256 + ((octs H2).getD (4 * kk + 2) 0).toNat) * 256 : Nat) : Int) ((((octs H2).getD (4 * kk + 3) 0).toNat : Nat) : Int) = ((((((octs H2).getD (4 * kk) 0).toNat * 256 + ((octs H2).getD (4 * kk + 1) 0).toNat) * 256 + ((octs H2).getD (4 * kk + 2) 0).toNat) * 256 + ((octs H2).getD (4 * kk + 3) 0).toNat : Nat) : Int) ∧ ((((((octs H2).getD (4 * kk) 0).toNat * 256 + ((octs H2).getD (4 * kk + 1) 0).toNat) * 256 + ((octs H2).getD (4 * kk + 2) 0).toNat) * 256 + ((octs H2).getD (4 * kk + 3) 0).toNat : Nat) : Int) = ((g0 H2 kk).toNat : Int) := by
  have hwb := word_back H2 kk hk
  have h0 := ((octs H2).getD (4 * kk) 0).toNat_lt
  have h1 := ((octs H2).getD (4 * kk + 1) 0).toNat_lt
  have h2 := ((octs H2).getD (4 * kk + 2) 0).toNat_lt
  have h3 := ((octs H2).getD (4 * kk + 3) 0).toNat_lt
  generalize ((octs H2).getD (4 * kk) 0).toNat = b0 at *
  generalize ((octs H2).getD (4 * kk + 1) 0).toNat = b1 at *
  generalize ((octs H2).getD (4 * kk + 2) 0).toNat = b2 at *
  generalize ((octs H2).getD (4 * kk + 3) 0).toNat = b3 at *
  refine ⟨?_, ?_, ?_, ?_⟩
  · rw [nat_e1]
    exact or32a b0 (b1 * 65536) (by omega) (by omega)
  · have e : ((b0 * 256 + b1) * 256 + b2) * 256 = (b0 * 256 + b1) * 65536 + b2 * 256 := by omega
    rw [e]
    exact or32b (b0 * 256 + b1) (b2 * 256) (by omega) (by omega)
  · exact or32c ((b0 * 256 + b1) * 256 + b2) b3 (by omega) (by omega)
  · exact congrArg (fun n : Nat => (n : Int)) (by omega)
set_option maxRecDepth 1000000 in
set_option maxHeartbeats 8000000 in
theorem chains_w (A0 : Option Addr) (l0 : List UInt8) (cap0 : Nat) (h0 : l0.length ≤ cap0) (hc0 : cap0 ≤ maxLen) (w : World) (R0 : Reads w A0 l0) (G : Cells w (some ⟨0, 0, none⟩) (Kc.map wd)) (G1 : Cells w (some ⟨1, 0, none⟩) (Sc.map wd)) :
    Calls Tryd.prog 7 #[.slice A0 l0.length cap0] w fun e w' => e = .returned (.bool true) ∧ Mod [] w w' := by
  obtain ⟨bb, hbb⟩ : ∃ b, b = l0.take 700 := ⟨_, rfl⟩
  have hb7 : bb.length ≤ 700 := by rw [hbb, List.length_take]; omega
  obtain ⟨M, hM⟩ : ∃ M, M = fillM bb.length := ⟨_, rfl⟩
  have hMl := fillM_le bb.length
  have hM64 : M % 64 = 0 := by rw [hM]; unfold fillM; omega
  have hch := chains_eq Kc Sc bb
  have hfl := fillN_length bb bb.length
  rw [← hM] at hMl hch hfl
  obtain ⟨Pd, hPd⟩ : ∃ z, z = fillN bb bb.length := ⟨_, rfl⟩
  have hpre : bb <+: Pd := by rw [hPd]; unfold fillN; rw [List.append_assoc, List.append_assoc]; exact List.prefix_append _ _
  rw [← hPd] at hch hfl
  obtain ⟨H2, hH2⟩ : ∃ z, z = sum2 Kc Sc bb := ⟨_, rfl⟩
  have hl2 : H2.length = 8 := by rw [hH2]; exact sum2_length Kc Sc bb Sc_length
  rw [← hH2] at hch
  have hW := wakes_c w G G1
  have hRow := fun (v : World) (m : Mod [] w v) => row_c A0 l0 cap0 v h0 hc0 (R0.keep m (by simp))
  have hPad := fun (v : World) (A : Option Addr) (c : Nat) (R : Reads v A bb) => pad_c A bb bb.length c rfl (by omega) v R
  rw [← hM, ← hPd] at hPad
  have hSum := fun (v : World) (m : Mod [] w v) (A : Option Addr) (c : Nat) (hc : bb.length ≤ c) (R : Reads v A bb) => sum_c Kc Sc Kc_length Sc_length A bb bb.length c rfl hc (by omega) v (G.keep m (by simp)) (G1.keep m (by simp)) R
  rw [← hH2] at hSum
  have hSt := fun (v : World) (m : Mod [] w v) => start_c Sc Sc_length v (G1.keep m (by simp))
  have HH := Lib.hid (And.intro hW (And.intro hRow (And.intro hPad (And.intro hSum (And.intro hSt (And.intro hpre (And.intro hch (And.intro hfl hl2))))))))
  have HM := Lib.hid (And.intro hMl (And.intro hM64 (And.intro hb7 hbb)))
  have hG0 : 1 < w.heap.size := G1.lt (by rw [List.length_map, Sc_length]; omega)
  have HG := Lib.hid (And.intro G hG0)
  clear hbb hM hMl hM64 hch hfl hpre hl2 hW hRow hPad hSum hSt hPd hH2 h0 hc0 R0 G G1 hG0
  go_enter Tryd.func7, Tryd.ntmps7
  go_wp2_with fail
  refine HH.out.1.mono ?_
  rintro e w1 ⟨rfl, m1⟩
  go_wp2_with fail
  refine (HH.out.2.1 _ m1).mono ?_
  rintro e w2 ⟨A1, c1, rfl, O1, m2⟩
  rw [← HM.out.2.2.2] at O1 ⊢
  replace m2 := m1.then m2
  have R1 := O1.reads
  have hc1 := O1.fits.1
  have kA0 := fun a ha => (O1.fits.2.2 a ha).2
  clear O1 m1
  go_wp2_with fail
  refine (HH.out.2.2.1 _ A1 c1 R1).mono ?_
  rintro e w3 ⟨g4, rfl, q4, D4, m3⟩
  have kA1 : ∀ a, A1 = some a → a.block < g4 := fun a ha => by have := kA0 a ha; omega
  clear kA0
  replace R1 := R1.keep m3 (by simp)
  replace m3 := m2.then m3
  clear m2
  have hx1 : (((M : Int) % 64) != 0) = false := by have := HM.out.2.1; simp; omega
  have hx1' : ((M : Int) % 64) = 0 := by have := HM.out.2.1; omega
  have hx2 : decide ((M : Int) < (bb.length : Int) + 9) = false := by have := HM.out.1; simp; omega
  have hx3 : decide ((bb.length : Int) + 72 < (M : Int)) = false := by have := HM.out.1; simp; omega
  have hx4 : (bb.length : Int) ≤ 700 := by have := HM.out.2.2.1; omega
  have hx5 : (M : Int) ≤ 772 := by have := HM.out; omega
  have hP := prefix_c (some ⟨g4, 0, none⟩) A1 Pd bb M c1 w3 HH.out.2.2.2.2.2.1 (by rw [HH.out.2.2.2.2.2.2.2.1]; exact Nat.le_refl _) (Reads.of_holds D4) R1
  rw [HH.out.2.2.2.2.2.2.2.1] at hP
  have HP := Lib.hid hP
  clear hP
  go_wp2_with fail
  refine HP.out.mono ?_
  rintro e w4 ⟨rfl, rfl⟩
  clear HP hx1 hx1' hx2 hx3
  go_wp2_with fail
  refine (HH.out.2.2.2.2.1 _ m3).mono ?_
  rintro e w5 ⟨rfl, m5⟩
  replace R1 := R1.keep m5 (by simp)
  replace D4 := D4.keep m5 (by simp)
  replace m5 := m3.then m5
  clear m3
  go_wp2_with (first
    | (with_reducible refine wpList_allocs (o := ⟨some 5, .alloc 26, _, _, _, _⟩) rfl 26 rfl _ zero26 ?_; intro w6 hb5 m6 z6; replace z6 := Lib.hid z6)
    | (with_reducible refine wpList_storesAll (o := ⟨none, .store 26 (.tmp 5) (.tmp 42), _, _, _, _⟩) rfl 26 (.tmp 5) (.tmp 42) rfl rfl w5.heap.size (Sc.map wd) rfl (.agg (Sc.map wd).toArray) rfl rfl 26 _ hb5 (by rw [List.length_map, List.length_map, Sc_length, List.length_replicate]) (words_one _) (size26_of _ Sc_length) ?_; intro w7 D5 m7 z7; replace z7 := Lib.hid z7))
  obtain ⟨g5, e5⟩ : ∃ b, b = w5.heap.size := ⟨_, rfl⟩
  have q5 : w.heap.size ≤ g5 := by have := m5.size; omega
  have q45 : g4 < g5 := by have := D4.lt; omega
  have mx : Mod [] w5 w7 := m6.trans m7 (by intro i hi h; simp at h; omega)
  replace R1 := R1.keep mx (by simp)
  replace D4 := D4.keep mx (by simp)
  replace m5 := m5.then mx
  rw [← e5] at D5 ⊢
  have kA : ∀ a, A1 = some a → a.block < g5 := fun a ha => by have := kA1 a ha; omega
  clear kA1
  have hG0 := HG.out.2
  have QQ := Lib.hid (And.intro q5 (And.intro q45 (And.intro hG0 hc1)))
  clear e5 hb5 m6 m7 z6 z7 mx q5 q45 hG0 hc1 q4
  have D5' : Holds w7 g5 26 ((beh Kc Sc Pd 0).map wd) := D5
  clear D5
  go_loopw [6] (fun i wi => ∃ k : Nat, k * 64 ≤ M ∧ i = .int .i64 ((k * 64 : Nat) : Int) ∧ Holds wi g5 26 ((beh Kc Sc Pd k).map wd) ∧ Holds wi g4 5 (Pd.map oct) ∧ Reads wi A1 bb ∧ Mod [] w wi) (fun i _ => M - (intOf i).toNat)
  case atStart => exact ⟨0, by omega, rfl, D5', D4, R1, m5⟩
  case round =>
    clear D5' D4 R1 m5
    obtain ⟨k, hk, rfl, k5, k4, kR, mk⟩ := hrel
    by_cases hlt : k * 64 < M
    · have hz : decide ((k : Int) * 64 < (M : Int)) = true := by simp; omega
      have HK := Lib.hid hlt
      clear hlt hk
      go_wp2_with fail
      clear hz
      refine wp_region_lit1 [.slice A0 l0.length cap0, undef, .bool false, .slice A1 bb.length c1, .slice (some ⟨g4, 0, none⟩) M M, .pointer (some ⟨g5, 0, none⟩), .int .i64 ((k * 64 : Nat) : Int), undef, undef, undef, .bool true, .bool false, .slice A0 l0.length cap0, .slice A1 bb.length c1, .slice A1 bb.length c1, .slice (some ⟨g4, 0, none⟩) M M, .slice (some ⟨g4, 0, none⟩) M M, .int .i64 (M : Int), .int .i64 ((M : Int) % 64), .bool false, .bool false, .slice (some ⟨g4, 0, none⟩) M M, .int .i64 (M : Int), .slice A1 bb.length c1, .int .i64 (bb.length : Int), .int .i64 ((bb.length : Int) + 9), .bool false, .bool false, .bool false, .slice (some ⟨g4, 0, none⟩) M M, .int .i64 (M : Int), .slice A1 bb.length c1, .int .i64 (bb.length : Int), .int .i64 ((bb.length : Int) + 72), .bool false, .bool false, .bool false, .slice (some ⟨g4, 0, none⟩) M M, .slice A1 bb.length c1, .bool true, .bool false, .bool false, .agg ((Sc).map wd).toArray, .int .i64 ((k * 64 : Nat) : Int), .slice (some ⟨g4, 0, none⟩) M M, .int .i64 (M : Int), .bool true, u47, u48, .agg ((beh Kc Sc Pd k).map wd).toArray, .slice (some ⟨g4, 0, none⟩) M M, .int .i64 ((k * 64 : Nat) : Int), .int .i64 ((k * 64 : Nat) : Int), .int .i64 ((k * 64 + 64 : Nat) : Int), .slice (frm (some ⟨g4, 0, none⟩) (k * 64) M) (k * 64 + 64 - k * 64) (M - k * 64), .pointer (frm (some ⟨g4, 0, none⟩) (k * 64) M), .agg (((Pd.drop (k * 64)).take 64).map oct).toArray, .agg ((beh Kc Sc Pd (k + 1)).map wd).toArray, undef, undef, undef, undef, undef, undef, undef, undef, undef, undef, undef, undef, undef, undef, undef, undef, undef, undef, undef, undef, undef, undef, undef, undef, undef, undef, undef, undef, undef, undef, undef, undef, undef, undef, undef, undef, undef, undef, undef] 97 [0, 1, 2, 3, 4, 5, 6, 7, 8, 9, 10, 11, 12, 13, 14, 15, 16, 17, 18, 19, 20, 21, 22, 23, 24, 25, 26, 27, 28, 29, 30, 31, 32, 33, 34, 35, 36, 37, 38, 39, 40, 41, 42, 43, 44, 45, 46, 47, 48, 58, 59, 60, 61, 62, 63, 64, 65, 66, 67, 68, 69, 70, 71, 72, 73, 74, 75, 76, 77, 78, 79, 80, 81, 82, 83, 84, 85, 86, 87, 88, 89, 90, 91, 92, 93, 94, 95, 96]
        (Sto 9 (fun v => Mod [] wr.drew v) (fun v => Holds v g5 26 ((beh Kc Sc Pd (k + 1)).map wd) ∧ Mod [g5] wr.drew v)) []
        (by kernel_rfl) rfl rfl rfl rfl (Sto.start (Mod.refl _ _)) (by kernel_rfl) (by kernel_rfl) ?step ?fin
      case step =>
        intro lz T v j o hj hlj hdep hst hpar hgot hcl K hK
        have hjn : j < 10 := (Array.getElem?_eq_some_iff.1 hj).1
        have hq := fun h => Sto.now (j := j) hst hlj h
        obtain rfl | rfl | rfl | rfl | rfl | rfl | rfl | rfl | rfl | rfl : j = 0 ∨ j = 1 ∨ j = 2 ∨ j = 3 ∨ j = 4 ∨ j = 5 ∨ j = 6 ∨ j = 7 ∨ j = 8 ∨ j = 9 := by omega
        all_goals (have hj' := Option.some.inj (hj : some _ = some o); subst hj'; clear hj)
        · exact wp_ran rfl (exec_load rfl (eval_tmp (hpar 5 (by simp))) (run_loads (Cells.of_holds (Holds.keep (w := wr.drew) k5 (hq (by decide)).2 (by simp))) Tryd.underlying26 rfl (size26_of _ (beh_length _ _ _ Sc_length _)))) (hK _ _ (fun s hs => by cases hs; rfl) (Sto.keep (hq (by decide)) (by decide) (hq (by decide)).2))
        · exact wp_ran rfl (exec_move rfl (eval_tmp (hpar 4 (by simp)))) (hK _ _ (fun s hs => by cases hs; rfl) (Sto.keep (hq (by decide)) (by decide) (hq (by decide)).2))
        · exact wp_ran rfl (exec_move rfl (eval_tmp (hpar 6 (by simp)))) (hK _ _ (fun s hs => by cases hs; rfl) (Sto.keep (hq (by decide)) (by decide) (hq (by decide)).2))
        · exact wp_ran rfl (exec_move rfl (eval_tmp (hpar 6 (by simp)))) (hK _ _ (fun s hs => by cases hs; rfl) (Sto.keep (hq (by decide)) (by decide) (hq (by decide)).2))
        · exact wp_ran rfl (exec_add rfl (eval_tmp (hgot 3 _ 52 rfl (hdep ⟨3, .data⟩ (by simp) rfl) rfl)) rfl (show IntKind.i64.wrap (((k * 64 : Nat) : Int) + 64) = ((k * 64 + 64 : Nat) : Int) by have := HM.out; have := HK.out; simp [IntKind.wrap, IntKind.bits, IntKind.signed]; omega)) (hK _ _ (fun s hs => by cases hs; rfl) (Sto.keep (hq (by decide)) (by decide) (hq (by decide)).2))
        · exact wp_ran rfl (exec_mid Tryd.underlying36 u8_one (by omega) (by have := HM.out; have := HK.out; omega) rfl (eval_tmp (hgot 1 _ 50 rfl (hdep ⟨1, .data⟩ (by simp) rfl) rfl)) (eval_tmp (hgot 2 _ 51 rfl (hdep ⟨2, .data⟩ (by simp) rfl) rfl)) (eval_tmp (hgot 4 _ 53 rfl (hdep ⟨4, .data⟩ (by simp) rfl) rfl))) (hK _ _ (fun s hs => by cases hs; rfl) (Sto.keep (hq (by decide)) (by decide) (hq (by decide)).2))
        · exact wp_ran rfl (exec_arr Tryd.underlying33 (by omega) rfl (eval_tmp (hgot 5 _ 54 rfl (hdep ⟨5, .data⟩ (by simp) rfl) rfl))) (hK _ _ (fun s hs => by cases hs; rfl) (Sto.keep (hq (by decide)) (by decide) (hq (by decide)).2))
        · have hR := ((Reads.of_holds (Holds.keep (w := wr.drew) k4 (hq (by decide)).2 (by simp))).from (k * 64) M (by rw [HH.out.2.2.2.2.2.2.2.1]; exact Nat.le_refl _)).first 64
          have hlen : ((Pd.drop (k * 64)).take 64).length = 64 := by have := HH.out.2.2.2.2.2.2.2.1; have := HM.out; have := HK.out; simp; omega
          obtain ⟨ga, oa, hA, _⟩ := hR 0 (by omega)
          rw [hA] at hR
          have hE : T.eval (.tmp 55) = .pointer (some ⟨ga, oa, none⟩) := (show T.eval (.tmp 55) = .pointer (frm (some ⟨g4, 0, none⟩) (k * 64) M) from (eval_tmp (hgot 6 _ 55 rfl (hdep ⟨6, .data⟩ (by simp) rfl) rfl))).trans (congrArg Value.pointer hA)
          exact wp_ran rfl (exec_load rfl hE (run_loads hR.cells Tryd.underlying33 rfl (by rw [List.length_map, hlen]; exact size33))) (hK _ _ (fun s hs => by cases hs; rfl) (Sto.keep (hq (by decide)) (by decide) (hq (by decide)).2))
        · exact wp_called rfl (exec_call2 rfl rfl (eval_tmp (hgot 0 _ 49 rfl (hdep ⟨0, .data⟩ (by simp) rfl) rfl)) (eval_tmp (hgot 7 _ 56 rfl (hdep ⟨7, .data⟩ (by simp) rfl) rfl)) (enters_of Tryd.func17 (by kernel_rfl) rfl)) ((block_beh Kc Sc Pd k Kc_length Sc_length (by have := HH.out.2.2.2.2.2.2.2.1; have := HM.out; have := HK.out; omega) _ (HG.out.1.keep (mk.then (Mod.drewed (hq (by decide)).2)) (by simp))).mono (fun e v' hh => ⟨_, hh.1, hK _ _ (fun s hs => by cases hs; rfl) (Sto.keep (hq (by decide)) (by decide) ((hq (by decide)).2.then hh.2))⟩))
        · exact wp_stored (ty := 26) (V := .agg ((beh Kc Sc Pd (k + 1)).map wd).toArray) (cs := (beh Kc Sc Pd (k + 1)).map wd) rfl rfl (eval_tmp (hpar 5 (by simp))) (eval_tmp (hgot 8 _ 57 rfl (hdep ⟨8, .data⟩ (by simp) rfl) rfl)) rfl (Holds.keep (w := wr.drew) k5 (hq (by decide)).2 (by simp)) (by rw [List.length_map, List.length_map, beh_length _ _ _ Sc_length, beh_length _ _ _ Sc_length]) (words_one _) (size26_of _ (beh_length _ _ _ Sc_length _)) (fun v' q1 q2 => hK _ _ (fun s hs => by cases hs) (Sto.done (reach_all (by kernel_rfl) hcl rfl hdep) ⟨q1, (hq (by decide)).2.pre q2⟩))
      case fin =>
        intro lz v hl hst
        obtain ⟨n5, nm⟩ := Sto.fin hst hl (by decide)
        have n4 := Holds.keep (w := wr.drew) k4 nm (by simp; have := QQ.out; omega)
        have mn : Mod [] w v := ⟨nm.os.trans mk.os, nm.tape.trans mk.tape, nm.output.trans mk.output, Nat.le_trans mk.size nm.size, fun i hi _ => by
          rw [nm.block i (Nat.lt_of_lt_of_le hi mk.size) (by simp; have := QQ.out; omega), show wr.drew.heap[i]? = wr.heap[i]? from rfl, mk.block i hi (by simp)]⟩
        have nR : Reads v A1 bb := by
          have kR' : Reads wr.drew A1 bb := kR
          exact kR'.keep nm (fun a ha => by have := kA a ha; simp; omega)
        have hk1 : (k + 1) * 64 ≤ M := by have := HM.out; have := HK.out; omega
        have HN := Lib.hid (And.intro hk1 (And.intro n5 (And.intro n4 (And.intro nR mn))))
        have hz : ((k * 64 : Nat) : Int) < (M : Int) := by have := HK.out; omega
        clear n5 n4 nR mn nm hst hl hk1 k5 k4 kR mk
        try dsimp only
        go_wp2_with fail
        exact ⟨⟨k + 1, HN.out.1, by simp; omega, HN.out.2.1, HN.out.2.2.1, HN.out.2.2.2.1, HN.out.2.2.2.2⟩, by simp [intOf]; omega⟩
    · have hkM : k * 64 = M := by have := HM.out.2.1; omega
      have hkq : M / 64 = k := by omega
      have hD : Holds wr g5 26 (H2.map wd) := by
        have := HH.out.2.2.2.2.2.2.1
        rw [hkq] at this
        rw [← this]; exact k5
      have hz : decide ((k : Int) * 64 < (M : Int)) = false := by simp; omega
      have HS := Lib.hid (HH.out.2.2.2.1 _ mk A1 c1 QQ.out.2.2.2 kR)
      clear hkM hkq k5 k4 kR hlt hk
      go_wp2_with fail
      refine HS.out.mono ?_
      rintro e v1 ⟨rfl, n1⟩
      clear HS hz
      replace hD := hD.keep n1 (by simp)
      have hol : (octs H2).length = 32 := by rw [octs_length, HH.out.2.2.2.2.2.2.2.2]
      have HO := Lib.hid (And.intro hol (mk.then n1))
      clear hol mk n1
      go_wp2_with (first
        | (with_reducible refine wpList_allocs (o := ⟨some 7, .alloc 40, _, _, _, _⟩) rfl 40 rfl _ zero40 ?_; intro v2 hb7 m6 z6; replace z6 := Lib.hid z6)
        | (with_reducible refine wpList_storesAll (o := ⟨none, .store 40 (.tmp 7) (.tmp 59), _, _, _, _⟩) rfl 40 (.tmp 7) (.tmp 59) rfl rfl v1.heap.size ((octs H2).map oct) rfl (.agg ((octs H2).map oct).toArray) rfl rfl 40 _ hb7 (by rw [List.length_map, List.length_map, HO.out.1, List.length_replicate]) (octs_one _) (size40_of _ HO.out.1) ?_; intro v3 D7 m7 z7; replace z7 := Lib.hid z7)
        | (with_reducible refine wpList_loads (o := ⟨some 60, .load 26 (.tmp 5), _, _, _, _⟩) rfl 26 (.tmp 5) rfl g5 0 _ rfl (Cells.of_holds ((hD.keep m6 (by simp)).keep m7 (by have := hD.lt; simp; omega))) _ Tryd.underlying26 rfl (size26_of _ HH.out.2.2.2.2.2.2.2.2) (.agg (H2.map wd).toArray) rfl ?_))
      obtain ⟨g7, e7⟩ : ∃ b, b = v1.heap.size := ⟨_, rfl⟩
      have mn : Mod [] w v3 := HO.out.2.then (m6.trans m7 (by intro i hi h; simp at h; omega))
      rw [← e7] at D7 ⊢
      have HN := Lib.hid mn
      clear e7 m6 m7 z6 z7 hb7 hD mn
      go_loopw [61] (fun i wi => ∃ k : Nat, k ≤ 8 ∧ i = .int .i64 (k : Int) ∧ Mod [] v3 wi) (fun i _ => 8 - (intOf i).toNat)
      case atStart => exact ⟨0, by omega, rfl, Mod.refl _ _⟩
      case round =>
        obtain ⟨kk, hk, rfl, mj⟩ := hrel
        by_cases hlt : kk < 8
        · have hz : (kk : Int) < 8 := by omega
          have HK := Lib.hid hlt
          clear hlt hk
          go_wp2_with (with_reducible refine wpList_ran (o := ⟨some 64, .index 26 (.tmp 60) (.tmp 61), _, _, _, _⟩) rfl (wd (g0 H2 kk)) (exec_index26 HH.out.2.2.2.2.2.2.2.2 HK.out rfl rfl rfl) ?_)
          clear hz
          have HOR := Lib.hid (hors H2 kk (by rw [HH.out.2.2.2.2.2.2.2.2]; exact HK.out))
          refine wp_region_lit1 [.slice A0 l0.length cap0, undef, u2, .slice A1 bb.length c1, .slice (some ⟨g4, 0, none⟩) M M, .pointer (some ⟨g5, 0, none⟩), .int .i64 ((k : Int) * 64), .pointer (some ⟨g7, 0, none⟩), .int .i64 (kk : Int), wd (g0 H2 kk), .bool true, .bool false, .slice A0 l0.length cap0, .slice A1 bb.length c1, .slice A1 bb.length c1, .slice (some ⟨g4, 0, none⟩) M M, .slice (some ⟨g4, 0, none⟩) M M, .int .i64 (M : Int), .int .i64 ((M : Int) % 64), .bool false, .bool false, .slice (some ⟨g4, 0, none⟩) M M, .int .i64 (M : Int), .slice A1 bb.length c1, .int .i64 (bb.length : Int), .int .i64 ((bb.length : Int) + 9), .bool false, .bool false, .bool false, .slice (some ⟨g4, 0, none⟩) M M, .int .i64 (M : Int), .slice A1 bb.length c1, .int .i64 (bb.length : Int), .int .i64 ((bb.length : Int) + 72), .bool false, .bool false, .bool false, .slice (some ⟨g4, 0, none⟩) M M, .slice A1 bb.length c1, .bool true, .bool false, .bool false, .agg ((Sc).map wd).toArray, .int .i64 ((k : Int) * 64), .slice (some ⟨g4, 0, none⟩) M M, .int .i64 (M : Int), .bool false, u47, u48, u49, u50, u51, u52, u53, u54, u55, u56, u57, .slice A1 bb.length c1, .agg ((octs H2).map oct).toArray, .agg ((H2).map wd).toArray, .int .i64 (kk : Int), .bool true, .int .i64 (kk : Int), wd (g0 H2 kk), .int .i64 (kk : Int), .int .i64 ((4 * kk : Nat) : Int), .pointer (some ⟨g7, 0 + 4 * kk, none⟩), oct ((octs H2).getD (4 * kk) 0), .int .u32 ((((octs H2).getD (4 * kk) 0).toNat : Nat) : Int), .int .u32 ((((octs H2).getD (4 * kk) 0).toNat * 16777216 : Nat) : Int), .int .i64 (kk : Int), .int .i64 ((4 * kk : Nat) : Int), .int .i64 ((4 * kk + 1 : Nat) : Int), .pointer (some ⟨g7, 0 + (4 * kk + 1), none⟩), oct ((octs H2).getD (4 * kk + 1) 0), .int .u32 ((((octs H2).getD (4 * kk + 1) 0).toNat : Nat) : Int), .int .u32 ((((octs H2).getD (4 * kk + 1) 0).toNat * 65536 : Nat) : Int), .int .u32 (((((octs H2).getD (4 * kk) 0).toNat * 256 + ((octs H2).getD (4 * kk + 1) 0).toNat) * 65536 : Nat) : Int), .int .i64 (kk : Int), .int .i64 ((4 * kk : Nat) : Int), .int .i64 ((4 * kk + 2 : Nat) : Int), .pointer (some ⟨g7, 0 + (4 * kk + 2), none⟩), oct ((octs H2).getD (4 * kk + 2) 0), .int .u32 ((((octs H2).getD (4 * kk + 2) 0).toNat : Nat) : Int), .int .u32 ((((octs H2).getD (4 * kk + 2) 0).toNat * 256 : Nat) : Int), .int .u32 ((((((octs H2).getD (4 * kk) 0).toNat * 256 + ((octs H2).getD (4 * kk + 1) 0).toNat) * 256 + ((octs H2).getD (4 * kk + 2) 0).toNat) * 256 : Nat) : Int), .int .i64 (kk : Int), .int .i64 ((4 * kk : Nat) : Int), .int .i64 ((4 * kk + 3 : Nat) : Int), .pointer (some ⟨g7, 0 + (4 * kk + 3), none⟩), oct ((octs H2).getD (4 * kk + 3) 0), .int .u32 ((((octs H2).getD (4 * kk + 3) 0).toNat : Nat) : Int), .int .u32 ((((((octs H2).getD (4 * kk) 0).toNat * 256 + ((octs H2).getD (4 * kk + 1) 0).toNat) * 256 + ((octs H2).getD (4 * kk + 2) 0).toNat) * 256 + ((octs H2).getD (4 * kk + 3) 0).toNat : Nat) : Int), wd (g0 H2 kk), .bool false, u96] 97 [0, 1, 2, 3, 4, 5, 6, 7, 8, 9, 10, 11, 12, 13, 14, 15, 16, 17, 18, 19, 20, 21, 22, 23, 24, 25, 26, 27, 28, 29, 30, 31, 32, 33, 34, 35, 36, 37, 38, 39, 40, 41, 42, 43, 44, 45, 46, 47, 48, 49, 50, 51, 52, 53, 54, 55, 56, 57, 58, 59, 60, 61, 62, 63, 64, 96]
            (fun _ v => Mod [] wr.drew v) []
            (by kernel_rfl) rfl rfl rfl rfl (Mod.refl _ _) (by kernel_rfl) (by kernel_rfl) ?step ?fin
          case step =>
            intro lz T v j o hj hlj hdep hst hpar hgot hcl K hK
            have hjn : j < 31 := (Array.getElem?_eq_some_iff.1 hj).1
            obtain rfl | rfl | rfl | rfl | rfl | rfl | rfl | rfl | rfl | rfl | rfl | rfl | rfl | rfl | rfl | rfl | rfl | rfl | rfl | rfl | rfl | rfl | rfl | rfl | rfl | rfl | rfl | rfl | rfl | rfl | rfl : j = 0 ∨ j = 1 ∨ j = 2 ∨ j = 3 ∨ j = 4 ∨ j = 5 ∨ j = 6 ∨ j = 7 ∨ j = 8 ∨ j = 9 ∨ j = 10 ∨ j = 11 ∨ j = 12 ∨ j = 13 ∨ j = 14 ∨ j = 15 ∨ j = 16 ∨ j = 17 ∨ j = 18 ∨ j = 19 ∨ j = 20 ∨ j = 21 ∨ j = 22 ∨ j = 23 ∨ j = 24 ∨ j = 25 ∨ j = 26 ∨ j = 27 ∨ j = 28 ∨ j = 29 ∨ j = 30 := by omega
            all_goals (have hj' := Option.some.inj (hj : some _ = some o); subst hj'; clear hj)
            · exact wp_ran rfl (exec_move rfl (eval_tmp (hpar 8 (by simp)))) (hK _ _ (fun s hs => by cases hs; rfl) hst)
            · exact wp_ran rfl (exec_mul rfl rfl (eval_tmp (hgot 0 _ 65 rfl (hdep ⟨0, .data⟩ (by simp) rfl) rfl)) (mul_n 4 kk (by have := HK.out; omega))) (hK _ _ (fun s hs => by cases hs; rfl) hst)
            · exact wp_ran rfl (exec_at Tryd.underlying40 u8_one (by have := HK.out; omega : 4 * kk < 32) rfl (eval_tmp (hpar 7 (by simp))) (eval_tmp (hgot 1 _ 66 rfl (hdep ⟨1, .data⟩ (by simp) rfl) rfl))) (hK _ _ (fun s hs => by cases hs; rfl) hst)
            · exact wp_ran rfl (exec_load rfl (eval_tmp (hgot 2 _ 67 rfl (hdep ⟨2, .data⟩ (by simp) rfl) rfl)) (byte_load (Holds.keep (w := v3) D7 (mj.then (Mod.drewed hst)) (by simp)) (by rw [HO.out.1]; have := HK.out; omega : 4 * kk < (octs H2).length))) (hK _ _ (fun s hs => by cases hs; rfl) hst)
            · exact wp_ran rfl (exec_conv32 rfl (eval_tmp (hgot 3 _ 68 rfl (hdep ⟨3, .data⟩ (by simp) rfl) rfl))) (hK _ _ (fun s hs => by cases hs; rfl) hst)
            · exact wp_ran rfl (exec_shl32 (n := 24) (m := 16777216) (by omega) rfl rfl (eval_tmp (hgot 4 _ 69 rfl (hdep ⟨4, .data⟩ (by simp) rfl) rfl)) rfl) (hK _ _ (fun s hs => by cases hs; rfl) hst)
            · exact wp_ran rfl (exec_move rfl (eval_tmp (hpar 8 (by simp)))) (hK _ _ (fun s hs => by cases hs; rfl) hst)
            · exact wp_ran rfl (exec_mul rfl rfl (eval_tmp (hgot 6 _ 71 rfl (hdep ⟨6, .data⟩ (by simp) rfl) rfl)) (mul_n 4 kk (by have := HK.out; omega))) (hK _ _ (fun s hs => by cases hs; rfl) hst)
            · exact wp_ran rfl (exec_add rfl (eval_tmp (hgot 7 _ 72 rfl (hdep ⟨7, .data⟩ (by simp) rfl) rfl)) rfl (show IntKind.i64.wrap (((4 * kk : Nat) : Int) + 1) = ((4 * kk + 1 : Nat) : Int) by have := HK.out; simp [IntKind.wrap, IntKind.bits, IntKind.signed]; omega)) (hK _ _ (fun s hs => by cases hs; rfl) hst)
            · exact wp_ran rfl (exec_at Tryd.underlying40 u8_one (by have := HK.out; omega : 4 * kk + 1 < 32) rfl (eval_tmp (hpar 7 (by simp))) (eval_tmp (hgot 8 _ 73 rfl (hdep ⟨8, .data⟩ (by simp) rfl) rfl))) (hK _ _ (fun s hs => by cases hs; rfl) hst)
            · exact wp_ran rfl (exec_load rfl (eval_tmp (hgot 9 _ 74 rfl (hdep ⟨9, .data⟩ (by simp) rfl) rfl)) (byte_load (Holds.keep (w := v3) D7 (mj.then (Mod.drewed hst)) (by simp)) (by rw [HO.out.1]; have := HK.out; omega : 4 * kk + 1 < (octs H2).length))) (hK _ _ (fun s hs => by cases hs; rfl) hst)
            · exact wp_ran rfl (exec_conv32 rfl (eval_tmp (hgot 10 _ 75 rfl (hdep ⟨10, .data⟩ (by simp) rfl) rfl))) (hK _ _ (fun s hs => by cases hs; rfl) hst)
            · exact wp_ran rfl (exec_shl32 (n := 16) (m := 65536) (by omega) rfl rfl (eval_tmp (hgot 11 _ 76 rfl (hdep ⟨11, .data⟩ (by simp) rfl) rfl)) rfl) (hK _ _ (fun s hs => by cases hs; rfl) hst)
            · exact wp_ran rfl (exec_or rfl (eval_tmp (hgot 5 _ 70 rfl (hdep ⟨5, .data⟩ (by simp) rfl) rfl)) (eval_tmp (hgot 12 _ 77 rfl (hdep ⟨12, .data⟩ (by simp) rfl) rfl)) HOR.out.1) (hK _ _ (fun s hs => by cases hs; rfl) hst)
            · exact wp_ran rfl (exec_move rfl (eval_tmp (hpar 8 (by simp)))) (hK _ _ (fun s hs => by cases hs; rfl) hst)
            · exact wp_ran rfl (exec_mul rfl rfl (eval_tmp (hgot 14 _ 79 rfl (hdep ⟨14, .data⟩ (by simp) rfl) rfl)) (mul_n 4 kk (by have := HK.out; omega))) (hK _ _ (fun s hs => by cases hs; rfl) hst)
            · exact wp_ran rfl (exec_add rfl (eval_tmp (hgot 15 _ 80 rfl (hdep ⟨15, .data⟩ (by simp) rfl) rfl)) rfl (show IntKind.i64.wrap (((4 * kk : Nat) : Int) + 2) = ((4 * kk + 2 : Nat) : Int) by have := HK.out; simp [IntKind.wrap, IntKind.bits, IntKind.signed]; omega)) (hK _ _ (fun s hs => by cases hs; rfl) hst)
            · exact wp_ran rfl (exec_at Tryd.underlying40 u8_one (by have := HK.out; omega : 4 * kk + 2 < 32) rfl (eval_tmp (hpar 7 (by simp))) (eval_tmp (hgot 16 _ 81 rfl (hdep ⟨16, .data⟩ (by simp) rfl) rfl))) (hK _ _ (fun s hs => by cases hs; rfl) hst)
            · exact wp_ran rfl (exec_load rfl (eval_tmp (hgot 17 _ 82 rfl (hdep ⟨17, .data⟩ (by simp) rfl) rfl)) (byte_load (Holds.keep (w := v3) D7 (mj.then (Mod.drewed hst)) (by simp)) (by rw [HO.out.1]; have := HK.out; omega : 4 * kk + 2 < (octs H2).length))) (hK _ _ (fun s hs => by cases hs; rfl) hst)
            · exact wp_ran rfl (exec_conv32 rfl (eval_tmp (hgot 18 _ 83 rfl (hdep ⟨18, .data⟩ (by simp) rfl) rfl))) (hK _ _ (fun s hs => by cases hs; rfl) hst)
            · exact wp_ran rfl (exec_shl32 (n := 8) (m := 256) (by omega) rfl rfl (eval_tmp (hgot 19 _ 84 rfl (hdep ⟨19, .data⟩ (by simp) rfl) rfl)) rfl) (hK _ _ (fun s hs => by cases hs; rfl) hst)
            · exact wp_ran rfl (exec_or rfl (eval_tmp (hgot 13 _ 78 rfl (hdep ⟨13, .data⟩ (by simp) rfl) rfl)) (eval_tmp (hgot 20 _ 85 rfl (hdep ⟨20, .data⟩ (by simp) rfl) rfl)) HOR.out.2.1) (hK _ _ (fun s hs => by cases hs; rfl) hst)
            · exact wp_ran rfl (exec_move rfl (eval_tmp (hpar 8 (by simp)))) (hK _ _ (fun s hs => by cases hs; rfl) hst)
            · exact wp_ran rfl (exec_mul rfl rfl (eval_tmp (hgot 22 _ 87 rfl (hdep ⟨22, .data⟩ (by simp) rfl) rfl)) (mul_n 4 kk (by have := HK.out; omega))) (hK _ _ (fun s hs => by cases hs; rfl) hst)
            · exact wp_ran rfl (exec_add rfl (eval_tmp (hgot 23 _ 88 rfl (hdep ⟨23, .data⟩ (by simp) rfl) rfl)) rfl (show IntKind.i64.wrap (((4 * kk : Nat) : Int) + 3) = ((4 * kk + 3 : Nat) : Int) by have := HK.out; simp [IntKind.wrap, IntKind.bits, IntKind.signed]; omega)) (hK _ _ (fun s hs => by cases hs; rfl) hst)
            · exact wp_ran rfl (exec_at Tryd.underlying40 u8_one (by have := HK.out; omega : 4 * kk + 3 < 32) rfl (eval_tmp (hpar 7 (by simp))) (eval_tmp (hgot 24 _ 89 rfl (hdep ⟨24, .data⟩ (by simp) rfl) rfl))) (hK _ _ (fun s hs => by cases hs; rfl) hst)
            · exact wp_ran rfl (exec_load rfl (eval_tmp (hgot 25 _ 90 rfl (hdep ⟨25, .data⟩ (by simp) rfl) rfl)) (byte_load (Holds.keep (w := v3) D7 (mj.then (Mod.drewed hst)) (by simp)) (by rw [HO.out.1]; have := HK.out; omega : 4 * kk + 3 < (octs H2).length))) (hK _ _ (fun s hs => by cases hs; rfl) hst)
            · exact wp_ran rfl (exec_conv32 rfl (eval_tmp (hgot 26 _ 91 rfl (hdep ⟨26, .data⟩ (by simp) rfl) rfl))) (hK _ _ (fun s hs => by cases hs; rfl) hst)
            · exact wp_ran rfl (exec_or rfl (eval_tmp (hgot 21 _ 86 rfl (hdep ⟨21, .data⟩ (by simp) rfl) rfl)) (eval_tmp (hgot 27 _ 92 rfl (hdep ⟨27, .data⟩ (by simp) rfl) rfl)) HOR.out.2.2.1) (hK _ _ (fun s hs => by cases hs; rfl) hst)
            · exact wp_ran rfl (exec_move rfl (eval_tmp (hpar 9 (by simp)))) (hK _ _ (fun s hs => by cases hs; rfl) hst)
            · exact wp_ran rfl (exec_same HOR.out.2.2.2 rfl (eval_tmp (hgot 28 _ 93 rfl (hdep ⟨28, .data⟩ (by simp) rfl) rfl)) (eval_tmp (hgot 29 _ 94 rfl (hdep ⟨29, .data⟩ (by simp) rfl) rfl))) (hK _ _ (fun s hs => by cases hs; rfl) hst)
          case fin =>
            intro lz v hl hst
            have mj2 := mj.then (Mod.drewed hst)
            have hz : (kk : Int) < 8 := by have := HK.out; omega
            have hk1 : kk + 1 ≤ 8 := HK.out
            clear hst hl
            try dsimp only
            go_wp2_with fail
            exact ⟨⟨kk + 1, hk1, by go_num, mj2⟩, by simp [intOf]; omega⟩
        · obtain rfl : kk = 8 := by omega
          clear hlt hk
          go_wp2_with fail
          go_ret
          exact ⟨rfl, HN.out.then mj⟩
end Go.Proofs.YtgojheoelcmcpaaDoor
