/-
  Contracts of package sha: the first words of a block. My own work.
-/
import Derived.Test.YtdolihecjomjiaaDoorRing
import Derived.Test.YtdolihecjomjiaaDoorOctD
namespace Go.Proofs.YtdolihecjomjiaaDoor
open Go.RowKit
/-- The t-th word of these bytes. -/
def wordAt (b : List UInt8) (t : Nat) : UInt32 := UInt32.ofNat (be ((b.drop (4 * t)).take 4))
def first16 (b : List UInt8) : List UInt32 := (List.range 16).map (wordAt b)
theorem first16_length (b : List UInt8) : (first16 b).length = 16 := by simp [first16]
theorem size76 : (Tryd.prog.info? 76).map (·.size) = some 64 := by kernel_rfl
theorem size82 : (Tryd.prog.info? 82).map (·.size) = some 16 := by kernel_rfl
theorem size80 : (Tryd.prog.info? 80).map (·.size) = some 8 := by kernel_rfl
theorem size68 : (Tryd.prog.info? 68).map (·.size) = some 8 := by kernel_rfl
theorem zero82 : ∀ w, (zeroValue 82).run Tryd.prog w = .ok (.agg ((List.replicate 16 (0 : UInt32)).map wd).toArray) w := (zero_of_info (n := 16) (by kernel_rfl)).1
theorem zero80 : ∀ w, (zeroValue 80).run Tryd.prog w = .ok (.agg ((List.replicate 8 (0 : UInt32)).map wd).toArray) w := (zero_of_info (n := 8) (by kernel_rfl)).1
theorem zero68 : ∀ w, (zeroValue 68).run Tryd.prog w = .ok (.agg ((List.replicate 8 (0 : UInt32)).map wd).toArray) w := (zero_of_info (n := 8) (by kernel_rfl)).1
theorem size58_of (L : List UInt32) (h : L.length = 16) : (Tryd.prog.info? 82).map (·.size) = some (L.map wd).length := by rw [List.length_map, h]; exact size82
theorem size26_of (L : List UInt32) (h : L.length = 8) : (Tryd.prog.info? 68).map (·.size) = some (L.map wd).length := by rw [List.length_map, h]; exact size68
theorem size56_of (L : List UInt32) (h : L.length = 8) : (Tryd.prog.info? 80).map (·.size) = some (L.map wd).length := by rw [List.length_map, h]; exact size80
theorem wordAt_val (b : List UInt8) (t : Nat) : (wordAt b t).toNat = be ((b.drop (4 * t)).take 4) := by
  unfold wordAt
  rw [UInt32.toNat_ofNat', Nat.mod_eq_of_lt]
  have h1 := be_lt ((b.drop (4 * t)).take 4)
  have h2 : 256 ^ ((b.drop (4 * t)).take 4).length ≤ 256 ^ 4 := Nat.pow_le_pow_right (by omega) (by simp; omega)
  omega
theorem tookw (b : List UInt8) (t : Nat) (hb : b.length = 64) (ht : t < 16) : offNum (b.drop (4 * t)) 0 4 = (wordAt b t).toNat := by
  rw [wordAt_val]
  unfold offNum
  rw [if_pos rfl, if_pos (by simp; omega)]
theorem tookr (b : List UInt8) (t : Nat) (hb : b.length = 64) (ht : t < 16) : offRest (b.drop (4 * t)) 0 ((4 : Nat) : Int) = b.drop (4 * (t + 1)) := by
  unfold offRest
  rw [if_pos ⟨rfl, by omega, by simp; omega⟩, List.drop_drop]
  congr 1
theorem tooke (b : List UInt8) (t : Nat) (hb : b.length = 64) (ht : t < 16) : offErr (b.drop (4 * t)) 0 ((4 : Nat) : Int) = 0 := by
  unfold offErr
  rw [if_pos rfl, if_neg (by omega), if_neg (by simp; omega)]
def upto (b : List UInt8) (t : Nat) : List UInt32 := (List.range t).map (wordAt b) ++ List.replicate (16 - t) 0
theorem upto_length (b : List UInt8) (t : Nat) (ht : t ≤ 16) : (upto b t).length = 16 := by simp [upto]; omega
theorem upto_next (b : List UInt8) (t : Nat) (ht : t < 16) : (upto b t).set t (wordAt b t) = upto b (t + 1) := by
  unfold upto
  rw [set_at _ _ _ _ _ (by simp) (by omega), List.range_succ, List.map_append]
  rfl
set_option maxRecDepth 1000000 in
set_option maxHeartbeats 4000000 in
theorem first_c (b : List UInt8) (hb : b.length = 64) (w : World) :
    Calls Tryd.prog 47 #[.agg (b.map oct).toArray] w fun e w' => e = .returned (.agg ((first16 b).map wd).toArray) ∧ Mod [] w w' := by
  have HB := Lib.hid hb
  clear hb
  go_enter Tryd.func47, Tryd.ntmps47
  go_wp2_with (first
    | (with_reducible refine wpList_boxes (o := ⟨some 1, .box 76 (.tmp 0), _, _, _, _⟩) rfl 76 (.tmp 0) rfl _ rfl (b.map oct) rfl ?_; intro w1 hb1 m1 z1; replace z1 := Lib.hid z1)
    | (with_reducible refine wpList_allocs (o := ⟨some 2, .alloc 82, _, _, _, _⟩) rfl 82 rfl _ zero82 ?_; intro w2 hb2 m2 z2; replace z2 := Lib.hid z2)
    | (with_reducible refine wpList_allocs (o := ⟨some 3, .alloc 82, _, _, _, _⟩) rfl 82 rfl _ zero82 ?_; intro w3 hb3 m3 z3; replace z3 := Lib.hid z3))
  refine (read_n _ b _ _ _ HB.out.symm (by rw [HB.out]; omega) (Reads.of_holds ((hb1.keep m2 (by simp)).keep m3 (by simp)))).mono ?_
  rintro e w4 ⟨gr, br, rfl, o1, o2, R4, m4⟩
  have h2 := (hb2.keep m3 (by simp)).keep m4 (by simp)
  have h3 := hb3.keep m4 (by simp)
  have mm : Mod [] w w4 := ((m1.then m2).then m3).then m4
  obtain ⟨b2, e2⟩ : ∃ b, b = w1.heap.size := ⟨_, rfl⟩
  obtain ⟨b3, e3⟩ : ∃ b, b = w2.heap.size := ⟨_, rfl⟩
  have q1 : w.heap.size < b2 := by have := z1.out; omega
  have q2 : b2 < b3 := by have := z2.out; omega
  have q3 : b3 < gr := by have := z3.out; omega
  have q4 : b3 < br := by have := z3.out; omega
  rw [← e2] at h2
  rw [← e3] at h3
  rw [← e2, ← e3]
  have h3' : Holds w4 b3 82 ((upto b 0).map wd) := h3
  clear e2 e3 hb1 hb2 hb3 m1 m2 m3 m4 z1 z2 z3 o1 o2 h3
  go_wp2_with fail
  go_loopw [8] (fun i wi => ∃ t : Nat, t ≤ 16 ∧ i = .int .i64 (t : Int) ∧ Rdr wi gr br (b.drop (4 * t)) 0 ∧ Holds wi b3 82 ((upto b t).map wd) ∧ Holds wi b2 82 ((List.replicate 16 (0 : UInt32)).map wd) ∧ Mod [] w wi) (fun i _ => 16 - (intOf i).toNat)
  case atStart => exact ⟨0, by omega, rfl, R4, h3', h2, mm⟩
  case round =>
    clear R4 h2 h3' mm
    obtain ⟨t, ht, rfl, Rt, h3, h2, mm⟩ := hrel
    by_cases hlt : t < 16
    · have X := u32_c gr br (b.drop (4 * t)) 0 _ Rt
      unfold Took_ at X
      rw [tookw b t HB.out hlt, tookr b t HB.out hlt, tooke b t HB.out hlt] at X
      have hz : (t : Int) < 16 := by omega
      go_wp2_with fail
      refine X.mono ?_
      clear X
      rintro e w5 ⟨rfl, R5, m5⟩
      have h35 := h3.keep m5 (by simp; omega)
      have h25 := h2.keep m5 (by simp; omega)
      have hcell := word_cell h35 (i := t) (by rw [upto_length b t ht]; exact hlt)
      have hfree := h35.free t
      have hset := word_set h35 t (wordAt b t)
      rw [upto_next b t hlt] at hset
      rw [Nat.zero_add] at hcell hset
      clear h3 h2 Rt
      have m6 : Mod [b3] w5 (w5.setCell ⟨b3, t, none⟩ (wd (wordAt b t))) := Mod.setCell w5 (by simp) _
      have m7 : Mod [] w (w5.setCell ⟨b3, t, none⟩ (wd (wordAt b t))) := ⟨m6.os.trans (m5.os.trans mm.os), m6.tape.trans (m5.tape.trans mm.tape), m6.output.trans (m5.output.trans mm.output), Nat.le_trans mm.size (Nat.le_trans m5.size m6.size), fun k hk _ => by
        rw [m6.block k (by have := mm.size; have := m5.size; omega) (by simp; omega), m5.block k (by have := mm.size; omega) (by simp; omega), mm.block k hk (by simp)]⟩
      have R7 := R5.keep m6 (by simp; omega) (by simp; omega)
      have h27 := h25.keep m6 (by simp; omega)
      clear m5 m6 mm R5 h25 h35
      go_wp2_with fail
      exact ⟨⟨t + 1, by omega, by go_num, R7, hset, h27, m7⟩, by simp [intOf]; omega⟩
    · obtain rfl : t = 16 := by omega
      have hu : upto b 16 = first16 b := by simp [upto, first16]
      rw [hu] at h3
      have hl := first16_length b
      have HL := Lib.hid hl
      clear hl hu Rt
      go_wp2_with (first
        | (with_reducible refine wpList_loads (o := ⟨some 16, .load 82 (.tmp 3), _, _, _, _⟩) rfl 82 (.tmp 3) rfl b3 0 _ rfl (Cells.of_holds h3) _ Tryd.underlying82 rfl (size58_of _ HL.out) (.agg ((first16 b).map wd).toArray) rfl ?_)
        | (with_reducible refine wpList_storesAll (o := ⟨none, .store 82 (.tmp 2) (.tmp 16), _, _, _, _⟩) rfl 82 (.tmp 2) (.tmp 16) rfl rfl b2 ((first16 b).map wd) rfl (.agg ((first16 b).map wd).toArray) rfl rfl 82 _ h2 (by rw [List.length_map, List.length_map, HL.out, List.length_replicate]) (words_one _) (size58_of _ HL.out) ?_; intro w7 hw7 m7 z7))
      refine bodyPost_ret (results_cell_row rfl _ _ b2 82 _ (0, 0) _ rfl hw7 Tryd.underlying82 rfl (by rw [List.size_toArray]; exact size58_of _ HL.out)) rfl ?_
      exact ⟨rfl, ⟨m7.os.trans mm.os, m7.tape.trans mm.tape, m7.output.trans mm.output, Nat.le_trans mm.size m7.size, fun k hk _ => by rw [m7.block k (by have := mm.size; omega) (by simp; omega), mm.block k hk (by simp)]⟩⟩
end Go.Proofs.YtdolihecjomjiaaDoor
