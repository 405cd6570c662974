/-
  Package wots: the digits of a digest, and its check sum. My own work.
-/
import Derived.Test.YtdolihecjomjiaaDoorWf
namespace Go.Proofs.YtdolihecjomjiaaDoor
open Go.RowKit Go.Shelf
theorem info5 : ∃ it, Tryd.prog.info? 5 = some it ∧ it.size = 1 := by
  obtain ⟨i0, h1, h2, h3, h4⟩ := info_parts u8_zero
  exact ⟨i0, h1, h3⟩
theorem run_index25 (x : Idv) (k : Nat) (hk : k < x.1.length) (v : World) : (Instr.index 25 (iv x) (.int .i64 (k : Int))).run Tryd.prog v = .ok (oct x.1[k]) v := by
  obtain ⟨it, h1, h2⟩ := info5
  have hx := x.2
  have h4 : k < 32 := by omega
  simp [Instr.index, iv, ic, run_underlying Tryd.underlying25, go_sem, sizeOf, typeInfo, h1, h2, part, isAgg, run_underlying Tryd.underlying5, h4, hk]
theorem exec_index25 {v : World} {o : Oper} {ρ : Operand → Value} {x y : Operand} {X : Idv} {k : Nat} (hk : k < X.1.length) (ho : o.op = .index 25 x y) (hx : ρ x = iv X) (hy : ρ y = .int .i64 (k : Int)) : (execOp ρ o).run Tryd.prog v = .ok (.value (oct X.1[k])) v := by
  unfold execOp
  simp only [ho, hx, hy, Sem.run_bind, run_index25 X k hk, Result.andThen, Sem.run_pure]
theorem conv53 (b : UInt8) : IntKind.i64.wrap (b.toNat : Int) = (b.toNat : Int) := IntWalk.i64_in _ (by have := UInt8.toNat_lt b; omega)
/-- The 64 digits of a digest. -/
def bits2 (l : List UInt8) : List Nat := l.flatMap fun b => digs b.toNat 2
theorem bits2_length (l : List UInt8) : (bits2 l).length = l.length * 2 := by
  induction l with
  | nil => rfl
  | cons b l ih => simp only [bits2, List.flatMap_cons, List.length_append, List.length_cons, digs_length] at ih ⊢; omega
theorem bits2_snoc (l : List UInt8) (k : Nat) (h : k < l.length) : bits2 (l.take (k + 1)) = bits2 (l.take k) ++ digs l[k].toNat 2 := by
  rw [List.take_succ_eq_append_getElem h, bits2, List.flatMap_append]
  simp [bits2]
theorem digs_lt {n c d : Nat} (h : d ∈ digs n c) : d < 16 := by
  unfold digs at h
  obtain ⟨k, _, rfl⟩ := List.mem_map.1 h
  exact Nat.mod_lt _ (by decide)
theorem bits2_lt {l : List UInt8} {d : Nat} (h : d ∈ bits2 l) : d < 16 := by
  obtain ⟨b, _, hb⟩ := List.mem_flatMap.1 h
  exact digs_lt hb
/-- What 15 is more than each of these, together. -/
def csum (l : List Nat) : Nat := (l.map fun d => 15 - d).sum
theorem csum_snoc (l : List Nat) (k : Nat) (h : k < l.length) : csum (l.take (k + 1)) = csum (l.take k) + (15 - l[k]) := by
  rw [List.take_succ_eq_append_getElem h]
  unfold csum
  rw [List.map_append, List.sum_append]
  simp
theorem csum_le (l : List Nat) : csum l ≤ 15 * l.length := by
  induction l with
  | nil => simp [csum]
  | cons d l ih => simp only [csum, List.map_cons, List.sum_cons, List.length_cons] at ih ⊢; omega
/-- All digits of a digest. -/
def digitsN (x : Idv) : List Nat := bits2 x.1 ++ digs (csum (bits2 x.1)) 3
theorem digitsN_length (x : Idv) : (digitsN x).length = 67 := by
  unfold digitsN
  rw [List.length_append, bits2_length, digs_length, x.2]
theorem digitsN_lt {x : Idv} {d : Nat} (h : d ∈ digitsN x) : d < 16 := by
  rcases List.mem_append.1 h with h | h
  · exact bits2_lt h
  · exact digs_lt h
theorem OwnG.int_at {w : World} {A : Option Addr} {c : Nat} {l : List Nat} (h : OwnG fi 3 1 w A c l) (k : Nat) (hk : k < l.length) : ∃ g o, A = some ⟨g, o, none⟩ ∧ w.cell? ⟨g, o + k, none⟩ = some (.int .i64 (l[k] : Int)) := by
  obtain ⟨g, o, hA, hc⟩ := h.cells.elem' fi 1 (by decide) fi_length k hk
  exact ⟨g, o, hA, by simpa [fi] using hc.at 0 (by simp [fi])⟩
set_option maxRecDepth 100000 in
set_option maxHeartbeats 4000000 in
theorem digits_c (x : Idv) (w : World) :
    Calls Tryd.prog 11 #[iv x] w fun r w' => ∃ A c, r = .returned (.slice A 67 c) ∧ OwnG fi 3 1 w' A c (digitsN x) ∧ Mod [] w w' ∧ (∀ i ∈ blk A, w.heap.size ≤ i) := by
  obtain ⟨i0, hi, hz0, hz1, hz2⟩ := info_parts int_zero
  have HI := Lib.hid (And.intro hi (And.intro hz0 (And.intro hz1 hz2)))
  have hx := x.2
  have HX := Lib.hid hx
  clear hi hz0 hz1 hz2 hx
  go_enter Tryd.func11, Tryd.ntmps11
  go_wp2_with (first
    | (with_reducible refine wpList_boxes (o := ⟨some 1, .box 25 (.tmp 0), _, _, _, _⟩) rfl 25 (.tmp 0) rfl _ rfl (ic x) rfl ?_; intro w1 hb1 m1 z1; replace z1 := Lib.hid z1)
    | (refine wpList_make0G fi (o := ⟨some 9, .makeSlice 26 _ _, _, _, _, _⟩) rfl 26 _ _ rfl 3 i0 (.int .i64 0) 1 8 67 Tryd.underlying26 HI.out.1 HI.out.2.1 HI.out.2.2.1 HI.out.2.2.2 rfl rfl (by decide) (by decide) ?_
       intro w2 hO m2 z2
       replace z2 := Lib.hid z2
       obtain ⟨Y, hY⟩ : ∃ Y : Option Addr, Y = some ⟨w1.heap.size, 0, none⟩ := ⟨_, rfl⟩
       have hYb : ∀ i ∈ blk Y, w.heap.size < i := fun i hi => by obtain ⟨a, ha, rfl⟩ := mem_blk hi; rw [hY] at ha; cases ha; have := z1.out; show w.heap.size < w1.heap.size; omega
       rw [← hY] at hO ⊢
       clear hY)
    | (with_reducible refine wpList_loads (o := ⟨some 10, .load 25 (.tmp 1), _, _, _, _⟩) rfl 25 (.tmp 1) rfl w.heap.size 0 _ rfl (Cells.of_holds (hb1.keep m2 (by simp))) _ Tryd.underlying25 rfl (size25i x) (iv x) rfl ?_))
  have mm2 : Mod [] w w2 := m1.then m2
  clear hb1 m1 m2 z1 z2
  go_loopw [11, 3] (fun i s wi => ∃ (k : Nat) (A1 : Option Addr) (c' m' : Nat), k ≤ 32 ∧ i = .int .i64 (k : Int) ∧ s = .slice A1 m' c' ∧ m' = k * 2 ∧ OwnG fi 3 1 wi A1 c' (bits2 (x.1.take k)) ∧ Mod [] w wi ∧ (∀ i ∈ blk A1, w.heap.size ≤ i)) (fun i _ _ => 32 - (intOf i).toNat)
  case atStart => exact ⟨0, Y, 67, 0, by omega, rfl, rfl, rfl, by simpa [bits2] using hO, mm2, fun i hi => Nat.le_of_lt (hYb i hi)⟩
  case round =>
    obtain ⟨k, A1, c', m', hk, rfl, rfl, hm, hOw, hmi, hbl⟩ := hrel
    by_cases hkn : k < 32
    · have hkZ : (k : Int) < 32 := by omega
      have hkl : k < x.1.length := by rw [HX.out]; exact hkn
      have hsn := bits2_snoc x.1 k hkl
      obtain ⟨b, hb⟩ : ∃ b, b = x.1[k] := ⟨_, rfl⟩
      rw [← hb] at hsn
      have hml : m' = (bits2 (x.1.take k)).length := by rw [bits2_length, List.length_take, HX.out, hm]; omega
      have X := inDigits_c A1 c' m' _ b.toNat 2 hml (by omega) (by have := UInt8.toNat_lt b; omega) (by decide) (by decide) wr hOw
      have hix : ∀ (v : World) (o : Oper) (ρ : Operand → Value) (y z : Operand), o.op = .index 25 y z → ρ y = iv x → ρ z = .int .i64 (k : Int) → (execOp ρ o).run Tryd.prog v = .ok (.value (oct b)) v := fun v o ρ y z h1 h2 h3 => by rw [hb]; exact exec_index25 hkl h1 h2 h3
      have HE := Lib.hid (And.intro hix (And.intro trivial (And.intro hsn (And.intro hm (And.intro hmi hbl)))))
      have hcv := conv53 b
      clear hix hb hsn hm hOw hmi hbl hml hkl hO hYb mm2
      go_wp2_with (first
        | (with_reducible refine wpList_ranW (o := ⟨some 13, .index 25 _ _, _, _, _, _⟩) (by with_unfolding_all rfl) (oct b) wr (HE.out.1 _ _ _ _ _ rfl rfl rfl) ?_)
        | (go_at_call 27; refine X.mono ?_; rintro e w3 ⟨A', c'', rfl, hO3, m3, q3⟩))
      have hmi := HE.out.2.2.2.2.1
      have hbl := HE.out.2.2.2.2.2
      refine ⟨⟨k + 1, A', c'', _, by omega, by go_num, rfl, by simp only [bits2_length, digs_length, List.length_take, HX.out]; omega, by rw [HE.out.2.2.1]; exact hO3, far_mod hmi m3 hbl, fun i hi => by
        rcases q3 i hi with h | h
        · exact hbl i h
        · exact Nat.le_trans hmi.size h⟩, by simp [intOf]; omega⟩
    · obtain rfl : k = 32 := by omega
      have hall : x.1.take 32 = x.1 := List.take_of_length_le (by rw [HX.out]; exact Nat.le_refl _)
      rw [hall] at hOw
      obtain rfl : m' = 64 := hm
      obtain ⟨d, hd⟩ : ∃ d, d = bits2 x.1 := ⟨_, rfl⟩
      have hdl : d.length = 64 := by rw [hd, bits2_length, HX.out]
      have hd16 : ∀ y ∈ d, y < 16 := fun y hy => by rw [hd] at hy; exact bits2_lt hy
      have hD : digitsN x = d ++ digs (csum d) 3 := by rw [hd]; rfl
      rw [← hd] at hOw
      have HE := Lib.hid (And.intro hOw (And.intro hmi (And.intro hbl (And.intro hdl (And.intro hd16 hD)))))
      clear hOw hmi hbl hall hO hYb mm2 hd hdl hd16 hD
      go_wp2_with fail
      go_loopw [21, 6] (fun i s wi => ∃ (k q : Nat), k ≤ 64 ∧ i = .int .i64 (k : Int) ∧ s = .int .i64 (q : Int) ∧ q = csum (d.take k) ∧ wi = wr) (fun i _ _ => 64 - (intOf i).toNat)
      case atStart => exact ⟨0, 0, by omega, rfl, rfl, rfl, rfl⟩
      case round =>
        obtain ⟨k, q, hk, rfl, rfl, hq, rfl⟩ := hrel
        by_cases hkn : k < 64
        · have hkZ : (k : Int) < 64 := by omega
          obtain ⟨ga, oa, rfl, hce⟩ := HE.out.1.int_at k (by rw [HE.out.2.2.2.1]; exact hkn)
          have hsn := csum_snoc d k (by rw [HE.out.2.2.2.1]; exact hkn)
          have hlt := HE.out.2.2.2.2.1 _ (List.getElem_mem (l := d) (n := k) (by rw [HE.out.2.2.2.1]; exact hkn))
          have hql := csum_le (d.take k)
          rw [← hq, List.length_take, HE.out.2.2.2.1] at hql
          obtain ⟨y, hy⟩ : ∃ y, y = d[k]'(by rw [HE.out.2.2.2.1]; exact hkn) := ⟨_, rfl⟩
          rw [← hy] at hce hsn hlt
          have hyZ : (y : Int) ≤ 15 := by omega
          have hqZ : (q : Int) ≤ 960 := by omega
          have HQ := Lib.hid (And.intro hsn hq)
          clear hsn hq hy hql hlt
          go_wp2
          refine ⟨⟨k + 1, q + (15 - y), by omega, by go_num, by go_num, by rw [HQ.out.1, ← HQ.out.2], by first | trivial | rfl⟩, by simp [intOf]; omega⟩
        · obtain rfl : k = 64 := by omega
          have hall : d.take 64 = d := List.take_of_length_le (by rw [HE.out.2.2.2.1]; exact Nat.le_refl _)
          rw [hall] at hq
          have hql := csum_le d
          rw [← hq, HE.out.2.2.2.1] at hql
          have X := inDigits_c A1 c' 64 _ q 3 HE.out.2.2.2.1.symm (by decide) (by omega) (by decide) (by decide) wr HE.out.1
          have HQ := Lib.hid hq
          clear hq hql hall
          go_wp2_with (go_at_call 27; refine X.mono ?_; rintro e w3 ⟨A', c'', rfl, hO3, m3, q3⟩)
          have hmi := HE.out.2.1
          have hbl := HE.out.2.2.1
          have hD := HE.out.2.2.2.2.2
          have hln : d.length + (digs q 3).length = 67 := by rw [digs_length, HE.out.2.2.2.1]
          go_ret
          refine ⟨A', c'', ?_, by rw [hD, ← HQ.out]; exact hO3, far_mod hmi m3 hbl, fun i hi => ?_⟩
          · rw [hln]; rfl
          · rcases q3 i hi with h | h
            · exact hbl i h
            · exact Nat.le_trans hmi.size h
end Go.Proofs.YtdolihecjomjiaaDoor
