/-
  The document's own digits. My own work.
-/
import Derived.Test.YtdolihecjomjiaaDoorWg
namespace Go.Proofs.YtdolihecjomjiaaDoor
open Go.RowKit Go.Shelf
theorem run_lit26b (a b : Nat) (w : World) : (Instr.buildSlice 26 2 #[(0, .int .i64 (a : Int)), (1, .int .i64 (b : Int))]).run Tryd.prog w = .ok (.slice (some ⟨w.heap.size, 0, none⟩) 2 2) (w.alloc (.cells ([a, b].flatMap fi).toArray 3)) := by
  go_simp
  rfl
theorem run_lit26c (a b c : Nat) (w : World) : (Instr.buildSlice 26 3 #[(0, .int .i64 (a : Int)), (1, .int .i64 (b : Int)), (2, .int .i64 (c : Int))]).run Tryd.prog w = .ok (.slice (some ⟨w.heap.size, 0, none⟩) 3 3) (w.alloc (.cells ([a, b, c].flatMap fi).toArray 3)) := by
  go_simp
  rfl
theorem exec_lit26b {a : Act} {o : Oper} {w : World} {x y : Operand} {d e : Nat} (ho : o.op = .buildSlice 26 2 #[(0, x), (1, y)]) (hx : a.eval x = .int .i64 (d : Int)) (hy : a.eval y = .int .i64 (e : Int)) : (execOp a.eval o).run Tryd.prog w = .ok (.value (.slice (some ⟨w.heap.size, 0, none⟩) 2 2)) (w.alloc (.cells ([d, e].flatMap fi).toArray 3)) := by
  unfold execOp
  simp only [ho, List.map_toArray, List.map_cons, List.map_nil, hx, hy, Sem.run_bind, run_lit26b, Result.andThen, Sem.run_pure]
theorem exec_lit26c {a : Act} {o : Oper} {w : World} {x y z : Operand} {d e f : Nat} (ho : o.op = .buildSlice 26 3 #[(0, x), (1, y), (2, z)]) (hx : a.eval x = .int .i64 (d : Int)) (hy : a.eval y = .int .i64 (e : Int)) (hz : a.eval z = .int .i64 (f : Int)) : (execOp a.eval o).run Tryd.prog w = .ok (.value (.slice (some ⟨w.heap.size, 0, none⟩) 3 3)) (w.alloc (.cells ([d, e, f].flatMap fi).toArray 3)) := by
  unfold execOp
  simp only [ho, List.map_toArray, List.map_cons, List.map_nil, hx, hy, hz, Sem.run_bind, run_lit26c, Result.andThen, Sem.run_pure]
theorem digs_two (b : UInt8) : digs b.toNat 2 = [b.toNat / 16, b.toNat % 16] := by
  have := UInt8.toNat_lt b
  simp [digs, List.range_succ]
  omega
theorem digs_three (n : Nat) (h : n < 4096) : digs n 3 = [n / 256, n / 16 % 16, n % 16] := by
  simp [digs, List.range_succ]
  omega
set_option maxRecDepth 100000 in
set_option maxHeartbeats 4000000 in
theorem rdigits_c (x : Idv) (w : World) :
    Calls Tryd.prog 12 #[iv x] w fun r w' => ∃ A c, r = .returned (.slice A 67 c) ∧ OwnG fi 3 1 w' A c (digitsN x) ∧ Mod [] w w' ∧ (∀ i ∈ blk A, w.heap.size ≤ i) := by
  obtain ⟨i0, hi, hz0, hz1, hz2⟩ := info_parts int_zero
  have HI := Lib.hid (And.intro hi (And.intro hz0 (And.intro hz1 hz2)))
  have hx := x.2
  have HX := Lib.hid hx
  clear hi hz0 hz1 hz2 hx
  go_enter Tryd.func12, Tryd.ntmps12
  go_wp2_with (first
    | (with_reducible refine wpList_boxes (o := ⟨some 1, .box 25 (.tmp 0), _, _, _, _⟩) rfl 25 (.tmp 0) rfl _ rfl (ic x) rfl ?_; intro w1 hb1 m1 z1; replace z1 := Lib.hid z1)
    | (with_reducible refine wpList_loads (o := ⟨some 9, .load 25 (.tmp 1), _, _, _, _⟩) rfl 25 (.tmp 1) rfl w.heap.size 0 _ rfl (Cells.of_holds hb1) _ Tryd.underlying25 rfl (size25i x) (iv x) rfl ?_))
  clear hb1 z1
  go_loopw [10, 3] (fun i s wi => ∃ (k : Nat) (A1 : Option Addr) (c' m' : Nat), k ≤ 32 ∧ i = .int .i64 (k : Int) ∧ s = .slice A1 m' c' ∧ m' = k * 2 ∧ OwnG fi 3 1 wi A1 c' (bits2 (x.1.take k)) ∧ Mod [] w wi ∧ (∀ i ∈ blk A1, w.heap.size ≤ i)) (fun i _ _ => 32 - (intOf i).toNat)
  case atStart => exact ⟨0, none, 0, 0, by omega, rfl, rfl, rfl, OwnG.nil fi 3 1 _, m1, fun i hi => by simp [blk] at hi⟩
  case round =>
    obtain ⟨k, A1, c', m', hk, rfl, rfl, hm, hOw, hmi, hbl⟩ := hrel
    by_cases hkn : k < 32
    · have hkZ : (k : Int) < 32 := by omega
      have hkl : k < x.1.length := by rw [HX.out]; exact hkn
      have hsn := bits2_snoc x.1 k hkl
      obtain ⟨b, hb⟩ : ∃ b, b = x.1[k] := ⟨_, rfl⟩
      rw [← hb, digs_two] at hsn
      have hml : m' = (bits2 (x.1.take k)).length := by rw [bits2_length, List.length_take, HX.out, hm]; omega
      have hix : ∀ (v : World) (o : Oper) (ρ : Operand → Value) (y z : Operand), o.op = .index 25 y z → ρ y = iv x → ρ z = .int .i64 (k : Int) → (execOp ρ o).run Tryd.prog v = .ok (.value (oct b)) v := fun v o ρ y z h1 h2 h3 => by rw [hb]; exact exec_index25 hkl h1 h2 h3
      obtain ⟨d, hd⟩ : ∃ d, d = b.toNat / 16 := ⟨_, rfl⟩
      obtain ⟨e, he⟩ : ∃ e, e = b.toNat % 16 := ⟨_, rfl⟩
      have hb256 := UInt8.toNat_lt b
      have e1 : ((b.toNat : Int) / 16) = (d : Int) := by omega
      have e2 : ((b.toNat : Int) % 16) = (e : Int) := by omega
      rw [← hd, ← he] at hsn
      have hdZ : (d : Int) ≤ 15 := by omega
      have heZ : (e : Int) ≤ 15 := by omega
      have HE := Lib.hid (And.intro hix (And.intro hml (And.intro hsn (And.intro hm (And.intro hmi (And.intro hbl (And.intro hOw (show m' ≤ 64 by omega))))))))
      clear hix hb hsn hm hOw hmi hbl hml hkl hd he m1
      go_wp2_with (first
        | (with_reducible refine wpList_ranW (o := ⟨some 12, .index 25 _ _, _, _, _, _⟩) (by with_unfolding_all rfl) (oct b) wr (HE.out.1 _ _ _ _ _ rfl rfl rfl) ?_)
        | (with_reducible refine wpList_made (o := ⟨some 20, .buildSlice 26 2 _, _, _, _, _⟩) (by with_unfolding_all rfl) _ 3 ([d, e].flatMap fi) (exec_lit26b rfl rfl rfl) ?_
           intro w3 hb3 m3 z3
           have O3 := HE.out.2.2.2.2.2.2.1.keep m3 (by simp)
           replace z3 := Lib.hid z3)
        | (refine wpList_appendG (f := fi) w3 (o := ⟨some 21, _, _, _, _, _⟩) rfl (.tmp 13) (.tmp 20) 26 rfl 3 i0 (.int .i64 0) 8 Tryd.underlying26 HI.out.1 HI.out.2.1 HI.out.2.2.1 HI.out.2.2.2 rfl (by decide) fi_length fi_one A1 m' c' (bits2 (x.1.take k)) rfl HE.out.2.1 O3 (some ⟨wr.heap.size, 0, none⟩) 2 2 [d, e] rfl rfl (Cells.of_holds hb3) (by rw [← HE.out.2.1]; have := HE.out.2.2.2.2.2.2.2; simp; omega) (by rw [← HE.out.2.1]; have := HE.out.2.2.2.2.2.2.2; unfold maxLen; simp; omega) ?_
           intro A' c'' w4 hO4 m4 q4))
      have hmi := HE.out.2.2.2.2.1
      have hbl := HE.out.2.2.2.2.2.1
      refine ⟨⟨k + 1, A', c'', _, by omega, by go_num, rfl, by rw [← HE.out.2.1]; have := HE.out.2.2.2.1; omega, by rw [HE.out.2.2.1]; exact hO4, far_mod (hmi.then m3) m4 hbl, fun i hi => by
        obtain ⟨a, ha, rfl⟩ := mem_blk hi
        rcases q4 a ha with h | h
        · exact hbl _ h
        · have := hmi.size; have := m3.size; omega⟩, by simp [intOf]; omega⟩
    · obtain rfl : k = 32 := by omega
      have hall : x.1.take 32 = x.1 := List.take_of_length_le (by rw [HX.out]; exact Nat.le_refl _)
      rw [hall] at hOw
      obtain rfl : m' = 64 := hm
      obtain ⟨d, hd⟩ : ∃ d, d = bits2 x.1 := ⟨_, rfl⟩
      have hdl : d.length = 64 := by rw [hd, bits2_length, HX.out]
      have hd16 : ∀ y ∈ d, y < 16 := fun y hy => by rw [hd] at hy; exact bits2_lt hy
      have hD : digitsN x = d ++ digs (csum d) 3 := by rw [hd]; rfl
      rw [← hd] at hOw
      have HE := Lib.hid (And.intro hOw (And.intro hmi (And.intro hbl (And.intro hdl (And.intro hd16 hD)))))
      clear hOw hmi hbl hall hd hdl hd16 hD m1
      go_wp2_with fail
      go_loopw [25, 4] (fun i s wi => ∃ (k q : Nat), k ≤ 64 ∧ i = .int .i64 (k : Int) ∧ s = .int .i64 (q : Int) ∧ q = csum (d.take k) ∧ wi = wr) (fun i _ _ => 64 - (intOf i).toNat)
      case atStart => exact ⟨0, 0, by omega, rfl, rfl, rfl, rfl⟩
      case round =>
        obtain ⟨k, q, hk, rfl, rfl, hq, rfl⟩ := hrel
        by_cases hkn : k < 64
        · have hkZ : (k : Int) < 64 := by omega
          obtain ⟨ga, oa, rfl, hce⟩ := HE.out.1.int_at k (by rw [HE.out.2.2.2.1]; exact hkn)
          have hsn := csum_snoc d k (by rw [HE.out.2.2.2.1]; exact hkn)
          have hlt := HE.out.2.2.2.2.1 _ (List.getElem_mem (l := d) (n := k) (by rw [HE.out.2.2.2.1]; exact hkn))
          have hql := csum_le (d.take k)
          rw [← hq, List.length_take, HE.out.2.2.2.1] at hql
          obtain ⟨y, hy⟩ : ∃ y, y = d[k]'(by rw [HE.out.2.2.2.1]; exact hkn) := ⟨_, rfl⟩
          rw [← hy] at hce hsn hlt
          have hyZ : (y : Int) ≤ 15 := by omega
          have hqZ : (q : Int) ≤ 960 := by omega
          have HQ := Lib.hid (And.intro hsn hq)
          clear hsn hq hy hql hlt
          go_wp2
          refine ⟨⟨k + 1, q + (15 - y), by omega, by go_num, by go_num, by rw [HQ.out.1, ← HQ.out.2], by first | trivial | rfl⟩, by simp [intOf]; omega⟩
        · obtain rfl : k = 64 := by omega
          have hall : d.take 64 = d := List.take_of_length_le (by rw [HE.out.2.2.2.1]; exact Nat.le_refl _)
          rw [hall] at hq
          have hql := csum_le d
          rw [← hq, HE.out.2.2.2.1] at hql
          obtain ⟨a1, ha1⟩ : ∃ a, a = q / 256 := ⟨_, rfl⟩
          obtain ⟨a2, ha2⟩ : ∃ a, a = q / 16 := ⟨_, rfl⟩
          obtain ⟨a3, ha3⟩ : ∃ a, a = a2 % 16 := ⟨_, rfl⟩
          obtain ⟨a4, ha4⟩ : ∃ a, a = q % 16 := ⟨_, rfl⟩
          have e1 : ((q : Int) / 256) = (a1 : Int) := by omega
          have e2 : ((q : Int) / 16) = (a2 : Int) := by omega
          have e3 : ((a2 : Int) % 16) = (a3 : Int) := by omega
          have e4 : ((q : Int) % 16) = (a4 : Int) := by omega
          have b1 : (a1 : Int) ≤ 15 := by omega
          have b2 : (a2 : Int) ≤ 100 := by omega
          have b3 : (a3 : Int) ≤ 15 := by omega
          have b4 : (a4 : Int) ≤ 15 := by omega
          have hqZ : (q : Int) ≤ 960 := by omega
          have h3 : digs (csum d) 3 = [a1, a3, a4] := by rw [← hq, digs_three q (by omega), ha1, ha3, ha2, ha4]
          have HQ := Lib.hid (And.intro h3 (And.intro e3 e4))
          clear hq hql hall ha1 ha2 ha3 ha4 h3 e3 e4
          go_wp2_with (first
            | (with_reducible refine wpList_made (o := ⟨some 42, .buildSlice 26 3 _, _, _, _, _⟩) (by with_unfolding_all rfl) _ 3 ([a1, a3, a4].flatMap fi) (exec_lit26c rfl rfl ?hA ?hB) ?_
               case hA => exact congrArg (Value.int .i64) HQ.out.2.1
               case hB => exact congrArg (Value.int .i64) HQ.out.2.2
               intro w3 hb3 m3 z3
               have O3 := HE.out.1.keep m3 (by simp)
               replace z3 := Lib.hid z3)
            | (refine wpList_appendG (f := fi) w3 (o := ⟨some 43, _, _, _, _, _⟩) rfl (.tmp 34) (.tmp 42) 26 rfl 3 i0 (.int .i64 0) 8 Tryd.underlying26 HI.out.1 HI.out.2.1 HI.out.2.2.1 HI.out.2.2.2 rfl (by decide) fi_length fi_one A1 64 c' d rfl HE.out.2.2.2.1.symm O3 (some ⟨wr.heap.size, 0, none⟩) 3 3 [a1, a3, a4] rfl rfl (Cells.of_holds hb3) (by rw [HE.out.2.2.2.1]; simp) (by rw [HE.out.2.2.2.1]; simp [maxLen]) ?_
               intro A' c'' w4 hO4 m4 q4))
          have hmi := HE.out.2.1
          have hbl := HE.out.2.2.1
          have hD := HE.out.2.2.2.2.2
          have hln : d.length + 3 = 67 := by rw [HE.out.2.2.2.1]
          go_ret
          refine ⟨A', c'', ?_, by rw [hD, HQ.out.1]; exact hO4, far_mod (hmi.then m3) m4 hbl, fun i hi => ?_⟩
          · rw [hln]; rfl
          · obtain ⟨a, ha, rfl⟩ := mem_blk hi
            rcases q4 a ha with h | h
            · exact hbl _ h
            · have := hmi.size; have := m3.size; omega
end Go.Proofs.YtdolihecjomjiaaDoor
