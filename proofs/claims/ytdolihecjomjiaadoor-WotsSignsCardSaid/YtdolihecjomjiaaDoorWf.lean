/-
  Package wots: digits behind a row of numbers. My own work.
-/
import Derived.Test.YtdolihecjomjiaaDoorWe
namespace Go.Proofs.YtdolihecjomjiaaDoor
open Go.RowKit Go.Shelf
/-- A number as a cell. -/
def fi (n : Nat) : List Value := [.int .i64 (n : Int)]
theorem fi_length (n : Nat) : (fi n).length = 1 := rfl
theorem fi_one (n : Nat) : ∀ v ∈ fi n, v.oneCell' = true := by simp [fi, Value.oneCell']
/-- So many digits of n, the highest first. -/
def digs (n count : Nat) : List Nat := (List.range count).map fun k => n / 2 ^ (4 * (count - 1 - k)) % 16
theorem digs_length (n count : Nat) : (digs n count).length = count := by simp [digs]
theorem digs_next (n count k : Nat) (h : k < count) : (digs n count).take (k + 1) = (digs n count).take k ++ [n / 2 ^ (4 * (count - 1 - k)) % 16] := by
  rw [List.take_succ_eq_append_getElem (by rw [digs_length]; exact h)]
  simp [digs]
theorem exec_shr {P : Program} {v : World} {o : Oper} {ρ : Operand → Value} {t t' : TypeId} {x y : Operand} {a s : Nat} (hs : s < 64) (ho : o.op = .binOp .shr t x y t') (hx : ρ x = .int .i64 (a : Int)) (hy : ρ y = .int .i64 (s : Int)) : (execOp ρ o).run P v = .ok (.value (.int .i64 ((a / 2 ^ s : Nat) : Int))) v := by
  unfold execOp
  simp [ho, hx, hy, go_sem]
theorem and15i (a : Nat) : bits .and .i64 (a : Int) 15 = ((a % 16 : Nat) : Int) := by
  have e : (15 : Int) = ((15 : Nat) : Int) := rfl
  rw [e]
  show IntKind.i64.wrap ((BitVec.ofInt 64 (a : Int) &&& BitVec.ofInt 64 ((15 : Nat) : Int)).toNat : Int) = _
  rw [ofInt_nat, ofInt_nat, BitVec.toNat_and, BitVec.toNat_ofNat, BitVec.toNat_ofNat]
  have h1 : a % 2 ^ 64 &&& 15 % 2 ^ 64 = a % 16 := by
    rw [show (15 % 2 ^ 64 : Nat) = 2 ^ 4 - 1 from rfl, Nat.and_two_pow_sub_one_eq_mod]
    omega
  rw [h1, IntWalk.i64_in _ (by omega)]
theorem run_lit26 (d : Nat) (w : World) : (Instr.buildSlice 26 1 #[(0, .int .i64 (d : Int))]).run Tryd.prog w = .ok (.slice (some ⟨w.heap.size, 0, none⟩) 1 1) (w.alloc (.cells (fi d).toArray 3)) := by
  go_simp
  rfl
theorem exec_lit26 {a : Act} {o : Oper} {w : World} {x : Operand} {d : Nat} (ho : o.op = .buildSlice 26 1 #[(0, x)]) (hx : a.eval x = .int .i64 (d : Int)) : (execOp a.eval o).run Tryd.prog w = .ok (.value (.slice (some ⟨w.heap.size, 0, none⟩) 1 1)) (w.alloc (.cells (fi d).toArray 3)) := by
  unfold execOp
  simp only [ho, List.map_toArray, List.map_cons, List.map_nil, hx, Sem.run_bind, run_lit26, Result.andThen, Sem.run_pure]
theorem int_zero : (Tryd.prog.info? 3).map (fun i => (i.zero, i.size, i.bytes)) = some (some (.int .i64 0), 1, 8) := by kernel_rfl
theorem OwnG.notin {α : Type} {f : α → List Value} {e : TypeId} {size : Nat} {w : World} {A : Option Addr} {c : Nat} {l : List α} (h : OwnG f e size w A c l) {i : Nat} (hi : i ∈ blk A) : i < w.heap.size := by
  obtain ⟨a, ha, rfl⟩ := mem_blk hi
  exact h.lt a ha
set_option maxRecDepth 100000 in
set_option maxHeartbeats 4000000 in
theorem inDigits_c (A : Option Addr) (c m : Nat) (l : List Nat) (n count : Nat) (hm : m = l.length) (hl : m ≤ 1000) (hn : n < 2147483648) (hc0 : 0 < count) (hc : count ≤ 3) (w : World) (hO : OwnG fi 3 1 w A c l) :
    Calls Tryd.prog 27 #[.slice A m c, .int .i64 (n : Int), .int .i64 (count : Int)] w fun r w' => ∃ A' c', r = .returned (.slice A' (l ++ digs n count).length c') ∧ OwnG fi 3 1 w' A' c' (l ++ digs n count) ∧ Mod (blk A) w w' ∧ (∀ i ∈ blk A', i ∈ blk A ∨ w.heap.size ≤ i) := by
  obtain ⟨i0, hi, hz0, hz1, hz2⟩ := info_parts int_zero
  have HI := Lib.hid (And.intro hi (And.intro hz0 (And.intro hz1 hz2)))
  have hcZ : (count : Int) ≤ 3 := by omega
  obtain ⟨c1, hc1⟩ : ∃ k, k = count - 1 := ⟨_, rfl⟩
  have HC : Hid (IntKind.i64.wrap ((count : Int) - 1) = (c1 : Int)) := Lib.hid (by rw [IntWalk.i64_in _ (by omega)]; omega)
  have HH := Lib.hid (And.intro hm (And.intro hl (And.intro hn (And.intro hc (And.intro hO (And.intro hc1 hc0))))))
  clear hi hz0 hz1 hz2 hm hl hn hc hO hc1 hc0
  go_enter Tryd.func27, Tryd.ntmps27
  go_wp2_with fail
  go_loopw [9, 0] (fun i x wi => ∃ (k : Nat) (A1 : Option Addr) (c' m' : Nat), k ≤ count ∧ i = .int .i64 (k : Int) ∧ x = .slice A1 m' c' ∧ m' = (l ++ (digs n count).take k).length ∧ OwnG fi 3 1 wi A1 c' (l ++ (digs n count).take k) ∧ Mod (blk A) w wi ∧ (∀ i ∈ blk A1, i ∈ blk A ∨ w.heap.size ≤ i)) (fun i _ _ => count - (intOf i).toNat)
  case atStart => exact ⟨0, A, c, m, by omega, rfl, rfl, by simpa using HH.out.1, by simpa using HH.out.2.2.2.2.1, Mod.refl _ _, fun i hi => .inl hi⟩
  case round =>
    obtain ⟨k, A1, c', m', hk, rfl, rfl, hm, hOw, hmi, hbl⟩ := hrel
    by_cases hkn : k < count
    · have hkZ : (k : Int) < (count : Int) := by omega
      obtain ⟨e, he⟩ : ∃ e, e = c1 - k := ⟨_, rfl⟩
      obtain ⟨s4, hs4⟩ : ∃ e, e = 4 * (count - 1 - k) := ⟨_, rfl⟩
      obtain ⟨d, hd⟩ : ∃ d, d = n / 2 ^ s4 % 16 := ⟨_, rfl⟩
      have hcc := HH.out.2.2.2.2.2.1
      have hcc3 := HH.out.2.2.2.1
      have he1 : IntKind.i64.wrap ((c1 : Int) - (k : Int)) = (e : Int) := by rw [IntWalk.i64_in _ (by omega)]; omega
      have he2 : IntKind.i64.wrap (4 * (e : Int)) = (s4 : Int) := by rw [IntWalk.i64_in _ (by omega)]; omega
      have hs63 : s4 < 64 := by omega
      have hsn := digs_next n count k hkn
      rw [← hs4, ← hd] at hsn
      obtain ⟨q, hq⟩ : ∃ q, q = n / 2 ^ s4 := ⟨_, rfl⟩
      have hml : m' ≤ 1003 := by rw [hm, List.length_append, List.length_take, digs_length]; have := HH.out.1; have := HH.out.2.1; omega
      have HE := Lib.hid (And.intro he1 (And.intro he2 (And.intro hs63 (And.intro hd (And.intro hsn (And.intro hm (And.intro hOw (And.intro hmi (And.intro hbl (And.intro hml hq))))))))))
      clear he he1 he2 hs4 hd hsn hs63 hm hOw hmi hbl hml hcc hcc3 hq
      go_wp2_with (first
        | (with_reducible refine wpList_ranW (o := ⟨some 15, .binOp _ _ _ _ _, _, _, _, _⟩) (by with_unfolding_all rfl) (.int .i64 (c1 : Int)) wr (exec_sub rfl rfl rfl HC.out) ?_)
        | (with_reducible refine wpList_ranW (o := ⟨some 17, .binOp _ _ _ _ _, _, _, _, _⟩) (by with_unfolding_all rfl) (.int .i64 (e : Int)) wr (exec_sub rfl rfl rfl HE.out.1) ?_)
        | (with_reducible refine wpList_ranW (o := ⟨some 18, .binOp _ _ _ _ _, _, _, _, _⟩) (by with_unfolding_all rfl) (.int .i64 (s4 : Int)) wr (exec_mul rfl rfl rfl HE.out.2.1) ?_)
        | (with_reducible refine wpList_ranW (o := ⟨some 19, .binOp _ _ _ _ _, _, _, _, _⟩) (by with_unfolding_all rfl) (.int .i64 (q : Int)) wr (by rw [HE.out.2.2.2.2.2.2.2.2.2.2]; exact exec_shr HE.out.2.2.1 rfl rfl rfl) ?_)
        | (with_reducible refine wpList_ranW (o := ⟨some 20, .binOp _ _ _ _ _, _, _, _, _⟩) (by with_unfolding_all rfl) (.int .i64 (d : Int)) wr (exec_and rfl rfl rfl (by rw [HE.out.2.2.2.1, ← HE.out.2.2.2.2.2.2.2.2.2.2]; exact and15i q)) ?_)
        | (with_reducible refine wpList_made (o := ⟨some 21, .buildSlice 26 1 _, _, _, _, _⟩) (by with_unfolding_all rfl) _ 3 (fi d) (exec_lit26 rfl rfl) ?_
           intro w3 hb3 m3 z3
           have O3 := HE.out.2.2.2.2.2.2.1.keep m3 (by simp)
           replace z3 := Lib.hid z3)
        | (refine wpList_appendG (f := fi) w3 (o := ⟨some 22, _, _, _, _, _⟩) rfl (.tmp 12) (.tmp 21) 26 rfl 3 i0 (.int .i64 0) 8 Tryd.underlying26 HI.out.1 HI.out.2.1 HI.out.2.2.1 HI.out.2.2.2 rfl (by decide) fi_length fi_one A1 m' c' (l ++ (digs n count).take k) rfl HE.out.2.2.2.2.2.1 O3 (some ⟨wr.heap.size, 0, none⟩) 1 1 [d] rfl rfl (by simpa using Cells.of_holds hb3) (by rw [← HE.out.2.2.2.2.2.1]; have := HE.out.2.2.2.2.2.2.2.2.2.1; simp; omega) (by rw [← HE.out.2.2.2.2.2.1]; have := HE.out.2.2.2.2.2.2.2.2.2.1; unfold maxLen; simp; omega) ?_
           intro A' c'' w4 hO4 m4 q4))
      have hmi := HE.out.2.2.2.2.2.2.2.1
      have hbl := HE.out.2.2.2.2.2.2.2.2.1
      refine ⟨⟨k + 1, A', c'', _, by omega, by go_num, rfl, by rw [HE.out.2.2.2.2.1]; simp only [List.length_append, List.length_take, digs_length, List.length_cons, List.length_nil], by rw [HE.out.2.2.2.2.1, ← List.append_assoc]; exact hO4, (hmi.then m3).trans m4 (fun i hi h => ?_), fun i hi => ?_⟩, by simp [intOf]; omega⟩
      · rcases hbl i h with h1 | h1
        · exact h1
        · omega
      · obtain ⟨a, ha, rfl⟩ := mem_blk hi
        rcases q4 a ha with h1 | h1
        · exact hbl _ h1
        · right; have := hmi.size; have := m3.size; omega
    · obtain rfl : count = k := by omega
      have hall : (digs n count).take count = digs n count := List.take_of_length_le (by rw [digs_length]; exact Nat.le_refl _)
      rw [hall] at hm hOw
      clear hall
      have HE := Lib.hid (And.intro hm (And.intro hOw (And.intro hmi hbl)))
      clear hm hOw hmi hbl
      go_wp2
      go_ret
      exact ⟨A1, c', by rw [HE.out.1]; rfl, HE.out.2.1, HE.out.2.2.1, HE.out.2.2.2⟩
end Go.Proofs.YtdolihecjomjiaaDoor
