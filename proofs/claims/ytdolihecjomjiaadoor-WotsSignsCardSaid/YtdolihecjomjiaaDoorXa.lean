/-
  The statements' own: recovered. My own work.
-/
import Derived.Test.YtdolihecjomjiaaDoorWw
namespace Go.Proofs.YtdolihecjomjiaaDoor
open Go.RowKit Go.Shelf
set_option maxRecDepth 100000 in
set_option maxHeartbeats 4000000 in
theorem lrecovered_c (m : Idv) (s : List Idv) (A : Option Addr) (c : Nat) (hs : s.length = 67) (w : World) (Gl : Glob w) (RA : Cells w A (s.flatMap ic)) :
    Calls Tryd.prog 25 #[iv m, .slice A 67 c] w fun r w' => r = .returned (iv (recI m s)) ∧ Mod [] w w' := by
  obtain ⟨d, hd⟩ : ∃ d, d = recI m s := ⟨_, rfl⟩
  rw [← hd]
  obtain ⟨i0, j1, j2, j3, j4⟩ := info_parts id_parts
  have HI := Lib.hid (And.intro j1 (And.intro j2 (And.intro j3 j4)))
  have HH := Lib.hid (And.intro hd (And.intro Gl (And.intro RA hs)))
  clear hd Gl RA hs j1 j2 j3 j4
  go_enter Tryd.func25, Tryd.ntmps25
  go_wp2_with (first
    | (with_reducible refine wpList_boxes (o := ⟨some 2, .box 25 (.tmp 0), _, _, _, _⟩) rfl 25 (.tmp 0) rfl _ rfl (ic m) rfl ?_; intro w1 hb1 m1 z1; replace z1 := Lib.hid z1)
    | (with_reducible refine wpList_allocs (o := ⟨some 4, .alloc 25, _, _, _, _⟩) rfl 25 rfl _ zeroI_25 ?_; intro w2 hb2 m2 z2; replace z2 := Lib.hid z2)
    | (with_reducible refine wpList_loads (o := ⟨some 8, .load 25 (.tmp 2), _, _, _, _⟩) rfl 25 (.tmp 2) rfl w.heap.size 0 _ rfl (Cells.of_holds (hb1.keep m2 (by simp))) _ Tryd.underlying25 rfl (size25i m) (iv m) rfl ?_)
    | (go_at_call 12; refine (rdigits_c m w2).mono ?_
       rintro e w3 ⟨Ad, cd, rfl, hd3, m3, q3⟩
       have y1 := z1.out
       have y2 := z2.out
       obtain ⟨b2, hq2⟩ : ∃ q, q = w.heap.size := ⟨_, rfl⟩
       obtain ⟨b4, hq4⟩ : ∃ q, q = w1.heap.size := ⟨_, rfl⟩
       obtain ⟨b3, hq3⟩ : ∃ q, q = w3.heap.size := ⟨_, rfl⟩
       have k4 : Holds w3 b4 25 (ic zeroI) := by rw [hq4]; exact hb2.keep m3 (by simp)
       have kA : ∀ i ∈ blk Ad, i < b3 := fun i hi => by have := hd3.notin hi; omega
       have o1 : b2 < b4 := by omega
       have o2 : b4 < b3 := by have := m3.size; omega
       have o5 : w.heap.size ≤ b2 := by omega
       have HK := Lib.hid (And.intro k4 (And.intro hd3 (And.intro ((m1.then m2).then m3) (Nat.le_of_eq hq3))))
       rw [← hq2, ← hq4]
       clear hb1 m1 z1 hb2 m2 z2 m3 y1 y2 hq2 hq4 hq3 hd3 q3 k4))
  go_loopw [11, 5] (fun i x wi => ∃ (k : Nat) (A1 : Option Addr) (c' : Nat), k ≤ 67 ∧ i = .int .i64 (k : Int) ∧ x = .slice A1 k c' ∧ OwnG ic 25 32 wi A1 c' (recL m s k) ∧ (∀ i ∈ blk A1, b3 ≤ i) ∧ Holds wi b4 25 (ic zeroI) ∧ OwnG fi 3 1 wi Ad cd (digitsN m) ∧ b3 ≤ wi.heap.size ∧ Mod [] w wi) (fun i _ _ => 67 - (intOf i).toNat)
  case atStart => exact ⟨0, none, 0, by omega, rfl, rfl, OwnG.nil ic 25 32 _, fun i hi => by simp [blk] at hi, HK.out.1, HK.out.2.1, HK.out.2.2.2, HK.out.2.2.1⟩
  case round =>
    obtain ⟨k, A1, c', hk, rfl, rfl, hOw, hbl, h4, hD, hsz, hmi⟩ := hrel
    by_cases hkn : k < 67
    · have hkZ : (k : Int) < 67 := by omega
      have hkl : k < s.length := by rw [HH.out.2.2.2]; exact hkn
      obtain ⟨ga, oa, rfl, hce⟩ := HH.out.2.2.1.elem' ic 32 (by omega) ic_length k hkl
      obtain ⟨q0, hq0⟩ : ∃ q, q = s[k] := ⟨_, rfl⟩
      rw [← hq0] at hce
      have hci := hce.keep hmi (by simp)
      obtain ⟨gd, od, rfl, hcd⟩ := hD.int_at k (by rw [digitsN_length]; exact hkn)
      obtain ⟨dg, hdg⟩ : ∃ d, d = dgt m k := ⟨_, rfl⟩
      have hdgc : (digitsN m)[k]'(by rw [digitsN_length]; exact hkn) = dg := by rw [hdg]; unfold dgt; rw [List.getD_eq_getElem?_getD, List.getElem?_eq_getElem (by rw [digitsN_length]; exact hkn)]; rfl
      rw [hdgc] at hcd
      have hdg15 : dg ≤ 15 := by rw [hdg]; exact dgt_le m _
      obtain ⟨e, he⟩ : ∃ e, e = walkI k dg (15 - dg) q0 := ⟨_, rfl⟩
      obtain ⟨r, hr⟩ : ∃ r, r = recL m s k := ⟨_, rfl⟩
      have hsn : recL m s (k + 1) = r ++ [e] := by rw [recL_snoc, ← hr, he, hdg, hq0, List.getD_eq_getElem?_getD, List.getElem?_eq_getElem hkl]; rfl
      have hrl : r.length = k := by rw [hr, recL_length]
      rw [← hr] at hOw
      have X := lwalk_c q0 k dg 15 (15 - dg) (by omega) (by omega) (by decide) wr (HH.out.2.1.then hmi)
      rw [← he] at X
      have HP := Lib.hid (And.intro hsn (And.intro hOw (And.intro hbl (And.intro h4 (And.intro hD (And.intro hsz (And.intro hmi (And.intro hci hrl))))))))
      clear hce hq0 hdgc hdg hdg15 he hr hsn hrl hOw hbl h4 hD hsz hmi hci HK
      go_wp2_with (first
        | (with_reducible refine wpList_loads (o := ⟨some 20, .load 25 (.tmp 19), _, _, _, _⟩) rfl 25 (.tmp 19) rfl ga (oa + k * 32) _ rfl HP.out.2.2.2.2.2.2.2.1 _ Tryd.underlying25 rfl (size25i q0) (iv q0) rfl ?_)
        | (go_at_call 18; refine X.mono ?_; rintro e' w3 ⟨rfl, m3⟩; clear X)
        | (with_reducible refine wpList_made (o := ⟨some 24, .buildSlice 22 1 _, _, _, _, _⟩) (by with_unfolding_all rfl) _ 25 (ic e) (exec_lit22 rfl rfl) ?_
           intro w4 hb4 m4 z4
           have O4 := (HP.out.2.1.keep m3 (by simp)).keep m4 (by simp)
           replace z4 := Lib.hid z4)
        | (refine wpList_appendG (f := ic) w4 (o := ⟨some 25, _, _, _, _, _⟩) rfl (.tmp 16) (.tmp 24) 22 rfl 25 i0 (iv zeroI) 32 Tryd.underlying22 HI.out.1 HI.out.2.1 HI.out.2.2.1 HI.out.2.2.2 rfl (by decide) ic_length ic_one A1 k c' r rfl HP.out.2.2.2.2.2.2.2.2.symm O4 (some ⟨w3.heap.size, 0, none⟩) 1 1 [e] rfl rfl (by simpa using Cells.of_holds hb4) (by rw [HP.out.2.2.2.2.2.2.2.2]; simp; omega) (by rw [HP.out.2.2.2.2.2.2.2.2]; simp [maxLen]; omega) ?_
           intro A' c'' w5 hO5 m5 q5))
      have hbl := HP.out.2.2.1
      have hmi := HP.out.2.2.2.2.2.2.1
      have m34 : Mod [] wr w4 := m3.then m4
      refine ⟨⟨k + 1, A', c'', by omega, by go_num, by rw [HP.out.2.2.2.2.2.2.2.2], by rw [HP.out.1]; exact hO5, fun i hi => ?_, ?_, ?_, ?_, ?_⟩, by simp [intOf]; omega⟩
      · obtain ⟨a, ha, rfl⟩ := mem_blk hi
        rcases q5 a ha with q | q
        · exact hbl _ q
        · have := m34.size; have := HP.out.2.2.2.2.2.1; omega
      · exact (HP.out.2.2.2.1.keep m34 (by simp)).keep m5 (fun hh => by have := hbl _ hh; omega)
      · exact (HP.out.2.2.2.2.1.keep m34 (by simp)).keep m5 (fun a ha hh => by have := hbl _ hh; have := kA a.block (by simp [blk, ha]); omega)
      · have := m34.size; have := m5.size; have := HP.out.2.2.2.2.2.1; omega
      · exact far_mod (hmi.then m34) m5 (fun i hi => by have := hbl i hi; omega)
    · obtain rfl : k = 67 := by omega
      have X := lends_c A1 (recL m s 67) 67 c' (by rw [recL_length]) (by decide) wr (HH.out.2.1.then hmi) hOw.cells
      rw [show endsI (recL m s 67) = d by rw [HH.out.1]; rfl] at X
      have HP := Lib.hid (And.intro h4 hmi)
      clear hOw hbl h4 hD hsz hmi HK
      go_wp2_with (first
        | (go_at_call 34; refine X.mono ?_; rintro e w6' ⟨rfl, m6⟩)
        | (with_reducible refine wpList_storesAll (o := ⟨none, .store 25 (.tmp 4) (.tmp 28), _, _, _, _⟩) rfl 25 (.tmp 4) (.tmp 28) rfl rfl b4 (ic d) rfl (iv d) rfl rfl 25 _ (HP.out.1.keep m6 (by simp)) (by rw [ic_length, ic_length]) (ic_one d) (size25i d) ?_; intro v2 hv2 mv2 zv2))
      refine bodyPost_ret (results_cell_row rfl _ _ b4 25 _ (0, 0) _ rfl hv2 Tryd.underlying25 rfl (by rw [List.size_toArray]; exact size25i d)) rfl ?_
      exact ⟨rfl, far_mod (HP.out.2.then m6) mv2 (by simp; omega)⟩
theorem run_none22 (w : World) : (Instr.buildSlice 22 0 #[]).run Tryd.prog w = .ok (.slice (some ⟨w.heap.size, 0, none⟩) 0 0) (w.alloc (.cells #[] 25)) := by
  go_simp
theorem exec_none22 {a : Act} {o : Oper} {w : World} (ho : o.op = .buildSlice 22 0 #[]) : (execOp a.eval o).run Tryd.prog w = .ok (.value (.slice (some ⟨w.heap.size, 0, none⟩) 0 0)) (w.alloc (.cells ([] : List Value).toArray 25)) := by
  unfold execOp
  simp only [ho, List.map_toArray, List.map_nil, Sem.run_bind, run_none22, Result.andThen, Sem.run_pure]
theorem exec_first {P : Program} {v : World} {ρ : Operand → Value} {o : Oper} {t e : TypeId} {x y : Operand} {A : Option Addr} {n c k : Nat} (hu : P.underlying t = some (.slice e)) (hk : k ≤ c) (ho : o.op = .slice t x none (some y) none) (hx : ρ x = .slice A n c) (hy : ρ y = .int .i64 (k : Int)) (he : (P.info? e).map (·.size) = some 32) :
    (execOp ρ o).run P v = .ok (.value (.slice A k c)) v := by
  unfold execOp
  have h0 : ∀ a : Addr, a.add 0 = a := fun _ => rfl
  have h1 : (if c = 0 then A else A.map (·.add 0)) = A := by
    split
    · rfl
    · cases A <;> simp [h0]
  cases hq : P.info? e with
  | none => rw [hq] at he; cases he
  | some it =>
    simp [ho, hx, hy, Instr.sliceAt, Instr.slice, Instr.sliceBounds, Instr.sliceBound, Sem.run_bind, run_underlying hu, go_sem, sizeOf, typeInfo, hq, hk, h0]
end Go.Proofs.YtdolihecjomjiaaDoor
