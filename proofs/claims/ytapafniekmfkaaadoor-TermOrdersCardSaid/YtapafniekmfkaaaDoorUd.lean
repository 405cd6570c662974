/-
  TermBack: there and back. My own work.
-/
import Derived.Test.YtapafniekmfkaaaDoorUc
namespace Go.Proofs.YtapafniekmfkaaaDoor
open Go.RowKit Go.Shelf
set_option linter.unusedVariables false
set_option linter.unusedSimpArgs false
theorem back_facts {l l' : List UInt8} {x : Tm} {n sx : Nat} (hn : n = l.length) (HD : Tm.dec 60 l 0 = .ok (x, l', sx)) : l = x.bytes ++ l' ∧ x.right = true ∧ n - l'.length = x.bytes.length ∧ n - l'.length ≤ n := by
  obtain ⟨h1, h2, h3, h4, h5⟩ := Tm.dec_back _ _ _ _ _ _ HD
  refine ⟨h1, ?_, ?_, by omega⟩
  · simp only [Tm.right, h2, h3, Bool.true_and, decide_true, Bool.and_true, decide_eq_true_eq]
    omega
  · rw [hn, h1]; simp
theorem back_again {t : Tm} (h : t.right = true) (l : List UInt8) : Tm.dec 60 (t.bytes ++ l) 0 = .ok (t, l, 0 + t.count) ∧ (t.bytes ++ l).length - l.length = t.bytes.length ∧ ∀ k, k < t.bytes.length → Tm.dec 60 (t.bytes.take k) 0 = .error 7 := by
  simp only [Tm.right, Bool.and_eq_true, decide_eq_true_eq] at h
  refine ⟨Tm.dec_enc 60 t 0 l h.1.1 h.1.2 (by omega), by simp, fun k hk => Tm.dec_short 60 t 0 _ h.1.1 h.1.2 (by omega) ⟨t.bytes.drop k, ?_, (List.take_append_drop _ _).symm⟩⟩
  intro e
  have := congrArg List.length e
  simp at this
  omega
theorem right_len {t : Tm} (h : t.right = true) : t.bytes.length ≤ 1000000000 := by
  simp only [Tm.right, Bool.and_eq_true, decide_eq_true_eq] at h
  have := bytes_len t h.1.1
  omega
theorem decode_yes (A : Option Addr) (l l' : List UInt8) (t : Tm) (s n c nx : Nat) (w : World) (hn : n = l.length) (hl : l.length ≤ 140737488355328) (h : Reads w A l) (G : Glob w) (HD : Tm.dec 60 l 0 = .ok (t, l', s)) (hx : n - l'.length = nx) :
    Calls Tryd.prog 42 #[.slice A n c] w fun e w' => ∃ cs, e = .returned (.tuple #[.agg cs.toArray, .int .i64 (nx : Int), .int .i64 0]) ∧ TIs w' (Btw w.heap.size w'.heap.size) t cs ∧ Mod [] w w' := by
  subst hx
  exact decode_ok A l l' t s n c w hn hl h G HD
theorem Reads.left {w : World} {A : Option Addr} {l m : List UInt8} (h : Reads w A (l ++ m)) : Reads w A l := by
  intro i hi
  obtain ⟨g, o, e, hc⟩ := h i (by simp; omega)
  rw [List.getElem_append_left hi] at hc
  exact ⟨g, o, e, hc⟩
theorem Reads.firsts {w : World} {A : Option Addr} {l : List UInt8} (h : Reads w A l) (k : Nat) : Reads w A (l.take k) := Reads.left (m := l.drop k) (by rw [List.take_append_drop]; exact h)
theorem five {cs : List Value} (h : cs.length = 5) : ∃ a b c d e, cs = [a, b, c, d, e] := by
  match cs, h with
  | [a, b, c, d, e], _ => exact ⟨a, b, c, d, e, rfl⟩
theorem exec_pre {v : World} {o : Oper} {ρ : Operand → Value} {x y : Operand} {g f n c k : Nat} (hk : k ≤ c) (ho : o.op = .slice 27 x none (some y) none) (hx : ρ x = .slice (some ⟨g, f, none⟩) n c) (hy : ρ y = .int .i64 (k : Int)) : (execOp ρ o).run Tryd.prog v = .ok (.value (.slice (some ⟨g, f, none⟩) k c)) v := by
  unfold execOp
  simp [ho, hx, hy, go_sem, run_underlying Tryd.underlying27]
  intro h
  omega
theorem exec_max1 {P : Program} {v : World} {o : Oper} {ρ : Operand → Value} {x y : Operand} {a b : Int} (ho : o.op = .call { callee := .builtin .max, args := #[x, y], argTypes := #[3, 3] }) (hx : ρ x = .int .i64 a) (hy : ρ y = .int .i64 b) : (execOp ρ o).run P v = .ok (.value (.int .i64 (max a b))) v := by
  unfold execOp
  simp [ho, hx, hy, go_sem]
  by_cases h : a < b
  · simp [h, Int.max_eq_right (Int.le_of_lt h)]
  · simp [h, Int.max_eq_left (Int.not_lt.1 h)]
theorem exec_rem {P : Program} {v : World} {o : Oper} {ρ : Operand → Value} {t : TypeId} {x y : Operand} {a b : Nat} (hb : 0 < b) (ho : o.op = .binOp .rem t x y t) (hx : ρ x = .int .i64 (a : Int)) (hy : ρ y = .int .i64 (b : Int)) (h63 : b < 2 ^ 63) : (execOp ρ o).run P v = .ok (.value (.int .i64 ((a % b : Nat) : Int))) v := by
  unfold execOp
  simp [ho, hx, hy, go_sem]
  rw [if_neg (by omega), Int.tmod_eq_emod_of_nonneg (by omega)]
theorem wpList_none27 {w : World} {ops : Array Oper} {rest : List Oper} {o : Oper} {a : Act} {Q : Exit → Act → World → Prop} (hgd : o.guard = none) (ho : o.op = .buildSlice 27 0 #[])
    (h : ∀ v, Holds v w.heap.size 5 [] → Mod [] w v → v.heap.size = w.heap.size + 1 → wpList Tryd.prog ops Q rest (a.put o.dst (.slice (some ⟨w.heap.size, 0, none⟩) 0 0)) v) : wpList Tryd.prog ops Q (o :: rest) a w := by
  have hr : (Instr.buildSlice 27 0 #[]).run Tryd.prog w = .ok (.slice (some ⟨w.heap.size, 0, none⟩) 0 0) (w.alloc (.cells ([] : List Value).toArray 5)) := by kernel_rfl
  refine wpList_plain hgd fun K hK => ?_
  unfold Oper.wp execOp
  simp only [ho, List.map_toArray, List.map_nil, Sem.run_bind, hr, Result.andThen, Sem.run_pure]
  exact hK _ _ (h _ (Holds.made w 5 []) (Mod.alloc [] w _) (by simp))
set_option maxRecDepth 1000000 in
set_option maxHeartbeats 4000000 in
theorem back_long (t : Tm) (cs : List Value) (k : Int) (A : Option Addr) (l : List UInt8) (n c : Nat) (w : World) (hT : TIs w (Btw 0 w.heap.size) t cs) (hn : n = l.length) (hb : 10000 < n) (hnc : n ≤ c) (hr : Reads w A l) (G : Glob w) :
    Calls Tryd.prog 6 #[.agg cs.toArray, .int .i64 k, .slice A n c] w fun e w' => e = .returned (.bool true) ∧ Mod [] w w' := by
  have hcs := hT.len
  have hone := hT.one
  have hgt : decide ((10000 : Int) < (n : Int)) = true := by simp; omega
  have WK := fun v (mv : Mod [] w v) => wakes_c v (G.then mv)
  have OV := fun v (mv : Mod [] w v) => over_c t cs w.heap.size v (hT.keep mv (by simp)) mv.size
  have HQ := Lib.hid (And.intro hT (And.intro hn (And.intro hr G)))
  clear hT hn hr G
  go_enter Tryd.func6, Tryd.ntmps6
  go_wp2_with (first
    | (with_reducible refine wpList_boxes (o := ⟨some 3, .box 24 (.tmp 0), _, _, _, _⟩) rfl 24 (.tmp 0) rfl _ rfl cs rfl ?_; intro w1 hb1 m1 z1
       obtain ⟨b1, hq1⟩ : ∃ b, b = w.heap.size := ⟨_, rfl⟩
       rw [← hq1] at hb1 ⊢
       have HB1 := Lib.hid (And.intro hq1 z1)
       clear hq1 z1)
    | (go_at_call 13; refine (WK w1 m1).mono ?_
       rintro e w2 ⟨rfl, m2⟩
       replace hb1 := hb1.keep m2 (by simp)
       replace m2 := m1.then m2
       clear m1 WK)
    | (with_reducible refine wpList_loads (o := ⟨some 22, .load 24 (.tmp 3), _, _, _, _⟩) rfl 24 (.tmp 3) rfl b1 (0) (cs) rfl (Cells.of_holds hb1) _ Tryd.underlying24 rfl (size24' hcs) (.agg (cs).toArray) rfl ?_))
  refine (OV w2 m2).mono ?_
  rintro e w3 ⟨ov, rfl, m3⟩
  replace hb1 := hb1.keep m3 (by simp)
  replace m3 := m2.then m3
  clear OV m2
  cases ov with
  | true =>
    go_wp2_with fail
    go_ret
    exact ⟨rfl, m3⟩
  | false =>
    go_wp2_with fail
    go_ret
    exact ⟨rfl, m3⟩
set_option maxRecDepth 1000000 in
set_option maxHeartbeats 4000000 in
theorem back_err_no (t : Tm) (cs : List Value) (k : Int) (A : Option Addr) (l : List UInt8) (n c : Nat) (w : World) (hT : TIs w (Btw 0 w.heap.size) t cs) (hn : n = l.length) (hb : n ≤ 10000) (hnc : n ≤ c) (hr : Reads w A l) (G : Glob w) (er : Int) (HD : Tm.dec 60 l 0 = .error er) (HR : t.right = false) :
    Calls Tryd.prog 6 #[.agg cs.toArray, .int .i64 k, .slice A n c] w fun e w' => e = .returned (.bool true) ∧ Mod [] w w' := by
  have hcs := hT.len
  have hone := hT.one
  have hgt : decide ((10000 : Int) < (n : Int)) = false := by simp; omega
  have WK := fun v (mv : Mod [] w v) => wakes_c v (G.then mv)
  have OV := fun v (mv : Mod [] w v) => over_c t cs w.heap.size v (hT.keep mv (by simp)) mv.size
  have DC := fun v (mv : Mod [] w v) => decode_err A l n c er v hn (by omega) (hr.keep mv (fun _ _ => by simp)) (G.then mv) HD
  have hne : (er == 0) = false := by rcases Tm.dec_num _ _ _ _ HD with rfl | rfl <;> rfl
  have EN := fun v (mv : Mod [] w v) => encode_no t cs _ v (hT.keep mv (by simp)) (G.then mv) HR
  have HQ := Lib.hid (And.intro hT (And.intro hn (And.intro hr G)))
  clear hT hn hr G
  go_enter Tryd.func6, Tryd.ntmps6
  go_wp2_with (first
    | (with_reducible refine wpList_boxes (o := ⟨some 3, .box 24 (.tmp 0), _, _, _, _⟩) rfl 24 (.tmp 0) rfl _ rfl cs rfl ?_; intro w1 hb1 m1 z1
       obtain ⟨b1, hq1⟩ : ∃ b, b = w.heap.size := ⟨_, rfl⟩
       rw [← hq1] at hb1 ⊢
       have HB1 := Lib.hid (And.intro hq1 z1)
       clear hq1 z1)
    | (go_at_call 13; refine (WK w1 m1).mono ?_
       rintro e w2 ⟨rfl, m2⟩
       replace hb1 := hb1.keep m2 (by simp)
       replace m2 := m1.then m2
       clear m1 WK)
    | (with_reducible refine wpList_loads (o := ⟨some 22, .load 24 (.tmp 3), _, _, _, _⟩) rfl 24 (.tmp 3) rfl b1 (0) (cs) rfl (Cells.of_holds hb1) _ Tryd.underlying24 rfl (size24' hcs) (.agg (cs).toArray) rfl ?_))
  refine (OV w2 m2).mono ?_
  rintro e w3 ⟨ov, rfl, m3⟩
  replace hb1 := hb1.keep m3 (by simp)
  replace m3 := m2.then m3
  clear OV m2
  cases ov with
  | true =>
    go_wp2_with fail
    go_ret
    exact ⟨rfl, m3⟩
  | false =>
    go_wp2_with (first
    | (go_at_call 42; refine (DC w3 m3).mono ?_
       rintro e w4 ⟨rfl, m4⟩
       replace hb1 := hb1.keep m4 (by simp)
       replace m4 := m3.then m4
       clear m3 DC)
    | (with_reducible refine wpList_allocs (o := ⟨some 7, .alloc 24, _, _, _, _⟩) rfl 24 rfl _ zero24 ?_; intro y5 hy5 my5 zy5
       obtain ⟨b7, hq5⟩ : ∃ b, b = w4.heap.size := ⟨_, rfl⟩
       rw [← hq5] at hy5 ⊢
       have n17 : ¬ b1 = b7 := by have := hb1.lt; omega
       have HB7 := Lib.hid (And.intro hq5 (And.intro m4.size my5))
       replace hb1 := hb1.keep my5 (by simp)
       have m5 := m4.then my5
       clear hq5 zy5 my5 m4)
    | (with_reducible refine wpList_storesAll (o := ⟨none, .store 24 (.tmp 7) (.tmp 32), _, _, _, _⟩) rfl 24 (.tmp 7) (.tmp 32) rfl rfl b7 (tmc 0 0 0 ⟨#[]⟩ none 0 0) rfl (.agg (tmc 0 0 0 ⟨#[]⟩ none 0 0).toArray) rfl rfl 24 _ hy5 (zlen (tmc_len _ _ _ _ _ _ _)) (tmc_one _ _ _ _ _ _ _) (size24t _ _ _ _ _ _ _) ?_
       intro u6 hu6 mu6 zu6
       clear zu6
       replace hb1 := hb1.keep mu6 (by simpa using n17)
       have m6 : Mod [] w u6 := m5.trans mu6 (fun i hi hm => by have := HB7.out; simp at hm; omega)
       clear m5)
    | (with_reducible refine wpList_loads (o := ⟨some 59, .load 24 (.tmp 3), _, _, _, _⟩) rfl 24 (.tmp 3) rfl b1 (0) (cs) rfl (Cells.of_holds hb1) _ Tryd.underlying24 rfl (size24' hcs) (.agg (cs).toArray) rfl ?_)
    | (go_at_call 15; refine (EN u6 m6).mono ?_
       rintro e wb ⟨rfl, mb⟩
       replace mb := m6.then mb
       clear EN))
    go_ret
    exact ⟨rfl, mb⟩
set_option maxRecDepth 1000000 in
set_option maxHeartbeats 4000000 in
theorem back_err_yes (t : Tm) (cs : List Value) (k : Int) (A : Option Addr) (l : List UInt8) (n c : Nat) (w : World) (hT : TIs w (Btw 0 w.heap.size) t cs) (hn : n = l.length) (hb : n ≤ 10000) (hnc : n ≤ c) (hr : Reads w A l) (G : Glob w) (er : Int) (HD : Tm.dec 60 l 0 = .error er) (HR : t.right = true) :
    Calls Tryd.prog 6 #[.agg cs.toArray, .int .i64 k, .slice A n c] w fun e w' => e = .returned (.bool true) ∧ Mod [] w w' := by
  have hcs := hT.len
  have hone := hT.one
  have hgt : decide ((10000 : Int) < (n : Int)) = false := by simp; omega
  have WK := fun v (mv : Mod [] w v) => wakes_c v (G.then mv)
  have OV := fun v (mv : Mod [] w v) => over_c t cs w.heap.size v (hT.keep mv (by simp)) mv.size
  have DC := fun v (mv : Mod [] w v) => decode_err A l n c er v hn (by omega) (hr.keep mv (fun _ _ => by simp)) (G.then mv) HD
  have hne : (er == 0) = false := by rcases Tm.dec_num _ _ _ _ HD with rfl | rfl <;> rfl
  have EN := fun v (mv : Mod [] w v) => encode_yes t cs _ v (hT.keep mv (by simp)) (fun g hg => Nat.lt_of_lt_of_le hg.2 mv.size) (G.then mv) HR
  obtain ⟨hB1, hB2, hB3⟩ := back_again HR l
  have hBp := t.bytes_pos
  have hBl := right_len HR
  obtain ⟨nb, hnb⟩ : ∃ nb, nb = t.bytes.length := ⟨_, rfl⟩
  rw [← hnb] at EN hB2 hB3 hBp hBl
  obtain ⟨kk, hkk⟩ : ∃ kk : Nat, kk = (max k 0).toNat % nb := ⟨_, rfl⟩
  have hkb : kk < nb := by rw [hkk]; exact Nat.mod_lt _ (by omega)
  have HY := Lib.hid (And.intro hB1 (And.intro hB2 (And.intro hnb (And.intro (hB3 kk hkb) (And.intro hkk (And.intro hkb (And.intro hBp hBl)))))))
  clear hB1 hB2 hB3 hnb hkk hkb hBp hBl
  have RM : ∀ (v : World) (ρ : Operand → Value) {o : Oper} {x y : Operand}, o.op = .binOp .rem 3 x y 3 → ρ x = .int .i64 (max k 0) → ρ y = .int .i64 (nb : Int) → (execOp ρ o).run Tryd.prog v = .ok (.value (.int .i64 (kk : Int))) v := fun v ρ o x y h1 h2 h3 => by
    have := HY.out
    rw [this.2.2.2.2.1]
    exact exec_rem (by omega) h1 (h2.trans (by congr 1; omega)) h3 (by omega)
  have KC : ∀ c', t.bytes.length ≤ c' → kk ≤ c' := fun c' h => by have := HY.out; omega
  obtain ⟨i0, hi0, hz0, hz1, hz2⟩ := info_parts u8_zero
  have HI := Lib.hid (And.intro hi0 (And.intro hz0 (And.intro hz1 hz2)))
  clear hi0 hz0 hz1 hz2
  have HQ := Lib.hid (And.intro hT (And.intro hn (And.intro hr G)))
  clear hT hn hr G
  go_enter Tryd.func6, Tryd.ntmps6
  go_wp2_with (first
    | (with_reducible refine wpList_boxes (o := ⟨some 3, .box 24 (.tmp 0), _, _, _, _⟩) rfl 24 (.tmp 0) rfl _ rfl cs rfl ?_; intro w1 hb1 m1 z1
       obtain ⟨b1, hq1⟩ : ∃ b, b = w.heap.size := ⟨_, rfl⟩
       rw [← hq1] at hb1 ⊢
       have HB1 := Lib.hid (And.intro hq1 z1)
       clear hq1 z1)
    | (go_at_call 13; refine (WK w1 m1).mono ?_
       rintro e w2 ⟨rfl, m2⟩
       replace hb1 := hb1.keep m2 (by simp)
       replace m2 := m1.then m2
       clear m1 WK)
    | (with_reducible refine wpList_loads (o := ⟨some 22, .load 24 (.tmp 3), _, _, _, _⟩) rfl 24 (.tmp 3) rfl b1 (0) (cs) rfl (Cells.of_holds hb1) _ Tryd.underlying24 rfl (size24' hcs) (.agg (cs).toArray) rfl ?_))
  refine (OV w2 m2).mono ?_
  rintro e w3 ⟨ov, rfl, m3⟩
  replace hb1 := hb1.keep m3 (by simp)
  replace m3 := m2.then m3
  clear OV m2
  cases ov with
  | true =>
    go_wp2_with fail
    go_ret
    exact ⟨rfl, m3⟩
  | false =>
    go_wp2_with (first
    | (go_at_call 42; refine (DC w3 m3).mono ?_
       rintro e w4 ⟨rfl, m4⟩
       replace hb1 := hb1.keep m4 (by simp)
       replace m4 := m3.then m4
       clear m3 DC)
    | (with_reducible refine wpList_allocs (o := ⟨some 7, .alloc 24, _, _, _, _⟩) rfl 24 rfl _ zero24 ?_; intro y5 hy5 my5 zy5
       obtain ⟨b7, hq5⟩ : ∃ b, b = w4.heap.size := ⟨_, rfl⟩
       rw [← hq5] at hy5 ⊢
       have n17 : ¬ b1 = b7 := by have := hb1.lt; omega
       have HB7 := Lib.hid (And.intro hq5 (And.intro m4.size my5))
       replace hb1 := hb1.keep my5 (by simp)
       have m5 := m4.then my5
       clear hq5 zy5 my5 m4)
    | (with_reducible refine wpList_storesAll (o := ⟨none, .store 24 (.tmp 7) (.tmp 32), _, _, _, _⟩) rfl 24 (.tmp 7) (.tmp 32) rfl rfl b7 (tmc 0 0 0 ⟨#[]⟩ none 0 0) rfl (.agg (tmc 0 0 0 ⟨#[]⟩ none 0 0).toArray) rfl rfl 24 _ hy5 (zlen (tmc_len _ _ _ _ _ _ _)) (tmc_one _ _ _ _ _ _ _) (size24t _ _ _ _ _ _ _) ?_
       intro u6 hu6 mu6 zu6
       clear zu6
       replace hb1 := hb1.keep mu6 (by simpa using n17)
       have m6 : Mod [] w u6 := m5.trans mu6 (fun i hi hm => by have := HB7.out; simp at hm; omega)
       clear m5)
    | (with_reducible refine wpList_loads (o := ⟨some 59, .load 24 (.tmp 3), _, _, _, _⟩) rfl 24 (.tmp 3) rfl b1 (0) (cs) rfl (Cells.of_holds hb1) _ Tryd.underlying24 rfl (size24' hcs) (.agg (cs).toArray) rfl ?_)
    | (go_at_call 15; refine (EN u6 m6).mono ?_
       rintro e wb ⟨Ab, cb, rfl, ob, mb, fbb⟩
       have HQb := Lib.hid (And.intro (HQ.out.1.keep (m6.then mb) (by simp)) (And.intro (HQ.out.2.2.1.keep (m6.then mb) (fun _ _ => by simp)) (And.intro (HQ.out.2.2.2.then (m6.then mb)) ob.fits)))
       replace hb1 := hb1.keep mb (by simp)
       have lb1 := hb1.lt
       replace mb := m6.then mb
       obtain ⟨gb, hb, rfl, _⟩ := ob.reads 0 (by have := HY.out; omega)
       have DE := fun v (mv : Mod [] wb v) => decode_err (some ⟨gb, hb, none⟩) (t.bytes.take kk) kk cb 7 v (by have := HY.out; simp; omega) (by have := HY.out; simp; omega) ((ob.reads.firsts kk).keep mv (fun _ _ => by simp)) (HQb.out.2.2.1.then mv) HY.out.2.2.2.1
       clear EN)
    | (with_reducible refine wpList_none27 (o := ⟨some 69, _, _, _, _, _⟩) rfl rfl ?_
       intro wn hn mn zn
       obtain ⟨b9, hq9⟩ : ∃ b, b = wb.heap.size := ⟨_, rfl⟩
       rw [← hq9] at hn ⊢
       have on : Owns wn 0 5 (some ⟨b9, 0, none⟩) 0 [] := Owns.of_holds (l := []) hn (Nat.zero_le _) (by simp)
       have rb := ob.reads.keep mn (fun _ _ => by simp)
       have FM : ∀ v A' c' L', Grow wn (some ⟨b9, 0, none⟩) v A' c' L' → Mod [] wb v := fun v A' c' L' g => far_mod mn g.mod (fun i hi => by
         obtain ⟨a, ha, e⟩ := mem_blk hi
         cases ha
         rw [← e]
         exact Nat.le_of_eq hq9.symm)
       have gn := Grow.refl on
       clear hn zn hq9 on mn)
    | (with_reducible refine wpList_appends wn (o := ⟨some 71, _, _, _, _, _⟩) rfl (.tmp 69) (.tmp 70) 27 rfl 5 i0 (.int .u8 0) 1 Tryd.underlying27 HI.out.1 HI.out.2.1 HI.out.2.2.1 HI.out.2.2.2 (by with_unfolding_all rfl) 0 (Nat.zero_le _) (some ⟨b9, 0, none⟩) _ 0 ([]) rfl rfl gn.own (some ⟨gb, hb, none⟩) nb cb t.bytes rfl HY.out.2.2.1 rb (by have := HY.out; simp; omega) (by have := HY.out; unfold maxLen; simp; omega) ?_
       intro A2 c2 v2 o2 mo2 f2
       have g2 := gn.trans ⟨o2, mo2, f2⟩
       rw [List.nil_append] at g2 ⊢
       clear gn rb o2 mo2 f2)
    | (with_reducible refine wpList_appends v2 (o := ⟨some 73, _, _, _, _, _⟩) rfl (.tmp 71) (.tmp 72) 27 rfl 5 i0 (.int .u8 0) 1 Tryd.underlying27 HI.out.1 HI.out.2.1 HI.out.2.2.1 HI.out.2.2.2 (by with_unfolding_all rfl) 0 (Nat.zero_le _) A2 _ c2 (t.bytes) rfl rfl g2.own A n c l rfl HQ.out.2.1 (HQ.out.2.2.1.keep (mb.then (FM _ _ _ _ g2)) (fun _ _ => by simp)) (by have := HY.out; have := HQ.out.2.1; omega) (by have := HY.out; have := HQ.out.2.1; unfold maxLen; omega) ?_
       intro A3 c3 v3 o3 mo3 f3
       have g3 := g2.trans ⟨o3, mo3, f3⟩
       obtain ⟨L3, hL3⟩ : ∃ L, L = t.bytes ++ l := ⟨_, rfl⟩
       rw [← hL3] at g3 ⊢
       have mv3 := FM _ _ _ _ g3
       replace hb1 := hb1.keep mv3 (by simp)
       have DY := decode_yes A3 L3 l t (0 + t.count) L3.length c3 nb v3 rfl (by have := HY.out; have := HQ.out.2.1; rw [hL3]; simp; omega) g3.own.reads (HQb.out.2.2.1.then mv3) (by rw [hL3]; exact HY.out.1) (by rw [hL3]; exact HY.out.2.1)
       clear g2 o3 mo3 f3 g3 hL3 FM)
    | (go_at_call 42; refine DY.mono ?_
       rintro e w10 ⟨cy, rfl, hY, m10⟩
       replace hb1 := hb1.keep m10 (by simp)
       replace m10 := mv3.then m10
       clear mv3 DY)
    | (with_reducible refine wpList_allocs (o := ⟨some 14, .alloc 24, _, _, _, _⟩) rfl 24 rfl _ zero24 ?_; intro y11 hy11 my11 zy11
       obtain ⟨b14, hq11⟩ : ∃ b, b = w10.heap.size := ⟨_, rfl⟩
       rw [← hq11] at hy11 ⊢
       have n114 : ¬ b1 = b14 := by have := hb1.lt; omega
       have HB14 := Lib.hid (And.intro hq11 (And.intro m10.size my11))
       replace hb1 := hb1.keep my11 (by simp)
       have m11 := m10.then my11
       replace hY := hY.keep my11 (by simp)
       clear hq11 zy11 my11 m10)
    | (with_reducible refine wpList_storesAll (o := ⟨none, .store 24 (.tmp 14) (.tmp 75), _, _, _, _⟩) rfl 24 (.tmp 14) (.tmp 75) rfl rfl b14 (cy) rfl (.agg (cy).toArray) rfl rfl 24 _ hy11 (zlen hY.len) (hY.one) (size24' hY.len) ?_
       intro u12 hu12 mu12 zu12
       clear zu12
       replace hb1 := hb1.keep mu12 (by simpa using n114)
       have m12 : Mod [] wb u12 := m11.trans mu12 (fun i hi hm => by have := HB14.out; simp at hm; omega)
       replace hY := hY.keep mu12 (fun i hi hm => by have := HB14.out; have := hi.2; simp at hm; omega)
       clear m11)
    | (with_reducible refine wpList_ran (o := ⟨some 81, _, _, _, _, _⟩) rfl (.int .i64 (max k 0)) (exec_max1 rfl rfl rfl) ?_)
    | (with_reducible refine wpList_ran (o := ⟨some 84, _, _, _, _, _⟩) rfl (.int .i64 (kk : Int)) (RM _ _ rfl rfl rfl) ?_)
    | (with_reducible refine wpList_ran (o := ⟨some 85, _, _, _, _, _⟩) rfl (.slice (some ⟨gb, hb, none⟩) kk cb) (exec_pre (KC cb HQb.out.2.2.2.1) rfl rfl rfl) ?_)
    | (go_at_call 42; refine (DE u12 m12).mono ?_
       rintro e w13 ⟨rfl, m13⟩
       replace hb1 := hb1.keep m13 (by simp)
       replace hu12 := hu12.keep m13 (by simp)
       replace hY := hY.keep m13 (by simp)
       replace m13 := m12.then m13
       clear DE m12)
    | (with_reducible refine wpList_allocs (o := ⟨some 17, .alloc 24, _, _, _, _⟩) rfl 24 rfl _ zero24 ?_; intro y14 hy14 my14 zy14
       obtain ⟨b17, hq14⟩ : ∃ b, b = w13.heap.size := ⟨_, rfl⟩
       rw [← hq14] at hy14 ⊢
       have n117 : ¬ b1 = b17 := by have := hb1.lt; omega
       have n147 : ¬ b14 = b17 := by have := hu12.lt; omega
       have HB17 := Lib.hid (And.intro hq14 (And.intro m13.size my14))
       replace hb1 := hb1.keep my14 (by simp)
       replace hu12 := hu12.keep my14 (by simp)
       have m14 := m13.then my14
       have HS17 := Lib.hid (show w10.heap.size ≤ b17 by have := HB14.out; have := hu12.lt; omega)
       replace hY := hY.keep my14 (by simp)
       clear hq14 zy14 my14 m13)
    | (with_reducible refine wpList_storesAll (o := ⟨none, .store 24 (.tmp 17) (.tmp 87), _, _, _, _⟩) rfl 24 (.tmp 17) (.tmp 87) rfl rfl b17 (tmc 0 0 0 ⟨#[]⟩ none 0 0) rfl (.agg (tmc 0 0 0 ⟨#[]⟩ none 0 0).toArray) rfl rfl 24 _ hy14 (zlen (tmc_len _ _ _ _ _ _ _)) (tmc_one _ _ _ _ _ _ _) (size24t _ _ _ _ _ _ _) ?_
       intro u15 hu15 mu15 zu15
       clear zu15
       replace hb1 := hb1.keep mu15 (by simpa using n117)
       replace hu12 := hu12.keep mu15 (by simpa using n147)
       have m15 : Mod [] wb u15 := m14.trans mu15 (fun i hi hm => by have := HB17.out; simp at hm; omega)
       replace hY := hY.keep mu15 (fun i hi hm => by have := HS17.out; have := hi.2; simp at hm; omega)
       have PS := psame_all _ t t cy cs _ _ u15 (Nat.le_refl _) hY (HQb.out.1.keep m15 (by simp))
       obtain ⟨p0, p1, p2, p3, p4, hp⟩ := five hY.len
       obtain ⟨r0, r1, r2, r3, r4, hr⟩ := five hcs
       rw [(Tm.same_iff t t).2 rfl, hp, hr] at PS
       rw [hp] at hu12
       rw [hr] at hb1
       have f0 : u15.cell? ⟨b14, 0, none⟩ = some p0 := hu12.cell 0
       have f1 : u15.cell? ⟨b14, 1, none⟩ = some p1 := hu12.cell 1
       have f2 : u15.cell? ⟨b14, 2, none⟩ = some p2 := hu12.cell 2
       have f3 : u15.cell? ⟨b14, 3, none⟩ = some p3 := hu12.cell 3
       have f4 : u15.cell? ⟨b14, 4, none⟩ = some p4 := hu12.cell 4
       have g0 : u15.cell? ⟨b1, 0, none⟩ = some r0 := hb1.cell 0
       have g1 : u15.cell? ⟨b1, 1, none⟩ = some r1 := hb1.cell 1
       have g2 : u15.cell? ⟨b1, 2, none⟩ = some r2 := hb1.cell 2
       have g3 : u15.cell? ⟨b1, 3, none⟩ = some r3 := hb1.cell 3
       have g4 : u15.cell? ⟨b1, 4, none⟩ = some r4 := hb1.cell 4
       clear m14 hp hr hu12 hb1 hY)
    | (go_at_call 21; refine PS.mono ?_
       rintro e w16 ⟨rfl, m16⟩
       replace mb := mb.then (m15.then m16)))
    go_ret
    exact ⟨rfl, mb⟩
set_option maxRecDepth 1000000 in
set_option maxHeartbeats 4000000 in
theorem back_ok_no (t : Tm) (cs : List Value) (k : Int) (A : Option Addr) (l : List UInt8) (n c : Nat) (w : World) (hT : TIs w (Btw 0 w.heap.size) t cs) (hn : n = l.length) (hb : n ≤ 10000) (hnc : n ≤ c) (hr : Reads w A l) (G : Glob w) (x : Tm) (l' : List UInt8) (sx : Nat) (HD : Tm.dec 60 l 0 = .ok (x, l', sx)) (HR : t.right = false) :
    Calls Tryd.prog 6 #[.agg cs.toArray, .int .i64 k, .slice A n c] w fun e w' => e = .returned (.bool true) ∧ Mod [] w w' := by
  have hcs := hT.len
  have hone := hT.one
  have hgt : decide ((10000 : Int) < (n : Int)) = false := by simp; omega
  have WK := fun v (mv : Mod [] w v) => wakes_c v (G.then mv)
  have OV := fun v (mv : Mod [] w v) => over_c t cs w.heap.size v (hT.keep mv (by simp)) mv.size
  have DC := fun v (mv : Mod [] w v) => decode_yes A l l' x sx n c _ v hn (by omega) (hr.keep mv (fun _ _ => by simp)) (G.then mv) HD (back_facts hn HD).2.2.1
  obtain ⟨hX, hXr, hnn, hnl⟩ := back_facts hn HD
  have hXp := x.bytes_pos
  obtain ⟨nx, hnx⟩ : ∃ nx, nx = x.bytes.length := ⟨_, rfl⟩
  have hgx : decide ((n : Int) < (nx : Int)) = false := by simp; omega
  have EX := fun v (mv : Mod [] w v) cx S h1 h2 => encode_yes x cx S v h1 h2 (G.then mv) hXr
  rw [← hnx] at DC EX
  have hXR : Reads w A x.bytes := Reads.left (m := l') (by rw [← hX]; exact hr)
  obtain ⟨gA, fA, rfl, hcc⟩ := hXR 0 (by omega)
  clear hcc
  have hnl : nx ≤ n := by omega
  have EQ := fun v (mv : Mod [] w v) Ax ca (hM : Owns v 0 5 Ax ca x.bytes) => equal_n Ax (some ⟨gA, fA, none⟩) x.bytes x.bytes nx nx ca c v hnx hnx hM.reads (hXR.keep mv (fun _ _ => by simp))
  rw [decide_eq_true (rfl : x.bytes = x.bytes)] at EQ
  clear hXR
  have HX := Lib.hid (And.intro hX (And.intro hnx (And.intro hnl (And.intro hnn hXp))))
  have hpc : nx ≤ c := Nat.le_trans hnl hnc
  have hpc' : ¬ c < nx := by omega
  clear hX hnx hnn hXp hgx
  have EN := fun v (mv : Mod [] w v) => encode_no t cs _ v (hT.keep mv (by simp)) (G.then mv) HR
  have HQ := Lib.hid (And.intro hT (And.intro hn (And.intro hr G)))
  clear hT hn hr G
  go_enter Tryd.func6, Tryd.ntmps6
  go_wp2_with (first
    | (with_reducible refine wpList_boxes (o := ⟨some 3, .box 24 (.tmp 0), _, _, _, _⟩) rfl 24 (.tmp 0) rfl _ rfl cs rfl ?_; intro w1 hb1 m1 z1
       obtain ⟨b1, hq1⟩ : ∃ b, b = w.heap.size := ⟨_, rfl⟩
       rw [← hq1] at hb1 ⊢
       have HB1 := Lib.hid (And.intro hq1 z1)
       clear hq1 z1)
    | (go_at_call 13; refine (WK w1 m1).mono ?_
       rintro e w2 ⟨rfl, m2⟩
       replace hb1 := hb1.keep m2 (by simp)
       replace m2 := m1.then m2
       clear m1 WK)
    | (with_reducible refine wpList_loads (o := ⟨some 22, .load 24 (.tmp 3), _, _, _, _⟩) rfl 24 (.tmp 3) rfl b1 (0) (cs) rfl (Cells.of_holds hb1) _ Tryd.underlying24 rfl (size24' hcs) (.agg (cs).toArray) rfl ?_))
  refine (OV w2 m2).mono ?_
  rintro e w3 ⟨ov, rfl, m3⟩
  replace hb1 := hb1.keep m3 (by simp)
  replace m3 := m2.then m3
  clear OV m2
  cases ov with
  | true =>
    go_wp2_with fail
    go_ret
    exact ⟨rfl, m3⟩
  | false =>
    go_wp2_with (first
    | (go_at_call 42; refine (DC w3 m3).mono ?_
       rintro e w4 ⟨cx, rfl, hX4, m4⟩
       replace hb1 := hb1.keep m4 (by simp)
       replace m4 := m3.then m4
       clear m3 DC)
    | (with_reducible refine wpList_allocs (o := ⟨some 7, .alloc 24, _, _, _, _⟩) rfl 24 rfl _ zero24 ?_; intro y5 hy5 my5 zy5
       obtain ⟨b7, hq5⟩ : ∃ b, b = w4.heap.size := ⟨_, rfl⟩
       rw [← hq5] at hy5 ⊢
       have n17 : ¬ b1 = b7 := by have := hb1.lt; omega
       have HB7 := Lib.hid (And.intro hq5 (And.intro m4.size my5))
       replace hb1 := hb1.keep my5 (by simp)
       have m5 := m4.then my5
       replace hX4 := hX4.keep my5 (by simp)
       clear hq5 zy5 my5 m4)
    | (with_reducible refine wpList_storesAll (o := ⟨none, .store 24 (.tmp 7) (.tmp 32), _, _, _, _⟩) rfl 24 (.tmp 7) (.tmp 32) rfl rfl b7 (cx) rfl (.agg (cx).toArray) rfl rfl 24 _ hy5 (zlen hX4.len) (hX4.one) (size24' hX4.len) ?_
       intro u6 hu6 mu6 zu6
       clear zu6
       replace hb1 := hb1.keep mu6 (by simpa using n17)
       have m6 : Mod [] w u6 := m5.trans mu6 (fun i hi hm => by have := HB7.out; simp at hm; omega)
       have hX6 : TIs u6 (Btw 0 u6.heap.size) x cx := (hX4.keep mu6 (fun i hi hm => by have := HB7.out; have := hi.2; simp at hm; omega)).mono (fun i hi => ⟨Nat.zero_le _, Nat.lt_of_lt_of_le hi.2 (Nat.le_trans HB7.out.2.2.size mu6.size)⟩)
       have hcx := hX4.len
       clear hX4
       clear m5)
    | (with_reducible refine wpList_loads (o := ⟨some 38, .load 24 (.tmp 7), _, _, _, _⟩) rfl 24 (.tmp 7) rfl b7 (0) (cx) rfl (Cells.of_holds hu6) _ Tryd.underlying24 rfl (size24' hcx) (.agg (cx).toArray) rfl ?_)
    | (go_at_call 15; refine (EX u6 m6 cx _ hX6 (fun i hi => hi.2)).mono ?_
       rintro e w8 ⟨Ax, ca, rfl, hM8, mM8, hf8⟩
       replace hb1 := hb1.keep mM8 (by simp)
       replace m6 := m6.then mM8
       have HRX := Lib.hid hM8.reads
       clear EX hX6 hu6 mM8)
    | (with_reducible refine wpList_ran (o := ⟨some 54, _, _, _, _, _⟩) rfl (.slice (some ⟨gA, fA, none⟩) nx c) (exec_pre (Nat.le_trans HX.out.2.2.1 hnc) rfl rfl rfl) ?_)
    | (go_at_call 43; refine (EQ w8 m6 Ax ca hM8).mono ?_
       rintro e w9 ⟨rfl, rfl⟩)
    | (with_reducible refine wpList_loads (o := ⟨some 59, .load 24 (.tmp 3), _, _, _, _⟩) rfl 24 (.tmp 3) rfl b1 (0) (cs) rfl (Cells.of_holds hb1) _ Tryd.underlying24 rfl (size24' hcs) (.agg (cs).toArray) rfl ?_)
    | (go_at_call 15; refine (EN w8 m6).mono ?_
       rintro e wb ⟨rfl, mb⟩
       replace mb := m6.then mb
       clear EN))
    go_ret
    exact ⟨rfl, mb⟩
set_option maxRecDepth 1000000 in
set_option maxHeartbeats 4000000 in
theorem back_ok_yes (t : Tm) (cs : List Value) (k : Int) (A : Option Addr) (l : List UInt8) (n c : Nat) (w : World) (hT : TIs w (Btw 0 w.heap.size) t cs) (hn : n = l.length) (hb : n ≤ 10000) (hnc : n ≤ c) (hr : Reads w A l) (G : Glob w) (x : Tm) (l' : List UInt8) (sx : Nat) (HD : Tm.dec 60 l 0 = .ok (x, l', sx)) (HR : t.right = true) :
    Calls Tryd.prog 6 #[.agg cs.toArray, .int .i64 k, .slice A n c] w fun e w' => e = .returned (.bool true) ∧ Mod [] w w' := by
  have hcs := hT.len
  have hone := hT.one
  have hgt : decide ((10000 : Int) < (n : Int)) = false := by simp; omega
  have WK := fun v (mv : Mod [] w v) => wakes_c v (G.then mv)
  have OV := fun v (mv : Mod [] w v) => over_c t cs w.heap.size v (hT.keep mv (by simp)) mv.size
  have DC := fun v (mv : Mod [] w v) => decode_yes A l l' x sx n c _ v hn (by omega) (hr.keep mv (fun _ _ => by simp)) (G.then mv) HD (back_facts hn HD).2.2.1
  obtain ⟨hX, hXr, hnn, hnl⟩ := back_facts hn HD
  have hXp := x.bytes_pos
  obtain ⟨nx, hnx⟩ : ∃ nx, nx = x.bytes.length := ⟨_, rfl⟩
  have hgx : decide ((n : Int) < (nx : Int)) = false := by simp; omega
  have EX := fun v (mv : Mod [] w v) cx S h1 h2 => encode_yes x cx S v h1 h2 (G.then mv) hXr
  rw [← hnx] at DC EX
  have hXR : Reads w A x.bytes := Reads.left (m := l') (by rw [← hX]; exact hr)
  obtain ⟨gA, fA, rfl, hcc⟩ := hXR 0 (by omega)
  clear hcc
  have hnl : nx ≤ n := by omega
  have EQ := fun v (mv : Mod [] w v) Ax ca (hM : Owns v 0 5 Ax ca x.bytes) => equal_n Ax (some ⟨gA, fA, none⟩) x.bytes x.bytes nx nx ca c v hnx hnx hM.reads (hXR.keep mv (fun _ _ => by simp))
  rw [decide_eq_true (rfl : x.bytes = x.bytes)] at EQ
  clear hXR
  have HX := Lib.hid (And.intro hX (And.intro hnx (And.intro hnl (And.intro hnn hXp))))
  have hpc : nx ≤ c := Nat.le_trans hnl hnc
  have hpc' : ¬ c < nx := by omega
  clear hX hnx hnn hXp hgx
  have EN := fun v (mv : Mod [] w v) => encode_yes t cs _ v (hT.keep mv (by simp)) (fun g hg => Nat.lt_of_lt_of_le hg.2 mv.size) (G.then mv) HR
  obtain ⟨hB1, hB2, hB3⟩ := back_again HR l
  have hBp := t.bytes_pos
  have hBl := right_len HR
  obtain ⟨nb, hnb⟩ : ∃ nb, nb = t.bytes.length := ⟨_, rfl⟩
  rw [← hnb] at EN hB2 hB3 hBp hBl
  obtain ⟨kk, hkk⟩ : ∃ kk : Nat, kk = (max k 0).toNat % nb := ⟨_, rfl⟩
  have hkb : kk < nb := by rw [hkk]; exact Nat.mod_lt _ (by omega)
  have HY := Lib.hid (And.intro hB1 (And.intro hB2 (And.intro hnb (And.intro (hB3 kk hkb) (And.intro hkk (And.intro hkb (And.intro hBp hBl)))))))
  clear hB1 hB2 hB3 hnb hkk hkb hBp hBl
  have RM : ∀ (v : World) (ρ : Operand → Value) {o : Oper} {x y : Operand}, o.op = .binOp .rem 3 x y 3 → ρ x = .int .i64 (max k 0) → ρ y = .int .i64 (nb : Int) → (execOp ρ o).run Tryd.prog v = .ok (.value (.int .i64 (kk : Int))) v := fun v ρ o x y h1 h2 h3 => by
    have := HY.out
    rw [this.2.2.2.2.1]
    exact exec_rem (by omega) h1 (h2.trans (by congr 1; omega)) h3 (by omega)
  have KC : ∀ c', t.bytes.length ≤ c' → kk ≤ c' := fun c' h => by have := HY.out; omega
  obtain ⟨i0, hi0, hz0, hz1, hz2⟩ := info_parts u8_zero
  have HI := Lib.hid (And.intro hi0 (And.intro hz0 (And.intro hz1 hz2)))
  clear hi0 hz0 hz1 hz2
  have HQ := Lib.hid (And.intro hT (And.intro hn (And.intro hr G)))
  clear hT hn hr G
  go_enter Tryd.func6, Tryd.ntmps6
  go_wp2_with (first
    | (with_reducible refine wpList_boxes (o := ⟨some 3, .box 24 (.tmp 0), _, _, _, _⟩) rfl 24 (.tmp 0) rfl _ rfl cs rfl ?_; intro w1 hb1 m1 z1
       obtain ⟨b1, hq1⟩ : ∃ b, b = w.heap.size := ⟨_, rfl⟩
       rw [← hq1] at hb1 ⊢
       have HB1 := Lib.hid (And.intro hq1 z1)
       clear hq1 z1)
    | (go_at_call 13; refine (WK w1 m1).mono ?_
       rintro e w2 ⟨rfl, m2⟩
       replace hb1 := hb1.keep m2 (by simp)
       replace m2 := m1.then m2
       clear m1 WK)
    | (with_reducible refine wpList_loads (o := ⟨some 22, .load 24 (.tmp 3), _, _, _, _⟩) rfl 24 (.tmp 3) rfl b1 (0) (cs) rfl (Cells.of_holds hb1) _ Tryd.underlying24 rfl (size24' hcs) (.agg (cs).toArray) rfl ?_))
  refine (OV w2 m2).mono ?_
  rintro e w3 ⟨ov, rfl, m3⟩
  replace hb1 := hb1.keep m3 (by simp)
  replace m3 := m2.then m3
  clear OV m2
  cases ov with
  | true =>
    go_wp2_with fail
    go_ret
    exact ⟨rfl, m3⟩
  | false =>
    go_wp2_with (first
    | (go_at_call 42; refine (DC w3 m3).mono ?_
       rintro e w4 ⟨cx, rfl, hX4, m4⟩
       replace hb1 := hb1.keep m4 (by simp)
       replace m4 := m3.then m4
       clear m3 DC)
    | (with_reducible refine wpList_allocs (o := ⟨some 7, .alloc 24, _, _, _, _⟩) rfl 24 rfl _ zero24 ?_; intro y5 hy5 my5 zy5
       obtain ⟨b7, hq5⟩ : ∃ b, b = w4.heap.size := ⟨_, rfl⟩
       rw [← hq5] at hy5 ⊢
       have n17 : ¬ b1 = b7 := by have := hb1.lt; omega
       have HB7 := Lib.hid (And.intro hq5 (And.intro m4.size my5))
       replace hb1 := hb1.keep my5 (by simp)
       have m5 := m4.then my5
       replace hX4 := hX4.keep my5 (by simp)
       clear hq5 zy5 my5 m4)
    | (with_reducible refine wpList_storesAll (o := ⟨none, .store 24 (.tmp 7) (.tmp 32), _, _, _, _⟩) rfl 24 (.tmp 7) (.tmp 32) rfl rfl b7 (cx) rfl (.agg (cx).toArray) rfl rfl 24 _ hy5 (zlen hX4.len) (hX4.one) (size24' hX4.len) ?_
       intro u6 hu6 mu6 zu6
       clear zu6
       replace hb1 := hb1.keep mu6 (by simpa using n17)
       have m6 : Mod [] w u6 := m5.trans mu6 (fun i hi hm => by have := HB7.out; simp at hm; omega)
       have hX6 : TIs u6 (Btw 0 u6.heap.size) x cx := (hX4.keep mu6 (fun i hi hm => by have := HB7.out; have := hi.2; simp at hm; omega)).mono (fun i hi => ⟨Nat.zero_le _, Nat.lt_of_lt_of_le hi.2 (Nat.le_trans HB7.out.2.2.size mu6.size)⟩)
       have hcx := hX4.len
       clear hX4
       clear m5)
    | (with_reducible refine wpList_loads (o := ⟨some 38, .load 24 (.tmp 7), _, _, _, _⟩) rfl 24 (.tmp 7) rfl b7 (0) (cx) rfl (Cells.of_holds hu6) _ Tryd.underlying24 rfl (size24' hcx) (.agg (cx).toArray) rfl ?_)
    | (go_at_call 15; refine (EX u6 m6 cx _ hX6 (fun i hi => hi.2)).mono ?_
       rintro e w8 ⟨Ax, ca, rfl, hM8, mM8, hf8⟩
       replace hb1 := hb1.keep mM8 (by simp)
       replace m6 := m6.then mM8
       have HRX := Lib.hid hM8.reads
       clear EX hX6 hu6 mM8)
    | (with_reducible refine wpList_ran (o := ⟨some 54, _, _, _, _, _⟩) rfl (.slice (some ⟨gA, fA, none⟩) nx c) (exec_pre (Nat.le_trans HX.out.2.2.1 hnc) rfl rfl rfl) ?_)
    | (go_at_call 43; refine (EQ w8 m6 Ax ca hM8).mono ?_
       rintro e w9 ⟨rfl, rfl⟩)
    | (with_reducible refine wpList_loads (o := ⟨some 59, .load 24 (.tmp 3), _, _, _, _⟩) rfl 24 (.tmp 3) rfl b1 (0) (cs) rfl (Cells.of_holds hb1) _ Tryd.underlying24 rfl (size24' hcs) (.agg (cs).toArray) rfl ?_)
    | (go_at_call 15; refine (EN w8 m6).mono ?_
       rintro e wb ⟨Ab, cb, rfl, ob, mb, fbb⟩
       have HQb := Lib.hid (And.intro (HQ.out.1.keep (m6.then mb) (by simp)) (And.intro (HQ.out.2.2.1.keep (m6.then mb) (fun _ _ => by simp)) (And.intro (HQ.out.2.2.2.then (m6.then mb)) ob.fits)))
       replace hb1 := hb1.keep mb (by simp)
       have lb1 := hb1.lt
       replace mb := m6.then mb
       obtain ⟨gb, hb, rfl, _⟩ := ob.reads 0 (by have := HY.out; omega)
       have DE := fun v (mv : Mod [] wb v) => decode_err (some ⟨gb, hb, none⟩) (t.bytes.take kk) kk cb 7 v (by have := HY.out; simp; omega) (by have := HY.out; simp; omega) ((ob.reads.firsts kk).keep mv (fun _ _ => by simp)) (HQb.out.2.2.1.then mv) HY.out.2.2.2.1
       clear EN)
    | (with_reducible refine wpList_none27 (o := ⟨some 69, _, _, _, _, _⟩) rfl rfl ?_
       intro wn hn mn zn
       obtain ⟨b9, hq9⟩ : ∃ b, b = wb.heap.size := ⟨_, rfl⟩
       rw [← hq9] at hn ⊢
       have on : Owns wn 0 5 (some ⟨b9, 0, none⟩) 0 [] := Owns.of_holds (l := []) hn (Nat.zero_le _) (by simp)
       have rb := ob.reads.keep mn (fun _ _ => by simp)
       have FM : ∀ v A' c' L', Grow wn (some ⟨b9, 0, none⟩) v A' c' L' → Mod [] wb v := fun v A' c' L' g => far_mod mn g.mod (fun i hi => by
         obtain ⟨a, ha, e⟩ := mem_blk hi
         cases ha
         rw [← e]
         exact Nat.le_of_eq hq9.symm)
       have gn := Grow.refl on
       clear hn zn hq9 on mn)
    | (with_reducible refine wpList_appends wn (o := ⟨some 71, _, _, _, _, _⟩) rfl (.tmp 69) (.tmp 70) 27 rfl 5 i0 (.int .u8 0) 1 Tryd.underlying27 HI.out.1 HI.out.2.1 HI.out.2.2.1 HI.out.2.2.2 (by with_unfolding_all rfl) 0 (Nat.zero_le _) (some ⟨b9, 0, none⟩) _ 0 ([]) rfl rfl gn.own (some ⟨gb, hb, none⟩) nb cb t.bytes rfl HY.out.2.2.1 rb (by have := HY.out; simp; omega) (by have := HY.out; unfold maxLen; simp; omega) ?_
       intro A2 c2 v2 o2 mo2 f2
       have g2 := gn.trans ⟨o2, mo2, f2⟩
       rw [List.nil_append] at g2 ⊢
       clear gn rb o2 mo2 f2)
    | (with_reducible refine wpList_appends v2 (o := ⟨some 73, _, _, _, _, _⟩) rfl (.tmp 71) (.tmp 72) 27 rfl 5 i0 (.int .u8 0) 1 Tryd.underlying27 HI.out.1 HI.out.2.1 HI.out.2.2.1 HI.out.2.2.2 (by with_unfolding_all rfl) 0 (Nat.zero_le _) A2 _ c2 (t.bytes) rfl rfl g2.own (some ⟨gA, fA, none⟩) n c l rfl HQ.out.2.1 (HQ.out.2.2.1.keep (mb.then (FM _ _ _ _ g2)) (fun _ _ => by simp)) (by have := HY.out; have := HQ.out.2.1; omega) (by have := HY.out; have := HQ.out.2.1; unfold maxLen; omega) ?_
       intro A3 c3 v3 o3 mo3 f3
       have g3 := g2.trans ⟨o3, mo3, f3⟩
       obtain ⟨L3, hL3⟩ : ∃ L, L = t.bytes ++ l := ⟨_, rfl⟩
       rw [← hL3] at g3 ⊢
       have mv3 := FM _ _ _ _ g3
       replace hb1 := hb1.keep mv3 (by simp)
       have DY := decode_yes A3 L3 l t (0 + t.count) L3.length c3 nb v3 rfl (by have := HY.out; have := HQ.out.2.1; rw [hL3]; simp; omega) g3.own.reads (HQb.out.2.2.1.then mv3) (by rw [hL3]; exact HY.out.1) (by rw [hL3]; exact HY.out.2.1)
       clear g2 o3 mo3 f3 g3 hL3 FM)
    | (go_at_call 42; refine DY.mono ?_
       rintro e w10 ⟨cy, rfl, hY, m10⟩
       replace hb1 := hb1.keep m10 (by simp)
       replace m10 := mv3.then m10
       clear mv3 DY)
    | (with_reducible refine wpList_allocs (o := ⟨some 14, .alloc 24, _, _, _, _⟩) rfl 24 rfl _ zero24 ?_; intro y11 hy11 my11 zy11
       obtain ⟨b14, hq11⟩ : ∃ b, b = w10.heap.size := ⟨_, rfl⟩
       rw [← hq11] at hy11 ⊢
       have n114 : ¬ b1 = b14 := by have := hb1.lt; omega
       have HB14 := Lib.hid (And.intro hq11 (And.intro m10.size my11))
       replace hb1 := hb1.keep my11 (by simp)
       have m11 := m10.then my11
       replace hY := hY.keep my11 (by simp)
       clear hq11 zy11 my11 m10)
    | (with_reducible refine wpList_storesAll (o := ⟨none, .store 24 (.tmp 14) (.tmp 75), _, _, _, _⟩) rfl 24 (.tmp 14) (.tmp 75) rfl rfl b14 (cy) rfl (.agg (cy).toArray) rfl rfl 24 _ hy11 (zlen hY.len) (hY.one) (size24' hY.len) ?_
       intro u12 hu12 mu12 zu12
       clear zu12
       replace hb1 := hb1.keep mu12 (by simpa using n114)
       have m12 : Mod [] wb u12 := m11.trans mu12 (fun i hi hm => by have := HB14.out; simp at hm; omega)
       replace hY := hY.keep mu12 (fun i hi hm => by have := HB14.out; have := hi.2; simp at hm; omega)
       clear m11)
    | (with_reducible refine wpList_ran (o := ⟨some 81, _, _, _, _, _⟩) rfl (.int .i64 (max k 0)) (exec_max1 rfl rfl rfl) ?_)
    | (with_reducible refine wpList_ran (o := ⟨some 84, _, _, _, _, _⟩) rfl (.int .i64 (kk : Int)) (RM _ _ rfl rfl rfl) ?_)
    | (with_reducible refine wpList_ran (o := ⟨some 85, _, _, _, _, _⟩) rfl (.slice (some ⟨gb, hb, none⟩) kk cb) (exec_pre (KC cb HQb.out.2.2.2.1) rfl rfl rfl) ?_)
    | (go_at_call 42; refine (DE u12 m12).mono ?_
       rintro e w13 ⟨rfl, m13⟩
       replace hb1 := hb1.keep m13 (by simp)
       replace hu12 := hu12.keep m13 (by simp)
       replace hY := hY.keep m13 (by simp)
       replace m13 := m12.then m13
       clear DE m12)
    | (with_reducible refine wpList_allocs (o := ⟨some 17, .alloc 24, _, _, _, _⟩) rfl 24 rfl _ zero24 ?_; intro y14 hy14 my14 zy14
       obtain ⟨b17, hq14⟩ : ∃ b, b = w13.heap.size := ⟨_, rfl⟩
       rw [← hq14] at hy14 ⊢
       have n117 : ¬ b1 = b17 := by have := hb1.lt; omega
       have n147 : ¬ b14 = b17 := by have := hu12.lt; omega
       have HB17 := Lib.hid (And.intro hq14 (And.intro m13.size my14))
       replace hb1 := hb1.keep my14 (by simp)
       replace hu12 := hu12.keep my14 (by simp)
       have m14 := m13.then my14
       have HS17 := Lib.hid (show w10.heap.size ≤ b17 by have := HB14.out; have := hu12.lt; omega)
       replace hY := hY.keep my14 (by simp)
       clear hq14 zy14 my14 m13)
    | (with_reducible refine wpList_storesAll (o := ⟨none, .store 24 (.tmp 17) (.tmp 87), _, _, _, _⟩) rfl 24 (.tmp 17) (.tmp 87) rfl rfl b17 (tmc 0 0 0 ⟨#[]⟩ none 0 0) rfl (.agg (tmc 0 0 0 ⟨#[]⟩ none 0 0).toArray) rfl rfl 24 _ hy14 (zlen (tmc_len _ _ _ _ _ _ _)) (tmc_one _ _ _ _ _ _ _) (size24t _ _ _ _ _ _ _) ?_
       intro u15 hu15 mu15 zu15
       clear zu15
       replace hb1 := hb1.keep mu15 (by simpa using n117)
       replace hu12 := hu12.keep mu15 (by simpa using n147)
       have m15 : Mod [] wb u15 := m14.trans mu15 (fun i hi hm => by have := HB17.out; simp at hm; omega)
       replace hY := hY.keep mu15 (fun i hi hm => by have := HS17.out; have := hi.2; simp at hm; omega)
       have PS := psame_all _ t t cy cs _ _ u15 (Nat.le_refl _) hY (HQb.out.1.keep m15 (by simp))
       obtain ⟨p0, p1, p2, p3, p4, hp⟩ := five hY.len
       obtain ⟨r0, r1, r2, r3, r4, hr⟩ := five hcs
       rw [(Tm.same_iff t t).2 rfl, hp, hr] at PS
       rw [hp] at hu12
       rw [hr] at hb1
       have f0 : u15.cell? ⟨b14, 0, none⟩ = some p0 := hu12.cell 0
       have f1 : u15.cell? ⟨b14, 1, none⟩ = some p1 := hu12.cell 1
       have f2 : u15.cell? ⟨b14, 2, none⟩ = some p2 := hu12.cell 2
       have f3 : u15.cell? ⟨b14, 3, none⟩ = some p3 := hu12.cell 3
       have f4 : u15.cell? ⟨b14, 4, none⟩ = some p4 := hu12.cell 4
       have g0 : u15.cell? ⟨b1, 0, none⟩ = some r0 := hb1.cell 0
       have g1 : u15.cell? ⟨b1, 1, none⟩ = some r1 := hb1.cell 1
       have g2 : u15.cell? ⟨b1, 2, none⟩ = some r2 := hb1.cell 2
       have g3 : u15.cell? ⟨b1, 3, none⟩ = some r3 := hb1.cell 3
       have g4 : u15.cell? ⟨b1, 4, none⟩ = some r4 := hb1.cell 4
       clear m14 hp hr hu12 hb1 hY)
    | (go_at_call 21; refine PS.mono ?_
       rintro e w16 ⟨rfl, m16⟩
       replace mb := mb.then (m15.then m16)))
    go_ret
    exact ⟨rfl, mb⟩
end Go.Proofs.YtapafniekmfkaaaDoor
