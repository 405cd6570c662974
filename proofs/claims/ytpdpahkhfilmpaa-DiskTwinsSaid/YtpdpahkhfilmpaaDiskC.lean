/-
  Package disk: settle. Contracts of mine.
-/
import Derived.Test.YtpdpahkhfilmpaaDiskA
import Derived.Test.YtpdpahkhfilmpaaDiskB
import Derived.StillTailTactics
namespace Go.Proofs.Ytpdpahkhfilmpaa
open Go.RowKit
theorem MapIs.ne_cells {w : World} {m g : Nat} {es : List MapEntry} {c : Nat} {cs : Array Value} {t : TypeId} {fz : Nat × Nat} (h : MapIs w m es c) (h' : w.heap[g]? = some (.cells cs t fz)) : g ≠ m := by
  rintro rfl
  unfold MapIs at h
  rw [h] at h'
  cases h'
theorem Firm.ne_holds {w : World} {m g : Nat} {f : Int → Blk} {t : TypeId} {cs : List Value} (h : Firm w m f) (h' : Holds w g t cs) : g ≠ m := by
  obtain ⟨l, c, h1, h2⟩ := h
  exact h1.ne_cells h'
theorem Firm.ne_cell {w : World} {m g o : Nat} {f : Int → Blk} {v : Value} (h : Firm w m f) (h' : w.cell? ⟨g, o, none⟩ = some v) : g ≠ m := by
  obtain ⟨l, c, h1, h2⟩ := h
  rintro rfl
  unfold MapIs at h1
  simp [World.cell?, h1] at h'
/-- A value of many cells is loaded, in a region that is gone through in the text's order. -/
theorem wpStill_loads {P : Program} {w : World} {ops : Array Oper} {rest : List Oper} {o : Oper} {a : Act} {Q : Act → Prop} (hgd : o.guard = none) (ty : TypeId) (x : Operand) (ho : o.op = .load ty x) (g f : Nat) (cs : List Value) (hx : a.eval x = .pointer (some ⟨g, f, none⟩)) (hc : Cells w (some ⟨g, f, none⟩) cs)
    (d : TypeDesc) (hu : P.underlying ty = some d) (hd : (match d with | .struct _ | .array _ _ => true | _ => false) = true) (hi : (P.info? ty).map (·.size) = some cs.length)
    (V : Value) (hV : V = .agg cs.toArray) (h : wpStill P ops w Q rest (a.put o.dst V)) : wpStill P ops w Q (o :: rest) a := by
  subst hV
  refine wpStill_step (fun K hK => ?_)
  have hw : Region.wanted o (yielded ops a.tmps) = true := by unfold Region.wanted; rw [hgd]
  rw [if_pos hw]
  unfold Oper.still execOp
  simp only [ho, hx, Instr.loadAt, Instr.sureAddr, Sem.run_bind, Sem.run_pure, Result.andThen_ok, run_loads hc hu hd hi]
  rw [Oper.stillUpon_value]
  exact hK _ h
/-- The firm part is told a block, in a walk. -/
theorem wpList_tells {w : World} {ops : Array Oper} {rest : List Oper} {o : Oper} {a : Act} {Q : Exit → Act → World → Prop} (hgd : o.guard = none) (x y z : Operand) (ho : o.op = .mapUpdate 68 x y z) (hdst : o.dst = none) (m : Nat) (k : Int) (b : Blk) (f : Int → Blk)
    (hx : a.eval x = .map (some m)) (hy : a.eval y = .int .i64 k) (hz : a.eval z = bv b) (hf : Firm w m f)
    (h : ∀ v, Firm v m (fun k' => if k' = k then b else f k') → Mod [m] w v → v.heap.size = w.heap.size → wpList Try.prog ops Q rest a v) : wpList Try.prog ops Q (o :: rest) a w := by
  obtain ⟨v, hrun, h1, h2, h3⟩ := run_tell hf k b
  refine wpList_plain hgd fun K hK => ?_
  unfold Oper.wp execOp
  simp only [ho, hx, hy, hz, Sem.run_bind, hrun, Result.andThen]
  have := h v h1 h2 h3
  refine hK _ _ ?_
  show wpList Try.prog ops Q rest (a.put o.dst undef) _
  rw [hdst]
  exact this

set_option maxRecDepth 100000 in
set_option maxHeartbeats 1000000 in
theorem settle_40 (S : St) (g m : Nat) (A : Option Addr) (c : Nat) (l : Story) (f : Int → Blk) (stays : Nat → Bool) (sel : Nat → Story) (w : World) (x0 : Value) (hn : l.length ≤ 1099511627776)
    (h0 : sel 0 = []) (h1 : ∀ k (hk : k < l.length), sel (k + 1) = sel k ++ (if stays k then [l[k]] else []))
    (h : Holds w g 74 (dc S m (.slice A l.length c))) (hf : Firm w m f) (hl : Cells w A (l.flatMap wc))
    (hst : ∀ v (k : Nat), Mod [m] w v → k < l.length → Calls Try.prog 40 #[.int .i64 (k : Int), x0] v fun e w' => e = .returned (.bool (stays k)) ∧ w' = v) :
    Calls Try.prog 39 #[.pointer (some ⟨g, 0, none⟩), .func (.func 40) #[] #[x0]] w fun e w' => e = .returned (.tuple #[]) ∧ Holds w' g 74 (dc S m (.slice none 0 0)) ∧ Firm w' m (app f (sel l.length)) ∧ Mod [g, m] w w' := by
  have c2 := (dc_cells h).2.2.1
  have hgm : g ≠ m := hf.ne_holds h
  obtain ⟨n, hnn⟩ : ∃ n, n = l.length := ⟨_, rfl⟩
  have hH := Lib.hid (And.intro h (And.intro hf (And.intro hl (And.intro hst (And.intro h0 (And.intro h1 hnn))))))
  clear hf hl hst h0 h1
  rw [← hnn] at hn c2 ⊢
  clear hnn h
  have hn' : (n : Int) ≤ 1099511627776 := by omega
  go_enter Try.func39, Try.ntmps39
  go_wp2_with fail
  go_loopw [11] (fun i wi => ∃ k : Nat, k ≤ n ∧ i = .int .i64 (k : Int) ∧ Firm wi m (app f (sel k)) ∧ Mod [m] w wi) (fun i _ => n - (intOf i).toNat)
  case atStart => exact ⟨0, by omega, rfl, by rw [hH.out.2.2.2.2.1]; exact hH.out.2.1, Mod.refl _ _⟩
  case round =>
    obtain ⟨k, hk, rfl, hfi, hmi⟩ := hrel
    by_cases hkn : k < n
    · obtain ⟨hA1, hA2, hA3, hA4, hA5, hA6, hA7⟩ := hH.out
      have hkl : k < l.length := by omega
      obtain ⟨ga, oa, rfl, hc⟩ := hA3.elem' wc 65 (by omega) wc_length k hkl
      have hne := hA2.ne_cell (hc.at 0 (by rw [wc_length]; omega))
      have hci := hc.keep hmi (by simpa using hne)
      have hs := hA6 k hkl
      have hcall := fun v hv => hA4 v k hv hkl
      clear hA1 hA2 hA3 hA4 hA5 hA6 hA7 hc
      obtain ⟨p, hp⟩ : ∃ p, p = l[k] := ⟨_, rfl⟩
      rw [← hp] at hci hs
      clear hp
      have hsz := hmi.size
      have hfl := hfi.lt
      go_wp2_with (first
        | (with_reducible refine wpList_loads (o := ⟨some 15, .load 84 (.tmp 14), _, _, _, _⟩) rfl 84 (.tmp 14) rfl ga (oa + k * 65) _ rfl hci _ Try.underlying84 rfl (by rw [wc_length]; exact size84) (wv p) rfl ?_)
        | (with_reducible refine wpList_allocs (o := ⟨some 5, .alloc 84, _, _, _, _⟩) rfl 84 rfl _ zero84 ?_; intro w1 hb1 m1 z1)
        | (with_reducible refine wpList_storesAll (o := ⟨none, .store 84 (.tmp 5) (.tmp 15), _, _, _, _⟩) rfl 84 (.tmp 5) (.tmp 15) rfl rfl wr.heap.size (wc p) rfl (wv p) rfl rfl 84 _ hb1 (by rw [wc_length, wc_length]) (wc_one p) (by rw [wc_length]; exact size84) ?_; intro w2 hb2 m2 z2))
      have m3 : Mod [] wr w2 := ⟨m2.os.trans m1.os, m2.tape.trans m1.tape, m2.output.trans m1.output, by omega, fun i hi hn => (m2.block i (by omega) (by simp; omega)).trans (m1.block i hi hn)⟩
      have hm2 := hmi.then m3
      have hfi2 := hfi.keep m3 (by simp)
      refine (hcall w2 hm2).mono ?_
      rintro e w3 ⟨rfl, rfl⟩
      clear hcall hci hb1 m1 m2 z1 hfi
      have k1 : Holds w3 g 74 _ := hH.out.1.keep hm2 (by simpa using hgm)
      have d1 := k1.cell 1
      simp only [dc, List.getElem?_cons_succ, List.getElem?_cons_zero] at d1
      have d2 := hb2.cell 0
      simp only [wc, List.getElem?_cons_zero] at d2
      clear k1
      obtain ⟨b, hb⟩ : ∃ b, b = wr.heap.size := ⟨_, rfl⟩
      rw [← hb] at hb2 d2 ⊢
      clear hb z2
      cases hsk : stays k
      · rw [hsk] at hs
        simp only [Bool.false_eq_true, if_false, List.append_nil] at hs
        rw [← hs] at hfi2
        clear hs
        go_wp2
        exact ⟨⟨k + 1, by omega, by go_num, hfi2, hm2⟩, by simp [intOf]; omega⟩
      · rw [hsk] at hs
        simp only [if_true] at hs
        have hHs := Lib.hid hs
        clear hs
        go_wp2_with fail
        refine wp_region_still_tail 8 (by kernel_rfl) (by kernel_rfl) ?_
        simp only [List.take_succ_cons, List.take_zero, List.drop_succ_cons, List.drop_zero]
        iterate 7 still_step
        have hbl : Cells w3.drew (some ⟨b, 1, none⟩) (bc p.2) := (Cells.of_holds hb2).part 1 (fun i hi => by simp [wc, Nat.add_comm 1 i, hi])
        refine wpStill_loads rfl 39 (.tmp 25) rfl b 1 (bc p.2) rfl hbl _ Try.underlying39 rfl (by rw [bc_length]; exact size39) (bv p.2) rfl ?_
        refine wpStill_nil ?_
        have hfd : Firm w3.drew m (app f (sel k)) := hfi2
        have hmd : Mod [m] w w3.drew := hm2.then (Mod.drew [] w3)
        change wpList _ _ _ _ _ w3.drew
        generalize w3.drew = w4 at *
        refine wpList_tells rfl (.tmp 22) (.tmp 24) (.tmp 26) rfl rfl m p.1 p.2 _ rfl rfl rfl hfd ?_
        intro w5 hf5 m5 z5
        have hF : Firm w5 m (app f (sel (k + 1))) := by rw [hHs.out, app_snoc]; exact hf5
        have hM : Mod [m] w w5 := hmd.trans m5 (fun _ _ h => h)
        clear hf5 m5 hfd hmd hfi2 hm2 m3 hbl hb2 d1 d2
        go_wp2
        exact ⟨⟨k + 1, by omega, by go_num, hF, hM⟩, by simp [intOf]; omega⟩
    · obtain rfl : n = k := by omega
      have d1 := (hH.out.1.keep hmi (by simpa using hgm)).cell 2
      have d2 := (hH.out.1.keep hmi (by simpa using hgm)).free 2
      simp only [dc, List.getElem?_cons_succ, List.getElem?_cons_zero] at d1
      have hE := Lib.hid ((hH.out.1.keep hmi (by simpa using hgm)).set 2 (.slice none 0 0))
      have hM : Mod [g, m] w (wr.setCell ⟨g, 2, none⟩ (.slice none 0 0)) := (hmi.wk (ns := [g, m]) (fun i _ h => by simp at h; simp [h])).trans (Mod.setCell (ms := [g, m]) wr (p := ⟨g, 2, none⟩) (by simp) _) (fun _ _ h => h)
      have hF : Firm (wr.setCell ⟨g, 2, none⟩ (.slice none 0 0)) m (app f (sel n)) := hfi.keep (Mod.setCell (ms := [g]) wr (p := ⟨g, 2, none⟩) (by simp) _) (by simpa using hgm.symm)
      clear hfi hmi hH
      go_wp2
      go_end0
      exact ⟨rfl, hE.out, hF, hM⟩


set_option maxRecDepth 100000 in
set_option maxHeartbeats 1000000 in
theorem settle_48 (S : St) (g m : Nat) (A : Option Addr) (c : Nat) (l : Story) (f : Int → Blk) (stays : Nat → Bool) (sel : Nat → Story) (w : World) (hn : l.length ≤ 1099511627776)
    (h0 : sel 0 = []) (h1 : ∀ k (hk : k < l.length), sel (k + 1) = sel k ++ (if stays k then [l[k]] else []))
    (h : Holds w g 74 (dc S m (.slice A l.length c))) (hf : Firm w m f) (hl : Cells w A (l.flatMap wc))
    (hst : ∀ v (k : Nat), Mod [m] w v → k < l.length → Calls Try.prog 48 #[.int .i64 (k : Int)] v fun e w' => e = .returned (.bool (stays k)) ∧ w' = v) :
    Calls Try.prog 39 #[.pointer (some ⟨g, 0, none⟩), .func (.func 48) #[] #[]] w fun e w' => e = .returned (.tuple #[]) ∧ Holds w' g 74 (dc S m (.slice none 0 0)) ∧ Firm w' m (app f (sel l.length)) ∧ Mod [g, m] w w' := by
  have c2 := (dc_cells h).2.2.1
  have hgm : g ≠ m := hf.ne_holds h
  obtain ⟨n, hnn⟩ : ∃ n, n = l.length := ⟨_, rfl⟩
  have hH := Lib.hid (And.intro h (And.intro hf (And.intro hl (And.intro hst (And.intro h0 (And.intro h1 hnn))))))
  clear hf hl hst h0 h1
  rw [← hnn] at hn c2 ⊢
  clear hnn h
  have hn' : (n : Int) ≤ 1099511627776 := by omega
  go_enter Try.func39, Try.ntmps39
  go_wp2_with fail
  go_loopw [11] (fun i wi => ∃ k : Nat, k ≤ n ∧ i = .int .i64 (k : Int) ∧ Firm wi m (app f (sel k)) ∧ Mod [m] w wi) (fun i _ => n - (intOf i).toNat)
  case atStart => exact ⟨0, by omega, rfl, by rw [hH.out.2.2.2.2.1]; exact hH.out.2.1, Mod.refl _ _⟩
  case round =>
    obtain ⟨k, hk, rfl, hfi, hmi⟩ := hrel
    by_cases hkn : k < n
    · obtain ⟨hA1, hA2, hA3, hA4, hA5, hA6, hA7⟩ := hH.out
      have hkl : k < l.length := by omega
      obtain ⟨ga, oa, rfl, hc⟩ := hA3.elem' wc 65 (by omega) wc_length k hkl
      have hne := hA2.ne_cell (hc.at 0 (by rw [wc_length]; omega))
      have hci := hc.keep hmi (by simpa using hne)
      have hs := hA6 k hkl
      have hcall := fun v hv => hA4 v k hv hkl
      clear hA1 hA2 hA3 hA4 hA5 hA6 hA7 hc
      obtain ⟨p, hp⟩ : ∃ p, p = l[k] := ⟨_, rfl⟩
      rw [← hp] at hci hs
      clear hp
      have hsz := hmi.size
      have hfl := hfi.lt
      go_wp2_with (first
        | (with_reducible refine wpList_loads (o := ⟨some 15, .load 84 (.tmp 14), _, _, _, _⟩) rfl 84 (.tmp 14) rfl ga (oa + k * 65) _ rfl hci _ Try.underlying84 rfl (by rw [wc_length]; exact size84) (wv p) rfl ?_)
        | (with_reducible refine wpList_allocs (o := ⟨some 5, .alloc 84, _, _, _, _⟩) rfl 84 rfl _ zero84 ?_; intro w1 hb1 m1 z1)
        | (with_reducible refine wpList_storesAll (o := ⟨none, .store 84 (.tmp 5) (.tmp 15), _, _, _, _⟩) rfl 84 (.tmp 5) (.tmp 15) rfl rfl wr.heap.size (wc p) rfl (wv p) rfl rfl 84 _ hb1 (by rw [wc_length, wc_length]) (wc_one p) (by rw [wc_length]; exact size84) ?_; intro w2 hb2 m2 z2))
      have m3 : Mod [] wr w2 := ⟨m2.os.trans m1.os, m2.tape.trans m1.tape, m2.output.trans m1.output, by omega, fun i hi hn => (m2.block i (by omega) (by simp; omega)).trans (m1.block i hi hn)⟩
      have hm2 := hmi.then m3
      have hfi2 := hfi.keep m3 (by simp)
      refine (hcall w2 hm2).mono ?_
      rintro e w3 ⟨rfl, rfl⟩
      clear hcall hci hb1 m1 m2 z1 hfi
      have k1 : Holds w3 g 74 _ := hH.out.1.keep hm2 (by simpa using hgm)
      have d1 := k1.cell 1
      simp only [dc, List.getElem?_cons_succ, List.getElem?_cons_zero] at d1
      have d2 := hb2.cell 0
      simp only [wc, List.getElem?_cons_zero] at d2
      clear k1
      obtain ⟨b, hb⟩ : ∃ b, b = wr.heap.size := ⟨_, rfl⟩
      rw [← hb] at hb2 d2 ⊢
      clear hb z2
      cases hsk : stays k
      · rw [hsk] at hs
        simp only [Bool.false_eq_true, if_false, List.append_nil] at hs
        rw [← hs] at hfi2
        clear hs
        go_wp2
        exact ⟨⟨k + 1, by omega, by go_num, hfi2, hm2⟩, by simp [intOf]; omega⟩
      · rw [hsk] at hs
        simp only [if_true] at hs
        have hHs := Lib.hid hs
        clear hs
        go_wp2_with fail
        refine wp_region_still_tail 8 (by kernel_rfl) (by kernel_rfl) ?_
        simp only [List.take_succ_cons, List.take_zero, List.drop_succ_cons, List.drop_zero]
        iterate 7 still_step
        have hbl : Cells w3.drew (some ⟨b, 1, none⟩) (bc p.2) := (Cells.of_holds hb2).part 1 (fun i hi => by simp [wc, Nat.add_comm 1 i, hi])
        refine wpStill_loads rfl 39 (.tmp 25) rfl b 1 (bc p.2) rfl hbl _ Try.underlying39 rfl (by rw [bc_length]; exact size39) (bv p.2) rfl ?_
        refine wpStill_nil ?_
        have hfd : Firm w3.drew m (app f (sel k)) := hfi2
        have hmd : Mod [m] w w3.drew := hm2.then (Mod.drew [] w3)
        change wpList _ _ _ _ _ w3.drew
        generalize w3.drew = w4 at *
        refine wpList_tells rfl (.tmp 22) (.tmp 24) (.tmp 26) rfl rfl m p.1 p.2 _ rfl rfl rfl hfd ?_
        intro w5 hf5 m5 z5
        have hF : Firm w5 m (app f (sel (k + 1))) := by rw [hHs.out, app_snoc]; exact hf5
        have hM : Mod [m] w w5 := hmd.trans m5 (fun _ _ h => h)
        clear hf5 m5 hfd hmd hfi2 hm2 m3 hbl hb2 d1 d2
        go_wp2
        exact ⟨⟨k + 1, by omega, by go_num, hF, hM⟩, by simp [intOf]; omega⟩
    · obtain rfl : n = k := by omega
      have d1 := (hH.out.1.keep hmi (by simpa using hgm)).cell 2
      have d2 := (hH.out.1.keep hmi (by simpa using hgm)).free 2
      simp only [dc, List.getElem?_cons_succ, List.getElem?_cons_zero] at d1
      have hE := Lib.hid ((hH.out.1.keep hmi (by simpa using hgm)).set 2 (.slice none 0 0))
      have hM : Mod [g, m] w (wr.setCell ⟨g, 2, none⟩ (.slice none 0 0)) := (hmi.wk (ns := [g, m]) (fun i _ h => by simp at h; simp [h])).trans (Mod.setCell (ms := [g, m]) wr (p := ⟨g, 2, none⟩) (by simp) _) (fun _ _ h => h)
      have hF : Firm (wr.setCell ⟨g, 2, none⟩ (.slice none 0 0)) m (app f (sel n)) := hfi.keep (Mod.setCell (ms := [g]) wr (p := ⟨g, 2, none⟩) (by simp) _) (by simpa using hgm.symm)
      clear hfi hmi hH
      go_wp2
      go_end0
      exact ⟨rfl, hE.out, hF, hM⟩

end Go.Proofs.Ytpdpahkhfilmpaa
