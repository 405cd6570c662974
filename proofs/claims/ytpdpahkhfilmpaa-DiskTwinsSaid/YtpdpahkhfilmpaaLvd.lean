/-
  The statements' own helpers: rows of Acts, stands, lived. Contracts of mine.
-/
import Derived.Test.YtpdpahkhfilmpaaSet
import Derived.Test.YtpdpahkhfilmpaaOug
import Derived.Test.YtpdpahkhfilmpaaFar
namespace Go.Proofs.Ytpdpahkhfilmpaa
section
open Go.ChangeShapes Go.WideShapes Go.ChangeAt Go.RowKit
/-- From address A on (if there is one) lie so many acts; none keeps more than memory holds. -/
def Acts2 (W : World) (A : Option Addr) (n : Nat) : Prop :=
  ∀ i, i < n → ∃ g o kd a K c, A = some ⟨g, o, none⟩ ∧ Cells W (some ⟨g, o + i * 5, none⟩) (dv kd a K c) ∧ a.kind = ((IntKind.u64.wrap kd) % 7).toNat ∧ (Lit.int .i64 a.n).wf = true ∧ a.keep.length ≤ 140737488355328 ∧ Bools W K a.keep
theorem deed_sized {H : Type} {enc : TypeId × Value → H} {W : World} {fuel : Nat} {x : DataW H × List MemPlace} {cs : List Value} (h : DataW.trod enc Try.prog W 0 (fun _ => true) true fuel 49 cs = some x) (hw : ∀ n ∈ x.1.weights Try.prog 49, n ≤ reachBytes) : ∃ kd a, Deed W cs kd a ∧ a.keep.length ≤ 140737488355328 := by
  obtain ⟨xs, n, _, hx, hlen, hxl, hf⟩ := DataW.trod_struct Try.underlying49 h
  have h5 : Try.prog.cellsOf 49 = 5 := by kernel_rfl
  have c3 : Try.prog.cellsOf 3 = 1 := by kernel_rfl
  have c5 : Try.prog.cellsOf 5 = 1 := by kernel_rfl
  have c47 : Try.prog.cellsOf 47 = 1 := by kernel_rfl
  rw [h5] at hlen
  match cs, hlen, xs, hxl with
  | [v0, v1, v2, v3, v4], _, [y0, y1, y2, y3, y4], _ =>
    have g0 : DataW.trod enc Try.prog W 0 (fun _ => true) true n 3 [v0] = some y0 := by have := hf 0 _ rfl; simpa [c3] using this
    have g1 : DataW.trod enc Try.prog W 0 (fun _ => true) true n 3 [v1] = some y1 := by have := hf 1 _ rfl; simpa [c3] using this
    have g2 : DataW.trod enc Try.prog W 0 (fun _ => true) true n 3 [v2] = some y2 := by have := hf 2 _ rfl; simpa [c3] using this
    have g3 : DataW.trod enc Try.prog W 0 (fun _ => true) true n 5 [v3] = some y3 := by have := hf 3 _ rfl; simpa [c5] using this
    have g4 : DataW.trod enc Try.prog W 0 (fun _ => true) true n 47 [v4] = some y4 := by have := hf 4 _ rfl; simpa [c47] using this
    obtain ⟨a0, e0, _, w0⟩ := DataW.trod_int Try.underlying3 g0
    obtain ⟨a1, e1, _, w1⟩ := DataW.trod_int Try.underlying3 g1
    obtain ⟨a2, e2, _, w2⟩ := DataW.trod_int Try.underlying3 g2
    obtain ⟨a3, e3, _, w3⟩ := DataW.trod_int Try.underlying5 g3
    obtain ⟨K, nk, ck, l, e4, hn, hl, hm, hb, hws⟩ := bools_sized g4
    obtain ⟨fl, hfl⟩ := oct_of w3
    simp only [List.cons.injEq, and_true] at e0 e1 e2 e3 e4
    have hle : l.length ≤ 140737488355328 := by
      rcases hws with h0 | ⟨elems, spare, hd, hle⟩
      · omega
      · have hb : Try.prog.bytesOf 4 = 1 := by kernel_rfl
        have hmem : (elems.length + spare.length) * Try.prog.bytesOf 4 ∈ x.1.weights Try.prog 49 := by
          rw [hx]
          simp only [List.map_cons, List.map_nil]
          rw [DataW.weights, Try.underlying49]
          simp only [List.map_cons, List.map_nil, DataW.weightsEach, List.mem_append]
          right; right; right; right; left
          rw [hd]
          simp [DataW.weights, Try.underlying47]
        have := hw _ hmem
        rw [hb] at this
        have := reachBytes_lt
        omega
    subst hn
    exact ⟨a0, ⟨((IntKind.u64.wrap a0) % 7).toNat, a1, a2, fl, l⟩, ⟨w0, w1, w2, rfl, K, ck, by rw [e0, e1, e2, e3, e4, hfl], hl, hm, hb⟩, hle⟩
theorem acts2_in {H : Type} {enc : TypeId × Value → H} {W : World} {fuel : Nat} {x : DataW H × List MemPlace} {cs : List Value} (h : DataW.trod enc Try.prog W 0 (fun _ => true) true fuel 22 cs = some x) (hw : ∀ n ∈ x.1.weights Try.prog 22, n ≤ reachBytes) :
    ∃ A n c, cs = [.slice A n c] ∧ n ≤ c ∧ c ≤ maxLen ∧ Acts2 W A n := by
  have h5 : Try.prog.cellsOf 49 = 5 := by kernel_rfl
  rcases Deep.open_slice Try.underlying22 h with ⟨rfl, _⟩ | ⟨a, len, cap, m, n, D, Pl, rfl, _, hl, hm, hmm, hX, hx⟩
  · exact ⟨none, 0, 0, rfl, Nat.le_refl _, by simp, fun i h => by omega⟩
  · simp only [if_true] at hmm
    refine ⟨some a, _, _, rfl, hl, hmm ▸ hm, fun i hi => ?_⟩
    have hD : ∀ k ∈ (D i).weights Try.prog 49, k ≤ reachBytes := fun k hk => by
      refine hw k ?_
      rw [hX]
      simp only [DataW.weights, Try.underlying22]
      exact List.mem_cons_of_mem _ (List.mem_append_left _ (mem_all (d := D i) (List.mem_map.2 ⟨i, List.mem_range.2 hi, rfl⟩) hk))
    obtain ⟨cs', h1, h2⟩ := hx i (by omega)
    obtain ⟨kd, ac, hd, hks⟩ := deed_sized h2 hD
    obtain ⟨K, c, hf, hlc, hcm, hb⟩ := hd.form
    rw [h5] at h1
    obtain ⟨_, hlen, hcell⟩ := World.cells?_some h1
    have hsp : ∀ j, j < 5 → ∃ v, W.cell? ((a.add (i * 5)).add j) = some v ∧ cs'[j]? = some v := fun j hj => by
      have := hcell j (by omega)
      refine ⟨cs'[j]'(by omega), ?_, List.getElem?_eq_getElem (by omega)⟩
      rw [this]
      exact List.getElem?_eq_getElem _
    obtain ⟨b, o, s⟩ := a
    have hs : s = none := by
      obtain ⟨cs0, h10, h20⟩ := hx 0 (by omega)
      obtain ⟨kd0, ac0, hd0⟩ := deed_in h20
      obtain ⟨K0, c0, hf0, _, _, _⟩ := hd0.form
      obtain ⟨_, _, hcell0⟩ := World.cells?_some h10
      have q0 := hcell0 0 (by rw [h5]; omega)
      rw [hf0] at q0
      simpa [Addr.add] using World.cell?_spot q0
    subst hs
    refine ⟨b, o, kd, ac, K, c, rfl, Cells.of_cells fun j hj => ?_, hd.kind, hd.w3, hks, hb⟩
    have hj5 : j < 5 := hj
    obtain ⟨v, e1, e2⟩ := hsp j hj5
    rw [add_plain, add_plain] at e1
    rw [e1]
    have hf' : cs' = dv kd ac K c := hf
    rw [hf', List.getElem?_eq_getElem hj] at e2
    exact e2.symm
end
section
open Go.RowKit
theorem exec_field30k {v : World} {o : Oper} {ρ : Operand → Value} {x : Operand} {g k : Nat} (hk : k < 7) (ho : o.op = .fieldAddr 30 x k) (hx : ρ x = .pointer (some ⟨g, 0, none⟩)) : (execOp ρ o).run Try.prog v = .ok (.value (.pointer (some ⟨g, k, none⟩))) v := by
  unfold execOp
  obtain rfl | rfl | rfl | rfl | rfl | rfl | rfl : k = 0 ∨ k = 1 ∨ k = 2 ∨ k = 3 ∨ k = 4 ∨ k = 5 ∨ k = 6 := by omega
  all_goals simp [ho, hx, go_sem]
theorem exec_eqi {P : Program} {v : World} {o : Oper} {ρ : Operand → Value} {x y : Operand} {t t' : TypeId} {k : IntKind} {a : Int} (ho : o.op = .binOp .eql t x y t') (hx : ρ x = .int k a) (hy : ρ y = .int k a) : (execOp ρ o).run P v = .ok (.value (.bool true)) v := by
  unfold execOp
  simp [ho, hx, hy, go_sem]
theorem exec_eqb {P : Program} {v : World} {o : Oper} {ρ : Operand → Value} {x y : Operand} {t t' : TypeId} {a : Bool} (hu : P.underlying t = some .bool) (ho : o.op = .binOp .eql t x y t') (hx : ρ x = .bool a) (hy : ρ y = .bool a) : (execOp ρ o).run P v = .ok (.value (.bool true)) v := by
  unfold execOp
  simp [ho, hx, hy, go_sem, run_eql_bool, hu]
theorem sects_ints (l : Story) : sects l = (l.map (·.1)).map (Value.int .i64) := by
  unfold sects
  rw [List.map_map]
  rfl
theorem Fine.long' {R : RSt} (h : Fine R 1099511627774) : R.story.length ≤ 1099511627776 := by have := h.long; omega
set_option maxRecDepth 1000000 in
set_option maxHeartbeats 4000000 in
theorem stands_c {S : St} {R : RSt} (h : Like S R) (g m : Nat) (A : Option Addr) (c : Nat) (A' : Option Addr) (c' : Nat) (w : World) (D : DAt w g m A c S) (hT : Told w R A' c') (hF : Fine R 1099511627774) :
    Calls Try.prog 13 #[.pointer (some ⟨g, 0, none⟩), rv R A' c'] w fun e w' => e = .returned (.bool true) ∧ Mod [] w w' := by
  obtain ⟨n0, hn0⟩ : ∃ n, n = S.loose.length := ⟨_, rfl⟩
  have hn1 : R.story.length - R.firm = n0 := by rw [hn0, ← h.loose, List.length_drop]
  have HL := Lib.hid (And.intro h (And.intro hF (And.intro hn0 hn1)))
  clear h hF hn0 hn1
  go_enter Try.func13, Try.ntmps13
  go_wp2_with (first
    | (with_reducible refine wpList_boxes (o := ⟨some 3, .box 30 (.tmp 1), _, _, _, _⟩) rfl 30 (.tmp 1) rfl _ rfl (rc R A' c') rfl ?_; intro w1 h3 m1 z1; replace z1 := Lib.hid z1))
  obtain ⟨g3, e3⟩ : ∃ b, b = w.heap.size := ⟨_, rfl⟩
  rw [← e3] at h3 ⊢
  clear e3 z1
  replace D := D.keep m1 (by simp) (by simp) (by simp)
  replace hT := hT.keep m1 (by simp)
  refine Rg.wp_region_lit (X := Nat × Option Addr × Nat) (0, none, 0) (fun x => [.pointer (some ⟨g, 0, none⟩), rv R A' c', undef, .pointer (some ⟨g3, 0, none⟩), .bool true, .pointer (some ⟨g, 0, none⟩), .int .i64 R.size, .pointer (some ⟨g3, 0, none⟩), .int .i64 R.size, .bool true, .bool true, .pointer (some ⟨g, 0, none⟩), .bool R.out, .pointer (some ⟨g3, 3, none⟩), .bool R.out, .bool true, .bool true, .bool true, .pointer (some ⟨g, 0, none⟩), .int .i64 (R.ops : Int), .pointer (some ⟨g3, 6, none⟩), .int .i64 (R.ops : Int), .bool true, .bool true, .bool true, .pointer (some ⟨g, 0, none⟩), .slice (some ⟨x.1, 0, none⟩) n0 n0, rv R A' c', .slice x.2.1 n0 x.2.2, .bool true, .bool true]) 31 [0, 1, 2, 3]
    (fun x lz v => Mod [] w1.drew v ∧ (lz 21 = true → Holds v x.1 3 (sects S.loose)) ∧ (lz 23 = true → Cells v x.2.1 (sects (R.story.drop R.firm)))) []
    (by kernel_rfl) (fun _ => rfl) rfl rfl rfl (fun _ => by simp only [List.map_cons, List.map_nil, List.getD_cons_zero, List.getD_cons_succ]) (⟨Mod.refl _ _, (fun h => by cases h), (fun h => by cases h)⟩) (by kernel_rfl) (by kernel_rfl) ?step ?fin
  case step =>
    intro x lz T v j o hj hlj hdep hst hpar hgot hcl Kq hK
    have hjn : j < 27 := (Array.getElem?_eq_some_iff.1 hj).1
    have h3d : Holds v g3 30 (rc R A' c') := (show Holds w1.drew g3 30 (rc R A' c') from h3).keep hst.1 (by simp)
    have Dv : DAt v g m A c S := (D.keep (Mod.drew [] w1) (by simp) (by simp) (by simp)).keep hst.1 (by simp) (by simp) (by simp)
    have hTv : Told v R A' c' := (hT.keep (Mod.drew [] w1) (by simp)).keep hst.1 (by simp)
    obtain ⟨c0, _, _, c3, _, _, c6⟩ := dc_cells Dv.blk
    rw [← HL.out.1.n] at c0
    rw [HL.out.1.dead] at c3
    rw [HL.out.1.ops] at c6
    obtain rfl | rfl | rfl | rfl | rfl | rfl | rfl | rfl | rfl | rfl | rfl | rfl | rfl | rfl | rfl | rfl | rfl | rfl | rfl | rfl | rfl | rfl | rfl | rfl | rfl | rfl | rfl : j = 0 ∨ j = 1 ∨ j = 2 ∨ j = 3 ∨ j = 4 ∨ j = 5 ∨ j = 6 ∨ j = 7 ∨ j = 8 ∨ j = 9 ∨ j = 10 ∨ j = 11 ∨ j = 12 ∨ j = 13 ∨ j = 14 ∨ j = 15 ∨ j = 16 ∨ j = 17 ∨ j = 18 ∨ j = 19 ∨ j = 20 ∨ j = 21 ∨ j = 22 ∨ j = 23 ∨ j = 24 ∨ j = 25 ∨ j = 26 := by omega
    all_goals (have hj' := Option.some.inj (hj : some _ = some o); subst hj'; clear hj)
    · exact wp_ran rfl (exec_move rfl (eval_tmp (hpar 0 (by simp)))) (hK x _ _ (fun _ _ _ _ _ _ => rfl) (fun s hs => by cases hs; rfl) hst)
    · refine wp_called rfl (exec_call1 rfl rfl (eval_tmp (hgot 0 _ 5 rfl (hdep ⟨0, .data⟩ (by simp) rfl) rfl)) (enters_of Try.func26 (by kernel_rfl) rfl)) ((len_c g _ v c0).mono (fun e v' hh => ⟨_, hh.1, hK x _ _ (fun _ _ _ _ _ _ => rfl) (fun s hs => by cases hs; rfl) ?_⟩))
      have hq := hh.2
      subst hq
      exact hst
    · exact wp_ran rfl (exec_field30k (k := 0) (by decide) rfl (eval_tmp (hpar 3 (by simp)))) (hK x _ _ (fun _ _ _ _ _ _ => rfl) (fun s hs => by cases hs; rfl) hst)
    · exact wp_ran rfl (exec_load rfl (eval_tmp (hgot 2 _ 7 rfl (hdep ⟨2, .data⟩ (by simp) rfl) rfl)) (run_load1 Try.underlying3 rfl (h3d.cell 0))) (hK x _ _ (fun _ _ _ _ _ _ => rfl) (fun s hs => by cases hs; rfl) hst)
    · exact wp_ran rfl (exec_eqi rfl (eval_tmp (hgot 1 _ 6 rfl (hdep ⟨1, .data⟩ (by simp) rfl) rfl)) (eval_tmp (hgot 3 _ 8 rfl (hdep ⟨3, .data⟩ (by simp) rfl) rfl))) (hK x _ _ (fun _ _ _ _ _ _ => rfl) (fun s hs => by cases hs; rfl) hst)
    · exact wp_ran rfl (exec_move rfl (eval_tmp (hgot 4 _ 9 rfl (hdep ⟨4, .data⟩ (by simp) rfl) rfl))) (hK x _ _ (fun _ _ _ _ _ _ => rfl) (fun s hs => by cases hs; rfl) hst)
    · exact Rg.wp_ranW (Rg.wanted_yes rfl rfl rfl (hgot 5 _ 10 rfl (hdep ⟨5, .guard⟩ (by simp) rfl) rfl)) (exec_move rfl (eval_tmp (hpar 0 (by simp)))) (hK x _ _ (fun _ _ _ _ _ _ => rfl) (fun s hs => by cases hs; rfl) hst)
    · refine Rg.wp_calledW (Rg.wanted_yes rfl rfl rfl (hgot 5 _ 10 rfl (hdep ⟨5, .guard⟩ (by simp) rfl) rfl)) (exec_call1 rfl rfl (eval_tmp (hgot 6 _ 11 rfl (hdep ⟨6, .data⟩ (by simp) rfl) rfl)) (enters_of Try.func28 (by kernel_rfl) rfl)) ((dead_c g _ v c3).mono (fun e v' hh => ⟨_, hh.1, hK x _ _ (fun _ _ _ _ _ _ => rfl) (fun s hs => by cases hs; rfl) ?_⟩))
      have hq := hh.2
      subst hq
      exact hst
    · exact Rg.wp_ranW (Rg.wanted_yes rfl rfl rfl (hgot 5 _ 10 rfl (hdep ⟨5, .guard⟩ (by simp) rfl) rfl)) (exec_field30k (k := 3) (by decide) rfl (eval_tmp (hpar 3 (by simp)))) (hK x _ _ (fun _ _ _ _ _ _ => rfl) (fun s hs => by cases hs; rfl) hst)
    · exact Rg.wp_ranW (Rg.wanted_yes rfl rfl rfl (hgot 5 _ 10 rfl (hdep ⟨5, .guard⟩ (by simp) rfl) rfl)) (exec_load rfl (eval_tmp (hgot 8 _ 13 rfl (hdep ⟨8, .data⟩ (by simp) rfl) rfl)) (run_load1 Try.underlying4 rfl (h3d.cell 3))) (hK x _ _ (fun _ _ _ _ _ _ => rfl) (fun s hs => by cases hs; rfl) hst)
    · exact Rg.wp_ranW (Rg.wanted_yes rfl rfl rfl (hgot 5 _ 10 rfl (hdep ⟨5, .guard⟩ (by simp) rfl) rfl)) (exec_eqb Try.underlying4 rfl (eval_tmp (hgot 7 _ 12 rfl (hdep ⟨7, .data⟩ (by simp) rfl) rfl)) (eval_tmp (hgot 9 _ 14 rfl (hdep ⟨9, .data⟩ (by simp) rfl) rfl))) (hK x _ _ (fun _ _ _ _ _ _ => rfl) (fun s hs => by cases hs; rfl) hst)
    · exact wp_ran rfl (Rg.exec_pick rfl (eval_tmp (hgot 5 _ 10 rfl (hdep ⟨5, .data⟩ (by simp) rfl) rfl)) (eval_tmp (hgot 10 _ 15 rfl (hdep ⟨10, .data⟩ (by simp) rfl) rfl)) rfl rfl) (hK x _ _ (fun _ _ _ _ _ _ => rfl) (fun s hs => by cases hs; rfl) hst)
    · exact wp_ran rfl (exec_move rfl (eval_tmp (hgot 11 _ 16 rfl (hdep ⟨11, .data⟩ (by simp) rfl) rfl))) (hK x _ _ (fun _ _ _ _ _ _ => rfl) (fun s hs => by cases hs; rfl) hst)
    · exact Rg.wp_ranW (Rg.wanted_yes rfl rfl rfl (hgot 12 _ 17 rfl (hdep ⟨12, .guard⟩ (by simp) rfl) rfl)) (exec_move rfl (eval_tmp (hpar 0 (by simp)))) (hK x _ _ (fun _ _ _ _ _ _ => rfl) (fun s hs => by cases hs; rfl) hst)
    · refine Rg.wp_calledW (Rg.wanted_yes rfl rfl rfl (hgot 12 _ 17 rfl (hdep ⟨12, .guard⟩ (by simp) rfl) rfl)) (exec_call1 rfl rfl (eval_tmp (hgot 13 _ 18 rfl (hdep ⟨13, .data⟩ (by simp) rfl) rfl)) (enters_of Try.func27 (by kernel_rfl) rfl)) ((ops_c g _ v c6).mono (fun e v' hh => ⟨_, hh.1, hK x _ _ (fun _ _ _ _ _ _ => rfl) (fun s hs => by cases hs; rfl) ?_⟩))
      have hq := hh.2
      subst hq
      exact hst
    · exact Rg.wp_ranW (Rg.wanted_yes rfl rfl rfl (hgot 12 _ 17 rfl (hdep ⟨12, .guard⟩ (by simp) rfl) rfl)) (exec_field30k (k := 6) (by decide) rfl (eval_tmp (hpar 3 (by simp)))) (hK x _ _ (fun _ _ _ _ _ _ => rfl) (fun s hs => by cases hs; rfl) hst)
    · exact Rg.wp_ranW (Rg.wanted_yes rfl rfl rfl (hgot 12 _ 17 rfl (hdep ⟨12, .guard⟩ (by simp) rfl) rfl)) (exec_load rfl (eval_tmp (hgot 15 _ 20 rfl (hdep ⟨15, .data⟩ (by simp) rfl) rfl)) (run_load1 Try.underlying3 rfl (h3d.cell 6))) (hK x _ _ (fun _ _ _ _ _ _ => rfl) (fun s hs => by cases hs; rfl) hst)
    · exact Rg.wp_ranW (Rg.wanted_yes rfl rfl rfl (hgot 12 _ 17 rfl (hdep ⟨12, .guard⟩ (by simp) rfl) rfl)) (exec_eqi rfl (eval_tmp (hgot 14 _ 19 rfl (hdep ⟨14, .data⟩ (by simp) rfl) rfl)) (eval_tmp (hgot 16 _ 21 rfl (hdep ⟨16, .data⟩ (by simp) rfl) rfl))) (hK x _ _ (fun _ _ _ _ _ _ => rfl) (fun s hs => by cases hs; rfl) hst)
    · exact wp_ran rfl (Rg.exec_pick rfl (eval_tmp (hgot 12 _ 17 rfl (hdep ⟨12, .data⟩ (by simp) rfl) rfl)) (eval_tmp (hgot 17 _ 22 rfl (hdep ⟨17, .data⟩ (by simp) rfl) rfl)) rfl rfl) (hK x _ _ (fun _ _ _ _ _ _ => rfl) (fun s hs => by cases hs; rfl) hst)
    · exact wp_ran rfl (exec_move rfl (eval_tmp (hgot 18 _ 23 rfl (hdep ⟨18, .data⟩ (by simp) rfl) rfl))) (hK x _ _ (fun _ _ _ _ _ _ => rfl) (fun s hs => by cases hs; rfl) hst)
    · exact Rg.wp_ranW (Rg.wanted_yes rfl rfl rfl (hgot 19 _ 24 rfl (hdep ⟨19, .guard⟩ (by simp) rfl) rfl)) (exec_move rfl (eval_tmp (hpar 0 (by simp)))) (hK x _ _ (fun _ _ _ _ _ _ => rfl) (fun s hs => by cases hs; rfl) hst)
    · refine Rg.wp_calledW (Rg.wanted_yes rfl rfl rfl (hgot 19 _ 24 rfl (hdep ⟨19, .guard⟩ (by simp) rfl) rfl)) (exec_call1 rfl rfl (eval_tmp (hgot 20 _ 25 rfl (hdep ⟨20, .data⟩ (by simp) rfl) rfl)) (enters_of Try.func29 (by kernel_rfl) rfl)) ((pending_c S g m A c n0 v Dv HL.out.2.2.1).mono (fun e v' hh => ?_))
      obtain ⟨gp, h1, h2, h3, _⟩ := hh
      exact ⟨_, h1, hK (gp, x.2) _ _ (fun j' o' s' h1 h2 h3 => by
        clear hst hpar hgot hdep hcl hK
        have h4 : j' < 27 := (Array.getElem?_eq_some_iff.1 h1).1
        obtain rfl | rfl | rfl | rfl | rfl | rfl | rfl | rfl | rfl | rfl | rfl | rfl | rfl | rfl | rfl | rfl | rfl | rfl | rfl | rfl | rfl | rfl | rfl | rfl | rfl | rfl | rfl : j' = 0 ∨ j' = 1 ∨ j' = 2 ∨ j' = 3 ∨ j' = 4 ∨ j' = 5 ∨ j' = 6 ∨ j' = 7 ∨ j' = 8 ∨ j' = 9 ∨ j' = 10 ∨ j' = 11 ∨ j' = 12 ∨ j' = 13 ∨ j' = 14 ∨ j' = 15 ∨ j' = 16 ∨ j' = 17 ∨ j' = 18 ∨ j' = 19 ∨ j' = 20 ∨ j' = 21 ∨ j' = 22 ∨ j' = 23 ∨ j' = 24 ∨ j' = 25 ∨ j' = 26 := by omega
        all_goals (cases h1; cases h3 <;> first | rfl | (rw [hlj] at h2; cases h2))) (fun s hs => by cases hs; rfl) ⟨hst.1.then h3, fun _ => h2, fun q => (hst.2.2 q).keep h3 (by simp)⟩⟩
    · exact Rg.wp_ranW (Rg.wanted_yes rfl rfl rfl (hgot 19 _ 24 rfl (hdep ⟨19, .guard⟩ (by simp) rfl) rfl)) (exec_load rfl (eval_tmp (hpar 3 (by simp))) (run_loads (Cells.of_holds h3d) Try.underlying30 rfl (size30_of _ _ _))) (hK x _ _ (fun _ _ _ _ _ _ => rfl) (fun s hs => by cases hs; rfl) hst)
    · refine Rg.wp_calledW (Rg.wanted_yes rfl rfl rfl (hgot 19 _ 24 rfl (hdep ⟨19, .guard⟩ (by simp) rfl) rfl)) (exec_call1 rfl rfl (eval_tmp (hgot 22 _ 27 rfl (hdep ⟨22, .data⟩ (by simp) rfl) rfl)) (enters_of Try.func37 (by kernel_rfl) rfl)) ((loose_c R A' c' v hTv HL.out.2.1.long' HL.out.2.1.firm).mono (fun e v' hh => ?_))
      obtain ⟨A2, c2, h1, h2, h3⟩ := hh
      rw [HL.out.2.2.2] at h1
      exact ⟨_, h1, hK (x.1, A2, c2) _ _ (fun j' o' s' h1 h2 h3 => by
        clear hst hpar hgot hdep hcl hK
        have h4 : j' < 27 := (Array.getElem?_eq_some_iff.1 h1).1
        obtain rfl | rfl | rfl | rfl | rfl | rfl | rfl | rfl | rfl | rfl | rfl | rfl | rfl | rfl | rfl | rfl | rfl | rfl | rfl | rfl | rfl | rfl | rfl | rfl | rfl | rfl | rfl : j' = 0 ∨ j' = 1 ∨ j' = 2 ∨ j' = 3 ∨ j' = 4 ∨ j' = 5 ∨ j' = 6 ∨ j' = 7 ∨ j' = 8 ∨ j' = 9 ∨ j' = 10 ∨ j' = 11 ∨ j' = 12 ∨ j' = 13 ∨ j' = 14 ∨ j' = 15 ∨ j' = 16 ∨ j' = 17 ∨ j' = 18 ∨ j' = 19 ∨ j' = 20 ∨ j' = 21 ∨ j' = 22 ∨ j' = 23 ∨ j' = 24 ∨ j' = 25 ∨ j' = 26 := by omega
        all_goals (cases h1; cases h3 <;> first | rfl | (rw [hlj] at h2; cases h2))) (fun s hs => by cases hs; rfl) ⟨hst.1.then h3, fun q => (hst.2.1 q).keep h3 (by simp), fun _ => h2⟩⟩
    · have a21 := hdep ⟨21, .data⟩ (by simp) rfl
      have a23 := hdep ⟨23, .data⟩ (by simp) rfl
      have e1 := Cells.of_holds (hst.2.1 a21)
      have e2 := hst.2.2 a23
      rw [HL.out.1.loose] at e2
      rw [sects_ints] at e1 e2
      refine Rg.wp_calledW (Rg.wanted_yes rfl rfl rfl (hgot 19 _ 24 rfl (hdep ⟨19, .guard⟩ (by simp) rfl) rfl)) (exec_call2 rfl rfl (eval_tmp (hgot 21 _ 26 rfl (hdep ⟨21, .data⟩ (by simp) rfl) rfl)) (eval_tmp (hgot 23 _ 28 rfl (hdep ⟨23, .data⟩ (by simp) rfl) rfl)) (enters_of Try.func36 (by kernel_rfl) rfl)) ((eqints_c _ x.2.1 n0 n0 x.2.2 (S.loose.map (·.1)) v (by rw [List.length_map]; exact HL.out.2.2.1) (by have := Dv.long; have := HL.out.2.2.1; omega) e1 e2).mono (fun e v' hh => ⟨_, hh.1, hK x _ _ (fun _ _ _ _ _ _ => rfl) (fun s hs => by cases hs; rfl) ?_⟩))
      exact ⟨hst.1.then hh.2, fun q => (hst.2.1 q).keep hh.2 (by simp), fun q => (hst.2.2 q).keep hh.2 (by simp)⟩
    · exact wp_ran rfl (Rg.exec_pick rfl (eval_tmp (hgot 19 _ 24 rfl (hdep ⟨19, .data⟩ (by simp) rfl) rfl)) (eval_tmp (hgot 24 _ 29 rfl (hdep ⟨24, .data⟩ (by simp) rfl) rfl)) rfl rfl) (hK x _ _ (fun _ _ _ _ _ _ => rfl) (fun s hs => by cases hs; rfl) hst)
    · exact wp_ran rfl (exec_assign rfl (eval_tmp (hgot 25 _ 30 rfl (hdep ⟨25, .data⟩ (by simp) rfl) rfl))) (hK x _ _ (fun _ _ _ _ _ _ => rfl) (fun s hs => by cases hs; rfl) hst)
  case fin =>
    intro x lz v hl hst
    obtain ⟨q1, _, _⟩ := hst
    clear hl
    go_wp2
    go_ret
    exact ⟨rfl, (m1.then (Mod.drew [] w1)).then q1⟩
end
section
open Go.RowKit
def LivPost (w : World) (g m : Nat) (A : Option Addr) (B : Nat) (z : Int) (e : Ending) (w' : World) : Prop :=
  ∃ g' m' A' c' S' R' B' b', e = .returned (.tuple #[.pointer (some ⟨g', 0, none⟩), rv R' B' b', .bool true]) ∧ DAt w' g' m' A' c' S' ∧ Went w w' g m A g' m' A' ∧ Told w' R' B' b' ∧ Like S' R' ∧ Fine R' B ∧ R'.size = z
theorem ask_size (R : RSt) (k : Nat) (i : Int) (b : Blk) : (R.ask k i b).1.size = R.size := by
  unfold RSt.ask
  simp only
  repeat' split
  all_goals rfl
theorem act_size (R : RSt) (a : Ac) : (R.act a).2.2.size = R.size := by
  obtain ⟨k, i, n, c, keep⟩ := a
  unfold RSt.act
  match k with
  | 0 => exact ask_size R 0 i (fil 0)
  | 1 => exact ask_size R 1 i (fil c)
  | 2 => exact ask_size R 2 0 (fil 0)
  | 3 =>
    show (if R.out then ((fil 0, 9, R) : Blk × Int × RSt) else (fil 0, 0, { R with arms := max n (-1) })).2.2.size = R.size
    split <;> rfl
  | 4 =>
    show (if R.out then ((fil 0, 9, R) : Blk × Int × RSt) else (fil 0, 0, { R with fails := max n (-1) })).2.2.size = R.size
    split <;> rfl
  | 5 => rfl
  | _ + 6 => rfl
theorem results_tct' {P : Program} {fn : Func} {p q r : Tmp} {ty : TypeId} (h : fn.results = #[.tmp p, .cell q ty, .tmp r]) (tmps : Array Value) (w : World) (g : Nat) (cs : List Value) (x y : Value) (d : TypeDesc)
    (hp : tmps[p]? = some x) (hq : tmps[q]? = some (.pointer (some ⟨g, 0, none⟩))) (hr : tmps[r]? = some y) (hc : Cells w (some ⟨g, 0, none⟩) cs)
    (hu : P.underlying ty = some d) (hd : (match d with | .struct _ | .array _ _ => true | _ => false) = true) (hi : (P.info? ty).map (·.size) = some cs.length) :
    (results fn tmps).run P w = .ok (.tuple #[x, .agg cs.toArray, y]) w := results_tct h tmps w g cs x y d hp hq hr hc hu hd hi
theorem Far.own {w v v' : World} {g m c b : Nat} {A : Option Addr} {S : St} {t : TypeId} {cs : List Value} (h : Far w v g m A c S) (k : Mod [b] v v') (hb : Holds v b t cs) (h1 : t ≠ 74) (h2 : t ≠ 84) (hw : w.heap.size ≤ b) : Far w v' g m A c S := by
  obtain ⟨d1, d2, d3⟩ := h.D.apart hb h1 h2
  exact ⟨h.D.keep k d1 d2 d3, far_mod h.mm k (fun i hi => by simp at hi; omega), h.g, h.m, h.A⟩
set_option maxRecDepth 1000000 in
set_option maxHeartbeats 4000000 in
theorem lived_c {w0 w : World} {g m c : Nat} {A : Option Addr} {S : St} {R : RSt} (F : Far w0 w g m A c S) (L : Like S R) (Bx : Option Addr) (bx : Nat) (hT : Told w R Bx bx) (B : Nat) (hF : Fine R B) (hB : B + 60 ≤ 1099511627774) (W : Option Addr) (n cw : Nat) (hn : n ≤ cw) (hc : cw ≤ maxLen) (hA : Acts2 w0 W n) :
    Calls Try.prog 14 #[.pointer (some ⟨g, 0, none⟩), rv R Bx bx, .slice W n cw] w (LivPost w g m A (B + min n 60) R.size) := by
  have hgl := F.D.blk.lt
  have HI := Lib.hid (And.intro F (And.intro L (And.intro hT (And.intro hF (And.intro hB (And.intro hA hgl))))))
  clear F L hT hF hB hA hgl
  go_enter Try.func14, Try.ntmps14
  go_wp2_with (first
    | (with_reducible refine wpList_boxes (o := ⟨some 4, .box 30 (.tmp 1), _, _, _, _⟩) rfl 30 (.tmp 1) rfl _ rfl (rc R Bx bx) rfl ?_; intro w1 h4 m1 z1; replace z1 := Lib.hid z1)
    | (with_reducible refine wpList_allocs (o := ⟨some 7, .alloc 30, _, _, _, _⟩) rfl 30 rfl _ zero30 ?_; intro w2 h7 m2 z2; replace z2 := Lib.hid z2; replace h4 := h4.keep m2 (by simp)))
  refine (few_c W n cw _ hn hc).mono ?_
  rintro e w3 ⟨rfl, rfl⟩
  obtain ⟨g4, e4⟩ : ∃ b, b = w.heap.size := ⟨_, rfl⟩
  obtain ⟨g7, e7⟩ : ∃ b, b = w1.heap.size := ⟨_, rfl⟩
  have HG := Lib.hid (show w.heap.size ≤ g4 ∧ g4 < g7 ∧ w0.heap.size ≤ g4 by have := z1.out; have := z2.out; have := HI.out.1.mm.size; omega)
  rw [← e4] at h4
  rw [← e7] at h7
  rw [← e4, ← e7]
  clear e4 e7 z1 z2
  have mm : Mod [] w w3 := m1.then m2
  clear m1 m2
  obtain ⟨N, hN⟩ : ∃ N, N = min n 60 := ⟨_, rfl⟩
  have hNn : N ≤ n := by omega
  have hN60 : N ≤ 60 := by omega
  rw [← hN]
  have HN := Lib.hid (And.intro hN (And.intro hNn hN60))
  clear hN hNn hN60
  go_wp2_with fail
  go_loopw [0, 20] (fun dp i wi => ∃ (k g1 m1 : Nat) (A1 : Option Addr) (c1 : Nat) (S1 : St) (R1 : RSt) (B1 : Option Addr) (b1 : Nat), k ≤ N ∧ i = .int .i64 (k : Int) ∧ dp = .pointer (some ⟨g1, 0, none⟩) ∧ Far w0 wi g1 m1 A1 c1 S1 ∧ Went w wi g m A g1 m1 A1 ∧ Like S1 R1 ∧ Told wi R1 B1 b1 ∧ Fine R1 (B + k) ∧ Holds wi g4 30 (rc R1 B1 b1) ∧ Holds wi g7 30 r0 ∧ R1.size = R.size) (fun _ i _ => N - (intOf i).toNat)
  case atStart => exact ⟨0, g, m, A, c, S, R, Bx, bx, by omega, rfl, rfl, HI.out.1.keep mm, Went.pre mm Went.refl, HI.out.2.1, HI.out.2.2.1.keep mm (by simp), HI.out.2.2.2.1, h4, h7, rfl⟩
  case round =>
    clear h4 h7 mm
    obtain ⟨k, g1, m1, A1, c1, S1, R1, B1, b1, hk, rfl, rfl, F1, W1, L1, hT, hF1, h4, h7, hsz⟩ := hrel
    by_cases hkn : k < N
    · have hkZ : (k : Int) < (N : Int) := by omega
      obtain ⟨ga, oa, kd, a, K, ck, rfl, hca, hkind, w3', hks, hbs⟩ := HI.out.2.2.2.2.2.1 k (by have := HN.out.2.1; omega)
      have hk60 := HN.out.2.2
      have hB60 := HI.out.2.2.2.2.1
      have La := L1.act a
      have hsz2 := (act_size R1 a).trans hsz
      have hF2 := hF1.act a (by have := fits_i64 w3'; omega)
      obtain ⟨Bq, Eq, S2, eS, R2, eR, L2, hF2, hs2⟩ : ∃ Bq Eq S2, S1.act a = (Bq, Eq, S2) ∧ ∃ R2, R1.act a = (Bq, Eq, R2) ∧ Like S2 R2 ∧ Fine R2 (B + k + 1) ∧ R2.size = R.size := ⟨(S1.act a).1, (S1.act a).2.1, (S1.act a).2.2, rfl, (R1.act a).2.2, by rw [La.1, La.2.1], La.2.2, hF2, hsz2⟩
      have X := fun v (D : DAt v g1 m1 A1 c1 S1) (hm : Mod [] w0 v) => act_c S1 g1 m1 A1 c1 kd a K ck v D hkind w3' (hbs.keep hm (by simp)) hks (by have := L1.ops; have := hF1.ops; omega)
      have Y := fun v (h : Told v R1 B1 b1) (hm : Mod [] w0 v) => ought_c R1 B1 b1 kd a K ck v h (hF1.wk (by omega)) hkind (hbs.keep hm (by simp)) (by unfold maxLen; omega)
      have Z := fun (g2 m2 : Nat) (A2 : Option Addr) (c2 : Nat) (B2 : Option Addr) (b2 : Nat) v (D : DAt v g2 m2 A2 c2 S2) (h : Told v R2 B2 b2) => stands_c L2 g2 m2 A2 c2 B2 b2 v D h (hF2.wk (by omega))
      rw [eS] at X
      rw [eR] at Y
      have HL := Lib.hid (And.intro L2 (And.intro hF2 hs2))
      replace hca := hca.keep F1.mm (by simp)
      clear La eS eR L2 hF2 hsz hsz2 hs2 hkind w3' hks hbs L1 hF1 hk60 hB60
      go_wp2_with (first
        | (with_reducible refine wpList_loads (o := ⟨some 23, .load 49 (.tmp 22), _, _, _, _⟩) rfl 49 (.tmp 22) rfl ga (oa + k * 5) _ rfl hca _ Try.underlying49 rfl (by rw [dv_length]; exact size49) (.agg (dv kd a K ck).toArray) rfl ?_)
        | (with_reducible refine wpList_allocs (o := ⟨some 10, .alloc 49, _, _, _, _⟩) rfl 49 rfl _ zero49 ?_; intro wa hba ma za; replace za := Lib.hid za)
        | (with_reducible refine wpList_storesAll (o := ⟨none, .store 49 (.tmp 10) (.tmp 23), _, _, _, _⟩) rfl 49 (.tmp 10) (.tmp 23) rfl rfl wr.heap.size (dv kd a K ck) rfl (.agg (dv kd a K ck).toArray) rfl rfl 49 _ hba rfl (dv_one kd a K ck) (by rw [dv_length]; exact size49) ?_; intro wb h10 mb zb
           have mx : Mod [] wr wb := ma.trans mb (fun i hi h => by simp at h; omega)
           have o10 : g4 < wr.heap.size ∧ g7 < wr.heap.size ∧ w0.heap.size ≤ wr.heap.size ∧ w.heap.size ≤ wr.heap.size := ⟨h4.lt, h7.lt, F1.mm.size, W1.mod.size⟩
           replace F1 := F1.keep mx
           replace W1 := W1.then mx
           replace hT := hT.keep mx (by simp)
           replace h4 := h4.keep mx (by simp)
           replace h7 := h7.keep mx (by simp)
           obtain ⟨g10, e10⟩ : ∃ b, b = wr.heap.size := ⟨_, rfl⟩
           rw [← e10] at o10
           have H10 := Lib.hid o10
           rw [← e10] at h10
           rw [← e10]
           clear mx hba mb zb za ma hca e10 o10)
        | (with_reducible refine wpList_loads (o := ⟨some 26, .load 49 (.tmp 10), _, _, _, _⟩) rfl 49 (.tmp 10) rfl g10 0 _ rfl (Cells.of_holds h10) _ Try.underlying49 rfl (by rw [dv_length]; exact size49) (.agg (dv kd a K ck).toArray) rfl ?_))
      refine (X _ F1.D F1.mm).mono ?_
      clear X
      rintro e wf ⟨g2, m2, A2, c2, rfl, D2, V2⟩
      have kp := V2.keeps F1.D
      replace h4 := kp _ _ _ (by decide) (by decide) h4
      replace h7 := kp _ _ _ (by decide) (by decide) h7
      replace h10 := kp _ _ _ (by decide) (by decide) h10
      replace hT := Told.went hT F1.D V2
      have F2 := F1.went D2 V2
      have W2 := W1.trans V2
      clear kp F1 W1 V2 D2
      go_wp2_with (first
        | (with_reducible refine wpList_allocs (o := ⟨some 12, .alloc 39, _, _, _, _⟩) rfl 39 rfl _ zero39 ?_; intro wa hba ma za; replace za := Lib.hid za)
        | (with_reducible refine wpList_storesAll (o := ⟨none, .store 39 (.tmp 12) (.tmp 29), _, _, _, _⟩) rfl 39 (.tmp 12) (.tmp 29) rfl rfl wf.heap.size (bc Bq) rfl (bv Bq) rfl rfl 39 _ hba (by simp only [bc_length]) (bc_one _) (by rw [bc_length]; exact size39) ?_; intro wg h12 mb zb
           have mx : Mod [] wf wg := ma.trans mb (fun i hi h => by simp at h; omega)
           have o12 : g4 < wf.heap.size ∧ g10 < wf.heap.size := ⟨h4.lt, h10.lt⟩
           replace F2 := F2.keep mx
           replace W2 := W2.then mx
           replace hT := hT.keep mx (by simp)
           replace h4 := h4.keep mx (by simp)
           replace h7 := h7.keep mx (by simp)
           replace h10 := h10.keep mx (by simp)
           obtain ⟨g12, e12⟩ : ∃ b, b = wf.heap.size := ⟨_, rfl⟩
           rw [← e12] at o12
           have H12 := Lib.hid o12
           rw [← e12] at h12
           rw [← e12]
           clear mx hba mb zb za ma e12 o12)
        | (with_reducible refine wpList_loads (o := ⟨some 32, .load 30 (.tmp 4), _, _, _, _⟩) rfl 30 (.tmp 4) rfl g4 0 _ rfl (Cells.of_holds h4) _ Try.underlying30 rfl (size30_of _ _ _) (rv R1 B1 b1) rfl ?_)
        | (with_reducible refine wpList_loads (o := ⟨some 33, .load 49 (.tmp 10), _, _, _, _⟩) rfl 49 (.tmp 10) rfl g10 0 _ rfl (Cells.of_holds h10) _ Try.underlying49 rfl (by rw [dv_length]; exact size49) (.agg (dv kd a K ck).toArray) rfl ?_))
      refine (Y _ hT F2.mm).mono ?_
      clear Y
      rintro e wh ⟨B2, b2, rfl, hT2, mh⟩
      replace F2 := F2.keep mh
      replace W2 := W2.then mh
      replace h4 := h4.keep mh (by simp)
      replace h7 := h7.keep mh (by simp)
      replace h12 := h12.keep mh (by simp)
      clear mh h10 hT
      dsimp only at hT2 ⊢
      go_wp2_with (first
        | (with_reducible refine wpList_allocs (o := ⟨some 14, .alloc 30, _, _, _, _⟩) rfl 30 rfl _ zero30 ?_; intro wi h14 mi zi; replace zi := Lib.hid zi
           have o14 : g4 < wh.heap.size ∧ g7 < wh.heap.size ∧ g12 < wh.heap.size ∧ w0.heap.size ≤ wh.heap.size ∧ w.heap.size ≤ wh.heap.size := ⟨h4.lt, h7.lt, h12.lt, F2.mm.size, W2.mod.size⟩
           replace F2 := F2.keep mi
           replace W2 := W2.then mi
           replace hT2 := hT2.keep mi (by simp)
           replace h4 := h4.keep mi (by simp)
           replace h7 := h7.keep mi (by simp)
           replace h12 := h12.keep mi (by simp)
           obtain ⟨g14, e14⟩ : ∃ b, b = wh.heap.size := ⟨_, rfl⟩
           rw [← e14] at o14
           have H14 := Lib.hid o14
           rw [← e14] at h14
           rw [← e14]
           clear mi zi e14 o14)
        | (with_reducible refine wpList_allocs (o := ⟨some 15, .alloc 39, _, _, _, _⟩) rfl 39 rfl _ zero39 ?_; intro wj h15 mi zi; replace zi := Lib.hid zi
           have o15 := h14.lt
           replace F2 := F2.keep mi
           replace W2 := W2.then mi
           replace hT2 := hT2.keep mi (by simp)
           replace h4 := h4.keep mi (by simp)
           replace h7 := h7.keep mi (by simp)
           replace h12 := h12.keep mi (by simp)
           replace h14 := h14.keep mi (by simp)
           obtain ⟨g15, e15⟩ : ∃ b, b = wi.heap.size := ⟨_, rfl⟩
           rw [← e15] at o15
           have H15 := Lib.hid o15
           rw [← e15] at h15
           rw [← e15]
           clear mi zi e15 o15
           have hx14 := h14
           have hx15 := h15)
        | (with_reducible refine wpList_storesAll (o := ⟨none, .store 30 (.tmp 14) (.tmp 35), _, _, _, _⟩) rfl 30 (.tmp 14) (.tmp 35) rfl rfl g14 (rc R2 B2 b2) rfl (rv R2 B2 b2) rfl rfl 30 _ h14 rfl (rc_one _ _ _) (size30_of _ _ _) ?_
           clear h14
           intro wk h14 mi zi
           replace zi := Lib.hid zi
           have d2 := F2.mm.size
           replace W2 := W2.own mi (fun i hi => by have := H14.out; simp at hi; omega)
           have T2 := hT2.keep mi (fun a ha => by have := hT2.ne hx14 (by decide) a ha; simp; omega)
           replace hT2 := T2
           replace h4 := h4.keep mi (by have := H14.out; simp; omega)
           replace h7 := h7.keep mi (by have := H14.out; simp; omega)
           replace h12 := h12.keep mi (by have := H14.out; simp; omega)
           replace h15 := h15.keep mi (by have := H15.out; simp; omega)
           replace F2 := F2.own mi hx14 (by decide) (by decide) H14.out.2.2.2.1
           clear mi zi T2 d2 hx14
           replace hx15 := h15)
        | (with_reducible refine wpList_storesAll (o := ⟨none, .store 39 (.tmp 15) (.tmp 36), _, _, _, _⟩) rfl 39 (.tmp 15) (.tmp 36) rfl rfl g15 (bc Bq) rfl (bv Bq) rfl rfl 39 _ h15 (by simp only [bc_length]) (bc_one _) (by rw [bc_length]; exact size39) ?_
           clear h15
           intro wl h15 mi zi
           replace zi := Lib.hid zi
           replace W2 := W2.own mi (fun i hi => by have := H14.out; have := H15.out; simp at hi; omega)
           have T2 := hT2.keep mi (fun a ha => by have := hT2.ne hx15 (by decide) a ha; simp; omega)
           replace hT2 := T2
           replace h4 := h4.keep mi (by have := H14.out; have := H15.out; simp; omega)
           replace h7 := h7.keep mi (by have := H14.out; have := H15.out; simp; omega)
           replace h12 := h12.keep mi (by have := H14.out; have := H15.out; simp; omega)
           replace h14 := h14.keep mi (by have := H15.out; simp; omega)
           replace F2 := F2.own mi hx15 (by decide) (by decide) (by have := H14.out; have := H15.out; omega)
           clear mi zi T2 hx15))
      have hx4 := h4
      refine Rg.wp_region_lit1 [.pointer (some ⟨g2, 0, none⟩), rv R Bx bx, Value.slice (some { block := ga, off := oa }) n cw, undef, Value.pointer (some { block := g4, off := 0 }), undef, u6, Value.pointer (some { block := g7, off := 0 }), u8, undef, Value.pointer (some { block := g10, off := 0 }), Value.pointer (some { block := g2, off := 0 }), Value.pointer (some { block := g12, off := 0 }), Value.int IntKind.i64 Eq, Value.pointer (some { block := g14, off := 0 }), Value.pointer (some { block := g15, off := 0 }), Value.int IntKind.i64 Eq, Value.slice (some { block := ga, off := oa }) n cw, Value.slice (some { block := ga, off := oa }) N cw, Value.int IntKind.i64 ↑N, Value.int IntKind.i64 ↑k, Value.bool true, Value.pointer (some { block := ga, off := oa + k * 5 }), Value.agg (dv kd a K ck).toArray, Value.tuple #[Value.pointer (some { block := g2, off := 0 }), bv Bq, Value.int IntKind.i64 Eq], Value.pointer (some { block := g1, off := 0 }), Value.agg (dv kd a K ck).toArray, Value.tuple #[Value.pointer (some { block := g2, off := 0 }), bv Bq, Value.int IntKind.i64 Eq], Value.pointer (some { block := g2, off := 0 }), bv Bq, Value.int IntKind.i64 Eq, Value.tuple #[rv R2 B2 b2, bv Bq, Value.int IntKind.i64 Eq], rv R1 B1 b1, Value.agg (dv kd a K ck).toArray, Value.tuple #[rv R2 B2 b2, bv Bq, Value.int IntKind.i64 Eq], rv R2 B2 b2, bv Bq, Value.int IntKind.i64 Eq, .pointer (some ⟨g2, 0, none⟩), rv R2 B2 b2, u40, u41, u42, u43, u44, u45, u46, u47, u48, u49, u50, u51, u52, u53, u54, u55, u56, undef, undef] 59 [1, 2, 3, 4, 5, 6, 7, 8, 9, 10, 11, 12, 13, 14, 15, 16, 17, 18, 19, 20, 21, 22, 23, 24, 25, 26, 27, 28, 29, 30, 31, 32, 33, 34, 35, 36, 37, 40, 41, 42, 43, 44, 45, 46, 47, 48, 49, 50, 51, 52, 53, 54, 55, 56, 57, 58]
        (fun lz v => Mod [g4] wl.drew v ∧ (lz 3 = true → Holds v g4 30 (rc R2 B2 b2)) ∧ ∃ C0 : List Value, C0.length = 7 ∧ Holds v g4 30 C0) []
        (by kernel_rfl) rfl rfl rfl rfl (⟨Mod.refl _ _, (fun h => by cases h), _, rfl, h4⟩) (by kernel_rfl) (by kernel_rfl) ?step ?fin
      case step =>
        intro lz T v j o hj hlj hdep hst hpar hgot hcl Kq hK
        have hjn : j < 4 := (Array.getElem?_eq_some_iff.1 hj).1
        have h14d : Holds v g14 30 (rc R2 B2 b2) := (show Holds wl.drew g14 30 (rc R2 B2 b2) from h14).keep hst.1 (by have := H14.out; simp; omega)
        obtain ⟨_, _, C0, q2, q3⟩ := id hst
        obtain rfl | rfl | rfl | rfl : j = 0 ∨ j = 1 ∨ j = 2 ∨ j = 3 := by omega
        all_goals (have hj' := Option.some.inj (hj : some _ = some o); subst hj'; clear hj)
        · exact wp_ran rfl (exec_move rfl (eval_tmp (hpar 11 (by simp)))) (hK _ _ (fun s hs => by cases hs; rfl) hst)
        · exact wp_ran rfl (exec_load rfl (eval_tmp (hpar 14 (by simp))) (run_loads (Cells.of_holds h14d) Try.underlying30 rfl (size30_of _ _ _))) (hK _ _ (fun s hs => by cases hs; rfl) hst)
        · exact wp_ran rfl (exec_assign rfl (eval_tmp (hgot 0 _ 38 rfl (hdep ⟨0, .data⟩ (by simp) rfl) rfl))) (hK _ _ (fun s hs => by cases hs; rfl) hst)
        · exact wp_stored (ty := 30) (V := rv R2 B2 b2) (cs := rc R2 B2 b2) rfl rfl (eval_tmp (hpar 4 (by simp))) (eval_tmp (hgot 1 _ 39 rfl (hdep ⟨1, .data⟩ (by simp) rfl) rfl)) rfl q3 (by rw [q2]; rfl) (rc_one _ _ _) (size30_of _ _ _) (fun v' r1 r2 => hK _ _ (fun s hs => by cases hs) ⟨hst.1.trans r2 (fun _ _ h => h), fun _ => r1, _, rfl, r1⟩)
      case fin =>
        intro lz v hl hst
        have q1 := hst.1
        replace h4 := hst.2.1 (hl 3 (by decide))
        clear hst hl
        have T2 : Told v R2 B2 b2 := (hT2.keep (Mod.drew [] wl) (by simp)).keep q1 (fun a ha => by simpa using hT2.ne hx4 (by decide) a ha)
        replace hT2 := T2
        replace h12 : Holds v g12 39 (bc Bq) := (show Holds wl.drew g12 39 (bc Bq) from h12).keep q1 (by have := H12.out; simp; omega)
        replace h15 : Holds v g15 39 (bc Bq) := (show Holds wl.drew g15 39 (bc Bq) from h15).keep q1 (by have := H14.out; have := H15.out; simp; omega)
        replace h7 : Holds v g7 30 r0 := (show Holds wl.drew g7 30 r0 from h7).keep q1 (by have := HG.out; simp; omega)
        replace F2 : Far w0 v g2 m2 A2 c2 S2 := (F2.keep (Mod.drew [] wl)).own q1 (show Holds wl.drew g4 30 _ from hx4) (by decide) (by decide) HG.out.2.2
        replace W2 : Went w v g m A g2 m2 A2 := (W2.then (Mod.drew [] wl)).own q1 (fun i hi => by have := HG.out; simp at hi; omega)
        clear T2 h14 hx4 q1
        have hN60 : (N : Int) ≤ 60 := by have := HN.out.2.2; omega
        go_wp2_with (first
          | (with_reducible refine wpList_loads (o := ⟨some 40, .load 39 (.tmp 12), _, _, _, _⟩) rfl 39 (.tmp 12) rfl g12 0 _ rfl (Cells.of_holds h12) _ Try.underlying39 rfl (by rw [bc_length]; exact size39) (bv Bq) rfl ?_)
          | (with_reducible refine wpList_loads (o := ⟨some 41, .load 39 (.tmp 15), _, _, _, _⟩) rfl 39 (.tmp 15) rfl g15 0 _ rfl (Cells.of_holds h15) _ Try.underlying39 rfl (by rw [bc_length]; exact size39) (bv Bq) rfl ?_)
          | (with_reducible refine wpList_ranW (o := ⟨some 42, .binOp .neq 39 (.tmp 40) (.tmp 41) 39, _, _, _, _⟩) (by with_unfolding_all rfl) (.bool false) _ (exec_neq39 (b := Bq) rfl rfl rfl) ?_)
          | (with_reducible refine wpList_loadsW (o := ⟨some 50, .load 30 (.tmp 4), _, _, _, _⟩) (by with_unfolding_all rfl) 30 (.tmp 4) rfl g4 0 _ rfl (Cells.of_holds h4) _ Try.underlying30 rfl (size30_of _ _ _) (rv R2 B2 b2) rfl ?_))
        refine (Z g2 m2 A2 c2 B2 b2 v F2.D hT2).mono ?_
        clear Z
        rintro e wm ⟨rfl, mm⟩
        go_wp2_with fail
        exact ⟨⟨k + 1, g2, m2, A2, c2, S2, R2, B2, b2, hkn, by go_num, rfl, F2.keep mm, W2.then mm, HL.out.1, hT2.keep mm (by simp), HL.out.2.1, h4.keep mm (by simp), h7.keep mm (by simp), HL.out.2.2⟩, by simp [intOf]; omega⟩
    · obtain rfl : N = k := by omega
      have HSZ := Lib.hid hsz
      clear hkn hk hsz
      go_wp2_with fail
      refine Rg.wp_region_lit1 [Value.pointer (some { block := g1, off := 0 }), rv R Bx bx, Value.slice W n cw, undef, Value.pointer (some { block := g4, off := 0 }), undef, .pointer (some ⟨g1, 0, none⟩), Value.pointer (some { block := g7, off := 0 }), .bool true, undef, u10, u11, u12, u13, u14, u15, u16, Value.slice W n cw, Value.slice W N cw, Value.int IntKind.i64 ↑N, Value.int IntKind.i64 ↑N, Value.bool false, u22, u23, u24, u25, u26, u27, u28, u29, u30, u31, u32, u33, u34, u35, u36, u37, u38, u39, u40, u41, u42, u43, u44, u45, u46, u47, u48, u49, u50, u51, u52, u53, u54, u55, u56, .pointer (some ⟨g1, 0, none⟩), rv R1 B1 b1] 59 [0, 1, 2, 3, 4, 5, 7, 9, 10, 11, 12, 13, 14, 15, 16, 17, 18, 19, 20, 21, 22, 23, 24, 25, 26, 27, 28, 29, 30, 31, 32, 33, 34, 35, 36, 37, 38, 39, 40, 41, 42, 43, 44, 45, 46, 47, 48, 49, 50, 51, 52, 53, 54, 55, 56]
        (fun lz v => Mod [g7] wr.drew v ∧ (lz 3 = true → Holds v g7 30 (rc R1 B1 b1)) ∧ ∃ C0 : List Value, C0.length = 7 ∧ Holds v g7 30 C0) []
        (by kernel_rfl) rfl rfl rfl rfl (⟨Mod.refl _ _, (fun h => by cases h), _, rfl, h7⟩) (by kernel_rfl) (by kernel_rfl) ?step ?fin
      case step =>
        intro lz T v j o hj hlj hdep hst hpar hgot hcl Kq hK
        have hjn : j < 5 := (Array.getElem?_eq_some_iff.1 hj).1
        have h4d : Holds v g4 30 (rc R1 B1 b1) := (show Holds wr.drew g4 30 (rc R1 B1 b1) from h4).keep hst.1 (by have := HG.out; simp; omega)
        obtain ⟨_, _, C0, q2, q3⟩ := id hst
        obtain rfl | rfl | rfl | rfl | rfl : j = 0 ∨ j = 1 ∨ j = 2 ∨ j = 3 ∨ j = 4 := by omega
        all_goals (have hj' := Option.some.inj (hj : some _ = some o); subst hj'; clear hj)
        · exact wp_ran rfl (exec_move rfl (eval_tmp (hpar 0 (by simp)))) (hK _ _ (fun s hs => by cases hs; rfl) hst)
        · exact wp_ran rfl (exec_load rfl (eval_tmp (hpar 4 (by simp))) (run_loads (Cells.of_holds h4d) Try.underlying30 rfl (size30_of _ _ _))) (hK _ _ (fun s hs => by cases hs; rfl) hst)
        · exact wp_ran rfl (exec_assign rfl (eval_tmp (hgot 0 _ 57 rfl (hdep ⟨0, .data⟩ (by simp) rfl) rfl))) (hK _ _ (fun s hs => by cases hs; rfl) hst)
        · exact wp_stored (ty := 30) (V := rv R1 B1 b1) (cs := rc R1 B1 b1) rfl rfl (eval_tmp (hpar 7 (by simp))) (eval_tmp (hgot 1 _ 58 rfl (hdep ⟨1, .data⟩ (by simp) rfl) rfl)) rfl q3 (by rw [q2]; rfl) (rc_one _ _ _) (size30_of _ _ _) (fun v' r1 r2 => hK _ _ (fun s hs => by cases hs) ⟨hst.1.trans r2 (fun _ _ h => h), fun _ => r1, _, rfl, r1⟩)
        · exact wp_ran rfl (exec_assign rfl rfl) (hK _ _ (fun s hs => by cases hs; rfl) hst)
      case fin =>
        intro lz v hl hst
        have q1 := hst.1
        have h7n := hst.2.1 (hl 3 (by decide))
        have T2 : Told v R1 B1 b1 := (hT.keep (Mod.drew [] wr) (by simp)).keep q1 (fun a ha => by simpa using hT.ne h7 (by decide) a ha)
        have F2 : Far w0 v g1 m1 A1 c1 S1 := (F1.keep (Mod.drew [] wr)).own q1 (show Holds wr.drew g7 30 _ from h7) (by decide) (by decide) (by have := HG.out; omega)
        have W2 : Went w v g m A g1 m1 A1 := (W1.then (Mod.drew [] wr)).own q1 (fun i hi => by have := HG.out; simp at hi; omega)
        have HE := Lib.hid (And.intro T2 (And.intro F2 (And.intro W2 (And.intro L1 hF1))))
        clear T2 F2 W2 L1 hF1 hst hl q1 h4 h7 hT F1 W1
        go_wp2
        refine bodyPost_ret (results_tct rfl _ _ g7 (rc R1 B1 b1) _ _ _ rfl rfl rfl (Cells.of_holds h7n) Try.underlying30 rfl (size30_of _ _ _)) rfl ?_
        exact ⟨g1, m1, A1, c1, S1, R1, B1, b1, rfl, HE.out.2.1.D, HE.out.2.2.1, HE.out.1, HE.out.2.2.2.1, by rw [← HN.out.1]; exact HE.out.2.2.2.2, HSZ.out⟩
end
end Go.Proofs.Ytpdpahkhfilmpaa
