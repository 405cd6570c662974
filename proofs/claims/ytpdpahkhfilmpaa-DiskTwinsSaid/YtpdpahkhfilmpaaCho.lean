/-
  A crash is as if the writes that it takes had never been done: the walk. My own work.
-/
import Derived.Test.YtpdpahkhfilmpaaRowq
namespace Go.Proofs.Ytpdpahkhfilmpaa
open Go.RowKit
open Rg
/-- The row of the loose writes. -/
structure InRow (w v : World) (R : Option Addr) (cr : Nat) (L : List Q5) : Prop where
  own : OwnQ v R cr L
  new : ∀ a, R = some a → w.heap.size ≤ a.block
  ok : ∀ q ∈ L, Wr q.2.1 ∧ q.2.1.kind = ((IntKind.u64.wrap q.1) % 7).toNat
def acs (L : List Q5) : List Ac := L.map (·.2.1)
theorem acs_length (L : List Q5) : (acs L).length = L.length := by simp [acs]
theorem InRow.nil (w v : World) : InRow w v none 0 [] := ⟨OwnG.nil _ _ _ _, (fun a h => by cases h), (fun q h => by cases h)⟩
theorem InRow.keep {w v v' : World} {R : Option Addr} {cr : Nat} {L : List Q5} (h : InRow w v R cr L) (m : Mod [] v v') : InRow w v' R cr L := ⟨h.own.keep m (by simp), h.new, h.ok⟩
theorem InRow.did {w v v' : World} {R A A' : Option Addr} {cr g m c : Nat} {S : St} {L : List Q5} (h : InRow w v R cr L) (D : DAt v g m A c S) (k : Did v v' g m A A') : InRow w v' R cr L := ⟨h.own.did D k, h.new, h.ok⟩
theorem exec_lit22 {v : World} {o : Oper} {ρ : Operand → Value} {x : Operand} (kd : Int) (a : Ac) (K : Option Addr) (ck : Nat) (ho : o.op = .buildSlice 22 1 #[(0, x)]) (hx : ρ x = .agg (dv kd a K ck).toArray) : (execOp ρ o).run Try.prog v = .ok (.value (.slice (some ⟨v.heap.size, 0, none⟩) 1 1)) (v.alloc (.cells (dv kd a K ck).toArray 49)) :=
  exec_lit ho hx (run_lit22 (kd, a, K, ck) v)
theorem cells_one {w : World} {g : Nat} {kd : Int} {a : Ac} {K : Option Addr} {ck : Nat} (h : Holds w g 49 (dv kd a K ck)) : Cells w (some ⟨g, 0, none⟩) ([(kd, a, K, ck)].flatMap qv) := by
  have e : [(kd, a, K, ck)].flatMap qv = dv kd a K ck := by simp [qv]
  rw [e]; exact Cells.of_holds h
section
variable {P : Program} {v : World} {o : Oper} {ρ : Operand → Value} {x y : Operand}
theorem exec_sl {t e : TypeId} {g n c j : Nat} (hu : P.underlying t = some (.slice e)) (he : (P.info? e).map (·.size) = some 1) (hj : j < n) (ho : o.op = .indexAddr t x y) (hx : ρ x = .slice (some ⟨g, 0, none⟩) n c) (hy : ρ y = .int .i64 (j : Int)) :
    (execOp ρ o).run P v = .ok (.value (.pointer (some ⟨g, j, none⟩))) v := by
  unfold execOp
  cases hq : P.info? e with
  | none => rw [hq] at he; cases he
  | some it =>
    have hs : it.size = 1 := by rw [hq] at he; simpa using he
    simp [ho, hx, hy, Instr.indexAt, Sem.run_bind, run_underlying hu, go_sem, sizeOf, typeInfo, hq, hs, hj, add_plain]
theorem exec_nei {t t' : TypeId} {k : IntKind} {a : Int} (ho : o.op = .binOp .neq t x y t') (hx : ρ x = .int k a) (hy : ρ y = .int k a) : (execOp ρ o).run P v = .ok (.value (.bool false)) v := by
  unfold execOp
  simp [ho, hx, hy, go_sem]
end
theorem info4 : ∃ it, Try.prog.info? 4 = some it ∧ it.zero = some (.bool false) ∧ it.size = 1 ∧ it.bytes = 1 := by
  obtain ⟨it, hq⟩ := info_of 4 (by kernel_rfl)
  have h1 : (Try.prog.info? 4).bind (·.zero) = some (.bool false) := by kernel_rfl
  have h2 : (Try.prog.info? 4).map (·.size) = some 1 := by kernel_rfl
  have h3 : (Try.prog.info? 4).map (·.bytes) = some 1 := by kernel_rfl
  rw [hq] at h1 h2 h3
  exact ⟨it, hq, h1, by simpa using h2, by simpa using h3⟩
theorem bool_one : ∀ (x : Bool), ∀ v ∈ [Value.bool x], v.oneCell' = true := fun x v h => by simp at h; subst h; rfl
theorem flat_bool (l : List Bool) : l.flatMap (fun b => [Value.bool b]) = l.map Value.bool := by
  induction l with
  | nil => rfl
  | cons b l ih => simp [ih]
theorem flat_bools {w : World} {K : Option Addr} {l : List Bool} (h : Bools w K l) : Cells w K (l.flatMap (fun b => [Value.bool b])) := by rw [flat_bool]; exact h
theorem ownb0 (w : World) : OwnG (fun b : Bool => [Value.bool b]) 4 1 (w.alloc (.cells #[] 4)) (some ⟨w.heap.size, 0, none⟩) 0 [] := OwnG.of_holds (f := fun b : Bool => [Value.bool b]) (e := 4) (size := 1) (l := []) (Holds.made w 4 []) (fun _ => rfl) (by decide)
theorem size3 : (Try.prog.info? 3).map (·.size) = some 1 := by kernel_rfl
set_option maxRecDepth 1000000 in
set_option maxHeartbeats 2000000 in
theorem chooses_w (A : Option Addr) (n c : Nat) (K0 : Option Addr) (keep : List Bool) (c0 : Nat) (w : World) (hn : n ≤ c) (hc : c ≤ maxLen) (hA : Acts w A n) (hk : Bools w K0 keep) (hkl : keep.length ≤ 140737488355328) :
    Calls Try.prog 6 #[.slice A n c, .slice K0 keep.length c0] w fun e w' => e = .returned (.bool true) ∧ Mod [] w w' := by
  have HA := Lib.hid hA
  obtain ⟨nk, hnk⟩ : ∃ nk, nk = keep.length := ⟨_, rfl⟩
  have hnkZ : (nk : Int) ≤ 140737488355328 := by omega
  rw [← hnk]
  have HKe := Lib.hid (And.intro hk (And.intro hkl hnk))
  clear hA hk hkl hnk
  have hmaxx : maxLen ≤ 9223372036854775807 := by decide
  go_enter Try.func6, Try.ntmps6
  go_wp2_with fail
  refine (wakes_c _).mono ?_
  rintro e w1 ⟨rfl, m1⟩
  go_wp2_with fail
  refine (blank_c _).mono ?_
  rintro e w2 ⟨g, m, rfl, D1, m2, og, om⟩
  go_wp2_with fail
  refine (blank_c _).mono ?_
  rintro e w3 ⟨g', m', rfl, D2, m3, og', om'⟩
  have F1 : Far w w3 g m none 0 (St.new 5) := ⟨D1.keep m3 (by simp) (by simp) (by simp), (m1.then m2).then m3, Nat.le_trans m1.size og, Nat.le_trans m1.size om, fun a ha => by cases ha⟩
  have F2 : Far w w3 g' m' none 0 (St.new 5) := ⟨D2, (m1.then m2).then m3, Nat.le_trans (m1.then m2).size og', Nat.le_trans (m1.then m2).size om', fun a ha => by cases ha⟩
  have n1 : g ≠ g' := by have := D1.blk.lt; omega
  have n2 : m ≠ m' := by have := D1.firm.lt; omega
  have T0 : Two w w3 g m none 0 (St.new 5) g' m' none 0 (St.new 5) := ⟨F1, F2, n1, n2, fun a a' h _ => by cases h⟩
  clear D1 D2 F1 F2 og om og' om' m1 m2 m3
  go_wp2_with fail
  refine (few_c A n c _ hn hc).mono ?_
  rintro e w5 ⟨rfl, rfl⟩
  go_wp2_with fail
  obtain ⟨N, hN⟩ : ∃ N, N = min n 60 := ⟨_, rfl⟩
  have hNn : N ≤ n := by omega
  have hN60 : N ≤ 60 := by omega
  rw [← hN]
  clear hN hmaxx
  go_loopw [7, 36] (fun row i wi => ∃ k : Nat, k ≤ N ∧ i = .int .i64 (k : Int) ∧ ∃ L R cr A1 c1 S A2 c2 T, row = .slice R L.length cr ∧ InRow w wi R cr L ∧ Two w wi g m A1 c1 S g' m' A2 c2 T ∧ Chs S T (acs L) ∧ S.ops ≤ k ∧ T.ops + L.length ≤ k) (fun _ i _ => N - (intOf i).toNat)
  case atStart => exact ⟨0, by omega, rfl, [], none, 0, none, 0, _, none, 0, _, rfl, InRow.nil _ _, T0, chs_start, Nat.le_refl _, Nat.le_refl _⟩
  case round =>
    clear T0
    obtain ⟨k, hk, rfl, L, R, cr, A1, c1, S, A2, c2, T, rfl, IR, TW, CH, so, to⟩ := hrel
    by_cases hkn : k < N
    · have hkZ : (k : Int) < (N : Int) := by omega
      obtain ⟨ga, oa, kd, a, K, ck, rfl, hca, hkind, _, _, _, _, _⟩ := HA.out k (by omega)
      replace hca := hca.keep TW.L.mm (by simp)
      go_wp2_with (first
        | (with_reducible refine wpList_loads (o := ⟨some 39, .load 49 (.tmp 38), _, _, _, _⟩) rfl 49 (.tmp 38) rfl ga (oa + k * 5) _ rfl hca _ Try.underlying49 rfl (by rw [dv_length]; exact size49) (.agg (dv kd a K ck).toArray) rfl ?_)
        | (with_reducible refine wpList_allocs (o := ⟨some 9, .alloc 49, _, _, _, _⟩) rfl 49 rfl _ zero49 ?_; intro wa hba ma za; replace za := Lib.hid za)
        | (with_reducible refine wpList_storesAll (o := ⟨none, .store 49 (.tmp 9) (.tmp 39), _, _, _, _⟩) rfl 49 (.tmp 9) (.tmp 39) rfl rfl wr.heap.size (dv kd a K ck) rfl (.agg (dv kd a K ck).toArray) rfl rfl 49 _ hba rfl (dv_one kd a K ck) (by rw [dv_length]; exact size49) ?_; intro wb hbb mb zb; replace zb := Lib.hid zb
           have mx : Mod [] wr wb := ma.trans mb (fun i hi h => by simp at h; omega)
           replace TW := TW.keep mx
           replace IR := IR.keep mx
           clear mx hba mb zb za ma hca)
        | (with_reducible refine wpList_loads (o := ⟨some 40, .load 49 (.tmp 9), _, _, _, _⟩) rfl 49 (.tmp 9) rfl wr.heap.size 0 _ rfl (Cells.of_holds hbb) _ Try.underlying49 rfl (by rw [dv_length]; exact size49) (.agg (dv kd a K ck).toArray) rfl ?_))
      refine (asks_c kd a K ck _ hkind).mono ?_
      rintro e wc ⟨rfl, mc⟩
      replace TW := TW.keep mc
      replace IR := IR.keep mc
      replace hbb := hbb.keep mc (by simp)
      obtain ⟨b9, e9⟩ : ∃ b, b = wr.heap.size := ⟨_, rfl⟩
      rw [← e9] at hbb ⊢
      clear mc e9
      by_cases hk3 : a.kind < 3
      · have hd3 : decide (a.kind < 3) = true := decide_eq_true hk3
        rw [hd3]
        go_wp2_with (first
          | (with_reducible refine wpList_loadsW (o := ⟨some 44, .load 49 (.tmp 9), _, _, _, _⟩) (by with_unfolding_all rfl) 49 (.tmp 9) rfl b9 0 _ rfl (Cells.of_holds hbb) _ Try.underlying49 rfl (by rw [dv_length]; exact size49) (.agg (dv kd a K ck).toArray) rfl ?_))
        refine (there_c kd a K ck _ hkind).mono ?_
        rintro e wd ⟨rfl, md⟩
        replace TW := TW.keep md
        replace IR := IR.keep md
        replace hbb := hbb.keep md (by simp)
        clear md hd3
        by_cases hP : a.kind = 2 ∨ 0 ≤ a.at_ ∧ a.at_ < 5
        · have hdP : decide (a.kind = 2 ∨ 0 ≤ a.at_ ∧ a.at_ < 5) = true := decide_eq_true hP
          rw [hdP]
          clear hdP
          obtain hk0 | hk0 | hk0 : a.kind = 0 ∨ a.kind = 1 ∨ a.kind = 2 := by omega
          · skip
            have X := fun v (D : DAt v g m A1 c1 S) => act3_c S g m A1 c1 kd a K ck v D hkind hk3 (by omega)
            obtain ⟨B, d', q1, CH', so'⟩ := CH.read a hk0 (by omega)
            rw [q1] at X
            go_wp2_with (first
              | (with_reducible refine wpList_loads (o := ⟨some 50, .load 49 (.tmp 9), _, _, _, _⟩) rfl 49 (.tmp 9) rfl b9 0 _ rfl (Cells.of_holds hbb) _ Try.underlying49 rfl (by rw [dv_length]; exact size49) (.agg (dv kd a K ck).toArray) rfl ?_))
            refine (X _ TW.L.D).mono ?_
            clear X q1 CH
            rintro e wf ⟨rfl, A3, c3, Dd, did⟩
            replace IR := IR.did TW.L.D did
            obtain ⟨TW2, kp⟩ := TW.did Dd did
            replace hbb := kp _ _ _ (by decide) (by decide) hbb
            clear TW kp Dd did
            go_wp2_with (first
              | (with_reducible refine wpList_allocs (o := ⟨some 11, .alloc 39, _, _, _, _⟩) rfl 39 rfl _ zero39 ?_; intro wh hA11 mA11 zA11; replace zA11 := Lib.hid zA11)
              | (with_reducible refine wpList_storesAll (o := ⟨none, .store 39 (.tmp 11) (.tmp 53), _, _, _, _⟩) rfl 39 (.tmp 11) (.tmp 53) rfl rfl wf.heap.size (bc B) rfl (bv B) rfl rfl 39 _ hA11 (by simp only [bc_length]) (bc_one _) (by rw [bc_length]; exact size39) ?_; intro wj hB11 mB11 zB11; replace zB11 := Lib.hid zB11
                 have mx : Mod [] wf wj := mA11.trans mB11 (fun i hi h => by simp at h; omega)
                 replace TW2 := TW2.keep mx
                 replace IR := IR.keep mx
                 replace hbb := hbb.keep mx (by simp)
                 clear mx hA11 mB11 zB11 zA11 mA11 hB11)
              | (with_reducible refine wpList_loads (o := ⟨some 57, .load 49 (.tmp 9), _, _, _, _⟩) rfl 49 (.tmp 9) rfl b9 0 _ rfl (Cells.of_holds hbb) _ Try.underlying49 rfl (by rw [dv_length]; exact size49) (.agg (dv kd a K ck).toArray) rfl ?_))
            refine (kind_c kd a K ck _ hkind).mono ?_
            rintro e wl ⟨rfl, ml⟩
            replace TW2 := TW2.keep ml
            replace IR := IR.keep ml
            replace hbb := hbb.keep ml (by simp)
            clear ml
            rw [show ((a.kind : Nat) : Int) = 0 by omega]
            go_wp2_with fail
            exact ⟨⟨k + 1, by omega, by go_num, L, R, cr, A3, c3, d', A2, c2, T, rfl, IR, TW2, CH', by omega, by omega⟩, by simp [intOf]; omega⟩
          · skip
            have X := fun v (D : DAt v g m A1 c1 S) => act3_c S g m A1 c1 kd a K ck v D hkind hk3 (by omega)
            have hWr : Wr a := ⟨hk0, by omega⟩
            obtain ⟨d', q1, CH', so'⟩ := CH.write a hWr
            rw [q1] at X
            go_wp2_with (first
              | (with_reducible refine wpList_loads (o := ⟨some 50, .load 49 (.tmp 9), _, _, _, _⟩) rfl 49 (.tmp 9) rfl b9 0 _ rfl (Cells.of_holds hbb) _ Try.underlying49 rfl (by rw [dv_length]; exact size49) (.agg (dv kd a K ck).toArray) rfl ?_))
            refine (X _ TW.L.D).mono ?_
            clear X q1 CH
            rintro e wf ⟨rfl, A3, c3, Dd, did⟩
            replace IR := IR.did TW.L.D did
            obtain ⟨TW2, kp⟩ := TW.did Dd did
            replace hbb := kp _ _ _ (by decide) (by decide) hbb
            clear TW kp Dd did
            go_wp2_with (first
              | (with_reducible refine wpList_allocs (o := ⟨some 11, .alloc 39, _, _, _, _⟩) rfl 39 rfl _ zero39 ?_; intro wh hA11 mA11 zA11; replace zA11 := Lib.hid zA11)
              | (with_reducible refine wpList_storesAll (o := ⟨none, .store 39 (.tmp 11) (.tmp 53), _, _, _, _⟩) rfl 39 (.tmp 11) (.tmp 53) rfl rfl wf.heap.size (bc (fil 0)) rfl (bv (fil 0)) rfl rfl 39 _ hA11 (by simp only [bc_length]) (bc_one _) (by rw [bc_length]; exact size39) ?_; intro wj hB11 mB11 zB11; replace zB11 := Lib.hid zB11
                 have mx : Mod [] wf wj := mA11.trans mB11 (fun i hi h => by simp at h; omega)
                 replace TW2 := TW2.keep mx
                 replace IR := IR.keep mx
                 replace hbb := hbb.keep mx (by simp)
                 clear mx hA11 mB11 zB11 zA11 mA11 hB11)
              | (with_reducible refine wpList_loads (o := ⟨some 57, .load 49 (.tmp 9), _, _, _, _⟩) rfl 49 (.tmp 9) rfl b9 0 _ rfl (Cells.of_holds hbb) _ Try.underlying49 rfl (by rw [dv_length]; exact size49) (.agg (dv kd a K ck).toArray) rfl ?_))
            refine (kind_c kd a K ck _ hkind).mono ?_
            rintro e wl ⟨rfl, ml⟩
            replace TW2 := TW2.keep ml
            replace IR := IR.keep ml
            replace hbb := hbb.keep ml (by simp)
            clear ml
            rw [show ((a.kind : Nat) : Int) = 1 by omega]
            obtain ⟨i49, j1, j2, j3, j4⟩ := info49
            have hI := Lib.hid (And.intro j1 (And.intro j2 (And.intro j3 j4)))
            clear j1 j2 j3 j4
            have hL60 : L.length ≤ 60 := by omega
            go_wp2_with (first
              | (with_reducible refine wpList_loads (o := ⟨some 62, .load 49 (.tmp 9), _, _, _, _⟩) rfl 49 (.tmp 9) rfl b9 0 _ rfl (Cells.of_holds hbb) _ Try.underlying49 rfl (by rw [dv_length]; exact size49) (.agg (dv kd a K ck).toArray) rfl ?_)
              | (with_reducible refine wpList_ranW (o := ⟨some 63, .buildSlice 22 1 _, _, _, _, _⟩) (by with_unfolding_all rfl) (.slice (some ⟨wl.heap.size, 0, none⟩) 1 1) (wl.alloc (.cells (dv kd a K ck).toArray 49)) (exec_lit22 kd a K ck rfl rfl) ?_
                 have hN : Holds (wl.alloc (.cells (dv kd a K ck).toArray 49)) wl.heap.size 49 (dv kd a K ck) := Holds.made wl 49 _
                 have mN : Mod [] wl (wl.alloc (.cells (dv kd a K ck).toArray 49)) := Mod.alloc [] wl _
                 obtain ⟨wn, hwn⟩ : ∃ v, v = wl.alloc (.cells (dv kd a K ck).toArray 49) := ⟨_, rfl⟩
                 rw [← hwn] at hN mN ⊢
                 clear hwn
                 replace IR := IR.keep mN
                 replace TW2 := TW2.keep mN)
              | (with_reducible refine wpList_appendG (o := ⟨some 64, _, _, _, _, _⟩) _ rfl (.tmp 61) (.tmp 63) 22 rfl 49 i49 zq 56 Try.underlying22 hI.out.1 hI.out.2.1 hI.out.2.2.1 hI.out.2.2.2 rfl (by decide) qv_length qv_one R L.length cr L rfl rfl IR.own (some ⟨wl.heap.size, 0, none⟩) 1 1 [(kd, a, K, ck)] rfl rfl (cells_one hN) (by simp; omega) (by simp; omega) ?_; intro R' cr' wo hO mO hOb))
            have IR' : InRow w wo R' cr' (L ++ [(kd, a, K, ck)]) := ⟨hO, fun b hb => by
              rcases hOb b hb with h1 | h1
              · obtain ⟨b', hb', e'⟩ := mem_blk h1
                rw [← e']; exact IR.new b' hb'
              · have := TW2.L.mm.size; omega, fun q hq => by
              rcases List.mem_append.1 hq with h1 | h1
              · exact IR.ok q h1
              · obtain rfl : q = (kd, a, K, ck) := by simpa using h1
                exact ⟨hWr, hkind⟩⟩
            have TW3 := TW2.row IR.own mO IR.new
            have eac : acs (L ++ [(kd, a, K, ck)]) = acs L ++ [a] := by simp [acs]
            rw [← eac] at CH'
            exact ⟨⟨k + 1, by omega, by go_num, L ++ [(kd, a, K, ck)], R', cr', A3, c3, d', A2, c2, T, by simp, IR', TW3, CH', by omega, by simp; omega⟩, by simp [intOf]; omega⟩
          · skip
            have X := fun v (D : DAt v g m A1 c1 S) => act3_c S g m A1 c1 kd a K ck v D hkind hk3 (by omega)
            obtain ⟨d', q1, CH', so'⟩ := CH.sync a hk0
            have CT := CH.ct
            rw [q1] at X
            go_wp2_with (first
              | (with_reducible refine wpList_loads (o := ⟨some 50, .load 49 (.tmp 9), _, _, _, _⟩) rfl 49 (.tmp 9) rfl b9 0 _ rfl (Cells.of_holds hbb) _ Try.underlying49 rfl (by rw [dv_length]; exact size49) (.agg (dv kd a K ck).toArray) rfl ?_))
            refine (X _ TW.L.D).mono ?_
            clear X q1 CH
            rintro e wf ⟨rfl, A3, c3, Dd, did⟩
            replace IR := IR.did TW.L.D did
            obtain ⟨TW2, kp⟩ := TW.did Dd did
            replace hbb := kp _ _ _ (by decide) (by decide) hbb
            clear TW kp Dd did
            go_wp2_with (first
              | (with_reducible refine wpList_allocs (o := ⟨some 11, .alloc 39, _, _, _, _⟩) rfl 39 rfl _ zero39 ?_; intro wh hA11 mA11 zA11; replace zA11 := Lib.hid zA11)
              | (with_reducible refine wpList_storesAll (o := ⟨none, .store 39 (.tmp 11) (.tmp 53), _, _, _, _⟩) rfl 39 (.tmp 11) (.tmp 53) rfl rfl wf.heap.size (bc (fil 0)) rfl (bv (fil 0)) rfl rfl 39 _ hA11 (by simp only [bc_length]) (bc_one _) (by rw [bc_length]; exact size39) ?_; intro wj hB11 mB11 zB11; replace zB11 := Lib.hid zB11
                 have mx : Mod [] wf wj := mA11.trans mB11 (fun i hi h => by simp at h; omega)
                 replace TW2 := TW2.keep mx
                 replace IR := IR.keep mx
                 replace hbb := hbb.keep mx (by simp)
                 clear mx hA11 mB11 zB11 zA11 mA11 hB11)
              | (with_reducible refine wpList_loads (o := ⟨some 57, .load 49 (.tmp 9), _, _, _, _⟩) rfl 49 (.tmp 9) rfl b9 0 _ rfl (Cells.of_holds hbb) _ Try.underlying49 rfl (by rw [dv_length]; exact size49) (.agg (dv kd a K ck).toArray) rfl ?_))
            refine (kind_c kd a K ck _ hkind).mono ?_
            rintro e wl ⟨rfl, ml⟩
            replace TW2 := TW2.keep ml
            replace IR := IR.keep ml
            replace hbb := hbb.keep ml (by simp)
            clear ml
            rw [show ((a.kind : Nat) : Int) = 2 by omega]
            have hL60 : L.length ≤ 60 := by omega
            go_wp2_with fail
            go_loopw [69] (fun i wi => ∃ j : Nat, j ≤ L.length ∧ i = .int .i64 (j : Int) ∧ ∃ A4 c4, InRow w wi R cr L ∧ Two w wi g m A3 c3 d' g' m' A4 c4 (plus T (acs (L.take j)))) (fun i _ => L.length - (intOf i).toNat)
            case atStart => exact ⟨0, by omega, rfl, A2, c2, IR, by rw [List.take_zero]; show Two w wl g m A3 c3 d' g' m' A2 c2 (plus T []); rw [plus_nil]; exact TW2⟩
            case round =>
              clear IR TW2
              obtain ⟨j, hj, rfl, A4, c4, IR, TW2⟩ := hrel
              by_cases hjl : j < L.length
              · have hjZ : (j : Int) < (L.length : Int) := by omega
                obtain ⟨gr, orr, rfl, hcq⟩ := Cells.elem' qv 5 (by decide) qv_length IR.own.cells j hjl
                have hok := IR.ok L[j] (List.getElem_mem hjl)
                have htk : acs (L.take (j + 1)) = acs (L.take j) ++ [L[j].2.1] := by unfold acs; rw [List.take_succ_eq_append_getElem hjl, List.map_append]; rfl
                obtain ⟨⟨kd2, a2, K2, ck2⟩, hq⟩ : ∃ q, q = L[j] := ⟨_, rfl⟩
                rw [← hq] at hcq hok htk
                replace hcq : Cells wr (some ⟨gr, orr + j * 5, none⟩) (dv kd2 a2 K2 ck2) := hcq
                have hP := plus_act CT (acs (L.take j)) a2 hok.1
                rw [← htk] at hP
                have hlj : (acs (L.take j)).length = j := by rw [acs_length, List.length_take]; omega
                have hop : (plus T (acs (L.take j))).ops ≤ 60 := by show T.ops + (acs (L.take j)).length ≤ 60; rw [hlj]; omega
                have Y := fun v (D : DAt v g' m' A4 c4 (plus T (acs (L.take j)))) => act3_c (plus T (acs (L.take j))) g' m' A4 c4 kd2 a2 K2 ck2 v D hok.2 (by rw [hok.1.1]; decide) (by omega)
                rw [hP] at Y
                clear hP hok htk hq hlj hop
                go_wp2_with (first
                  | (with_reducible refine wpList_loads (o := ⟨some 72, .load 49 (.tmp 71), _, _, _, _⟩) rfl 49 (.tmp 71) rfl gr (orr + j * 5) _ rfl hcq _ Try.underlying49 rfl (by rw [dv_length]; exact size49) (.agg (dv kd2 a2 K2 ck2).toArray) rfl ?_)
                  | (with_reducible refine wpList_allocs (o := ⟨some 14, .alloc 49, _, _, _, _⟩) rfl 49 rfl _ zero49 ?_; intro wp hp14 mp zp; replace zp := Lib.hid zp)
                  | (with_reducible refine wpList_storesAll (o := ⟨none, .store 49 (.tmp 14) (.tmp 72), _, _, _, _⟩) rfl 49 (.tmp 14) (.tmp 72) rfl rfl wr.heap.size (dv kd2 a2 K2 ck2) rfl (.agg (dv kd2 a2 K2 ck2).toArray) rfl rfl 49 _ hp14 rfl (dv_one kd2 a2 K2 ck2) (by rw [dv_length]; exact size49) ?_; intro wq hq14 mq zq'; replace zq' := Lib.hid zq'
                     have mx : Mod [] wr wq := mp.trans mq (fun i hi h => by simp at h; omega)
                     replace TW2 := TW2.keep mx
                     replace IR := IR.keep mx
                     clear mx hp14 mq zq' zp mp hcq)
                  | (with_reducible refine wpList_loads (o := ⟨some 75, .load 49 (.tmp 14), _, _, _, _⟩) rfl 49 (.tmp 14) rfl wr.heap.size 0 _ rfl (Cells.of_holds hq14) _ Try.underlying49 rfl (by rw [dv_length]; exact size49) (.agg (dv kd2 a2 K2 ck2).toArray) rfl ?_))
                refine (Y _ TW2.R.D).mono ?_
                clear Y hq14
                rintro e wt ⟨rfl, A5, c5, De, dif⟩
                replace IR := IR.did TW2.R.D dif
                obtain ⟨TW4, _⟩ := TW2.swap.did De dif
                replace TW4 := TW4.swap
                clear TW2 De dif
                go_wp2_with (first
                  | (with_reducible refine wpList_allocs (o := ⟨some 16, .alloc 39, _, _, _, _⟩) rfl 39 rfl _ zero39 ?_; intro wu hA16 mA16 zA16; replace zA16 := Lib.hid zA16)
                  | (with_reducible refine wpList_storesAll (o := ⟨none, .store 39 (.tmp 16) (.tmp 78), _, _, _, _⟩) rfl 39 (.tmp 16) (.tmp 78) rfl rfl wt.heap.size (bc (fil 0)) rfl (bv (fil 0)) rfl rfl 39 _ hA16 (by simp only [bc_length]) (bc_one _) (by rw [bc_length]; exact size39) ?_; intro wv' hB16 mB16 zB16; replace zB16 := Lib.hid zB16
                     have mx : Mod [] wt wv' := mA16.trans mB16 (fun i hi h => by simp at h; omega)
                     replace TW4 := TW4.keep mx
                     replace IR := IR.keep mx
                     clear mx hA16 mB16 zB16 zA16 mA16 hB16))
                exact ⟨⟨j + 1, by omega, by go_num, A5, c5, IR, TW4⟩, by simp [intOf]; omega⟩
              · obtain rfl : j = L.length := by omega
                rw [List.take_of_length_le (Nat.le_refl _)] at TW2
                have hop : (plus T (acs L)).ops = T.ops + L.length := by show T.ops + (acs L).length = _; rw [acs_length]
                go_wp2_with fail
                exact ⟨⟨k + 1, by omega, by go_num, [], none, 0, A3, c3, d', A4, c4, plus T (acs L), rfl, InRow.nil _ _, TW2, CH', by omega, by rw [hop]; simp; omega⟩, by simp [intOf]; omega⟩
        · have hdP : decide (a.kind = 2 ∨ 0 ≤ a.at_ ∧ a.at_ < 5) = false := decide_eq_false hP
          rw [hdP]
          go_wp2_with fail
          exact ⟨⟨k + 1, by omega, by go_num, L, R, cr, A1, c1, S, A2, c2, T, rfl, IR, TW, CH, by omega, by omega⟩, by simp [intOf]; omega⟩
      · have hd3 : decide (a.kind < 3) = false := decide_eq_false hk3
        rw [hd3]
        go_wp2_with fail
        exact ⟨⟨k + 1, by omega, by go_num, L, R, cr, A1, c1, S, A2, c2, T, rfl, IR, TW, CH, by omega, by omega⟩, by simp [intOf]; omega⟩
    · obtain rfl : N = k := by omega
      have hL60 : L.length ≤ 60 := by omega
      have hlen : L.length = S.loose.length := by rw [CH.loose, List.length_map, acs_length]
      have CT := CH.ct
      have CR := CH.crash keep
      have P1 := fun v (D : DAt v g m A1 c1 S) => pending_c S g m A1 c1 L.length v D hlen
      go_wp2_with fail
      refine (P1 _ TW.L.D).mono ?_
      rintro e wa ⟨gp, rfl, _, ma, _⟩
      replace TW := TW.keep ma
      replace IR := IR.keep ma
      clear ma
      have HC := Lib.hid (And.intro CT (And.intro CR (And.intro P1 CH)))
      clear CT CR P1 CH hkn hk hlen
      go_wp2_with fail
      go_loopw [92] (fun i wi => ∃ j : Nat, j ≤ L.length ∧ i = .int .i64 (j : Int) ∧ ∃ A4 c4, InRow w wi R cr L ∧ Two w wi g m A1 c1 S g' m' A4 c4 (plus T (kept (acs (L.take j)) keep))) (fun i _ => L.length - (intOf i).toNat)
      case atStart => exact ⟨0, by omega, rfl, A2, c2, IR, by rw [List.take_zero]; show Two w wa g m A1 c1 S g' m' A2 c2 (plus T []); rw [plus_nil]; exact TW⟩
      case round =>
        clear IR TW
        obtain ⟨j, hj, rfl, A4, c4, IR, TW⟩ := hrel
        by_cases hjl : j < L.length
        · have hjZ : (j : Int) < (L.length : Int) := by omega
          obtain ⟨gr, orr, rfl, hcq⟩ := Cells.elem' qv 5 (by decide) qv_length IR.own.cells j hjl
          have hok := IR.ok L[j] (List.getElem_mem hjl)
          have htk : kept (acs (L.take (j + 1))) keep = kept (acs (L.take j)) keep ++ (if keep[j]?.getD false then [L[j].2.1] else []) := by
            have := kept_take (acs L) j keep (by rw [acs_length]; exact hjl)
            unfold acs at this ⊢
            rw [← List.map_take, ← List.map_take] at this
            rw [this, List.getElem_map]
          obtain ⟨⟨kd2, a2, K2, ck2⟩, hq⟩ : ∃ q, q = L[j] := ⟨_, rfl⟩
          have hat : S.loose[j]? = some (lay a2) := by
            rw [HC.out.2.2.2.loose]; unfold acs; rw [List.getElem?_map, List.getElem?_map, List.getElem?_eq_getElem hjl, ← hq]; rfl
          rw [← hq] at hcq hok htk
          replace hcq : Cells wr (some ⟨gr, orr + j * 5, none⟩) (dv kd2 a2 K2 ck2) := hcq
          clear hq
          go_wp2_with (first
            | (with_reducible refine wpList_loads (o := ⟨some 96, .load 49 (.tmp 95), _, _, _, _⟩) rfl 49 (.tmp 95) rfl gr (orr + j * 5) _ rfl hcq _ Try.underlying49 rfl (by rw [dv_length]; exact size49) (.agg (dv kd2 a2 K2 ck2).toArray) rfl ?_)
            | (with_reducible refine wpList_allocs (o := ⟨some 19, .alloc 49, _, _, _, _⟩) rfl 49 rfl _ zero49 ?_; intro wp hp14 mp zp; replace zp := Lib.hid zp)
            | (with_reducible refine wpList_storesAll (o := ⟨none, .store 49 (.tmp 19) (.tmp 96), _, _, _, _⟩) rfl 49 (.tmp 19) (.tmp 96) rfl rfl wr.heap.size (dv kd2 a2 K2 ck2) rfl (.agg (dv kd2 a2 K2 ck2).toArray) rfl rfl 49 _ hp14 rfl (dv_one kd2 a2 K2 ck2) (by rw [dv_length]; exact size49) ?_; intro wq hq14 mq zq'; replace zq' := Lib.hid zq'
               have mx : Mod [] wr wq := mp.trans mq (fun i hi h => by simp at h; omega)
               replace TW := TW.keep mx
               replace IR := IR.keep mx
               clear mx hp14 mq zq' zp mp hcq))
          obtain ⟨g19, e19⟩ : ∃ b, b = wr.heap.size := ⟨_, rfl⟩
          rw [← e19] at hq14 ⊢
          clear e19
          have c1 : wq.cell? ⟨g19, 1, none⟩ = some (.int .i64 a2.at_) := hq14.cell 1
          have hPn := HC.out.2.2.1
          have DD := TW.L.D
          have hsec : ∀ v gp, Holds v gp 3 (sects S.loose) → v.cell? ⟨gp, j, none⟩ = some (.int .i64 a2.at_) := fun v gp h => by
            rw [h.cell j]; unfold sects; rw [List.getElem?_map, hat]; rfl
          have HZ := Lib.hid (And.intro hPn (And.intro DD hsec))
          have HJL := Lib.hid hjl
          clear hPn DD hsec
          refine Rg.wp_region_lit (X := Nat) 0 (fun x => [Value.slice A n c, Value.slice K0 nk c0, undef, undef, u4, Value.pointer (some { block := g, off := 0 }), Value.pointer (some { block := g', off := 0 }), Value.slice (some { block := gr, off := orr }) L.length cr, undef, u9, u10, u11, u12, undef, u14, u15, u16, u17, Value.int IntKind.i64 ↑j, Value.pointer (some { block := g19, off := 0 }), u20, u21, u22, Value.bool true, Value.bool false, Value.pointer (some { block := g, off := 0 }), Value.pointer (some { block := g', off := 0 }), Value.pointer (some { block := g, off := 0 }), Value.bool false, Value.bool false, Value.pointer (some { block := g', off := 0 }), Value.bool false, Value.bool false, Value.slice A n c, Value.slice A N c, Value.int IntKind.i64 ↑N, Value.int IntKind.i64 ↑N, Value.bool false, u38, u39, u40, u41, u42, u43, u44, u45, u46, u47, u48, u49, u50, u51, u52, u53, u54, u55, u56, u57, u58, u59, u60, u61, u62, u63, u64, u65, u66, u67, u68, u69, u70, u71, u72, u73, u74, u75, u76, u77, u78, u79, u80, u81, u82, u83, Value.pointer (some { block := g, off := 0 }), Value.slice (some { block := gp, off := 0 }) L.length L.length, Value.int IntKind.i64 ↑L.length, Value.slice (some { block := gr, off := orr }) L.length cr, Value.int IntKind.i64 ↑L.length, Value.bool false, Value.slice (some { block := gr, off := orr }) L.length cr, Value.int IntKind.i64 ↑L.length, Value.int IntKind.i64 ↑j, Value.bool true, Value.int IntKind.i64 ↑j, Value.pointer (some { block := gr, off := orr + j * 5 }), Value.agg (dv kd2 a2 K2 ck2).toArray, .pointer (some ⟨g, 0, none⟩), .slice (some ⟨x, 0, none⟩) L.length L.length, .int .i64 (j : Int), .pointer (some ⟨x, j, none⟩), .int .i64 a2.at_, .pointer (some ⟨g19, 1, none⟩), .int .i64 a2.at_, .bool false, u105, u106, u107, u108, u109, u110, u111, u112, u113, u114, u115, u116, u117, u118, u119, u120, u121, u122, u123, u124, undef, undef, undef, undef, undef, undef, undef, undef, undef, undef, undef, undef, undef, undef, undef, undef, undef, undef, undef]) 144 [0, 1, 2, 3, 4, 5, 6, 7, 8, 9, 10, 11, 12, 13, 14, 15, 16, 17, 18, 19, 20, 21, 22, 23, 24, 25, 26, 27, 28, 29, 30, 31, 32, 33, 34, 35, 36, 37, 38, 39, 40, 41, 42, 43, 44, 45, 46, 47, 48, 49, 50, 51, 52, 53, 54, 55, 56, 57, 58, 59, 60, 61, 62, 63, 64, 65, 66, 67, 68, 69, 70, 71, 72, 73, 74, 75, 76, 77, 78, 79, 80, 81, 82, 83, 84, 85, 86, 87, 88, 89, 90, 91, 92, 93, 94, 95, 96, 105, 106, 107, 108, 109, 110, 111, 112, 113, 114, 115, 116, 117, 118, 119, 120, 121, 122, 123, 124, 125, 126, 127, 128, 129, 130, 131, 132, 133, 134, 135, 136, 137, 138, 139, 140, 141, 142, 143]
            (fun x lz v => Mod [] wq.drew v ∧ (lz 1 = true → Holds v x 3 (sects S.loose))) []
            (by kernel_rfl) (fun _ => rfl) rfl rfl rfl (fun _ => by simp only [List.map_cons, List.map_nil, List.getD_cons_zero, List.getD_cons_succ]) (⟨Mod.refl _ _, (fun h => by cases h)⟩) (by kernel_rfl) (by kernel_rfl) ?step ?fin
          case step =>
            intro x lz T v j o hj hlj hdep hst hpar hgot hcl K hK
            have hjn : j < 8 := (Array.getElem?_eq_some_iff.1 hj).1
            obtain rfl | rfl | rfl | rfl | rfl | rfl | rfl | rfl : j = 0 ∨ j = 1 ∨ j = 2 ∨ j = 3 ∨ j = 4 ∨ j = 5 ∨ j = 6 ∨ j = 7 := by omega
            all_goals (have hj' := Option.some.inj (hj : some _ = some o); subst hj'; clear hj)
            · exact wp_ran rfl (exec_move rfl (eval_tmp (hpar 5 (by simp)))) (hK x _ _ (fun _ _ _ _ _ _ => rfl) (fun s hs => by cases hs; rfl) ⟨hst.1, hst.2⟩)
            · refine wp_called rfl (exec_call1 rfl rfl (eval_tmp (hgot 0 _ 97 rfl (hdep ⟨0, .data⟩ (by simp) rfl) rfl)) (enters_of Try.func29 (by kernel_rfl) rfl)) ((HZ.out.1 v (HZ.out.2.1.keep (ms := []) (Mod.drewed hst.1) (by simp) (by simp) (by simp))).mono (fun e v' hh => ?_))
              obtain ⟨gp2, he, hG, hm, _⟩ := hh
              exact ⟨_, he, hK gp2 _ _ (fun j' o' s' h1 h2 h3 => by
                clear hst hpar hgot hdep hK
                have h4 : j' < 8 := (Array.getElem?_eq_some_iff.1 h1).1
                obtain rfl | rfl | rfl | rfl | rfl | rfl | rfl | rfl : j' = 0 ∨ j' = 1 ∨ j' = 2 ∨ j' = 3 ∨ j' = 4 ∨ j' = 5 ∨ j' = 6 ∨ j' = 7 := by omega
                all_goals (cases h1; cases h3 <;> first | rfl | (rw [hlj] at h2; cases h2) | exact absurd (hcl 3 _ rfl h2 ⟨1, .data⟩ (by simp) rfl) (by rw [hlj]; simp))) (fun s hs => by cases hs; rfl) ⟨hst.1.then hm, fun _ => hG⟩⟩
            · exact wp_ran rfl (exec_move rfl (eval_tmp (hpar 18 (by simp)))) (hK x _ _ (fun _ _ _ _ _ _ => rfl) (fun s hs => by cases hs; rfl) ⟨hst.1, hst.2⟩)
            · exact wp_ran rfl (exec_sl Try.underlying56 size3 HJL.out rfl (eval_tmp (hgot 1 _ 98 rfl (hdep ⟨1, .data⟩ (by simp) rfl) rfl)) (eval_tmp (hgot 2 _ 99 rfl (hdep ⟨2, .data⟩ (by simp) rfl) rfl))) (hK x _ _ (fun _ _ _ _ _ _ => rfl) (fun s hs => by cases hs; rfl) ⟨hst.1, hst.2⟩)
            · exact wp_ran rfl (exec_load rfl (eval_tmp (hgot 3 _ 100 rfl (hdep ⟨3, .data⟩ (by simp) rfl) rfl)) (run_load1 Try.underlying3 rfl (HZ.out.2.2 v x (hst.2 (by have a3 := hdep ⟨3, .data⟩ (by simp) rfl; exact hcl 3 _ rfl a3 ⟨1, .data⟩ (by simp) rfl))))) (hK x _ _ (fun _ _ _ _ _ _ => rfl) (fun s hs => by cases hs; rfl) ⟨hst.1, hst.2⟩)
            · exact wp_ran rfl (exec_field49 (k := 1) (by decide) rfl (eval_tmp (hpar 19 (by simp)))) (hK x _ _ (fun _ _ _ _ _ _ => rfl) (fun s hs => by cases hs; rfl) ⟨hst.1, hst.2⟩)
            · exact wp_ran rfl (exec_load rfl (eval_tmp (hgot 5 _ 102 rfl (hdep ⟨5, .data⟩ (by simp) rfl) rfl)) (run_load1 Try.underlying3 rfl (Mod.cell (w := wq) (Mod.drewed hst.1) (by simp) c1))) (hK x _ _ (fun _ _ _ _ _ _ => rfl) (fun s hs => by cases hs; rfl) ⟨hst.1, hst.2⟩)
            · exact wp_ran rfl (exec_nei rfl (eval_tmp (hgot 4 _ 101 rfl (hdep ⟨4, .data⟩ (by simp) rfl) rfl)) (eval_tmp (hgot 6 _ 103 rfl (hdep ⟨6, .data⟩ (by simp) rfl) rfl))) (hK x _ _ (fun _ _ _ _ _ _ => rfl) (fun s hs => by cases hs; rfl) ⟨hst.1, hst.2⟩)
          case fin =>
            intro x lz v hl hst
            have mn := Mod.drewed hst.1
            replace TW := TW.keep mn
            replace IR := IR.keep mn
            replace hq14 := hq14.keep mn (by simp)
            clear hst hl mn c1 HZ
            dsimp only
            have hjl' := HJL.out
            by_cases hjn : j < nk
            · have hjnZ : (j : Int) < (nk : Int) := by omega
              have hkj : j < keep.length := by rw [← HKe.out.2.2]; exact hjn
              obtain ⟨gk, ok, rfl, ck0⟩ := HKe.out.1 j (by rw [List.length_map]; exact hkj)
              have cK := TW.L.mm.cell (p := ⟨gk, ok + j, none⟩) (by simp) ck0
              rw [List.getElem_map] at cK
              obtain ⟨b, hb⟩ : ∃ b, b = keep[j] := ⟨_, rfl⟩
              rw [← hb] at cK
              have hkb : keep[j]?.getD false = b := by rw [List.getElem?_eq_getElem hkj, hb]; rfl
              rw [hkb] at htk
              clear hkb hb ck0 hat
              cases b with
              | false =>
                have htk' : kept (acs (L.take (j + 1))) keep = kept (acs (L.take j)) keep := by rw [htk]; simp
                have HT := Lib.hid htk'
                clear htk htk' hok hjl
                go_wp2_with fail
                exact ⟨⟨j + 1, by omega, by go_num, A4, c4, IR, by rw [HT.out]; exact TW⟩, by simp [intOf]; omega⟩
              | true =>
                have htk' : kept (acs (L.take (j + 1))) keep = kept (acs (L.take j)) keep ++ [a2] := by rw [htk]; rfl
                have hP := plus_act HC.out.1 (kept (acs (L.take j)) keep) a2 hok.1
                rw [← htk'] at hP
                have hlj := kept_length (acs (L.take j)) keep
                rw [acs_length, List.length_take] at hlj
                have hop : (plus T (kept (acs (L.take j)) keep)).ops ≤ 60 := by show T.ops + (kept (acs (L.take j)) keep).length ≤ 60; omega
                have Y := fun v (D : DAt v g' m' A4 c4 (plus T (kept (acs (L.take j)) keep))) => act3_c (plus T (kept (acs (L.take j)) keep)) g' m' A4 c4 kd2 a2 K2 ck2 v D hok.2 (by rw [hok.1.1]; decide) (by omega)
                rw [hP] at Y
                clear hP hok htk htk' hlj hop hjl
                go_wp2_with (with_reducible refine wpList_loads (o := ⟨some 117, .load 49 (.tmp 19), _, _, _, _⟩) rfl 49 (.tmp 19) rfl g19 0 _ rfl (Cells.of_holds hq14) _ Try.underlying49 rfl (by rw [dv_length]; exact size49) (.agg (dv kd2 a2 K2 ck2).toArray) rfl ?_)
                refine (Y _ TW.R.D).mono ?_
                clear Y hq14 cK
                rintro e wt ⟨rfl, A5, c5, De, dif⟩
                replace IR := IR.did TW.R.D dif
                obtain ⟨TW4, _⟩ := TW.swap.did De dif
                replace TW4 := TW4.swap
                clear TW De dif
                go_wp2_with (first
                  | (with_reducible refine wpList_allocs (o := ⟨some 21, .alloc 39, _, _, _, _⟩) rfl 39 rfl _ zero39 ?_; intro wu hA16 mA16 zA16; replace zA16 := Lib.hid zA16)
                  | (with_reducible refine wpList_storesAll (o := ⟨none, .store 39 (.tmp 21) (.tmp 120), _, _, _, _⟩) rfl 39 (.tmp 21) (.tmp 120) rfl rfl wt.heap.size (bc (fil 0)) rfl (bv (fil 0)) rfl rfl 39 _ hA16 (by simp only [bc_length]) (bc_one _) (by rw [bc_length]; exact size39) ?_; intro wv' hB16 mB16 zB16; replace zB16 := Lib.hid zB16
                     have mx : Mod [] wt wv' := mA16.trans mB16 (fun i hi h => by simp at h; omega)
                     replace TW4 := TW4.keep mx
                     replace IR := IR.keep mx
                     clear mx hA16 mB16 zB16 zA16 mA16 hB16))
                exact ⟨⟨j + 1, by omega, by go_num, A5, c5, IR, TW4⟩, by simp [intOf]; omega⟩
            · have hjnZ : ¬ (j : Int) < (nk : Int) := by omega
              have hkb : keep[j]? = none := List.getElem?_eq_none (by rw [← HKe.out.2.2]; omega)
              have htk' : kept (acs (L.take (j + 1))) keep = kept (acs (L.take j)) keep := by rw [htk, hkb]; simp
              have HT := Lib.hid htk'
              clear htk htk' hok hjl hkb hat
              go_wp2_with fail
              exact ⟨⟨j + 1, by omega, by go_num, A4, c4, IR, by rw [HT.out]; exact TW⟩, by simp [intOf]; omega⟩

        · obtain rfl : j = L.length := by omega
          rw [List.take_of_length_le (Nat.le_refl _)] at TW
          obtain ⟨CRl, CRf, CRc⟩ := HC.out.2.1
          have CT2 := HC.out.1.plus (kept (acs L) keep)
          obtain ⟨T2, hT2⟩ : ∃ T2, T2 = plus T (kept (acs L) keep) := ⟨_, rfl⟩
          obtain ⟨S2, hS2⟩ : ∃ S2, S2 = S.crash keep := ⟨_, rfl⟩
          have hkl := kept_length (acs L) keep
          rw [acs_length] at hkl
          have hTo : T2.ops ≤ 60 := by rw [hT2]; show T.ops + (kept (acs L) keep).length ≤ 60; omega
          have hSo : S2.ops ≤ 60 := by rw [hS2]; show S.ops ≤ 60; omega
          rw [← hS2] at CRl CRf CRc
          rw [← hT2] at TW CT2
          have eT : told T2 5 = told S2 5 := by
            unfold told St.holds
            rw [CRl, CRf, hT2]
            rfl
          have hcr := fun v (D : DAt v g m A1 c1 S) K ck (hk : Bools v K keep) => crash_c S g m A1 c1 K keep.length ck keep v D hk rfl (by have := HKe.out.2.1; unfold maxLen; omega)
          rw [← hS2] at hcr
          have hc1 := fun v c' (D : DAt v g m none c' S2) => content_c S2 g m none c' v D CRc.dead CRc.n (by omega)
          have hc2 := fun v (D : DAt v g' m' A4 c4 T2) => content_c T2 g' m' A4 c4 v D CT2.dead CT2.n (by omega)
          rw [eT] at hc2
          have hp := fun v c' (D : DAt v g m none c' S2) => pending_c S2 g m none c' 0 v D (by rw [CRl]; rfl)
          obtain ⟨i4, k1, k2, k3, k4⟩ := info4
          have HE := Lib.hid (And.intro hcr (And.intro hc1 (And.intro hc2 (And.intro hp (And.intro k1 (And.intro k2 (And.intro k3 k4)))))))
          have hl5 : (told S2 5).length = 5 := rfl
          generalize told S2 5 = B5 at hl5 HE
          clear CRl CRf CRc CT2 hT2 hS2 hkl hTo hSo eT hcr hc1 hc2 hp k1 k2 k3 k4 IR
          have hkw := HKe.out.1.keep TW.L.mm (by simp)
          have hm0 := TW.L.mm.size
          go_wp2_with (first
            | (with_reducible refine wpList_appendG (f := fun b => [Value.bool b]) (o := ⟨some 128, _, _, _, _, _⟩) _ rfl (.tmp 126) (.tmp 127) 47 rfl 4 i4 (.bool false) 1 Try.underlying47 HE.out.2.2.2.2.1 HE.out.2.2.2.2.2.1 HE.out.2.2.2.2.2.2.1 HE.out.2.2.2.2.2.2.2 rfl (by decide) (fun _ => rfl) bool_one (some ⟨wr.heap.size, 0, none⟩) 0 0 [] rfl rfl (ownb0 wr) K0 nk c0 keep rfl HKe.out.2.2 (flat_bools (hkw.keep (Mod.alloc [] wr _) (by simp))) (by have := HKe.out.2.1; simp; omega) (by have := HKe.out.2.1; unfold maxLen; simp; omega) ?_; intro A' c' va hO mO hOb))
          have mA : Mod [] wr va := (Mod.alloc [] wr _).trans mO (fun i hi h => by simp [blk] at h; omega)
          replace TW := TW.keep mA
          have hb2 : Bools va A' keep := by have := hO.cells; rwa [List.nil_append, flat_bool] at this
          refine (Calls.mono (HE.out.1 va TW.L.D A' c' hb2) ?_)
          rintro e vb ⟨rfl, Dc, mc⟩
          obtain ⟨TW3, _⟩ := TW.did Dc ⟨mc.wk (fun i _ h => by simp only [List.mem_cons, List.not_mem_nil, or_false] at h ⊢; rcases h with h | h <;> simp [h]), fun a ha => by cases ha⟩
          clear TW Dc mc hb2 hO mO hOb mA hkw
          go_wp2_with fail
          refine (HE.out.2.1 _ 0 TW3.L.D).mono ?_
          rintro e vc ⟨rfl, m7⟩
          replace TW3 := TW3.keep m7
          clear m7
          go_wp2_with fail
          refine (HE.out.2.2.1 _ TW3.R.D).mono ?_
          rintro e vd ⟨rfl, m8⟩
          replace TW3 := TW3.keep m8
          clear m8
          go_wp2_with (with_reducible refine wpList_ranW (o := ⟨some 136, .binOp .eql 61 (.tmp 133) (.tmp 135) 61, _, _, _, _⟩) (by with_unfolding_all rfl) (.bool true) _ (exec_eql61 (L := B5) hl5 rfl rfl rfl) ?_)
          refine (HE.out.2.2.2.1 _ 0 TW3.L.D).mono ?_
          rintro e ve ⟨gq, rfl, _, m9, _⟩
          replace TW3 := TW3.keep m9
          clear m9
          go_wp2_with fail
          go_ret
          exact ⟨rfl, TW3.L.mm⟩
end Go.Proofs.Ytpdpahkhfilmpaa
