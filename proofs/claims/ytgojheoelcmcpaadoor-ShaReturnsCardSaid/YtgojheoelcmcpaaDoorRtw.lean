/-
  ShaReturns: the walk. My own work.
-/
import Derived.Test.YtgojheoelcmcpaaDoorByt
namespace Go.Proofs.YtgojheoelcmcpaaDoor
open Go.RowKit
theorem is_digit (b : UInt8) : decide (dv b < 16) = (decide (48 ≤ b.toNat) && decide (b.toNat ≤ 57) || decide (97 ≤ b.toNat) && decide (b.toNat ≤ 102)) := by
  unfold dv
  by_cases h1 : 48 ≤ b.toNat ∧ b.toNat ≤ 57
  · rw [if_pos h1, decide_eq_true h1.1, decide_eq_true h1.2]; exact decide_eq_true (by omega)
  · rw [if_neg h1]
    by_cases h2 : 97 ≤ b.toNat ∧ b.toNat ≤ 102
    · rw [if_pos h2, decide_eq_true h2.1, decide_eq_true h2.2]; simp; omega
    · rw [if_neg h2]
      have : ¬ (16 : Nat) < 16 := by omega
      rw [decide_eq_false this]
      symm
      simp
      omega
theorem conv64 {v : World} {g cp : Nat} {O : List UInt8} (hO : O.length = 64) (h : Reads v (some ⟨g, 0, none⟩) O) : (convert 36 9 (.slice (some ⟨g, 0, none⟩) 64 cp)).run Tryd.prog v = .ok (.string ⟨O.toArray⟩) v := by
  have := conv_reads (P := Tryd.prog) v 36 9 5 _ cp O Tryd.underlying36 Tryd.underlying5 Tryd.underlying9 h
  rwa [hO] at this
theorem exec_eqi {P : Program} {v : World} {o : Oper} {ρ : Operand → Value} {x y : Operand} {t t' : TypeId} {k : IntKind} {a b : Int} (ho : o.op = .binOp .eql t x y t') (hx : ρ x = .int k a) (hy : ρ y = .int k b) : (execOp ρ o).run P v = .ok (.value (.bool (a == b))) v := by
  unfold execOp
  simp [ho, hx, hy, go_sem]
set_option maxRecDepth 1000000 in
set_option maxHeartbeats 8000000 in
theorem returns_w (a : List UInt8) (ha : a.length = 32) (at' : Int) (b : UInt8) (s : ByteArray) (w : World) (G : Cells w (some ⟨0, 0, none⟩) (Kc.map wd)) (G1 : Cells w (some ⟨1, 0, none⟩) (Sc.map wd)) :
    Calls Tryd.prog 8 #[.agg (a.map oct).toArray, .int .i64 at', oct b, .string s] w fun e w' => e = .returned (.bool true) ∧ Mod [] w w' := by
  have hW := fun (v : World) (m : Mod [] w v) => wakes_c v (G.keep m (by simp)) (G1.keep m (by simp))
  obtain ⟨T, hT⟩ : ∃ T : ByteArray, T = ⟨(textN a).toArray⟩ := ⟨_, rfl⟩
  have hTl : T.data.toList = textN a := by rw [hT]
  have hTs : T.size = 64 := by rw [hT]; show (textN a).toArray.size = 64; simp [textN_length, ha]
  have t1 := fun (v : World) => text_c a ha v
  rw [← hT] at t1
  have p1 := fun (v : World) => parse_c T v
  rw [hTl, parsed_text a ha, good_text a ha] at p1
  have hX0 : 0 ≤ IntKind.u64.wrap at' := by rw [IntKind.wrap_u64]; exact Int.emod_nonneg _ (by decide)
  obtain ⟨k, hk⟩ : ∃ n : Nat, (IntKind.u64.wrap at').tmod 64 = (n : Int) := ⟨((IntKind.u64.wrap at').tmod 64).toNat, by rw [Int.tmod_eq_emod_of_nonneg hX0]; omega⟩
  have hk64 : k < 64 := by rw [Int.tmod_eq_emod_of_nonneg hX0] at hk; omega
  obtain ⟨O, hO⟩ : ∃ O, O = (textN a).set k b := ⟨_, rfl⟩
  have hOl : O.length = 64 := by rw [hO, List.length_set, textN_length, ha]
  have hOg : good O = decide (dv b < 16) := by rw [hO]; exact good_set _ (good_text a ha) k hk64 b
  have p2 := fun (v : World) => parse_c ⟨O.toArray⟩ v
  have p3 := fun (v : World) => parse_c s v
  simp only [] at p2
  have hpl := parsed_length O
  have hpl3 := parsed_length s.data.toList
  have t2 := fun (v : World) => text_c (parsed O) hpl v
  have t3 := fun (v : World) => text_c (parsed s.data.toList) hpl3 v
  have tO : good O = true → textN (parsed O) = O := text_parsed O
  have ts : good s.data.toList = true → textN (parsed s.data.toList) = s.data.toList := text_parsed _
  obtain ⟨PO, hPO⟩ : ∃ P, P = parsed O := ⟨_, rfl⟩
  obtain ⟨ps, hps⟩ : ∃ P, P = parsed s.data.toList := ⟨_, rfl⟩
  obtain ⟨gs, hgs⟩ : ∃ g, g = good s.data.toList := ⟨_, rfl⟩
  obtain ⟨dg', hdg⟩ : ∃ g, g = decide (dv b < 16) := ⟨_, rfl⟩
  rw [← hPO] at p2 t2 tO hpl
  rw [← hps] at p3 t3 ts hpl3
  rw [← hgs] at p3 ts
  rw [hOg, ← hdg] at p2 tO
  have HW := Lib.hid (And.intro hW (And.intro t1 (And.intro p1 ha)))
  have HO := Lib.hid (And.intro p2 (And.intro t2 (And.intro tO (And.intro hpl (And.intro hOl hO)))))
  have H3 := Lib.hid (And.intro p3 (And.intro t3 (And.intro ts hpl3)))
  have HK := Lib.hid (And.intro hk64 hdg)
  have HT := Lib.hid (And.intro hTl hTs)
  clear hW t1 p1 p2 t2 tO hpl hOl hO p3 t3 ts hpl3 hdg hT hTl hX0 hPO hps hgs hOg G G1 ha
  go_enter Tryd.func8, Tryd.ntmps8
  go_wp2_with (with_reducible refine wpList_boxes (o := ⟨some 4, .box 40 (.tmp 0), _, _, _, _⟩) rfl 40 (.tmp 0) rfl _ rfl (a.map oct) rfl ?_; intro w1 hb1 m1 z1; replace z1 := Lib.hid z1)
  obtain ⟨g4, e1⟩ : ∃ b, b = w.heap.size := ⟨_, rfl⟩
  rw [← e1] at hb1 ⊢
  clear e1 z1
  refine (HW.out.1 _ m1).mono ?_
  rintro e w2 ⟨rfl, m2⟩
  have ha := hb1.keep m2 (by simp)
  have mm := m1.then m2
  clear hb1 m1 m2
  go_wp2_with (with_reducible refine wpList_loads (o := ⟨some 18, .load 40 (.tmp 4), _, _, _, _⟩) rfl 40 (.tmp 4) rfl g4 0 _ rfl (Cells.of_holds ha) _ Tryd.underlying40 rfl (size40_of _ HW.out.2.2.2) (.agg (a.map oct).toArray) rfl ?_)
  refine (HW.out.2.1 _).mono ?_
  rintro e w3 ⟨rfl, m3⟩
  replace ha := ha.keep m3 (by simp)
  replace mm := mm.then m3
  clear m3
  go_wp2_with fail
  refine (HW.out.2.2.1 _).mono ?_
  rintro e w4 ⟨rfl, m4⟩
  replace ha := ha.keep m4 (by simp)
  replace mm := mm.then m4
  clear m4
  have sz : (Tryd.prog.info? 40).map (·.size) = some (a.map oct).length := size40_of _ HW.out.2.2.2
  have lz : (a.map oct).length = ((List.replicate 32 (0 : UInt8)).map oct).length := by rw [List.length_map, HW.out.2.2.2]; rfl
  have hTz : ((T.size : Int) != 64) = false := by rw [HT.out.2]; rfl
  go_wp2_with (first
    | (with_reducible refine wpList_allocs (o := ⟨some 10, .alloc 40, _, _, _, _⟩) rfl 40 rfl _ zero40 ?_; intro w5 hb10 m5 z5; replace z5 := Lib.hid z5)
    | (with_reducible refine wpList_storesAll (o := ⟨none, .store 40 (.tmp 10) (.tmp 23), _, _, _, _⟩) rfl 40 (.tmp 10) (.tmp 23) rfl rfl w4.heap.size (a.map oct) rfl (.agg (a.map oct).toArray) rfl rfl 40 _ hb10 lz (octs_one _) sz ?_; intro w6 hc10 m6 z6; replace z6 := Lib.hid z6
       have m56 : Mod [] w4 w6 := m5.trans m6 (by intro i hi h; simp at h; omega)
       replace ha := ha.keep m56 (by simp)
       replace mm := mm.then m56
       clear m56 m5 m6 z5 z6 hb10)
    | (with_reducible refine wpList_loadsW (o := ⟨some 33, .load 40 (.tmp 10), _, _, _, _⟩) (by with_unfolding_all rfl) 40 (.tmp 10) rfl w4.heap.size 0 _ rfl (Cells.of_holds hc10) _ Tryd.underlying40 rfl sz (.agg (a.map oct).toArray) rfl ?_)
    | (with_reducible refine wpList_loadsW (o := ⟨some 34, .load 40 (.tmp 4), _, _, _, _⟩) (by with_unfolding_all rfl) 40 (.tmp 4) rfl g4 0 _ rfl (Cells.of_holds ha) _ Tryd.underlying40 rfl sz (.agg (a.map oct).toArray) rfl ?_)
    | (with_reducible refine wpList_ranW (o := ⟨some 35, .binOp .neq 40 (.tmp 33) (.tmp 34) 40, _, _, _, _⟩) (by with_unfolding_all rfl) (.bool false) _ (ne40_same HW.out.2.2.2 rfl rfl rfl) ?_)
    | (with_reducible refine wpList_bytesOf (o := ⟨some 38, .convert 9 36 (.tmp 37), _, _, _, _⟩) rfl (.tmp 37) rfl T rfl ?_; intro w7 cp hB m7 z7; replace z7 := Lib.hid z7
       rw [HT.out.1] at hB
       have hkl : k < (textN a).length := by rw [textN_length, HW.out.2.2.2]; exact HK.out.1
       have cB := hB.cell k hkl
       have fB := hB.free k hkl
       have hS := hB.set k b
       rw [← HO.out.2.2.2.2.2] at hS
       have hcv : (convert 36 9 (.slice (some ⟨w6.heap.size, 0, none⟩) 64 cp)).run Tryd.prog (w7.setCell ⟨w6.heap.size, k, none⟩ (oct b)) = .ok (.string ⟨O.toArray⟩) (w7.setCell ⟨w6.heap.size, k, none⟩ (oct b)) := by
         have := conv_reads (P := Tryd.prog) (w7.setCell ⟨w6.heap.size, k, none⟩ (oct b)) 36 9 5 _ cp O Tryd.underlying36 Tryd.underlying5 Tryd.underlying9 hS.reads
         rwa [HO.out.2.2.2.2.1] at this
       replace hcv := Lib.hid hcv)
    | (with_reducible refine wpList_ran (o := ⟨some 47, .convert 36 9 (.tmp 46), _, _, _, _⟩) rfl (.string ⟨O.toArray⟩) (exec_conv hcv.out rfl rfl) ?_))
  have hkl : k < (textN a).length := by rw [textN_length, HW.out.2.2.2]; exact HK.out.1
  replace hS : BR (w7.setCell ⟨w6.heap.size, k, none⟩ (Value.int .u8 (b.toNat : Int))) w6.heap.size O := by
    have := hB.set k b
    rw [← HO.out.2.2.2.2.2] at this
    exact this
  have m8 : Mod [] w (w7.setCell ⟨w6.heap.size, k, none⟩ (Value.int .u8 (b.toNat : Int))) := (mm.then m7).trans (Mod.setCell w7 (p := ⟨w6.heap.size, k, none⟩) (ms := [w6.heap.size]) (by simp) _) (by have := mm.size; intro i hi h; simp at h; omega)
  obtain ⟨w8, hw8⟩ : ∃ v, v = w7.setCell ⟨w6.heap.size, k, none⟩ (Value.int .u8 (b.toNat : Int)) := ⟨_, rfl⟩
  rw [← hw8] at hS m8 ⊢
  obtain ⟨g12, e12⟩ : ∃ b, b = w6.heap.size := ⟨_, rfl⟩
  obtain ⟨g10, e10⟩ : ∃ b, b = w4.heap.size := ⟨_, rfl⟩
  rw [← e12] at hS ⊢
  rw [← e10]
  clear hw8 e12 e10 hB m7 z7 cB fB hcv hc10 mm ha hTz hkl hTs lz sz
  refine (HO.out.1 _).mono ?_
  rintro e w9 ⟨rfl, m9⟩
  replace hS := hS.keep m9 (by simp)
  have mm := m8.then m9
  clear m8 m9
  have sz : (Tryd.prog.info? 40).map (·.size) = some (PO.map oct).length := size40_of _ HO.out.2.2.2.1
  have lz : (PO.map oct).length = ((List.replicate 32 (0 : UInt8)).map oct).length := by rw [List.length_map, HO.out.2.2.2.1]; rfl
  have hD := HK.out.2
  rw [is_digit] at hD
  have hbl := b.toNat_lt
  have hcs : b.toNat < 48 ∨ (48 ≤ b.toNat ∧ b.toNat ≤ 57) ∨ (57 < b.toNat ∧ b.toNat < 97) ∨ (97 ≤ b.toNat ∧ b.toNat ≤ 102) ∨ 102 < b.toNat := by omega
  rcases hcs with hb | hb | hb | hb | hb
  · skip
    have hDv : dg' = false := by
      rw [hD]
      simp
      omega
    subst hDv
    have hz1 : (b.toNat : Int) < 48 := by omega
    have hz3 : (b.toNat : Int) < 97 := by omega
    clear hD hb hbl
    go_wp2_with (first
      | (with_reducible refine wpList_allocs (o := ⟨some 13, .alloc 40, _, _, _, _⟩) rfl 40 rfl _ zero40 ?_; intro w10 hb13 m10 z10; replace z10 := Lib.hid z10)
      | (with_reducible refine wpList_storesAll (o := ⟨none, .store 40 (.tmp 13) (.tmp 49), _, _, _, _⟩) rfl 40 (.tmp 13) (.tmp 49) rfl rfl w9.heap.size (PO.map oct) rfl (.agg (PO.map oct).toArray) rfl rfl 40 _ hb13 lz (octs_one _) sz ?_; intro wr hP m11 z11; replace z11 := Lib.hid z11
         have m1011 : Mod [] w9 wr := m10.trans m11 (by intro i hi h; simp at h; omega)
         replace hS := hS.keep m1011 (by simp)
         replace mm := mm.then m1011
         clear m1011 m10 m11 z10 z11 hb13))
    obtain ⟨g13, e13⟩ : ∃ b, b = w9.heap.size := ⟨_, rfl⟩
    rw [← e13] at hP ⊢
    clear e13 lz sz hz1 hz3
    have hP : Holds wr.drew g13 40 (PO.map oct) := hP
    have hS : BR wr.drew g12 O := hS
    refine wp_region_lit1 [.agg (a.map oct).toArray, .int .i64 at', oct b, .string s, .pointer (some ⟨g4, 0, none⟩), undef, undef, undef, .bool false, .string T, .pointer (some ⟨g10, 0, none⟩), .int .i64 130, .slice (some ⟨g12, 0, none⟩) 64 cp, .pointer (some ⟨g13, 0, none⟩), .bool false, undef, .bool true, .bool false, .agg (a.map oct).toArray, .string T, .tuple #[.agg (a.map oct).toArray, .int .i64 0], .string T, .tuple #[.agg (a.map oct).toArray, .int .i64 0], .agg (a.map oct).toArray, .int .i64 0, .string T, .int .i64 64, .bool false, .bool false, .int .i64 0, .bool false, .bool false, .bool false, .agg (a.map oct).toArray, .agg (a.map oct).toArray, .bool false, .bool false, .string T, .slice (some ⟨g12, 0, none⟩) 64 cp, .slice (some ⟨g12, 0, none⟩) 64 cp, .int .i64 at', .int .u64 (IntKind.u64.wrap at'), .int .u64 (k : Int), oct b, .pointer (some ⟨g12, k, none⟩), .tuple #[.agg (PO.map oct).toArray, .int .i64 130], .slice (some ⟨g12, 0, none⟩) 64 cp, .string ⟨O.toArray⟩, .tuple #[.agg (PO.map oct).toArray, .int .i64 130], .agg (PO.map oct).toArray, .int .i64 130, oct b, .bool false, .bool false, undef, undef, .bool false, .bool false, oct b, .bool false, .bool false, undef, undef, .bool false, .bool false, .bool false, .int .i64 130, .bool false, .bool false, .bool false, .bool false, .bool false, undef, undef, undef, undef, undef, .bool false, .bool false, undef, undef, undef, undef, undef, undef, undef, undef, undef, undef, undef, undef, undef] 92 [0, 1, 2, 3, 4, 5, 6, 7, 8, 9, 10, 11, 12, 13, 14, 15, 16, 17, 18, 19, 20, 21, 22, 23, 24, 25, 26, 27, 28, 29, 30, 31, 32, 33, 34, 35, 36, 37, 38, 39, 40, 41, 42, 43, 44, 45, 46, 47, 48, 49, 50, 51, 52, 53, 54, 55, 56, 57, 58, 59, 60, 61, 62, 63, 64, 79, 80, 81, 82, 83, 84, 85, 86, 87, 88, 89, 90, 91]
      (fun _ v => Mod [] wr.drew v) []
      (by kernel_rfl) rfl rfl rfl rfl (Mod.refl _ _) (by kernel_rfl) (by kernel_rfl) ?step ?fin
    case step =>
      intro lz T v j o hj hlj hdep hst hpar hgot hcl K hK
      have hjn : j < 14 := (Array.getElem?_eq_some_iff.1 hj).1
      obtain rfl | rfl | rfl | rfl | rfl | rfl | rfl | rfl | rfl | rfl | rfl | rfl | rfl | rfl : j = 0 ∨ j = 1 ∨ j = 2 ∨ j = 3 ∨ j = 4 ∨ j = 5 ∨ j = 6 ∨ j = 7 ∨ j = 8 ∨ j = 9 ∨ j = 10 ∨ j = 11 ∨ j = 12 ∨ j = 13 := by omega
      all_goals (have hj' := Option.some.inj (hj : some _ = some o); subst hj'; clear hj)
      · exact wp_ran rfl (exec_move rfl (eval_tmp (hpar 14 (by simp)))) (hK _ _ (fun s hs => by cases hs; rfl) hst)
      · exact wp_ran rfl (exec_move rfl (eval_tmp (hpar 11 (by simp)))) (hK _ _ (fun s hs => by cases hs; rfl) hst)
      · exact wp_ran rfl (exec_eqi rfl (eval_tmp (hgot 1 _ 66 rfl (hdep ⟨1, .data⟩ (by simp) rfl) rfl)) rfl) (hK _ _ (fun s hs => by cases hs; rfl) hst)
      · exact wp_ran rfl (exec_neb Tryd.underlying4 rfl (eval_tmp (hgot 0 _ 65 rfl (hdep ⟨0, .data⟩ (by simp) rfl) rfl)) (eval_tmp (hgot 2 _ 67 rfl (hdep ⟨2, .data⟩ (by simp) rfl) rfl))) (hK _ _ (fun s hs => by cases hs; rfl) hst)
      · exact wp_ran rfl (exec_move rfl (eval_tmp (hgot 3 _ 68 rfl (hdep ⟨3, .data⟩ (by simp) rfl) rfl))) (hK _ _ (fun s hs => by cases hs; rfl) hst)
      · exact wp_ranW (wanted_yes rfl rfl rfl (hgot 4 _ 69 rfl (hdep ⟨4, .guard⟩ (by simp) rfl) rfl)) (exec_move rfl (eval_tmp (hpar 14 (by simp)))) (hK _ _ (fun s hs => by cases hs; rfl) hst)
      · exact wp_ranW (wanted_yes rfl rfl rfl (hgot 4 _ 69 rfl (hdep ⟨4, .guard⟩ (by simp) rfl) rfl)) (exec_move rfl (eval_tmp (hgot 5 _ 70 rfl (hdep ⟨5, .data⟩ (by simp) rfl) rfl))) (hK _ _ (fun s hs => by cases hs; rfl) hst)
      · exact wp_skip (wanted_no rfl rfl rfl rfl (hgot 6 _ 71 rfl (hdep ⟨6, .guard⟩ (by simp) rfl) rfl)) (hK _ _ (fun s hs => by cases hs; rfl) hst)
      · exact wp_skip (wanted_no rfl rfl rfl rfl (hgot 6 _ 71 rfl (hdep ⟨6, .guard⟩ (by simp) rfl) rfl)) (hK _ _ (fun s hs => by cases hs; rfl) hst)
      · exact wp_skip (wanted_no rfl rfl rfl rfl (hgot 6 _ 71 rfl (hdep ⟨6, .guard⟩ (by simp) rfl) rfl)) (hK _ _ (fun s hs => by cases hs; rfl) hst)
      · exact wp_skip (wanted_no rfl rfl rfl rfl (hgot 6 _ 71 rfl (hdep ⟨6, .guard⟩ (by simp) rfl) rfl)) (hK _ _ (fun s hs => by cases hs; rfl) hst)
      · exact wp_skip (wanted_no rfl rfl rfl rfl (hgot 6 _ 71 rfl (hdep ⟨6, .guard⟩ (by simp) rfl) rfl)) (hK _ _ (fun s hs => by cases hs; rfl) hst)
      · exact wp_ranW (wanted_yes rfl rfl rfl (hgot 4 _ 69 rfl (hdep ⟨4, .guard⟩ (by simp) rfl) rfl)) (exec_pick rfl (eval_tmp (hgot 6 _ 71 rfl (hdep ⟨6, .data⟩ (by simp) rfl) rfl)) (eval_tmp (hgot 11 _ 76 rfl (hdep ⟨11, .data⟩ (by simp) rfl) rfl)) rfl rfl) (hK _ _ (fun s hs => by cases hs; rfl) hst)
      · exact wp_ran rfl (exec_pick rfl (eval_tmp (hgot 4 _ 69 rfl (hdep ⟨4, .data⟩ (by simp) rfl) rfl)) rfl (eval_tmp (hgot 12 _ 77 rfl (hdep ⟨12, .data⟩ (by simp) rfl) rfl)) rfl) (hK _ _ (fun s hs => by cases hs; rfl) hst)
    case fin =>
      intro lz v hl hst
      have mn := mm.then (Mod.drewed hst)
      clear hst hl hP hS mm
      dsimp only
      go_wp2_with fail
      have hp3 := H3.out.1
      have ht3 := H3.out.2.1
      have hs3 := H3.out.2.2.1
      have sz3 : (Tryd.prog.info? 40).map (·.size) = some (ps.map oct).length := size40_of _ H3.out.2.2.2
      have lz3 : (ps.map oct).length = ((List.replicate 32 (0 : UInt8)).map oct).length := by rw [List.length_map, H3.out.2.2.2]; rfl
      clear H3
      cases gs with
      | false =>
        clear ht3 hs3
        refine (hp3 _).mono ?_
        rintro e w11 ⟨rfl, m12⟩
        replace mn := mn.then m12
        clear m12 hp3
        go_wp2_with (first
          | (with_reducible refine wpList_allocs (o := ⟨some 15, .alloc 40, _, _, _, _⟩) rfl 40 rfl _ zero40 ?_; intro w12 hb15 m13 z13; replace z13 := Lib.hid z13)
          | (with_reducible refine wpList_storesAll (o := ⟨none, .store 40 (.tmp 15) (.tmp 82), _, _, _, _⟩) rfl 40 (.tmp 15) (.tmp 82) rfl rfl w11.heap.size (ps.map oct) rfl (.agg (ps.map oct).toArray) rfl rfl 40 _ hb15 lz3 (octs_one _) sz3 ?_; intro w13 hc15 m14 z14; replace z14 := Lib.hid z14
             have m1314 : Mod [] w11 w13 := m13.trans m14 (by intro i hi h; simp at h; omega)
             replace mn := mn.then m1314
             clear m1314 m13 m14 z13 z14 hb15)
          | (with_reducible refine wpList_loadsW (o := ⟨some 87, .load 40 (.tmp 15), _, _, _, _⟩) (by with_unfolding_all rfl) 40 (.tmp 15) rfl w11.heap.size 0 _ rfl (Cells.of_holds hc15) _ Tryd.underlying40 rfl sz3 (.agg (ps.map oct).toArray) rfl ?_))
        go_ret
        exact ⟨rfl, mn⟩
      | true =>
        rw [hs3 rfl] at ht3
        have HT3 := Lib.hid ht3
        clear ht3 hs3
        refine (hp3 _).mono ?_
        rintro e w11 ⟨rfl, m12⟩
        replace mn := mn.then m12
        clear m12 hp3
        go_wp2_with (first
          | (with_reducible refine wpList_allocs (o := ⟨some 15, .alloc 40, _, _, _, _⟩) rfl 40 rfl _ zero40 ?_; intro w12 hb15 m13 z13; replace z13 := Lib.hid z13)
          | (with_reducible refine wpList_storesAll (o := ⟨none, .store 40 (.tmp 15) (.tmp 82), _, _, _, _⟩) rfl 40 (.tmp 15) (.tmp 82) rfl rfl w11.heap.size (ps.map oct) rfl (.agg (ps.map oct).toArray) rfl rfl 40 _ hb15 lz3 (octs_one _) sz3 ?_; intro w13 hc15 m14 z14; replace z14 := Lib.hid z14
             have m1314 : Mod [] w11 w13 := m13.trans m14 (by intro i hi h; simp at h; omega)
             replace mn := mn.then m1314
             clear m1314 m13 m14 z13 z14 hb15)
          | (with_reducible refine wpList_loadsW (o := ⟨some 87, .load 40 (.tmp 15), _, _, _, _⟩) (by with_unfolding_all rfl) 40 (.tmp 15) rfl w11.heap.size 0 _ rfl (Cells.of_holds hc15) _ Tryd.underlying40 rfl sz3 (.agg (ps.map oct).toArray) rfl ?_))
        refine (HT3.out _).mono ?_
        rintro e w14 ⟨rfl, m15⟩
        replace mn := mn.then m15
        clear m15
        go_wp2_with fail
        go_ret
        exact ⟨rfl, mn⟩
  · skip
    have hDv : dg' = true := by
      rw [hD]
      simp
      omega
    subst hDv
    have hz1 : (48 : Int) ≤ (b.toNat : Int) := by omega
    have hz2 : (b.toNat : Int) ≤ 57 := by omega
    clear hD hb hbl
    go_wp2_with (first
      | (with_reducible refine wpList_allocs (o := ⟨some 13, .alloc 40, _, _, _, _⟩) rfl 40 rfl _ zero40 ?_; intro w10 hb13 m10 z10; replace z10 := Lib.hid z10)
      | (with_reducible refine wpList_storesAll (o := ⟨none, .store 40 (.tmp 13) (.tmp 49), _, _, _, _⟩) rfl 40 (.tmp 13) (.tmp 49) rfl rfl w9.heap.size (PO.map oct) rfl (.agg (PO.map oct).toArray) rfl rfl 40 _ hb13 lz (octs_one _) sz ?_; intro wr hP m11 z11; replace z11 := Lib.hid z11
         have m1011 : Mod [] w9 wr := m10.trans m11 (by intro i hi h; simp at h; omega)
         replace hS := hS.keep m1011 (by simp)
         replace mm := mm.then m1011
         clear m1011 m10 m11 z10 z11 hb13))
    obtain ⟨g13, e13⟩ : ∃ b, b = w9.heap.size := ⟨_, rfl⟩
    rw [← e13] at hP ⊢
    clear e13 lz sz hz1 hz2
    have hP : Holds wr.drew g13 40 (PO.map oct) := hP
    have hS : BR wr.drew g12 O := hS
    have hd2 := HO.out.2.1
    rw [HO.out.2.2.1 trivial] at hd2
    have HD := Lib.hid hd2
    clear hd2
    refine wp_region_lit1 [.agg (a.map oct).toArray, .int .i64 at', oct b, .string s, .pointer (some ⟨g4, 0, none⟩), undef, undef, undef, .bool false, .string T, .pointer (some ⟨g10, 0, none⟩), .int .i64 0, .slice (some ⟨g12, 0, none⟩) 64 cp, .pointer (some ⟨g13, 0, none⟩), .bool true, undef, .bool true, .bool false, .agg (a.map oct).toArray, .string T, .tuple #[.agg (a.map oct).toArray, .int .i64 0], .string T, .tuple #[.agg (a.map oct).toArray, .int .i64 0], .agg (a.map oct).toArray, .int .i64 0, .string T, .int .i64 64, .bool false, .bool false, .int .i64 0, .bool false, .bool false, .bool false, .agg (a.map oct).toArray, .agg (a.map oct).toArray, .bool false, .bool false, .string T, .slice (some ⟨g12, 0, none⟩) 64 cp, .slice (some ⟨g12, 0, none⟩) 64 cp, .int .i64 at', .int .u64 (IntKind.u64.wrap at'), .int .u64 (k : Int), oct b, .pointer (some ⟨g12, k, none⟩), .tuple #[.agg (PO.map oct).toArray, .int .i64 0], .slice (some ⟨g12, 0, none⟩) 64 cp, .string ⟨O.toArray⟩, .tuple #[.agg (PO.map oct).toArray, .int .i64 0], .agg (PO.map oct).toArray, .int .i64 0, oct b, .bool true, .bool true, oct b, .bool true, .bool true, .bool true, undef, undef, undef, undef, undef, undef, .bool true, .bool true, .int .i64 0, .bool true, .bool false, .bool false, .bool true, .bool true, .agg (PO.map oct).toArray, .string ⟨O.toArray⟩, .slice (some ⟨g12, 0, none⟩) 64 cp, .string ⟨O.toArray⟩, .bool false, .bool false, .bool false, undef, undef, undef, undef, undef, undef, undef, undef, undef, undef, undef, undef, undef] 92 [0, 1, 2, 3, 4, 5, 6, 7, 8, 9, 10, 11, 12, 13, 14, 15, 16, 17, 18, 19, 20, 21, 22, 23, 24, 25, 26, 27, 28, 29, 30, 31, 32, 33, 34, 35, 36, 37, 38, 39, 40, 41, 42, 43, 44, 45, 46, 47, 48, 49, 50, 51, 52, 53, 54, 55, 56, 57, 58, 59, 60, 61, 62, 63, 64, 79, 80, 81, 82, 83, 84, 85, 86, 87, 88, 89, 90, 91]
      (fun _ v => Mod [] wr.drew v) []
      (by kernel_rfl) rfl rfl rfl rfl (Mod.refl _ _) (by kernel_rfl) (by kernel_rfl) ?step ?fin
    case step =>
      intro lz T v j o hj hlj hdep hst hpar hgot hcl K hK
      have hjn : j < 14 := (Array.getElem?_eq_some_iff.1 hj).1
      obtain rfl | rfl | rfl | rfl | rfl | rfl | rfl | rfl | rfl | rfl | rfl | rfl | rfl | rfl : j = 0 ∨ j = 1 ∨ j = 2 ∨ j = 3 ∨ j = 4 ∨ j = 5 ∨ j = 6 ∨ j = 7 ∨ j = 8 ∨ j = 9 ∨ j = 10 ∨ j = 11 ∨ j = 12 ∨ j = 13 := by omega
      all_goals (have hj' := Option.some.inj (hj : some _ = some o); subst hj'; clear hj)
      · exact wp_ran rfl (exec_move rfl (eval_tmp (hpar 14 (by simp)))) (hK _ _ (fun s hs => by cases hs; rfl) hst)
      · exact wp_ran rfl (exec_move rfl (eval_tmp (hpar 11 (by simp)))) (hK _ _ (fun s hs => by cases hs; rfl) hst)
      · exact wp_ran rfl (exec_eqi rfl (eval_tmp (hgot 1 _ 66 rfl (hdep ⟨1, .data⟩ (by simp) rfl) rfl)) rfl) (hK _ _ (fun s hs => by cases hs; rfl) hst)
      · exact wp_ran rfl (exec_neb Tryd.underlying4 rfl (eval_tmp (hgot 0 _ 65 rfl (hdep ⟨0, .data⟩ (by simp) rfl) rfl)) (eval_tmp (hgot 2 _ 67 rfl (hdep ⟨2, .data⟩ (by simp) rfl) rfl))) (hK _ _ (fun s hs => by cases hs; rfl) hst)
      · exact wp_ran rfl (exec_move rfl (eval_tmp (hgot 3 _ 68 rfl (hdep ⟨3, .data⟩ (by simp) rfl) rfl))) (hK _ _ (fun s hs => by cases hs; rfl) hst)
      · exact wp_ranW (wanted_yes rfl rfl rfl (hgot 4 _ 69 rfl (hdep ⟨4, .guard⟩ (by simp) rfl) rfl)) (exec_move rfl (eval_tmp (hpar 14 (by simp)))) (hK _ _ (fun s hs => by cases hs; rfl) hst)
      · exact wp_ranW (wanted_yes rfl rfl rfl (hgot 4 _ 69 rfl (hdep ⟨4, .guard⟩ (by simp) rfl) rfl)) (exec_move rfl (eval_tmp (hgot 5 _ 70 rfl (hdep ⟨5, .data⟩ (by simp) rfl) rfl))) (hK _ _ (fun s hs => by cases hs; rfl) hst)
      · exact wp_ranW (wanted_yes rfl rfl rfl (hgot 6 _ 71 rfl (hdep ⟨6, .guard⟩ (by simp) rfl) rfl)) (exec_load rfl (eval_tmp (hpar 13 (by simp))) (run_loads (Cells.of_holds (hP.keep hst (by simp))) Tryd.underlying40 rfl (size40_of _ HO.out.2.2.2.1))) (hK _ _ (fun s hs => by cases hs; rfl) hst)
      · exact wp_calledW (wanted_yes rfl rfl rfl (hgot 6 _ 71 rfl (hdep ⟨6, .guard⟩ (by simp) rfl) rfl)) (exec_call1 rfl rfl (eval_tmp (hgot 7 _ 72 rfl (hdep ⟨7, .data⟩ (by simp) rfl) rfl)) (enters_of Tryd.func28 (by kernel_rfl) rfl)) ((HD.out _).mono (fun e v' hh => ⟨_, hh.1, hK _ _ (fun s hs => by cases hs; rfl) (hst.then hh.2)⟩))
      · exact wp_ranW (wanted_yes rfl rfl rfl (hgot 6 _ 71 rfl (hdep ⟨6, .guard⟩ (by simp) rfl) rfl)) (exec_move rfl (eval_tmp (hpar 12 (by simp)))) (hK _ _ (fun s hs => by cases hs; rfl) hst)
      · exact wp_ranW (wanted_yes rfl rfl rfl (hgot 6 _ 71 rfl (hdep ⟨6, .guard⟩ (by simp) rfl) rfl)) (exec_conv (conv64 HO.out.2.2.2.2.1 (BR.reads (BR.keep (w := wr.drew) hS hst (by simp)))) rfl (eval_tmp (hgot 9 _ 74 rfl (hdep ⟨9, .data⟩ (by simp) rfl) rfl))) (hK _ _ (fun s hs => by cases hs; rfl) hst)
      · exact wp_ranW (wanted_yes rfl rfl rfl (hgot 6 _ 71 rfl (hdep ⟨6, .guard⟩ (by simp) rfl) rfl)) (exec_neqs (b := ⟨O.toArray⟩) rfl (eval_tmp (hgot 8 _ 73 rfl (hdep ⟨8, .data⟩ (by simp) rfl) rfl)) (eval_tmp (hgot 10 _ 75 rfl (hdep ⟨10, .data⟩ (by simp) rfl) rfl))) (hK _ _ (fun s hs => by cases hs; rfl) hst)
      · exact wp_ranW (wanted_yes rfl rfl rfl (hgot 4 _ 69 rfl (hdep ⟨4, .guard⟩ (by simp) rfl) rfl)) (exec_pick rfl (eval_tmp (hgot 6 _ 71 rfl (hdep ⟨6, .data⟩ (by simp) rfl) rfl)) (eval_tmp (hgot 11 _ 76 rfl (hdep ⟨11, .data⟩ (by simp) rfl) rfl)) rfl rfl) (hK _ _ (fun s hs => by cases hs; rfl) hst)
      · exact wp_ran rfl (exec_pick rfl (eval_tmp (hgot 4 _ 69 rfl (hdep ⟨4, .data⟩ (by simp) rfl) rfl)) rfl (eval_tmp (hgot 12 _ 77 rfl (hdep ⟨12, .data⟩ (by simp) rfl) rfl)) rfl) (hK _ _ (fun s hs => by cases hs; rfl) hst)
    case fin =>
      intro lz v hl hst
      have mn := mm.then (Mod.drewed hst)
      clear hst hl hP hS mm
      dsimp only
      go_wp2_with fail
      have hp3 := H3.out.1
      have ht3 := H3.out.2.1
      have hs3 := H3.out.2.2.1
      have sz3 : (Tryd.prog.info? 40).map (·.size) = some (ps.map oct).length := size40_of _ H3.out.2.2.2
      have lz3 : (ps.map oct).length = ((List.replicate 32 (0 : UInt8)).map oct).length := by rw [List.length_map, H3.out.2.2.2]; rfl
      clear H3
      cases gs with
      | false =>
        clear ht3 hs3
        refine (hp3 _).mono ?_
        rintro e w11 ⟨rfl, m12⟩
        replace mn := mn.then m12
        clear m12 hp3
        go_wp2_with (first
          | (with_reducible refine wpList_allocs (o := ⟨some 15, .alloc 40, _, _, _, _⟩) rfl 40 rfl _ zero40 ?_; intro w12 hb15 m13 z13; replace z13 := Lib.hid z13)
          | (with_reducible refine wpList_storesAll (o := ⟨none, .store 40 (.tmp 15) (.tmp 82), _, _, _, _⟩) rfl 40 (.tmp 15) (.tmp 82) rfl rfl w11.heap.size (ps.map oct) rfl (.agg (ps.map oct).toArray) rfl rfl 40 _ hb15 lz3 (octs_one _) sz3 ?_; intro w13 hc15 m14 z14; replace z14 := Lib.hid z14
             have m1314 : Mod [] w11 w13 := m13.trans m14 (by intro i hi h; simp at h; omega)
             replace mn := mn.then m1314
             clear m1314 m13 m14 z13 z14 hb15)
          | (with_reducible refine wpList_loadsW (o := ⟨some 87, .load 40 (.tmp 15), _, _, _, _⟩) (by with_unfolding_all rfl) 40 (.tmp 15) rfl w11.heap.size 0 _ rfl (Cells.of_holds hc15) _ Tryd.underlying40 rfl sz3 (.agg (ps.map oct).toArray) rfl ?_))
        go_ret
        exact ⟨rfl, mn⟩
      | true =>
        rw [hs3 rfl] at ht3
        have HT3 := Lib.hid ht3
        clear ht3 hs3
        refine (hp3 _).mono ?_
        rintro e w11 ⟨rfl, m12⟩
        replace mn := mn.then m12
        clear m12 hp3
        go_wp2_with (first
          | (with_reducible refine wpList_allocs (o := ⟨some 15, .alloc 40, _, _, _, _⟩) rfl 40 rfl _ zero40 ?_; intro w12 hb15 m13 z13; replace z13 := Lib.hid z13)
          | (with_reducible refine wpList_storesAll (o := ⟨none, .store 40 (.tmp 15) (.tmp 82), _, _, _, _⟩) rfl 40 (.tmp 15) (.tmp 82) rfl rfl w11.heap.size (ps.map oct) rfl (.agg (ps.map oct).toArray) rfl rfl 40 _ hb15 lz3 (octs_one _) sz3 ?_; intro w13 hc15 m14 z14; replace z14 := Lib.hid z14
             have m1314 : Mod [] w11 w13 := m13.trans m14 (by intro i hi h; simp at h; omega)
             replace mn := mn.then m1314
             clear m1314 m13 m14 z13 z14 hb15)
          | (with_reducible refine wpList_loadsW (o := ⟨some 87, .load 40 (.tmp 15), _, _, _, _⟩) (by with_unfolding_all rfl) 40 (.tmp 15) rfl w11.heap.size 0 _ rfl (Cells.of_holds hc15) _ Tryd.underlying40 rfl sz3 (.agg (ps.map oct).toArray) rfl ?_))
        refine (HT3.out _).mono ?_
        rintro e w14 ⟨rfl, m15⟩
        replace mn := mn.then m15
        clear m15
        go_wp2_with fail
        go_ret
        exact ⟨rfl, mn⟩
  · skip
    have hDv : dg' = false := by
      rw [hD]
      simp
      omega
    subst hDv
    have hz1 : (48 : Int) ≤ (b.toNat : Int) := by omega
    have hz2 : decide ((b.toNat : Int) ≤ 57) = false := decide_eq_false (by omega)
    have hz3 : (b.toNat : Int) < 97 := by omega
    clear hD hb hbl
    go_wp2_with (first
      | (with_reducible refine wpList_allocs (o := ⟨some 13, .alloc 40, _, _, _, _⟩) rfl 40 rfl _ zero40 ?_; intro w10 hb13 m10 z10; replace z10 := Lib.hid z10)
      | (with_reducible refine wpList_storesAll (o := ⟨none, .store 40 (.tmp 13) (.tmp 49), _, _, _, _⟩) rfl 40 (.tmp 13) (.tmp 49) rfl rfl w9.heap.size (PO.map oct) rfl (.agg (PO.map oct).toArray) rfl rfl 40 _ hb13 lz (octs_one _) sz ?_; intro wr hP m11 z11; replace z11 := Lib.hid z11
         have m1011 : Mod [] w9 wr := m10.trans m11 (by intro i hi h; simp at h; omega)
         replace hS := hS.keep m1011 (by simp)
         replace mm := mm.then m1011
         clear m1011 m10 m11 z10 z11 hb13))
    obtain ⟨g13, e13⟩ : ∃ b, b = w9.heap.size := ⟨_, rfl⟩
    rw [← e13] at hP ⊢
    clear e13 lz sz hz1 hz2 hz3
    have hP : Holds wr.drew g13 40 (PO.map oct) := hP
    have hS : BR wr.drew g12 O := hS
    refine wp_region_lit1 [.agg (a.map oct).toArray, .int .i64 at', oct b, .string s, .pointer (some ⟨g4, 0, none⟩), undef, undef, undef, .bool false, .string T, .pointer (some ⟨g10, 0, none⟩), .int .i64 130, .slice (some ⟨g12, 0, none⟩) 64 cp, .pointer (some ⟨g13, 0, none⟩), .bool false, undef, .bool true, .bool false, .agg (a.map oct).toArray, .string T, .tuple #[.agg (a.map oct).toArray, .int .i64 0], .string T, .tuple #[.agg (a.map oct).toArray, .int .i64 0], .agg (a.map oct).toArray, .int .i64 0, .string T, .int .i64 64, .bool false, .bool false, .int .i64 0, .bool false, .bool false, .bool false, .agg (a.map oct).toArray, .agg (a.map oct).toArray, .bool false, .bool false, .string T, .slice (some ⟨g12, 0, none⟩) 64 cp, .slice (some ⟨g12, 0, none⟩) 64 cp, .int .i64 at', .int .u64 (IntKind.u64.wrap at'), .int .u64 (k : Int), oct b, .pointer (some ⟨g12, k, none⟩), .tuple #[.agg (PO.map oct).toArray, .int .i64 130], .slice (some ⟨g12, 0, none⟩) 64 cp, .string ⟨O.toArray⟩, .tuple #[.agg (PO.map oct).toArray, .int .i64 130], .agg (PO.map oct).toArray, .int .i64 130, oct b, .bool true, .bool true, oct b, .bool false, .bool false, .bool false, oct b, .bool false, .bool false, undef, undef, .bool false, .bool false, .bool false, .int .i64 130, .bool false, .bool false, .bool false, .bool false, .bool false, undef, undef, undef, undef, undef, .bool false, .bool false, undef, undef, undef, undef, undef, undef, undef, undef, undef, undef, undef, undef, undef] 92 [0, 1, 2, 3, 4, 5, 6, 7, 8, 9, 10, 11, 12, 13, 14, 15, 16, 17, 18, 19, 20, 21, 22, 23, 24, 25, 26, 27, 28, 29, 30, 31, 32, 33, 34, 35, 36, 37, 38, 39, 40, 41, 42, 43, 44, 45, 46, 47, 48, 49, 50, 51, 52, 53, 54, 55, 56, 57, 58, 59, 60, 61, 62, 63, 64, 79, 80, 81, 82, 83, 84, 85, 86, 87, 88, 89, 90, 91]
      (fun _ v => Mod [] wr.drew v) []
      (by kernel_rfl) rfl rfl rfl rfl (Mod.refl _ _) (by kernel_rfl) (by kernel_rfl) ?step ?fin
    case step =>
      intro lz T v j o hj hlj hdep hst hpar hgot hcl K hK
      have hjn : j < 14 := (Array.getElem?_eq_some_iff.1 hj).1
      obtain rfl | rfl | rfl | rfl | rfl | rfl | rfl | rfl | rfl | rfl | rfl | rfl | rfl | rfl : j = 0 ∨ j = 1 ∨ j = 2 ∨ j = 3 ∨ j = 4 ∨ j = 5 ∨ j = 6 ∨ j = 7 ∨ j = 8 ∨ j = 9 ∨ j = 10 ∨ j = 11 ∨ j = 12 ∨ j = 13 := by omega
      all_goals (have hj' := Option.some.inj (hj : some _ = some o); subst hj'; clear hj)
      · exact wp_ran rfl (exec_move rfl (eval_tmp (hpar 14 (by simp)))) (hK _ _ (fun s hs => by cases hs; rfl) hst)
      · exact wp_ran rfl (exec_move rfl (eval_tmp (hpar 11 (by simp)))) (hK _ _ (fun s hs => by cases hs; rfl) hst)
      · exact wp_ran rfl (exec_eqi rfl (eval_tmp (hgot 1 _ 66 rfl (hdep ⟨1, .data⟩ (by simp) rfl) rfl)) rfl) (hK _ _ (fun s hs => by cases hs; rfl) hst)
      · exact wp_ran rfl (exec_neb Tryd.underlying4 rfl (eval_tmp (hgot 0 _ 65 rfl (hdep ⟨0, .data⟩ (by simp) rfl) rfl)) (eval_tmp (hgot 2 _ 67 rfl (hdep ⟨2, .data⟩ (by simp) rfl) rfl))) (hK _ _ (fun s hs => by cases hs; rfl) hst)
      · exact wp_ran rfl (exec_move rfl (eval_tmp (hgot 3 _ 68 rfl (hdep ⟨3, .data⟩ (by simp) rfl) rfl))) (hK _ _ (fun s hs => by cases hs; rfl) hst)
      · exact wp_ranW (wanted_yes rfl rfl rfl (hgot 4 _ 69 rfl (hdep ⟨4, .guard⟩ (by simp) rfl) rfl)) (exec_move rfl (eval_tmp (hpar 14 (by simp)))) (hK _ _ (fun s hs => by cases hs; rfl) hst)
      · exact wp_ranW (wanted_yes rfl rfl rfl (hgot 4 _ 69 rfl (hdep ⟨4, .guard⟩ (by simp) rfl) rfl)) (exec_move rfl (eval_tmp (hgot 5 _ 70 rfl (hdep ⟨5, .data⟩ (by simp) rfl) rfl))) (hK _ _ (fun s hs => by cases hs; rfl) hst)
      · exact wp_skip (wanted_no rfl rfl rfl rfl (hgot 6 _ 71 rfl (hdep ⟨6, .guard⟩ (by simp) rfl) rfl)) (hK _ _ (fun s hs => by cases hs; rfl) hst)
      · exact wp_skip (wanted_no rfl rfl rfl rfl (hgot 6 _ 71 rfl (hdep ⟨6, .guard⟩ (by simp) rfl) rfl)) (hK _ _ (fun s hs => by cases hs; rfl) hst)
      · exact wp_skip (wanted_no rfl rfl rfl rfl (hgot 6 _ 71 rfl (hdep ⟨6, .guard⟩ (by simp) rfl) rfl)) (hK _ _ (fun s hs => by cases hs; rfl) hst)
      · exact wp_skip (wanted_no rfl rfl rfl rfl (hgot 6 _ 71 rfl (hdep ⟨6, .guard⟩ (by simp) rfl) rfl)) (hK _ _ (fun s hs => by cases hs; rfl) hst)
      · exact wp_skip (wanted_no rfl rfl rfl rfl (hgot 6 _ 71 rfl (hdep ⟨6, .guard⟩ (by simp) rfl) rfl)) (hK _ _ (fun s hs => by cases hs; rfl) hst)
      · exact wp_ranW (wanted_yes rfl rfl rfl (hgot 4 _ 69 rfl (hdep ⟨4, .guard⟩ (by simp) rfl) rfl)) (exec_pick rfl (eval_tmp (hgot 6 _ 71 rfl (hdep ⟨6, .data⟩ (by simp) rfl) rfl)) (eval_tmp (hgot 11 _ 76 rfl (hdep ⟨11, .data⟩ (by simp) rfl) rfl)) rfl rfl) (hK _ _ (fun s hs => by cases hs; rfl) hst)
      · exact wp_ran rfl (exec_pick rfl (eval_tmp (hgot 4 _ 69 rfl (hdep ⟨4, .data⟩ (by simp) rfl) rfl)) rfl (eval_tmp (hgot 12 _ 77 rfl (hdep ⟨12, .data⟩ (by simp) rfl) rfl)) rfl) (hK _ _ (fun s hs => by cases hs; rfl) hst)
    case fin =>
      intro lz v hl hst
      have mn := mm.then (Mod.drewed hst)
      clear hst hl hP hS mm
      dsimp only
      go_wp2_with fail
      have hp3 := H3.out.1
      have ht3 := H3.out.2.1
      have hs3 := H3.out.2.2.1
      have sz3 : (Tryd.prog.info? 40).map (·.size) = some (ps.map oct).length := size40_of _ H3.out.2.2.2
      have lz3 : (ps.map oct).length = ((List.replicate 32 (0 : UInt8)).map oct).length := by rw [List.length_map, H3.out.2.2.2]; rfl
      clear H3
      cases gs with
      | false =>
        clear ht3 hs3
        refine (hp3 _).mono ?_
        rintro e w11 ⟨rfl, m12⟩
        replace mn := mn.then m12
        clear m12 hp3
        go_wp2_with (first
          | (with_reducible refine wpList_allocs (o := ⟨some 15, .alloc 40, _, _, _, _⟩) rfl 40 rfl _ zero40 ?_; intro w12 hb15 m13 z13; replace z13 := Lib.hid z13)
          | (with_reducible refine wpList_storesAll (o := ⟨none, .store 40 (.tmp 15) (.tmp 82), _, _, _, _⟩) rfl 40 (.tmp 15) (.tmp 82) rfl rfl w11.heap.size (ps.map oct) rfl (.agg (ps.map oct).toArray) rfl rfl 40 _ hb15 lz3 (octs_one _) sz3 ?_; intro w13 hc15 m14 z14; replace z14 := Lib.hid z14
             have m1314 : Mod [] w11 w13 := m13.trans m14 (by intro i hi h; simp at h; omega)
             replace mn := mn.then m1314
             clear m1314 m13 m14 z13 z14 hb15)
          | (with_reducible refine wpList_loadsW (o := ⟨some 87, .load 40 (.tmp 15), _, _, _, _⟩) (by with_unfolding_all rfl) 40 (.tmp 15) rfl w11.heap.size 0 _ rfl (Cells.of_holds hc15) _ Tryd.underlying40 rfl sz3 (.agg (ps.map oct).toArray) rfl ?_))
        go_ret
        exact ⟨rfl, mn⟩
      | true =>
        rw [hs3 rfl] at ht3
        have HT3 := Lib.hid ht3
        clear ht3 hs3
        refine (hp3 _).mono ?_
        rintro e w11 ⟨rfl, m12⟩
        replace mn := mn.then m12
        clear m12 hp3
        go_wp2_with (first
          | (with_reducible refine wpList_allocs (o := ⟨some 15, .alloc 40, _, _, _, _⟩) rfl 40 rfl _ zero40 ?_; intro w12 hb15 m13 z13; replace z13 := Lib.hid z13)
          | (with_reducible refine wpList_storesAll (o := ⟨none, .store 40 (.tmp 15) (.tmp 82), _, _, _, _⟩) rfl 40 (.tmp 15) (.tmp 82) rfl rfl w11.heap.size (ps.map oct) rfl (.agg (ps.map oct).toArray) rfl rfl 40 _ hb15 lz3 (octs_one _) sz3 ?_; intro w13 hc15 m14 z14; replace z14 := Lib.hid z14
             have m1314 : Mod [] w11 w13 := m13.trans m14 (by intro i hi h; simp at h; omega)
             replace mn := mn.then m1314
             clear m1314 m13 m14 z13 z14 hb15)
          | (with_reducible refine wpList_loadsW (o := ⟨some 87, .load 40 (.tmp 15), _, _, _, _⟩) (by with_unfolding_all rfl) 40 (.tmp 15) rfl w11.heap.size 0 _ rfl (Cells.of_holds hc15) _ Tryd.underlying40 rfl sz3 (.agg (ps.map oct).toArray) rfl ?_))
        refine (HT3.out _).mono ?_
        rintro e w14 ⟨rfl, m15⟩
        replace mn := mn.then m15
        clear m15
        go_wp2_with fail
        go_ret
        exact ⟨rfl, mn⟩
  · skip
    have hDv : dg' = true := by
      rw [hD]
      simp
      omega
    subst hDv
    have hz1 : (48 : Int) ≤ (b.toNat : Int) := by omega
    have hz2 : decide ((b.toNat : Int) ≤ 57) = false := decide_eq_false (by omega)
    have hz3 : (97 : Int) ≤ (b.toNat : Int) := by omega
    have hz4 : (b.toNat : Int) ≤ 102 := by omega
    clear hD hb hbl
    go_wp2_with (first
      | (with_reducible refine wpList_allocs (o := ⟨some 13, .alloc 40, _, _, _, _⟩) rfl 40 rfl _ zero40 ?_; intro w10 hb13 m10 z10; replace z10 := Lib.hid z10)
      | (with_reducible refine wpList_storesAll (o := ⟨none, .store 40 (.tmp 13) (.tmp 49), _, _, _, _⟩) rfl 40 (.tmp 13) (.tmp 49) rfl rfl w9.heap.size (PO.map oct) rfl (.agg (PO.map oct).toArray) rfl rfl 40 _ hb13 lz (octs_one _) sz ?_; intro wr hP m11 z11; replace z11 := Lib.hid z11
         have m1011 : Mod [] w9 wr := m10.trans m11 (by intro i hi h; simp at h; omega)
         replace hS := hS.keep m1011 (by simp)
         replace mm := mm.then m1011
         clear m1011 m10 m11 z10 z11 hb13))
    obtain ⟨g13, e13⟩ : ∃ b, b = w9.heap.size := ⟨_, rfl⟩
    rw [← e13] at hP ⊢
    clear e13 lz sz hz1 hz2 hz3 hz4
    have hP : Holds wr.drew g13 40 (PO.map oct) := hP
    have hS : BR wr.drew g12 O := hS
    have hd2 := HO.out.2.1
    rw [HO.out.2.2.1 trivial] at hd2
    have HD := Lib.hid hd2
    clear hd2
    refine wp_region_lit1 [.agg (a.map oct).toArray, .int .i64 at', oct b, .string s, .pointer (some ⟨g4, 0, none⟩), undef, undef, undef, .bool false, .string T, .pointer (some ⟨g10, 0, none⟩), .int .i64 0, .slice (some ⟨g12, 0, none⟩) 64 cp, .pointer (some ⟨g13, 0, none⟩), .bool true, undef, .bool true, .bool false, .agg (a.map oct).toArray, .string T, .tuple #[.agg (a.map oct).toArray, .int .i64 0], .string T, .tuple #[.agg (a.map oct).toArray, .int .i64 0], .agg (a.map oct).toArray, .int .i64 0, .string T, .int .i64 64, .bool false, .bool false, .int .i64 0, .bool false, .bool false, .bool false, .agg (a.map oct).toArray, .agg (a.map oct).toArray, .bool false, .bool false, .string T, .slice (some ⟨g12, 0, none⟩) 64 cp, .slice (some ⟨g12, 0, none⟩) 64 cp, .int .i64 at', .int .u64 (IntKind.u64.wrap at'), .int .u64 (k : Int), oct b, .pointer (some ⟨g12, k, none⟩), .tuple #[.agg (PO.map oct).toArray, .int .i64 0], .slice (some ⟨g12, 0, none⟩) 64 cp, .string ⟨O.toArray⟩, .tuple #[.agg (PO.map oct).toArray, .int .i64 0], .agg (PO.map oct).toArray, .int .i64 0, oct b, .bool true, .bool true, oct b, .bool false, .bool false, .bool false, oct b, .bool true, .bool true, oct b, .bool true, .bool true, .bool true, .bool true, .int .i64 0, .bool true, .bool false, .bool false, .bool true, .bool true, .agg (PO.map oct).toArray, .string ⟨O.toArray⟩, .slice (some ⟨g12, 0, none⟩) 64 cp, .string ⟨O.toArray⟩, .bool false, .bool false, .bool false, undef, undef, undef, undef, undef, undef, undef, undef, undef, undef, undef, undef, undef] 92 [0, 1, 2, 3, 4, 5, 6, 7, 8, 9, 10, 11, 12, 13, 14, 15, 16, 17, 18, 19, 20, 21, 22, 23, 24, 25, 26, 27, 28, 29, 30, 31, 32, 33, 34, 35, 36, 37, 38, 39, 40, 41, 42, 43, 44, 45, 46, 47, 48, 49, 50, 51, 52, 53, 54, 55, 56, 57, 58, 59, 60, 61, 62, 63, 64, 79, 80, 81, 82, 83, 84, 85, 86, 87, 88, 89, 90, 91]
      (fun _ v => Mod [] wr.drew v) []
      (by kernel_rfl) rfl rfl rfl rfl (Mod.refl _ _) (by kernel_rfl) (by kernel_rfl) ?step ?fin
    case step =>
      intro lz T v j o hj hlj hdep hst hpar hgot hcl K hK
      have hjn : j < 14 := (Array.getElem?_eq_some_iff.1 hj).1
      obtain rfl | rfl | rfl | rfl | rfl | rfl | rfl | rfl | rfl | rfl | rfl | rfl | rfl | rfl : j = 0 ∨ j = 1 ∨ j = 2 ∨ j = 3 ∨ j = 4 ∨ j = 5 ∨ j = 6 ∨ j = 7 ∨ j = 8 ∨ j = 9 ∨ j = 10 ∨ j = 11 ∨ j = 12 ∨ j = 13 := by omega
      all_goals (have hj' := Option.some.inj (hj : some _ = some o); subst hj'; clear hj)
      · exact wp_ran rfl (exec_move rfl (eval_tmp (hpar 14 (by simp)))) (hK _ _ (fun s hs => by cases hs; rfl) hst)
      · exact wp_ran rfl (exec_move rfl (eval_tmp (hpar 11 (by simp)))) (hK _ _ (fun s hs => by cases hs; rfl) hst)
      · exact wp_ran rfl (exec_eqi rfl (eval_tmp (hgot 1 _ 66 rfl (hdep ⟨1, .data⟩ (by simp) rfl) rfl)) rfl) (hK _ _ (fun s hs => by cases hs; rfl) hst)
      · exact wp_ran rfl (exec_neb Tryd.underlying4 rfl (eval_tmp (hgot 0 _ 65 rfl (hdep ⟨0, .data⟩ (by simp) rfl) rfl)) (eval_tmp (hgot 2 _ 67 rfl (hdep ⟨2, .data⟩ (by simp) rfl) rfl))) (hK _ _ (fun s hs => by cases hs; rfl) hst)
      · exact wp_ran rfl (exec_move rfl (eval_tmp (hgot 3 _ 68 rfl (hdep ⟨3, .data⟩ (by simp) rfl) rfl))) (hK _ _ (fun s hs => by cases hs; rfl) hst)
      · exact wp_ranW (wanted_yes rfl rfl rfl (hgot 4 _ 69 rfl (hdep ⟨4, .guard⟩ (by simp) rfl) rfl)) (exec_move rfl (eval_tmp (hpar 14 (by simp)))) (hK _ _ (fun s hs => by cases hs; rfl) hst)
      · exact wp_ranW (wanted_yes rfl rfl rfl (hgot 4 _ 69 rfl (hdep ⟨4, .guard⟩ (by simp) rfl) rfl)) (exec_move rfl (eval_tmp (hgot 5 _ 70 rfl (hdep ⟨5, .data⟩ (by simp) rfl) rfl))) (hK _ _ (fun s hs => by cases hs; rfl) hst)
      · exact wp_ranW (wanted_yes rfl rfl rfl (hgot 6 _ 71 rfl (hdep ⟨6, .guard⟩ (by simp) rfl) rfl)) (exec_load rfl (eval_tmp (hpar 13 (by simp))) (run_loads (Cells.of_holds (hP.keep hst (by simp))) Tryd.underlying40 rfl (size40_of _ HO.out.2.2.2.1))) (hK _ _ (fun s hs => by cases hs; rfl) hst)
      · exact wp_calledW (wanted_yes rfl rfl rfl (hgot 6 _ 71 rfl (hdep ⟨6, .guard⟩ (by simp) rfl) rfl)) (exec_call1 rfl rfl (eval_tmp (hgot 7 _ 72 rfl (hdep ⟨7, .data⟩ (by simp) rfl) rfl)) (enters_of Tryd.func28 (by kernel_rfl) rfl)) ((HD.out _).mono (fun e v' hh => ⟨_, hh.1, hK _ _ (fun s hs => by cases hs; rfl) (hst.then hh.2)⟩))
      · exact wp_ranW (wanted_yes rfl rfl rfl (hgot 6 _ 71 rfl (hdep ⟨6, .guard⟩ (by simp) rfl) rfl)) (exec_move rfl (eval_tmp (hpar 12 (by simp)))) (hK _ _ (fun s hs => by cases hs; rfl) hst)
      · exact wp_ranW (wanted_yes rfl rfl rfl (hgot 6 _ 71 rfl (hdep ⟨6, .guard⟩ (by simp) rfl) rfl)) (exec_conv (conv64 HO.out.2.2.2.2.1 (BR.reads (BR.keep (w := wr.drew) hS hst (by simp)))) rfl (eval_tmp (hgot 9 _ 74 rfl (hdep ⟨9, .data⟩ (by simp) rfl) rfl))) (hK _ _ (fun s hs => by cases hs; rfl) hst)
      · exact wp_ranW (wanted_yes rfl rfl rfl (hgot 6 _ 71 rfl (hdep ⟨6, .guard⟩ (by simp) rfl) rfl)) (exec_neqs (b := ⟨O.toArray⟩) rfl (eval_tmp (hgot 8 _ 73 rfl (hdep ⟨8, .data⟩ (by simp) rfl) rfl)) (eval_tmp (hgot 10 _ 75 rfl (hdep ⟨10, .data⟩ (by simp) rfl) rfl))) (hK _ _ (fun s hs => by cases hs; rfl) hst)
      · exact wp_ranW (wanted_yes rfl rfl rfl (hgot 4 _ 69 rfl (hdep ⟨4, .guard⟩ (by simp) rfl) rfl)) (exec_pick rfl (eval_tmp (hgot 6 _ 71 rfl (hdep ⟨6, .data⟩ (by simp) rfl) rfl)) (eval_tmp (hgot 11 _ 76 rfl (hdep ⟨11, .data⟩ (by simp) rfl) rfl)) rfl rfl) (hK _ _ (fun s hs => by cases hs; rfl) hst)
      · exact wp_ran rfl (exec_pick rfl (eval_tmp (hgot 4 _ 69 rfl (hdep ⟨4, .data⟩ (by simp) rfl) rfl)) rfl (eval_tmp (hgot 12 _ 77 rfl (hdep ⟨12, .data⟩ (by simp) rfl) rfl)) rfl) (hK _ _ (fun s hs => by cases hs; rfl) hst)
    case fin =>
      intro lz v hl hst
      have mn := mm.then (Mod.drewed hst)
      clear hst hl hP hS mm
      dsimp only
      go_wp2_with fail
      have hp3 := H3.out.1
      have ht3 := H3.out.2.1
      have hs3 := H3.out.2.2.1
      have sz3 : (Tryd.prog.info? 40).map (·.size) = some (ps.map oct).length := size40_of _ H3.out.2.2.2
      have lz3 : (ps.map oct).length = ((List.replicate 32 (0 : UInt8)).map oct).length := by rw [List.length_map, H3.out.2.2.2]; rfl
      clear H3
      cases gs with
      | false =>
        clear ht3 hs3
        refine (hp3 _).mono ?_
        rintro e w11 ⟨rfl, m12⟩
        replace mn := mn.then m12
        clear m12 hp3
        go_wp2_with (first
          | (with_reducible refine wpList_allocs (o := ⟨some 15, .alloc 40, _, _, _, _⟩) rfl 40 rfl _ zero40 ?_; intro w12 hb15 m13 z13; replace z13 := Lib.hid z13)
          | (with_reducible refine wpList_storesAll (o := ⟨none, .store 40 (.tmp 15) (.tmp 82), _, _, _, _⟩) rfl 40 (.tmp 15) (.tmp 82) rfl rfl w11.heap.size (ps.map oct) rfl (.agg (ps.map oct).toArray) rfl rfl 40 _ hb15 lz3 (octs_one _) sz3 ?_; intro w13 hc15 m14 z14; replace z14 := Lib.hid z14
             have m1314 : Mod [] w11 w13 := m13.trans m14 (by intro i hi h; simp at h; omega)
             replace mn := mn.then m1314
             clear m1314 m13 m14 z13 z14 hb15)
          | (with_reducible refine wpList_loadsW (o := ⟨some 87, .load 40 (.tmp 15), _, _, _, _⟩) (by with_unfolding_all rfl) 40 (.tmp 15) rfl w11.heap.size 0 _ rfl (Cells.of_holds hc15) _ Tryd.underlying40 rfl sz3 (.agg (ps.map oct).toArray) rfl ?_))
        go_ret
        exact ⟨rfl, mn⟩
      | true =>
        rw [hs3 rfl] at ht3
        have HT3 := Lib.hid ht3
        clear ht3 hs3
        refine (hp3 _).mono ?_
        rintro e w11 ⟨rfl, m12⟩
        replace mn := mn.then m12
        clear m12 hp3
        go_wp2_with (first
          | (with_reducible refine wpList_allocs (o := ⟨some 15, .alloc 40, _, _, _, _⟩) rfl 40 rfl _ zero40 ?_; intro w12 hb15 m13 z13; replace z13 := Lib.hid z13)
          | (with_reducible refine wpList_storesAll (o := ⟨none, .store 40 (.tmp 15) (.tmp 82), _, _, _, _⟩) rfl 40 (.tmp 15) (.tmp 82) rfl rfl w11.heap.size (ps.map oct) rfl (.agg (ps.map oct).toArray) rfl rfl 40 _ hb15 lz3 (octs_one _) sz3 ?_; intro w13 hc15 m14 z14; replace z14 := Lib.hid z14
             have m1314 : Mod [] w11 w13 := m13.trans m14 (by intro i hi h; simp at h; omega)
             replace mn := mn.then m1314
             clear m1314 m13 m14 z13 z14 hb15)
          | (with_reducible refine wpList_loadsW (o := ⟨some 87, .load 40 (.tmp 15), _, _, _, _⟩) (by with_unfolding_all rfl) 40 (.tmp 15) rfl w11.heap.size 0 _ rfl (Cells.of_holds hc15) _ Tryd.underlying40 rfl sz3 (.agg (ps.map oct).toArray) rfl ?_))
        refine (HT3.out _).mono ?_
        rintro e w14 ⟨rfl, m15⟩
        replace mn := mn.then m15
        clear m15
        go_wp2_with fail
        go_ret
        exact ⟨rfl, mn⟩
  · skip
    have hDv : dg' = false := by
      rw [hD]
      simp
      omega
    subst hDv
    have hz1 : (48 : Int) ≤ (b.toNat : Int) := by omega
    have hz2 : decide ((b.toNat : Int) ≤ 57) = false := decide_eq_false (by omega)
    have hz3 : (97 : Int) ≤ (b.toNat : Int) := by omega
    have hz4 : decide ((b.toNat : Int) ≤ 102) = false := decide_eq_false (by omega)
    clear hD hb hbl
    go_wp2_with (first
      | (with_reducible refine wpList_allocs (o := ⟨some 13, .alloc 40, _, _, _, _⟩) rfl 40 rfl _ zero40 ?_; intro w10 hb13 m10 z10; replace z10 := Lib.hid z10)
      | (with_reducible refine wpList_storesAll (o := ⟨none, .store 40 (.tmp 13) (.tmp 49), _, _, _, _⟩) rfl 40 (.tmp 13) (.tmp 49) rfl rfl w9.heap.size (PO.map oct) rfl (.agg (PO.map oct).toArray) rfl rfl 40 _ hb13 lz (octs_one _) sz ?_; intro wr hP m11 z11; replace z11 := Lib.hid z11
         have m1011 : Mod [] w9 wr := m10.trans m11 (by intro i hi h; simp at h; omega)
         replace hS := hS.keep m1011 (by simp)
         replace mm := mm.then m1011
         clear m1011 m10 m11 z10 z11 hb13))
    obtain ⟨g13, e13⟩ : ∃ b, b = w9.heap.size := ⟨_, rfl⟩
    rw [← e13] at hP ⊢
    clear e13 lz sz hz1 hz2 hz3 hz4
    have hP : Holds wr.drew g13 40 (PO.map oct) := hP
    have hS : BR wr.drew g12 O := hS
    refine wp_region_lit1 [.agg (a.map oct).toArray, .int .i64 at', oct b, .string s, .pointer (some ⟨g4, 0, none⟩), undef, undef, undef, .bool false, .string T, .pointer (some ⟨g10, 0, none⟩), .int .i64 130, .slice (some ⟨g12, 0, none⟩) 64 cp, .pointer (some ⟨g13, 0, none⟩), .bool false, undef, .bool true, .bool false, .agg (a.map oct).toArray, .string T, .tuple #[.agg (a.map oct).toArray, .int .i64 0], .string T, .tuple #[.agg (a.map oct).toArray, .int .i64 0], .agg (a.map oct).toArray, .int .i64 0, .string T, .int .i64 64, .bool false, .bool false, .int .i64 0, .bool false, .bool false, .bool false, .agg (a.map oct).toArray, .agg (a.map oct).toArray, .bool false, .bool false, .string T, .slice (some ⟨g12, 0, none⟩) 64 cp, .slice (some ⟨g12, 0, none⟩) 64 cp, .int .i64 at', .int .u64 (IntKind.u64.wrap at'), .int .u64 (k : Int), oct b, .pointer (some ⟨g12, k, none⟩), .tuple #[.agg (PO.map oct).toArray, .int .i64 130], .slice (some ⟨g12, 0, none⟩) 64 cp, .string ⟨O.toArray⟩, .tuple #[.agg (PO.map oct).toArray, .int .i64 130], .agg (PO.map oct).toArray, .int .i64 130, oct b, .bool true, .bool true, oct b, .bool false, .bool false, .bool false, oct b, .bool true, .bool true, oct b, .bool false, .bool false, .bool false, .bool false, .int .i64 130, .bool false, .bool false, .bool false, .bool false, .bool false, undef, undef, undef, undef, undef, .bool false, .bool false, undef, undef, undef, undef, undef, undef, undef, undef, undef, undef, undef, undef, undef] 92 [0, 1, 2, 3, 4, 5, 6, 7, 8, 9, 10, 11, 12, 13, 14, 15, 16, 17, 18, 19, 20, 21, 22, 23, 24, 25, 26, 27, 28, 29, 30, 31, 32, 33, 34, 35, 36, 37, 38, 39, 40, 41, 42, 43, 44, 45, 46, 47, 48, 49, 50, 51, 52, 53, 54, 55, 56, 57, 58, 59, 60, 61, 62, 63, 64, 79, 80, 81, 82, 83, 84, 85, 86, 87, 88, 89, 90, 91]
      (fun _ v => Mod [] wr.drew v) []
      (by kernel_rfl) rfl rfl rfl rfl (Mod.refl _ _) (by kernel_rfl) (by kernel_rfl) ?step ?fin
    case step =>
      intro lz T v j o hj hlj hdep hst hpar hgot hcl K hK
      have hjn : j < 14 := (Array.getElem?_eq_some_iff.1 hj).1
      obtain rfl | rfl | rfl | rfl | rfl | rfl | rfl | rfl | rfl | rfl | rfl | rfl | rfl | rfl : j = 0 ∨ j = 1 ∨ j = 2 ∨ j = 3 ∨ j = 4 ∨ j = 5 ∨ j = 6 ∨ j = 7 ∨ j = 8 ∨ j = 9 ∨ j = 10 ∨ j = 11 ∨ j = 12 ∨ j = 13 := by omega
      all_goals (have hj' := Option.some.inj (hj : some _ = some o); subst hj'; clear hj)
      · exact wp_ran rfl (exec_move rfl (eval_tmp (hpar 14 (by simp)))) (hK _ _ (fun s hs => by cases hs; rfl) hst)
      · exact wp_ran rfl (exec_move rfl (eval_tmp (hpar 11 (by simp)))) (hK _ _ (fun s hs => by cases hs; rfl) hst)
      · exact wp_ran rfl (exec_eqi rfl (eval_tmp (hgot 1 _ 66 rfl (hdep ⟨1, .data⟩ (by simp) rfl) rfl)) rfl) (hK _ _ (fun s hs => by cases hs; rfl) hst)
      · exact wp_ran rfl (exec_neb Tryd.underlying4 rfl (eval_tmp (hgot 0 _ 65 rfl (hdep ⟨0, .data⟩ (by simp) rfl) rfl)) (eval_tmp (hgot 2 _ 67 rfl (hdep ⟨2, .data⟩ (by simp) rfl) rfl))) (hK _ _ (fun s hs => by cases hs; rfl) hst)
      · exact wp_ran rfl (exec_move rfl (eval_tmp (hgot 3 _ 68 rfl (hdep ⟨3, .data⟩ (by simp) rfl) rfl))) (hK _ _ (fun s hs => by cases hs; rfl) hst)
      · exact wp_ranW (wanted_yes rfl rfl rfl (hgot 4 _ 69 rfl (hdep ⟨4, .guard⟩ (by simp) rfl) rfl)) (exec_move rfl (eval_tmp (hpar 14 (by simp)))) (hK _ _ (fun s hs => by cases hs; rfl) hst)
      · exact wp_ranW (wanted_yes rfl rfl rfl (hgot 4 _ 69 rfl (hdep ⟨4, .guard⟩ (by simp) rfl) rfl)) (exec_move rfl (eval_tmp (hgot 5 _ 70 rfl (hdep ⟨5, .data⟩ (by simp) rfl) rfl))) (hK _ _ (fun s hs => by cases hs; rfl) hst)
      · exact wp_skip (wanted_no rfl rfl rfl rfl (hgot 6 _ 71 rfl (hdep ⟨6, .guard⟩ (by simp) rfl) rfl)) (hK _ _ (fun s hs => by cases hs; rfl) hst)
      · exact wp_skip (wanted_no rfl rfl rfl rfl (hgot 6 _ 71 rfl (hdep ⟨6, .guard⟩ (by simp) rfl) rfl)) (hK _ _ (fun s hs => by cases hs; rfl) hst)
      · exact wp_skip (wanted_no rfl rfl rfl rfl (hgot 6 _ 71 rfl (hdep ⟨6, .guard⟩ (by simp) rfl) rfl)) (hK _ _ (fun s hs => by cases hs; rfl) hst)
      · exact wp_skip (wanted_no rfl rfl rfl rfl (hgot 6 _ 71 rfl (hdep ⟨6, .guard⟩ (by simp) rfl) rfl)) (hK _ _ (fun s hs => by cases hs; rfl) hst)
      · exact wp_skip (wanted_no rfl rfl rfl rfl (hgot 6 _ 71 rfl (hdep ⟨6, .guard⟩ (by simp) rfl) rfl)) (hK _ _ (fun s hs => by cases hs; rfl) hst)
      · exact wp_ranW (wanted_yes rfl rfl rfl (hgot 4 _ 69 rfl (hdep ⟨4, .guard⟩ (by simp) rfl) rfl)) (exec_pick rfl (eval_tmp (hgot 6 _ 71 rfl (hdep ⟨6, .data⟩ (by simp) rfl) rfl)) (eval_tmp (hgot 11 _ 76 rfl (hdep ⟨11, .data⟩ (by simp) rfl) rfl)) rfl rfl) (hK _ _ (fun s hs => by cases hs; rfl) hst)
      · exact wp_ran rfl (exec_pick rfl (eval_tmp (hgot 4 _ 69 rfl (hdep ⟨4, .data⟩ (by simp) rfl) rfl)) rfl (eval_tmp (hgot 12 _ 77 rfl (hdep ⟨12, .data⟩ (by simp) rfl) rfl)) rfl) (hK _ _ (fun s hs => by cases hs; rfl) hst)
    case fin =>
      intro lz v hl hst
      have mn := mm.then (Mod.drewed hst)
      clear hst hl hP hS mm
      dsimp only
      go_wp2_with fail
      have hp3 := H3.out.1
      have ht3 := H3.out.2.1
      have hs3 := H3.out.2.2.1
      have sz3 : (Tryd.prog.info? 40).map (·.size) = some (ps.map oct).length := size40_of _ H3.out.2.2.2
      have lz3 : (ps.map oct).length = ((List.replicate 32 (0 : UInt8)).map oct).length := by rw [List.length_map, H3.out.2.2.2]; rfl
      clear H3
      cases gs with
      | false =>
        clear ht3 hs3
        refine (hp3 _).mono ?_
        rintro e w11 ⟨rfl, m12⟩
        replace mn := mn.then m12
        clear m12 hp3
        go_wp2_with (first
          | (with_reducible refine wpList_allocs (o := ⟨some 15, .alloc 40, _, _, _, _⟩) rfl 40 rfl _ zero40 ?_; intro w12 hb15 m13 z13; replace z13 := Lib.hid z13)
          | (with_reducible refine wpList_storesAll (o := ⟨none, .store 40 (.tmp 15) (.tmp 82), _, _, _, _⟩) rfl 40 (.tmp 15) (.tmp 82) rfl rfl w11.heap.size (ps.map oct) rfl (.agg (ps.map oct).toArray) rfl rfl 40 _ hb15 lz3 (octs_one _) sz3 ?_; intro w13 hc15 m14 z14; replace z14 := Lib.hid z14
             have m1314 : Mod [] w11 w13 := m13.trans m14 (by intro i hi h; simp at h; omega)
             replace mn := mn.then m1314
             clear m1314 m13 m14 z13 z14 hb15)
          | (with_reducible refine wpList_loadsW (o := ⟨some 87, .load 40 (.tmp 15), _, _, _, _⟩) (by with_unfolding_all rfl) 40 (.tmp 15) rfl w11.heap.size 0 _ rfl (Cells.of_holds hc15) _ Tryd.underlying40 rfl sz3 (.agg (ps.map oct).toArray) rfl ?_))
        go_ret
        exact ⟨rfl, mn⟩
      | true =>
        rw [hs3 rfl] at ht3
        have HT3 := Lib.hid ht3
        clear ht3 hs3
        refine (hp3 _).mono ?_
        rintro e w11 ⟨rfl, m12⟩
        replace mn := mn.then m12
        clear m12 hp3
        go_wp2_with (first
          | (with_reducible refine wpList_allocs (o := ⟨some 15, .alloc 40, _, _, _, _⟩) rfl 40 rfl _ zero40 ?_; intro w12 hb15 m13 z13; replace z13 := Lib.hid z13)
          | (with_reducible refine wpList_storesAll (o := ⟨none, .store 40 (.tmp 15) (.tmp 82), _, _, _, _⟩) rfl 40 (.tmp 15) (.tmp 82) rfl rfl w11.heap.size (ps.map oct) rfl (.agg (ps.map oct).toArray) rfl rfl 40 _ hb15 lz3 (octs_one _) sz3 ?_; intro w13 hc15 m14 z14; replace z14 := Lib.hid z14
             have m1314 : Mod [] w11 w13 := m13.trans m14 (by intro i hi h; simp at h; omega)
             replace mn := mn.then m1314
             clear m1314 m13 m14 z13 z14 hb15)
          | (with_reducible refine wpList_loadsW (o := ⟨some 87, .load 40 (.tmp 15), _, _, _, _⟩) (by with_unfolding_all rfl) 40 (.tmp 15) rfl w11.heap.size 0 _ rfl (Cells.of_holds hc15) _ Tryd.underlying40 rfl sz3 (.agg (ps.map oct).toArray) rfl ?_))
        refine (HT3.out _).mono ?_
        rintro e w14 ⟨rfl, m15⟩
        replace mn := mn.then m15
        clear m15
        go_wp2_with fail
        go_ret
        exact ⟨rfl, mn⟩
end Go.Proofs.YtgojheoelcmcpaaDoor
