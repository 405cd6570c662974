/-
  Contracts of package sha: behind. My own work.
-/
import Derived.Test.YtdolihecjomjiaaDoorCut
namespace Go.Proofs.YtdolihecjomjiaaDoor
open Go.RowKit
set_option maxRecDepth 1000000 in
set_option maxHeartbeats 8000000 in
theorem behind_c (c h : List UInt32) (hc : c.length = 64) (hh : h.length = 8) (A : Option Addr) (bb : List UInt8) (n cap : Nat) (hn : n = bb.length) (hcap : bb.length ≤ cap) (hl : bb.length ≤ 9223372036854775807) (w : World) (G : Cells w (some ⟨1, 0, none⟩) (c.map wd)) (R : Reads w A bb) :
    Calls Tryd.prog 38 #[.agg (h.map wd).toArray, .slice A n cap] w fun e w' => e = .returned (.agg ((beh c h bb (bb.length / 64)).map wd).toArray) ∧ Mod [] w w' := by
  subst hn
  obtain ⟨q, hq⟩ : ∃ q, q = bb.length / 64 := ⟨_, rfl⟩
  have hq' : ((bb.length : Int) / 64) = (q : Int) := by omega
  have hql : q * 64 ≤ bb.length := by omega
  have hqb : (q : Int) ≤ 9223372036854775806 := by omega
  rw [← hq]
  have HB := Lib.hid (And.intro hc (And.intro hh (And.intro hcap (And.intro hql (And.intro (beh_length c h bb hh) hl)))))
  clear hc hh hcap hq hql hl
  go_enter Tryd.func38, Tryd.ntmps38
  go_wp2_with (first
    | (with_reducible refine wpList_boxes (o := ⟨some 2, .box 68 (.tmp 0), _, _, _, _⟩) rfl 68 (.tmp 0) rfl _ rfl (h.map wd) rfl ?_; intro w1 hb1 m1 z1; replace z1 := Lib.hid z1)
    | (with_reducible refine wpList_allocs (o := ⟨some 4, .alloc 68, _, _, _, _⟩) rfl 68 rfl _ zero68 ?_; intro w3 hb3 m3 z3; replace z3 := Lib.hid z3))
  obtain ⟨g2, e1⟩ : ∃ b, b = w.heap.size := ⟨_, rfl⟩
  obtain ⟨g4, e3⟩ : ∃ b, b = w1.heap.size := ⟨_, rfl⟩
  have q0 : w.heap.size ≤ g2 := by omega
  have q1 : g2 < g4 := by have := z1.out; omega
  replace hb1 := hb1.keep m3 (by simp)
  have mm : Mod [] w w3 := m1.then m3
  rw [← e1] at hb1
  rw [← e3] at hb3
  rw [← e1, ← e3]
  have QQ := Lib.hid (And.intro q0 q1)
  clear e1 e3 m1 m3 z1 z3 q0 q1
  go_loopw [9] (fun i wi => ∃ k : Nat, k ≤ q ∧ i = .int .i64 (k : Int) ∧ Holds wi g2 68 ((beh c h bb k).map wd) ∧ Holds wi g4 68 ((List.replicate 8 (0 : UInt32)).map wd) ∧ Mod [] w wi) (fun i _ => q - (intOf i).toNat)
  case atStart => exact ⟨0, by omega, rfl, hb1, hb3, mm⟩
  case round =>
    clear hb1 hb3 mm
    obtain ⟨k, hk, rfl, k2, k4, mk⟩ := hrel
    by_cases hlt : k < q
    · have hz : (k : Int) < (q : Int) := by omega
      have HK := Lib.hid hlt
      clear hlt hk
      go_wp2_with fail
      clear hz
      refine wp_region_lit1 [.agg (h.map wd).toArray, .slice A bb.length cap, .pointer (some ⟨g2, 0, none⟩), undef, .pointer (some ⟨g4, 0, none⟩), .int .i64 (k : Int), .slice A bb.length cap, .int .i64 (bb.length : Int), .int .i64 (q : Int), .int .i64 (k : Int), .bool true, .int .i64 (k : Int), .agg ((beh c h bb k).map wd).toArray, .slice A bb.length cap, .int .i64 (k : Int), .int .i64 ((k * 64 : Nat) : Int), .slice (frm A (k * 64) cap) (bb.length - k * 64) (cap - k * 64), .pointer (frm A (k * 64) cap), .agg (((bb.drop (k * 64)).take 64).map oct).toArray, .agg ((beh c h bb (k + 1)).map wd).toArray, u20, undef] 22 [0, 1, 2, 3, 4, 5, 6, 7, 8, 9, 10, 11, 20, 21]
        (Sto 8 (fun v => Mod [] wr.drew v) (fun v => Holds v g2 68 ((beh c h bb (k + 1)).map wd) ∧ Mod [g2] wr.drew v)) []
        (by kernel_rfl) rfl rfl rfl rfl (Sto.start (Mod.refl _ _)) (by kernel_rfl) (by kernel_rfl) ?step ?fin
      case step =>
        intro l T v j o hj hlj hdep hst hpar hgot hcl K hK
        have hjn : j < 9 := (Array.getElem?_eq_some_iff.1 hj).1
        have hq := fun h => Sto.now (j := j) hst hlj h
        obtain rfl | rfl | rfl | rfl | rfl | rfl | rfl | rfl | rfl : j = 0 ∨ j = 1 ∨ j = 2 ∨ j = 3 ∨ j = 4 ∨ j = 5 ∨ j = 6 ∨ j = 7 ∨ j = 8 := by omega
        all_goals (have hj' := Option.some.inj (hj : some _ = some o); subst hj'; clear hj)
        · exact wp_ran rfl (exec_load rfl (eval_tmp (hpar 2 (by simp))) (run_loads (Cells.of_holds (Holds.keep (w := wr.drew) k2 (hq (by decide)).2 (by simp))) Tryd.underlying68 rfl (size26_of _ (HB.out.2.2.2.2.1 _)))) (hK _ _ (fun s hs => by cases hs; rfl) (Sto.keep (hq (by decide)) (by decide) (hq (by decide)).2))
        · exact wp_ran rfl (exec_move rfl (eval_tmp (hpar 1 (by simp)))) (hK _ _ (fun s hs => by cases hs; rfl) (Sto.keep (hq (by decide)) (by decide) (hq (by decide)).2))
        · exact wp_ran rfl (exec_move rfl (eval_tmp (hpar 5 (by simp)))) (hK _ _ (fun s hs => by cases hs; rfl) (Sto.keep (hq (by decide)) (by decide) (hq (by decide)).2))
        · exact wp_ran rfl (exec_mul rfl (eval_tmp (hgot 2 _ 14 rfl (hdep ⟨2, .data⟩ (by simp) rfl) rfl)) rfl (mul_n k 64 (by have := HB.out; have := HK.out; omega))) (hK _ _ (fun s hs => by cases hs; rfl) (Sto.keep (hq (by decide)) (by decide) (hq (by decide)).2))
        · exact wp_ran rfl (exec_from Tryd.underlying58 u8_one (by have := HB.out; have := HK.out; omega) rfl (eval_tmp (hgot 1 _ 13 rfl (hdep ⟨1, .data⟩ (by simp) rfl) rfl)) (eval_tmp (hgot 3 _ 15 rfl (hdep ⟨3, .data⟩ (by simp) rfl) rfl))) (hK _ _ (fun s hs => by cases hs; rfl) (Sto.keep (hq (by decide)) (by decide) (hq (by decide)).2))
        · exact wp_ran rfl (exec_arr Tryd.underlying76 (by have := HB.out; have := HK.out; omega) rfl (eval_tmp (hgot 4 _ 16 rfl (hdep ⟨4, .data⟩ (by simp) rfl) rfl))) (hK _ _ (fun s hs => by cases hs; rfl) (Sto.keep (hq (by decide)) (by decide) (hq (by decide)).2))
        · have hR := ((R.keep (mk.then (Mod.drewed (hq (by decide)).2)) (by simp)).from (k * 64) cap HB.out.2.2.1).first 64
          have hlen : ((bb.drop (k * 64)).take 64).length = 64 := by have := HB.out; have := HK.out; simp; omega
          obtain ⟨ga, oa, hA, _⟩ := hR 0 (by omega)
          rw [hA] at hR
          have hE : T.eval (.tmp 17) = .pointer (some ⟨ga, oa, none⟩) := (show T.eval (.tmp 17) = .pointer (frm A (k * 64) cap) from (eval_tmp (hgot 5 _ 17 rfl (hdep ⟨5, .data⟩ (by simp) rfl) rfl))).trans (congrArg Value.pointer hA)
          exact wp_ran rfl (exec_load rfl hE (run_loads hR.cells Tryd.underlying76 rfl (by rw [List.length_map, hlen]; exact size76))) (hK _ _ (fun s hs => by cases hs; rfl) (Sto.keep (hq (by decide)) (by decide) (hq (by decide)).2))
        · exact wp_called rfl (exec_call2 rfl rfl (eval_tmp (hgot 0 _ 12 rfl (hdep ⟨0, .data⟩ (by simp) rfl) rfl)) (eval_tmp (hgot 6 _ 18 rfl (hdep ⟨6, .data⟩ (by simp) rfl) rfl)) (enters_of Tryd.func44 (by kernel_rfl) rfl)) ((block_beh c h bb k HB.out.1 HB.out.2.1 (by have := HB.out; have := HK.out; omega) _ (G.keep (mk.then (Mod.drewed (hq (by decide)).2)) (by simp))).mono (fun e v' hh => ⟨_, hh.1, hK _ _ (fun s hs => by cases hs; rfl) (Sto.keep (hq (by decide)) (by decide) ((hq (by decide)).2.then hh.2))⟩))
        · exact wp_stored (ty := 68) (V := .agg ((beh c h bb (k + 1)).map wd).toArray) (cs := (beh c h bb (k + 1)).map wd) rfl rfl (eval_tmp (hpar 2 (by simp))) (eval_tmp (hgot 7 _ 19 rfl (hdep ⟨7, .data⟩ (by simp) rfl) rfl)) rfl (Holds.keep (w := wr.drew) k2 (hq (by decide)).2 (by simp)) (by rw [List.length_map, List.length_map, HB.out.2.2.2.2.1, HB.out.2.2.2.2.1]) (words_one _) (size26_of _ (HB.out.2.2.2.2.1 _)) (fun v' q1 q2 => hK _ _ (fun s hs => by cases hs) (Sto.done (reach_all (by kernel_rfl) hcl rfl hdep) ⟨q1, (hq (by decide)).2.pre q2⟩))
      case fin =>
        intro l v hl hst
        obtain ⟨n2, nm⟩ := Sto.fin hst hl (by decide)
        have n4 := Holds.keep (w := wr.drew) k4 nm (by simp; have := QQ.out; omega)
        have mn : Mod [] w v := ⟨nm.os.trans mk.os, nm.tape.trans mk.tape, nm.output.trans mk.output, Nat.le_trans mk.size nm.size, fun i hi _ => by
          rw [nm.block i (Nat.lt_of_lt_of_le hi mk.size) (by simp; have := QQ.out; omega), show wr.drew.heap[i]? = wr.heap[i]? from rfl, mk.block i hi (by simp)]⟩
        have hk1 : k + 1 ≤ q := HK.out
        have HN := Lib.hid (And.intro hk1 (And.intro n2 (And.intro n4 mn)))
        have hz : (k : Int) < (q : Int) := by have := HK.out; omega
        have hz2 : (q : Int) ≤ 9223372036854775806 := by have := HB.out; omega
        clear n2 n4 mn nm hst hl hk1 k2 k4 mk
        try dsimp only
        go_wp2_with fail
        exact ⟨⟨k + 1, HN.out.1, by go_num, HN.out.2.1, HN.out.2.2.1, HN.out.2.2.2⟩, by simp [intOf]; omega⟩
    · obtain rfl : k = q := by omega
      have HL := Lib.hid (And.intro mk QQ.out)
      clear mk hlt hk
      go_wp2_with (first
        | (with_reducible refine wpList_loads (o := ⟨some 21, .load 68 (.tmp 2), _, _, _, _⟩) rfl 68 (.tmp 2) rfl g2 0 _ rfl (Cells.of_holds k2) _ Tryd.underlying68 rfl (size26_of _ (HB.out.2.2.2.2.1 _)) (.agg ((beh c h bb k).map wd).toArray) rfl ?_)
        | (with_reducible refine wpList_storesAll (o := ⟨none, .store 68 (.tmp 4) (.tmp 21), _, _, _, _⟩) rfl 68 (.tmp 4) (.tmp 21) rfl rfl g4 ((beh c h bb k).map wd) rfl (.agg ((beh c h bb k).map wd).toArray) rfl rfl 68 _ k4 (by rw [List.length_map, List.length_map, HB.out.2.2.2.2.1, List.length_replicate]) (words_one _) (size26_of _ (HB.out.2.2.2.2.1 _)) ?_; intro w7 hw7 m7 z7))
      refine bodyPost_ret (results_cell_row rfl _ _ g4 68 _ (0, 0) _ rfl hw7 Tryd.underlying68 rfl (by rw [List.size_toArray]; exact size26_of _ (HB.out.2.2.2.2.1 _))) rfl ?_
      obtain ⟨l3, l4⟩ := HL.out
      exact ⟨rfl, ⟨m7.os.trans l3.os, m7.tape.trans l3.tape, m7.output.trans l3.output, Nat.le_trans l3.size m7.size, fun i hi _ => by rw [m7.block i (Nat.lt_of_lt_of_le hi l3.size) (by simp; omega), l3.block i hi (by simp)]⟩⟩
end Go.Proofs.YtdolihecjomjiaaDoor
