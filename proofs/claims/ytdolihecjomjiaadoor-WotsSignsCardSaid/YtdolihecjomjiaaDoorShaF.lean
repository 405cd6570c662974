/-
  Contracts of package sha: Block. My own work.
-/
import Derived.Test.YtdolihecjomjiaaDoorBlk
namespace Go.Proofs.YtdolihecjomjiaaDoor
open Go.RowKit
theorem gcell {v : World} {c : List UInt32} (h : Cells v (some ⟨1, 0, none⟩) (c.map wd)) {i : Nat} (hi : i < c.length) : v.cell? ⟨1, 0 + i, none⟩ = some (wd (g0 c i)) := by
  have := h.at i (by simpa using hi)
  simpa [g0, hi] using this
set_option maxRecDepth 1000000 in
set_option maxHeartbeats 8000000 in
theorem block_c (c h : List UInt32) (b : List UInt8) (hc : c.length = 64) (hh : h.length = 8) (hb : b.length = 64) (w : World) (G : Cells w (some ⟨1, 0, none⟩) (c.map wd)) :
    Calls Tryd.prog 44 #[.agg (h.map wd).toArray, .agg (b.map oct).toArray] w fun e w' => e = .returned (.agg ((blkN c h (first16 b)).map wd).toArray) ∧ Mod [] w w' := by
  have hf := first16_length b
  have hG0 : 1 < w.heap.size := G.lt (by simp [hc])
  have HB := Lib.hid (And.intro hb (And.intro hc (And.intro hh (And.intro hf hG0))))
  clear hb hc hh hf hG0
  go_enter Tryd.func44, Tryd.ntmps44
  go_wp2_with (first
    | (with_reducible refine wpList_boxes (o := ⟨some 2, .box 68 (.tmp 0), _, _, _, _⟩) rfl 68 (.tmp 0) rfl _ rfl (h.map wd) rfl ?_; intro w1 hb1 m1 z1; replace z1 := Lib.hid z1)
    | (with_reducible refine wpList_boxes (o := ⟨some 3, .box 76 (.tmp 1), _, _, _, _⟩) rfl 76 (.tmp 1) rfl _ rfl (b.map oct) rfl ?_; intro w2 hb2 m2 z2; replace z2 := Lib.hid z2)
    | (with_reducible refine wpList_allocs (o := ⟨some 4, .alloc 68, _, _, _, _⟩) rfl 68 rfl _ zero68 ?_; intro w3 hb3 m3 z3; replace z3 := Lib.hid z3))
  obtain ⟨g2, e1⟩ : ∃ b, b = w.heap.size := ⟨_, rfl⟩
  obtain ⟨g3, e2⟩ : ∃ b, b = w1.heap.size := ⟨_, rfl⟩
  obtain ⟨g4, e3⟩ : ∃ b, b = w2.heap.size := ⟨_, rfl⟩
  have q0 : w.heap.size ≤ g2 := by omega
  have q1 : g2 < g3 := by have := z1.out; omega
  have q2 : g3 < g4 := by have := z2.out; omega
  have q3 : g4 < w3.heap.size := by have := z3.out; omega
  replace hb1 := (hb1.keep m2 (by simp)).keep m3 (by simp)
  replace hb2 := hb2.keep m3 (by simp)
  have mm : Mod [] w w3.drew := ((m1.then m2).then m3).then (Mod.drew [] _)
  rw [← e1] at hb1
  rw [← e2] at hb2
  rw [← e3] at hb3
  rw [← e1, ← e2, ← e3]
  have Q0 := Lib.hid q0
  clear e1 e2 e3 m1 m2 m3 z1 z2 z3 q0
  replace hb1 : Holds w3.drew g2 68 (h.map wd) := hb1
  replace hb2 : Holds w3.drew g3 76 (b.map oct) := hb2
  replace hb3 : Holds w3.drew g4 68 ((List.replicate 8 (0 : UInt32)).map wd) := hb3
  refine wp_region_lit ((0, 0)) (fun x => [.agg (h.map wd).toArray, .agg (b.map oct).toArray, .pointer (some ⟨g2, 0, none⟩), .pointer (some ⟨g3, 0, none⟩), .pointer (some ⟨g4, 0, none⟩), .pointer (some ⟨x.1, 0, none⟩), .pointer (some ⟨x.2, 0, none⟩), undef, undef, .agg (h.map wd).toArray, .agg (b.map oct).toArray, .agg ((first16 b).map wd).toArray, undef, undef, undef, undef, undef, undef, undef, undef, undef, undef, undef, undef, undef, undef, undef, undef, undef, undef, undef, undef, undef, undef, undef, undef, undef]) 37 [0, 1, 2, 3, 4, 7, 8, 12, 13, 14, 15, 16, 17, 18, 19, 20, 21, 22, 23, 24, 25, 26, 27, 28, 29, 30, 31, 32, 33, 34, 35, 36]
    (fun x l v => BlkSt h (first16 b) w3.drew.heap.size w3.drew x (l 3) (l 4) (l 5) (l 6) v) []
    (by kernel_rfl) (fun _ => rfl) rfl rfl rfl (fun _ => rfl) (BlkSt.start) (by kernel_rfl) (by kernel_rfl) ?step ?fin
  case step =>
    intro x l T v j o hj hlj hdep hst hpar hgot hcl K hK
    have hjn : j < 7 := (Array.getElem?_eq_some_iff.1 hj).1
    obtain rfl | rfl | rfl | rfl | rfl | rfl | rfl : j = 0 ∨ j = 1 ∨ j = 2 ∨ j = 3 ∨ j = 4 ∨ j = 5 ∨ j = 6 := by omega
    all_goals (have hj' := Option.some.inj (hj : some _ = some o); subst hj'; clear hj)
    · exact wp_ran rfl (exec_load rfl (eval_tmp (hpar 2 (by simp))) (run_loads (Cells.of_holds (hb1.keep hst.1 (by simp))) Tryd.underlying68 rfl (size26_of _ HB.out.2.2.1))) (hK x _ _ (fun _ _ _ _ _ _ => rfl) (fun s hs => by cases hs; rfl) hst)
    · exact wp_ran rfl (exec_load rfl (eval_tmp (hpar 3 (by simp))) (run_loads (Cells.of_holds (hb2.keep hst.1 (by simp))) Tryd.underlying76 rfl (by rw [List.length_map, HB.out.1]; exact size76))) (hK x _ _ (fun _ _ _ _ _ _ => rfl) (fun s hs => by cases hs; rfl) hst)
    · exact wp_called rfl (exec_call1 rfl rfl (eval_tmp (hgot 1 _ 10 rfl (hdep ⟨1, .data⟩ (by simp) rfl) rfl)) (enters_of Tryd.func47 (by kernel_rfl) rfl)) ((first_c b HB.out.1 _).mono (fun e v' hh => ⟨_, hh.1, hK x _ _ (fun _ _ _ _ _ _ => rfl) (fun s hs => by cases hs; rfl) (BlkSt.keep hst hh.2)⟩))
    · have h0 : l 5 = false := by
        cases h5 : l 5 with
        | false => rfl
        | true => exact absurd (hcl 5 _ rfl h5 ⟨3, .data⟩ (by simp) rfl) (by rw [hlj]; simp)
      have hst' := hst
      rw [hlj] at hst'
      exact wp_alloced (cs := (List.replicate 8 (0 : UInt32)).map wd) rfl rfl zero80 (fun v' q m => hK (v.heap.size, x.2) _ _ (fun j' o' s' h1 h2 h3 => by
              clear hst hst' hpar hgot hdep hcl hK
              have h4 : j' < 7 := (Array.getElem?_eq_some_iff.1 h1).1
              obtain rfl | rfl | rfl | rfl | rfl | rfl | rfl : j' = 0 ∨ j' = 1 ∨ j' = 2 ∨ j' = 3 ∨ j' = 4 ∨ j' = 5 ∨ j' = 6 := by omega
              all_goals (cases h1; cases h3 <;> first | rfl | (rw [hlj] at h2; cases h2))) (fun s hs => by cases hs; rfl) (BlkSt.new1 hst' h0 (Nat.le_refl _) q m))
    · have h0 : l 6 = false := by
        cases h5 : l 6 with
        | false => rfl
        | true => exact absurd (hcl 6 _ rfl h5 ⟨4, .data⟩ (by simp) rfl) (by rw [hlj]; simp)
      have hst' := hst
      rw [hlj] at hst'
      exact wp_alloced (cs := (List.replicate 16 (0 : UInt32)).map wd) rfl rfl zero82 (fun v' q m => hK (x.1, v.heap.size) _ _ (fun j' o' s' h1 h2 h3 => by
              clear hst hst' hpar hgot hdep hcl hK
              have h4 : j' < 7 := (Array.getElem?_eq_some_iff.1 h1).1
              obtain rfl | rfl | rfl | rfl | rfl | rfl | rfl : j' = 0 ∨ j' = 1 ∨ j' = 2 ∨ j' = 3 ∨ j' = 4 ∨ j' = 5 ∨ j' = 6 := by omega
              all_goals (cases h1; cases h3 <;> first | rfl | (rw [hlj] at h2; cases h2))) (fun s hs => by cases hs; rfl) (BlkSt.new2 hst' h0 (Nat.le_refl _) q m))
    · have hst' := hst
      rw [hlj, hdep ⟨3, .data⟩ (by simp) rfl] at hst'
      have k1 := (hst'.2.1 rfl).2
      exact wp_stored (ty := 80) (V := .agg (h.map wd).toArray) (cs := h.map wd) rfl rfl (eval_tmp (hgot 3 _ 5 rfl (hdep ⟨3, .data⟩ (by simp) rfl) rfl)) (eval_tmp (hgot 0 _ 9 rfl (hdep ⟨0, .data⟩ (by simp) rfl) rfl)) rfl k1 (by rw [List.length_map, if_neg (by simp), List.length_map, HB.out.2.2.1, List.length_replicate]) (words_one _) (size56_of _ HB.out.2.2.1) (fun v' q1 q2 => hK x _ _ (fun _ _ _ _ _ _ => rfl) (fun s hs => by cases hs) (by
            have e3 := hdep ⟨3, .data⟩ (by simp) rfl
            show BlkSt _ _ _ _ x (l 3) (l 4) true (l 6) v'
            rw [e3]
            exact BlkSt.put1 hst' (Nat.le_refl _) q1 q2))
    · have hst' := hst
      rw [hlj, hdep ⟨4, .data⟩ (by simp) rfl] at hst'
      have k1 := (hst'.2.2 rfl).2
      exact wp_stored (ty := 82) (V := .agg ((first16 b).map wd).toArray) (cs := (first16 b).map wd) rfl rfl (eval_tmp (hgot 4 _ 6 rfl (hdep ⟨4, .data⟩ (by simp) rfl) rfl)) (eval_tmp (hgot 2 _ 11 rfl (hdep ⟨2, .data⟩ (by simp) rfl) rfl)) rfl k1 (by rw [List.length_map, if_neg (by simp), List.length_map, HB.out.2.2.2.1, List.length_replicate]) (words_one _) (size58_of _ HB.out.2.2.2.1) (fun v' q1 q2 => hK x _ _ (fun _ _ _ _ _ _ => rfl) (fun s hs => by cases hs) (by
            have e3 := hdep ⟨4, .data⟩ (by simp) rfl
            show BlkSt _ _ _ _ x (l 3) (l 4) (l 5) true v'
            rw [e3]
            exact BlkSt.put2 hst' (Nat.le_refl _) q1 q2))
  case fin =>
    intro x l v hl hst
    have e3 := hl 3 (by decide)
    have e4 := hl 4 (by decide)
    have e5 := hl 5 (by decide)
    have e6 := hl 6 (by decide)
    have s : BlkSt h (first16 b) w3.drew.heap.size w3.drew x true true true true v := by
      have s := hst
      rw [e3, e4, e5, e6] at s
      exact s
    obtain ⟨g5, g6⟩ := x
    obtain ⟨k1, k2, k3⟩ := s
    obtain ⟨k4, k5⟩ := k2 rfl
    obtain ⟨k6, k7⟩ := k3 rfl
    replace k5 : Holds v g5 80 (h.map wd) := k5
    replace k7 : Holds v g6 82 ((first16 b).map wd) := k7
    have k4' : w3.heap.size ≤ g5 := k4
    have k6' : w3.heap.size ≤ g6 := k6
    have k8 := hb1.keep k1 (by simp)
    have k9 := hb3.keep k1 (by simp)
    have mk := mm.then k1
    have Gk := G.keep mk (by simp)
    obtain ⟨wv, rfl⟩ : ∃ u, u = v := ⟨_, rfl⟩
    have QQ := Lib.hid (And.intro Q0.out (And.intro q1 (And.intro q2 (And.intro q3 (And.intro k4' k6')))))
    clear hst hl e3 e4 e5 e6 hb1 hb2 hb3 k1 k2 k3 k4 k6 k4' k6' mm G Q0 q1 q2 q3
    dsimp only
    go_wp2_with fail
    go_loopw [12] (fun i wi => ∃ (t : Nat) (R L : List UInt32), t ≤ 64 ∧ i = .int .i64 (t : Int) ∧ Ring (first16 b) t R ∧ Eight h (sums c (first16 b)) t L ∧ Holds wi g6 82 (R.map wd) ∧ Holds wi g5 80 (L.map wd) ∧ Holds wi g2 68 (h.map wd) ∧ Holds wi g4 68 ((List.replicate 8 (0 : UInt32)).map wd) ∧ Cells wi (some ⟨1, 0, none⟩) (c.map wd) ∧ Mod [] w wi) (fun i _ => 64 - (intOf i).toNat)
    case atStart => exact ⟨0, _, _, by omega, rfl, Ring.start _ HB.out.2.2.2.1, Eight.start _ _ HB.out.2.2.1, k7, k5, k8, k9, Gk, mk⟩
    case round =>
      clear k5 k7 k8 k9 mk Gk
      obtain ⟨t, R, L, ht, rfl, hR, hL, k7, k5, k8, k9, Gk, mk⟩ := hrel
      by_cases hlt : t < 64
      · have hz : (t : Int) < 64 := by omega
        have HT := Lib.hid (And.intro hlt (And.intro hR hL))
        clear hlt hR hL ht
        go_wp2_with fail
        clear hz
        refine wp_region_lit1 [.agg (h.map wd).toArray, .agg (b.map oct).toArray, .pointer (some ⟨g2, 0, none⟩), .pointer (some ⟨g3, 0, none⟩), .pointer (some ⟨g4, 0, none⟩), .pointer (some ⟨g5, 0, none⟩), .pointer (some ⟨g6, 0, none⟩), .int .i64 (t : Int), undef, .agg (h.map wd).toArray, .agg (b.map oct).toArray, .agg ((first16 b).map wd).toArray, .int .i64 (t : Int), .bool true, .int .i64 (t : Int), .int .i64 (t : Int), .int .i64 (t : Int), .pointer (some ⟨1, 0 + t, none⟩), wd (g0 c t), .int .i64 (t : Int), wd (ringW t R), wd (g0 c t + ringW t R), .tuple #[], u23, undef, undef, undef, undef, undef, undef, undef, undef, undef, undef, undef, undef, undef] 37 [0, 1, 2, 3, 4, 5, 6, 7, 8, 9, 10, 11, 12, 13, 14, 23, 24, 25, 26, 27, 28, 29, 30, 31, 32, 33, 34, 35, 36]
          (fun l v => RndSt g5 g6 R (ringL t R) L (stepL t (g0 c t + ringW t R) L) wr.drew (l 5) (l 7) v) []
          (by kernel_rfl) rfl rfl rfl rfl (⟨k7, k5, Mod.refl _ _⟩) (by kernel_rfl) (by kernel_rfl) ?step ?fin
        case step =>
          intro l T v j o hj hlj hdep hst hpar hgot hcl K hK
          have hjn : j < 8 := (Array.getElem?_eq_some_iff.1 hj).1
          have hGv : Cells v (some ⟨1, 0, none⟩) (c.map wd) := Cells.keep (w := wr.drew) Gk hst.2.2 (by
            rintro _ ⟨⟩
            have h1 := QQ.out
            have h2 := HB.out.2.2.2.2
            have h3 : 1 ≠ g6 := by omega
            have h4 : 1 ≠ g5 := by omega
            simp [h3, h4])
          obtain rfl | rfl | rfl | rfl | rfl | rfl | rfl | rfl : j = 0 ∨ j = 1 ∨ j = 2 ∨ j = 3 ∨ j = 4 ∨ j = 5 ∨ j = 6 ∨ j = 7 := by omega
          all_goals (have hj' := Option.some.inj (hj : some _ = some o); subst hj'; clear hj)
          · exact wp_ran rfl (exec_move rfl (eval_tmp (hpar 7 (by simp)))) (hK _ _ (fun s hs => by cases hs; rfl) hst)
          · exact wp_ran rfl (exec_move rfl (eval_tmp (hpar 7 (by simp)))) (hK _ _ (fun s hs => by cases hs; rfl) hst)
          · exact wp_ran rfl (exec_at Tryd.underlying85 info67 HT.out.1 rfl rfl (eval_tmp (hgot 1 _ 16 rfl (hdep ⟨1, .data⟩ (by simp) rfl) rfl))) (hK _ _ (fun s hs => by cases hs; rfl) hst)
          · exact wp_ran rfl (exec_load rfl (eval_tmp (hgot 2 _ 17 rfl (hdep ⟨2, .data⟩ (by simp) rfl) rfl)) (run_load1 Tryd.underlying67 rfl (gcell hGv (by rw [HB.out.2.1]; exact HT.out.1)))) (hK _ _ (fun s hs => by cases hs; rfl) hst)
          · exact wp_ran rfl (exec_move rfl (eval_tmp (hpar 7 (by simp)))) (hK _ _ (fun s hs => by cases hs; rfl) hst)
          · have hst' := hst
            rw [hlj] at hst'
            exact wp_called rfl (exec_call2 rfl rfl (eval_tmp (hpar 6 (by simp))) (eval_tmp (hgot 4 _ 19 rfl (hdep ⟨4, .data⟩ (by simp) rfl) rfl)) (enters_of Tryd.func49 (by kernel_rfl) rfl)) ((word_c g6 t R _ HT.out.2.1.len HT.out.1 hst'.1).mono (fun e v' hh => ⟨_, hh.1, hK _ _ (fun s hs => by cases hs; rfl) (RndSt.put5 hst hh.2.1 hh.2.2)⟩))
          · exact wp_ran rfl (exec_add rfl (eval_tmp (hgot 3 _ 18 rfl (hdep ⟨3, .data⟩ (by simp) rfl) rfl)) (eval_tmp (hgot 5 _ 20 rfl (hdep ⟨5, .data⟩ (by simp) rfl) rfl)) (add_wd _ _)) (hK _ _ (fun s hs => by cases hs; rfl) hst)
          · have hst' := hst
            rw [hlj] at hst'
            exact wp_called rfl (exec_call3 rfl rfl (eval_tmp (hpar 5 (by simp))) (eval_tmp (hgot 0 _ 15 rfl (hdep ⟨0, .data⟩ (by simp) rfl) rfl)) (eval_tmp (hgot 6 _ 21 rfl (hdep ⟨6, .data⟩ (by simp) rfl) rfl)) (enters_of Tryd.func48 (by kernel_rfl) rfl)) ((step_c g5 t (g0 c t + ringW t R) L _ HT.out.2.2.len HT.out.1 hst'.2.1).mono (fun e v' hh => ⟨_, hh.1, hK _ _ (fun s hs => by cases hs; rfl) (RndSt.put7 hst hh.2.1 hh.2.2)⟩))
        case fin =>
          intro l v hl hst
          have e5 := hl 5 (by decide)
          have e7 := hl 7 (by decide)
          rw [e5, e7] at hst
          obtain ⟨n6, n5, nm⟩ := hst
          have hx : g0 c t + ringW t R = g0 (sums c (first16 b)) t := by rw [HT.out.2.1.word HB.out.2.2.2.1 HT.out.1, sums_at c _ t HB.out.2.1 HB.out.2.2.2.1 HT.out.1]
          replace n5 : Holds v g5 80 ((stepL t (g0 c t + ringW t R) L).map wd) := n5
          replace n6 : Holds v g6 82 ((ringL t R).map wd) := n6
          have hE := HT.out.2.2.next (by rw [sums_length c _ HB.out.2.1 HB.out.2.2.2.1]; exact HT.out.1)
          rw [← hx] at hE
          have hRn := HT.out.2.1.next HB.out.2.2.2.1 HT.out.1
          have n8 := Holds.keep (w := wr.drew) k8 nm (by simp; have := QQ.out; omega)
          have n9 := Holds.keep (w := wr.drew) k9 nm (by simp; have := QQ.out; omega)
          have nG := Cells.keep (w := wr.drew) Gk nm (by rintro _ ⟨⟩; have := QQ.out; have := HB.out.2.2.2.2; simp; omega)
          have mn : Mod [] w v := ⟨nm.os.trans mk.os, nm.tape.trans mk.tape, nm.output.trans mk.output, Nat.le_trans mk.size nm.size, fun i hi _ => by
            rw [nm.block i (Nat.lt_of_lt_of_le hi mk.size) (by simp; have := QQ.out; omega), show wr.drew.heap[i]? = wr.heap[i]? from rfl, mk.block i hi (by simp)]⟩
          have ht1 : t + 1 ≤ 64 := HT.out.1
          have HN := Lib.hid (And.intro ht1 (And.intro hRn (And.intro hE (And.intro n6 (And.intro n5 (And.intro n8 (And.intro n9 (And.intro nG mn))))))))
          clear hx hE hRn n5 n6 n8 n9 nG mn nm e5 e7 hl ht1 k5 k7 k8 k9 Gk mk
          have hz : (t : Int) < 64 := by have := HT.out.1; omega
          dsimp only
          go_wp2_with fail
          exact ⟨⟨t + 1, _, _, HN.out.1, by go_num, HN.out.2.1, HN.out.2.2.1, HN.out.2.2.2.1, HN.out.2.2.2.2.1, HN.out.2.2.2.2.2.1, HN.out.2.2.2.2.2.2.1, HN.out.2.2.2.2.2.2.2.1, HN.out.2.2.2.2.2.2.2.2⟩, by simp [intOf]; omega⟩
      · obtain rfl : t = 64 := by omega
        have HT := Lib.hid (And.intro hR hL)
        clear hlt hR hL ht k7 Gk
        go_wp2_with fail
        go_loopw [24] (fun i wi => ∃ (k : Nat) (H : List UInt32), k ≤ 8 ∧ i = .int .i64 (k : Int) ∧ Added h L k H ∧ Holds wi g2 68 (H.map wd) ∧ Holds wi g5 80 (L.map wd) ∧ Holds wi g4 68 ((List.replicate 8 (0 : UInt32)).map wd) ∧ Mod [] w wi) (fun i _ => 8 - (intOf i).toNat)
        case atStart => exact ⟨0, _, by omega, rfl, Added.start _ _ HB.out.2.2.1, k8, k5, k9, mk⟩
        case round =>
          clear k5 k8 k9 mk
          obtain ⟨k, H, hk, rfl, hH, k8, k5, k9, mk⟩ := hrel
          by_cases hlt : k < 8
          · have hz : (k : Int) < 8 := by omega
            have HK := Lib.hid (And.intro hlt hH)
            clear hlt hH hk
            go_wp2_with fail
            clear hz
            refine wp_region_lit1 [.agg (h.map wd).toArray, .agg (b.map oct).toArray, .pointer (some ⟨g2, 0, none⟩), .pointer (some ⟨g3, 0, none⟩), .pointer (some ⟨g4, 0, none⟩), .pointer (some ⟨g5, 0, none⟩), .pointer (some ⟨g6, 0, none⟩), u7, .int .i64 (k : Int), .agg (h.map wd).toArray, .agg (b.map oct).toArray, .agg ((first16 b).map wd).toArray, .int .i64 ((64 : Nat) : Int), .bool false, u14, u15, u16, u17, u18, u19, u20, u21, u22, u23, .int .i64 (k : Int), .bool true, .int .i64 (k : Int), .int .i64 (k : Int), .pointer (some ⟨g2, 0 + k, none⟩), wd (g0 H k), .int .i64 (k : Int), .pointer (some ⟨g5, 0 + k, none⟩), wd (g0 L k), wd (g0 H k + g0 L k), .pointer (some ⟨g2, 0 + k, none⟩), u35, undef] 37 [0, 1, 2, 3, 4, 5, 6, 7, 8, 9, 10, 11, 12, 13, 14, 15, 16, 17, 18, 19, 20, 21, 22, 23, 24, 25, 26, 35, 36]
              (Sto 8 (fun v => Mod [] wr.drew v) (fun v => Holds v g2 68 ((H.set k (g0 H k + g0 L k)).map wd) ∧ Mod [g2] wr.drew v)) []
              (by kernel_rfl) rfl rfl rfl rfl (Sto.start (Mod.refl _ _)) (by kernel_rfl) (by kernel_rfl) ?step ?fin
            case step =>
              intro l T v j o hj hlj hdep hst hpar hgot hcl K hK
              have hjn : j < 9 := (Array.getElem?_eq_some_iff.1 hj).1
              have hq := fun h => Sto.now (j := j) hst hlj h
              obtain rfl | rfl | rfl | rfl | rfl | rfl | rfl | rfl | rfl : j = 0 ∨ j = 1 ∨ j = 2 ∨ j = 3 ∨ j = 4 ∨ j = 5 ∨ j = 6 ∨ j = 7 ∨ j = 8 := by omega
              all_goals (have hj' := Option.some.inj (hj : some _ = some o); subst hj'; clear hj)
              · exact wp_ran rfl (exec_move rfl (eval_tmp (hpar 8 (by simp)))) (hK _ _ (fun s hs => by cases hs; rfl) (Sto.keep (hq (by decide)) (by decide) (hq (by decide)).2))
              · exact wp_ran rfl (exec_at Tryd.underlying68 info67 HK.out.1 rfl (eval_tmp (hpar 2 (by simp))) (eval_tmp (hgot 0 _ 27 rfl (hdep ⟨0, .data⟩ (by simp) rfl) rfl))) (hK _ _ (fun s hs => by cases hs; rfl) (Sto.keep (hq (by decide)) (by decide) (hq (by decide)).2))
              · exact wp_ran rfl (exec_load rfl (eval_tmp (hgot 1 _ 28 rfl (hdep ⟨1, .data⟩ (by simp) rfl) rfl)) (word_load (Holds.keep (w := wr.drew) k8 (hq (by decide)).2 (by simp)) (by rw [HK.out.2.len]; exact HK.out.1))) (hK _ _ (fun s hs => by cases hs; rfl) (Sto.keep (hq (by decide)) (by decide) (hq (by decide)).2))
              · exact wp_ran rfl (exec_move rfl (eval_tmp (hpar 8 (by simp)))) (hK _ _ (fun s hs => by cases hs; rfl) (Sto.keep (hq (by decide)) (by decide) (hq (by decide)).2))
              · exact wp_ran rfl (exec_at Tryd.underlying80 info67 HK.out.1 rfl (eval_tmp (hpar 5 (by simp))) (eval_tmp (hgot 3 _ 30 rfl (hdep ⟨3, .data⟩ (by simp) rfl) rfl))) (hK _ _ (fun s hs => by cases hs; rfl) (Sto.keep (hq (by decide)) (by decide) (hq (by decide)).2))
              · exact wp_ran rfl (exec_load rfl (eval_tmp (hgot 4 _ 31 rfl (hdep ⟨4, .data⟩ (by simp) rfl) rfl)) (word_load (Holds.keep (w := wr.drew) k5 (hq (by decide)).2 (by simp)) (by rw [HT.out.2.len]; exact HK.out.1))) (hK _ _ (fun s hs => by cases hs; rfl) (Sto.keep (hq (by decide)) (by decide) (hq (by decide)).2))
              · exact wp_ran rfl (exec_add rfl (eval_tmp (hgot 2 _ 29 rfl (hdep ⟨2, .data⟩ (by simp) rfl) rfl)) (eval_tmp (hgot 5 _ 32 rfl (hdep ⟨5, .data⟩ (by simp) rfl) rfl)) (add_wd _ _)) (hK _ _ (fun s hs => by cases hs; rfl) (Sto.keep (hq (by decide)) (by decide) (hq (by decide)).2))
              · exact wp_ran rfl (exec_at Tryd.underlying68 info67 HK.out.1 rfl (eval_tmp (hpar 2 (by simp))) (eval_tmp (hgot 0 _ 27 rfl (hdep ⟨0, .data⟩ (by simp) rfl) rfl))) (hK _ _ (fun s hs => by cases hs; rfl) (Sto.keep (hq (by decide)) (by decide) (hq (by decide)).2))
              · exact wp_ran_skip rfl (exec_word (z := g0 H k + g0 L k) rfl (eval_tmp (hgot 7 _ 34 rfl (hdep ⟨7, .data⟩ (by simp) rfl) rfl)) (eval_tmp (hgot 6 _ 33 rfl (hdep ⟨6, .data⟩ (by simp) rfl) rfl)) (Holds.keep (w := wr.drew) k8 (hq (by decide)).2 (by simp)) (by rw [HK.out.2.len]; exact HK.out.1)) (hK _ _ (fun s hs => by cases hs) (Sto.done (reach_all (by kernel_rfl) hcl rfl hdep) ⟨word_set (Holds.keep (w := wr.drew) k8 (hq (by decide)).2 (by simp)) _ _, (hq (by decide)).2.pre (Mod.setCell _ (by simp) _)⟩))
            case fin =>
              intro l v hl hst
              obtain ⟨n8, nm⟩ := Sto.fin hst hl (by decide)
              have n5 := Holds.keep (w := wr.drew) k5 nm (by simp; have := QQ.out; omega)
              have n9 := Holds.keep (w := wr.drew) k9 nm (by simp; have := QQ.out; omega)
              have mn : Mod [] w v := ⟨nm.os.trans mk.os, nm.tape.trans mk.tape, nm.output.trans mk.output, Nat.le_trans mk.size nm.size, fun i hi _ => by
                rw [nm.block i (Nat.lt_of_lt_of_le hi mk.size) (by simp; have := QQ.out; omega), show wr.drew.heap[i]? = wr.heap[i]? from rfl, mk.block i hi (by simp)]⟩
              have hk1 : k + 1 ≤ 8 := HK.out.1
              have hA := HK.out.2.next HK.out.1
              have HN := Lib.hid (And.intro hk1 (And.intro hA (And.intro n8 (And.intro n5 (And.intro n9 mn)))))
              have hz : (k : Int) < 8 := by have := HK.out.1; omega
              clear n8 n5 n9 mn nm hst hl hk1 hA k5 k8 k9 mk
              dsimp only
              go_wp2_with fail
              exact ⟨⟨k + 1, _, HN.out.1, by go_num, HN.out.2.1, HN.out.2.2.1, HN.out.2.2.2.1, HN.out.2.2.2.2.1, HN.out.2.2.2.2.2⟩, by simp [intOf]; omega⟩
          · obtain rfl : k = 8 := by omega
            have hall := hH.all HB.out.2.2.1 HT.out.2.len
            have hL : L = steps h (sums c (first16 b)) := by
              have hs := steps_length h (sums c (first16 b)) HB.out.2.2.1
              have hx := HT.out.2.at_
              rw [List.take_of_length_le (by rw [sums_length c _ HB.out.2.1 HB.out.2.2.2.1]; omega)] at hx
              apply List.ext_getElem
              · rw [HT.out.2.len, hs]
              · intro i h1 h2
                have := hx i (by rw [HT.out.2.len] at h1; exact h1)
                rw [show plc i 64 = i by unfold plc; rw [HT.out.2.len] at h1; omega, g0_get _ _ h1, g0_get _ _ h2] at this
                exact this
            have hN : H = blkN c h (first16 b) := by rw [hall, hL]; rfl
            have hlen := hH.len
            have HL := Lib.hid (And.intro hlen (And.intro hN (And.intro mk QQ.out)))
            clear hall hL hN hlen hH hlt hk k5 mk
            go_wp2_with (first
              | (with_reducible refine wpList_loads (o := ⟨some 36, .load 68 (.tmp 2), _, _, _, _⟩) rfl 68 (.tmp 2) rfl g2 0 _ rfl (Cells.of_holds k8) _ Tryd.underlying68 rfl (size26_of _ HL.out.1) (.agg (H.map wd).toArray) rfl ?_)
              | (with_reducible refine wpList_storesAll (o := ⟨none, .store 68 (.tmp 4) (.tmp 36), _, _, _, _⟩) rfl 68 (.tmp 4) (.tmp 36) rfl rfl g4 (H.map wd) rfl (.agg (H.map wd).toArray) rfl rfl 68 _ k9 (by rw [List.length_map, List.length_map, HL.out.1, List.length_replicate]) (words_one _) (size26_of _ HL.out.1) ?_; intro w7 hw7 m7 z7))
            refine bodyPost_ret (results_cell_row rfl _ _ g4 68 _ (0, 0) _ rfl hw7 Tryd.underlying68 rfl (by rw [List.size_toArray]; exact size26_of _ HL.out.1)) rfl ?_
            obtain ⟨l1, l2, l3, l4⟩ := HL.out
            refine ⟨by rw [l2], ⟨m7.os.trans l3.os, m7.tape.trans l3.tape, m7.output.trans l3.output, Nat.le_trans l3.size m7.size, fun i hi _ => by rw [m7.block i (Nat.lt_of_lt_of_le hi l3.size) (by simp; omega), l3.block i hi (by simp)]⟩⟩
end Go.Proofs.YtdolihecjomjiaaDoor
