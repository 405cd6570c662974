/-
  My own texts ShaF Cut ShaG ShaH ShaI Old Eqs, one behind the other.
-/
import Derived.Test.YtbacmeaeehhhfaaDoorB3
import Derived.Test.YtbacmeaeehhhfaaDoorB1
import Derived.Laws.StructEq
import Derived.Laws.Small
namespace Go.Proofs.YtbacmeaeehhhfaaDoor
section
open Go.RowKit
theorem gcell {v : World} {c : List UInt32} (h : Cells v (some ⟨1, 0, none⟩) (c.map wd)) {i : Nat} (hi : i < c.length) : v.cell? ⟨1, 0 + i, none⟩ = some (wd (g0 c i)) := by
  have := h.at i (by simpa using hi)
  simpa [g0, hi] using this
set_option maxRecDepth 1000000 in
set_option maxHeartbeats 8000000 in
theorem block_c (c h : List UInt32) (b : List UInt8) (hc : c.length = 64) (hh : h.length = 8) (hb : b.length = 64) (w : World) (G : Cells w (some ⟨1, 0, none⟩) (c.map wd)) :
    Calls Tryd.prog 67 #[.agg (h.map wd).toArray, .agg (b.map oct).toArray] w fun e w' => e = .returned (.agg ((blkN c h (first16 b)).map wd).toArray) ∧ Mod [] w w' := by
  have hf := first16_length b
  have hG0 : 1 < w.heap.size := G.lt (by simp [hc])
  have HB := Lib.hid (And.intro hb (And.intro hc (And.intro hh (And.intro hf hG0))))
  clear hb hc hh hf hG0
  go_enter Tryd.func67, Tryd.ntmps67
  go_wp2_with (first
    | (with_reducible refine wpList_boxes (o := ⟨some 2, .box 98 (.tmp 0), _, _, _, _⟩) rfl 98 (.tmp 0) rfl _ rfl (h.map wd) rfl ?_; intro w1 hb1 m1 z1; replace z1 := Lib.hid z1)
    | (with_reducible refine wpList_boxes (o := ⟨some 3, .box 112 (.tmp 1), _, _, _, _⟩) rfl 112 (.tmp 1) rfl _ rfl (b.map oct) rfl ?_; intro w2 hb2 m2 z2; replace z2 := Lib.hid z2)
    | (with_reducible refine wpList_allocs (o := ⟨some 4, .alloc 98, _, _, _, _⟩) rfl 98 rfl _ zero68 ?_; intro w3 hb3 m3 z3; replace z3 := Lib.hid z3))
  obtain ⟨g2, e1⟩ : ∃ b, b = w.heap.size := ⟨_, rfl⟩
  obtain ⟨g3, e2⟩ : ∃ b, b = w1.heap.size := ⟨_, rfl⟩
  obtain ⟨g4, e3⟩ : ∃ b, b = w2.heap.size := ⟨_, rfl⟩
  have q0 : w.heap.size ≤ g2 := by omega
  have q1 : g2 < g3 := by have := z1.out; omega
  have q2 : g3 < g4 := by have := z2.out; omega
  have q3 : g4 < w3.heap.size := by have := z3.out; omega
  replace hb1 := (hb1.keep m2 (by simp)).keep m3 (by simp)
  replace hb2 := hb2.keep m3 (by simp)
  have mm : Mod [] w w3.drew := ((m1.then m2).then m3).then (Mod.drew [] _)
  rw [← e1] at hb1
  rw [← e2] at hb2
  rw [← e3] at hb3
  rw [← e1, ← e2, ← e3]
  have Q0 := Lib.hid q0
  clear e1 e2 e3 m1 m2 m3 z1 z2 z3 q0
  replace hb1 : Holds w3.drew g2 98 (h.map wd) := hb1
  replace hb2 : Holds w3.drew g3 112 (b.map oct) := hb2
  replace hb3 : Holds w3.drew g4 98 ((List.replicate 8 (0 : UInt32)).map wd) := hb3
  refine wp_region_lit ((0, 0)) (fun x => [.agg (h.map wd).toArray, .agg (b.map oct).toArray, .pointer (some ⟨g2, 0, none⟩), .pointer (some ⟨g3, 0, none⟩), .pointer (some ⟨g4, 0, none⟩), .pointer (some ⟨x.1, 0, none⟩), .pointer (some ⟨x.2, 0, none⟩), undef, undef, .agg (h.map wd).toArray, .agg (b.map oct).toArray, .agg ((first16 b).map wd).toArray, undef, undef, undef, undef, undef, undef, undef, undef, undef, undef, undef, undef, undef, undef, undef, undef, undef, undef, undef, undef, undef, undef, undef, undef, undef]) 37 [0, 1, 2, 3, 4, 7, 8, 12, 13, 14, 15, 16, 17, 18, 19, 20, 21, 22, 23, 24, 25, 26, 27, 28, 29, 30, 31, 32, 33, 34, 35, 36]
    (fun x l v => BlkSt h (first16 b) w3.drew.heap.size w3.drew x (l 3) (l 4) (l 5) (l 6) v) []
    (by kernel_rfl) (fun _ => rfl) rfl rfl rfl (fun _ => rfl) (BlkSt.start) (by kernel_rfl) (by kernel_rfl) ?step ?fin
  case step =>
    intro x l T v j o hj hlj hdep hst hpar hgot hcl K hK
    have hjn : j < 7 := (Array.getElem?_eq_some_iff.1 hj).1
    obtain rfl | rfl | rfl | rfl | rfl | rfl | rfl : j = 0 ∨ j = 1 ∨ j = 2 ∨ j = 3 ∨ j = 4 ∨ j = 5 ∨ j = 6 := by omega
    all_goals (have hj' := Option.some.inj (hj : some _ = some o); subst hj'; clear hj)
    · exact wp_ran rfl (exec_load rfl (eval_tmp (hpar 2 (by simp))) (run_loads (Cells.of_holds (hb1.keep hst.1 (by simp))) Tryd.underlying98 rfl (size26_of _ HB.out.2.2.1))) (hK x _ _ (fun _ _ _ _ _ _ => rfl) (fun s hs => by cases hs; rfl) hst)
    · exact wp_ran rfl (exec_load rfl (eval_tmp (hpar 3 (by simp))) (run_loads (Cells.of_holds (hb2.keep hst.1 (by simp))) Tryd.underlying112 rfl (by rw [List.length_map, HB.out.1]; exact size76))) (hK x _ _ (fun _ _ _ _ _ _ => rfl) (fun s hs => by cases hs; rfl) hst)
    · exact wp_called rfl (exec_call1 rfl rfl (eval_tmp (hgot 1 _ 10 rfl (hdep ⟨1, .data⟩ (by simp) rfl) rfl)) (enters_of Tryd.func73 (by kernel_rfl) rfl)) ((first_c b HB.out.1 _).mono (fun e v' hh => ⟨_, hh.1, hK x _ _ (fun _ _ _ _ _ _ => rfl) (fun s hs => by cases hs; rfl) (BlkSt.keep hst hh.2)⟩))
    · have h0 : l 5 = false := by
        cases h5 : l 5 with
        | false => rfl
        | true => exact absurd (hcl 5 _ rfl h5 ⟨3, .data⟩ (by simp) rfl) (by rw [hlj]; simp)
      have hst' := hst
      rw [hlj] at hst'
      exact wp_alloced (cs := (List.replicate 8 (0 : UInt32)).map wd) rfl rfl zero80 (fun v' q m => hK (v.heap.size, x.2) _ _ (fun j' o' s' h1 h2 h3 => by
              clear hst hst' hpar hgot hdep hcl hK
              have h4 : j' < 7 := (Array.getElem?_eq_some_iff.1 h1).1
              obtain rfl | rfl | rfl | rfl | rfl | rfl | rfl : j' = 0 ∨ j' = 1 ∨ j' = 2 ∨ j' = 3 ∨ j' = 4 ∨ j' = 5 ∨ j' = 6 := by omega
              all_goals (cases h1; cases h3 <;> first | rfl | (rw [hlj] at h2; cases h2))) (fun s hs => by cases hs; rfl) (BlkSt.new1 hst' h0 (Nat.le_refl _) q m))
    · have h0 : l 6 = false := by
        cases h5 : l 6 with
        | false => rfl
        | true => exact absurd (hcl 6 _ rfl h5 ⟨4, .data⟩ (by simp) rfl) (by rw [hlj]; simp)
      have hst' := hst
      rw [hlj] at hst'
      exact wp_alloced (cs := (List.replicate 16 (0 : UInt32)).map wd) rfl rfl zero82 (fun v' q m => hK (x.1, v.heap.size) _ _ (fun j' o' s' h1 h2 h3 => by
              clear hst hst' hpar hgot hdep hcl hK
              have h4 : j' < 7 := (Array.getElem?_eq_some_iff.1 h1).1
              obtain rfl | rfl | rfl | rfl | rfl | rfl | rfl : j' = 0 ∨ j' = 1 ∨ j' = 2 ∨ j' = 3 ∨ j' = 4 ∨ j' = 5 ∨ j' = 6 := by omega
              all_goals (cases h1; cases h3 <;> first | rfl | (rw [hlj] at h2; cases h2))) (fun s hs => by cases hs; rfl) (BlkSt.new2 hst' h0 (Nat.le_refl _) q m))
    · have hst' := hst
      rw [hlj, hdep ⟨3, .data⟩ (by simp) rfl] at hst'
      have k1 := (hst'.2.1 rfl).2
      exact wp_stored (ty := 118) (V := .agg (h.map wd).toArray) (cs := h.map wd) rfl rfl (eval_tmp (hgot 3 _ 5 rfl (hdep ⟨3, .data⟩ (by simp) rfl) rfl)) (eval_tmp (hgot 0 _ 9 rfl (hdep ⟨0, .data⟩ (by simp) rfl) rfl)) rfl k1 (by rw [List.length_map, if_neg (by simp), List.length_map, HB.out.2.2.1, List.length_replicate]) (words_one _) (size56_of _ HB.out.2.2.1) (fun v' q1 q2 => hK x _ _ (fun _ _ _ _ _ _ => rfl) (fun s hs => by cases hs) (by
            have e3 := hdep ⟨3, .data⟩ (by simp) rfl
            show BlkSt _ _ _ _ x (l 3) (l 4) true (l 6) v'
            rw [e3]
            exact BlkSt.put1 hst' (Nat.le_refl _) q1 q2))
    · have hst' := hst
      rw [hlj, hdep ⟨4, .data⟩ (by simp) rfl] at hst'
      have k1 := (hst'.2.2 rfl).2
      exact wp_stored (ty := 120) (V := .agg ((first16 b).map wd).toArray) (cs := (first16 b).map wd) rfl rfl (eval_tmp (hgot 4 _ 6 rfl (hdep ⟨4, .data⟩ (by simp) rfl) rfl)) (eval_tmp (hgot 2 _ 11 rfl (hdep ⟨2, .data⟩ (by simp) rfl) rfl)) rfl k1 (by rw [List.length_map, if_neg (by simp), List.length_map, HB.out.2.2.2.1, List.length_replicate]) (words_one _) (size58_of _ HB.out.2.2.2.1) (fun v' q1 q2 => hK x _ _ (fun _ _ _ _ _ _ => rfl) (fun s hs => by cases hs) (by
            have e3 := hdep ⟨4, .data⟩ (by simp) rfl
            show BlkSt _ _ _ _ x (l 3) (l 4) (l 5) true v'
            rw [e3]
            exact BlkSt.put2 hst' (Nat.le_refl _) q1 q2))
  case fin =>
    intro x l v hl hst
    have e3 := hl 3 (by decide)
    have e4 := hl 4 (by decide)
    have e5 := hl 5 (by decide)
    have e6 := hl 6 (by decide)
    have s : BlkSt h (first16 b) w3.drew.heap.size w3.drew x true true true true v := by
      have s := hst
      rw [e3, e4, e5, e6] at s
      exact s
    obtain ⟨g5, g6⟩ := x
    obtain ⟨k1, k2, k3⟩ := s
    obtain ⟨k4, k5⟩ := k2 rfl
    obtain ⟨k6, k7⟩ := k3 rfl
    replace k5 : Holds v g5 118 (h.map wd) := k5
    replace k7 : Holds v g6 120 ((first16 b).map wd) := k7
    have k4' : w3.heap.size ≤ g5 := k4
    have k6' : w3.heap.size ≤ g6 := k6
    have k8 := hb1.keep k1 (by simp)
    have k9 := hb3.keep k1 (by simp)
    have mk := mm.then k1
    have Gk := G.keep mk (by simp)
    obtain ⟨wv, rfl⟩ : ∃ u, u = v := ⟨_, rfl⟩
    have QQ := Lib.hid (And.intro Q0.out (And.intro q1 (And.intro q2 (And.intro q3 (And.intro k4' k6')))))
    clear hst hl e3 e4 e5 e6 hb1 hb2 hb3 k1 k2 k3 k4 k6 k4' k6' mm G Q0 q1 q2 q3
    dsimp only
    go_wp2_with fail
    go_loopw [12] (fun i wi => ∃ (t : Nat) (R L : List UInt32), t ≤ 64 ∧ i = .int .i64 (t : Int) ∧ Ring (first16 b) t R ∧ Eight h (sums c (first16 b)) t L ∧ Holds wi g6 120 (R.map wd) ∧ Holds wi g5 118 (L.map wd) ∧ Holds wi g2 98 (h.map wd) ∧ Holds wi g4 98 ((List.replicate 8 (0 : UInt32)).map wd) ∧ Cells wi (some ⟨1, 0, none⟩) (c.map wd) ∧ Mod [] w wi) (fun i _ => 64 - (intOf i).toNat)
    case atStart => exact ⟨0, _, _, by omega, rfl, Ring.start _ HB.out.2.2.2.1, Eight.start _ _ HB.out.2.2.1, k7, k5, k8, k9, Gk, mk⟩
    case round =>
      clear k5 k7 k8 k9 mk Gk
      obtain ⟨t, R, L, ht, rfl, hR, hL, k7, k5, k8, k9, Gk, mk⟩ := hrel
      by_cases hlt : t < 64
      · have hz : (t : Int) < 64 := by omega
        have HT := Lib.hid (And.intro hlt (And.intro hR hL))
        clear hlt hR hL ht
        go_wp2_with fail
        clear hz
        refine wp_region_lit1 [.agg (h.map wd).toArray, .agg (b.map oct).toArray, .pointer (some ⟨g2, 0, none⟩), .pointer (some ⟨g3, 0, none⟩), .pointer (some ⟨g4, 0, none⟩), .pointer (some ⟨g5, 0, none⟩), .pointer (some ⟨g6, 0, none⟩), .int .i64 (t : Int), undef, .agg (h.map wd).toArray, .agg (b.map oct).toArray, .agg ((first16 b).map wd).toArray, .int .i64 (t : Int), .bool true, .int .i64 (t : Int), .int .i64 (t : Int), .int .i64 (t : Int), .pointer (some ⟨1, 0 + t, none⟩), wd (g0 c t), .int .i64 (t : Int), wd (ringW t R), wd (g0 c t + ringW t R), .tuple #[], u23, undef, undef, undef, undef, undef, undef, undef, undef, undef, undef, undef, undef, undef] 37 [0, 1, 2, 3, 4, 5, 6, 7, 8, 9, 10, 11, 12, 13, 14, 23, 24, 25, 26, 27, 28, 29, 30, 31, 32, 33, 34, 35, 36]
          (fun l v => RndSt g5 g6 R (ringL t R) L (stepL t (g0 c t + ringW t R) L) wr.drew (l 5) (l 7) v) []
          (by kernel_rfl) rfl rfl rfl rfl (⟨k7, k5, Mod.refl _ _⟩) (by kernel_rfl) (by kernel_rfl) ?step ?fin
        case step =>
          intro l T v j o hj hlj hdep hst hpar hgot hcl K hK
          have hjn : j < 8 := (Array.getElem?_eq_some_iff.1 hj).1
          have hGv : Cells v (some ⟨1, 0, none⟩) (c.map wd) := Cells.keep (w := wr.drew) Gk hst.2.2 (by
            rintro _ ⟨⟩
            have h1 := QQ.out
            have h2 := HB.out.2.2.2.2
            have h3 : 1 ≠ g6 := by omega
            have h4 : 1 ≠ g5 := by omega
            simp [h3, h4])
          obtain rfl | rfl | rfl | rfl | rfl | rfl | rfl | rfl : j = 0 ∨ j = 1 ∨ j = 2 ∨ j = 3 ∨ j = 4 ∨ j = 5 ∨ j = 6 ∨ j = 7 := by omega
          all_goals (have hj' := Option.some.inj (hj : some _ = some o); subst hj'; clear hj)
          · exact wp_ran rfl (exec_move rfl (eval_tmp (hpar 7 (by simp)))) (hK _ _ (fun s hs => by cases hs; rfl) hst)
          · exact wp_ran rfl (exec_move rfl (eval_tmp (hpar 7 (by simp)))) (hK _ _ (fun s hs => by cases hs; rfl) hst)
          · exact wp_ran rfl (exec_at Tryd.underlying123 info67 HT.out.1 rfl rfl (eval_tmp (hgot 1 _ 16 rfl (hdep ⟨1, .data⟩ (by simp) rfl) rfl))) (hK _ _ (fun s hs => by cases hs; rfl) hst)
          · exact wp_ran rfl (exec_load rfl (eval_tmp (hgot 2 _ 17 rfl (hdep ⟨2, .data⟩ (by simp) rfl) rfl)) (run_load1 Tryd.underlying97 rfl (gcell hGv (by rw [HB.out.2.1]; exact HT.out.1)))) (hK _ _ (fun s hs => by cases hs; rfl) hst)
          · exact wp_ran rfl (exec_move rfl (eval_tmp (hpar 7 (by simp)))) (hK _ _ (fun s hs => by cases hs; rfl) hst)
          · have hst' := hst
            rw [hlj] at hst'
            exact wp_called rfl (exec_call2 rfl rfl (eval_tmp (hpar 6 (by simp))) (eval_tmp (hgot 4 _ 19 rfl (hdep ⟨4, .data⟩ (by simp) rfl) rfl)) (enters_of Tryd.func75 (by kernel_rfl) rfl)) ((word_c g6 t R _ HT.out.2.1.len HT.out.1 hst'.1).mono (fun e v' hh => ⟨_, hh.1, hK _ _ (fun s hs => by cases hs; rfl) (RndSt.put5 hst hh.2.1 hh.2.2)⟩))
          · exact wp_ran rfl (exec_add rfl (eval_tmp (hgot 3 _ 18 rfl (hdep ⟨3, .data⟩ (by simp) rfl) rfl)) (eval_tmp (hgot 5 _ 20 rfl (hdep ⟨5, .data⟩ (by simp) rfl) rfl)) (add_wd _ _)) (hK _ _ (fun s hs => by cases hs; rfl) hst)
          · have hst' := hst
            rw [hlj] at hst'
            exact wp_called rfl (exec_call3 rfl rfl (eval_tmp (hpar 5 (by simp))) (eval_tmp (hgot 0 _ 15 rfl (hdep ⟨0, .data⟩ (by simp) rfl) rfl)) (eval_tmp (hgot 6 _ 21 rfl (hdep ⟨6, .data⟩ (by simp) rfl) rfl)) (enters_of Tryd.func74 (by kernel_rfl) rfl)) ((step_c g5 t (g0 c t + ringW t R) L _ HT.out.2.2.len HT.out.1 hst'.2.1).mono (fun e v' hh => ⟨_, hh.1, hK _ _ (fun s hs => by cases hs; rfl) (RndSt.put7 hst hh.2.1 hh.2.2)⟩))
        case fin =>
          intro l v hl hst
          have e5 := hl 5 (by decide)
          have e7 := hl 7 (by decide)
          rw [e5, e7] at hst
          obtain ⟨n6, n5, nm⟩ := hst
          have hx : g0 c t + ringW t R = g0 (sums c (first16 b)) t := by rw [HT.out.2.1.word HB.out.2.2.2.1 HT.out.1, sums_at c _ t HB.out.2.1 HB.out.2.2.2.1 HT.out.1]
          replace n5 : Holds v g5 118 ((stepL t (g0 c t + ringW t R) L).map wd) := n5
          replace n6 : Holds v g6 120 ((ringL t R).map wd) := n6
          have hE := HT.out.2.2.next (by rw [sums_length c _ HB.out.2.1 HB.out.2.2.2.1]; exact HT.out.1)
          rw [← hx] at hE
          have hRn := HT.out.2.1.next HB.out.2.2.2.1 HT.out.1
          have n8 := Holds.keep (w := wr.drew) k8 nm (by simp; have := QQ.out; omega)
          have n9 := Holds.keep (w := wr.drew) k9 nm (by simp; have := QQ.out; omega)
          have nG := Cells.keep (w := wr.drew) Gk nm (by rintro _ ⟨⟩; have := QQ.out; have := HB.out.2.2.2.2; simp; omega)
          have mn : Mod [] w v := ⟨nm.os.trans mk.os, nm.tape.trans mk.tape, nm.output.trans mk.output, Nat.le_trans mk.size nm.size, fun i hi _ => by
            rw [nm.block i (Nat.lt_of_lt_of_le hi mk.size) (by simp; have := QQ.out; omega), show wr.drew.heap[i]? = wr.heap[i]? from rfl, mk.block i hi (by simp)]⟩
          have ht1 : t + 1 ≤ 64 := HT.out.1
          have HN := Lib.hid (And.intro ht1 (And.intro hRn (And.intro hE (And.intro n6 (And.intro n5 (And.intro n8 (And.intro n9 (And.intro nG mn))))))))
          clear hx hE hRn n5 n6 n8 n9 nG mn nm e5 e7 hl ht1 k5 k7 k8 k9 Gk mk
          have hz : (t : Int) < 64 := by have := HT.out.1; omega
          dsimp only
          go_wp2_with fail
          exact ⟨⟨t + 1, _, _, HN.out.1, by go_num, HN.out.2.1, HN.out.2.2.1, HN.out.2.2.2.1, HN.out.2.2.2.2.1, HN.out.2.2.2.2.2.1, HN.out.2.2.2.2.2.2.1, HN.out.2.2.2.2.2.2.2.1, HN.out.2.2.2.2.2.2.2.2⟩, by simp [intOf]; omega⟩
      · obtain rfl : t = 64 := by omega
        have HT := Lib.hid (And.intro hR hL)
        clear hlt hR hL ht k7 Gk
        go_wp2_with fail
        go_loopw [24] (fun i wi => ∃ (k : Nat) (H : List UInt32), k ≤ 8 ∧ i = .int .i64 (k : Int) ∧ Added h L k H ∧ Holds wi g2 98 (H.map wd) ∧ Holds wi g5 118 (L.map wd) ∧ Holds wi g4 98 ((List.replicate 8 (0 : UInt32)).map wd) ∧ Mod [] w wi) (fun i _ => 8 - (intOf i).toNat)
        case atStart => exact ⟨0, _, by omega, rfl, Added.start _ _ HB.out.2.2.1, k8, k5, k9, mk⟩
        case round =>
          clear k5 k8 k9 mk
          obtain ⟨k, H, hk, rfl, hH, k8, k5, k9, mk⟩ := hrel
          by_cases hlt : k < 8
          · have hz : (k : Int) < 8 := by omega
            have HK := Lib.hid (And.intro hlt hH)
            clear hlt hH hk
            go_wp2_with fail
            clear hz
            refine wp_region_lit1 [.agg (h.map wd).toArray, .agg (b.map oct).toArray, .pointer (some ⟨g2, 0, none⟩), .pointer (some ⟨g3, 0, none⟩), .pointer (some ⟨g4, 0, none⟩), .pointer (some ⟨g5, 0, none⟩), .pointer (some ⟨g6, 0, none⟩), u7, .int .i64 (k : Int), .agg (h.map wd).toArray, .agg (b.map oct).toArray, .agg ((first16 b).map wd).toArray, .int .i64 ((64 : Nat) : Int), .bool false, u14, u15, u16, u17, u18, u19, u20, u21, u22, u23, .int .i64 (k : Int), .bool true, .int .i64 (k : Int), .int .i64 (k : Int), .pointer (some ⟨g2, 0 + k, none⟩), wd (g0 H k), .int .i64 (k : Int), .pointer (some ⟨g5, 0 + k, none⟩), wd (g0 L k), wd (g0 H k + g0 L k), .pointer (some ⟨g2, 0 + k, none⟩), u35, undef] 37 [0, 1, 2, 3, 4, 5, 6, 7, 8, 9, 10, 11, 12, 13, 14, 15, 16, 17, 18, 19, 20, 21, 22, 23, 24, 25, 26, 35, 36]
              (Sto 8 (fun v => Mod [] wr.drew v) (fun v => Holds v g2 98 ((H.set k (g0 H k + g0 L k)).map wd) ∧ Mod [g2] wr.drew v)) []
              (by kernel_rfl) rfl rfl rfl rfl (Sto.start (Mod.refl _ _)) (by kernel_rfl) (by kernel_rfl) ?step ?fin
            case step =>
              intro l T v j o hj hlj hdep hst hpar hgot hcl K hK
              have hjn : j < 9 := (Array.getElem?_eq_some_iff.1 hj).1
              have hq := fun h => Sto.now (j := j) hst hlj h
              obtain rfl | rfl | rfl | rfl | rfl | rfl | rfl | rfl | rfl : j = 0 ∨ j = 1 ∨ j = 2 ∨ j = 3 ∨ j = 4 ∨ j = 5 ∨ j = 6 ∨ j = 7 ∨ j = 8 := by omega
              all_goals (have hj' := Option.some.inj (hj : some _ = some o); subst hj'; clear hj)
              · exact wp_ran rfl (exec_move rfl (eval_tmp (hpar 8 (by simp)))) (hK _ _ (fun s hs => by cases hs; rfl) (Sto.keep (hq (by decide)) (by decide) (hq (by decide)).2))
              · exact wp_ran rfl (exec_at Tryd.underlying98 info67 HK.out.1 rfl (eval_tmp (hpar 2 (by simp))) (eval_tmp (hgot 0 _ 27 rfl (hdep ⟨0, .data⟩ (by simp) rfl) rfl))) (hK _ _ (fun s hs => by cases hs; rfl) (Sto.keep (hq (by decide)) (by decide) (hq (by decide)).2))
              · exact wp_ran rfl (exec_load rfl (eval_tmp (hgot 1 _ 28 rfl (hdep ⟨1, .data⟩ (by simp) rfl) rfl)) (word_load (Holds.keep (w := wr.drew) k8 (hq (by decide)).2 (by simp)) (by rw [HK.out.2.len]; exact HK.out.1))) (hK _ _ (fun s hs => by cases hs; rfl) (Sto.keep (hq (by decide)) (by decide) (hq (by decide)).2))
              · exact wp_ran rfl (exec_move rfl (eval_tmp (hpar 8 (by simp)))) (hK _ _ (fun s hs => by cases hs; rfl) (Sto.keep (hq (by decide)) (by decide) (hq (by decide)).2))
              · exact wp_ran rfl (exec_at Tryd.underlying118 info67 HK.out.1 rfl (eval_tmp (hpar 5 (by simp))) (eval_tmp (hgot 3 _ 30 rfl (hdep ⟨3, .data⟩ (by simp) rfl) rfl))) (hK _ _ (fun s hs => by cases hs; rfl) (Sto.keep (hq (by decide)) (by decide) (hq (by decide)).2))
              · exact wp_ran rfl (exec_load rfl (eval_tmp (hgot 4 _ 31 rfl (hdep ⟨4, .data⟩ (by simp) rfl) rfl)) (word_load (Holds.keep (w := wr.drew) k5 (hq (by decide)).2 (by simp)) (by rw [HT.out.2.len]; exact HK.out.1))) (hK _ _ (fun s hs => by cases hs; rfl) (Sto.keep (hq (by decide)) (by decide) (hq (by decide)).2))
              · exact wp_ran rfl (exec_add rfl (eval_tmp (hgot 2 _ 29 rfl (hdep ⟨2, .data⟩ (by simp) rfl) rfl)) (eval_tmp (hgot 5 _ 32 rfl (hdep ⟨5, .data⟩ (by simp) rfl) rfl)) (add_wd _ _)) (hK _ _ (fun s hs => by cases hs; rfl) (Sto.keep (hq (by decide)) (by decide) (hq (by decide)).2))
              · exact wp_ran rfl (exec_at Tryd.underlying98 info67 HK.out.1 rfl (eval_tmp (hpar 2 (by simp))) (eval_tmp (hgot 0 _ 27 rfl (hdep ⟨0, .data⟩ (by simp) rfl) rfl))) (hK _ _ (fun s hs => by cases hs; rfl) (Sto.keep (hq (by decide)) (by decide) (hq (by decide)).2))
              · exact wp_ran_skip rfl (exec_word (z := g0 H k + g0 L k) rfl (eval_tmp (hgot 7 _ 34 rfl (hdep ⟨7, .data⟩ (by simp) rfl) rfl)) (eval_tmp (hgot 6 _ 33 rfl (hdep ⟨6, .data⟩ (by simp) rfl) rfl)) (Holds.keep (w := wr.drew) k8 (hq (by decide)).2 (by simp)) (by rw [HK.out.2.len]; exact HK.out.1)) (hK _ _ (fun s hs => by cases hs) (Sto.done (reach_all (by kernel_rfl) hcl rfl hdep) ⟨word_set (Holds.keep (w := wr.drew) k8 (hq (by decide)).2 (by simp)) _ _, (hq (by decide)).2.pre (Mod.setCell _ (by simp) _)⟩))
            case fin =>
              intro l v hl hst
              obtain ⟨n8, nm⟩ := Sto.fin hst hl (by decide)
              have n5 := Holds.keep (w := wr.drew) k5 nm (by simp; have := QQ.out; omega)
              have n9 := Holds.keep (w := wr.drew) k9 nm (by simp; have := QQ.out; omega)
              have mn : Mod [] w v := ⟨nm.os.trans mk.os, nm.tape.trans mk.tape, nm.output.trans mk.output, Nat.le_trans mk.size nm.size, fun i hi _ => by
                rw [nm.block i (Nat.lt_of_lt_of_le hi mk.size) (by simp; have := QQ.out; omega), show wr.drew.heap[i]? = wr.heap[i]? from rfl, mk.block i hi (by simp)]⟩
              have hk1 : k + 1 ≤ 8 := HK.out.1
              have hA := HK.out.2.next HK.out.1
              have HN := Lib.hid (And.intro hk1 (And.intro hA (And.intro n8 (And.intro n5 (And.intro n9 mn)))))
              have hz : (k : Int) < 8 := by have := HK.out.1; omega
              clear n8 n5 n9 mn nm hst hl hk1 hA k5 k8 k9 mk
              dsimp only
              go_wp2_with fail
              exact ⟨⟨k + 1, _, HN.out.1, by go_num, HN.out.2.1, HN.out.2.2.1, HN.out.2.2.2.1, HN.out.2.2.2.2.1, HN.out.2.2.2.2.2⟩, by simp [intOf]; omega⟩
          · obtain rfl : k = 8 := by omega
            have hall := hH.all HB.out.2.2.1 HT.out.2.len
            have hL : L = steps h (sums c (first16 b)) := by
              have hs := steps_length h (sums c (first16 b)) HB.out.2.2.1
              have hx := HT.out.2.at_
              rw [List.take_of_length_le (by rw [sums_length c _ HB.out.2.1 HB.out.2.2.2.1]; omega)] at hx
              apply List.ext_getElem
              · rw [HT.out.2.len, hs]
              · intro i h1 h2
                have := hx i (by rw [HT.out.2.len] at h1; exact h1)
                rw [show plc i 64 = i by unfold plc; rw [HT.out.2.len] at h1; omega, g0_get _ _ h1, g0_get _ _ h2] at this
                exact this
            have hN : H = blkN c h (first16 b) := by rw [hall, hL]; rfl
            have hlen := hH.len
            have HL := Lib.hid (And.intro hlen (And.intro hN (And.intro mk QQ.out)))
            clear hall hL hN hlen hH hlt hk k5 mk
            go_wp2_with (first
              | (with_reducible refine wpList_loads (o := ⟨some 36, .load 98 (.tmp 2), _, _, _, _⟩) rfl 98 (.tmp 2) rfl g2 0 _ rfl (Cells.of_holds k8) _ Tryd.underlying98 rfl (size26_of _ HL.out.1) (.agg (H.map wd).toArray) rfl ?_)
              | (with_reducible refine wpList_storesAll (o := ⟨none, .store 98 (.tmp 4) (.tmp 36), _, _, _, _⟩) rfl 98 (.tmp 4) (.tmp 36) rfl rfl g4 (H.map wd) rfl (.agg (H.map wd).toArray) rfl rfl 98 _ k9 (by rw [List.length_map, List.length_map, HL.out.1, List.length_replicate]) (words_one _) (size26_of _ HL.out.1) ?_; intro w7 hw7 m7 z7))
            refine bodyPost_ret (results_cell_row rfl _ _ g4 98 _ (0, 0) _ rfl hw7 Tryd.underlying98 rfl (by rw [List.size_toArray]; exact size26_of _ HL.out.1)) rfl ?_
            obtain ⟨l1, l2, l3, l4⟩ := HL.out
            refine ⟨by rw [l2], ⟨m7.os.trans l3.os, m7.tape.trans l3.tape, m7.output.trans l3.output, Nat.le_trans l3.size m7.size, fun i hi _ => by rw [m7.block i (Nat.lt_of_lt_of_le hi l3.size) (by simp; omega), l3.block i hi (by simp)]⟩⟩
end
section
open Go.RowKit
/-- Where what stands behind k bytes lies. -/
def frm (A : Option Addr) (k c : Nat) : Option Addr := if c = k then A else A.map (·.add k)
theorem Reads.from {w : World} {A : Option Addr} {l : List UInt8} (h : Reads w A l) (k c : Nat) (hc : l.length ≤ c) : Reads w (frm A k c) (l.drop k) := by
  intro i hi
  have hi' : k + i < l.length := by simp at hi; omega
  obtain ⟨g, o, rfl, hx⟩ := h (k + i) hi'
  unfold frm
  rw [if_neg (by omega)]
  refine ⟨g, o + k, by rw [Option.map_some, add_plain], ?_⟩
  rw [Nat.add_assoc, hx]
  simp
theorem Reads.first {w : World} {A : Option Addr} {l : List UInt8} (h : Reads w A l) (k : Nat) : Reads w A (l.take k) := by
  intro i hi
  have hi' : i < l.length := by simp at hi; omega
  obtain ⟨g, o, rfl, hx⟩ := h i hi'
  exact ⟨g, o, rfl, by rw [hx]; simp⟩
theorem Reads.cells {w : World} {A : Option Addr} {l : List UInt8} (h : Reads w A l) : Cells w A (l.map oct) := by
  intro i hi
  obtain ⟨g, o, hA, hx⟩ := h i (by simpa using hi)
  exact ⟨g, o, hA, by rw [hx]; simp⟩
section
variable {P : Program} {v : World} {o : Oper} {ρ : Operand → Value}
theorem exec_from {t e : TypeId} {x y : Operand} {A : Option Addr} {n c k : Nat} (hu : P.underlying t = some (.slice e)) (he : (P.info? e).map (·.size) = some 1) (hk : k ≤ n) (ho : o.op = .slice t x (some y) none none) (hx : ρ x = .slice A n c) (hy : ρ y = .int .i64 (k : Int)) :
    (execOp ρ o).run P v = .ok (.value (.slice (frm A k c) (n - k) (c - k))) v := by
  unfold execOp
  cases hq : P.info? e with
  | none => rw [hq] at he; cases he
  | some it =>
    have hs : it.size = 1 := by rw [hq] at he; simpa using he
    simp [ho, hx, hy, Instr.sliceAt, Instr.slice, Instr.sliceBounds, Instr.sliceBound, Sem.run_bind, run_underlying hu, go_sem, sizeOf, typeInfo, hq, hs, hk, frm]
theorem exec_upto {t e : TypeId} {x y : Operand} {A : Option Addr} {n c k : Nat} (hu : P.underlying t = some (.slice e)) (he : (P.info? e).map (·.size) = some 1) (hk : k ≤ c) (ho : o.op = .slice t x none (some y) none) (hx : ρ x = .slice A n c) (hy : ρ y = .int .i64 (k : Int)) :
    (execOp ρ o).run P v = .ok (.value (.slice A k c)) v := by
  unfold execOp
  have h0 : ∀ a : Addr, a.add 0 = a := fun _ => rfl
  have h1 : (if c = 0 then A else A.map (·.add 0)) = A := by
    split
    · rfl
    · cases A <;> simp [h0]
  cases hq : P.info? e with
  | none => rw [hq] at he; cases he
  | some it =>
    simp [ho, hx, hy, Instr.sliceAt, Instr.slice, Instr.sliceBounds, Instr.sliceBound, Sem.run_bind, run_underlying hu, go_sem, sizeOf, typeInfo, hq, hk, h0]
theorem exec_arr {t e : TypeId} {x : Operand} {A : Option Addr} {n m c : Nat} (hu : P.underlying t = some (.array m e)) (hm : m ≤ n) (ho : o.op = .sliceToArrayPointer t x) (hx : ρ x = .slice A n c) : (execOp ρ o).run P v = .ok (.value (.pointer A)) v := by
  unfold execOp
  simp [ho, hx, Instr.arrayAt, Sem.run_bind, run_underlying hu, go_sem, hm]
/-- A slice of an array, from its k-th element on. -/
theorem exec_cut {t e : TypeId} {x y : Operand} {g m k : Nat} (hu : P.underlying t = some (.array m e)) (he : (P.info? e).map (·.size) = some 1) (hk : k < m) (ho : o.op = .slice t x (some y) none none) (hx : ρ x = .pointer (some ⟨g, 0, none⟩)) (hy : ρ y = .int .i64 (k : Int)) :
    (execOp ρ o).run P v = .ok (.value (.slice (some ⟨g, k, none⟩) (m - k) (m - k))) v := by
  unfold execOp
  have h1 : ¬ m = k := by omega
  have h2 : k ≤ m := by omega
  cases hq : P.info? e with
  | none => rw [hq] at he; cases he
  | some it =>
    have hs : it.size = 1 := by rw [hq] at he; simpa using he
    simp [ho, hx, hy, Instr.sliceAt, Instr.sliceBounds, Instr.sliceBound, Sem.run_bind, run_underlying hu, go_sem, sizeOf, typeInfo, hq, hs, h1, h2, add_plain]
theorem exec_convi {t t' : TypeId} {x : Operand} {k : IntKind} {a : Int} (ho : o.op = .convert t t' x) (hx : ρ x = .int .i64 a) (h : (convert t t' (.int .i64 a)).run P v = .ok (.int k a) v) : (execOp ρ o).run P v = .ok (.value (.int k a)) v := by
  unfold execOp
  simp only [ho, hx, Sem.run_bind, h, Result.andThen, Sem.run_pure]
/-- Bytes are copied into a block that is known, from a place on. -/
theorem exec_copy {t s e : TypeId} {x y : Operand} {g f n c n' c' : Nat} {ad : Addr} {T : TypeId} {old : List Value} {l : List UInt8} (hu : P.underlying t = some (.slice e)) (he : (P.info? e).map (·.size) = some 1) (ho : o.op = .call { callee := .builtin .copy, args := #[x, y], argTypes := #[t, s] }) (hx : ρ x = .slice (some ⟨g, f, none⟩) n c) (hy : ρ y = .slice (some ad) n' c') (hh : Holds v g T old) (hn : l.length = n') (hn' : l.length ≤ n) (hr : Reads v (some ad) l) (hp : 0 < l.length) (hfit : f + l.length ≤ old.length) :
    ∃ v', (execOp ρ o).run P v = .ok (.value (.int .i64 (l.length : Int))) v' ∧ Holds v' g T (old.take f ++ (l.map oct ++ old.drop (f + l.length))) ∧ Mod [g] v v' := by
  obtain ⟨ad', e', hsrc⟩ := hr.src hp
  injection e' with e'
  subst e'
  have hrun := run_copy_row (P := P) v t s o.type e g f n c ad n' c' old.toArray T (l.map oct) hu he hh (by simp only [List.length_map]; rw [← hn]; exact (Nat.min_eq_left hn').symm) hsrc (by simpa using hfit) (octs_one l)
  refine ⟨v.setRow g (List.take f old.toArray.toList ++ List.map oct l ++ List.drop (f + (List.map oct l).length) old.toArray.toList).toArray, ?_, ?_, ?_⟩
  · unfold execOp
    simp [ho, resolve, invoke, builtin, hx, hy, hrun, Result.andThen, goInt]
  · have := setRow_heap v g old.toArray (List.take f old.toArray.toList ++ List.map oct l ++ List.drop (f + (List.map oct l).length) old.toArray.toList).toArray T (0, 0) hh
    simpa [Holds] using this
  · exact ⟨rfl, rfl, rfl, by simp [World.setRow], fun k _ hk => setRow_other v g k _ (by simpa using hk)⟩
end
/-- Eight numbers behind so many blocks of these bytes. -/
def beh (c h : List UInt32) (l : List UInt8) : Nat → List UInt32
  | 0 => h
  | k + 1 => blkN c (beh c h l k) (first16 ((l.drop (k * 64)).take 64))
theorem blkN_length (c h f : List UInt32) (hh : h.length = 8) : (blkN c h f).length = 8 := by
  unfold blkN
  rw [List.length_zipWith, steps_length _ _ hh, hh]; rfl
theorem beh_length (c h : List UInt32) (l : List UInt8) (hh : h.length = 8) (k : Nat) : (beh c h l k).length = 8 := by
  induction k with
  | zero => exact hh
  | succ k ih => exact blkN_length c _ _ ih
theorem beh_succ (c h : List UInt32) (l : List UInt8) (k : Nat) : blkN c (beh c h l k) (first16 ((l.drop (k * 64)).take 64)) = beh c h l (k + 1) := rfl
theorem block_beh (c h : List UInt32) (l : List UInt8) (k : Nat) (hc : c.length = 64) (hh : h.length = 8) (hk : k * 64 + 64 ≤ l.length) (w : World) (G : Cells w (some ⟨1, 0, none⟩) (c.map wd)) :
    Calls Tryd.prog 67 #[.agg ((beh c h l k).map wd).toArray, .agg (((l.drop (k * 64)).take 64).map oct).toArray] w fun e w' => e = .returned (.agg ((beh c h l (k + 1)).map wd).toArray) ∧ Mod [] w w' := by
  have := block_c c (beh c h l k) ((l.drop (k * 64)).take 64) hc (beh_length c h l hh k) (by simp; omega) w G
  rw [beh_succ] at this
  exact this
theorem mul_n (n k : Nat) (h : n * k ≤ 9223372036854775807) : IntKind.i64.wrap ((n : Int) * (k : Int)) = ((n * k : Nat) : Int) := by
  have : ((n * k : Nat) : Int) ≤ 9223372036854775807 := by omega
  have h0 : (0 : Int) ≤ ((n * k : Nat) : Int) := Int.natCast_nonneg _
  rw [← Int.natCast_mul]
  generalize ((n * k : Nat) : Int) = z at *
  simp [IntKind.wrap, IntKind.bits, IntKind.signed]; omega
end
section
open Go.RowKit
set_option maxRecDepth 1000000 in
set_option maxHeartbeats 8000000 in
theorem behind_c (c h : List UInt32) (hc : c.length = 64) (hh : h.length = 8) (A : Option Addr) (bb : List UInt8) (n cap : Nat) (hn : n = bb.length) (hcap : bb.length ≤ cap) (hl : bb.length ≤ 9223372036854775807) (w : World) (G : Cells w (some ⟨1, 0, none⟩) (c.map wd)) (R : Reads w A bb) :
    Calls Tryd.prog 55 #[.agg (h.map wd).toArray, .slice A n cap] w fun e w' => e = .returned (.agg ((beh c h bb (bb.length / 64)).map wd).toArray) ∧ Mod [] w w' := by
  subst hn
  obtain ⟨q, hq⟩ : ∃ q, q = bb.length / 64 := ⟨_, rfl⟩
  have hq' : ((bb.length : Int) / 64) = (q : Int) := by omega
  have hql : q * 64 ≤ bb.length := by omega
  have hqb : (q : Int) ≤ 9223372036854775806 := by omega
  rw [← hq]
  have HB := Lib.hid (And.intro hc (And.intro hh (And.intro hcap (And.intro hql (And.intro (beh_length c h bb hh) hl)))))
  clear hc hh hcap hq hql hl
  go_enter Tryd.func55, Tryd.ntmps55
  go_wp2_with (first
    | (with_reducible refine wpList_boxes (o := ⟨some 2, .box 98 (.tmp 0), _, _, _, _⟩) rfl 98 (.tmp 0) rfl _ rfl (h.map wd) rfl ?_; intro w1 hb1 m1 z1; replace z1 := Lib.hid z1)
    | (with_reducible refine wpList_allocs (o := ⟨some 4, .alloc 98, _, _, _, _⟩) rfl 98 rfl _ zero68 ?_; intro w3 hb3 m3 z3; replace z3 := Lib.hid z3))
  obtain ⟨g2, e1⟩ : ∃ b, b = w.heap.size := ⟨_, rfl⟩
  obtain ⟨g4, e3⟩ : ∃ b, b = w1.heap.size := ⟨_, rfl⟩
  have q0 : w.heap.size ≤ g2 := by omega
  have q1 : g2 < g4 := by have := z1.out; omega
  replace hb1 := hb1.keep m3 (by simp)
  have mm : Mod [] w w3 := m1.then m3
  rw [← e1] at hb1
  rw [← e3] at hb3
  rw [← e1, ← e3]
  have QQ := Lib.hid (And.intro q0 q1)
  clear e1 e3 m1 m3 z1 z3 q0 q1
  go_loopw [9] (fun i wi => ∃ k : Nat, k ≤ q ∧ i = .int .i64 (k : Int) ∧ Holds wi g2 98 ((beh c h bb k).map wd) ∧ Holds wi g4 98 ((List.replicate 8 (0 : UInt32)).map wd) ∧ Mod [] w wi) (fun i _ => q - (intOf i).toNat)
  case atStart => exact ⟨0, by omega, rfl, hb1, hb3, mm⟩
  case round =>
    clear hb1 hb3 mm
    obtain ⟨k, hk, rfl, k2, k4, mk⟩ := hrel
    by_cases hlt : k < q
    · have hz : (k : Int) < (q : Int) := by omega
      have HK := Lib.hid hlt
      clear hlt hk
      go_wp2_with fail
      clear hz
      refine wp_region_lit1 [.agg (h.map wd).toArray, .slice A bb.length cap, .pointer (some ⟨g2, 0, none⟩), undef, .pointer (some ⟨g4, 0, none⟩), .int .i64 (k : Int), .slice A bb.length cap, .int .i64 (bb.length : Int), .int .i64 (q : Int), .int .i64 (k : Int), .bool true, .int .i64 (k : Int), .agg ((beh c h bb k).map wd).toArray, .slice A bb.length cap, .int .i64 (k : Int), .int .i64 ((k * 64 : Nat) : Int), .slice (frm A (k * 64) cap) (bb.length - k * 64) (cap - k * 64), .pointer (frm A (k * 64) cap), .agg (((bb.drop (k * 64)).take 64).map oct).toArray, .agg ((beh c h bb (k + 1)).map wd).toArray, u20, undef] 22 [0, 1, 2, 3, 4, 5, 6, 7, 8, 9, 10, 11, 20, 21]
        (Sto 8 (fun v => Mod [] wr.drew v) (fun v => Holds v g2 98 ((beh c h bb (k + 1)).map wd) ∧ Mod [g2] wr.drew v)) []
        (by kernel_rfl) rfl rfl rfl rfl (Sto.start (Mod.refl _ _)) (by kernel_rfl) (by kernel_rfl) ?step ?fin
      case step =>
        intro l T v j o hj hlj hdep hst hpar hgot hcl K hK
        have hjn : j < 9 := (Array.getElem?_eq_some_iff.1 hj).1
        have hq := fun h => Sto.now (j := j) hst hlj h
        obtain rfl | rfl | rfl | rfl | rfl | rfl | rfl | rfl | rfl : j = 0 ∨ j = 1 ∨ j = 2 ∨ j = 3 ∨ j = 4 ∨ j = 5 ∨ j = 6 ∨ j = 7 ∨ j = 8 := by omega
        all_goals (have hj' := Option.some.inj (hj : some _ = some o); subst hj'; clear hj)
        · exact wp_ran rfl (exec_load rfl (eval_tmp (hpar 2 (by simp))) (run_loads (Cells.of_holds (Holds.keep (w := wr.drew) k2 (hq (by decide)).2 (by simp))) Tryd.underlying98 rfl (size26_of _ (HB.out.2.2.2.2.1 _)))) (hK _ _ (fun s hs => by cases hs; rfl) (Sto.keep (hq (by decide)) (by decide) (hq (by decide)).2))
        · exact wp_ran rfl (exec_move rfl (eval_tmp (hpar 1 (by simp)))) (hK _ _ (fun s hs => by cases hs; rfl) (Sto.keep (hq (by decide)) (by decide) (hq (by decide)).2))
        · exact wp_ran rfl (exec_move rfl (eval_tmp (hpar 5 (by simp)))) (hK _ _ (fun s hs => by cases hs; rfl) (Sto.keep (hq (by decide)) (by decide) (hq (by decide)).2))
        · exact wp_ran rfl (exec_mul rfl (eval_tmp (hgot 2 _ 14 rfl (hdep ⟨2, .data⟩ (by simp) rfl) rfl)) rfl (mul_n k 64 (by have := HB.out; have := HK.out; omega))) (hK _ _ (fun s hs => by cases hs; rfl) (Sto.keep (hq (by decide)) (by decide) (hq (by decide)).2))
        · exact wp_ran rfl (exec_from Tryd.underlying64 u8_one (by have := HB.out; have := HK.out; omega) rfl (eval_tmp (hgot 1 _ 13 rfl (hdep ⟨1, .data⟩ (by simp) rfl) rfl)) (eval_tmp (hgot 3 _ 15 rfl (hdep ⟨3, .data⟩ (by simp) rfl) rfl))) (hK _ _ (fun s hs => by cases hs; rfl) (Sto.keep (hq (by decide)) (by decide) (hq (by decide)).2))
        · exact wp_ran rfl (exec_arr Tryd.underlying112 (by have := HB.out; have := HK.out; omega) rfl (eval_tmp (hgot 4 _ 16 rfl (hdep ⟨4, .data⟩ (by simp) rfl) rfl))) (hK _ _ (fun s hs => by cases hs; rfl) (Sto.keep (hq (by decide)) (by decide) (hq (by decide)).2))
        · have hR := ((R.keep (mk.then (Mod.drewed (hq (by decide)).2)) (by simp)).from (k * 64) cap HB.out.2.2.1).first 64
          have hlen : ((bb.drop (k * 64)).take 64).length = 64 := by have := HB.out; have := HK.out; simp; omega
          obtain ⟨ga, oa, hA, _⟩ := hR 0 (by omega)
          rw [hA] at hR
          have hE : T.eval (.tmp 17) = .pointer (some ⟨ga, oa, none⟩) := (show T.eval (.tmp 17) = .pointer (frm A (k * 64) cap) from (eval_tmp (hgot 5 _ 17 rfl (hdep ⟨5, .data⟩ (by simp) rfl) rfl))).trans (congrArg Value.pointer hA)
          exact wp_ran rfl (exec_load rfl hE (run_loads hR.cells Tryd.underlying112 rfl (by rw [List.length_map, hlen]; exact size76))) (hK _ _ (fun s hs => by cases hs; rfl) (Sto.keep (hq (by decide)) (by decide) (hq (by decide)).2))
        · exact wp_called rfl (exec_call2 rfl rfl (eval_tmp (hgot 0 _ 12 rfl (hdep ⟨0, .data⟩ (by simp) rfl) rfl)) (eval_tmp (hgot 6 _ 18 rfl (hdep ⟨6, .data⟩ (by simp) rfl) rfl)) (enters_of Tryd.func67 (by kernel_rfl) rfl)) ((block_beh c h bb k HB.out.1 HB.out.2.1 (by have := HB.out; have := HK.out; omega) _ (G.keep (mk.then (Mod.drewed (hq (by decide)).2)) (by simp))).mono (fun e v' hh => ⟨_, hh.1, hK _ _ (fun s hs => by cases hs; rfl) (Sto.keep (hq (by decide)) (by decide) ((hq (by decide)).2.then hh.2))⟩))
        · exact wp_stored (ty := 98) (V := .agg ((beh c h bb (k + 1)).map wd).toArray) (cs := (beh c h bb (k + 1)).map wd) rfl rfl (eval_tmp (hpar 2 (by simp))) (eval_tmp (hgot 7 _ 19 rfl (hdep ⟨7, .data⟩ (by simp) rfl) rfl)) rfl (Holds.keep (w := wr.drew) k2 (hq (by decide)).2 (by simp)) (by rw [List.length_map, List.length_map, HB.out.2.2.2.2.1, HB.out.2.2.2.2.1]) (words_one _) (size26_of _ (HB.out.2.2.2.2.1 _)) (fun v' q1 q2 => hK _ _ (fun s hs => by cases hs) (Sto.done (reach_all (by kernel_rfl) hcl rfl hdep) ⟨q1, (hq (by decide)).2.pre q2⟩))
      case fin =>
        intro l v hl hst
        obtain ⟨n2, nm⟩ := Sto.fin hst hl (by decide)
        have n4 := Holds.keep (w := wr.drew) k4 nm (by simp; have := QQ.out; omega)
        have mn : Mod [] w v := ⟨nm.os.trans mk.os, nm.tape.trans mk.tape, nm.output.trans mk.output, Nat.le_trans mk.size nm.size, fun i hi _ => by
          rw [nm.block i (Nat.lt_of_lt_of_le hi mk.size) (by simp; have := QQ.out; omega), show wr.drew.heap[i]? = wr.heap[i]? from rfl, mk.block i hi (by simp)]⟩
        have hk1 : k + 1 ≤ q := HK.out
        have HN := Lib.hid (And.intro hk1 (And.intro n2 (And.intro n4 mn)))
        have hz : (k : Int) < (q : Int) := by have := HK.out; omega
        have hz2 : (q : Int) ≤ 9223372036854775806 := by have := HB.out; omega
        clear n2 n4 mn nm hst hl hk1 k2 k4 mk
        try dsimp only
        go_wp2_with fail
        exact ⟨⟨k + 1, HN.out.1, by go_num, HN.out.2.1, HN.out.2.2.1, HN.out.2.2.2⟩, by simp [intOf]; omega⟩
    · obtain rfl : k = q := by omega
      have HL := Lib.hid (And.intro mk QQ.out)
      clear mk hlt hk
      go_wp2_with (first
        | (with_reducible refine wpList_loads (o := ⟨some 21, .load 98 (.tmp 2), _, _, _, _⟩) rfl 98 (.tmp 2) rfl g2 0 _ rfl (Cells.of_holds k2) _ Tryd.underlying98 rfl (size26_of _ (HB.out.2.2.2.2.1 _)) (.agg ((beh c h bb k).map wd).toArray) rfl ?_)
        | (with_reducible refine wpList_storesAll (o := ⟨none, .store 98 (.tmp 4) (.tmp 21), _, _, _, _⟩) rfl 98 (.tmp 4) (.tmp 21) rfl rfl g4 ((beh c h bb k).map wd) rfl (.agg ((beh c h bb k).map wd).toArray) rfl rfl 98 _ k4 (by rw [List.length_map, List.length_map, HB.out.2.2.2.2.1, List.length_replicate]) (words_one _) (size26_of _ (HB.out.2.2.2.2.1 _)) ?_; intro w7 hw7 m7 z7))
      refine bodyPost_ret (results_cell_row rfl _ _ g4 98 _ (0, 0) _ rfl hw7 Tryd.underlying98 rfl (by rw [List.size_toArray]; exact size26_of _ (HB.out.2.2.2.2.1 _))) rfl ?_
      obtain ⟨l3, l4⟩ := HL.out
      exact ⟨rfl, ⟨m7.os.trans l3.os, m7.tape.trans l3.tape, m7.output.trans l3.output, Nat.le_trans l3.size m7.size, fun i hi _ => by rw [m7.block i (Nat.lt_of_lt_of_le hi l3.size) (by simp; omega), l3.block i hi (by simp)]⟩⟩
end
section
open Go.RowKit
set_option maxRecDepth 100000 in
theorem wp_copied {P : Program} {v : World} {o : Oper} {ops : Array Oper} {T : Act} {Kq : Act → World → Prop} {Q : Exit → Act → World → Prop} {E : Prop} {t s e : TypeId} {x y : Operand} {g f n c n' c' : Nat} {ad : Addr} {T' : TypeId} {old : List Value} {l : List UInt8} (hg : o.guard = none) (hu : P.underlying t = some (.slice e)) (he : (P.info? e).map (·.size) = some 1) (ho : o.op = .call { callee := .builtin .copy, args := #[x, y], argTypes := #[t, s] }) (hx : T.eval x = .slice (some ⟨g, f, none⟩) n c) (hy : T.eval y = .slice (some ad) n' c') (hh : Holds v g T' old) (hn : l.length = n') (hn' : l.length ≤ n) (hr : Reads v (some ad) l) (hp : 0 < l.length) (hfit : f + l.length ≤ old.length)
    (hK : ∀ v', Holds v' g T' (old.take f ++ (l.map oct ++ old.drop (f + l.length))) → Mod [g] v v' → Kq (T.put o.dst (.int .i64 (l.length : Int))) v') : if Region.wanted o (yielded ops T.tmps) = true then o.wp P T v Kq Q else E := by
  obtain ⟨v', hr', q1, q2⟩ := exec_copy hu he ho hx hy hh hn hn' hr hp hfit
  exact wp_ran hg hr' (hK v' q1 q2)
set_option maxRecDepth 100000 in
theorem frm_at (g o k c : Nat) (h : c ≠ k) : frm (some ⟨g, o, none⟩) k c = some ⟨g, o + k, none⟩ := by
  unfold frm
  rw [if_neg h, Option.map_some, add_plain]
/-- How many bytes, filled up. -/
def fillM (n : Nat) : Nat := (n + 72) / 64 * 64
/-- How many bits, as a number of 64 bits. -/
def len8 (len : Nat) : Nat := 8 * len % 18446744073709551616
set_option maxRecDepth 100000 in
theorem len8_lt (len : Nat) : len8 len < 18446744073709551616 := Nat.mod_lt _ (by decide)
/-- The end of a row of len bytes, filled up. -/
def fillN (bb : List UInt8) (len : Nat) : List UInt8 := bb ++ [128] ++ List.replicate (fillM bb.length - bb.length - 9) 0 ++ hi (len8 len) 8
set_option maxRecDepth 100000 in
theorem fillM_le (n : Nat) : n + 9 ≤ fillM n ∧ fillM n ≤ n + 72 := by unfold fillM; omega
set_option maxRecDepth 100000 in
theorem fillN_length (bb : List UInt8) (len : Nat) : (fillN bb len).length = fillM bb.length := by
  have := fillM_le bb.length
  simp [fillN, hi_length]; omega
/-- Something is made, once it is. -/
def Mk (z : Nat) (ty : TypeId) (cs : List Value) (x : Nat) (d : Bool) (v : World) : Prop := d = true → z ≤ x ∧ Holds v x ty cs
set_option maxRecDepth 100000 in
theorem Mk.not {z : Nat} {ty : TypeId} {cs : List Value} {x : Nat} {v : World} : Mk z ty cs x false v := fun h => by cases h
set_option maxRecDepth 100000 in
theorem Mk.keep {z : Nat} {ty : TypeId} {cs : List Value} {x : Nat} {d : Bool} {v v' : World} (h : Mk z ty cs x d v) (m : Mod [] v v') : Mk z ty cs x d v' := fun e => ⟨(h e).1, (h e).2.keep m (by simp)⟩
set_option maxRecDepth 100000 in
theorem Sto.keep2 {n j : Nat} {A B : World → Prop} {lz : Nat → Bool} (h : lz n = false) (hj : j < n) {v' : World} (h' : A v') : Sto n A B (fun i => if i = j then true else lz i) v' := by
  refine .inl ⟨?_, h'⟩
  show (if n = j then true else lz n) = false
  rw [if_neg (by omega)]; exact h
set_option maxRecDepth 100000 in
theorem sub_big (n k : Nat) (hk : k ≤ n) (hn : n ≤ 9223372036854775807) : IntKind.i64.wrap ((n : Int) - (k : Int)) = ((n - k : Nat) : Int) := by
  simp [IntKind.wrap, IntKind.bits, IntKind.signed]; omega
set_option maxRecDepth 100000 in
theorem conv_len (n : Nat) (hn : n ≤ 9223372036854775807) (w : World) : (convert 3 114 (.int .i64 (n : Int))).run Tryd.prog w = .ok (.int .u64 (n : Int)) w := by
  have h : (convert 3 114 (.int .i64 (n : Int))).run Tryd.prog w = .ok (.int .u64 (IntKind.u64.wrap (n : Int))) w := by go_simp
  rw [h, IntKind.wrap_u64]
  congr 2
  omega
set_option maxRecDepth 100000 in
theorem mul_u64 (a b : Nat) : IntKind.u64.wrap ((a : Int) * (b : Int)) = ((a * b % 18446744073709551616 : Nat) : Int) := by
  rw [IntKind.wrap_u64, ← Int.natCast_mul]
  generalize a * b = z
  omega
set_option maxRecDepth 100000 in
theorem fill_end (bb : List UInt8) (len : Nat) : ((bb ++ [128] ++ List.replicate (fillM bb.length - bb.length - 1) 0).take (fillM bb.length - 8)).map oct ++ ((hi (len8 len) 8).map oct ++ ((bb ++ [128] ++ List.replicate (fillM bb.length - bb.length - 1) 0).drop (fillM bb.length - 8 + 8)).map oct) = (fillN bb len).map oct := by
  have := fillM_le bb.length
  rw [List.drop_eq_nil_of_le (by simp; omega)]
  rw [List.take_append, List.take_of_length_le (by simp; omega)]
  simp only [List.map_nil, List.append_nil, ← List.map_append]
  congr 1
  unfold fillN
  congr 1
  rw [List.take_replicate]
  congr 1
  simp; congr 1; omega
set_option maxRecDepth 100000 in
theorem fill_facts (bb : List UInt8) (M : Nat) (w w1 w2 : World) (hM : bb.length + 9 ≤ M) (hw2 : Holds w2 w.heap.size 5 (List.map oct bb ++ List.drop bb.length (List.replicate M (oct 0)))) (hm1 : Mod [] w w1) (hm2 : Mod [w.heap.size] w1 w2) :
    Holds w2 w.heap.size 5 ((bb ++ List.replicate (M - bb.length) 0).map oct) ∧ w2.cell? ⟨w.heap.size, bb.length, none⟩ = some (oct 0) ∧ w2.frozen? ⟨w.heap.size, bb.length, none⟩ = false ∧
      Holds (w2.setCell ⟨w.heap.size, bb.length, none⟩ (oct 128)) w.heap.size 5 ((bb ++ [128] ++ List.replicate (M - bb.length - 1) 0).map oct) ∧ Mod [] w (w2.setCell ⟨w.heap.size, bb.length, none⟩ (oct 128)) := by
  have e2 : List.map oct bb ++ List.drop bb.length (List.replicate M (oct 0)) = (bb ++ List.replicate (M - bb.length) 0).map oct := by
    simp [List.drop_replicate]
  rw [e2] at hw2
  have hcell := hw2.cell bb.length
  rw [List.getElem?_map, List.getElem?_append_right (Nat.le_refl _), Nat.sub_self, List.getElem?_replicate, if_pos (by omega)] at hcell
  have hset := hw2.set bb.length (oct 128)
  rw [List.map_append, List.map_replicate, set_at _ _ _ _ _ (by simp) (by omega)] at hset
  have e3 : List.map oct bb ++ [oct 128] ++ List.replicate (M - bb.length - 1) (oct 0) = (bb ++ [128] ++ List.replicate (M - bb.length - 1) 0).map oct := by simp
  rw [e3] at hset
  have mm : Mod [] w w2 := hm1.trans hm2 (by intro i hi hm; simp at hm; omega)
  exact ⟨hw2, hcell, hw2.free _, hset, mm.trans (Mod.setCell (ms := [w.heap.size]) w2 (by simp) _) (by intro i hi hm; simp at hm; omega)⟩
set_option maxRecDepth 1000000 in
set_option maxHeartbeats 8000000 in
theorem fill_c (Ad : Option Addr) (bb : List UInt8) (n cap len : Nat) (hn : n = bb.length) (hb : bb.length ≤ 140737488355000) (hlen : len ≤ 9223372036854775807) (w : World) (R : Reads w Ad bb) :
    Calls Tryd.prog 57 #[.slice Ad n cap, .int .i64 (len : Int)] w fun e w' => ∃ g, e = .returned (.slice (some ⟨g, 0, none⟩) (fillM bb.length) (fillM bb.length)) ∧ w.heap.size ≤ g ∧ Holds w' g 5 ((fillN bb len).map oct) ∧ Mod [] w w' := by
  subst hn
  have hM := fillM_le bb.length
  obtain ⟨M, hMe⟩ : ∃ M, M = fillM bb.length := ⟨_, rfl⟩
  have hM1 : (((bb.length : Int) + 9 + 64 - 1) / 64 * 64) = (M : Int) := by rw [hMe]; unfold fillM; omega
  have hfe := fill_end bb len
  have hfl := fillN_length bb len
  rw [← hMe] at hM hfe hfl ⊢
  obtain ⟨L8, hL8⟩ : ∃ z, z = len8 len := ⟨_, rfl⟩
  have hL9 := len8_lt len
  rw [← hL8] at hfe hL9
  have HH := Lib.hid (And.intro hfe (And.intro hfl (And.intro hlen (And.intro hL8 hL9))))
  clear hMe hfe hfl hL8 hL9
  obtain ⟨i0, hi0, hz0, hz1, hz2⟩ := info_parts u8_zero
  have hi0' := Lib.hid (And.intro hi0 (And.intro hz0 (And.intro hz1 hz2)))
  clear hi0 hz0 hz1 hz2
  go_enter Tryd.func57, Tryd.ntmps57
  go_wp2_with (first
    | (at_make; go_loud (refine wpList_makes _ rfl _ _ 64 rfl 5 i0 (.int .u8 0) Tryd.underlying64 hi0'.out.1 hi0'.out.2.1 hi0'.out.2.2.1 1 hi0'.out.2.2.2 rfl .i64 .i64 _ _ M rfl rfl rfl rfl (by omega) (by unfold maxLen; omega) ?_); intro w1 hw1 hm1 hs1; replace hs1 := Lib.hid hs1)
    | (with_reducible refine wpList_copies (o := ⟨some 18, _, _, _, _, _⟩) rfl (.tmp 16) (.tmp 17) 64 64 rfl 5 Tryd.underlying64 u8_one _ _ _ _ bb _ _ rfl rfl rfl _ _ hw1 (R.keep hm1 (fun _ _ => by simp)) (by simp; omega) (by omega) ?_; intro w2 hw2 hm2 hs2; replace hs2 := Lib.hid hs2
       obtain ⟨hw2, hcell, hfree, hset, ms⟩ := fill_facts bb M w w1 w2 hM.1 hw2 hm1 hm2
       clear hw1 hm1 hm2 hs1 hs2))
  have hs3 : Holds (w2.setCell ⟨w.heap.size, bb.length, none⟩ (.int .u8 128)) w.heap.size 5 ((bb ++ [128] ++ List.replicate (M - bb.length - 1) 0).map oct) := hset
  have ms3 : Mod [] w (w2.setCell ⟨w.heap.size, bb.length, none⟩ (.int .u8 128)) := ms
  clear hset ms hcell hfree hw2 hM1


  generalize w2.setCell ⟨w.heap.size, bb.length, none⟩ (.int .u8 128) = w3 at hs3 ms3 ⊢
  obtain ⟨g, e1⟩ : ∃ b, b = w.heap.size := ⟨_, rfl⟩
  have hgz : w.heap.size ≤ g := by omega
  rw [← e1] at hs3 ⊢
  clear e1
  have hq8 : M - (M - 8) = 8 := by omega
  have HM := Lib.hid (And.intro hM (And.intro hb (And.intro hlen hq8)))
  clear hM hb hlen hq8
  refine wp_region_lit (X := Nat) 0 (fun x => [.slice Ad bb.length cap, .int .i64 (len : Int), undef, undef, .slice none 0 0, .int .i64 (((bb.length : Int) + 9 + 64 - 1) / 64), .slice (some ⟨g, 0, none⟩) M M, .slice Ad bb.length cap, .int .i64 (bb.length : Int), .int .i64 ((bb.length : Int) + 9), .int .i64 ((bb.length : Int) + 9 + 64), .int .i64 ((bb.length : Int) + 9 + 64 - 1), .int .i64 (((bb.length : Int) + 9 + 64 - 1) / 64), .int .i64 (((bb.length : Int) + 9 + 64 - 1) / 64), .int .i64 (M : Int), .slice (some ⟨g, 0, none⟩) M M, .slice (some ⟨g, 0, none⟩) M M, .slice Ad bb.length cap, .int .i64 (bb.length : Int), .slice (some ⟨g, 0, none⟩) M M, .slice Ad bb.length cap, .int .i64 (bb.length : Int), .pointer (some ⟨g, bb.length, none⟩), .slice (some ⟨g, 0, none⟩) M M, .slice (some ⟨g, 0, none⟩) M M, .int .i64 (M : Int), .int .i64 ((M - 8 : Nat) : Int), .slice (frm (some ⟨g, 0, none⟩) (M - 8) M) (M - (M - 8)) (M - (M - 8)), .int .i64 (len : Int), .int .u64 (len : Int), .int .u64 (L8 : Int), .slice (some ⟨x, 0, none⟩) 8 8, .int .i64 8, undef]) 34 [0, 1, 2, 3, 4, 5, 6, 7, 8, 9, 10, 11, 12, 13, 14, 15, 16, 17, 18, 19, 20, 21, 22, 33]
    (fun x lz v => Sto 9 (fun v => Mk w3.drew.heap.size 5 ((hi L8 8).map oct) x (lz 8) v ∧ Mod [] w3.drew v) (fun v => Holds v g 5 ((fillN bb len).map oct) ∧ Mod [g] w3.drew v) lz v) []
    (by kernel_rfl) (fun _ => rfl) rfl rfl rfl (fun _ => by simp only [List.map_cons, List.map_nil, List.getD_cons_zero, List.getD_cons_succ]) (Sto.start ⟨Mk.not, Mod.refl _ _⟩) (by kernel_rfl) (by kernel_rfl) ?step ?fin
  case step =>
    intro x lz T v j o hj hlj hdep hst hpar hgot hcl K hK
    have hjn : j < 10 := (Array.getElem?_eq_some_iff.1 hj).1
    have hq := fun h => Sto.now (j := j) hst hlj h
    obtain rfl | rfl | rfl | rfl | rfl | rfl | rfl | rfl | rfl | rfl : j = 0 ∨ j = 1 ∨ j = 2 ∨ j = 3 ∨ j = 4 ∨ j = 5 ∨ j = 6 ∨ j = 7 ∨ j = 8 ∨ j = 9 := by omega
    all_goals (have hj' := Option.some.inj (hj : some _ = some o); subst hj'; clear hj)
    · exact wp_ran rfl (exec_move rfl (eval_tmp (hpar 6 (by simp)))) (hK x _ _ (fun _ _ _ _ _ _ => rfl) (fun s hs => by cases hs; rfl) (Sto.keep2 (hq (by decide)).1 (by decide) (hq (by decide)).2))
    · exact wp_ran rfl (exec_move rfl (eval_tmp (hpar 6 (by simp)))) (hK x _ _ (fun _ _ _ _ _ _ => rfl) (fun s hs => by cases hs; rfl) (Sto.keep2 (hq (by decide)).1 (by decide) (hq (by decide)).2))
    · exact wp_ran rfl (exec_len Tryd.underlying64 rfl (eval_tmp (hgot 1 _ 24 rfl (hdep ⟨1, .data⟩ (by simp) rfl) rfl))) (hK x _ _ (fun _ _ _ _ _ _ => rfl) (fun s hs => by cases hs; rfl) (Sto.keep2 (hq (by decide)).1 (by decide) (hq (by decide)).2))
    · exact wp_ran rfl (exec_sub rfl (eval_tmp (hgot 2 _ 25 rfl (hdep ⟨2, .data⟩ (by simp) rfl) rfl)) rfl (sub_big M 8 (by have := HM.out; omega) (by have := HM.out; omega))) (hK x _ _ (fun _ _ _ _ _ _ => rfl) (fun s hs => by cases hs; rfl) (Sto.keep2 (hq (by decide)).1 (by decide) (hq (by decide)).2))
    · exact wp_ran rfl (exec_from Tryd.underlying64 u8_one (by omega) rfl (eval_tmp (hgot 0 _ 23 rfl (hdep ⟨0, .data⟩ (by simp) rfl) rfl)) (eval_tmp (hgot 3 _ 26 rfl (hdep ⟨3, .data⟩ (by simp) rfl) rfl))) (hK x _ _ (fun _ _ _ _ _ _ => rfl) (fun s hs => by cases hs; rfl) (Sto.keep2 (hq (by decide)).1 (by decide) (hq (by decide)).2))
    · exact wp_ran rfl (exec_move rfl (eval_tmp (hpar 1 (by simp)))) (hK x _ _ (fun _ _ _ _ _ _ => rfl) (fun s hs => by cases hs; rfl) (Sto.keep2 (hq (by decide)).1 (by decide) (hq (by decide)).2))
    · exact wp_ran rfl (exec_convi rfl (eval_tmp (hgot 5 _ 28 rfl (hdep ⟨5, .data⟩ (by simp) rfl) rfl)) (conv_len len HM.out.2.2.1 _)) (hK x _ _ (fun _ _ _ _ _ _ => rfl) (fun s hs => by cases hs; rfl) (Sto.keep2 (hq (by decide)).1 (by decide) (hq (by decide)).2))
    · exact wp_ran rfl (exec_mul rfl rfl (eval_tmp (hgot 6 _ 29 rfl (hdep ⟨6, .data⟩ (by simp) rfl) rfl)) (show IntKind.u64.wrap ((8 : Int) * (len : Int)) = (L8 : Int) by rw [HH.out.2.2.2.1]; exact mul_u64 8 len)) (hK x _ _ (fun _ _ _ _ _ _ => rfl) (fun s hs => by cases hs; rfl) (Sto.keep2 (hq (by decide)).1 (by decide) (hq (by decide)).2))
    · have hh0 : lz 8 = false := hlj
      exact wp_called rfl (exec_call2 rfl rfl rfl (eval_tmp (hgot 7 _ 30 rfl (hdep ⟨7, .data⟩ (by simp) rfl) rfl)) (enters_of Tryd.func68 (by kernel_rfl) rfl)) ((put64_c none [] 0 L8 v (by simp) (Reads.nil _ _) HH.out.2.2.2.2).mono (fun e v' hh => ⟨_, hh.1, hK v.heap.size _ _ (fun j' o' s' h1 h2 h3 => by
              clear hst hpar hgot hdep hcl hK
              have h4 : j' < 10 := (Array.getElem?_eq_some_iff.1 h1).1
              obtain rfl | rfl | rfl | rfl | rfl | rfl | rfl | rfl | rfl | rfl : j' = 0 ∨ j' = 1 ∨ j' = 2 ∨ j' = 3 ∨ j' = 4 ∨ j' = 5 ∨ j' = 6 ∨ j' = 7 ∨ j' = 8 ∨ j' = 9 := by omega
              all_goals (cases h1; cases h3 <;> first | rfl | (rw [hlj] at h2; cases h2))) (fun s hs => by cases hs; rfl) (Sto.keep2 (hq (by decide)).1 (by decide) ⟨fun _ => ⟨(hq (by decide)).2.2.size, hh.2.1⟩, (hq (by decide)).2.2.then hh.2.2⟩)⟩))
    · have h8 : lz 8 = true := hdep ⟨8, .data⟩ (by simp) rfl
      have hA := (hq (by decide)).2
      have hx := hA.1 h8
      have hD : Holds v g 5 ((bb ++ [128] ++ List.replicate (M - bb.length - 1) 0).map oct) := Holds.keep (w := w3.drew) hs3 hA.2 (by simp)
      have hE : T.eval (.tmp 27) = .slice (some ⟨g, 0 + (M - 8), none⟩) 8 8 := (show T.eval (.tmp 27) = .slice (frm (some ⟨g, 0, none⟩) (M - 8) M) (M - (M - 8)) (M - (M - 8)) from (eval_tmp (hgot 4 _ 27 rfl (hdep ⟨4, .data⟩ (by simp) rfl) rfl))).trans (by rw [frm_at _ _ _ _ (by have := HM.out; omega), HM.out.2.2.2])
      refine wp_copied (l := hi L8 8) rfl Tryd.underlying64 u8_one rfl hE (eval_tmp (hgot 8 _ 31 rfl (hdep ⟨8, .data⟩ (by simp) rfl) rfl)) hD (by rw [hi_length]) (by rw [hi_length]; omega) (Reads.of_holds hx.2) (by rw [hi_length]; omega) (by rw [hi_length]; have := HM.out; simp; omega) (fun v' n1 n2 => ?_)
      rw [hi_length] at n1
      rw [Nat.zero_add, ← List.map_take, ← List.map_drop, HH.out.1] at n1
      exact hK x _ v' (fun _ _ _ _ _ _ => rfl) (fun s hs => by cases hs; rw [hi_length]; rfl) (Sto.done (reach_all (by kernel_rfl) hcl rfl hdep) ⟨n1, hA.2.pre n2⟩)
  case fin =>
    intro x lz v hl hst
    obtain ⟨n1, nm⟩ := Sto.fin hst hl (by decide)
    have mn : Mod [] w v := ⟨nm.os.trans ms3.os, nm.tape.trans ms3.tape, nm.output.trans ms3.output, Nat.le_trans ms3.size nm.size, fun i hi _ => by
      rw [nm.block i (Nat.lt_of_lt_of_le hi ms3.size) (by simp; omega), show w3.drew.heap[i]? = w3.heap[i]? from rfl, ms3.block i hi (by simp)]⟩
    clear hst hl nm hs3 ms3
    try dsimp only
    go_wp2_with fail
    go_ret
    exact ⟨g, rfl, hgz, n1, mn⟩
end
section
open Go.RowKit
theorem size85 : (Tryd.prog.info? 123).map (·.size) = some 64 := by kernel_rfl
theorem zero85 : ∀ w, (zeroValue 123).run Tryd.prog w = .ok (.agg ((List.replicate 64 (0 : UInt32)).map wd).toArray) w := (zero_of_info (n := 64) (by kernel_rfl)).1
theorem size24_of (L : List UInt32) (h : L.length = 64) : (Tryd.prog.info? 123).map (·.size) = some (L.map wd).length := by rw [List.length_map, h]; exact size85
set_option maxRecDepth 100000 in
theorem start_c (s : List UInt32) (hs : s.length = 8) (w : World) (G : Cells w (some ⟨0, 0, none⟩) (s.map wd)) :
    Calls Tryd.prog 56 #[] w fun e w' => e = .returned (.agg (s.map wd).toArray) ∧ Mod [] w w' := by
  have HS := Lib.hid hs
  clear hs
  go_enter Tryd.func56, Tryd.ntmps56
  go_wp2_with (first
    | (with_reducible refine wpList_allocs (o := ⟨some 0, .alloc 98, _, _, _, _⟩) rfl 98 rfl _ zero68 ?_; intro w1 hb1 m1 z1; replace z1 := Lib.hid z1)
    | (with_reducible refine wpList_loads (o := ⟨some 1, .load 98 (.global 0), _, _, _, _⟩) rfl 98 (.global 0) rfl 0 0 _ rfl (G.keep m1 (by rintro _ ⟨⟩; simp)) _ Tryd.underlying98 rfl (size26_of _ HS.out) (.agg (s.map wd).toArray) rfl ?_)
    | (with_reducible refine wpList_storesAll (o := ⟨none, .store 98 (.tmp 0) (.tmp 1), _, _, _, _⟩) rfl 98 (.tmp 0) (.tmp 1) rfl rfl w.heap.size (s.map wd) rfl (.agg (s.map wd).toArray) rfl rfl 98 _ hb1 (by rw [List.length_map, List.length_map, HS.out, List.length_replicate]) (words_one _) (size26_of _ HS.out) ?_; intro w2 hb2 m2 z2; replace z2 := Lib.hid z2))
  refine bodyPost_ret (results_cell_row rfl _ _ w.heap.size 98 _ (0, 0) _ rfl hb2 Tryd.underlying98 rfl (by rw [List.size_toArray]; exact size26_of _ HS.out)) rfl ?_
  exact ⟨rfl, m1.trans m2 (by intro i hi h; simp at h; omega)⟩
/-- The eight numbers behind all blocks of bytes, filled up. -/
def wholeN (n : Nat) : Nat := n / 64 * 64
def sum1 (c s : List UInt32) (bb : List UInt8) : List UInt32 := beh c s (bb.take (wholeN bb.length)) ((bb.take (wholeN bb.length)).length / 64)
def tailN (bb : List UInt8) : List UInt8 := fillN (bb.drop (wholeN bb.length)) bb.length
def sum2 (c s : List UInt32) (bb : List UInt8) : List UInt32 := beh c (sum1 c s bb) (tailN bb) ((tailN bb).length / 64)
def octs (L : List UInt32) : List UInt8 := L.flatMap fun x => hi x.toNat 4
theorem octs_length (L : List UInt32) : (octs L).length = L.length * 4 := by
  induction L with
  | nil => rfl
  | cons x L ih => simp only [octs, List.flatMap_cons, List.length_append, hi_length, List.length_cons] at ih ⊢; omega
/-- So many of the eight have been laid. -/
def laidK (L : List UInt32) (k : Nat) : List UInt8 := octs (L.take k) ++ List.replicate (32 - k * 4) 0
theorem laidK_length (L : List UInt32) (k : Nat) (hL : L.length = 8) (hk : k ≤ 8) : (laidK L k).length = 32 := by
  unfold laidK
  rw [List.length_append, octs_length, List.length_take, List.length_replicate]; omega
theorem laidK_next (L : List UInt32) (k : Nat) (hL : L.length = 8) (hk : k < 8) : ((laidK L k).map oct).take (k * 4) ++ ((hi (g0 L k).toNat 4).map oct ++ ((laidK L k).map oct).drop (k * 4 + 4)) = (laidK L (k + 1)).map oct := by
  have hl : (octs (L.take k)).length = k * 4 := by rw [octs_length, List.length_take]; omega
  unfold laidK
  rw [← List.map_take, ← List.map_drop, ← List.map_append, ← List.map_append]
  congr 1
  rw [List.take_append_of_le_length (by omega), List.take_of_length_le (by omega)]
  rw [List.drop_append, List.drop_eq_nil_of_le (by omega), List.nil_append, List.drop_replicate]
  have e : octs (L.take (k + 1)) = octs (L.take k) ++ hi (g0 L k).toNat 4 := by
    rw [List.take_succ_eq_append_getElem (by omega), octs, List.flatMap_append, g0_get L k (by omega)]
    simp [octs]
  rw [e, List.append_assoc]
  congr 2
  congr 1
  omega
theorem size25 : (Tryd.prog.info? 23).map (·.size) = some 32 := by kernel_rfl
theorem zero25 : ∀ w, (zeroValue 23).run Tryd.prog w = .ok (.agg ((List.replicate 32 (0 : UInt8)).map oct).toArray) w := (zero_of_info (n := 32) (by kernel_rfl)).1
theorem size40_of (L : List UInt8) (h : L.length = 32) : (Tryd.prog.info? 23).map (·.size) = some (L.map oct).length := by rw [List.length_map, h]; exact size25
theorem sum1_length (c s : List UInt32) (bb : List UInt8) (hs : s.length = 8) : (sum1 c s bb).length = 8 := beh_length _ _ _ hs _
theorem sum2_length (c s : List UInt32) (bb : List UInt8) (hs : s.length = 8) : (sum2 c s bb).length = 8 := beh_length _ _ _ (sum1_length c s bb hs) _
set_option maxRecDepth 100000 in
theorem exec_index26 {v : World} {o : Oper} {ρ : Operand → Value} {x y : Operand} {L : List UInt32} {k : Nat} (hL : L.length = 8) (hk : k < 8) (ho : o.op = .index 98 x y) (hx : ρ x = .agg (L.map wd).toArray) (hy : ρ y = .int .i64 (k : Int)) : (execOp ρ o).run Tryd.prog v = .ok (.value (wd (g0 L k))) v := by
  have hrun : (Instr.index 98 (.agg (L.map wd).toArray) (.int .i64 (k : Int))).run Tryd.prog v = .ok (wd (g0 L k)) v := by
    match L, hL with
    | [a0, a1, a2, a3, a4, a5, a6, a7], _ =>
      obtain rfl | rfl | rfl | rfl | rfl | rfl | rfl | rfl : k = 0 ∨ k = 1 ∨ k = 2 ∨ k = 3 ∨ k = 4 ∨ k = 5 ∨ k = 6 ∨ k = 7 := by omega
      all_goals rfl
  unfold execOp
  simp only [ho, hx, hy, Sem.run_bind, hrun, Result.andThen, Sem.run_pure]
set_option maxRecDepth 1000000 in
set_option maxHeartbeats 8000000 in
theorem sum_c (c s : List UInt32) (hc : c.length = 64) (hs : s.length = 8) (Ad : Option Addr) (bb : List UInt8) (n cap : Nat) (hn : n = bb.length) (hcap : bb.length ≤ cap) (hb : bb.length ≤ 140737488355000) (w : World) (G : Cells w (some ⟨1, 0, none⟩) (c.map wd)) (G1 : Cells w (some ⟨0, 0, none⟩) (s.map wd)) (R : Reads w Ad bb) :
    Calls Tryd.prog 42 #[.slice Ad n cap] w fun e w' => e = .returned (.agg ((octs (sum2 c s bb)).map oct).toArray) ∧ Mod [] w w' := by
  subst hn
  obtain ⟨q, hq⟩ : ∃ q, q = wholeN bb.length := ⟨_, rfl⟩
  have hq' : ((bb.length : Int) / 64 * 64) = (q : Int) := by rw [hq]; unfold wholeN; omega
  have hql : q ≤ bb.length := by rw [hq]; unfold wholeN; omega
  have hq64 : bb.length - q < 64 := by rw [hq]; unfold wholeN; omega
  have hG0 : 1 < w.heap.size := G.lt (by simp [hc])
  obtain ⟨H1, hH1⟩ : ∃ z, z = sum1 c s bb := ⟨_, rfl⟩
  obtain ⟨Z, hZ⟩ : ∃ z, z = tailN bb := ⟨_, rfl⟩
  obtain ⟨H2, hH2⟩ : ∃ z, z = sum2 c s bb := ⟨_, rfl⟩
  have hl1 : H1.length = 8 := by rw [hH1]; exact sum1_length c s bb hs
  have hl2 : H2.length = 8 := by rw [hH2]; exact sum2_length c s bb hs
  have hzl : Z.length = fillM (bb.length - q) := by rw [hZ, hq]; unfold tailN; rw [fillN_length, List.length_drop]
  have hB1 := fun (v : World) (m : Mod [] w v) => behind_c c s hc hs Ad (bb.take q) q cap (by rw [List.length_take]; omega) (by rw [List.length_take]; omega) (by rw [List.length_take]; omega) v (G.keep m (by simp)) ((R.keep m (by simp)).first q)
  rw [show beh c s (bb.take q) ((bb.take q).length / 64) = H1 by rw [hH1, hq]; rfl] at hB1
  have hF := fun (v : World) (m : Mod [] w v) => fill_c (frm Ad q cap) (bb.drop q) (bb.length - q) (cap - q) bb.length (by rw [List.length_drop]) (by rw [List.length_drop]; omega) (by omega) v ((R.keep m (by simp)).from q cap hcap)
  rw [show fillN (bb.drop q) bb.length = Z by rw [hZ, hq]; rfl, List.length_drop, ← hzl] at hF
  have hM := fillM_le (bb.length - q)
  have hB2 := fun (v : World) (m : Mod [] w v) (x : Nat) (D : Holds v x 5 (Z.map oct)) => behind_c c H1 hc hl1 (some ⟨x, 0, none⟩) Z Z.length Z.length rfl (Nat.le_refl _) (by omega) v (G.keep m (by simp)) (Reads.of_holds D)
  rw [show beh c H1 Z (Z.length / 64) = H2 by rw [hH2, hH1, hZ]; rfl] at hB2
  rw [← hH2]
  have HB := Lib.hid (And.intro hql (And.intro hcap (And.intro hl1 (And.intro hl2 (And.intro hG0 (And.intro hB1 (And.intro hF (And.intro hB2 (And.intro hs hb)))))))))
  have hqz : (q : Int) ≤ 140737488355000 := by omega
  clear hq hql hq64 hG0 hH1 hZ hH2 hl1 hl2 hzl hB1 hF hB2 hM hc hs hcap
  go_enter Tryd.func42, Tryd.ntmps42
  go_wp2_with (with_reducible refine wpList_allocs (o := ⟨some 2, .alloc 23, _, _, _, _⟩) rfl 23 rfl _ zero25 ?_; intro w1 hb1 m1 z1; replace z1 := Lib.hid z1)
  obtain ⟨g2, e1⟩ : ∃ b, b = w.heap.size := ⟨_, rfl⟩
  have q0 : w.heap.size ≤ g2 := by omega
  have q1 : g2 < w1.heap.size := by have := z1.out; omega
  rw [← e1] at hb1 ⊢
  clear e1 z1 hb hqz
  have mm : Mod [] w w1.drew := m1.then (Mod.drew [] _)
  refine wp_region_lit (X := Nat) 0 (fun x => [.slice Ad bb.length cap, undef, .pointer (some ⟨g2, 0, none⟩), .int .i64 (q : Int), .pointer (some ⟨x, 0, none⟩), undef, undef, undef, .slice Ad bb.length cap, .int .i64 (bb.length : Int), .int .i64 ((bb.length : Int) / 64), .int .i64 (q : Int), .agg ((s).map wd).toArray, .slice Ad bb.length cap, .int .i64 (q : Int), .slice Ad q cap, .agg ((H1).map wd).toArray, undef, undef, undef, undef, undef, undef, undef, undef, undef, undef, undef, undef, undef, undef, undef, undef, undef, undef, undef, undef, undef]) 38 [0, 1, 2, 3, 5, 6, 7, 8, 9, 10, 11, 17, 18, 19, 20, 21, 22, 23, 24, 25, 26, 27, 28, 29, 30, 31, 32, 33, 34, 35, 36, 37]
    (fun x lz v => Mk w1.drew.heap.size 98 ((if lz 6 = true then H1 else List.replicate 8 0).map wd) x (lz 5) v ∧ Mod [] w1.drew v) []
    (by kernel_rfl) (fun _ => rfl) rfl rfl rfl (fun _ => by simp only [List.map_cons, List.map_nil, List.getD_cons_zero, List.getD_cons_succ]) (⟨Mk.not, Mod.refl _ _⟩) (by kernel_rfl) (by kernel_rfl) ?step ?fin
  case step =>
    intro x lz T v j o hj hlj hdep hst hpar hgot hcl K hK
    have hjn : j < 7 := (Array.getElem?_eq_some_iff.1 hj).1
    obtain rfl | rfl | rfl | rfl | rfl | rfl | rfl : j = 0 ∨ j = 1 ∨ j = 2 ∨ j = 3 ∨ j = 4 ∨ j = 5 ∨ j = 6 := by omega
    all_goals (have hj' := Option.some.inj (hj : some _ = some o); subst hj'; clear hj)
    · exact wp_called rfl (exec_call0 rfl rfl (enters_of Tryd.func56 (by kernel_rfl) rfl)) ((start_c s HB.out.2.2.2.2.2.2.2.2.1 _ (G1.keep (mm.then hst.2) (by simp))).mono (fun e v' hh => ⟨_, hh.1, hK x _ _ (fun _ _ _ _ _ _ => rfl) (fun s hs => by cases hs; rfl) (⟨hst.1.keep hh.2, hst.2.then hh.2⟩)⟩))
    · exact wp_ran rfl (exec_move rfl (eval_tmp (hpar 0 (by simp)))) (hK x _ _ (fun _ _ _ _ _ _ => rfl) (fun s hs => by cases hs; rfl) hst)
    · exact wp_ran rfl (exec_move rfl (eval_tmp (hpar 3 (by simp)))) (hK x _ _ (fun _ _ _ _ _ _ => rfl) (fun s hs => by cases hs; rfl) hst)
    · exact wp_ran rfl (exec_upto Tryd.underlying64 u8_one (by have := HB.out; omega) rfl (eval_tmp (hgot 1 _ 13 rfl (hdep ⟨1, .data⟩ (by simp) rfl) rfl)) (eval_tmp (hgot 2 _ 14 rfl (hdep ⟨2, .data⟩ (by simp) rfl) rfl))) (hK x _ _ (fun _ _ _ _ _ _ => rfl) (fun s hs => by cases hs; rfl) hst)
    · exact wp_called rfl (exec_call2 rfl rfl (eval_tmp (hgot 0 _ 12 rfl (hdep ⟨0, .data⟩ (by simp) rfl) rfl)) (eval_tmp (hgot 3 _ 15 rfl (hdep ⟨3, .data⟩ (by simp) rfl) rfl)) (enters_of Tryd.func55 (by kernel_rfl) rfl)) ((HB.out.2.2.2.2.2.1 _ (mm.then hst.2)).mono (fun e v' hh => ⟨_, hh.1, hK x _ _ (fun _ _ _ _ _ _ => rfl) (fun s hs => by cases hs; rfl) (⟨hst.1.keep hh.2, hst.2.then hh.2⟩)⟩))
    · have h0 : lz 6 = false := by
        cases h5 : lz 6 with
        | false => rfl
        | true => exact absurd (hcl 6 _ rfl h5 ⟨5, .data⟩ (by simp) rfl) (by rw [hlj]; simp)
      exact wp_alloced (cs := (List.replicate 8 (0 : UInt32)).map wd) rfl rfl zero68 (fun v' q m => hK v.heap.size _ _ (fun j' o' s' h1 h2 h3 => by
              clear hst hpar hgot hdep hcl hK
              have h4 : j' < 7 := (Array.getElem?_eq_some_iff.1 h1).1
              obtain rfl | rfl | rfl | rfl | rfl | rfl | rfl : j' = 0 ∨ j' = 1 ∨ j' = 2 ∨ j' = 3 ∨ j' = 4 ∨ j' = 5 ∨ j' = 6 := by omega
              all_goals (cases h1; cases h3 <;> first | rfl | (rw [hlj] at h2; cases h2))) (fun s hs => by cases hs; rfl) ⟨fun _ => ⟨hst.2.size, by show Holds v' v.heap.size 98 ((if lz 6 = true then H1 else List.replicate 8 0).map wd); rw [h0]; exact q⟩, hst.2.then m⟩)
    · have h5 : lz 5 = true := hdep ⟨5, .data⟩ (by simp) rfl
      have hx := hst.1 h5
      rw [hlj] at hx
      exact wp_stored (ty := 98) (V := .agg ((H1).map wd).toArray) (cs := H1.map wd) rfl rfl (eval_tmp (hgot 5 _ 4 rfl (hdep ⟨5, .data⟩ (by simp) rfl) rfl)) (eval_tmp (hgot 4 _ 16 rfl (hdep ⟨4, .data⟩ (by simp) rfl) rfl)) rfl hx.2 (by rw [List.length_map, if_neg (by simp), List.length_map, HB.out.2.2.1, List.length_replicate]) (words_one _) (size26_of _ HB.out.2.2.1) (fun v' q1 q2 => hK x _ _ (fun _ _ _ _ _ _ => rfl) (fun s hs => by cases hs) ⟨fun _ => ⟨hx.1, q1⟩, hst.2.trans q2 (by intro i hi hm; simp at hm; have := hx.1; omega)⟩)
  case fin =>
    intro x lz v hl hst
    have e5 := hl 5 (by decide)
    have e6 := hl 6 (by decide)
    rw [e5, e6] at hst
    obtain ⟨h0, nm⟩ := hst
    obtain ⟨p1, h4⟩ := h0 rfl
    clear h0
    replace h4 : Holds v x 98 (H1.map wd) := h4
    have hb2 := Holds.keep (w := w1.drew) hb1 nm (by simp)
    have mn := mm.then nm
    have p2 : w1.heap.size ≤ x := p1
    obtain ⟨g4, rfl⟩ : ∃ u, u = x := ⟨_, rfl⟩
    obtain ⟨w2, rfl⟩ : ∃ u, u = v := ⟨_, rfl⟩
    replace mn : Mod [] w w2.drew := mn.then (Mod.drew [] _)
    replace h4 : Holds w2.drew g4 98 (H1.map wd) := h4
    replace hb2 : Holds w2.drew g2 23 ((List.replicate 32 (0 : UInt8)).map oct) := hb2
    clear hb1 mm nm e5 e6 hl p1 m1
    try dsimp only
    go_wp2_with fail
    refine wp_region_lit (X := Nat) 0 (fun x => [.slice Ad bb.length cap, undef, .pointer (some ⟨g2, 0, none⟩), .int .i64 (q : Int), .pointer (some ⟨g4, 0, none⟩), undef, undef, undef, .slice Ad bb.length cap, .int .i64 (bb.length : Int), .int .i64 ((bb.length : Int) / 64), .int .i64 (q : Int), .agg ((s).map wd).toArray, .slice Ad bb.length cap, .int .i64 (q : Int), .slice Ad q cap, .agg ((H1).map wd).toArray, .agg ((H1).map wd).toArray, .slice Ad bb.length cap, .int .i64 (q : Int), .slice (frm Ad q cap) (bb.length - q) (cap - q), .slice Ad bb.length cap, .int .i64 (bb.length : Int), .slice (some ⟨x, 0, none⟩) Z.length Z.length, .agg ((H2).map wd).toArray, undef, undef, undef, undef, undef, undef, undef, undef, undef, undef, undef, undef, undef]) 38 [0, 1, 2, 3, 4, 5, 6, 7, 8, 9, 10, 11, 12, 13, 14, 15, 16, 25, 26, 27, 28, 29, 30, 31, 32, 33, 34, 35, 36, 37]
      (fun x lz v => Sto 8 (fun v => Mk w2.drew.heap.size 5 (Z.map oct) x (lz 6) v ∧ Mod [] w2.drew v) (fun v => Holds v g4 98 (H2.map wd) ∧ Mod [g4] w2.drew v) lz v) []
      (by kernel_rfl) (fun _ => rfl) rfl rfl rfl (fun _ => by simp only [List.map_cons, List.map_nil, List.getD_cons_zero, List.getD_cons_succ]) (Sto.start ⟨Mk.not, Mod.refl _ _⟩) (by kernel_rfl) (by kernel_rfl) ?step ?fin
    case step =>
      intro x lz T v j o hj hlj hdep hst hpar hgot hcl K hK
      have hjn : j < 9 := (Array.getElem?_eq_some_iff.1 hj).1
      have hq := fun h => Sto.now (j := j) hst hlj h
      obtain rfl | rfl | rfl | rfl | rfl | rfl | rfl | rfl | rfl : j = 0 ∨ j = 1 ∨ j = 2 ∨ j = 3 ∨ j = 4 ∨ j = 5 ∨ j = 6 ∨ j = 7 ∨ j = 8 := by omega
      all_goals (have hj' := Option.some.inj (hj : some _ = some o); subst hj'; clear hj)
      · exact wp_ran rfl (exec_load rfl (eval_tmp (hpar 4 (by simp))) (run_loads (Cells.of_holds (Holds.keep (w := w2.drew) h4 (hq (by decide)).2.2 (by simp))) Tryd.underlying98 rfl (size26_of _ HB.out.2.2.1))) (hK x _ _ (fun _ _ _ _ _ _ => rfl) (fun s hs => by cases hs; rfl) (Sto.keep2 (hq (by decide)).1 (by decide) (hq (by decide)).2))
      · exact wp_ran rfl (exec_move rfl (eval_tmp (hpar 0 (by simp)))) (hK x _ _ (fun _ _ _ _ _ _ => rfl) (fun s hs => by cases hs; rfl) (Sto.keep2 (hq (by decide)).1 (by decide) (hq (by decide)).2))
      · exact wp_ran rfl (exec_move rfl (eval_tmp (hpar 3 (by simp)))) (hK x _ _ (fun _ _ _ _ _ _ => rfl) (fun s hs => by cases hs; rfl) (Sto.keep2 (hq (by decide)).1 (by decide) (hq (by decide)).2))
      · exact wp_ran rfl (exec_from Tryd.underlying64 u8_one (by have := HB.out; omega) rfl (eval_tmp (hgot 1 _ 18 rfl (hdep ⟨1, .data⟩ (by simp) rfl) rfl)) (eval_tmp (hgot 2 _ 19 rfl (hdep ⟨2, .data⟩ (by simp) rfl) rfl))) (hK x _ _ (fun _ _ _ _ _ _ => rfl) (fun s hs => by cases hs; rfl) (Sto.keep2 (hq (by decide)).1 (by decide) (hq (by decide)).2))
      · exact wp_ran rfl (exec_move rfl (eval_tmp (hpar 0 (by simp)))) (hK x _ _ (fun _ _ _ _ _ _ => rfl) (fun s hs => by cases hs; rfl) (Sto.keep2 (hq (by decide)).1 (by decide) (hq (by decide)).2))
      · exact wp_ran rfl (exec_len Tryd.underlying64 rfl (eval_tmp (hgot 4 _ 21 rfl (hdep ⟨4, .data⟩ (by simp) rfl) rfl))) (hK x _ _ (fun _ _ _ _ _ _ => rfl) (fun s hs => by cases hs; rfl) (Sto.keep2 (hq (by decide)).1 (by decide) (hq (by decide)).2))
      · exact wp_called rfl (exec_call2 rfl rfl (eval_tmp (hgot 3 _ 20 rfl (hdep ⟨3, .data⟩ (by simp) rfl) rfl)) (eval_tmp (hgot 5 _ 22 rfl (hdep ⟨5, .data⟩ (by simp) rfl) rfl)) (enters_of Tryd.func57 (by kernel_rfl) rfl)) ((HB.out.2.2.2.2.2.2.1 v (mn.then (hq (by decide)).2.2)).mono (fun e v' hh => by
          obtain ⟨gz, h1, h2, h3, h4⟩ := hh
          exact ⟨_, h1, hK gz _ _ (fun j' o' s' h1 h2 h3 => by
                clear hst hpar hgot hdep hcl hK
                have h4 : j' < 9 := (Array.getElem?_eq_some_iff.1 h1).1
                obtain rfl | rfl | rfl | rfl | rfl | rfl | rfl | rfl | rfl : j' = 0 ∨ j' = 1 ∨ j' = 2 ∨ j' = 3 ∨ j' = 4 ∨ j' = 5 ∨ j' = 6 ∨ j' = 7 ∨ j' = 8 := by omega
                all_goals (cases h1; cases h3 <;> first | rfl | (rw [hlj] at h2; cases h2))) (fun s hs => by cases hs; rfl) (Sto.keep2 (hq (by decide)).1 (by decide) ⟨fun _ => ⟨Nat.le_trans (hq (by decide)).2.2.size h2, h3⟩, (hq (by decide)).2.2.then h4⟩)⟩))
      · exact wp_called rfl (exec_call2 rfl rfl (eval_tmp (hgot 0 _ 17 rfl (hdep ⟨0, .data⟩ (by simp) rfl) rfl)) (eval_tmp (hgot 6 _ 23 rfl (hdep ⟨6, .data⟩ (by simp) rfl) rfl)) (enters_of Tryd.func55 (by kernel_rfl) rfl)) ((HB.out.2.2.2.2.2.2.2.1 v (mn.then (hq (by decide)).2.2) x ((hq (by decide)).2.1 (hdep ⟨6, .data⟩ (by simp) rfl)).2).mono (fun e v' hh => ⟨_, hh.1, hK x _ _ (fun _ _ _ _ _ _ => rfl) (fun s hs => by cases hs; rfl) (Sto.keep2 (hq (by decide)).1 (by decide) ⟨(hq (by decide)).2.1.keep hh.2, (hq (by decide)).2.2.then hh.2⟩)⟩))
      · exact wp_stored (ty := 98) (V := .agg ((H2).map wd).toArray) (cs := H2.map wd) rfl rfl (eval_tmp (hpar 4 (by simp))) (eval_tmp (hgot 7 _ 24 rfl (hdep ⟨7, .data⟩ (by simp) rfl) rfl)) rfl (Holds.keep (w := w2.drew) h4 (hq (by decide)).2.2 (by simp)) (by rw [List.length_map, List.length_map, HB.out.2.2.2.1, HB.out.2.2.1]) (words_one _) (size26_of _ HB.out.2.2.2.1) (fun v' q1 q2 => hK x _ _ (fun _ _ _ _ _ _ => rfl) (fun s hs => by cases hs) (Sto.done (reach_all (by kernel_rfl) hcl rfl hdep) ⟨q1, (hq (by decide)).2.2.pre q2⟩))
    case fin =>
      intro x lz v hl hst
      obtain ⟨n4, nm⟩ := Sto.fin hst hl (by decide)
      have hb3 := Holds.keep (w := w2.drew) hb2 nm (by simp; omega)
      have m3 : Mod [] w v := ⟨nm.os.trans mn.os, nm.tape.trans mn.tape, nm.output.trans mn.output, Nat.le_trans mn.size nm.size, fun i hi _ => by
        rw [nm.block i (Nat.lt_of_lt_of_le hi mn.size) (by simp; omega), mn.block i hi (by simp)]⟩
      obtain ⟨w3, rfl⟩ : ∃ u, u = v := ⟨_, rfl⟩
      obtain ⟨gz, rfl⟩ : ∃ u, u = x := ⟨_, rfl⟩
      have QQ := Lib.hid (And.intro q0 (And.intro q1 p2))
      clear hst hl nm h4 hb2 mn q0 q1 p2
      try dsimp only
      go_wp2_with (first
        | (with_reducible refine wpList_allocs (o := ⟨some 5, .alloc 23, _, _, _, _⟩) rfl 23 rfl _ zero25 ?_; intro w4 hb5 m4 z4; replace z4 := Lib.hid z4)
        | (with_reducible refine wpList_loads (o := ⟨some 25, .load 98 (.tmp 4), _, _, _, _⟩) rfl 98 (.tmp 4) rfl g4 0 _ rfl (Cells.of_holds (n4.keep m4 (by simp))) _ Tryd.underlying98 rfl (size26_of _ HB.out.2.2.2.1) (.agg (H2.map wd).toArray) rfl ?_))
      obtain ⟨g5, e5⟩ : ∃ b, b = w3.heap.size := ⟨_, rfl⟩
      have q6 : w.heap.size ≤ g5 := by have := m3.size; omega
      have q5 : g2 < g5 := by have := hb3.lt; omega
      rw [← e5] at hb5 ⊢
      have hb6 := hb3.keep m4 (by simp)
      have m5 := m3.then m4
      have Q3 := Lib.hid (And.intro QQ.out (And.intro q6 q5))
      have hb7 : Holds w4 g5 23 ((laidK H2 0).map oct) := hb5
      clear e5 n4 hb3 hb5 m3 m4 z4 q5 q6 QQ
      go_loopw [26] (fun i wi => ∃ k : Nat, k ≤ 8 ∧ i = .int .i64 (k : Int) ∧ Holds wi g5 23 ((laidK H2 k).map oct) ∧ Holds wi g2 23 ((List.replicate 32 (0 : UInt8)).map oct) ∧ Mod [] w wi) (fun i _ => 8 - (intOf i).toNat)
      case atStart => exact ⟨0, by omega, rfl, hb7, hb6, m5⟩
      case round =>
        clear hb6 hb7 m5
        obtain ⟨k, hk, rfl, k5, k2, mk⟩ := hrel
        by_cases hlt : k < 8
        · have hz : (k : Int) < 8 := by omega
          have HK := Lib.hid hlt
          clear hlt hk
          go_wp2_with (with_reducible refine wpList_ran (o := ⟨some 29, .index 98 (.tmp 25) (.tmp 26), _, _, _, _⟩) rfl (wd (g0 H2 k)) (exec_index26 HB.out.2.2.2.1 HK.out rfl rfl rfl) ?_)
          clear hz
          refine wp_region_lit (X := Nat) 0 (fun x => [.slice Ad bb.length cap, undef, .pointer (some ⟨g2, 0, none⟩), .int .i64 (q : Int), .pointer (some ⟨g4, 0, none⟩), .pointer (some ⟨g5, 0, none⟩), .int .i64 (k : Int), wd (g0 H2 k), .slice Ad bb.length cap, .int .i64 (bb.length : Int), .int .i64 ((bb.length : Int) / 64), .int .i64 (q : Int), .agg ((s).map wd).toArray, .slice Ad bb.length cap, .int .i64 (q : Int), .slice Ad q cap, .agg ((H1).map wd).toArray, .agg ((H1).map wd).toArray, .slice Ad bb.length cap, .int .i64 (q : Int), .slice (frm Ad q cap) (bb.length - q) (cap - q), .slice Ad bb.length cap, .int .i64 (bb.length : Int), .slice (some ⟨gz, 0, none⟩) Z.length Z.length, .agg ((H2).map wd).toArray, .agg ((H2).map wd).toArray, .int .i64 (k : Int), .bool true, .int .i64 (k : Int), wd (g0 H2 k), .int .i64 (k : Int), .int .i64 ((k * 4 : Nat) : Int), .slice (some ⟨g5, k * 4, none⟩) (32 - k * 4) (32 - k * 4), wd (g0 H2 k), .slice (some ⟨x, 0, none⟩) 4 4, .int .i64 4, u36, undef]) 38 [0, 1, 2, 3, 4, 5, 6, 7, 8, 9, 10, 11, 12, 13, 14, 15, 16, 17, 18, 19, 20, 21, 22, 23, 24, 25, 26, 27, 28, 29, 36, 37]
            (fun x lz v => Sto 5 (fun v => Mk wr.drew.heap.size 5 ((hi (g0 H2 k).toNat 4).map oct) x (lz 4) v ∧ Mod [] wr.drew v) (fun v => Holds v g5 23 ((laidK H2 (k + 1)).map oct) ∧ Mod [g5] wr.drew v) lz v) []
            (by kernel_rfl) (fun _ => rfl) rfl rfl rfl (fun _ => by simp only [List.map_cons, List.map_nil, List.getD_cons_zero, List.getD_cons_succ]) (Sto.start ⟨Mk.not, Mod.refl _ _⟩) (by kernel_rfl) (by kernel_rfl) ?step ?fin
          case step =>
            intro x lz T v j o hj hlj hdep hst hpar hgot hcl K hK
            have hjn : j < 6 := (Array.getElem?_eq_some_iff.1 hj).1
            have hq := fun h => Sto.now (j := j) hst hlj h
            obtain rfl | rfl | rfl | rfl | rfl | rfl : j = 0 ∨ j = 1 ∨ j = 2 ∨ j = 3 ∨ j = 4 ∨ j = 5 := by omega
            all_goals (have hj' := Option.some.inj (hj : some _ = some o); subst hj'; clear hj)
            · exact wp_ran rfl (exec_move rfl (eval_tmp (hpar 6 (by simp)))) (hK x _ _ (fun _ _ _ _ _ _ => rfl) (fun s hs => by cases hs; rfl) (Sto.keep2 (hq (by decide)).1 (by decide) (hq (by decide)).2))
            · exact wp_ran rfl (exec_mul rfl rfl (eval_tmp (hgot 0 _ 30 rfl (hdep ⟨0, .data⟩ (by simp) rfl) rfl)) (show IntKind.i64.wrap ((4 : Int) * (k : Int)) = ((k * 4 : Nat) : Int) by rw [Nat.mul_comm]; exact mul_n 4 k (by have := HK.out; omega))) (hK x _ _ (fun _ _ _ _ _ _ => rfl) (fun s hs => by cases hs; rfl) (Sto.keep2 (hq (by decide)).1 (by decide) (hq (by decide)).2))
            · exact wp_ran rfl (exec_cut Tryd.underlying23 u8_one (by have := HK.out; omega) rfl (eval_tmp (hpar 5 (by simp))) (eval_tmp (hgot 1 _ 31 rfl (hdep ⟨1, .data⟩ (by simp) rfl) rfl))) (hK x _ _ (fun _ _ _ _ _ _ => rfl) (fun s hs => by cases hs; rfl) (Sto.keep2 (hq (by decide)).1 (by decide) (hq (by decide)).2))
            · exact wp_ran rfl (exec_move rfl (eval_tmp (hpar 7 (by simp)))) (hK x _ _ (fun _ _ _ _ _ _ => rfl) (fun s hs => by cases hs; rfl) (Sto.keep2 (hq (by decide)).1 (by decide) (hq (by decide)).2))
            · exact wp_called rfl (exec_call2 rfl rfl rfl (eval_tmp (hgot 3 _ 33 rfl (hdep ⟨3, .data⟩ (by simp) rfl) rfl)) (enters_of Tryd.func58 (by kernel_rfl) rfl)) ((put32_c none [] 0 (g0 H2 k).toNat v (by simp) (Reads.nil _ _) (u32_lt _)).mono (fun e v' hh => ⟨_, hh.1, hK v.heap.size _ _ (fun j' o' s' h1 h2 h3 => by
                      clear hst hpar hgot hdep hcl hK
                      have h4 : j' < 6 := (Array.getElem?_eq_some_iff.1 h1).1
                      obtain rfl | rfl | rfl | rfl | rfl | rfl : j' = 0 ∨ j' = 1 ∨ j' = 2 ∨ j' = 3 ∨ j' = 4 ∨ j' = 5 := by omega
                      all_goals (cases h1; cases h3 <;> first | rfl | (rw [hlj] at h2; cases h2))) (fun s hs => by cases hs; rfl) (Sto.keep2 (hq (by decide)).1 (by decide) ⟨fun _ => ⟨(hq (by decide)).2.2.size, hh.2.1⟩, (hq (by decide)).2.2.then hh.2.2⟩)⟩))
            · have h8 : lz 4 = true := hdep ⟨4, .data⟩ (by simp) rfl
              have hA := (hq (by decide)).2
              have hx := hA.1 h8
              have hD : Holds v g5 23 ((laidK H2 k).map oct) := Holds.keep (w := wr.drew) k5 hA.2 (by simp)
              refine wp_copied (l := hi (g0 H2 k).toNat 4) rfl Tryd.underlying64 u8_one rfl (eval_tmp (hgot 2 _ 32 rfl (hdep ⟨2, .data⟩ (by simp) rfl) rfl)) (eval_tmp (hgot 4 _ 34 rfl (hdep ⟨4, .data⟩ (by simp) rfl) rfl)) hD (by rw [hi_length]) (by rw [hi_length]; have := HK.out; omega) (Reads.of_holds hx.2) (by rw [hi_length]; omega) (by rw [hi_length, List.length_map, laidK_length H2 k HB.out.2.2.2.1 (by have := HK.out; omega)]; have := HK.out; omega) (fun v' n1 n2 => ?_)
              rw [hi_length, laidK_next H2 k HB.out.2.2.2.1 HK.out] at n1
              exact hK x _ v' (fun _ _ _ _ _ _ => rfl) (fun s hs => by cases hs; rw [hi_length]; rfl) (Sto.done (reach_all (by kernel_rfl) hcl rfl hdep) ⟨n1, hA.2.pre n2⟩)
          case fin =>
            intro x lz v hl hst
            obtain ⟨n1, nm⟩ := Sto.fin hst hl (by decide)
            have n2 := Holds.keep (w := wr.drew) k2 nm (by simp; have := Q3.out; omega)
            have mn : Mod [] w v := ⟨nm.os.trans mk.os, nm.tape.trans mk.tape, nm.output.trans mk.output, Nat.le_trans mk.size nm.size, fun i hi _ => by
              rw [nm.block i (Nat.lt_of_lt_of_le hi mk.size) (by simp; have := Q3.out; omega), show wr.drew.heap[i]? = wr.heap[i]? from rfl, mk.block i hi (by simp)]⟩
            have hk1 : k + 1 ≤ 8 := HK.out
            have HN := Lib.hid (And.intro hk1 (And.intro n1 (And.intro n2 mn)))
            have hz : (k : Int) < 8 := by have := HK.out; omega
            clear n1 n2 mn nm hst hl hk1 k2 k5 mk
            try dsimp only
            go_wp2_with fail
            exact ⟨⟨k + 1, HN.out.1, by go_num, HN.out.2.1, HN.out.2.2.1, HN.out.2.2.2⟩, by simp [intOf]; omega⟩
        · obtain rfl : k = 8 := by omega
          have hfin : laidK H2 8 = octs H2 := by
            unfold laidK
            rw [List.take_of_length_le (by rw [HB.out.2.2.2.1]; omega)]
            simp
          rw [hfin] at k5
          have hol : (octs H2).length = 32 := by rw [octs_length, HB.out.2.2.2.1]
          have HL := Lib.hid (And.intro mk (And.intro Q3.out hol))
          clear mk hlt hk hfin hol
          go_wp2_with (first
            | (with_reducible refine wpList_loads (o := ⟨some 37, .load 23 (.tmp 5), _, _, _, _⟩) rfl 23 (.tmp 5) rfl g5 0 _ rfl (Cells.of_holds k5) _ Tryd.underlying23 rfl (size40_of _ HL.out.2.2) (.agg ((octs H2).map oct).toArray) rfl ?_)
            | (with_reducible refine wpList_storesAll (o := ⟨none, .store 23 (.tmp 2) (.tmp 37), _, _, _, _⟩) rfl 23 (.tmp 2) (.tmp 37) rfl rfl g2 ((octs H2).map oct) rfl (.agg ((octs H2).map oct).toArray) rfl rfl 23 _ k2 (by rw [List.length_map, List.length_map, HL.out.2.2, List.length_replicate]) (octs_one _) (size40_of _ HL.out.2.2) ?_; intro w7 hw7 m7 z7))
          refine bodyPost_ret (results_cell_row rfl _ _ g2 23 _ (0, 0) _ rfl hw7 Tryd.underlying23 rfl (by rw [List.size_toArray]; exact size40_of _ HL.out.2.2)) rfl ?_
          obtain ⟨l3, l4, l5⟩ := HL.out
          exact ⟨rfl, ⟨m7.os.trans l3.os, m7.tape.trans l3.tape, m7.output.trans l3.output, Nat.le_trans l3.size m7.size, fun i hi _ => by rw [m7.block i (Nat.lt_of_lt_of_le hi l3.size) (by simp; omega), l3.block i hi (by simp)]⟩⟩
end
section
open Go.RowKit
/-- Slot s is written by step j alone. -/
def ownB (ops : Array Oper) (s j : Nat) : Bool := (List.range ops.size).all fun i => ((ops[i]?).map fun (o : Oper) => !(o.dst == some s) || i == j).getD true
theorem ownB_of {ops : Array Oper} {s j : Nat} (h : ownB ops s j = true) (i : Nat) (o : Oper) (ho : ops[i]? = some o) (hs : o.dst = some s) : i = j := by
  have hi := (Array.getElem?_eq_some_iff.1 ho).1
  have := List.all_eq_true.1 h i (List.mem_range.2 hi)
  rw [ho] at this
  simpa [hs] using this
section
variable {P : Program} {ops : Array Oper} {Q : Exit → Act → World → Prop}
/-- A region that draws its order, each of whose steps yields the same whenever it may come, but for what x says (the places of what is made). -/
theorem wp_region_detxo {X : Type} {id : Nat} {a : Act} {w : World} (x0 : X) (nt : Nat) (E : X → Nat → Value) (ps : List Nat) (st : X → (Nat → Bool) → World → Prop) (ds : List Deferred) (hm : P.follows .mixedOrders = true)
    (ht : a.tmps.size = nt) (hd : a.defers = ds) (hp : ∀ s ∈ ps, a.tmps[s]? = some (E x0 s)) (h0 : st x0 (fun _ => false) w.drew)
    (hlt : ∀ (i : Nat) (o : Oper), ops[i]? = some o → ∀ e ∈ o.after, Region.binds .any e = true → e.on < i) (os ow : Nat) (ov : Value) (ho0 : a.tmps[os]? = some ov) (hou : ∀ (j : Nat) (o : Oper), ops[j]? = some o → o.dst = some os → j = ow) (hdst : ∀ (i : Nat) (o : Oper) (s : Nat), ops[i]? = some o → o.dst = some s → s < nt)
    (hstep : ∀ (x : X) (l : Nat → Bool) (T : Act) (v : World) (i : Nat) (o : Oper), ops[i]? = some o → l i = false → (∀ e ∈ o.after, Region.binds .any e = true → l e.on = true) → st x l v →
      (∀ s ∈ ps, T.tmps[s]? = some (E x s)) → (∀ (j : Nat) (o' : Oper) (s : Nat), ops[j]? = some o' → l j = true → o'.dst = some s → T.tmps[s]? = some (E x s)) → (l ow = false → T.tmps[os]? = some ov) →
      ∀ K : Act → World → Prop, (∀ x' u v', (∀ s ∈ ps, E x' s = E x s) → (∀ (j : Nat) (o' : Oper) (s : Nat), ops[j]? = some o' → l j = true → o'.dst = some s → E x' s = E x s) → (∀ s, o.dst = some s → u = E x' s) → st x' (fun j => if j = i then true else l j) v' → K (T.put o.dst u) v') →
        if Region.wanted o (yielded ops T.tmps) = true then o.wp P T v K Q else K (T.put o.dst undef) v)
    (hend : ∀ (x : X) (l : Nat → Bool) (T : Act) (v : World), (∀ j, j < ops.size → l j = true) → st x l v → T.tmps.size = nt → T.defers = ds → (∀ s ∈ ps, T.tmps[s]? = some (E x s)) →
      (∀ (j : Nat) (o' : Oper) (s : Nat), ops[j]? = some o' → o'.dst = some s → T.tmps[s]? = some (E x s)) → Q .normal T v) :
    (Code.region id ops true).wp P Q a w := by
  refine wp_region_any hm ?_
  refine wpAny_inv2 (fun listed T v => (∃ x, Drawn ops nt (E x) ps (st x) ds listed T v) ∧ (listed.getD ow false = false → T.tmps[os]? = some ov)) (fun _ _ _ ⟨⟨_, h⟩, _⟩ => h.size) ?_ ?_ hlt ops.size _ a _ ?_ ?_
  · rintro listed T v i o ⟨⟨x, hI⟩, hO⟩ ho hi hdep K hK
    have hio : i < ops.size := (Array.getElem?_eq_some_iff.1 ho).1
    have hil : i < listed.size := by rw [hI.size]; exact hio
    have hi' : listed.getD i false = false := by
      simp only [Array.getD, hil, dite_true] at hi ⊢
      exact hi
    have hput : ∀ (u : Value) (s : Nat) (y : Value), T.tmps[s]? = some y → (o.dst = some s → y = u) → (T.put o.dst u).tmps[s]? = some y := by
      intro u s y hx hsx
      unfold Act.put
      cases hds : o.dst with
      | none => exact hx
      | some d =>
        show (T.tmps.setIfInBounds d u)[s]? = some y
        rw [Array.getElem?_setIfInBounds]
        by_cases hd' : d = s
        · subst hd'
          have hlt' : d < T.tmps.size := (Array.getElem?_eq_some_iff.1 hx).1
          simp [hlt', hsx hds]
        · simp [hd', hx]
    refine hstep x (fun j => listed.getD j false) T v i o ho hi' hdep hI.wor hI.par hI.got hO K (fun x' u v' hps hold hu hv' => hK _ _ ⟨⟨x', ?_⟩, fun hw => ?_⟩)
    rotate_left
    · rw [getD_set _ _ _ hil] at hw
      by_cases hwi : ow = i
      · rw [if_pos hwi] at hw; cases hw
      · rw [if_neg hwi] at hw
        exact hput u os _ (hO hw) (fun hd => absurd (hou i o ho hd).symm hwi)
    refine ⟨by simpa using hI.size, ?_, ?_, fun s hs' => hput u s _ (by rw [hps s hs']; exact hI.par s hs') (fun h => (hu s h).symm), ?_, ?_⟩
    · unfold Act.put
      split <;> simp [hI.tsize]
    · unfold Act.put
      split <;> exact hI.defs
    · intro j o' s hj hl hs'
      rw [getD_set _ _ _ hil] at hl
      by_cases hji : j = i
      · subst hji
        rw [ho] at hj
        cases hj
        unfold Act.put
        rw [hs']
        show (T.tmps.setIfInBounds s u)[s]? = _
        have hsl : s < T.tmps.size := by rw [hI.tsize]; exact hdst _ _ _ ho hs'
        simp [hsl, hu s hs']
      · rw [if_neg hji] at hl
        exact hput u s _ (by rw [hold j o' s hj hl hs']; exact hI.got j o' s hj hl hs') (fun h => (hu s h).symm)
    · have : (fun j => (listed.setIfInBounds i true).getD j false) = (fun j => if j = i then true else listed.getD j false) := funext fun j => getD_set _ _ _ hil
      rw [this]
      exact hv'
  · rintro listed T v ⟨⟨x, hI⟩, _⟩ hl
    exact hend x _ T v hl hI.wor hI.tsize hI.defs hI.par (fun j o' s hj hs' => hI.got j o' s hj (hl j (Array.getElem?_eq_some_iff.1 hj).1) hs')
  · have : ∀ n : Nat, (List.replicate n false).countP (fun b => !b) ≤ n := fun n => Nat.le_trans List.countP_le_length (by simp)
    simpa using this ops.size
  · refine ⟨⟨x0, by simp, ht, hd, hp, fun j o s _ hl _ => ?_, ?_⟩, fun _ => ho0⟩
    · simp [Array.getD] at hl
    · have : (fun j => (Array.replicate ops.size false).getD j false) = (fun _ => false) := by
        funext j
        simp [Array.getD]
      rw [this]
      exact h0
/-- The same, to a literal frame. -/
theorem wp_region_lito {X : Type} {id : Nat} {a : Act} {w : World} (x0 : X) (F : X → List Value) (nt : Nat) (ps : List Nat) (st : X → (Nat → Bool) → World → Prop) (ds : List Deferred) (hm : P.follows .mixedOrders = true)
    (hF : ∀ x, (F x).length = nt) (ht : a.tmps.size = nt) (hd : a.defers = ds) (hp : ps.map (fun s => a.tmps[s]?) = ps.map (fun s => some ((F x0).getD s undef))) (hx : ∀ x, ps.map (fun s => (F x).getD s undef) = ps.map (fun s => (F x0).getD s undef)) (os ow : Nat) (ov : Value) (ho0 : a.tmps[os]? = some ov) (hou : ownB ops os ow = true) (h0 : st x0 (fun _ => false) w.drew)
    (hB : drawn2B ops nt = true) (hC : coverB ops nt ps = true)
    (hstep : ∀ (x : X) (l : Nat → Bool) (T : Act) (v : World) (i : Nat) (o : Oper), ops[i]? = some o → l i = false → (∀ e ∈ o.after, Region.binds .any e = true → l e.on = true) → st x l v →
      (∀ s, s ∈ ps → T.tmps[s]? = some ((F x).getD s undef)) → (∀ (j : Nat) (o' : Oper) (s : Nat), ops[j]? = some o' → l j = true → o'.dst = some s → T.tmps[s]? = some ((F x).getD s undef)) → Closed ops l → (l ow = false → T.tmps[os]? = some ov) →
      ∀ K : Act → World → Prop, (∀ x' u v', (∀ (j : Nat) (o' : Oper) (s : Nat), ops[j]? = some o' → l j = true → o'.dst = some s → (F x').getD s undef = (F x).getD s undef) → (∀ s, o.dst = some s → u = (F x').getD s undef) → st x' (fun j => if j = i then true else l j) v' → K (T.put o.dst u) v') →
        if Region.wanted o (yielded ops T.tmps) = true then o.wp P T v K Q else K (T.put o.dst undef) v)
    (hend : ∀ (x : X) (l : Nat → Bool) (v : World), (∀ j, j < ops.size → l j = true) → st x l v → Q .normal ⟨(F x).toArray, ds⟩ v) :
    (Code.region id ops true).wp P Q a w := by
  refine wp_region_detxo (os := os) (ow := ow) (ov := ov) (ho0 := ho0) (hou := ownB_of hou) x0 nt (fun x s => (F x).getD s undef) ps (fun x l v => st x l v ∧ Closed ops l) ds hm ht hd (map_mem hp) ⟨h0, fun _ _ _ h => by cases h⟩ (drawn2B_lt hB) (drawn2B_dst hB) ?_ ?_
  · intro x l T v i o ho hl hdep hst hpar hgot hold K hK
    exact hstep x l T v i o ho hl hdep hst.1 hpar hgot hst.2 hold K (fun x' u v' h1 h2 h3 => hK x' u v' (fun s hs => by
      have e1 := map_mem (hx x') s hs
      have e2 := map_mem (hx x) s hs
      exact e1.trans e2.symm) h1 h2 ⟨h3, hst.2.add ho hdep⟩)
  · intro x l T v hl hst hts hds hpar hgot
    have hall : ∀ s, s < nt → T.tmps[s]? = some ((F x).getD s undef) := fun s hs => by
      rcases coverB_or hC s hs with h | ⟨j, o, hj, ho⟩
      · exact hpar s h
      · exact hgot j o s hj ho
    have hT : T = ⟨(F x).toArray, ds⟩ := by
      obtain ⟨tm, df⟩ := T
      have h1 : tm = (F x).toArray := by
        apply Array.ext_getElem?
        intro s
        by_cases hs : s < nt
        · rw [show tm[s]? = _ from hall s hs]
          have hl' : s < (F x).length := by rw [hF]; exact hs
          simp [List.getD_eq_getElem?_getD, hl']
        · rw [Array.getElem?_eq_none (by rw [show tm.size = nt from hts]; omega), Array.getElem?_eq_none (by simp [hF]; omega)]
      rw [h1, show df = ds from hds]
    rw [hT]
    exact hend x l v hl hst.1
end
/-- append of bytes that are there onto a row of the call's own. -/
theorem run_appends {P : Program} (w : World) (t ty e : TypeId) (i : TypeInfo) (z : Value) (bytes : Nat) (ht : P.underlying t = some (.slice e)) (hi : P.info? e = some i) (hz : i.zero = some z) (hsize : i.size = 1) (hby : i.bytes = bytes) (hzs : z.cells.size = 1)
    (B : Nat) (hB : B ≤ w.heap.size) (A : Option Addr) (c : Nat) (l : List UInt8) (hown : Owns w B e A c l) (ad : Addr) (d : Nat) (k : List UInt8) (hk : 0 < k.length) (hr : Reads w (some ad) k)
    (h63 : (l.length + k.length) * bytes ≤ 140737488355328) (h64 : l.length + k.length ≤ maxLen) :
    ∃ A' c' w', (Builtin.append_ #[t, t] ty #[.slice A l.length c, .slice (some ad) k.length d]).run P w = .ok (.slice A' (l ++ k).length c') w' ∧ Owns w' B e A' c' (l ++ k) ∧ Mod (blk A) w w' ∧ (∀ a, A' = some a → a.block ∈ blk A ∨ w.heap.size ≤ a.block) := by
  have hcells : ∀ j u, (k.map oct)[j]? = some u → w.cell? (ad.add j) = some u := by
    intro j u hu
    obtain ⟨ad', e', hh⟩ := hr.src hk
    injection e' with e'
    subst e'
    exact hh j u hu
  obtain ⟨v', w', hrun, hown', hgr, _, hbl⟩ := run_append_own_at (P := P) w B t ty e i z 1 bytes ht hi hz hsize hby hzs (by omega) _ _ _ hown ad k.length d (k.map oct) (by simp) hcells (octs_one k) h64 h63 hB
  have hv : ∃ A' c', v' = .slice A' (l ++ k).length c' := by
    rcases hown'.2 with ⟨hv, hn⟩ | ⟨g, cap, cur, hv, _⟩
    · exact ⟨none, 0, by rw [hv, List.length_append, hn]⟩
    · exact ⟨_, _, by rw [hv, List.length_append]⟩
  obtain ⟨A', c', rfl⟩ := hv
  have hO : Owns w' B e A' c' (l ++ k) := by
    have := hown'
    rw [← List.length_append, ← List.map_append] at this
    exact this
  have hob : ∀ (A : Option Addr) n c, (Value.slice A n c).ownBlock = A.map (·.block) := by intro A n c; cases A <;> rfl
  rw [hob] at hgr
  rw [hob, hob] at hbl
  refine ⟨A', c', w', hrun, hO, ⟨hgr.os, hgr.tape, hgr.output, hgr.size, fun j hj hn => hgr.block j hj ?_⟩, ?_⟩
  · intro hh
    exact hn (by unfold blk; rw [← hh]; simp)
  · intro b hb
    subst hb
    rcases hbl with hh | hh
    · left; unfold blk; rw [← hh]; simp
    · right
      simp at hh
      omega
end
section
open Go.RowKit
section
variable {P : Program} {t e : TypeId} {n : Nat} {k : IntKind}
theorem run_eq_items (hd0 : (Program.underlying P e) = some (.int k)) (X Y : List Int) (hXY : X.length = Y.length) (w : World) (d : Nat) : ∀ is : List Nat, (∀ j ∈ is, j < X.length) → (Op.eqItems (d + 1) e 1 (X.map (Value.int k)).toArray (Y.map (Value.int k)).toArray is).run P w = .ok (is.all fun j => X.getD j 0 == Y.getD j 0) w
  | [], _ => by simp [Op.eqItems]
  | j :: is, h => by
    have hj := h j (by simp)
    have ih := run_eq_items hd0 X Y hXY w d is (fun i hi => h i (by simp [hi]))
    have hp : (part e (X.map (Value.int k)).toArray (j * 1)).run P w = .ok (.int k (X.getD j 0)) w := by
      have : (X.map (Value.int k))[j]? = some (.int k (X.getD j 0)) := by simp [List.getD_eq_getElem?_getD, hj]
      simp [part, isAgg, run_underlying hd0, this]
    have hq : (part e (Y.map (Value.int k)).toArray (j * 1)).run P w = .ok (.int k (Y.getD j 0)) w := by
      have : (Y.map (Value.int k))[j]? = some (.int k (Y.getD j 0)) := by simp [List.getD_eq_getElem?_getD, hXY ▸ hj]
      simp [part, isAgg, run_underlying hd0, this]
    generalize (X.map (Value.int k)).toArray = XA at *
    generalize (Y.map (Value.int k)).toArray = YA at *
    simp only [Op.eqItems, Sem.run_bind, hp, hq, Result.andThen_ok, run_equalIn_int w d e k k _ _ hd0, List.all_cons]
    by_cases hx : X.getD j 0 = Y.getD j 0
    · simp only [hx, beq_self_eq_true, Bool.not_true, Bool.false_eq_true, if_false, Bool.true_and]
      exact ih
    · have : (X.getD j 0 == Y.getD j 0) = false := by simpa using hx
      simp only [this, Bool.not_false, if_true, Bool.false_and, Sem.run_pure]
theorem all_range (X Y : List Int) (hX : X.length = n) (hY : Y.length = n) : ((List.range n).all fun j => X.getD j 0 == Y.getD j 0) = decide (X = Y) := by
  rw [Bool.eq_iff_iff]
  simp only [List.all_eq_true, List.mem_range, beq_iff_eq, decide_eq_true_eq]
  constructor
  · intro h
    apply List.ext_getElem (by omega)
    intro i h1 h2
    have := h i (by omega)
    simpa [List.getD_eq_getElem?_getD, h1, h2] using this
  · rintro rfl _ _
    rfl
theorem run_eq_ints (hu : P.underlying t = some (.array n e)) (he : P.underlying e = some (.int k)) (hi : (P.info? e).isSome = true) (hc : P.cellsOf e = 1) (X Y : List Int) (hX : X.length = n) (hY : Y.length = n) (w : World) (d : Nat) :
    (Op.equalIn (d + 2) t (.agg (X.map (Value.int k)).toArray) (.agg (Y.map (Value.int k)).toArray)).run P w = .ok (decide (X = Y)) w := by
  cases hq : P.info? e with
  | none => rw [hq] at hi; cases hi
  | some i =>
    rw [run_equalIn_array w (d + 1) _ _ hu hq, hc, run_eq_items he X Y (by omega) w d _ (fun j hj => by rw [hX]; simpa using hj), all_range X Y hX hY]
theorem exec_eqa {v : World} {o : Oper} {ρ : Operand → Value} {x y : Operand} (hu : P.underlying t = some (.array n e)) (he : P.underlying e = some (.int k)) (hi : (P.info? e).isSome = true) (hc : P.cellsOf e = 1) (hg : P.eqGuardType P.depth t = false) (X Y : List Int) (hX : X.length = n) (hY : Y.length = n)
    (ho : o.op = .binOp .eql t x y t) (hx : ρ x = .agg (X.map (Value.int k)).toArray) (hy : ρ y = .agg (Y.map (Value.int k)).toArray) : (execOp ρ o).run P v = .ok (.value (.bool (decide (X = Y)))) v := by
  have h : (Op.equalIn 10000 t (.agg (X.map (Value.int k)).toArray) (.agg (Y.map (Value.int k)).toArray)).run P v = .ok (decide (X = Y)) v := run_eq_ints hu he hi hc X Y hX hY v 9998
  generalize (X.map (Value.int k)).toArray = XA at *
  generalize (Y.map (Value.int k)).toArray = YA at *
  unfold execOp
  simp [ho, hx, hy, go_sem, run_eqGuard_agg, hg, run_eql_struct, h, Result.andThen]
theorem exec_nea {v : World} {o : Oper} {ρ : Operand → Value} {x y : Operand} (hu : P.underlying t = some (.array n e)) (he : P.underlying e = some (.int k)) (hi : (P.info? e).isSome = true) (hc : P.cellsOf e = 1) (hg : P.eqGuardType P.depth t = false) (X Y : List Int) (hX : X.length = n) (hY : Y.length = n)
    (ho : o.op = .binOp .neq t x y t) (hx : ρ x = .agg (X.map (Value.int k)).toArray) (hy : ρ y = .agg (Y.map (Value.int k)).toArray) : (execOp ρ o).run P v = .ok (.value (.bool (!decide (X = Y)))) v := by
  have h : (Op.equalIn 10000 t (.agg (X.map (Value.int k)).toArray) (.agg (Y.map (Value.int k)).toArray)).run P v = .ok (decide (X = Y)) v := run_eq_ints hu he hi hc X Y hX hY v 9998
  generalize (X.map (Value.int k)).toArray = XA at *
  generalize (Y.map (Value.int k)).toArray = YA at *
  unfold execOp
  simp [ho, hx, hy, go_sem, run_eqGuard_agg, hg, run_neq_struct, h, Result.andThen]
end
theorem octs_ints (L : List UInt8) : L.map oct = (L.map fun x => (x.toNat : Int)).map (Value.int .u8) := by simp
theorem wds_ints (L : List UInt32) : L.map wd = (L.map fun x => (x.toNat : Int)).map (Value.int .u32) := by simp
theorem octs_inj {L M : List UInt8} : (L.map fun x => (x.toNat : Int)) = (M.map fun x => (x.toNat : Int)) ↔ L = M :=
  ⟨fun h => (List.map_inj_right (f := fun x : UInt8 => (x.toNat : Int)) (fun a b hab => UInt8.toNat_inj.1 (by exact_mod_cast hab))).1 h, fun h => by rw [h]⟩
theorem wds_inj {L M : List UInt32} : (L.map fun x => (x.toNat : Int)) = (M.map fun x => (x.toNat : Int)) ↔ L = M :=
  ⟨fun h => (List.map_inj_right (f := fun x : UInt32 => (x.toNat : Int)) (fun a b hab => UInt32.toNat_inj.1 (by exact_mod_cast hab))).1 h, fun h => by rw [h]⟩
section
variable {v : World} {o : Oper} {ρ : Operand → Value} {x y : Operand}
theorem exec_ne40 {L M : List UInt8} (hL : L.length = 32) (hM : M.length = 32) (ho : o.op = .binOp .neq 23 x y 23) (hx : ρ x = .agg (L.map oct).toArray) (hy : ρ y = .agg (M.map oct).toArray) : (execOp ρ o).run Tryd.prog v = .ok (.value (.bool (!decide (L = M)))) v := by
  rw [octs_ints] at hx hy
  have := exec_nea (P := Tryd.prog) (v := v) Tryd.underlying23 Tryd.underlying5 (by kernel_rfl) (by kernel_rfl) (by kernel_rfl) _ _ (by simpa using hL) (by simpa using hM) ho hx hy
  simpa only [octs_inj] using this
theorem exec_ne24 {L M : List UInt32} (hL : L.length = 64) (hM : M.length = 64) (ho : o.op = .binOp .neq 123 x y 123) (hx : ρ x = .agg (L.map wd).toArray) (hy : ρ y = .agg (M.map wd).toArray) : (execOp ρ o).run Tryd.prog v = .ok (.value (.bool (!decide (L = M)))) v := by
  rw [wds_ints] at hx hy
  have := exec_nea (P := Tryd.prog) (v := v) Tryd.underlying123 Tryd.underlying97 (by kernel_rfl) (by kernel_rfl) (by kernel_rfl) _ _ (by simpa using hL) (by simpa using hM) ho hx hy
  simpa only [wds_inj] using this
theorem exec_ne26 {L M : List UInt32} (hL : L.length = 8) (hM : M.length = 8) (ho : o.op = .binOp .neq 98 x y 98) (hx : ρ x = .agg (L.map wd).toArray) (hy : ρ y = .agg (M.map wd).toArray) : (execOp ρ o).run Tryd.prog v = .ok (.value (.bool (!decide (L = M)))) v := by
  rw [wds_ints] at hx hy
  have := exec_nea (P := Tryd.prog) (v := v) Tryd.underlying98 Tryd.underlying97 (by kernel_rfl) (by kernel_rfl) (by kernel_rfl) _ _ (by simpa using hL) (by simpa using hM) ho hx hy
  simpa only [wds_inj] using this
theorem exec_eq26 {L M : List UInt32} (hL : L.length = 8) (hM : M.length = 8) (ho : o.op = .binOp .eql 98 x y 98) (hx : ρ x = .agg (L.map wd).toArray) (hy : ρ y = .agg (M.map wd).toArray) : (execOp ρ o).run Tryd.prog v = .ok (.value (.bool (decide (L = M)))) v := by
  rw [wds_ints] at hx hy
  have := exec_eqa (P := Tryd.prog) (v := v) Tryd.underlying98 Tryd.underlying97 (by kernel_rfl) (by kernel_rfl) (by kernel_rfl) _ _ (by simpa using hL) (by simpa using hM) ho hx hy
  simpa only [wds_inj] using this
theorem exec_neb {P : Program} {t t' : TypeId} {a b : Bool} (hu : P.underlying t = some .bool) (ho : o.op = .binOp .neq t x y t') (hx : ρ x = .bool a) (hy : ρ y = .bool b) : (execOp ρ o).run P v = .ok (.value (.bool (a != b))) v := by
  unfold execOp
  have h := run_neq_bool (P := P) v t a b hu
  simp [ho, hx, hy, go_sem, h]
  cases a <;> cases b <;> rfl
theorem exec_not {P : Program} {t : TypeId} {a : Bool} (ho : o.op = .unOp .not t x) (hx : ρ x = .bool a) : (execOp ρ o).run P v = .ok (.value (.bool (!a))) v := by
  unfold execOp
  simp [ho, hx, go_sem]
theorem exec_pick {P : Program} {c : Operand} {b : Bool} {X Y V : Value} (ho : o.op = .pick c x y) (hc : ρ c = .bool b) (hx : ρ x = X) (hy : ρ y = Y) (hV : V = if b = true then X else Y) : (execOp ρ o).run P v = .ok (.value V) v := by
  subst hV
  unfold execOp
  cases b <;> simp [ho, hc, hx, hy, go_sem]
end
section
variable {P : Program} {o : Oper} {ops : Array Oper} {T : Act} {v v' : World} {K : Act → World → Prop} {Q : Exit → Act → World → Prop}
theorem wanted_is {i s : Nat} {b c : Bool} {oi : Oper} (hg : o.guard = some (i, b)) (hi : ops[i]? = some oi) (hd : oi.dst = some s) (ht : T.tmps[s]? = some (.bool c)) : Region.wanted o (yielded ops T.tmps) = (c == b) := by
  unfold Region.wanted yielded
  rw [hg]
  simp only [hi, Option.bind_some, hd, ht]
  cases c <;> cases b <;> rfl
theorem wanted_yes {i s : Nat} {b : Bool} {oi : Oper} (hg : o.guard = some (i, b)) (hi : ops[i]? = some oi) (hd : oi.dst = some s) (ht : T.tmps[s]? = some (.bool b)) : Region.wanted o (yielded ops T.tmps) = true := by
  rw [wanted_is hg hi hd ht]; simp
theorem wanted_no {i s : Nat} {b c : Bool} {oi : Oper} (hn : c = !b) (hg : o.guard = some (i, b)) (hi : ops[i]? = some oi) (hd : oi.dst = some s) (ht : T.tmps[s]? = some (.bool c)) : Region.wanted o (yielded ops T.tmps) = false := by
  rw [wanted_is hg hi hd ht, hn]; cases b <;> rfl
theorem wp_skip (hw : Region.wanted o (yielded ops T.tmps) = false) (hK : K (T.put o.dst undef) v) : if Region.wanted o (yielded ops T.tmps) = true then o.wp P T v K Q else K (T.put o.dst undef) v := by
  rw [if_neg (by rw [hw]; simp)]
  exact hK
theorem wp_ranW {E : Prop} {u : Value} (hw : Region.wanted o (yielded ops T.tmps) = true) (h : (execOp T.eval o).run P v = .ok (.value u) v') (hK : K (T.put o.dst u) v') : if Region.wanted o (yielded ops T.tmps) = true then o.wp P T v K Q else E := by
  rw [if_pos hw]
  unfold Oper.wp
  rw [h]
  exact hK
theorem wp_calledW {E : Prop} {f : FuncId} {args : Array Value} (hw : Region.wanted o (yielded ops T.tmps) = true) (h : (execOp T.eval o).run P v = .ok (.enter f args) v)
    (hc : Calls P f args v fun e v' => ∃ u, e = .returned u ∧ K (T.put o.dst u) v') : if Region.wanted o (yielded ops T.tmps) = true then o.wp P T v K Q else E := by
  rw [if_pos hw]
  unfold Oper.wp
  rw [h]
  refine hc.mono ?_
  rintro e v' ⟨u, rfl, hK⟩
  exact hK
end
/-- A value of many cells is loaded, if it is wanted. -/
theorem wpList_loadsW {P : Program} {w : World} {ops : Array Oper} {rest : List Oper} {o : Oper} {a : Act} {Q : Exit → Act → World → Prop} (hw : Region.wanted o (yielded ops a.tmps) = true) (ty : TypeId) (x : Operand) (ho : o.op = .load ty x) (g f : Nat) (cs : List Value) (hx : a.eval x = .pointer (some ⟨g, f, none⟩)) (hc : Cells w (some ⟨g, f, none⟩) cs)
    (d : TypeDesc) (hu : P.underlying ty = some d) (hd : (match d with | .struct _ | .array _ _ => true | _ => false) = true) (hi : (P.info? ty).map (·.size) = some cs.length)
    (V : Value) (hV : V = .agg cs.toArray)
    (h : wpList P ops Q rest (a.put o.dst V) w) : wpList P ops Q (o :: rest) a w := by
  subst hV
  refine wpList_step fun K hK => ?_
  rw [if_pos hw]
  unfold Oper.wp execOp
  simp only [ho, hx, Instr.loadAt, Instr.sureAddr, Sem.run_bind, Sem.run_pure, Result.andThen_ok, run_loads hc hu hd hi]
  exact hK _ _ h
end
end Go.Proofs.YtbacmeaeehhhfaaDoor
