/-
  Contracts of package sha: Pad, Start, Constants, Sum. My own work.
-/
import Derived.Test.YtdolihecjomjiaaDoorShaH
namespace Go.Proofs.YtdolihecjomjiaaDoor
open Go.RowKit
theorem size85 : (Tryd.prog.info? 85).map (·.size) = some 64 := by kernel_rfl
theorem zero85 : ∀ w, (zeroValue 85).run Tryd.prog w = .ok (.agg ((List.replicate 64 (0 : UInt32)).map wd).toArray) w := (zero_of_info (n := 64) (by kernel_rfl)).1
theorem size24_of (L : List UInt32) (h : L.length = 64) : (Tryd.prog.info? 85).map (·.size) = some (L.map wd).length := by rw [List.length_map, h]; exact size85
set_option maxRecDepth 100000 in
theorem start_c (s : List UInt32) (hs : s.length = 8) (w : World) (G : Cells w (some ⟨0, 0, none⟩) (s.map wd)) :
    Calls Tryd.prog 39 #[] w fun e w' => e = .returned (.agg (s.map wd).toArray) ∧ Mod [] w w' := by
  have HS := Lib.hid hs
  clear hs
  go_enter Tryd.func39, Tryd.ntmps39
  go_wp2_with (first
    | (with_reducible refine wpList_allocs (o := ⟨some 0, .alloc 68, _, _, _, _⟩) rfl 68 rfl _ zero68 ?_; intro w1 hb1 m1 z1; replace z1 := Lib.hid z1)
    | (with_reducible refine wpList_loads (o := ⟨some 1, .load 68 (.global 0), _, _, _, _⟩) rfl 68 (.global 0) rfl 0 0 _ rfl (G.keep m1 (by rintro _ ⟨⟩; simp)) _ Tryd.underlying68 rfl (size26_of _ HS.out) (.agg (s.map wd).toArray) rfl ?_)
    | (with_reducible refine wpList_storesAll (o := ⟨none, .store 68 (.tmp 0) (.tmp 1), _, _, _, _⟩) rfl 68 (.tmp 0) (.tmp 1) rfl rfl w.heap.size (s.map wd) rfl (.agg (s.map wd).toArray) rfl rfl 68 _ hb1 (by rw [List.length_map, List.length_map, HS.out, List.length_replicate]) (words_one _) (size26_of _ HS.out) ?_; intro w2 hb2 m2 z2; replace z2 := Lib.hid z2))
  refine bodyPost_ret (results_cell_row rfl _ _ w.heap.size 68 _ (0, 0) _ rfl hb2 Tryd.underlying68 rfl (by rw [List.size_toArray]; exact size26_of _ HS.out)) rfl ?_
  exact ⟨rfl, m1.trans m2 (by intro i hi h; simp at h; omega)⟩
/-- The eight numbers behind all blocks of bytes, filled up. -/
def wholeN (n : Nat) : Nat := n / 64 * 64
def sum1 (c s : List UInt32) (bb : List UInt8) : List UInt32 := beh c s (bb.take (wholeN bb.length)) ((bb.take (wholeN bb.length)).length / 64)
def tailN (bb : List UInt8) : List UInt8 := fillN (bb.drop (wholeN bb.length)) bb.length
def sum2 (c s : List UInt32) (bb : List UInt8) : List UInt32 := beh c (sum1 c s bb) (tailN bb) ((tailN bb).length / 64)
def octs (L : List UInt32) : List UInt8 := L.flatMap fun x => hi x.toNat 4
theorem octs_length (L : List UInt32) : (octs L).length = L.length * 4 := by
  induction L with
  | nil => rfl
  | cons x L ih => simp only [octs, List.flatMap_cons, List.length_append, hi_length, List.length_cons] at ih ⊢; omega
/-- So many of the eight have been laid. -/
def laidK (L : List UInt32) (k : Nat) : List UInt8 := octs (L.take k) ++ List.replicate (32 - k * 4) 0
theorem laidK_length (L : List UInt32) (k : Nat) (hL : L.length = 8) (hk : k ≤ 8) : (laidK L k).length = 32 := by
  unfold laidK
  rw [List.length_append, octs_length, List.length_take, List.length_replicate]; omega
theorem laidK_next (L : List UInt32) (k : Nat) (hL : L.length = 8) (hk : k < 8) : ((laidK L k).map oct).take (k * 4) ++ ((hi (g0 L k).toNat 4).map oct ++ ((laidK L k).map oct).drop (k * 4 + 4)) = (laidK L (k + 1)).map oct := by
  have hl : (octs (L.take k)).length = k * 4 := by rw [octs_length, List.length_take]; omega
  unfold laidK
  rw [← List.map_take, ← List.map_drop, ← List.map_append, ← List.map_append]
  congr 1
  rw [List.take_append_of_le_length (by omega), List.take_of_length_le (by omega)]
  rw [List.drop_append, List.drop_eq_nil_of_le (by omega), List.nil_append, List.drop_replicate]
  have e : octs (L.take (k + 1)) = octs (L.take k) ++ hi (g0 L k).toNat 4 := by
    rw [List.take_succ_eq_append_getElem (by omega), octs, List.flatMap_append, g0_get L k (by omega)]
    simp [octs]
  rw [e, List.append_assoc]
  congr 2
  congr 1
  omega
theorem size25 : (Tryd.prog.info? 25).map (·.size) = some 32 := by kernel_rfl
theorem zero25 : ∀ w, (zeroValue 25).run Tryd.prog w = .ok (.agg ((List.replicate 32 (0 : UInt8)).map oct).toArray) w := (zero_of_info (n := 32) (by kernel_rfl)).1
theorem size40_of (L : List UInt8) (h : L.length = 32) : (Tryd.prog.info? 25).map (·.size) = some (L.map oct).length := by rw [List.length_map, h]; exact size25
theorem sum1_length (c s : List UInt32) (bb : List UInt8) (hs : s.length = 8) : (sum1 c s bb).length = 8 := beh_length _ _ _ hs _
theorem sum2_length (c s : List UInt32) (bb : List UInt8) (hs : s.length = 8) : (sum2 c s bb).length = 8 := beh_length _ _ _ (sum1_length c s bb hs) _
set_option maxRecDepth 100000 in
theorem exec_index26 {v : World} {o : Oper} {ρ : Operand → Value} {x y : Operand} {L : List UInt32} {k : Nat} (hL : L.length = 8) (hk : k < 8) (ho : o.op = .index 68 x y) (hx : ρ x = .agg (L.map wd).toArray) (hy : ρ y = .int .i64 (k : Int)) : (execOp ρ o).run Tryd.prog v = .ok (.value (wd (g0 L k))) v := by
  have hrun : (Instr.index 68 (.agg (L.map wd).toArray) (.int .i64 (k : Int))).run Tryd.prog v = .ok (wd (g0 L k)) v := by
    match L, hL with
    | [a0, a1, a2, a3, a4, a5, a6, a7], _ =>
      obtain rfl | rfl | rfl | rfl | rfl | rfl | rfl | rfl : k = 0 ∨ k = 1 ∨ k = 2 ∨ k = 3 ∨ k = 4 ∨ k = 5 ∨ k = 6 ∨ k = 7 := by omega
      all_goals rfl
  unfold execOp
  simp only [ho, hx, hy, Sem.run_bind, hrun, Result.andThen, Sem.run_pure]
set_option maxRecDepth 1000000 in
set_option maxHeartbeats 8000000 in
theorem sum_c (c s : List UInt32) (hc : c.length = 64) (hs : s.length = 8) (Ad : Option Addr) (bb : List UInt8) (n cap : Nat) (hn : n = bb.length) (hcap : bb.length ≤ cap) (hb : bb.length ≤ 140737488355000) (w : World) (G : Cells w (some ⟨1, 0, none⟩) (c.map wd)) (G1 : Cells w (some ⟨0, 0, none⟩) (s.map wd)) (R : Reads w Ad bb) :
    Calls Tryd.prog 32 #[.slice Ad n cap] w fun e w' => e = .returned (.agg ((octs (sum2 c s bb)).map oct).toArray) ∧ Mod [] w w' := by
  subst hn
  obtain ⟨q, hq⟩ : ∃ q, q = wholeN bb.length := ⟨_, rfl⟩
  have hq' : ((bb.length : Int) / 64 * 64) = (q : Int) := by rw [hq]; unfold wholeN; omega
  have hql : q ≤ bb.length := by rw [hq]; unfold wholeN; omega
  have hq64 : bb.length - q < 64 := by rw [hq]; unfold wholeN; omega
  have hG0 : 1 < w.heap.size := G.lt (by simp [hc])
  obtain ⟨H1, hH1⟩ : ∃ z, z = sum1 c s bb := ⟨_, rfl⟩
  obtain ⟨Z, hZ⟩ : ∃ z, z = tailN bb := ⟨_, rfl⟩
  obtain ⟨H2, hH2⟩ : ∃ z, z = sum2 c s bb := ⟨_, rfl⟩
  have hl1 : H1.length = 8 := by rw [hH1]; exact sum1_length c s bb hs
  have hl2 : H2.length = 8 := by rw [hH2]; exact sum2_length c s bb hs
  have hzl : Z.length = fillM (bb.length - q) := by rw [hZ, hq]; unfold tailN; rw [fillN_length, List.length_drop]
  have hB1 := fun (v : World) (m : Mod [] w v) => behind_c c s hc hs Ad (bb.take q) q cap (by rw [List.length_take]; omega) (by rw [List.length_take]; omega) (by rw [List.length_take]; omega) v (G.keep m (by simp)) ((R.keep m (by simp)).first q)
  rw [show beh c s (bb.take q) ((bb.take q).length / 64) = H1 by rw [hH1, hq]; rfl] at hB1
  have hF := fun (v : World) (m : Mod [] w v) => fill_c (frm Ad q cap) (bb.drop q) (bb.length - q) (cap - q) bb.length (by rw [List.length_drop]) (by rw [List.length_drop]; omega) (by omega) v ((R.keep m (by simp)).from q cap hcap)
  rw [show fillN (bb.drop q) bb.length = Z by rw [hZ, hq]; rfl, List.length_drop, ← hzl] at hF
  have hM := fillM_le (bb.length - q)
  have hB2 := fun (v : World) (m : Mod [] w v) (x : Nat) (D : Holds v x 5 (Z.map oct)) => behind_c c H1 hc hl1 (some ⟨x, 0, none⟩) Z Z.length Z.length rfl (Nat.le_refl _) (by omega) v (G.keep m (by simp)) (Reads.of_holds D)
  rw [show beh c H1 Z (Z.length / 64) = H2 by rw [hH2, hH1, hZ]; rfl] at hB2
  rw [← hH2]
  have HB := Lib.hid (And.intro hql (And.intro hcap (And.intro hl1 (And.intro hl2 (And.intro hG0 (And.intro hB1 (And.intro hF (And.intro hB2 (And.intro hs hb)))))))))
  have hqz : (q : Int) ≤ 140737488355000 := by omega
  clear hq hql hq64 hG0 hH1 hZ hH2 hl1 hl2 hzl hB1 hF hB2 hM hc hs hcap
  go_enter Tryd.func32, Tryd.ntmps32
  go_wp2_with (with_reducible refine wpList_allocs (o := ⟨some 2, .alloc 25, _, _, _, _⟩) rfl 25 rfl _ zero25 ?_; intro w1 hb1 m1 z1; replace z1 := Lib.hid z1)
  obtain ⟨g2, e1⟩ : ∃ b, b = w.heap.size := ⟨_, rfl⟩
  have q0 : w.heap.size ≤ g2 := by omega
  have q1 : g2 < w1.heap.size := by have := z1.out; omega
  rw [← e1] at hb1 ⊢
  clear e1 z1 hb hqz
  have mm : Mod [] w w1.drew := m1.then (Mod.drew [] _)
  refine wp_region_lit (X := Nat) 0 (fun x => [.slice Ad bb.length cap, undef, .pointer (some ⟨g2, 0, none⟩), .int .i64 (q : Int), .pointer (some ⟨x, 0, none⟩), undef, undef, undef, .slice Ad bb.length cap, .int .i64 (bb.length : Int), .int .i64 ((bb.length : Int) / 64), .int .i64 (q : Int), .agg ((s).map wd).toArray, .slice Ad bb.length cap, .int .i64 (q : Int), .slice Ad q cap, .agg ((H1).map wd).toArray, undef, undef, undef, undef, undef, undef, undef, undef, undef, undef, undef, undef, undef, undef, undef, undef, undef, undef, undef, undef, undef]) 38 [0, 1, 2, 3, 5, 6, 7, 8, 9, 10, 11, 17, 18, 19, 20, 21, 22, 23, 24, 25, 26, 27, 28, 29, 30, 31, 32, 33, 34, 35, 36, 37]
    (fun x lz v => Mk w1.drew.heap.size 68 ((if lz 6 = true then H1 else List.replicate 8 0).map wd) x (lz 5) v ∧ Mod [] w1.drew v) []
    (by kernel_rfl) (fun _ => rfl) rfl rfl rfl (fun _ => by simp only [List.map_cons, List.map_nil, List.getD_cons_zero, List.getD_cons_succ]) (⟨Mk.not, Mod.refl _ _⟩) (by kernel_rfl) (by kernel_rfl) ?step ?fin
  case step =>
    intro x lz T v j o hj hlj hdep hst hpar hgot hcl K hK
    have hjn : j < 7 := (Array.getElem?_eq_some_iff.1 hj).1
    obtain rfl | rfl | rfl | rfl | rfl | rfl | rfl : j = 0 ∨ j = 1 ∨ j = 2 ∨ j = 3 ∨ j = 4 ∨ j = 5 ∨ j = 6 := by omega
    all_goals (have hj' := Option.some.inj (hj : some _ = some o); subst hj'; clear hj)
    · exact wp_called rfl (exec_call0 rfl rfl (enters_of Tryd.func39 (by kernel_rfl) rfl)) ((start_c s HB.out.2.2.2.2.2.2.2.2.1 _ (G1.keep (mm.then hst.2) (by simp))).mono (fun e v' hh => ⟨_, hh.1, hK x _ _ (fun _ _ _ _ _ _ => rfl) (fun s hs => by cases hs; rfl) (⟨hst.1.keep hh.2, hst.2.then hh.2⟩)⟩))
    · exact wp_ran rfl (exec_move rfl (eval_tmp (hpar 0 (by simp)))) (hK x _ _ (fun _ _ _ _ _ _ => rfl) (fun s hs => by cases hs; rfl) hst)
    · exact wp_ran rfl (exec_move rfl (eval_tmp (hpar 3 (by simp)))) (hK x _ _ (fun _ _ _ _ _ _ => rfl) (fun s hs => by cases hs; rfl) hst)
    · exact wp_ran rfl (exec_upto Tryd.underlying58 u8_one (by have := HB.out; omega) rfl (eval_tmp (hgot 1 _ 13 rfl (hdep ⟨1, .data⟩ (by simp) rfl) rfl)) (eval_tmp (hgot 2 _ 14 rfl (hdep ⟨2, .data⟩ (by simp) rfl) rfl))) (hK x _ _ (fun _ _ _ _ _ _ => rfl) (fun s hs => by cases hs; rfl) hst)
    · exact wp_called rfl (exec_call2 rfl rfl (eval_tmp (hgot 0 _ 12 rfl (hdep ⟨0, .data⟩ (by simp) rfl) rfl)) (eval_tmp (hgot 3 _ 15 rfl (hdep ⟨3, .data⟩ (by simp) rfl) rfl)) (enters_of Tryd.func38 (by kernel_rfl) rfl)) ((HB.out.2.2.2.2.2.1 _ (mm.then hst.2)).mono (fun e v' hh => ⟨_, hh.1, hK x _ _ (fun _ _ _ _ _ _ => rfl) (fun s hs => by cases hs; rfl) (⟨hst.1.keep hh.2, hst.2.then hh.2⟩)⟩))
    · have h0 : lz 6 = false := by
        cases h5 : lz 6 with
        | false => rfl
        | true => exact absurd (hcl 6 _ rfl h5 ⟨5, .data⟩ (by simp) rfl) (by rw [hlj]; simp)
      exact wp_alloced (cs := (List.replicate 8 (0 : UInt32)).map wd) rfl rfl zero68 (fun v' q m => hK v.heap.size _ _ (fun j' o' s' h1 h2 h3 => by
              clear hst hpar hgot hdep hcl hK
              have h4 : j' < 7 := (Array.getElem?_eq_some_iff.1 h1).1
              obtain rfl | rfl | rfl | rfl | rfl | rfl | rfl : j' = 0 ∨ j' = 1 ∨ j' = 2 ∨ j' = 3 ∨ j' = 4 ∨ j' = 5 ∨ j' = 6 := by omega
              all_goals (cases h1; cases h3 <;> first | rfl | (rw [hlj] at h2; cases h2))) (fun s hs => by cases hs; rfl) ⟨fun _ => ⟨hst.2.size, by show Holds v' v.heap.size 68 ((if lz 6 = true then H1 else List.replicate 8 0).map wd); rw [h0]; exact q⟩, hst.2.then m⟩)
    · have h5 : lz 5 = true := hdep ⟨5, .data⟩ (by simp) rfl
      have hx := hst.1 h5
      rw [hlj] at hx
      exact wp_stored (ty := 68) (V := .agg ((H1).map wd).toArray) (cs := H1.map wd) rfl rfl (eval_tmp (hgot 5 _ 4 rfl (hdep ⟨5, .data⟩ (by simp) rfl) rfl)) (eval_tmp (hgot 4 _ 16 rfl (hdep ⟨4, .data⟩ (by simp) rfl) rfl)) rfl hx.2 (by rw [List.length_map, if_neg (by simp), List.length_map, HB.out.2.2.1, List.length_replicate]) (words_one _) (size26_of _ HB.out.2.2.1) (fun v' q1 q2 => hK x _ _ (fun _ _ _ _ _ _ => rfl) (fun s hs => by cases hs) ⟨fun _ => ⟨hx.1, q1⟩, hst.2.trans q2 (by intro i hi hm; simp at hm; have := hx.1; omega)⟩)
  case fin =>
    intro x lz v hl hst
    have e5 := hl 5 (by decide)
    have e6 := hl 6 (by decide)
    rw [e5, e6] at hst
    obtain ⟨h0, nm⟩ := hst
    obtain ⟨p1, h4⟩ := h0 rfl
    clear h0
    replace h4 : Holds v x 68 (H1.map wd) := h4
    have hb2 := Holds.keep (w := w1.drew) hb1 nm (by simp)
    have mn := mm.then nm
    have p2 : w1.heap.size ≤ x := p1
    obtain ⟨g4, rfl⟩ : ∃ u, u = x := ⟨_, rfl⟩
    obtain ⟨w2, rfl⟩ : ∃ u, u = v := ⟨_, rfl⟩
    replace mn : Mod [] w w2.drew := mn.then (Mod.drew [] _)
    replace h4 : Holds w2.drew g4 68 (H1.map wd) := h4
    replace hb2 : Holds w2.drew g2 25 ((List.replicate 32 (0 : UInt8)).map oct) := hb2
    clear hb1 mm nm e5 e6 hl p1 m1
    try dsimp only
    go_wp2_with fail
    refine wp_region_lit (X := Nat) 0 (fun x => [.slice Ad bb.length cap, undef, .pointer (some ⟨g2, 0, none⟩), .int .i64 (q : Int), .pointer (some ⟨g4, 0, none⟩), undef, undef, undef, .slice Ad bb.length cap, .int .i64 (bb.length : Int), .int .i64 ((bb.length : Int) / 64), .int .i64 (q : Int), .agg ((s).map wd).toArray, .slice Ad bb.length cap, .int .i64 (q : Int), .slice Ad q cap, .agg ((H1).map wd).toArray, .agg ((H1).map wd).toArray, .slice Ad bb.length cap, .int .i64 (q : Int), .slice (frm Ad q cap) (bb.length - q) (cap - q), .slice Ad bb.length cap, .int .i64 (bb.length : Int), .slice (some ⟨x, 0, none⟩) Z.length Z.length, .agg ((H2).map wd).toArray, undef, undef, undef, undef, undef, undef, undef, undef, undef, undef, undef, undef, undef]) 38 [0, 1, 2, 3, 4, 5, 6, 7, 8, 9, 10, 11, 12, 13, 14, 15, 16, 25, 26, 27, 28, 29, 30, 31, 32, 33, 34, 35, 36, 37]
      (fun x lz v => Sto 8 (fun v => Mk w2.drew.heap.size 5 (Z.map oct) x (lz 6) v ∧ Mod [] w2.drew v) (fun v => Holds v g4 68 (H2.map wd) ∧ Mod [g4] w2.drew v) lz v) []
      (by kernel_rfl) (fun _ => rfl) rfl rfl rfl (fun _ => by simp only [List.map_cons, List.map_nil, List.getD_cons_zero, List.getD_cons_succ]) (Sto.start ⟨Mk.not, Mod.refl _ _⟩) (by kernel_rfl) (by kernel_rfl) ?step ?fin
    case step =>
      intro x lz T v j o hj hlj hdep hst hpar hgot hcl K hK
      have hjn : j < 9 := (Array.getElem?_eq_some_iff.1 hj).1
      have hq := fun h => Sto.now (j := j) hst hlj h
      obtain rfl | rfl | rfl | rfl | rfl | rfl | rfl | rfl | rfl : j = 0 ∨ j = 1 ∨ j = 2 ∨ j = 3 ∨ j = 4 ∨ j = 5 ∨ j = 6 ∨ j = 7 ∨ j = 8 := by omega
      all_goals (have hj' := Option.some.inj (hj : some _ = some o); subst hj'; clear hj)
      · exact wp_ran rfl (exec_load rfl (eval_tmp (hpar 4 (by simp))) (run_loads (Cells.of_holds (Holds.keep (w := w2.drew) h4 (hq (by decide)).2.2 (by simp))) Tryd.underlying68 rfl (size26_of _ HB.out.2.2.1))) (hK x _ _ (fun _ _ _ _ _ _ => rfl) (fun s hs => by cases hs; rfl) (Sto.keep2 (hq (by decide)).1 (by decide) (hq (by decide)).2))
      · exact wp_ran rfl (exec_move rfl (eval_tmp (hpar 0 (by simp)))) (hK x _ _ (fun _ _ _ _ _ _ => rfl) (fun s hs => by cases hs; rfl) (Sto.keep2 (hq (by decide)).1 (by decide) (hq (by decide)).2))
      · exact wp_ran rfl (exec_move rfl (eval_tmp (hpar 3 (by simp)))) (hK x _ _ (fun _ _ _ _ _ _ => rfl) (fun s hs => by cases hs; rfl) (Sto.keep2 (hq (by decide)).1 (by decide) (hq (by decide)).2))
      · exact wp_ran rfl (exec_from Tryd.underlying58 u8_one (by have := HB.out; omega) rfl (eval_tmp (hgot 1 _ 18 rfl (hdep ⟨1, .data⟩ (by simp) rfl) rfl)) (eval_tmp (hgot 2 _ 19 rfl (hdep ⟨2, .data⟩ (by simp) rfl) rfl))) (hK x _ _ (fun _ _ _ _ _ _ => rfl) (fun s hs => by cases hs; rfl) (Sto.keep2 (hq (by decide)).1 (by decide) (hq (by decide)).2))
      · exact wp_ran rfl (exec_move rfl (eval_tmp (hpar 0 (by simp)))) (hK x _ _ (fun _ _ _ _ _ _ => rfl) (fun s hs => by cases hs; rfl) (Sto.keep2 (hq (by decide)).1 (by decide) (hq (by decide)).2))
      · exact wp_ran rfl (exec_len Tryd.underlying58 rfl (eval_tmp (hgot 4 _ 21 rfl (hdep ⟨4, .data⟩ (by simp) rfl) rfl))) (hK x _ _ (fun _ _ _ _ _ _ => rfl) (fun s hs => by cases hs; rfl) (Sto.keep2 (hq (by decide)).1 (by decide) (hq (by decide)).2))
      · exact wp_called rfl (exec_call2 rfl rfl (eval_tmp (hgot 3 _ 20 rfl (hdep ⟨3, .data⟩ (by simp) rfl) rfl)) (eval_tmp (hgot 5 _ 22 rfl (hdep ⟨5, .data⟩ (by simp) rfl) rfl)) (enters_of Tryd.func40 (by kernel_rfl) rfl)) ((HB.out.2.2.2.2.2.2.1 v (mn.then (hq (by decide)).2.2)).mono (fun e v' hh => by
          obtain ⟨gz, h1, h2, h3, h4⟩ := hh
          exact ⟨_, h1, hK gz _ _ (fun j' o' s' h1 h2 h3 => by
                clear hst hpar hgot hdep hcl hK
                have h4 : j' < 9 := (Array.getElem?_eq_some_iff.1 h1).1
                obtain rfl | rfl | rfl | rfl | rfl | rfl | rfl | rfl | rfl : j' = 0 ∨ j' = 1 ∨ j' = 2 ∨ j' = 3 ∨ j' = 4 ∨ j' = 5 ∨ j' = 6 ∨ j' = 7 ∨ j' = 8 := by omega
                all_goals (cases h1; cases h3 <;> first | rfl | (rw [hlj] at h2; cases h2))) (fun s hs => by cases hs; rfl) (Sto.keep2 (hq (by decide)).1 (by decide) ⟨fun _ => ⟨Nat.le_trans (hq (by decide)).2.2.size h2, h3⟩, (hq (by decide)).2.2.then h4⟩)⟩))
      · exact wp_called rfl (exec_call2 rfl rfl (eval_tmp (hgot 0 _ 17 rfl (hdep ⟨0, .data⟩ (by simp) rfl) rfl)) (eval_tmp (hgot 6 _ 23 rfl (hdep ⟨6, .data⟩ (by simp) rfl) rfl)) (enters_of Tryd.func38 (by kernel_rfl) rfl)) ((HB.out.2.2.2.2.2.2.2.1 v (mn.then (hq (by decide)).2.2) x ((hq (by decide)).2.1 (hdep ⟨6, .data⟩ (by simp) rfl)).2).mono (fun e v' hh => ⟨_, hh.1, hK x _ _ (fun _ _ _ _ _ _ => rfl) (fun s hs => by cases hs; rfl) (Sto.keep2 (hq (by decide)).1 (by decide) ⟨(hq (by decide)).2.1.keep hh.2, (hq (by decide)).2.2.then hh.2⟩)⟩))
      · exact wp_stored (ty := 68) (V := .agg ((H2).map wd).toArray) (cs := H2.map wd) rfl rfl (eval_tmp (hpar 4 (by simp))) (eval_tmp (hgot 7 _ 24 rfl (hdep ⟨7, .data⟩ (by simp) rfl) rfl)) rfl (Holds.keep (w := w2.drew) h4 (hq (by decide)).2.2 (by simp)) (by rw [List.length_map, List.length_map, HB.out.2.2.2.1, HB.out.2.2.1]) (words_one _) (size26_of _ HB.out.2.2.2.1) (fun v' q1 q2 => hK x _ _ (fun _ _ _ _ _ _ => rfl) (fun s hs => by cases hs) (Sto.done (reach_all (by kernel_rfl) hcl rfl hdep) ⟨q1, (hq (by decide)).2.2.pre q2⟩))
    case fin =>
      intro x lz v hl hst
      obtain ⟨n4, nm⟩ := Sto.fin hst hl (by decide)
      have hb3 := Holds.keep (w := w2.drew) hb2 nm (by simp; omega)
      have m3 : Mod [] w v := ⟨nm.os.trans mn.os, nm.tape.trans mn.tape, nm.output.trans mn.output, Nat.le_trans mn.size nm.size, fun i hi _ => by
        rw [nm.block i (Nat.lt_of_lt_of_le hi mn.size) (by simp; omega), mn.block i hi (by simp)]⟩
      obtain ⟨w3, rfl⟩ : ∃ u, u = v := ⟨_, rfl⟩
      obtain ⟨gz, rfl⟩ : ∃ u, u = x := ⟨_, rfl⟩
      have QQ := Lib.hid (And.intro q0 (And.intro q1 p2))
      clear hst hl nm h4 hb2 mn q0 q1 p2
      try dsimp only
      go_wp2_with (first
        | (with_reducible refine wpList_allocs (o := ⟨some 5, .alloc 25, _, _, _, _⟩) rfl 25 rfl _ zero25 ?_; intro w4 hb5 m4 z4; replace z4 := Lib.hid z4)
        | (with_reducible refine wpList_loads (o := ⟨some 25, .load 68 (.tmp 4), _, _, _, _⟩) rfl 68 (.tmp 4) rfl g4 0 _ rfl (Cells.of_holds (n4.keep m4 (by simp))) _ Tryd.underlying68 rfl (size26_of _ HB.out.2.2.2.1) (.agg (H2.map wd).toArray) rfl ?_))
      obtain ⟨g5, e5⟩ : ∃ b, b = w3.heap.size := ⟨_, rfl⟩
      have q6 : w.heap.size ≤ g5 := by have := m3.size; omega
      have q5 : g2 < g5 := by have := hb3.lt; omega
      rw [← e5] at hb5 ⊢
      have hb6 := hb3.keep m4 (by simp)
      have m5 := m3.then m4
      have Q3 := Lib.hid (And.intro QQ.out (And.intro q6 q5))
      have hb7 : Holds w4 g5 25 ((laidK H2 0).map oct) := hb5
      clear e5 n4 hb3 hb5 m3 m4 z4 q5 q6 QQ
      go_loopw [26] (fun i wi => ∃ k : Nat, k ≤ 8 ∧ i = .int .i64 (k : Int) ∧ Holds wi g5 25 ((laidK H2 k).map oct) ∧ Holds wi g2 25 ((List.replicate 32 (0 : UInt8)).map oct) ∧ Mod [] w wi) (fun i _ => 8 - (intOf i).toNat)
      case atStart => exact ⟨0, by omega, rfl, hb7, hb6, m5⟩
      case round =>
        clear hb6 hb7 m5
        obtain ⟨k, hk, rfl, k5, k2, mk⟩ := hrel
        by_cases hlt : k < 8
        · have hz : (k : Int) < 8 := by omega
          have HK := Lib.hid hlt
          clear hlt hk
          go_wp2_with (with_reducible refine wpList_ran (o := ⟨some 29, .index 68 (.tmp 25) (.tmp 26), _, _, _, _⟩) rfl (wd (g0 H2 k)) (exec_index26 HB.out.2.2.2.1 HK.out rfl rfl rfl) ?_)
          clear hz
          refine wp_region_lit (X := Nat) 0 (fun x => [.slice Ad bb.length cap, undef, .pointer (some ⟨g2, 0, none⟩), .int .i64 (q : Int), .pointer (some ⟨g4, 0, none⟩), .pointer (some ⟨g5, 0, none⟩), .int .i64 (k : Int), wd (g0 H2 k), .slice Ad bb.length cap, .int .i64 (bb.length : Int), .int .i64 ((bb.length : Int) / 64), .int .i64 (q : Int), .agg ((s).map wd).toArray, .slice Ad bb.length cap, .int .i64 (q : Int), .slice Ad q cap, .agg ((H1).map wd).toArray, .agg ((H1).map wd).toArray, .slice Ad bb.length cap, .int .i64 (q : Int), .slice (frm Ad q cap) (bb.length - q) (cap - q), .slice Ad bb.length cap, .int .i64 (bb.length : Int), .slice (some ⟨gz, 0, none⟩) Z.length Z.length, .agg ((H2).map wd).toArray, .agg ((H2).map wd).toArray, .int .i64 (k : Int), .bool true, .int .i64 (k : Int), wd (g0 H2 k), .int .i64 (k : Int), .int .i64 ((k * 4 : Nat) : Int), .slice (some ⟨g5, k * 4, none⟩) (32 - k * 4) (32 - k * 4), wd (g0 H2 k), .slice (some ⟨x, 0, none⟩) 4 4, .int .i64 4, u36, undef]) 38 [0, 1, 2, 3, 4, 5, 6, 7, 8, 9, 10, 11, 12, 13, 14, 15, 16, 17, 18, 19, 20, 21, 22, 23, 24, 25, 26, 27, 28, 29, 36, 37]
            (fun x lz v => Sto 5 (fun v => Mk wr.drew.heap.size 5 ((hi (g0 H2 k).toNat 4).map oct) x (lz 4) v ∧ Mod [] wr.drew v) (fun v => Holds v g5 25 ((laidK H2 (k + 1)).map oct) ∧ Mod [g5] wr.drew v) lz v) []
            (by kernel_rfl) (fun _ => rfl) rfl rfl rfl (fun _ => by simp only [List.map_cons, List.map_nil, List.getD_cons_zero, List.getD_cons_succ]) (Sto.start ⟨Mk.not, Mod.refl _ _⟩) (by kernel_rfl) (by kernel_rfl) ?step ?fin
          case step =>
            intro x lz T v j o hj hlj hdep hst hpar hgot hcl K hK
            have hjn : j < 6 := (Array.getElem?_eq_some_iff.1 hj).1
            have hq := fun h => Sto.now (j := j) hst hlj h
            obtain rfl | rfl | rfl | rfl | rfl | rfl : j = 0 ∨ j = 1 ∨ j = 2 ∨ j = 3 ∨ j = 4 ∨ j = 5 := by omega
            all_goals (have hj' := Option.some.inj (hj : some _ = some o); subst hj'; clear hj)
            · exact wp_ran rfl (exec_move rfl (eval_tmp (hpar 6 (by simp)))) (hK x _ _ (fun _ _ _ _ _ _ => rfl) (fun s hs => by cases hs; rfl) (Sto.keep2 (hq (by decide)).1 (by decide) (hq (by decide)).2))
            · exact wp_ran rfl (exec_mul rfl rfl (eval_tmp (hgot 0 _ 30 rfl (hdep ⟨0, .data⟩ (by simp) rfl) rfl)) (show IntKind.i64.wrap ((4 : Int) * (k : Int)) = ((k * 4 : Nat) : Int) by rw [Nat.mul_comm]; exact mul_n 4 k (by have := HK.out; omega))) (hK x _ _ (fun _ _ _ _ _ _ => rfl) (fun s hs => by cases hs; rfl) (Sto.keep2 (hq (by decide)).1 (by decide) (hq (by decide)).2))
            · exact wp_ran rfl (exec_cut Tryd.underlying25 u8_one (by have := HK.out; omega) rfl (eval_tmp (hpar 5 (by simp))) (eval_tmp (hgot 1 _ 31 rfl (hdep ⟨1, .data⟩ (by simp) rfl) rfl))) (hK x _ _ (fun _ _ _ _ _ _ => rfl) (fun s hs => by cases hs; rfl) (Sto.keep2 (hq (by decide)).1 (by decide) (hq (by decide)).2))
            · exact wp_ran rfl (exec_move rfl (eval_tmp (hpar 7 (by simp)))) (hK x _ _ (fun _ _ _ _ _ _ => rfl) (fun s hs => by cases hs; rfl) (Sto.keep2 (hq (by decide)).1 (by decide) (hq (by decide)).2))
            · exact wp_called rfl (exec_call2 rfl rfl rfl (eval_tmp (hgot 3 _ 33 rfl (hdep ⟨3, .data⟩ (by simp) rfl) rfl)) (enters_of Tryd.func41 (by kernel_rfl) rfl)) ((put32_c none [] 0 (g0 H2 k).toNat v (by simp) (Reads.nil _ _) (u32_lt _)).mono (fun e v' hh => ⟨_, hh.1, hK v.heap.size _ _ (fun j' o' s' h1 h2 h3 => by
                      clear hst hpar hgot hdep hcl hK
                      have h4 : j' < 6 := (Array.getElem?_eq_some_iff.1 h1).1
                      obtain rfl | rfl | rfl | rfl | rfl | rfl : j' = 0 ∨ j' = 1 ∨ j' = 2 ∨ j' = 3 ∨ j' = 4 ∨ j' = 5 := by omega
                      all_goals (cases h1; cases h3 <;> first | rfl | (rw [hlj] at h2; cases h2))) (fun s hs => by cases hs; rfl) (Sto.keep2 (hq (by decide)).1 (by decide) ⟨fun _ => ⟨(hq (by decide)).2.2.size, hh.2.1⟩, (hq (by decide)).2.2.then hh.2.2⟩)⟩))
            · have h8 : lz 4 = true := hdep ⟨4, .data⟩ (by simp) rfl
              have hA := (hq (by decide)).2
              have hx := hA.1 h8
              have hD : Holds v g5 25 ((laidK H2 k).map oct) := Holds.keep (w := wr.drew) k5 hA.2 (by simp)
              refine wp_copied (l := hi (g0 H2 k).toNat 4) rfl Tryd.underlying58 u8_one rfl (eval_tmp (hgot 2 _ 32 rfl (hdep ⟨2, .data⟩ (by simp) rfl) rfl)) (eval_tmp (hgot 4 _ 34 rfl (hdep ⟨4, .data⟩ (by simp) rfl) rfl)) hD (by rw [hi_length]) (by rw [hi_length]; have := HK.out; omega) (Reads.of_holds hx.2) (by rw [hi_length]; omega) (by rw [hi_length, List.length_map, laidK_length H2 k HB.out.2.2.2.1 (by have := HK.out; omega)]; have := HK.out; omega) (fun v' n1 n2 => ?_)
              rw [hi_length, laidK_next H2 k HB.out.2.2.2.1 HK.out] at n1
              exact hK x _ v' (fun _ _ _ _ _ _ => rfl) (fun s hs => by cases hs; rw [hi_length]; rfl) (Sto.done (reach_all (by kernel_rfl) hcl rfl hdep) ⟨n1, hA.2.pre n2⟩)
          case fin =>
            intro x lz v hl hst
            obtain ⟨n1, nm⟩ := Sto.fin hst hl (by decide)
            have n2 := Holds.keep (w := wr.drew) k2 nm (by simp; have := Q3.out; omega)
            have mn : Mod [] w v := ⟨nm.os.trans mk.os, nm.tape.trans mk.tape, nm.output.trans mk.output, Nat.le_trans mk.size nm.size, fun i hi _ => by
              rw [nm.block i (Nat.lt_of_lt_of_le hi mk.size) (by simp; have := Q3.out; omega), show wr.drew.heap[i]? = wr.heap[i]? from rfl, mk.block i hi (by simp)]⟩
            have hk1 : k + 1 ≤ 8 := HK.out
            have HN := Lib.hid (And.intro hk1 (And.intro n1 (And.intro n2 mn)))
            have hz : (k : Int) < 8 := by have := HK.out; omega
            clear n1 n2 mn nm hst hl hk1 k2 k5 mk
            try dsimp only
            go_wp2_with fail
            exact ⟨⟨k + 1, HN.out.1, by go_num, HN.out.2.1, HN.out.2.2.1, HN.out.2.2.2⟩, by simp [intOf]; omega⟩
        · obtain rfl : k = 8 := by omega
          have hfin : laidK H2 8 = octs H2 := by
            unfold laidK
            rw [List.take_of_length_le (by rw [HB.out.2.2.2.1]; omega)]
            simp
          rw [hfin] at k5
          have hol : (octs H2).length = 32 := by rw [octs_length, HB.out.2.2.2.1]
          have HL := Lib.hid (And.intro mk (And.intro Q3.out hol))
          clear mk hlt hk hfin hol
          go_wp2_with (first
            | (with_reducible refine wpList_loads (o := ⟨some 37, .load 25 (.tmp 5), _, _, _, _⟩) rfl 25 (.tmp 5) rfl g5 0 _ rfl (Cells.of_holds k5) _ Tryd.underlying25 rfl (size40_of _ HL.out.2.2) (.agg ((octs H2).map oct).toArray) rfl ?_)
            | (with_reducible refine wpList_storesAll (o := ⟨none, .store 25 (.tmp 2) (.tmp 37), _, _, _, _⟩) rfl 25 (.tmp 2) (.tmp 37) rfl rfl g2 ((octs H2).map oct) rfl (.agg ((octs H2).map oct).toArray) rfl rfl 25 _ k2 (by rw [List.length_map, List.length_map, HL.out.2.2, List.length_replicate]) (octs_one _) (size40_of _ HL.out.2.2) ?_; intro w7 hw7 m7 z7))
          refine bodyPost_ret (results_cell_row rfl _ _ g2 25 _ (0, 0) _ rfl hw7 Tryd.underlying25 rfl (by rw [List.size_toArray]; exact size40_of _ HL.out.2.2)) rfl ?_
          obtain ⟨l3, l4, l5⟩ := HL.out
          exact ⟨rfl, ⟨m7.os.trans l3.os, m7.tape.trans l3.tape, m7.output.trans l3.output, Nat.le_trans l3.size m7.size, fun i hi _ => by rw [m7.block i (Nat.lt_of_lt_of_le hi l3.size) (by simp; omega), l3.block i hi (by simp)]⟩⟩

end Go.Proofs.YtdolihecjomjiaaDoor
