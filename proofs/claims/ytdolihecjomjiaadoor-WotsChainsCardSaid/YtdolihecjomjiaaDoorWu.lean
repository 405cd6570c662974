/-
  WotsAdds' walk. My own work.
-/
import Derived.Test.YtdolihecjomjiaaDoorWs
import Derived.BigQuiet
namespace Go.Proofs.YtdolihecjomjiaaDoor
open Go.RowKit Go.Shelf
theorem exec_ne25s {v : World} {o : Oper} {ρ : Operand → Value} {x y : Operand} {X : Idv} (ho : o.op = .binOp .neq 25 x y 25) (hx : ρ x = iv X) (hy : ρ y = iv X) : (execOp ρ o).run Tryd.prog v = .ok (.value (.bool false)) v := by
  have := exec_ne25 (v := v) ho hx hy
  rwa [decide_eq_true rfl] at this
set_option maxRecDepth 100000 in
set_option maxHeartbeats 4000000 in
theorem adds_1 (x : Idv) (i a b c : Int) (w : World) (Gl : Glob w) (h : ¬ (chOk i ∧ 0 ≤ a ∧ a ≤ b ∧ b ≤ 15)) :
    Calls Tryd.prog 9 #[iv x, .int .i64 i, .agg #[.int .i64 a, .int .i64 b, .int .i64 c]] w fun r w' => r = .returned (.bool true) ∧ Mod [] w w' := by
  have WK := fun v (mv : Mod [] w v) => wakes_c v (Gl.then mv)
  have X1 := fun v (_ : Mod [] w v) => chain_no x i a b h v
  clear h Gl
  go_enter Tryd.func9, Tryd.ntmps9
  go_wp2_with (first
    | (with_reducible refine wpList_boxes (o := ⟨some 3, .box 25 (.tmp 0), _, _, _, _⟩) rfl 25 (.tmp 0) rfl _ rfl (ic x) rfl ?_; intro w1 hb1 m1 z1; replace z1 := Lib.hid z1)
    | (with_reducible refine wpList_boxes (o := ⟨some 5, .box 53 (.tmp 2), _, _, _, _⟩) rfl 53 (.tmp 2) rfl _ rfl [.int .i64 a, .int .i64 b, .int .i64 c] rfl ?_; intro w2 hb2 m2 z2; replace z2 := Lib.hid z2)
    | (go_at_call 10; refine (WK w2 (m1.then m2)).mono ?_
       rintro e w3 ⟨rfl, m3⟩
       obtain ⟨bx, hq3⟩ : ∃ q, q = w.heap.size := ⟨_, rfl⟩
       obtain ⟨bp, hq5⟩ : ∃ q, q = w1.heap.size := ⟨_, rfl⟩
       have kx : Holds w3 bx 25 (ic x) := by rw [hq3]; exact (hb1.keep m2 (by simp)).keep m3 (by simp)
       have k5 : Holds w3 bp 53 [.int .i64 a, .int .i64 b, .int .i64 c] := by rw [hq5]; exact hb2.keep m3 (by simp)
       have mm : Mod [] w w3 := (m1.then m2).then m3
       have c0 : w3.cell? ⟨bp, 0, none⟩ = some (.int .i64 a) := k5.cell 0
       have c1 : w3.cell? ⟨bp, 1, none⟩ = some (.int .i64 b) := k5.cell 1
       have c2 : w3.cell? ⟨bp, 2, none⟩ = some (.int .i64 c) := k5.cell 2
       rw [← hq3, ← hq5]
       clear hb1 hb2 m1 m2 z1 z2 m3 hq3 hq5 WK k5))
  go_quiet (fail)
  obtain ⟨u0, hu0⟩ : ∃ v, v = w3.drewN nq := ⟨_, rfl⟩
  have m0 : Mod [] w3 u0 := by rw [hu0]; exact Mod.drewN [] w3 nq
  rw [← hu0]
  replace kx := kx.keep m0 (by simp)
  replace mm := mm.then m0
  clear hu0 m0 c0 c1 c2 nq
  go_wp2_with (first
    | (with_reducible refine wpList_loads (o := ⟨some 27, .load 25 (.tmp 3), _, _, _, _⟩) rfl 25 (.tmp 3) rfl bx 0 _ rfl (Cells.of_holds kx) _ Tryd.underlying25 rfl (size25i x) (iv x) rfl ?_)
    | (go_at_call 15; refine (X1 _ mm).mono ?_
       rintro e v1 ⟨rfl, m1⟩
       replace kx := kx.keep m1 (by simp)
       replace mm := mm.then m1
       clear X1 m1)
    | (with_reducible refine wpList_allocs (o := ⟨some 10, .alloc 25, _, _, _, _⟩) rfl 25 rfl _ zeroI_25 ?_; intro y1 hy1 my1 zy1; replace zy1 := Lib.hid zy1)
    | (with_reducible refine wpList_storesAll (o := ⟨none, .store 25 (.tmp 10) (.tmp 32), _, _, _, _⟩) rfl 25 (.tmp 10) (.tmp 32) rfl rfl v1.heap.size (ic zeroI) rfl (iv zeroI) rfl rfl 25 _ hy1 (by rw [ic_length]) (ic_one _) (size25i _) ?_
       intro u1 hu1 mu1 zu1
       clear zu1
       have q1 : Mod [] v1 u1 := my1.trans mu1 (by intro i hi h; simp at h; omega)
       obtain ⟨b1, hb1⟩ : ∃ b, b = v1.heap.size := ⟨_, rfl⟩
       rw [← hb1] at hu1 ⊢
       replace kx := kx.keep q1 (by simp)
       replace mm := mm.then q1
       clear hy1 my1 zy1 mu1 q1 hb1)
    | (with_reducible refine wpList_loadsW (o := ⟨some 39, .load 25 (.tmp 10), _, _, _, _⟩) (by with_unfolding_all rfl) 25 (.tmp 10) rfl b1 0 _ rfl (Cells.of_holds hu1) _ Tryd.underlying25 rfl (size25i zeroI) (iv zeroI) rfl ?_)
    | (with_reducible refine wpList_ranW (o := ⟨some 40, .build 25 _, _, _, _, _⟩) (by with_unfolding_all rfl) (iv zeroI) u1 (exec_zero25 rfl) ?_)
    | (with_reducible refine wpList_ranW (o := ⟨some 41, .binOp .eql _ _ _ _, _, _, _, _⟩) (by with_unfolding_all rfl) (.bool true) u1 (exec_eq25s rfl rfl rfl) ?_))
  go_ret
  exact ⟨rfl, mm⟩
set_option maxRecDepth 100000 in
set_option maxHeartbeats 4000000 in
theorem adds_2a (x : Idv) (i a b : Nat) (c : Int) (hi : i < 67) (ha : a ≤ b) (hb : b ≤ 15) (w : World) (Gl : Glob w) (h : c < (b : Int)) :
    Calls Tryd.prog 9 #[iv x, .int .i64 (i : Int), .agg #[.int .i64 (a : Int), .int .i64 (b : Int), .int .i64 c]] w fun r w' => r = .returned (.bool true) ∧ Mod [] w w' := by
  have WK := fun v (mv : Mod [] w v) => wakes_c v (Gl.then mv)
  obtain ⟨y, hy⟩ : ∃ y, y = walkI i a (b - a) x := ⟨_, rfl⟩
  have X1 := fun v (mv : Mod [] w v) => chain_yes x i a b hi ha hb v (Gl.then mv)
  rw [← hy] at X1
  have X2 := fun v (_ : Mod [] w v) => chain_no y (i : Int) (b : Int) c (fun hh => by obtain ⟨-, -, h3, h4⟩ := hh; omega) v
  have hcb : (b : Int) > c := h
  clear hy Gl
  go_enter Tryd.func9, Tryd.ntmps9
  go_wp2_with (first
    | (with_reducible refine wpList_boxes (o := ⟨some 3, .box 25 (.tmp 0), _, _, _, _⟩) rfl 25 (.tmp 0) rfl _ rfl (ic x) rfl ?_; intro w1 hb1 m1 z1; replace z1 := Lib.hid z1)
    | (with_reducible refine wpList_boxes (o := ⟨some 5, .box 53 (.tmp 2), _, _, _, _⟩) rfl 53 (.tmp 2) rfl _ rfl [.int .i64 (a : Int), .int .i64 (b : Int), .int .i64 c] rfl ?_; intro w2 hb2 m2 z2; replace z2 := Lib.hid z2)
    | (go_at_call 10; refine (WK w2 (m1.then m2)).mono ?_
       rintro e w3 ⟨rfl, m3⟩
       obtain ⟨bx, hq3⟩ : ∃ q, q = w.heap.size := ⟨_, rfl⟩
       obtain ⟨bp, hq5⟩ : ∃ q, q = w1.heap.size := ⟨_, rfl⟩
       have kx : Holds w3 bx 25 (ic x) := by rw [hq3]; exact (hb1.keep m2 (by simp)).keep m3 (by simp)
       have k5 : Holds w3 bp 53 [.int .i64 (a : Int), .int .i64 (b : Int), .int .i64 c] := by rw [hq5]; exact hb2.keep m3 (by simp)
       have mm : Mod [] w w3 := (m1.then m2).then m3
       have c0 : w3.cell? ⟨bp, 0, none⟩ = some (.int .i64 (a : Int)) := k5.cell 0
       have c1 : w3.cell? ⟨bp, 1, none⟩ = some (.int .i64 (b : Int)) := k5.cell 1
       have c2 : w3.cell? ⟨bp, 2, none⟩ = some (.int .i64 c) := k5.cell 2
       rw [← hq3, ← hq5]
       clear hb1 hb2 m1 m2 z1 z2 m3 hq3 hq5 WK k5))
  go_quiet (fail)
  obtain ⟨u0, hu0⟩ : ∃ v, v = w3.drewN nq := ⟨_, rfl⟩
  have m0 : Mod [] w3 u0 := by rw [hu0]; exact Mod.drewN [] w3 nq
  rw [← hu0]
  replace kx := kx.keep m0 (by simp)
  replace mm := mm.then m0
  clear hu0 m0 c0 c1 c2 nq
  go_wp2_with (first
    | (with_reducible refine wpList_loads (o := ⟨some 27, .load 25 (.tmp 3), _, _, _, _⟩) rfl 25 (.tmp 3) rfl bx 0 _ rfl (Cells.of_holds kx) _ Tryd.underlying25 rfl (size25i x) (iv x) rfl ?_)
    | (go_at_call 15; refine (X1 _ mm).mono ?_
       rintro e v1 ⟨rfl, m1⟩
       replace kx := kx.keep m1 (by simp)
       replace mm := mm.then m1
       clear X1 m1)
    | (with_reducible refine wpList_allocs (o := ⟨some 10, .alloc 25, _, _, _, _⟩) rfl 25 rfl _ zeroI_25 ?_; intro y1 hy1 my1 zy1; replace zy1 := Lib.hid zy1)
    | (with_reducible refine wpList_storesAll (o := ⟨none, .store 25 (.tmp 10) (.tmp 32), _, _, _, _⟩) rfl 25 (.tmp 10) (.tmp 32) rfl rfl v1.heap.size (ic y) rfl (iv y) rfl rfl 25 _ hy1 (by rw [ic_length, ic_length]) (ic_one _) (size25i _) ?_
       intro u1 hu1 mu1 zu1
       clear zu1
       have q1 : Mod [] v1 u1 := my1.trans mu1 (by intro i hi h; simp at h; omega)
       obtain ⟨b1, hb1⟩ : ∃ b, b = v1.heap.size := ⟨_, rfl⟩
       rw [← hb1] at hu1 ⊢
       replace kx := kx.keep q1 (by simp)
       replace mm := mm.then q1
       clear hy1 my1 zy1 mu1 q1 hb1)
    | (with_reducible refine wpList_loads (o := ⟨some 44, .load 25 (.tmp 10), _, _, _, _⟩) rfl 25 (.tmp 10) rfl b1 0 _ rfl (Cells.of_holds hu1) _ Tryd.underlying25 rfl (size25i y) (iv y) rfl ?_)
    | (go_at_call 15; refine (X2 _ mm).mono ?_
       rintro e v2 ⟨rfl, m2⟩
       replace kx := kx.keep m2 (by simp)
       replace hu1 := hu1.keep m2 (by simp)
       replace mm := mm.then m2
       clear X2 m2)
    | (with_reducible refine wpList_allocs (o := ⟨some 12, .alloc 25, _, _, _, _⟩) rfl 25 rfl _ zeroI_25 ?_; intro y2 hy2 my2 zy2; replace zy2 := Lib.hid zy2)
    | (with_reducible refine wpList_storesAll (o := ⟨none, .store 25 (.tmp 12) (.tmp 49), _, _, _, _⟩) rfl 25 (.tmp 12) (.tmp 49) rfl rfl v2.heap.size (ic zeroI) rfl (iv zeroI) rfl rfl 25 _ hy2 (by rw [ic_length]) (ic_one _) (size25i _) ?_
       intro u2 hu2 mu2 zu2
       clear zu2
       have q2 : Mod [] v2 u2 := my2.trans mu2 (by intro i hi h; simp at h; omega)
       obtain ⟨b2, hb2⟩ : ∃ b, b = v2.heap.size := ⟨_, rfl⟩
       rw [← hb2] at hu2 ⊢
       replace kx := kx.keep q2 (by simp)
       replace hu1 := hu1.keep q2 (by simp)
       replace mm := mm.then q2
       clear hy2 my2 zy2 mu2 q2 hb2))
  go_ret
  exact ⟨rfl, mm⟩
set_option maxRecDepth 100000 in
set_option maxHeartbeats 4000000 in
theorem adds_2b (x : Idv) (i a b : Nat) (c : Int) (hi : i < 67) (ha : a ≤ b) (hb : b ≤ 15) (w : World) (Gl : Glob w) (h0 : (b : Int) ≤ c) (h : 15 < c) :
    Calls Tryd.prog 9 #[iv x, .int .i64 (i : Int), .agg #[.int .i64 (a : Int), .int .i64 (b : Int), .int .i64 c]] w fun r w' => r = .returned (.bool true) ∧ Mod [] w w' := by
  have WK := fun v (mv : Mod [] w v) => wakes_c v (Gl.then mv)
  obtain ⟨y, hy⟩ : ∃ y, y = walkI i a (b - a) x := ⟨_, rfl⟩
  have X1 := fun v (mv : Mod [] w v) => chain_yes x i a b hi ha hb v (Gl.then mv)
  rw [← hy] at X1
  have X2 := fun v (_ : Mod [] w v) => chain_no y (i : Int) (b : Int) c (fun hh => by obtain ⟨-, -, h3, h4⟩ := hh; omega) v
  have h1 : ¬ (b : Int) > c := by omega
  clear hy Gl
  go_enter Tryd.func9, Tryd.ntmps9
  go_wp2_with (first
    | (with_reducible refine wpList_boxes (o := ⟨some 3, .box 25 (.tmp 0), _, _, _, _⟩) rfl 25 (.tmp 0) rfl _ rfl (ic x) rfl ?_; intro w1 hb1 m1 z1; replace z1 := Lib.hid z1)
    | (with_reducible refine wpList_boxes (o := ⟨some 5, .box 53 (.tmp 2), _, _, _, _⟩) rfl 53 (.tmp 2) rfl _ rfl [.int .i64 (a : Int), .int .i64 (b : Int), .int .i64 c] rfl ?_; intro w2 hb2 m2 z2; replace z2 := Lib.hid z2)
    | (go_at_call 10; refine (WK w2 (m1.then m2)).mono ?_
       rintro e w3 ⟨rfl, m3⟩
       obtain ⟨bx, hq3⟩ : ∃ q, q = w.heap.size := ⟨_, rfl⟩
       obtain ⟨bp, hq5⟩ : ∃ q, q = w1.heap.size := ⟨_, rfl⟩
       have kx : Holds w3 bx 25 (ic x) := by rw [hq3]; exact (hb1.keep m2 (by simp)).keep m3 (by simp)
       have k5 : Holds w3 bp 53 [.int .i64 (a : Int), .int .i64 (b : Int), .int .i64 c] := by rw [hq5]; exact hb2.keep m3 (by simp)
       have mm : Mod [] w w3 := (m1.then m2).then m3
       have c0 : w3.cell? ⟨bp, 0, none⟩ = some (.int .i64 (a : Int)) := k5.cell 0
       have c1 : w3.cell? ⟨bp, 1, none⟩ = some (.int .i64 (b : Int)) := k5.cell 1
       have c2 : w3.cell? ⟨bp, 2, none⟩ = some (.int .i64 c) := k5.cell 2
       rw [← hq3, ← hq5]
       clear hb1 hb2 m1 m2 z1 z2 m3 hq3 hq5 WK k5))
  go_quiet (fail)
  obtain ⟨u0, hu0⟩ : ∃ v, v = w3.drewN nq := ⟨_, rfl⟩
  have m0 : Mod [] w3 u0 := by rw [hu0]; exact Mod.drewN [] w3 nq
  rw [← hu0]
  replace kx := kx.keep m0 (by simp)
  replace mm := mm.then m0
  clear hu0 m0 c0 c1 c2 nq
  go_wp2_with (first
    | (with_reducible refine wpList_loads (o := ⟨some 27, .load 25 (.tmp 3), _, _, _, _⟩) rfl 25 (.tmp 3) rfl bx 0 _ rfl (Cells.of_holds kx) _ Tryd.underlying25 rfl (size25i x) (iv x) rfl ?_)
    | (go_at_call 15; refine (X1 _ mm).mono ?_
       rintro e v1 ⟨rfl, m1⟩
       replace kx := kx.keep m1 (by simp)
       replace mm := mm.then m1
       clear X1 m1)
    | (with_reducible refine wpList_allocs (o := ⟨some 10, .alloc 25, _, _, _, _⟩) rfl 25 rfl _ zeroI_25 ?_; intro y1 hy1 my1 zy1; replace zy1 := Lib.hid zy1)
    | (with_reducible refine wpList_storesAll (o := ⟨none, .store 25 (.tmp 10) (.tmp 32), _, _, _, _⟩) rfl 25 (.tmp 10) (.tmp 32) rfl rfl v1.heap.size (ic y) rfl (iv y) rfl rfl 25 _ hy1 (by rw [ic_length, ic_length]) (ic_one _) (size25i _) ?_
       intro u1 hu1 mu1 zu1
       clear zu1
       have q1 : Mod [] v1 u1 := my1.trans mu1 (by intro i hi h; simp at h; omega)
       obtain ⟨b1, hb1⟩ : ∃ b, b = v1.heap.size := ⟨_, rfl⟩
       rw [← hb1] at hu1 ⊢
       replace kx := kx.keep q1 (by simp)
       replace mm := mm.then q1
       clear hy1 my1 zy1 mu1 q1 hb1)
    | (with_reducible refine wpList_loads (o := ⟨some 44, .load 25 (.tmp 10), _, _, _, _⟩) rfl 25 (.tmp 10) rfl b1 0 _ rfl (Cells.of_holds hu1) _ Tryd.underlying25 rfl (size25i y) (iv y) rfl ?_)
    | (go_at_call 15; refine (X2 _ mm).mono ?_
       rintro e v2 ⟨rfl, m2⟩
       replace kx := kx.keep m2 (by simp)
       replace hu1 := hu1.keep m2 (by simp)
       replace mm := mm.then m2
       clear X2 m2)
    | (with_reducible refine wpList_allocs (o := ⟨some 12, .alloc 25, _, _, _, _⟩) rfl 25 rfl _ zeroI_25 ?_; intro y2 hy2 my2 zy2; replace zy2 := Lib.hid zy2)
    | (with_reducible refine wpList_storesAll (o := ⟨none, .store 25 (.tmp 12) (.tmp 49), _, _, _, _⟩) rfl 25 (.tmp 12) (.tmp 49) rfl rfl v2.heap.size (ic zeroI) rfl (iv zeroI) rfl rfl 25 _ hy2 (by rw [ic_length]) (ic_one _) (size25i _) ?_
       intro u2 hu2 mu2 zu2
       clear zu2
       have q2 : Mod [] v2 u2 := my2.trans mu2 (by intro i hi h; simp at h; omega)
       obtain ⟨b2, hb2⟩ : ∃ b, b = v2.heap.size := ⟨_, rfl⟩
       rw [← hb2] at hu2 ⊢
       replace kx := kx.keep q2 (by simp)
       replace hu1 := hu1.keep q2 (by simp)
       replace mm := mm.then q2
       clear hy2 my2 zy2 mu2 q2 hb2))
  go_ret
  exact ⟨rfl, mm⟩
set_option maxRecDepth 100000 in
set_option maxHeartbeats 4000000 in
theorem adds_3a (x : Idv) (i a b c : Nat) (hi : i < 67) (ha : a ≤ b) (hb : b ≤ c) (hc : c ≤ 15) (w : World) (Gl : Glob w) (hab : a < b) :
    Calls Tryd.prog 9 #[iv x, .int .i64 (i : Int), .agg #[.int .i64 (a : Int), .int .i64 (b : Int), .int .i64 (c : Int)]] w fun r w' => r = .returned (.bool true) ∧ Mod [] w w' := by
  have WK := fun v (mv : Mod [] w v) => wakes_c v (Gl.then mv)
  obtain ⟨y, hy⟩ : ∃ y, y = walkI i a (b - a) x := ⟨_, rfl⟩
  have X1 := fun v (mv : Mod [] w v) => chain_yes x i a b hi ha (by omega) v (Gl.then mv)
  rw [← hy] at X1
  obtain ⟨z, hz⟩ : ∃ z, z = walkI i b (c - b) y := ⟨_, rfl⟩
  have X2 := fun v (mv : Mod [] w v) => chain_yes y i b c hi hb hc v (Gl.then mv)
  rw [← hz] at X2
  have X3 := fun v (mv : Mod [] w v) => chain_yes x i a c hi (by omega) hc v (Gl.then mv)
  have hw : walkI i a (c - a) x = z := by
    have := walkI_add i a (b - a) (c - b) x
    rw [show a + (b - a) = b by omega, show b - a + (c - b) = c - a by omega] at this
    rw [hz, hy, this]
  rw [hw] at X3
  obtain ⟨s, hs⟩ : ∃ s, s = stepI i a x := ⟨_, rfl⟩
  have X4 := fun v (mv : Mod [] w v) => step_yes x i a hi (by omega) v (Gl.then mv)
  rw [← hs] at X4
  have X5 := fun v (mv : Mod [] w v) => chain_yes s i (a + 1) b hi (by omega) (by omega) v (Gl.then mv)
  have ht : walkI i (a + 1) (b - (a + 1)) s = y := by
    rw [hs, walkI_front, show b - (a + 1) + 1 = b - a by omega, hy]
  rw [ht] at X5
  have habZ : (a : Int) < (b : Int) := by omega
  have haZ : (a : Int) ≤ 15 := by omega
  obtain ⟨a1, ha1⟩ : ∃ q, q = a + 1 := ⟨_, rfl⟩
  have hA1 : Hid (IntKind.i64.wrap ((a : Int) + 1) = (a1 : Int)) := Lib.hid (by rw [IntWalk.i64_in _ (by omega)]; omega)
  rw [← ha1] at X5
  clear hy hz hw hs ht ha1 Gl
  go_enter Tryd.func9, Tryd.ntmps9
  go_wp2_with (first
    | (with_reducible refine wpList_boxes (o := ⟨some 3, .box 25 (.tmp 0), _, _, _, _⟩) rfl 25 (.tmp 0) rfl _ rfl (ic x) rfl ?_; intro w1 hb1 m1 z1; replace z1 := Lib.hid z1)
    | (with_reducible refine wpList_boxes (o := ⟨some 5, .box 53 (.tmp 2), _, _, _, _⟩) rfl 53 (.tmp 2) rfl _ rfl [.int .i64 (a : Int), .int .i64 (b : Int), .int .i64 (c : Int)] rfl ?_; intro w2 hb2 m2 z2; replace z2 := Lib.hid z2)
    | (go_at_call 10; refine (WK w2 (m1.then m2)).mono ?_
       rintro e w3 ⟨rfl, m3⟩
       obtain ⟨bx, hq3⟩ : ∃ q, q = w.heap.size := ⟨_, rfl⟩
       obtain ⟨bp, hq5⟩ : ∃ q, q = w1.heap.size := ⟨_, rfl⟩
       have kx : Holds w3 bx 25 (ic x) := by rw [hq3]; exact (hb1.keep m2 (by simp)).keep m3 (by simp)
       have k5 : Holds w3 bp 53 [.int .i64 (a : Int), .int .i64 (b : Int), .int .i64 (c : Int)] := by rw [hq5]; exact hb2.keep m3 (by simp)
       have mm : Mod [] w w3 := (m1.then m2).then m3
       have c0 : w3.cell? ⟨bp, 0, none⟩ = some (.int .i64 (a : Int)) := k5.cell 0
       have c1 : w3.cell? ⟨bp, 1, none⟩ = some (.int .i64 (b : Int)) := k5.cell 1
       have c2 : w3.cell? ⟨bp, 2, none⟩ = some (.int .i64 (c : Int)) := k5.cell 2
       rw [← hq3, ← hq5]
       clear hb1 hb2 m1 m2 z1 z2 m3 hq3 hq5 WK k5))
  go_quiet (fail)
  obtain ⟨u0, hu0⟩ : ∃ v, v = w3.drewN nq := ⟨_, rfl⟩
  have m0 : Mod [] w3 u0 := by rw [hu0]; exact Mod.drewN [] w3 nq
  rw [← hu0]
  replace kx := kx.keep m0 (by simp)
  replace mm := mm.then m0
  clear hu0 m0 c0 c1 c2 nq
  go_wp2_with (first
    | (with_reducible refine wpList_loads (o := ⟨some 27, .load 25 (.tmp 3), _, _, _, _⟩) rfl 25 (.tmp 3) rfl bx 0 _ rfl (Cells.of_holds kx) _ Tryd.underlying25 rfl (size25i x) (iv x) rfl ?_)
    | (go_at_call 15; refine (X1 _ mm).mono ?_
       rintro e v1 ⟨rfl, m1⟩
       replace kx := kx.keep m1 (by simp)
       replace mm := mm.then m1
       clear X1 m1)
    | (with_reducible refine wpList_allocs (o := ⟨some 10, .alloc 25, _, _, _, _⟩) rfl 25 rfl _ zeroI_25 ?_; intro y1 hy1 my1 zy1; replace zy1 := Lib.hid zy1)
    | (with_reducible refine wpList_storesAll (o := ⟨none, .store 25 (.tmp 10) (.tmp 32), _, _, _, _⟩) rfl 25 (.tmp 10) (.tmp 32) rfl rfl v1.heap.size (ic y) rfl (iv y) rfl rfl 25 _ hy1 (by rw [ic_length, ic_length]) (ic_one _) (size25i _) ?_
       intro u1 hu1 mu1 zu1
       clear zu1
       have q1 : Mod [] v1 u1 := my1.trans mu1 (by intro i hi h; simp at h; omega)
       obtain ⟨b1, hb1⟩ : ∃ b, b = v1.heap.size := ⟨_, rfl⟩
       rw [← hb1] at hu1 ⊢
       replace kx := kx.keep q1 (by simp)
       replace mm := mm.then q1
       clear hy1 my1 zy1 mu1 q1 hb1)
    | (with_reducible refine wpList_loads (o := ⟨some 44, .load 25 (.tmp 10), _, _, _, _⟩) rfl 25 (.tmp 10) rfl b1 0 _ rfl (Cells.of_holds hu1) _ Tryd.underlying25 rfl (size25i y) (iv y) rfl ?_)
    | (go_at_call 15; refine (X2 _ mm).mono ?_
       rintro e v2 ⟨rfl, m2⟩
       replace kx := kx.keep m2 (by simp)
       replace hu1 := hu1.keep m2 (by simp)
       replace mm := mm.then m2
       clear X2 m2)
    | (with_reducible refine wpList_allocs (o := ⟨some 12, .alloc 25, _, _, _, _⟩) rfl 25 rfl _ zeroI_25 ?_; intro y2 hy2 my2 zy2; replace zy2 := Lib.hid zy2)
    | (with_reducible refine wpList_storesAll (o := ⟨none, .store 25 (.tmp 12) (.tmp 49), _, _, _, _⟩) rfl 25 (.tmp 12) (.tmp 49) rfl rfl v2.heap.size (ic z) rfl (iv z) rfl rfl 25 _ hy2 (by rw [ic_length, ic_length]) (ic_one _) (size25i _) ?_
       intro u2 hu2 mu2 zu2
       clear zu2
       have q2 : Mod [] v2 u2 := my2.trans mu2 (by intro i hi h; simp at h; omega)
       obtain ⟨b2, hb2⟩ : ∃ b, b = v2.heap.size := ⟨_, rfl⟩
       rw [← hb2] at hu2 ⊢
       replace kx := kx.keep q2 (by simp)
       replace hu1 := hu1.keep q2 (by simp)
       replace mm := mm.then q2
       clear hy2 my2 zy2 mu2 q2 hb2)
    | (with_reducible refine wpList_loads (o := ⟨some 65, .load 25 (.tmp 3), _, _, _, _⟩) rfl 25 (.tmp 3) rfl bx 0 _ rfl (Cells.of_holds kx) _ Tryd.underlying25 rfl (size25i x) (iv x) rfl ?_)
    | (go_at_call 15; refine (X3 _ mm).mono ?_
       rintro e v3 ⟨rfl, m3⟩
       replace kx := kx.keep m3 (by simp)
       replace hu1 := hu1.keep m3 (by simp)
       replace hu2 := hu2.keep m3 (by simp)
       replace mm := mm.then m3
       clear X3 m3)
    | (with_reducible refine wpList_allocs (o := ⟨some 13, .alloc 25, _, _, _, _⟩) rfl 25 rfl _ zeroI_25 ?_; intro y3 hy3 my3 zy3; replace zy3 := Lib.hid zy3)
    | (with_reducible refine wpList_storesAll (o := ⟨none, .store 25 (.tmp 13) (.tmp 70), _, _, _, _⟩) rfl 25 (.tmp 13) (.tmp 70) rfl rfl v3.heap.size (ic z) rfl (iv z) rfl rfl 25 _ hy3 (by rw [ic_length, ic_length]) (ic_one _) (size25i _) ?_
       intro u3 hu3 mu3 zu3
       clear zu3
       have q3 : Mod [] v3 u3 := my3.trans mu3 (by intro i hi h; simp at h; omega)
       obtain ⟨b3, hb3⟩ : ∃ b, b = v3.heap.size := ⟨_, rfl⟩
       rw [← hb3] at hu3 ⊢
       replace kx := kx.keep q3 (by simp)
       replace hu1 := hu1.keep q3 (by simp)
       replace hu2 := hu2.keep q3 (by simp)
       replace mm := mm.then q3
       clear hy3 my3 zy3 mu3 q3 hb3)
    | (with_reducible refine wpList_loadsW (o := ⟨some 75, .load 25 (.tmp 13), _, _, _, _⟩) (by with_unfolding_all rfl) 25 (.tmp 13) rfl b3 0 _ rfl (Cells.of_holds hu3) _ Tryd.underlying25 rfl (size25i z) (iv z) rfl ?_)
    | (with_reducible refine wpList_loadsW (o := ⟨some 76, .load 25 (.tmp 12), _, _, _, _⟩) (by with_unfolding_all rfl) 25 (.tmp 12) rfl b2 0 _ rfl (Cells.of_holds hu2) _ Tryd.underlying25 rfl (size25i z) (iv z) rfl ?_)
    | (with_reducible refine wpList_ranW (o := ⟨some 77, .binOp .neq _ _ _ _, _, _, _, _⟩) (by with_unfolding_all rfl) (.bool false) u3 (exec_ne25s rfl rfl rfl) ?_)
    | (with_reducible refine wpList_loads (o := ⟨some 83, .load 25 (.tmp 3), _, _, _, _⟩) rfl 25 (.tmp 3) rfl bx 0 _ rfl (Cells.of_holds kx) _ Tryd.underlying25 rfl (size25i x) (iv x) rfl ?_)
    | (go_at_call 14; refine (X4 _ mm).mono ?_
       rintro e v4 ⟨rfl, m4⟩
       replace kx := kx.keep m4 (by simp)
       replace hu1 := hu1.keep m4 (by simp)
       replace hu2 := hu2.keep m4 (by simp)
       replace hu3 := hu3.keep m4 (by simp)
       replace mm := mm.then m4
       clear X4 m4)
    | (with_reducible refine wpList_allocs (o := ⟨some 14, .alloc 25, _, _, _, _⟩) rfl 25 rfl _ zeroI_25 ?_; intro y4 hy4 my4 zy4; replace zy4 := Lib.hid zy4)
    | (with_reducible refine wpList_storesAll (o := ⟨none, .store 25 (.tmp 14) (.tmp 87), _, _, _, _⟩) rfl 25 (.tmp 14) (.tmp 87) rfl rfl v4.heap.size (ic s) rfl (iv s) rfl rfl 25 _ hy4 (by rw [ic_length, ic_length]) (ic_one _) (size25i _) ?_
       intro u4 hu4 mu4 zu4
       clear zu4
       have q4 : Mod [] v4 u4 := my4.trans mu4 (by intro i hi h; simp at h; omega)
       obtain ⟨b4, hb4⟩ : ∃ b, b = v4.heap.size := ⟨_, rfl⟩
       rw [← hb4] at hu4 ⊢
       replace kx := kx.keep q4 (by simp)
       replace hu1 := hu1.keep q4 (by simp)
       replace hu2 := hu2.keep q4 (by simp)
       replace hu3 := hu3.keep q4 (by simp)
       replace mm := mm.then q4
       clear hy4 my4 zy4 mu4 q4 hb4)
    | (with_reducible refine wpList_loads (o := ⟨some 90, .load 25 (.tmp 14), _, _, _, _⟩) rfl 25 (.tmp 14) rfl b4 0 _ rfl (Cells.of_holds hu4) _ Tryd.underlying25 rfl (size25i s) (iv s) rfl ?_)
    | (with_reducible refine wpList_ranW (o := ⟨some 93, .binOp .add _ _ _ _, _, _, _, _⟩) (by with_unfolding_all rfl) (.int .i64 (a1 : Int)) u4 (exec_add rfl rfl rfl hA1.out) ?_)
    | (go_at_call 15; refine (X5 _ mm).mono ?_
       rintro e v5 ⟨rfl, m5⟩
       replace kx := kx.keep m5 (by simp)
       replace hu1 := hu1.keep m5 (by simp)
       replace hu2 := hu2.keep m5 (by simp)
       replace hu3 := hu3.keep m5 (by simp)
       replace hu4 := hu4.keep m5 (by simp)
       replace mm := mm.then m5
       clear X5 m5)
    | (with_reducible refine wpList_allocs (o := ⟨some 16, .alloc 25, _, _, _, _⟩) rfl 25 rfl _ zeroI_25 ?_; intro y5 hy5 my5 zy5; replace zy5 := Lib.hid zy5)
    | (with_reducible refine wpList_storesAll (o := ⟨none, .store 25 (.tmp 16) (.tmp 96), _, _, _, _⟩) rfl 25 (.tmp 16) (.tmp 96) rfl rfl v5.heap.size (ic y) rfl (iv y) rfl rfl 25 _ hy5 (by rw [ic_length, ic_length]) (ic_one _) (size25i _) ?_
       intro u5 hu5 mu5 zu5
       clear zu5
       have q5 : Mod [] v5 u5 := my5.trans mu5 (by intro i hi h; simp at h; omega)
       obtain ⟨b5, hb5⟩ : ∃ b, b = v5.heap.size := ⟨_, rfl⟩
       rw [← hb5] at hu5 ⊢
       replace kx := kx.keep q5 (by simp)
       replace hu1 := hu1.keep q5 (by simp)
       replace hu2 := hu2.keep q5 (by simp)
       replace hu3 := hu3.keep q5 (by simp)
       replace hu4 := hu4.keep q5 (by simp)
       replace mm := mm.then q5
       clear hy5 my5 zy5 mu5 q5 hb5)
    | (with_reducible refine wpList_loadsW (o := ⟨some 105, .load 25 (.tmp 16), _, _, _, _⟩) (by with_unfolding_all rfl) 25 (.tmp 16) rfl b5 0 _ rfl (Cells.of_holds hu5) _ Tryd.underlying25 rfl (size25i y) (iv y) rfl ?_)
    | (with_reducible refine wpList_loadsW (o := ⟨some 106, .load 25 (.tmp 10), _, _, _, _⟩) (by with_unfolding_all rfl) 25 (.tmp 10) rfl b1 0 _ rfl (Cells.of_holds hu1) _ Tryd.underlying25 rfl (size25i y) (iv y) rfl ?_)
    | (with_reducible refine wpList_ranW (o := ⟨some 107, .binOp .eql _ _ _ _, _, _, _, _⟩) (by with_unfolding_all rfl) (.bool true) u5 (exec_eq25s rfl rfl rfl) ?_))
  go_ret
  exact ⟨rfl, mm⟩
set_option maxRecDepth 100000 in
set_option maxHeartbeats 4000000 in
theorem adds_3b (x : Idv) (i a b c : Nat) (hi : i < 67) (ha : a ≤ b) (hb : b ≤ c) (hc : c ≤ 15) (w : World) (Gl : Glob w) (hab : a = b) :
    Calls Tryd.prog 9 #[iv x, .int .i64 (i : Int), .agg #[.int .i64 (a : Int), .int .i64 (b : Int), .int .i64 (c : Int)]] w fun r w' => r = .returned (.bool true) ∧ Mod [] w w' := by
  have WK := fun v (mv : Mod [] w v) => wakes_c v (Gl.then mv)
  obtain ⟨y, hy⟩ : ∃ y, y = walkI i a (b - a) x := ⟨_, rfl⟩
  have X1 := fun v (mv : Mod [] w v) => chain_yes x i a b hi ha (by omega) v (Gl.then mv)
  rw [← hy] at X1
  obtain ⟨z, hz⟩ : ∃ z, z = walkI i b (c - b) y := ⟨_, rfl⟩
  have X2 := fun v (mv : Mod [] w v) => chain_yes y i b c hi hb hc v (Gl.then mv)
  rw [← hz] at X2
  have X3 := fun v (mv : Mod [] w v) => chain_yes x i a c hi (by omega) hc v (Gl.then mv)
  have hw : walkI i a (c - a) x = z := by
    have := walkI_add i a (b - a) (c - b) x
    rw [show a + (b - a) = b by omega, show b - a + (c - b) = c - a by omega] at this
    rw [hz, hy, this]
  rw [hw] at X3
  have hyx : y = x := by rw [hy, hab, Nat.sub_self]; rfl
  have habZ : ¬ (a : Int) < (b : Int) := by omega
  have HYX := Lib.hid hyx
  clear hy hz hw hyx hab Gl
  go_enter Tryd.func9, Tryd.ntmps9
  go_wp2_with (first
    | (with_reducible refine wpList_boxes (o := ⟨some 3, .box 25 (.tmp 0), _, _, _, _⟩) rfl 25 (.tmp 0) rfl _ rfl (ic x) rfl ?_; intro w1 hb1 m1 z1; replace z1 := Lib.hid z1)
    | (with_reducible refine wpList_boxes (o := ⟨some 5, .box 53 (.tmp 2), _, _, _, _⟩) rfl 53 (.tmp 2) rfl _ rfl [.int .i64 (a : Int), .int .i64 (b : Int), .int .i64 (c : Int)] rfl ?_; intro w2 hb2 m2 z2; replace z2 := Lib.hid z2)
    | (go_at_call 10; refine (WK w2 (m1.then m2)).mono ?_
       rintro e w3 ⟨rfl, m3⟩
       obtain ⟨bx, hq3⟩ : ∃ q, q = w.heap.size := ⟨_, rfl⟩
       obtain ⟨bp, hq5⟩ : ∃ q, q = w1.heap.size := ⟨_, rfl⟩
       have kx : Holds w3 bx 25 (ic x) := by rw [hq3]; exact (hb1.keep m2 (by simp)).keep m3 (by simp)
       have k5 : Holds w3 bp 53 [.int .i64 (a : Int), .int .i64 (b : Int), .int .i64 (c : Int)] := by rw [hq5]; exact hb2.keep m3 (by simp)
       have mm : Mod [] w w3 := (m1.then m2).then m3
       have c0 : w3.cell? ⟨bp, 0, none⟩ = some (.int .i64 (a : Int)) := k5.cell 0
       have c1 : w3.cell? ⟨bp, 1, none⟩ = some (.int .i64 (b : Int)) := k5.cell 1
       have c2 : w3.cell? ⟨bp, 2, none⟩ = some (.int .i64 (c : Int)) := k5.cell 2
       rw [← hq3, ← hq5]
       clear hb1 hb2 m1 m2 z1 z2 m3 hq3 hq5 WK k5))
  go_quiet (fail)
  obtain ⟨u0, hu0⟩ : ∃ v, v = w3.drewN nq := ⟨_, rfl⟩
  have m0 : Mod [] w3 u0 := by rw [hu0]; exact Mod.drewN [] w3 nq
  rw [← hu0]
  replace kx := kx.keep m0 (by simp)
  replace mm := mm.then m0
  clear hu0 m0 c0 c1 c2 nq
  go_wp2_with (first
    | (with_reducible refine wpList_loads (o := ⟨some 27, .load 25 (.tmp 3), _, _, _, _⟩) rfl 25 (.tmp 3) rfl bx 0 _ rfl (Cells.of_holds kx) _ Tryd.underlying25 rfl (size25i x) (iv x) rfl ?_)
    | (go_at_call 15; refine (X1 _ mm).mono ?_
       rintro e v1 ⟨rfl, m1⟩
       replace kx := kx.keep m1 (by simp)
       replace mm := mm.then m1
       clear X1 m1)
    | (with_reducible refine wpList_allocs (o := ⟨some 10, .alloc 25, _, _, _, _⟩) rfl 25 rfl _ zeroI_25 ?_; intro y1 hy1 my1 zy1; replace zy1 := Lib.hid zy1)
    | (with_reducible refine wpList_storesAll (o := ⟨none, .store 25 (.tmp 10) (.tmp 32), _, _, _, _⟩) rfl 25 (.tmp 10) (.tmp 32) rfl rfl v1.heap.size (ic y) rfl (iv y) rfl rfl 25 _ hy1 (by rw [ic_length, ic_length]) (ic_one _) (size25i _) ?_
       intro u1 hu1 mu1 zu1
       clear zu1
       have q1 : Mod [] v1 u1 := my1.trans mu1 (by intro i hi h; simp at h; omega)
       obtain ⟨b1, hb1⟩ : ∃ b, b = v1.heap.size := ⟨_, rfl⟩
       rw [← hb1] at hu1 ⊢
       replace kx := kx.keep q1 (by simp)
       replace mm := mm.then q1
       clear hy1 my1 zy1 mu1 q1 hb1)
    | (with_reducible refine wpList_loads (o := ⟨some 44, .load 25 (.tmp 10), _, _, _, _⟩) rfl 25 (.tmp 10) rfl b1 0 _ rfl (Cells.of_holds hu1) _ Tryd.underlying25 rfl (size25i y) (iv y) rfl ?_)
    | (go_at_call 15; refine (X2 _ mm).mono ?_
       rintro e v2 ⟨rfl, m2⟩
       replace kx := kx.keep m2 (by simp)
       replace hu1 := hu1.keep m2 (by simp)
       replace mm := mm.then m2
       clear X2 m2)
    | (with_reducible refine wpList_allocs (o := ⟨some 12, .alloc 25, _, _, _, _⟩) rfl 25 rfl _ zeroI_25 ?_; intro y2 hy2 my2 zy2; replace zy2 := Lib.hid zy2)
    | (with_reducible refine wpList_storesAll (o := ⟨none, .store 25 (.tmp 12) (.tmp 49), _, _, _, _⟩) rfl 25 (.tmp 12) (.tmp 49) rfl rfl v2.heap.size (ic z) rfl (iv z) rfl rfl 25 _ hy2 (by rw [ic_length, ic_length]) (ic_one _) (size25i _) ?_
       intro u2 hu2 mu2 zu2
       clear zu2
       have q2 : Mod [] v2 u2 := my2.trans mu2 (by intro i hi h; simp at h; omega)
       obtain ⟨b2, hb2⟩ : ∃ b, b = v2.heap.size := ⟨_, rfl⟩
       rw [← hb2] at hu2 ⊢
       replace kx := kx.keep q2 (by simp)
       replace hu1 := hu1.keep q2 (by simp)
       replace mm := mm.then q2
       clear hy2 my2 zy2 mu2 q2 hb2)
    | (with_reducible refine wpList_loads (o := ⟨some 65, .load 25 (.tmp 3), _, _, _, _⟩) rfl 25 (.tmp 3) rfl bx 0 _ rfl (Cells.of_holds kx) _ Tryd.underlying25 rfl (size25i x) (iv x) rfl ?_)
    | (go_at_call 15; refine (X3 _ mm).mono ?_
       rintro e v3 ⟨rfl, m3⟩
       replace kx := kx.keep m3 (by simp)
       replace hu1 := hu1.keep m3 (by simp)
       replace hu2 := hu2.keep m3 (by simp)
       replace mm := mm.then m3
       clear X3 m3)
    | (with_reducible refine wpList_allocs (o := ⟨some 13, .alloc 25, _, _, _, _⟩) rfl 25 rfl _ zeroI_25 ?_; intro y3 hy3 my3 zy3; replace zy3 := Lib.hid zy3)
    | (with_reducible refine wpList_storesAll (o := ⟨none, .store 25 (.tmp 13) (.tmp 70), _, _, _, _⟩) rfl 25 (.tmp 13) (.tmp 70) rfl rfl v3.heap.size (ic z) rfl (iv z) rfl rfl 25 _ hy3 (by rw [ic_length, ic_length]) (ic_one _) (size25i _) ?_
       intro u3 hu3 mu3 zu3
       clear zu3
       have q3 : Mod [] v3 u3 := my3.trans mu3 (by intro i hi h; simp at h; omega)
       obtain ⟨b3, hb3⟩ : ∃ b, b = v3.heap.size := ⟨_, rfl⟩
       rw [← hb3] at hu3 ⊢
       replace kx := kx.keep q3 (by simp)
       replace hu1 := hu1.keep q3 (by simp)
       replace hu2 := hu2.keep q3 (by simp)
       replace mm := mm.then q3
       clear hy3 my3 zy3 mu3 q3 hb3)
    | (with_reducible refine wpList_loadsW (o := ⟨some 75, .load 25 (.tmp 13), _, _, _, _⟩) (by with_unfolding_all rfl) 25 (.tmp 13) rfl b3 0 _ rfl (Cells.of_holds hu3) _ Tryd.underlying25 rfl (size25i z) (iv z) rfl ?_)
    | (with_reducible refine wpList_loadsW (o := ⟨some 76, .load 25 (.tmp 12), _, _, _, _⟩) (by with_unfolding_all rfl) 25 (.tmp 12) rfl b2 0 _ rfl (Cells.of_holds hu2) _ Tryd.underlying25 rfl (size25i z) (iv z) rfl ?_)
    | (with_reducible refine wpList_ranW (o := ⟨some 77, .binOp .neq _ _ _ _, _, _, _, _⟩) (by with_unfolding_all rfl) (.bool false) u3 (exec_ne25s rfl rfl rfl) ?_)
    | (with_reducible refine wpList_loads (o := ⟨some 109, .load 25 (.tmp 10), _, _, _, _⟩) rfl 25 (.tmp 10) rfl b1 0 _ rfl (Cells.of_holds hu1) _ Tryd.underlying25 rfl (size25i y) (iv y) rfl ?_)
    | (with_reducible refine wpList_loads (o := ⟨some 110, .load 25 (.tmp 3), _, _, _, _⟩) rfl 25 (.tmp 3) rfl bx 0 _ rfl (Cells.of_holds kx) _ Tryd.underlying25 rfl (size25i x) (iv x) rfl ?_)
    | (with_reducible refine wpList_ranW (o := ⟨some 111, .binOp .eql _ _ _ _, _, _, _, _⟩) (by with_unfolding_all rfl) (.bool true) u3 (by have h0 := HYX.out; subst h0; exact exec_eq25s rfl rfl rfl) ?_))
  go_ret
  exact ⟨rfl, mm⟩
theorem adds_w (L0 : List UInt8) (i : Int) (D : List Int) (h0 : L0.length = 32) (_ : (Lit.int .i64 i).wf = true) (hD : D.length = 3) (w : World) (Gl : Glob w) :
    Calls Tryd.prog 9 #[.agg (L0.map oct).toArray, .int .i64 i, .agg (D.map (Value.int .i64)).toArray] w fun r w' => r = .returned (.bool true) ∧ Mod [] w w' := by
  obtain ⟨x, hx⟩ : ∃ x : Idv, x = ⟨L0, h0⟩ := ⟨_, rfl⟩
  rw [show Value.agg (L0.map oct).toArray = iv x by rw [hx]; rfl]
  match D, hD with
  | [a, b, c], _ =>
    show Calls Tryd.prog 9 #[iv x, .int .i64 i, .agg #[.int .i64 a, .int .i64 b, .int .i64 c]] w _
    by_cases h : chOk i ∧ 0 ≤ a ∧ a ≤ b ∧ b ≤ 15
    · obtain ⟨⟨h1, h2⟩, h3, h4, h5⟩ := h
      obtain ⟨i, rfl⟩ : ∃ n : Nat, i = (n : Int) := ⟨i.toNat, by omega⟩
      obtain ⟨a, rfl⟩ : ∃ n : Nat, a = (n : Int) := ⟨a.toNat, by omega⟩
      obtain ⟨b, rfl⟩ : ∃ n : Nat, b = (n : Int) := ⟨b.toNat, by omega⟩
      by_cases g1 : (b : Int) ≤ c
      · by_cases g2 : c ≤ 15
        · obtain ⟨c, rfl⟩ : ∃ n : Nat, c = (n : Int) := ⟨c.toNat, by omega⟩
          by_cases g3 : a < b
          · exact adds_3a x i a b c (by omega) (by omega) (by omega) (by omega) w Gl g3
          · exact adds_3b x i a b c (by omega) (by omega) (by omega) (by omega) w Gl (by omega)
        · exact adds_2b x i a b c (by omega) (by omega) (by omega) w Gl g1 (by omega)
      · exact adds_2a x i a b c (by omega) (by omega) (by omega) w Gl (by omega)
    · exact adds_1 x i a b c w Gl h
end Go.Proofs.YtdolihecjomjiaaDoor
