/-
  Package wots: Verify. My own work.
-/
import Derived.Test.YtdolihecjomjiaaDoorWm
namespace Go.Proofs.YtdolihecjomjiaaDoor
open Go.RowKit Go.Shelf
theorem exec_eq25 {v : World} {o : Oper} {ρ : Operand → Value} {x y : Operand} {X Y : Idv} (ho : o.op = .binOp .eql 25 x y 25) (hx : ρ x = iv X) (hy : ρ y = iv Y) : (execOp ρ o).run Tryd.prog v = .ok (.value (.bool (decide (X = Y)))) v := by
  have hx' : ρ x = .agg ((X.1.map fun b => (b.toNat : Int)).map (Value.int .u8)).toArray := by rw [hx, ← octs_ints]; rfl
  have hy' : ρ y = .agg ((Y.1.map fun b => (b.toNat : Int)).map (Value.int .u8)).toArray := by rw [hy, ← octs_ints]; rfl
  have := exec_eqa (P := Tryd.prog) (v := v) Tryd.underlying25 Tryd.underlying5 (by kernel_rfl) (by kernel_rfl) (by kernel_rfl) _ _ (by simpa using X.2) (by simpa using Y.2) ho hx' hy'
  simpa only [octs_inj, Subtype.ext_iff] using this
theorem exec_ne25 {v : World} {o : Oper} {ρ : Operand → Value} {x y : Operand} {X Y : Idv} (ho : o.op = .binOp .neq 25 x y 25) (hx : ρ x = iv X) (hy : ρ y = iv Y) : (execOp ρ o).run Tryd.prog v = .ok (.value (.bool (!decide (X = Y)))) v := by
  have := exec_ne40 (v := v) (L := X.1) (M := Y.1) X.2 Y.2 ho hx hy
  simpa only [Subtype.ext_iff] using this
set_option maxRecDepth 100000 in
set_option maxHeartbeats 4000000 in
theorem verify_no (key m : Idv) (A : Option Addr) (n c : Nat) (hn : n ≠ 67) (h63 : n ≤ 100000) (w : World) :
    Calls Tryd.prog 26 #[iv key, iv m, .slice A n c] w fun r w' => r = .returned (.bool false) ∧ Mod [] w w' := by
  have X := fun v => recover_no m A n c hn h63 v
  clear hn h63
  go_enter Tryd.func26, Tryd.ntmps26
  go_wp2_with (first
    | (with_reducible refine wpList_boxes (o := ⟨some 3, .box 25 (.tmp 0), _, _, _, _⟩) rfl 25 (.tmp 0) rfl _ rfl (ic key) rfl ?_; intro w1 hb1 m1 z1; replace z1 := Lib.hid z1)
    | (with_reducible refine wpList_boxes (o := ⟨some 4, .box 25 (.tmp 1), _, _, _, _⟩) rfl 25 (.tmp 1) rfl _ rfl (ic m) rfl ?_; intro w2 hb2 m2 z2; replace z2 := Lib.hid z2)
    | (with_reducible refine wpList_loads (o := ⟨some 10, .load 25 (.tmp 4), _, _, _, _⟩) rfl 25 (.tmp 4) rfl w1.heap.size 0 _ rfl (Cells.of_holds hb2) _ Tryd.underlying25 rfl (size25i m) (iv m) rfl ?_)
    | (go_at_call 24; refine (X _).mono ?_; rintro e w3 ⟨rfl, m3⟩; clear X)
    | (with_reducible refine wpList_allocs (o := ⟨some 7, .alloc 25, _, _, _, _⟩) rfl 25 rfl _ zeroI_25 ?_; intro w4 hb4 m4 z4; replace z4 := Lib.hid z4)
    | (with_reducible refine wpList_storesAll (o := ⟨none, .store 25 (.tmp 7) (.tmp 13), _, _, _, _⟩) rfl 25 (.tmp 7) (.tmp 13) rfl rfl w3.heap.size (ic zeroI) rfl (iv zeroI) rfl rfl 25 _ hb4 (by rw [ic_length]) (ic_one _) (size25i _) ?_; intro w5 hb5 m5 z5; replace z5 := Lib.hid z5))
  go_ret
  exact ⟨rfl, far_mod (((m1.then m2).then m3).then m4) m5 (by simp; exact ((m1.then m2).then m3).size)⟩
set_option maxRecDepth 100000 in
set_option maxHeartbeats 4000000 in
theorem verify_c (key m : Idv) (s : List Idv) (A : Option Addr) (c : Nat) (hs : s.length = 67) (w : World) (Gl : Glob w) (RA : Cells w A (s.flatMap ic)) :
    Calls Tryd.prog 26 #[iv key, iv m, .slice A 67 c] w fun r w' => r = .returned (.bool (decide (recI m s = key))) ∧ Mod [] w w' := by
  obtain ⟨bb, hbb⟩ : ∃ b, b = decide (recI m s = key) := ⟨_, rfl⟩
  obtain ⟨d, hd⟩ : ∃ d, d = recI m s := ⟨_, rfl⟩
  rw [← hbb]
  rw [← hd] at hbb
  have X := fun v (mv : Mod [] w v) => recover_c m s A c hs v (Gl.then mv) (RA.keep mv (by simp))
  rw [← hd] at X
  have HB := Lib.hid hbb.symm
  clear hs Gl RA hbb hd
  go_enter Tryd.func26, Tryd.ntmps26
  go_wp2_with (first
    | (with_reducible refine wpList_boxes (o := ⟨some 3, .box 25 (.tmp 0), _, _, _, _⟩) rfl 25 (.tmp 0) rfl _ rfl (ic key) rfl ?_; intro w1 hb1 m1 z1; replace z1 := Lib.hid z1)
    | (with_reducible refine wpList_boxes (o := ⟨some 4, .box 25 (.tmp 1), _, _, _, _⟩) rfl 25 (.tmp 1) rfl _ rfl (ic m) rfl ?_; intro w2 hb2 m2 z2; replace z2 := Lib.hid z2)
    | (with_reducible refine wpList_loads (o := ⟨some 10, .load 25 (.tmp 4), _, _, _, _⟩) rfl 25 (.tmp 4) rfl w1.heap.size 0 _ rfl (Cells.of_holds hb2) _ Tryd.underlying25 rfl (size25i m) (iv m) rfl ?_)
    | (go_at_call 24; refine (X _ (m1.then m2)).mono ?_; rintro e w3 ⟨rfl, m3⟩; clear X)
    | (with_reducible refine wpList_allocs (o := ⟨some 7, .alloc 25, _, _, _, _⟩) rfl 25 rfl _ zeroI_25 ?_; intro w4 hb4 m4 z4; replace z4 := Lib.hid z4)
    | (with_reducible refine wpList_storesAll (o := ⟨none, .store 25 (.tmp 7) (.tmp 13), _, _, _, _⟩) rfl 25 (.tmp 7) (.tmp 13) rfl rfl w3.heap.size (ic d) rfl (iv d) rfl rfl 25 _ hb4 (by rw [ic_length, ic_length]) (ic_one _) (size25i _) ?_
       intro w5 hb5 m5 z5
       replace z5 := Lib.hid z5
       have h1' : Holds w5 w.heap.size 25 (ic key) := (((hb1.keep m2 (by simp)).keep m3 (by simp)).keep m4 (by simp)).keep m5 (by have := ((m2.then m3).size); have := z1.out; simp; omega))
    | (with_reducible refine wpList_loadsW (o := ⟨some 18, .load 25 (.tmp 7), _, _, _, _⟩) (by with_unfolding_all rfl) 25 (.tmp 7) rfl w3.heap.size 0 _ rfl (Cells.of_holds hb5) _ Tryd.underlying25 rfl (size25i d) (iv d) rfl ?_)
    | (with_reducible refine wpList_loadsW (o := ⟨some 19, .load 25 (.tmp 3), _, _, _, _⟩) (by with_unfolding_all rfl) 25 (.tmp 3) rfl w.heap.size 0 _ rfl (Cells.of_holds h1') _ Tryd.underlying25 rfl (size25i key) (iv key) rfl ?_)
    | (with_reducible refine wpList_ranW (o := ⟨some 20, .binOp .eql _ _ _ _, _, _, _, _⟩) (by with_unfolding_all rfl) (.bool bb) w5 (by rw [← HB.out]; exact exec_eq25 rfl rfl rfl) ?_))
  go_ret
  exact ⟨rfl, far_mod (((m1.then m2).then m3).then m4) m5 (by simp; exact ((m1.then m2).then m3).size)⟩
end Go.Proofs.YtdolihecjomjiaaDoor
