/-
  WotsLong's walk. My own work.
-/
import Derived.Test.YtdolihecjomjiaaDoorXa
import Derived.Test.YtdolihecjomjiaaDoorWp
namespace Go.Proofs.YtdolihecjomjiaaDoor
open Go.RowKit Go.Shelf
theorem exec_eqbs {v : World} {o : Oper} {ρ : Operand → Value} {x y : Operand} {b : Bool} (ho : o.op = .binOp .eql 4 x y 4) (hx : ρ x = .bool b) (hy : ρ y = .bool b) : (execOp ρ o).run Tryd.prog v = .ok (.value (.bool true)) v := by
  unfold execOp
  have h := run_eql_bool (P := Tryd.prog) v 4 b b Tryd.underlying4
  simp [ho, hx, hy, go_sem, h]
theorem p32 : 0 < 32 := by decide
theorem exec_min {v : World} {o : Oper} {ρ : Operand → Value} {x y : Operand} {n k : Nat} (hk : k = min n 80) (ho : o.op = .call { callee := .builtin .min, args := #[x, y], argTypes := #[3, 3] }) (hx : ρ x = .int .i64 (n : Int)) (hy : ρ y = .int .i64 80) : (execOp ρ o).run Tryd.prog v = .ok (.value (.int .i64 (k : Int))) v := by
  unfold execOp
  simp [ho, resolve, invoke, builtin, hx, hy, go_sem]
  rw [hk]
  split <;> omega
set_option maxRecDepth 100000 in
set_option maxHeartbeats 4000000 in
theorem long_no (key m : Idv) (A : Option Addr) (n cap j : Nat) (s : List Idv) (hmin : j = min n 80) (hj : j = s.length) (hjc : j ≤ cap) (hj80 : j ≤ 80) (hnZ : (n : Int) ≤ 9223372036854775807) (h67 : j ≠ 67) (w : World) (Gl : Glob w) (RA : Cells w A (s.flatMap ic)) :
    Calls Tryd.prog 6 #[iv key, iv m, .slice A n cap] w fun r w' => r = .returned (.bool true) ∧ Mod [] w w' := by
  have WK := fun v (mv : Mod [] w v) => wakes_c v (Gl.then mv)
  obtain ⟨i0, j1, j2, j3, j4⟩ := info_parts id_parts
  have HI := Lib.hid (And.intro j1 (And.intro j2 (And.intro j3 j4)))
  have HJ := Lib.hid (And.intro hj (And.intro hjc (And.intro hj80 RA)))
  have HMIN := Lib.hid hmin
  have h63 : (([] : List Idv).length + s.length) * 32 ≤ 140737488355328 := by rw [List.length_nil]; omega
  have h64 : ([] : List Idv).length + s.length ≤ maxLen := by
    have h9 : (200 : Nat) ≤ maxLen := by decide
    rw [List.length_nil]; omega
  have HS := Lib.hid (And.intro h63 h64)
  clear h63 h64
  have R := fun v (_ : Mod [] w v) (A : Option Addr) c (_ : OwnG ic 25 32 v A c s) => recover_no m A j c h67 (by omega) v
  have V := fun v (_ : Mod [] w v) (A : Option Addr) c => verify_no key m A j c h67 (by omega) v
  have h67Z : ¬ (j : Int) = 67 := by omega
  have hjZ : (j : Int) ≤ 80 := by omega
  clear hmin hj hjc hj80 h67 Gl RA j1 j2 j3 j4
  go_enter Tryd.func6, Tryd.ntmps6
  go_wp2_with (first
    | (with_reducible refine wpList_boxes (o := ⟨some 3, .box 25 (.tmp 0), _, _, _, _⟩) rfl 25 (.tmp 0) rfl _ rfl (ic key) rfl ?_; intro w1 hb1 m1 z1; replace z1 := Lib.hid z1)
    | (with_reducible refine wpList_boxes (o := ⟨some 4, .box 25 (.tmp 1), _, _, _, _⟩) rfl 25 (.tmp 1) rfl _ rfl (ic m) rfl ?_; intro w2 hb2 m2 z2; replace z2 := Lib.hid z2)
    | (go_at_call 10; refine (WK w2 (m1.then m2)).mono ?_
       rintro e w3 ⟨rfl, m3⟩
       obtain ⟨bk, hq3⟩ : ∃ q, q = w.heap.size := ⟨_, rfl⟩
       obtain ⟨bm, hq5⟩ : ∃ q, q = w1.heap.size := ⟨_, rfl⟩
       have kk : Holds w3 bk 25 (ic key) := by rw [hq3]; exact (hb1.keep m2 (by simp)).keep m3 (by simp)
       have km : Holds w3 bm 25 (ic m) := by rw [hq5]; exact hb2.keep m3 (by simp)
       have mm : Mod [] w w3 := (m1.then m2).then m3
       have kk0 := kk.lt
       have km0 := km.lt
       rw [← hq3, ← hq5]
       clear hb1 hb2 m1 m2 z1 z2 m3 hq3 hq5 WK)
    | (with_reducible refine wpList_made (o := ⟨some 12, .buildSlice 22 0 _, _, _, _, _⟩) (by with_unfolding_all rfl) _ 25 ([] : List Value) (exec_none22 rfl) ?_
       intro w4 hb4 m4 z4
       have O4 : OwnG ic 25 32 w4 (some ⟨w3.heap.size, 0, none⟩) 0 [] := OwnG.of_holds (l := []) hb4 ic_length (by decide)
       replace kk := kk.keep m4 (by simp)
       replace km := km.keep m4 (by simp)
       have mb : ∀ i ∈ blk (some ⟨w3.heap.size, 0, none⟩), w.heap.size ≤ i ∧ bk ≠ i ∧ bm ≠ i := fun i hi => by
         have h1 : i = w3.heap.size := by simpa [blk] using hi
         have h2 := mm.size
         have h3 := kk0
         have h4 := km0
         omega
       replace mm := mm.then m4
       obtain ⟨Y, hY⟩ : ∃ Y : Option Addr, Y = some ⟨w3.heap.size, 0, none⟩ := ⟨_, rfl⟩
       rw [← hY] at O4 mb ⊢
       clear hb4 m4 z4 hY)
    | (with_reducible refine wpList_ranW (o := ⟨some 16, _, _, _, _, _⟩) (by with_unfolding_all rfl) (.int .i64 (j : Int)) w4 (exec_min HMIN.out rfl rfl rfl) ?_)
    | (with_reducible refine wpList_ranW (o := ⟨some 17, .slice _ _ _ _ _, _, _, _, _⟩) (by with_unfolding_all rfl) (.slice A j cap) w4 (exec_first Tryd.underlying22 HJ.out.2.1 rfl rfl rfl size25') ?_)
    | (with_reducible refine wpList_appendG (f := ic) w4 (o := ⟨some 18, _, _, _, _, _⟩) rfl (.tmp 12) (.tmp 17) 22 rfl 25 i0 (iv zeroI) 32 Tryd.underlying22 HI.out.1 HI.out.2.1 HI.out.2.2.1 HI.out.2.2.2 (by with_unfolding_all rfl) p32 ic_length ic_one Y 0 0 [] rfl List.length_nil.symm O4 A j cap s rfl HJ.out.1 (HJ.out.2.2.2.keep mm (by simp)) HS.out.1 HS.out.2 ?_
       intro A' c' w5 hO5 m5 q5
       have hO : OwnG ic 25 32 w5 A' c' s := by simpa using hO5
       replace kk := kk.keep m5 (fun h => (mb _ h).2.1 rfl)
       replace km := km.keep m5 (fun h => (mb _ h).2.2 rfl)
       replace mm := far_mod mm m5 (fun i hi => (mb i hi).1)
       obtain ⟨j', hj'⟩ : ∃ q, q = ([] ++ s).length := ⟨_, rfl⟩
       rw [← hj']
       obtain rfl : j = j' := by rw [hj', HJ.out.1]; rfl
       clear hO5 m5 q5 O4 mb hj')
    | (with_reducible refine wpList_loads (o := ⟨some 20, .load 25 (.tmp 4), _, _, _, _⟩) rfl 25 (.tmp 4) rfl bm 0 _ rfl (Cells.of_holds km) _ Tryd.underlying25 rfl (size25i m) (iv m) rfl ?_)
    | (go_at_call 24; refine (R w5 mm A' c' hO).mono ?_
       rintro e w6 ⟨rfl, m6⟩
       replace kk := kk.keep m6 (by simp)
       replace km := km.keep m6 (by simp)
       replace hO := hO.keep m6 (by simp)
       replace mm := mm.then m6
       clear R m6)
    | (with_reducible refine wpList_allocs (o := ⟨some 7, .alloc 25, _, _, _, _⟩) rfl 25 rfl _ zeroI_25 ?_; intro w7 hb7 m7 z7; replace z7 := Lib.hid z7)
    | (with_reducible refine wpList_storesAll (o := ⟨none, .store 25 (.tmp 7) (.tmp 23), _, _, _, _⟩) rfl 25 (.tmp 7) (.tmp 23) rfl rfl w6.heap.size (ic zeroI) rfl (iv zeroI) rfl rfl 25 _ hb7 (by rw [ic_length]) (ic_one _) (size25i _) ?_
       intro w8 hb8 m8 z8
       clear z8
       have mx : Mod [] w6 w8 := m7.trans m8 (by intro i hi h; simp at h; omega)
       obtain ⟨b7, hb7'⟩ : ∃ b, b = w6.heap.size := ⟨_, rfl⟩
       rw [← hb7'] at hb8 ⊢
       replace kk := kk.keep mx (by simp)
       replace km := km.keep mx (by simp)
       replace hO := hO.keep mx (by simp)
       replace mm := mm.then mx
       clear hb7 m7 z7 m8 mx hb7')
    | (with_reducible refine wpList_loadsW (o := ⟨some 31, .load 25 (.tmp 7), _, _, _, _⟩) (by with_unfolding_all rfl) 25 (.tmp 7) rfl b7 0 _ rfl (Cells.of_holds hb8) _ Tryd.underlying25 rfl (size25i zeroI) (iv zeroI) rfl ?_)
    | (with_reducible refine wpList_ranW (o := ⟨some 32, .build 25 _, _, _, _, _⟩) (by with_unfolding_all rfl) (iv zeroI) w8 (exec_zero25 rfl) ?_)
    | (with_reducible refine wpList_ranW (o := ⟨some 33, .binOp .eql _ _ _ _, _, _, _, _⟩) (by with_unfolding_all rfl) (.bool true) w8 (exec_eq25s rfl rfl rfl) ?_)
    | (with_reducible refine wpList_loadsW (o := ⟨some 36, .load 25 (.tmp 3), _, _, _, _⟩) (by with_unfolding_all rfl) 25 (.tmp 3) rfl bk 0 _ rfl (Cells.of_holds kk) _ Tryd.underlying25 rfl (size25i key) (iv key) rfl ?_)
    | (with_reducible refine wpList_loadsW (o := ⟨some 37, .load 25 (.tmp 4), _, _, _, _⟩) (by with_unfolding_all rfl) 25 (.tmp 4) rfl bm 0 _ rfl (Cells.of_holds km) _ Tryd.underlying25 rfl (size25i m) (iv m) rfl ?_)
    | (go_at_call 26; refine (V w8 mm A' c').mono ?_
       rintro e w9 ⟨rfl, m9⟩))
  go_ret
  exact ⟨rfl, mm.then m9⟩
set_option maxRecDepth 100000 in
set_option maxHeartbeats 4000000 in
theorem long_yes (key m : Idv) (A : Option Addr) (n cap j : Nat) (s : List Idv) (hmin : j = min n 80) (hj : j = s.length) (hjc : j ≤ cap) (hj80 : j ≤ 80) (hnZ : (n : Int) ≤ 9223372036854775807) (h67 : j = 67) (w : World) (Gl : Glob w) (RA : Cells w A (s.flatMap ic)) :
    Calls Tryd.prog 6 #[iv key, iv m, .slice A n cap] w fun r w' => r = .returned (.bool true) ∧ Mod [] w w' := by
  have WK := fun v (mv : Mod [] w v) => wakes_c v (Gl.then mv)
  obtain ⟨i0, j1, j2, j3, j4⟩ := info_parts id_parts
  have HI := Lib.hid (And.intro j1 (And.intro j2 (And.intro j3 j4)))
  have HJ := Lib.hid (And.intro hj (And.intro hjc (And.intro hj80 RA)))
  have HMIN := Lib.hid hmin
  have h63 : (([] : List Idv).length + s.length) * 32 ≤ 140737488355328 := by rw [List.length_nil]; omega
  have h64 : ([] : List Idv).length + s.length ≤ maxLen := by
    have h9 : (200 : Nat) ≤ maxLen := by decide
    rw [List.length_nil]; omega
  have HS := Lib.hid (And.intro h63 h64)
  clear h63 h64
  subst h67
  have hs67 : s.length = 67 := hj.symm
  obtain ⟨d, hd⟩ : ∃ d, d = recI m s := ⟨_, rfl⟩
  have R := fun v (mv : Mod [] w v) (A : Option Addr) c (h : OwnG ic 25 32 v A c s) => recover_c m s A c hs67 v (Gl.then mv) h.cells
  have LR := fun v (mv : Mod [] w v) (A : Option Addr) c (h : OwnG ic 25 32 v A c s) => lrecovered_c m s A c hs67 v (Gl.then mv) h.cells
  have V := fun v (mv : Mod [] w v) (A : Option Addr) c (h : OwnG ic 25 32 v A c s) => verify_c key m s A c hs67 v (Gl.then mv) h.cells
  rw [← hd] at R LR V
  obtain ⟨bb, hbb⟩ : ∃ b, b = decide (d = key) := ⟨_, rfl⟩
  rw [← hbb] at V
  have HB := Lib.hid hbb
  clear hmin hj hjc hj80 Gl RA j1 j2 j3 j4 hs67 hd hbb
  go_enter Tryd.func6, Tryd.ntmps6
  go_wp2_with (first
    | (with_reducible refine wpList_boxes (o := ⟨some 3, .box 25 (.tmp 0), _, _, _, _⟩) rfl 25 (.tmp 0) rfl _ rfl (ic key) rfl ?_; intro w1 hb1 m1 z1; replace z1 := Lib.hid z1)
    | (with_reducible refine wpList_boxes (o := ⟨some 4, .box 25 (.tmp 1), _, _, _, _⟩) rfl 25 (.tmp 1) rfl _ rfl (ic m) rfl ?_; intro w2 hb2 m2 z2; replace z2 := Lib.hid z2)
    | (go_at_call 10; refine (WK w2 (m1.then m2)).mono ?_
       rintro e w3 ⟨rfl, m3⟩
       obtain ⟨bk, hq3⟩ : ∃ q, q = w.heap.size := ⟨_, rfl⟩
       obtain ⟨bm, hq5⟩ : ∃ q, q = w1.heap.size := ⟨_, rfl⟩
       have kk : Holds w3 bk 25 (ic key) := by rw [hq3]; exact (hb1.keep m2 (by simp)).keep m3 (by simp)
       have km : Holds w3 bm 25 (ic m) := by rw [hq5]; exact hb2.keep m3 (by simp)
       have mm : Mod [] w w3 := (m1.then m2).then m3
       have kk0 := kk.lt
       have km0 := km.lt
       rw [← hq3, ← hq5]
       clear hb1 hb2 m1 m2 z1 z2 m3 hq3 hq5 WK)
    | (with_reducible refine wpList_made (o := ⟨some 12, .buildSlice 22 0 _, _, _, _, _⟩) (by with_unfolding_all rfl) _ 25 ([] : List Value) (exec_none22 rfl) ?_
       intro w4 hb4 m4 z4
       have O4 : OwnG ic 25 32 w4 (some ⟨w3.heap.size, 0, none⟩) 0 [] := OwnG.of_holds (l := []) hb4 ic_length (by decide)
       replace kk := kk.keep m4 (by simp)
       replace km := km.keep m4 (by simp)
       have mb : ∀ i ∈ blk (some ⟨w3.heap.size, 0, none⟩), w.heap.size ≤ i ∧ bk ≠ i ∧ bm ≠ i := fun i hi => by
         have h1 : i = w3.heap.size := by simpa [blk] using hi
         have h2 := mm.size
         have h3 := kk0
         have h4 := km0
         omega
       replace mm := mm.then m4
       obtain ⟨Y, hY⟩ : ∃ Y : Option Addr, Y = some ⟨w3.heap.size, 0, none⟩ := ⟨_, rfl⟩
       rw [← hY] at O4 mb ⊢
       clear hb4 m4 z4 hY)
    | (with_reducible refine wpList_ranW (o := ⟨some 16, _, _, _, _, _⟩) (by with_unfolding_all rfl) (.int .i64 67) w4 (exec_min HMIN.out rfl rfl rfl) ?_)
    | (with_reducible refine wpList_ranW (o := ⟨some 17, .slice _ _ _ _ _, _, _, _, _⟩) (by with_unfolding_all rfl) (.slice A 67 cap) w4 (exec_first Tryd.underlying22 HJ.out.2.1 rfl rfl rfl size25') ?_)
    | (with_reducible refine wpList_appendG (f := ic) w4 (o := ⟨some 18, _, _, _, _, _⟩) rfl (.tmp 12) (.tmp 17) 22 rfl 25 i0 (iv zeroI) 32 Tryd.underlying22 HI.out.1 HI.out.2.1 HI.out.2.2.1 HI.out.2.2.2 (by with_unfolding_all rfl) p32 ic_length ic_one Y 0 0 [] rfl List.length_nil.symm O4 A 67 cap s rfl HJ.out.1 (HJ.out.2.2.2.keep mm (by simp)) HS.out.1 HS.out.2 ?_
       intro A' c' w5 hO5 m5 q5
       have hO : OwnG ic 25 32 w5 A' c' s := by simpa using hO5
       replace kk := kk.keep m5 (fun h => (mb _ h).2.1 rfl)
       replace km := km.keep m5 (fun h => (mb _ h).2.2 rfl)
       replace mm := far_mod mm m5 (fun i hi => (mb i hi).1)
       obtain ⟨j', hj'⟩ : ∃ q, q = ([] ++ s).length := ⟨_, rfl⟩
       rw [← hj']
       obtain rfl : 67 = j' := by rw [hj', HJ.out.1]; rfl
       clear hO5 m5 q5 O4 mb hj')
    | (with_reducible refine wpList_loads (o := ⟨some 20, .load 25 (.tmp 4), _, _, _, _⟩) rfl 25 (.tmp 4) rfl bm 0 _ rfl (Cells.of_holds km) _ Tryd.underlying25 rfl (size25i m) (iv m) rfl ?_)
    | (go_at_call 24; refine (R w5 mm A' c' hO).mono ?_
       rintro e w6 ⟨rfl, m6⟩
       replace kk := kk.keep m6 (by simp)
       replace km := km.keep m6 (by simp)
       replace hO := hO.keep m6 (by simp)
       replace mm := mm.then m6
       clear R m6)
    | (with_reducible refine wpList_allocs (o := ⟨some 7, .alloc 25, _, _, _, _⟩) rfl 25 rfl _ zeroI_25 ?_; intro w7 hb7 m7 z7; replace z7 := Lib.hid z7)
    | (with_reducible refine wpList_storesAll (o := ⟨none, .store 25 (.tmp 7) (.tmp 23), _, _, _, _⟩) rfl 25 (.tmp 7) (.tmp 23) rfl rfl w6.heap.size (ic d) rfl (iv d) rfl rfl 25 _ hb7 (by rw [ic_length, ic_length]) (ic_one _) (size25i _) ?_
       intro w8 hb8 m8 z8
       clear z8
       have mx : Mod [] w6 w8 := m7.trans m8 (by intro i hi h; simp at h; omega)
       obtain ⟨b7, hb7'⟩ : ∃ b, b = w6.heap.size := ⟨_, rfl⟩
       rw [← hb7'] at hb8 ⊢
       replace kk := kk.keep mx (by simp)
       replace km := km.keep mx (by simp)
       replace hO := hO.keep mx (by simp)
       replace mm := mm.then mx
       clear hb7 m7 z7 m8 mx hb7')
    | (with_reducible refine wpList_loads (o := ⟨some 42, .load 25 (.tmp 4), _, _, _, _⟩) rfl 25 (.tmp 4) rfl bm 0 _ rfl (Cells.of_holds km) _ Tryd.underlying25 rfl (size25i m) (iv m) rfl ?_)
    | (go_at_call 25; refine (LR w8 mm A' c' hO).mono ?_
       rintro e w9 ⟨rfl, m9⟩
       replace kk := kk.keep m9 (by simp)
       replace km := km.keep m9 (by simp)
       replace hO := hO.keep m9 (by simp)
       replace hb8 := hb8.keep m9 (by simp)
       replace mm := mm.then m9
       clear LR m9)
    | (with_reducible refine wpList_allocs (o := ⟨some 9, .alloc 25, _, _, _, _⟩) rfl 25 rfl _ zeroI_25 ?_; intro v7 hv7 mv7 zv7; replace zv7 := Lib.hid zv7)
    | (with_reducible refine wpList_storesAll (o := ⟨none, .store 25 (.tmp 9) (.tmp 44), _, _, _, _⟩) rfl 25 (.tmp 9) (.tmp 44) rfl rfl w9.heap.size (ic d) rfl (iv d) rfl rfl 25 _ hv7 (by rw [ic_length, ic_length]) (ic_one _) (size25i _) ?_
       intro v8 hv8 mv8 zv8
       clear zv8
       have mx : Mod [] w9 v8 := mv7.trans mv8 (by intro i hi h; simp at h; omega)
       obtain ⟨b9, hb9⟩ : ∃ b, b = w9.heap.size := ⟨_, rfl⟩
       rw [← hb9] at hv8 ⊢
       have HK := Lib.hid (And.intro (kk.keep mx (by simp)) (And.intro (km.keep mx (by simp)) (And.intro (hO.keep mx (by simp)) (And.intro (mm.then mx) (And.intro (hb8.keep mx (by simp)) hv8)))))
       clear hv7 mv7 zv7 mv8 mx hb9 kk km hO mm hb8 hv8))
  simp only [Act.put, List.setIfInBounds_toArray, List.set_cons_succ, List.set_cons_zero]
  refine wp_region_lit1 [iv key, iv m, .slice A' 67 c', .pointer (some ⟨bk, 0, none⟩), .pointer (some ⟨bm, 0, none⟩), undef, .bool true, .pointer (some ⟨b7, 0, none⟩), .int .i64 0, .pointer (some ⟨b9, 0, none⟩), .bool true, .bool false, .slice Y 0 0, .slice A n cap, .slice A n cap, .int .i64 (n : Int), .int .i64 67, .slice A 67 cap, .slice A' 67 c', .tuple #[iv d, .int .i64 0], iv m, .slice A' 67 c', .tuple #[iv d, .int .i64 0], iv d, .int .i64 0, .slice A' 67 c', .int .i64 67, .bool false, undef, undef, undef, undef, undef, undef, undef, undef, undef, undef, undef, undef, undef, undef, iv m, .slice A' 67 c', iv d, .int .i64 0, .bool true, .bool true, iv d, iv d, .bool true, .bool true, .bool true, iv key, iv m, .slice A' 67 c', .bool bb, iv d, iv key, .bool bb, .bool true, .bool true] 62 [0, 1, 2, 3, 4, 5, 7, 8, 9, 10, 11, 12, 13, 14, 15, 16, 17, 18, 19, 20, 21, 22, 23, 24, 25, 26, 27, 28, 29, 30, 31, 32, 33, 34, 35, 36, 37, 38, 39, 40, 41, 42, 43, 44]
    (fun lz v => Mod [] v8.drew v) []
    (by kernel_rfl) rfl rfl rfl rfl (Mod.refl _ _) (by kernel_rfl) (by kernel_rfl) ?step ?fin
  case step =>
    intro lz T v j o hj hlj hdep hst hpar hgot hcl Kq hK
    have mv : ∀ v, Mod [] v8.drew v → Mod [] v8 v := fun v h => (Mod.drew [] v8).then h
    have hjn : j < 18 := (Array.getElem?_eq_some_iff.1 hj).1
    obtain rfl | rfl | rfl | rfl | rfl | rfl | rfl | rfl | rfl | rfl | rfl | rfl | rfl | rfl | rfl | rfl | rfl | rfl : j = 0 ∨ j = 1 ∨ j = 2 ∨ j = 3 ∨ j = 4 ∨ j = 5 ∨ j = 6 ∨ j = 7 ∨ j = 8 ∨ j = 9 ∨ j = 10 ∨ j = 11 ∨ j = 12 ∨ j = 13 ∨ j = 14 ∨ j = 15 ∨ j = 16 ∨ j = 17 := by omega
    all_goals (have hj' := Option.some.inj (hj : some _ = some o); subst hj'; clear hj)
    · exact wp_ran rfl (exec_move rfl (eval_tmp (hpar 8 (by simp)))) (hK _ _ (fun s hs => by cases hs; rfl) hst)
    · exact wp_ran rfl (exec_eqi32 rfl (eval_tmp (hgot 0 _ 45 rfl (hdep ⟨0, .data⟩ (by simp) rfl) rfl)) rfl) (hK _ _ (fun s hs => by cases hs; rfl) hst)
    · exact wp_ran rfl (exec_move rfl (eval_tmp (hgot 1 _ 46 rfl (hdep ⟨1, .data⟩ (by simp) rfl) rfl))) (hK _ _ (fun s hs => by cases hs; rfl) hst)
    · exact wp_ranW (wanted_yes rfl rfl rfl (hgot 2 _ 47 rfl (hdep ⟨2, .guard⟩ (by simp) rfl) rfl)) (exec_load rfl (eval_tmp (hpar 7 (by simp))) (run_loads (Cells.of_holds (HK.out.2.2.2.2.1.keep (mv v hst) (by simp))) Tryd.underlying25 rfl (size25i d))) (hK _ _ (fun s hs => by cases hs; rfl) hst)
    · exact wp_ranW (wanted_yes rfl rfl rfl (hgot 2 _ 47 rfl (hdep ⟨2, .guard⟩ (by simp) rfl) rfl)) (exec_load rfl (eval_tmp (hpar 9 (by simp))) (run_loads (Cells.of_holds (HK.out.2.2.2.2.2.keep (mv v hst) (by simp))) Tryd.underlying25 rfl (size25i d))) (hK _ _ (fun s hs => by cases hs; rfl) hst)
    · exact wp_ranW (wanted_yes rfl rfl rfl (hgot 2 _ 47 rfl (hdep ⟨2, .guard⟩ (by simp) rfl) rfl)) (exec_eq25s rfl (eval_tmp (hgot 3 _ 48 rfl (hdep ⟨3, .data⟩ (by simp) rfl) rfl)) (eval_tmp (hgot 4 _ 49 rfl (hdep ⟨4, .data⟩ (by simp) rfl) rfl))) (hK _ _ (fun s hs => by cases hs; rfl) hst)
    · exact wp_ran rfl (exec_pick rfl (eval_tmp (hgot 2 _ 47 rfl (hdep ⟨2, .data⟩ (by simp) rfl) rfl)) (eval_tmp (hgot 5 _ 50 rfl (hdep ⟨5, .data⟩ (by simp) rfl) rfl)) rfl rfl) (hK _ _ (fun s hs => by cases hs; rfl) hst)
    · exact wp_ran rfl (exec_move rfl (eval_tmp (hgot 6 _ 51 rfl (hdep ⟨6, .data⟩ (by simp) rfl) rfl))) (hK _ _ (fun s hs => by cases hs; rfl) hst)
    · exact wp_ranW (wanted_yes rfl rfl rfl (hgot 7 _ 52 rfl (hdep ⟨7, .guard⟩ (by simp) rfl) rfl)) (exec_load rfl (eval_tmp (hpar 3 (by simp))) (run_loads (Cells.of_holds (HK.out.1.keep (mv v hst) (by simp))) Tryd.underlying25 rfl (size25i key))) (hK _ _ (fun s hs => by cases hs; rfl) hst)
    · exact wp_ranW (wanted_yes rfl rfl rfl (hgot 7 _ 52 rfl (hdep ⟨7, .guard⟩ (by simp) rfl) rfl)) (exec_load rfl (eval_tmp (hpar 4 (by simp))) (run_loads (Cells.of_holds (HK.out.2.1.keep (mv v hst) (by simp))) Tryd.underlying25 rfl (size25i m))) (hK _ _ (fun s hs => by cases hs; rfl) hst)
    · exact wp_ranW (wanted_yes rfl rfl rfl (hgot 7 _ 52 rfl (hdep ⟨7, .guard⟩ (by simp) rfl) rfl)) (exec_move rfl (eval_tmp (hpar 2 (by simp)))) (hK _ _ (fun s hs => by cases hs; rfl) hst)
    · exact wp_calledW (wanted_yes rfl rfl rfl (hgot 7 _ 52 rfl (hdep ⟨7, .guard⟩ (by simp) rfl) rfl)) (exec_call3 rfl rfl (eval_tmp (hgot 8 _ 53 rfl (hdep ⟨8, .data⟩ (by simp) rfl) rfl)) (eval_tmp (hgot 9 _ 54 rfl (hdep ⟨9, .data⟩ (by simp) rfl) rfl)) (eval_tmp (hgot 10 _ 55 rfl (hdep ⟨10, .data⟩ (by simp) rfl) rfl)) (enters_of Tryd.func26 (by kernel_rfl) rfl)) ((V v (HK.out.2.2.2.1.then (mv v hst)) A' c' (HK.out.2.2.1.keep (mv v hst) (by simp))).mono (fun e v' hh => ⟨_, hh.1, hK _ _ (fun s hs => by cases hs; rfl) (hst.then hh.2)⟩))
    · exact wp_ranW (wanted_yes rfl rfl rfl (hgot 7 _ 52 rfl (hdep ⟨7, .guard⟩ (by simp) rfl) rfl)) (exec_load rfl (eval_tmp (hpar 9 (by simp))) (run_loads (Cells.of_holds (HK.out.2.2.2.2.2.keep (mv v hst) (by simp))) Tryd.underlying25 rfl (size25i d))) (hK _ _ (fun s hs => by cases hs; rfl) hst)
    · exact wp_ranW (wanted_yes rfl rfl rfl (hgot 7 _ 52 rfl (hdep ⟨7, .guard⟩ (by simp) rfl) rfl)) (exec_load rfl (eval_tmp (hpar 3 (by simp))) (run_loads (Cells.of_holds (HK.out.1.keep (mv v hst) (by simp))) Tryd.underlying25 rfl (size25i key))) (hK _ _ (fun s hs => by cases hs; rfl) hst)
    · exact wp_ranW (wanted_yes rfl rfl rfl (hgot 7 _ 52 rfl (hdep ⟨7, .guard⟩ (by simp) rfl) rfl)) (exec_eq25 rfl (eval_tmp (hgot 12 _ 57 rfl (hdep ⟨12, .data⟩ (by simp) rfl) rfl)) (eval_tmp (hgot 13 _ 58 rfl (hdep ⟨13, .data⟩ (by simp) rfl) rfl))) (hK _ _ (fun s hs => by cases hs; rw [← HB.out]; rfl) hst)
    · exact wp_ranW (wanted_yes rfl rfl rfl (hgot 7 _ 52 rfl (hdep ⟨7, .guard⟩ (by simp) rfl) rfl)) (exec_eqbs rfl (eval_tmp (hgot 11 _ 56 rfl (hdep ⟨11, .data⟩ (by simp) rfl) rfl)) (eval_tmp (hgot 14 _ 59 rfl (hdep ⟨14, .data⟩ (by simp) rfl) rfl))) (hK _ _ (fun s hs => by cases hs; rfl) hst)
    · exact wp_ran rfl (exec_pick rfl (eval_tmp (hgot 7 _ 52 rfl (hdep ⟨7, .data⟩ (by simp) rfl) rfl)) (eval_tmp (hgot 15 _ 60 rfl (hdep ⟨15, .data⟩ (by simp) rfl) rfl)) rfl rfl) (hK _ _ (fun s hs => by cases hs; rfl) hst)
    · exact wp_ran rfl (exec_assign rfl (eval_tmp (hgot 16 _ 61 rfl (hdep ⟨16, .data⟩ (by simp) rfl) rfl))) (hK _ _ (fun s hs => by cases hs; rfl) hst)
  case fin =>
    intro lz v hl hst
    have mv : Mod [] v8 v := (Mod.drew [] v8).then hst
    clear hl hst
    dsimp only
    go_wp2
    go_ret
    exact ⟨rfl, HK.out.2.2.2.1.then mv⟩
theorem long_w (L0 L1 : List UInt8) (A : Option Addr) (cap : Nat) (l : List Idv) (h0 : L0.length = 32) (h1 : L1.length = 32) (hl : l.length ≤ cap) (hm : cap ≤ maxLen) (w : World) (RA : Cells w A (l.flatMap ic)) (Gl : Glob w) :
    Calls Tryd.prog 6 #[.agg (L0.map oct).toArray, .agg (L1.map oct).toArray, .slice A l.length cap] w fun r w' => r = .returned (.bool true) ∧ Mod [] w w' := by
  obtain ⟨key, hx⟩ : ∃ x : Idv, x = ⟨L0, h0⟩ := ⟨_, rfl⟩
  obtain ⟨m, hmm⟩ : ∃ x : Idv, x = ⟨L1, h1⟩ := ⟨_, rfl⟩
  rw [show Value.agg (L0.map oct).toArray = iv key by rw [hx]; rfl, show Value.agg (L1.map oct).toArray = iv m by rw [hmm]; rfl]
  obtain ⟨j, hj⟩ : ∃ j, j = min l.length 80 := ⟨_, rfl⟩
  have hs : j = (l.take j).length := by rw [List.length_take]; omega
  have hm9 : maxLen ≤ 9223372036854775807 := by decide
  have RA' : Cells w A ((l.take j).flatMap ic) := by
    intro i hi
    have hl1 := flat_length ic 32 ic_length l
    have hl2 := flat_length ic 32 ic_length (l.take j)
    rw [hl2, ← hs] at hi
    obtain ⟨g, o, e, hc⟩ := RA i (by rw [hl1]; have : j ≤ l.length := by omega
                                     omega)
    refine ⟨g, o, e, ?_⟩
    rw [hc]
    congr 1
    have h3 : l.flatMap ic = (l.take j).flatMap ic ++ (l.drop j).flatMap ic := by rw [← List.flatMap_append, List.take_append_drop]
    have h4 : (l.flatMap ic)[i]? = ((l.take j).flatMap ic)[i]? := by rw [h3, List.getElem?_append_left (by rw [hl2, ← hs]; exact hi)]
    rw [List.getElem?_eq_getElem (by rw [hl1]; have : j ≤ l.length := by omega
                                     omega), List.getElem?_eq_getElem (by rw [hl2, ← hs]; exact hi)] at h4
    exact Option.some.inj h4
  by_cases h67 : j = 67
  · exact long_yes key m A l.length cap j (l.take j) hj hs (by omega) (by omega) (by omega) h67 w Gl RA'
  · exact long_no key m A l.length cap j (l.take j) hj hs (by omega) (by omega) (by omega) h67 w Gl RA'
end Go.Proofs.YtdolihecjomjiaaDoor
