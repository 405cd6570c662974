/-
  MerkleBack: the walk. My own work.
-/
import Derived.Test.YtbacmeaeehhhfaaDoorOh
import Derived.Test.YtbacmeaeehhhfaaDoorMj
import Derived.Test.YtbacmeaeehhhfaaDoorMw
namespace Go.Proofs.YtbacmeaeehhhfaaDoor
open Go.RowKit Go.Shelf
set_option linter.unusedVariables false
set_option linter.unusedSimpArgs false
theorem exec_remV {v : World} {o : Oper} {ρ : Operand → Value} {x y : Operand} {u : Int} {k n : Nat} (h0 : 0 ≤ u) (hk : k ≠ 0) (hn : (n : Int) = u % (k : Int)) (ho : o.op = .binOp .rem 73 x y 73) (hx : ρ x = .int .u64 u) (hy : ρ y = .int .u64 (k : Int)) : (execOp ρ o).run Tryd.prog v = .ok (.value (.int .u64 (n : Int))) v := by
  have h : u.tmod (k : Int) = (n : Int) := by rw [Int.tmod_eq_emod_of_nonneg h0, hn]
  have hk' : ¬ ((k : Int) = 0) := by omega
  unfold execOp
  simp [ho, hx, hy, go_sem, hk]
  exact h
theorem exec_conv2k {v : World} {o : Oper} {ρ : Operand → Value} {x : Operand} {n : Nat} (hn : n < 100000) (ho : o.op = .convert 73 3 x) (hx : ρ x = .int .u64 (n : Int)) : (execOp ρ o).run Tryd.prog v = .ok (.value (.int .i64 (n : Int))) v := by
  have h2 : IntKind.i64.wrap (n : Int) = (n : Int) := IntWalk.i64_in _ (by omega)
  unfold execOp
  simp [ho, hx, go_sem]
  exact h2
theorem Decode_enc (k : Nat) (hk : k < 8) (l m : List Idv) (hl : l.length = 67) (hm : m.length = 3) (A : Option Addr) (c s : Nat) (w : World) (O : Owns w s 5 A c (sgB k l m)) :
    Calls Tryd.prog 34 #[.slice A 2241 c] w fun r w' => ∃ A cA B cB, r = .returned (.tuple #[.agg (sgc (k : Int) A 67 cA B 3 cB).toArray, .int .i64 0]) ∧ OwnG ic 23 32 w' A cA l ∧ OwnG ic 23 32 w' B cB m ∧ Mod [] w w' := by
  have hL : (sgB k l m).length = 2241 := by rw [sgB_length, hl, hm]
  obtain ⟨f1, _, f3⟩ := O.fits
  obtain ⟨g, o, hA, _⟩ := O.reads 0 (by rw [hL]; decide)
  subst hA
  have hx : (UInt8.ofNat k).toNat = k := by simp; omega
  have hbs : (flatI l ++ flatI m).length = 2240 := by have := hL; unfold sgB at this; simp only [List.length_cons] at this; omega
  have := Decode_yes g o c (UInt8.ofNat k) (flatI l ++ flatI m) (by rw [hx]; exact hk) hbs (by omega) w O.reads (f3 _ rfl).2
  rw [hx, enc_take k l m hl, enc_drop k l m hl] at this
  have u1 : unI (flatI l) 67 = l := by have := unI_flat l; rwa [hl] at this
  have u2 : unI (flatI m) 3 = m := by have := unI_flat m; rwa [hm] at this
  rw [u1, u2] at this
  refine this.mono ?_
  rintro e w' ⟨A, cA, B, cB, h1, h2, h3, h4, _⟩
  exact ⟨A, cA, B, cB, h1, h2, h3, h4⟩
set_option maxRecDepth 100000 in
set_option maxHeartbeats 4000000 in
theorem back_no_short (A : Option Addr) (nl c : Nat) (l : List Idv) (B : Option Addr) (nm d : Nat) (m : List Idv) (hl : nl = l.length) (hm : nm = m.length) (hc : nl ≤ c) (hd : nm ≤ d) (w : World) (Gl : Glob w) (RA : Cells w A (l.flatMap ic)) (RB : Cells w B (m.flatMap ic)) (i : Int) (n1 n2 : Nat) (hn1 : n1 = (l.take 70).length) (hn2 : n2 = (m.take 5).length) (hno : mayB i n1 n2 = false) (D : Option Addr) (n cb nb : Nat) (hnb : (nb : Int) = min (n : Int) 2300) (hcb : nb ≤ cb) (hs : nb < 2241) (z : Int) :
    Calls Tryd.prog 9 #[.agg (sgc i A nl c B nm d).toArray, .slice D n cb, .int .i64 z] w fun r w' => r = .returned (.bool true) ∧ Mod [] w w' := by
  have WK := fun v (mv : Mod [] w v) => wakes_c v (Gl.then mv)
  have SI := fun v (mv : Mod [] w v) => signed_c i A nl c l B nm d m n1 n2 hl hm hn1 hn2 hc hd v (RA.keep mv (by simp)) (RB.keep mv (by simp))
  have HN := Lib.hid hno
  clear hn1 hn2 hno
  have HB := Lib.hid (And.intro hnb hcb)
  have DD := fun v => Decode_short D nb cb hs v
  clear hs
  clear hnb hcb hl hm hc hd RA RB Gl
  go_enter Tryd.func9, Tryd.ntmps9
  go_wp2_with (first
    | (with_reducible refine wpList_boxes (o := ⟨some 3, .box 50 (.tmp 0), _, _, _, _⟩) rfl 50 (.tmp 0) rfl _ rfl (sgc i A nl c B nm d) rfl ?_; intro w1 h3 mm z1
       obtain ⟨b3, hq3⟩ : ∃ q, q = w.heap.size := ⟨_, rfl⟩
       rw [← hq3] at h3 ⊢
       clear z1 hq3)
    | (go_at_call 10; with_reducible refine Calls.mono (WK _ mm) ?_
       rintro e w2 ⟨rfl, m2⟩
       replace h3 := h3.keep m2 (by simp)
       replace mm := mm.then m2
       clear m2)
    | (with_reducible refine wpList_loads (o := ⟨some 18, .load 50 (.tmp 3), _, _, _, _⟩) rfl 50 (.tmp 3) rfl b3 0 _ rfl (Cells.of_holds h3) _ Tryd.underlying50 rfl (size50s _ _ _ _ _ _ _) (.agg (sgc i A nl c B nm d).toArray) rfl ?_)
    | (go_at_call 29; with_reducible refine Calls.mono (SI _ mm) ?_
       rintro e w3 ⟨A1, c1, B1, d1, rfl, O1, P1, m3, _, _⟩
       replace h3 := h3.keep m3 (by simp)
       replace mm := mm.then m3
       clear m3)
    | (with_reducible refine wpList_allocs (o := ⟨some 7, .alloc 50, _, _, _, _⟩) rfl 50 rfl _ zero50 ?_; intro y7 hy7 my7 zy7)
    | (with_reducible refine wpList_storesAll (o := ⟨none, .store 50 (.tmp 7) (.tmp 19), _, _, _, _⟩) rfl 50 (.tmp 7) (.tmp 19) rfl rfl w3.heap.size (sgc i A1 n1 c1 B1 n2 d1) rfl (.agg (sgc i A1 n1 c1 B1 n2 d1).toArray) rfl rfl 50 _ hy7 rfl (sgc_one _ _ _ _ _ _ _) (size50s _ _ _ _ _ _ _) ?_
       intro w4 h7 m7 z7
       have mx : Mod [] w3 w4 := my7.trans m7 (by intro i hi h; simp at h; omega)
       replace O1 := O1.keep mx (by simp)
       replace P1 := P1.keep mx (by simp)
       replace mm := mm.then mx
       obtain ⟨b7, hq7⟩ : ∃ q, q = w3.heap.size := ⟨_, rfl⟩
       rw [← hq7] at h7 ⊢
       clear hy7 my7 zy7 m7 z7 mx hq7)
    | (with_reducible refine wpList_loads (o := ⟨some 21, .load 50 (.tmp 7), _, _, _, _⟩) rfl 50 (.tmp 7) rfl b7 0 _ rfl (Cells.of_holds h7) _ Tryd.underlying50 rfl (size50s _ _ _ _ _ _ _) (.agg (sgc i A1 n1 c1 B1 n2 d1).toArray) rfl ?_)
    | (go_at_call 30; with_reducible refine Calls.mono (Encode_no i A1 n1 c1 B1 n2 d1 HN.out w4) ?_
       rintro e w5 ⟨rfl, m5⟩
       replace mm := mm.then m5
       clear m5)
    | (with_reducible refine wpList_ranW (o := ⟨some 58, .call _, _, _, _, _⟩) (by with_unfolding_all rfl) (.int .i64 (nb : Int)) _ (exec_min rfl rfl rfl HB.out.1) ?_)
    | (with_reducible refine wpList_ranW (o := ⟨some 59, .slice _ _ _ _ _, _, _, _, _⟩) (by with_unfolding_all rfl) (.slice D nb cb) _ (exec_upto Tryd.underlying64 u8_one HB.out.2 rfl rfl rfl) ?_)
    | (go_at_call 34; with_reducible refine Calls.mono (DD w5) ?_
       rintro e wb ⟨rfl, mb⟩
       replace mm := mm.then mb
       clear mb)
    | (with_reducible refine wpList_allocs (o := ⟨some 14, .alloc 50, _, _, _, _⟩) rfl 50 rfl _ zero50 ?_; intro y14 hy14 my14 zy14)
    | (with_reducible refine wpList_storesAll (o := ⟨none, .store 50 (.tmp 14) (.tmp 63), _, _, _, _⟩) rfl 50 (.tmp 14) (.tmp 63) rfl rfl wb.heap.size (sgc 0 none 0 0 none 0 0) rfl (.agg (sgc 0 none 0 0 none 0 0).toArray) rfl rfl 50 _ hy14 rfl (sgc_one _ _ _ _ _ _ _) (size50s _ _ _ _ _ _ _) ?_
       intro wc h14 m14 z14
       have mx : Mod [] wb wc := my14.trans m14 (by intro i hi h; simp at h; omega)
       replace mm := mm.then mx
       obtain ⟨b14, hq14⟩ : ∃ q, q = wb.heap.size := ⟨_, rfl⟩
       rw [← hq14] at h14 ⊢
       clear hy14 my14 zy14 m14 z14 mx hq14)
    | (with_reducible refine wpList_loads (o := ⟨some 67, .load 50 (.tmp 14), _, _, _, _⟩) rfl 50 (.tmp 14) rfl b14 0 _ rfl (Cells.of_holds h14) _ Tryd.underlying50 rfl (size50s _ _ _ _ _ _ _) (.agg (sgc 0 none 0 0 none 0 0).toArray) rfl ?_)
    | (with_reducible refine wpList_ranW (o := ⟨some 68, .build 50 _, _, _, _, _⟩) (by with_unfolding_all rfl) (.agg (sgc 0 none 0 0 none 0 0).toArray) _ (exec_build50z rfl) ?_)
    | (go_at_call 24; with_reducible refine Calls.mono (same_c 0 [] [] none none none none 0 0 0 0 0 0 rfl rfl (by decide) (by decide) wc (Cells.nil _ _) (Cells.nil _ _) (Cells.nil _ _) (Cells.nil _ _)) ?_
       rintro e wd ⟨rfl, md⟩
       replace mm := mm.then md
       clear md))
  go_ret
  exact ⟨rfl, mm⟩
set_option maxRecDepth 100000 in
set_option maxHeartbeats 4000000 in
theorem back_no_long (A : Option Addr) (nl c : Nat) (l : List Idv) (B : Option Addr) (nm d : Nat) (m : List Idv) (hl : nl = l.length) (hm : nm = m.length) (hc : nl ≤ c) (hd : nm ≤ d) (w : World) (Gl : Glob w) (RA : Cells w A (l.flatMap ic)) (RB : Cells w B (m.flatMap ic)) (i : Int) (n1 n2 : Nat) (hn1 : n1 = (l.take 70).length) (hn2 : n2 = (m.take 5).length) (hno : mayB i n1 n2 = false) (D : Option Addr) (n cb nb : Nat) (hnb : (nb : Int) = min (n : Int) 2300) (hcb : nb ≤ cb) (hs : 2241 < nb) (z : Int) :
    Calls Tryd.prog 9 #[.agg (sgc i A nl c B nm d).toArray, .slice D n cb, .int .i64 z] w fun r w' => r = .returned (.bool true) ∧ Mod [] w w' := by
  have WK := fun v (mv : Mod [] w v) => wakes_c v (Gl.then mv)
  have SI := fun v (mv : Mod [] w v) => signed_c i A nl c l B nm d m n1 n2 hl hm hn1 hn2 hc hd v (RA.keep mv (by simp)) (RB.keep mv (by simp))
  have HN := Lib.hid hno
  clear hn1 hn2 hno
  have HB := Lib.hid (And.intro hnb hcb)
  have DD := fun v => Decode_long D nb cb hs v
  clear hs
  clear hnb hcb hl hm hc hd RA RB Gl
  go_enter Tryd.func9, Tryd.ntmps9
  go_wp2_with (first
    | (with_reducible refine wpList_boxes (o := ⟨some 3, .box 50 (.tmp 0), _, _, _, _⟩) rfl 50 (.tmp 0) rfl _ rfl (sgc i A nl c B nm d) rfl ?_; intro w1 h3 mm z1
       obtain ⟨b3, hq3⟩ : ∃ q, q = w.heap.size := ⟨_, rfl⟩
       rw [← hq3] at h3 ⊢
       clear z1 hq3)
    | (go_at_call 10; with_reducible refine Calls.mono (WK _ mm) ?_
       rintro e w2 ⟨rfl, m2⟩
       replace h3 := h3.keep m2 (by simp)
       replace mm := mm.then m2
       clear m2)
    | (with_reducible refine wpList_loads (o := ⟨some 18, .load 50 (.tmp 3), _, _, _, _⟩) rfl 50 (.tmp 3) rfl b3 0 _ rfl (Cells.of_holds h3) _ Tryd.underlying50 rfl (size50s _ _ _ _ _ _ _) (.agg (sgc i A nl c B nm d).toArray) rfl ?_)
    | (go_at_call 29; with_reducible refine Calls.mono (SI _ mm) ?_
       rintro e w3 ⟨A1, c1, B1, d1, rfl, O1, P1, m3, _, _⟩
       replace h3 := h3.keep m3 (by simp)
       replace mm := mm.then m3
       clear m3)
    | (with_reducible refine wpList_allocs (o := ⟨some 7, .alloc 50, _, _, _, _⟩) rfl 50 rfl _ zero50 ?_; intro y7 hy7 my7 zy7)
    | (with_reducible refine wpList_storesAll (o := ⟨none, .store 50 (.tmp 7) (.tmp 19), _, _, _, _⟩) rfl 50 (.tmp 7) (.tmp 19) rfl rfl w3.heap.size (sgc i A1 n1 c1 B1 n2 d1) rfl (.agg (sgc i A1 n1 c1 B1 n2 d1).toArray) rfl rfl 50 _ hy7 rfl (sgc_one _ _ _ _ _ _ _) (size50s _ _ _ _ _ _ _) ?_
       intro w4 h7 m7 z7
       have mx : Mod [] w3 w4 := my7.trans m7 (by intro i hi h; simp at h; omega)
       replace O1 := O1.keep mx (by simp)
       replace P1 := P1.keep mx (by simp)
       replace mm := mm.then mx
       obtain ⟨b7, hq7⟩ : ∃ q, q = w3.heap.size := ⟨_, rfl⟩
       rw [← hq7] at h7 ⊢
       clear hy7 my7 zy7 m7 z7 mx hq7)
    | (with_reducible refine wpList_loads (o := ⟨some 21, .load 50 (.tmp 7), _, _, _, _⟩) rfl 50 (.tmp 7) rfl b7 0 _ rfl (Cells.of_holds h7) _ Tryd.underlying50 rfl (size50s _ _ _ _ _ _ _) (.agg (sgc i A1 n1 c1 B1 n2 d1).toArray) rfl ?_)
    | (go_at_call 30; with_reducible refine Calls.mono (Encode_no i A1 n1 c1 B1 n2 d1 HN.out w4) ?_
       rintro e w5 ⟨rfl, m5⟩
       replace mm := mm.then m5
       clear m5)
    | (with_reducible refine wpList_ranW (o := ⟨some 58, .call _, _, _, _, _⟩) (by with_unfolding_all rfl) (.int .i64 (nb : Int)) _ (exec_min rfl rfl rfl HB.out.1) ?_)
    | (with_reducible refine wpList_ranW (o := ⟨some 59, .slice _ _ _ _ _, _, _, _, _⟩) (by with_unfolding_all rfl) (.slice D nb cb) _ (exec_upto Tryd.underlying64 u8_one HB.out.2 rfl rfl rfl) ?_)
    | (go_at_call 34; with_reducible refine Calls.mono (DD w5) ?_
       rintro e wb ⟨rfl, mb⟩
       replace mm := mm.then mb
       clear mb)
    | (with_reducible refine wpList_allocs (o := ⟨some 14, .alloc 50, _, _, _, _⟩) rfl 50 rfl _ zero50 ?_; intro y14 hy14 my14 zy14)
    | (with_reducible refine wpList_storesAll (o := ⟨none, .store 50 (.tmp 14) (.tmp 63), _, _, _, _⟩) rfl 50 (.tmp 14) (.tmp 63) rfl rfl wb.heap.size (sgc 0 none 0 0 none 0 0) rfl (.agg (sgc 0 none 0 0 none 0 0).toArray) rfl rfl 50 _ hy14 rfl (sgc_one _ _ _ _ _ _ _) (size50s _ _ _ _ _ _ _) ?_
       intro wc h14 m14 z14
       have mx : Mod [] wb wc := my14.trans m14 (by intro i hi h; simp at h; omega)
       replace mm := mm.then mx
       obtain ⟨b14, hq14⟩ : ∃ q, q = wb.heap.size := ⟨_, rfl⟩
       rw [← hq14] at h14 ⊢
       clear hy14 my14 zy14 m14 z14 mx hq14)
    | (with_reducible refine wpList_loads (o := ⟨some 67, .load 50 (.tmp 14), _, _, _, _⟩) rfl 50 (.tmp 14) rfl b14 0 _ rfl (Cells.of_holds h14) _ Tryd.underlying50 rfl (size50s _ _ _ _ _ _ _) (.agg (sgc 0 none 0 0 none 0 0).toArray) rfl ?_)
    | (with_reducible refine wpList_ranW (o := ⟨some 68, .build 50 _, _, _, _, _⟩) (by with_unfolding_all rfl) (.agg (sgc 0 none 0 0 none 0 0).toArray) _ (exec_build50z rfl) ?_)
    | (go_at_call 24; with_reducible refine Calls.mono (same_c 0 [] [] none none none none 0 0 0 0 0 0 rfl rfl (by decide) (by decide) wc (Cells.nil _ _) (Cells.nil _ _) (Cells.nil _ _) (Cells.nil _ _)) ?_
       rintro e wd ⟨rfl, md⟩
       replace mm := mm.then md
       clear md))
  go_ret
  exact ⟨rfl, mm⟩
set_option maxRecDepth 100000 in
set_option maxHeartbeats 4000000 in
theorem back_no_leaf (A : Option Addr) (nl c : Nat) (l : List Idv) (B : Option Addr) (nm d : Nat) (m : List Idv) (hl : nl = l.length) (hm : nm = m.length) (hc : nl ≤ c) (hd : nm ≤ d) (w : World) (Gl : Glob w) (RA : Cells w A (l.flatMap ic)) (RB : Cells w B (m.flatMap ic)) (i : Int) (n1 n2 : Nat) (hn1 : n1 = (l.take 70).length) (hn2 : n2 = (m.take 5).length) (hno : mayB i n1 n2 = false) (g o n cb : Nat) (x : UInt8) (bs : List UInt8) (hnb : (2241 : Int) = min (n : Int) 2300) (hcb : 2241 ≤ cb) (hx : 8 ≤ x.toNat) (R : Reads w (some ⟨g, o, none⟩) (x :: bs)) (z : Int) :
    Calls Tryd.prog 9 #[.agg (sgc i A nl c B nm d).toArray, .slice (some ⟨g, o, none⟩) n cb, .int .i64 z] w fun r w' => r = .returned (.bool true) ∧ Mod [] w w' := by
  have WK := fun v (mv : Mod [] w v) => wakes_c v (Gl.then mv)
  have SI := fun v (mv : Mod [] w v) => signed_c i A nl c l B nm d m n1 n2 hl hm hn1 hn2 hc hd v (RA.keep mv (by simp)) (RB.keep mv (by simp))
  have HN := Lib.hid hno
  clear hn1 hn2 hno
  have HB := Lib.hid (And.intro hnb hcb)
  have DD := fun v (mv : Mod [] w v) => Decode_leaf g o cb x bs hx v (R.keep mv (by simp))
  clear hx R
  clear hnb hcb hl hm hc hd RA RB Gl
  go_enter Tryd.func9, Tryd.ntmps9
  go_wp2_with (first
    | (with_reducible refine wpList_boxes (o := ⟨some 3, .box 50 (.tmp 0), _, _, _, _⟩) rfl 50 (.tmp 0) rfl _ rfl (sgc i A nl c B nm d) rfl ?_; intro w1 h3 mm z1
       obtain ⟨b3, hq3⟩ : ∃ q, q = w.heap.size := ⟨_, rfl⟩
       rw [← hq3] at h3 ⊢
       clear z1 hq3)
    | (go_at_call 10; with_reducible refine Calls.mono (WK _ mm) ?_
       rintro e w2 ⟨rfl, m2⟩
       replace h3 := h3.keep m2 (by simp)
       replace mm := mm.then m2
       clear m2)
    | (with_reducible refine wpList_loads (o := ⟨some 18, .load 50 (.tmp 3), _, _, _, _⟩) rfl 50 (.tmp 3) rfl b3 0 _ rfl (Cells.of_holds h3) _ Tryd.underlying50 rfl (size50s _ _ _ _ _ _ _) (.agg (sgc i A nl c B nm d).toArray) rfl ?_)
    | (go_at_call 29; with_reducible refine Calls.mono (SI _ mm) ?_
       rintro e w3 ⟨A1, c1, B1, d1, rfl, O1, P1, m3, _, _⟩
       replace h3 := h3.keep m3 (by simp)
       replace mm := mm.then m3
       clear m3)
    | (with_reducible refine wpList_allocs (o := ⟨some 7, .alloc 50, _, _, _, _⟩) rfl 50 rfl _ zero50 ?_; intro y7 hy7 my7 zy7)
    | (with_reducible refine wpList_storesAll (o := ⟨none, .store 50 (.tmp 7) (.tmp 19), _, _, _, _⟩) rfl 50 (.tmp 7) (.tmp 19) rfl rfl w3.heap.size (sgc i A1 n1 c1 B1 n2 d1) rfl (.agg (sgc i A1 n1 c1 B1 n2 d1).toArray) rfl rfl 50 _ hy7 rfl (sgc_one _ _ _ _ _ _ _) (size50s _ _ _ _ _ _ _) ?_
       intro w4 h7 m7 z7
       have mx : Mod [] w3 w4 := my7.trans m7 (by intro i hi h; simp at h; omega)
       replace O1 := O1.keep mx (by simp)
       replace P1 := P1.keep mx (by simp)
       replace mm := mm.then mx
       obtain ⟨b7, hq7⟩ : ∃ q, q = w3.heap.size := ⟨_, rfl⟩
       rw [← hq7] at h7 ⊢
       clear hy7 my7 zy7 m7 z7 mx hq7)
    | (with_reducible refine wpList_loads (o := ⟨some 21, .load 50 (.tmp 7), _, _, _, _⟩) rfl 50 (.tmp 7) rfl b7 0 _ rfl (Cells.of_holds h7) _ Tryd.underlying50 rfl (size50s _ _ _ _ _ _ _) (.agg (sgc i A1 n1 c1 B1 n2 d1).toArray) rfl ?_)
    | (go_at_call 30; with_reducible refine Calls.mono (Encode_no i A1 n1 c1 B1 n2 d1 HN.out w4) ?_
       rintro e w5 ⟨rfl, m5⟩
       replace mm := mm.then m5
       clear m5)
    | (with_reducible refine wpList_ranW (o := ⟨some 58, .call _, _, _, _, _⟩) (by with_unfolding_all rfl) (.int .i64 2241) _ (exec_min rfl rfl rfl HB.out.1) ?_)
    | (with_reducible refine wpList_ranW (o := ⟨some 59, .slice _ _ _ _ _, _, _, _, _⟩) (by with_unfolding_all rfl) (.slice (some ⟨g, o, none⟩) 2241 cb) _ (exec_upto Tryd.underlying64 u8_one HB.out.2 rfl rfl rfl) ?_)
    | (go_at_call 34; with_reducible refine Calls.mono (DD w5 mm) ?_
       rintro e wb ⟨rfl, mb⟩
       replace mm := mm.then mb
       clear mb)
    | (with_reducible refine wpList_allocs (o := ⟨some 14, .alloc 50, _, _, _, _⟩) rfl 50 rfl _ zero50 ?_; intro y14 hy14 my14 zy14)
    | (with_reducible refine wpList_storesAll (o := ⟨none, .store 50 (.tmp 14) (.tmp 63), _, _, _, _⟩) rfl 50 (.tmp 14) (.tmp 63) rfl rfl wb.heap.size (sgc 0 none 0 0 none 0 0) rfl (.agg (sgc 0 none 0 0 none 0 0).toArray) rfl rfl 50 _ hy14 rfl (sgc_one _ _ _ _ _ _ _) (size50s _ _ _ _ _ _ _) ?_
       intro wc h14 m14 z14
       have mx : Mod [] wb wc := my14.trans m14 (by intro i hi h; simp at h; omega)
       replace mm := mm.then mx
       obtain ⟨b14, hq14⟩ : ∃ q, q = wb.heap.size := ⟨_, rfl⟩
       rw [← hq14] at h14 ⊢
       clear hy14 my14 zy14 m14 z14 mx hq14)
    | (with_reducible refine wpList_loads (o := ⟨some 67, .load 50 (.tmp 14), _, _, _, _⟩) rfl 50 (.tmp 14) rfl b14 0 _ rfl (Cells.of_holds h14) _ Tryd.underlying50 rfl (size50s _ _ _ _ _ _ _) (.agg (sgc 0 none 0 0 none 0 0).toArray) rfl ?_)
    | (with_reducible refine wpList_ranW (o := ⟨some 68, .build 50 _, _, _, _, _⟩) (by with_unfolding_all rfl) (.agg (sgc 0 none 0 0 none 0 0).toArray) _ (exec_build50z rfl) ?_)
    | (go_at_call 24; with_reducible refine Calls.mono (same_c 0 [] [] none none none none 0 0 0 0 0 0 rfl rfl (by decide) (by decide) wc (Cells.nil _ _) (Cells.nil _ _) (Cells.nil _ _) (Cells.nil _ _)) ?_
       rintro e wd ⟨rfl, md⟩
       replace mm := mm.then md
       clear md))
  go_ret
  exact ⟨rfl, mm⟩
set_option maxRecDepth 100000 in
set_option maxHeartbeats 4000000 in
theorem back_no_yes (A : Option Addr) (nl c : Nat) (l : List Idv) (B : Option Addr) (nm d : Nat) (m : List Idv) (hl : nl = l.length) (hm : nm = m.length) (hc : nl ≤ c) (hd : nm ≤ d) (w : World) (Gl : Glob w) (RA : Cells w A (l.flatMap ic)) (RB : Cells w B (m.flatMap ic)) (i : Int) (n1 n2 : Nat) (hn1 : n1 = (l.take 70).length) (hn2 : n2 = (m.take 5).length) (hno : mayB i n1 n2 = false) (g o n cb : Nat) (x : UInt8) (bs : List UInt8) (hnb : (2241 : Int) = min (n : Int) 2300) (hcb : 2241 ≤ cb) (hx : x.toNat < 8) (hbs : bs.length = 2240) (R : Reads w (some ⟨g, o, none⟩) (x :: bs)) (hg : g < w.heap.size) (z : Int) :
    Calls Tryd.prog 9 #[.agg (sgc i A nl c B nm d).toArray, .slice (some ⟨g, o, none⟩) n cb, .int .i64 z] w fun r w' => r = .returned (.bool true) ∧ Mod [] w w' := by
  have WK := fun v (mv : Mod [] w v) => wakes_c v (Gl.then mv)
  have SI := fun v (mv : Mod [] w v) => signed_c i A nl c l B nm d m n1 n2 hl hm hn1 hn2 hc hd v (RA.keep mv (by simp)) (RB.keep mv (by simp))
  have HN := Lib.hid hno
  clear hn1 hn2 hno
  have HB := Lib.hid (And.intro hnb hcb)
  have DD := fun v (mv : Mod [] w v) => Decode_yes g o cb x bs hx hbs hcb v (R.keep mv (by simp)) (Nat.lt_of_lt_of_le hg mv.size)
  have EZ := fun A8 c8 B8 d8 v => Encode_yes x.toNat hx A8 c8 B8 d8 (unI (bs.take 2144) 67) (unI (bs.drop 2144) 3) (unI_length _ _) (unI_length _ _) v
  have BE := fun Z cz v (mv : Mod [] w v) h => beq_n Z (some ⟨g, o, none⟩) (x :: bs) (x :: bs) 2241 2241 cz cb v (by rw [List.length_cons, hbs]) (by rw [List.length_cons, hbs]) h (R.keep mv (by simp))
  rw [sgB_back x bs hbs] at EZ
  rw [decide_eq_true rfl] at BE
  obtain ⟨L1, hL1⟩ : ∃ q, q = unI (bs.take 2144) 67 := ⟨_, rfl⟩
  obtain ⟨L2, hL2⟩ : ∃ q, q = unI (bs.drop 2144) 3 := ⟨_, rfl⟩
  obtain ⟨kx, hkx⟩ : ∃ q, q = x.toNat := ⟨_, rfl⟩
  rw [← hL1, ← hL2, ← hkx] at DD EZ
  obtain ⟨xs, hxs⟩ : ∃ q, q = x :: bs := ⟨_, rfl⟩
  rw [← hxs] at EZ BE
  clear hx hbs R hg hL1 hL2 hkx hxs
  clear hnb hcb hl hm hc hd RA RB Gl
  go_enter Tryd.func9, Tryd.ntmps9
  go_wp2_with (first
    | (with_reducible refine wpList_boxes (o := ⟨some 3, .box 50 (.tmp 0), _, _, _, _⟩) rfl 50 (.tmp 0) rfl _ rfl (sgc i A nl c B nm d) rfl ?_; intro w1 h3 mm z1
       obtain ⟨b3, hq3⟩ : ∃ q, q = w.heap.size := ⟨_, rfl⟩
       rw [← hq3] at h3 ⊢
       clear z1 hq3)
    | (go_at_call 10; with_reducible refine Calls.mono (WK _ mm) ?_
       rintro e w2 ⟨rfl, m2⟩
       replace h3 := h3.keep m2 (by simp)
       replace mm := mm.then m2
       clear m2)
    | (with_reducible refine wpList_loads (o := ⟨some 18, .load 50 (.tmp 3), _, _, _, _⟩) rfl 50 (.tmp 3) rfl b3 0 _ rfl (Cells.of_holds h3) _ Tryd.underlying50 rfl (size50s _ _ _ _ _ _ _) (.agg (sgc i A nl c B nm d).toArray) rfl ?_)
    | (go_at_call 29; with_reducible refine Calls.mono (SI _ mm) ?_
       rintro e w3 ⟨A1, c1, B1, d1, rfl, O1, P1, m3, _, _⟩
       replace h3 := h3.keep m3 (by simp)
       replace mm := mm.then m3
       clear m3)
    | (with_reducible refine wpList_allocs (o := ⟨some 7, .alloc 50, _, _, _, _⟩) rfl 50 rfl _ zero50 ?_; intro y7 hy7 my7 zy7)
    | (with_reducible refine wpList_storesAll (o := ⟨none, .store 50 (.tmp 7) (.tmp 19), _, _, _, _⟩) rfl 50 (.tmp 7) (.tmp 19) rfl rfl w3.heap.size (sgc i A1 n1 c1 B1 n2 d1) rfl (.agg (sgc i A1 n1 c1 B1 n2 d1).toArray) rfl rfl 50 _ hy7 rfl (sgc_one _ _ _ _ _ _ _) (size50s _ _ _ _ _ _ _) ?_
       intro w4 h7 m7 z7
       have mx : Mod [] w3 w4 := my7.trans m7 (by intro i hi h; simp at h; omega)
       replace O1 := O1.keep mx (by simp)
       replace P1 := P1.keep mx (by simp)
       replace mm := mm.then mx
       obtain ⟨b7, hq7⟩ : ∃ q, q = w3.heap.size := ⟨_, rfl⟩
       rw [← hq7] at h7 ⊢
       clear hy7 my7 zy7 m7 z7 mx hq7)
    | (with_reducible refine wpList_loads (o := ⟨some 21, .load 50 (.tmp 7), _, _, _, _⟩) rfl 50 (.tmp 7) rfl b7 0 _ rfl (Cells.of_holds h7) _ Tryd.underlying50 rfl (size50s _ _ _ _ _ _ _) (.agg (sgc i A1 n1 c1 B1 n2 d1).toArray) rfl ?_)
    | (go_at_call 30; with_reducible refine Calls.mono (Encode_no i A1 n1 c1 B1 n2 d1 HN.out w4) ?_
       rintro e w5 ⟨rfl, m5⟩
       replace mm := mm.then m5
       clear m5)
    | (with_reducible refine wpList_ranW (o := ⟨some 58, .call _, _, _, _, _⟩) (by with_unfolding_all rfl) (.int .i64 2241) _ (exec_min rfl rfl rfl HB.out.1) ?_)
    | (with_reducible refine wpList_ranW (o := ⟨some 59, .slice _ _ _ _ _, _, _, _, _⟩) (by with_unfolding_all rfl) (.slice (some ⟨g, o, none⟩) 2241 cb) _ (exec_upto Tryd.underlying64 u8_one HB.out.2 rfl rfl rfl) ?_)
    | (go_at_call 34; with_reducible refine Calls.mono (DD w5 mm) ?_
       rintro e wb ⟨A8, c8, B8, d8, rfl, O8, P8, mb, _, _⟩
       replace mm := mm.then mb
       clear mb)
    | (with_reducible refine wpList_allocs (o := ⟨some 14, .alloc 50, _, _, _, _⟩) rfl 50 rfl _ zero50 ?_; intro y14 hy14 my14 zy14)
    | (with_reducible refine wpList_storesAll (o := ⟨none, .store 50 (.tmp 14) (.tmp 63), _, _, _, _⟩) rfl 50 (.tmp 14) (.tmp 63) rfl rfl wb.heap.size (sgc (kx : Int) A8 67 c8 B8 3 d8) rfl (.agg (sgc (kx : Int) A8 67 c8 B8 3 d8).toArray) rfl rfl 50 _ hy14 rfl (sgc_one _ _ _ _ _ _ _) (size50s _ _ _ _ _ _ _) ?_
       intro wc h14 m14 z14
       have mx : Mod [] wb wc := my14.trans m14 (by intro i hi h; simp at h; omega)
       replace O8 := O8.keep mx (by simp)
       replace P8 := P8.keep mx (by simp)
       replace mm := mm.then mx
       obtain ⟨b14, hq14⟩ : ∃ q, q = wb.heap.size := ⟨_, rfl⟩
       rw [← hq14] at h14 ⊢
       clear hy14 my14 zy14 m14 z14 mx hq14)
    | (with_reducible refine wpList_loads (o := ⟨some 71, .load 50 (.tmp 14), _, _, _, _⟩) rfl 50 (.tmp 14) rfl b14 0 _ rfl (Cells.of_holds h14) _ Tryd.underlying50 rfl (size50s _ _ _ _ _ _ _) (.agg (sgc (kx : Int) A8 67 c8 B8 3 d8).toArray) rfl ?_)
    | (go_at_call 30; with_reducible refine Calls.mono (EZ A8 c8 B8 d8 wc O8.cells P8.cells O8.lt P8.lt) ?_
       rintro e wd ⟨Z, cz, rfl, OZ, md⟩
       replace mm := mm.then md
       clear md)
    | (go_at_call 32; with_reducible refine Calls.mono (BE Z cz wd mm OZ.reads) ?_
       rintro e we ⟨rfl, rfl⟩))
  go_ret
  exact ⟨rfl, mm⟩
set_option maxRecDepth 100000 in
set_option maxHeartbeats 4000000 in
theorem back_yes_short (A : Option Addr) (nl c : Nat) (l : List Idv) (B : Option Addr) (nm d : Nat) (m : List Idv) (hl : nl = l.length) (hm : nm = m.length) (hc : nl ≤ c) (hd : nm ≤ d) (w : World) (Gl : Glob w) (RA : Cells w A (l.flatMap ic)) (RB : Cells w B (m.flatMap ic)) (k : Nat) (hk : k < 8) (h67 : (l.take 70).length = 67) (h3 : (m.take 5).length = 3) (D : Option Addr) (n cb nb : Nat) (hnb : (nb : Int) = min (n : Int) 2300) (hcb : nb ≤ cb) (hs : nb < 2241) (z : Int) :
    Calls Tryd.prog 9 #[.agg (sgc (k : Int) A nl c B nm d).toArray, .slice D n cb, .int .i64 z] w fun r w' => r = .returned (.bool true) ∧ Mod [] w w' := by
  have WK := fun v (mv : Mod [] w v) => wakes_c v (Gl.then mv)
  have SI := fun v (mv : Mod [] w v) => signed_c (k : Int) A nl c l B nm d m 67 3 hl hm h67.symm h3.symm hc hd v (RA.keep mv (by simp)) (RB.keep mv (by simp))
  obtain ⟨l1, hl1⟩ : ∃ q, q = l.take 70 := ⟨_, rfl⟩
  obtain ⟨r1, hr1⟩ : ∃ q, q = m.take 5 := ⟨_, rfl⟩
  rw [← hl1] at SI h67
  rw [← hr1] at SI h3
  have HK := Lib.hid (And.intro hk (And.intro h67 (And.intro h3 trivial)))
  obtain ⟨u, hu⟩ : ∃ u, u = z % 18446744073709551616 := ⟨_, rfl⟩
  obtain ⟨t, ht⟩ : ∃ t : Nat, (t : Int) = u % ((2241 : Nat) : Int) := ⟨(u % 2241).toNat, by omega⟩
  have HU := Lib.hid (And.intro hu (And.intro (show 0 ≤ u by omega) (And.intro ht (show t < 2241 by omega))))
  clear hk h67 h3 hl1 hr1 hu ht
  have HB := Lib.hid (And.intro hnb hcb)
  have DD := fun v => Decode_short D nb cb hs v
  clear hs
  clear hnb hcb hl hm hc hd RA RB Gl
  go_enter Tryd.func9, Tryd.ntmps9
  go_wp2_with (first
    | (with_reducible refine wpList_boxes (o := ⟨some 3, .box 50 (.tmp 0), _, _, _, _⟩) rfl 50 (.tmp 0) rfl _ rfl (sgc (k : Int) A nl c B nm d) rfl ?_; intro w1 h3 mm z1
       obtain ⟨b3, hq3⟩ : ∃ q, q = w.heap.size := ⟨_, rfl⟩
       rw [← hq3] at h3 ⊢
       clear z1 hq3)
    | (go_at_call 10; with_reducible refine Calls.mono (WK _ mm) ?_
       rintro e w2 ⟨rfl, m2⟩
       replace h3 := h3.keep m2 (by simp)
       replace mm := mm.then m2
       clear m2)
    | (with_reducible refine wpList_loads (o := ⟨some 18, .load 50 (.tmp 3), _, _, _, _⟩) rfl 50 (.tmp 3) rfl b3 0 _ rfl (Cells.of_holds h3) _ Tryd.underlying50 rfl (size50s _ _ _ _ _ _ _) (.agg (sgc (k : Int) A nl c B nm d).toArray) rfl ?_)
    | (go_at_call 29; with_reducible refine Calls.mono (SI _ mm) ?_
       rintro e w3 ⟨A1, c1, B1, d1, rfl, O1, P1, m3, _, _⟩
       replace h3 := h3.keep m3 (by simp)
       replace mm := mm.then m3
       clear m3)
    | (with_reducible refine wpList_allocs (o := ⟨some 7, .alloc 50, _, _, _, _⟩) rfl 50 rfl _ zero50 ?_; intro y7 hy7 my7 zy7)
    | (with_reducible refine wpList_storesAll (o := ⟨none, .store 50 (.tmp 7) (.tmp 19), _, _, _, _⟩) rfl 50 (.tmp 7) (.tmp 19) rfl rfl w3.heap.size (sgc (k : Int) A1 67 c1 B1 3 d1) rfl (.agg (sgc (k : Int) A1 67 c1 B1 3 d1).toArray) rfl rfl 50 _ hy7 rfl (sgc_one _ _ _ _ _ _ _) (size50s _ _ _ _ _ _ _) ?_
       intro w4 h7 m7 z7
       have mx : Mod [] w3 w4 := my7.trans m7 (by intro i hi h; simp at h; omega)
       replace O1 := O1.keep mx (by simp)
       replace P1 := P1.keep mx (by simp)
       replace mm := mm.then mx
       obtain ⟨b7, hq7⟩ : ∃ q, q = w3.heap.size := ⟨_, rfl⟩
       rw [← hq7] at h7 ⊢
       clear hy7 my7 zy7 m7 z7 mx hq7)
    | (with_reducible refine wpList_loads (o := ⟨some 21, .load 50 (.tmp 7), _, _, _, _⟩) rfl 50 (.tmp 7) rfl b7 0 _ rfl (Cells.of_holds h7) _ Tryd.underlying50 rfl (size50s _ _ _ _ _ _ _) (.agg (sgc (k : Int) A1 67 c1 B1 3 d1).toArray) rfl ?_)
    | (go_at_call 30; with_reducible refine Calls.mono (Encode_yes k HK.out.1 A1 c1 B1 d1 l1 r1 HK.out.2.1 HK.out.2.2.1 w4 O1.cells P1.cells O1.lt P1.lt) ?_
       rintro e w5 ⟨Y, cy, rfl, OY, m5⟩
       replace h7 := h7.keep m5 (by simp)
       replace O1 := O1.keep m5 (by simp)
       replace P1 := P1.keep m5 (by simp)
       replace mm := mm.then m5
       clear m5)
    | (go_at_call 34; with_reducible refine Calls.mono (Decode_enc k HK.out.1 l1 r1 HK.out.2.1 HK.out.2.2.1 Y cy _ w5 OY) ?_
       rintro e w6 ⟨A2, c2, B2, d2, rfl, O2, P2, m6⟩
       replace h7 := h7.keep m6 (by simp)
       replace O1 := O1.keep m6 (by simp)
       replace P1 := P1.keep m6 (by simp)
       replace OY := OY.keep m6 (by simp)
       replace mm := mm.then m6
       clear m6)
    | (with_reducible refine wpList_allocs (o := ⟨some 10, .alloc 50, _, _, _, _⟩) rfl 50 rfl _ zero50 ?_; intro y10 hy10 my10 zy10)
    | (with_reducible refine wpList_storesAll (o := ⟨none, .store 50 (.tmp 10) (.tmp 30), _, _, _, _⟩) rfl 50 (.tmp 10) (.tmp 30) rfl rfl w6.heap.size (sgc (k : Int) A2 67 c2 B2 3 d2) rfl (.agg (sgc (k : Int) A2 67 c2 B2 3 d2).toArray) rfl rfl 50 _ hy10 rfl (sgc_one _ _ _ _ _ _ _) (size50s _ _ _ _ _ _ _) ?_
       intro w7 h10 m10 z10
       have mx : Mod [] w6 w7 := my10.trans m10 (by intro i hi h; simp at h; omega)
       replace h7 := h7.keep mx (by simp)
       replace O1 := O1.keep mx (by simp)
       replace P1 := P1.keep mx (by simp)
       replace O2 := O2.keep mx (by simp)
       replace P2 := P2.keep mx (by simp)
       replace OY := OY.keep mx (by simp)
       replace mm := mm.then mx
       obtain ⟨b10, hq10⟩ : ∃ q, q = w6.heap.size := ⟨_, rfl⟩
       rw [← hq10] at h10 ⊢
       clear hy10 my10 zy10 m10 z10 mx hq10)
    | (with_reducible refine wpList_ranW (o := ⟨some 35, .load 50 (.tmp 10), _, _, _, _⟩) (by with_unfolding_all rfl) (.agg (sgc (k : Int) A2 67 c2 B2 3 d2).toArray) _ (exec_load rfl rfl (run_loads (Cells.of_holds h10) Tryd.underlying50 rfl (size50s _ _ _ _ _ _ _))) ?_)
    | (with_reducible refine wpList_ranW (o := ⟨some 36, .load 50 (.tmp 7), _, _, _, _⟩) (by with_unfolding_all rfl) (.agg (sgc (k : Int) A1 67 c1 B1 3 d1).toArray) _ (exec_load rfl rfl (run_loads (Cells.of_holds h7) Tryd.underlying50 rfl (size50s _ _ _ _ _ _ _))) ?_)
    | (go_at_call 24; with_reducible refine Calls.mono (same_c (k : Int) l1 r1 A2 B2 A1 B1 67 3 c2 d2 c1 d1 HK.out.2.1.symm HK.out.2.2.1.symm (by decide) (by decide) w7 O2.cells P2.cells O1.cells P1.cells) ?_
       rintro e w8 ⟨rfl, m8⟩
       replace OY := OY.keep m8 (by simp)
       replace mm := mm.then m8
       clear m8)
    | (with_reducible refine wpList_ranW (o := ⟨some 43, .convert _ _ _, _, _, _, _⟩) (by with_unfolding_all rfl) (.int .u64 u) _ (exec_conv1 HU.out.1 rfl rfl) ?_)
    | (with_reducible refine wpList_ranW (o := ⟨some 46, .convert _ _ _, _, _, _, _⟩) (by with_unfolding_all rfl) (.int .u64 2241) _ (exec_conv1 rfl rfl rfl) ?_)
    | (with_reducible refine wpList_ranW (o := ⟨some 47, .binOp .rem _ _ _ _, _, _, _, _⟩) (by with_unfolding_all rfl) (.int .u64 (t : Int)) _ (exec_remV (k := 2241) HU.out.2.1 (by decide) HU.out.2.2.1 rfl rfl rfl) ?_)
    | (with_reducible refine wpList_ranW (o := ⟨some 48, .convert _ _ _, _, _, _, _⟩) (by with_unfolding_all rfl) (.int .i64 (t : Int)) _ (exec_conv2k (Nat.lt_trans HU.out.2.2.2 (by decide)) rfl rfl) ?_)
    | (with_reducible refine wpList_ranW (o := ⟨some 49, .slice _ _ _ _ _, _, _, _, _⟩) (by with_unfolding_all rfl) (.slice Y t cy) _ (exec_upto Tryd.underlying64 u8_one (Nat.le_trans (Nat.le_of_lt HU.out.2.2.2) (by have := OY.fits.1; rw [sgB_length, HK.out.2.1, HK.out.2.2.1] at this; exact this)) rfl rfl rfl) ?_)
    | (go_at_call 34; with_reducible refine Calls.mono (Decode_short Y t cy HU.out.2.2.2 w8) ?_
       rintro e w9 ⟨rfl, m9⟩
       replace mm := mm.then m9
       clear m9)
    | (with_reducible refine wpList_allocs (o := ⟨some 12, .alloc 50, _, _, _, _⟩) rfl 50 rfl _ zero50 ?_; intro y12 hy12 my12 zy12)
    | (with_reducible refine wpList_storesAll (o := ⟨none, .store 50 (.tmp 12) (.tmp 51), _, _, _, _⟩) rfl 50 (.tmp 12) (.tmp 51) rfl rfl w9.heap.size (sgc 0 none 0 0 none 0 0) rfl (.agg (sgc 0 none 0 0 none 0 0).toArray) rfl rfl 50 _ hy12 rfl (sgc_one _ _ _ _ _ _ _) (size50s _ _ _ _ _ _ _) ?_
       intro wa h12 m12 z12
       have mx : Mod [] w9 wa := my12.trans m12 (by intro i hi h; simp at h; omega)
       replace mm := mm.then mx
       obtain ⟨b12, hq12⟩ : ∃ q, q = w9.heap.size := ⟨_, rfl⟩
       rw [← hq12] at h12 ⊢
       clear hy12 my12 zy12 m12 z12 mx hq12)
    | (with_reducible refine wpList_ranW (o := ⟨some 58, .call _, _, _, _, _⟩) (by with_unfolding_all rfl) (.int .i64 (nb : Int)) _ (exec_min rfl rfl rfl HB.out.1) ?_)
    | (with_reducible refine wpList_ranW (o := ⟨some 59, .slice _ _ _ _ _, _, _, _, _⟩) (by with_unfolding_all rfl) (.slice D nb cb) _ (exec_upto Tryd.underlying64 u8_one HB.out.2 rfl rfl rfl) ?_)
    | (go_at_call 34; with_reducible refine Calls.mono (DD wa) ?_
       rintro e wb ⟨rfl, mb⟩
       replace mm := mm.then mb
       clear mb)
    | (with_reducible refine wpList_allocs (o := ⟨some 14, .alloc 50, _, _, _, _⟩) rfl 50 rfl _ zero50 ?_; intro y14 hy14 my14 zy14)
    | (with_reducible refine wpList_storesAll (o := ⟨none, .store 50 (.tmp 14) (.tmp 63), _, _, _, _⟩) rfl 50 (.tmp 14) (.tmp 63) rfl rfl wb.heap.size (sgc 0 none 0 0 none 0 0) rfl (.agg (sgc 0 none 0 0 none 0 0).toArray) rfl rfl 50 _ hy14 rfl (sgc_one _ _ _ _ _ _ _) (size50s _ _ _ _ _ _ _) ?_
       intro wc h14 m14 z14
       have mx : Mod [] wb wc := my14.trans m14 (by intro i hi h; simp at h; omega)
       replace mm := mm.then mx
       obtain ⟨b14, hq14⟩ : ∃ q, q = wb.heap.size := ⟨_, rfl⟩
       rw [← hq14] at h14 ⊢
       clear hy14 my14 zy14 m14 z14 mx hq14)
    | (with_reducible refine wpList_loads (o := ⟨some 67, .load 50 (.tmp 14), _, _, _, _⟩) rfl 50 (.tmp 14) rfl b14 0 _ rfl (Cells.of_holds h14) _ Tryd.underlying50 rfl (size50s _ _ _ _ _ _ _) (.agg (sgc 0 none 0 0 none 0 0).toArray) rfl ?_)
    | (with_reducible refine wpList_ranW (o := ⟨some 68, .build 50 _, _, _, _, _⟩) (by with_unfolding_all rfl) (.agg (sgc 0 none 0 0 none 0 0).toArray) _ (exec_build50z rfl) ?_)
    | (go_at_call 24; with_reducible refine Calls.mono (same_c 0 [] [] none none none none 0 0 0 0 0 0 rfl rfl (by decide) (by decide) wc (Cells.nil _ _) (Cells.nil _ _) (Cells.nil _ _) (Cells.nil _ _)) ?_
       rintro e wd ⟨rfl, md⟩
       replace mm := mm.then md
       clear md))
  go_ret
  exact ⟨rfl, mm⟩
set_option maxRecDepth 100000 in
set_option maxHeartbeats 4000000 in
theorem back_yes_long (A : Option Addr) (nl c : Nat) (l : List Idv) (B : Option Addr) (nm d : Nat) (m : List Idv) (hl : nl = l.length) (hm : nm = m.length) (hc : nl ≤ c) (hd : nm ≤ d) (w : World) (Gl : Glob w) (RA : Cells w A (l.flatMap ic)) (RB : Cells w B (m.flatMap ic)) (k : Nat) (hk : k < 8) (h67 : (l.take 70).length = 67) (h3 : (m.take 5).length = 3) (D : Option Addr) (n cb nb : Nat) (hnb : (nb : Int) = min (n : Int) 2300) (hcb : nb ≤ cb) (hs : 2241 < nb) (z : Int) :
    Calls Tryd.prog 9 #[.agg (sgc (k : Int) A nl c B nm d).toArray, .slice D n cb, .int .i64 z] w fun r w' => r = .returned (.bool true) ∧ Mod [] w w' := by
  have WK := fun v (mv : Mod [] w v) => wakes_c v (Gl.then mv)
  have SI := fun v (mv : Mod [] w v) => signed_c (k : Int) A nl c l B nm d m 67 3 hl hm h67.symm h3.symm hc hd v (RA.keep mv (by simp)) (RB.keep mv (by simp))
  obtain ⟨l1, hl1⟩ : ∃ q, q = l.take 70 := ⟨_, rfl⟩
  obtain ⟨r1, hr1⟩ : ∃ q, q = m.take 5 := ⟨_, rfl⟩
  rw [← hl1] at SI h67
  rw [← hr1] at SI h3
  have HK := Lib.hid (And.intro hk (And.intro h67 (And.intro h3 trivial)))
  obtain ⟨u, hu⟩ : ∃ u, u = z % 18446744073709551616 := ⟨_, rfl⟩
  obtain ⟨t, ht⟩ : ∃ t : Nat, (t : Int) = u % ((2241 : Nat) : Int) := ⟨(u % 2241).toNat, by omega⟩
  have HU := Lib.hid (And.intro hu (And.intro (show 0 ≤ u by omega) (And.intro ht (show t < 2241 by omega))))
  clear hk h67 h3 hl1 hr1 hu ht
  have HB := Lib.hid (And.intro hnb hcb)
  have DD := fun v => Decode_long D nb cb hs v
  clear hs
  clear hnb hcb hl hm hc hd RA RB Gl
  go_enter Tryd.func9, Tryd.ntmps9
  go_wp2_with (first
    | (with_reducible refine wpList_boxes (o := ⟨some 3, .box 50 (.tmp 0), _, _, _, _⟩) rfl 50 (.tmp 0) rfl _ rfl (sgc (k : Int) A nl c B nm d) rfl ?_; intro w1 h3 mm z1
       obtain ⟨b3, hq3⟩ : ∃ q, q = w.heap.size := ⟨_, rfl⟩
       rw [← hq3] at h3 ⊢
       clear z1 hq3)
    | (go_at_call 10; with_reducible refine Calls.mono (WK _ mm) ?_
       rintro e w2 ⟨rfl, m2⟩
       replace h3 := h3.keep m2 (by simp)
       replace mm := mm.then m2
       clear m2)
    | (with_reducible refine wpList_loads (o := ⟨some 18, .load 50 (.tmp 3), _, _, _, _⟩) rfl 50 (.tmp 3) rfl b3 0 _ rfl (Cells.of_holds h3) _ Tryd.underlying50 rfl (size50s _ _ _ _ _ _ _) (.agg (sgc (k : Int) A nl c B nm d).toArray) rfl ?_)
    | (go_at_call 29; with_reducible refine Calls.mono (SI _ mm) ?_
       rintro e w3 ⟨A1, c1, B1, d1, rfl, O1, P1, m3, _, _⟩
       replace h3 := h3.keep m3 (by simp)
       replace mm := mm.then m3
       clear m3)
    | (with_reducible refine wpList_allocs (o := ⟨some 7, .alloc 50, _, _, _, _⟩) rfl 50 rfl _ zero50 ?_; intro y7 hy7 my7 zy7)
    | (with_reducible refine wpList_storesAll (o := ⟨none, .store 50 (.tmp 7) (.tmp 19), _, _, _, _⟩) rfl 50 (.tmp 7) (.tmp 19) rfl rfl w3.heap.size (sgc (k : Int) A1 67 c1 B1 3 d1) rfl (.agg (sgc (k : Int) A1 67 c1 B1 3 d1).toArray) rfl rfl 50 _ hy7 rfl (sgc_one _ _ _ _ _ _ _) (size50s _ _ _ _ _ _ _) ?_
       intro w4 h7 m7 z7
       have mx : Mod [] w3 w4 := my7.trans m7 (by intro i hi h; simp at h; omega)
       replace O1 := O1.keep mx (by simp)
       replace P1 := P1.keep mx (by simp)
       replace mm := mm.then mx
       obtain ⟨b7, hq7⟩ : ∃ q, q = w3.heap.size := ⟨_, rfl⟩
       rw [← hq7] at h7 ⊢
       clear hy7 my7 zy7 m7 z7 mx hq7)
    | (with_reducible refine wpList_loads (o := ⟨some 21, .load 50 (.tmp 7), _, _, _, _⟩) rfl 50 (.tmp 7) rfl b7 0 _ rfl (Cells.of_holds h7) _ Tryd.underlying50 rfl (size50s _ _ _ _ _ _ _) (.agg (sgc (k : Int) A1 67 c1 B1 3 d1).toArray) rfl ?_)
    | (go_at_call 30; with_reducible refine Calls.mono (Encode_yes k HK.out.1 A1 c1 B1 d1 l1 r1 HK.out.2.1 HK.out.2.2.1 w4 O1.cells P1.cells O1.lt P1.lt) ?_
       rintro e w5 ⟨Y, cy, rfl, OY, m5⟩
       replace h7 := h7.keep m5 (by simp)
       replace O1 := O1.keep m5 (by simp)
       replace P1 := P1.keep m5 (by simp)
       replace mm := mm.then m5
       clear m5)
    | (go_at_call 34; with_reducible refine Calls.mono (Decode_enc k HK.out.1 l1 r1 HK.out.2.1 HK.out.2.2.1 Y cy _ w5 OY) ?_
       rintro e w6 ⟨A2, c2, B2, d2, rfl, O2, P2, m6⟩
       replace h7 := h7.keep m6 (by simp)
       replace O1 := O1.keep m6 (by simp)
       replace P1 := P1.keep m6 (by simp)
       replace OY := OY.keep m6 (by simp)
       replace mm := mm.then m6
       clear m6)
    | (with_reducible refine wpList_allocs (o := ⟨some 10, .alloc 50, _, _, _, _⟩) rfl 50 rfl _ zero50 ?_; intro y10 hy10 my10 zy10)
    | (with_reducible refine wpList_storesAll (o := ⟨none, .store 50 (.tmp 10) (.tmp 30), _, _, _, _⟩) rfl 50 (.tmp 10) (.tmp 30) rfl rfl w6.heap.size (sgc (k : Int) A2 67 c2 B2 3 d2) rfl (.agg (sgc (k : Int) A2 67 c2 B2 3 d2).toArray) rfl rfl 50 _ hy10 rfl (sgc_one _ _ _ _ _ _ _) (size50s _ _ _ _ _ _ _) ?_
       intro w7 h10 m10 z10
       have mx : Mod [] w6 w7 := my10.trans m10 (by intro i hi h; simp at h; omega)
       replace h7 := h7.keep mx (by simp)
       replace O1 := O1.keep mx (by simp)
       replace P1 := P1.keep mx (by simp)
       replace O2 := O2.keep mx (by simp)
       replace P2 := P2.keep mx (by simp)
       replace OY := OY.keep mx (by simp)
       replace mm := mm.then mx
       obtain ⟨b10, hq10⟩ : ∃ q, q = w6.heap.size := ⟨_, rfl⟩
       rw [← hq10] at h10 ⊢
       clear hy10 my10 zy10 m10 z10 mx hq10)
    | (with_reducible refine wpList_ranW (o := ⟨some 35, .load 50 (.tmp 10), _, _, _, _⟩) (by with_unfolding_all rfl) (.agg (sgc (k : Int) A2 67 c2 B2 3 d2).toArray) _ (exec_load rfl rfl (run_loads (Cells.of_holds h10) Tryd.underlying50 rfl (size50s _ _ _ _ _ _ _))) ?_)
    | (with_reducible refine wpList_ranW (o := ⟨some 36, .load 50 (.tmp 7), _, _, _, _⟩) (by with_unfolding_all rfl) (.agg (sgc (k : Int) A1 67 c1 B1 3 d1).toArray) _ (exec_load rfl rfl (run_loads (Cells.of_holds h7) Tryd.underlying50 rfl (size50s _ _ _ _ _ _ _))) ?_)
    | (go_at_call 24; with_reducible refine Calls.mono (same_c (k : Int) l1 r1 A2 B2 A1 B1 67 3 c2 d2 c1 d1 HK.out.2.1.symm HK.out.2.2.1.symm (by decide) (by decide) w7 O2.cells P2.cells O1.cells P1.cells) ?_
       rintro e w8 ⟨rfl, m8⟩
       replace OY := OY.keep m8 (by simp)
       replace mm := mm.then m8
       clear m8)
    | (with_reducible refine wpList_ranW (o := ⟨some 43, .convert _ _ _, _, _, _, _⟩) (by with_unfolding_all rfl) (.int .u64 u) _ (exec_conv1 HU.out.1 rfl rfl) ?_)
    | (with_reducible refine wpList_ranW (o := ⟨some 46, .convert _ _ _, _, _, _, _⟩) (by with_unfolding_all rfl) (.int .u64 2241) _ (exec_conv1 rfl rfl rfl) ?_)
    | (with_reducible refine wpList_ranW (o := ⟨some 47, .binOp .rem _ _ _ _, _, _, _, _⟩) (by with_unfolding_all rfl) (.int .u64 (t : Int)) _ (exec_remV (k := 2241) HU.out.2.1 (by decide) HU.out.2.2.1 rfl rfl rfl) ?_)
    | (with_reducible refine wpList_ranW (o := ⟨some 48, .convert _ _ _, _, _, _, _⟩) (by with_unfolding_all rfl) (.int .i64 (t : Int)) _ (exec_conv2k (Nat.lt_trans HU.out.2.2.2 (by decide)) rfl rfl) ?_)
    | (with_reducible refine wpList_ranW (o := ⟨some 49, .slice _ _ _ _ _, _, _, _, _⟩) (by with_unfolding_all rfl) (.slice Y t cy) _ (exec_upto Tryd.underlying64 u8_one (Nat.le_trans (Nat.le_of_lt HU.out.2.2.2) (by have := OY.fits.1; rw [sgB_length, HK.out.2.1, HK.out.2.2.1] at this; exact this)) rfl rfl rfl) ?_)
    | (go_at_call 34; with_reducible refine Calls.mono (Decode_short Y t cy HU.out.2.2.2 w8) ?_
       rintro e w9 ⟨rfl, m9⟩
       replace mm := mm.then m9
       clear m9)
    | (with_reducible refine wpList_allocs (o := ⟨some 12, .alloc 50, _, _, _, _⟩) rfl 50 rfl _ zero50 ?_; intro y12 hy12 my12 zy12)
    | (with_reducible refine wpList_storesAll (o := ⟨none, .store 50 (.tmp 12) (.tmp 51), _, _, _, _⟩) rfl 50 (.tmp 12) (.tmp 51) rfl rfl w9.heap.size (sgc 0 none 0 0 none 0 0) rfl (.agg (sgc 0 none 0 0 none 0 0).toArray) rfl rfl 50 _ hy12 rfl (sgc_one _ _ _ _ _ _ _) (size50s _ _ _ _ _ _ _) ?_
       intro wa h12 m12 z12
       have mx : Mod [] w9 wa := my12.trans m12 (by intro i hi h; simp at h; omega)
       replace mm := mm.then mx
       obtain ⟨b12, hq12⟩ : ∃ q, q = w9.heap.size := ⟨_, rfl⟩
       rw [← hq12] at h12 ⊢
       clear hy12 my12 zy12 m12 z12 mx hq12)
    | (with_reducible refine wpList_ranW (o := ⟨some 58, .call _, _, _, _, _⟩) (by with_unfolding_all rfl) (.int .i64 (nb : Int)) _ (exec_min rfl rfl rfl HB.out.1) ?_)
    | (with_reducible refine wpList_ranW (o := ⟨some 59, .slice _ _ _ _ _, _, _, _, _⟩) (by with_unfolding_all rfl) (.slice D nb cb) _ (exec_upto Tryd.underlying64 u8_one HB.out.2 rfl rfl rfl) ?_)
    | (go_at_call 34; with_reducible refine Calls.mono (DD wa) ?_
       rintro e wb ⟨rfl, mb⟩
       replace mm := mm.then mb
       clear mb)
    | (with_reducible refine wpList_allocs (o := ⟨some 14, .alloc 50, _, _, _, _⟩) rfl 50 rfl _ zero50 ?_; intro y14 hy14 my14 zy14)
    | (with_reducible refine wpList_storesAll (o := ⟨none, .store 50 (.tmp 14) (.tmp 63), _, _, _, _⟩) rfl 50 (.tmp 14) (.tmp 63) rfl rfl wb.heap.size (sgc 0 none 0 0 none 0 0) rfl (.agg (sgc 0 none 0 0 none 0 0).toArray) rfl rfl 50 _ hy14 rfl (sgc_one _ _ _ _ _ _ _) (size50s _ _ _ _ _ _ _) ?_
       intro wc h14 m14 z14
       have mx : Mod [] wb wc := my14.trans m14 (by intro i hi h; simp at h; omega)
       replace mm := mm.then mx
       obtain ⟨b14, hq14⟩ : ∃ q, q = wb.heap.size := ⟨_, rfl⟩
       rw [← hq14] at h14 ⊢
       clear hy14 my14 zy14 m14 z14 mx hq14)
    | (with_reducible refine wpList_loads (o := ⟨some 67, .load 50 (.tmp 14), _, _, _, _⟩) rfl 50 (.tmp 14) rfl b14 0 _ rfl (Cells.of_holds h14) _ Tryd.underlying50 rfl (size50s _ _ _ _ _ _ _) (.agg (sgc 0 none 0 0 none 0 0).toArray) rfl ?_)
    | (with_reducible refine wpList_ranW (o := ⟨some 68, .build 50 _, _, _, _, _⟩) (by with_unfolding_all rfl) (.agg (sgc 0 none 0 0 none 0 0).toArray) _ (exec_build50z rfl) ?_)
    | (go_at_call 24; with_reducible refine Calls.mono (same_c 0 [] [] none none none none 0 0 0 0 0 0 rfl rfl (by decide) (by decide) wc (Cells.nil _ _) (Cells.nil _ _) (Cells.nil _ _) (Cells.nil _ _)) ?_
       rintro e wd ⟨rfl, md⟩
       replace mm := mm.then md
       clear md))
  go_ret
  exact ⟨rfl, mm⟩
set_option maxRecDepth 100000 in
set_option maxHeartbeats 4000000 in
theorem back_yes_leaf (A : Option Addr) (nl c : Nat) (l : List Idv) (B : Option Addr) (nm d : Nat) (m : List Idv) (hl : nl = l.length) (hm : nm = m.length) (hc : nl ≤ c) (hd : nm ≤ d) (w : World) (Gl : Glob w) (RA : Cells w A (l.flatMap ic)) (RB : Cells w B (m.flatMap ic)) (k : Nat) (hk : k < 8) (h67 : (l.take 70).length = 67) (h3 : (m.take 5).length = 3) (g o n cb : Nat) (x : UInt8) (bs : List UInt8) (hnb : (2241 : Int) = min (n : Int) 2300) (hcb : 2241 ≤ cb) (hx : 8 ≤ x.toNat) (R : Reads w (some ⟨g, o, none⟩) (x :: bs)) (z : Int) :
    Calls Tryd.prog 9 #[.agg (sgc (k : Int) A nl c B nm d).toArray, .slice (some ⟨g, o, none⟩) n cb, .int .i64 z] w fun r w' => r = .returned (.bool true) ∧ Mod [] w w' := by
  have WK := fun v (mv : Mod [] w v) => wakes_c v (Gl.then mv)
  have SI := fun v (mv : Mod [] w v) => signed_c (k : Int) A nl c l B nm d m 67 3 hl hm h67.symm h3.symm hc hd v (RA.keep mv (by simp)) (RB.keep mv (by simp))
  obtain ⟨l1, hl1⟩ : ∃ q, q = l.take 70 := ⟨_, rfl⟩
  obtain ⟨r1, hr1⟩ : ∃ q, q = m.take 5 := ⟨_, rfl⟩
  rw [← hl1] at SI h67
  rw [← hr1] at SI h3
  have HK := Lib.hid (And.intro hk (And.intro h67 (And.intro h3 trivial)))
  obtain ⟨u, hu⟩ : ∃ u, u = z % 18446744073709551616 := ⟨_, rfl⟩
  obtain ⟨t, ht⟩ : ∃ t : Nat, (t : Int) = u % ((2241 : Nat) : Int) := ⟨(u % 2241).toNat, by omega⟩
  have HU := Lib.hid (And.intro hu (And.intro (show 0 ≤ u by omega) (And.intro ht (show t < 2241 by omega))))
  clear hk h67 h3 hl1 hr1 hu ht
  have HB := Lib.hid (And.intro hnb hcb)
  have DD := fun v (mv : Mod [] w v) => Decode_leaf g o cb x bs hx v (R.keep mv (by simp))
  clear hx R
  clear hnb hcb hl hm hc hd RA RB Gl
  go_enter Tryd.func9, Tryd.ntmps9
  go_wp2_with (first
    | (with_reducible refine wpList_boxes (o := ⟨some 3, .box 50 (.tmp 0), _, _, _, _⟩) rfl 50 (.tmp 0) rfl _ rfl (sgc (k : Int) A nl c B nm d) rfl ?_; intro w1 h3 mm z1
       obtain ⟨b3, hq3⟩ : ∃ q, q = w.heap.size := ⟨_, rfl⟩
       rw [← hq3] at h3 ⊢
       clear z1 hq3)
    | (go_at_call 10; with_reducible refine Calls.mono (WK _ mm) ?_
       rintro e w2 ⟨rfl, m2⟩
       replace h3 := h3.keep m2 (by simp)
       replace mm := mm.then m2
       clear m2)
    | (with_reducible refine wpList_loads (o := ⟨some 18, .load 50 (.tmp 3), _, _, _, _⟩) rfl 50 (.tmp 3) rfl b3 0 _ rfl (Cells.of_holds h3) _ Tryd.underlying50 rfl (size50s _ _ _ _ _ _ _) (.agg (sgc (k : Int) A nl c B nm d).toArray) rfl ?_)
    | (go_at_call 29; with_reducible refine Calls.mono (SI _ mm) ?_
       rintro e w3 ⟨A1, c1, B1, d1, rfl, O1, P1, m3, _, _⟩
       replace h3 := h3.keep m3 (by simp)
       replace mm := mm.then m3
       clear m3)
    | (with_reducible refine wpList_allocs (o := ⟨some 7, .alloc 50, _, _, _, _⟩) rfl 50 rfl _ zero50 ?_; intro y7 hy7 my7 zy7)
    | (with_reducible refine wpList_storesAll (o := ⟨none, .store 50 (.tmp 7) (.tmp 19), _, _, _, _⟩) rfl 50 (.tmp 7) (.tmp 19) rfl rfl w3.heap.size (sgc (k : Int) A1 67 c1 B1 3 d1) rfl (.agg (sgc (k : Int) A1 67 c1 B1 3 d1).toArray) rfl rfl 50 _ hy7 rfl (sgc_one _ _ _ _ _ _ _) (size50s _ _ _ _ _ _ _) ?_
       intro w4 h7 m7 z7
       have mx : Mod [] w3 w4 := my7.trans m7 (by intro i hi h; simp at h; omega)
       replace O1 := O1.keep mx (by simp)
       replace P1 := P1.keep mx (by simp)
       replace mm := mm.then mx
       obtain ⟨b7, hq7⟩ : ∃ q, q = w3.heap.size := ⟨_, rfl⟩
       rw [← hq7] at h7 ⊢
       clear hy7 my7 zy7 m7 z7 mx hq7)
    | (with_reducible refine wpList_loads (o := ⟨some 21, .load 50 (.tmp 7), _, _, _, _⟩) rfl 50 (.tmp 7) rfl b7 0 _ rfl (Cells.of_holds h7) _ Tryd.underlying50 rfl (size50s _ _ _ _ _ _ _) (.agg (sgc (k : Int) A1 67 c1 B1 3 d1).toArray) rfl ?_)
    | (go_at_call 30; with_reducible refine Calls.mono (Encode_yes k HK.out.1 A1 c1 B1 d1 l1 r1 HK.out.2.1 HK.out.2.2.1 w4 O1.cells P1.cells O1.lt P1.lt) ?_
       rintro e w5 ⟨Y, cy, rfl, OY, m5⟩
       replace h7 := h7.keep m5 (by simp)
       replace O1 := O1.keep m5 (by simp)
       replace P1 := P1.keep m5 (by simp)
       replace mm := mm.then m5
       clear m5)
    | (go_at_call 34; with_reducible refine Calls.mono (Decode_enc k HK.out.1 l1 r1 HK.out.2.1 HK.out.2.2.1 Y cy _ w5 OY) ?_
       rintro e w6 ⟨A2, c2, B2, d2, rfl, O2, P2, m6⟩
       replace h7 := h7.keep m6 (by simp)
       replace O1 := O1.keep m6 (by simp)
       replace P1 := P1.keep m6 (by simp)
       replace OY := OY.keep m6 (by simp)
       replace mm := mm.then m6
       clear m6)
    | (with_reducible refine wpList_allocs (o := ⟨some 10, .alloc 50, _, _, _, _⟩) rfl 50 rfl _ zero50 ?_; intro y10 hy10 my10 zy10)
    | (with_reducible refine wpList_storesAll (o := ⟨none, .store 50 (.tmp 10) (.tmp 30), _, _, _, _⟩) rfl 50 (.tmp 10) (.tmp 30) rfl rfl w6.heap.size (sgc (k : Int) A2 67 c2 B2 3 d2) rfl (.agg (sgc (k : Int) A2 67 c2 B2 3 d2).toArray) rfl rfl 50 _ hy10 rfl (sgc_one _ _ _ _ _ _ _) (size50s _ _ _ _ _ _ _) ?_
       intro w7 h10 m10 z10
       have mx : Mod [] w6 w7 := my10.trans m10 (by intro i hi h; simp at h; omega)
       replace h7 := h7.keep mx (by simp)
       replace O1 := O1.keep mx (by simp)
       replace P1 := P1.keep mx (by simp)
       replace O2 := O2.keep mx (by simp)
       replace P2 := P2.keep mx (by simp)
       replace OY := OY.keep mx (by simp)
       replace mm := mm.then mx
       obtain ⟨b10, hq10⟩ : ∃ q, q = w6.heap.size := ⟨_, rfl⟩
       rw [← hq10] at h10 ⊢
       clear hy10 my10 zy10 m10 z10 mx hq10)
    | (with_reducible refine wpList_ranW (o := ⟨some 35, .load 50 (.tmp 10), _, _, _, _⟩) (by with_unfolding_all rfl) (.agg (sgc (k : Int) A2 67 c2 B2 3 d2).toArray) _ (exec_load rfl rfl (run_loads (Cells.of_holds h10) Tryd.underlying50 rfl (size50s _ _ _ _ _ _ _))) ?_)
    | (with_reducible refine wpList_ranW (o := ⟨some 36, .load 50 (.tmp 7), _, _, _, _⟩) (by with_unfolding_all rfl) (.agg (sgc (k : Int) A1 67 c1 B1 3 d1).toArray) _ (exec_load rfl rfl (run_loads (Cells.of_holds h7) Tryd.underlying50 rfl (size50s _ _ _ _ _ _ _))) ?_)
    | (go_at_call 24; with_reducible refine Calls.mono (same_c (k : Int) l1 r1 A2 B2 A1 B1 67 3 c2 d2 c1 d1 HK.out.2.1.symm HK.out.2.2.1.symm (by decide) (by decide) w7 O2.cells P2.cells O1.cells P1.cells) ?_
       rintro e w8 ⟨rfl, m8⟩
       replace OY := OY.keep m8 (by simp)
       replace mm := mm.then m8
       clear m8)
    | (with_reducible refine wpList_ranW (o := ⟨some 43, .convert _ _ _, _, _, _, _⟩) (by with_unfolding_all rfl) (.int .u64 u) _ (exec_conv1 HU.out.1 rfl rfl) ?_)
    | (with_reducible refine wpList_ranW (o := ⟨some 46, .convert _ _ _, _, _, _, _⟩) (by with_unfolding_all rfl) (.int .u64 2241) _ (exec_conv1 rfl rfl rfl) ?_)
    | (with_reducible refine wpList_ranW (o := ⟨some 47, .binOp .rem _ _ _ _, _, _, _, _⟩) (by with_unfolding_all rfl) (.int .u64 (t : Int)) _ (exec_remV (k := 2241) HU.out.2.1 (by decide) HU.out.2.2.1 rfl rfl rfl) ?_)
    | (with_reducible refine wpList_ranW (o := ⟨some 48, .convert _ _ _, _, _, _, _⟩) (by with_unfolding_all rfl) (.int .i64 (t : Int)) _ (exec_conv2k (Nat.lt_trans HU.out.2.2.2 (by decide)) rfl rfl) ?_)
    | (with_reducible refine wpList_ranW (o := ⟨some 49, .slice _ _ _ _ _, _, _, _, _⟩) (by with_unfolding_all rfl) (.slice Y t cy) _ (exec_upto Tryd.underlying64 u8_one (Nat.le_trans (Nat.le_of_lt HU.out.2.2.2) (by have := OY.fits.1; rw [sgB_length, HK.out.2.1, HK.out.2.2.1] at this; exact this)) rfl rfl rfl) ?_)
    | (go_at_call 34; with_reducible refine Calls.mono (Decode_short Y t cy HU.out.2.2.2 w8) ?_
       rintro e w9 ⟨rfl, m9⟩
       replace mm := mm.then m9
       clear m9)
    | (with_reducible refine wpList_allocs (o := ⟨some 12, .alloc 50, _, _, _, _⟩) rfl 50 rfl _ zero50 ?_; intro y12 hy12 my12 zy12)
    | (with_reducible refine wpList_storesAll (o := ⟨none, .store 50 (.tmp 12) (.tmp 51), _, _, _, _⟩) rfl 50 (.tmp 12) (.tmp 51) rfl rfl w9.heap.size (sgc 0 none 0 0 none 0 0) rfl (.agg (sgc 0 none 0 0 none 0 0).toArray) rfl rfl 50 _ hy12 rfl (sgc_one _ _ _ _ _ _ _) (size50s _ _ _ _ _ _ _) ?_
       intro wa h12 m12 z12
       have mx : Mod [] w9 wa := my12.trans m12 (by intro i hi h; simp at h; omega)
       replace mm := mm.then mx
       obtain ⟨b12, hq12⟩ : ∃ q, q = w9.heap.size := ⟨_, rfl⟩
       rw [← hq12] at h12 ⊢
       clear hy12 my12 zy12 m12 z12 mx hq12)
    | (with_reducible refine wpList_ranW (o := ⟨some 58, .call _, _, _, _, _⟩) (by with_unfolding_all rfl) (.int .i64 2241) _ (exec_min rfl rfl rfl HB.out.1) ?_)
    | (with_reducible refine wpList_ranW (o := ⟨some 59, .slice _ _ _ _ _, _, _, _, _⟩) (by with_unfolding_all rfl) (.slice (some ⟨g, o, none⟩) 2241 cb) _ (exec_upto Tryd.underlying64 u8_one HB.out.2 rfl rfl rfl) ?_)
    | (go_at_call 34; with_reducible refine Calls.mono (DD wa mm) ?_
       rintro e wb ⟨rfl, mb⟩
       replace mm := mm.then mb
       clear mb)
    | (with_reducible refine wpList_allocs (o := ⟨some 14, .alloc 50, _, _, _, _⟩) rfl 50 rfl _ zero50 ?_; intro y14 hy14 my14 zy14)
    | (with_reducible refine wpList_storesAll (o := ⟨none, .store 50 (.tmp 14) (.tmp 63), _, _, _, _⟩) rfl 50 (.tmp 14) (.tmp 63) rfl rfl wb.heap.size (sgc 0 none 0 0 none 0 0) rfl (.agg (sgc 0 none 0 0 none 0 0).toArray) rfl rfl 50 _ hy14 rfl (sgc_one _ _ _ _ _ _ _) (size50s _ _ _ _ _ _ _) ?_
       intro wc h14 m14 z14
       have mx : Mod [] wb wc := my14.trans m14 (by intro i hi h; simp at h; omega)
       replace mm := mm.then mx
       obtain ⟨b14, hq14⟩ : ∃ q, q = wb.heap.size := ⟨_, rfl⟩
       rw [← hq14] at h14 ⊢
       clear hy14 my14 zy14 m14 z14 mx hq14)
    | (with_reducible refine wpList_loads (o := ⟨some 67, .load 50 (.tmp 14), _, _, _, _⟩) rfl 50 (.tmp 14) rfl b14 0 _ rfl (Cells.of_holds h14) _ Tryd.underlying50 rfl (size50s _ _ _ _ _ _ _) (.agg (sgc 0 none 0 0 none 0 0).toArray) rfl ?_)
    | (with_reducible refine wpList_ranW (o := ⟨some 68, .build 50 _, _, _, _, _⟩) (by with_unfolding_all rfl) (.agg (sgc 0 none 0 0 none 0 0).toArray) _ (exec_build50z rfl) ?_)
    | (go_at_call 24; with_reducible refine Calls.mono (same_c 0 [] [] none none none none 0 0 0 0 0 0 rfl rfl (by decide) (by decide) wc (Cells.nil _ _) (Cells.nil _ _) (Cells.nil _ _) (Cells.nil _ _)) ?_
       rintro e wd ⟨rfl, md⟩
       replace mm := mm.then md
       clear md))
  go_ret
  exact ⟨rfl, mm⟩
set_option maxRecDepth 100000 in
set_option maxHeartbeats 4000000 in
theorem back_yes_yes (A : Option Addr) (nl c : Nat) (l : List Idv) (B : Option Addr) (nm d : Nat) (m : List Idv) (hl : nl = l.length) (hm : nm = m.length) (hc : nl ≤ c) (hd : nm ≤ d) (w : World) (Gl : Glob w) (RA : Cells w A (l.flatMap ic)) (RB : Cells w B (m.flatMap ic)) (k : Nat) (hk : k < 8) (h67 : (l.take 70).length = 67) (h3 : (m.take 5).length = 3) (g o n cb : Nat) (x : UInt8) (bs : List UInt8) (hnb : (2241 : Int) = min (n : Int) 2300) (hcb : 2241 ≤ cb) (hx : x.toNat < 8) (hbs : bs.length = 2240) (R : Reads w (some ⟨g, o, none⟩) (x :: bs)) (hg : g < w.heap.size) (z : Int) :
    Calls Tryd.prog 9 #[.agg (sgc (k : Int) A nl c B nm d).toArray, .slice (some ⟨g, o, none⟩) n cb, .int .i64 z] w fun r w' => r = .returned (.bool true) ∧ Mod [] w w' := by
  have WK := fun v (mv : Mod [] w v) => wakes_c v (Gl.then mv)
  have SI := fun v (mv : Mod [] w v) => signed_c (k : Int) A nl c l B nm d m 67 3 hl hm h67.symm h3.symm hc hd v (RA.keep mv (by simp)) (RB.keep mv (by simp))
  obtain ⟨l1, hl1⟩ : ∃ q, q = l.take 70 := ⟨_, rfl⟩
  obtain ⟨r1, hr1⟩ : ∃ q, q = m.take 5 := ⟨_, rfl⟩
  rw [← hl1] at SI h67
  rw [← hr1] at SI h3
  have HK := Lib.hid (And.intro hk (And.intro h67 (And.intro h3 trivial)))
  obtain ⟨u, hu⟩ : ∃ u, u = z % 18446744073709551616 := ⟨_, rfl⟩
  obtain ⟨t, ht⟩ : ∃ t : Nat, (t : Int) = u % ((2241 : Nat) : Int) := ⟨(u % 2241).toNat, by omega⟩
  have HU := Lib.hid (And.intro hu (And.intro (show 0 ≤ u by omega) (And.intro ht (show t < 2241 by omega))))
  clear hk h67 h3 hl1 hr1 hu ht
  have HB := Lib.hid (And.intro hnb hcb)
  have DD := fun v (mv : Mod [] w v) => Decode_yes g o cb x bs hx hbs hcb v (R.keep mv (by simp)) (Nat.lt_of_lt_of_le hg mv.size)
  have EZ := fun A8 c8 B8 d8 v => Encode_yes x.toNat hx A8 c8 B8 d8 (unI (bs.take 2144) 67) (unI (bs.drop 2144) 3) (unI_length _ _) (unI_length _ _) v
  have BE := fun Z cz v (mv : Mod [] w v) h => beq_n Z (some ⟨g, o, none⟩) (x :: bs) (x :: bs) 2241 2241 cz cb v (by rw [List.length_cons, hbs]) (by rw [List.length_cons, hbs]) h (R.keep mv (by simp))
  rw [sgB_back x bs hbs] at EZ
  rw [decide_eq_true rfl] at BE
  obtain ⟨L1, hL1⟩ : ∃ q, q = unI (bs.take 2144) 67 := ⟨_, rfl⟩
  obtain ⟨L2, hL2⟩ : ∃ q, q = unI (bs.drop 2144) 3 := ⟨_, rfl⟩
  obtain ⟨kx, hkx⟩ : ∃ q, q = x.toNat := ⟨_, rfl⟩
  rw [← hL1, ← hL2, ← hkx] at DD EZ
  obtain ⟨xs, hxs⟩ : ∃ q, q = x :: bs := ⟨_, rfl⟩
  rw [← hxs] at EZ BE
  clear hx hbs R hg hL1 hL2 hkx hxs
  clear hnb hcb hl hm hc hd RA RB Gl
  go_enter Tryd.func9, Tryd.ntmps9
  go_wp2_with (first
    | (with_reducible refine wpList_boxes (o := ⟨some 3, .box 50 (.tmp 0), _, _, _, _⟩) rfl 50 (.tmp 0) rfl _ rfl (sgc (k : Int) A nl c B nm d) rfl ?_; intro w1 h3 mm z1
       obtain ⟨b3, hq3⟩ : ∃ q, q = w.heap.size := ⟨_, rfl⟩
       rw [← hq3] at h3 ⊢
       clear z1 hq3)
    | (go_at_call 10; with_reducible refine Calls.mono (WK _ mm) ?_
       rintro e w2 ⟨rfl, m2⟩
       replace h3 := h3.keep m2 (by simp)
       replace mm := mm.then m2
       clear m2)
    | (with_reducible refine wpList_loads (o := ⟨some 18, .load 50 (.tmp 3), _, _, _, _⟩) rfl 50 (.tmp 3) rfl b3 0 _ rfl (Cells.of_holds h3) _ Tryd.underlying50 rfl (size50s _ _ _ _ _ _ _) (.agg (sgc (k : Int) A nl c B nm d).toArray) rfl ?_)
    | (go_at_call 29; with_reducible refine Calls.mono (SI _ mm) ?_
       rintro e w3 ⟨A1, c1, B1, d1, rfl, O1, P1, m3, _, _⟩
       replace h3 := h3.keep m3 (by simp)
       replace mm := mm.then m3
       clear m3)
    | (with_reducible refine wpList_allocs (o := ⟨some 7, .alloc 50, _, _, _, _⟩) rfl 50 rfl _ zero50 ?_; intro y7 hy7 my7 zy7)
    | (with_reducible refine wpList_storesAll (o := ⟨none, .store 50 (.tmp 7) (.tmp 19), _, _, _, _⟩) rfl 50 (.tmp 7) (.tmp 19) rfl rfl w3.heap.size (sgc (k : Int) A1 67 c1 B1 3 d1) rfl (.agg (sgc (k : Int) A1 67 c1 B1 3 d1).toArray) rfl rfl 50 _ hy7 rfl (sgc_one _ _ _ _ _ _ _) (size50s _ _ _ _ _ _ _) ?_
       intro w4 h7 m7 z7
       have mx : Mod [] w3 w4 := my7.trans m7 (by intro i hi h; simp at h; omega)
       replace O1 := O1.keep mx (by simp)
       replace P1 := P1.keep mx (by simp)
       replace mm := mm.then mx
       obtain ⟨b7, hq7⟩ : ∃ q, q = w3.heap.size := ⟨_, rfl⟩
       rw [← hq7] at h7 ⊢
       clear hy7 my7 zy7 m7 z7 mx hq7)
    | (with_reducible refine wpList_loads (o := ⟨some 21, .load 50 (.tmp 7), _, _, _, _⟩) rfl 50 (.tmp 7) rfl b7 0 _ rfl (Cells.of_holds h7) _ Tryd.underlying50 rfl (size50s _ _ _ _ _ _ _) (.agg (sgc (k : Int) A1 67 c1 B1 3 d1).toArray) rfl ?_)
    | (go_at_call 30; with_reducible refine Calls.mono (Encode_yes k HK.out.1 A1 c1 B1 d1 l1 r1 HK.out.2.1 HK.out.2.2.1 w4 O1.cells P1.cells O1.lt P1.lt) ?_
       rintro e w5 ⟨Y, cy, rfl, OY, m5⟩
       replace h7 := h7.keep m5 (by simp)
       replace O1 := O1.keep m5 (by simp)
       replace P1 := P1.keep m5 (by simp)
       replace mm := mm.then m5
       clear m5)
    | (go_at_call 34; with_reducible refine Calls.mono (Decode_enc k HK.out.1 l1 r1 HK.out.2.1 HK.out.2.2.1 Y cy _ w5 OY) ?_
       rintro e w6 ⟨A2, c2, B2, d2, rfl, O2, P2, m6⟩
       replace h7 := h7.keep m6 (by simp)
       replace O1 := O1.keep m6 (by simp)
       replace P1 := P1.keep m6 (by simp)
       replace OY := OY.keep m6 (by simp)
       replace mm := mm.then m6
       clear m6)
    | (with_reducible refine wpList_allocs (o := ⟨some 10, .alloc 50, _, _, _, _⟩) rfl 50 rfl _ zero50 ?_; intro y10 hy10 my10 zy10)
    | (with_reducible refine wpList_storesAll (o := ⟨none, .store 50 (.tmp 10) (.tmp 30), _, _, _, _⟩) rfl 50 (.tmp 10) (.tmp 30) rfl rfl w6.heap.size (sgc (k : Int) A2 67 c2 B2 3 d2) rfl (.agg (sgc (k : Int) A2 67 c2 B2 3 d2).toArray) rfl rfl 50 _ hy10 rfl (sgc_one _ _ _ _ _ _ _) (size50s _ _ _ _ _ _ _) ?_
       intro w7 h10 m10 z10
       have mx : Mod [] w6 w7 := my10.trans m10 (by intro i hi h; simp at h; omega)
       replace h7 := h7.keep mx (by simp)
       replace O1 := O1.keep mx (by simp)
       replace P1 := P1.keep mx (by simp)
       replace O2 := O2.keep mx (by simp)
       replace P2 := P2.keep mx (by simp)
       replace OY := OY.keep mx (by simp)
       replace mm := mm.then mx
       obtain ⟨b10, hq10⟩ : ∃ q, q = w6.heap.size := ⟨_, rfl⟩
       rw [← hq10] at h10 ⊢
       clear hy10 my10 zy10 m10 z10 mx hq10)
    | (with_reducible refine wpList_ranW (o := ⟨some 35, .load 50 (.tmp 10), _, _, _, _⟩) (by with_unfolding_all rfl) (.agg (sgc (k : Int) A2 67 c2 B2 3 d2).toArray) _ (exec_load rfl rfl (run_loads (Cells.of_holds h10) Tryd.underlying50 rfl (size50s _ _ _ _ _ _ _))) ?_)
    | (with_reducible refine wpList_ranW (o := ⟨some 36, .load 50 (.tmp 7), _, _, _, _⟩) (by with_unfolding_all rfl) (.agg (sgc (k : Int) A1 67 c1 B1 3 d1).toArray) _ (exec_load rfl rfl (run_loads (Cells.of_holds h7) Tryd.underlying50 rfl (size50s _ _ _ _ _ _ _))) ?_)
    | (go_at_call 24; with_reducible refine Calls.mono (same_c (k : Int) l1 r1 A2 B2 A1 B1 67 3 c2 d2 c1 d1 HK.out.2.1.symm HK.out.2.2.1.symm (by decide) (by decide) w7 O2.cells P2.cells O1.cells P1.cells) ?_
       rintro e w8 ⟨rfl, m8⟩
       replace OY := OY.keep m8 (by simp)
       replace mm := mm.then m8
       clear m8)
    | (with_reducible refine wpList_ranW (o := ⟨some 43, .convert _ _ _, _, _, _, _⟩) (by with_unfolding_all rfl) (.int .u64 u) _ (exec_conv1 HU.out.1 rfl rfl) ?_)
    | (with_reducible refine wpList_ranW (o := ⟨some 46, .convert _ _ _, _, _, _, _⟩) (by with_unfolding_all rfl) (.int .u64 2241) _ (exec_conv1 rfl rfl rfl) ?_)
    | (with_reducible refine wpList_ranW (o := ⟨some 47, .binOp .rem _ _ _ _, _, _, _, _⟩) (by with_unfolding_all rfl) (.int .u64 (t : Int)) _ (exec_remV (k := 2241) HU.out.2.1 (by decide) HU.out.2.2.1 rfl rfl rfl) ?_)
    | (with_reducible refine wpList_ranW (o := ⟨some 48, .convert _ _ _, _, _, _, _⟩) (by with_unfolding_all rfl) (.int .i64 (t : Int)) _ (exec_conv2k (Nat.lt_trans HU.out.2.2.2 (by decide)) rfl rfl) ?_)
    | (with_reducible refine wpList_ranW (o := ⟨some 49, .slice _ _ _ _ _, _, _, _, _⟩) (by with_unfolding_all rfl) (.slice Y t cy) _ (exec_upto Tryd.underlying64 u8_one (Nat.le_trans (Nat.le_of_lt HU.out.2.2.2) (by have := OY.fits.1; rw [sgB_length, HK.out.2.1, HK.out.2.2.1] at this; exact this)) rfl rfl rfl) ?_)
    | (go_at_call 34; with_reducible refine Calls.mono (Decode_short Y t cy HU.out.2.2.2 w8) ?_
       rintro e w9 ⟨rfl, m9⟩
       replace mm := mm.then m9
       clear m9)
    | (with_reducible refine wpList_allocs (o := ⟨some 12, .alloc 50, _, _, _, _⟩) rfl 50 rfl _ zero50 ?_; intro y12 hy12 my12 zy12)
    | (with_reducible refine wpList_storesAll (o := ⟨none, .store 50 (.tmp 12) (.tmp 51), _, _, _, _⟩) rfl 50 (.tmp 12) (.tmp 51) rfl rfl w9.heap.size (sgc 0 none 0 0 none 0 0) rfl (.agg (sgc 0 none 0 0 none 0 0).toArray) rfl rfl 50 _ hy12 rfl (sgc_one _ _ _ _ _ _ _) (size50s _ _ _ _ _ _ _) ?_
       intro wa h12 m12 z12
       have mx : Mod [] w9 wa := my12.trans m12 (by intro i hi h; simp at h; omega)
       replace mm := mm.then mx
       obtain ⟨b12, hq12⟩ : ∃ q, q = w9.heap.size := ⟨_, rfl⟩
       rw [← hq12] at h12 ⊢
       clear hy12 my12 zy12 m12 z12 mx hq12)
    | (with_reducible refine wpList_ranW (o := ⟨some 58, .call _, _, _, _, _⟩) (by with_unfolding_all rfl) (.int .i64 2241) _ (exec_min rfl rfl rfl HB.out.1) ?_)
    | (with_reducible refine wpList_ranW (o := ⟨some 59, .slice _ _ _ _ _, _, _, _, _⟩) (by with_unfolding_all rfl) (.slice (some ⟨g, o, none⟩) 2241 cb) _ (exec_upto Tryd.underlying64 u8_one HB.out.2 rfl rfl rfl) ?_)
    | (go_at_call 34; with_reducible refine Calls.mono (DD wa mm) ?_
       rintro e wb ⟨A8, c8, B8, d8, rfl, O8, P8, mb, _, _⟩
       replace mm := mm.then mb
       clear mb)
    | (with_reducible refine wpList_allocs (o := ⟨some 14, .alloc 50, _, _, _, _⟩) rfl 50 rfl _ zero50 ?_; intro y14 hy14 my14 zy14)
    | (with_reducible refine wpList_storesAll (o := ⟨none, .store 50 (.tmp 14) (.tmp 63), _, _, _, _⟩) rfl 50 (.tmp 14) (.tmp 63) rfl rfl wb.heap.size (sgc (kx : Int) A8 67 c8 B8 3 d8) rfl (.agg (sgc (kx : Int) A8 67 c8 B8 3 d8).toArray) rfl rfl 50 _ hy14 rfl (sgc_one _ _ _ _ _ _ _) (size50s _ _ _ _ _ _ _) ?_
       intro wc h14 m14 z14
       have mx : Mod [] wb wc := my14.trans m14 (by intro i hi h; simp at h; omega)
       replace O8 := O8.keep mx (by simp)
       replace P8 := P8.keep mx (by simp)
       replace mm := mm.then mx
       obtain ⟨b14, hq14⟩ : ∃ q, q = wb.heap.size := ⟨_, rfl⟩
       rw [← hq14] at h14 ⊢
       clear hy14 my14 zy14 m14 z14 mx hq14)
    | (with_reducible refine wpList_loads (o := ⟨some 71, .load 50 (.tmp 14), _, _, _, _⟩) rfl 50 (.tmp 14) rfl b14 0 _ rfl (Cells.of_holds h14) _ Tryd.underlying50 rfl (size50s _ _ _ _ _ _ _) (.agg (sgc (kx : Int) A8 67 c8 B8 3 d8).toArray) rfl ?_)
    | (go_at_call 30; with_reducible refine Calls.mono (EZ A8 c8 B8 d8 wc O8.cells P8.cells O8.lt P8.lt) ?_
       rintro e wd ⟨Z, cz, rfl, OZ, md⟩
       replace mm := mm.then md
       clear md)
    | (go_at_call 32; with_reducible refine Calls.mono (BE Z cz wd mm OZ.reads) ?_
       rintro e we ⟨rfl, rfl⟩))
  go_ret
  exact ⟨rfl, mm⟩
theorem mayB_is {i : Int} {n m : Nat} (h : mayB i n m = true) : ∃ k : Nat, i = (k : Int) ∧ k < 8 ∧ n = 67 ∧ m = 3 := by
  unfold mayB lfOk at h
  simp at h
  obtain ⟨h1, h2, h3⟩ := h
  exact ⟨i.toNat, by omega, by omega, h2, h3⟩
theorem Reads.pre {w : World} {A : Option Addr} {l : List UInt8} (k : Nat) (h : Reads w A l) : Reads w A (l.take k) := fun i hi => by
  rw [List.length_take] at hi
  obtain ⟨g, o, e, hh⟩ := h i (by omega)
  exact ⟨g, o, e, by rw [hh, List.getElem_take]⟩
theorem cell_lt {w : World} {g o : Nat} {u : Value} (h : w.cell? ⟨g, o, none⟩ = some u) : g < w.heap.size := by
  unfold World.cell? at h
  cases hh : w.heap[g]? with
  | none => simp [hh] at h
  | some ob => exact (Array.getElem?_eq_some_iff.1 hh).1
theorem back_w (r : Sgn) (D : Option Addr) (bs : List UInt8) (cb : Nat) (z : Int) (hcb : bs.length ≤ cb) (hcm : cb ≤ maxLen) (_ : (Lit.int .i64 z).wf = true) (w : World) (ok : r.ok w) (RD : Reads w D bs) (Gl : Glob w) :
    Calls Tryd.prog 9 #[.agg (sgv r).toArray, .slice D bs.length cb, .int .i64 z] w fun r w' => r = .returned (.bool true) ∧ Mod [] w w' := by
  obtain ⟨i, A, c, l, B, d, m⟩ := r
  obtain ⟨⟨hc, _, RA⟩, hd, _, RB⟩ := ok
  show Calls Tryd.prog 9 #[.agg (sgc i A l.length c B m.length d).toArray, .slice D bs.length cb, .int .i64 z] w _
  have hR := RD.pre 2300
  have hlen : (bs.take 2300).length = min 2300 bs.length := List.length_take
  obtain ⟨n, hn⟩ : ∃ n, n = bs.length := ⟨_, rfl⟩
  rw [← hn] at hcb hlen ⊢
  clear hn
  have key : ∀ (P : Prop), (∀ nb : Nat, (nb : Int) = min (n : Int) 2300 → nb ≤ cb → nb < 2241 → P) → (∀ nb : Nat, (nb : Int) = min (n : Int) 2300 → nb ≤ cb → 2241 < nb → P) → (∀ g o x (ys : List UInt8), D = some ⟨g, o, none⟩ → (2241 : Int) = min (n : Int) 2300 → 2241 ≤ cb → ys.length = 2240 → Reads w (some ⟨g, o, none⟩) (x :: ys) → g < w.heap.size → P) → P := by
    intro P h1 h2 h3
    by_cases s1 : min n 2300 < 2241
    · exact h1 (min n 2300) (by omega) (by omega) s1
    by_cases s2 : 2241 < min n 2300
    · exact h2 (min n 2300) (by omega) (by omega) s2
    have hs : min n 2300 = 2241 := by omega
    generalize bs.take 2300 = ys at hR hlen
    rcases ys with _ | ⟨x, ys⟩
    · simp only [List.length_nil] at hlen; omega
    · obtain ⟨g, o, e, hh⟩ := hR 0 (by simp)
      subst e
      exact h3 g o x ys rfl (by omega) (by omega) (by simp only [List.length_cons] at hlen; omega) hR (cell_lt hh)
  obtain ⟨n1, hn1⟩ : ∃ n, n = (l.take 70).length := ⟨_, rfl⟩
  obtain ⟨n2, hn2⟩ : ∃ n, n = (m.take 5).length := ⟨_, rfl⟩
  cases hb : mayB i n1 n2 with
  | false =>
    refine key _ (fun nb h1 h2 h3 => ?_) (fun nb h1 h2 h3 => ?_) fun g o x ys e h1 h2 h3 h4 h5 => ?_
    · exact back_no_short A _ c l B _ d m rfl rfl hc hd w Gl RA RB i n1 n2 hn1 hn2 hb D n cb nb h1 h2 h3 z
    · exact back_no_long A _ c l B _ d m rfl rfl hc hd w Gl RA RB i n1 n2 hn1 hn2 hb D n cb nb h1 h2 h3 z
    · subst e
      by_cases hx : x.toNat < 8
      · exact back_no_yes A _ c l B _ d m rfl rfl hc hd w Gl RA RB i n1 n2 hn1 hn2 hb g o n cb x ys h1 h2 hx h3 h4 h5 z
      · exact back_no_leaf A _ c l B _ d m rfl rfl hc hd w Gl RA RB i n1 n2 hn1 hn2 hb g o n cb x ys h1 h2 (by omega) h4 z
  | true =>
    obtain ⟨k, rfl, hk, h67, h3'⟩ := mayB_is hb
    rw [hn1] at h67
    rw [hn2] at h3'
    refine key _ (fun nb h1 h2 h3 => ?_) (fun nb h1 h2 h3 => ?_) fun g o x ys e h1 h2 h3 h4 h5 => ?_
    · exact back_yes_short A _ c l B _ d m rfl rfl hc hd w Gl RA RB k hk h67 h3' D n cb nb h1 h2 h3 z
    · exact back_yes_long A _ c l B _ d m rfl rfl hc hd w Gl RA RB k hk h67 h3' D n cb nb h1 h2 h3 z
    · subst e
      by_cases hx : x.toNat < 8
      · exact back_yes_yes A _ c l B _ d m rfl rfl hc hd w Gl RA RB k hk h67 h3' g o n cb x ys h1 h2 hx h3 h4 h5 z
      · exact back_yes_leaf A _ c l B _ d m rfl rfl hc hd w Gl RA RB k hk h67 h3' g o n cb x ys h1 h2 (by omega) h4 z
end Go.Proofs.YtbacmeaeehhhfaaDoor
