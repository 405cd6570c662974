/-
  A term is read, and something is wrong. My own work.
-/
import Derived.Test.YtchanildogjhgaaDoorTt3
namespace Go.Proofs.YtchanildogjhgaaDoor
open Go.RowKit Go.Shelf
set_option linter.unusedVariables false
set_option linter.unusedSimpArgs false
set_option maxRecDepth 1000000 in
set_option maxHeartbeats 4000000 in
theorem terr_small (q g b : Nat) (sz deep : Int) (w : World) (h : RdT w q g b ([]) 0 sz) (G : Glob w) (h0q : 0 ≠ q) (h0g : 0 ≠ g) (hs0 : 0 ≤ sz) (hs1 : sz ≤ 1200) (hd0 : 0 ≤ deep) (hd61 : deep ≤ 61) :
    Calls Tryd.prog 98 #[.pointer (some ⟨q, 0, none⟩), .int .i64 deep] w fun e w' => e = boom 7 ∧ Mod [q, g] w w' := by
  have GL : ∀ {v : World} {b4 b5 : Nat} {c : List Value} {l : List UInt8} {z : Int}, TSt w v q g b b4 b5 c l z → Glob v := fun st => G.mod st.mm (by simp; exact ⟨h0q, h0g⟩)
  have HQ := Lib.hid (And.intro h G)
  clear h G h0q h0g
  go_enter Tryd.func98, Tryd.ntmps98
  go_wp2_with (first
    | (with_reducible refine wpList_allocs (o := ⟨some 4, .alloc 24, _, _, _, _⟩) rfl 24 rfl _ zero24 ?_; intro y4 hy4 my4 zy4
       have HZ4 := Lib.hid zy4
       obtain ⟨b4, hq4⟩ : ∃ b, b = w.heap.size := ⟨_, rfl⟩
       rw [← hq4] at hy4 ⊢
       have HB4 := Lib.hid hq4
       have rd4 := HQ.out.1.keep my4 (by simp) (by simp) (by simp)
       clear zy4 hq4)
    | (go_at_call 111; refine (small_no q g b sz y4 rd4).mono ?_
       rintro e w1 ⟨rfl, m1⟩))
  exact ⟨rfl, rfl, my4.pre (m1.wk (by intro i _ hi; simp at hi ⊢; exact .inr hi))⟩
set_option maxRecDepth 1000000 in
set_option maxHeartbeats 4000000 in
theorem terr_c1 (q g b : Nat) (x : UInt8) (r : List UInt8) (sz deep : Int) (w : World) (h : RdT w q g b (x :: r) 0 sz) (G : Glob w) (h0q : 0 ≠ q) (h0g : 0 ≠ g) (hs0 : 0 ≤ sz) (hs1 : sz ≤ 1200) (hd0 : 0 ≤ deep) (hd61 : deep ≤ 61) (c1 : (flds (x.toNat : Int) != 0) = false) :
    Calls Tryd.prog 98 #[.pointer (some ⟨q, 0, none⟩), .int .i64 deep] w fun e w' => e = boom 150 ∧ Mod [q, g] w w' := by
  have GL : ∀ {v : World} {b4 b5 : Nat} {c : List Value} {l : List UInt8} {z : Int}, TSt w v q g b b4 b5 c l z → Glob v := fun st => G.mod st.mm (by simp; exact ⟨h0q, h0g⟩)
  have HQ := Lib.hid (And.intro h G)
  have FC := fun v (gv : Glob v) => fieldsOf_c (x.toNat : Int) v gv
  have MC := fun u s v => mayHave_c (x.toNat : Int) u 0 s none 0 0 v
  obtain ⟨F, hF⟩ : ∃ F, F = flds (x.toNat : Int) := ⟨_, rfl⟩
  rw [← hF] at FC MC c1
  have hx8 := Tm.u8_le x
  clear h G h0q h0g hF
  go_enter Tryd.func98, Tryd.ntmps98
  go_wp2_with (first
    | (with_reducible refine wpList_allocs (o := ⟨some 4, .alloc 24, _, _, _, _⟩) rfl 24 rfl _ zero24 ?_; intro y4 hy4 my4 zy4
       have HZ4 := Lib.hid zy4
       obtain ⟨b4, hq4⟩ : ∃ b, b = w.heap.size := ⟨_, rfl⟩
       rw [← hq4] at hy4 ⊢
       have HB4 := Lib.hid hq4
       have rd4 := HQ.out.1.keep my4 (by simp) (by simp) (by simp)
       clear zy4 hq4)
    | (go_at_call 111; refine (small_yes q g b x r sz y4 rd4).mono ?_
       rintro e w1 ⟨rfl, rd1, m1⟩
       have hy1 := hy4.keep m1 (by have := HQ.out.1.lt; have := HB4.out; simp; omega)
       have mq1 : Mod [q, g] w w1 := my4.pre (m1.wk (by intro i _ hi; simp at hi ⊢; exact .inr hi))
       have sz1 := m1.size
       clear hy4 rd4 my4 m1)
    | (with_reducible refine wpList_ran (o := ⟨some 9, .build 24 _, _, _, _, _⟩) rfl (.agg (tmc (x.toNat : Int) 0 0 ⟨#[]⟩ none 0 0).toArray) (exec_bA rfl rfl) ?_)
    | (with_reducible refine wpList_allocs (o := ⟨some 5, .alloc 24, _, _, _, _⟩) rfl 24 rfl _ zero24 ?_; intro y5 hy5 my5 zy5
       clear zy5)
    | (with_reducible refine wpList_storesAll (o := ⟨none, .store 24 (.tmp 5) (.tmp 9), _, _, _, _⟩) rfl 24 (.tmp 5) (.tmp 9) rfl rfl w1.heap.size (tmc (x.toNat : Int) 0 0 ⟨#[]⟩ none 0 0) rfl (.agg (tmc (x.toNat : Int) 0 0 ⟨#[]⟩ none 0 0).toArray) rfl rfl 24 _ hy5 (zlen (tmc_len _ _ _ _ _ _ _)) (tmc_one _ _ _ _ _ _ _) (size24t _ _ _ _ _ _ _) ?_
       intro u1 hu1 mu1 zu1
       clear zu1
       obtain ⟨b5, hq5⟩ : ∃ b, b = w1.heap.size := ⟨_, rfl⟩
       rw [← hq5] at hu1 mu1 ⊢
       have mm1 : Mod [] w1 u1 := my5.trans mu1 (by intro i hi h; simp at h; omega)
       have st1 : TSt w u1 q g b b4 b5 (tmc (x.toNat : Int) 0 0 ⟨#[]⟩ none 0 0) r sz := by
         have l1 := HQ.out.1.lt
         have l2 := HB4.out
         have l3 := HZ4.out
         have l4 := hy1.lt
         exact ⟨rd1.keep mm1 (by simp) (by simp) (by simp), hy1.keep mm1 (by simp), hu1, mq1.then mm1, by omega, by have := mq1.size; omega, by omega, l1.1, l1.2.1, l1.2.2⟩
       clear hy1 rd1 mq1 sz1 hy5 my5 mu1 mm1 hu1 hq5
       have e0 := st1.h5.cell 0
       simp only [tmc, List.getElem?_cons_succ, List.getElem?_cons_zero] at e0)
    | (go_at_call 91; refine (FC _ (GL st1)).mono ?_
       rintro e wz ⟨rfl, rfl⟩
       clear e0
       have eq0 := st1.rd.hq.cell 0
       have eq1 := st1.rd.hq.cell 1
       simp only [List.getElem?_cons_succ, List.getElem?_cons_zero] at eq0 eq1)
    | (with_reducible refine wpList_bump st1 rfl (.tmp 19) (.tmp 17) rfl rfl rfl (sz + 1) rfl ?_
       intro v2 st2
       clear eq0 eq1 st1
       have eq0 := st2.rd.hq.cell 0
       have eq1 := st2.rd.hq.cell 1
       simp only [List.getElem?_cons_succ, List.getElem?_cons_zero] at eq0 eq1)
    | (go_at_call 112; (with_reducible refine Calls.mono (need_no _ _) ?_); rintro e wz ⟨rfl, rfl⟩))
  exact ⟨rfl, rfl, st2.mm⟩
set_option maxRecDepth 1000000 in
set_option maxHeartbeats 4000000 in
theorem terr_c2 (q g b : Nat) (x : UInt8) (r : List UInt8) (sz deep : Int) (w : World) (h : RdT w q g b (x :: r) 0 sz) (G : Glob w) (h0q : 0 ≠ q) (h0g : 0 ≠ g) (hs0 : 0 ≤ sz) (hs1 : sz ≤ 1200) (hd0 : 0 ≤ deep) (hd61 : deep ≤ 61) (c1 : (flds (x.toNat : Int) != 0) = true) (c2 : decide (sz + 1 ≤ 1200) = false) :
    Calls Tryd.prog 98 #[.pointer (some ⟨q, 0, none⟩), .int .i64 deep] w fun e w' => e = boom 150 ∧ Mod [q, g] w w' := by
  have GL : ∀ {v : World} {b4 b5 : Nat} {c : List Value} {l : List UInt8} {z : Int}, TSt w v q g b b4 b5 c l z → Glob v := fun st => G.mod st.mm (by simp; exact ⟨h0q, h0g⟩)
  have HQ := Lib.hid (And.intro h G)
  have FC := fun v (gv : Glob v) => fieldsOf_c (x.toNat : Int) v gv
  have MC := fun u s v => mayHave_c (x.toNat : Int) u 0 s none 0 0 v
  obtain ⟨F, hF⟩ : ∃ F, F = flds (x.toNat : Int) := ⟨_, rfl⟩
  rw [← hF] at FC MC c1
  have hx8 := Tm.u8_le x
  clear h G h0q h0g hF
  go_enter Tryd.func98, Tryd.ntmps98
  go_wp2_with (first
    | (with_reducible refine wpList_allocs (o := ⟨some 4, .alloc 24, _, _, _, _⟩) rfl 24 rfl _ zero24 ?_; intro y4 hy4 my4 zy4
       have HZ4 := Lib.hid zy4
       obtain ⟨b4, hq4⟩ : ∃ b, b = w.heap.size := ⟨_, rfl⟩
       rw [← hq4] at hy4 ⊢
       have HB4 := Lib.hid hq4
       have rd4 := HQ.out.1.keep my4 (by simp) (by simp) (by simp)
       clear zy4 hq4)
    | (go_at_call 111; refine (small_yes q g b x r sz y4 rd4).mono ?_
       rintro e w1 ⟨rfl, rd1, m1⟩
       have hy1 := hy4.keep m1 (by have := HQ.out.1.lt; have := HB4.out; simp; omega)
       have mq1 : Mod [q, g] w w1 := my4.pre (m1.wk (by intro i _ hi; simp at hi ⊢; exact .inr hi))
       have sz1 := m1.size
       clear hy4 rd4 my4 m1)
    | (with_reducible refine wpList_ran (o := ⟨some 9, .build 24 _, _, _, _, _⟩) rfl (.agg (tmc (x.toNat : Int) 0 0 ⟨#[]⟩ none 0 0).toArray) (exec_bA rfl rfl) ?_)
    | (with_reducible refine wpList_allocs (o := ⟨some 5, .alloc 24, _, _, _, _⟩) rfl 24 rfl _ zero24 ?_; intro y5 hy5 my5 zy5
       clear zy5)
    | (with_reducible refine wpList_storesAll (o := ⟨none, .store 24 (.tmp 5) (.tmp 9), _, _, _, _⟩) rfl 24 (.tmp 5) (.tmp 9) rfl rfl w1.heap.size (tmc (x.toNat : Int) 0 0 ⟨#[]⟩ none 0 0) rfl (.agg (tmc (x.toNat : Int) 0 0 ⟨#[]⟩ none 0 0).toArray) rfl rfl 24 _ hy5 (zlen (tmc_len _ _ _ _ _ _ _)) (tmc_one _ _ _ _ _ _ _) (size24t _ _ _ _ _ _ _) ?_
       intro u1 hu1 mu1 zu1
       clear zu1
       obtain ⟨b5, hq5⟩ : ∃ b, b = w1.heap.size := ⟨_, rfl⟩
       rw [← hq5] at hu1 mu1 ⊢
       have mm1 : Mod [] w1 u1 := my5.trans mu1 (by intro i hi h; simp at h; omega)
       have st1 : TSt w u1 q g b b4 b5 (tmc (x.toNat : Int) 0 0 ⟨#[]⟩ none 0 0) r sz := by
         have l1 := HQ.out.1.lt
         have l2 := HB4.out
         have l3 := HZ4.out
         have l4 := hy1.lt
         exact ⟨rd1.keep mm1 (by simp) (by simp) (by simp), hy1.keep mm1 (by simp), hu1, mq1.then mm1, by omega, by have := mq1.size; omega, by omega, l1.1, l1.2.1, l1.2.2⟩
       clear hy1 rd1 mq1 sz1 hy5 my5 mu1 mm1 hu1 hq5
       have e0 := st1.h5.cell 0
       simp only [tmc, List.getElem?_cons_succ, List.getElem?_cons_zero] at e0)
    | (go_at_call 91; refine (FC _ (GL st1)).mono ?_
       rintro e wz ⟨rfl, rfl⟩
       clear e0
       have eq0 := st1.rd.hq.cell 0
       have eq1 := st1.rd.hq.cell 1
       simp only [List.getElem?_cons_succ, List.getElem?_cons_zero] at eq0 eq1)
    | (with_reducible refine wpList_bump st1 rfl (.tmp 19) (.tmp 17) rfl rfl rfl (sz + 1) rfl ?_
       intro v2 st2
       clear eq0 eq1 st1
       have eq0 := st2.rd.hq.cell 0
       have eq1 := st2.rd.hq.cell 1
       simp only [List.getElem?_cons_succ, List.getElem?_cons_zero] at eq0 eq1)
    | (go_at_call 112; (with_reducible refine Calls.mono (need_no _ _) ?_); rintro e wz ⟨rfl, rfl⟩))
  exact ⟨rfl, rfl, st2.mm⟩
set_option maxRecDepth 1000000 in
set_option maxHeartbeats 4000000 in
theorem terr_c3 (q g b : Nat) (x : UInt8) (r : List UInt8) (sz deep : Int) (w : World) (h : RdT w q g b (x :: r) 0 sz) (G : Glob w) (h0q : 0 ≠ q) (h0g : 0 ≠ g) (hs0 : 0 ≤ sz) (hs1 : sz ≤ 1200) (hd0 : 0 ≤ deep) (hd61 : deep ≤ 61) (c1 : (flds (x.toNat : Int) != 0) = true) (c2 : decide (sz + 1 ≤ 1200) = true) (c3 : decide (deep ≤ 60) = false) :
    Calls Tryd.prog 98 #[.pointer (some ⟨q, 0, none⟩), .int .i64 deep] w fun e w' => e = boom 150 ∧ Mod [q, g] w w' := by
  have GL : ∀ {v : World} {b4 b5 : Nat} {c : List Value} {l : List UInt8} {z : Int}, TSt w v q g b b4 b5 c l z → Glob v := fun st => G.mod st.mm (by simp; exact ⟨h0q, h0g⟩)
  have HQ := Lib.hid (And.intro h G)
  have FC := fun v (gv : Glob v) => fieldsOf_c (x.toNat : Int) v gv
  have MC := fun u s v => mayHave_c (x.toNat : Int) u 0 s none 0 0 v
  obtain ⟨F, hF⟩ : ∃ F, F = flds (x.toNat : Int) := ⟨_, rfl⟩
  rw [← hF] at FC MC c1
  have hx8 := Tm.u8_le x
  clear h G h0q h0g hF
  go_enter Tryd.func98, Tryd.ntmps98
  go_wp2_with (first
    | (with_reducible refine wpList_allocs (o := ⟨some 4, .alloc 24, _, _, _, _⟩) rfl 24 rfl _ zero24 ?_; intro y4 hy4 my4 zy4
       have HZ4 := Lib.hid zy4
       obtain ⟨b4, hq4⟩ : ∃ b, b = w.heap.size := ⟨_, rfl⟩
       rw [← hq4] at hy4 ⊢
       have HB4 := Lib.hid hq4
       have rd4 := HQ.out.1.keep my4 (by simp) (by simp) (by simp)
       clear zy4 hq4)
    | (go_at_call 111; refine (small_yes q g b x r sz y4 rd4).mono ?_
       rintro e w1 ⟨rfl, rd1, m1⟩
       have hy1 := hy4.keep m1 (by have := HQ.out.1.lt; have := HB4.out; simp; omega)
       have mq1 : Mod [q, g] w w1 := my4.pre (m1.wk (by intro i _ hi; simp at hi ⊢; exact .inr hi))
       have sz1 := m1.size
       clear hy4 rd4 my4 m1)
    | (with_reducible refine wpList_ran (o := ⟨some 9, .build 24 _, _, _, _, _⟩) rfl (.agg (tmc (x.toNat : Int) 0 0 ⟨#[]⟩ none 0 0).toArray) (exec_bA rfl rfl) ?_)
    | (with_reducible refine wpList_allocs (o := ⟨some 5, .alloc 24, _, _, _, _⟩) rfl 24 rfl _ zero24 ?_; intro y5 hy5 my5 zy5
       clear zy5)
    | (with_reducible refine wpList_storesAll (o := ⟨none, .store 24 (.tmp 5) (.tmp 9), _, _, _, _⟩) rfl 24 (.tmp 5) (.tmp 9) rfl rfl w1.heap.size (tmc (x.toNat : Int) 0 0 ⟨#[]⟩ none 0 0) rfl (.agg (tmc (x.toNat : Int) 0 0 ⟨#[]⟩ none 0 0).toArray) rfl rfl 24 _ hy5 (zlen (tmc_len _ _ _ _ _ _ _)) (tmc_one _ _ _ _ _ _ _) (size24t _ _ _ _ _ _ _) ?_
       intro u1 hu1 mu1 zu1
       clear zu1
       obtain ⟨b5, hq5⟩ : ∃ b, b = w1.heap.size := ⟨_, rfl⟩
       rw [← hq5] at hu1 mu1 ⊢
       have mm1 : Mod [] w1 u1 := my5.trans mu1 (by intro i hi h; simp at h; omega)
       have st1 : TSt w u1 q g b b4 b5 (tmc (x.toNat : Int) 0 0 ⟨#[]⟩ none 0 0) r sz := by
         have l1 := HQ.out.1.lt
         have l2 := HB4.out
         have l3 := HZ4.out
         have l4 := hy1.lt
         exact ⟨rd1.keep mm1 (by simp) (by simp) (by simp), hy1.keep mm1 (by simp), hu1, mq1.then mm1, by omega, by have := mq1.size; omega, by omega, l1.1, l1.2.1, l1.2.2⟩
       clear hy1 rd1 mq1 sz1 hy5 my5 mu1 mm1 hu1 hq5
       have e0 := st1.h5.cell 0
       simp only [tmc, List.getElem?_cons_succ, List.getElem?_cons_zero] at e0)
    | (go_at_call 91; refine (FC _ (GL st1)).mono ?_
       rintro e wz ⟨rfl, rfl⟩
       clear e0
       have eq0 := st1.rd.hq.cell 0
       have eq1 := st1.rd.hq.cell 1
       simp only [List.getElem?_cons_succ, List.getElem?_cons_zero] at eq0 eq1)
    | (with_reducible refine wpList_bump st1 rfl (.tmp 19) (.tmp 17) rfl rfl rfl (sz + 1) rfl ?_
       intro v2 st2
       clear eq0 eq1 st1
       have eq0 := st2.rd.hq.cell 0
       have eq1 := st2.rd.hq.cell 1
       simp only [List.getElem?_cons_succ, List.getElem?_cons_zero] at eq0 eq1)
    | (go_at_call 112; (with_reducible refine Calls.mono (need_no _ _) ?_); rintro e wz ⟨rfl, rfl⟩))
  exact ⟨rfl, rfl, st2.mm⟩
set_option maxRecDepth 1000000 in
set_option maxHeartbeats 4000000 in
theorem terr_t7 (q g b : Nat) (x : UInt8) (sz deep : Int) (w : World) (h : RdT w q g b ([x]) 0 sz) (G : Glob w) (h0q : 0 ≠ q) (h0g : 0 ≠ g) (hs0 : 0 ≤ sz) (hs1 : sz ≤ 1200) (hd0 : 0 ≤ deep) (hd61 : deep ≤ 61) (c1 : (flds (x.toNat : Int) != 0) = true) (c2 : decide (sz + 1 ≤ 1200) = true) (c3 : decide (deep ≤ 60) = true) (hT : hasB (flds (x.toNat : Int)) 1 = true) :
    Calls Tryd.prog 98 #[.pointer (some ⟨q, 0, none⟩), .int .i64 deep] w fun e w' => e = boom 7 ∧ Mod [q, g] w w' := by
  have GL : ∀ {v : World} {b4 b5 : Nat} {c : List Value} {l : List UInt8} {z : Int}, TSt w v q g b b4 b5 c l z → Glob v := fun st => G.mod st.mm (by simp; exact ⟨h0q, h0g⟩)
  have HQ := Lib.hid (And.intro h G)
  have FC := fun v (gv : Glob v) => fieldsOf_c (x.toNat : Int) v gv
  have MC := fun u s v => mayHave_c (x.toNat : Int) u 0 s none 0 0 v
  obtain ⟨F, hF⟩ : ∃ F, F = flds (x.toNat : Int) := ⟨_, rfl⟩
  rw [← hF] at FC MC c1 hT
  have BT := has_b F 1 true hT
  have hx8 := Tm.u8_le x
  clear h G h0q h0g hF
  go_enter Tryd.func98, Tryd.ntmps98
  go_wp2_with (first
    | (with_reducible refine wpList_allocs (o := ⟨some 4, .alloc 24, _, _, _, _⟩) rfl 24 rfl _ zero24 ?_; intro y4 hy4 my4 zy4
       have HZ4 := Lib.hid zy4
       obtain ⟨b4, hq4⟩ : ∃ b, b = w.heap.size := ⟨_, rfl⟩
       rw [← hq4] at hy4 ⊢
       have HB4 := Lib.hid hq4
       have rd4 := HQ.out.1.keep my4 (by simp) (by simp) (by simp)
       clear zy4 hq4)
    | (go_at_call 111; refine (small_yes q g b x [] sz y4 rd4).mono ?_
       rintro e w1 ⟨rfl, rd1, m1⟩
       have hy1 := hy4.keep m1 (by have := HQ.out.1.lt; have := HB4.out; simp; omega)
       have mq1 : Mod [q, g] w w1 := my4.pre (m1.wk (by intro i _ hi; simp at hi ⊢; exact .inr hi))
       have sz1 := m1.size
       clear hy4 rd4 my4 m1)
    | (with_reducible refine wpList_ran (o := ⟨some 9, .build 24 _, _, _, _, _⟩) rfl (.agg (tmc (x.toNat : Int) 0 0 ⟨#[]⟩ none 0 0).toArray) (exec_bA rfl rfl) ?_)
    | (with_reducible refine wpList_allocs (o := ⟨some 5, .alloc 24, _, _, _, _⟩) rfl 24 rfl _ zero24 ?_; intro y5 hy5 my5 zy5
       clear zy5)
    | (with_reducible refine wpList_storesAll (o := ⟨none, .store 24 (.tmp 5) (.tmp 9), _, _, _, _⟩) rfl 24 (.tmp 5) (.tmp 9) rfl rfl w1.heap.size (tmc (x.toNat : Int) 0 0 ⟨#[]⟩ none 0 0) rfl (.agg (tmc (x.toNat : Int) 0 0 ⟨#[]⟩ none 0 0).toArray) rfl rfl 24 _ hy5 (zlen (tmc_len _ _ _ _ _ _ _)) (tmc_one _ _ _ _ _ _ _) (size24t _ _ _ _ _ _ _) ?_
       intro u1 hu1 mu1 zu1
       clear zu1
       obtain ⟨b5, hq5⟩ : ∃ b, b = w1.heap.size := ⟨_, rfl⟩
       rw [← hq5] at hu1 mu1 ⊢
       have mm1 : Mod [] w1 u1 := my5.trans mu1 (by intro i hi h; simp at h; omega)
       have st1 : TSt w u1 q g b b4 b5 (tmc (x.toNat : Int) 0 0 ⟨#[]⟩ none 0 0) [] sz := by
         have l1 := HQ.out.1.lt
         have l2 := HB4.out
         have l3 := HZ4.out
         have l4 := hy1.lt
         exact ⟨rd1.keep mm1 (by simp) (by simp) (by simp), hy1.keep mm1 (by simp), hu1, mq1.then mm1, by omega, by have := mq1.size; omega, by omega, l1.1, l1.2.1, l1.2.2⟩
       clear hy1 rd1 mq1 sz1 hy5 my5 mu1 mm1 hu1 hq5
       have e0 := st1.h5.cell 0
       simp only [tmc, List.getElem?_cons_succ, List.getElem?_cons_zero] at e0)
    | (go_at_call 91; refine (FC _ (GL st1)).mono ?_
       rintro e wz ⟨rfl, rfl⟩
       clear e0
       have eq0 := st1.rd.hq.cell 0
       have eq1 := st1.rd.hq.cell 1
       simp only [List.getElem?_cons_succ, List.getElem?_cons_zero] at eq0 eq1)
    | (with_reducible refine wpList_bump st1 rfl (.tmp 19) (.tmp 17) rfl rfl rfl (sz + 1) rfl ?_
       intro v2 st2
       clear eq0 eq1 st1
       have eq0 := st2.rd.hq.cell 0
       have eq1 := st2.rd.hq.cell 1
       simp only [List.getElem?_cons_succ, List.getElem?_cons_zero] at eq0 eq1)
    | (go_at_call 112; (with_reducible refine Calls.mono (need_yes _ _) ?_); rintro e wz ⟨rfl, rfl⟩)
    | (go_at_call 94; first | ((with_reducible refine Calls.mono (BT _) ?_); rintro e wz ⟨rfl, rfl⟩))
    | (go_at_call 113; refine (text_no7 q g b (sz + 1) v2 st2.rd).mono ?_; rintro e w3 ⟨rfl, m3⟩))
  exact ⟨rfl, rfl, st2.mm.trans m3 (by intro i _ hi; simp at hi ⊢; exact .inr hi)⟩
set_option maxRecDepth 1000000 in
set_option maxHeartbeats 4000000 in
theorem terr_t150 (q g b : Nat) (x : UInt8) (y : UInt8) (r2 : List UInt8) (sz deep : Int) (w : World) (h : RdT w q g b (x :: y :: r2) 0 sz) (G : Glob w) (h0q : 0 ≠ q) (h0g : 0 ≠ g) (hs0 : 0 ≤ sz) (hs1 : sz ≤ 1200) (hd0 : 0 ≤ deep) (hd61 : deep ≤ 61) (c1 : (flds (x.toNat : Int) != 0) = true) (c2 : decide (sz + 1 ≤ 1200) = true) (c3 : decide (deep ≤ 60) = true) (hT : hasB (flds (x.toNat : Int)) 1 = true) (hy64 : 64 < y.toNat) :
    Calls Tryd.prog 98 #[.pointer (some ⟨q, 0, none⟩), .int .i64 deep] w fun e w' => e = boom 150 ∧ Mod [q, g] w w' := by
  have GL : ∀ {v : World} {b4 b5 : Nat} {c : List Value} {l : List UInt8} {z : Int}, TSt w v q g b b4 b5 c l z → Glob v := fun st => G.mod st.mm (by simp; exact ⟨h0q, h0g⟩)
  have HQ := Lib.hid (And.intro h G)
  have FC := fun v (gv : Glob v) => fieldsOf_c (x.toNat : Int) v gv
  have MC := fun u s v => mayHave_c (x.toNat : Int) u 0 s none 0 0 v
  obtain ⟨F, hF⟩ : ∃ F, F = flds (x.toNat : Int) := ⟨_, rfl⟩
  rw [← hF] at FC MC c1 hT
  have BT := has_b F 1 true hT
  have hx8 := Tm.u8_le x
  clear h G h0q h0g hF
  go_enter Tryd.func98, Tryd.ntmps98
  go_wp2_with (first
    | (with_reducible refine wpList_allocs (o := ⟨some 4, .alloc 24, _, _, _, _⟩) rfl 24 rfl _ zero24 ?_; intro y4 hy4 my4 zy4
       have HZ4 := Lib.hid zy4
       obtain ⟨b4, hq4⟩ : ∃ b, b = w.heap.size := ⟨_, rfl⟩
       rw [← hq4] at hy4 ⊢
       have HB4 := Lib.hid hq4
       have rd4 := HQ.out.1.keep my4 (by simp) (by simp) (by simp)
       clear zy4 hq4)
    | (go_at_call 111; refine (small_yes q g b x (y :: r2) sz y4 rd4).mono ?_
       rintro e w1 ⟨rfl, rd1, m1⟩
       have hy1 := hy4.keep m1 (by have := HQ.out.1.lt; have := HB4.out; simp; omega)
       have mq1 : Mod [q, g] w w1 := my4.pre (m1.wk (by intro i _ hi; simp at hi ⊢; exact .inr hi))
       have sz1 := m1.size
       clear hy4 rd4 my4 m1)
    | (with_reducible refine wpList_ran (o := ⟨some 9, .build 24 _, _, _, _, _⟩) rfl (.agg (tmc (x.toNat : Int) 0 0 ⟨#[]⟩ none 0 0).toArray) (exec_bA rfl rfl) ?_)
    | (with_reducible refine wpList_allocs (o := ⟨some 5, .alloc 24, _, _, _, _⟩) rfl 24 rfl _ zero24 ?_; intro y5 hy5 my5 zy5
       clear zy5)
    | (with_reducible refine wpList_storesAll (o := ⟨none, .store 24 (.tmp 5) (.tmp 9), _, _, _, _⟩) rfl 24 (.tmp 5) (.tmp 9) rfl rfl w1.heap.size (tmc (x.toNat : Int) 0 0 ⟨#[]⟩ none 0 0) rfl (.agg (tmc (x.toNat : Int) 0 0 ⟨#[]⟩ none 0 0).toArray) rfl rfl 24 _ hy5 (zlen (tmc_len _ _ _ _ _ _ _)) (tmc_one _ _ _ _ _ _ _) (size24t _ _ _ _ _ _ _) ?_
       intro u1 hu1 mu1 zu1
       clear zu1
       obtain ⟨b5, hq5⟩ : ∃ b, b = w1.heap.size := ⟨_, rfl⟩
       rw [← hq5] at hu1 mu1 ⊢
       have mm1 : Mod [] w1 u1 := my5.trans mu1 (by intro i hi h; simp at h; omega)
       have st1 : TSt w u1 q g b b4 b5 (tmc (x.toNat : Int) 0 0 ⟨#[]⟩ none 0 0) (y :: r2) sz := by
         have l1 := HQ.out.1.lt
         have l2 := HB4.out
         have l3 := HZ4.out
         have l4 := hy1.lt
         exact ⟨rd1.keep mm1 (by simp) (by simp) (by simp), hy1.keep mm1 (by simp), hu1, mq1.then mm1, by omega, by have := mq1.size; omega, by omega, l1.1, l1.2.1, l1.2.2⟩
       clear hy1 rd1 mq1 sz1 hy5 my5 mu1 mm1 hu1 hq5
       have e0 := st1.h5.cell 0
       simp only [tmc, List.getElem?_cons_succ, List.getElem?_cons_zero] at e0)
    | (go_at_call 91; refine (FC _ (GL st1)).mono ?_
       rintro e wz ⟨rfl, rfl⟩
       clear e0
       have eq0 := st1.rd.hq.cell 0
       have eq1 := st1.rd.hq.cell 1
       simp only [List.getElem?_cons_succ, List.getElem?_cons_zero] at eq0 eq1)
    | (with_reducible refine wpList_bump st1 rfl (.tmp 19) (.tmp 17) rfl rfl rfl (sz + 1) rfl ?_
       intro v2 st2
       clear eq0 eq1 st1
       have eq0 := st2.rd.hq.cell 0
       have eq1 := st2.rd.hq.cell 1
       simp only [List.getElem?_cons_succ, List.getElem?_cons_zero] at eq0 eq1)
    | (go_at_call 112; (with_reducible refine Calls.mono (need_yes _ _) ?_); rintro e wz ⟨rfl, rfl⟩)
    | (go_at_call 94; first | ((with_reducible refine Calls.mono (BT _) ?_); rintro e wz ⟨rfl, rfl⟩))
    | (go_at_call 113; refine (text_no150 q g b y r2 (sz + 1) v2 st2.rd hy64).mono ?_; rintro e w3 ⟨rfl, m3⟩))
  exact ⟨rfl, rfl, st2.mm.trans m3 (by intro i _ hi; simp at hi ⊢; exact .inr hi)⟩
set_option maxRecDepth 1000000 in
set_option maxHeartbeats 4000000 in
theorem terr_t7b (q g b : Nat) (x : UInt8) (y : UInt8) (r2 : List UInt8) (sz deep : Int) (w : World) (h : RdT w q g b (x :: y :: r2) 0 sz) (G : Glob w) (h0q : 0 ≠ q) (h0g : 0 ≠ g) (hs0 : 0 ≤ sz) (hs1 : sz ≤ 1200) (hd0 : 0 ≤ deep) (hd61 : deep ≤ 61) (c1 : (flds (x.toNat : Int) != 0) = true) (c2 : decide (sz + 1 ≤ 1200) = true) (c3 : decide (deep ≤ 60) = true) (hT : hasB (flds (x.toNat : Int)) 1 = true) (hy64 : y.toNat ≤ 64) (hyl : r2.length < y.toNat) :
    Calls Tryd.prog 98 #[.pointer (some ⟨q, 0, none⟩), .int .i64 deep] w fun e w' => e = boom 7 ∧ Mod [q, g] w w' := by
  have GL : ∀ {v : World} {b4 b5 : Nat} {c : List Value} {l : List UInt8} {z : Int}, TSt w v q g b b4 b5 c l z → Glob v := fun st => G.mod st.mm (by simp; exact ⟨h0q, h0g⟩)
  have HQ := Lib.hid (And.intro h G)
  have FC := fun v (gv : Glob v) => fieldsOf_c (x.toNat : Int) v gv
  have MC := fun u s v => mayHave_c (x.toNat : Int) u 0 s none 0 0 v
  obtain ⟨F, hF⟩ : ∃ F, F = flds (x.toNat : Int) := ⟨_, rfl⟩
  rw [← hF] at FC MC c1 hT
  have BT := has_b F 1 true hT
  have hx8 := Tm.u8_le x
  clear h G h0q h0g hF
  go_enter Tryd.func98, Tryd.ntmps98
  go_wp2_with (first
    | (with_reducible refine wpList_allocs (o := ⟨some 4, .alloc 24, _, _, _, _⟩) rfl 24 rfl _ zero24 ?_; intro y4 hy4 my4 zy4
       have HZ4 := Lib.hid zy4
       obtain ⟨b4, hq4⟩ : ∃ b, b = w.heap.size := ⟨_, rfl⟩
       rw [← hq4] at hy4 ⊢
       have HB4 := Lib.hid hq4
       have rd4 := HQ.out.1.keep my4 (by simp) (by simp) (by simp)
       clear zy4 hq4)
    | (go_at_call 111; refine (small_yes q g b x (y :: r2) sz y4 rd4).mono ?_
       rintro e w1 ⟨rfl, rd1, m1⟩
       have hy1 := hy4.keep m1 (by have := HQ.out.1.lt; have := HB4.out; simp; omega)
       have mq1 : Mod [q, g] w w1 := my4.pre (m1.wk (by intro i _ hi; simp at hi ⊢; exact .inr hi))
       have sz1 := m1.size
       clear hy4 rd4 my4 m1)
    | (with_reducible refine wpList_ran (o := ⟨some 9, .build 24 _, _, _, _, _⟩) rfl (.agg (tmc (x.toNat : Int) 0 0 ⟨#[]⟩ none 0 0).toArray) (exec_bA rfl rfl) ?_)
    | (with_reducible refine wpList_allocs (o := ⟨some 5, .alloc 24, _, _, _, _⟩) rfl 24 rfl _ zero24 ?_; intro y5 hy5 my5 zy5
       clear zy5)
    | (with_reducible refine wpList_storesAll (o := ⟨none, .store 24 (.tmp 5) (.tmp 9), _, _, _, _⟩) rfl 24 (.tmp 5) (.tmp 9) rfl rfl w1.heap.size (tmc (x.toNat : Int) 0 0 ⟨#[]⟩ none 0 0) rfl (.agg (tmc (x.toNat : Int) 0 0 ⟨#[]⟩ none 0 0).toArray) rfl rfl 24 _ hy5 (zlen (tmc_len _ _ _ _ _ _ _)) (tmc_one _ _ _ _ _ _ _) (size24t _ _ _ _ _ _ _) ?_
       intro u1 hu1 mu1 zu1
       clear zu1
       obtain ⟨b5, hq5⟩ : ∃ b, b = w1.heap.size := ⟨_, rfl⟩
       rw [← hq5] at hu1 mu1 ⊢
       have mm1 : Mod [] w1 u1 := my5.trans mu1 (by intro i hi h; simp at h; omega)
       have st1 : TSt w u1 q g b b4 b5 (tmc (x.toNat : Int) 0 0 ⟨#[]⟩ none 0 0) (y :: r2) sz := by
         have l1 := HQ.out.1.lt
         have l2 := HB4.out
         have l3 := HZ4.out
         have l4 := hy1.lt
         exact ⟨rd1.keep mm1 (by simp) (by simp) (by simp), hy1.keep mm1 (by simp), hu1, mq1.then mm1, by omega, by have := mq1.size; omega, by omega, l1.1, l1.2.1, l1.2.2⟩
       clear hy1 rd1 mq1 sz1 hy5 my5 mu1 mm1 hu1 hq5
       have e0 := st1.h5.cell 0
       simp only [tmc, List.getElem?_cons_succ, List.getElem?_cons_zero] at e0)
    | (go_at_call 91; refine (FC _ (GL st1)).mono ?_
       rintro e wz ⟨rfl, rfl⟩
       clear e0
       have eq0 := st1.rd.hq.cell 0
       have eq1 := st1.rd.hq.cell 1
       simp only [List.getElem?_cons_succ, List.getElem?_cons_zero] at eq0 eq1)
    | (with_reducible refine wpList_bump st1 rfl (.tmp 19) (.tmp 17) rfl rfl rfl (sz + 1) rfl ?_
       intro v2 st2
       clear eq0 eq1 st1
       have eq0 := st2.rd.hq.cell 0
       have eq1 := st2.rd.hq.cell 1
       simp only [List.getElem?_cons_succ, List.getElem?_cons_zero] at eq0 eq1)
    | (go_at_call 112; (with_reducible refine Calls.mono (need_yes _ _) ?_); rintro e wz ⟨rfl, rfl⟩)
    | (go_at_call 94; first | ((with_reducible refine Calls.mono (BT _) ?_); rintro e wz ⟨rfl, rfl⟩))
    | (go_at_call 113; refine (text_no7b q g b y r2 (sz + 1) v2 st2.rd hy64 hyl).mono ?_; rintro e w3 ⟨rfl, m3⟩))
  exact ⟨rfl, rfl, st2.mm.trans m3 (by intro i _ hi; simp at hi ⊢; exact .inr hi)⟩
set_option maxRecDepth 1000000 in
set_option maxHeartbeats 4000000 in
theorem terr_u7 (q g b : Nat) (x : UInt8) (sz deep : Int) (w : World) (h : RdT w q g b ([x]) 0 sz) (G : Glob w) (h0q : 0 ≠ q) (h0g : 0 ≠ g) (hs0 : 0 ≤ sz) (hs1 : sz ≤ 1200) (hd0 : 0 ≤ deep) (hd61 : deep ≤ 61) (c1 : (flds (x.toNat : Int) != 0) = true) (c2 : decide (sz + 1 ≤ 1200) = true) (c3 : decide (deep ≤ 60) = true) (hT : hasB (flds (x.toNat : Int)) 1 = false) (hU : hasB (flds (x.toNat : Int)) 2 = true) :
    Calls Tryd.prog 98 #[.pointer (some ⟨q, 0, none⟩), .int .i64 deep] w fun e w' => e = boom 7 ∧ Mod [q, g] w w' := by
  have GL : ∀ {v : World} {b4 b5 : Nat} {c : List Value} {l : List UInt8} {z : Int}, TSt w v q g b b4 b5 c l z → Glob v := fun st => G.mod st.mm (by simp; exact ⟨h0q, h0g⟩)
  have HQ := Lib.hid (And.intro h G)
  have FC := fun v (gv : Glob v) => fieldsOf_c (x.toNat : Int) v gv
  have MC := fun u s v => mayHave_c (x.toNat : Int) u 0 s none 0 0 v
  obtain ⟨F, hF⟩ : ∃ F, F = flds (x.toNat : Int) := ⟨_, rfl⟩
  rw [← hF] at FC MC c1 hT hU
  have BT := has_b F 1 false hT
  have BU := has_b F 2 true hU
  have hx8 := Tm.u8_le x
  clear h G h0q h0g hF
  go_enter Tryd.func98, Tryd.ntmps98
  go_wp2_with (first
    | (with_reducible refine wpList_allocs (o := ⟨some 4, .alloc 24, _, _, _, _⟩) rfl 24 rfl _ zero24 ?_; intro y4 hy4 my4 zy4
       have HZ4 := Lib.hid zy4
       obtain ⟨b4, hq4⟩ : ∃ b, b = w.heap.size := ⟨_, rfl⟩
       rw [← hq4] at hy4 ⊢
       have HB4 := Lib.hid hq4
       have rd4 := HQ.out.1.keep my4 (by simp) (by simp) (by simp)
       clear zy4 hq4)
    | (go_at_call 111; refine (small_yes q g b x [] sz y4 rd4).mono ?_
       rintro e w1 ⟨rfl, rd1, m1⟩
       have hy1 := hy4.keep m1 (by have := HQ.out.1.lt; have := HB4.out; simp; omega)
       have mq1 : Mod [q, g] w w1 := my4.pre (m1.wk (by intro i _ hi; simp at hi ⊢; exact .inr hi))
       have sz1 := m1.size
       clear hy4 rd4 my4 m1)
    | (with_reducible refine wpList_ran (o := ⟨some 9, .build 24 _, _, _, _, _⟩) rfl (.agg (tmc (x.toNat : Int) 0 0 ⟨#[]⟩ none 0 0).toArray) (exec_bA rfl rfl) ?_)
    | (with_reducible refine wpList_allocs (o := ⟨some 5, .alloc 24, _, _, _, _⟩) rfl 24 rfl _ zero24 ?_; intro y5 hy5 my5 zy5
       clear zy5)
    | (with_reducible refine wpList_storesAll (o := ⟨none, .store 24 (.tmp 5) (.tmp 9), _, _, _, _⟩) rfl 24 (.tmp 5) (.tmp 9) rfl rfl w1.heap.size (tmc (x.toNat : Int) 0 0 ⟨#[]⟩ none 0 0) rfl (.agg (tmc (x.toNat : Int) 0 0 ⟨#[]⟩ none 0 0).toArray) rfl rfl 24 _ hy5 (zlen (tmc_len _ _ _ _ _ _ _)) (tmc_one _ _ _ _ _ _ _) (size24t _ _ _ _ _ _ _) ?_
       intro u1 hu1 mu1 zu1
       clear zu1
       obtain ⟨b5, hq5⟩ : ∃ b, b = w1.heap.size := ⟨_, rfl⟩
       rw [← hq5] at hu1 mu1 ⊢
       have mm1 : Mod [] w1 u1 := my5.trans mu1 (by intro i hi h; simp at h; omega)
       have st1 : TSt w u1 q g b b4 b5 (tmc (x.toNat : Int) 0 0 ⟨#[]⟩ none 0 0) [] sz := by
         have l1 := HQ.out.1.lt
         have l2 := HB4.out
         have l3 := HZ4.out
         have l4 := hy1.lt
         exact ⟨rd1.keep mm1 (by simp) (by simp) (by simp), hy1.keep mm1 (by simp), hu1, mq1.then mm1, by omega, by have := mq1.size; omega, by omega, l1.1, l1.2.1, l1.2.2⟩
       clear hy1 rd1 mq1 sz1 hy5 my5 mu1 mm1 hu1 hq5
       have e0 := st1.h5.cell 0
       simp only [tmc, List.getElem?_cons_succ, List.getElem?_cons_zero] at e0)
    | (go_at_call 91; refine (FC _ (GL st1)).mono ?_
       rintro e wz ⟨rfl, rfl⟩
       clear e0
       have eq0 := st1.rd.hq.cell 0
       have eq1 := st1.rd.hq.cell 1
       simp only [List.getElem?_cons_succ, List.getElem?_cons_zero] at eq0 eq1)
    | (with_reducible refine wpList_bump st1 rfl (.tmp 19) (.tmp 17) rfl rfl rfl (sz + 1) rfl ?_
       intro v2 st2
       clear eq0 eq1 st1
       have eq0 := st2.rd.hq.cell 0
       have eq1 := st2.rd.hq.cell 1
       simp only [List.getElem?_cons_succ, List.getElem?_cons_zero] at eq0 eq1)
    | (go_at_call 112; (with_reducible refine Calls.mono (need_yes _ _) ?_); rintro e wz ⟨rfl, rfl⟩)
    | (go_at_call 94; first | ((with_reducible refine Calls.mono (BT _) ?_); rintro e wz ⟨rfl, rfl⟩) | ((with_reducible refine Calls.mono (BU _) ?_); rintro e wz ⟨rfl, rfl⟩))
    | (go_at_call 111; refine (small_no q g b (sz + 1) v2 st2.rd).mono ?_; rintro e w3 ⟨rfl, m3⟩))
  exact ⟨rfl, rfl, st2.mm.trans m3 (by intro i _ hi; simp at hi ⊢; exact .inr hi)⟩
set_option maxRecDepth 1000000 in
set_option maxHeartbeats 4000000 in
theorem terr_may (q g b : Nat) (x : UInt8) (y : UInt8) (r2 : List UInt8) (sz deep : Int) (w : World) (h : RdT w q g b (x :: y :: r2) 0 sz) (G : Glob w) (h0q : 0 ≠ q) (h0g : 0 ≠ g) (hs0 : 0 ≤ sz) (hs1 : sz ≤ 1200) (hd0 : 0 ≤ deep) (hd61 : deep ≤ 61) (c1 : (flds (x.toNat : Int) != 0) = true) (c2 : decide (sz + 1 ≤ 1200) = true) (c3 : decide (deep ≤ 60) = true) (hT : hasB (flds (x.toNat : Int)) 1 = false) (hU : hasB (flds (x.toNat : Int)) 2 = true) (hmay : Tm.may (x.toNat : Int) (y.toNat : Int) 0 (ByteArray.size ⟨#[]⟩) = false) :
    Calls Tryd.prog 98 #[.pointer (some ⟨q, 0, none⟩), .int .i64 deep] w fun e w' => e = boom 150 ∧ Mod [q, g] w w' := by
  have GL : ∀ {v : World} {b4 b5 : Nat} {c : List Value} {l : List UInt8} {z : Int}, TSt w v q g b b4 b5 c l z → Glob v := fun st => G.mod st.mm (by simp; exact ⟨h0q, h0g⟩)
  have HQ := Lib.hid (And.intro h G)
  have FC := fun v (gv : Glob v) => fieldsOf_c (x.toNat : Int) v gv
  have MC := fun u s v => mayHave_c (x.toNat : Int) u 0 s none 0 0 v
  obtain ⟨F, hF⟩ : ∃ F, F = flds (x.toNat : Int) := ⟨_, rfl⟩
  rw [← hF] at FC MC c1 hT hU
  have BT := has_b F 1 false hT
  have BU := has_b F 2 true hU
  have hx8 := Tm.u8_le x
  clear h G h0q h0g hF
  go_enter Tryd.func98, Tryd.ntmps98
  go_wp2_with (first
    | (with_reducible refine wpList_allocs (o := ⟨some 4, .alloc 24, _, _, _, _⟩) rfl 24 rfl _ zero24 ?_; intro y4 hy4 my4 zy4
       have HZ4 := Lib.hid zy4
       obtain ⟨b4, hq4⟩ : ∃ b, b = w.heap.size := ⟨_, rfl⟩
       rw [← hq4] at hy4 ⊢
       have HB4 := Lib.hid hq4
       have rd4 := HQ.out.1.keep my4 (by simp) (by simp) (by simp)
       clear zy4 hq4)
    | (go_at_call 111; refine (small_yes q g b x (y :: r2) sz y4 rd4).mono ?_
       rintro e w1 ⟨rfl, rd1, m1⟩
       have hy1 := hy4.keep m1 (by have := HQ.out.1.lt; have := HB4.out; simp; omega)
       have mq1 : Mod [q, g] w w1 := my4.pre (m1.wk (by intro i _ hi; simp at hi ⊢; exact .inr hi))
       have sz1 := m1.size
       clear hy4 rd4 my4 m1)
    | (with_reducible refine wpList_ran (o := ⟨some 9, .build 24 _, _, _, _, _⟩) rfl (.agg (tmc (x.toNat : Int) 0 0 ⟨#[]⟩ none 0 0).toArray) (exec_bA rfl rfl) ?_)
    | (with_reducible refine wpList_allocs (o := ⟨some 5, .alloc 24, _, _, _, _⟩) rfl 24 rfl _ zero24 ?_; intro y5 hy5 my5 zy5
       clear zy5)
    | (with_reducible refine wpList_storesAll (o := ⟨none, .store 24 (.tmp 5) (.tmp 9), _, _, _, _⟩) rfl 24 (.tmp 5) (.tmp 9) rfl rfl w1.heap.size (tmc (x.toNat : Int) 0 0 ⟨#[]⟩ none 0 0) rfl (.agg (tmc (x.toNat : Int) 0 0 ⟨#[]⟩ none 0 0).toArray) rfl rfl 24 _ hy5 (zlen (tmc_len _ _ _ _ _ _ _)) (tmc_one _ _ _ _ _ _ _) (size24t _ _ _ _ _ _ _) ?_
       intro u1 hu1 mu1 zu1
       clear zu1
       obtain ⟨b5, hq5⟩ : ∃ b, b = w1.heap.size := ⟨_, rfl⟩
       rw [← hq5] at hu1 mu1 ⊢
       have mm1 : Mod [] w1 u1 := my5.trans mu1 (by intro i hi h; simp at h; omega)
       have st1 : TSt w u1 q g b b4 b5 (tmc (x.toNat : Int) 0 0 ⟨#[]⟩ none 0 0) (y :: r2) sz := by
         have l1 := HQ.out.1.lt
         have l2 := HB4.out
         have l3 := HZ4.out
         have l4 := hy1.lt
         exact ⟨rd1.keep mm1 (by simp) (by simp) (by simp), hy1.keep mm1 (by simp), hu1, mq1.then mm1, by omega, by have := mq1.size; omega, by omega, l1.1, l1.2.1, l1.2.2⟩
       clear hy1 rd1 mq1 sz1 hy5 my5 mu1 mm1 hu1 hq5
       have e0 := st1.h5.cell 0
       simp only [tmc, List.getElem?_cons_succ, List.getElem?_cons_zero] at e0)
    | (go_at_call 91; refine (FC _ (GL st1)).mono ?_
       rintro e wz ⟨rfl, rfl⟩
       clear e0
       have eq0 := st1.rd.hq.cell 0
       have eq1 := st1.rd.hq.cell 1
       simp only [List.getElem?_cons_succ, List.getElem?_cons_zero] at eq0 eq1)
    | (with_reducible refine wpList_bump st1 rfl (.tmp 19) (.tmp 17) rfl rfl rfl (sz + 1) rfl ?_
       intro v2 st2
       clear eq0 eq1 st1
       have eq0 := st2.rd.hq.cell 0
       have eq1 := st2.rd.hq.cell 1
       simp only [List.getElem?_cons_succ, List.getElem?_cons_zero] at eq0 eq1)
    | (go_at_call 112; (with_reducible refine Calls.mono (need_yes _ _) ?_); rintro e wz ⟨rfl, rfl⟩)
    | (go_at_call 94; first | ((with_reducible refine Calls.mono (BT _) ?_); rintro e wz ⟨rfl, rfl⟩) | ((with_reducible refine Calls.mono (BU _) ?_); rintro e wz ⟨rfl, rfl⟩))
    | (go_at_call 111; refine (small_yes q g b y r2 (sz + 1) v2 st2.rd).mono ?_
       rintro e w5 ⟨rfl, rd5, m5⟩
       have st5 := st2.read rd5 m5
       clear rd5 m5 st2 eq0 eq1)
    | (with_reducible refine wpList_put5 st5 rfl 3 (.tmp 43) (.tmp 42) rfl rfl 1 rfl (.int .i64 (y.toNat : Int)) rfl rfl sz3 (tmc_lt (by decide)) ?_
       intro v6 st6
       rw [tmc_set1] at st6
       clear st5
       have eq0 := st6.rd.hq.cell 0
       have eq1 := st6.rd.hq.cell 1
       simp only [List.getElem?_cons_succ, List.getElem?_cons_zero] at eq0 eq1)
    | (with_reducible refine wpList_loads (o := ⟨some 45, .load 24 (.tmp 5), _, _, _, _⟩) rfl 24 (.tmp 5) rfl b5 0 (tmc (x.toNat : Int) (y.toNat : Int) 0 ⟨#[]⟩ none 0 0) rfl (Cells.of_holds st6.h5) _ Tryd.underlying24 rfl (size24t _ _ _ _ _ _ _) (.agg (tmc (x.toNat : Int) (y.toNat : Int) 0 ⟨#[]⟩ none 0 0).toArray) rfl ?_)
    | (go_at_call 92; refine (MC (y.toNat : Int) ⟨#[]⟩ v6).mono ?_
       rintro e w7 ⟨rfl, m7⟩
       rw [show Tm.may (x.toNat : Int) (y.toNat : Int) 0 (ByteArray.size ⟨#[]⟩) = false from hmay]
       have st7 := st6.still m7
       clear m7 st6 eq0 eq1
       have eq0 := st7.rd.hq.cell 0
       have eq1 := st7.rd.hq.cell 1
       simp only [List.getElem?_cons_succ, List.getElem?_cons_zero] at eq0 eq1)
    | (go_at_call 112; (with_reducible refine Calls.mono (need_no _ _) ?_); rintro e wz ⟨rfl, rfl⟩))
  exact ⟨rfl, rfl, st7.mm⟩
set_option maxRecDepth 1000000 in
set_option maxHeartbeats 4000000 in
theorem terr_n7 (q g b : Nat) (x : UInt8) (y : UInt8) (r2 : List UInt8) (sz deep : Int) (w : World) (h : RdT w q g b (x :: y :: r2) 0 sz) (G : Glob w) (h0q : 0 ≠ q) (h0g : 0 ≠ g) (hs0 : 0 ≤ sz) (hs1 : sz ≤ 1200) (hd0 : 0 ≤ deep) (hd61 : deep ≤ 61) (c1 : (flds (x.toNat : Int) != 0) = true) (c2 : decide (sz + 1 ≤ 1200) = true) (c3 : decide (deep ≤ 60) = true) (hT : hasB (flds (x.toNat : Int)) 1 = false) (hU : hasB (flds (x.toNat : Int)) 2 = true) (hNm : hasB (flds (x.toNat : Int)) 4 = true) (hmay : Tm.may (x.toNat : Int) (y.toNat : Int) 0 (ByteArray.size ⟨#[]⟩) = true) (hlen : r2.length < 2) :
    Calls Tryd.prog 98 #[.pointer (some ⟨q, 0, none⟩), .int .i64 deep] w fun e w' => e = boom 7 ∧ Mod [q, g] w w' := by
  have GL : ∀ {v : World} {b4 b5 : Nat} {c : List Value} {l : List UInt8} {z : Int}, TSt w v q g b b4 b5 c l z → Glob v := fun st => G.mod st.mm (by simp; exact ⟨h0q, h0g⟩)
  have HQ := Lib.hid (And.intro h G)
  have FC := fun v (gv : Glob v) => fieldsOf_c (x.toNat : Int) v gv
  have MC := fun u s v => mayHave_c (x.toNat : Int) u 0 s none 0 0 v
  obtain ⟨F, hF⟩ : ∃ F, F = flds (x.toNat : Int) := ⟨_, rfl⟩
  rw [← hF] at FC MC c1 hT hU hNm
  have BT := has_b F 1 false hT
  have BU := has_b F 2 true hU
  have BN := has_b F 4 true hNm
  have hx8 := Tm.u8_le x
  clear h G h0q h0g hF
  go_enter Tryd.func98, Tryd.ntmps98
  go_wp2_with (first
    | (with_reducible refine wpList_allocs (o := ⟨some 4, .alloc 24, _, _, _, _⟩) rfl 24 rfl _ zero24 ?_; intro y4 hy4 my4 zy4
       have HZ4 := Lib.hid zy4
       obtain ⟨b4, hq4⟩ : ∃ b, b = w.heap.size := ⟨_, rfl⟩
       rw [← hq4] at hy4 ⊢
       have HB4 := Lib.hid hq4
       have rd4 := HQ.out.1.keep my4 (by simp) (by simp) (by simp)
       clear zy4 hq4)
    | (go_at_call 111; refine (small_yes q g b x (y :: r2) sz y4 rd4).mono ?_
       rintro e w1 ⟨rfl, rd1, m1⟩
       have hy1 := hy4.keep m1 (by have := HQ.out.1.lt; have := HB4.out; simp; omega)
       have mq1 : Mod [q, g] w w1 := my4.pre (m1.wk (by intro i _ hi; simp at hi ⊢; exact .inr hi))
       have sz1 := m1.size
       clear hy4 rd4 my4 m1)
    | (with_reducible refine wpList_ran (o := ⟨some 9, .build 24 _, _, _, _, _⟩) rfl (.agg (tmc (x.toNat : Int) 0 0 ⟨#[]⟩ none 0 0).toArray) (exec_bA rfl rfl) ?_)
    | (with_reducible refine wpList_allocs (o := ⟨some 5, .alloc 24, _, _, _, _⟩) rfl 24 rfl _ zero24 ?_; intro y5 hy5 my5 zy5
       clear zy5)
    | (with_reducible refine wpList_storesAll (o := ⟨none, .store 24 (.tmp 5) (.tmp 9), _, _, _, _⟩) rfl 24 (.tmp 5) (.tmp 9) rfl rfl w1.heap.size (tmc (x.toNat : Int) 0 0 ⟨#[]⟩ none 0 0) rfl (.agg (tmc (x.toNat : Int) 0 0 ⟨#[]⟩ none 0 0).toArray) rfl rfl 24 _ hy5 (zlen (tmc_len _ _ _ _ _ _ _)) (tmc_one _ _ _ _ _ _ _) (size24t _ _ _ _ _ _ _) ?_
       intro u1 hu1 mu1 zu1
       clear zu1
       obtain ⟨b5, hq5⟩ : ∃ b, b = w1.heap.size := ⟨_, rfl⟩
       rw [← hq5] at hu1 mu1 ⊢
       have mm1 : Mod [] w1 u1 := my5.trans mu1 (by intro i hi h; simp at h; omega)
       have st1 : TSt w u1 q g b b4 b5 (tmc (x.toNat : Int) 0 0 ⟨#[]⟩ none 0 0) (y :: r2) sz := by
         have l1 := HQ.out.1.lt
         have l2 := HB4.out
         have l3 := HZ4.out
         have l4 := hy1.lt
         exact ⟨rd1.keep mm1 (by simp) (by simp) (by simp), hy1.keep mm1 (by simp), hu1, mq1.then mm1, by omega, by have := mq1.size; omega, by omega, l1.1, l1.2.1, l1.2.2⟩
       clear hy1 rd1 mq1 sz1 hy5 my5 mu1 mm1 hu1 hq5
       have e0 := st1.h5.cell 0
       simp only [tmc, List.getElem?_cons_succ, List.getElem?_cons_zero] at e0)
    | (go_at_call 91; refine (FC _ (GL st1)).mono ?_
       rintro e wz ⟨rfl, rfl⟩
       clear e0
       have eq0 := st1.rd.hq.cell 0
       have eq1 := st1.rd.hq.cell 1
       simp only [List.getElem?_cons_succ, List.getElem?_cons_zero] at eq0 eq1)
    | (with_reducible refine wpList_bump st1 rfl (.tmp 19) (.tmp 17) rfl rfl rfl (sz + 1) rfl ?_
       intro v2 st2
       clear eq0 eq1 st1
       have eq0 := st2.rd.hq.cell 0
       have eq1 := st2.rd.hq.cell 1
       simp only [List.getElem?_cons_succ, List.getElem?_cons_zero] at eq0 eq1)
    | (go_at_call 112; (with_reducible refine Calls.mono (need_yes _ _) ?_); rintro e wz ⟨rfl, rfl⟩)
    | (go_at_call 94; first | ((with_reducible refine Calls.mono (BT _) ?_); rintro e wz ⟨rfl, rfl⟩) | ((with_reducible refine Calls.mono (BU _) ?_); rintro e wz ⟨rfl, rfl⟩) | ((with_reducible refine Calls.mono (BN _) ?_); rintro e wz ⟨rfl, rfl⟩))
    | (go_at_call 111; refine (small_yes q g b y r2 (sz + 1) v2 st2.rd).mono ?_
       rintro e w5 ⟨rfl, rd5, m5⟩
       have st5 := st2.read rd5 m5
       clear rd5 m5 st2 eq0 eq1)
    | (with_reducible refine wpList_put5 st5 rfl 3 (.tmp 43) (.tmp 42) rfl rfl 1 rfl (.int .i64 (y.toNat : Int)) rfl rfl sz3 (tmc_lt (by decide)) ?_
       intro v6 st6
       rw [tmc_set1] at st6
       clear st5
       have eq0 := st6.rd.hq.cell 0
       have eq1 := st6.rd.hq.cell 1
       simp only [List.getElem?_cons_succ, List.getElem?_cons_zero] at eq0 eq1)
    | (with_reducible refine wpList_loads (o := ⟨some 45, .load 24 (.tmp 5), _, _, _, _⟩) rfl 24 (.tmp 5) rfl b5 0 (tmc (x.toNat : Int) (y.toNat : Int) 0 ⟨#[]⟩ none 0 0) rfl (Cells.of_holds st6.h5) _ Tryd.underlying24 rfl (size24t _ _ _ _ _ _ _) (.agg (tmc (x.toNat : Int) (y.toNat : Int) 0 ⟨#[]⟩ none 0 0).toArray) rfl ?_)
    | (go_at_call 92; refine (MC (y.toNat : Int) ⟨#[]⟩ v6).mono ?_
       rintro e w7 ⟨rfl, m7⟩
       rw [show Tm.may (x.toNat : Int) (y.toNat : Int) 0 (ByteArray.size ⟨#[]⟩) = true from hmay]
       have st7 := st6.still m7
       clear m7 st6 eq0 eq1
       have eq0 := st7.rd.hq.cell 0
       have eq1 := st7.rd.hq.cell 1
       simp only [List.getElem?_cons_succ, List.getElem?_cons_zero] at eq0 eq1)
    | (go_at_call 114; refine (u16_no g b r2 w7 st7.rd.hr hlen).mono ?_
       rintro e w8 ⟨rfl, hr8, m8⟩
       have rd8 := st7.rd.read hr8 m8
       have mm8 := st7.mm.trans m8 (by intro i _ hi; simp at hi ⊢; exact .inr hi)
       have n8 := Holds.keep st7.h5 m8 (by have := st7.n5; have := st7.og; simp; omega)
       have C8 := Lib.hid (show w8.cell? ⟨b5, 2, none⟩ = some (.int .i64 0) from n8.cell 2)
       clear eq0 eq1)
    | (with_reducible refine wpList_store1 rfl 3 (.tmp 56) (.tmp 55) rfl rfl ⟨b5, 2, none⟩ rfl (.int .i64 0) (.int .i64 0) rfl rfl sz3 C8.out (n8.free 2) ?_
       have m9 : Mod [b5] w8 (w8.setCell ⟨b5, 2, none⟩ (.int .i64 0)) := Mod.setCell (ms := [b5]) w8 (by simp) _
       have rd9 := rd8.keep m9 (by have := st7.n5; have := st7.oq; simp; omega) (by have := st7.n5; have := st7.og; simp; omega) (by have := st7.n5; have := st7.ob; simp; omega)
       have mm9 := mm8.trans m9 (by intro i hi h; have := st7.n5; simp at h; omega))
    | (go_at_call 115; refine (whole_no q g b _ 7 (sz + 1) _ rd9 rfl).mono ?_
       rintro e wz ⟨rfl, rfl⟩))
  exact ⟨rfl, rfl, mm9.then (Mod.drew [] _)⟩
end Go.Proofs.YtchanildogjhgaaDoor

