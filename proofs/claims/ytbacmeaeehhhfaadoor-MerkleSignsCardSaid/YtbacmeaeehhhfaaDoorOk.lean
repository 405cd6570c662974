/-
  verified; Verify and verified where a signature may not be; changes of a signature, as they come in. My own work.
-/
import Derived.Test.YtbacmeaeehhhfaaDoorOe
import Derived.Test.YtbacmeaeehhhfaaDoorOg
import Derived.Test.YtbacmeaeehhhfaaDoorMj
import Derived.Test.YtbacmeaeehhhfaaDoorNb
namespace Go.Proofs.YtbacmeaeehhhfaaDoor
open Go.RowKit Go.Shelf
set_option linter.unusedVariables false
set_option linter.unusedSimpArgs false
set_option maxRecDepth 100000 in
set_option maxHeartbeats 4000000 in
theorem verified_yes (r m : Idv) (n : Nat) (hn : n < 8) (C : Option Addr) (cC : Nat) (P : Option Addr) (cP : Nat) (ch pt : List Idv) (hch : ch.length = 67) (hpt : pt.length = 3) (w : World) (Gl : Glob w) (RC : Cells w C (ch.flatMap ic)) (RP : Cells w P (pt.flatMap ic)) :
    Calls Tryd.prog 28 #[iv r, iv m, .agg (sgc (n : Int) C 67 cC P 3 cP).toArray] w fun e w' => e = .returned (.bool (decide (climbI (recI m ch) n pt = r))) ∧ Mod [] w w' := by
  obtain ⟨bb, hb0⟩ : ∃ b, b = decide (climbI (recI m ch) n pt = r) := ⟨_, rfl⟩
  rw [← hb0]
  obtain ⟨k, hk⟩ : ∃ k, k = recI m ch := ⟨_, rfl⟩
  rw [← hk] at hb0
  obtain ⟨d, hd⟩ : ∃ d, d = climbI k n pt := ⟨_, rfl⟩
  rw [← hd] at hb0
  have hbb := Lib.hid hb0
  have MB : ∀ v, Calls Tryd.prog 31 #[.agg (sgc (n : Int) C 67 cC P 3 cP).toArray] v fun r w' => r = .returned (.bool true) ∧ Mod [] v w' := fun v => by
    have := right_c (n : Int) C 67 cC P 3 cP v
    rwa [mayB_yes hn rfl rfl] at this
  have RR := fun v (mv : Mod [] w v) => recover_c m ch C cC hch v (Gl.then mv) (RC.keep mv (by simp))
  rw [← hk] at RR
  have CL := fun v (mv : Mod [] w v) => lawClimbed_c k n P pt 3 cP hpt.symm (by decide) v (Gl.then mv) (RP.keep mv (by simp))
  rw [← hd] at CL
  clear hb0 hk hd hn hch hpt Gl RC RP
  go_enter Tryd.func28, Tryd.ntmps28
  go_wp2_with (first
    | (with_reducible refine wpList_boxes (o := ⟨some 3, .box 23 (.tmp 0), _, _, _, _⟩) rfl 23 (.tmp 0) rfl _ rfl (ic r) rfl ?_; intro w1 hb1 m1 z1; replace z1 := Lib.hid z1)
    | (with_reducible refine wpList_boxes (o := ⟨some 4, .box 23 (.tmp 1), _, _, _, _⟩) rfl 23 (.tmp 1) rfl _ rfl (ic m) rfl ?_; intro w2 hb2 m2 z2; replace z2 := Lib.hid z2)
    | (with_reducible refine wpList_boxes (o := ⟨some 5, .box 50 (.tmp 2), _, _, _, _⟩) rfl 50 (.tmp 2) rfl _ rfl (sgc (n : Int) C 67 cC P 3 cP) rfl ?_; intro w3 hb3 m3 z3; replace z3 := Lib.hid z3
       obtain ⟨b3, hq3⟩ : ∃ q, q = w.heap.size := ⟨_, rfl⟩
       obtain ⟨b4, hq4⟩ : ∃ q, q = w1.heap.size := ⟨_, rfl⟩
       obtain ⟨b5, hq5⟩ : ∃ q, q = w2.heap.size := ⟨_, rfl⟩
       have k3 : Holds w3 b3 23 (ic r) := by rw [hq3]; exact (hb1.keep m2 (by simp)).keep m3 (by simp)
       have k4 : Holds w3 b4 23 (ic m) := by rw [hq4]; exact hb2.keep m3 (by simp)
       have k5 : Holds w3 b5 50 (sgc (n : Int) C 67 cC P 3 cP) := by rw [hq5]; exact hb3
       have mm := (m1.then m2).then m3
       rw [← hq3, ← hq4, ← hq5]
       clear hb1 m1 z1 hb2 m2 z2 hb3 m3 z3 hq3 hq4 hq5)
    | (with_reducible refine wpList_loads (o := ⟨some 9, .load 50 (.tmp 5), _, _, _, _⟩) rfl 50 (.tmp 5) rfl b5 0 _ rfl (Cells.of_holds k5) _ Tryd.underlying50 rfl (size50s _ _ _ _ _ _ _) (.agg (sgc (n : Int) C 67 cC P 3 cP).toArray) rfl ?_)
    | (go_at_call 31; refine (MB _).mono ?_
       rintro e w4 ⟨rfl, m4⟩
       replace k3 := k3.keep m4 (by simp)
       replace k4 := k4.keep m4 (by simp)
       replace k5 := k5.keep m4 (by simp)
       replace mm := mm.then m4
       have e1 := k5.cell 1
       simp only [sgc, List.getElem?_cons_succ, List.getElem?_cons_zero] at e1
       clear MB m4)
    | (with_reducible refine wpList_loads (o := ⟨some 13, .load 23 (.tmp 4), _, _, _, _⟩) rfl 23 (.tmp 4) rfl b4 0 _ rfl (Cells.of_holds k4) _ Tryd.underlying23 rfl (size25i m) (iv m) rfl ?_)
    | (go_at_call 49; refine (RR _ mm).mono ?_
       rintro e w5 ⟨rfl, m5⟩
       replace k3 := k3.keep m5 (by simp)
       replace k5 := k5.keep m5 (by simp)
       replace mm := mm.then m5
       clear RR m5 e1 k4)
    | (with_reducible refine wpList_allocs (o := ⟨some 7, .alloc 23, _, _, _, _⟩) rfl 23 rfl _ zeroI_25 ?_; intro y6 hy6 my6 zy6)
    | (with_reducible refine wpList_storesAll (o := ⟨none, .store 23 (.tmp 7) (.tmp 17), _, _, _, _⟩) rfl 23 (.tmp 7) (.tmp 17) rfl rfl w5.heap.size (ic k) rfl (iv k) rfl rfl 23 _ hy6 (by rw [ic_length, ic_length]) (ic_one k) (size25i k) ?_
       intro w6 hb6 m6 z6
       have mx : Mod [] w5 w6 := my6.trans m6 (by intro i hi h; simp at h; omega)
       replace k3 := k3.keep mx (by simp)
       replace k5 := k5.keep mx (by simp)
       replace mm := mm.then mx
       obtain ⟨b7, hq7⟩ : ∃ q, q = w5.heap.size := ⟨_, rfl⟩
       rw [← hq7] at hb6 ⊢
       clear hy6 my6 zy6 m6 z6 mx hq7))
  obtain ⟨wq, hwq⟩ : ∃ v, v = w6 := ⟨_, rfl⟩
  rw [← hwq] at k3 k5 hb6 mm ⊢
  clear hwq
  have hk3 := k3
  have hk5 := k5
  have hk7 := hb6
  refine wp_region_ups [(19, .int .i64 0), (20, .bool true), (21, .bool true), (22, iv k), (23, .pointer (some ⟨b5, 0, none⟩)), (24, .int .i64 (n : Int)), (25, .pointer (some ⟨b5, 2, none⟩)), (26, .slice P 3 cP), (27, iv d), (28, iv r), (29, .bool bb), (30, .bool bb), (6, .bool bb)] 31 [19, 20, 21, 22, 23, 24, 25, 26, 27, 28, 29, 30, 6] rfl rfl (by decide) (by kernel_rfl) (fun lz v => Mod [] wq.drew v) (by kernel_rfl) (Mod.refl _ _) (by kernel_rfl) (by kernel_rfl) ?step ?fin
  case step =>
    intro lz T v j o hj hlj hdep hst hpar hgot hcl Kq hK
    have mv : ∀ v, Mod [] wq.drew v → Mod [] wq v := fun v h => (Mod.drew [] wq).then h
    have hjn : j < 13 := (Array.getElem?_eq_some_iff.1 hj).1
    obtain rfl | rfl | rfl | rfl | rfl | rfl | rfl | rfl | rfl | rfl | rfl | rfl | rfl : j = 0 ∨ j = 1 ∨ j = 2 ∨ j = 3 ∨ j = 4 ∨ j = 5 ∨ j = 6 ∨ j = 7 ∨ j = 8 ∨ j = 9 ∨ j = 10 ∨ j = 11 ∨ j = 12 := by omega
    all_goals (have hj' := Option.some.inj (hj : some _ = some o); subst hj'; clear hj)
    · exact wp_ran rfl (exec_move rfl (eval_tmp ((hpar 8 rfl).trans rfl))) (hK _ _ (fun s hs => by cases hs; rfl) hst)
    · exact wp_ran rfl (exec_eqi (rfl) rfl (eval_tmp (hgot 0 _ 19 rfl (hdep ⟨0, .data⟩ (by simp) rfl) rfl)) rfl) (hK _ _ (fun s hs => by cases hs; rfl) hst)
    · exact wp_ran rfl (exec_move rfl (eval_tmp (hgot 1 _ 20 rfl (hdep ⟨1, .data⟩ (by simp) rfl) rfl))) (hK _ _ (fun s hs => by cases hs; rfl) hst)
    · exact wp_ranW (wanted_yes rfl rfl rfl (hgot 2 _ 21 rfl (hdep ⟨2, .guard⟩ (by simp) rfl) rfl)) (exec_load rfl (eval_tmp ((hpar 7 rfl).trans rfl)) (run_loads (Cells.of_holds (hk7.keep (mv v hst) (by simp))) Tryd.underlying23 rfl (size25i k))) (hK _ _ (fun s hs => by cases hs; rfl) hst)
    · exact wp_ranW (wanted_yes rfl rfl rfl (hgot 2 _ 21 rfl (hdep ⟨2, .guard⟩ (by simp) rfl) rfl)) (exec_fg0 rfl (eval_tmp ((hpar 5 rfl).trans rfl))) (hK _ _ (fun s hs => by cases hs; rfl) hst)
    · exact wp_ranW (wanted_yes rfl rfl rfl (hgot 2 _ 21 rfl (hdep ⟨2, .guard⟩ (by simp) rfl) rfl)) (exec_load rfl (eval_tmp (hgot 4 _ 23 rfl (hdep ⟨4, .data⟩ (by simp) rfl) rfl)) (run_load1 Tryd.underlying3 rfl (by simpa [sgc] using (hk5.keep (mv v hst) (by simp)).cell 0))) (hK _ _ (fun s hs => by cases hs; rfl) hst)
    · exact wp_ranW (wanted_yes rfl rfl rfl (hgot 2 _ 21 rfl (hdep ⟨2, .guard⟩ (by simp) rfl) rfl)) (exec_fg2 rfl (eval_tmp ((hpar 5 rfl).trans rfl))) (hK _ _ (fun s hs => by cases hs; rfl) hst)
    · exact wp_ranW (wanted_yes rfl rfl rfl (hgot 2 _ 21 rfl (hdep ⟨2, .guard⟩ (by simp) rfl) rfl)) (exec_load rfl (eval_tmp (hgot 6 _ 25 rfl (hdep ⟨6, .data⟩ (by simp) rfl) rfl)) (run_load1 Tryd.underlying33 rfl (by simpa [sgc] using (hk5.keep (mv v hst) (by simp)).cell 2))) (hK _ _ (fun s hs => by cases hs; rfl) hst)
    · exact wp_calledW (wanted_yes rfl rfl rfl (hgot 2 _ 21 rfl (hdep ⟨2, .guard⟩ (by simp) rfl) rfl)) (exec_call3 rfl rfl (eval_tmp (hgot 3 _ 22 rfl (hdep ⟨3, .data⟩ (by simp) rfl) rfl)) (eval_tmp (hgot 5 _ 24 rfl (hdep ⟨5, .data⟩ (by simp) rfl) rfl)) (eval_tmp (hgot 7 _ 26 rfl (hdep ⟨7, .data⟩ (by simp) rfl) rfl)) (enters_of Tryd.func22 (by kernel_rfl) rfl)) ((CL v (mm.then (mv v hst))).mono (fun e v' hh => ⟨_, hh.1, hK _ _ (fun s hs => by cases hs; rfl) (hst.then hh.2)⟩))
    · exact wp_ranW (wanted_yes rfl rfl rfl (hgot 2 _ 21 rfl (hdep ⟨2, .guard⟩ (by simp) rfl) rfl)) (exec_load rfl (eval_tmp ((hpar 3 rfl).trans rfl)) (run_loads (Cells.of_holds (hk3.keep (mv v hst) (by simp))) Tryd.underlying23 rfl (size25i r))) (hK _ _ (fun s hs => by cases hs; rfl) hst)
    · exact wp_ranW (wanted_yes rfl rfl rfl (hgot 2 _ 21 rfl (hdep ⟨2, .guard⟩ (by simp) rfl) rfl)) (exec_eq25b hbb.out rfl (eval_tmp (hgot 8 _ 27 rfl (hdep ⟨8, .data⟩ (by simp) rfl) rfl)) (eval_tmp (hgot 9 _ 28 rfl (hdep ⟨9, .data⟩ (by simp) rfl) rfl))) (hK _ _ (fun s hs => by cases hs; rfl) hst)
    · exact wp_ran rfl (exec_pick rfl (eval_tmp (hgot 2 _ 21 rfl (hdep ⟨2, .data⟩ (by simp) rfl) rfl)) (eval_tmp (hgot 10 _ 29 rfl (hdep ⟨10, .data⟩ (by simp) rfl) rfl)) rfl rfl) (hK _ _ (fun s hs => by cases hs; rfl) hst)
    · exact wp_ran rfl (exec_assign rfl (eval_tmp (hgot 11 _ 30 rfl (hdep ⟨11, .data⟩ (by simp) rfl) rfl))) (hK _ _ (fun s hs => by cases hs; rfl) hst)
  case fin =>
  intro lz vr hlz hst
  have mq := (Mod.drew [] wq).then hst
  replace mm := mm.then mq
  simp only [setAll, List.foldl_cons, List.foldl_nil, List.set_cons_succ, List.set_cons_zero]
  go_wp2_with fail
  go_ret
  exact ⟨rfl, mm⟩
set_option maxRecDepth 100000 in
set_option maxHeartbeats 4000000 in
theorem Verify_no (r m : Idv) (i : Int) (C : Option Addr) (n cC : Nat) (P : Option Addr) (k cP : Nat) (h : mayB i n k = false) (w : World) : Calls Tryd.prog 26 #[iv r, iv m, .agg (sgc i C n cC P k cP).toArray] w fun e w' => e = .returned (.bool false) ∧ Mod [] w w' := by
  have MB := fun v => mayBe_c i C n cC P k cP v
  rw [h] at MB
  clear h
  go_enter Tryd.func26, Tryd.ntmps26
  go_wp2_with (first
    | (with_reducible refine wpList_boxes (o := ⟨some 3, .box 23 (.tmp 0), _, _, _, _⟩) rfl 23 (.tmp 0) rfl _ rfl (ic r) rfl ?_; intro w1 hb1 m1 z1; replace z1 := Lib.hid z1)
    | (with_reducible refine wpList_boxes (o := ⟨some 4, .box 23 (.tmp 1), _, _, _, _⟩) rfl 23 (.tmp 1) rfl _ rfl (ic m) rfl ?_; intro w2 hb2 m2 z2; replace z2 := Lib.hid z2)
    | (with_reducible refine wpList_boxes (o := ⟨some 5, .box 50 (.tmp 2), _, _, _, _⟩) rfl 50 (.tmp 2) rfl _ rfl (sgc i C n cC P k cP) rfl ?_; intro w3 hb3 m3 z3; replace z3 := Lib.hid z3
       obtain ⟨b5, hq5⟩ : ∃ q, q = w2.heap.size := ⟨_, rfl⟩
       have mm := (m1.then m2).then m3
       rw [← hq5] at hb3 ⊢
       clear hb1 m1 z1 hb2 m2 z2 m3 z3 hq5)
    | (with_reducible refine wpList_loads (o := ⟨some 9, .load 50 (.tmp 5), _, _, _, _⟩) rfl 50 (.tmp 5) rfl b5 0 _ rfl (Cells.of_holds hb3) _ Tryd.underlying50 rfl (size50s _ _ _ _ _ _ _) (.agg (sgc i C n cC P k cP).toArray) rfl ?_)
    | (go_at_call 48; refine (MB _).mono ?_
       rintro e w4 ⟨rfl, m4⟩
       replace mm := mm.then m4
       clear MB m4))
  go_ret
  exact ⟨rfl, mm⟩
set_option maxRecDepth 100000 in
set_option maxHeartbeats 4000000 in
theorem verified_no (r m : Idv) (i : Int) (C : Option Addr) (n cC : Nat) (P : Option Addr) (k cP : Nat) (h : mayB i n k = false) (w : World) : Calls Tryd.prog 28 #[iv r, iv m, .agg (sgc i C n cC P k cP).toArray] w fun e w' => e = .returned (.bool false) ∧ Mod [] w w' := by
  have MB := fun v => right_c i C n cC P k cP v
  rw [h] at MB
  clear h
  go_enter Tryd.func28, Tryd.ntmps28
  go_wp2_with (first
    | (with_reducible refine wpList_boxes (o := ⟨some 3, .box 23 (.tmp 0), _, _, _, _⟩) rfl 23 (.tmp 0) rfl _ rfl (ic r) rfl ?_; intro w1 hb1 m1 z1; replace z1 := Lib.hid z1)
    | (with_reducible refine wpList_boxes (o := ⟨some 4, .box 23 (.tmp 1), _, _, _, _⟩) rfl 23 (.tmp 1) rfl _ rfl (ic m) rfl ?_; intro w2 hb2 m2 z2; replace z2 := Lib.hid z2)
    | (with_reducible refine wpList_boxes (o := ⟨some 5, .box 50 (.tmp 2), _, _, _, _⟩) rfl 50 (.tmp 2) rfl _ rfl (sgc i C n cC P k cP) rfl ?_; intro w3 hb3 m3 z3; replace z3 := Lib.hid z3
       obtain ⟨b5, hq5⟩ : ∃ q, q = w2.heap.size := ⟨_, rfl⟩
       have mm := (m1.then m2).then m3
       rw [← hq5] at hb3 ⊢
       clear hb1 m1 z1 hb2 m2 z2 m3 z3 hq5)
    | (with_reducible refine wpList_loads (o := ⟨some 9, .load 50 (.tmp 5), _, _, _, _⟩) rfl 50 (.tmp 5) rfl b5 0 _ rfl (Cells.of_holds hb3) _ Tryd.underlying50 rfl (size50s _ _ _ _ _ _ _) (.agg (sgc i C n cC P k cP).toArray) rfl ?_)
    | (go_at_call 31; refine (MB _).mono ?_
       rintro e w4 ⟨rfl, m4⟩
       replace mm := mm.then m4
       clear MB m4))
  go_ret
  exact ⟨rfl, mm⟩
structure Tur where
  k : Int
  a : Int
  y : Idv
def tuc (r : Tur) : List Value := [.int .i64 r.k, .int .i64 r.a] ++ ic r.y
theorem tuc_length (r : Tur) : (tuc r).length = 34 := by simp [tuc, ic_length]
theorem tuc_one (r : Tur) : ∀ v ∈ tuc r, v.oneCell' = true := by
  intro v hv
  rcases List.mem_append.1 hv with h | h
  · simp at h; rcases h with h | h <;> (rw [h]; rfl)
  · exact ic_one r.y v h
theorem flat_store (l : List Idv) (k : Nat) (y : Idv) (hk : k < l.length) (old : List Value) (hlen : l.length * 32 ≤ old.length) (ho : old.take (l.length * 32) = l.flatMap ic) : (old.take (k * 32) ++ ic y ++ old.drop (k * 32 + 32)).take (l.length * 32) = (l.set k y).flatMap ic := by
  have hl2 := flat_length ic 32 ic_length (l.set k y)
  rw [List.length_set] at hl2
  apply List.ext_getElem?
  intro j
  by_cases hj : j < l.length * 32
  · rw [List.getElem?_take, if_pos hj]
    have e1 := flat_at ic 32 ic_length (l.set k y) (j / 32) (j % 32) (by rw [List.length_set]; omega) (by omega)
    have e0 := flat_at ic 32 ic_length l (j / 32) (j % 32) (by omega) (by omega)
    rw [show j / 32 * 32 + j % 32 = j by omega] at e1 e0
    have ho' : old[j]? = (l.flatMap ic)[j]? := by rw [← ho, List.getElem?_take, if_pos hj]
    rw [e0] at ho'
    rw [e1]
    have hi := ic_length y
    by_cases h1 : j < k * 32
    · rw [List.append_assoc, List.getElem?_append_left (by simp; omega), List.getElem?_take, if_pos h1, ho', List.getElem_set_ne (by omega)]
    · rw [List.append_assoc, List.getElem?_append_right (by simp; omega)]
      have hm : (List.take (k * 32) old).length = k * 32 := by simp; omega
      rw [hm]
      by_cases h2 : j < k * 32 + 32
      · rw [List.getElem?_append_left (by omega)]
        have : j / 32 = k := by omega
        subst this
        rw [List.getElem_set_self]
        congr 1; omega
      · rw [List.getElem?_append_right (by omega), hi, List.getElem?_drop, show k * 32 + 32 + (j - k * 32 - 32) = j by omega, ho', List.getElem_set_ne (by omega)]
  · rw [List.getElem?_eq_none (by simp; omega), List.getElem?_eq_none (by omega)]
theorem own_store {w : World} {A : Option Addr} {c : Nat} {l : List Idv} (h : OwnG ic 23 32 w A c l) (k : Nat) (hk : k < l.length) (y : Idv) :
    ∃ g v, A = some ⟨g, 0, none⟩ ∧ (storeVar 23 ⟨g, k * 32, none⟩ (.agg (ic y).toArray)).run Tryd.prog w = .ok () v ∧ OwnG ic 23 32 v A c (l.set k y) ∧ Mod [g] w v := by
  have hfl := h.1
  rcases h.2 with ⟨hv, hn⟩ | ⟨g, cap, cur, hv, hb, hg, h1, h2, h3, h4⟩
  · omega
  · injection hv with e3 e4 e5
    subst e3
    subst e5
    have hsz : cur.toList.length = c * 32 := by simpa using h3
    have hle : (k + 1) * 32 ≤ c * 32 := Nat.mul_le_mul_right _ (by omega)
    obtain ⟨v, r1, r2, r3, r4⟩ := run_stores (P := Tryd.prog) (w := w) (g := g) (f := k * 32) (t := 23) (ty := 23) (old := cur.toList) (cs := ic y) hg (by rw [ic_length]; omega) (ic_one y) (size25i y)
    refine ⟨g, v, rfl, r1, ?_, r3⟩
    unfold OwnG
    rw [List.length_set]
    refine ⟨by rw [flat_length ic 32 ic_length, List.length_set], .inr ⟨g, c, _, rfl, Nat.zero_le _, r2, h1, h2, ?_, ?_⟩⟩
    · simp [ic_length]; omega
    · rw [ic_length]
      exact flat_store l k y hk cur.toList (by rw [hsz]; exact Nat.mul_le_mul_right _ h1) h4

section
open Go.ChangeShapes Go.WideShapes Go.ChangeAt
variable {H : Type} {enc : TypeId × Value → H} {W : World} {fuel : Nat} {x : DataW H × List MemPlace}
set_option maxRecDepth 100000 in
theorem tur_in {cs : List Value} (h : DataW.trod enc Tryd.prog W 0 (fun _ => true) true fuel 57 cs = some x) : ∃ r : Tur, cs = tuc r := by
  obtain ⟨xs, n, _, _, hlen, hxl, hf⟩ := DataW.trod_struct Tryd.underlying57 h
  have h4 : Tryd.prog.cellsOf 57 = 34 := by kernel_rfl
  have c3 : Tryd.prog.cellsOf 3 = 1 := by kernel_rfl
  have c25 : Tryd.prog.cellsOf 23 = 32 := by kernel_rfl
  rw [h4] at hlen
  match xs, hxl with
  | [y0, y1, y2], _ =>
    have g0 : DataW.trod enc Tryd.prog W 0 (fun _ => true) true n 3 ((cs.drop 0).take 1) = some y0 := by have := hf 0 _ rfl; simpa [c3] using this
    have g1 : DataW.trod enc Tryd.prog W 0 (fun _ => true) true n 3 ((cs.drop 1).take 1) = some y1 := by have := hf 1 _ rfl; simpa [c25, c3] using this
    have g2 : DataW.trod enc Tryd.prog W 0 (fun _ => true) true n 23 ((cs.drop 2).take 32) = some y2 := by have := hf 2 _ rfl; simpa [c25, c3] using this
    obtain ⟨a0, e0, _, _⟩ := DataW.trod_int Tryd.underlying3 g0
    obtain ⟨a1, e1, _, _⟩ := DataW.trod_int Tryd.underlying3 g1
    obtain ⟨r0, e2⟩ := id_in g2
    refine ⟨⟨a0, a1, r0⟩, ?_⟩
    show cs = [.int .i64 a0] ++ ([.int .i64 a1] ++ ic r0)
    rw [← e0, ← e1, ← e2]
    rw [List.drop_zero]
    conv => lhs; rw [← List.take_append_drop 1 cs]
    congr 1
    conv => lhs; rw [← List.take_append_drop 1 (cs.drop 1)]
    congr 1
    rw [List.drop_drop, List.take_of_length_le (by simp; omega)]
theorem tcells_join {b o : Nat} {l : List Tur} (h : ∀ i (hi : i < l.length), Cells W (some ⟨b, o + i * 34, none⟩) (tuc l[i])) : Cells W (some ⟨b, o, none⟩) (l.flatMap tuc) := by
  refine Cells.of_cells fun j hj => ?_
  have hl := flat_length tuc 34 tuc_length l
  rw [hl] at hj
  have hi : j / 34 < l.length := by omega
  have h1 := (h (j / 34) hi).at (j % 34) (by rw [tuc_length]; omega)
  have h2 := flat_at tuc 34 tuc_length l (j / 34) (j % 34) hi (by omega)
  rw [show j / 34 * 34 + j % 34 = j by omega, List.getElem?_eq_getElem (by rw [hl]; exact hj), List.getElem?_eq_getElem (by rw [tuc_length]; omega)] at h2
  have h3 := Option.some.inj h2
  rw [h3, ← h1]
  congr 2
  omega
theorem turs_in {cs : List Value} (h : DataW.trod enc Tryd.prog W 0 (fun _ => true) true fuel 48 cs = some x) :
    ∃ A c, ∃ l : List Tur, cs = [.slice A l.length c] ∧ l.length ≤ c ∧ c ≤ maxLen ∧ Cells W A (l.flatMap tuc) := by
  have h4 : Tryd.prog.cellsOf 57 = 34 := by kernel_rfl
  rcases Deep.open_slice Tryd.underlying48 h with ⟨rfl, _⟩ | ⟨a, len, cap, m, n, D, Pl, rfl, _, hl, hm, hmm, _, hx⟩
  · exact ⟨none, 0, [], rfl, Nat.le_refl _, by simp, Cells.nil _ _⟩
  · simp only [if_true] at hmm
    have key : ∀ i : Nat, ∃ r : Tur, i < len → ∃ b o, a = ⟨b, o, none⟩ ∧ Cells W (some ⟨b, o + i * 34, none⟩) (tuc r) := by
      intro i
      by_cases hi : i < len
      · obtain ⟨cs', h1, h2⟩ := hx i (by omega)
        obtain ⟨r, hf⟩ := tur_in h2
        rw [h4] at h1
        obtain ⟨_, hlen, hcell⟩ := World.cells?_some h1
        have hsp : ∀ j, j < 34 → ∃ v, W.cell? ((a.add (i * 34)).add j) = some v ∧ cs'[j]? = some v := fun j hj => by
          have := hcell j (by omega)
          refine ⟨cs'[j]'(by omega), ?_, List.getElem?_eq_getElem (by omega)⟩
          rw [this]
          exact List.getElem?_eq_getElem _
        refine ⟨r, fun _ => ?_⟩
        obtain ⟨b, o, s⟩ := a
        have hs : s = none := by
          obtain ⟨cs0, h10, h20⟩ := hx 0 (by omega)
          obtain ⟨_, hlen0, hcell0⟩ := World.cells?_some h10
          have q0 := hcell0 0 (by rw [h4]; omega)
          obtain ⟨r0, hd0⟩ := tur_in h20
          rw [hd0, List.getElem?_eq_getElem (by rw [tuc_length]; omega)] at q0
          simpa [Addr.add] using World.cell?_spot q0
        subst hs
        refine ⟨b, o, rfl, Cells.of_cells fun j hj => ?_⟩
        have hj4 : j < 34 := by rwa [tuc_length] at hj
        obtain ⟨v, e1, e2⟩ := hsp j hj4
        rw [add_plain, add_plain] at e1
        rw [e1]
        rw [hf, List.getElem?_eq_getElem hj] at e2
        exact e2.symm
      · exact ⟨⟨0, 0, zeroI⟩, fun h => absurd h hi⟩
    obtain ⟨f, hf⟩ := Classical.axiomOfChoice key
    have hL : ((List.range len).map f).length = len := by simp
    refine ⟨some a, cap, (List.range len).map f, by rw [hL], by rw [hL]; exact hl, hmm ▸ hm, ?_⟩
    rcases Nat.eq_zero_or_pos len with h0 | h0
    · subst h0
      exact Cells.nil _ _
    · obtain ⟨b, o, rfl, _⟩ := hf 0 h0
      refine tcells_join fun i hi => ?_
      rw [hL] at hi
      obtain ⟨b', o', e1, q2⟩ := hf i hi
      cases e1
      simp only [List.getElem_map, List.getElem_range]
      exact q2
set_option maxRecDepth 100000 in
theorem two_in {cs : List Value} (h : DataW.trod enc Tryd.prog W 0 (fun _ => true) true fuel 47 cs = some x) : ∃ a b : Idv, cs = ic a ++ ic b := by
  obtain ⟨xs, m, _, hx, hlen, hxl, hel⟩ := DataW.trod_array Tryd.underlying47 h
  have h4 : Tryd.prog.cellsOf 47 = 64 := by kernel_rfl
  have c25 : Tryd.prog.cellsOf 23 = 32 := by kernel_rfl
  rw [h4] at hlen
  simp only [c25] at hel
  have g0 := hel 0 (by decide)
  have g1 := hel 1 (by decide)
  rw [List.getElem?_eq_getElem (by rw [hxl]; decide)] at g0 g1
  obtain ⟨r0, e0⟩ := id_in g0
  obtain ⟨r1, e1⟩ := id_in g1
  refine ⟨r0, r1, ?_⟩
  rw [← e0, ← e1]
  rw [Nat.zero_mul, List.drop_zero, Nat.one_mul]
  conv => lhs; rw [← List.take_append_drop 32 cs]
  congr 1
  rw [List.take_of_length_le (by rw [List.length_drop]; omega)]
end
end Go.Proofs.YtbacmeaeehhhfaaDoor
