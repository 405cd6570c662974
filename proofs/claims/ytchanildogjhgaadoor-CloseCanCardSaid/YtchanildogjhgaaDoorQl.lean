/-
  CloseCan: the walk. My own work.
-/
import Derived.Test.YtchanildogjhgaaDoorQk
import Derived.Test.YtchanildogjhgaaDoorD2
import Derived.Test.YtchanildogjhgaaDoorPg
import Derived.Test.YtchanildogjhgaaDoorPh
namespace Go.Proofs.YtchanildogjhgaaDoor
open Go.RowKit Go.Shelf
attribute [local go_sem] Oper.semAt_some
set_option linter.unusedVariables false
set_option linter.unusedSimpArgs false
theorem fm_row1G {w0 w : World} {os ts : List Th} {ops : Array Oper} {rest : List Oper} {o : Oper} {a : Act} {Q : Exit → Act → World → Prop} (F : Fm w0 w os ts) {L1 S1 : Nat → Prop} {t1 : Tm} {c1 : List Value} (h1 : tT L1 S1 t1 c1 ∈ ts) (L : Nat → Prop) (k1 : ∀ g, L1 g → L g) (hL : ∀ g, w0.heap.size ≤ g → L g) (hw : Region.wanted o (yielded ops a.tmps) = true) (x : Operand) (ho : o.op = .buildSlice 22 1 #[(0, x)]) (hx : a.eval x = .agg c1.toArray)
    (h : ∀ g S v, Fm w0 v os (tR L S (some ⟨g, 0, none⟩) [c1] [t1] :: ts) → wpList Tryd.prog ops Q rest (a.put o.dst (.slice (some ⟨g, 0, none⟩) 1 1)) v) : wpList Tryd.prog ops Q (o :: rest) a w := by
  obtain ⟨S', F'⟩ := F.row1 h1 L k1 hL
  exact fm_ranW hw _ _ (exec_lit1 (F.ist h1).len ho hx) (h _ _ _ F')
theorem exec_eqbT {v : World} {o : Oper} {ρ : Operand → Value} {x y : Operand} {a : Bool} (ho : o.op = .binOp .eql 4 x y 4) (hx : ρ x = .bool a) (hy : ρ y = .bool a) : (execOp ρ o).run Tryd.prog v = .ok (.value (.bool true)) v := by
  have h := run_eql_bool (P := Tryd.prog) v 4 a a Tryd.underlying4
  unfold execOp
  simp [ho, hx, hy, go_sem, h]
theorem rfE_long {K T : List Tm} (h : 500 < K.length) : rfE K T = 3 := by unfold rfE; rw [if_pos h]
theorem rfE_k {K T : List Tm} (h : K.length ≤ 500) (hr : RightAll K = false) : rfE K T = 150 := by
  unfold rfE fwE
  rw [if_neg (by omega), show K.all Tm.right = false from hr]
  rfl
theorem rfE_t {K : List Tm} {t : Tm} (h : K.length ≤ 500) (hr : RightAll K = true) (ht : RightAll [t] = false) : rfE K [t] = 150 := by
  unfold rfE fwE
  rw [if_neg (by omega), show K.all Tm.right = true from hr, show [t].all Tm.right = false from ht]
  rfl
theorem rfE_ok {K : List Tm} {t : Tm} (h : K.length ≤ 500) (hr : RightAll K = true) (ht : RightAll [t] = true) : rfE K [t] = 0 := by
  unfold rfE fwE
  rw [if_neg (by omega), show K.all Tm.right = true from hr, show [t].all Tm.right = true from ht]
  rfl
set_option maxRecDepth 1000000 in
set_option maxHeartbeats 4000000 in
theorem can_long (A : Option Addr) (n c : Nat) (vs : List (List Value)) (K : List Tm) (S : Nat → Prop) (ct : List Value) (t : Tm) (St : Nat → Prop) (w : World) (hl : n = K.length) (hb : n ≤ 2199023255552) (hR : RowT w S A vs K) (hT : TIs w St t ct) (hS : ∀ g, S g → g < w.heap.size) (hSt : ∀ g, St g → g < w.heap.size) (G : Glob w) (h5n : 500 < n) : Calls Tryd.prog 5 #[.slice A n c, .agg ct.toArray] w fun e w' => e = .returned (.bool true) ∧ Mod [] w w' := by
  have FA := ((Fm.nil w).arg (tR Any S A vs K) (keeps_tR _ _ _ _ _) ⟨hR, fun _ _ => trivial⟩ hS).argT hT hSt
  have h5 := hT.len
  have HG := Lib.hid G
  have HN := Lib.hid hl
  have HBN := Lib.hid hb
  have HE : Hid (rfE K [t] = 3) := Lib.hid (rfE_long (by omega))
  have HNE : Hid (rfE K [t] ≠ 0) := Lib.hid (by rw [HE.out]; decide)
  have hlZ : ¬ (n : Int) ≤ 500 := by omega
  have hgZ : (500 : Int) < (n : Int) := by omega
  clear hR hT hS hSt G hl hb
  go_enter Tryd.func5, Tryd.ntmps5
  go_wp2_with (first
    | (with_reducible refine fm_box FA (o := ⟨some 3, .box 24 (.tmp 1), _, _, _, _⟩) rfl 24 (.tmp 1) rfl ct rfl ?_; intro b3 w1 F1; clear FA)
    | (go_at_call 34; refine (wakes07_c w1 (F1.glob HG.out)).mono ?_
       rintro e w2 ⟨rfl, m2⟩
       have F2 := F1.call m2
       clear F1 m2)
    | (with_reducible refine fm_load F2 0 rfl (o := ⟨some 23, .load 24 (.tmp 3), _, _, _, _⟩) rfl (.tmp 3) rfl rfl h5 ?_)
    | (go_at_call 36
       have HC := can_no A n c vs K S ct t St w2 HN.out (F2.s 1 rfl).1 (F2.ist (F2.mem 0 rfl)) (F2.slt 1 rfl) (F2.slt 0 rfl) (F2.glob HG.out) HNE.out
       rw [HE.out] at HC
       with_reducible refine Calls.mono HC ?_
       rintro e w3 ⟨rfl, mz⟩
       have F3 := F2.call mz
       clear HC F2 mz))
  go_ret
  exact ⟨rfl, F3.m⟩
set_option maxRecDepth 1000000 in
set_option maxHeartbeats 4000000 in
theorem can_k (A : Option Addr) (n c : Nat) (vs : List (List Value)) (K : List Tm) (S : Nat → Prop) (ct : List Value) (t : Tm) (St : Nat → Prop) (w : World) (hl : n = K.length) (hb : n ≤ 2199023255552) (hR : RowT w S A vs K) (hT : TIs w St t ct) (hS : ∀ g, S g → g < w.heap.size) (hSt : ∀ g, St g → g < w.heap.size) (G : Glob w) (h5n : n ≤ 500) (hra : RightAll K = false) : Calls Tryd.prog 5 #[.slice A n c, .agg ct.toArray] w fun e w' => e = .returned (.bool true) ∧ Mod [] w w' := by
  have FA := ((Fm.nil w).arg (tR Any S A vs K) (keeps_tR _ _ _ _ _) ⟨hR, fun _ _ => trivial⟩ hS).argT hT hSt
  have h5 := hT.len
  have HG := Lib.hid G
  have HN := Lib.hid hl
  have HBN := Lib.hid hb
  have HE : Hid (rfE K [t] = 150) := Lib.hid (rfE_k (by omega) hra)
  have HNE : Hid (rfE K [t] ≠ 0) := Lib.hid (by rw [HE.out]; decide)
  have HRA := Lib.hid hra
  have hlZ : (n : Int) ≤ 500 := by omega
  have hgZ : ¬ (500 : Int) < (n : Int) := by omega
  clear hR hT hS hSt G hl hb hra
  go_enter Tryd.func5, Tryd.ntmps5
  go_wp2_with (first
    | (with_reducible refine fm_box FA (o := ⟨some 3, .box 24 (.tmp 1), _, _, _, _⟩) rfl 24 (.tmp 1) rfl ct rfl ?_; intro b3 w1 F1; clear FA)
    | (go_at_call 34; refine (wakes07_c w1 (F1.glob HG.out)).mono ?_
       rintro e w2 ⟨rfl, m2⟩
       have F2 := F1.call m2
       clear F1 m2)
    | (go_at_call 35
       have HC := large_c A n c vs K S w2 HN.out HBN.out (F2.s 1 rfl).1 (F2.slt 1 rfl)
       with_reducible refine Calls.mono HC ?_
       rintro e w3 ⟨b1, rfl, hb1, mz⟩
       replace hb1 := Lib.hid hb1
       have F3 := F2.call mz
       clear HC F2 mz
       cases b1)
    | (with_reducible refine fm_loadG F3 0 rfl (o := ⟨some 16, .load 24 (.tmp 3), _, _, _, _⟩) (by with_unfolding_all rfl) (.tmp 3) rfl rfl h5 ?_)
    | (with_reducible refine fm_row1G F3 (F3.mem 0 rfl) Any (fun _ _ => trivial) (fun _ _ => trivial) (o := ⟨some 17, .buildSlice 22 1 #[(0, .tmp 16)], _, _, _, _⟩) (by with_unfolding_all rfl) (.tmp 16) rfl rfl ?_; intro g4 S4 w4 F4; clear F3)
    | (go_at_call 35
       have HC := large_c (some ⟨g4, 0, none⟩) 1 1 [ct] [t] S4 w4 rfl (by decide) (F4.s 0 rfl).1 (F4.slt 0 rfl)
       with_reducible refine Calls.mono HC ?_
       rintro e w5 ⟨b2, rfl, hb2, mz⟩
       replace hb2 := Lib.hid hb2
       have F5 := F4.call mz
       clear HC F4 mz
       cases b2)
    | (with_reducible refine fm_load F5 0 rfl (o := ⟨some 23, .load 24 (.tmp 3), _, _, _, _⟩) rfl (.tmp 3) rfl rfl h5 ?_)
    | (go_at_call 36
       have HC := can_no A n c vs K S ct t St w5 HN.out (F5.s 2 rfl).1 (F5.ist (F5.mem 1 rfl)) (F5.slt 2 rfl) (F5.slt 1 rfl) (F5.glob HG.out) HNE.out
       rw [HE.out] at HC
       with_reducible refine Calls.mono HC ?_
       rintro e w6 ⟨rfl, mz⟩
       have F6 := F5.call mz
       clear HC F5 mz)
    | (go_at_call 37
       have HC := right_c A n c vs K S w6 HN.out HBN.out (F6.s 2 rfl).1 (F6.slt 2 rfl)
       rw [HRA.out] at HC
       with_reducible refine Calls.mono HC ?_
       rintro e w7 ⟨rfl, mz⟩
       have F7 := F6.call mz
       clear HC F6 mz))
  all_goals go_ret
  all_goals first
    | exact ⟨rfl, F7.m⟩
    | exact ⟨rfl, F5.m⟩
    | exact ⟨rfl, F3.m⟩
set_option maxRecDepth 1000000 in
set_option maxHeartbeats 4000000 in
theorem can_t (A : Option Addr) (n c : Nat) (vs : List (List Value)) (K : List Tm) (S : Nat → Prop) (ct : List Value) (t : Tm) (St : Nat → Prop) (w : World) (hl : n = K.length) (hb : n ≤ 2199023255552) (hR : RowT w S A vs K) (hT : TIs w St t ct) (hS : ∀ g, S g → g < w.heap.size) (hSt : ∀ g, St g → g < w.heap.size) (G : Glob w) (h5n : n ≤ 500) (hra : RightAll K = true) (hrt : RightAll [t] = false) : Calls Tryd.prog 5 #[.slice A n c, .agg ct.toArray] w fun e w' => e = .returned (.bool true) ∧ Mod [] w w' := by
  have FA := ((Fm.nil w).arg (tR Any S A vs K) (keeps_tR _ _ _ _ _) ⟨hR, fun _ _ => trivial⟩ hS).argT hT hSt
  have h5 := hT.len
  have HG := Lib.hid G
  have HN := Lib.hid hl
  have HBN := Lib.hid hb
  have HE : Hid (rfE K [t] = 150) := Lib.hid (rfE_t (by omega) hra hrt)
  have HNE : Hid (rfE K [t] ≠ 0) := Lib.hid (by rw [HE.out]; decide)
  have HRA := Lib.hid hra
  have HRT := Lib.hid hrt
  have hlZ : (n : Int) ≤ 500 := by omega
  have hgZ : ¬ (500 : Int) < (n : Int) := by omega
  clear hR hT hS hSt G hl hb hra hrt
  go_enter Tryd.func5, Tryd.ntmps5
  go_wp2_with (first
    | (with_reducible refine fm_box FA (o := ⟨some 3, .box 24 (.tmp 1), _, _, _, _⟩) rfl 24 (.tmp 1) rfl ct rfl ?_; intro b3 w1 F1; clear FA)
    | (go_at_call 34; refine (wakes07_c w1 (F1.glob HG.out)).mono ?_
       rintro e w2 ⟨rfl, m2⟩
       have F2 := F1.call m2
       clear F1 m2)
    | (go_at_call 35
       have HC := large_c A n c vs K S w2 HN.out HBN.out (F2.s 1 rfl).1 (F2.slt 1 rfl)
       with_reducible refine Calls.mono HC ?_
       rintro e w3 ⟨b1, rfl, hb1, mz⟩
       replace hb1 := Lib.hid hb1
       have F3 := F2.call mz
       clear HC F2 mz
       cases b1)
    | (with_reducible refine fm_loadG F3 0 rfl (o := ⟨some 16, .load 24 (.tmp 3), _, _, _, _⟩) (by with_unfolding_all rfl) (.tmp 3) rfl rfl h5 ?_)
    | (with_reducible refine fm_row1G F3 (F3.mem 0 rfl) Any (fun _ _ => trivial) (fun _ _ => trivial) (o := ⟨some 17, .buildSlice 22 1 #[(0, .tmp 16)], _, _, _, _⟩) (by with_unfolding_all rfl) (.tmp 16) rfl rfl ?_; intro g4 S4 w4 F4; clear F3)
    | (go_at_call 35
       have HC := large_c (some ⟨g4, 0, none⟩) 1 1 [ct] [t] S4 w4 rfl (by decide) (F4.s 0 rfl).1 (F4.slt 0 rfl)
       with_reducible refine Calls.mono HC ?_
       rintro e w5 ⟨b2, rfl, hb2, mz⟩
       replace hb2 := Lib.hid hb2
       have F5 := F4.call mz
       clear HC F4 mz
       cases b2)
    | (with_reducible refine fm_load F5 0 rfl (o := ⟨some 23, .load 24 (.tmp 3), _, _, _, _⟩) rfl (.tmp 3) rfl rfl h5 ?_)
    | (go_at_call 36
       have HC := can_no A n c vs K S ct t St w5 HN.out (F5.s 2 rfl).1 (F5.ist (F5.mem 1 rfl)) (F5.slt 2 rfl) (F5.slt 1 rfl) (F5.glob HG.out) HNE.out
       rw [HE.out] at HC
       with_reducible refine Calls.mono HC ?_
       rintro e w6 ⟨rfl, mz⟩
       have F6 := F5.call mz
       clear HC F5 mz)
    | (go_at_call 37
       have HC := right_c A n c vs K S w6 HN.out HBN.out (F6.s 2 rfl).1 (F6.slt 2 rfl)
       rw [HRA.out] at HC
       with_reducible refine Calls.mono HC ?_
       rintro e w7 ⟨rfl, mz⟩
       have F7 := F6.call mz
       clear HC F6 mz)
    | (with_reducible refine fm_loadG F7 0 rfl (o := ⟨some 42, .load 24 (.tmp 3), _, _, _, _⟩) (by with_unfolding_all rfl) (.tmp 3) rfl rfl h5 ?_)
    | (with_reducible refine fm_row1G F7 (F7.mem 1 rfl) Any (fun _ _ => trivial) (fun _ _ => trivial) (o := ⟨some 43, .buildSlice 22 1 #[(0, .tmp 42)], _, _, _, _⟩) (by with_unfolding_all rfl) (.tmp 42) rfl rfl ?_; intro g8 S8 w8 F8; clear F7)
    | (go_at_call 37
       have HC := right_c (some ⟨g8, 0, none⟩) 1 1 [ct] [t] S8 w8 rfl (by decide) (F8.s 0 rfl).1 (F8.slt 0 rfl)
       rw [HRT.out] at HC
       with_reducible refine Calls.mono HC ?_
       rintro e w9 ⟨rfl, mz⟩
       have F9 := F8.call mz
       clear HC F8 mz))
  all_goals go_ret
  all_goals first
    | exact ⟨rfl, F9.m⟩
    | exact ⟨rfl, F5.m⟩
    | exact ⟨rfl, F3.m⟩
set_option maxRecDepth 1000000 in
set_option maxHeartbeats 4000000 in
theorem can_yes (A : Option Addr) (n c : Nat) (vs : List (List Value)) (K : List Tm) (S : Nat → Prop) (ct : List Value) (t : Tm) (St : Nat → Prop) (w : World) (hl : n = K.length) (hb : n ≤ 2199023255552) (hR : RowT w S A vs K) (hT : TIs w St t ct) (hS : ∀ g, S g → g < w.heap.size) (hSt : ∀ g, St g → g < w.heap.size) (G : Glob w) (h5n : n ≤ 500) (hra : RightAll K = true) (hrt : RightAll [t] = true) : Calls Tryd.prog 5 #[.slice A n c, .agg ct.toArray] w fun e w' => e = .returned (.bool true) ∧ Mod [] w w' := by
  have FA := ((Fm.nil w).arg (tR Any S A vs K) (keeps_tR _ _ _ _ _) ⟨hR, fun _ _ => trivial⟩ hS).argT hT hSt
  have h5 := hT.len
  have HG := Lib.hid G
  have HN := Lib.hid hl
  have HBN := Lib.hid hb
  have HE : Hid (rfE K [t] = 0) := Lib.hid (rfE_ok (by omega) hra hrt)
  have HOK : Hid (∀ x, x ∈ K ∨ x ∈ [t] → x.ok = true) := Lib.hid fun x hx => by
    rcases hx with hx | hx
    · exact (right_ok ((rightAll_iff K).1 hra x hx)).1
    · exact (right_ok ((rightAll_iff [t]).1 hrt x hx)).1
  have HRA := Lib.hid hra
  have HRT := Lib.hid hrt
  have hlZ : (n : Int) ≤ 500 := by omega
  have hgZ : ¬ (500 : Int) < (n : Int) := by omega
  clear hR hT hS hSt G hl hb hra hrt
  go_enter Tryd.func5, Tryd.ntmps5
  go_wp2_with (first
    | (with_reducible refine fm_box FA (o := ⟨some 3, .box 24 (.tmp 1), _, _, _, _⟩) rfl 24 (.tmp 1) rfl ct rfl ?_; intro b3 w1 F1; clear FA)
    | (go_at_call 34; refine (wakes07_c w1 (F1.glob HG.out)).mono ?_
       rintro e w2 ⟨rfl, m2⟩
       have F2 := F1.call m2
       clear F1 m2)
    | (go_at_call 35
       have HC := large_c A n c vs K S w2 HN.out HBN.out (F2.s 1 rfl).1 (F2.slt 1 rfl)
       with_reducible refine Calls.mono HC ?_
       rintro e w3 ⟨b1, rfl, hb1, mz⟩
       replace hb1 := Lib.hid hb1
       have F3 := F2.call mz
       clear HC F2 mz
       cases b1)
    | (with_reducible refine fm_loadG F3 0 rfl (o := ⟨some 16, .load 24 (.tmp 3), _, _, _, _⟩) (by with_unfolding_all rfl) (.tmp 3) rfl rfl h5 ?_)
    | (with_reducible refine fm_row1G F3 (F3.mem 0 rfl) Any (fun _ _ => trivial) (fun _ _ => trivial) (o := ⟨some 17, .buildSlice 22 1 #[(0, .tmp 16)], _, _, _, _⟩) (by with_unfolding_all rfl) (.tmp 16) rfl rfl ?_; intro g4 S4 w4 F4; clear F3)
    | (go_at_call 35
       have HC := large_c (some ⟨g4, 0, none⟩) 1 1 [ct] [t] S4 w4 rfl (by decide) (F4.s 0 rfl).1 (F4.slt 0 rfl)
       with_reducible refine Calls.mono HC ?_
       rintro e w5 ⟨b2, rfl, hb2, mz⟩
       replace hb2 := Lib.hid hb2
       have F5 := F4.call mz
       clear HC F4 mz
       cases b2)
    | (with_reducible refine fm_load F5 0 rfl (o := ⟨some 23, .load 24 (.tmp 3), _, _, _, _⟩) rfl (.tmp 3) rfl rfl h5 ?_)
    | (go_at_call 36
       have HC := can_ok A n c vs K S ct t St w5 HN.out (F5.s 2 rfl).1 (F5.ist (F5.mem 1 rfl)) (F5.slt 2 rfl) (F5.slt 1 rfl) (F5.glob HG.out) HE.out (by have := (hb1.out (by simp)).2; have := (hb2.out (by simp)).2; simp only [Tm.countAll] at this; omega)
       with_reducible refine Calls.mono HC ?_
       rintro e w6 ⟨bb, rfl, hbb, mz⟩
       have HBB := Lib.hid hbb
       have F6 := F5.call mz
       clear HC F5 mz hbb)
    | (go_at_call 37
       have HC := right_c A n c vs K S w6 HN.out HBN.out (F6.s 2 rfl).1 (F6.slt 2 rfl)
       rw [HRA.out] at HC
       with_reducible refine Calls.mono HC ?_
       rintro e w7 ⟨rfl, mz⟩
       have F7 := F6.call mz
       clear HC F6 mz)
    | (with_reducible refine fm_loadG F7 0 rfl (o := ⟨some 42, .load 24 (.tmp 3), _, _, _, _⟩) (by with_unfolding_all rfl) (.tmp 3) rfl rfl h5 ?_)
    | (with_reducible refine fm_row1G F7 (F7.mem 1 rfl) Any (fun _ _ => trivial) (fun _ _ => trivial) (o := ⟨some 43, .buildSlice 22 1 #[(0, .tmp 42)], _, _, _, _⟩) (by with_unfolding_all rfl) (.tmp 42) rfl rfl ?_; intro g8 S8 w8 F8; clear F7)
    | (go_at_call 37
       have HC := right_c (some ⟨g8, 0, none⟩) 1 1 [ct] [t] S8 w8 rfl (by decide) (F8.s 0 rfl).1 (F8.slt 0 rfl)
       rw [HRT.out] at HC
       with_reducible refine Calls.mono HC ?_
       rintro e w9 ⟨rfl, mz⟩
       have F9 := F8.call mz
       clear HC F8 mz)
    | (with_reducible refine fm_loadG F9 0 rfl (o := ⟨some 58, .load 24 (.tmp 3), _, _, _, _⟩) (by with_unfolding_all rfl) (.tmp 3) rfl rfl h5 ?_)
    | (go_at_call 38
       have HC := rcan_c A n c vs K S ct t St w9 HN.out (F9.s 3 rfl).1 (F9.ist (F9.mem 2 rfl)) (F9.slt 3 rfl) (F9.slt 2 rfl) HOK.out (by have := (hb1.out (by simp)).2; have := (hb2.out (by simp)).2; simp only [Tm.countAll] at this; omega)
       with_reducible refine Calls.mono HC ?_
       rintro e wa ⟨b9, rfl, hb9, mz⟩
       have FB := F9.call mz
       have heq : b9 = bb := by
         have h1 := HBB.out
         cases b9 <;> cases bb <;> simp_all
       subst heq
       clear HC F9 mz hb9)
    | (with_reducible refine fm_ranW (o := ⟨some 60, .binOp _ _ _ _ _, _, _, _, _⟩) (by with_unfolding_all rfl) (.bool true) _ (exec_eqbT rfl rfl rfl) ?_))
  all_goals go_ret
  all_goals first
    | exact ⟨rfl, FB.m⟩
    | exact ⟨rfl, F5.m⟩
    | exact ⟨rfl, F3.m⟩
theorem closeCan_w (A : Option Addr) (c : Nat) (vs : List (List Value)) (K : List Tm) (t : Tm) (ct : List Value) (W : World) (hl : K.length ≤ c) (hm : c ≤ maxLen) (hb : K.length ≤ 2199023255552) (hR : RowT W (Btw 0 W.heap.size) A vs K) (hT : TIs W (Btw 0 W.heap.size) t ct) (G : Glob W) :
    Calls Tryd.prog 5 #[.slice A K.length c, .agg ct.toArray] W fun e w' => e = .returned (.bool true) ∧ Mod [] W w' := by
  by_cases h5 : 500 < K.length
  · exact can_long A _ c vs K _ ct t _ W rfl hb hR hT (fun g hg => hg.2) (fun g hg => hg.2) G h5
  cases hra : RightAll K with
  | false => exact can_k A _ c vs K _ ct t _ W rfl hb hR hT (fun g hg => hg.2) (fun g hg => hg.2) G (by omega) hra
  | true =>
    cases hrt : RightAll [t] with
    | false => exact can_t A _ c vs K _ ct t _ W rfl hb hR hT (fun g hg => hg.2) (fun g hg => hg.2) G (by omega) hra hrt
    | true => exact can_yes A _ c vs K _ ct t _ W rfl hb hR hT (fun g hg => hg.2) (fun g hg => hg.2) G (by omega) hra hrt
end Go.Proofs.YtchanildogjhgaaDoor

