/-
  My own texts Wx, one behind the other.
-/
import Derived.Test.YtcoedhemlghjoaaDoorBr
namespace Go.Proofs.YtcoedhemlghjoaaDoor
section
open Go.RowKit
theorem exec_eqi {P : Program} {v : World} {o : Oper} {ρ : Operand → Value} {t t' : TypeId} {x y : Operand} {k : IntKind} {a b : Int} {c : Bool} (ho : o.op = .binOp .eql t x y t') (hx : ρ x = .int k a) (hy : ρ y = .int k b) (h : decide (a = b) = c) : (execOp ρ o).run P v = .ok (.value (.bool c)) v := by
  subst h
  unfold execOp
  simp [ho, hx, hy, go_sem]
  rfl
theorem exec_build91c {v : World} {o : Oper} {ρ : Operand → Value} {x y : Operand} {t : Int} {a : Int} (ho : o.op = .build 47 #[(0, x), (1, y)]) (hx : ρ x = .int .u32 t) (hy : ρ y = .int .i64 a) (T : Nat) (hT : t = (T : Int)) : (execOp ρ o).run Tryd.prog v = .ok (.value (hv T a)) v := by
  subst hT
  exact exec_build91b ho hx hy
set_option maxRecDepth 100000 in
set_option maxHeartbeats 4000000 in
theorem ck_ref (c s : List UInt32) (S : St) (g m cc : Nat) (A : Option Addr) (b t a : Nat) (st : Value) (C : Option Addr) (k ck e : Nat) (br : Bool) (B : Option Addr) (nb cb : Nat) (l : List UInt8) (w : World) (_ : DAt w g m A cc S) (H : AddH c s g m A b t a st C k ck e (.pointer (some ⟨g, 0, none⟩)) br B nb cb l w) (er : Int) (her : er = (if 40000 < nb then 3 else if br = true then 8 else 0)) (h0 : er ≠ 0) :
    Calls Tryd.prog 13 #[.pointer (some ⟨b, 0, none⟩), .slice B nb cb] w fun r w' => r = .returned (.int .i64 er) ∧ Mod [] w w' := by
  have XR := fun v (q : Mod [] w v) => refuses_c B nb cb v H.hl (H.hb.keep q (by simp))
  have XF := fun v => sectors_c nb (by have := H.hl; omega) v
  have XB := fun v (q : Mod [] w v) => begin_c (t + 1) (a : Int) B l nb cb H.hn v H.hl (H.hr.keep q (by simp))
  have haZ : (a : Int) ≤ 1000 := by have := H.ha; omega
  obtain ⟨f, hf⟩ : ∃ f, f = fills nb := ⟨_, rfl⟩
  rw [← hf] at XF XB
  rw [← her] at XR
  clear H hf her XF XB
  go_enter Tryd.func13, Tryd.ntmps13
  go_wp2_with (first
    | (with_reducible refine wpList_boxes (o := ⟨some 2, .box 29 (.tmp 0), _, _, _, _⟩) rfl 29 (.tmp 0) rfl _ rfl [.pointer (some ⟨b, 0, none⟩)] rfl ?_
       intro w2 hb1 m1 z1
       obtain ⟨bp, ep⟩ : ∃ x, x = w.heap.size := ⟨_, rfl⟩
       rw [← ep] at hb1
       rw [← ep]
       have HO := Lib.hid (show w.heap.size ≤ bp ∧ bp < w2.heap.size by omega)
       have c2 := hb1.cell 0
       simp only [List.getElem?_cons_zero] at c2
       clear ep z1))
  refine (XR _ m1).mono ?_
  rintro r w3 ⟨rfl, rfl⟩
  clear XR
  go_wp2
  go_ret
  exact ⟨rfl, m1⟩
set_option maxRecDepth 100000 in
set_option maxHeartbeats 4000000 in
theorem ck_full1 (c s : List UInt32) (S : St) (g m cc : Nat) (A : Option Addr) (b t a : Nat) (st : Value) (C : Option Addr) (k ck e : Nat) (br : Bool) (B : Option Addr) (nb cb : Nat) (l : List UInt8) (w : World) (D : DAt w g m A cc S) (H : AddH c s g m A b t a st C k ck e (.pointer (some ⟨g, 0, none⟩)) br B nb cb l w) (hn : nb ≤ 40000) (hbr : br = false) (hfull : a < fills nb) :
    Calls Tryd.prog 13 #[.pointer (some ⟨b, 0, none⟩), .slice B nb cb] w fun r w' => r = .returned (.int .i64 6) ∧ Mod [] w w' := by
  have XR := fun v (q : Mod [] w v) => refuses_c B nb cb v H.hl (H.hb.keep q (by simp))
  have XF := fun v => sectors_c nb (by have := H.hl; omega) v
  have XB := fun v (q : Mod [] w v) => begin_c (t + 1) (a : Int) B l nb cb H.hn v H.hl (H.hr.keep q (by simp))
  have haZ : (a : Int) ≤ 1000 := by have := H.ha; omega
  obtain ⟨f, hf⟩ : ∃ f, f = fills nb := ⟨_, rfl⟩
  rw [← hf] at XF XB
  rw [show (if 40000 < nb then 3 else if br = true then 8 else 0 : Int) = 0 by rw [if_neg (by omega), if_neg (by rw [hbr]; simp)]] at XR
  have HG : Hid (decide ((a : Int) < (f : Int)) = true) := Lib.hid (by simp; omega)
  have HH := Lib.hid (And.intro D H)
  clear D H hf hn hbr hfull XB
  go_enter Tryd.func13, Tryd.ntmps13
  go_wp2_with (first
    | (with_reducible refine wpList_boxes (o := ⟨some 2, .box 29 (.tmp 0), _, _, _, _⟩) rfl 29 (.tmp 0) rfl _ rfl [.pointer (some ⟨b, 0, none⟩)] rfl ?_
       intro w2 hb1 m1 z1
       obtain ⟨bp, ep⟩ : ∃ x, x = w.heap.size := ⟨_, rfl⟩
       rw [← ep] at hb1
       rw [← ep]
       have HO := Lib.hid (show w.heap.size ≤ bp ∧ bp < w2.heap.size by omega)
       have c2 := hb1.cell 0
       simp only [List.getElem?_cons_zero] at c2
       clear ep z1))
  refine (XR _ m1).mono ?_
  rintro r w3 ⟨rfl, rfl⟩
  clear XR
  go_wp2_with fail
  refine Rg.wp_region_lit1 [Value.pointer (some { block := b, off := 0 }), Value.slice B nb cb, Value.pointer (some { block := bp, off := 0 }), undef, Value.int IntKind.i64 0, Value.int IntKind.i64 0, undef, undef, Value.pointer (some { block := b, off := 0 }), Value.slice B nb cb, Value.int IntKind.i64 0, Value.int IntKind.i64 0, Value.bool false, undef, .slice B nb cb, .int .i64 (nb : Int), .int .i64 (f : Int), .pointer (some ⟨b, 0, none⟩), .pointer (some ⟨b, 0, none⟩), .pointer (some ⟨b, 0, none⟩), .pointer (some ⟨b, 0, none⟩), .pointer (some ⟨b, 1, none⟩), .int .i64 (a : Int), .bool true, .bool true, undef, undef, undef, undef, undef, undef, undef, .bool true, undef, undef, undef, undef, undef, undef, undef, undef, undef, undef, undef, undef, undef, undef, undef, undef, undef, undef, undef, undef, undef, undef, undef, undef, undef, undef] 59 [0, 1, 2, 3, 4, 5, 6, 7, 8, 9, 10, 11, 12, 13, 33, 34, 35, 36, 37, 38, 39, 40, 41, 42, 43, 44, 45, 46, 47, 48, 49, 50, 51, 52, 53, 54, 55, 56, 57, 58]
    (fun lz v => Mod [] w3.drew v) []
    (by kernel_rfl) rfl rfl rfl rfl (Mod.refl _ _) (by kernel_rfl) (by kernel_rfl) ?step ?fin
  case step =>
    intro lz T v j o hj hlj hdep hst hpar hgot hcl Kq hK
    have hjn : j < 19 := (Array.getElem?_eq_some_iff.1 hj).1
    obtain rfl | rfl | rfl | rfl | rfl | rfl | rfl | rfl | rfl | rfl | rfl | rfl | rfl | rfl | rfl | rfl | rfl | rfl | rfl : j = 0 ∨ j = 1 ∨ j = 2 ∨ j = 3 ∨ j = 4 ∨ j = 5 ∨ j = 6 ∨ j = 7 ∨ j = 8 ∨ j = 9 ∨ j = 10 ∨ j = 11 ∨ j = 12 ∨ j = 13 ∨ j = 14 ∨ j = 15 ∨ j = 16 ∨ j = 17 ∨ j = 18 := by omega
    all_goals (have hj' := Option.some.inj (hj : some _ = some o); subst hj'; clear hj)
    · exact Rg.wp_ran rfl (Rg.exec_move rfl (eval_tmp (hpar 1 (by simp)))) (hK _ _ (fun s hs => by cases hs; rfl) hst)
    · exact wp_ran rfl (Rg.exec_len Tryd.underlying34 rfl (eval_tmp (hgot 0 _ 14 rfl (hdep ⟨0, .data⟩ (by simp) rfl) rfl))) (hK _ _ (fun s hs => by cases hs; rfl) hst)
    · exact Rg.wp_called rfl (Rg.exec_call1 rfl rfl (eval_tmp (hgot 1 _ 15 rfl (hdep ⟨1, .data⟩ (by simp) rfl) rfl)) (enters_of Tryd.func5 (by kernel_rfl) rfl)) ((XF v).mono (fun e v' hh => ⟨_, hh.1, hK _ _ (fun s hs => by cases hs; rfl) (by rw [hh.2]; exact hst)⟩))
    · exact Rg.wp_ran rfl (Rg.exec_load rfl (eval_tmp (hpar 2 (by simp))) (Rg.run_load1 Tryd.underlying29 rfl ((hb1.keep ((Mod.drew [] w3).then hst) (by simp)).cell 0))) (hK _ _ (fun s hs => by cases hs; rfl) hst)
    · exact Rg.wp_ran rfl (Rg.exec_nil rfl (eval_tmp (hgot 3 _ 17 rfl (hdep ⟨3, .data⟩ (by simp) rfl) rfl))) (hK _ _ (fun s hs => by cases hs; rfl) hst)
    · exact Rg.wp_ran rfl (exec_f100_0 rfl (eval_tmp (hgot 4 _ 18 rfl (hdep ⟨4, .data⟩ (by simp) rfl) rfl))) (hK _ _ (fun s hs => by cases hs; rfl) hst)
    · exact Rg.wp_ran rfl (exec_f93_0 rfl (eval_tmp (hgot 5 _ 19 rfl (hdep ⟨5, .data⟩ (by simp) rfl) rfl))) (hK _ _ (fun s hs => by cases hs; rfl) hst)
    · exact Rg.wp_ran rfl (exec_f91_1 rfl (eval_tmp (hgot 6 _ 20 rfl (hdep ⟨6, .data⟩ (by simp) rfl) rfl))) (hK _ _ (fun s hs => by cases hs; rfl) hst)
    · exact Rg.wp_ran rfl (Rg.exec_load rfl (eval_tmp (hgot 7 _ 21 rfl (hdep ⟨7, .data⟩ (by simp) rfl) rfl)) (Rg.run_load1 Tryd.underlying3 rfl (lc_cells (HH.out.2.hb.keep (m1.then ((Mod.drew [] w3).then hst)) (by simp))).2.1)) (hK _ _ (fun s hs => by cases hs; rfl) hst)
    · exact Rg.wp_ran rfl (exec_gtr rfl (eval_tmp (hgot 2 _ 16 rfl (hdep ⟨2, .data⟩ (by simp) rfl) rfl)) (eval_tmp (hgot 8 _ 22 rfl (hdep ⟨8, .data⟩ (by simp) rfl) rfl)) (HG.out)) (hK _ _ (fun s hs => by cases hs; rfl) hst)
    · exact Rg.wp_ran rfl (Rg.exec_move rfl (eval_tmp (hgot 9 _ 23 rfl (hdep ⟨9, .data⟩ (by simp) rfl) rfl))) (hK _ _ (fun s hs => by cases hs; rfl) hst)
    · exact Rg.wp_skip (Rg.wanted_no rfl rfl rfl rfl (hgot 10 _ 24 rfl (hdep ⟨10, .guard⟩ (by simp) rfl) rfl)) (hK _ _ (fun s hs => by cases hs; rfl) hst)
    · exact Rg.wp_skip (Rg.wanted_no rfl rfl rfl rfl (hgot 10 _ 24 rfl (hdep ⟨10, .guard⟩ (by simp) rfl) rfl)) (hK _ _ (fun s hs => by cases hs; rfl) hst)
    · exact Rg.wp_skip (Rg.wanted_no rfl rfl rfl rfl (hgot 10 _ 24 rfl (hdep ⟨10, .guard⟩ (by simp) rfl) rfl)) (hK _ _ (fun s hs => by cases hs; rfl) hst)
    · exact Rg.wp_skip (Rg.wanted_no rfl rfl rfl rfl (hgot 10 _ 24 rfl (hdep ⟨10, .guard⟩ (by simp) rfl) rfl)) (hK _ _ (fun s hs => by cases hs; rfl) hst)
    · exact Rg.wp_skip (Rg.wanted_no rfl rfl rfl rfl (hgot 10 _ 24 rfl (hdep ⟨10, .guard⟩ (by simp) rfl) rfl)) (hK _ _ (fun s hs => by cases hs; rfl) hst)
    · exact Rg.wp_skip (Rg.wanted_no rfl rfl rfl rfl (hgot 10 _ 24 rfl (hdep ⟨10, .guard⟩ (by simp) rfl) rfl)) (hK _ _ (fun s hs => by cases hs; rfl) hst)
    · exact Rg.wp_skip (Rg.wanted_no rfl rfl rfl rfl (hgot 10 _ 24 rfl (hdep ⟨10, .guard⟩ (by simp) rfl) rfl)) (hK _ _ (fun s hs => by cases hs; rfl) hst)
    · exact Rg.wp_ran rfl (Rg.exec_pick rfl (eval_tmp (hgot 10 _ 24 rfl (hdep ⟨10, .data⟩ (by simp) rfl) rfl)) rfl (eval_tmp (hgot 17 _ 31 rfl (hdep ⟨17, .data⟩ (by simp) rfl) rfl)) rfl) (hK _ _ (fun s hs => by cases hs; rfl) hst)
  case fin =>
    intro lz v hl hst
    clear hl
    dsimp only
    go_wp2
    go_ret
    exact ⟨rfl, m1.then ((Mod.drew [] w3).then hst)⟩
set_option maxRecDepth 100000 in
set_option maxHeartbeats 4000000 in
theorem ck_full2 (c s : List UInt32) (S : St) (g m cc : Nat) (A : Option Addr) (b t a : Nat) (st : Value) (C : Option Addr) (k ck e : Nat) (br : Bool) (B : Option Addr) (nb cb : Nat) (l : List UInt8) (w : World) (D : DAt w g m A cc S) (H : AddH c s g m A b t a st C k ck e (.pointer (some ⟨g, 0, none⟩)) br B nb cb l w) (hn : nb ≤ 40000) (hbr : br = false) (hfit : fills nb ≤ a) (hmax : t = 4294967295) :
    Calls Tryd.prog 13 #[.pointer (some ⟨b, 0, none⟩), .slice B nb cb] w fun r w' => r = .returned (.int .i64 6) ∧ Mod [] w w' := by
  have XR := fun v (q : Mod [] w v) => refuses_c B nb cb v H.hl (H.hb.keep q (by simp))
  have XF := fun v => sectors_c nb (by have := H.hl; omega) v
  have XB := fun v (q : Mod [] w v) => begin_c (t + 1) (a : Int) B l nb cb H.hn v H.hl (H.hr.keep q (by simp))
  have haZ : (a : Int) ≤ 1000 := by have := H.ha; omega
  obtain ⟨f, hf⟩ : ∃ f, f = fills nb := ⟨_, rfl⟩
  rw [← hf] at XF XB
  rw [show (if 40000 < nb then 3 else if br = true then 8 else 0 : Int) = 0 by rw [if_neg (by omega), if_neg (by rw [hbr]; simp)]] at XR
  have HG : Hid (decide ((a : Int) < (f : Int)) = false) := Lib.hid (by simp; omega)
  have HT : Hid (decide ((t : Int) = 4294967295) = true) := Lib.hid (by simp; omega)
  have HH := Lib.hid (And.intro D H)
  clear D H hf hn hbr hfit XB hmax
  go_enter Tryd.func13, Tryd.ntmps13
  go_wp2_with (first
    | (with_reducible refine wpList_boxes (o := ⟨some 2, .box 29 (.tmp 0), _, _, _, _⟩) rfl 29 (.tmp 0) rfl _ rfl [.pointer (some ⟨b, 0, none⟩)] rfl ?_
       intro w2 hb1 m1 z1
       obtain ⟨bp, ep⟩ : ∃ x, x = w.heap.size := ⟨_, rfl⟩
       rw [← ep] at hb1
       rw [← ep]
       have HO := Lib.hid (show w.heap.size ≤ bp ∧ bp < w2.heap.size by omega)
       have c2 := hb1.cell 0
       simp only [List.getElem?_cons_zero] at c2
       clear ep z1))
  refine (XR _ m1).mono ?_
  rintro r w3 ⟨rfl, rfl⟩
  clear XR
  go_wp2_with fail
  refine Rg.wp_region_lit1 [Value.pointer (some { block := b, off := 0 }), Value.slice B nb cb, Value.pointer (some { block := bp, off := 0 }), undef, Value.int IntKind.i64 0, Value.int IntKind.i64 0, undef, undef, Value.pointer (some { block := b, off := 0 }), Value.slice B nb cb, Value.int IntKind.i64 0, Value.int IntKind.i64 0, Value.bool false, undef, .slice B nb cb, .int .i64 (nb : Int), .int .i64 (f : Int), .pointer (some ⟨b, 0, none⟩), .pointer (some ⟨b, 0, none⟩), .pointer (some ⟨b, 0, none⟩), .pointer (some ⟨b, 0, none⟩), .pointer (some ⟨b, 1, none⟩), .int .i64 (a : Int), .bool false, .bool false, .pointer (some ⟨b, 0, none⟩), .pointer (some ⟨b, 0, none⟩), .pointer (some ⟨b, 0, none⟩), .pointer (some ⟨b, 0, none⟩), .pointer (some ⟨b, 0, none⟩), .int .u32 (t : Int), .bool true, .bool true, undef, undef, undef, undef, undef, undef, undef, undef, undef, undef, undef, undef, undef, undef, undef, undef, undef, undef, undef, undef, undef, undef, undef, undef, undef, undef] 59 [0, 1, 2, 3, 4, 5, 6, 7, 8, 9, 10, 11, 12, 13, 33, 34, 35, 36, 37, 38, 39, 40, 41, 42, 43, 44, 45, 46, 47, 48, 49, 50, 51, 52, 53, 54, 55, 56, 57, 58]
    (fun lz v => Mod [] w3.drew v) []
    (by kernel_rfl) rfl rfl rfl rfl (Mod.refl _ _) (by kernel_rfl) (by kernel_rfl) ?step ?fin
  case step =>
    intro lz T v j o hj hlj hdep hst hpar hgot hcl Kq hK
    have hjn : j < 19 := (Array.getElem?_eq_some_iff.1 hj).1
    obtain rfl | rfl | rfl | rfl | rfl | rfl | rfl | rfl | rfl | rfl | rfl | rfl | rfl | rfl | rfl | rfl | rfl | rfl | rfl : j = 0 ∨ j = 1 ∨ j = 2 ∨ j = 3 ∨ j = 4 ∨ j = 5 ∨ j = 6 ∨ j = 7 ∨ j = 8 ∨ j = 9 ∨ j = 10 ∨ j = 11 ∨ j = 12 ∨ j = 13 ∨ j = 14 ∨ j = 15 ∨ j = 16 ∨ j = 17 ∨ j = 18 := by omega
    all_goals (have hj' := Option.some.inj (hj : some _ = some o); subst hj'; clear hj)
    · exact Rg.wp_ran rfl (Rg.exec_move rfl (eval_tmp (hpar 1 (by simp)))) (hK _ _ (fun s hs => by cases hs; rfl) hst)
    · exact wp_ran rfl (Rg.exec_len Tryd.underlying34 rfl (eval_tmp (hgot 0 _ 14 rfl (hdep ⟨0, .data⟩ (by simp) rfl) rfl))) (hK _ _ (fun s hs => by cases hs; rfl) hst)
    · exact Rg.wp_called rfl (Rg.exec_call1 rfl rfl (eval_tmp (hgot 1 _ 15 rfl (hdep ⟨1, .data⟩ (by simp) rfl) rfl)) (enters_of Tryd.func5 (by kernel_rfl) rfl)) ((XF v).mono (fun e v' hh => ⟨_, hh.1, hK _ _ (fun s hs => by cases hs; rfl) (by rw [hh.2]; exact hst)⟩))
    · exact Rg.wp_ran rfl (Rg.exec_load rfl (eval_tmp (hpar 2 (by simp))) (Rg.run_load1 Tryd.underlying29 rfl ((hb1.keep ((Mod.drew [] w3).then hst) (by simp)).cell 0))) (hK _ _ (fun s hs => by cases hs; rfl) hst)
    · exact Rg.wp_ran rfl (Rg.exec_nil rfl (eval_tmp (hgot 3 _ 17 rfl (hdep ⟨3, .data⟩ (by simp) rfl) rfl))) (hK _ _ (fun s hs => by cases hs; rfl) hst)
    · exact Rg.wp_ran rfl (exec_f100_0 rfl (eval_tmp (hgot 4 _ 18 rfl (hdep ⟨4, .data⟩ (by simp) rfl) rfl))) (hK _ _ (fun s hs => by cases hs; rfl) hst)
    · exact Rg.wp_ran rfl (exec_f93_0 rfl (eval_tmp (hgot 5 _ 19 rfl (hdep ⟨5, .data⟩ (by simp) rfl) rfl))) (hK _ _ (fun s hs => by cases hs; rfl) hst)
    · exact Rg.wp_ran rfl (exec_f91_1 rfl (eval_tmp (hgot 6 _ 20 rfl (hdep ⟨6, .data⟩ (by simp) rfl) rfl))) (hK _ _ (fun s hs => by cases hs; rfl) hst)
    · exact Rg.wp_ran rfl (Rg.exec_load rfl (eval_tmp (hgot 7 _ 21 rfl (hdep ⟨7, .data⟩ (by simp) rfl) rfl)) (Rg.run_load1 Tryd.underlying3 rfl (lc_cells (HH.out.2.hb.keep (m1.then ((Mod.drew [] w3).then hst)) (by simp))).2.1)) (hK _ _ (fun s hs => by cases hs; rfl) hst)
    · exact Rg.wp_ran rfl (exec_gtr rfl (eval_tmp (hgot 2 _ 16 rfl (hdep ⟨2, .data⟩ (by simp) rfl) rfl)) (eval_tmp (hgot 8 _ 22 rfl (hdep ⟨8, .data⟩ (by simp) rfl) rfl)) (HG.out)) (hK _ _ (fun s hs => by cases hs; rfl) hst)
    · exact Rg.wp_ran rfl (Rg.exec_move rfl (eval_tmp (hgot 9 _ 23 rfl (hdep ⟨9, .data⟩ (by simp) rfl) rfl))) (hK _ _ (fun s hs => by cases hs; rfl) hst)
    · exact Rg.wp_ranW (Rg.wanted_yes rfl rfl rfl (hgot 10 _ 24 rfl (hdep ⟨10, .guard⟩ (by simp) rfl) rfl)) (Rg.exec_load rfl (eval_tmp (hpar 2 (by simp))) (Rg.run_load1 Tryd.underlying29 rfl ((hb1.keep ((Mod.drew [] w3).then hst) (by simp)).cell 0))) (hK _ _ (fun s hs => by cases hs; rfl) hst)
    · exact Rg.wp_ranW (Rg.wanted_yes rfl rfl rfl (hgot 10 _ 24 rfl (hdep ⟨10, .guard⟩ (by simp) rfl) rfl)) (Rg.exec_nil rfl (eval_tmp (hgot 11 _ 25 rfl (hdep ⟨11, .data⟩ (by simp) rfl) rfl))) (hK _ _ (fun s hs => by cases hs; rfl) hst)
    · exact Rg.wp_ranW (Rg.wanted_yes rfl rfl rfl (hgot 10 _ 24 rfl (hdep ⟨10, .guard⟩ (by simp) rfl) rfl)) (exec_f100_0 rfl (eval_tmp (hgot 12 _ 26 rfl (hdep ⟨12, .data⟩ (by simp) rfl) rfl))) (hK _ _ (fun s hs => by cases hs; rfl) hst)
    · exact Rg.wp_ranW (Rg.wanted_yes rfl rfl rfl (hgot 10 _ 24 rfl (hdep ⟨10, .guard⟩ (by simp) rfl) rfl)) (exec_f93_0 rfl (eval_tmp (hgot 13 _ 27 rfl (hdep ⟨13, .data⟩ (by simp) rfl) rfl))) (hK _ _ (fun s hs => by cases hs; rfl) hst)
    · exact Rg.wp_ranW (Rg.wanted_yes rfl rfl rfl (hgot 10 _ 24 rfl (hdep ⟨10, .guard⟩ (by simp) rfl) rfl)) (exec_f91_0 rfl (eval_tmp (hgot 14 _ 28 rfl (hdep ⟨14, .data⟩ (by simp) rfl) rfl))) (hK _ _ (fun s hs => by cases hs; rfl) hst)
    · exact Rg.wp_ranW (Rg.wanted_yes rfl rfl rfl (hgot 10 _ 24 rfl (hdep ⟨10, .guard⟩ (by simp) rfl) rfl)) (Rg.exec_load rfl (eval_tmp (hgot 15 _ 29 rfl (hdep ⟨15, .data⟩ (by simp) rfl) rfl)) (Rg.run_load1 Tryd.underlying36 rfl (lc_cells (HH.out.2.hb.keep (m1.then ((Mod.drew [] w3).then hst)) (by simp))).1)) (hK _ _ (fun s hs => by cases hs; rfl) hst)
    · exact Rg.wp_ranW (Rg.wanted_yes rfl rfl rfl (hgot 10 _ 24 rfl (hdep ⟨10, .guard⟩ (by simp) rfl) rfl)) (exec_eqi rfl (eval_tmp (hgot 16 _ 30 rfl (hdep ⟨16, .data⟩ (by simp) rfl) rfl)) rfl (HT.out)) (hK _ _ (fun s hs => by cases hs; rfl) hst)
    · exact Rg.wp_ran rfl (Rg.exec_pick rfl (eval_tmp (hgot 10 _ 24 rfl (hdep ⟨10, .data⟩ (by simp) rfl) rfl)) rfl (eval_tmp (hgot 17 _ 31 rfl (hdep ⟨17, .data⟩ (by simp) rfl) rfl)) rfl) (hK _ _ (fun s hs => by cases hs; rfl) hst)
  case fin =>
    intro lz v hl hst
    clear hl
    dsimp only
    go_wp2
    go_ret
    exact ⟨rfl, m1.then ((Mod.drew [] w3).then hst)⟩
set_option maxRecDepth 100000 in
set_option maxHeartbeats 4000000 in
theorem ck_err (c s : List UInt32) (S : St) (g m cc : Nat) (A : Option Addr) (b t a : Nat) (st : Value) (C : Option Addr) (k ck e : Nat) (br : Bool) (B : Option Addr) (nb cb : Nat) (l : List UInt8) (w : World) (D : DAt w g m A cc S) (H : AddH c s g m A b t a st C k ck e (.pointer (some ⟨g, 0, none⟩)) br B nb cb l w) (hn : nb ≤ 40000) (hbr : br = false) (hfit : fills nb ≤ a) (hmax : t ≠ 4294967295) (ho : S.ops + 5000 ≤ 1099511627776) (er : Int) (T : St) (hadd : S.layN ((2 + (t + 1) % 2 * a : Nat) : Int) (((t + 1) % 2 : Nat) : Int) (leavesB c s (t + 1) 0 l) (titleB c s (t + 1) a) 4 = (er, T)) (her : er ≠ 0) :
    Calls Tryd.prog 13 #[.pointer (some ⟨b, 0, none⟩), .slice B nb cb] w fun r w' => r = .returned (.int .i64 er) ∧ Holds w' b 58 (lc t (a : Int) st (.slice C k ck) (e : Int) (.pointer (some ⟨g, 0, none⟩)) true) ∧ ∃ A' c', Wtr T b g m A w w' A' c' := by
  have XR := fun v (q : Mod [] w v) => refuses_c B nb cb v H.hl (H.hb.keep q (by simp))
  have XF := fun v => sectors_c nb (by have := H.hl; omega) v
  have XB := fun v (q : Mod [] w v) => begin_c (t + 1) (a : Int) B l nb cb H.hn v H.hl (H.hr.keep q (by simp))
  have haZ : (a : Int) ≤ 1000 := by have := H.ha; omega
  obtain ⟨f, hf⟩ : ∃ f, f = fills nb := ⟨_, rfl⟩
  rw [← hf] at XF XB
  rw [show (if 40000 < nb then 3 else if br = true then 8 else 0 : Int) = 0 by rw [if_neg (by omega), if_neg (by rw [hbr]; simp)]] at XR
  have HG : Hid (decide ((a : Int) < (f : Int)) = false) := Lib.hid (by simp; omega)
  have HT : Hid (decide ((t : Int) = 4294967295) = false) := Lib.hid (by simp; omega)
  have HW : Hid (IntKind.u32.wrap ((t : Int) + 1) = ((t + 1 : Nat) : Int)) := Lib.hid (by have := H.ht; simp [IntKind.wrap, IntKind.bits, IntKind.signed]; omega)
  have HH := Lib.hid (And.intro D (And.intro H (And.intro ho (And.intro hadd hmax))))
  clear D H hf hn hbr hfit ho hadd hmax
  go_enter Tryd.func13, Tryd.ntmps13
  go_wp2_with (first
    | (with_reducible refine wpList_boxes (o := ⟨some 2, .box 29 (.tmp 0), _, _, _, _⟩) rfl 29 (.tmp 0) rfl _ rfl [.pointer (some ⟨b, 0, none⟩)] rfl ?_
       intro w2 hb1 m1 z1
       obtain ⟨bp, ep⟩ : ∃ x, x = w.heap.size := ⟨_, rfl⟩
       rw [← ep] at hb1
       rw [← ep]
       have HO := Lib.hid (show w.heap.size ≤ bp ∧ bp < w2.heap.size by omega)
       have c2 := hb1.cell 0
       simp only [List.getElem?_cons_zero] at c2
       clear ep z1))
  refine (XR _ m1).mono ?_
  rintro r w3 ⟨rfl, rfl⟩
  clear XR
  go_wp2_with fail
  refine Rg.wp_region_lit1 [Value.pointer (some { block := b, off := 0 }), Value.slice B nb cb, Value.pointer (some { block := bp, off := 0 }), undef, Value.int IntKind.i64 0, Value.int IntKind.i64 0, undef, undef, Value.pointer (some { block := b, off := 0 }), Value.slice B nb cb, Value.int IntKind.i64 0, Value.int IntKind.i64 0, Value.bool false, undef, .slice B nb cb, .int .i64 (nb : Int), .int .i64 (f : Int), .pointer (some ⟨b, 0, none⟩), .pointer (some ⟨b, 0, none⟩), .pointer (some ⟨b, 0, none⟩), .pointer (some ⟨b, 0, none⟩), .pointer (some ⟨b, 1, none⟩), .int .i64 (a : Int), .bool false, .bool false, .pointer (some ⟨b, 0, none⟩), .pointer (some ⟨b, 0, none⟩), .pointer (some ⟨b, 0, none⟩), .pointer (some ⟨b, 0, none⟩), .pointer (some ⟨b, 0, none⟩), .int .u32 (t : Int), .bool false, .bool false, undef, undef, undef, undef, undef, undef, undef, undef, undef, undef, undef, undef, undef, undef, undef, undef, undef, undef, undef, undef, undef, undef, undef, undef, undef, undef] 59 [0, 1, 2, 3, 4, 5, 6, 7, 8, 9, 10, 11, 12, 13, 33, 34, 35, 36, 37, 38, 39, 40, 41, 42, 43, 44, 45, 46, 47, 48, 49, 50, 51, 52, 53, 54, 55, 56, 57, 58]
    (fun lz v => Mod [] w3.drew v) []
    (by kernel_rfl) rfl rfl rfl rfl (Mod.refl _ _) (by kernel_rfl) (by kernel_rfl) ?step ?fin
  case step =>
    intro lz T v j o hj hlj hdep hst hpar hgot hcl Kq hK
    have hjn : j < 19 := (Array.getElem?_eq_some_iff.1 hj).1
    obtain rfl | rfl | rfl | rfl | rfl | rfl | rfl | rfl | rfl | rfl | rfl | rfl | rfl | rfl | rfl | rfl | rfl | rfl | rfl : j = 0 ∨ j = 1 ∨ j = 2 ∨ j = 3 ∨ j = 4 ∨ j = 5 ∨ j = 6 ∨ j = 7 ∨ j = 8 ∨ j = 9 ∨ j = 10 ∨ j = 11 ∨ j = 12 ∨ j = 13 ∨ j = 14 ∨ j = 15 ∨ j = 16 ∨ j = 17 ∨ j = 18 := by omega
    all_goals (have hj' := Option.some.inj (hj : some _ = some o); subst hj'; clear hj)
    · exact Rg.wp_ran rfl (Rg.exec_move rfl (eval_tmp (hpar 1 (by simp)))) (hK _ _ (fun s hs => by cases hs; rfl) hst)
    · exact wp_ran rfl (Rg.exec_len Tryd.underlying34 rfl (eval_tmp (hgot 0 _ 14 rfl (hdep ⟨0, .data⟩ (by simp) rfl) rfl))) (hK _ _ (fun s hs => by cases hs; rfl) hst)
    · exact Rg.wp_called rfl (Rg.exec_call1 rfl rfl (eval_tmp (hgot 1 _ 15 rfl (hdep ⟨1, .data⟩ (by simp) rfl) rfl)) (enters_of Tryd.func5 (by kernel_rfl) rfl)) ((XF v).mono (fun e v' hh => ⟨_, hh.1, hK _ _ (fun s hs => by cases hs; rfl) (by rw [hh.2]; exact hst)⟩))
    · exact Rg.wp_ran rfl (Rg.exec_load rfl (eval_tmp (hpar 2 (by simp))) (Rg.run_load1 Tryd.underlying29 rfl ((hb1.keep ((Mod.drew [] w3).then hst) (by simp)).cell 0))) (hK _ _ (fun s hs => by cases hs; rfl) hst)
    · exact Rg.wp_ran rfl (Rg.exec_nil rfl (eval_tmp (hgot 3 _ 17 rfl (hdep ⟨3, .data⟩ (by simp) rfl) rfl))) (hK _ _ (fun s hs => by cases hs; rfl) hst)
    · exact Rg.wp_ran rfl (exec_f100_0 rfl (eval_tmp (hgot 4 _ 18 rfl (hdep ⟨4, .data⟩ (by simp) rfl) rfl))) (hK _ _ (fun s hs => by cases hs; rfl) hst)
    · exact Rg.wp_ran rfl (exec_f93_0 rfl (eval_tmp (hgot 5 _ 19 rfl (hdep ⟨5, .data⟩ (by simp) rfl) rfl))) (hK _ _ (fun s hs => by cases hs; rfl) hst)
    · exact Rg.wp_ran rfl (exec_f91_1 rfl (eval_tmp (hgot 6 _ 20 rfl (hdep ⟨6, .data⟩ (by simp) rfl) rfl))) (hK _ _ (fun s hs => by cases hs; rfl) hst)
    · exact Rg.wp_ran rfl (Rg.exec_load rfl (eval_tmp (hgot 7 _ 21 rfl (hdep ⟨7, .data⟩ (by simp) rfl) rfl)) (Rg.run_load1 Tryd.underlying3 rfl (lc_cells (HH.out.2.1.hb.keep (m1.then ((Mod.drew [] w3).then hst)) (by simp))).2.1)) (hK _ _ (fun s hs => by cases hs; rfl) hst)
    · exact Rg.wp_ran rfl (exec_gtr rfl (eval_tmp (hgot 2 _ 16 rfl (hdep ⟨2, .data⟩ (by simp) rfl) rfl)) (eval_tmp (hgot 8 _ 22 rfl (hdep ⟨8, .data⟩ (by simp) rfl) rfl)) (HG.out)) (hK _ _ (fun s hs => by cases hs; rfl) hst)
    · exact Rg.wp_ran rfl (Rg.exec_move rfl (eval_tmp (hgot 9 _ 23 rfl (hdep ⟨9, .data⟩ (by simp) rfl) rfl))) (hK _ _ (fun s hs => by cases hs; rfl) hst)
    · exact Rg.wp_ranW (Rg.wanted_yes rfl rfl rfl (hgot 10 _ 24 rfl (hdep ⟨10, .guard⟩ (by simp) rfl) rfl)) (Rg.exec_load rfl (eval_tmp (hpar 2 (by simp))) (Rg.run_load1 Tryd.underlying29 rfl ((hb1.keep ((Mod.drew [] w3).then hst) (by simp)).cell 0))) (hK _ _ (fun s hs => by cases hs; rfl) hst)
    · exact Rg.wp_ranW (Rg.wanted_yes rfl rfl rfl (hgot 10 _ 24 rfl (hdep ⟨10, .guard⟩ (by simp) rfl) rfl)) (Rg.exec_nil rfl (eval_tmp (hgot 11 _ 25 rfl (hdep ⟨11, .data⟩ (by simp) rfl) rfl))) (hK _ _ (fun s hs => by cases hs; rfl) hst)
    · exact Rg.wp_ranW (Rg.wanted_yes rfl rfl rfl (hgot 10 _ 24 rfl (hdep ⟨10, .guard⟩ (by simp) rfl) rfl)) (exec_f100_0 rfl (eval_tmp (hgot 12 _ 26 rfl (hdep ⟨12, .data⟩ (by simp) rfl) rfl))) (hK _ _ (fun s hs => by cases hs; rfl) hst)
    · exact Rg.wp_ranW (Rg.wanted_yes rfl rfl rfl (hgot 10 _ 24 rfl (hdep ⟨10, .guard⟩ (by simp) rfl) rfl)) (exec_f93_0 rfl (eval_tmp (hgot 13 _ 27 rfl (hdep ⟨13, .data⟩ (by simp) rfl) rfl))) (hK _ _ (fun s hs => by cases hs; rfl) hst)
    · exact Rg.wp_ranW (Rg.wanted_yes rfl rfl rfl (hgot 10 _ 24 rfl (hdep ⟨10, .guard⟩ (by simp) rfl) rfl)) (exec_f91_0 rfl (eval_tmp (hgot 14 _ 28 rfl (hdep ⟨14, .data⟩ (by simp) rfl) rfl))) (hK _ _ (fun s hs => by cases hs; rfl) hst)
    · exact Rg.wp_ranW (Rg.wanted_yes rfl rfl rfl (hgot 10 _ 24 rfl (hdep ⟨10, .guard⟩ (by simp) rfl) rfl)) (Rg.exec_load rfl (eval_tmp (hgot 15 _ 29 rfl (hdep ⟨15, .data⟩ (by simp) rfl) rfl)) (Rg.run_load1 Tryd.underlying36 rfl (lc_cells (HH.out.2.1.hb.keep (m1.then ((Mod.drew [] w3).then hst)) (by simp))).1)) (hK _ _ (fun s hs => by cases hs; rfl) hst)
    · exact Rg.wp_ranW (Rg.wanted_yes rfl rfl rfl (hgot 10 _ 24 rfl (hdep ⟨10, .guard⟩ (by simp) rfl) rfl)) (exec_eqi rfl (eval_tmp (hgot 16 _ 30 rfl (hdep ⟨16, .data⟩ (by simp) rfl) rfl)) rfl (HT.out)) (hK _ _ (fun s hs => by cases hs; rfl) hst)
    · exact Rg.wp_ran rfl (Rg.exec_pick rfl (eval_tmp (hgot 10 _ 24 rfl (hdep ⟨10, .data⟩ (by simp) rfl) rfl)) rfl (eval_tmp (hgot 17 _ 31 rfl (hdep ⟨17, .data⟩ (by simp) rfl) rfl)) rfl) (hK _ _ (fun s hs => by cases hs; rfl) hst)
  case fin =>
    intro lz v hl hst
    clear hl
    dsimp only
    have mm : Mod [] w v := m1.then ((Mod.drew [] w3).then hst)
    replace hb1 := hb1.keep ((Mod.drew [] w3).then hst) (by simp)
    have HO2 := Lib.hid (show w.heap.size ≤ bp ∧ bp < v.heap.size by have := HO.out; have := hst.size; simp only [World.size_drew] at this; omega)
    clear hst m1 c2
    obtain ⟨v4, e4⟩ : ∃ x, x = v := ⟨_, rfl⟩
    rw [← e4] at mm hb1 HO2 ⊢
    clear e4
    go_wp2_with fail
    refine Rg.wp_region_lit (X := Nat × Nat) (0, 0) (fun x => [Value.pointer (some { block := b, off := 0 }), Value.slice B nb cb, Value.pointer (some { block := bp, off := 0 }), undef, Value.int IntKind.i64 0, Value.int IntKind.i64 0, .pointer (some ⟨x.1, 0, none⟩), undef, Value.pointer (some { block := b, off := 0 }), Value.slice B nb cb, Value.int IntKind.i64 0, Value.int IntKind.i64 0, Value.bool false, undef, Value.slice B nb cb, Value.int IntKind.i64 ↑nb, Value.int IntKind.i64 ↑f, Value.pointer (some { block := b, off := 0 }), Value.pointer (some { block := b, off := 0 }), Value.pointer (some { block := b, off := 0 }), Value.pointer (some { block := b, off := 0 }), Value.pointer (some { block := b, off := 1 }), Value.int IntKind.i64 ↑a, Value.bool false, Value.bool false, Value.pointer (some { block := b, off := 0 }), Value.pointer (some { block := b, off := 0 }), Value.pointer (some { block := b, off := 0 }), Value.pointer (some { block := b, off := 0 }), Value.pointer (some { block := b, off := 0 }), Value.int IntKind.u32 ↑t, Value.bool false, Value.bool false, .pointer (some ⟨b, 0, none⟩), .pointer (some ⟨b, 0, none⟩), .pointer (some ⟨b, 0, none⟩), .pointer (some ⟨b, 0, none⟩), .pointer (some ⟨b, 0, none⟩), .int .u32 (t : Int), .int .u32 ((t + 1 : Nat) : Int), .pointer (some ⟨b, 0, none⟩), .pointer (some ⟨b, 0, none⟩), .pointer (some ⟨b, 0, none⟩), .pointer (some ⟨b, 0, none⟩), .pointer (some ⟨b, 1, none⟩), .int .i64 (a : Int), hv (t + 1) (a : Int), .slice B nb cb, kv (t + 1) (a : Int) (.slice (some ⟨x.2, 0, none⟩) nb nb) (.slice none 0 0) (f : Int), undef, undef, undef, undef, undef, undef, undef, undef, undef, undef]) 59 [0, 1, 2, 3, 4, 5, 7, 8, 9, 10, 11, 12, 13, 14, 15, 16, 17, 18, 19, 20, 21, 22, 23, 24, 25, 26, 27, 28, 29, 30, 31, 32, 49, 50, 51, 52, 53, 54, 55, 56, 57, 58]
      (fun x lz v => (lz 17 = false → Mod [] v4.drew v ∧ (lz 16 = true → Holds v x.1 50 (kc 0 0 (.slice none 0 0) (.slice none 0 0) 0) ∧ v4.drew.heap.size ≤ x.1) ∧ (lz 15 = true → Holds v x.2 5 (l.map oct) ∧ v4.drew.heap.size ≤ x.2)) ∧ (lz 17 = true → Holds v x.1 50 (kc (t + 1) (a : Int) (.slice (some ⟨x.2, 0, none⟩) nb nb) (.slice none 0 0) (f : Int)) ∧ Holds v x.2 5 (l.map oct) ∧ v4.drew.heap.size ≤ x.1 ∧ v4.drew.heap.size ≤ x.2 ∧ Mod [] v4.drew v)) []
      (by kernel_rfl) (fun _ => rfl) rfl rfl rfl (fun _ => by simp only [List.map_cons, List.map_nil, List.getD_cons_zero, List.getD_cons_succ]) (⟨fun _ => ⟨Mod.refl _ _, (fun q => by cases q), (fun q => by cases q)⟩, fun q => by cases q⟩) (by kernel_rfl) (by kernel_rfl) ?step ?fin
    case step =>
      intro x lz T v j o hj hlj hdep hst hpar hgot hcl Kq hK
      have hjn : j < 18 := (Array.getElem?_eq_some_iff.1 hj).1
      obtain rfl | rfl | rfl | rfl | rfl | rfl | rfl | rfl | rfl | rfl | rfl | rfl | rfl | rfl | rfl | rfl | rfl | rfl : j = 0 ∨ j = 1 ∨ j = 2 ∨ j = 3 ∨ j = 4 ∨ j = 5 ∨ j = 6 ∨ j = 7 ∨ j = 8 ∨ j = 9 ∨ j = 10 ∨ j = 11 ∨ j = 12 ∨ j = 13 ∨ j = 14 ∨ j = 15 ∨ j = 16 ∨ j = 17 := by omega
      all_goals (have hj' := Option.some.inj (hj : some _ = some o); subst hj'; clear hj)
      · have h16 : lz 17 = false := by
          cases hh17 : lz 17 with
          | false => rfl
          | true =>
            have hh0 := hcl 17 _ rfl hh17 ⟨0, .phase⟩ (by simp) rfl
            rw [hlj] at hh0
            cases hh0
        obtain ⟨q1, -⟩ := hst.1 h16
        have q0 := (Mod.drew [] v4).then q1
        exact Rg.wp_ran rfl (Rg.exec_load rfl (eval_tmp (hpar 2 (by simp))) (Rg.run_load1 Tryd.underlying29 rfl ((hb1.keep q0 (by simp)).cell 0))) (hK x _ _ (fun _ _ _ _ _ _ => rfl) (fun s hs => by cases hs; rfl) hst)
      · exact Rg.wp_ran rfl (Rg.exec_nil rfl (eval_tmp (hgot 0 _ 33 rfl (hdep ⟨0, .data⟩ (by simp) rfl) rfl))) (hK x _ _ (fun _ _ _ _ _ _ => rfl) (fun s hs => by cases hs; rfl) hst)
      · exact Rg.wp_ran rfl (exec_f100_0 rfl (eval_tmp (hgot 1 _ 34 rfl (hdep ⟨1, .data⟩ (by simp) rfl) rfl))) (hK x _ _ (fun _ _ _ _ _ _ => rfl) (fun s hs => by cases hs; rfl) hst)
      · exact Rg.wp_ran rfl (exec_f93_0 rfl (eval_tmp (hgot 2 _ 35 rfl (hdep ⟨2, .data⟩ (by simp) rfl) rfl))) (hK x _ _ (fun _ _ _ _ _ _ => rfl) (fun s hs => by cases hs; rfl) hst)
      · exact Rg.wp_ran rfl (exec_f91_0 rfl (eval_tmp (hgot 3 _ 36 rfl (hdep ⟨3, .data⟩ (by simp) rfl) rfl))) (hK x _ _ (fun _ _ _ _ _ _ => rfl) (fun s hs => by cases hs; rfl) hst)
      · have h16 : lz 17 = false := by
          cases hh17 : lz 17 with
          | false => rfl
          | true =>
            have hh5 := hcl 17 _ rfl hh17 ⟨5, .phase⟩ (by simp) rfl
            rw [hlj] at hh5
            cases hh5
        obtain ⟨q1, -⟩ := hst.1 h16
        have q0 := (Mod.drew [] v4).then q1
        exact Rg.wp_ran rfl (Rg.exec_load rfl (eval_tmp (hgot 4 _ 37 rfl (hdep ⟨4, .data⟩ (by simp) rfl) rfl)) (Rg.run_load1 Tryd.underlying36 rfl (lc_cells (HH.out.2.1.hb.keep (mm.then q0) (by simp))).1)) (hK x _ _ (fun _ _ _ _ _ _ => rfl) (fun s hs => by cases hs; rfl) hst)
      · exact Rg.wp_ran rfl (Rg.exec_add rfl (eval_tmp (hgot 5 _ 38 rfl (hdep ⟨5, .data⟩ (by simp) rfl) rfl)) rfl (HW.out)) (hK x _ _ (fun _ _ _ _ _ _ => rfl) (fun s hs => by cases hs; rfl) hst)
      · have h16 : lz 17 = false := by
          cases hh17 : lz 17 with
          | false => rfl
          | true =>
            have hh7 := hcl 17 _ rfl hh17 ⟨7, .phase⟩ (by simp) rfl
            rw [hlj] at hh7
            cases hh7
        obtain ⟨q1, -⟩ := hst.1 h16
        have q0 := (Mod.drew [] v4).then q1
        exact Rg.wp_ran rfl (Rg.exec_load rfl (eval_tmp (hpar 2 (by simp))) (Rg.run_load1 Tryd.underlying29 rfl ((hb1.keep q0 (by simp)).cell 0))) (hK x _ _ (fun _ _ _ _ _ _ => rfl) (fun s hs => by cases hs; rfl) hst)
      · exact Rg.wp_ran rfl (Rg.exec_nil rfl (eval_tmp (hgot 7 _ 40 rfl (hdep ⟨7, .data⟩ (by simp) rfl) rfl))) (hK x _ _ (fun _ _ _ _ _ _ => rfl) (fun s hs => by cases hs; rfl) hst)
      · exact Rg.wp_ran rfl (exec_f100_0 rfl (eval_tmp (hgot 8 _ 41 rfl (hdep ⟨8, .data⟩ (by simp) rfl) rfl))) (hK x _ _ (fun _ _ _ _ _ _ => rfl) (fun s hs => by cases hs; rfl) hst)
      · exact Rg.wp_ran rfl (exec_f93_0 rfl (eval_tmp (hgot 9 _ 42 rfl (hdep ⟨9, .data⟩ (by simp) rfl) rfl))) (hK x _ _ (fun _ _ _ _ _ _ => rfl) (fun s hs => by cases hs; rfl) hst)
      · exact Rg.wp_ran rfl (exec_f91_1 rfl (eval_tmp (hgot 10 _ 43 rfl (hdep ⟨10, .data⟩ (by simp) rfl) rfl))) (hK x _ _ (fun _ _ _ _ _ _ => rfl) (fun s hs => by cases hs; rfl) hst)
      · have h16 : lz 17 = false := by
          cases hh17 : lz 17 with
          | false => rfl
          | true =>
            have hh12 := hcl 17 _ rfl hh17 ⟨12, .phase⟩ (by simp) rfl
            rw [hlj] at hh12
            cases hh12
        obtain ⟨q1, -⟩ := hst.1 h16
        have q0 := (Mod.drew [] v4).then q1
        exact Rg.wp_ran rfl (Rg.exec_load rfl (eval_tmp (hgot 11 _ 44 rfl (hdep ⟨11, .data⟩ (by simp) rfl) rfl)) (Rg.run_load1 Tryd.underlying3 rfl (lc_cells (HH.out.2.1.hb.keep (mm.then q0) (by simp))).2.1)) (hK x _ _ (fun _ _ _ _ _ _ => rfl) (fun s hs => by cases hs; rfl) hst)
      · exact Rg.wp_ran rfl (exec_build91c rfl (eval_tmp (hgot 6 _ 39 rfl (hdep ⟨6, .data⟩ (by simp) rfl) rfl)) (eval_tmp (hgot 12 _ 45 rfl (hdep ⟨12, .data⟩ (by simp) rfl) rfl)) (t + 1) rfl) (hK x _ _ (fun _ _ _ _ _ _ => rfl) (fun s hs => by cases hs; rfl) hst)
      · exact Rg.wp_ran rfl (Rg.exec_move rfl (eval_tmp (hpar 1 (by simp)))) (hK x _ _ (fun _ _ _ _ _ _ => rfl) (fun s hs => by cases hs; rfl) hst)
      · have h16 : lz 17 = false := by
          cases hh17 : lz 17 with
          | false => rfl
          | true =>
            have hh15 := hcl 17 _ rfl hh17 ⟨15, .data⟩ (by simp) rfl
            rw [hlj] at hh15
            cases hh15
        obtain ⟨q1, q2, q3⟩ := hst.1 h16
        have q0 := (Mod.drew [] v4).then q1
        refine Rg.wp_called rfl (Rg.exec_call2 rfl rfl (eval_tmp (hgot 13 _ 46 rfl (hdep ⟨13, .data⟩ (by simp) rfl) rfl)) (eval_tmp (hgot 14 _ 47 rfl (hdep ⟨14, .data⟩ (by simp) rfl) rfl)) (enters_of Tryd.func16 (by kernel_rfl) rfl)) ((XB v (mm.then q0)).mono (fun e v' hh => ?_))
        obtain ⟨y, rfl, p1, p2, p3⟩ := hh
        exact ⟨_, rfl, hK (x.1, y) _ _ (fun j' o' s' h1 h2 h3 => by
                clear hst hpar hgot hdep hcl hK
                have h4 : j' < 18 := (Array.getElem?_eq_some_iff.1 h1).1
                obtain rfl | rfl | rfl | rfl | rfl | rfl | rfl | rfl | rfl | rfl | rfl | rfl | rfl | rfl | rfl | rfl | rfl | rfl : j' = 0 ∨ j' = 1 ∨ j' = 2 ∨ j' = 3 ∨ j' = 4 ∨ j' = 5 ∨ j' = 6 ∨ j' = 7 ∨ j' = 8 ∨ j' = 9 ∨ j' = 10 ∨ j' = 11 ∨ j' = 12 ∨ j' = 13 ∨ j' = 14 ∨ j' = 15 ∨ j' = 16 ∨ j' = 17 := by omega
                all_goals (cases h1; cases h3 <;> first | rfl | (rw [hlj] at h2; cases h2))) (fun s hs => by cases hs; rfl) ⟨fun _ => ⟨q1.then p2, fun q => ⟨(q2 q).1.keep p2 (by simp), (q2 q).2⟩, fun _ => ⟨p1, Nat.le_trans q1.size p3⟩⟩, fun q => by rw [show lz 17 = true from q] at h16; cases h16⟩⟩
      · have h16 : lz 17 = false := by
          cases hh17 : lz 17 with
          | false => rfl
          | true =>
            have hh16 := hcl 17 _ rfl hh17 ⟨16, .data⟩ (by simp) rfl
            rw [hlj] at hh16
            cases hh16
        obtain ⟨q1, q2, q3⟩ := hst.1 h16
        exact Sh.wp_alloced rfl rfl zero93 (fun v' p1 p2 => hK (v.heap.size, x.2) _ _ (fun j' o' s' h1 h2 h3 => by
                clear hst hpar hgot hdep hcl hK
                have h4 : j' < 18 := (Array.getElem?_eq_some_iff.1 h1).1
                obtain rfl | rfl | rfl | rfl | rfl | rfl | rfl | rfl | rfl | rfl | rfl | rfl | rfl | rfl | rfl | rfl | rfl | rfl : j' = 0 ∨ j' = 1 ∨ j' = 2 ∨ j' = 3 ∨ j' = 4 ∨ j' = 5 ∨ j' = 6 ∨ j' = 7 ∨ j' = 8 ∨ j' = 9 ∨ j' = 10 ∨ j' = 11 ∨ j' = 12 ∨ j' = 13 ∨ j' = 14 ∨ j' = 15 ∨ j' = 16 ∨ j' = 17 := by omega
                all_goals (cases h1; cases h3 <;> first | rfl | (rw [hlj] at h2; cases h2))) (fun s hs => by cases hs; rfl) ⟨fun _ => ⟨q1.then p2, fun _ => ⟨p1, q1.size⟩, fun q => ⟨(q3 q).1.keep p2 (by simp), (q3 q).2⟩⟩, fun q => by rw [show lz 17 = true from q] at h16; cases h16⟩)
      · have h15 : lz 15 = true := hdep ⟨15, .data⟩ (by simp) rfl
        have h14 : lz 16 = true := hdep ⟨16, .data⟩ (by simp) rfl
        obtain ⟨q1, q2, q3⟩ := hst.1 hlj
        obtain ⟨r1, r2⟩ := q2 h14
        obtain ⟨r3, r4⟩ := q3 h15
        refine Sh.wp_stored (cs := kc (t + 1) (a : Int) (.slice (some ⟨x.2, 0, none⟩) nb nb) (.slice none 0 0) (f : Int)) rfl rfl (eval_tmp (hgot 16 _ 6 rfl (hdep ⟨16, .data⟩ (by simp) rfl) rfl)) (eval_tmp (hgot 15 _ 48 rfl (hdep ⟨15, .data⟩ (by simp) rfl) rfl)) rfl r1 rfl (kc_one _ _ _ _ _ _ _ _ _) (size93_of _ _ _ _ _) (fun v' p1 p2 => hK x _ _ (fun _ _ _ _ _ _ => rfl) (fun s hs => by cases hs) ⟨(fun q => by cases q), fun _ => ⟨p1, r3.keep p2 (by have := r3.ne r1 (by decide); simpa using this), r2, r4, q1.trans p2 (fun i hi h => by simp at h; omega)⟩⟩)
    case fin =>
      intro x lz v hl hst
      obtain ⟨p1, p2, p3, p4, p5⟩ := hst.2 (hl 17 (by decide))
      clear hl hst
      dsimp only
      obtain ⟨nx, y⟩ := x
      dsimp only at p1 p2 p3 p4
      have mv : Mod [] v4 v := (Mod.drew [] v4).then p5
      simp only [World.size_drew] at p3 p4
      replace mm := mm.then mv
      replace hb1 := hb1.keep mv (by simp)
      have c2 := hb1.cell 0
      simp only [List.getElem?_cons_zero] at c2
      have DV := HH.out.1.keep mm (by simp) (by simp) (by simp)
      have HV := HH.out.2.1.keep mm
      have hly := p2.lt
      have LB : LayB c s g m A nx 50 (t + 1) a (some ⟨y, 0, none⟩) nb nb (.slice none 0 0) (f : Int) l v := ⟨HV.G, p1, Reads.of_holds p2, by decide, by decide, by have := HV.ht; have := HH.out.2.2.2.2; omega, HV.ha, HV.hn, Nat.le_refl _, HV.hl, fun z hz => by cases hz; exact ⟨hly, notin3 DV p2 (by decide) (by decide)⟩, HV.out⟩
      have XT := lasting_80 S T b g m cc nx bp A t (a : Int) st (.slice C k ck) (e : Int) (.pointer (some ⟨g, 0, none⟩)) br er v DV HV.hb true (by simpa using her) (fun u q => by
        have X := ck80_c c s S g m cc A nx bp b t (a : Int) st (.slice C k ck) (e : Int) br 50 (t + 1) a (some ⟨y, 0, none⟩) nb nb (.slice none 0 0) (f : Int) l u (DV.keep q (by simp) (by simp) (by simp)) ⟨LB.G.keep q, LB.h3.keep q (by simp), LB.hr.keep q (by simp), LB.T1, LB.T2, LB.ht, LB.ha, LB.hn, LB.hc, LB.hl, fun z hz => ⟨Nat.lt_of_lt_of_le (LB.hB z hz).1 q.size, (LB.hB z hz).2⟩, LB.out⟩ (hb1.keep q (by simp)) (HV.hb.keep q (by simp)) HH.out.2.2.1
        rw [HH.out.2.2.2.1] at X
        exact X)
      have HZ := Lib.hid (And.intro p1 (And.intro p2 (And.intro p3 (And.intro p4 (And.intro mm (And.intro hb1 (And.intro DV HV.hb)))))))
      clear mv XB XF HG HT HW LB hly p1 p2 p3 p4 p5 DV HV mm hb1
      go_wp2_with fail
      refine XT.mono ?_
      rintro r w5 ⟨rfl, hb5, A5, c5, T5⟩
      clear XT
      go_wp2
      go_ret
      have mm := HZ.out.2.2.2.2.1
      exact ⟨rfl, hb5, A5, c5, T5.D, (mm.wk (fun _ _ h => by cases h)).trans T5.mm (fun i _ h => h), fun x hx => (T5.new x hx).imp id (fun h => Nat.le_trans mm.size h)⟩
set_option maxRecDepth 100000 in
set_option maxHeartbeats 4000000 in
theorem ck_ok (c s : List UInt32) (S : St) (g m cc : Nat) (A : Option Addr) (b t a : Nat) (st : Value) (C : Option Addr) (k ck e : Nat) (br : Bool) (B : Option Addr) (nb cb : Nat) (l : List UInt8) (w : World) (D : DAt w g m A cc S) (H : AddH c s g m A b t a st C k ck e (.pointer (some ⟨g, 0, none⟩)) br B nb cb l w) (hn : nb ≤ 40000) (hbr : br = false) (hfit : fills nb ≤ a) (hmax : t ≠ 4294967295) (ho : S.ops + 5000 ≤ 1099511627776) (T : St) (hadd : S.layN ((2 + (t + 1) % 2 * a : Nat) : Int) (((t + 1) % 2 : Nat) : Int) (leavesB c s (t + 1) 0 l) (titleB c s (t + 1) a) 4 = (0, T)) :
    Calls Tryd.prog 13 #[.pointer (some ⟨b, 0, none⟩), .slice B nb cb] w fun r w' => r = .returned (.int .i64 0) ∧ ∃ y A' c', Holds w' b 58 (lc (t + 1) (a : Int) (.slice (some ⟨y, 0, none⟩) nb nb) (.slice none 0 0) (fills nb : Int) (.pointer (some ⟨g, 0, none⟩)) false) ∧ Holds w' y 5 (l.map oct) ∧ w.heap.size ≤ y ∧ Wtr T b g m A w w' A' c' := by
  have XR := fun v (q : Mod [] w v) => refuses_c B nb cb v H.hl (H.hb.keep q (by simp))
  have XF := fun v => sectors_c nb (by have := H.hl; omega) v
  have XB := fun v (q : Mod [] w v) => begin_c (t + 1) (a : Int) B l nb cb H.hn v H.hl (H.hr.keep q (by simp))
  have haZ : (a : Int) ≤ 1000 := by have := H.ha; omega
  obtain ⟨f, hf⟩ : ∃ f, f = fills nb := ⟨_, rfl⟩
  rw [← hf] at XF XB
  rw [show (if 40000 < nb then 3 else if br = true then 8 else 0 : Int) = 0 by rw [if_neg (by omega), if_neg (by rw [hbr]; simp)]] at XR
  have HG : Hid (decide ((a : Int) < (f : Int)) = false) := Lib.hid (by simp; omega)
  have HT : Hid (decide ((t : Int) = 4294967295) = false) := Lib.hid (by simp; omega)
  have HW : Hid (IntKind.u32.wrap ((t : Int) + 1) = ((t + 1 : Nat) : Int)) := Lib.hid (by have := H.ht; simp [IntKind.wrap, IntKind.bits, IntKind.signed]; omega)
  have HH := Lib.hid (And.intro D (And.intro H (And.intro ho (And.intro hadd (And.intro hmax hf)))))
  clear D H hf hn hbr hfit ho hadd hmax
  go_enter Tryd.func13, Tryd.ntmps13
  go_wp2_with (first
    | (with_reducible refine wpList_boxes (o := ⟨some 2, .box 29 (.tmp 0), _, _, _, _⟩) rfl 29 (.tmp 0) rfl _ rfl [.pointer (some ⟨b, 0, none⟩)] rfl ?_
       intro w2 hb1 m1 z1
       obtain ⟨bp, ep⟩ : ∃ x, x = w.heap.size := ⟨_, rfl⟩
       rw [← ep] at hb1
       rw [← ep]
       have HO := Lib.hid (show w.heap.size ≤ bp ∧ bp < w2.heap.size by omega)
       have c2 := hb1.cell 0
       simp only [List.getElem?_cons_zero] at c2
       clear ep z1))
  refine (XR _ m1).mono ?_
  rintro r w3 ⟨rfl, rfl⟩
  clear XR
  go_wp2_with fail
  refine Rg.wp_region_lit1 [Value.pointer (some { block := b, off := 0 }), Value.slice B nb cb, Value.pointer (some { block := bp, off := 0 }), undef, Value.int IntKind.i64 0, Value.int IntKind.i64 0, undef, undef, Value.pointer (some { block := b, off := 0 }), Value.slice B nb cb, Value.int IntKind.i64 0, Value.int IntKind.i64 0, Value.bool false, undef, .slice B nb cb, .int .i64 (nb : Int), .int .i64 (f : Int), .pointer (some ⟨b, 0, none⟩), .pointer (some ⟨b, 0, none⟩), .pointer (some ⟨b, 0, none⟩), .pointer (some ⟨b, 0, none⟩), .pointer (some ⟨b, 1, none⟩), .int .i64 (a : Int), .bool false, .bool false, .pointer (some ⟨b, 0, none⟩), .pointer (some ⟨b, 0, none⟩), .pointer (some ⟨b, 0, none⟩), .pointer (some ⟨b, 0, none⟩), .pointer (some ⟨b, 0, none⟩), .int .u32 (t : Int), .bool false, .bool false, undef, undef, undef, undef, undef, undef, undef, undef, undef, undef, undef, undef, undef, undef, undef, undef, undef, undef, undef, undef, undef, undef, undef, undef, undef, undef] 59 [0, 1, 2, 3, 4, 5, 6, 7, 8, 9, 10, 11, 12, 13, 33, 34, 35, 36, 37, 38, 39, 40, 41, 42, 43, 44, 45, 46, 47, 48, 49, 50, 51, 52, 53, 54, 55, 56, 57, 58]
    (fun lz v => Mod [] w3.drew v) []
    (by kernel_rfl) rfl rfl rfl rfl (Mod.refl _ _) (by kernel_rfl) (by kernel_rfl) ?step ?fin
  case step =>
    intro lz T v j o hj hlj hdep hst hpar hgot hcl Kq hK
    have hjn : j < 19 := (Array.getElem?_eq_some_iff.1 hj).1
    obtain rfl | rfl | rfl | rfl | rfl | rfl | rfl | rfl | rfl | rfl | rfl | rfl | rfl | rfl | rfl | rfl | rfl | rfl | rfl : j = 0 ∨ j = 1 ∨ j = 2 ∨ j = 3 ∨ j = 4 ∨ j = 5 ∨ j = 6 ∨ j = 7 ∨ j = 8 ∨ j = 9 ∨ j = 10 ∨ j = 11 ∨ j = 12 ∨ j = 13 ∨ j = 14 ∨ j = 15 ∨ j = 16 ∨ j = 17 ∨ j = 18 := by omega
    all_goals (have hj' := Option.some.inj (hj : some _ = some o); subst hj'; clear hj)
    · exact Rg.wp_ran rfl (Rg.exec_move rfl (eval_tmp (hpar 1 (by simp)))) (hK _ _ (fun s hs => by cases hs; rfl) hst)
    · exact wp_ran rfl (Rg.exec_len Tryd.underlying34 rfl (eval_tmp (hgot 0 _ 14 rfl (hdep ⟨0, .data⟩ (by simp) rfl) rfl))) (hK _ _ (fun s hs => by cases hs; rfl) hst)
    · exact Rg.wp_called rfl (Rg.exec_call1 rfl rfl (eval_tmp (hgot 1 _ 15 rfl (hdep ⟨1, .data⟩ (by simp) rfl) rfl)) (enters_of Tryd.func5 (by kernel_rfl) rfl)) ((XF v).mono (fun e v' hh => ⟨_, hh.1, hK _ _ (fun s hs => by cases hs; rfl) (by rw [hh.2]; exact hst)⟩))
    · exact Rg.wp_ran rfl (Rg.exec_load rfl (eval_tmp (hpar 2 (by simp))) (Rg.run_load1 Tryd.underlying29 rfl ((hb1.keep ((Mod.drew [] w3).then hst) (by simp)).cell 0))) (hK _ _ (fun s hs => by cases hs; rfl) hst)
    · exact Rg.wp_ran rfl (Rg.exec_nil rfl (eval_tmp (hgot 3 _ 17 rfl (hdep ⟨3, .data⟩ (by simp) rfl) rfl))) (hK _ _ (fun s hs => by cases hs; rfl) hst)
    · exact Rg.wp_ran rfl (exec_f100_0 rfl (eval_tmp (hgot 4 _ 18 rfl (hdep ⟨4, .data⟩ (by simp) rfl) rfl))) (hK _ _ (fun s hs => by cases hs; rfl) hst)
    · exact Rg.wp_ran rfl (exec_f93_0 rfl (eval_tmp (hgot 5 _ 19 rfl (hdep ⟨5, .data⟩ (by simp) rfl) rfl))) (hK _ _ (fun s hs => by cases hs; rfl) hst)
    · exact Rg.wp_ran rfl (exec_f91_1 rfl (eval_tmp (hgot 6 _ 20 rfl (hdep ⟨6, .data⟩ (by simp) rfl) rfl))) (hK _ _ (fun s hs => by cases hs; rfl) hst)
    · exact Rg.wp_ran rfl (Rg.exec_load rfl (eval_tmp (hgot 7 _ 21 rfl (hdep ⟨7, .data⟩ (by simp) rfl) rfl)) (Rg.run_load1 Tryd.underlying3 rfl (lc_cells (HH.out.2.1.hb.keep (m1.then ((Mod.drew [] w3).then hst)) (by simp))).2.1)) (hK _ _ (fun s hs => by cases hs; rfl) hst)
    · exact Rg.wp_ran rfl (exec_gtr rfl (eval_tmp (hgot 2 _ 16 rfl (hdep ⟨2, .data⟩ (by simp) rfl) rfl)) (eval_tmp (hgot 8 _ 22 rfl (hdep ⟨8, .data⟩ (by simp) rfl) rfl)) (HG.out)) (hK _ _ (fun s hs => by cases hs; rfl) hst)
    · exact Rg.wp_ran rfl (Rg.exec_move rfl (eval_tmp (hgot 9 _ 23 rfl (hdep ⟨9, .data⟩ (by simp) rfl) rfl))) (hK _ _ (fun s hs => by cases hs; rfl) hst)
    · exact Rg.wp_ranW (Rg.wanted_yes rfl rfl rfl (hgot 10 _ 24 rfl (hdep ⟨10, .guard⟩ (by simp) rfl) rfl)) (Rg.exec_load rfl (eval_tmp (hpar 2 (by simp))) (Rg.run_load1 Tryd.underlying29 rfl ((hb1.keep ((Mod.drew [] w3).then hst) (by simp)).cell 0))) (hK _ _ (fun s hs => by cases hs; rfl) hst)
    · exact Rg.wp_ranW (Rg.wanted_yes rfl rfl rfl (hgot 10 _ 24 rfl (hdep ⟨10, .guard⟩ (by simp) rfl) rfl)) (Rg.exec_nil rfl (eval_tmp (hgot 11 _ 25 rfl (hdep ⟨11, .data⟩ (by simp) rfl) rfl))) (hK _ _ (fun s hs => by cases hs; rfl) hst)
    · exact Rg.wp_ranW (Rg.wanted_yes rfl rfl rfl (hgot 10 _ 24 rfl (hdep ⟨10, .guard⟩ (by simp) rfl) rfl)) (exec_f100_0 rfl (eval_tmp (hgot 12 _ 26 rfl (hdep ⟨12, .data⟩ (by simp) rfl) rfl))) (hK _ _ (fun s hs => by cases hs; rfl) hst)
    · exact Rg.wp_ranW (Rg.wanted_yes rfl rfl rfl (hgot 10 _ 24 rfl (hdep ⟨10, .guard⟩ (by simp) rfl) rfl)) (exec_f93_0 rfl (eval_tmp (hgot 13 _ 27 rfl (hdep ⟨13, .data⟩ (by simp) rfl) rfl))) (hK _ _ (fun s hs => by cases hs; rfl) hst)
    · exact Rg.wp_ranW (Rg.wanted_yes rfl rfl rfl (hgot 10 _ 24 rfl (hdep ⟨10, .guard⟩ (by simp) rfl) rfl)) (exec_f91_0 rfl (eval_tmp (hgot 14 _ 28 rfl (hdep ⟨14, .data⟩ (by simp) rfl) rfl))) (hK _ _ (fun s hs => by cases hs; rfl) hst)
    · exact Rg.wp_ranW (Rg.wanted_yes rfl rfl rfl (hgot 10 _ 24 rfl (hdep ⟨10, .guard⟩ (by simp) rfl) rfl)) (Rg.exec_load rfl (eval_tmp (hgot 15 _ 29 rfl (hdep ⟨15, .data⟩ (by simp) rfl) rfl)) (Rg.run_load1 Tryd.underlying36 rfl (lc_cells (HH.out.2.1.hb.keep (m1.then ((Mod.drew [] w3).then hst)) (by simp))).1)) (hK _ _ (fun s hs => by cases hs; rfl) hst)
    · exact Rg.wp_ranW (Rg.wanted_yes rfl rfl rfl (hgot 10 _ 24 rfl (hdep ⟨10, .guard⟩ (by simp) rfl) rfl)) (exec_eqi rfl (eval_tmp (hgot 16 _ 30 rfl (hdep ⟨16, .data⟩ (by simp) rfl) rfl)) rfl (HT.out)) (hK _ _ (fun s hs => by cases hs; rfl) hst)
    · exact Rg.wp_ran rfl (Rg.exec_pick rfl (eval_tmp (hgot 10 _ 24 rfl (hdep ⟨10, .data⟩ (by simp) rfl) rfl)) rfl (eval_tmp (hgot 17 _ 31 rfl (hdep ⟨17, .data⟩ (by simp) rfl) rfl)) rfl) (hK _ _ (fun s hs => by cases hs; rfl) hst)
  case fin =>
    intro lz v hl hst
    clear hl
    dsimp only
    have mm : Mod [] w v := m1.then ((Mod.drew [] w3).then hst)
    replace hb1 := hb1.keep ((Mod.drew [] w3).then hst) (by simp)
    have HO2 := Lib.hid (show w.heap.size ≤ bp ∧ bp < v.heap.size by have := HO.out; have := hst.size; simp only [World.size_drew] at this; omega)
    clear hst m1 c2
    obtain ⟨v4, e4⟩ : ∃ x, x = v := ⟨_, rfl⟩
    rw [← e4] at mm hb1 HO2 ⊢
    clear e4
    go_wp2_with fail
    refine Rg.wp_region_lit (X := Nat × Nat) (0, 0) (fun x => [Value.pointer (some { block := b, off := 0 }), Value.slice B nb cb, Value.pointer (some { block := bp, off := 0 }), undef, Value.int IntKind.i64 0, Value.int IntKind.i64 0, .pointer (some ⟨x.1, 0, none⟩), undef, Value.pointer (some { block := b, off := 0 }), Value.slice B nb cb, Value.int IntKind.i64 0, Value.int IntKind.i64 0, Value.bool false, undef, Value.slice B nb cb, Value.int IntKind.i64 ↑nb, Value.int IntKind.i64 ↑f, Value.pointer (some { block := b, off := 0 }), Value.pointer (some { block := b, off := 0 }), Value.pointer (some { block := b, off := 0 }), Value.pointer (some { block := b, off := 0 }), Value.pointer (some { block := b, off := 1 }), Value.int IntKind.i64 ↑a, Value.bool false, Value.bool false, Value.pointer (some { block := b, off := 0 }), Value.pointer (some { block := b, off := 0 }), Value.pointer (some { block := b, off := 0 }), Value.pointer (some { block := b, off := 0 }), Value.pointer (some { block := b, off := 0 }), Value.int IntKind.u32 ↑t, Value.bool false, Value.bool false, .pointer (some ⟨b, 0, none⟩), .pointer (some ⟨b, 0, none⟩), .pointer (some ⟨b, 0, none⟩), .pointer (some ⟨b, 0, none⟩), .pointer (some ⟨b, 0, none⟩), .int .u32 (t : Int), .int .u32 ((t + 1 : Nat) : Int), .pointer (some ⟨b, 0, none⟩), .pointer (some ⟨b, 0, none⟩), .pointer (some ⟨b, 0, none⟩), .pointer (some ⟨b, 0, none⟩), .pointer (some ⟨b, 1, none⟩), .int .i64 (a : Int), hv (t + 1) (a : Int), .slice B nb cb, kv (t + 1) (a : Int) (.slice (some ⟨x.2, 0, none⟩) nb nb) (.slice none 0 0) (f : Int), undef, undef, undef, undef, undef, undef, undef, undef, undef, undef]) 59 [0, 1, 2, 3, 4, 5, 7, 8, 9, 10, 11, 12, 13, 14, 15, 16, 17, 18, 19, 20, 21, 22, 23, 24, 25, 26, 27, 28, 29, 30, 31, 32, 49, 50, 51, 52, 53, 54, 55, 56, 57, 58]
      (fun x lz v => (lz 17 = false → Mod [] v4.drew v ∧ (lz 16 = true → Holds v x.1 50 (kc 0 0 (.slice none 0 0) (.slice none 0 0) 0) ∧ v4.drew.heap.size ≤ x.1) ∧ (lz 15 = true → Holds v x.2 5 (l.map oct) ∧ v4.drew.heap.size ≤ x.2)) ∧ (lz 17 = true → Holds v x.1 50 (kc (t + 1) (a : Int) (.slice (some ⟨x.2, 0, none⟩) nb nb) (.slice none 0 0) (f : Int)) ∧ Holds v x.2 5 (l.map oct) ∧ v4.drew.heap.size ≤ x.1 ∧ v4.drew.heap.size ≤ x.2 ∧ Mod [] v4.drew v)) []
      (by kernel_rfl) (fun _ => rfl) rfl rfl rfl (fun _ => by simp only [List.map_cons, List.map_nil, List.getD_cons_zero, List.getD_cons_succ]) (⟨fun _ => ⟨Mod.refl _ _, (fun q => by cases q), (fun q => by cases q)⟩, fun q => by cases q⟩) (by kernel_rfl) (by kernel_rfl) ?step ?fin
    case step =>
      intro x lz T v j o hj hlj hdep hst hpar hgot hcl Kq hK
      have hjn : j < 18 := (Array.getElem?_eq_some_iff.1 hj).1
      obtain rfl | rfl | rfl | rfl | rfl | rfl | rfl | rfl | rfl | rfl | rfl | rfl | rfl | rfl | rfl | rfl | rfl | rfl : j = 0 ∨ j = 1 ∨ j = 2 ∨ j = 3 ∨ j = 4 ∨ j = 5 ∨ j = 6 ∨ j = 7 ∨ j = 8 ∨ j = 9 ∨ j = 10 ∨ j = 11 ∨ j = 12 ∨ j = 13 ∨ j = 14 ∨ j = 15 ∨ j = 16 ∨ j = 17 := by omega
      all_goals (have hj' := Option.some.inj (hj : some _ = some o); subst hj'; clear hj)
      · have h16 : lz 17 = false := by
          cases hh17 : lz 17 with
          | false => rfl
          | true =>
            have hh0 := hcl 17 _ rfl hh17 ⟨0, .phase⟩ (by simp) rfl
            rw [hlj] at hh0
            cases hh0
        obtain ⟨q1, -⟩ := hst.1 h16
        have q0 := (Mod.drew [] v4).then q1
        exact Rg.wp_ran rfl (Rg.exec_load rfl (eval_tmp (hpar 2 (by simp))) (Rg.run_load1 Tryd.underlying29 rfl ((hb1.keep q0 (by simp)).cell 0))) (hK x _ _ (fun _ _ _ _ _ _ => rfl) (fun s hs => by cases hs; rfl) hst)
      · exact Rg.wp_ran rfl (Rg.exec_nil rfl (eval_tmp (hgot 0 _ 33 rfl (hdep ⟨0, .data⟩ (by simp) rfl) rfl))) (hK x _ _ (fun _ _ _ _ _ _ => rfl) (fun s hs => by cases hs; rfl) hst)
      · exact Rg.wp_ran rfl (exec_f100_0 rfl (eval_tmp (hgot 1 _ 34 rfl (hdep ⟨1, .data⟩ (by simp) rfl) rfl))) (hK x _ _ (fun _ _ _ _ _ _ => rfl) (fun s hs => by cases hs; rfl) hst)
      · exact Rg.wp_ran rfl (exec_f93_0 rfl (eval_tmp (hgot 2 _ 35 rfl (hdep ⟨2, .data⟩ (by simp) rfl) rfl))) (hK x _ _ (fun _ _ _ _ _ _ => rfl) (fun s hs => by cases hs; rfl) hst)
      · exact Rg.wp_ran rfl (exec_f91_0 rfl (eval_tmp (hgot 3 _ 36 rfl (hdep ⟨3, .data⟩ (by simp) rfl) rfl))) (hK x _ _ (fun _ _ _ _ _ _ => rfl) (fun s hs => by cases hs; rfl) hst)
      · have h16 : lz 17 = false := by
          cases hh17 : lz 17 with
          | false => rfl
          | true =>
            have hh5 := hcl 17 _ rfl hh17 ⟨5, .phase⟩ (by simp) rfl
            rw [hlj] at hh5
            cases hh5
        obtain ⟨q1, -⟩ := hst.1 h16
        have q0 := (Mod.drew [] v4).then q1
        exact Rg.wp_ran rfl (Rg.exec_load rfl (eval_tmp (hgot 4 _ 37 rfl (hdep ⟨4, .data⟩ (by simp) rfl) rfl)) (Rg.run_load1 Tryd.underlying36 rfl (lc_cells (HH.out.2.1.hb.keep (mm.then q0) (by simp))).1)) (hK x _ _ (fun _ _ _ _ _ _ => rfl) (fun s hs => by cases hs; rfl) hst)
      · exact Rg.wp_ran rfl (Rg.exec_add rfl (eval_tmp (hgot 5 _ 38 rfl (hdep ⟨5, .data⟩ (by simp) rfl) rfl)) rfl (HW.out)) (hK x _ _ (fun _ _ _ _ _ _ => rfl) (fun s hs => by cases hs; rfl) hst)
      · have h16 : lz 17 = false := by
          cases hh17 : lz 17 with
          | false => rfl
          | true =>
            have hh7 := hcl 17 _ rfl hh17 ⟨7, .phase⟩ (by simp) rfl
            rw [hlj] at hh7
            cases hh7
        obtain ⟨q1, -⟩ := hst.1 h16
        have q0 := (Mod.drew [] v4).then q1
        exact Rg.wp_ran rfl (Rg.exec_load rfl (eval_tmp (hpar 2 (by simp))) (Rg.run_load1 Tryd.underlying29 rfl ((hb1.keep q0 (by simp)).cell 0))) (hK x _ _ (fun _ _ _ _ _ _ => rfl) (fun s hs => by cases hs; rfl) hst)
      · exact Rg.wp_ran rfl (Rg.exec_nil rfl (eval_tmp (hgot 7 _ 40 rfl (hdep ⟨7, .data⟩ (by simp) rfl) rfl))) (hK x _ _ (fun _ _ _ _ _ _ => rfl) (fun s hs => by cases hs; rfl) hst)
      · exact Rg.wp_ran rfl (exec_f100_0 rfl (eval_tmp (hgot 8 _ 41 rfl (hdep ⟨8, .data⟩ (by simp) rfl) rfl))) (hK x _ _ (fun _ _ _ _ _ _ => rfl) (fun s hs => by cases hs; rfl) hst)
      · exact Rg.wp_ran rfl (exec_f93_0 rfl (eval_tmp (hgot 9 _ 42 rfl (hdep ⟨9, .data⟩ (by simp) rfl) rfl))) (hK x _ _ (fun _ _ _ _ _ _ => rfl) (fun s hs => by cases hs; rfl) hst)
      · exact Rg.wp_ran rfl (exec_f91_1 rfl (eval_tmp (hgot 10 _ 43 rfl (hdep ⟨10, .data⟩ (by simp) rfl) rfl))) (hK x _ _ (fun _ _ _ _ _ _ => rfl) (fun s hs => by cases hs; rfl) hst)
      · have h16 : lz 17 = false := by
          cases hh17 : lz 17 with
          | false => rfl
          | true =>
            have hh12 := hcl 17 _ rfl hh17 ⟨12, .phase⟩ (by simp) rfl
            rw [hlj] at hh12
            cases hh12
        obtain ⟨q1, -⟩ := hst.1 h16
        have q0 := (Mod.drew [] v4).then q1
        exact Rg.wp_ran rfl (Rg.exec_load rfl (eval_tmp (hgot 11 _ 44 rfl (hdep ⟨11, .data⟩ (by simp) rfl) rfl)) (Rg.run_load1 Tryd.underlying3 rfl (lc_cells (HH.out.2.1.hb.keep (mm.then q0) (by simp))).2.1)) (hK x _ _ (fun _ _ _ _ _ _ => rfl) (fun s hs => by cases hs; rfl) hst)
      · exact Rg.wp_ran rfl (exec_build91c rfl (eval_tmp (hgot 6 _ 39 rfl (hdep ⟨6, .data⟩ (by simp) rfl) rfl)) (eval_tmp (hgot 12 _ 45 rfl (hdep ⟨12, .data⟩ (by simp) rfl) rfl)) (t + 1) rfl) (hK x _ _ (fun _ _ _ _ _ _ => rfl) (fun s hs => by cases hs; rfl) hst)
      · exact Rg.wp_ran rfl (Rg.exec_move rfl (eval_tmp (hpar 1 (by simp)))) (hK x _ _ (fun _ _ _ _ _ _ => rfl) (fun s hs => by cases hs; rfl) hst)
      · have h16 : lz 17 = false := by
          cases hh17 : lz 17 with
          | false => rfl
          | true =>
            have hh15 := hcl 17 _ rfl hh17 ⟨15, .data⟩ (by simp) rfl
            rw [hlj] at hh15
            cases hh15
        obtain ⟨q1, q2, q3⟩ := hst.1 h16
        have q0 := (Mod.drew [] v4).then q1
        refine Rg.wp_called rfl (Rg.exec_call2 rfl rfl (eval_tmp (hgot 13 _ 46 rfl (hdep ⟨13, .data⟩ (by simp) rfl) rfl)) (eval_tmp (hgot 14 _ 47 rfl (hdep ⟨14, .data⟩ (by simp) rfl) rfl)) (enters_of Tryd.func16 (by kernel_rfl) rfl)) ((XB v (mm.then q0)).mono (fun e v' hh => ?_))
        obtain ⟨y, rfl, p1, p2, p3⟩ := hh
        exact ⟨_, rfl, hK (x.1, y) _ _ (fun j' o' s' h1 h2 h3 => by
                clear hst hpar hgot hdep hcl hK
                have h4 : j' < 18 := (Array.getElem?_eq_some_iff.1 h1).1
                obtain rfl | rfl | rfl | rfl | rfl | rfl | rfl | rfl | rfl | rfl | rfl | rfl | rfl | rfl | rfl | rfl | rfl | rfl : j' = 0 ∨ j' = 1 ∨ j' = 2 ∨ j' = 3 ∨ j' = 4 ∨ j' = 5 ∨ j' = 6 ∨ j' = 7 ∨ j' = 8 ∨ j' = 9 ∨ j' = 10 ∨ j' = 11 ∨ j' = 12 ∨ j' = 13 ∨ j' = 14 ∨ j' = 15 ∨ j' = 16 ∨ j' = 17 := by omega
                all_goals (cases h1; cases h3 <;> first | rfl | (rw [hlj] at h2; cases h2))) (fun s hs => by cases hs; rfl) ⟨fun _ => ⟨q1.then p2, fun q => ⟨(q2 q).1.keep p2 (by simp), (q2 q).2⟩, fun _ => ⟨p1, Nat.le_trans q1.size p3⟩⟩, fun q => by rw [show lz 17 = true from q] at h16; cases h16⟩⟩
      · have h16 : lz 17 = false := by
          cases hh17 : lz 17 with
          | false => rfl
          | true =>
            have hh16 := hcl 17 _ rfl hh17 ⟨16, .data⟩ (by simp) rfl
            rw [hlj] at hh16
            cases hh16
        obtain ⟨q1, q2, q3⟩ := hst.1 h16
        exact Sh.wp_alloced rfl rfl zero93 (fun v' p1 p2 => hK (v.heap.size, x.2) _ _ (fun j' o' s' h1 h2 h3 => by
                clear hst hpar hgot hdep hcl hK
                have h4 : j' < 18 := (Array.getElem?_eq_some_iff.1 h1).1
                obtain rfl | rfl | rfl | rfl | rfl | rfl | rfl | rfl | rfl | rfl | rfl | rfl | rfl | rfl | rfl | rfl | rfl | rfl : j' = 0 ∨ j' = 1 ∨ j' = 2 ∨ j' = 3 ∨ j' = 4 ∨ j' = 5 ∨ j' = 6 ∨ j' = 7 ∨ j' = 8 ∨ j' = 9 ∨ j' = 10 ∨ j' = 11 ∨ j' = 12 ∨ j' = 13 ∨ j' = 14 ∨ j' = 15 ∨ j' = 16 ∨ j' = 17 := by omega
                all_goals (cases h1; cases h3 <;> first | rfl | (rw [hlj] at h2; cases h2))) (fun s hs => by cases hs; rfl) ⟨fun _ => ⟨q1.then p2, fun _ => ⟨p1, q1.size⟩, fun q => ⟨(q3 q).1.keep p2 (by simp), (q3 q).2⟩⟩, fun q => by rw [show lz 17 = true from q] at h16; cases h16⟩)
      · have h15 : lz 15 = true := hdep ⟨15, .data⟩ (by simp) rfl
        have h14 : lz 16 = true := hdep ⟨16, .data⟩ (by simp) rfl
        obtain ⟨q1, q2, q3⟩ := hst.1 hlj
        obtain ⟨r1, r2⟩ := q2 h14
        obtain ⟨r3, r4⟩ := q3 h15
        refine Sh.wp_stored (cs := kc (t + 1) (a : Int) (.slice (some ⟨x.2, 0, none⟩) nb nb) (.slice none 0 0) (f : Int)) rfl rfl (eval_tmp (hgot 16 _ 6 rfl (hdep ⟨16, .data⟩ (by simp) rfl) rfl)) (eval_tmp (hgot 15 _ 48 rfl (hdep ⟨15, .data⟩ (by simp) rfl) rfl)) rfl r1 rfl (kc_one _ _ _ _ _ _ _ _ _) (size93_of _ _ _ _ _) (fun v' p1 p2 => hK x _ _ (fun _ _ _ _ _ _ => rfl) (fun s hs => by cases hs) ⟨(fun q => by cases q), fun _ => ⟨p1, r3.keep p2 (by have := r3.ne r1 (by decide); simpa using this), r2, r4, q1.trans p2 (fun i hi h => by simp at h; omega)⟩⟩)
    case fin =>
      intro x lz v hl hst
      obtain ⟨p1, p2, p3, p4, p5⟩ := hst.2 (hl 17 (by decide))
      clear hl hst
      dsimp only
      obtain ⟨nx, y⟩ := x
      dsimp only at p1 p2 p3 p4
      have mv : Mod [] v4 v := (Mod.drew [] v4).then p5
      simp only [World.size_drew] at p3 p4
      replace mm := mm.then mv
      replace hb1 := hb1.keep mv (by simp)
      have c2 := hb1.cell 0
      simp only [List.getElem?_cons_zero] at c2
      have DV := HH.out.1.keep mm (by simp) (by simp) (by simp)
      have HV := HH.out.2.1.keep mm
      have hly := p2.lt
      have LB : LayB c s g m A nx 50 (t + 1) a (some ⟨y, 0, none⟩) nb nb (.slice none 0 0) (f : Int) l v := ⟨HV.G, p1, Reads.of_holds p2, by decide, by decide, by have := HV.ht; have := HH.out.2.2.2.2.1; omega, HV.ha, HV.hn, Nat.le_refl _, HV.hl, fun z hz => by cases hz; exact ⟨hly, notin3 DV p2 (by decide) (by decide)⟩, HV.out⟩
      have XT := lasting_80 S T b g m cc nx bp A t (a : Int) st (.slice C k ck) (e : Int) (.pointer (some ⟨g, 0, none⟩)) br 0 v DV HV.hb false (by rfl) (fun u q => by
        have X := ck80_c c s S g m cc A nx bp b t (a : Int) st (.slice C k ck) (e : Int) br 50 (t + 1) a (some ⟨y, 0, none⟩) nb nb (.slice none 0 0) (f : Int) l u (DV.keep q (by simp) (by simp) (by simp)) ⟨LB.G.keep q, LB.h3.keep q (by simp), LB.hr.keep q (by simp), LB.T1, LB.T2, LB.ht, LB.ha, LB.hn, LB.hc, LB.hl, fun z hz => ⟨Nat.lt_of_lt_of_le (LB.hB z hz).1 q.size, (LB.hB z hz).2⟩, LB.out⟩ (hb1.keep q (by simp)) (HV.hb.keep q (by simp)) HH.out.2.2.1
        rw [HH.out.2.2.2.1] at X
        exact X)
      have HZ := Lib.hid (And.intro p1 (And.intro p2 (And.intro p3 (And.intro p4 (And.intro mm (And.intro hb1 (And.intro DV HV.hb)))))))
      clear mv XB XF HG HT HW LB hly p1 p2 p3 p4 p5 DV HV mm hb1
      go_wp2_with fail
      refine XT.mono ?_
      rintro r w5 ⟨rfl, hb5, A5, c5, T5⟩
      clear XT
      obtain ⟨p1, p2, p3, p4, mm, hb1, DV, hbv⟩ := HZ.out
      have k1 := p1.keep T5.mm (by have h1 := notin3 DV p1 (by decide) (by decide); have h2 := p1.ne hbv (by decide); simp only [List.mem_cons, not_or] at h1 ⊢; exact ⟨h2, h1⟩)
      have k2 := p2.keep T5.mm (by have h1 := notin3 DV p2 (by decide) (by decide); have h2 := p2.ne hbv (by decide); simp only [List.mem_cons, not_or] at h1 ⊢; exact ⟨h2, h1⟩)
      have k3 := hb1.keep T5.mm (by have h1 := notin3 DV hb1 (by decide) (by decide); have h2 := hb1.ne hbv (by decide); simp only [List.mem_cons, not_or] at h1 ⊢; exact ⟨h2, h1⟩)
      replace c2 := k3.cell 0
      simp only [List.getElem?_cons_zero] at c2
      have hyb := k2.ne hb5 (by decide)
      have HY := Lib.hid (And.intro T5 (And.intro hb5 (And.intro k2 (And.intro p4 (And.intro mm hyb)))))
      clear p1 p2 p3 p4 mm hb1 DV hbv k2 k3 T5 HZ hyb
      have hle : 0 + (kc (t + 1) (a : Int) (.slice (some ⟨y, 0, none⟩) nb nb) (.slice none 0 0) (f : Int)).length ≤ (lc t (a : Int) st (.slice C k ck) (e : Int) (.pointer (some ⟨g, 0, none⟩)) false).length := by show 5 ≤ 7; omega
      go_wp2_with (first
        | (with_reducible refine wpList_loads (o := ⟨some 55, .load 50 (.tmp 6), _, _, _, _⟩) rfl 50 (.tmp 6) rfl nx 0 _ rfl (Cells.of_holds k1) _ Tryd.underlying50 rfl (size93_of _ _ _ _ _) (kv (t + 1) (a : Int) (.slice (some ⟨y, 0, none⟩) nb nb) (.slice none 0 0) (f : Int)) rfl ?_)
        | (with_reducible refine wpList_stores (o := ⟨none, .store 50 (.tmp 57) (.tmp 55), _, _, _, _⟩) rfl 50 (.tmp 57) (.tmp 55) rfl rfl b 0 (kc (t + 1) (a : Int) (.slice (some ⟨y, 0, none⟩) nb nb) (.slice none 0 0) (f : Int)) rfl (kv (t + 1) (a : Int) (.slice (some ⟨y, 0, none⟩) nb nb) (.slice none 0 0) (f : Int)) rfl rfl 58 _ hb5 hle (kc_one _ _ _ _ _ _ _ _ _) (size93_of _ _ _ _ _) ?_; intro w7 hb7 m7 z7; replace z7 := Lib.hid z7))
      go_ret
      obtain ⟨T5, hb5, k2, p4, mm, hyb⟩ := HY.out
      have n1 := notin3 T5.D hb5 (by decide) (by decide)
      simp only [List.mem_cons, not_or] at n1
      have D9 := T5.D.keep m7 (by simpa using fun e => n1.1 e.symm) (by simpa using fun e => n1.2.1 e.symm) (fun z hz hh => by
        simp at hh
        exact n1.2.2 (by unfold blk; simp [hz, hh]))
      refine ⟨rfl, y, A5, c5, ?_, k2.keep m7 (by simpa using hyb), by have := HO2.out; omega, D9, ((mm.wk (fun _ _ h => by cases h)).trans T5.mm (fun i _ h => h)).trans m7 (fun i _ h => by simp at h; simp [h]), fun x hx => (T5.new x hx).imp id (fun h => Nat.le_trans mm.size h)⟩
      rw [← HH.out.2.2.2.2.2]
      exact hb7
end
end Go.Proofs.YtcoedhemlghjoaaDoor
