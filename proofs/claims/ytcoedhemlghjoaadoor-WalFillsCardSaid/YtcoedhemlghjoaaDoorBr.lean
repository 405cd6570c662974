/-
  My own texts Wu Wv Ww, one behind the other.
-/
import Derived.Test.YtcoedhemlghjoaaDoorBq
namespace Go.Proofs.YtcoedhemlghjoaaDoor
section
open Go.RowKit
theorem exec_gtr {P : Program} {v : World} {o : Oper} {ρ : Operand → Value} {t t' : TypeId} {x y : Operand} {k : IntKind} {a b : Int} {c : Bool} (ho : o.op = .binOp .gtr t x y t') (hx : ρ x = .int k a) (hy : ρ y = .int k b) (h : decide (b < a) = c) : (execOp ρ o).run P v = .ok (.value (.bool c)) v := by
  subst h
  unfold execOp
  simp [ho, hx, hy, go_sem]
theorem own_apart {α β : Type} {f : α → List Value} {f' : β → List Value} {e e' : TypeId} {n n' : Nat} {w : World} {A A' : Option Addr} {c c' : Nat} {l : List α} {l' : List β} (h : OwnG f e n w A c l) (h' : OwnG f' e' n' w A' c' l') (hne : e ≠ e') : ∀ a a', A = some a → A' = some a' → a.block ≠ a'.block := by
  rcases h.2 with ⟨hv, hn⟩ | ⟨g, cap, cur, hv, hb, hg, h1, h2, _⟩
  · injection hv with h1 h2 h3
    subst h1
    simp
  · injection hv with h3 h4 h5
    subst h3
    rcases h'.2 with ⟨hv, hn⟩ | ⟨g', cap', cur', hv', hb', hg', h1', h2', _⟩
    · injection hv with h1 h2 h3
      subst h1
      simp
    · injection hv' with h3' h4' h5'
      subst h3'
      rintro _ _ ⟨⟩ ⟨⟩ hh
      simp only at hh
      subst hh
      rw [hg] at hg'
      injection hg' with hh
      injection hh with _ hh
      exact hne hh
/-- A row of slices lies apart from a disk, and from a log's block. -/
theorem row_apart {W : World} {g m c b ck : Nat} {A C : Option Addr} {S : St} {cs : List Value} {L : List (Option Addr × Nat × Nat)} (D : DAt W g m A c S) (hb : Holds W b 58 cs) (h : OwnG sl 34 1 W C ck L) : ∀ x, C = some x → x.block ∉ b :: g :: m :: blk A := by
  intro x hx
  simp only [List.mem_cons, not_or]
  refine ⟨h.ne hb (by decide) x hx, h.ne D.blk (by decide) x hx, fun e => ?_, fun hh => ?_⟩
  · obtain ⟨o, h1, h2⟩ := own_cells h x hx
    obtain ⟨l, c0, h3, _⟩ := D.firm
    have h4 : W.heap[m]? = some (.map (l.map be).toArray c0) := h3
    rw [e, h4] at h1
    cases h1
    cases h2
  · obtain ⟨a, ha, e⟩ := mem_blk hh
    exact own_apart h D.loose (by decide) x a hx ha e.symm
set_option maxRecDepth 100000 in
set_option maxHeartbeats 4000000 in
theorem append_ref (c s : List UInt32) (S : St) (g m cc : Nat) (A : Option Addr) (b t a : Nat) (st : Value) (C : Option Addr) (k ck e : Nat) (br : Bool) (B : Option Addr) (nb cb : Nat) (l : List UInt8) (w : World) (_ : DAt w g m A cc S) (H : AddH c s g m A b t a st C k ck e (.pointer (some ⟨g, 0, none⟩)) br B nb cb l w) (hea : e ≤ a) (er : Int) (her : er = (if 40000 < nb then 3 else if br = true then 8 else 0)) (h0 : er ≠ 0) :
    Calls Tryd.prog 10 #[.pointer (some ⟨b, 0, none⟩), .slice B nb cb] w fun r w' => r = .returned (.int .i64 er) ∧ Mod [] w w' := by
  have XR := fun v (q : Mod [] w v) => refuses_c B nb cb v H.hl (H.hb.keep q (by simp))
  have XF := fun v => sectors_c nb (by have := H.hl; omega) v
  have XL := fun v (q : Mod [] w v) => left75_c b t a st (.slice C k ck) e v (lc_book (H.hb.keep q (by simp))) H.ha hea
  obtain ⟨f, hf⟩ : ∃ f, f = fills nb := ⟨_, rfl⟩
  obtain ⟨lf, hlf⟩ : ∃ x, x = a - e := ⟨_, rfl⟩
  rw [← hf] at XF
  rw [← hlf] at XL
  rw [← her] at XR
  clear H hf hlf hea her XF XL
  go_enter Tryd.func10, Tryd.ntmps10
  go_wp2_with (first
    | (with_reducible refine wpList_boxes (o := ⟨some 2, .box 29 (.tmp 0), _, _, _, _⟩) rfl 29 (.tmp 0) rfl _ rfl [.pointer (some ⟨b, 0, none⟩)] rfl ?_; intro w1 hb1 m1 z1)
    | (with_reducible refine wpList_boxes (o := ⟨some 3, .box 34 (.tmp 1), _, _, _, _⟩) rfl 34 (.tmp 1) rfl _ rfl [.slice B nb cb] rfl ?_
       intro w2 hb2 m2 z2
       obtain ⟨bp, ep⟩ : ∃ x, x = w.heap.size := ⟨_, rfl⟩
       obtain ⟨bb, eb⟩ : ∃ x, x = w1.heap.size := ⟨_, rfl⟩
       replace hb1 := hb1.keep m2 (by simp)
       rw [← ep] at hb1
       rw [← eb] at hb2
       rw [← ep, ← eb]
       have mm : Mod [] w w2 := m1.then m2
       have HO := Lib.hid (show w.heap.size ≤ bp ∧ bp < bb ∧ bb < w2.heap.size by omega)
       have c2 := hb1.cell 0
       have c3 := hb2.cell 0
       simp only [List.getElem?_cons_zero] at c2 c3
       clear ep eb m1 m2 z1 z2))
  refine (XR _ mm).mono ?_
  rintro r w3 ⟨rfl, rfl⟩
  clear XR
  go_wp2
  go_ret
  exact ⟨rfl, mm⟩
set_option maxRecDepth 100000 in
set_option maxHeartbeats 4000000 in
theorem append_full (c s : List UInt32) (S : St) (g m cc : Nat) (A : Option Addr) (b t a : Nat) (st : Value) (C : Option Addr) (k ck e : Nat) (br : Bool) (B : Option Addr) (nb cb : Nat) (l : List UInt8) (w : World) (D : DAt w g m A cc S) (H : AddH c s g m A b t a st C k ck e (.pointer (some ⟨g, 0, none⟩)) br B nb cb l w) (hea : e ≤ a) (hn : nb ≤ 40000) (hbr : br = false) (hfull : a - e < fills nb) :
    Calls Tryd.prog 10 #[.pointer (some ⟨b, 0, none⟩), .slice B nb cb] w fun r w' => r = .returned (.int .i64 6) ∧ Mod [] w w' := by
  have XR := fun v (q : Mod [] w v) => refuses_c B nb cb v H.hl (H.hb.keep q (by simp))
  have XF := fun v => sectors_c nb (by have := H.hl; omega) v
  have XL := fun v (q : Mod [] w v) => left75_c b t a st (.slice C k ck) e v (lc_book (H.hb.keep q (by simp))) H.ha hea
  obtain ⟨f, hf⟩ : ∃ f, f = fills nb := ⟨_, rfl⟩
  obtain ⟨lf, hlf⟩ : ∃ x, x = a - e := ⟨_, rfl⟩
  rw [← hf] at XF
  rw [← hlf] at XL
  rw [show (if 40000 < nb then 3 else if br = true then 8 else 0 : Int) = 0 by rw [if_neg (by omega), if_neg (by rw [hbr]; simp)]] at XR
  have HG : Hid (decide ((lf : Int) < (f : Int)) = true) := Lib.hid (by simp; omega)
  have HH := Lib.hid (And.intro D H)
  clear D H hf hlf hea hn hbr hfull
  go_enter Tryd.func10, Tryd.ntmps10
  go_wp2_with (first
    | (with_reducible refine wpList_boxes (o := ⟨some 2, .box 29 (.tmp 0), _, _, _, _⟩) rfl 29 (.tmp 0) rfl _ rfl [.pointer (some ⟨b, 0, none⟩)] rfl ?_; intro w1 hb1 m1 z1)
    | (with_reducible refine wpList_boxes (o := ⟨some 3, .box 34 (.tmp 1), _, _, _, _⟩) rfl 34 (.tmp 1) rfl _ rfl [.slice B nb cb] rfl ?_
       intro w2 hb2 m2 z2
       obtain ⟨bp, ep⟩ : ∃ x, x = w.heap.size := ⟨_, rfl⟩
       obtain ⟨bb, eb⟩ : ∃ x, x = w1.heap.size := ⟨_, rfl⟩
       replace hb1 := hb1.keep m2 (by simp)
       rw [← ep] at hb1
       rw [← eb] at hb2
       rw [← ep, ← eb]
       have mm : Mod [] w w2 := m1.then m2
       have HO := Lib.hid (show w.heap.size ≤ bp ∧ bp < bb ∧ bb < w2.heap.size by omega)
       have c2 := hb1.cell 0
       have c3 := hb2.cell 0
       simp only [List.getElem?_cons_zero] at c2 c3
       clear ep eb m1 m2 z1 z2))
  refine (XR _ mm).mono ?_
  rintro r w3 ⟨rfl, rfl⟩
  clear XR
  go_wp2_with fail
  refine Rg.wp_region_lit1 [Value.pointer (some { block := b, off := 0 }), Value.slice B nb cb, Value.pointer (some { block := bp, off := 0 }), Value.pointer (some { block := bb, off := 0 }), Value.int IntKind.i64 0, Value.int IntKind.i64 0, undef, Value.pointer (some { block := b, off := 0 }), Value.slice B nb cb, Value.int IntKind.i64 0, Value.int IntKind.i64 0, Value.bool false, undef, .slice B nb cb, .int .i64 (nb : Int), .int .i64 (f : Int), .pointer (some ⟨b, 0, none⟩), .pointer (some ⟨b, 0, none⟩), .pointer (some ⟨b, 0, none⟩), .int .i64 (lf : Int), .bool true, undef, undef, undef, undef, undef, undef, undef, undef, undef, undef, undef, undef] 33 [0, 1, 2, 3, 4, 5, 6, 7, 8, 9, 10, 11, 12, 21, 22, 23, 24, 25, 26, 27, 28, 29, 30, 31, 32]
    (fun lz v => Mod [] w3.drew v) []
    (by kernel_rfl) rfl rfl rfl rfl (Mod.refl _ _) (by kernel_rfl) (by kernel_rfl) ?step ?fin
  case step =>
    intro lz T v j o hj hlj hdep hst hpar hgot hcl Kq hK
    have hjn : j < 8 := (Array.getElem?_eq_some_iff.1 hj).1
    obtain rfl | rfl | rfl | rfl | rfl | rfl | rfl | rfl : j = 0 ∨ j = 1 ∨ j = 2 ∨ j = 3 ∨ j = 4 ∨ j = 5 ∨ j = 6 ∨ j = 7 := by omega
    all_goals (have hj' := Option.some.inj (hj : some _ = some o); subst hj'; clear hj)
    · exact Rg.wp_ran rfl (Rg.exec_load rfl (eval_tmp (hpar 3 (by simp))) (Rg.run_load1 Tryd.underlying34 rfl ((hb2.keep ((Mod.drew [] w3).then hst) (by simp)).cell 0))) (hK _ _ (fun s hs => by cases hs; rfl) hst)
    · exact wp_ran rfl (Rg.exec_len Tryd.underlying34 rfl (eval_tmp (hgot 0 _ 13 rfl (hdep ⟨0, .data⟩ (by simp) rfl) rfl))) (hK _ _ (fun s hs => by cases hs; rfl) hst)
    · exact Rg.wp_called rfl (Rg.exec_call1 rfl rfl (eval_tmp (hgot 1 _ 14 rfl (hdep ⟨1, .data⟩ (by simp) rfl) rfl)) (enters_of Tryd.func5 (by kernel_rfl) rfl)) ((XF v).mono (fun e v' hh => ⟨_, hh.1, hK _ _ (fun s hs => by cases hs; rfl) (by rw [hh.2]; exact hst)⟩))
    · exact Rg.wp_ran rfl (Rg.exec_load rfl (eval_tmp (hpar 2 (by simp))) (Rg.run_load1 Tryd.underlying29 rfl ((hb1.keep ((Mod.drew [] w3).then hst) (by simp)).cell 0))) (hK _ _ (fun s hs => by cases hs; rfl) hst)
    · exact Rg.wp_ran rfl (Rg.exec_nil rfl (eval_tmp (hgot 3 _ 16 rfl (hdep ⟨3, .data⟩ (by simp) rfl) rfl))) (hK _ _ (fun s hs => by cases hs; rfl) hst)
    · exact Rg.wp_ran rfl (exec_f100_0 rfl (eval_tmp (hgot 4 _ 17 rfl (hdep ⟨4, .data⟩ (by simp) rfl) rfl))) (hK _ _ (fun s hs => by cases hs; rfl) hst)
    · exact Rg.wp_called rfl (Rg.exec_call1 rfl rfl (eval_tmp (hgot 5 _ 18 rfl (hdep ⟨5, .data⟩ (by simp) rfl) rfl)) (enters_of Tryd.func22 (by kernel_rfl) rfl)) ((XL v (mm.then ((Mod.drew [] w3).then hst))).mono (fun e v' hh => ⟨_, hh.1, hK _ _ (fun s hs => by cases hs; rfl) (hst.then hh.2)⟩))
    · exact Rg.wp_ran rfl (exec_gtr rfl (eval_tmp (hgot 2 _ 15 rfl (hdep ⟨2, .data⟩ (by simp) rfl) rfl)) (eval_tmp (hgot 6 _ 19 rfl (hdep ⟨6, .data⟩ (by simp) rfl) rfl)) (HG.out)) (hK _ _ (fun s hs => by cases hs; rfl) hst)
  case fin =>
    intro lz v hl hst
    clear hl
    dsimp only
    go_wp2
    go_ret
    exact ⟨rfl, mm.then ((Mod.drew [] w3).then hst)⟩
set_option maxRecDepth 100000 in
set_option maxHeartbeats 4000000 in
theorem append_err (c s : List UInt32) (S : St) (g m cc : Nat) (A : Option Addr) (b t a : Nat) (st : Value) (C : Option Addr) (k ck e : Nat) (br : Bool) (B : Option Addr) (nb cb : Nat) (l : List UInt8) (w : World) (D : DAt w g m A cc S) (H : AddH c s g m A b t a st C k ck e (.pointer (some ⟨g, 0, none⟩)) br B nb cb l w) (hea : e ≤ a) (hn : nb ≤ 40000) (hbr : br = false) (hfit : fills nb ≤ a - e) (ho : S.ops + 5000 ≤ 1099511627776) (er : Int) (T : St) (hadd : S.add ((2 + t % 2 * a + e : Nat) : Int) (leavesB c s t (numB k e) l) = (er, T)) (her : er ≠ 0) :
    Calls Tryd.prog 10 #[.pointer (some ⟨b, 0, none⟩), .slice B nb cb] w fun r w' => r = .returned (.int .i64 er) ∧ Holds w' b 58 (lc t (a : Int) st (.slice C k ck) (e : Int) (.pointer (some ⟨g, 0, none⟩)) true) ∧ ∃ A' c', Wtr T b g m A w w' A' c' := by
  have XR := fun v (q : Mod [] w v) => refuses_c B nb cb v H.hl (H.hb.keep q (by simp))
  have XF := fun v => sectors_c nb (by have := H.hl; omega) v
  have XL := fun v (q : Mod [] w v) => left75_c b t a st (.slice C k ck) e v (lc_book (H.hb.keep q (by simp))) H.ha hea
  obtain ⟨f, hf⟩ : ∃ f, f = fills nb := ⟨_, rfl⟩
  obtain ⟨lf, hlf⟩ : ∃ x, x = a - e := ⟨_, rfl⟩
  rw [← hf] at XF
  rw [← hlf] at XL
  rw [show (if 40000 < nb then 3 else if br = true then 8 else 0 : Int) = 0 by rw [if_neg (by omega), if_neg (by rw [hbr]; simp)]] at XR
  have HG : Hid (decide ((lf : Int) < (f : Int)) = false) := Lib.hid (by simp; omega)
  have HH := Lib.hid (And.intro D (And.intro H (And.intro ho hadd)))
  clear D H hf hlf hea hn hbr hfit ho hadd
  go_enter Tryd.func10, Tryd.ntmps10
  go_wp2_with (first
    | (with_reducible refine wpList_boxes (o := ⟨some 2, .box 29 (.tmp 0), _, _, _, _⟩) rfl 29 (.tmp 0) rfl _ rfl [.pointer (some ⟨b, 0, none⟩)] rfl ?_; intro w1 hb1 m1 z1)
    | (with_reducible refine wpList_boxes (o := ⟨some 3, .box 34 (.tmp 1), _, _, _, _⟩) rfl 34 (.tmp 1) rfl _ rfl [.slice B nb cb] rfl ?_
       intro w2 hb2 m2 z2
       obtain ⟨bp, ep⟩ : ∃ x, x = w.heap.size := ⟨_, rfl⟩
       obtain ⟨bb, eb⟩ : ∃ x, x = w1.heap.size := ⟨_, rfl⟩
       replace hb1 := hb1.keep m2 (by simp)
       rw [← ep] at hb1
       rw [← eb] at hb2
       rw [← ep, ← eb]
       have mm : Mod [] w w2 := m1.then m2
       have HO := Lib.hid (show w.heap.size ≤ bp ∧ bp < bb ∧ bb < w2.heap.size by omega)
       have c2 := hb1.cell 0
       have c3 := hb2.cell 0
       simp only [List.getElem?_cons_zero] at c2 c3
       clear ep eb m1 m2 z1 z2))
  refine (XR _ mm).mono ?_
  rintro r w3 ⟨rfl, rfl⟩
  clear XR
  go_wp2_with fail
  refine Rg.wp_region_lit1 [Value.pointer (some { block := b, off := 0 }), Value.slice B nb cb, Value.pointer (some { block := bp, off := 0 }), Value.pointer (some { block := bb, off := 0 }), Value.int IntKind.i64 0, Value.int IntKind.i64 0, undef, Value.pointer (some { block := b, off := 0 }), Value.slice B nb cb, Value.int IntKind.i64 0, Value.int IntKind.i64 0, Value.bool false, undef, .slice B nb cb, .int .i64 (nb : Int), .int .i64 (f : Int), .pointer (some ⟨b, 0, none⟩), .pointer (some ⟨b, 0, none⟩), .pointer (some ⟨b, 0, none⟩), .int .i64 (lf : Int), .bool false, undef, undef, undef, undef, undef, undef, undef, undef, undef, undef, undef, undef] 33 [0, 1, 2, 3, 4, 5, 6, 7, 8, 9, 10, 11, 12, 21, 22, 23, 24, 25, 26, 27, 28, 29, 30, 31, 32]
    (fun lz v => Mod [] w3.drew v) []
    (by kernel_rfl) rfl rfl rfl rfl (Mod.refl _ _) (by kernel_rfl) (by kernel_rfl) ?step ?fin
  case step =>
    intro lz T v j o hj hlj hdep hst hpar hgot hcl Kq hK
    have hjn : j < 8 := (Array.getElem?_eq_some_iff.1 hj).1
    obtain rfl | rfl | rfl | rfl | rfl | rfl | rfl | rfl : j = 0 ∨ j = 1 ∨ j = 2 ∨ j = 3 ∨ j = 4 ∨ j = 5 ∨ j = 6 ∨ j = 7 := by omega
    all_goals (have hj' := Option.some.inj (hj : some _ = some o); subst hj'; clear hj)
    · exact Rg.wp_ran rfl (Rg.exec_load rfl (eval_tmp (hpar 3 (by simp))) (Rg.run_load1 Tryd.underlying34 rfl ((hb2.keep ((Mod.drew [] w3).then hst) (by simp)).cell 0))) (hK _ _ (fun s hs => by cases hs; rfl) hst)
    · exact wp_ran rfl (Rg.exec_len Tryd.underlying34 rfl (eval_tmp (hgot 0 _ 13 rfl (hdep ⟨0, .data⟩ (by simp) rfl) rfl))) (hK _ _ (fun s hs => by cases hs; rfl) hst)
    · exact Rg.wp_called rfl (Rg.exec_call1 rfl rfl (eval_tmp (hgot 1 _ 14 rfl (hdep ⟨1, .data⟩ (by simp) rfl) rfl)) (enters_of Tryd.func5 (by kernel_rfl) rfl)) ((XF v).mono (fun e v' hh => ⟨_, hh.1, hK _ _ (fun s hs => by cases hs; rfl) (by rw [hh.2]; exact hst)⟩))
    · exact Rg.wp_ran rfl (Rg.exec_load rfl (eval_tmp (hpar 2 (by simp))) (Rg.run_load1 Tryd.underlying29 rfl ((hb1.keep ((Mod.drew [] w3).then hst) (by simp)).cell 0))) (hK _ _ (fun s hs => by cases hs; rfl) hst)
    · exact Rg.wp_ran rfl (Rg.exec_nil rfl (eval_tmp (hgot 3 _ 16 rfl (hdep ⟨3, .data⟩ (by simp) rfl) rfl))) (hK _ _ (fun s hs => by cases hs; rfl) hst)
    · exact Rg.wp_ran rfl (exec_f100_0 rfl (eval_tmp (hgot 4 _ 17 rfl (hdep ⟨4, .data⟩ (by simp) rfl) rfl))) (hK _ _ (fun s hs => by cases hs; rfl) hst)
    · exact Rg.wp_called rfl (Rg.exec_call1 rfl rfl (eval_tmp (hgot 5 _ 18 rfl (hdep ⟨5, .data⟩ (by simp) rfl) rfl)) (enters_of Tryd.func22 (by kernel_rfl) rfl)) ((XL v (mm.then ((Mod.drew [] w3).then hst))).mono (fun e v' hh => ⟨_, hh.1, hK _ _ (fun s hs => by cases hs; rfl) (hst.then hh.2)⟩))
    · exact Rg.wp_ran rfl (exec_gtr rfl (eval_tmp (hgot 2 _ 15 rfl (hdep ⟨2, .data⟩ (by simp) rfl) rfl)) (eval_tmp (hgot 6 _ 19 rfl (hdep ⟨6, .data⟩ (by simp) rfl) rfl)) (HG.out)) (hK _ _ (fun s hs => by cases hs; rfl) hst)
  case fin =>
    intro lz v hl hst
    clear hl
    dsimp only
    have mv : Mod [] w3 v := (Mod.drew [] w3).then hst
    replace mm := mm.then mv
    replace hb1 := hb1.keep mv (by simp)
    replace hb2 := hb2.keep mv (by simp)
    have c2 := hb1.cell 0
    have c3 := hb2.cell 0
    simp only [List.getElem?_cons_zero] at c2 c3
    have DV := HH.out.1.keep mm (by simp) (by simp) (by simp)
    have HV := HH.out.2.1.keep mm
    have XT := lasting_77 S T b g m cc bp bb A t (a : Int) st (.slice C k ck) (e : Int) (.pointer (some ⟨g, 0, none⟩)) br er v DV HV.hb true (by simpa using her) (fun u q => by
      have X := app77_c c s S g m cc bp bb A b t a st C k ck e br B nb cb l u (DV.keep q (by simp) (by simp) (by simp)) (HV.keep q) (hb1.keep q (by simp)) (hb2.keep q (by simp)) HH.out.2.2.1
      rw [HH.out.2.2.2] at X
      exact X)
    clear mv hst XF XL HG DV HV
    go_wp2_with fail
    refine XT.mono ?_
    rintro r w5 ⟨rfl, hb5, A5, c5, T5⟩
    clear XT
    go_wp2
    go_ret
    exact ⟨rfl, hb5, A5, c5, T5.D, (mm.wk (fun _ _ h => by cases h)).trans T5.mm (fun i _ h => h), fun x hx => (T5.new x hx).imp id (fun h => Nat.le_trans mm.size h)⟩
set_option maxRecDepth 100000 in
set_option maxHeartbeats 4000000 in
theorem append_ok (c s : List UInt32) (S : St) (g m cc : Nat) (A : Option Addr) (b t a : Nat) (st : Value) (C : Option Addr) (k ck e : Nat) (br : Bool) (B : Option Addr) (nb cb : Nat) (l : List UInt8) (w : World) (D : DAt w g m A cc S) (H : AddH c s g m A b t a st C k ck e (.pointer (some ⟨g, 0, none⟩)) br B nb cb l w) (hea : e ≤ a) (hn : nb ≤ 40000) (hbr : br = false) (hfit : fills nb ≤ a - e) (ho : S.ops + 5000 ≤ 1099511627776) (T : St) (hadd : S.add ((2 + t % 2 * a + e : Nat) : Int) (leavesB c s t (numB k e) l) = (0, T)) (L : List (Option Addr × Nat × Nat)) (hL : OwnG sl 34 1 w C ck L) (hkL : k = L.length) (hk5 : k ≤ 100000) (he0 : 0 < e) (hBb : ∀ x, B = some x → x.block ≠ b) :
    Calls Tryd.prog 10 #[.pointer (some ⟨b, 0, none⟩), .slice B nb cb] w fun r w' => r = .returned (.int .i64 0) ∧ ∃ y C' ck' A' c', Holds w' b 58 (lc t (a : Int) st (.slice C' (k + 1) ck') ((e + fills nb : Nat) : Int) (.pointer (some ⟨g, 0, none⟩)) false) ∧ OwnG sl 34 1 w' C' ck' (L ++ [(some ⟨y, 0, none⟩, nb, nb)]) ∧ Holds w' y 5 (l.map oct) ∧ w.heap.size ≤ y ∧ DAt w' g m A' c' T ∧ Mod (b :: g :: m :: (blk A ++ blk C)) w w' ∧ (∀ x, A' = some x → x.block ∈ blk A ∨ w.heap.size ≤ x.block) ∧ (∀ x, C' = some x → x.block ∈ blk C ∨ w.heap.size ≤ x.block) := by
  have XR := fun v (q : Mod [] w v) => refuses_c B nb cb v H.hl (H.hb.keep q (by simp))
  have XF := fun v => sectors_c nb (by have := H.hl; omega) v
  have XL := fun v (q : Mod [] w v) => left75_c b t a st (.slice C k ck) e v (lc_book (H.hb.keep q (by simp))) H.ha hea
  obtain ⟨f, hf⟩ : ∃ f, f = fills nb := ⟨_, rfl⟩
  obtain ⟨lf, hlf⟩ : ∃ x, x = a - e := ⟨_, rfl⟩
  rw [← hf] at XF
  rw [← hlf] at XL
  rw [show (if 40000 < nb then 3 else if br = true then 8 else 0 : Int) = 0 by rw [if_neg (by omega), if_neg (by rw [hbr]; simp)]] at XR
  have HG : Hid (decide ((lf : Int) < (f : Int)) = false) := Lib.hid (by simp; omega)
  have HH := Lib.hid (And.intro D (And.intro H (And.intro ho (And.intro hadd (And.intro hL (And.intro hkL (And.intro hk5 (And.intro he0 (And.intro hn (And.intro hBb hf))))))))))
  clear D H hf hlf hea hn hbr hfit ho hadd hL hkL hk5 he0 hBb
  go_enter Tryd.func10, Tryd.ntmps10
  go_wp2_with (first
    | (with_reducible refine wpList_boxes (o := ⟨some 2, .box 29 (.tmp 0), _, _, _, _⟩) rfl 29 (.tmp 0) rfl _ rfl [.pointer (some ⟨b, 0, none⟩)] rfl ?_; intro w1 hb1 m1 z1)
    | (with_reducible refine wpList_boxes (o := ⟨some 3, .box 34 (.tmp 1), _, _, _, _⟩) rfl 34 (.tmp 1) rfl _ rfl [.slice B nb cb] rfl ?_
       intro w2 hb2 m2 z2
       obtain ⟨bp, ep⟩ : ∃ x, x = w.heap.size := ⟨_, rfl⟩
       obtain ⟨bb, eb⟩ : ∃ x, x = w1.heap.size := ⟨_, rfl⟩
       replace hb1 := hb1.keep m2 (by simp)
       rw [← ep] at hb1
       rw [← eb] at hb2
       rw [← ep, ← eb]
       have mm : Mod [] w w2 := m1.then m2
       have HO := Lib.hid (show w.heap.size ≤ bp ∧ bp < bb ∧ bb < w2.heap.size by omega)
       have c2 := hb1.cell 0
       have c3 := hb2.cell 0
       simp only [List.getElem?_cons_zero] at c2 c3
       clear ep eb m1 m2 z1 z2))
  refine (XR _ mm).mono ?_
  rintro r w3 ⟨rfl, rfl⟩
  clear XR
  go_wp2_with fail
  refine Rg.wp_region_lit1 [Value.pointer (some { block := b, off := 0 }), Value.slice B nb cb, Value.pointer (some { block := bp, off := 0 }), Value.pointer (some { block := bb, off := 0 }), Value.int IntKind.i64 0, Value.int IntKind.i64 0, undef, Value.pointer (some { block := b, off := 0 }), Value.slice B nb cb, Value.int IntKind.i64 0, Value.int IntKind.i64 0, Value.bool false, undef, .slice B nb cb, .int .i64 (nb : Int), .int .i64 (f : Int), .pointer (some ⟨b, 0, none⟩), .pointer (some ⟨b, 0, none⟩), .pointer (some ⟨b, 0, none⟩), .int .i64 (lf : Int), .bool false, undef, undef, undef, undef, undef, undef, undef, undef, undef, undef, undef, undef] 33 [0, 1, 2, 3, 4, 5, 6, 7, 8, 9, 10, 11, 12, 21, 22, 23, 24, 25, 26, 27, 28, 29, 30, 31, 32]
    (fun lz v => Mod [] w3.drew v) []
    (by kernel_rfl) rfl rfl rfl rfl (Mod.refl _ _) (by kernel_rfl) (by kernel_rfl) ?step ?fin
  case step =>
    intro lz T v j o hj hlj hdep hst hpar hgot hcl Kq hK
    have hjn : j < 8 := (Array.getElem?_eq_some_iff.1 hj).1
    obtain rfl | rfl | rfl | rfl | rfl | rfl | rfl | rfl : j = 0 ∨ j = 1 ∨ j = 2 ∨ j = 3 ∨ j = 4 ∨ j = 5 ∨ j = 6 ∨ j = 7 := by omega
    all_goals (have hj' := Option.some.inj (hj : some _ = some o); subst hj'; clear hj)
    · exact Rg.wp_ran rfl (Rg.exec_load rfl (eval_tmp (hpar 3 (by simp))) (Rg.run_load1 Tryd.underlying34 rfl ((hb2.keep ((Mod.drew [] w3).then hst) (by simp)).cell 0))) (hK _ _ (fun s hs => by cases hs; rfl) hst)
    · exact wp_ran rfl (Rg.exec_len Tryd.underlying34 rfl (eval_tmp (hgot 0 _ 13 rfl (hdep ⟨0, .data⟩ (by simp) rfl) rfl))) (hK _ _ (fun s hs => by cases hs; rfl) hst)
    · exact Rg.wp_called rfl (Rg.exec_call1 rfl rfl (eval_tmp (hgot 1 _ 14 rfl (hdep ⟨1, .data⟩ (by simp) rfl) rfl)) (enters_of Tryd.func5 (by kernel_rfl) rfl)) ((XF v).mono (fun e v' hh => ⟨_, hh.1, hK _ _ (fun s hs => by cases hs; rfl) (by rw [hh.2]; exact hst)⟩))
    · exact Rg.wp_ran rfl (Rg.exec_load rfl (eval_tmp (hpar 2 (by simp))) (Rg.run_load1 Tryd.underlying29 rfl ((hb1.keep ((Mod.drew [] w3).then hst) (by simp)).cell 0))) (hK _ _ (fun s hs => by cases hs; rfl) hst)
    · exact Rg.wp_ran rfl (Rg.exec_nil rfl (eval_tmp (hgot 3 _ 16 rfl (hdep ⟨3, .data⟩ (by simp) rfl) rfl))) (hK _ _ (fun s hs => by cases hs; rfl) hst)
    · exact Rg.wp_ran rfl (exec_f100_0 rfl (eval_tmp (hgot 4 _ 17 rfl (hdep ⟨4, .data⟩ (by simp) rfl) rfl))) (hK _ _ (fun s hs => by cases hs; rfl) hst)
    · exact Rg.wp_called rfl (Rg.exec_call1 rfl rfl (eval_tmp (hgot 5 _ 18 rfl (hdep ⟨5, .data⟩ (by simp) rfl) rfl)) (enters_of Tryd.func22 (by kernel_rfl) rfl)) ((XL v (mm.then ((Mod.drew [] w3).then hst))).mono (fun e v' hh => ⟨_, hh.1, hK _ _ (fun s hs => by cases hs; rfl) (hst.then hh.2)⟩))
    · exact Rg.wp_ran rfl (exec_gtr rfl (eval_tmp (hgot 2 _ 15 rfl (hdep ⟨2, .data⟩ (by simp) rfl) rfl)) (eval_tmp (hgot 6 _ 19 rfl (hdep ⟨6, .data⟩ (by simp) rfl) rfl)) (HG.out)) (hK _ _ (fun s hs => by cases hs; rfl) hst)
  case fin =>
    intro lz v hl hst
    clear hl
    dsimp only
    have mv : Mod [] w3 v := (Mod.drew [] w3).then hst
    replace mm := mm.then mv
    replace hb1 := hb1.keep mv (by simp)
    replace hb2 := hb2.keep mv (by simp)
    have c2 := hb1.cell 0
    have c3 := hb2.cell 0
    simp only [List.getElem?_cons_zero] at c2 c3
    have DV := HH.out.1.keep mm (by simp) (by simp) (by simp)
    have HV := HH.out.2.1.keep mm
    have XT := lasting_77 S T b g m cc bp bb A t (a : Int) st (.slice C k ck) (e : Int) (.pointer (some ⟨g, 0, none⟩)) br 0 v DV HV.hb false (by rfl) (fun u q => by
      have X := app77_c c s S g m cc bp bb A b t a st C k ck e br B nb cb l u (DV.keep q (by simp) (by simp) (by simp)) (HV.keep q) (hb1.keep q (by simp)) (hb2.keep q (by simp)) HH.out.2.2.1
      rw [HH.out.2.2.2.1] at X
      exact X)
    clear mv hst XF XL HG DV HV
    go_wp2_with fail
    refine XT.mono ?_
    rintro r w5 ⟨rfl, hb5, A5, c5, T5⟩
    clear XT
    have DM := HH.out.1.keep mm (by simp) (by simp) (by simp)
    have HM := HH.out.2.1.keep mm
    have LM := HH.out.2.2.2.2.1.keep mm (by simp)
    have apM := row_apart DM HM.hb LM
    have L5 := LM.keep T5.mm apM
    have ap5 := row_apart T5.D hb5 L5
    have b1 := hb1.keep T5.mm (by have h1 := notin3 DM hb1 (by decide) (by decide); have h2 := hb1.ne HM.hb (by decide); simp only [List.mem_cons, not_or] at h1 ⊢; exact ⟨h2, h1⟩)
    have b2 := hb2.keep T5.mm (by have h1 := notin3 DM hb2 (by decide) (by decide); have h2 := hb2.ne HM.hb (by decide); simp only [List.mem_cons, not_or] at h1 ⊢; exact ⟨h2, h1⟩)
    have r5 : Reads w5 B l := HM.hr.keep T5.mm (fun x hx => by have h1 := (HM.hB x hx).2; have h2 := HH.out.2.2.2.2.2.2.2.2.2.1 x hx; simp only [List.mem_cons, not_or] at h1 ⊢; exact ⟨h2, h1⟩)
    have m5 : Mod (b :: g :: m :: blk A) w w5 := (mm.wk (fun _ _ h => by cases h)).trans T5.mm (fun i _ h => h)
    have HZ := Lib.hid (And.intro T5 (And.intro hb5 (And.intro L5 (And.intro ap5 (And.intro b1 (And.intro b2 (And.intro r5 (And.intro m5 mm))))))))
    have c2 := b1.cell 0
    have c3 := b2.cell 0
    simp only [List.getElem?_cons_zero] at c2 c3
    clear DM HM LM apM L5 ap5 b1 b2 r5 m5 T5 hb5 hb1 hb2 mm
    go_wp2_with fail
    refine Rg.wp_region_lit (X := Nat × Value) (0, undef) (fun x => [Value.pointer (some { block := b, off := 0 }), Value.slice B nb cb, Value.pointer (some { block := bp, off := 0 }), Value.pointer (some { block := bb, off := 0 }), Value.int IntKind.i64 0, Value.int IntKind.i64 0, Value.int IntKind.i64 0, Value.pointer (some { block := b, off := 0 }), Value.slice B nb cb, Value.int IntKind.i64 0, Value.int IntKind.i64 0, Value.bool false, undef, Value.slice B nb cb, Value.int IntKind.i64 ↑nb, Value.int IntKind.i64 ↑f, Value.pointer (some { block := b, off := 0 }), Value.pointer (some { block := b, off := 0 }), Value.pointer (some { block := b, off := 0 }), Value.int IntKind.i64 ↑lf, Value.bool false, Value.pointer (some { block := b, off := 0 }), Value.func (Fn.func 25) #[] #[Value.pointer (some { block := bp, off := 0 }), Value.pointer (some { block := bb, off := 0 })], Value.int IntKind.i64 0, Value.int IntKind.i64 0, Value.bool true, .pointer (some ⟨b, 0, none⟩), .pointer (some ⟨b, 0, none⟩), .pointer (some ⟨b, 0, none⟩), .slice B nb cb, .slice (some ⟨x.1, 0, none⟩) nb nb, x.2, undef]) 33 [0, 1, 2, 3, 4, 5, 6, 7, 8, 9, 10, 11, 12, 13, 14, 15, 16, 17, 18, 19, 20, 21, 22, 23, 24, 25, 32]
      (fun x lz v => (lz 5 = false → Mod [] w5.drew v ∧ (lz 4 = true → Holds v x.1 5 (l.map oct) ∧ w5.heap.size ≤ x.1)) ∧ (lz 5 = true → ∃ C' ck', Holds v b 58 (kc t (a : Int) st (.slice C' (k + 1) ck') ((e + f : Nat) : Int) ++ [.pointer (some ⟨g, 0, none⟩), .bool false]) ∧ OwnG sl 34 1 v C' ck' (L ++ [(some ⟨x.1, 0, none⟩, nb, nb)]) ∧ Mod (b :: blk C) w5 v ∧ (∀ z, C' = some z → z.block ∈ blk C ∨ w5.heap.size ≤ z.block) ∧ Holds v x.1 5 (l.map oct) ∧ w5.heap.size ≤ x.1)) []
      (by kernel_rfl) (fun _ => rfl) rfl rfl rfl (fun _ => by simp only [List.map_cons, List.map_nil, List.getD_cons_zero, List.getD_cons_succ]) (⟨fun _ => ⟨Mod.refl _ _, fun q => by cases q⟩, fun q => by cases q⟩) (by kernel_rfl) (by kernel_rfl) ?step ?fin
    case step =>
      intro x lz T v j o hj hlj hdep hst hpar hgot hcl Kq hK
      have hjn : j < 6 := (Array.getElem?_eq_some_iff.1 hj).1
      obtain rfl | rfl | rfl | rfl | rfl | rfl : j = 0 ∨ j = 1 ∨ j = 2 ∨ j = 3 ∨ j = 4 ∨ j = 5 := by omega
      all_goals (have hj' := Option.some.inj (hj : some _ = some o); subst hj'; clear hj)
      · have h16 : lz 5 = false := by
          cases hh5 : lz 5 with
          | false => rfl
          | true =>
            have hh2 := hcl 5 _ rfl hh5 ⟨2, .data⟩ (by simp) rfl
            have hh1 := hcl 2 _ rfl hh2 ⟨1, .data⟩ (by simp) rfl
            have hh0 := hcl 1 _ rfl hh1 ⟨0, .data⟩ (by simp) rfl
            rw [hlj] at hh0
            cases hh0
        obtain ⟨q1, -⟩ := hst.1 h16
        have q0 := (Mod.drew [] w5).then q1
        exact Rg.wp_ran rfl (Rg.exec_load rfl (eval_tmp (hpar 2 (by simp))) (Rg.run_load1 Tryd.underlying29 rfl ((HZ.out.2.2.2.2.1.keep q0 (by simp)).cell 0))) (hK x _ _ (fun _ _ _ _ _ _ => rfl) (fun s hs => by cases hs; rfl) hst)
      · exact Rg.wp_ran rfl (Rg.exec_nil rfl (eval_tmp (hgot 0 _ 26 rfl (hdep ⟨0, .data⟩ (by simp) rfl) rfl))) (hK x _ _ (fun _ _ _ _ _ _ => rfl) (fun s hs => by cases hs; rfl) hst)
      · exact Rg.wp_ran rfl (exec_f100_0 rfl (eval_tmp (hgot 1 _ 27 rfl (hdep ⟨1, .data⟩ (by simp) rfl) rfl))) (hK x _ _ (fun _ _ _ _ _ _ => rfl) (fun s hs => by cases hs; rfl) hst)
      · have h16 : lz 5 = false := by
          cases hh5 : lz 5 with
          | false => rfl
          | true =>
            have hh4 := hcl 5 _ rfl hh5 ⟨4, .data⟩ (by simp) rfl
            have hh3 := hcl 4 _ rfl hh4 ⟨3, .data⟩ (by simp) rfl
            rw [hlj] at hh3
            cases hh3
        obtain ⟨q1, -⟩ := hst.1 h16
        have q0 := (Mod.drew [] w5).then q1
        exact Rg.wp_ran rfl (Rg.exec_load rfl (eval_tmp (hpar 3 (by simp))) (Rg.run_load1 Tryd.underlying34 rfl ((HZ.out.2.2.2.2.2.1.keep q0 (by simp)).cell 0))) (hK x _ _ (fun _ _ _ _ _ _ => rfl) (fun s hs => by cases hs; rfl) hst)
      · have h16 : lz 5 = false := by
          cases hh5 : lz 5 with
          | false => rfl
          | true =>
            have hh4 := hcl 5 _ rfl hh5 ⟨4, .data⟩ (by simp) rfl
            rw [hlj] at hh4
            cases hh4
        obtain ⟨q1, q2⟩ := hst.1 h16
        have q0 := (Mod.drew [] w5).then q1
        exact Rg.wp_called rfl (Rg.exec_call1 rfl rfl (eval_tmp (hgot 3 _ 29 rfl (hdep ⟨3, .data⟩ (by simp) rfl) rfl)) (enters_of Tryd.func28 (by kernel_rfl) rfl)) ((copied73_c B l nb cb HH.out.2.1.hn v HH.out.2.1.hl (HZ.out.2.2.2.2.2.2.1.keep q0 (by simp))).mono (fun e v' hh => ⟨_, hh.1, hK (v.heap.size, x.2) _ _ (fun j' o' s' h1 h2 h3 => by
                clear hst hpar hgot hdep hcl hK
                have h4 : j' < 6 := (Array.getElem?_eq_some_iff.1 h1).1
                obtain rfl | rfl | rfl | rfl | rfl | rfl : j' = 0 ∨ j' = 1 ∨ j' = 2 ∨ j' = 3 ∨ j' = 4 ∨ j' = 5 := by omega
                all_goals (cases h1; cases h3 <;> first | rfl | (rw [hlj] at h2; cases h2))) (fun s hs => by cases hs; rfl) ⟨fun _ => ⟨q1.then hh.2.2.1, fun _ => ⟨hh.2.1, q1.size⟩⟩, fun q => by rw [show lz 5 = true from q] at h16; cases h16⟩⟩))
      · have h4 : lz 4 = true := hdep ⟨4, .data⟩ (by simp) rfl
        obtain ⟨q1, q2⟩ := hst.1 hlj
        obtain ⟨r1, r2⟩ := q2 h4
        have q0 : Mod [] w5 v := (Mod.drew [] w5).then q1
        have hbv := HZ.out.2.1.keep q0 (by simp)
        have XW := take1_c b 58 t (a : Int) st C k ck e L (some ⟨x.1, 0, none⟩) nb nb [.pointer (some ⟨g, 0, none⟩), .bool false] v hbv (HZ.out.2.2.1.keep q0 (by simp)) HH.out.2.2.2.2.2.1 (by decide) HH.out.2.2.2.2.2.2.1 HH.out.2.1.hl HH.out.2.2.2.2.2.2.2.1 (by have := HH.out.2.1.he; omega)
        rw [← HH.out.2.2.2.2.2.2.2.2.2.2] at XW
        refine Rg.wp_called rfl (Rg.exec_call2 rfl rfl (eval_tmp (hgot 2 _ 28 rfl (hdep ⟨2, .data⟩ (by simp) rfl) rfl)) (eval_tmp (hgot 4 _ 30 rfl (hdep ⟨4, .data⟩ (by simp) rfl) rfl)) (enters_of Tryd.func27 (by kernel_rfl) rfl)) (XW.mono (fun e v' hh => ?_))
        obtain ⟨⟨u, rfl⟩, C', ck', p1, p2, p3, p4⟩ := hh
        have hx := r1.keep p3 (by have h1 := r1.ne hbv (by decide); have h2 := (HZ.out.2.2.1.keep q0 (by simp)).ne r1 (by decide); simp only [List.mem_cons, not_or]; exact ⟨h1, notin_blk h2⟩)
        exact ⟨u, rfl, hK (x.1, u) _ _ (fun j' o' s' h1 h2 h3 => by
                clear hst hpar hgot hdep hcl hK
                have h4 : j' < 6 := (Array.getElem?_eq_some_iff.1 h1).1
                obtain rfl | rfl | rfl | rfl | rfl | rfl : j' = 0 ∨ j' = 1 ∨ j' = 2 ∨ j' = 3 ∨ j' = 4 ∨ j' = 5 := by omega
                all_goals (cases h1; cases h3 <;> first | rfl | (rw [hlj] at h2; cases h2))) (fun s hs => by cases hs; rfl) ⟨(fun q => by cases q), fun _ => ⟨C', ck', p1, p2, (q0.wk (fun _ _ h => by cases h)).trans p3 (fun _ _ h => h), fun z hz => (p4 z hz).imp id (fun h => Nat.le_trans q0.size h), hx, r2⟩⟩⟩
    case fin =>
      intro x lz v hl hst
      obtain ⟨C', ck', p1, p2, p3, p4, p5, p6⟩ := hst.2 (hl 5 (by decide))
      clear hl hst
      dsimp only
      have HY := Lib.hid (And.intro p1 (And.intro p2 (And.intro p3 (And.intro p4 (And.intro p5 p6)))))
      clear p1 p2 p3 p4 p5 p6 c2 c3
      go_wp2
      go_ret
      obtain ⟨p1, p2, p3, p4, p5, p6⟩ := HY.out
      obtain ⟨T5, hb5, L5, ap5, b1, b2, r5, m5, mm⟩ := HZ.out
      have n1 := notin3 T5.D hb5 (by decide) (by decide)
      simp only [List.mem_cons, not_or] at n1
      have D9 := T5.D.keep p3 (by
        simp only [List.mem_cons, not_or]
        exact ⟨fun e => n1.1 e.symm, notin_blk (fun z hz => by have := ap5 z hz; simp only [List.mem_cons, not_or] at this; exact this.2.1)⟩) (by
        simp only [List.mem_cons, not_or]
        exact ⟨fun e => n1.2.1 e.symm, notin_blk (fun z hz => by have := ap5 z hz; simp only [List.mem_cons, not_or] at this; exact this.2.2.1)⟩) (fun z hz hh => by
        simp only [List.mem_cons] at hh
        have hz2 : z.block ∈ blk A5 := by unfold blk; simp [hz]
        rcases hh with hh | hh
        · rw [hh] at hz2; exact n1.2.2 hz2
        · obtain ⟨z2, h1, h2⟩ := mem_blk hh
          have := ap5 z2 h1
          simp only [List.mem_cons, not_or] at this
          rw [← h2] at hz2
          exact this.2.2.2 hz2)
      have z5 := m5.size
      have hfe := HH.out.2.2.2.2.2.2.2.2.2.2
      refine ⟨rfl, x.1, C', ck', A5, c5, by rw [← hfe]; exact p1, p2, p5, by omega, D9, ?_, fun z hz => (T5.new z hz).imp id (fun h => Nat.le_trans mm.size h), fun z hz => (p4 z hz).imp id (fun h => by omega)⟩
      refine (m5.wk (fun i _ h => by simp only [List.mem_cons, List.mem_append] at h ⊢; rcases h with h | h | h | h <;> simp [h])).trans p3 (fun i _ h => by simp only [List.mem_cons, List.mem_append] at h ⊢; rcases h with h | h <;> simp [h])
end
section
open Go.RowKit
set_option maxRecDepth 100000 in
theorem ck80_c (c s : List UInt32) (S : St) (g m cc : Nat) (A : Option Addr) (nx bp b t0 : Nat) (a0 : Int) (st0 cm0 : Value) (e0 : Int) (br0 : Bool) (T t a : Nat) (B : Option Addr) (nb cb : Nat) (cm : Value) (e : Int) (l : List UInt8) (w : World) (D : DAt w g m A cc S) (H : LayB c s g m A nx T t a B nb cb cm e l w) (hp : Holds w bp 29 [.pointer (some ⟨b, 0, none⟩)]) (hb : Holds w b 58 (lc t0 a0 st0 cm0 e0 (.pointer (some ⟨g, 0, none⟩)) br0)) (ho : S.ops + 5000 ≤ 1099511627776) :
    Calls Tryd.prog 33 #[.pointer (some ⟨nx, 0, none⟩), .pointer (some ⟨bp, 0, none⟩)] w fun r w' => r = .returned (.int .i64 (S.layN ((2 + t % 2 * a : Nat) : Int) ((t % 2 : Nat) : Int) (leavesB c s t 0 l) (titleB c s t a) 4).1) ∧ ∃ A' c', Twr (S.layN ((2 + t % 2 * a : Nat) : Int) ((t % 2 : Nat) : Int) (leavesB c s t 0 l) (titleB c s t a) 4).2 g m A w w' A' c' := by
  have X := lay_c c s S g m cc A nx T t a B nb cb cm e l w D H ho
  obtain ⟨r0, hr0⟩ : ∃ r, r = (S.layN ((2 + t % 2 * a : Nat) : Int) ((t % 2 : Nat) : Int) (leavesB c s t 0 l) (titleB c s t a) 4).1 := ⟨_, rfl⟩
  obtain ⟨aS, haS⟩ : ∃ r, r = (S.layN ((2 + t % 2 * a : Nat) : Int) ((t % 2 : Nat) : Int) (leavesB c s t 0 l) (titleB c s t a) 4).2 := ⟨_, rfl⟩
  rw [← hr0, ← haS] at X ⊢
  have c1 := hp.cell 0
  have c2 := (lc_cells hb).2.2.2.2.2.1
  simp only [List.getElem?_cons_zero] at c1
  clear D H hp hb ho hr0 haS
  go_enter Tryd.func33, Tryd.ntmps33
  go_wp2_with fail
  refine X.mono ?_
  rintro r w1 ⟨rfl, hT⟩
  clear X c1 c2
  go_wp2
  go_ret
  exact ⟨rfl, hT⟩
theorem conv_u32_i64 (n : Nat) (hn : n < 4294967296) (w : World) : (convert 36 3 (.int .u32 (n : Int))).run Tryd.prog w = .ok (.int .i64 (n : Int)) w := by
  have h : (convert 36 3 (.int .u32 (n : Int))).run Tryd.prog w = .ok (.int .i64 (IntKind.i64.wrap (n : Int))) w := by go_simp
  rw [h, IntWalk.i64_in _ (by omega)]
theorem conv_u16_i64 (n : Nat) (hn : n < 65536) (w : World) : (convert 97 3 (.int .u16 (n : Int))).run Tryd.prog w = .ok (.int .i64 (n : Int)) w := by
  have h : (convert 97 3 (.int .u16 (n : Int))).run Tryd.prog w = .ok (.int .i64 (IntKind.i64.wrap (n : Int))) w := by go_simp
  rw [h, IntWalk.i64_in _ (by omega)]
theorem exec_conv {t t' : TypeId} {v : World} {o : Oper} {ρ : Operand → Value} {x : Operand} {X Y : Value} (ho : o.op = .convert t t' x) (hx : ρ x = X) (h : (convert t t' X).run Tryd.prog v = .ok Y v) : (execOp ρ o).run Tryd.prog v = .ok (.value Y) v := by
  unfold execOp
  simp only [ho, hx, Sem.run_bind, h, Result.andThen, Sem.run_pure]
/-- How long the entry is whose first leaf may be this. -/
def lenB (x : Blk) : Nat := obe ((x.1.drop 12).take 2)
theorem exec_cut12 {v : World} {o : Oper} {ρ : Operand → Value} {x y : Operand} {g : Nat} (ho : o.op = .slice 73 x (some y) none none) (hx : ρ x = .pointer (some ⟨g, 0, none⟩)) (hy : ρ y = .int .i64 12) : (execOp ρ o).run Tryd.prog v = .ok (.value (.slice (some ⟨g, 12, none⟩) 52 52)) v := Sh.exec_cut (k := 12) Tryd.underlying73 u8_one (by decide) ho hx hy
set_option maxRecDepth 100000 in
set_option maxHeartbeats 2000000 in
theorem lengthOf_c (x : Blk) (w : World) : Calls Tryd.prog 48 #[bv x] w fun r w' => r = .returned (.int .i64 (lenB x : Int)) ∧ lenB x < 65536 ∧ Mod [] w w' := by
  have hl : (x.1.drop 12).length = 52 := by rw [List.length_drop, x.2]
  have hN : offNum (x.1.drop 12) 0 2 = lenB x := by unfold offNum lenB; rw [if_pos rfl, if_pos (by omega)]
  have hb : lenB x < 65536 := by rw [← hN]; exact offNum_lt _ _ 2
  have XR := fun v g (h : Holds v g 73 (bc x)) => oread_c (some ⟨g, 12, none⟩) (x.1.drop 12) 52 v (by omega) (reads_at h 12)
  rw [hl] at XR
  have XU := fun g b v h => u16_c g b (x.1.drop 12) 0 v h
  unfold Took_ at XU
  rw [hN] at XU
  obtain ⟨n, hn⟩ : ∃ n, n = lenB x := ⟨_, rfl⟩
  rw [← hn] at XU hb ⊢
  have HB := Lib.hid hb
  clear hl hN hn hb
  go_enter Tryd.func48, Tryd.ntmps48
  go_wp2_with (first
    | (with_reducible refine wpList_boxes (o := ⟨some 1, .box 73 (.tmp 0), _, _, _, _⟩) rfl 73 (.tmp 0) rfl _ rfl (bc x) rfl ?_; intro w1 hb1 m1 z1; replace z1 := Lib.hid z1)
    | (with_reducible refine wpList_ranW (o := ⟨some 4, .slice 73 _ _ _ _, _, _, _, _⟩) (by with_unfolding_all rfl) (.slice (some ⟨w.heap.size, 12, none⟩) 52 52) w1 (exec_cut12 rfl rfl rfl) ?_))
  refine (XR _ _ hb1).mono ?_
  rintro r w2 ⟨g, b, rfl, h1, h2, h3, m2⟩
  clear XR
  go_wp2_with fail
  refine (XU g b _ h3).mono ?_
  rintro r w3 ⟨rfl, h4, m3⟩
  clear XU
  have mm : Mod [] w w3 := (m1.then m2).trans m3 (fun i hi h => by have := m1.size; simp at h; omega)
  clear h1 h2 h3 h4 m1 m2 m3 hb1 z1
  go_wp2_with (refine wpList_ranW (o := ⟨some 8, .convert _ _ _, _, _, _, _⟩) (by rfl) (.int .i64 (n : Int)) w3 (exec_conv rfl rfl (conv_u16_i64 n HB.out w3)) ?_)
  go_ret
  exact ⟨rfl, HB.out, mm⟩
/-- Of which turn, and of how many sectors a field, a title says. -/
def areaB (x : Blk) : Nat := obe ((x.1.drop 4).take 4)
def turnB (x : Blk) : Nat := obe ((x.1.drop 8).take 4)
theorem run_build91b (t : Nat) (a : Int) (w : World) : (Instr.build 47 #[(0, .int .u32 (t : Int)), (1, .int .i64 a)]).run Tryd.prog w = .ok (hv t a) w := by kernel_rfl
theorem exec_build91b {v : World} {o : Oper} {ρ : Operand → Value} {x y : Operand} {t : Nat} {a : Int} (ho : o.op = .build 47 #[(0, x), (1, y)]) (hx : ρ x = .int .u32 (t : Int)) (hy : ρ y = .int .i64 a) : (execOp ρ o).run Tryd.prog v = .ok (.value (hv t a)) v := by
  unfold execOp
  simp only [ho, List.map_toArray, List.map_cons, List.map_nil, hx, hy, Sem.run_bind, run_build91b, Result.andThen, Sem.run_pure]
set_option maxRecDepth 100000 in
set_option maxHeartbeats 4000000 in
theorem headed_c (x : Blk) (w : World) : Calls Tryd.prog 47 #[bv x] w fun r w' => r = .returned (hv (turnB x) (areaB x : Int)) ∧ turnB x < 4294967296 ∧ areaB x < 4294967296 ∧ Mod [] w w' := by
  have hl : (x.1.drop 4).length = 60 := by rw [List.length_drop, x.2]
  have hN : offNum (x.1.drop 4) 0 4 = areaB x := by unfold offNum areaB; rw [if_pos rfl, if_pos (by omega)]
  have hR : offRest (x.1.drop 4) 0 ((4 : Nat) : Int) = x.1.drop 8 := by
    unfold offRest
    rw [if_pos ⟨rfl, by omega, by rw [hl]; omega⟩, List.drop_drop]
    rfl
  have hE : offErr (x.1.drop 4) 0 ((4 : Nat) : Int) = 0 := by unfold offErr; rw [if_pos rfl, if_neg (by omega), if_neg (by rw [hl]; omega)]
  have hN2 : offNum (x.1.drop 8) 0 4 = turnB x := by unfold offNum turnB; rw [if_pos rfl, if_pos (by rw [List.length_drop, x.2]; omega)]
  have hb : areaB x < 4294967296 := by rw [← hN]; exact offNum_lt _ _ 4
  have hb2 : turnB x < 4294967296 := by rw [← hN2]; exact offNum_lt _ _ 4
  have XR := fun v g (h : Holds v g 73 (bc x)) => oread_c (some ⟨g, 4, none⟩) (x.1.drop 4) 60 v (by omega) (reads_at h 4)
  rw [hl] at XR
  have XU := fun g b v h => u32_c g b (x.1.drop 4) 0 v h
  have XV := fun g b v h => u32_c g b (x.1.drop 8) 0 v h
  unfold Took_ at XU XV
  rw [hN, hR, hE] at XU
  rw [hN2] at XV
  obtain ⟨n, hn⟩ : ∃ n, n = areaB x := ⟨_, rfl⟩
  obtain ⟨t, ht⟩ : ∃ n, n = turnB x := ⟨_, rfl⟩
  rw [← hn] at XU hb ⊢
  rw [← ht] at XV hb2 ⊢
  have HB := Lib.hid (And.intro hb hb2)
  clear hl hN hn hb hR hE hN2 hb2 ht
  go_enter Tryd.func47, Tryd.ntmps47
  go_wp2_with (first
    | (with_reducible refine wpList_boxes (o := ⟨some 1, .box 73 (.tmp 0), _, _, _, _⟩) rfl 73 (.tmp 0) rfl _ rfl (bc x) rfl ?_; intro w1 hb1 m1 z1; replace z1 := Lib.hid z1)
    | (with_reducible refine wpList_allocs (o := ⟨some 2, .alloc 47, _, _, _, _⟩) rfl 47 rfl _ zero91 ?_
       intro w2 hb2 m2 z2
       obtain ⟨g1, e1⟩ : ∃ b, b = w.heap.size := ⟨_, rfl⟩
       obtain ⟨g2, e2⟩ : ∃ b, b = w1.heap.size := ⟨_, rfl⟩
       have HO := Lib.hid (show w.heap.size ≤ g2 ∧ g2 < w2.heap.size by have := z1.out; omega)
       replace hb1 := hb1.keep m2 (by simp)
       rw [← e1] at hb1
       rw [← e2] at hb2
       rw [← e1, ← e2]
       have mm : Mod [] w w2 := m1.then m2
       clear e1 e2 m1 m2 z1 z2)
    | (with_reducible refine wpList_ranW (o := ⟨some 5, .slice 73 _ _ _ _, _, _, _, _⟩) (by with_unfolding_all rfl) (.slice (some ⟨g1, 4, none⟩) 60 60) w2 (exec_cut4 rfl rfl rfl) ?_))
  refine (XR _ _ hb1).mono ?_
  rintro r w3 ⟨g, b, rfl, h1, h2, h3, m3⟩
  clear XR hb1
  replace hb2 := hb2.keep m3 (by simp)
  have hgw : g2 ≠ g := by have := HO.out; omega
  replace mm := mm.then m3
  have hg0 := Lib.hid (show w.heap.size ≤ g by have := HO.out; omega)
  clear h1 h2 m3
  go_wp2_with fail
  refine (XU g b _ h3).mono ?_
  rintro r w4 ⟨rfl, h4, m4⟩
  clear XU h3
  replace hb2 := hb2.keep m4 (by simpa using hgw)
  replace mm := mm.trans m4 (fun i hi h => by have := hg0.out; simp at h; omega)
  clear m4
  go_wp2_with (refine wpList_ranW (o := ⟨some 9, .convert _ _ _, _, _, _, _⟩) (by rfl) (.int .i64 (n : Int)) w4 (exec_conv rfl rfl (conv_u32_i64 n HB.out.1 w4)) ?_)
  refine (XV g b _ h4).mono ?_
  rintro r w5 ⟨rfl, h5, m5⟩
  clear XV h4 h5
  replace hb2 := hb2.keep m5 (by simpa using hgw)
  replace mm := mm.trans m5 (fun i hi h => by have := hg0.out; simp at h; omega)
  clear m5 hgw
  go_wp2_with (first
    | (with_reducible refine wpList_ranW (o := ⟨some 13, .build 47 _, _, _, _, _⟩) (by with_unfolding_all rfl) (hv t (n : Int)) w5 (exec_build91b rfl rfl rfl) ?_)
    | (with_reducible refine wpList_storesAll (o := ⟨none, .store 47 (.tmp 2) (.tmp 13), _, _, _, _⟩) rfl 47 (.tmp 2) (.tmp 13) rfl rfl g2 (hc t (n : Int)) rfl (hv t (n : Int)) rfl rfl 47 _ hb2 (by with_unfolding_all rfl) (hc_one t (n : Int)) (size91_of t (n : Int)) ?_; intro w8 hb8 m8 z8; replace z8 := Lib.hid z8))
  refine bodyPost_ret (results_cell_row rfl _ _ g2 47 _ (0, 0) _ rfl hb8 Tryd.underlying47 rfl (by rw [List.size_toArray]; exact size91_of _ _)) rfl ?_
  exact ⟨rfl, HB.out.2, HB.out.1, mm.trans m8 (fun i hi h => by have := HO.out; simp at h; omega)⟩
end
section
open Go.RowKit
end
end Go.Proofs.YtcoedhemlghjoaaDoor
