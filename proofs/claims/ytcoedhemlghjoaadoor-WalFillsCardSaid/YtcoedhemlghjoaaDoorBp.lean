/-
  My own texts Wn Wo, one behind the other.
-/
import Derived.Test.YtcoedhemlghjoaaDoorBn
namespace Go.Proofs.YtcoedhemlghjoaaDoor
section
open Go.RowKit
set_option maxRecDepth 100000 in
set_option maxHeartbeats 2000000 in
theorem fits_c (t g n : Nat) (a : Int) (w : World) (h : w.cell? ⟨g, 0, none⟩ = some (.int .i64 (n : Int))) :
    Calls Tryd.prog 17 #[hv t a, .pointer (some ⟨g, 0, none⟩)] w fun r w' => r = .returned (.bool (decide (4 ≤ a ∧ a ≤ 1000 ∧ 2 + 2 * a ≤ (n : Int)))) ∧ Mod [] w w' := by
  obtain ⟨d, hd⟩ : ∃ d, d = decide (4 ≤ a ∧ a ≤ 1000 ∧ 2 + 2 * a ≤ (n : Int)) := ⟨_, rfl⟩
  rw [← hd]
  by_cases h4 : 4 ≤ a
  · by_cases h1 : a ≤ 1000
    · obtain ⟨k, rfl⟩ : ∃ k : Nat, a = (k : Int) := ⟨a.toNat, by omega⟩
      have XN := fun v => needs_c t k (by omega) v
      obtain ⟨z, hz⟩ : ∃ z, z = 2 + 2 * k := ⟨_, rfl⟩
      have hd2 : d = decide ((z : Int) ≤ (n : Int)) := by
        rw [hd]
        apply decide_eq_decide.2
        constructor
        · intro h; omega
        · intro h; omega
      rw [← hz] at XN
      have HD := Lib.hid hd2
      clear hd hd2 hz
      go_enter Tryd.func17, Tryd.ntmps17
      go_wp2_with (first
        | (with_reducible refine wpList_boxes (o := ⟨some 2, .box 47 (.tmp 0), _, _, _, _⟩) rfl 47 (.tmp 0) rfl _ rfl (hc t (k : Int)) rfl ?_; intro w1 hb1 m1 z1; replace z1 := Lib.hid z1; have c1 := hb1.cell 1; simp only [hc, List.getElem?_cons_succ, List.getElem?_cons_zero] at c1; replace h := m1.cell (by simp) h)
        | (with_reducible refine wpList_loadsW (o := ⟨some 14, .load 47 (.tmp 2), _, _, _, _⟩) (by with_unfolding_all rfl) 47 (.tmp 2) rfl w.heap.size 0 _ rfl (Cells.of_holds hb1) _ Tryd.underlying47 rfl (size91_of t (k : Int)) (hv t (k : Int)) rfl ?_))
      refine (XN _).mono ?_
      rintro e w2 ⟨rfl, m2⟩
      replace h := m2.cell (by simp) h
      have XL := len_c g (n : Int) w2 h
      clear c1 hb1
      go_wp2_with fail
      refine XL.mono ?_
      rintro e w3 ⟨rfl, rfl⟩
      have hD := HD.out
      clear XL XN h
      by_cases hzn : (z : Int) ≤ (n : Int)
      · have hf : d = true := by rw [hD]; simpa using hzn
        have hz2 : decide (z ≤ n) = true := by simp; omega
        subst hf
        clear hD
        go_wp2
        go_ret
        exact ⟨by simp, m1.then m2⟩
      · have hf : d = false := by rw [hD]; simpa using hzn
        have hz2 : decide (z ≤ n) = false := by simp; omega
        subst hf
        clear hD
        go_wp2
        go_ret
        exact ⟨by simp, m1.then m2⟩
    · have hf : d = false := by rw [hd]; simp; omega
      subst hf
      clear hd
      go_enter Tryd.func17, Tryd.ntmps17
      go_wp2_with (with_reducible refine wpList_boxes (o := ⟨some 2, .box 47 (.tmp 0), _, _, _, _⟩) rfl 47 (.tmp 0) rfl _ rfl (hc t a) rfl ?_; intro w1 hb1 m1 z1; replace z1 := Lib.hid z1; have c1 := hb1.cell 1; simp only [hc, List.getElem?_cons_succ, List.getElem?_cons_zero] at c1)
      go_ret
      exact ⟨rfl, m1⟩
  · have hf : d = false := by rw [hd]; simp; omega
    subst hf
    clear hd
    go_enter Tryd.func17, Tryd.ntmps17
    go_wp2_with (with_reducible refine wpList_boxes (o := ⟨some 2, .box 47 (.tmp 0), _, _, _, _⟩) rfl 47 (.tmp 0) rfl _ rfl (hc t a) rfl ?_; intro w1 hb1 m1 z1; replace z1 := Lib.hid z1; have c1 := hb1.cell 1; simp only [hc, List.getElem?_cons_succ, List.getElem?_cons_zero] at c1)
    go_ret
    exact ⟨rfl, m1⟩
theorem Twr.pre {S : St} {g m c' : Nat} {A A' : Option Addr} {u v W : World} (k : Mod [] u v) (D : DAt W g m A' c' S) (mm : Mod (g :: m :: blk A) v W) (new : ∀ a, A' = some a → a.block ∈ blk A ∨ v.heap.size ≤ a.block) : Twr S g m A u W A' c' :=
  ⟨D, k.pre mm, fun a ha => (new a ha).imp id (fun h => Nat.le_trans k.size h)⟩
theorem kc_head {w : World} {g t : Nat} {a e : Int} {st cm : Value} (h : Cells w (some ⟨g, 0, none⟩) (kc t a st cm e)) : Cells w (some ⟨g, 0, none⟩) (hc t a) := h.part 0 (fun i hi => by
  simp only [hc, List.length_cons, List.length_nil] at hi
  rw [Nat.zero_add]
  rcases i with _ | _ | i
  · rfl
  · rfl
  · omega)
/-- Where a book lies that is laid on a disk: the book's block, and the cells that the steps hold. -/
structure Lay (c s : List UInt32) (g m : Nat) (A : Option Addr) (bd bb gb T t : Nat) (a : Nat) (B : Option Addr) (nb cb : Nat) (cm : Value) (e : Int) (l : List UInt8) (w : World) : Prop where
  G : Glob c s w
  h1 : Holds w bd 25 [.pointer (some ⟨g, 0, none⟩)]
  h2 : Holds w bb 74 [.pointer (some ⟨gb, 0, none⟩)]
  h3 : Holds w gb T (kc t a (.slice B nb cb) cm e)
  hr : Reads w B l
  T1 : T ≠ 45
  T2 : 92 ≠ T
  ht : t < 4294967296
  ha : a ≤ 1000
  hn : nb = l.length
  hc : nb ≤ cb
  hl : nb ≤ 140737488355328
  hB : ∀ x, B = some x → x.block < w.heap.size ∧ x.block ∉ g :: m :: blk A
  out : ∀ i ∈ g :: m :: blk A, 2 ≤ i
theorem Lay.keep {c s : List UInt32} {g m : Nat} {A : Option Addr} {bd bb gb T t a : Nat} {B : Option Addr} {nb cb : Nat} {cm : Value} {e : Int} {l : List UInt8} {w v : World} (h : Lay c s g m A bd bb gb T t a B nb cb cm e l w) (k : Mod [] w v) : Lay c s g m A bd bb gb T t a B nb cb cm e l v :=
  ⟨h.G.keep k, h.h1.keep k (by simp), h.h2.keep k (by simp), h.h3.keep k (by simp), h.hr.keep k (by simp), h.T1, h.T2, h.ht, h.ha, h.hn, h.hc, h.hl, fun x hx => ⟨Nat.lt_of_lt_of_le (h.hB x hx).1 k.size, (h.hB x hx).2⟩, h.out⟩
set_option maxRecDepth 100000 in
set_option maxHeartbeats 4000000 in
theorem lay1_c (c s : List UInt32) (S : St) (g m cc : Nat) (A : Option Addr) (bd bb gb T t a : Nat) (B : Option Addr) (nb cb : Nat) (cm : Value) (e : Int) (l : List UInt8) (w : World) (D : DAt w g m A cc S) (H : Lay c s g m A bd bb gb T t a B nb cb cm e l w) (ho : S.ops + 1000 ≤ 1099511627776) :
    Calls Tryd.prog 37 #[.pointer (some ⟨bd, 0, none⟩), .pointer (some ⟨bb, 0, none⟩)] w fun r w' => r = .returned (.int .i64 (S.writes ((2 + t % 2 * a : Nat) : Int) (leavesB c s t 0 l)).1) ∧ ∃ A' c', Twr (S.writes ((2 + t % 2 * a : Nat) : Int) (leavesB c s t 0 l)).2 g m A w w' A' c' := by
  have XH := fun v => hstart_c t a H.ht H.ha v
  obtain ⟨z, hz⟩ : ∃ z, z = 2 + t % 2 * a := ⟨_, rfl⟩
  have hz6 : z ≤ 1000000 := by
    have h1 : t % 2 ≤ 1 := by omega
    have h2 : t % 2 * a ≤ 1 * a := Nat.mul_le_mul_right a h1
    have := H.ha
    omega
  rw [← hz] at XH ⊢
  obtain ⟨r0, hr0⟩ : ∃ r, r = (S.writes (z : Int) (leavesB c s t 0 l)).1 := ⟨_, rfl⟩
  rw [← hr0]
  have HH := Lib.hid (And.intro D (And.intro H (And.intro ho (And.intro hz6 hr0))))
  clear D H ho hz6 hz hr0
  go_enter Tryd.func37, Tryd.ntmps37
  go_wp2_with fail
  refine Rg.wp_region_lit (X := Nat) 0 (fun x => [Value.pointer (some { block := bd, off := 0 }), Value.pointer (some { block := bb, off := 0 }), .int .i64 r0, .pointer (some ⟨g, 0, none⟩), .pointer (some ⟨gb, 0, none⟩), .pointer (some ⟨gb, 0, none⟩), .pointer (some ⟨gb, 0, none⟩), hv t (a : Int), .int .i64 (z : Int), .pointer (some ⟨gb, 0, none⟩), .pointer (some ⟨gb, 0, none⟩), .pointer (some ⟨gb, 0, none⟩), .pointer (some ⟨gb, 0, none⟩), .int .u32 (t : Int), .pointer (some ⟨gb, 0, none⟩), .pointer (some ⟨gb, 0, none⟩), .pointer (some ⟨gb, 2, none⟩), .slice B nb cb, .func (.func 57) #[] #[.pointer (some ⟨x + 2, 0, none⟩), .pointer (some ⟨x, 0, none⟩), .pointer (some ⟨x + 1, 0, none⟩)], .int .i64 r0]) 20 [0, 1]
    (fun x lz v => (lz 16 = false → Mod [] w.drew v ∧ (lz 15 = true → Holds v x 36 [.int .u32 (t : Int)] ∧ Holds v (x + 1) 3 [.int .i64 ((0 : Nat) : Int)] ∧ Holds v (x + 2) 34 [.slice B nb cb] ∧ w.drew.heap.size ≤ x)) ∧ (lz 16 = true → ∃ A' c', Twr (S.writes (z : Int) (leavesB c s t 0 l)).2 g m A w v A' c')) []
    (by kernel_rfl) (fun _ => rfl) rfl rfl rfl (fun _ => by simp only [List.map_cons, List.map_nil, List.getD_cons_zero, List.getD_cons_succ]) (⟨fun _ => ⟨Mod.refl _ _, fun q => by cases q⟩, fun q => by cases q⟩) (by kernel_rfl) (by kernel_rfl) ?step ?fin
  case step =>
    intro x lz T v j o hj hlj hdep hst hpar hgot hcl Kq hK
    have hjn : j < 18 := (Array.getElem?_eq_some_iff.1 hj).1
    obtain rfl | rfl | rfl | rfl | rfl | rfl | rfl | rfl | rfl | rfl | rfl | rfl | rfl | rfl | rfl | rfl | rfl | rfl : j = 0 ∨ j = 1 ∨ j = 2 ∨ j = 3 ∨ j = 4 ∨ j = 5 ∨ j = 6 ∨ j = 7 ∨ j = 8 ∨ j = 9 ∨ j = 10 ∨ j = 11 ∨ j = 12 ∨ j = 13 ∨ j = 14 ∨ j = 15 ∨ j = 16 ∨ j = 17 := by omega
    all_goals (have hj' := Option.some.inj (hj : some _ = some o); subst hj'; clear hj)
    · have h16 : lz 16 = false := by
        cases hh16 : lz 16 with
        | false => rfl
        | true =>
          have hh0 := hcl 16 _ rfl hh16 ⟨0, .data⟩ (by simp) rfl
          rw [hlj] at hh0
          cases hh0
      obtain ⟨q1, -⟩ := hst.1 h16
      have HL := HH.out.2.1.keep ((Mod.drew [] w).then q1)
      exact Rg.wp_ran rfl (Rg.exec_load rfl (eval_tmp (hpar 0 (by simp))) (Rg.run_load1 Tryd.underlying25 rfl (HL.h1.cell 0))) (hK x _ _ (fun _ _ _ _ _ _ => rfl) (fun s hs => by cases hs; rfl) hst)
    · have h16 : lz 16 = false := by
        cases hh16 : lz 16 with
        | false => rfl
        | true =>
          have hh5 := hcl 16 _ rfl hh16 ⟨5, .data⟩ (by simp) rfl
          have hh4 := hcl 5 _ rfl hh5 ⟨4, .data⟩ (by simp) rfl
          have hh3 := hcl 4 _ rfl hh4 ⟨3, .data⟩ (by simp) rfl
          have hh2 := hcl 3 _ rfl hh3 ⟨2, .data⟩ (by simp) rfl
          have hh1 := hcl 2 _ rfl hh2 ⟨1, .data⟩ (by simp) rfl
          rw [hlj] at hh1
          cases hh1
      obtain ⟨q1, -⟩ := hst.1 h16
      have HL := HH.out.2.1.keep ((Mod.drew [] w).then q1)
      exact Rg.wp_ran rfl (Rg.exec_load rfl (eval_tmp (hpar 1 (by simp))) (Rg.run_load1 Tryd.underlying74 rfl (HL.h2.cell 0))) (hK x _ _ (fun _ _ _ _ _ _ => rfl) (fun s hs => by cases hs; rfl) hst)
    · exact Rg.wp_ran rfl (Rg.exec_nil rfl (eval_tmp (hgot 1 _ 4 rfl (hdep ⟨1, .data⟩ (by simp) rfl) rfl))) (hK x _ _ (fun _ _ _ _ _ _ => rfl) (fun s hs => by cases hs; rfl) hst)
    · exact Rg.wp_ran rfl (exec_f93_0 rfl (eval_tmp (hgot 2 _ 5 rfl (hdep ⟨2, .data⟩ (by simp) rfl) rfl))) (hK x _ _ (fun _ _ _ _ _ _ => rfl) (fun s hs => by cases hs; rfl) hst)
    · have h16 : lz 16 = false := by
        cases hh16 : lz 16 with
        | false => rfl
        | true =>
          have hh5 := hcl 16 _ rfl hh16 ⟨5, .data⟩ (by simp) rfl
          have hh4 := hcl 5 _ rfl hh5 ⟨4, .data⟩ (by simp) rfl
          rw [hlj] at hh4
          cases hh4
      obtain ⟨q1, -⟩ := hst.1 h16
      have HL := HH.out.2.1.keep ((Mod.drew [] w).then q1)
      exact Rg.wp_ran rfl (Rg.exec_load rfl (eval_tmp (hgot 3 _ 6 rfl (hdep ⟨3, .data⟩ (by simp) rfl) rfl)) (run_loads (kc_head (Cells.of_holds HL.h3)) Tryd.underlying47 rfl (size91_of t (a : Int)))) (hK x _ _ (fun _ _ _ _ _ _ => rfl) (fun s hs => by cases hs; rfl) hst)
    · have h16 : lz 16 = false := by
        cases hh16 : lz 16 with
        | false => rfl
        | true =>
          have hh5 := hcl 16 _ rfl hh16 ⟨5, .data⟩ (by simp) rfl
          rw [hlj] at hh5
          cases hh5
      obtain ⟨q1, q2⟩ := hst.1 h16
      exact Rg.wp_called rfl (Rg.exec_call1 rfl rfl (eval_tmp (hgot 4 _ 7 rfl (hdep ⟨4, .data⟩ (by simp) rfl) rfl)) (enters_of Tryd.func39 (by kernel_rfl) rfl)) ((XH v).mono (fun e v' hh => ⟨_, hh.1, hK x _ _ (fun _ _ _ _ _ _ => rfl) (fun s hs => by cases hs; rfl) ⟨fun _ => ⟨q1.then hh.2, fun q => by obtain ⟨r1, r2, r3, r4⟩ := q2 q; exact ⟨r1.keep hh.2 (by simp), r2.keep hh.2 (by simp), r3.keep hh.2 (by simp), r4⟩⟩, fun q => by rw [show lz 16 = true from q] at h16; cases h16⟩⟩))
    · have h16 : lz 16 = false := by
        cases hh16 : lz 16 with
        | false => rfl
        | true =>
          have hh15 := hcl 16 _ rfl hh16 ⟨15, .data⟩ (by simp) rfl
          have hh10 := hcl 15 _ rfl hh15 ⟨10, .data⟩ (by simp) rfl
          have hh9 := hcl 10 _ rfl hh10 ⟨9, .data⟩ (by simp) rfl
          have hh8 := hcl 9 _ rfl hh9 ⟨8, .data⟩ (by simp) rfl
          have hh7 := hcl 8 _ rfl hh8 ⟨7, .data⟩ (by simp) rfl
          have hh6 := hcl 7 _ rfl hh7 ⟨6, .data⟩ (by simp) rfl
          rw [hlj] at hh6
          cases hh6
      obtain ⟨q1, -⟩ := hst.1 h16
      have HL := HH.out.2.1.keep ((Mod.drew [] w).then q1)
      exact Rg.wp_ran rfl (Rg.exec_load rfl (eval_tmp (hpar 1 (by simp))) (Rg.run_load1 Tryd.underlying74 rfl (HL.h2.cell 0))) (hK x _ _ (fun _ _ _ _ _ _ => rfl) (fun s hs => by cases hs; rfl) hst)
    · exact Rg.wp_ran rfl (Rg.exec_nil rfl (eval_tmp (hgot 6 _ 9 rfl (hdep ⟨6, .data⟩ (by simp) rfl) rfl))) (hK x _ _ (fun _ _ _ _ _ _ => rfl) (fun s hs => by cases hs; rfl) hst)
    · exact Rg.wp_ran rfl (exec_f93_0 rfl (eval_tmp (hgot 7 _ 10 rfl (hdep ⟨7, .data⟩ (by simp) rfl) rfl))) (hK x _ _ (fun _ _ _ _ _ _ => rfl) (fun s hs => by cases hs; rfl) hst)
    · exact Rg.wp_ran rfl (exec_f91_0 rfl (eval_tmp (hgot 8 _ 11 rfl (hdep ⟨8, .data⟩ (by simp) rfl) rfl))) (hK x _ _ (fun _ _ _ _ _ _ => rfl) (fun s hs => by cases hs; rfl) hst)
    · have h16 : lz 16 = false := by
        cases hh16 : lz 16 with
        | false => rfl
        | true =>
          have hh15 := hcl 16 _ rfl hh16 ⟨15, .data⟩ (by simp) rfl
          have hh10 := hcl 15 _ rfl hh15 ⟨10, .data⟩ (by simp) rfl
          rw [hlj] at hh10
          cases hh10
      obtain ⟨q1, -⟩ := hst.1 h16
      have HL := HH.out.2.1.keep ((Mod.drew [] w).then q1)
      exact Rg.wp_ran rfl (Rg.exec_load rfl (eval_tmp (hgot 9 _ 12 rfl (hdep ⟨9, .data⟩ (by simp) rfl) rfl)) (Rg.run_load1 Tryd.underlying36 rfl (kc_cells (Cells.of_holds HL.h3)).1)) (hK x _ _ (fun _ _ _ _ _ _ => rfl) (fun s hs => by cases hs; rfl) hst)
    · have h16 : lz 16 = false := by
        cases hh16 : lz 16 with
        | false => rfl
        | true =>
          have hh15 := hcl 16 _ rfl hh16 ⟨15, .data⟩ (by simp) rfl
          have hh14 := hcl 15 _ rfl hh15 ⟨14, .data⟩ (by simp) rfl
          have hh13 := hcl 14 _ rfl hh14 ⟨13, .data⟩ (by simp) rfl
          have hh12 := hcl 13 _ rfl hh13 ⟨12, .data⟩ (by simp) rfl
          have hh11 := hcl 12 _ rfl hh12 ⟨11, .data⟩ (by simp) rfl
          rw [hlj] at hh11
          cases hh11
      obtain ⟨q1, -⟩ := hst.1 h16
      have HL := HH.out.2.1.keep ((Mod.drew [] w).then q1)
      exact Rg.wp_ran rfl (Rg.exec_load rfl (eval_tmp (hpar 1 (by simp))) (Rg.run_load1 Tryd.underlying74 rfl (HL.h2.cell 0))) (hK x _ _ (fun _ _ _ _ _ _ => rfl) (fun s hs => by cases hs; rfl) hst)
    · exact Rg.wp_ran rfl (Rg.exec_nil rfl (eval_tmp (hgot 11 _ 14 rfl (hdep ⟨11, .data⟩ (by simp) rfl) rfl))) (hK x _ _ (fun _ _ _ _ _ _ => rfl) (fun s hs => by cases hs; rfl) hst)
    · exact Rg.wp_ran rfl (exec_f93_1 rfl (eval_tmp (hgot 12 _ 15 rfl (hdep ⟨12, .data⟩ (by simp) rfl) rfl))) (hK x _ _ (fun _ _ _ _ _ _ => rfl) (fun s hs => by cases hs; rfl) hst)
    · have h16 : lz 16 = false := by
        cases hh16 : lz 16 with
        | false => rfl
        | true =>
          have hh15 := hcl 16 _ rfl hh16 ⟨15, .data⟩ (by simp) rfl
          have hh14 := hcl 15 _ rfl hh15 ⟨14, .data⟩ (by simp) rfl
          rw [hlj] at hh14
          cases hh14
      obtain ⟨q1, -⟩ := hst.1 h16
      have HL := HH.out.2.1.keep ((Mod.drew [] w).then q1)
      exact Rg.wp_ran rfl (Rg.exec_load rfl (eval_tmp (hgot 13 _ 16 rfl (hdep ⟨13, .data⟩ (by simp) rfl) rfl)) (Rg.run_load1 Tryd.underlying34 rfl (by have := (kc_cells (Cells.of_holds HL.h3)).2.2.1; simpa using this))) (hK x _ _ (fun _ _ _ _ _ _ => rfl) (fun s hs => by cases hs; rfl) hst)
    · have h16 : lz 16 = false := by
        cases hh16 : lz 16 with
        | false => rfl
        | true =>
          have hh15 := hcl 16 _ rfl hh16 ⟨15, .data⟩ (by simp) rfl
          rw [hlj] at hh15
          cases hh15
      obtain ⟨q1, q2⟩ := hst.1 h16
      exact Rg.wp_called rfl (Rg.exec_call3 rfl rfl (eval_tmp (hgot 10 _ 13 rfl (hdep ⟨10, .data⟩ (by simp) rfl) rfl)) rfl (eval_tmp (hgot 14 _ 17 rfl (hdep ⟨14, .data⟩ (by simp) rfl) rfl)) (enters_of Tryd.func40 (by kernel_rfl) rfl)) ((leaves_c t 0 B nb cb v).mono (fun e v' hh => ⟨_, hh.1, hK v.heap.size _ _ (fun j' o' s' h1 h2 h3 => by
              clear hst hpar hgot hdep hcl hK
              have h4 : j' < 18 := (Array.getElem?_eq_some_iff.1 h1).1
              obtain rfl | rfl | rfl | rfl | rfl | rfl | rfl | rfl | rfl | rfl | rfl | rfl | rfl | rfl | rfl | rfl | rfl | rfl : j' = 0 ∨ j' = 1 ∨ j' = 2 ∨ j' = 3 ∨ j' = 4 ∨ j' = 5 ∨ j' = 6 ∨ j' = 7 ∨ j' = 8 ∨ j' = 9 ∨ j' = 10 ∨ j' = 11 ∨ j' = 12 ∨ j' = 13 ∨ j' = 14 ∨ j' = 15 ∨ j' = 16 ∨ j' = 17 := by omega
              all_goals (cases h1; cases h3 <;> first | rfl | (rw [hlj] at h2; cases h2))) (fun s hs => by cases hs; rfl) ⟨fun _ => ⟨q1.then hh.2.2.2.2.1, fun _ => ⟨hh.2.1, hh.2.2.1, hh.2.2.2.1, q1.size⟩⟩, fun q => by rw [show lz 16 = true from q] at h16; cases h16⟩⟩))
    · have h15 : lz 15 = true := hdep ⟨15, .data⟩ (by simp) rfl
      obtain ⟨q1, q2⟩ := hst.1 hlj
      obtain ⟨r1, r2, r3, r4⟩ := q2 h15
      have q3 : Mod [] w v := (Mod.drew [] w).then q1
      have DL := HH.out.1.keep q3 (by simp) (by simp) (by simp)
      have HL := HH.out.2.1.keep q3
      have n1 := notin88 DL r1 (by decide) (by decide)
      have n2 := notin88 DL r2 (by decide) (by decide)
      have n3 := notin88 DL r3 (by decide) (by decide)
      have k1 := DL.firm.ne_holds r1
      have k2 := DL.firm.ne_holds r2
      have k3 := DL.firm.ne_holds r3
      have XW := write93_c c s S g m cc A z (x + 2) x (x + 1) cb B l t 0 v DL ⟨HL.G, by rw [← HL.hn]; exact Cells.of_holds r3, Cells.of_holds r1, Cells.of_holds r2, HL.hr, ⟨r3.lt, by simp only [List.mem_cons, not_or] at n3 ⊢; exact ⟨n3.1, fun e => k3 (by first | exact e | exact e.symm), n3.2⟩⟩, ⟨r1.lt, by simp only [List.mem_cons, not_or] at n1 ⊢; exact ⟨n1.1, fun e => k1 (by first | exact e | exact e.symm), n1.2⟩⟩, ⟨r2.lt, by simp only [List.mem_cons, not_or] at n2 ⊢; exact ⟨n2.1, fun e => k2 (by first | exact e | exact e.symm), n2.2⟩⟩, HL.hB, Nat.le_trans HL.G.two (Nat.le_refl _), by rw [← HL.hn]; exact HL.hc, HL.out⟩ HH.out.2.2.2.1 HH.out.2.2.1 HL.ht (by omega) (by rw [← HL.hn]; have := HL.hl; omega)
      rw [← HH.out.2.2.2.2] at XW
      exact Rg.wp_called rfl (Rg.exec_call3 rfl rfl (eval_tmp (hgot 0 _ 3 rfl (hdep ⟨0, .data⟩ (by simp) rfl) rfl)) (eval_tmp (hgot 5 _ 8 rfl (hdep ⟨5, .data⟩ (by simp) rfl) rfl)) (eval_tmp (hgot 15 _ 18 rfl (hdep ⟨15, .data⟩ (by simp) rfl) rfl)) (enters_of Tryd.func38 (by kernel_rfl) rfl)) (XW.mono (fun e v' hh => ⟨_, hh.1, hK x _ _ (fun _ _ _ _ _ _ => rfl) (fun s hs => by cases hs; rfl) ⟨(fun q => by cases q), fun _ => by obtain ⟨A', c', u1, u2, u3⟩ := hh.2; exact ⟨A', c', Twr.pre q3 u1 u2 u3⟩⟩⟩))
    · exact Rg.wp_ran rfl (Rg.exec_assign rfl (eval_tmp (hgot 16 _ 19 rfl (hdep ⟨16, .data⟩ (by simp) rfl) rfl))) (hK x _ _ (fun _ _ _ _ _ _ => rfl) (fun s hs => by cases hs; rfl) hst)
  case fin =>
    intro x lz v hl hst
    have hp := hst.2 (hl 16 (by decide))
    clear hl hst
    go_wp2
    go_ret
    exact ⟨rfl, hp⟩
set_option maxRecDepth 100000 in
set_option maxHeartbeats 4000000 in
theorem lay2_c (c s : List UInt32) (S : St) (g m cc : Nat) (A : Option Addr) (bd bb gb T t a : Nat) (B : Option Addr) (nb cb : Nat) (cm : Value) (e : Int) (l : List UInt8) (w : World) (D : DAt w g m A cc S) (H : Lay c s g m A bd bb gb T t a B nb cb cm e l w) (ho : S.ops + 1000 ≤ 1099511627776) :
    Calls Tryd.prog 41 #[.pointer (some ⟨bd, 0, none⟩), .pointer (some ⟨bb, 0, none⟩)] w fun r w' => r = .returned (.int .i64 (S.write ((t % 2 : Nat) : Int) (titleB c s t a)).1) ∧ ∃ A' c', Twr (S.write ((t % 2 : Nat) : Int) (titleB c s t a)).2 g m A w w' A' c' := by
  have XP := fun v => place_c t (a : Int) H.ht v
  have XT := fun v (k : Mod [] w v) => title_c c s t a H.ht (by have := H.ha; omega) v (H.G.keep k)
  obtain ⟨z, hz⟩ : ∃ z, z = t % 2 := ⟨_, rfl⟩
  rw [← hz] at XP ⊢
  obtain ⟨r0, hr0⟩ : ∃ r, r = (S.write (z : Int) (titleB c s t a)).1 := ⟨_, rfl⟩
  obtain ⟨tb, htb⟩ : ∃ b, b = titleB c s t a := ⟨_, rfl⟩
  rw [← hr0]
  rw [← htb] at hr0 ⊢
  simp only [← htb] at XT
  have HH := Lib.hid (And.intro D (And.intro H (And.intro ho hr0)))
  clear D H ho hz hr0 htb
  go_enter Tryd.func41, Tryd.ntmps41
  go_wp2_with fail
  refine Rg.wp_region_lit1 [Value.pointer (some { block := bd, off := 0 }), Value.pointer (some { block := bb, off := 0 }), .int .i64 r0, .pointer (some ⟨g, 0, none⟩), .pointer (some ⟨gb, 0, none⟩), .pointer (some ⟨gb, 0, none⟩), .pointer (some ⟨gb, 0, none⟩), hv t (a : Int), .int .i64 (z : Int), .pointer (some ⟨gb, 0, none⟩), .pointer (some ⟨gb, 0, none⟩), .pointer (some ⟨gb, 0, none⟩), hv t (a : Int), bv tb, .int .i64 r0] 15 [0, 1]
    (fun lz v => (lz 11 = false → Mod [] w.drew v ∧ True) ∧ (lz 11 = true → ∃ A' c', Twr (S.write (z : Int) tb).2 g m A w v A' c')) []
    (by kernel_rfl) rfl rfl rfl rfl (⟨fun _ => ⟨Mod.refl _ _, trivial⟩, fun q => by cases q⟩) (by kernel_rfl) (by kernel_rfl) ?step ?fin
  case step =>
    intro lz T v j o hj hlj hdep hst hpar hgot hcl Kq hK
    have hjn : j < 13 := (Array.getElem?_eq_some_iff.1 hj).1
    obtain rfl | rfl | rfl | rfl | rfl | rfl | rfl | rfl | rfl | rfl | rfl | rfl | rfl : j = 0 ∨ j = 1 ∨ j = 2 ∨ j = 3 ∨ j = 4 ∨ j = 5 ∨ j = 6 ∨ j = 7 ∨ j = 8 ∨ j = 9 ∨ j = 10 ∨ j = 11 ∨ j = 12 := by omega
    all_goals (have hj' := Option.some.inj (hj : some _ = some o); subst hj'; clear hj)
    · have h16 : lz 11 = false := by
        cases hh11 : lz 11 with
        | false => rfl
        | true =>
          have hh0 := hcl 11 _ rfl hh11 ⟨0, .data⟩ (by simp) rfl
          rw [hlj] at hh0
          cases hh0
      obtain ⟨q1, -⟩ := hst.1 h16
      have HL := HH.out.2.1.keep ((Mod.drew [] w).then q1)
      exact Rg.wp_ran rfl (Rg.exec_load rfl (eval_tmp (hpar 0 (by simp))) (Rg.run_load1 Tryd.underlying25 rfl (HL.h1.cell 0))) (hK _ _ (fun s hs => by cases hs; rfl) hst)
    · have h16 : lz 11 = false := by
        cases hh11 : lz 11 with
        | false => rfl
        | true =>
          have hh5 := hcl 11 _ rfl hh11 ⟨5, .data⟩ (by simp) rfl
          have hh4 := hcl 5 _ rfl hh5 ⟨4, .data⟩ (by simp) rfl
          have hh3 := hcl 4 _ rfl hh4 ⟨3, .data⟩ (by simp) rfl
          have hh2 := hcl 3 _ rfl hh3 ⟨2, .data⟩ (by simp) rfl
          have hh1 := hcl 2 _ rfl hh2 ⟨1, .data⟩ (by simp) rfl
          rw [hlj] at hh1
          cases hh1
      obtain ⟨q1, -⟩ := hst.1 h16
      have HL := HH.out.2.1.keep ((Mod.drew [] w).then q1)
      exact Rg.wp_ran rfl (Rg.exec_load rfl (eval_tmp (hpar 1 (by simp))) (Rg.run_load1 Tryd.underlying74 rfl (HL.h2.cell 0))) (hK _ _ (fun s hs => by cases hs; rfl) hst)
    · exact Rg.wp_ran rfl (Rg.exec_nil rfl (eval_tmp (hgot 1 _ 4 rfl (hdep ⟨1, .data⟩ (by simp) rfl) rfl))) (hK _ _ (fun s hs => by cases hs; rfl) hst)
    · exact Rg.wp_ran rfl (exec_f93_0 rfl (eval_tmp (hgot 2 _ 5 rfl (hdep ⟨2, .data⟩ (by simp) rfl) rfl))) (hK _ _ (fun s hs => by cases hs; rfl) hst)
    · have h16 : lz 11 = false := by
        cases hh11 : lz 11 with
        | false => rfl
        | true =>
          have hh5 := hcl 11 _ rfl hh11 ⟨5, .data⟩ (by simp) rfl
          have hh4 := hcl 5 _ rfl hh5 ⟨4, .data⟩ (by simp) rfl
          rw [hlj] at hh4
          cases hh4
      obtain ⟨q1, -⟩ := hst.1 h16
      have HL := HH.out.2.1.keep ((Mod.drew [] w).then q1)
      exact Rg.wp_ran rfl (Rg.exec_load rfl (eval_tmp (hgot 3 _ 6 rfl (hdep ⟨3, .data⟩ (by simp) rfl) rfl)) (run_loads (kc_head (Cells.of_holds HL.h3)) Tryd.underlying47 rfl (size91_of t (a : Int)))) (hK _ _ (fun s hs => by cases hs; rfl) hst)
    · have h16 : lz 11 = false := by
        cases hh11 : lz 11 with
        | false => rfl
        | true =>
          have hh5 := hcl 11 _ rfl hh11 ⟨5, .data⟩ (by simp) rfl
          rw [hlj] at hh5
          cases hh5
      obtain ⟨q1, -⟩ := hst.1 h16
      exact Rg.wp_called rfl (Rg.exec_call1 rfl rfl (eval_tmp (hgot 4 _ 7 rfl (hdep ⟨4, .data⟩ (by simp) rfl) rfl)) (enters_of Tryd.func42 (by kernel_rfl) rfl)) ((XP v).mono (fun e v' hh => ⟨_, hh.1, hK _ _ (fun s hs => by cases hs; rfl) ⟨fun _ => ⟨q1.then hh.2, trivial⟩, fun q => by rw [show lz 11 = true from q] at h16; cases h16⟩⟩))
    · have h16 : lz 11 = false := by
        cases hh11 : lz 11 with
        | false => rfl
        | true =>
          have hh10 := hcl 11 _ rfl hh11 ⟨10, .data⟩ (by simp) rfl
          have hh9 := hcl 10 _ rfl hh10 ⟨9, .data⟩ (by simp) rfl
          have hh8 := hcl 9 _ rfl hh9 ⟨8, .data⟩ (by simp) rfl
          have hh7 := hcl 8 _ rfl hh8 ⟨7, .data⟩ (by simp) rfl
          have hh6 := hcl 7 _ rfl hh7 ⟨6, .data⟩ (by simp) rfl
          rw [hlj] at hh6
          cases hh6
      obtain ⟨q1, -⟩ := hst.1 h16
      have HL := HH.out.2.1.keep ((Mod.drew [] w).then q1)
      exact Rg.wp_ran rfl (Rg.exec_load rfl (eval_tmp (hpar 1 (by simp))) (Rg.run_load1 Tryd.underlying74 rfl (HL.h2.cell 0))) (hK _ _ (fun s hs => by cases hs; rfl) hst)
    · exact Rg.wp_ran rfl (Rg.exec_nil rfl (eval_tmp (hgot 6 _ 9 rfl (hdep ⟨6, .data⟩ (by simp) rfl) rfl))) (hK _ _ (fun s hs => by cases hs; rfl) hst)
    · exact Rg.wp_ran rfl (exec_f93_0 rfl (eval_tmp (hgot 7 _ 10 rfl (hdep ⟨7, .data⟩ (by simp) rfl) rfl))) (hK _ _ (fun s hs => by cases hs; rfl) hst)
    · have h16 : lz 11 = false := by
        cases hh11 : lz 11 with
        | false => rfl
        | true =>
          have hh10 := hcl 11 _ rfl hh11 ⟨10, .data⟩ (by simp) rfl
          have hh9 := hcl 10 _ rfl hh10 ⟨9, .data⟩ (by simp) rfl
          rw [hlj] at hh9
          cases hh9
      obtain ⟨q1, -⟩ := hst.1 h16
      have HL := HH.out.2.1.keep ((Mod.drew [] w).then q1)
      exact Rg.wp_ran rfl (Rg.exec_load rfl (eval_tmp (hgot 8 _ 11 rfl (hdep ⟨8, .data⟩ (by simp) rfl) rfl)) (run_loads (kc_head (Cells.of_holds HL.h3)) Tryd.underlying47 rfl (size91_of t (a : Int)))) (hK _ _ (fun s hs => by cases hs; rfl) hst)
    · have h16 : lz 11 = false := by
        cases hh11 : lz 11 with
        | false => rfl
        | true =>
          have hh10 := hcl 11 _ rfl hh11 ⟨10, .data⟩ (by simp) rfl
          rw [hlj] at hh10
          cases hh10
      obtain ⟨q1, -⟩ := hst.1 h16
      exact Rg.wp_called rfl (Rg.exec_call1 rfl rfl (eval_tmp (hgot 9 _ 12 rfl (hdep ⟨9, .data⟩ (by simp) rfl) rfl)) (enters_of Tryd.func43 (by kernel_rfl) rfl)) ((XT v ((Mod.drew [] w).then q1)).mono (fun e v' hh => ⟨_, hh.1, hK _ _ (fun s hs => by cases hs; rfl) ⟨fun _ => ⟨q1.then hh.2, trivial⟩, fun q => by rw [show lz 11 = true from q] at h16; cases h16⟩⟩))
    · obtain ⟨q1, -⟩ := hst.1 hlj
      have q3 : Mod [] w v := (Mod.drew [] w).then q1
      have XW := write_c S g m A cc (z : Int) tb v (HH.out.1.keep q3 (by simp) (by simp) (by simp)) (by have := HH.out.2.2.1; omega)
      rw [← HH.out.2.2.2] at XW
      exact Rg.wp_called rfl (Rg.exec_call3 rfl rfl (eval_tmp (hgot 0 _ 3 rfl (hdep ⟨0, .data⟩ (by simp) rfl) rfl)) (eval_tmp (hgot 5 _ 8 rfl (hdep ⟨5, .data⟩ (by simp) rfl) rfl)) (eval_tmp (hgot 10 _ 13 rfl (hdep ⟨10, .data⟩ (by simp) rfl) rfl)) (enters_of Tryd.func35 (by kernel_rfl) rfl)) (XW.mono (fun e v' hh => ⟨_, hh.1, hK _ _ (fun s hs => by cases hs; rfl) ⟨(fun q => by cases q), fun _ => by obtain ⟨A', c', u1, u2, u3⟩ := hh.2; exact ⟨A', c', Twr.pre q3 u1 (u2.wk (fun i _ h => by simp at h ⊢; rcases h with h | h <;> simp [h])) u3⟩⟩⟩))
    · exact Rg.wp_ran rfl (Rg.exec_assign rfl (eval_tmp (hgot 11 _ 14 rfl (hdep ⟨11, .data⟩ (by simp) rfl) rfl))) (hK _ _ (fun s hs => by cases hs; rfl) hst)
  case fin =>
    intro lz v hl hst
    have hp := hst.2 (hl 11 (by decide))
    clear hl hst
    go_wp2
    go_ret
    exact ⟨rfl, hp⟩
end
section
open Go.RowKit
theorem run_build139 (k : Nat) (X Y : Array Value) (w : World) : (Instr.build 80 #[(0, .func (.func k) X Y)]).run Tryd.prog w = .ok (.agg #[.func (.func k) X Y]) w := by kernel_rfl
theorem exec_build139 {v : World} {o : Oper} {ρ : Operand → Value} {x : Operand} {k : Nat} {X Y : Array Value} (ho : o.op = .build 80 #[(0, x)]) (hx : ρ x = .func (.func k) X Y) : (execOp ρ o).run Tryd.prog v = .ok (.value (.agg #[.func (.func k) X Y])) v := by
  unfold execOp
  simp only [ho, List.map_toArray, List.map_cons, List.map_nil, hx, Sem.run_bind, run_build139, Result.andThen, Sem.run_pure]
theorem run_build141 (a b c d : Nat) (X Y X1 Y1 X2 Y2 X3 Y3 : Array Value) (w : World) : (Instr.build 82 #[(0, .agg #[.func (.func a) X Y]), (1, .agg #[.func (.func b) X1 Y1]), (2, .agg #[.func (.func c) X2 Y2]), (3, .agg #[.func (.func d) X3 Y3])]).run Tryd.prog w = .ok (.agg #[.func (.func a) X Y, .func (.func b) X1 Y1, .func (.func c) X2 Y2, .func (.func d) X3 Y3]) w := by kernel_rfl
theorem zero141 : ∀ w, (zeroValue 82).run Tryd.prog w = .ok (.agg [Value.nilFunc, .nilFunc, .nilFunc, .nilFunc].toArray) w := (zero_of_info (n := 4) (by kernel_rfl)).1
theorem zero139 : ∀ w, (zeroValue 80).run Tryd.prog w = .ok (.agg [Value.nilFunc].toArray) w := (zero_of_info (n := 1) (by kernel_rfl)).1
theorem size141 : (Tryd.prog.info? 82).map (·.size) = some 4 := by kernel_rfl
theorem size139 : (Tryd.prog.info? 80).map (·.size) = some 1 := by kernel_rfl
/-- The four steps. -/
def stepL (bd bb g : Nat) : List Value := [.func (.func 37) #[] #[.pointer (some ⟨bd, 0, none⟩), .pointer (some ⟨bb, 0, none⟩)], .func (.func 36) #[.pointer (some ⟨g, 0, none⟩)] #[], .func (.func 41) #[] #[.pointer (some ⟨bd, 0, none⟩), .pointer (some ⟨bb, 0, none⟩)], .func (.func 36) #[.pointer (some ⟨g, 0, none⟩)] #[]]
abbrev stepV (bd bb g : Nat) : Value := .agg (stepL bd bb g).toArray
theorem stepL_one (bd bb g : Nat) : ∀ v ∈ stepL bd bb g, v.oneCell' = true := by
  intro v hv
  simp only [stepL, List.mem_cons, List.not_mem_nil, or_false] at hv
  rcases hv with rfl | rfl | rfl | rfl <;> rfl
theorem exec_build141 {v : World} {o : Oper} {ρ : Operand → Value} {x y z u : Operand} {bd bb g : Nat} (ho : o.op = .build 82 #[(0, x), (1, y), (2, z), (3, u)]) (hx : ρ x = .agg #[.func (.func 37) #[] #[.pointer (some ⟨bd, 0, none⟩), .pointer (some ⟨bb, 0, none⟩)]]) (hy : ρ y = .agg #[.func (.func 36) #[.pointer (some ⟨g, 0, none⟩)] #[]]) (hz : ρ z = .agg #[.func (.func 41) #[] #[.pointer (some ⟨bd, 0, none⟩), .pointer (some ⟨bb, 0, none⟩)]]) (hu : ρ u = .agg #[.func (.func 36) #[.pointer (some ⟨g, 0, none⟩)] #[]]) : (execOp ρ o).run Tryd.prog v = .ok (.value (stepV bd bb g)) v := by
  unfold execOp
  simp only [ho, List.map_toArray, List.map_cons, List.map_nil, hx, hy, hz, hu, Sem.run_bind, run_build141, Result.andThen, Sem.run_pure]
  rfl
/-- What is done at step j. -/
def St.stepJ (S : St) (z p : Int) (bs : List Blk) (tb : Blk) : Nat → Int × St
  | 0 => S.writes z bs
  | 1 => S.sync
  | 2 => S.write p tb
  | _ => S.sync
/-- n steps more, the last of them the fourth; till one is refused. -/
def St.layN (S : St) (z p : Int) (bs : List Blk) (tb : Blk) : Nat → Int × St
  | 0 => (0, S)
  | n + 1 => if (S.stepJ z p bs tb (3 - n)).1 = 0 then St.layN (S.stepJ z p bs tb (3 - n)).2 z p bs tb n else S.stepJ z p bs tb (3 - n)
theorem Twr.trans {S T : St} {g m c1 c2 : Nat} {A A1 A2 : Option Addr} {u v W : World} (h : Twr S g m A u v A1 c1) (k : Twr T g m A1 v W A2 c2) : Twr T g m A u W A2 c2 := by
  refine ⟨k.D, h.mm.trans k.mm (fun i hi hm => ?_), fun a ha => ?_⟩
  · simp only [List.mem_cons] at hm ⊢
    rcases hm with rfl | rfl | hb
    · exact .inl rfl
    · exact .inr (.inl rfl)
    · obtain ⟨a, ha, rfl⟩ := mem_blk hb
      rcases h.new a ha with h1 | h1
      · exact .inr (.inr h1)
      · omega
  · rcases k.new a ha with h1 | h1
    · obtain ⟨a2, ha2, e2⟩ := mem_blk h1
      rw [← e2]
      exact h.new a2 ha2
    · exact .inr (Nat.le_trans h.mm.size h1)
theorem Twr.of_dat {S : St} {g m c : Nat} {A : Option Addr} {w : World} (D : DAt w g m A c S) : Twr S g m A w w A c := ⟨D, Mod.refl _ _, fun a ha => .inl (by unfold blk; simp [ha])⟩
theorem Twr.holds {S S0 : St} {g m c0 c1 k : Nat} {A A1 : Option Addr} {v W : World} {t : TypeId} {cs : List Value} (h : Twr S g m A v W A1 c1) (D : DAt v g m A c0 S0) (hh : Holds v k t cs) (h1 : t ≠ 45) (h2 : 92 ≠ t) : Holds W k t cs := by
  refine hh.keep h.mm ?_
  have hn := notin88 D hh h1 h2
  have h4 := D.firm.ne_holds hh
  simp only [List.mem_cons, not_or] at hn ⊢
  exact ⟨hn.1, fun e => h4 (by first | exact e | exact e.symm), hn.2⟩
theorem Twr.glob {S : St} {g m c1 : Nat} {A A1 : Option Addr} {v W : World} {c s : List UInt32} (h : Twr S g m A v W A1 c1) (G : Glob c s v) (out : ∀ i ∈ g :: m :: blk A, 2 ≤ i) : Glob c s W :=
  ⟨G.hc, G.hs, G.G.keep h.mm (fun a ha => by cases ha; intro hh; exact absurd (out _ hh) (by decide)), G.G1.keep h.mm (fun a ha => by cases ha; intro hh; exact absurd (out _ hh) (by decide)), Nat.le_trans G.two h.mm.size⟩
theorem Lay.turn {c s : List UInt32} {S S0 : St} {g m c0 c1 : Nat} {A A1 : Option Addr} {bd bb gb T t a : Nat} {B : Option Addr} {nb cb : Nat} {cm : Value} {e : Int} {l : List UInt8} {v W : World} (H : Lay c s g m A bd bb gb T t a B nb cb cm e l v) (D : DAt v g m A c0 S0) (h : Twr S g m A v W A1 c1) : Lay c s g m A1 bd bb gb T t a B nb cb cm e l W := by
  have hin : ∀ i ∈ g :: m :: blk A1, i ∈ g :: m :: blk A ∨ v.heap.size ≤ i := by
    intro i hi
    simp only [List.mem_cons] at hi ⊢
    rcases hi with rfl | rfl | hb
    · exact .inl (.inl rfl)
    · exact .inl (.inr (.inl rfl))
    · obtain ⟨a, ha, rfl⟩ := mem_blk hb
      rcases h.new a ha with h1 | h1
      · exact .inl (.inr (.inr h1))
      · exact .inr h1
  refine ⟨h.glob H.G H.out, h.holds D H.h1 (by decide) (by decide), h.holds D H.h2 (by decide) (by decide), h.holds D H.h3 H.T1 H.T2, H.hr.keep h.mm (fun x hx => (H.hB x hx).2), H.T1, H.T2, H.ht, H.ha, H.hn, H.hc, H.hl, fun x hx => ⟨Nat.lt_of_lt_of_le (H.hB x hx).1 h.mm.size, fun hh => ?_⟩, fun i hi => ?_⟩
  · rcases hin _ hh with h1 | h1
    · exact (H.hB x hx).2 h1
    · have := (H.hB x hx).1; omega
  · rcases hin _ hi with h1 | h1
    · exact H.out i h1
    · have := H.G.two; omega
/-- Where a book lies that is to be laid. -/
theorem run_index141_0 (bd bb g : Nat) (w : World) : (Instr.index 82 (stepV bd bb g) (.int .i64 0)).run Tryd.prog w = .ok (.agg #[.func (.func 37) #[] #[.pointer (some ⟨bd, 0, none⟩), .pointer (some ⟨bb, 0, none⟩)]]) w := by kernel_rfl
theorem exec_index141_0 {v : World} {o : Oper} {ρ : Operand → Value} {x y : Operand} {bd bb g : Nat} (ho : o.op = .index 82 x y) (hx : ρ x = stepV bd bb g) (hy : ρ y = .int .i64 0) : (execOp ρ o).run Tryd.prog v = .ok (.value (.agg #[.func (.func 37) #[] #[.pointer (some ⟨bd, 0, none⟩), .pointer (some ⟨bb, 0, none⟩)]])) v := by
  unfold execOp
  simp only [ho, hx, hy, Sem.run_bind, run_index141_0, Result.andThen, Sem.run_pure]
theorem run_index141_1 (bd bb g : Nat) (w : World) : (Instr.index 82 (stepV bd bb g) (.int .i64 1)).run Tryd.prog w = .ok (.agg #[.func (.func 36) #[.pointer (some ⟨g, 0, none⟩)] #[]]) w := by kernel_rfl
theorem exec_index141_1 {v : World} {o : Oper} {ρ : Operand → Value} {x y : Operand} {bd bb g : Nat} (ho : o.op = .index 82 x y) (hx : ρ x = stepV bd bb g) (hy : ρ y = .int .i64 1) : (execOp ρ o).run Tryd.prog v = .ok (.value (.agg #[.func (.func 36) #[.pointer (some ⟨g, 0, none⟩)] #[]])) v := by
  unfold execOp
  simp only [ho, hx, hy, Sem.run_bind, run_index141_1, Result.andThen, Sem.run_pure]
theorem run_index141_2 (bd bb g : Nat) (w : World) : (Instr.index 82 (stepV bd bb g) (.int .i64 2)).run Tryd.prog w = .ok (.agg #[.func (.func 41) #[] #[.pointer (some ⟨bd, 0, none⟩), .pointer (some ⟨bb, 0, none⟩)]]) w := by kernel_rfl
theorem exec_index141_2 {v : World} {o : Oper} {ρ : Operand → Value} {x y : Operand} {bd bb g : Nat} (ho : o.op = .index 82 x y) (hx : ρ x = stepV bd bb g) (hy : ρ y = .int .i64 2) : (execOp ρ o).run Tryd.prog v = .ok (.value (.agg #[.func (.func 41) #[] #[.pointer (some ⟨bd, 0, none⟩), .pointer (some ⟨bb, 0, none⟩)]])) v := by
  unfold execOp
  simp only [ho, hx, hy, Sem.run_bind, run_index141_2, Result.andThen, Sem.run_pure]
theorem run_index141_3 (bd bb g : Nat) (w : World) : (Instr.index 82 (stepV bd bb g) (.int .i64 3)).run Tryd.prog w = .ok (.agg #[.func (.func 36) #[.pointer (some ⟨g, 0, none⟩)] #[]]) w := by kernel_rfl
theorem exec_index141_3 {v : World} {o : Oper} {ρ : Operand → Value} {x y : Operand} {bd bb g : Nat} (ho : o.op = .index 82 x y) (hx : ρ x = stepV bd bb g) (hy : ρ y = .int .i64 3) : (execOp ρ o).run Tryd.prog v = .ok (.value (.agg #[.func (.func 36) #[.pointer (some ⟨g, 0, none⟩)] #[]])) v := by
  unfold execOp
  simp only [ho, hx, hy, Sem.run_bind, run_index141_3, Result.andThen, Sem.run_pure]
/-- Where a book lies, and on which disk it is to be laid. -/
structure LayB (c s : List UInt32) (g m : Nat) (A : Option Addr) (gb T t : Nat) (a : Nat) (B : Option Addr) (nb cb : Nat) (cm : Value) (e : Int) (l : List UInt8) (w : World) : Prop where
  G : Glob c s w
  h3 : Holds w gb T (kc t a (.slice B nb cb) cm e)
  hr : Reads w B l
  T1 : T ≠ 45
  T2 : 92 ≠ T
  ht : t < 4294967296
  ha : a ≤ 1000
  hn : nb = l.length
  hc : nb ≤ cb
  hl : nb ≤ 140737488355328
  hB : ∀ x, B = some x → x.block < w.heap.size ∧ x.block ∉ g :: m :: blk A
  out : ∀ i ∈ g :: m :: blk A, 2 ≤ i
theorem LayB.at {c s : List UInt32} {g m : Nat} {A : Option Addr} {bd bb gb T t a : Nat} {B : Option Addr} {nb cb : Nat} {cm : Value} {e : Int} {l : List UInt8} {w v : World} (h : LayB c s g m A gb T t a B nb cb cm e l w) (k : Mod [] w v) (h1 : Holds v bd 25 [.pointer (some ⟨g, 0, none⟩)]) (h2 : Holds v bb 74 [.pointer (some ⟨gb, 0, none⟩)]) : Lay c s g m A bd bb gb T t a B nb cb cm e l v :=
  ⟨h.G.keep k, h1, h2, h.h3.keep k (by simp), h.hr.keep k (by simp), h.T1, h.T2, h.ht, h.ha, h.hn, h.hc, h.hl, fun x hx => ⟨Nat.lt_of_lt_of_le (h.hB x hx).1 k.size, (h.hB x hx).2⟩, h.out⟩
set_option maxRecDepth 100000 in
set_option maxHeartbeats 4000000 in
theorem lay_c (c s : List UInt32) (S : St) (g m cc : Nat) (A : Option Addr) (gb T t a : Nat) (B : Option Addr) (nb cb : Nat) (cm : Value) (e : Int) (l : List UInt8) (w : World) (D : DAt w g m A cc S) (H : LayB c s g m A gb T t a B nb cb cm e l w) (ho : S.ops + 5000 ≤ 1099511627776) :
    Calls Tryd.prog 21 #[.pointer (some ⟨gb, 0, none⟩), .pointer (some ⟨g, 0, none⟩)] w fun r w' => r = .returned (.int .i64 (S.layN ((2 + t % 2 * a : Nat) : Int) ((t % 2 : Nat) : Int) (leavesB c s t 0 l) (titleB c s t a) 4).1) ∧ ∃ A' c', Twr (S.layN ((2 + t % 2 * a : Nat) : Int) ((t % 2 : Nat) : Int) (leavesB c s t 0 l) (titleB c s t a) 4).2 g m A w w' A' c' := by
  obtain ⟨z, hz⟩ : ∃ z, z = ((2 + t % 2 * a : Nat) : Int) := ⟨_, rfl⟩
  obtain ⟨p, hp⟩ : ∃ p, p = ((t % 2 : Nat) : Int) := ⟨_, rfl⟩
  obtain ⟨bs, hbs⟩ : ∃ b, b = leavesB c s t 0 l := ⟨_, rfl⟩
  obtain ⟨tb, htb⟩ : ∃ b, b = titleB c s t a := ⟨_, rfl⟩
  have hbl : bs.length ≤ 834 := by rw [hbs, leavesB_length]; exact fills_le _
  rw [← hz, ← hp, ← hbs, ← htb]
  have HH := Lib.hid (And.intro D (And.intro H (And.intro ho (And.intro hbl (And.intro hz (And.intro hp (And.intro hbs htb)))))))
  clear D H ho hbl hz hp hbs htb
  go_enter Tryd.func21, Tryd.ntmps21
  go_wp2_with (first
    | (with_reducible refine wpList_boxes (o := ⟨some 2, .box 74 (.tmp 0), _, _, _, _⟩) rfl 74 (.tmp 0) rfl _ rfl [.pointer (some ⟨gb, 0, none⟩)] rfl ?_; intro w1 hb1 m1 z1; replace z1 := Lib.hid z1)
    | (with_reducible refine wpList_boxes (o := ⟨some 3, .box 25 (.tmp 1), _, _, _, _⟩) rfl 25 (.tmp 1) rfl _ rfl [.pointer (some ⟨g, 0, none⟩)] rfl ?_
       intro w2 hb2 m2 z2
       have z1' := z1.out
       obtain ⟨bb, e1⟩ : ∃ b, b = w.heap.size := ⟨_, rfl⟩
       obtain ⟨bd, e2⟩ : ∃ b, b = w1.heap.size := ⟨_, rfl⟩
       replace hb1 := hb1.keep m2 (by simp)
       rw [← e1] at hb1
       rw [← e2] at hb2
       rw [← e1, ← e2]
       have mm : Mod [] w w2 := m1.then m2
       have HO := Lib.hid (show w.heap.size ≤ bb ∧ bb < bd ∧ bd < w2.heap.size by omega)
       have c2 := hb2.cell 0
       simp only [List.getElem?_cons_zero] at c2
       clear e1 e2 z1 z1' z2 m1 m2)
    | (with_reducible refine wpList_ranW (o := ⟨some 10, .build 80 _, _, _, _, _⟩) (by with_unfolding_all rfl) (.agg #[.func (.func 37) #[] #[.pointer (some ⟨bd, 0, none⟩), .pointer (some ⟨bb, 0, none⟩)]]) w2 (exec_build139 rfl rfl) ?_)
    | (with_reducible refine wpList_ranW (o := ⟨some 13, .build 80 _, _, _, _, _⟩) (by with_unfolding_all rfl) (.agg #[.func (.func 36) #[.pointer (some ⟨g, 0, none⟩)] #[]]) w2 (exec_build139 rfl rfl) ?_)
    | (with_reducible refine wpList_ranW (o := ⟨some 15, .build 80 _, _, _, _, _⟩) (by with_unfolding_all rfl) (.agg #[.func (.func 41) #[] #[.pointer (some ⟨bd, 0, none⟩), .pointer (some ⟨bb, 0, none⟩)]]) w2 (exec_build139 rfl rfl) ?_)
    | (with_reducible refine wpList_ranW (o := ⟨some 18, .build 80 _, _, _, _, _⟩) (by with_unfolding_all rfl) (.agg #[.func (.func 36) #[.pointer (some ⟨g, 0, none⟩)] #[]]) w2 (exec_build139 rfl rfl) ?_)
    | (with_reducible refine wpList_ranW (o := ⟨some 19, .build 82 _, _, _, _, _⟩) (by with_unfolding_all rfl) (stepV bd bb g) w2 (exec_build141 rfl rfl rfl rfl rfl) ?_)
    | (with_reducible refine wpList_allocs (o := ⟨some 5, .alloc 82, _, _, _, _⟩) rfl 82 rfl _ zero141 ?_; intro w3 hb3 m3 z3; replace z3 := Lib.hid z3)
    | (with_reducible refine wpList_storesAll (o := ⟨none, .store 82 (.tmp 5) (.tmp 19), _, _, _, _⟩) rfl 82 (.tmp 5) (.tmp 19) rfl rfl w2.heap.size (stepL bd bb g) rfl (stepV bd bb g) rfl rfl 82 _ hb3 (by with_unfolding_all rfl) (stepL_one bd bb g) (by with_unfolding_all exact size141) ?_; intro w4 hb4 m4 z4; replace z4 := Lib.hid z4)
    | (with_reducible refine wpList_loads (o := ⟨some 20, .load 82 (.tmp 5), _, _, _, _⟩) rfl 82 (.tmp 5) rfl w2.heap.size 0 _ rfl (Cells.of_holds hb4) _ Tryd.underlying82 rfl (by with_unfolding_all exact size141) (stepV bd bb g) rfl ?_))
  have mm4 : Mod [] w w4 := (mm.then m3).trans m4 (fun i hi h => by have := HO.out; simp at h; omega)
  have h4d : Holds w4 bd 25 [.pointer (some ⟨g, 0, none⟩)] := (hb2.keep m3 (by simp)).keep m4 (by have := HO.out; simp; omega)
  have h4b : Holds w4 bb 74 [.pointer (some ⟨gb, 0, none⟩)] := (hb1.keep m3 (by simp)).keep m4 (by have := HO.out; simp; omega)
  have D4 := HH.out.1.keep mm4 (by simp) (by simp) (by simp)
  have HL := Lib.hid (And.intro (HH.out.2.1.at mm4 h4d h4b) D4)
  have HX := Lib.hid (show z = ((2 + t % 2 * a : Nat) : Int) ∧ p = ((t % 2 : Nat) : Int) ∧ bs = leavesB c s t 0 l ∧ tb = titleB c s t a ∧ bs.length ≤ 834 ∧ S.ops + 5000 ≤ 1099511627776 from ⟨HH.out.2.2.2.2.1, HH.out.2.2.2.2.2.1, HH.out.2.2.2.2.2.2.1, HH.out.2.2.2.2.2.2.2, HH.out.2.2.2.1, HH.out.2.2.1⟩)
  have HM := Lib.hid mm4
  have hT0 : Twr S g m A w4 w4 A cc := Twr.of_dat D4
  obtain ⟨b5, e5⟩ : ∃ b, b = w2.heap.size := ⟨_, rfl⟩
  rw [← e5]
  clear mm4 h4d h4b D4 e5 hb1 hb2 hb3 hb4 m3 m4 z3 z4 mm c2 HH HO
  go_loopw [21] (fun i wr => ∃ (k : Nat) (U : St) (A' : Option Addr) (c' : Nat), k ≤ 4 ∧ i = .int .i64 (k : Int) ∧ Twr U g m A w4 wr A' c' ∧ S.layN z p bs tb 4 = U.layN z p bs tb (4 - k) ∧ U.ops ≤ S.ops + 1000 * k) (fun i _ => 4 - (intOf i).toNat)
  case atStart => exact ⟨0, S, A, cc, by omega, rfl, hT0, rfl, by omega⟩
  case round =>
    obtain ⟨k, U, A', c', hk4, rfl, hT, hS, hop⟩ := hrel
    clear hT0
    obtain rfl | rfl | rfl | rfl | rfl : k = 0 ∨ k = 1 ∨ k = 2 ∨ k = 3 ∨ k = 4 := by omega
    · have hS' : S.layN z p bs tb 4 = if (U.writes z bs).1 = 0 then (U.writes z bs).2.layN z p bs tb 3 else U.writes z bs := hS
      obtain ⟨r, hr⟩ : ∃ r, r = (U.writes z bs).1 := ⟨_, rfl⟩
      rw [← hr] at hS'
      have hops := writes_ops bs U z
      have HS := Lib.hid (And.intro hS' (And.intro hT (And.intro hop (And.intro hr hops))))
      clear hS hS' hT hop hops hr
      by_cases h0 : r = 0
      · subst h0
        go_wp2_with (first
          | (with_reducible refine wpList_ranW (o := ⟨some 23, .index 82 _ _, _, _, _, _⟩) (by with_unfolding_all rfl) (.agg #[.func (.func 37) #[] #[.pointer (some ⟨bd, 0, none⟩), .pointer (some ⟨bb, 0, none⟩)]]) wr (by with_unfolding_all exact exec_index141_0 rfl rfl rfl) ?_)
          | (with_reducible refine wpList_allocs (o := ⟨some 7, .alloc 80, _, _, _, _⟩) rfl 80 rfl _ zero139 ?_; intro w5 hb5 m5 z5; replace z5 := Lib.hid z5)
          | (with_reducible refine wpList_storesAll (o := ⟨none, .store 80 (.tmp 7) (.tmp 23), _, _, _, _⟩) rfl 80 (.tmp 7) (.tmp 23) rfl rfl wr.heap.size [.func (.func 37) #[] #[.pointer (some ⟨bd, 0, none⟩), .pointer (some ⟨bb, 0, none⟩)]] rfl (.agg #[.func (.func 37) #[] #[.pointer (some ⟨bd, 0, none⟩), .pointer (some ⟨bb, 0, none⟩)]]) rfl rfl 80 _ hb5 (by with_unfolding_all rfl) (by with_unfolding_all (intro v hv; cases List.mem_singleton.1 hv; rfl)) (by with_unfolding_all exact size139) ?_
             intro w6 hb6 m6 z6
             have m56 : Mod [] wr w6 := m5.trans m6 (fun i hi h => by simp at h; omega)
             have hT6 := HS.out.2.1.mod m56
             have HL6 := (HL.out.1.turn HL.out.2 HS.out.2.1).keep m56
             have hop := HS.out.2.2.1
             have hbl := HX.out.2.2.2.2.1
             have ho := HX.out.2.2.2.2.2
             have c6 := hb6.cell 0
             simp only [List.getElem?_cons_zero] at c6
             replace hb6 := Lib.hid hb6
             replace z6 := Lib.hid z6))
        have XW := lay1_c c s U g m c' A' bd bb gb T t a B nb cb cm e l w6 hT6.D HL6 (by omega)
        rw [← HX.out.1, ← HX.out.2.2.1] at XW
        rw [← HS.out.2.2.2.1] at XW
        have HT6 := Lib.hid (And.intro hT6 hop)
        clear hT6 HL6 hop hbl ho c6 hb5 m5 m6 m56
        refine XW.mono ?_
        rintro r w7 ⟨rfl, A1, c1, hT7⟩
        clear XW
        go_wp2
        obtain ⟨hS', -, -, hr, hops⟩ := HS.out
        rw [if_pos (by first | rfl | trivial)] at hS'
        obtain ⟨hT6, hop⟩ := HT6.out
        exact ⟨⟨1, _, A1, c1, by omega, by rfl, hT6.trans hT7, hS', by have := HX.out.2.2.2.2.1; omega⟩, by simp [intOf]⟩
      · go_wp2_with (first
          | (with_reducible refine wpList_ranW (o := ⟨some 23, .index 82 _ _, _, _, _, _⟩) (by with_unfolding_all rfl) (.agg #[.func (.func 37) #[] #[.pointer (some ⟨bd, 0, none⟩), .pointer (some ⟨bb, 0, none⟩)]]) wr (by with_unfolding_all exact exec_index141_0 rfl rfl rfl) ?_)
          | (with_reducible refine wpList_allocs (o := ⟨some 7, .alloc 80, _, _, _, _⟩) rfl 80 rfl _ zero139 ?_; intro w5 hb5 m5 z5; replace z5 := Lib.hid z5)
          | (with_reducible refine wpList_storesAll (o := ⟨none, .store 80 (.tmp 7) (.tmp 23), _, _, _, _⟩) rfl 80 (.tmp 7) (.tmp 23) rfl rfl wr.heap.size [.func (.func 37) #[] #[.pointer (some ⟨bd, 0, none⟩), .pointer (some ⟨bb, 0, none⟩)]] rfl (.agg #[.func (.func 37) #[] #[.pointer (some ⟨bd, 0, none⟩), .pointer (some ⟨bb, 0, none⟩)]]) rfl rfl 80 _ hb5 (by with_unfolding_all rfl) (by with_unfolding_all (intro v hv; cases List.mem_singleton.1 hv; rfl)) (by with_unfolding_all exact size139) ?_
             intro w6 hb6 m6 z6
             have m56 : Mod [] wr w6 := m5.trans m6 (fun i hi h => by simp at h; omega)
             have hT6 := HS.out.2.1.mod m56
             have HL6 := (HL.out.1.turn HL.out.2 HS.out.2.1).keep m56
             have hop := HS.out.2.2.1
             have hbl := HX.out.2.2.2.2.1
             have ho := HX.out.2.2.2.2.2
             have c6 := hb6.cell 0
             simp only [List.getElem?_cons_zero] at c6
             replace hb6 := Lib.hid hb6
             replace z6 := Lib.hid z6))
        have XW := lay1_c c s U g m c' A' bd bb gb T t a B nb cb cm e l w6 hT6.D HL6 (by omega)
        rw [← HX.out.1, ← HX.out.2.2.1] at XW
        rw [← HS.out.2.2.2.1] at XW
        have HT6 := Lib.hid (And.intro hT6 hop)
        clear hT6 HL6 hop hbl ho c6 hb5 m5 m6 m56
        refine XW.mono ?_
        rintro r w7 ⟨rfl, A1, c1, hT7⟩
        clear XW
        go_wp2
        go_ret
        obtain ⟨hS', -, -, hr, hops⟩ := HS.out
        rw [if_neg h0] at hS'
        obtain ⟨hT6, hop⟩ := HT6.out
        rw [hS']
        exact ⟨by rw [hr]; rfl, A1, c1, Twr.pre HM.out (hT6.trans hT7).D (hT6.trans hT7).mm (hT6.trans hT7).new⟩
    · have hS' : S.layN z p bs tb 4 = if (U.sync).1 = 0 then (U.sync).2.layN z p bs tb 2 else U.sync := hS
      obtain ⟨r, hr⟩ : ∃ r, r = (U.sync).1 := ⟨_, rfl⟩
      rw [← hr] at hS'
      have hops := sync_ops1 U
      have HS := Lib.hid (And.intro hS' (And.intro hT (And.intro hop (And.intro hr hops))))
      clear hS hS' hT hop hops hr
      by_cases h0 : r = 0
      · subst h0
        go_wp2_with (first
          | (with_reducible refine wpList_ranW (o := ⟨some 23, .index 82 _ _, _, _, _, _⟩) (by with_unfolding_all rfl) (.agg #[.func (.func 36) #[.pointer (some ⟨g, 0, none⟩)] #[]]) wr (by with_unfolding_all exact exec_index141_1 rfl rfl rfl) ?_)
          | (with_reducible refine wpList_allocs (o := ⟨some 7, .alloc 80, _, _, _, _⟩) rfl 80 rfl _ zero139 ?_; intro w5 hb5 m5 z5; replace z5 := Lib.hid z5)
          | (with_reducible refine wpList_storesAll (o := ⟨none, .store 80 (.tmp 7) (.tmp 23), _, _, _, _⟩) rfl 80 (.tmp 7) (.tmp 23) rfl rfl wr.heap.size [.func (.func 36) #[.pointer (some ⟨g, 0, none⟩)] #[]] rfl (.agg #[.func (.func 36) #[.pointer (some ⟨g, 0, none⟩)] #[]]) rfl rfl 80 _ hb5 (by with_unfolding_all rfl) (by with_unfolding_all (intro v hv; cases List.mem_singleton.1 hv; rfl)) (by with_unfolding_all exact size139) ?_
             intro w6 hb6 m6 z6
             have m56 : Mod [] wr w6 := m5.trans m6 (fun i hi h => by simp at h; omega)
             have hT6 := HS.out.2.1.mod m56
             have HL6 := (HL.out.1.turn HL.out.2 HS.out.2.1).keep m56
             have hop := HS.out.2.2.1
             have hbl := HX.out.2.2.2.2.1
             have ho := HX.out.2.2.2.2.2
             have c6 := hb6.cell 0
             simp only [List.getElem?_cons_zero] at c6
             replace hb6 := Lib.hid hb6
             replace z6 := Lib.hid z6))
        have XW := sync_c U g m A' c' w6 hT6.D (by omega)
        rw [← HS.out.2.2.2.1] at XW
        have HT6 := Lib.hid (And.intro hT6 hop)
        clear hT6 HL6 hop hbl ho c6 hb5 m5 m6 m56
        refine XW.mono ?_
        rintro r w7 ⟨rfl, A1, c1, D7, q1, q2⟩
        clear XW
        go_wp2
        obtain ⟨hS', -, -, hr, hops⟩ := HS.out
        rw [if_pos (by first | rfl | trivial)] at hS'
        obtain ⟨hT6, hop⟩ := HT6.out
        exact ⟨⟨2, _, A1, c1, by omega, by rfl, hT6.sync D7 q1 q2, hS', by have := HX.out.2.2.2.2.1; omega⟩, by simp [intOf]⟩
      · go_wp2_with (first
          | (with_reducible refine wpList_ranW (o := ⟨some 23, .index 82 _ _, _, _, _, _⟩) (by with_unfolding_all rfl) (.agg #[.func (.func 36) #[.pointer (some ⟨g, 0, none⟩)] #[]]) wr (by with_unfolding_all exact exec_index141_1 rfl rfl rfl) ?_)
          | (with_reducible refine wpList_allocs (o := ⟨some 7, .alloc 80, _, _, _, _⟩) rfl 80 rfl _ zero139 ?_; intro w5 hb5 m5 z5; replace z5 := Lib.hid z5)
          | (with_reducible refine wpList_storesAll (o := ⟨none, .store 80 (.tmp 7) (.tmp 23), _, _, _, _⟩) rfl 80 (.tmp 7) (.tmp 23) rfl rfl wr.heap.size [.func (.func 36) #[.pointer (some ⟨g, 0, none⟩)] #[]] rfl (.agg #[.func (.func 36) #[.pointer (some ⟨g, 0, none⟩)] #[]]) rfl rfl 80 _ hb5 (by with_unfolding_all rfl) (by with_unfolding_all (intro v hv; cases List.mem_singleton.1 hv; rfl)) (by with_unfolding_all exact size139) ?_
             intro w6 hb6 m6 z6
             have m56 : Mod [] wr w6 := m5.trans m6 (fun i hi h => by simp at h; omega)
             have hT6 := HS.out.2.1.mod m56
             have HL6 := (HL.out.1.turn HL.out.2 HS.out.2.1).keep m56
             have hop := HS.out.2.2.1
             have hbl := HX.out.2.2.2.2.1
             have ho := HX.out.2.2.2.2.2
             have c6 := hb6.cell 0
             simp only [List.getElem?_cons_zero] at c6
             replace hb6 := Lib.hid hb6
             replace z6 := Lib.hid z6))
        have XW := sync_c U g m A' c' w6 hT6.D (by omega)
        rw [← HS.out.2.2.2.1] at XW
        have HT6 := Lib.hid (And.intro hT6 hop)
        clear hT6 HL6 hop hbl ho c6 hb5 m5 m6 m56
        refine XW.mono ?_
        rintro r w7 ⟨rfl, A1, c1, D7, q1, q2⟩
        clear XW
        go_wp2
        go_ret
        obtain ⟨hS', -, -, hr, hops⟩ := HS.out
        rw [if_neg h0] at hS'
        obtain ⟨hT6, hop⟩ := HT6.out
        rw [hS']
        exact ⟨by rw [hr]; rfl, A1, c1, Twr.pre HM.out (hT6.sync D7 q1 q2).D (hT6.sync D7 q1 q2).mm (hT6.sync D7 q1 q2).new⟩
    · have hS' : S.layN z p bs tb 4 = if (U.write p tb).1 = 0 then (U.write p tb).2.layN z p bs tb 1 else U.write p tb := hS
      obtain ⟨r, hr⟩ : ∃ r, r = (U.write p tb).1 := ⟨_, rfl⟩
      rw [← hr] at hS'
      have hops := write_ops1 U p tb
      have HS := Lib.hid (And.intro hS' (And.intro hT (And.intro hop (And.intro hr hops))))
      clear hS hS' hT hop hops hr
      by_cases h0 : r = 0
      · subst h0
        go_wp2_with (first
          | (with_reducible refine wpList_ranW (o := ⟨some 23, .index 82 _ _, _, _, _, _⟩) (by with_unfolding_all rfl) (.agg #[.func (.func 41) #[] #[.pointer (some ⟨bd, 0, none⟩), .pointer (some ⟨bb, 0, none⟩)]]) wr (by with_unfolding_all exact exec_index141_2 rfl rfl rfl) ?_)
          | (with_reducible refine wpList_allocs (o := ⟨some 7, .alloc 80, _, _, _, _⟩) rfl 80 rfl _ zero139 ?_; intro w5 hb5 m5 z5; replace z5 := Lib.hid z5)
          | (with_reducible refine wpList_storesAll (o := ⟨none, .store 80 (.tmp 7) (.tmp 23), _, _, _, _⟩) rfl 80 (.tmp 7) (.tmp 23) rfl rfl wr.heap.size [.func (.func 41) #[] #[.pointer (some ⟨bd, 0, none⟩), .pointer (some ⟨bb, 0, none⟩)]] rfl (.agg #[.func (.func 41) #[] #[.pointer (some ⟨bd, 0, none⟩), .pointer (some ⟨bb, 0, none⟩)]]) rfl rfl 80 _ hb5 (by with_unfolding_all rfl) (by with_unfolding_all (intro v hv; cases List.mem_singleton.1 hv; rfl)) (by with_unfolding_all exact size139) ?_
             intro w6 hb6 m6 z6
             have m56 : Mod [] wr w6 := m5.trans m6 (fun i hi h => by simp at h; omega)
             have hT6 := HS.out.2.1.mod m56
             have HL6 := (HL.out.1.turn HL.out.2 HS.out.2.1).keep m56
             have hop := HS.out.2.2.1
             have hbl := HX.out.2.2.2.2.1
             have ho := HX.out.2.2.2.2.2
             have c6 := hb6.cell 0
             simp only [List.getElem?_cons_zero] at c6
             replace hb6 := Lib.hid hb6
             replace z6 := Lib.hid z6))
        have XW := lay2_c c s U g m c' A' bd bb gb T t a B nb cb cm e l w6 hT6.D HL6 (by omega)
        rw [← HX.out.2.1, ← HX.out.2.2.2.1] at XW
        rw [← HS.out.2.2.2.1] at XW
        have HT6 := Lib.hid (And.intro hT6 hop)
        clear hT6 HL6 hop hbl ho c6 hb5 m5 m6 m56
        refine XW.mono ?_
        rintro r w7 ⟨rfl, A1, c1, hT7⟩
        clear XW
        go_wp2
        obtain ⟨hS', -, -, hr, hops⟩ := HS.out
        rw [if_pos (by first | rfl | trivial)] at hS'
        obtain ⟨hT6, hop⟩ := HT6.out
        exact ⟨⟨3, _, A1, c1, by omega, by rfl, hT6.trans hT7, hS', by have := HX.out.2.2.2.2.1; omega⟩, by simp [intOf]⟩
      · go_wp2_with (first
          | (with_reducible refine wpList_ranW (o := ⟨some 23, .index 82 _ _, _, _, _, _⟩) (by with_unfolding_all rfl) (.agg #[.func (.func 41) #[] #[.pointer (some ⟨bd, 0, none⟩), .pointer (some ⟨bb, 0, none⟩)]]) wr (by with_unfolding_all exact exec_index141_2 rfl rfl rfl) ?_)
          | (with_reducible refine wpList_allocs (o := ⟨some 7, .alloc 80, _, _, _, _⟩) rfl 80 rfl _ zero139 ?_; intro w5 hb5 m5 z5; replace z5 := Lib.hid z5)
          | (with_reducible refine wpList_storesAll (o := ⟨none, .store 80 (.tmp 7) (.tmp 23), _, _, _, _⟩) rfl 80 (.tmp 7) (.tmp 23) rfl rfl wr.heap.size [.func (.func 41) #[] #[.pointer (some ⟨bd, 0, none⟩), .pointer (some ⟨bb, 0, none⟩)]] rfl (.agg #[.func (.func 41) #[] #[.pointer (some ⟨bd, 0, none⟩), .pointer (some ⟨bb, 0, none⟩)]]) rfl rfl 80 _ hb5 (by with_unfolding_all rfl) (by with_unfolding_all (intro v hv; cases List.mem_singleton.1 hv; rfl)) (by with_unfolding_all exact size139) ?_
             intro w6 hb6 m6 z6
             have m56 : Mod [] wr w6 := m5.trans m6 (fun i hi h => by simp at h; omega)
             have hT6 := HS.out.2.1.mod m56
             have HL6 := (HL.out.1.turn HL.out.2 HS.out.2.1).keep m56
             have hop := HS.out.2.2.1
             have hbl := HX.out.2.2.2.2.1
             have ho := HX.out.2.2.2.2.2
             have c6 := hb6.cell 0
             simp only [List.getElem?_cons_zero] at c6
             replace hb6 := Lib.hid hb6
             replace z6 := Lib.hid z6))
        have XW := lay2_c c s U g m c' A' bd bb gb T t a B nb cb cm e l w6 hT6.D HL6 (by omega)
        rw [← HX.out.2.1, ← HX.out.2.2.2.1] at XW
        rw [← HS.out.2.2.2.1] at XW
        have HT6 := Lib.hid (And.intro hT6 hop)
        clear hT6 HL6 hop hbl ho c6 hb5 m5 m6 m56
        refine XW.mono ?_
        rintro r w7 ⟨rfl, A1, c1, hT7⟩
        clear XW
        go_wp2
        go_ret
        obtain ⟨hS', -, -, hr, hops⟩ := HS.out
        rw [if_neg h0] at hS'
        obtain ⟨hT6, hop⟩ := HT6.out
        rw [hS']
        exact ⟨by rw [hr]; rfl, A1, c1, Twr.pre HM.out (hT6.trans hT7).D (hT6.trans hT7).mm (hT6.trans hT7).new⟩
    · have hS' : S.layN z p bs tb 4 = if (U.sync).1 = 0 then (U.sync).2.layN z p bs tb 0 else U.sync := hS
      obtain ⟨r, hr⟩ : ∃ r, r = (U.sync).1 := ⟨_, rfl⟩
      rw [← hr] at hS'
      have hops := sync_ops1 U
      have HS := Lib.hid (And.intro hS' (And.intro hT (And.intro hop (And.intro hr hops))))
      clear hS hS' hT hop hops hr
      by_cases h0 : r = 0
      · subst h0
        go_wp2_with (first
          | (with_reducible refine wpList_ranW (o := ⟨some 23, .index 82 _ _, _, _, _, _⟩) (by with_unfolding_all rfl) (.agg #[.func (.func 36) #[.pointer (some ⟨g, 0, none⟩)] #[]]) wr (by with_unfolding_all exact exec_index141_3 rfl rfl rfl) ?_)
          | (with_reducible refine wpList_allocs (o := ⟨some 7, .alloc 80, _, _, _, _⟩) rfl 80 rfl _ zero139 ?_; intro w5 hb5 m5 z5; replace z5 := Lib.hid z5)
          | (with_reducible refine wpList_storesAll (o := ⟨none, .store 80 (.tmp 7) (.tmp 23), _, _, _, _⟩) rfl 80 (.tmp 7) (.tmp 23) rfl rfl wr.heap.size [.func (.func 36) #[.pointer (some ⟨g, 0, none⟩)] #[]] rfl (.agg #[.func (.func 36) #[.pointer (some ⟨g, 0, none⟩)] #[]]) rfl rfl 80 _ hb5 (by with_unfolding_all rfl) (by with_unfolding_all (intro v hv; cases List.mem_singleton.1 hv; rfl)) (by with_unfolding_all exact size139) ?_
             intro w6 hb6 m6 z6
             have m56 : Mod [] wr w6 := m5.trans m6 (fun i hi h => by simp at h; omega)
             have hT6 := HS.out.2.1.mod m56
             have HL6 := (HL.out.1.turn HL.out.2 HS.out.2.1).keep m56
             have hop := HS.out.2.2.1
             have hbl := HX.out.2.2.2.2.1
             have ho := HX.out.2.2.2.2.2
             have c6 := hb6.cell 0
             simp only [List.getElem?_cons_zero] at c6
             replace hb6 := Lib.hid hb6
             replace z6 := Lib.hid z6))
        have XW := sync_c U g m A' c' w6 hT6.D (by omega)
        rw [← HS.out.2.2.2.1] at XW
        have HT6 := Lib.hid (And.intro hT6 hop)
        clear hT6 HL6 hop hbl ho c6 hb5 m5 m6 m56
        refine XW.mono ?_
        rintro r w7 ⟨rfl, A1, c1, D7, q1, q2⟩
        clear XW
        go_wp2
        obtain ⟨hS', -, -, hr, hops⟩ := HS.out
        rw [if_pos (by first | rfl | trivial)] at hS'
        obtain ⟨hT6, hop⟩ := HT6.out
        exact ⟨⟨4, _, A1, c1, by omega, by rfl, hT6.sync D7 q1 q2, hS', by have := HX.out.2.2.2.2.1; omega⟩, by simp [intOf]⟩
      · go_wp2_with (first
          | (with_reducible refine wpList_ranW (o := ⟨some 23, .index 82 _ _, _, _, _, _⟩) (by with_unfolding_all rfl) (.agg #[.func (.func 36) #[.pointer (some ⟨g, 0, none⟩)] #[]]) wr (by with_unfolding_all exact exec_index141_3 rfl rfl rfl) ?_)
          | (with_reducible refine wpList_allocs (o := ⟨some 7, .alloc 80, _, _, _, _⟩) rfl 80 rfl _ zero139 ?_; intro w5 hb5 m5 z5; replace z5 := Lib.hid z5)
          | (with_reducible refine wpList_storesAll (o := ⟨none, .store 80 (.tmp 7) (.tmp 23), _, _, _, _⟩) rfl 80 (.tmp 7) (.tmp 23) rfl rfl wr.heap.size [.func (.func 36) #[.pointer (some ⟨g, 0, none⟩)] #[]] rfl (.agg #[.func (.func 36) #[.pointer (some ⟨g, 0, none⟩)] #[]]) rfl rfl 80 _ hb5 (by with_unfolding_all rfl) (by with_unfolding_all (intro v hv; cases List.mem_singleton.1 hv; rfl)) (by with_unfolding_all exact size139) ?_
             intro w6 hb6 m6 z6
             have m56 : Mod [] wr w6 := m5.trans m6 (fun i hi h => by simp at h; omega)
             have hT6 := HS.out.2.1.mod m56
             have HL6 := (HL.out.1.turn HL.out.2 HS.out.2.1).keep m56
             have hop := HS.out.2.2.1
             have hbl := HX.out.2.2.2.2.1
             have ho := HX.out.2.2.2.2.2
             have c6 := hb6.cell 0
             simp only [List.getElem?_cons_zero] at c6
             replace hb6 := Lib.hid hb6
             replace z6 := Lib.hid z6))
        have XW := sync_c U g m A' c' w6 hT6.D (by omega)
        rw [← HS.out.2.2.2.1] at XW
        have HT6 := Lib.hid (And.intro hT6 hop)
        clear hT6 HL6 hop hbl ho c6 hb5 m5 m6 m56
        refine XW.mono ?_
        rintro r w7 ⟨rfl, A1, c1, D7, q1, q2⟩
        clear XW
        go_wp2
        go_ret
        obtain ⟨hS', -, -, hr, hops⟩ := HS.out
        rw [if_neg h0] at hS'
        obtain ⟨hT6, hop⟩ := HT6.out
        rw [hS']
        exact ⟨by rw [hr]; rfl, A1, c1, Twr.pre HM.out (hT6.sync D7 q1 q2).D (hT6.sync D7 q1 q2).mm (hT6.sync D7 q1 q2).new⟩
    · have hS' : S.layN z p bs tb 4 = (0, U) := hS
      have HS := Lib.hid (And.intro hS' hT)
      clear hS hS' hT hop
      go_wp2
      go_ret
      obtain ⟨hS', hT⟩ := HS.out
      rw [hS']
      exact ⟨rfl, A', c', Twr.pre HM.out hT.D hT.mm hT.new⟩
end
end Go.Proofs.YtcoedhemlghjoaaDoor
