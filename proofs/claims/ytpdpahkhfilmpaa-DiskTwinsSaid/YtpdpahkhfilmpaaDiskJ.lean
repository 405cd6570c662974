/-
  Package disk: Sync, Crash, New. Contracts of mine.
-/
import Derived.Test.YtpdpahkhfilmpaaDiskI
namespace Go.Proofs.Ytpdpahkhfilmpaa
open Go.RowKit

/-- These bools lie there. -/
abbrev Bools (w : World) (K : Option Addr) (l : List Bool) : Prop := Cells w K (l.map Value.bool)

theorem stay48 (v : World) (k : Int) : Calls Try.prog 48 #[.int .i64 k] v fun e w' => e = .returned (.bool true) ∧ w' = v := by
  go_enter Try.func48, Try.ntmps48
  go_wp2
  go_ret
  exact ⟨rfl, rfl⟩
theorem stay40 (K : Option Addr) (n ck bx : Nat) (keep : List Bool) (k : Nat) (v : World) (hn : n = keep.length) (hb : Holds v bx 47 [.slice K n ck]) (hk : Bools v K keep) (_hl : n ≤ maxLen) :
    Calls Try.prog 40 #[.int .i64 (k : Int), .pointer (some ⟨bx, 0, none⟩)] v fun e w' => e = .returned (.bool (keep[k]?.getD false)) ∧ w' = v := by
  have a1 := hb.cell 0
  simp only [List.getElem?_cons_zero] at a1
  unfold maxLen at _hl
  by_cases hkn : k < n
  · have hkl : k < (keep.map Value.bool).length := by simp; omega
    obtain ⟨gk, ok, rfl, hc⟩ := hk k hkl
    have hkk : k < keep.length := by omega
    rw [List.getElem_map] at hc
    rw [List.getElem?_eq_getElem hkk]
    simp only [Option.getD_some]
    generalize keep[k] = x at *
    clear hk hb hkl hkk hn
    cases x <;>
    · go_enter Try.func40, Try.ntmps40
      go_wp2
      go_ret
      exact ⟨rfl, rfl⟩
  · rw [List.getElem?_eq_none (by omega)]
    simp only [Option.getD_none]
    have hkn : (n : Int) ≤ (k : Int) := by omega
    clear hk hb hn
    go_enter Try.func40, Try.ntmps40
    go_wp2
    go_ret
    exact ⟨rfl, rfl⟩
theorem kept_all {α : Type} (l : List α) : kept l (List.replicate l.length true) = l := by
  induction l with
  | nil => rfl
  | cons x l ih => simp [kept, List.replicate_succ, ih]

set_option maxHeartbeats 1000000 in
theorem sync1_c (S : St) (g m b2 : Nat) (A : Option Addr) (c : Nat) (l : Story) (f : Int → Blk) (w : World) (h : Holds w g 74 (dc S m (.slice A l.length c))) (hf : Firm w m f) (hl : Cells w A (l.flatMap wc)) (hn : l.length ≤ 1099511627776) (h2 : Holds w b2 24 [.pointer (some ⟨g, 0, none⟩)]) :
    Calls Try.prog 47 #[.pointer (some ⟨b2, 0, none⟩)] w fun e w' => e = .returned (.tuple #[]) ∧ Holds w' g 74 (dc S m (.slice none 0 0)) ∧ Firm w' m (app f l) ∧ Mod [g, m] w w' := by
  have a2 := h2.cell 0
  simp only [List.getElem?_cons_zero] at a2
  have H := settle_48 S g m A c l f (fun _ => true) (fun k => l.take k) w hn rfl (fun k hk => by rw [List.take_add_one, List.getElem?_eq_getElem hk]; rfl) h hf hl (fun v k _ _ => stay48 v k)
  simp only [List.take_length] at H
  clear h hf hl h2
  go_enter Try.func47, Try.ntmps47
  go_wp2_with fail
  refine H.mono ?_
  rintro e w1 ⟨rfl, q1, q2, q3⟩
  go_wp2
  go_end0
  exact ⟨rfl, q1, q2, q3⟩
set_option maxRecDepth 100000 in
set_option maxHeartbeats 2000000 in
theorem sync_c (S : St) (g m : Nat) (A : Option Addr) (c : Nat) (w : World) (D : DAt w g m A c S) (ho : S.ops + 1 ≤ 1099511627776) :
    Calls Try.prog 23 #[.pointer (some ⟨g, 0, none⟩)] w fun e w' => e = .returned (.int .i64 S.sync.1) ∧ ∃ A' c', DAt w' g m A' c' S.sync.2 ∧ Mod [g, m] w w' ∧ (∀ a, A' = some a → A = some a) := by
  have hlt := D.blk.lt
  go_enter Try.func23, Try.ntmps23
  go_wp2_with (first
    | (with_reducible refine wpList_boxes (o := ⟨some 1, .box 24 (.tmp 0), _, _, _, _⟩) rfl 24 (.tmp 0) rfl _ rfl [.pointer (some ⟨g, 0, none⟩)] rfl ?_; intro w1 hb1 m1 z1; have a1 := hb1.cell 0; simp only [List.getElem?_cons_zero] at a1))
  clear a1
  have D4 := D.keep m1 (by simp) (by simp) (by simp)
  have hne : m ≠ g := fun e => D4.firm.ne_holds D4.blk e.symm
  obtain ⟨r, hr⟩ : ∃ r, S.ask true true = r := ⟨_, rfl⟩
  obtain ⟨f1, f2, f3, f4, f5, f6, f7⟩ := D4.fits.ask true true ho
  have HA := ask_47 S g m (.slice A S.loose.length c) true true D4.fits w1 (.pointer (some ⟨w.heap.size, 0, none⟩))
    (fun v => Holds v g 74 (dc r.2 m (.slice none 0 0)) ∧ Firm v m (app S.firm S.loose) ∧ Mod [g, m] w1 v) D4.blk (by
      rw [hr] at f3 f4 ⊢
      intro h0 v hv mv zv
      have := sync1_c r.2 g m w.heap.size A c S.loose S.firm v hv (D4.firm.keep mv (by simpa using hne)) (D4.loose.cells.keep mv (fun a ha => by simpa using D4.loose.ne D4.blk (by decide) a ha)) D4.long
        (hb1.keep mv (by simp; omega))
      refine this.mono ?_
      rintro e v2 ⟨rfl, q1, q2, q3⟩
      exact ⟨rfl, q1, q2, (mv.wk (fun i _ h => by simp at h; simp [h])).trans q3 (fun _ _ h => h)⟩)
  rw [hr] at HA f1 f2 f3 f4 f5 f6 f7
  have hrd : S.sync = (r.1, if r.1 = 0 then { r.2 with loose := [], firm := app r.2.firm r.2.loose } else r.2) := by unfold St.sync; rw [hr]
  refine HA.mono ?_
  rintro e v ⟨rfl, q1, q2⟩
  have HD : ∃ A' c', DAt v g m A' c' S.sync.2 ∧ Mod [g, m] w v ∧ (∀ a, A' = some a → A = some a) := by
    rw [hrd]
    by_cases h0 : r.1 = 0
    · rw [if_pos h0]
      obtain ⟨u1, u2, u3⟩ := q2 h0
      refine ⟨none, 0, ⟨u1, ?_, OwnG.nil _ _ _ _, ⟨f1.1, f1.2, f1.3, f1.4, f1.5, f1.6⟩, Nat.zero_le _⟩, m1.pre u3, fun a ha => by cases ha⟩
      show Firm v m (app r.2.firm r.2.loose)
      rw [f3, f4]
      exact u2
    · rw [if_neg h0]
      obtain ⟨u1, u2, u3⟩ := q1 h0
      exact ⟨A, c, D4.turn u2 u1 f3 f4 f1 f5, m1.pre (u2.wk (fun i _ h => by simp at h; simp [h])), fun a ha => ha⟩
  have hr1 : S.sync.1 = r.1 := by rw [hrd]
  rw [← hr1]
  obtain ⟨R, hR⟩ : ∃ R, R = S.sync := ⟨_, rfl⟩
  have HR := Lib.hid hR
  rw [← hR] at HD ⊢
  clear HA hrd hr f6 f7 f2 f3 f4 f1 f5 hR hr1 q1 q2
  go_wp2
  go_ret
  rw [← HR.out]
  exact ⟨rfl, HD⟩
set_option maxRecDepth 100000 in
set_option maxHeartbeats 2000000 in
theorem crash_c (S : St) (g m : Nat) (A : Option Addr) (c : Nat) (K : Option Addr) (n ck : Nat) (keep : List Bool) (w : World) (D : DAt w g m A c S) (hk : Bools w K keep) (hn : n = keep.length) (hl : n ≤ maxLen) :
    Calls Try.prog 15 #[.pointer (some ⟨g, 0, none⟩), .slice K n ck] w fun e w' => e = .returned (.int .i64 0) ∧ DAt w' g m none 0 (S.crash keep) ∧ Mod [g, m] w w' := by
  have hlt := D.blk.lt
  have hne : m ≠ g := fun e => D.firm.ne_holds D.blk e.symm
  go_enter Try.func15, Try.ntmps15
  go_wp2_with (with_reducible refine wpList_boxes (o := ⟨some 3, .box 47 (.tmp 1), _, _, _, _⟩) rfl 47 (.tmp 1) rfl _ rfl [.slice K n ck] rfl ?_; intro w1 hb1 m1 z1)
  have D4 := D.keep m1 (by simp) (by simp) (by simp)
  have hml := D.firm.lt
  have hkm : ∀ a, K = some a → a.block ≠ m ∨ keep = [] := fun a ha => by
    rcases Nat.eq_zero_or_pos keep.length with h0 | h0
    · exact .inr (List.eq_nil_of_length_eq_zero h0)
    · left
      obtain ⟨gk, ok, e, hc⟩ := hk 0 (by simpa using h0)
      rw [ha] at e
      cases e
      exact D.firm.ne_cell hc
  have H := settle_40 S g m A c S.loose S.firm (fun k => keep[k]?.getD false) (fun k => kept (S.loose.take k) keep) w1 (.pointer (some ⟨w.heap.size, 0, none⟩)) D4.long rfl (fun k hk => kept_take _ _ _ hk) D4.blk D4.firm D4.loose.cells
    (fun v k mv _ => stay40 K n ck w.heap.size keep k v hn (hb1.keep mv (by simp; omega)) (by
      have hk1 : Bools w1 K keep := hk.keep m1 (by simp)
      rcases Nat.eq_zero_or_pos keep.length with h0 | h0
      · rw [List.eq_nil_of_length_eq_zero h0]; exact Cells.nil _ _
      · exact hk1.keep mv (fun a ha => by
          rcases hkm a ha with h | h
          · simpa using h
          · rw [h] at h0; cases h0)) hl)
  simp only [List.take_length] at H
  refine H.mono ?_
  clear H
  rintro e w2 ⟨rfl, q1, q2, q3⟩
  have d3 := q1.free 3
  have d4 := q1.free 4
  have d5 := q1.free 5
  obtain ⟨c0, c1, c2, c3, c4, c5, c6⟩ := dc_cells q1
  have hs := ((q1.set 3 (.bool false)).set 4 (.int .i64 (-1))).set 5 (.int .i64 (-1))
  have hm : Mod [g] w2 (((w2.setCell ⟨g, 3, none⟩ (.bool false)).setCell ⟨g, 4, none⟩ (.int .i64 (-1))).setCell ⟨g, 5, none⟩ (.int .i64 (-1))) :=
    ((Mod.setCell (ms := [g]) w2 (p := ⟨g, 3, none⟩) (by simp) _).trans (Mod.setCell (ms := [g]) _ (p := ⟨g, 4, none⟩) (by simp) _) (fun _ _ h => h)).trans (Mod.setCell (ms := [g]) _ (p := ⟨g, 5, none⟩) (by simp) _) (fun _ _ h => h)
  have hD : DAt (((w2.setCell ⟨g, 3, none⟩ (.bool false)).setCell ⟨g, 4, none⟩ (.int .i64 (-1))).setCell ⟨g, 5, none⟩ (.int .i64 (-1))) g m none 0 (S.crash keep) :=
    ⟨hs, q2.keep hm (by simpa using hne), OwnG.nil _ _ _ _, ⟨D.fits.1, by simp [St.crash], by simp [St.crash], by simp [St.crash], by simp [St.crash], D.fits.6⟩, Nat.zero_le _⟩
  have hM : Mod [g, m] w (((w2.setCell ⟨g, 3, none⟩ (.bool false)).setCell ⟨g, 4, none⟩ (.int .i64 (-1))).setCell ⟨g, 5, none⟩ (.int .i64 (-1))) := (m1.pre q3).trans (hm.wk (ns := [g, m]) (fun i _ h => by simp at h; simp [h])) (fun _ _ h => h)
  have HZ := Lib.hid (And.intro hD hM)
  clear hD hM hs hm q1 q2 q3 hkm hk hb1 m1 z1 D4
  go_wp2
  go_ret
  exact ⟨rfl, HZ.out⟩
theorem crash_nil (K : Option Addr) (n ck : Nat) (w : World) : Calls Try.prog 15 #[.pointer none, .slice K n ck] w fun e w' => e = .returned (.int .i64 1) ∧ Mod [] w w' := by
  go_enter Try.func15, Try.ntmps15
  go_wp2_with (with_reducible refine wpList_boxes (o := ⟨some 3, .box 47 (.tmp 1), _, _, _, _⟩) rfl 47 (.tmp 1) rfl _ rfl [.slice K n ck] rfl ?_; intro w1 hb1 m1 z1)
  go_ret
  exact ⟨rfl, m1⟩
end Go.Proofs.Ytpdpahkhfilmpaa
