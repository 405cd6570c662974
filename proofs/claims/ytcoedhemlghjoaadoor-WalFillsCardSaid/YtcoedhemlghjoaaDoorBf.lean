/-
  My own texts DiskF DiskG DiskI DiskJ DiskK DiskL DiskM, one behind the other.
-/
import Derived.Test.YtcoedhemlghjoaaDoorBa
import Derived.Test.YtcoedhemlghjoaaDoorBd
import Derived.Test.YtcoedhemlghjoaaDoorBe
import Derived.StillTailTactics
import Derived.MapKept
import Derived.Laws.Externs
import Derived.Laws.CopyOwn
import Derived.Deep.QuietTactic
namespace Go.Proofs.YtcoedhemlghjoaaDoor
section
open Go.RowKit
abbrev OwnW (w : World) (A : Option Addr) (c : Nat) (l : Story) : Prop := OwnG wc 92 65 w A c l
/-- At g lies a disk that stands as S. -/
structure DAt (w : World) (g m : Nat) (A : Option Addr) (c : Nat) (S : St) : Prop where
  blk : Holds w g 45 (dc S m (.slice A S.loose.length c))
  firm : Firm w m S.firm
  loose : OwnW w A c S.loose
  fits : Fits S
  few : S.loose.length ≤ S.ops
theorem DAt.keep {w v : World} {g m c : Nat} {A : Option Addr} {S : St} {ms : List Nat} (h : DAt w g m A c S) (k : Mod ms w v) (h1 : g ∉ ms) (h2 : m ∉ ms) (h3 : ∀ a, A = some a → a.block ∉ ms) : DAt v g m A c S :=
  ⟨h.blk.keep k h1, h.firm.keep k h2, h.loose.keep k h3, h.fits, h.few⟩
theorem DAt.long {w : World} {g m c : Nat} {A : Option Addr} {S : St} (h : DAt w g m A c S) : S.loose.length ≤ 1099511627776 := Nat.le_trans h.few h.fits.ops
/-- Only block g may have turned, and its cells are those of T. -/
theorem DAt.turn {w v : World} {g m c : Nat} {A : Option Addr} {S T : St} (h : DAt w g m A c S) (k : Mod [g] w v) (hb : Holds v g 45 (dc T m (.slice A S.loose.length c))) (e1 : T.loose = S.loose) (e2 : T.firm = S.firm) (hf : Fits T) (ho : S.ops ≤ T.ops) : DAt v g m A c T := by
  refine ⟨by rw [e1]; exact hb, by rw [e2]; exact h.firm.keep k (by simpa using (h.firm.ne_holds h.blk).symm), by rw [e1]; exact h.loose.keep k (fun a ha => by simpa using h.loose.ne h.blk (by decide) a ha), hf, by rw [e1]; exact Nat.le_trans h.few ho⟩

set_option maxRecDepth 100000 in
set_option maxHeartbeats 4000000 in
theorem write1_c (S : St) (g m b2 b3 b4 : Nat) (A : Option Addr) (c : Nat) (i : Int) (b : Blk) (w : World) (h : Holds w g 45 (dc S m (.slice A S.loose.length c))) (ho : OwnW w A c S.loose) (hn : S.loose.length ≤ 1099511627776)
    (h2 : Holds w b2 25 [.pointer (some ⟨g, 0, none⟩)]) (h3 : Holds w b3 3 [.int .i64 i]) (h4 : Holds w b4 73 (bc b)) :
    Calls Tryd.prog 53 #[.pointer (some ⟨b2, 0, none⟩), .pointer (some ⟨b3, 0, none⟩), .pointer (some ⟨b4, 0, none⟩)] w fun e w' => e = .returned (.tuple #[]) ∧
      ∃ A' c', Holds w' g 45 (dc S m (.slice A' (S.loose.length + 1) c')) ∧ OwnW w' A' c' (S.loose ++ [(i, b)]) ∧ Mod (g :: blk A) w w' ∧ (∀ a, A' = some a → a.block ∈ blk A ∨ w.heap.size ≤ a.block) := by
  obtain ⟨it, hq⟩ := info_of 92 (by kernel_rfl)
  have hz : it.zero = some (.agg (wc (0, fil 0)).toArray) := by
    have : (Tryd.prog.info? 92).bind (·.zero) = some (.agg (wc (0, fil 0)).toArray) := by kernel_rfl
    rw [hq] at this
    exact this
  have hs : it.size = 65 := by have := size128; rw [hq] at this; simpa using this
  have hby : it.bytes = 72 := by
    have : (Tryd.prog.info? 92).map (·.bytes) = some 72 := by kernel_rfl
    rw [hq] at this
    simpa using this
  have hgA : g ∉ blk A := fun hh => by
    unfold blk at hh
    simp only [Option.mem_toList, Option.map_eq_some_iff] at hh
    obtain ⟨a, ha, hb⟩ := hh
    exact ho.ne h (by decide) a ha hb
  -- the worlds behind the draw, behind the literal, behind the append, behind the store
  obtain ⟨w1, hw1⟩ : ∃ v, v = w.drew := ⟨_, rfl⟩
  obtain ⟨w2, hw2⟩ : ∃ v, v = w1.alloc (.cells (wc (i, b)).toArray 92) := ⟨_, rfl⟩
  have m1 : Mod [] w w1 := by rw [hw1]; exact Mod.drew [] w
  have z1 : w1.heap.size = w.heap.size := by rw [hw1]; rfl
  have m2 : Mod [] w1 w2 := by rw [hw2]; exact Mod.alloc [] w1 _
  have hl2 : Holds w2 w1.heap.size 92 (wc (i, b)) := by rw [hw2]; exact Holds.made w1 92 _
  have m12 : Mod [] w w2 := m1.then m2
  have ho2 : OwnW w2 A c S.loose := ho.keep m12 (by simp)
  obtain ⟨v', w3, hrun, hown', hgr, _, hbl⟩ := run_append_own_at (P := Tryd.prog) w2 0 41 41 92 it _ 65 72 Tryd.underlying41 hq hz hs hby (by simp [Value.cells, wc_length]) (by omega) _ _ _ ho2 ⟨w1.heap.size, 0, none⟩ 1 1 (wc (i, b)) (by rw [wc_length])
    (fun j u hu => by rw [add_plain, Nat.zero_add, hl2.cell]; exact hu) (wc_one _) (by unfold maxLen; omega) (by omega) (Nat.zero_le _)
  obtain ⟨A', c', rfl⟩ : ∃ A' c', v' = .slice A' (S.loose.length + 1) c' := by
    rcases hown'.2 with ⟨hv, hn⟩ | ⟨g, cap, cur, hv, _⟩
    · omega
    · exact ⟨_, _, hv⟩
  have hob : ∀ (A : Option Addr) n c, (Value.slice A n c).ownBlock = A.map (·.block) := by intro A n c; cases A <;> rfl
  rw [hob] at hgr
  rw [hob, hob] at hbl
  have hO3 : OwnW w3 A' c' (S.loose ++ [(i, b)]) := by
    have := hown'
    unfold OwnW OwnG
    simpa using this
  have m3 : Mod (blk A) w2 w3 := ⟨hgr.os, hgr.tape, hgr.output, hgr.size, fun j hj hn => hgr.block j hj (fun hh => hn (by unfold blk; rw [← hh]; simp))⟩
  have m13 : Mod (blk A) w w3 := m12.pre m3
  have hd1 := h.keep m1 (by simp)
  have hd2 := h.keep m12 (by simp)
  have hd3 := h.keep m13 hgA
  have hbx : ∀ a, A = some a → a.block ≠ b2 := ho.ne h2 (by decide)
  have hb2A : b2 ∉ blk A := fun hh => by
    unfold blk at hh
    simp only [Option.mem_toList, Option.map_eq_some_iff] at hh
    obtain ⟨a, ha, hb⟩ := hh
    exact hbx a ha hb
  have hb3A : b3 ∉ blk A := fun hh => by
    unfold blk at hh
    simp only [Option.mem_toList, Option.map_eq_some_iff] at hh
    obtain ⟨a, ha, hb⟩ := hh
    exact ho.ne h3 (by decide) a ha hb
  obtain ⟨w4, hw4⟩ : ∃ v, v = w3.setCell ⟨g, 2, none⟩ (.slice A' (S.loose.length + 1) c') := ⟨_, rfl⟩
  have m4 : Mod [g] w3 w4 := by rw [hw4]; exact Mod.setCell _ (by simp) _
  have hd4 : Holds w4 g 45 (dc S m (.slice A' (S.loose.length + 1) c')) := by rw [hw4]; exact hd3.set 2 _
  have hO4 : OwnW w4 A' c' (S.loose ++ [(i, b)]) := OwnG.keep hO3 m4 (fun a ha => by simpa using hO3.ne hd3 (by decide) a ha)
  have hM : Mod (g :: blk A) w w4 := (m13.wk (fun i _ h => by simp [h])).trans m4 (fun i _ h => by simp at h; simp [h])
  have hA2 : ∀ a, A' = some a → a.block ∈ blk A ∨ w.heap.size ≤ a.block := fun a ha => by
    subst ha
    rcases hbl with hh | hh
    · left; unfold blk; rw [← hh]; simp
    · right; simp at hh; have := m12.size; omega
  -- what is read is the same whenever it is read
  have hgb2 : b2 ≠ g := fun e => by subst e; exact h2.ne h (by decide) rfl
  have hgb3 : b3 ≠ g := fun e => by subst e; exact h3.ne h (by decide) rfl
  have hgb4 : b4 ≠ g := fun e => by subst e; exact h4.ne h (by decide) rfl
  have hb4A : b4 ∉ blk A := fun hh => by
    unfold blk at hh
    simp only [Option.mem_toList, Option.map_eq_some_iff] at hh
    obtain ⟨a, ha, hb⟩ := hh
    exact ho.ne h4 (by decide) a ha hb
  have kp : ∀ {k t cs}, Holds w k t cs → k ∉ blk A → k ≠ g → ∀ v, (v = w1 ∨ v = w2 ∨ v = w3 ∨ v = w4) → Holds v k t cs := by
    rintro k t cs hk h1 h5 v (rfl | rfl | rfl | rfl)
    · exact hk.keep m1 (by simp)
    · exact hk.keep m12 (by simp)
    · exact hk.keep m13 h1
    · exact (hk.keep m13 h1).keep m4 (by simpa using h5)
  have rd2 : ∀ v, (v = w1 ∨ v = w2 ∨ v = w3 ∨ v = w4) → (loadVar 25 ⟨b2, 0, none⟩).run Tryd.prog v = .ok (.pointer (some ⟨g, 0, none⟩)) v := fun v hv => run_load1 Tryd.underlying25 rfl ((kp h2 hb2A hgb2 v hv).cell 0)
  have rd3 : ∀ v, (v = w1 ∨ v = w2 ∨ v = w3 ∨ v = w4) → (loadVar 3 ⟨b3, 0, none⟩).run Tryd.prog v = .ok (.int .i64 i) v := fun v hv => run_load1 Tryd.underlying3 rfl ((kp h3 hb3A hgb3 v hv).cell 0)
  have rb : ∀ v, (v = w1 ∨ v = w2 ∨ v = w3 ∨ v = w4) → (loadVar 73 ⟨b4, 0, none⟩).run Tryd.prog v = .ok (bv b) v := fun v hv => run_loads (Cells.of_holds (kp h4 hb4A hgb4 v hv)) Tryd.underlying73 rfl (by rw [bc_length]; exact size110)
  have rg : ∀ v, (v = w1 ∨ v = w2) → (loadVar 41 ⟨g, 2, none⟩).run Tryd.prog v = .ok (.slice A S.loose.length c) v := by
    rintro v (rfl | rfl)
    · exact run_load1 Tryd.underlying41 rfl (hd1.cell 2)
    · exact run_load1 Tryd.underlying41 rfl (hd2.cell 2)
  have rl : (Instr.buildSlice 41 1 #[(0, wv (i, b))]).run Tryd.prog w1 = .ok (.slice (some ⟨w1.heap.size, 0, none⟩) 1 1) w2 := by rw [hw2]; exact run_lit84 (i, b) w1
  have rs : w3.frozen? ⟨g, 2, none⟩ = false := hd3.free 2
  have rs2 : w3.cell? ⟨g, 2, none⟩ = some (.slice A S.loose.length c) := hd3.cell 2
  obtain ⟨i70, hi70⟩ := info_of 41 (by kernel_rfl)
  have hs70 : i70.size = 1 := by have : (Tryd.prog.info? 41).map (·.size) = some 1 := by kernel_rfl
                                 rw [hi70] at this; simpa using this
  clear hd1 hd2 hd3 hO3 hgr hbl hown' ho2 hl2 hq hz hs hby m1 m2 m12 m3 m13 m4 kp
  go_enter Tryd.func53, Tryd.ntmps53
  go_wp2_with fail
  refine wp_region_det 17 (fun s => match s with
    | 0 => .pointer (some ⟨b2, 0, none⟩) | 1 => .pointer (some ⟨b3, 0, none⟩) | 2 => .pointer (some ⟨b4, 0, none⟩)
    | 7 => .pointer (some ⟨g, 2, none⟩) | 8 => .slice A S.loose.length c | 9 => .int .i64 i | 10 => bv b | 11 => wv (i, b) | 12 => .slice (some ⟨w1.heap.size, 0, none⟩) 1 1
    | 13 => .slice A' (S.loose.length + 1) c' | 16 => .pointer (some ⟨g, 2, none⟩) | _ => .pointer (some ⟨g, 0, none⟩)) [0, 1, 2]
    (fun l v => (l 9 = false ∧ l 10 = false ∧ l 14 = false ∧ v = w1) ∨ (l 9 = true ∧ l 10 = false ∧ l 14 = false ∧ v = w2) ∨ (l 9 = true ∧ l 10 = true ∧ l 14 = false ∧ l 5 = true ∧ v = w3) ∨ (l 9 = true ∧ l 10 = true ∧ l 14 = true ∧ l 5 = true ∧ v = w4)) []
    (by kernel_rfl) rfl rfl (by intro s hs; simp at hs; rcases hs with rfl | rfl | rfl <;> rfl) (.inl ⟨rfl, rfl, rfl, hw1.symm⟩) (drawnB_lt (nt := 17) (by kernel_rfl)) (drawnB_dst (by kernel_rfl)) ?step ?fin
  case step =>
    intro l T v j o hj hlj hdep hst hpar hgot K hK
    have hj15 : j < 15 := (Array.getElem?_eq_some_iff.1 hj).1
    have hv : v = w1 ∨ v = w2 ∨ v = w3 ∨ v = w4 := by
      rcases hst with ⟨_, _, _, h⟩ | ⟨_, _, _, h⟩ | ⟨_, _, _, _, h⟩ | ⟨_, _, _, _, h⟩ <;> simp [h]
    obtain rfl | rfl | rfl | rfl | rfl | rfl | rfl | rfl | rfl | rfl | rfl | rfl | rfl | rfl | rfl : j = 0 ∨ j = 1 ∨ j = 2 ∨ j = 3 ∨ j = 4 ∨ j = 5 ∨ j = 6 ∨ j = 7 ∨ j = 8 ∨ j = 9 ∨ j = 10 ∨ j = 11 ∨ j = 12 ∨ j = 13 ∨ j = 14 := by omega
    all_goals (have hj' := Option.some.inj (hj : some _ = some o); subst hj'; clear hj)
    · exact wp_ran rfl (exec_load rfl (eval_tmp (hpar 0 (by simp))) (rd2 v hv)) (hK _ _ (fun s hs => by cases hs; rfl) (by simpa using hst))
    · exact wp_ran rfl (exec_load rfl (eval_tmp (hpar 0 (by simp))) (rd2 v hv)) (hK _ _ (fun s hs => by cases hs; rfl) (by simpa using hst))
    · exact wp_ran rfl (exec_nil rfl (eval_tmp (hgot 1 _ _ rfl (hdep ⟨1, .data⟩ (by simp) rfl) rfl))) (hK _ _ (fun s hs => by cases hs; rfl) (by simpa using hst))
    · exact wp_ran rfl (exec_field74 rfl (eval_tmp (hgot 2 _ _ rfl (hdep ⟨2, .data⟩ (by simp) rfl) rfl))) (hK _ _ (fun s hs => by cases hs; rfl) (by simpa using hst))
    · exact wp_ran rfl (exec_field72_2 rfl (eval_tmp (hgot 3 _ _ rfl (hdep ⟨3, .data⟩ (by simp) rfl) rfl))) (hK _ _ (fun s hs => by cases hs; rfl) (by simpa using hst))
    · exact wp_ran rfl (exec_load rfl (eval_tmp (hgot 4 _ _ rfl (hdep ⟨4, .data⟩ (by simp) rfl) rfl)) (rg v (by rcases hst with ⟨_, _, _, h⟩ | ⟨_, _, _, h⟩ | ⟨_, _, _, h, _⟩ | ⟨_, _, _, h, _⟩; exact .inl h; exact .inr h; (rw [hlj] at h; cases h); (rw [hlj] at h; cases h)))) (hK _ _ (fun s hs => by cases hs; rfl) (by rcases hst with ⟨a, b, c, h⟩ | ⟨a, b, c, h⟩ | ⟨_, _, _, h, _⟩ | ⟨_, _, _, h, _⟩; exact .inl ⟨by simpa using a, by simpa using b, by simpa using c, h⟩; exact .inr (.inl ⟨by simpa using a, by simpa using b, by simpa using c, h⟩); (rw [hlj] at h; cases h); (rw [hlj] at h; cases h)))
    · exact wp_ran rfl (exec_load rfl (eval_tmp (hpar 1 (by simp))) (rd3 v hv)) (hK _ _ (fun s hs => by cases hs; rfl) (by simpa using hst))
    · exact wp_ran rfl (exec_load rfl (eval_tmp (hpar 2 (by simp))) (rb v hv)) (hK _ _ (fun s hs => by cases hs; rfl) (by simpa using hst))
    · exact wp_ran rfl (exec_build128 rfl (eval_tmp (hgot 6 _ _ rfl (hdep ⟨6, .data⟩ (by simp) rfl) rfl)) (eval_tmp (hgot 7 _ _ rfl (hdep ⟨7, .data⟩ (by simp) rfl) rfl))) (hK _ _ (fun s hs => by cases hs; rfl) (by simpa using hst))
    · rcases hst with ⟨a1, a2, a3, rfl⟩ | ⟨a1, _⟩ | ⟨a1, _⟩ | ⟨a1, _⟩
      · exact wp_ran rfl (exec_lit rfl (eval_tmp (hgot 8 _ _ rfl (hdep ⟨8, .data⟩ (by simp) rfl) rfl)) rl) (hK _ _ (fun s hs => by cases hs; rfl) (.inr (.inl ⟨rfl, by simpa using a2, by simpa using a3, rfl⟩)))
      all_goals (rw [hlj] at a1; cases a1)
    · have e9 := (hdep ⟨9, .data⟩ (by simp) rfl)
      have e5 := (hdep ⟨5, .data⟩ (by simp) rfl)
      rcases hst with ⟨a1, a2, a3, rfl⟩ | ⟨a1, a2, a3, rfl⟩ | ⟨_, a1, _⟩ | ⟨_, a1, _⟩
      · rw [show l 9 = true from e9] at a1; cases a1
      · exact wp_ran rfl (exec_append rfl (eval_tmp (hgot 5 _ _ rfl (hdep ⟨5, .data⟩ (by simp) rfl) rfl)) (eval_tmp (hgot 9 _ _ rfl (hdep ⟨9, .data⟩ (by simp) rfl) rfl)) hrun) (hK _ _ (fun s hs => by cases hs; rfl) (.inr (.inr (.inl ⟨by simpa using a1, rfl, by simpa using a3, by simpa using e5, rfl⟩))))
      all_goals (rw [hlj] at a1; cases a1)
    · exact wp_ran rfl (exec_nil rfl (eval_tmp (hgot 0 _ _ rfl (hdep ⟨0, .data⟩ (by simp) rfl) rfl))) (hK _ _ (fun s hs => by cases hs; rfl) (by simpa using hst))
    · exact wp_ran rfl (exec_field74 rfl (eval_tmp (hgot 11 _ _ rfl (hdep ⟨11, .data⟩ (by simp) rfl) rfl))) (hK _ _ (fun s hs => by cases hs; rfl) (by simpa using hst))
    · exact wp_ran rfl (exec_field72_2 rfl (eval_tmp (hgot 12 _ _ rfl (hdep ⟨12, .data⟩ (by simp) rfl) rfl))) (hK _ _ (fun s hs => by cases hs; rfl) (by simpa using hst))
    · have e10 := (hdep ⟨10, .data⟩ (by simp) rfl)
      rcases hst with ⟨_, a1, _, rfl⟩ | ⟨_, a1, _, rfl⟩ | ⟨a0, a1, a2, a5, rfl⟩ | ⟨_, _, a1, _⟩
      · rw [show l 10 = true from e10] at a1; cases a1
      · rw [show l 10 = true from e10] at a1; cases a1
      · exact wp_ran_skip rfl (exec_store1 rfl (eval_tmp (hgot 13 _ _ rfl (hdep ⟨13, .data⟩ (by simp) rfl) rfl)) (eval_tmp (hgot 10 _ _ rfl (hdep ⟨10, .data⟩ (by simp) rfl) rfl)) rfl hi70 hs70 rs2 rs) (hK _ _ (fun s hs => by cases hs) (.inr (.inr (.inr ⟨by simpa using a0, by simpa using a1, rfl, by simpa using a5, hw4.symm⟩))))
      · rw [hlj] at a1; cases a1
  case fin =>
    intro l T v hl hst ht hd hpar hgot
    have e1 : l 9 = true := hl 9 (by decide)
    have e2 : l 10 = true := hl 10 (by decide)
    have e3 : l 14 = true := hl 14 (by decide)
    rcases hst with ⟨a1, _⟩ | ⟨_, a1, _⟩ | ⟨_, _, a1, _⟩ | ⟨_, _, _, _, rfl⟩
    · rw [e1] at a1; cases a1
    · rw [e2] at a1; cases a1
    · rw [e3] at a1; cases a1
    · refine bodyPost_end (results_none rfl _ _ _) hd ?_
      exact ⟨rfl, A', c', hd4, hO4, hM, hA2⟩
end
section
open Go.RowKit
theorem Fits.ask {S : St} (h : Fits S) (there lasts : Bool) (ho : S.ops + 1 ≤ 1099511627776) : Fits (S.ask there lasts).2 ∧ (S.ask there lasts).2.ops ≤ S.ops + 1 ∧ (S.ask there lasts).2.loose = S.loose ∧ (S.ask there lasts).2.firm = S.firm ∧ S.ops ≤ (S.ask there lasts).2.ops ∧ ((S.ask there lasts).1 = 0 → (S.ask there lasts).2.ops = S.ops + 1) ∧ (S.ask there lasts).2.n = S.n := by
  obtain ⟨h1, h2, h3, h4, h5, h6⟩ := h
  unfold St.ask
  split
  · exact ⟨⟨h1, h2, h3, h4, h5, h6⟩, by simp, rfl, rfl, by simp, fun h => by simp at h, rfl⟩
  split
  · exact ⟨⟨h1, h2, h3, h4, h5, h6⟩, by simp, rfl, rfl, by simp, fun h => by simp at h, rfl⟩
  split
  · exact ⟨⟨h1, h2, h3, by simp, by simp, h6⟩, by simp, rfl, rfl, by simp, fun h => by simp at h, rfl⟩
  have d1 : ∀ x : Int, -9223372036854775808 ≤ x → -9223372036854775808 ≤ down x := fun x hx => by unfold down; split <;> omega
  have d2 : ∀ x : Int, x < 9223372036854775808 → down x < 9223372036854775808 := fun x hx => by unfold down; split <;> omega
  split
  · exact ⟨⟨h1, by simp, by simp, d1 _ h4, d2 _ h5, h6⟩, by simp, rfl, rfl, by simp, fun h => by simp at h, rfl⟩
  · refine ⟨⟨h1, ?_, ?_, d1 _ h4, d2 _ h5, ho⟩, by simp, rfl, rfl, by simp, fun _ => rfl, rfl⟩
    · show _ ≤ (if lasts = true then down S.armed else S.armed)
      split
      · exact d1 _ h2
      · exact h2
    · show (if lasts = true then down S.armed else S.armed) < _
      split
      · exact d2 _ h3
      · exact h3

set_option maxRecDepth 100000 in
set_option maxHeartbeats 2000000 in
theorem read1_c (S : St) (g m b2 b3 b6 : Nat) (A : Option Addr) (c : Nat) (i : Int) (old : List Value) (w : World) (h : Holds w g 45 (dc S m (.slice A S.loose.length c))) (hf : Firm w m S.firm) (hl : Cells w A (S.loose.flatMap wc)) (hn : S.loose.length ≤ 1099511627776)
    (h2 : Holds w b2 25 [.pointer (some ⟨g, 0, none⟩)]) (h3 : Holds w b3 3 [.int .i64 i]) (h6 : Holds w b6 73 old) (ho : old.length = 64) :
    Calls Tryd.prog 61 #[.pointer (some ⟨b2, 0, none⟩), .pointer (some ⟨b3, 0, none⟩), .pointer (some ⟨b6, 0, none⟩)] w fun e w' => e = .returned (.tuple #[]) ∧ Holds w' b6 73 (bc (S.holds i)) ∧ Mod [b6] w w' := by
  have a2 := h2.cell 0
  have a3 := h3.cell 0
  simp only [List.getElem?_cons_zero] at a2 a3
  have H := holds_c S g m A c i w.drew h hf hl hn
  have h6' : Holds w.drew b6 73 old := h6
  have m0 : Mod [] w w.drew := Mod.drew [] w
  clear h hf hl h2 h3 h6
  go_enter Tryd.func61, Tryd.ntmps61
  go_wp2_with fail
  refine wp_region_still_tail 4 (by kernel_rfl) (by kernel_rfl) ?_
  simp only [List.take_succ_cons, List.take_zero, List.drop_succ_cons, List.drop_zero]
  iterate 4 still_step
  refine wpStill_nil ?_
  clear a2 a3
  change wpList _ _ _ _ _ w.drew
  generalize w.drew = w1 at *
  go_wp2_with (first
    | (go_at_call 62; refine H.mono ?_; rintro e w2 ⟨rfl, m2⟩; replace h6' := h6'.keep m2 (by simp))
    | (with_reducible refine wpList_storesAll (o := ⟨none, .store 73 (.tmp 2) (.tmp 7), _, _, _, _⟩) rfl 73 (.tmp 2) (.tmp 7) rfl rfl b6 (bc (S.holds i)) rfl (bv (S.holds i)) rfl rfl 73 _ h6' (by rw [bc_length, ho]) (bc_one _) (by rw [bc_length]; exact size110) ?_; intro w3 hw3 m3 z3))
  go_end0
  exact ⟨rfl, hw3, (m0.then m2).pre m3⟩

theorem results_cell_tmp {P : Program} {fn : Func} {p q : Tmp} {ty : TypeId} (h : fn.results = #[.cell p ty, .tmp q]) (tmps : Array Value) (w : World) (g : Nat) (cs : List Value) (x : Value) (d : TypeDesc)
    (hp : tmps.getD p undef = .pointer (some ⟨g, 0, none⟩)) (hq : tmps.getD q undef = x) (hc : Cells w (some ⟨g, 0, none⟩) cs)
    (hu : P.underlying ty = some d) (hd : (match d with | .struct _ | .array _ _ => true | _ => false) = true) (hi : (P.info? ty).map (·.size) = some cs.length) :
    (results fn tmps).run P w = .ok (.tuple #[.agg cs.toArray, x]) w := by
  have hp' : tmps[p]?.getD undef = .pointer (some ⟨g, 0, none⟩) := by simpa using hp
  have hq' : tmps[q]?.getD undef = x := by simpa using hq
  simp [results, h, hp', hq', asAddr, run_loads hc hu hd hi]
set_option maxRecDepth 100000 in
set_option maxHeartbeats 2000000 in
theorem read_c (S : St) (g m : Nat) (A : Option Addr) (c : Nat) (i : Int) (w : World) (D : DAt w g m A c S) (ho : S.ops + 1 ≤ 1099511627776) :
    Calls Tryd.prog 46 #[.pointer (some ⟨g, 0, none⟩), .int .i64 i] w fun e w' => e = .returned (.tuple #[bv (S.read i).1, .int .i64 (S.read i).2.1]) ∧ DAt w' g m A c (S.read i).2.2 ∧ Mod [g] w w' := by
  have hlt := D.blk.lt
  go_enter Tryd.func46, Tryd.ntmps46
  go_wp2_with (first
    | (with_reducible refine wpList_boxes (o := ⟨some 2, .box 25 (.tmp 0), _, _, _, _⟩) rfl 25 (.tmp 0) rfl _ rfl [.pointer (some ⟨g, 0, none⟩)] rfl ?_; intro w1 hb1 m1 z1; replace z1 := Lib.hid z1)
    | (with_reducible refine wpList_boxes (o := ⟨some 3, .box 3 (.tmp 1), _, _, _, _⟩) rfl 3 (.tmp 1) rfl _ rfl [.int .i64 i] rfl ?_; intro w2 hb2 m2 z2; replace z2 := Lib.hid z2)
    | (with_reducible refine wpList_allocs (o := ⟨some 4, .alloc 73, _, _, _, _⟩) rfl 73 rfl _ zero110 ?_; intro w3 hb3 m3 z3; replace z3 := Lib.hid z3)
    | (with_reducible refine wpList_allocs (o := ⟨some 6, .alloc 73, _, _, _, _⟩) rfl 73 rfl _ zero110 ?_; intro w4 hb4 m4 z4; replace z4 := Lib.hid z4))
  have mm : Mod [] w w4 := ((m1.then m2).then m3).then m4
  have D4 := D.keep mm (by simp) (by simp) (by simp)
  have k1 : Holds w4 w.heap.size 25 [.pointer (some ⟨g, 0, none⟩)] := ((hb1.keep m2 (by simp)).keep m3 (by simp)).keep m4 (by simp)
  have k2 : Holds w4 w1.heap.size 3 [.int .i64 i] := (hb2.keep m3 (by simp)).keep m4 (by simp)
  have k3 : Holds w4 w2.heap.size 73 (bc (fil 0)) := hb3.keep m4 (by simp)
  have k4 : Holds w4 w3.heap.size 73 (bc (fil 0)) := hb4
  replace z1 := z1.out
  replace z2 := z2.out
  replace z3 := z3.out
  replace z4 := z4.out
  obtain ⟨b1, e1⟩ : ∃ b, b = w.heap.size := ⟨_, rfl⟩
  obtain ⟨b2, e2⟩ : ∃ b, b = w1.heap.size := ⟨_, rfl⟩
  obtain ⟨b3, e3⟩ : ∃ b, b = w2.heap.size := ⟨_, rfl⟩
  obtain ⟨b4, e4⟩ : ∃ b, b = w3.heap.size := ⟨_, rfl⟩
  have o1 : g < b1 := by omega
  have o2 : b1 < b2 := by omega
  have o3 : b2 < b3 := by omega
  have o4 : b3 < b4 := by omega
  have o5 : w.heap.size ≤ b1 := by omega
  rw [← e1] at k1
  rw [← e2] at k2
  rw [← e3] at k3
  rw [← e4] at k4
  rw [← e1, ← e2, ← e3, ← e4]
  clear e1 e2 e3 e4 hb1 hb2 hb3 hb4 m1 m2 m3 m4 z1 z2 z3 z4
  have a1 := k1.cell 0
  have a2 := k2.cell 0
  simp only [List.getElem?_cons_zero] at a1 a2
  have hH := has_c g S.n i w4.drew (D4.blk.cell 0)
  have m5 : Mod [] w w4.drew := mm.then (Mod.drew [] w4)
  have D5 := D4.keep (Mod.drew [] w4) (by simp) (by simp) (by simp)
  replace k1 := k1.keep (Mod.drew [] w4) (by simp)
  replace k2 := k2.keep (Mod.drew [] w4) (by simp)
  replace k3 := k3.keep (Mod.drew [] w4) (by simp)
  replace k4 := k4.keep (Mod.drew [] w4) (by simp)
  go_wp2_with fail
  refine wp_region_still_tail 5 (by kernel_rfl) (by kernel_rfl) ?_
  simp only [List.take_succ_cons, List.take_zero, List.drop_succ_cons, List.drop_zero]
  iterate 3 still_step
  still_call hH
  still_step
  refine wpStill_nil ?_
  clear a1 a2 hH D4 mm
  change wpList _ _ _ _ _ w4.drew
  generalize w4.drew = w5 at *
  obtain ⟨r, hr⟩ : ∃ r, S.ask (S.has i) false = r := ⟨_, rfl⟩
  obtain ⟨f1, f2, f3, f4, f5, f6, f7⟩ := D5.fits.ask (S.has i) false ho
  have HA := ask_43 S g m (.slice A S.loose.length c) (S.has i) false D5.fits w5 (.pointer (some ⟨b1, 0, none⟩)) (.pointer (some ⟨b2, 0, none⟩)) (.pointer (some ⟨b4, 0, none⟩))
    (fun v => Holds v g 45 (dc r.2 m (.slice A S.loose.length c)) ∧ Holds v b4 73 (bc (r.2.holds i)) ∧ Mod [g, b4] w5 v) D5.blk (by
      rw [hr] at f3 f4 ⊢
      intro h0 v hv mv zv
      have hne : m ≠ g := fun e => D5.firm.ne_holds D5.blk e.symm
      have := read1_c r.2 g m b1 b2 b4 A c i (bc (fil 0)) v (by rw [f3]; exact hv) (by rw [f4]; exact D5.firm.keep mv (by simpa using hne)) (by rw [f3]; exact D5.loose.cells.keep mv (fun a ha => by simpa using D5.loose.ne D5.blk (by decide) a ha)) (by rw [f3]; exact D5.long)
        (k1.keep mv (by simp; omega)) (k2.keep mv (by simp; omega)) (k4.keep mv (by simp; omega)) (bc_length _)
      refine this.mono ?_
      rintro e v2 ⟨rfl, q1, q2⟩
      exact ⟨rfl, hv.keep q2 (by simp; omega), q1, (mv.wk (fun i _ h => by simp at h; simp [h])).trans (q2.wk (ns := [g, b4]) (fun i _ h => by simp at h; simp [h])) (fun _ _ h => h)⟩)
  rw [hr] at HA f1 f2 f3 f4 f5 f6 f7
  have hrd : S.read i = (if r.1 = 0 then r.2.holds i else fil 0, r.1, r.2) := by unfold St.read; rw [hr]
  have HA2 : Calls Tryd.prog 51 #[.pointer (some ⟨g, 0, none⟩), .bool (S.has i), .bool false, .func (.func 61) #[] #[.pointer (some ⟨b1, 0, none⟩), .pointer (some ⟨b2, 0, none⟩), .pointer (some ⟨b4, 0, none⟩)]] w5 fun e w' => e = .returned (.int .i64 r.1) ∧ Holds w' g 45 (dc r.2 m (.slice A S.loose.length c)) ∧ Holds w' b4 73 (bc (if r.1 = 0 then r.2.holds i else fil 0)) ∧ Mod [g, b4] w5 w' := by
    refine HA.mono ?_
    rintro e v ⟨rfl, q1, q2⟩
    by_cases h0 : r.1 = 0
    · rw [if_pos h0]
      exact ⟨rfl, q2 h0⟩
    · rw [if_neg h0]
      obtain ⟨u1, u2, u3⟩ := q1 h0
      exact ⟨rfl, u1, k4.keep u2 (by simp; omega), u2.wk (fun i _ h => by simp at h; simp [h])⟩
  obtain ⟨n, hn⟩ : ∃ n, n = r.1 := ⟨_, rfl⟩
  obtain ⟨B, hB⟩ : ∃ B, B = (if r.1 = 0 then r.2.holds i else fil 0) := ⟨_, rfl⟩
  rw [← hB, ← hn] at HA2 hrd
  have hhas : S.has i = decide (0 ≤ i ∧ i < (S.n : Int)) := rfl
  rw [hhas, Bool.decide_and] at HA2
  have HZ := Lib.hid (And.intro hrd (And.intro f3 (And.intro f4 (And.intro f1 f5))))
  clear HA hrd hr hn hB hhas f6 f7 f2 f3 f4 f1 f5
  go_wp2_with fail
  refine HA2.mono ?_
  clear HA2
  rintro e w6 ⟨rfl, q1, q2, q3⟩
  replace k3 := k3.keep q3 (by simp; omega)
  go_wp2_with (first
    | (with_reducible refine wpList_loads (o := ⟨some 14, .load 73 (.tmp 6), _, _, _, _⟩) rfl 73 (.tmp 6) rfl b4 0 _ rfl (Cells.of_holds q2) _ Tryd.underlying73 rfl (by rw [bc_length]; exact size110) (bv B) rfl ?_)
    | (with_reducible refine wpList_storesAll (o := ⟨none, .store 73 (.tmp 4) (.tmp 14), _, _, _, _⟩) rfl 73 (.tmp 4) (.tmp 14) rfl rfl b3 (bc B) rfl (bv B) rfl rfl 73 _ k3 (by rw [bc_length, bc_length]) (bc_one _) (by rw [bc_length]; exact size110) ?_; intro w7 hw7 m7 z7))
  have hM : Mod [g] w w7 := ⟨m7.os.trans (q3.os.trans m5.os), m7.tape.trans (q3.tape.trans m5.tape), m7.output.trans (q3.output.trans m5.output), Nat.le_trans m5.size (Nat.le_trans q3.size m7.size), fun k hk hn => by
    simp only [List.mem_singleton] at hn
    have s5 := m5.size
    have s6 := q3.size
    rw [m7.block k (by omega) (by simp; omega), q3.block k (by omega) (by simp; omega), m5.block k hk (by simp)]⟩
  obtain ⟨z1, z2, z3, z4, z5⟩ := HZ.out
  refine bodyPost_ret (results_cell_tmp rfl _ _ b3 (bc B) (.int .i64 n) _ rfl rfl (Cells.of_holds hw7) Tryd.underlying73 rfl (by rw [bc_length]; exact size110)) rfl ?_
  rw [z1]
  exact ⟨rfl, D.turn hM (q1.keep m7 (by simp; omega)) z2 z3 z4 z5, hM⟩
end
section
open Go.RowKit
theorem OwnG.ne_firm {α : Type} {f : α → List Value} {e : TypeId} {size : Nat} {w : World} {A : Option Addr} {c : Nat} {l : List α} {m : Nat} {fm : Int → Blk} (h : OwnG f e size w A c l) (h' : Firm w m fm) : ∀ a, A = some a → a.block ≠ m := by
  obtain ⟨es, ck, hm, _⟩ := h'
  rcases h.2 with ⟨hv, hn⟩ | ⟨k, cap, cur, hv, hb, hg, h1, h2, _⟩
  · injection hv with h1 h2 h3
    subst h1
    simp
  · injection hv with h3 h4 h5
    subst h3
    rintro _ ⟨⟩
    exact hm.ne_cells hg
theorem notin_blk {A : Option Addr} {k : Nat} (h : ∀ a, A = some a → a.block ≠ k) : k ∉ blk A := fun hh => by
  unfold blk at hh
  simp only [Option.mem_toList, Option.map_eq_some_iff] at hh
  obtain ⟨a, ha, hb⟩ := hh
  exact h a ha hb
theorem mem_blk {A : Option Addr} {k : Nat} (h : k ∈ blk A) : ∃ a, A = some a ∧ a.block = k := by
  unfold blk at h
  simpa only [Option.mem_toList, Option.map_eq_some_iff] using h
set_option maxRecDepth 100000 in
set_option maxHeartbeats 2000000 in
theorem write_c (S : St) (g m : Nat) (A : Option Addr) (c : Nat) (i : Int) (b : Blk) (w : World) (D : DAt w g m A c S) (ho : S.ops + 1 ≤ 1099511627776) :
    Calls Tryd.prog 35 #[.pointer (some ⟨g, 0, none⟩), .int .i64 i, bv b] w fun e w' => e = .returned (.int .i64 (S.write i b).1) ∧ ∃ A' c', DAt w' g m A' c' (S.write i b).2 ∧ Mod (g :: blk A) w w' ∧ (∀ a, A' = some a → a.block ∈ blk A ∨ w.heap.size ≤ a.block) := by
  have hlt := D.blk.lt
  go_enter Tryd.func35, Tryd.ntmps35
  go_wp2_with (first
    | (with_reducible refine wpList_boxes (o := ⟨some 3, .box 25 (.tmp 0), _, _, _, _⟩) rfl 25 (.tmp 0) rfl _ rfl [.pointer (some ⟨g, 0, none⟩)] rfl ?_; intro w1 hb1 m1 z1; replace z1 := Lib.hid z1)
    | (with_reducible refine wpList_boxes (o := ⟨some 4, .box 3 (.tmp 1), _, _, _, _⟩) rfl 3 (.tmp 1) rfl _ rfl [.int .i64 i] rfl ?_; intro w2 hb2 m2 z2; replace z2 := Lib.hid z2)
    | (with_reducible refine wpList_boxes (o := ⟨some 5, .box 73 (.tmp 2), _, _, _, _⟩) rfl 73 (.tmp 2) rfl (bv b) rfl (bc b) (bv_cells b) ?_; intro w3 hb3 m3 z3; replace z3 := Lib.hid z3))
  have mm : Mod [] w w3 := (m1.then m2).then m3
  have D4 := D.keep mm (by simp) (by simp) (by simp)
  have k1 : Holds w3 w.heap.size 25 [.pointer (some ⟨g, 0, none⟩)] := (hb1.keep m2 (by simp)).keep m3 (by simp)
  have k2 : Holds w3 w1.heap.size 3 [.int .i64 i] := hb2.keep m3 (by simp)
  have k3 : Holds w3 w2.heap.size 73 (bc b) := hb3
  replace z1 := z1.out
  replace z2 := z2.out
  replace z3 := z3.out
  obtain ⟨b1, e1⟩ : ∃ b, b = w.heap.size := ⟨_, rfl⟩
  obtain ⟨b2, e2⟩ : ∃ b, b = w1.heap.size := ⟨_, rfl⟩
  obtain ⟨b3, e3⟩ : ∃ b, b = w2.heap.size := ⟨_, rfl⟩
  have o1 : g < b1 := by omega
  have o2 : b1 < b2 := by omega
  have o3 : b2 < b3 := by omega
  have o5 : w.heap.size ≤ b1 := by omega
  rw [← e1] at k1
  rw [← e2] at k2
  rw [← e3] at k3
  rw [← e1, ← e2, ← e3]
  clear e1 e2 e3 hb1 hb2 hb3 m1 m2 m3 z1 z2 z3
  have a1 := k1.cell 0
  have a2 := k2.cell 0
  simp only [List.getElem?_cons_zero] at a1 a2
  have hH := has_c g S.n i w3.drew (D4.blk.cell 0)
  have m5 : Mod [] w w3.drew := mm.then (Mod.drew [] w3)
  have D5 := D4.keep (Mod.drew [] w3) (by simp) (by simp) (by simp)
  replace k1 := k1.keep (Mod.drew [] w3) (by simp)
  replace k2 := k2.keep (Mod.drew [] w3) (by simp)
  replace k3 := k3.keep (Mod.drew [] w3) (by simp)
  go_wp2_with fail
  refine wp_region_still_tail 5 (by kernel_rfl) (by kernel_rfl) ?_
  simp only [List.take_succ_cons, List.take_zero, List.drop_succ_cons, List.drop_zero]
  iterate 3 still_step
  still_call hH
  still_step
  refine wpStill_nil ?_
  clear a1 a2 hH D4 mm
  change wpList _ _ _ _ _ w3.drew
  generalize w3.drew = w5 at *
  obtain ⟨r, hr⟩ : ∃ r, S.ask (S.has i) true = r := ⟨_, rfl⟩
  obtain ⟨f1, f2, f3, f4, f5, f6, f7⟩ := D5.fits.ask (S.has i) true ho
  have hgA := notin_blk (D5.loose.ne D5.blk (by decide))
  have hmA := notin_blk (D5.loose.ne_firm D5.firm)
  have hne : m ≠ g := fun e => D5.firm.ne_holds D5.blk e.symm
  have HA := ask_46 S g m (.slice A S.loose.length c) (S.has i) true D5.fits w5 (.pointer (some ⟨b1, 0, none⟩)) (.pointer (some ⟨b2, 0, none⟩)) (.pointer (some ⟨b3, 0, none⟩))
    (fun v => ∃ A' c', Holds v g 45 (dc r.2 m (.slice A' (S.loose.length + 1) c')) ∧ OwnW v A' c' (S.loose ++ [(i, b)]) ∧ Mod (g :: blk A) w5 v ∧ (∀ a, A' = some a → a.block ∈ blk A ∨ w5.heap.size ≤ a.block)) D5.blk (by
      rw [hr] at f3 f4 ⊢
      intro h0 v hv mv zv
      have hown : OwnW v A c S.loose := OwnG.keep D5.loose mv (fun a ha => by simpa using D5.loose.ne D5.blk (by decide) a ha)
      have := write1_c r.2 g m b1 b2 b3 A c i b v (by rw [f3]; exact hv) (by rw [f3]; exact hown) (by rw [f3]; exact D5.long)
        (k1.keep mv (by simp; omega)) (k2.keep mv (by simp; omega)) (k3.keep mv (by simp; omega))
      refine this.mono ?_
      rintro e v2 ⟨rfl, A', c', q1, q2, q3, q4⟩
      rw [f3] at q1 q2
      exact ⟨rfl, A', c', q1, q2, (mv.wk (fun i _ h => by simp at h; simp [h])).trans q3 (fun _ _ h => h), fun a ha => (q4 a ha).imp id (fun h => by omega)⟩)
  rw [hr] at HA f1 f2 f3 f4 f5 f6 f7
  have hrd : S.write i b = (r.1, if r.1 = 0 then { r.2 with loose := r.2.loose ++ [(i, b)] } else r.2) := by unfold St.write; rw [hr]
  have HA2 : Calls Tryd.prog 51 #[.pointer (some ⟨g, 0, none⟩), .bool (S.has i), .bool true, .func (.func 53) #[] #[.pointer (some ⟨b1, 0, none⟩), .pointer (some ⟨b2, 0, none⟩), .pointer (some ⟨b3, 0, none⟩)]] w5 fun e w' => e = .returned (.int .i64 (S.write i b).1) ∧ ∃ A' c', DAt w' g m A' c' (S.write i b).2 ∧ Mod (g :: blk A) w5 w' ∧ (∀ a, A' = some a → a.block ∈ blk A ∨ w5.heap.size ≤ a.block) := by
    refine HA.mono ?_
    rintro e v ⟨rfl, q1, q2⟩
    rw [hrd]
    by_cases h0 : r.1 = 0
    · rw [if_pos h0]
      obtain ⟨A', c', u1, u2, u3, u4⟩ := q2 h0
      have hmk : m ∉ g :: blk A := by simp only [List.mem_cons, not_or]; exact ⟨hne, hmA⟩
      refine ⟨rfl, A', c', ⟨?_, ?_, ?_, ⟨f1.1, f1.2, f1.3, f1.4, f1.5, f1.6⟩, ?_⟩, u3, u4⟩
      · show Holds v g 45 (dc r.2 m (.slice A' (r.2.loose ++ [(i, b)]).length c'))
        rw [f3, List.length_append]
        exact u1
      · show Firm v m r.2.firm
        rw [f4]
        exact D5.firm.keep u3 hmk
      · show OwnW v A' c' (r.2.loose ++ [(i, b)])
        rw [f3]
        exact u2
      · show (r.2.loose ++ [(i, b)]).length ≤ r.2.ops
        rw [f3, List.length_append, f6 h0]
        have := D5.few
        simp
        omega
    · rw [if_neg h0]
      obtain ⟨u1, u2, u3⟩ := q1 h0
      exact ⟨rfl, A, c, D5.turn u2 u1 f3 f4 f1 f5, u2.wk (fun i _ h => by simp at h; simp [h]), fun a ha => .inl (by unfold blk; simp [ha])⟩
  have hhas : S.has i = decide (0 ≤ i ∧ i < (S.n : Int)) := rfl
  rw [hhas, Bool.decide_and] at HA2
  obtain ⟨R, hR⟩ : ∃ R, R = S.write i b := ⟨_, rfl⟩
  rw [← hR] at HA2
  have HR := Lib.hid hR
  clear HA hrd hr hhas f6 f7 f2 f3 f4 f1 f5 hR
  go_wp2_with fail
  refine HA2.mono ?_
  clear HA2
  rintro e w6 ⟨rfl, HD⟩
  go_wp2
  go_ret
  rw [← HR.out]
  obtain ⟨A', c', d1, d2, d3⟩ := HD
  exact ⟨rfl, A', c', d1, m5.pre d2, fun a ha => (d3 a ha).imp id (fun h => by have := m5.size; omega)⟩
end
section
open Go.RowKit
theorem stay48 (v : World) (k : Int) : Calls Tryd.prog 56 #[.int .i64 k] v fun e w' => e = .returned (.bool true) ∧ w' = v := by
  go_enter Tryd.func56, Tryd.ntmps56
  go_wp2
  go_ret
  exact ⟨rfl, rfl⟩
set_option maxHeartbeats 1000000 in
theorem sync1_c (S : St) (g m b2 : Nat) (A : Option Addr) (c : Nat) (l : Story) (f : Int → Blk) (w : World) (h : Holds w g 45 (dc S m (.slice A l.length c))) (hf : Firm w m f) (hl : Cells w A (l.flatMap wc)) (hn : l.length ≤ 1099511627776) (h2 : Holds w b2 25 [.pointer (some ⟨g, 0, none⟩)]) :
    Calls Tryd.prog 54 #[.pointer (some ⟨b2, 0, none⟩)] w fun e w' => e = .returned (.tuple #[]) ∧ Holds w' g 45 (dc S m (.slice none 0 0)) ∧ Firm w' m (app f l) ∧ Mod [g, m] w w' := by
  have a2 := h2.cell 0
  simp only [List.getElem?_cons_zero] at a2
  have H := settle_48 S g m A c l f (fun _ => true) (fun k => l.take k) w hn rfl (fun k hk => by rw [List.take_add_one, List.getElem?_eq_getElem hk]; rfl) h hf hl (fun v k _ _ => stay48 v k)
  simp only [List.take_length] at H
  clear h hf hl h2
  go_enter Tryd.func54, Tryd.ntmps54
  go_wp2_with fail
  refine H.mono ?_
  rintro e w1 ⟨rfl, q1, q2, q3⟩
  go_wp2
  go_end0
  exact ⟨rfl, q1, q2, q3⟩
set_option maxRecDepth 100000 in
set_option maxHeartbeats 2000000 in
theorem sync_c (S : St) (g m : Nat) (A : Option Addr) (c : Nat) (w : World) (D : DAt w g m A c S) (ho : S.ops + 1 ≤ 1099511627776) :
    Calls Tryd.prog 36 #[.pointer (some ⟨g, 0, none⟩)] w fun e w' => e = .returned (.int .i64 S.sync.1) ∧ ∃ A' c', DAt w' g m A' c' S.sync.2 ∧ Mod [g, m] w w' ∧ (∀ a, A' = some a → A = some a) := by
  have hlt := D.blk.lt
  go_enter Tryd.func36, Tryd.ntmps36
  go_wp2_with (first
    | (with_reducible refine wpList_boxes (o := ⟨some 1, .box 25 (.tmp 0), _, _, _, _⟩) rfl 25 (.tmp 0) rfl _ rfl [.pointer (some ⟨g, 0, none⟩)] rfl ?_; intro w1 hb1 m1 z1; have a1 := hb1.cell 0; simp only [List.getElem?_cons_zero] at a1))
  clear a1
  have D4 := D.keep m1 (by simp) (by simp) (by simp)
  have hne : m ≠ g := fun e => D4.firm.ne_holds D4.blk e.symm
  obtain ⟨r, hr⟩ : ∃ r, S.ask true true = r := ⟨_, rfl⟩
  obtain ⟨f1, f2, f3, f4, f5, f6, f7⟩ := D4.fits.ask true true ho
  have HA := ask_47 S g m (.slice A S.loose.length c) true true D4.fits w1 (.pointer (some ⟨w.heap.size, 0, none⟩))
    (fun v => Holds v g 45 (dc r.2 m (.slice none 0 0)) ∧ Firm v m (app S.firm S.loose) ∧ Mod [g, m] w1 v) D4.blk (by
      rw [hr] at f3 f4 ⊢
      intro h0 v hv mv zv
      have := sync1_c r.2 g m w.heap.size A c S.loose S.firm v hv (D4.firm.keep mv (by simpa using hne)) (D4.loose.cells.keep mv (fun a ha => by simpa using D4.loose.ne D4.blk (by decide) a ha)) D4.long
        (hb1.keep mv (by simp; omega))
      refine this.mono ?_
      rintro e v2 ⟨rfl, q1, q2, q3⟩
      exact ⟨rfl, q1, q2, (mv.wk (fun i _ h => by simp at h; simp [h])).trans q3 (fun _ _ h => h)⟩)
  rw [hr] at HA f1 f2 f3 f4 f5 f6 f7
  have hrd : S.sync = (r.1, if r.1 = 0 then { r.2 with loose := [], firm := app r.2.firm r.2.loose } else r.2) := by unfold St.sync; rw [hr]
  refine HA.mono ?_
  rintro e v ⟨rfl, q1, q2⟩
  have HD : ∃ A' c', DAt v g m A' c' S.sync.2 ∧ Mod [g, m] w v ∧ (∀ a, A' = some a → A = some a) := by
    rw [hrd]
    by_cases h0 : r.1 = 0
    · rw [if_pos h0]
      obtain ⟨u1, u2, u3⟩ := q2 h0
      refine ⟨none, 0, ⟨u1, ?_, OwnG.nil _ _ _ _, ⟨f1.1, f1.2, f1.3, f1.4, f1.5, f1.6⟩, Nat.zero_le _⟩, m1.pre u3, fun a ha => by cases ha⟩
      show Firm v m (app r.2.firm r.2.loose)
      rw [f3, f4]
      exact u2
    · rw [if_neg h0]
      obtain ⟨u1, u2, u3⟩ := q1 h0
      exact ⟨A, c, D4.turn u2 u1 f3 f4 f1 f5, m1.pre (u2.wk (fun i _ h => by simp at h; simp [h])), fun a ha => ha⟩
  have hr1 : S.sync.1 = r.1 := by rw [hrd]
  rw [← hr1]
  obtain ⟨R, hR⟩ : ∃ R, R = S.sync := ⟨_, rfl⟩
  have HR := Lib.hid hR
  rw [← hR] at HD ⊢
  clear HA hrd hr f6 f7 f2 f3 f4 f1 f5 hR hr1 q1 q2
  go_wp2
  go_ret
  rw [← HR.out]
  exact ⟨rfl, HD⟩
end
section
open Go.RowKit
/-- make of a row. -/
theorem wpList_makeG {P : Program} {w : World} {ops : Array Oper} {rest : List Oper} {o : Oper} {a : Act} {Q : Exit → Act → World → Prop} (hgd : o.guard = none) (t : TypeId) (x y : Operand) (ho : o.op = .makeSlice t x y) (e : TypeId) (i : TypeInfo) (z : Value) (size bytes n : Nat) (ht : P.underlying t = some (.slice e)) (hi : P.info? e = some i) (hz : i.zero = some z) (hs : i.size = size) (hb : i.bytes = bytes)
    (hx : a.eval x = .int .i64 (n : Int)) (hy : a.eval y = .int .i64 (n : Int)) (h63 : bytes * n ≤ 281474976710656) (h64 : n ≤ 9223372036854775807)
    (h : ∀ v cs, Holds v w.heap.size e cs → cs.length = n * size → cs = (madeCells z.cells (n * size)).toList → Mod [] w v → v.heap.size = w.heap.size + 1 → wpList P ops Q rest (a.put o.dst (.slice (some ⟨w.heap.size, 0, none⟩) n n)) v) : wpList P ops Q (o :: rest) a w := by
  subst hs hb
  refine wpList_plain hgd fun K hK => ?_
  have hbb : (i.bytes : Int) * (n : Int) ≤ 281474976710656 := by
    have h : ((i.bytes * n : Nat) : Int) ≤ 281474976710656 := by omega
    rwa [Int.natCast_mul] at h
  have hrun := run_make (P := P) w t e i z ht hi hz .i64 .i64 (n : Int) (n : Int) (by omega) (by omega) hbb (by omega)
  simp only [Int.toNat_natCast] at hrun
  have hfin := h (w.alloc (.cells (madeCells z.cells (n * i.size)) e)) (madeCells z.cells (n * i.size)).toList (Holds.made w e (madeCells z.cells (n * i.size)).toList) (by simp [madeCells]) rfl (Mod.alloc [] w _) (by simp)
  unfold Oper.wp execOp
  simp only [ho, hx, hy, Sem.run_bind, hrun, Result.andThen]
  exact hK _ _ hfin
end
section
open Go.RowKit
set_option maxRecDepth 100000 in
set_option maxHeartbeats 2000000 in
theorem new_good (n : Nat) (w : World) (h1 : 1 ≤ n) (h2 : n ≤ 2048) : Calls Tryd.prog 7 #[.int .i64 (n : Int)] w fun e w' =>
    ∃ g m, e = .returned (.tuple #[.pointer (some ⟨g, 0, none⟩), .int .i64 0]) ∧ DAt w' g m none 0 (St.new n) ∧ Mod [] w w' ∧ w.heap.size ≤ g ∧ w.heap.size ≤ m := by
  have hmm := @run_makeMap Tryd.prog
  have k1 : (1 : Int) ≤ (n : Int) := by omega
  have k2 : (n : Int) ≤ 2048 := by omega
  go_enter Tryd.func7, Tryd.ntmps7
  go_wp2_with (with_reducible refine wpList_boxes (o := ⟨some 14, .box 45 (.tmp 13), _, _, _, _⟩) rfl 45 (.tmp 13) rfl _ rfl [.int .i64 (n : Int), .map (some w.heap.size), .slice none 0 0, .bool false, .int .i64 (-1), .int .i64 (-1), .int .i64 0] rfl ?_; intro w1 hb m1 z1)
  go_ret2
  rw [World.size_alloc] at hb
  have hF : Firm w1 w.heap.size (fun _ => fil 0) := Firm.keep Firm.new m1 (by simp)
  exact ⟨w.heap.size + 1, w.heap.size, rfl, ⟨hb, hF, OwnG.nil _ _ _ _, ⟨h2, by simp [St.new], by simp [St.new], by simp [St.new], by simp [St.new], by simp [St.new]⟩, Nat.zero_le _⟩, (Mod.alloc [] w _).then m1, by omega, Nat.le_refl _⟩

end
section
open Go.RowKit
/-- The sectors of these writes, as numbers lie. -/
def sects (l : Story) : List Value := l.map fun p => .int .i64 p.1
theorem take_set_snoc {α : Type} : ∀ (l : List α) (k : Nat) (v : α), k < l.length → (l.set k v).take (k + 1) = l.take k ++ [v]
  | [], k, v, h => by simp at h
  | x :: l, 0, v, _ => by simp
  | x :: l, k + 1, v, h => by simp [take_set_snoc l k v (by simpa using h)]
set_option maxRecDepth 100000 in
set_option maxHeartbeats 2000000 in
theorem pending_c (S : St) (g m : Nat) (A : Option Addr) (c n : Nat) (w : World) (D : DAt w g m A c S) (hn : n = S.loose.length) : Calls Tryd.prog 50 #[.pointer (some ⟨g, 0, none⟩)] w fun e w' =>
    ∃ gp, e = .returned (.slice (some ⟨gp, 0, none⟩) n n) ∧ Holds w' gp 3 (sects S.loose) ∧ Mod [] w w' ∧ w.heap.size ≤ gp := by
  have c2 := (dc_cells D.blk).2.2.1
  obtain ⟨it, hq⟩ := info_of 3 (by kernel_rfl)
  have hz : it.zero = some (.int .i64 0) := by
    have : (Tryd.prog.info? 3).bind (·.zero) = some (.int .i64 0) := by kernel_rfl
    rw [hq] at this
    exact this
  have hs : it.size = 1 := by
    have : (Tryd.prog.info? 3).map (·.size) = some 1 := by kernel_rfl
    rw [hq] at this
    simpa using this
  have hby : it.bytes = 8 := by
    have : (Tryd.prog.info? 3).map (·.bytes) = some 8 := by kernel_rfl
    rw [hq] at this
    simpa using this
  have hlong := D.long
  rw [← hn] at c2 hlong
  have HD := Lib.hid (And.intro D hn)
  clear D hn
  have hlZ : (n : Int) ≤ 1099511627776 := by omega
  go_enter Tryd.func50, Tryd.ntmps50
  go_wp2_with (with_reducible refine wpList_makeG (o := ⟨some 14, .makeSlice 54 (.tmp 13) (.tmp 13), _, _, _, _⟩) rfl 54 (.tmp 13) (.tmp 13) rfl 3 it _ 1 8 n Tryd.underlying54 hq hz hs hby rfl rfl (by omega) (by omega) ?_
               intro w1 cs hc hl _ m1 z1
               have D1 := HD.out.1.keep m1 (by simp) (by simp) (by simp)
               have c3 := (dc_cells D1.blk).2.2.1
               rw [← HD.out.2] at c3
               replace z1 := Lib.hid z1)
  replace z1 := z1.out
  obtain ⟨gp, hg⟩ : ∃ gp, gp = w.heap.size := ⟨_, rfl⟩
  rw [← hg] at hc ⊢
  have HZ := Lib.hid (And.intro m1 (And.intro (show w.heap.size ≤ gp by omega) (And.intro (show cs.length = n by omega) (And.intro hc D1))))
  clear m1 z1 hl hc D1 c2 c3 hq hz hs hby hg
  obtain ⟨wo, hwo⟩ : ∃ wo, wo = w1 := ⟨_, rfl⟩
  have HW := Lib.hid hwo
  clear hwo
  go_loopw [21] (fun i wi => ∃ k : Nat, k ≤ n ∧ i = .int .i64 (k : Int) ∧ Mod [gp] wo wi ∧ ∃ cs : List Value, cs.length = n ∧ Holds wi gp 3 cs ∧ cs.take k = sects (S.loose.take k)) (fun i _ => n - (intOf i).toNat)
  case atStart => exact ⟨0, by omega, rfl, by rw [HW.out]; exact Mod.refl _ _, cs, HZ.out.2.2.1, HZ.out.2.2.2.1, by simp [sects]⟩
  case round =>
    obtain ⟨k, hk, rfl, hmi, ds, hds, hhi, htk⟩ := hrel
    by_cases hkn : k < n
    · have hkl : k < S.loose.length := by rw [← HD.out.2]; exact hkn
      obtain ⟨ga, oa, rfl, hce⟩ := HZ.out.2.2.2.2.loose.cells.elem' wc 65 (by omega) wc_length k hkl
      have hgne : ga ≠ gp := by
        have h1 := HD.out.1.loose.lt _ rfl
        have h2 := HZ.out.2.1
        simp at h1
        omega
      rw [← HW.out] at hce
      have hci := hce.keep hmi (by simpa using hgne)
      obtain ⟨p, hp⟩ : ∃ p, p = S.loose[k] := ⟨_, rfl⟩
      rw [← hp] at hci
      have hnx : ((ds.set k (.int .i64 p.1)).take (k + 1)) = sects (S.loose.take (k + 1)) := by
        rw [take_set_snoc ds k _ (by omega), htk, List.take_add_one, List.getElem?_eq_getElem hkl, ← hp]
        simp [sects]
      have HN := Lib.hid (And.intro hnx (And.intro hds hhi))
      clear hp hce htk hnx hds
      have hgi := hhi.lt
      go_wp2_with (first
        | (with_reducible refine wpList_loads (o := ⟨some 25, .load 92 (.tmp 24), _, _, _, _⟩) rfl 92 (.tmp 24) rfl ga (oa + k * 65) _ rfl hci _ Tryd.underlying92 rfl (by rw [wc_length]; exact size128) (wv p) rfl ?_)
        | (with_reducible refine wpList_allocs (o := ⟨some 5, .alloc 92, _, _, _, _⟩) rfl 92 rfl _ zero128 ?_; intro w2 hb2 m2 z2; replace z2 := Lib.hid z2)
        | (with_reducible refine wpList_storesAll (o := ⟨none, .store 92 (.tmp 5) (.tmp 25), _, _, _, _⟩) rfl 92 (.tmp 5) (.tmp 25) rfl rfl wr.heap.size (wc p) rfl (wv p) rfl rfl 92 _ hb2 (by rw [wc_length, wc_length]) (wc_one p) (by rw [wc_length]; exact size128) ?_
           intro w3 hb3 m3 z3
           have e0 := hb3.cell 0
           simp only [wc, List.getElem?_cons_zero] at e0
           have mx : Mod [] wr w3 := ⟨m3.os.trans m2.os, m3.tape.trans m2.tape, m3.output.trans m2.output, Nat.le_trans m2.size m3.size, fun i hi hn => (m3.block i (by have := m2.size; omega) (by simp; omega)).trans (m2.block i hi hn)⟩
           have hh3 := HN.out.2.2.keep mx (by simp)
           have e1 := hh3.cell k
           have e2 := hh3.free k
           rw [List.getElem?_eq_getElem (show k < ds.length by rw [HN.out.2.1]; exact hkn)] at e1
           generalize ds[k]'(by rw [HN.out.2.1]; exact hkn) = old at e1
           replace z3 := Lib.hid z3
           clear hb2 m2 m3 hb3))
      exact ⟨⟨k + 1, by omega, by go_num, (hmi.then mx).trans (Mod.setCell (ms := [gp]) w3 (p := ⟨gp, k, none⟩) (by simp) _) (fun _ _ h => h), ds.set k (.int .i64 p.1), by rw [List.length_set]; exact HN.out.2.1, hh3.set k _, HN.out.1⟩, by simp [intOf]; omega⟩
    · obtain rfl : n = k := by omega
      have hall : ds = sects S.loose := by
        have h1 : ds.take n = ds := List.take_of_length_le (by omega)
        have h2 : S.loose.take n = S.loose := List.take_of_length_le (by rw [← HD.out.2]; omega)
        rw [h1, h2] at htk
        exact htk
      rw [hall] at hhi
      rw [HW.out] at hmi
      have HZ2 := Lib.hid (And.intro hhi hmi)
      clear hhi hmi htk hall hds
      go_wp2
      go_ret
      obtain ⟨q1, q2⟩ := HZ2.out
      obtain ⟨z1, z2, _⟩ := HZ.out
      exact ⟨gp, rfl, q1, ⟨q2.os.trans z1.os, q2.tape.trans z1.tape, q2.output.trans z1.output, Nat.le_trans z1.size q2.size, fun k hk hn => by
        rw [q2.block k (by have := z1.size; omega) (by simp; omega), z1.block k hk (by simp)]⟩, z2⟩
end
end Go.Proofs.YtcoedhemlghjoaaDoor
