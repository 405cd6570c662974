/-
  Package disk: a disk in memory, whole; what is done when it may be done. Contracts of mine.
-/
import Derived.Test.YtpdpahkhfilmpaaRow
import Derived.Test.YtpdpahkhfilmpaaDiskC
import Derived.Test.YtpdpahkhfilmpaaDiskH
import Derived.Test.YtpdpahkhfilmpaaExec
namespace Go.Proofs.Ytpdpahkhfilmpaa
open Go.RowKit

abbrev OwnW (w : World) (A : Option Addr) (c : Nat) (l : Story) : Prop := OwnG wc 84 65 w A c l
/-- At g lies a disk that stands as S. -/
structure DAt (w : World) (g m : Nat) (A : Option Addr) (c : Nat) (S : St) : Prop where
  blk : Holds w g 74 (dc S m (.slice A S.loose.length c))
  firm : Firm w m S.firm
  loose : OwnW w A c S.loose
  fits : Fits S
  few : S.loose.length ≤ S.ops
theorem DAt.keep {w v : World} {g m c : Nat} {A : Option Addr} {S : St} {ms : List Nat} (h : DAt w g m A c S) (k : Mod ms w v) (h1 : g ∉ ms) (h2 : m ∉ ms) (h3 : ∀ a, A = some a → a.block ∉ ms) : DAt v g m A c S :=
  ⟨h.blk.keep k h1, h.firm.keep k h2, h.loose.keep k h3, h.fits, h.few⟩
theorem DAt.long {w : World} {g m c : Nat} {A : Option Addr} {S : St} (h : DAt w g m A c S) : S.loose.length ≤ 1099511627776 := Nat.le_trans h.few h.fits.ops
/-- Only block g may have turned, and its cells are those of T. -/
theorem DAt.turn {w v : World} {g m c : Nat} {A : Option Addr} {S T : St} (h : DAt w g m A c S) (k : Mod [g] w v) (hb : Holds v g 74 (dc T m (.slice A S.loose.length c))) (e1 : T.loose = S.loose) (e2 : T.firm = S.firm) (hf : Fits T) (ho : S.ops ≤ T.ops) : DAt v g m A c T := by
  refine ⟨by rw [e1]; exact hb, by rw [e2]; exact h.firm.keep k (by simpa using (h.firm.ne_holds h.blk).symm), by rw [e1]; exact h.loose.keep k (fun a ha => by simpa using h.loose.ne h.blk (by decide) a ha), hf, by rw [e1]; exact Nat.le_trans h.few ho⟩

set_option maxRecDepth 100000 in
set_option maxHeartbeats 4000000 in
theorem write1_c (S : St) (g m b2 b3 b4 : Nat) (A : Option Addr) (c : Nat) (i : Int) (b : Blk) (w : World) (h : Holds w g 74 (dc S m (.slice A S.loose.length c))) (ho : OwnW w A c S.loose) (hn : S.loose.length ≤ 1099511627776)
    (h2 : Holds w b2 24 [.pointer (some ⟨g, 0, none⟩)]) (h3 : Holds w b3 3 [.int .i64 i]) (h4 : Holds w b4 39 (bc b)) :
    Calls Try.prog 46 #[.pointer (some ⟨b2, 0, none⟩), .pointer (some ⟨b3, 0, none⟩), .pointer (some ⟨b4, 0, none⟩)] w fun e w' => e = .returned (.tuple #[]) ∧
      ∃ A' c', Holds w' g 74 (dc S m (.slice A' (S.loose.length + 1) c')) ∧ OwnW w' A' c' (S.loose ++ [(i, b)]) ∧ Mod (g :: blk A) w w' ∧ (∀ a, A' = some a → a.block ∈ blk A ∨ w.heap.size ≤ a.block) := by
  obtain ⟨it, hq⟩ := info_of 84 (by kernel_rfl)
  have hz : it.zero = some (.agg (wc (0, fil 0)).toArray) := by
    have : (Try.prog.info? 84).bind (·.zero) = some (.agg (wc (0, fil 0)).toArray) := by kernel_rfl
    rw [hq] at this
    exact this
  have hs : it.size = 65 := by have := size84; rw [hq] at this; simpa using this
  have hby : it.bytes = 72 := by
    have : (Try.prog.info? 84).map (·.bytes) = some 72 := by kernel_rfl
    rw [hq] at this
    simpa using this
  have hgA : g ∉ blk A := fun hh => by
    unfold blk at hh
    simp only [Option.mem_toList, Option.map_eq_some_iff] at hh
    obtain ⟨a, ha, hb⟩ := hh
    exact ho.ne h (by decide) a ha hb
  -- the worlds behind the draw, behind the literal, behind the append, behind the store
  obtain ⟨w1, hw1⟩ : ∃ v, v = w.drew := ⟨_, rfl⟩
  obtain ⟨w2, hw2⟩ : ∃ v, v = w1.alloc (.cells (wc (i, b)).toArray 84) := ⟨_, rfl⟩
  have m1 : Mod [] w w1 := by rw [hw1]; exact Mod.drew [] w
  have z1 : w1.heap.size = w.heap.size := by rw [hw1]; rfl
  have m2 : Mod [] w1 w2 := by rw [hw2]; exact Mod.alloc [] w1 _
  have hl2 : Holds w2 w1.heap.size 84 (wc (i, b)) := by rw [hw2]; exact Holds.made w1 84 _
  have m12 : Mod [] w w2 := m1.then m2
  have ho2 : OwnW w2 A c S.loose := ho.keep m12 (by simp)
  obtain ⟨v', w3, hrun, hown', hgr, _, hbl⟩ := run_append_own_at (P := Try.prog) w2 0 70 70 84 it _ 65 72 Try.underlying70 hq hz hs hby (by simp [Value.cells, wc_length]) (by omega) _ _ _ ho2 ⟨w1.heap.size, 0, none⟩ 1 1 (wc (i, b)) (by rw [wc_length])
    (fun j u hu => by rw [add_plain, Nat.zero_add, hl2.cell]; exact hu) (wc_one _) (by unfold maxLen; omega) (by omega) (Nat.zero_le _)
  obtain ⟨A', c', rfl⟩ : ∃ A' c', v' = .slice A' (S.loose.length + 1) c' := by
    rcases hown'.2 with ⟨hv, hn⟩ | ⟨g, cap, cur, hv, _⟩
    · omega
    · exact ⟨_, _, hv⟩
  have hob : ∀ (A : Option Addr) n c, (Value.slice A n c).ownBlock = A.map (·.block) := by intro A n c; cases A <;> rfl
  rw [hob] at hgr
  rw [hob, hob] at hbl
  have hO3 : OwnW w3 A' c' (S.loose ++ [(i, b)]) := by
    have := hown'
    unfold OwnW OwnG
    simpa using this
  have m3 : Mod (blk A) w2 w3 := ⟨hgr.os, hgr.tape, hgr.output, hgr.size, fun j hj hn => hgr.block j hj (fun hh => hn (by unfold blk; rw [← hh]; simp))⟩
  have m13 : Mod (blk A) w w3 := m12.pre m3
  have hd1 := h.keep m1 (by simp)
  have hd2 := h.keep m12 (by simp)
  have hd3 := h.keep m13 hgA
  have hbx : ∀ a, A = some a → a.block ≠ b2 := ho.ne h2 (by decide)
  have hb2A : b2 ∉ blk A := fun hh => by
    unfold blk at hh
    simp only [Option.mem_toList, Option.map_eq_some_iff] at hh
    obtain ⟨a, ha, hb⟩ := hh
    exact hbx a ha hb
  have hb3A : b3 ∉ blk A := fun hh => by
    unfold blk at hh
    simp only [Option.mem_toList, Option.map_eq_some_iff] at hh
    obtain ⟨a, ha, hb⟩ := hh
    exact ho.ne h3 (by decide) a ha hb
  obtain ⟨w4, hw4⟩ : ∃ v, v = w3.setCell ⟨g, 2, none⟩ (.slice A' (S.loose.length + 1) c') := ⟨_, rfl⟩
  have m4 : Mod [g] w3 w4 := by rw [hw4]; exact Mod.setCell _ (by simp) _
  have hd4 : Holds w4 g 74 (dc S m (.slice A' (S.loose.length + 1) c')) := by rw [hw4]; exact hd3.set 2 _
  have hO4 : OwnW w4 A' c' (S.loose ++ [(i, b)]) := OwnG.keep hO3 m4 (fun a ha => by simpa using hO3.ne hd3 (by decide) a ha)
  have hM : Mod (g :: blk A) w w4 := (m13.wk (fun i _ h => by simp [h])).trans m4 (fun i _ h => by simp at h; simp [h])
  have hA2 : ∀ a, A' = some a → a.block ∈ blk A ∨ w.heap.size ≤ a.block := fun a ha => by
    subst ha
    rcases hbl with hh | hh
    · left; unfold blk; rw [← hh]; simp
    · right; simp at hh; have := m12.size; omega
  -- what is read is the same whenever it is read
  have hgb2 : b2 ≠ g := fun e => by subst e; exact h2.ne h (by decide) rfl
  have hgb3 : b3 ≠ g := fun e => by subst e; exact h3.ne h (by decide) rfl
  have hgb4 : b4 ≠ g := fun e => by subst e; exact h4.ne h (by decide) rfl
  have hb4A : b4 ∉ blk A := fun hh => by
    unfold blk at hh
    simp only [Option.mem_toList, Option.map_eq_some_iff] at hh
    obtain ⟨a, ha, hb⟩ := hh
    exact ho.ne h4 (by decide) a ha hb
  have kp : ∀ {k t cs}, Holds w k t cs → k ∉ blk A → k ≠ g → ∀ v, (v = w1 ∨ v = w2 ∨ v = w3 ∨ v = w4) → Holds v k t cs := by
    rintro k t cs hk h1 h5 v (rfl | rfl | rfl | rfl)
    · exact hk.keep m1 (by simp)
    · exact hk.keep m12 (by simp)
    · exact hk.keep m13 h1
    · exact (hk.keep m13 h1).keep m4 (by simpa using h5)
  have rd2 : ∀ v, (v = w1 ∨ v = w2 ∨ v = w3 ∨ v = w4) → (loadVar 24 ⟨b2, 0, none⟩).run Try.prog v = .ok (.pointer (some ⟨g, 0, none⟩)) v := fun v hv => run_load1 Try.underlying24 rfl ((kp h2 hb2A hgb2 v hv).cell 0)
  have rd3 : ∀ v, (v = w1 ∨ v = w2 ∨ v = w3 ∨ v = w4) → (loadVar 3 ⟨b3, 0, none⟩).run Try.prog v = .ok (.int .i64 i) v := fun v hv => run_load1 Try.underlying3 rfl ((kp h3 hb3A hgb3 v hv).cell 0)
  have rb : ∀ v, (v = w1 ∨ v = w2 ∨ v = w3 ∨ v = w4) → (loadVar 39 ⟨b4, 0, none⟩).run Try.prog v = .ok (bv b) v := fun v hv => run_loads (Cells.of_holds (kp h4 hb4A hgb4 v hv)) Try.underlying39 rfl (by rw [bc_length]; exact size39)
  have rg : ∀ v, (v = w1 ∨ v = w2) → (loadVar 70 ⟨g, 2, none⟩).run Try.prog v = .ok (.slice A S.loose.length c) v := by
    rintro v (rfl | rfl)
    · exact run_load1 Try.underlying70 rfl (hd1.cell 2)
    · exact run_load1 Try.underlying70 rfl (hd2.cell 2)
  have rl : (Instr.buildSlice 70 1 #[(0, wv (i, b))]).run Try.prog w1 = .ok (.slice (some ⟨w1.heap.size, 0, none⟩) 1 1) w2 := by rw [hw2]; exact run_lit70 (i, b) w1
  have rs : w3.frozen? ⟨g, 2, none⟩ = false := hd3.free 2
  have rs2 : w3.cell? ⟨g, 2, none⟩ = some (.slice A S.loose.length c) := hd3.cell 2
  obtain ⟨i70, hi70⟩ := info_of 70 (by kernel_rfl)
  have hs70 : i70.size = 1 := by have : (Try.prog.info? 70).map (·.size) = some 1 := by kernel_rfl
                                 rw [hi70] at this; simpa using this
  clear hd1 hd2 hd3 hO3 hgr hbl hown' ho2 hl2 hq hz hs hby m1 m2 m12 m3 m13 m4 kp
  go_enter Try.func46, Try.ntmps46
  go_wp2_with fail
  refine wp_region_det 17 (fun s => match s with
    | 0 => .pointer (some ⟨b2, 0, none⟩) | 1 => .pointer (some ⟨b3, 0, none⟩) | 2 => .pointer (some ⟨b4, 0, none⟩)
    | 7 => .pointer (some ⟨g, 2, none⟩) | 8 => .slice A S.loose.length c | 9 => .int .i64 i | 10 => bv b | 11 => wv (i, b) | 12 => .slice (some ⟨w1.heap.size, 0, none⟩) 1 1
    | 13 => .slice A' (S.loose.length + 1) c' | 16 => .pointer (some ⟨g, 2, none⟩) | _ => .pointer (some ⟨g, 0, none⟩)) [0, 1, 2]
    (fun l v => (l 9 = false ∧ l 10 = false ∧ l 14 = false ∧ v = w1) ∨ (l 9 = true ∧ l 10 = false ∧ l 14 = false ∧ v = w2) ∨ (l 9 = true ∧ l 10 = true ∧ l 14 = false ∧ l 5 = true ∧ v = w3) ∨ (l 9 = true ∧ l 10 = true ∧ l 14 = true ∧ l 5 = true ∧ v = w4)) []
    (by kernel_rfl) rfl rfl (by intro s hs; simp at hs; rcases hs with rfl | rfl | rfl <;> rfl) (.inl ⟨rfl, rfl, rfl, hw1.symm⟩) (drawnB_lt (nt := 17) (by kernel_rfl)) (drawnB_dst (by kernel_rfl)) ?step ?fin
  case step =>
    intro l T v j o hj hlj hdep hst hpar hgot K hK
    have hj15 : j < 15 := (Array.getElem?_eq_some_iff.1 hj).1
    have hv : v = w1 ∨ v = w2 ∨ v = w3 ∨ v = w4 := by
      rcases hst with ⟨_, _, _, h⟩ | ⟨_, _, _, h⟩ | ⟨_, _, _, _, h⟩ | ⟨_, _, _, _, h⟩ <;> simp [h]
    obtain rfl | rfl | rfl | rfl | rfl | rfl | rfl | rfl | rfl | rfl | rfl | rfl | rfl | rfl | rfl : j = 0 ∨ j = 1 ∨ j = 2 ∨ j = 3 ∨ j = 4 ∨ j = 5 ∨ j = 6 ∨ j = 7 ∨ j = 8 ∨ j = 9 ∨ j = 10 ∨ j = 11 ∨ j = 12 ∨ j = 13 ∨ j = 14 := by omega
    all_goals (have hj' := Option.some.inj (hj : some _ = some o); subst hj'; clear hj)
    · exact wp_ran rfl (exec_load rfl (eval_tmp (hpar 0 (by simp))) (rd2 v hv)) (hK _ _ (fun s hs => by cases hs; rfl) (by simpa using hst))
    · exact wp_ran rfl (exec_load rfl (eval_tmp (hpar 0 (by simp))) (rd2 v hv)) (hK _ _ (fun s hs => by cases hs; rfl) (by simpa using hst))
    · exact wp_ran rfl (exec_nil rfl (eval_tmp (hgot 1 _ _ rfl (hdep ⟨1, .data⟩ (by simp) rfl) rfl))) (hK _ _ (fun s hs => by cases hs; rfl) (by simpa using hst))
    · exact wp_ran rfl (exec_field74 rfl (eval_tmp (hgot 2 _ _ rfl (hdep ⟨2, .data⟩ (by simp) rfl) rfl))) (hK _ _ (fun s hs => by cases hs; rfl) (by simpa using hst))
    · exact wp_ran rfl (exec_field72_2 rfl (eval_tmp (hgot 3 _ _ rfl (hdep ⟨3, .data⟩ (by simp) rfl) rfl))) (hK _ _ (fun s hs => by cases hs; rfl) (by simpa using hst))
    · exact wp_ran rfl (exec_load rfl (eval_tmp (hgot 4 _ _ rfl (hdep ⟨4, .data⟩ (by simp) rfl) rfl)) (rg v (by rcases hst with ⟨_, _, _, h⟩ | ⟨_, _, _, h⟩ | ⟨_, _, _, h, _⟩ | ⟨_, _, _, h, _⟩; exact .inl h; exact .inr h; (rw [hlj] at h; cases h); (rw [hlj] at h; cases h)))) (hK _ _ (fun s hs => by cases hs; rfl) (by rcases hst with ⟨a, b, c, h⟩ | ⟨a, b, c, h⟩ | ⟨_, _, _, h, _⟩ | ⟨_, _, _, h, _⟩; exact .inl ⟨by simpa using a, by simpa using b, by simpa using c, h⟩; exact .inr (.inl ⟨by simpa using a, by simpa using b, by simpa using c, h⟩); (rw [hlj] at h; cases h); (rw [hlj] at h; cases h)))
    · exact wp_ran rfl (exec_load rfl (eval_tmp (hpar 1 (by simp))) (rd3 v hv)) (hK _ _ (fun s hs => by cases hs; rfl) (by simpa using hst))
    · exact wp_ran rfl (exec_load rfl (eval_tmp (hpar 2 (by simp))) (rb v hv)) (hK _ _ (fun s hs => by cases hs; rfl) (by simpa using hst))
    · exact wp_ran rfl (exec_build84 rfl (eval_tmp (hgot 6 _ _ rfl (hdep ⟨6, .data⟩ (by simp) rfl) rfl)) (eval_tmp (hgot 7 _ _ rfl (hdep ⟨7, .data⟩ (by simp) rfl) rfl))) (hK _ _ (fun s hs => by cases hs; rfl) (by simpa using hst))
    · rcases hst with ⟨a1, a2, a3, rfl⟩ | ⟨a1, _⟩ | ⟨a1, _⟩ | ⟨a1, _⟩
      · exact wp_ran rfl (exec_lit rfl (eval_tmp (hgot 8 _ _ rfl (hdep ⟨8, .data⟩ (by simp) rfl) rfl)) rl) (hK _ _ (fun s hs => by cases hs; rfl) (.inr (.inl ⟨rfl, by simpa using a2, by simpa using a3, rfl⟩)))
      all_goals (rw [hlj] at a1; cases a1)
    · have e9 := (hdep ⟨9, .data⟩ (by simp) rfl)
      have e5 := (hdep ⟨5, .data⟩ (by simp) rfl)
      rcases hst with ⟨a1, a2, a3, rfl⟩ | ⟨a1, a2, a3, rfl⟩ | ⟨_, a1, _⟩ | ⟨_, a1, _⟩
      · rw [show l 9 = true from e9] at a1; cases a1
      · exact wp_ran rfl (exec_append rfl (eval_tmp (hgot 5 _ _ rfl (hdep ⟨5, .data⟩ (by simp) rfl) rfl)) (eval_tmp (hgot 9 _ _ rfl (hdep ⟨9, .data⟩ (by simp) rfl) rfl)) hrun) (hK _ _ (fun s hs => by cases hs; rfl) (.inr (.inr (.inl ⟨by simpa using a1, rfl, by simpa using a3, by simpa using e5, rfl⟩))))
      all_goals (rw [hlj] at a1; cases a1)
    · exact wp_ran rfl (exec_nil rfl (eval_tmp (hgot 0 _ _ rfl (hdep ⟨0, .data⟩ (by simp) rfl) rfl))) (hK _ _ (fun s hs => by cases hs; rfl) (by simpa using hst))
    · exact wp_ran rfl (exec_field74 rfl (eval_tmp (hgot 11 _ _ rfl (hdep ⟨11, .data⟩ (by simp) rfl) rfl))) (hK _ _ (fun s hs => by cases hs; rfl) (by simpa using hst))
    · exact wp_ran rfl (exec_field72_2 rfl (eval_tmp (hgot 12 _ _ rfl (hdep ⟨12, .data⟩ (by simp) rfl) rfl))) (hK _ _ (fun s hs => by cases hs; rfl) (by simpa using hst))
    · have e10 := (hdep ⟨10, .data⟩ (by simp) rfl)
      rcases hst with ⟨_, a1, _, rfl⟩ | ⟨_, a1, _, rfl⟩ | ⟨a0, a1, a2, a5, rfl⟩ | ⟨_, _, a1, _⟩
      · rw [show l 10 = true from e10] at a1; cases a1
      · rw [show l 10 = true from e10] at a1; cases a1
      · exact wp_ran_skip rfl (exec_store1 rfl (eval_tmp (hgot 13 _ _ rfl (hdep ⟨13, .data⟩ (by simp) rfl) rfl)) (eval_tmp (hgot 10 _ _ rfl (hdep ⟨10, .data⟩ (by simp) rfl) rfl)) rfl hi70 hs70 rs2 rs) (hK _ _ (fun s hs => by cases hs) (.inr (.inr (.inr ⟨by simpa using a0, by simpa using a1, rfl, by simpa using a5, hw4.symm⟩))))
      · rw [hlj] at a1; cases a1
  case fin =>
    intro l T v hl hst ht hd hpar hgot
    have e1 : l 9 = true := hl 9 (by decide)
    have e2 : l 10 = true := hl 10 (by decide)
    have e3 : l 14 = true := hl 14 (by decide)
    rcases hst with ⟨a1, _⟩ | ⟨_, a1, _⟩ | ⟨_, _, a1, _⟩ | ⟨_, _, _, _, rfl⟩
    · rw [e1] at a1; cases a1
    · rw [e2] at a1; cases a1
    · rw [e3] at a1; cases a1
    · refine bodyPost_end (results_none rfl _ _ _) hd ?_
      exact ⟨rfl, A', c', hd4, hO4, hM, hA2⟩
end Go.Proofs.Ytpdpahkhfilmpaa
