/-
  Contains, Equal, BinarySearch, Delete over rows of numbers; copied, hasAll. My own work.
-/
import Derived.Test.YtaadmpainikfpaaWc
namespace Go.Proofs.Ytaadmpainikfpaa
open Go.RowKit Go.Shelf
attribute [local go_sem] Oper.semAt_some
set_option linter.unusedVariables false
set_option linter.unusedSimpArgs false
theorem take_all {l : List Int} {n : Nat} (h : n = l.length) : l.take n = l := List.take_of_length_le (by omega)
theorem contains_c (A : Option Addr) (n c : Nat) (l : List Int) (x : Int) (b : Bool) (w : World) (h : RI w A n c l) (hb : Hid (l.contains x = b)) : Calls Try.prog 33 #[.slice A n c, ci x] w fun e w' => e = .returned (.bool b) ∧ w' = w := by
  have hl := h.len
  have hbig := h.big
  have hcap := h.cap
  rcases Nat.eq_zero_or_pos n with h0 | h0
  · subst h0
    have hn : l = [] := List.eq_nil_of_length_eq_zero hl.symm
    subst hn
    refine (Try.slices_Contains_int_empty A c x w).mono ?_
    rintro e w' ⟨rfl, rfl⟩
    exact ⟨by rw [← hb.out]; rfl, rfl⟩
  · obtain ⟨g, o, rfl, hc⟩ := h.base h0
    exact (Try.slices_Contains_int g o n c l x w (by omega) (by omega) (fun j hj => hc j (by omega))).mono (by
      rintro e w' ⟨rfl, rfl⟩
      exact ⟨by rw [take_all hl, hb.out], rfl⟩)
theorem equal_c (A B : Option Addr) (n c m d : Nat) (l k : List Int) (b : Bool) (w : World) (h : RI w A n c l) (h2 : RI w B m d k) (hb : Hid ((l == k) = b)) : Calls Try.prog 36 #[.slice A n c, .slice B m d] w fun e w' => e = .returned (.bool b) ∧ ∃ q, w' = w.drewN q := by
  have hl := h.len
  have hbig := h.big
  have hcap := h.cap
  have hl2 := h2.len
  have hbig2 := h2.big
  have hcap2 := h2.cap
  by_cases hnm : n = m
  case neg =>
    refine (Try.slices_Equal_int_lens A B n c m d w hnm).mono ?_
    rintro e w' ⟨rfl, rfl⟩
    refine ⟨?_, 0, rfl⟩
    have : (l == k) = false := by
      rw [beq_eq_false_iff_ne]
      intro e
      subst e
      omega
    rw [← hb.out, this]
  case pos =>
  rcases Nat.eq_zero_or_pos n with h0 | h0
  · subst h0
    refine (Try.slices_Equal_int_empty A B c m d w (by omega)).mono ?_
    rintro e w' ⟨rfl, rfl⟩
    refine ⟨?_, 0, rfl⟩
    have e1 : l = [] := List.eq_nil_of_length_eq_zero hl.symm
    have e2 : k = [] := List.eq_nil_of_length_eq_zero (by omega)
    subst e1 e2
    rw [← hb.out, ← hnm]
    rfl
  · obtain ⟨g, o, rfl, hc⟩ := h.base h0
    obtain ⟨g2, o2, rfl, hc2⟩ := h2.base (by omega)
    refine (Try.slices_Equal_int g o n c g2 o2 m d l k w (by omega) (by omega) (by omega) (by omega) (fun j hj => hc j (by omega)) (fun j hj => hc2 j (by omega))).mono ?_
    rintro e w' ⟨rfl, q, rfl⟩
    exact ⟨by rw [take_all hl, take_all hl2, hb.out], q, rfl⟩
theorem bsearch_c (A : Option Addr) (n c : Nat) (l : List Int) (x : Int) (b : Bool) (i : Nat) (w : World) (h : RI w A n c l) (hu : l.Pairwise (· < ·)) (hn : n ≤ 1000) (hb : Hid (l.contains x = b)) (hi : Hid (ahead l x = i)) : Calls Try.prog 52 #[.slice A n c, ci x] w fun e w' => e = .returned (.tuple #[.int .i64 (i : Int), .bool b]) ∧ ∃ q, w' = w.drewN q := by
  have hl := h.len
  rcases Nat.eq_zero_or_pos n with h0 | h0
  · subst h0
    have hn : l = [] := List.eq_nil_of_length_eq_zero hl.symm
    subst hn
    refine (Try.slices_BinarySearch_int_empty A c x w).mono ?_
    rintro e w' ⟨rfl, rfl⟩
    exact ⟨by rw [← hb.out, ← hi.out]; rfl, 0, rfl⟩
  · obtain ⟨g, o, rfl, hc⟩ := h.base h0
    refine (Try.slices_BinarySearch_int g o n c l x w (by omega) (by omega) (fun j hj => hc j (by omega)) (by rw [take_all hl]; exact hu.imp fun h => Int.le_of_lt h)).mono ?_
    rintro e w' ⟨rfl, q, rfl⟩
    refine ⟨?_, q, rfl⟩
    rw [take_all hl, hb.out, ← hi.out]
    rfl
theorem delete_c (A : Option Addr) (n c i : Nat) (l : List Int) (w : World) (h : OI w A c l) (hn : n = l.length) (hi : i < n) :
    Calls Try.prog 54 #[.slice A n c, .int .i64 i, .int .i64 ((i : Int) + 1)] w (InsR w A (n - 1) (l.take i ++ l.drop (i + 1))) := by
  have hri := h.ri n hn
  have hbig := hri.big
  have hcap := hri.cap
  rcases h.open' with ⟨rfl, rfl, rfl⟩ | ⟨g, sp, rfl, hg, hc, hcb⟩
  · simp at hn; omega
  have hc1 : ∀ j, j < l.length → w.cell? ⟨g, 0 + j, none⟩ = some (.int .i64 (l.getD j 0)) := fun j hj => by
    rw [Nat.zero_add, hg.cell, List.getElem?_append_left (by simpa using hj), List.getElem?_map, List.getElem?_eq_getElem hj, gd hj]
    rfl
  have hj1 : ((i : Int) + 1) = ((i + 1 : Nat) : Int) := by omega
  rw [hj1]
  refine (Try.slices_Delete_int_cells g 0 n c i (i + 1) l w (by omega) hcap (by omega) (by omega) (by omega) hc1 (fun j _ => hg.free _)).mono ?_
  rintro e w' ⟨rfl, q, rfl⟩
  rw [take_all hn, show i + 1 - i = 1 by omega]
  have hlen : ((l.take i ++ l.drop (i + 1) ++ List.replicate 1 0).map (Value.int .i64)).length = l.length := by simp; omega
  have H1 := Holds.setCells ((l.take i ++ l.drop (i + 1) ++ List.replicate 1 0).map (Value.int .i64)) 0 (hg.drewN q) (by rw [hlen]; simp)
  rw [List.take_zero, List.nil_append, Nat.zero_add, hlen, List.drop_left' (by simp)] at H1
  have e1 : (l.take i ++ l.drop (i + 1) ++ List.replicate 1 0).map (Value.int .i64) ++ sp = (l.take i ++ l.drop (i + 1)).map ci ++ (ci 0 :: sp) := by simp
  rw [e1] at H1
  refine ⟨_, _, rfl, OwnG.shut H1 _ (by simp; omega) hcb, ?_, ?_⟩
  · exact (Mod.drewN [g] w q).trans (Mod.setCells (g := g) _ 0 _) (fun _ _ h => h)
  · rintro a ⟨⟩
    exact .inl (by simp [blk])
theorem info3 : ∃ i : TypeInfo, Try.prog.info? 3 = some i ∧ i.zero = some (ci 0) ∧ i.size = 1 ∧ i.bytes = 8 :=
  info_parts (show (Try.prog.info? 3).map (fun i => (i.zero, i.size, i.bytes)) = some (some (ci 0), 1, 8) by kernel_rfl)
theorem fz_one (x : Int) : ∀ v ∈ fz x, v.oneCell' = true := by simp [fz, Value.oneCell']
/-- A row that stands, behind an own one, as a run. -/
theorem run_appI (w : World) (ot : TypeId) (A : Option Addr) (n c : Nat) (l : List Int) (hn : n = l.length) (h : OI w A c l) (X : Option Addr) (m d : Nat) (k : List Int) (hr : RI w X m d k) (hb : n + m ≤ 1000000) :
    ∃ A' c' v, (Builtin.append_ #[22, 22] ot #[.slice A n c, .slice X m d]).run Try.prog w = .ok (.slice A' (l ++ k).length c') v ∧ OI v A' c' (l ++ k) ∧ Mod (blk A) w v ∧ (∀ a, A' = some a → a.block ∈ blk A ∨ w.heap.size ≤ a.block) := by
  obtain ⟨i0, i1, i2, i3, i4⟩ := info3
  have hm := hr.len
  exact run_appendG2 (f := fz) (P := Try.prog) w 22 ot 3 i0 (ci 0) 8 Try.underlying22 i1 i2 i3 i4 (by rfl) (by decide) (fun _ => rfl) fz_one A n c l hn h X m d k hm (by rw [fz_flat]; exact hr.cells) (by omega) (by unfold maxLen; omega)
set_option maxHeartbeats 400000 in
theorem copied_c (A : Option Addr) (n c : Nat) (l : List Int) (w : World) (h : RI w A n c l) (hn : n ≤ 1000) : Calls Try.prog 55 #[.slice A n c] w fun e w' => ∃ A' c', e = .returned (.slice A' n c') ∧ OI w' A' c' l ∧ Mod [] w w' ∧ ∀ a, A' = some a → w.heap.size ≤ a.block := by
  have hl := h.len
  obtain ⟨A', c', v, hrun, hO, hm, hbl⟩ := run_appI w 22 none 0 0 [] rfl (OwnG.nil fz 3 1 w) A n c l h (by omega)
  rw [List.nil_append, ← hl] at hrun
  rw [List.nil_append] at hO
  have hm' : Mod [] w v := hm
  clear h hl hm
  go_enter Try.func55, Try.ntmps55
  go_wp2_with (at_builtin; with_reducible refine wpList_appended (o := ⟨some 4, _, _, _, _, _⟩) (.slice A' n c') v (U := .slice none 0 0) (X := .slice A n c) rfl (.const (.slice none 0 0)) (.tmp 3) 22 rfl rfl rfl hrun ?_)
  go_ret
  refine ⟨A', c', rfl, hO, hm', fun a ha => ?_⟩
  rcases hbl a ha with h | h
  · simp [blk] at h
  · exact h
end Go.Proofs.Ytaadmpainikfpaa
