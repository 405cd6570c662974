/-
  Package disk: Write, Sync, Crash. Contracts of mine.
-/
import Derived.Test.YtpdpahkhfilmpaaDiskG
namespace Go.Proofs.Ytpdpahkhfilmpaa
open Go.RowKit

theorem OwnG.ne_firm {α : Type} {f : α → List Value} {e : TypeId} {size : Nat} {w : World} {A : Option Addr} {c : Nat} {l : List α} {m : Nat} {fm : Int → Blk} (h : OwnG f e size w A c l) (h' : Firm w m fm) : ∀ a, A = some a → a.block ≠ m := by
  obtain ⟨es, ck, hm, _⟩ := h'
  rcases h.2 with ⟨hv, hn⟩ | ⟨k, cap, cur, hv, hb, hg, h1, h2, _⟩
  · injection hv with h1 h2 h3
    subst h1
    simp
  · injection hv with h3 h4 h5
    subst h3
    rintro _ ⟨⟩
    exact hm.ne_cells hg
theorem notin_blk {A : Option Addr} {k : Nat} (h : ∀ a, A = some a → a.block ≠ k) : k ∉ blk A := fun hh => by
  unfold blk at hh
  simp only [Option.mem_toList, Option.map_eq_some_iff] at hh
  obtain ⟨a, ha, hb⟩ := hh
  exact h a ha hb
theorem mem_blk {A : Option Addr} {k : Nat} (h : k ∈ blk A) : ∃ a, A = some a ∧ a.block = k := by
  unfold blk at h
  simpa only [Option.mem_toList, Option.map_eq_some_iff] using h
theorem dat_blk_lt {w : World} {g m c : Nat} {A : Option Addr} {S : St} (h : DAt w g m A c S) : ∀ k ∈ blk A, k < w.heap.size := fun k hk => by
  obtain ⟨a, ha, rfl⟩ := mem_blk hk
  exact h.loose.lt a ha

set_option maxRecDepth 100000 in
set_option maxHeartbeats 2000000 in
theorem write_c (S : St) (g m : Nat) (A : Option Addr) (c : Nat) (i : Int) (b : Blk) (w : World) (D : DAt w g m A c S) (ho : S.ops + 1 ≤ 1099511627776) :
    Calls Try.prog 21 #[.pointer (some ⟨g, 0, none⟩), .int .i64 i, bv b] w fun e w' => e = .returned (.int .i64 (S.write i b).1) ∧ ∃ A' c', DAt w' g m A' c' (S.write i b).2 ∧ Mod (g :: blk A) w w' ∧ (∀ a, A' = some a → a.block ∈ blk A ∨ w.heap.size ≤ a.block) := by
  have hlt := D.blk.lt
  go_enter Try.func21, Try.ntmps21
  go_wp2_with (first
    | (with_reducible refine wpList_boxes (o := ⟨some 3, .box 24 (.tmp 0), _, _, _, _⟩) rfl 24 (.tmp 0) rfl _ rfl [.pointer (some ⟨g, 0, none⟩)] rfl ?_; intro w1 hb1 m1 z1; replace z1 := Lib.hid z1)
    | (with_reducible refine wpList_boxes (o := ⟨some 4, .box 3 (.tmp 1), _, _, _, _⟩) rfl 3 (.tmp 1) rfl _ rfl [.int .i64 i] rfl ?_; intro w2 hb2 m2 z2; replace z2 := Lib.hid z2)
    | (with_reducible refine wpList_boxes (o := ⟨some 5, .box 39 (.tmp 2), _, _, _, _⟩) rfl 39 (.tmp 2) rfl (bv b) rfl (bc b) (bv_cells b) ?_; intro w3 hb3 m3 z3; replace z3 := Lib.hid z3))
  have mm : Mod [] w w3 := (m1.then m2).then m3
  have D4 := D.keep mm (by simp) (by simp) (by simp)
  have k1 : Holds w3 w.heap.size 24 [.pointer (some ⟨g, 0, none⟩)] := (hb1.keep m2 (by simp)).keep m3 (by simp)
  have k2 : Holds w3 w1.heap.size 3 [.int .i64 i] := hb2.keep m3 (by simp)
  have k3 : Holds w3 w2.heap.size 39 (bc b) := hb3
  replace z1 := z1.out
  replace z2 := z2.out
  replace z3 := z3.out
  obtain ⟨b1, e1⟩ : ∃ b, b = w.heap.size := ⟨_, rfl⟩
  obtain ⟨b2, e2⟩ : ∃ b, b = w1.heap.size := ⟨_, rfl⟩
  obtain ⟨b3, e3⟩ : ∃ b, b = w2.heap.size := ⟨_, rfl⟩
  have o1 : g < b1 := by omega
  have o2 : b1 < b2 := by omega
  have o3 : b2 < b3 := by omega
  have o5 : w.heap.size ≤ b1 := by omega
  rw [← e1] at k1
  rw [← e2] at k2
  rw [← e3] at k3
  rw [← e1, ← e2, ← e3]
  clear e1 e2 e3 hb1 hb2 hb3 m1 m2 m3 z1 z2 z3
  have a1 := k1.cell 0
  have a2 := k2.cell 0
  simp only [List.getElem?_cons_zero] at a1 a2
  have hH := has_c g S.n i w3.drew (D4.blk.cell 0)
  have m5 : Mod [] w w3.drew := mm.then (Mod.drew [] w3)
  have D5 := D4.keep (Mod.drew [] w3) (by simp) (by simp) (by simp)
  replace k1 := k1.keep (Mod.drew [] w3) (by simp)
  replace k2 := k2.keep (Mod.drew [] w3) (by simp)
  replace k3 := k3.keep (Mod.drew [] w3) (by simp)
  go_wp2_with fail
  refine wp_region_still_tail 5 (by kernel_rfl) (by kernel_rfl) ?_
  simp only [List.take_succ_cons, List.take_zero, List.drop_succ_cons, List.drop_zero]
  iterate 3 still_step
  still_call hH
  still_step
  refine wpStill_nil ?_
  clear a1 a2 hH D4 mm
  change wpList _ _ _ _ _ w3.drew
  generalize w3.drew = w5 at *
  obtain ⟨r, hr⟩ : ∃ r, S.ask (S.has i) true = r := ⟨_, rfl⟩
  obtain ⟨f1, f2, f3, f4, f5, f6, f7⟩ := D5.fits.ask (S.has i) true ho
  have hgA := notin_blk (D5.loose.ne D5.blk (by decide))
  have hmA := notin_blk (D5.loose.ne_firm D5.firm)
  have hne : m ≠ g := fun e => D5.firm.ne_holds D5.blk e.symm
  have HA := ask_46 S g m (.slice A S.loose.length c) (S.has i) true D5.fits w5 (.pointer (some ⟨b1, 0, none⟩)) (.pointer (some ⟨b2, 0, none⟩)) (.pointer (some ⟨b3, 0, none⟩))
    (fun v => ∃ A' c', Holds v g 74 (dc r.2 m (.slice A' (S.loose.length + 1) c')) ∧ OwnW v A' c' (S.loose ++ [(i, b)]) ∧ Mod (g :: blk A) w5 v ∧ (∀ a, A' = some a → a.block ∈ blk A ∨ w5.heap.size ≤ a.block)) D5.blk (by
      rw [hr] at f3 f4 ⊢
      intro h0 v hv mv zv
      have hown : OwnW v A c S.loose := OwnG.keep D5.loose mv (fun a ha => by simpa using D5.loose.ne D5.blk (by decide) a ha)
      have := write1_c r.2 g m b1 b2 b3 A c i b v (by rw [f3]; exact hv) (by rw [f3]; exact hown) (by rw [f3]; exact D5.long)
        (k1.keep mv (by simp; omega)) (k2.keep mv (by simp; omega)) (k3.keep mv (by simp; omega))
      refine this.mono ?_
      rintro e v2 ⟨rfl, A', c', q1, q2, q3, q4⟩
      rw [f3] at q1 q2
      exact ⟨rfl, A', c', q1, q2, (mv.wk (fun i _ h => by simp at h; simp [h])).trans q3 (fun _ _ h => h), fun a ha => (q4 a ha).imp id (fun h => by omega)⟩)
  rw [hr] at HA f1 f2 f3 f4 f5 f6 f7
  have hrd : S.write i b = (r.1, if r.1 = 0 then { r.2 with loose := r.2.loose ++ [(i, b)] } else r.2) := by unfold St.write; rw [hr]
  have HA2 : Calls Try.prog 41 #[.pointer (some ⟨g, 0, none⟩), .bool (S.has i), .bool true, .func (.func 46) #[] #[.pointer (some ⟨b1, 0, none⟩), .pointer (some ⟨b2, 0, none⟩), .pointer (some ⟨b3, 0, none⟩)]] w5 fun e w' => e = .returned (.int .i64 (S.write i b).1) ∧ ∃ A' c', DAt w' g m A' c' (S.write i b).2 ∧ Mod (g :: blk A) w5 w' ∧ (∀ a, A' = some a → a.block ∈ blk A ∨ w5.heap.size ≤ a.block) := by
    refine HA.mono ?_
    rintro e v ⟨rfl, q1, q2⟩
    rw [hrd]
    by_cases h0 : r.1 = 0
    · rw [if_pos h0]
      obtain ⟨A', c', u1, u2, u3, u4⟩ := q2 h0
      have hmk : m ∉ g :: blk A := by simp only [List.mem_cons, not_or]; exact ⟨hne, hmA⟩
      refine ⟨rfl, A', c', ⟨?_, ?_, ?_, ⟨f1.1, f1.2, f1.3, f1.4, f1.5, f1.6⟩, ?_⟩, u3, u4⟩
      · show Holds v g 74 (dc r.2 m (.slice A' (r.2.loose ++ [(i, b)]).length c'))
        rw [f3, List.length_append]
        exact u1
      · show Firm v m r.2.firm
        rw [f4]
        exact D5.firm.keep u3 hmk
      · show OwnW v A' c' (r.2.loose ++ [(i, b)])
        rw [f3]
        exact u2
      · show (r.2.loose ++ [(i, b)]).length ≤ r.2.ops
        rw [f3, List.length_append, f6 h0]
        have := D5.few
        simp
        omega
    · rw [if_neg h0]
      obtain ⟨u1, u2, u3⟩ := q1 h0
      exact ⟨rfl, A, c, D5.turn u2 u1 f3 f4 f1 f5, u2.wk (fun i _ h => by simp at h; simp [h]), fun a ha => .inl (by unfold blk; simp [ha])⟩
  have hhas : S.has i = decide (0 ≤ i ∧ i < (S.n : Int)) := rfl
  rw [hhas, Bool.decide_and] at HA2
  obtain ⟨R, hR⟩ : ∃ R, R = S.write i b := ⟨_, rfl⟩
  rw [← hR] at HA2
  have HR := Lib.hid hR
  clear HA hrd hr hhas f6 f7 f2 f3 f4 f1 f5 hR
  go_wp2_with fail
  refine HA2.mono ?_
  clear HA2
  rintro e w6 ⟨rfl, HD⟩
  go_wp2
  go_ret
  rw [← HR.out]
  obtain ⟨A', c', d1, d2, d3⟩ := HD
  exact ⟨rfl, A', c', d1, m5.pre d2, fun a ha => (d3 a ha).imp id (fun h => by have := m5.size; omega)⟩
end Go.Proofs.Ytpdpahkhfilmpaa
