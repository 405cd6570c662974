/-
  Contracts: the document's own words of a block. My own work.
-/
import Derived.Test.YtgojheoelcmcpaaDoorTab
namespace Go.Proofs.YtgojheoelcmcpaaDoor
open Go.RowKit
set_option maxHeartbeats 1000000 in
theorem rnum_c : ∀ (n : Nat) (A : Option Addr) (l : List UInt8) (c : Nat) (w : World), l.length = n → n ≤ 8 → n ≤ c → c ≤ maxLen → Reads w A l →
    Calls Tryd.prog 60 #[.slice A n c] w fun e w' => e = .returned (.int .u64 (be l : Int)) ∧ ∃ k, w' = w.drewN k
  | 0, A, l, c, w, hl, h8, hc, hcm, h => by
    have : l = [] := List.eq_nil_of_length_eq_zero hl
    subst this
    go_enter Tryd.func60, Tryd.ntmps60
    go_wp2_with fail
    go_ret
    exact ⟨rfl, 0, rfl⟩
  | n + 1, A, l, c, w, hl, h8, hc, hcm, h => by
    unfold maxLen at hcm
    obtain ⟨g, o, rfl, hcell⟩ := h n (by omega)
    have hr : Reads w (some ⟨g, o, none⟩) (l.take n) := fun i hi => by
      simp at hi
      exact ⟨g, o, rfl, by rw [h.at i (by omega)]; simp⟩
    have hb := be_lt (l.take n)
    have hb2 : 256 ^ (l.take n).length ≤ 256 ^ 7 := Nat.pow_le_pow_right (by omega) (by simp; omega)
    have hfin : be l = be (l.take n) * 256 + (l[n]'(by omega)).toNat := by
      rw [← be_snoc, ← take_next l n (by omega), List.take_of_length_le (by omega)]
    have hlt := (l[n]'(by omega)).toNat_lt
    have ih := rnum_c n (some ⟨g, o, none⟩) (l.take n) c
    generalize l[n]'(by omega) = y at *
    have HF := Lib.hid hfin
    have hb3 : be (l.take n) < 72057594037927936 := by omega
    have hlt3 : (l.take n).length = n := by simp; omega
    have IH := Lib.hid ih
    have HL := Lib.hid (And.intro hl hlt3)
    have hln : (n : Int) ≤ 7 := by omega
    clear hfin ih hl hb2 hb hlt3
    generalize be (l.take n) = z at *
    go_enter Tryd.func60, Tryd.ntmps60
    go_wp2_with fail
    have b0 : (0 : Int) ≤ (n : Int) := by omega
    have b1 : (n : Int) < (n : Int) + 1 := by omega
    have b2 : (n : Int) ≤ (c : Int) := by omega
    have b3 : 0 ≤ IntKind.u64.wrap (256 * (z : Int)) := wrap_u64_nonneg _
    have b4 : IntKind.u64.wrap (256 * (z : Int)) = 256 * (z : Int) := by rw [IntKind.wrap_u64]; omega
    have b5 : IntKind.u64.wrap (256 * (z : Int) + (y.toNat : Int)) = 256 * (z : Int) + (y.toNat : Int) := by rw [IntKind.wrap_u64]; omega
    go_quiet ((go_at_call 60; exact Calls.quiet_of (IH.out _ HL.out.2 (by omega) (by omega) (by unfold maxLen; omega) (by exact hr))))
    go_wp2
    go_ret
    exact ⟨by rw [HF.out, Int.natCast_add, Int.natCast_mul, Int.mul_comm]; rfl, nq, rfl⟩

/-- An address in the block of another one. -/
def Within (A A1 : Option Addr) : Prop := ∀ a, A1 = some a → ∃ a0, A = some a0 ∧ a.block = a0.block
set_option maxRecDepth 100000 in
set_option maxHeartbeats 1000000 in
theorem rconst_c (w : World) : Calls Tryd.prog 19 #[] w fun e w' => e = .returned (.agg (Kc.map wd).toArray) ∧ Mod [] w w' := by
  go_enter Tryd.func19, Tryd.ntmps19
  go_wp2_with (first
    | (with_reducible refine wpList_allocs (o := ⟨some 0, .alloc 24, _, _, _, _⟩) rfl 24 rfl _ zero24 ?_; intro w1 hb1 m1 z1; replace z1 := Lib.hid z1)
    | (with_reducible refine wpList_allocs (o := ⟨some 1, .alloc 24, _, _, _, _⟩) rfl 24 rfl _ zero24 ?_; intro w2 hb2 m2 z2; replace z2 := Lib.hid z2))
  have hb1' := hb1.keep m2 (by simp)
  have hne : w.heap.size ≠ w1.heap.size := by have := z1.out; omega
  replace m2 := m1.then m2
  obtain ⟨g, hg⟩ : ∃ g, g = w1.heap.size := ⟨_, rfl⟩
  have HZ := Lib.hid (And.intro hne z1.out)
  rw [← hg] at hb2 HZ ⊢
  clear m1 z1 z2 hb1 hne hg
  go_loopw [2, 3] (fun x i v => ∃ (k : Nat) (L : List UInt32), i = .int .i64 (k : Int) ∧ k ≤ 64 ∧ Upto Kc k L ∧ Holds v g 24 (L.map wd) ∧ Holds v w.heap.size 24 ((List.replicate 64 (0 : UInt32)).map wd) ∧ Mod [] w v) (fun x i v => 64 - (intOf i).toNat)
  case atStart => exact ⟨0, List.replicate 64 0, rfl, by omega, ⟨rfl, by omega⟩, hb2, hb1', m2⟩
  case round =>
    obtain ⟨k, L, rfl, hk, hU, hL, hO, hM⟩ := hrel
    clear hb2 hb1' m2
    by_cases hlt : k < 64
    · have hp := fun (v : World) => prime_c k (by omega) v
      have hs := fun (v : World) => root_at k hlt v
      have hlt' : (k : Int) < 64 := by omega
      have hc := word_cell hL (i := k) (by rw [hU.1]; exact hlt)
      rw [Nat.zero_add] at hc
      have hf := hL.free k
      have HK := Lib.hid (And.intro hp (And.intro hs (And.intro hU (And.intro hL (And.intro hO (And.intro hM hlt))))))
      clear hp hs hU hL hO hM hlt hk
      go_wp2_with (first
        | (go_at_call 16; with_reducible refine Calls.mono (HK.out.1 _) ?_; rintro e wx ⟨rfl, rfl⟩)
        | (go_at_call 15; with_reducible refine Calls.mono (HK.out.2.1 _) ?_; rintro e wx ⟨rfl, rfl⟩))
      refine ⟨⟨k + 1, L.set k (g0 Kc k), by simp, by have := HK.out.2.2.2.2.2.2; omega, HK.out.2.2.1.next HK.out.2.2.2.2.2.2, ?_, ?_, ?_⟩, by simp [intOf]; omega⟩
      · have := word_set HK.out.2.2.2.1 k (g0 Kc k)
        rwa [Nat.zero_add] at this
      · exact HK.out.2.2.2.2.1.keep (Mod.setCell (ms := [g]) _ (by simp) _) (by have := HZ.out; simp; omega)
      · exact HK.out.2.2.2.2.2.1.trans (Mod.setCell (ms := [g]) _ (by simp) _) (by have := HZ.out; intro i hi h; simp at h; omega)
    · obtain rfl : k = 64 := by omega
      have e : L = Kc := hU.all
      subst e
      clear hU hlt hk
      go_wp2_with (first
        | (with_reducible refine wpList_loads (o := ⟨some 12, .load 24 (.tmp 1), _, _, _, _⟩) rfl 24 (.tmp 1) rfl g 0 _ rfl (Cells.of_holds hL) _ Tryd.underlying24 rfl (size24_of _ Kc_length) (.agg (Kc.map wd).toArray) rfl ?_)
        | (with_reducible refine wpList_storesAll (o := ⟨none, .store 24 (.tmp 0) (.tmp 12), _, _, _, _⟩) rfl 24 (.tmp 0) (.tmp 12) rfl rfl w.heap.size (Kc.map wd) rfl (.agg (Kc.map wd).toArray) rfl rfl 24 _ hO (by rw [List.length_map, List.length_map, Kc_length, List.length_replicate]) (words_one _) (size24_of _ Kc_length) ?_; intro w3 hb3 m3 z3; replace z3 := Lib.hid z3))
      refine bodyPost_ret (results_cell_row rfl _ _ w.heap.size 24 _ (0, 0) _ rfl hb3 Tryd.underlying24 rfl (by rw [List.size_toArray]; exact size24_of _ Kc_length)) rfl ?_
      exact ⟨rfl, hM.trans m3 (by intro i hi h; simp at h; omega)⟩
end Go.Proofs.YtgojheoelcmcpaaDoor
