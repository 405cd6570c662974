/-
  Contracts of the document's own answers for sha: Sign, Text, Less. My own work.
-/
import Derived.Test.YtgojheoelcmcpaaDoorPrs
import Derived.Test.YtgojheoelcmcpaaDoorRefB
import Derived.Test.YtgojheoelcmcpaaDoorChn
import Derived.BigQuiet
namespace Go.Proofs.YtgojheoelcmcpaaDoor
open Go.RowKit
theorem sign_c (n : Nat) (h : n < 16) (w : World) : Calls Tryd.prog 48 #[.int .u8 (n : Int)] w fun e w' => e = .returned (oct (dg n)) ∧ w' = w := by
  by_cases h1 : n < 10
  · have hz : (n : Int) < 10 := by omega
    have e : ((dg n).toNat : Int) = 48 + (n : Int) := by unfold dg; rw [if_pos h1, UInt8.toNat_ofNat']; omega
    have HE := Lib.hid e
    clear e
    go_enter Tryd.func48, Tryd.ntmps48
    go_wp2
    go_ret
    exact ⟨congrArg (fun z => Ending.returned (Value.int .u8 z)) HE.out.symm, rfl⟩
  · have hz : ¬ (n : Int) < 10 := by omega
    have hz2 : (n : Int) < 16 := by omega
    have e : ((dg n).toNat : Int) = 87 + (n : Int) := by unfold dg; rw [if_neg h1, UInt8.toNat_ofNat']; omega
    have HE := Lib.hid e
    clear e
    go_enter Tryd.func48, Tryd.ntmps48
    go_wp2
    go_ret
    refine ⟨congrArg (fun z => Ending.returned (Value.int .u8 z)) (?_ : _ = ((dg n).toNat : Int)), rfl⟩
    rw [HE.out]
    omega
set_option maxRecDepth 1000000 in
set_option maxHeartbeats 8000000 in
theorem rtext_c (idl : List UInt8) (hid : idl.length = 32) (w : World) :
    Calls Tryd.prog 29 #[.agg (idl.map oct).toArray] w fun e w' => e = .returned (.string ⟨(textN idl).toArray⟩) ∧ Mod [] w w' := by
  have HB := Lib.hid hid
  clear hid
  obtain ⟨i0, hi, hz0, hz1, hz2⟩ := info_parts u8_zero
  have hi0 := Lib.hid (And.intro hi (And.intro hz0 (And.intro hz1 hz2)))
  clear hi hz0 hz1 hz2
  go_enter Tryd.func29, Tryd.ntmps29
  go_wp2_with (first
    | (with_reducible refine wpList_boxes (o := ⟨some 1, .box 40 (.tmp 0), _, _, _, _⟩) rfl 40 (.tmp 0) rfl _ rfl (idl.map oct) rfl ?_; intro w1 hb1 m1 z1; replace z1 := Lib.hid z1)
    | (with_reducible refine wpList_loads (o := ⟨some 6, .load 40 (.tmp 1), _, _, _, _⟩) rfl 40 (.tmp 1) rfl w.heap.size 0 _ rfl (Cells.of_holds hb1) _ Tryd.underlying40 rfl (size40_of _ HB.out) (.agg (idl.map oct).toArray) rfl ?_))
  obtain ⟨g1, e1⟩ : ∃ b, b = w.heap.size := ⟨_, rfl⟩
  rw [← e1]
  clear hb1 z1 e1
  go_loopw [3, 7] (fun sl i wi => ∃ (k : Nat) (A : Option Addr) (c : Nat), k ≤ 32 ∧ i = .int .i64 (k : Int) ∧ sl = .slice A (textN (idl.take k)).length c ∧ Owns wi w.heap.size 5 A c (textN (idl.take k)) ∧ Mod [] w wi) (fun _ i _ => 32 - (intOf i).toNat)
  case atStart => exact ⟨0, none, 0, by omega, rfl, rfl, Owns.nil _ _ _, m1⟩
  case round =>
    clear m1
    obtain ⟨k, A, c, hk, rfl, rfl, kO, mk⟩ := hrel
    by_cases hlt : k < 32
    · have hz : (k : Int) < 32 := by omega
      obtain ⟨b, hb⟩ : ∃ b, b = idl.getD k 0 := ⟨_, rfl⟩
      have hbl := b.toNat_lt
      obtain ⟨x, hx⟩ : ∃ x, x = b.toNat / 16 := ⟨_, rfl⟩
      obtain ⟨y, hy⟩ : ∃ y, y = b.toNat % 16 := ⟨_, rfl⟩
      have q1 : (b.toNat : Int) / 16 = (x : Int) := by omega
      have q2 : (b.toNat : Int) % 16 = (y : Int) := by omega
      have s1 := fun v => sign_c x (by omega) v
      have s2 := fun v => sign_c y (by omega) v
      have hx16 : (x : Int) < 16 := by omega
      have hy16 : (y : Int) < 16 := by omega
      have hnx := textN_snoc idl k (by rw [HB.out]; exact hlt)
      have hd2 : dg2 (idl.getD k 0) = [dg x, dg y] := by rw [← hb, hx, hy]; rfl
      rw [hd2] at hnx
      have hlk : (textN (idl.take k)).length = 2 * k := by rw [textN_length, List.length_take, HB.out]; omega
      have hln : (textN (idl.take (k + 1))).length = 2 * k + 2 := by rw [textN_length, List.length_take, HB.out]; omega
      have HK := Lib.hid (And.intro hlt (And.intro hb (And.intro s1 (And.intro s2 (And.intro hnx (And.intro hlk hln))))))
      clear hlt hb s1 s2 hk hnx hx hy hbl hd2 hlk hln
      go_wp2_with (with_reducible refine wpList_ran (o := ⟨some 9, .index 40 (.tmp 6) (.tmp 7), _, _, _, _⟩) rfl (oct b) (by rw [HK.out.2.1]; exact exec_index40 HB.out HK.out.1 rfl rfl rfl) ?_)
      refine (HK.out.2.2.1 _).mono ?_
      rintro e w2 ⟨rfl, rfl⟩
      go_wp2_with fail
      refine (HK.out.2.2.2.1 _).mono ?_
      rintro e w3 ⟨rfl, rfl⟩
      have hofs := kO.fits.2.2
      have hA := kO.keep (Mod.alloc [] w3 (.cells #[oct (dg x), oct (dg y)] 5)) (by simp)
      have hN : Holds (w3.alloc (.cells #[oct (dg x), oct (dg y)] 5)) w3.heap.size 5 [oct (dg x), oct (dg y)] := Holds.made _ _ _
      have hs := mk.size
      go_wp2_with (first
        | (with_reducible refine wpList_appends (o := ⟨some 18, _, _, _, _, _⟩) _ rfl (.tmp 10) (.tmp 17) 36 rfl 5 i0 (.int .u8 0) 1 Tryd.underlying36 hi0.out.1 hi0.out.2.1 hi0.out.2.2.1 hi0.out.2.2.2 rfl w.heap.size (by simp; omega) A _ c (textN (idl.take k)) rfl rfl hA (some ⟨w3.heap.size, 0, none⟩) 2 2 [dg x, dg y] rfl rfl (Reads.of_holds hN) (by rw [HK.out.2.2.2.2.2.1]; simp; omega) (by rw [HK.out.2.2.2.2.2.1]; unfold maxLen; simp; omega) ?_; intro A1 c1 w7 hO7 m7 hA7))
      rw [HK.out.2.2.2.2.1] at hO7
      have hm7 : Mod [] w w7 := (mk.then (Mod.alloc [] w3 (.cells #[oct (dg x), oct (dg y)] 5))).trans m7 (fun i hi hh => (blk_new (fun a e => (hofs a e).1) hi hh).elim)
      have hk1 : k + 1 ≤ 32 := HK.out.1
      exact ⟨⟨k + 1, A1, c1, hk1, by go_num, by rw [HK.out.2.2.2.2.2.2, HK.out.2.2.2.2.2.1], hO7, hm7⟩, by simp [intOf]; omega⟩
    · obtain rfl : k = 32 := by omega
      have hzz : ¬ ((32 : Nat) : Int) < 32 := by omega
      have et : idl.take 32 = idl := List.take_of_length_le (by rw [HB.out]; omega)
      rw [et] at kO
      rw [et]
      have hr := kO.reads
      have hconv := conv_reads (P := Tryd.prog) wr 36 9 5 A c (textN idl) Tryd.underlying36 Tryd.underlying5 Tryd.underlying9 hr
      clear hlt hk kO hr et
      go_wp2_with (with_reducible refine wpList_ran (o := ⟨some 21, .convert 36 9 (.tmp 20), _, _, _, _⟩) rfl (.string ⟨(textN idl).toArray⟩) (exec_conv hconv rfl rfl) ?_)
      go_ret
      exact ⟨rfl, mk⟩
theorem less_at : ∀ (i : Nat) (a b : List UInt8), a.length = b.length → i < a.length → a.take i = b.take i → (a.getD i 0 ≠ b.getD i 0 ∨ a.length = i + 1) → lessN a b = decide (a.getD i 0 < b.getD i 0)
  | _, [], _, _, h, _, _ => by simp at h
  | _, _ :: _, [], h, _, _, _ => by simp at h
  | 0, x :: a, y :: b, hl, _, _, hd => by
    simp only [List.getD_cons_zero] at hd ⊢
    simp only [lessN, Lib.compareBytes]
    by_cases h1 : x < y
    · simp [h1]
    · by_cases h2 : y < x
      · simp [h1, h2]
      · have hxy : x = y := by
          apply UInt8.toNat_inj.1
          rw [UInt8.lt_iff_toNat_lt] at h1 h2
          omega
        rcases hd with hd | hd
        · exact absurd hxy hd
        · have ha : a = [] := List.eq_nil_of_length_eq_zero (by simpa using hd)
          have hb : b = [] := List.eq_nil_of_length_eq_zero (by rw [ha] at hl; simpa using hl.symm)
          subst ha hb
          simp [h1, h2, Lib.compareBytes]
  | i + 1, x :: a, y :: b, hl, hi, ht, hd => by
    simp only [List.take_succ_cons, List.cons.injEq] at ht
    obtain ⟨rfl, ht⟩ := ht
    simp only [List.getD_cons_succ] at hd ⊢
    have := less_at i a b (by simpa using hl) (by simpa using hi) ht (by simpa using hd)
    rw [← this]
    simp [lessN, Lib.compareBytes, UInt8.lt_irrefl]
theorem take_snoc_eq (a b : List UInt8) (i : Nat) (ha : i < a.length) (hb : i < b.length) (ht : a.take i = b.take i) (he : a.getD i 0 = b.getD i 0) : a.take (i + 1) = b.take (i + 1) := by
  rw [List.take_succ_eq_append_getElem ha, List.take_succ_eq_append_getElem hb, ht, at_getD _ _ ha, at_getD _ _ hb, he]
set_option maxRecDepth 1000000 in
set_option maxHeartbeats 8000000 in
theorem rless_c (a b : List UInt8) (ha : a.length = 32) (hb : b.length = 32) (w : World) :
    Calls Tryd.prog 31 #[.agg (a.map oct).toArray, .agg (b.map oct).toArray] w fun e w' => e = .returned (.bool (lessN a b)) ∧ Mod [] w w' := by
  obtain ⟨R, hR⟩ : ∃ R, R = lessN a b := ⟨_, rfl⟩
  rw [← hR]
  have HB := Lib.hid (And.intro ha (And.intro hb hR))
  clear ha hb hR
  go_enter Tryd.func31, Tryd.ntmps31
  go_wp2_with (first
    | (with_reducible refine wpList_boxes (o := ⟨some 2, .box 40 (.tmp 0), _, _, _, _⟩) rfl 40 (.tmp 0) rfl _ rfl (a.map oct) rfl ?_; intro w1 hb1 m1 z1; replace z1 := Lib.hid z1)
    | (with_reducible refine wpList_boxes (o := ⟨some 3, .box 40 (.tmp 1), _, _, _, _⟩) rfl 40 (.tmp 1) rfl _ rfl (b.map oct) rfl ?_; intro w2 hb2 m2 z2; replace z2 := Lib.hid z2))
  obtain ⟨g2, e1⟩ : ∃ b, b = w.heap.size := ⟨_, rfl⟩
  obtain ⟨g3, e3⟩ : ∃ b, b = w1.heap.size := ⟨_, rfl⟩
  have mm := m1.then m2
  replace hb1 := hb1.keep m2 (by simp)
  rw [← e1] at hb1
  rw [← e3] at hb2
  rw [← e1, ← e3]
  clear e1 e3 m1 m2 z1 z2
  go_loopw [5] (fun sl wi => ∃ i : Nat, i ≤ 31 ∧ sl = .int .i64 (i : Int) ∧ a.take i = b.take i ∧ Holds wi g2 40 (a.map oct) ∧ Holds wi g3 40 (b.map oct) ∧ Mod [] w wi) (fun sl _ => 31 - (intOf sl).toNat)
  case atStart => exact ⟨0, by omega, rfl, by simp, hb1, hb2, mm⟩
  case round =>
    clear hb1 hb2 mm
    obtain ⟨i, hi, rfl, ht, h2, h3, mm⟩ := hrel
    have ia : i < a.length := by rw [HB.out.1]; omega
    have ib : i < b.length := by rw [HB.out.2.1]; omega
    have c2 : wr.cell? ⟨g2, i, none⟩ = some (oct (a.getD i 0)) := by
      rw [h2.cell i, List.getElem?_map, List.getElem?_eq_getElem ia, at_getD _ _ ia]; rfl
    have c3 : wr.cell? ⟨g3, i, none⟩ = some (oct (b.getD i 0)) := by
      rw [h3.cell i, List.getElem?_map, List.getElem?_eq_getElem ib, at_getD _ _ ib]; rfl
    have hfin := less_at i a b (by rw [HB.out.1, HB.out.2.1]) ia ht
    have hgo := take_snoc_eq a b i ia ib ht
    have hil := HB.out.1
    obtain ⟨x, hx⟩ : ∃ x, x = a.getD i 0 := ⟨_, rfl⟩
    obtain ⟨y, hy⟩ : ∃ y, y = b.getD i 0 := ⟨_, rfl⟩
    rw [← hx] at c2 hfin hgo
    rw [← hy] at c3 hfin hgo
    have hlss : decide (x.toNat < y.toNat) = decide (x < y) := by
      rw [decide_eq_decide, UInt8.lt_iff_toNat_lt]
    have hiZ : (i : Int) ≤ 31 := by omega
    by_cases hlt : i < 31
    · have hltZ : (i : Int) < 31 := by omega
      by_cases he : x = y
      · have hn := hgo he
        subst he
        have HN := Lib.hid (And.intro hn (And.intro h2 (And.intro h3 (And.intro mm hlt))))
        clear hn h2 h3 mm hgo hfin hlss hx hy ht hlt hil ia ib hi
        go_wp2_with fail
        go_quiet (fail)
        have m6 := HN.out.2.2.2.1.then (Mod.drewN [] wr nq)
        have h2' := HN.out.2.1.keep (Mod.drewN [] wr nq) (by simp)
        have h3' := HN.out.2.2.1.keep (Mod.drewN [] wr nq) (by simp)
        obtain ⟨wa, hwa⟩ : ∃ v, v = wr.drewN nq := ⟨_, rfl⟩
        rw [← hwa] at m6 h2' h3' ⊢
        clear hwa
        go_wp2_with fail
        exact ⟨⟨i + 1, by have := HN.out.2.2.2.2; omega, by go_num, HN.out.1, h2', h3', m6⟩, by have := HN.out.2.2.2.2; simp [intOf]; omega⟩
      · have hF := hfin (.inl he)
        have hneq : ((x.toNat : Int) == (y.toNat : Int)) = false := by
          simp; intro hh; exact he (UInt8.toNat_inj.1 (by omega))
        have HN := Lib.hid (And.intro hF (And.intro h2 (And.intro h3 (And.intro mm hlss))))
        have HC := Lib.hid (And.intro c2 c3)
        clear hF h2 h3 mm hgo hfin hlss hx hy ht hlt hil ia ib hi he
        go_wp2_with fail
        go_quiet (fail)
        have m6 := HN.out.2.2.2.1.then (Mod.drewN [] wr nq)
        have c2' : (wr.drewN nq).cell? ⟨g2, i, none⟩ = some (oct x) := HC.out.1
        have c3' : (wr.drewN nq).cell? ⟨g3, i, none⟩ = some (oct y) := HC.out.2
        clear c2 c3
        obtain ⟨wa, hwa⟩ : ∃ v, v = wr.drewN nq := ⟨_, rfl⟩
        rw [← hwa] at m6 c2' c3' ⊢
        clear hwa nq
        go_wp2_with fail
        go_quiet (fail)
        have m7 := m6.then (Mod.drewN [] wa nq)
        clear c2' c3' m6
        go_wp2_with fail
        go_ret
        exact ⟨congrArg (fun z => Ending.returned (Value.bool z)) (by rw [HB.out.2.2, HN.out.1, ← HN.out.2.2.2.2]), m7⟩
    · obtain rfl : i = 31 := by omega
      have hF := hfin (.inr hil)
      have HN := Lib.hid (And.intro hF (And.intro h2 (And.intro h3 (And.intro mm hlss))))
      have HC := Lib.hid (And.intro c2 c3)
      clear hF h2 h3 mm hgo hfin hlss hx hy ht hlt hil ia ib hi
      go_wp2_with fail
      go_quiet (fail)
      have m6 := HN.out.2.2.2.1.then (Mod.drewN [] wr nq)
      have c2' : (wr.drewN nq).cell? ⟨g2, 31, none⟩ = some (oct x) := HC.out.1
      have c3' : (wr.drewN nq).cell? ⟨g3, 31, none⟩ = some (oct y) := HC.out.2
      clear c2 c3
      obtain ⟨wa, hwa⟩ : ∃ v, v = wr.drewN nq := ⟨_, rfl⟩
      rw [← hwa] at m6 c2' c3' ⊢
      clear hwa nq
      go_wp2_with fail
      go_quiet (fail)
      have m7 := m6.then (Mod.drewN [] wa nq)
      clear c2' c3' m6
      go_wp2_with fail
      go_ret
      exact ⟨congrArg (fun z => Ending.returned (Value.bool z)) (by rw [HB.out.2.2, HN.out.1, ← HN.out.2.2.2.2]), m7⟩
end Go.Proofs.YtgojheoelcmcpaaDoor
