/-
  Numbers that were laid are taken off again: the walk. My own work.
-/
import Derived.Test.YtheebmehapemnaaLays
import Derived.Test.YtheebmehapemnaaOrders
import Derived.Test.YtheebmehapemnaaSplits
import Derived.Test.YtheebmehapemnaaOpen
import Derived.Deep.RegionHeld3
namespace Go.Proofs.Ytheebmehapemnaa
open Go.RowKit

/-- Which width: 0, 1 or 2. -/
def sel (p : Int × Int) : Int := (IntKind.u64.wrap p.1).tmod 3
def wid (p : Int × Int) : Nat := if sel p = 0 then 2 else if sel p = 1 then 4 else 8
def laid (ps : List (Int × Int)) : List UInt8 := ps.flatMap fun p => hi p.2.toNat (wid p)

theorem sel_cases (p : Int × Int) : sel p = 0 ∨ sel p = 1 ∨ sel p = 2 := by
  have hu := wrap_u64_nonneg p.1
  have : sel p = IntKind.u64.wrap p.1 % 3 := Int.tmod_eq_emod_of_nonneg hu
  omega
theorem wid_le (p : Int × Int) : wid p ≤ 8 := by unfold wid; split; omega; split <;> omega
theorem laid_snoc (ps : List (Int × Int)) (p : Int × Int) : laid (ps ++ [p]) = laid ps ++ hi p.2.toNat (wid p) := by simp [laid]
theorem laid_len (ps : List (Int × Int)) : (laid ps).length ≤ 8 * ps.length := by
  induction ps with
  | nil => simp [laid]
  | cons p ps ih =>
    have := wid_le p
    simp only [laid, List.flatMap_cons, List.length_append, hi_length, List.length_cons] at ih ⊢
    omega
theorem laid_next (ps : List (Int × Int)) (j : Nat) (h : j < ps.length) : laid (ps.take (j + 1)) = laid (ps.take j) ++ hi ps[j].2.toNat (wid ps[j]) := by
  rw [List.take_succ_eq_append_getElem h, laid_snoc]
theorem laid_drop (ps : List (Int × Int)) (j : Nat) (h : j < ps.length) : laid (ps.drop j) = hi ps[j].2.toNat (wid ps[j]) ++ laid (ps.drop (j + 1)) := by
  rw [List.drop_eq_getElem_cons h]; unfold laid; rw [List.flatMap_cons]

theorem be_hi (x : Nat) : ∀ n, be (hi x n) = x % 256 ^ n
  | 0 => by simp [hi, be, Nat.mod_one]
  | n + 1 => by
    have key : ∀ (l : List UInt8) (a : Nat), l.foldl (fun n x => n * 256 + x.toNat) a = a * 256 ^ l.length + be l := by
      intro l
      induction l with
      | nil => intro a; simp [be]
      | cons y l ih =>
        intro a
        have h1 := ih (a * 256 + y.toNat)
        have h2 : be (y :: l) = (0 * 256 + y.toNat) * 256 ^ l.length + be l := ih (0 * 256 + y.toNat)
        rw [List.foldl_cons, h1, List.length_cons, h2, Nat.pow_succ]
        simp only [Nat.zero_mul, Nat.zero_add]
        rw [Nat.add_mul, Nat.mul_assoc, Nat.mul_comm 256, Nat.add_assoc]
    have h1 : be (hi x (n + 1)) = (0 * 256 + (UInt8.ofNat (x / 256 ^ n)).toNat) * 256 ^ (hi x n).length + be (hi x n) := by
      rw [hi_cons]; exact key (hi x n) (0 * 256 + (UInt8.ofNat (x / 256 ^ n)).toNat)
    have h2 : x % 256 ^ (n + 1) = x % 256 ^ n + 256 ^ n * (x / 256 ^ n % 256) := by rw [Nat.pow_succ, Nat.mod_mul]
    rw [h1, hi_length, be_hi x n, UInt8.toNat_ofNat', h2, show (2 : Nat) ^ 8 = 256 from rfl]
    simp only [Nat.zero_mul, Nat.zero_add]
    rw [Nat.mul_comm, Nat.add_comm]

/-- Numbers in 2, 4, 8 bytes off the beginning. -/
theorem offNum_hi (x n : Nat) (t : List UInt8) : offNum (hi x n ++ t) 0 n = x % 256 ^ n := by
  unfold offNum
  rw [if_pos rfl, if_pos (by simp [hi_length]), List.take_append_of_le_length (by rw [hi_length]; omega), List.take_of_length_le (by rw [hi_length]; omega), be_hi]
theorem offRest_hi (x n : Nat) (t : List UInt8) : offRest (hi x n ++ t) 0 (n : Int) = t := by
  unfold offRest
  rw [if_pos ⟨rfl, by omega, by simp [hi_length]; omega⟩, Int.toNat_natCast, List.drop_append_of_le_length (by rw [hi_length]; omega), List.drop_of_length_le (by rw [hi_length]; omega), List.nil_append]
theorem offErr_hi (x n : Nat) (t : List UInt8) : offErr (hi x n ++ t) 0 (n : Int) = 0 := by
  unfold offErr
  rw [if_pos rfl, if_neg (by omega), if_neg (by simp [hi_length]; omega)]

theorem got2_a (x : Int) (t : List UInt8) (h : 0 ≤ x) : IntKind.u64.wrap ((offNum (hi x.toNat 2 ++ t) 0 2 : Nat) : Int) = x % 65536 := by
  rw [offNum_hi, IntKind.wrap_u64]; omega
theorem got2_b (x : Int) (_ : 0 ≤ x) : IntKind.u64.wrap (IntKind.u16.wrap x) = x % 65536 := by
  have : IntKind.u16.wrap x = x % 65536 := by simp [IntKind.wrap, IntKind.bits, IntKind.signed]
  rw [this, IntKind.wrap_u64]; omega
theorem got4_a (x : Int) (t : List UInt8) (h : 0 ≤ x) : IntKind.u64.wrap ((offNum (hi x.toNat 4 ++ t) 0 4 : Nat) : Int) = x % 4294967296 := by
  rw [offNum_hi, IntKind.wrap_u64]; omega
theorem got4_b (x : Int) (_ : 0 ≤ x) : IntKind.u64.wrap (IntKind.u32.wrap x) = x % 4294967296 := by
  have : IntKind.u32.wrap x = x % 4294967296 := by simp [IntKind.wrap, IntKind.bits, IntKind.signed]
  rw [this, IntKind.wrap_u64]; omega
theorem got8_a (x : Int) (t : List UInt8) (h : 0 ≤ x) (h1 : x < 18446744073709551616) : ((offNum (hi x.toNat 8 ++ t) 0 8 : Nat) : Int) = x := by
  rw [offNum_hi]; omega

set_option maxRecDepth 1000000 in
set_option maxHeartbeats 4000000 in
theorem rets_c (A : Option Addr) (ps : List (Int × Int)) (c : Nat) (hpc : ps.length ≤ c) (hcm : c ≤ maxLen) (B : Option Addr) (l : List UInt8) (d : Nat) (hld : l.length ≤ d) (hdm : d ≤ maxLen) (w : World) (hP : Pairs w .i64 .u64 A ps) (hl : Reads w B l)
    (qs : List (Int × Int)) (k : List UInt8) (n m : Nat) (E : Hid (ps.take 60 = qs ∧ l.take 400 = k ∧ qs.length = n ∧ k.length = m)) (hn : n ≤ 60) (hm : m ≤ 400) (hnp : (60 < ps.length → n = 60) ∧ (ps.length ≤ 60 → n = ps.length)) (hml : (400 < l.length → m = 400) ∧ (l.length ≤ 400 → m = l.length)) :
    Calls Try.prog 7 #[.slice A ps.length c, .slice B l.length d] w fun e w' => e = .returned (.bool true) ∧ Mod [] w w' := by
  unfold maxLen at hcm hdm
  go_enter Try.func7, Try.ntmps7
  go_wp2_with fail
  refine (wakes_c _).mono ?_
  rintro e w1 ⟨rfl, m1⟩
  go_wp2_with fail
  go_region
  have hn1 : (if (60 : Int) < (ps.length : Int) then 60 else (ps.length : Int)) = (n : Int) := by
    split
    · have := hnp.1 (by omega); omega
    · have := hnp.2 (by omega); omega
  have hm1 : (if (400 : Int) < (l.length : Int) then 400 else (l.length : Int)) = (m : Int) := by
    split
    · have := hml.1 (by omega); omega
    · have := hml.2 (by omega); omega
  rw [hn1, hm1, Int.toNat_natCast, Int.toNat_natCast]
  clear hn1 hm1 hnp hml
  replace m1 := m1.then (Mod.drew [] w1)
  have hPq : Pairs w .i64 .u64 A qs := fun i hi => by
    rw [← E.out.1] at hi
    have hi2 : i < ps.length := by simp at hi; omega
    obtain ⟨g, o, e, h1, h2, h3⟩ := hP i hi2
    have e2 : qs[i]'(by rw [← E.out.1]; exact hi) = ps[i] := by
      rw [List.getElem_of_eq E.out.1.symm (by rw [← E.out.1]; exact hi), List.getElem_take]
    exact ⟨g, o, e, by rw [e2]; exact h1, by rw [e2]; exact h2, by rw [e2]; exact h3⟩
  have hlk : Reads w B k := fun i hi => by
    rw [← E.out.2.1] at hi
    have hi2 : i < l.length := by simp at hi; omega
    obtain ⟨g, o, e, h1⟩ := hl i hi2
    have e2 : k[i]'(by rw [← E.out.2.1]; exact hi) = l[i] := by
      rw [List.getElem_of_eq E.out.2.1.symm (by rw [← E.out.2.1]; exact hi), List.getElem_take]
    exact ⟨g, o, e, by rw [e2]; exact h1⟩
  clear hP hl
  go_wp2_with fail
  go_outline
  go_loopw [5, 29] (fun v i wr => ∃ j : Nat, j ≤ n ∧ i = .int .i64 (j : Int) ∧ ∃ X c', v = .slice X (laid (qs.take j)).length c' ∧ Reads wr X (laid (qs.take j)) ∧ Mod [] w wr) (fun _ i _ => n - (intOf i).toNat)
  case atStart => exact ⟨0, by omega, rfl, none, 0, rfl, Reads.nil _ _, m1⟩
  case round =>
    clear m1
    obtain ⟨j, hj, rfl, X, c', rfl, hR, m1⟩ := hrel
    by_cases hlt : j < n
    · have hlt2 : j < qs.length := by rw [E.out.2.2.1]; exact hlt
      obtain ⟨g, o, rfl, hc0, hc1, _, hw1⟩ := (hPq.keep m1 (by simp)) j hlt2
      have hx0 : 0 ≤ qs[j].2 ∧ qs[j].2 < 18446744073709551616 := by simp [Lit.wf, IntKind.min, IntKind.max, IntKind.signed, IntKind.bits] at hw1; omega
      clear hw1
      have hN := Lib.hid (laid_next qs j hlt2)
      have hls := laid_len (qs.take j)
      have hls2 : (qs.take j).length ≤ j := List.length_take_le _ _
      generalize qs[j] = p at *
      obtain ⟨pw, px⟩ := p
      obtain ⟨hx0, hx1⟩ := hx0
      simp only at hc0 hc1 hx0 hx1
      rcases sel_cases (pw, px) with hs | hs | hs
      · have hs' : (IntKind.u64.wrap pw).tmod 3 = 0 := hs
        have hwd : wid (pw, px) = 2 := by unfold wid; rw [hs]; rfl
        have hN2 : Hid (laid (qs.take (j + 1)) = laid (qs.take j) ++ hi px.toNat 2) := by
          have := hN.out
          rwa [hwd] at this
        clear hN hwd hs
        go_wp2_with fail
        refine (put16_j X (laid (qs.take j)) _ _ (px % 65536) _ rfl (by omega) (hR.keep (Mod.alloc [] wr _) (by simp)) (by omega) (by omega)).mono ?_
        rintro e w4 ⟨rfl, h2, m2⟩
        replace m1 := (m1.then (Mod.alloc [] wr (.cells #[.int .i64 pw, .int .u64 px] 59))).then m2
        rw [hi_mod16 px hx0] at h2
        rw [← hN2.out] at h2
        have hlen : (laid (qs.take j)).length + 2 = (laid (qs.take (j + 1))).length := by rw [hN2.out, List.length_append, hi_length]
        rw [hlen]
        clear hlen
        simp only [World.size_alloc] at h2
        have hRn := Reads.of_holds h2
        clear m2 h2
        go_wp2
        exact ⟨⟨j + 1, by omega, by go_num, _, _, rfl, hRn, m1⟩, by simp [intOf]; omega⟩
      · have hs' : (IntKind.u64.wrap pw).tmod 3 = 1 := hs
        have hwd : wid (pw, px) = 4 := by unfold wid; rw [hs]; rfl
        have hN2 : Hid (laid (qs.take (j + 1)) = laid (qs.take j) ++ hi px.toNat 4) := by
          have := hN.out
          rwa [hwd] at this
        clear hN hwd hs
        go_wp2_with fail
        refine (put32_j X (laid (qs.take j)) _ _ (px % 4294967296) _ rfl (by omega) (hR.keep (Mod.alloc [] wr _) (by simp)) (by omega) (by omega)).mono ?_
        rintro e w4 ⟨rfl, h2, m2⟩
        replace m1 := (m1.then (Mod.alloc [] wr (.cells #[.int .i64 pw, .int .u64 px] 59))).then m2
        rw [hi_mod32 px hx0] at h2
        rw [← hN2.out] at h2
        have hlen : (laid (qs.take j)).length + 4 = (laid (qs.take (j + 1))).length := by rw [hN2.out, List.length_append, hi_length]
        rw [hlen]
        clear hlen
        simp only [World.size_alloc] at h2
        have hRn := Reads.of_holds h2
        clear m2 h2
        go_wp2
        exact ⟨⟨j + 1, by omega, by go_num, _, _, rfl, hRn, m1⟩, by simp [intOf]; omega⟩
      · have hs' : (IntKind.u64.wrap pw).tmod 3 = 2 := hs
        have hwd : wid (pw, px) = 8 := by unfold wid; rw [hs]; rfl
        have hN2 : Hid (laid (qs.take (j + 1)) = laid (qs.take j) ++ hi px.toNat 8) := by
          have := hN.out
          rwa [hwd] at this
        clear hN hwd hs
        go_wp2_with fail
        refine (put64_j X (laid (qs.take j)) _ _ (px) _ rfl (by omega) (hR.keep (Mod.alloc [] wr _) (by simp)) (by omega) (by omega)).mono ?_
        rintro e w4 ⟨rfl, h2, m2⟩
        replace m1 := (m1.then (Mod.alloc [] wr (.cells #[.int .i64 pw, .int .u64 px] 59))).then m2
        rw [← hN2.out] at h2
        have hlen : (laid (qs.take j)).length + 8 = (laid (qs.take (j + 1))).length := by rw [hN2.out, List.length_append, hi_length]
        rw [hlen]
        clear hlen
        simp only [World.size_alloc] at h2
        have hRn := Reads.of_holds h2
        clear m2 h2
        go_wp2
        exact ⟨⟨j + 1, by omega, by go_num, _, _, rfl, hRn, m1⟩, by simp [intOf]; omega⟩
    · obtain rfl : j = n := by omega
      have hD1 : qs.take j = qs := List.take_of_length_le (by rw [E.out.2.2.1]; omega)
      rw [hD1] at hR ⊢
      clear hD1
      have hDl := laid_len qs
      rw [E.out.2.2.1] at hDl
      obtain ⟨i0, hi0, hz0, hz1, hz2⟩ := info_parts u8_zero
      have hBm := m1.size
      go_wp2_with (first
        | (with_reducible refine wpList_appends (o := ⟨some 60, _, _, _, _, _⟩) _ rfl (.tmp 58) (.tmp 59) 22 rfl 5 i0 (.int .u8 0) 1 Try.underlying22 hi0 hz0 hz1 hz2 rfl w.heap.size (by simp; omega) _ _ _ [] rfl rfl (Owns.of_holds (Holds.made wr 5 []) hBm (by simp [maxLen])) _ _ _ (laid qs) rfl rfl (hR.keep (Mod.alloc [] wr _) (by simp)) (by simp; omega) (by simp [maxLen]; omega) ?_
           intro A1 c1 w4 hO4 m4 hA4
           simp only [List.nil_append] at hO4 ⊢
           have hbl : blk (some ⟨wr.heap.size, 0, none⟩) = [wr.heap.size] := rfl
           rw [hbl] at m4
           replace m1 := (m1.then (Mod.alloc [] wr _)).trans m4 (by simp; omega)
           clear m4 hbl
           have hBm2 := m1.size)
        | (with_reducible refine wpList_appends (o := ⟨some 62, _, _, _, _, _⟩) _ rfl (.tmp 60) (.tmp 61) 22 rfl 5 i0 (.int .u8 0) 1 Try.underlying22 hi0 hz0 hz1 hz2 rfl w.heap.size hBm2 _ _ _ (laid qs) rfl rfl hO4 _ _ _ k rfl E.out.2.2.2.symm (hlk.keep m1 (by simp)) (by rw [E.out.2.2.2]; omega) (by rw [E.out.2.2.2]; unfold maxLen; omega) ?_
           intro A2 c2 w5 hO5 m5 hA5
           replace m1 := m1.trans m5 (fun i hi hh => (blk_new (fun a e => (hO4.fits.2.2 a e).1) hi hh).elim)
           clear m5 hO4 hA4))
      refine (read_n A2 (laid qs ++ k) _ _ _ (by simp) (by simp [E.out.2.2.2]; omega) hO5.reads).mono ?_
      rintro e w6 ⟨gr, br, rfl, hg, hb, hRd, m2⟩
      have hs5 := m1.size
      have hgr : w.heap.size ≤ gr := by omega
      have hbr : w.heap.size ≤ br := by omega
      replace m1 := m1.then m2
      clear m2 hO5 hA5 hR hBm hBm2 hg hb hs5
      have hT0 : (laid (qs.drop 0) ++ k).length = (laid qs).length + m := by simp [E.out.2.2.2]
      have HT0 := Lib.hid hT0
      clear hT0
      go_wp2_with fail
      obtain ⟨wo, hwo⟩ : ∃ wo : World, wo = wr := ⟨_, rfl⟩
      clear hwo
      go_loopw [9, 71] (fun v i wi => ∃ q : Nat, q ≤ j ∧ i = .int .i64 (q : Int) ∧ v = .int .i64 ((laid (qs.drop q) ++ k).length : Int) ∧ Rdr wi gr br (laid (qs.drop q) ++ k) 0 ∧ Mod [] w wi) (fun _ i _ => j - (intOf i).toNat)
      case atStart => exact ⟨0, by omega, rfl, by rw [HT0.out]; go_num, by simpa using hRd, m1⟩
      case round =>
        clear hRd m1 HT0
        obtain ⟨q, hq, rfl, rfl, hRd, m1⟩ := hrel
        by_cases hlt : q < j
        · have hlt2 : q < qs.length := by rw [E.out.2.2.1]; exact hlt
          obtain ⟨g, o, rfl, hc0, hc1, _, hw1⟩ := (hPq.keep m1 (by simp)) q hlt2
          have hx0 : 0 ≤ qs[q].2 ∧ qs[q].2 < 18446744073709551616 := by simp [Lit.wf, IntKind.min, IntKind.max, IntKind.signed, IntKind.bits] at hw1; omega
          clear hw1
          have hN := laid_drop qs q hlt2
          generalize qs[q] = p at *
          obtain ⟨pw, px⟩ := p
          obtain ⟨hx0, hx1⟩ := hx0
          simp only at hc0 hc1 hx0 hx1 hN
          have hLb := laid_len (qs.drop (q + 1))
          have hLb2 : (qs.drop (q + 1)).length ≤ qs.length := by simp
          have hLb3 := E.out.2.2.1
          have hLb4 := E.out.2.2.2
          obtain ⟨t, ht⟩ : ∃ t, laid (qs.drop (q + 1)) ++ k = t := ⟨_, rfl⟩
          have htl : t.length ≤ 900 := by rw [← ht]; simp; omega
          clear hLb hLb2 hLb3 hLb4
          rw [hN, List.append_assoc, ht] at hRd ⊢
          have HT := Lib.hid ht
          clear ht hN
          rcases sel_cases (pw, px) with hs | hs | hs
          · have hs' : (IntKind.u64.wrap pw).tmod 3 = 0 := hs
            have hwd : wid (pw, px) = 2 := by unfold wid; rw [hs]; rfl
            rw [hwd] at hRd ⊢
            clear hwd hs
            have hl2 : (hi px.toNat 2 ++ t).length = t.length + 2 := by rw [List.length_append, hi_length]; omega
            rw [hl2]
            clear hl2
            have hRa := hRd.keep (Mod.alloc [] wr (.cells #[.int .i64 pw, .int .u64 px] 59)) (by simp) (by simp)
            have hXa : (wr.alloc (.cells #[.int .i64 pw, .int .u64 px] 59)).cell? ⟨wr.heap.size, 1, none⟩ = some (.int .u64 px) := by
              rw [(Holds.made wr 59 [.int .i64 pw, .int .u64 px]).cell 1]; rfl
            obtain ⟨z1, z2, z3⟩ := hRd.lt
            replace m1 := m1.then (Mod.alloc [] wr (.cells #[.int .i64 pw, .int .u64 px] 59))
            have hsz : wr.heap.size < (wr.alloc (.cells #[.int .i64 pw, .int .u64 px] 59)).heap.size := by simp
            clear hRd
            go_wp2_with fail
            obtain ⟨xb, hxb⟩ : ∃ xb, xb = wr.heap.size := ⟨_, rfl⟩
            rw [← hxb] at hXa z1 z2 hsz ⊢
            clear hxb
            generalize wr.alloc (.cells #[.int .i64 pw, .int .u64 px] 59) = wx at *
            go_region_held3 (fun w' => w'.cell? ⟨xb, 1, none⟩ = some (.int .u64 px)) ((first | assumption | exact Mod.cell (by assumption) (by simp; omega) (by assumption)))
              (first | (go_at_call 26; refine (u16_c gr br _ 0 _ (by first | exact hRa | exact hRa.keep (Mod.drew [] _) (by simp) (by simp))).mono ?_; rintro e w7 ⟨rfl, hRb, mb⟩))
            rename_i w7
            rw [offRest_hi, offErr_hi] at hRb
            replace m1 := (m1.then (Mod.drew [] wx)).trans (mb.wk (ns := [gr]) (fun _ _ h => h)) (by simp; omega)
            clear hRa hXa mb
            rw [got2_a px t hx0, got2_b px hx0]
            go_wp2_with fail
            refine (left_c gr br t 0 _ hRb).mono ?_
            rintro e w8 ⟨rfl, rfl⟩
            go_wp2_with fail
            exact ⟨⟨q + 1, by omega, by go_num, by rw [HT.out], by rw [HT.out]; exact hRb, m1⟩, by simp [intOf]; omega⟩
          · have hs' : (IntKind.u64.wrap pw).tmod 3 = 1 := hs
            have hwd : wid (pw, px) = 4 := by unfold wid; rw [hs]; rfl
            rw [hwd] at hRd ⊢
            clear hwd hs
            have hl2 : (hi px.toNat 4 ++ t).length = t.length + 4 := by rw [List.length_append, hi_length]; omega
            rw [hl2]
            clear hl2
            have hRa := hRd.keep (Mod.alloc [] wr (.cells #[.int .i64 pw, .int .u64 px] 59)) (by simp) (by simp)
            have hXa : (wr.alloc (.cells #[.int .i64 pw, .int .u64 px] 59)).cell? ⟨wr.heap.size, 1, none⟩ = some (.int .u64 px) := by
              rw [(Holds.made wr 59 [.int .i64 pw, .int .u64 px]).cell 1]; rfl
            obtain ⟨z1, z2, z3⟩ := hRd.lt
            replace m1 := m1.then (Mod.alloc [] wr (.cells #[.int .i64 pw, .int .u64 px] 59))
            have hsz : wr.heap.size < (wr.alloc (.cells #[.int .i64 pw, .int .u64 px] 59)).heap.size := by simp
            clear hRd
            go_wp2_with fail
            obtain ⟨xb, hxb⟩ : ∃ xb, xb = wr.heap.size := ⟨_, rfl⟩
            rw [← hxb] at hXa z1 z2 hsz ⊢
            clear hxb
            generalize wr.alloc (.cells #[.int .i64 pw, .int .u64 px] 59) = wx at *
            go_region_held3 (fun w' => w'.cell? ⟨xb, 1, none⟩ = some (.int .u64 px)) ((first | assumption | exact Mod.cell (by assumption) (by simp; omega) (by assumption)))
              (first | (go_at_call 27; refine (u32_c gr br _ 0 _ (by first | exact hRa | exact hRa.keep (Mod.drew [] _) (by simp) (by simp))).mono ?_; rintro e w7 ⟨rfl, hRb, mb⟩))
            rename_i w7
            rw [offRest_hi, offErr_hi] at hRb
            replace m1 := (m1.then (Mod.drew [] wx)).trans (mb.wk (ns := [gr]) (fun _ _ h => h)) (by simp; omega)
            clear hRa hXa mb
            rw [got4_a px t hx0, got4_b px hx0]
            go_wp2_with fail
            refine (left_c gr br t 0 _ hRb).mono ?_
            rintro e w8 ⟨rfl, rfl⟩
            go_wp2_with fail
            exact ⟨⟨q + 1, by omega, by go_num, by rw [HT.out], by rw [HT.out]; exact hRb, m1⟩, by simp [intOf]; omega⟩
          · have hs' : (IntKind.u64.wrap pw).tmod 3 = 2 := hs
            have hwd : wid (pw, px) = 8 := by unfold wid; rw [hs]; rfl
            rw [hwd] at hRd ⊢
            clear hwd hs
            have hl2 : (hi px.toNat 8 ++ t).length = t.length + 8 := by rw [List.length_append, hi_length]; omega
            rw [hl2]
            clear hl2
            have hRa := hRd.keep (Mod.alloc [] wr (.cells #[.int .i64 pw, .int .u64 px] 59)) (by simp) (by simp)
            have hXa : (wr.alloc (.cells #[.int .i64 pw, .int .u64 px] 59)).cell? ⟨wr.heap.size, 1, none⟩ = some (.int .u64 px) := by
              rw [(Holds.made wr 59 [.int .i64 pw, .int .u64 px]).cell 1]; rfl
            obtain ⟨z1, z2, z3⟩ := hRd.lt
            replace m1 := m1.then (Mod.alloc [] wr (.cells #[.int .i64 pw, .int .u64 px] 59))
            have hsz : wr.heap.size < (wr.alloc (.cells #[.int .i64 pw, .int .u64 px] 59)).heap.size := by simp
            clear hRd
            go_wp2_with fail
            obtain ⟨xb, hxb⟩ : ∃ xb, xb = wr.heap.size := ⟨_, rfl⟩
            rw [← hxb] at hXa z1 z2 hsz ⊢
            clear hxb
            generalize wr.alloc (.cells #[.int .i64 pw, .int .u64 px] 59) = wx at *
            go_region_held3 (fun w' => w'.cell? ⟨xb, 1, none⟩ = some (.int .u64 px)) ((first | assumption | exact Mod.cell (by assumption) (by simp; omega) (by assumption)))
              (first | (go_at_call 28; refine (u64_c gr br _ 0 _ (by first | exact hRa | exact hRa.keep (Mod.drew [] _) (by simp) (by simp))).mono ?_; rintro e w7 ⟨rfl, hRb, mb⟩))
            rename_i w7
            rw [offRest_hi, offErr_hi] at hRb
            replace m1 := (m1.then (Mod.drew [] wx)).trans (mb.wk (ns := [gr]) (fun _ _ h => h)) (by simp; omega)
            clear hRa hXa mb
            rw [got8_a px t hx0 hx1]
            go_wp2_with fail
            refine (left_c gr br t 0 _ hRb).mono ?_
            rintro e w8 ⟨rfl, rfl⟩
            go_wp2_with fail
            exact ⟨⟨q + 1, by omega, by go_num, by rw [HT.out], by rw [HT.out]; exact hRb, m1⟩, by simp [intOf]; omega⟩
        · obtain rfl : q = j := by omega
          have hD0 : qs.drop q = [] := List.drop_of_length_le (by rw [E.out.2.2.1]; omega)
          have hD2 : (laid (qs.drop q) ++ k).length = m := by rw [hD0]; simp [laid, E.out.2.2.2]
          have hD3 : laid (qs.drop q) ++ k = k := by rw [hD0]; simp [laid]
          rw [hD2]
          rw [hD3] at hRd
          clear hD0 hD2 hD3
          go_wp2_with fail
          refine (raw_yes gr br k m _ hRd (by rw [E.out.2.2.2]; omega) k [] (List.take_of_length_le (by rw [E.out.2.2.2]; omega)) (List.drop_of_length_le (by rw [E.out.2.2.2]; omega))).mono ?_
          rintro e w7 ⟨d1, rfl, hd1, hh1, hRe, mb⟩
          replace m1 := m1.trans (mb.wk (ns := [gr]) (fun _ _ h => h)) (by simp; omega)
          clear mb hRd
          go_wp2_with fail
          refine (beq_n _ B k k _ _ _ _ _ E.out.2.2.2.symm E.out.2.2.2.symm (Reads.of_holds hh1) (hlk.keep m1 (by simp))).mono ?_
          rintro e w8 ⟨rfl, rfl⟩
          rw [decide_eq_true rfl]
          go_wp2_with fail
          refine (left_c gr br [] 0 _ hRe).mono ?_
          rintro e w8 ⟨rfl, rfl⟩
          go_wp2_with fail
          refine (err_c gr br [] 0 _ hRe).mono ?_
          rintro e w8 ⟨rfl, rfl⟩
          go_wp2_with fail
          go_ret
          exact ⟨rfl, m1⟩
theorem rets_w {w : World} (A : Option Addr) (ps : List (Int × Int)) (c : Nat) (hpc : ps.length ≤ c) (hcm : c ≤ maxLen) (hP : Pairs w .i64 .u64 A ps) (_ : ps.length * Try.prog.bytesOf 59 ≤ reachBytes)
    (B : Option Addr) (l : List UInt8) (d : Nat) (hld : l.length ≤ d) (hdm : d ≤ maxLen) (hl : Reads w B l) (_ : l.length * Try.prog.bytesOf 5 ≤ reachBytes) :
    Calls Try.prog 7 #[.slice A ps.length c, .slice B l.length d] w fun e w' => e = .returned (.bool true) ∧ Mod [] w w' :=
  rets_c A ps c hpc hcm B l d hld hdm w hP hl (ps.take 60) (l.take 400) _ _ ⟨rfl, rfl, rfl, rfl⟩ (by simp; omega) (by simp; omega) ⟨by intro h; simp; omega, by intro h; simp; omega⟩ ⟨by intro h; simp; omega, by intro h; simp; omega⟩

end Go.Proofs.Ytheebmehapemnaa
