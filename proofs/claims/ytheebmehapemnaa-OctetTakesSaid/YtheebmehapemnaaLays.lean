/-
  Numbers are laid behind whatever beginning of a row: the walk. My own work.
-/
import Derived.Test.YtheebmehapemnaaRefB
import Derived.Test.YtheebmehapemnaaMaps
import Derived.Maps.RangeWalk
import Derived.SizedLaws
namespace Go.Proofs.Ytheebmehapemnaa
open Go.RowKit

theorem put16_j (A : Option Addr) (l : List UInt8) (n c : Nat) (x : Int) (w : World) (hn : n = l.length) (hl : l.length ≤ 140737488355000) (h : Reads w A l) (h0 : 0 ≤ x) (h1 : x < 65536) :
    Calls Try.prog 12 #[.slice A n c, .int .u16 x] w fun e w' => e = .returned (.slice (some ⟨w.heap.size, 0, none⟩) (n + 2) (n + 2)) ∧ Holds w' w.heap.size 5 ((l ++ hi x.toNat 2).map oct) ∧ Mod [] w w' := by
  obtain ⟨x, rfl⟩ := Int.eq_ofNat_of_zero_le h0
  subst hn
  exact put16_c A l c x w hl h (by omega)
theorem put32_j (A : Option Addr) (l : List UInt8) (n c : Nat) (x : Int) (w : World) (hn : n = l.length) (hl : l.length ≤ 140737488355000) (h : Reads w A l) (h0 : 0 ≤ x) (h1 : x < 4294967296) :
    Calls Try.prog 13 #[.slice A n c, .int .u32 x] w fun e w' => e = .returned (.slice (some ⟨w.heap.size, 0, none⟩) (n + 4) (n + 4)) ∧ Holds w' w.heap.size 5 ((l ++ hi x.toNat 4).map oct) ∧ Mod [] w w' := by
  obtain ⟨x, rfl⟩ := Int.eq_ofNat_of_zero_le h0
  subst hn
  exact put32_c A l c x w hl h (by omega)
theorem put64_j (A : Option Addr) (l : List UInt8) (n c : Nat) (x : Int) (w : World) (hn : n = l.length) (hl : l.length ≤ 140737488355000) (h : Reads w A l) (h0 : 0 ≤ x) (h1 : x < 18446744073709551616) :
    Calls Try.prog 14 #[.slice A n c, .int .u64 x] w fun e w' => e = .returned (.slice (some ⟨w.heap.size, 0, none⟩) (n + 8) (n + 8)) ∧ Holds w' w.heap.size 5 ((l ++ hi x.toNat 8).map oct) ∧ Mod [] w w' := by
  obtain ⟨x, rfl⟩ := Int.eq_ofNat_of_zero_le h0
  subst hn
  exact put64_c A l c x w hl h (by omega)
theorem row_l (A : Option Addr) (l L : List UInt8) (c N : Nat) (w : World) (hc : l.length ≤ c) (hcm : c ≤ maxLen) (hL : l.take 400 = L) (hN : L.length = N) (h : Reads w A l) :
    Calls Try.prog 11 #[.slice A l.length c] w fun e w' => e = .returned (.slice (some ⟨w.heap.size, 0, none⟩) N N) ∧ Holds w' w.heap.size 5 (L.map oct) ∧ Mod [] w w' := by
  subst hN hL
  exact row_c A l c w hc hcm h

theorem hi_mod (x n : Nat) : hi (x % 256 ^ n) n = hi x n := by
  unfold hi
  refine List.map_congr_left fun k hk => ?_
  have hk' := List.mem_range.1 hk
  apply UInt8.toNat_inj.1
  rw [UInt8.toNat_ofNat', UInt8.toNat_ofNat']
  have e : 256 ^ n = 256 ^ (n - 1 - k) * 256 ^ (k + 1) := by rw [← Nat.pow_add]; congr 1; omega
  rw [e, Nat.mod_mul_right_div_self, Nat.pow_succ, Nat.mul_comm]
  exact Nat.mod_mul_right_mod _ _ _
theorem hi_mod16 (x : Int) (h : 0 ≤ x) : hi (x % 65536).toNat 2 = hi x.toNat 2 := by
  rw [show (x % 65536).toNat = x.toNat % 256 ^ 2 from by omega, hi_mod]
theorem hi_mod32 (x : Int) (h : 0 ≤ x) : hi (x % 4294967296).toNat 4 = hi x.toNat 4 := by
  rw [show (x % 4294967296).toNat = x.toNat % 256 ^ 4 from by omega, hi_mod]
theorem high_j (x : Int) (wd : Nat) (w : World) (h0 : 0 ≤ x) (h1 : x < 18446744073709551616) (hw : wd ≤ 8) :
    Calls Try.prog 17 #[.int .u64 x, .int .i64 (wd : Int)] w fun e w' => ∃ A c, e = .returned (.slice A wd c) ∧ Reads w' A (hi x.toNat wd) ∧ Mod [] w w' := by
  obtain ⟨x, rfl⟩ := Int.eq_ofNat_of_zero_le h0
  exact high_c x wd w (by omega) hw
theorem both_n (A B : Option Addr) (l k : List UInt8) (n m c d : Nat) (w : World) (hn : n = l.length) (hm : m = k.length) (hlk : l.length + k.length ≤ 140737488355328) (h : Reads w A l) (h' : Reads w B k) :
    Calls Try.prog 16 #[.slice A n c, .slice B m d] w fun e w' => e = .returned (.slice (some ⟨w.heap.size, 0, none⟩) (n + m) (n + m)) ∧ Holds w' w.heap.size 5 ((l ++ k).map oct) ∧ Mod [] w w' := by
  subst hn hm
  exact both_c A B l k c d w hlk h h'
theorem same_n (A B : Option Addr) (l k : List UInt8) (n m c d : Nat) (w : World) (hn : n = l.length) (hm : m = k.length) (hl : l.length ≤ maxLen) (hk : k.length ≤ maxLen) (h : Reads w A l) (h' : Reads w B k) :
    Calls Try.prog 15 #[.slice A n c, .slice B m d] w fun e w' => e = .returned (.bool (decide (l = k))) ∧ Mod [] w w' := by
  subst hn hm
  exact same_c A B l k c d w hl hk h h'
theorem oct_up (y : UInt8) : (Value.int .u8 (((y.toNat : Int) + 1) % 256)) = oct (y + 1) := by
  show Value.int .u8 _ = Value.int .u8 _
  rw [UInt8.toNat_add]
  rfl

set_option maxRecDepth 1000000 in
set_option maxHeartbeats 4000000 in
theorem lays_c (A : Option Addr) (l : List UInt8) (c : Nat) (at_ x : Int) (w : World) (hlc : l.length ≤ c) (hcm : c ≤ maxLen) (h : Reads w A l) (hx0 : 0 ≤ x) (hx1 : x < 18446744073709551616) (L H : List UInt8) (N : Nat) (hN4 : N ≤ 400) (hh : H.length ≤ N)
    (E : Hid (l.take 400 = L ∧ L.length = N ∧ L.take H.length = H))
    (hq : (IntKind.u64.wrap at_).tmod ((N : Int) + 1) = (H.length : Int)) :
    Calls Try.prog 3 #[.slice A l.length c, .int .i64 at_, .int .u64 x] w fun e w' => e = .returned (.bool true) ∧ Mod [] w w' := by
  have hh' : (H.length : Int) ≤ (N : Int) := by omega
  have hmm := @run_makeMap Try.prog
  go_enter Try.func3, Try.ntmps3
  go_wp2_with fail
  refine (wakes_c _).mono ?_
  rintro e w1 ⟨rfl, m1⟩
  go_wp2_with fail
  refine (row_l A l L c N _ hlc hcm E.out.1 E.out.2.1 (h.keep m1 (by simp))).mono ?_
  rintro e w2 ⟨rfl, hD, m2⟩
  have hb0 := m1.size
  replace m1 := m1.then m2
  clear m2
  have hHr : ∀ v, Holds v w1.heap.size 5 (L.map oct) → Reads v (some ⟨w1.heap.size, 0, none⟩) H := fun v hv i hi => by
    refine ⟨_, 0, rfl, ?_⟩
    rw [(Reads.of_holds hv).at i (by rw [E.out.2.1]; omega)]
    rw [List.getElem_of_eq E.out.2.2.symm hi, List.getElem_take]
  have hlt1 := hD.lt
  have hb1 := m1.size
  go_wp2_with fail
  have hM : MapIs (w2.alloc (.map #[] 0)) w2.heap.size [] 0 := heap_alloc_new w2 _
  replace hD := hD.keep (Mod.alloc [] w2 (.map #[] 0)) (by simp)
  replace m1 := m1.then (Mod.alloc [] w2 (.map #[] 0))
  refine (put16_j _ H _ _ (x % 65536) _ rfl (by omega) (hHr _ hD) (by omega) (by omega)).mono ?_
  rintro e w3 ⟨rfl, hP1, m2⟩
  replace hM := hM.keep m2 (by simp)
  replace hD := hD.keep m2 (by simp)
  replace m1 := m1.then m2
  have hz1 := hP1.lt
  have hy1 := m2.size
  simp only [World.size_alloc] at hP1 hy1 hz1
  clear m2
  go_wp2_with (with_reducible refine wpList_inserts (o := ⟨none, .insert 32 (.tmp 26) (.const (.int .i64 2)) (.tmp 30), _, _, _, _⟩) rfl 32 (.tmp 26) (.tmp 30) .i64 2 rfl rfl 3 22 w2.heap.size 0 (.slice (some ⟨w2.heap.size + 1, 0, none⟩) (H.length + 2) (H.length + 2)) _ Try.underlying32 Try.underlying3 rfl rfl hM (NoKey.nil _ _) ?_; intro w4 hM1 m4)
  have hs1 := m4.size
  replace hM := hM1
  clear hM1
  replace hD := hD.keep m4 (by simp; omega)
  replace hP1 := hP1.keep m4 (by simp)
  replace m1 := m1.trans (m4.wk (ns := [w2.heap.size]) (fun _ _ h => h)) (by simp; omega)
  clear m4
  go_wp2_with fail
  refine (put32_j _ H _ _ (x % 4294967296) _ rfl (by omega) (hHr _ hD) (by omega) (by omega)).mono ?_
  rintro e w5 ⟨rfl, hP2, m2⟩
  replace hM := hM.keep m2 (by simp)
  replace hD := hD.keep m2 (by simp)
  replace hP1 := hP1.keep m2 (by simp)
  replace m1 := m1.then m2
  have hz2 := hP2.lt
  have hy2 := m2.size
  clear m2
  go_wp2_with (with_reducible refine wpList_inserts (o := ⟨none, .insert 32 (.tmp 26) (.const (.int .i64 4)) (.tmp 34), _, _, _, _⟩) rfl 32 (.tmp 26) (.tmp 34) .i64 4 rfl rfl 3 22 w2.heap.size 1 (.slice (some ⟨w4.heap.size, 0, none⟩) (H.length + 4) (H.length + 4)) _ Try.underlying32 Try.underlying3 rfl rfl hM ((NoKey.nil _ _).snoc (by decide)) ?_; intro w6 hM2 m4)
  have hs2 := m4.size
  replace hM := hM2
  clear hM2
  replace hD := hD.keep m4 (by simp; omega)
  replace hP1 := hP1.keep m4 (by simp)
  replace hP2 := hP2.keep m4 (by simp;omega)
  replace m1 := m1.trans (m4.wk (ns := [w2.heap.size]) (fun _ _ h => h)) (by simp; omega)
  clear m4
  go_wp2_with fail
  refine (put64_j _ H _ _ (x) _ rfl (by omega) (hHr _ hD) (by omega) (by omega)).mono ?_
  rintro e w7 ⟨rfl, hP3, m2⟩
  replace hM := hM.keep m2 (by simp)
  replace hD := hD.keep m2 (by simp)
  replace hP1 := hP1.keep m2 (by simp)
  replace hP2 := hP2.keep m2 (by simp)
  replace m1 := m1.then m2
  have hz3 := hP3.lt
  have hy3 := m2.size
  clear m2
  go_wp2_with (first
    | (
      with_reducible refine wpList_inserts (o := ⟨none, .insert 32 (.tmp 26) (.const (.int .i64 8)) (.tmp 37), _, _, _, _⟩) rfl 32 (.tmp 26) (.tmp 37) .i64 8 rfl rfl 3 22 w2.heap.size 2 (.slice (some ⟨w6.heap.size, 0, none⟩) (H.length + 8) (H.length + 8)) _ Try.underlying32 Try.underlying3 rfl rfl hM (((NoKey.nil _ _).snoc (by decide)).snoc (by decide)) ?_
      intro w8 hM3 m4
      have hs3 := m4.size
      replace hM := hM3
      clear hM3
      replace hD := hD.keep m4 (by simp; omega)
      replace hP1 := hP1.keep m4 (by simp)
      replace hP2 := hP2.keep m4 (by simp; omega)
      replace hP3 := hP3.keep m4 (by simp;omega)
      replace m1 := m1.trans (m4.wk (ns := [w2.heap.size]) (fun _ _ h => h)) (by simp; omega)
      clear m4
      rw [hi_mod16 x hx0] at hP1
      rw [hi_mod32 x hx0] at hP2
      obtain ⟨d1, hd1⟩ : ∃ d, d = w2.heap.size + 1 := ⟨_, rfl⟩
      obtain ⟨d2, hd2⟩ : ∃ d, d = w4.heap.size := ⟨_, rfl⟩
      obtain ⟨d3, hd3⟩ : ∃ d, d = w6.heap.size := ⟨_, rfl⟩
      obtain ⟨g, hg⟩ : ∃ d, d = w2.heap.size := ⟨_, rfl⟩
      obtain ⟨D, hDD⟩ : ∃ d, d = w1.heap.size := ⟨_, rfl⟩
      have o1 : D < g := by omega
      have o2 : g < d1 := by omega
      have o3 : d1 < d2 := by omega
      have o4 : d2 < d3 := by omega
      have o5 : d3 < w8.heap.size := by omega
      have o6 : w.heap.size ≤ D := by omega
      rw [← hd1, ← hd2, ← hd3, ← hg] at hM
      rw [← hd1] at hP1
      rw [← hd2] at hP2
      rw [← hd3] at hP3
      rw [← hDD] at hD hHr
      rw [← hd1, ← hd2, ← hd3, ← hg, ← hDD]
      clear hd1 hd2 hd3 hg hDD hz1 hz2 hz3 hy1 hy2 hy3 hs1 hs2 hs3 hlt1 hb0 hb1
      obtain ⟨ES, hES⟩ : ∃ ES, ES = [ent .i64 2 (.slice (some ⟨d1, 0, none⟩) (H.length + 2) (H.length + 2)) 0, ent .i64 4 (.slice (some ⟨d2, 0, none⟩) (H.length + 4) (H.length + 4)) 1, ent .i64 8 (.slice (some ⟨d3, 0, none⟩) (H.length + 8) (H.length + 8)) 2] := ⟨_, rfl⟩
      replace hM : MapIs w8 g ES 3 := by rw [hES]; exact hM
      have HES := Lib.hid hES
      clear hES)
    | (at_range; refine wpList_rangesOver rfl 32 _ rfl 3 22 g 3 ES Try.underlying32 rfl hM ?_; intro w9 hI m2 hs9))

  replace hM := hM.keep m2 (by simp)
  replace hD := hD.keep m2 (by simp)
  replace hP1 := hP1.keep m2 (by simp)
  replace hP2 := hP2.keep m2 (by simp)
  replace hP3 := hP3.keep m2 (by simp)
  replace m1 := m1.then m2
  clear m2
  obtain ⟨r, hr⟩ : ∃ r, r = w8.heap.size := ⟨_, rfl⟩
  rw [← hr] at hI o5
  rw [← hr]
  clear hr
  have hIl := lt_of_some hI
  go_frame
  go_loopw [40] (fun _ wr => ∃ sn, IterIs wr r g 3 sn 3 ∧ MapIs wr g ES 3 ∧ Holds wr D 5 (L.map oct) ∧ Mod [] w wr ∧ (0 ∉ sn → Holds wr d1 5 ((H ++ hi x.toNat 2).map oct)) ∧ (1 ∉ sn → Holds wr d2 5 ((H ++ hi x.toNat 4).map oct)) ∧ (2 ∉ sn → Holds wr d3 5 ((H ++ hi x.toNat 8).map oct))) (fun _ wr => toCome ES wr r)
  case atStart => exact ⟨[], hI, hM, hD, m1, fun _ => hP1, fun _ => hP2, fun _ => hP3⟩
  case round =>
    clear hI hM hD m1 hP1 hP2 hP3 hIl hs9
    obtain ⟨wq, rfl⟩ : ∃ wq : World, wq = wr := ⟨_, rfl⟩
    obtain ⟨sn, hI, hM, hD, m1, hP1, hP2, hP3⟩ := hrel
    have hIl := lt_of_some hI
    go_wp2_with (at_next; refine wpList_nexts rfl _ rfl r g 3 sn ES rfl hI hM (by omega) (by rw [HES.out]; simp [ent]) (by rw [HES.out]; simp [ent]) ?_ ?_)
    · intro hall
      clear hP1 hP2 hP3
      go_wp2_with fail
      refine (row_l A l L c N _ hlc hcm E.out.1 E.out.2.1 (h.keep m1 (by simp))).mono ?_
      rintro e w10 ⟨rfl, hD2, m2⟩
      replace hD := hD.keep m2 (by simp)
      replace m1 := m1.then m2
      clear m2
      go_wp2_with fail
      refine (same_n _ _ L L N N _ _ _ E.out.2.1.symm E.out.2.1.symm (by rw [E.out.2.1]; unfold maxLen; omega) (by rw [E.out.2.1]; unfold maxLen; omega) (Reads.of_holds hD) (Reads.of_holds hD2)).mono ?_
      rintro e w11 ⟨rfl, m2⟩
      replace m1 := m1.then m2
      clear m2
      go_wp2_with fail
      go_ret
      exact ⟨by simp, m1⟩
    · intro en w10 hen hns hI2 m2 hlt hrun
      replace hM := hM.keep m2 (by simp; omega)
      replace hD := hD.keep m2 (by simp; omega)
      replace m1 := m1.trans (m2.wk (ns := [r]) (fun _ _ h => h)) (by simp; omega)
      have hs0 := m2.size
      rw [HES.out] at hen
      simp only [List.mem_cons, List.not_mem_nil, or_false] at hen
      rcases hen with rfl | rfl | rfl
      · simp only [ent_key, ent_val, ent_born] at hI2 hns hrun ⊢
        have hQ := (hP1 hns).keep m2 (by simp; omega)
        have hO1 : (1 ∉ sn ++ [0]) → _ := fun hh => (hP2 (fun h1 => hh (by simp [h1]))).keep m2 (by simp; omega)
        have hO2 : (2 ∉ sn ++ [0]) → _ := fun hh => (hP3 (fun h1 => hh (by simp [h1]))).keep m2 (by simp; omega)
        clear hP1 hP2 hP3 m2 hI hns
        go_wp2_with fail
        refine (high_j x 2 _ hx0 hx1 (by omega)).mono ?_
        rintro e w11 ⟨A1, c1, rfl, hR1, m3⟩
        go_wp2_with fail
        refine (both_n _ _ H (hi x.toNat 2) _ _ _ _ _ rfl (hi_length _ _).symm (by rw [hi_length]; omega) (hHr _ (hD.keep m3 (by simp))) hR1).mono ?_
        rintro e w12 ⟨rfl, hB, m4⟩
        replace m3 := m3.then m4
        clear m4
        go_wp2_with fail
        refine (same_n _ _ (H ++ hi x.toNat 2) (H ++ hi x.toNat 2) _ _ _ _ _ (by simp [hi_length]) (by simp [hi_length]) (by simp [hi_length]; unfold maxLen; omega) (by simp [hi_length]; unfold maxLen; omega) (Reads.of_holds (hQ.keep m3 (by simp))) (Reads.of_holds hB)).mono ?_
        rintro e w13 ⟨rfl, m4⟩
        replace m3 := m3.then m4
        clear m4 hB hR1
        rw [decide_eq_true rfl]
        replace hI2 := hI2.keep m3 (by simp)
        replace hM := hM.keep m3 (by simp)
        replace hD := hD.keep m3 (by simp)
        replace hQ := hQ.keep m3 (by simp)
        replace hO1 := fun hh => (hO1 hh).keep m3 (by simp)
        replace hO2 := fun hh => (hO2 hh).keep m3 (by simp)
        replace m1 := m1.then m3
        have hs1 := m3.size
        have hlt2 : toCome ES w13 r < toCome ES wq r := by
          have e1 : toCome ES w13 r = toCome ES w10 r := by unfold toCome World.iterSeen; rw [m3.block r (by omega) (by simp)]
          rw [e1]; exact hlt
        clear m3 hlt hrun
        have hQ' : ∃ cs : List UInt8, cs.length = H.length + 2 ∧ Holds w13 d1 5 (cs.map oct) := ⟨_, by simp [hi_length], hQ⟩
        clear hQ
        have HK := Lib.hid (And.intro hI2 (And.intro hM (And.intro hD (And.intro m1 (And.intro hO1 (And.intro hO2 hlt2))))))
        clear hI2 hM hD m1 hO1 hO2 hlt2
        have hn : (H.length : Int) + 2 ≤ 408 := by omega
        go_wp2_with fail
        obtain ⟨wo, hwo⟩ : ∃ wo : World, wo = w13 := ⟨_, rfl⟩
        have HW := Lib.hid hwo
        clear hwo
        go_loopw [55] (fun i wi => ∃ j : Nat, j ≤ H.length + 2 ∧ i = .int .i64 (j : Int) ∧ Mod [d1] wo wi ∧ ∃ cs : List UInt8, cs.length = H.length + 2 ∧ Holds wi d1 5 (cs.map oct)) (fun i _ => H.length + 2 - (intOf i).toNat)
        case atStart => exact ⟨0, by omega, rfl, by rw [HW.out]; exact Mod.refl _ _, hQ'⟩
        case round =>
          clear hQ'
          obtain ⟨j, hj, rfl, hmi, cs, hcs, hhi⟩ := hrel
          by_cases hjl : j < H.length + 2
          · have hcc := hhi.cell j
            have hff := hhi.free j
            have hjc : j < cs.length := by omega
            rw [List.getElem?_map, List.getElem?_eq_getElem hjc, Option.map_some] at hcc
            generalize cs[j] = y at hcc
            clear hjc
            have hup := Lib.hid (oct_up y)
            have hh2 := hhi.set j (oct (y + 1))
            rw [← List.map_set] at hh2
            have hm2 : Mod [d1] wo (World.setCell _ ⟨d1, j, none⟩ (oct (y + 1))) := hmi.trans (Mod.setCell (ms := [d1]) _ (by simp) _) (fun _ _ h => h)
            have hcs2 : (cs.set j (y + 1)).length = H.length + 2 := by simpa using hcs
            have HZ := Lib.hid (And.intro hh2 (And.intro hm2 hcs2))
            clear hh2 hm2 hcs2 hcs hhi hmi
            go_wp2
            rw [hup.out]
            exact ⟨⟨j + 1, by omega, by go_num, HZ.out.2.1, _, HZ.out.2.2, HZ.out.1⟩, by simp [intOf]; omega⟩
          · obtain rfl : j = H.length + 2 := by omega
            obtain ⟨k1, k2, k3, k4, k5, k6, k7⟩ := HK.out
            rw [HW.out] at hmi
            have hlt3 := hmi.size
            have e1 : ∀ v : World, Mod [d1] w13 v → toCome ES v r = toCome ES w13 r := fun v hv => by unfold toCome World.iterSeen; rw [hv.block r (by have := lt_of_some k1; omega) (by simp; omega)]
            have q1 := k1.keep hmi (by simp; omega)
            have q2 := k2.keep hmi (by simp; omega)
            have q3 := k3.keep hmi (by simp; omega)
            have q4 := k4.trans (hmi.wk (ns := [d1]) (fun _ _ h => h)) (by simp; omega)
            have q5 := fun hh => (k5 hh).keep hmi (by simp; omega)
            have q6 := fun hh => (k6 hh).keep hmi (by simp; omega)
            have q7 := k7
            rw [← e1 _ hmi] at q7
            have HF := Lib.hid (And.intro q1 (And.intro q2 (And.intro q3 (And.intro q4 (And.intro q5 (And.intro q6 q7))))))
            clear q1 q2 q3 q4 q5 q6 q7 k1 k2 k3 k4 k5 k6 k7 e1 HK
            go_wp2
            obtain ⟨q1, q2, q3, q4, q5, q6, q7⟩ := HF.out
            exact ⟨⟨sn ++ [0], q1, q2, q3, q4, fun h0 => absurd (by simp) h0, q5, q6⟩, q7⟩
      · simp only [ent_key, ent_val, ent_born] at hI2 hns hrun ⊢
        have hQ := (hP2 hns).keep m2 (by simp; omega)
        have hO1 : (0 ∉ sn ++ [1]) → _ := fun hh => (hP1 (fun h1 => hh (by simp [h1]))).keep m2 (by simp; omega)
        have hO2 : (2 ∉ sn ++ [1]) → _ := fun hh => (hP3 (fun h1 => hh (by simp [h1]))).keep m2 (by simp; omega)
        clear hP1 hP2 hP3 m2 hI hns
        go_wp2_with fail
        refine (high_j x 4 _ hx0 hx1 (by omega)).mono ?_
        rintro e w11 ⟨A1, c1, rfl, hR1, m3⟩
        go_wp2_with fail
        refine (both_n _ _ H (hi x.toNat 4) _ _ _ _ _ rfl (hi_length _ _).symm (by rw [hi_length]; omega) (hHr _ (hD.keep m3 (by simp))) hR1).mono ?_
        rintro e w12 ⟨rfl, hB, m4⟩
        replace m3 := m3.then m4
        clear m4
        go_wp2_with fail
        refine (same_n _ _ (H ++ hi x.toNat 4) (H ++ hi x.toNat 4) _ _ _ _ _ (by simp [hi_length]) (by simp [hi_length]) (by simp [hi_length]; unfold maxLen; omega) (by simp [hi_length]; unfold maxLen; omega) (Reads.of_holds (hQ.keep m3 (by simp))) (Reads.of_holds hB)).mono ?_
        rintro e w13 ⟨rfl, m4⟩
        replace m3 := m3.then m4
        clear m4 hB hR1
        rw [decide_eq_true rfl]
        replace hI2 := hI2.keep m3 (by simp)
        replace hM := hM.keep m3 (by simp)
        replace hD := hD.keep m3 (by simp)
        replace hQ := hQ.keep m3 (by simp)
        replace hO1 := fun hh => (hO1 hh).keep m3 (by simp)
        replace hO2 := fun hh => (hO2 hh).keep m3 (by simp)
        replace m1 := m1.then m3
        have hs1 := m3.size
        have hlt2 : toCome ES w13 r < toCome ES wq r := by
          have e1 : toCome ES w13 r = toCome ES w10 r := by unfold toCome World.iterSeen; rw [m3.block r (by omega) (by simp)]
          rw [e1]; exact hlt
        clear m3 hlt hrun
        have hQ' : ∃ cs : List UInt8, cs.length = H.length + 4 ∧ Holds w13 d2 5 (cs.map oct) := ⟨_, by simp [hi_length], hQ⟩
        clear hQ
        have HK := Lib.hid (And.intro hI2 (And.intro hM (And.intro hD (And.intro m1 (And.intro hO1 (And.intro hO2 hlt2))))))
        clear hI2 hM hD m1 hO1 hO2 hlt2
        have hn : (H.length : Int) + 4 ≤ 408 := by omega
        go_wp2_with fail
        obtain ⟨wo, hwo⟩ : ∃ wo : World, wo = w13 := ⟨_, rfl⟩
        have HW := Lib.hid hwo
        clear hwo
        go_loopw [55] (fun i wi => ∃ j : Nat, j ≤ H.length + 4 ∧ i = .int .i64 (j : Int) ∧ Mod [d2] wo wi ∧ ∃ cs : List UInt8, cs.length = H.length + 4 ∧ Holds wi d2 5 (cs.map oct)) (fun i _ => H.length + 4 - (intOf i).toNat)
        case atStart => exact ⟨0, by omega, rfl, by rw [HW.out]; exact Mod.refl _ _, hQ'⟩
        case round =>
          clear hQ'
          obtain ⟨j, hj, rfl, hmi, cs, hcs, hhi⟩ := hrel
          by_cases hjl : j < H.length + 4
          · have hcc := hhi.cell j
            have hff := hhi.free j
            have hjc : j < cs.length := by omega
            rw [List.getElem?_map, List.getElem?_eq_getElem hjc, Option.map_some] at hcc
            generalize cs[j] = y at hcc
            clear hjc
            have hup := Lib.hid (oct_up y)
            have hh2 := hhi.set j (oct (y + 1))
            rw [← List.map_set] at hh2
            have hm2 : Mod [d2] wo (World.setCell _ ⟨d2, j, none⟩ (oct (y + 1))) := hmi.trans (Mod.setCell (ms := [d2]) _ (by simp) _) (fun _ _ h => h)
            have hcs2 : (cs.set j (y + 1)).length = H.length + 4 := by simpa using hcs
            have HZ := Lib.hid (And.intro hh2 (And.intro hm2 hcs2))
            clear hh2 hm2 hcs2 hcs hhi hmi
            go_wp2
            rw [hup.out]
            exact ⟨⟨j + 1, by omega, by go_num, HZ.out.2.1, _, HZ.out.2.2, HZ.out.1⟩, by simp [intOf]; omega⟩
          · obtain rfl : j = H.length + 4 := by omega
            obtain ⟨k1, k2, k3, k4, k5, k6, k7⟩ := HK.out
            rw [HW.out] at hmi
            have hlt3 := hmi.size
            have e1 : ∀ v : World, Mod [d2] w13 v → toCome ES v r = toCome ES w13 r := fun v hv => by unfold toCome World.iterSeen; rw [hv.block r (by have := lt_of_some k1; omega) (by simp; omega)]
            have q1 := k1.keep hmi (by simp; omega)
            have q2 := k2.keep hmi (by simp; omega)
            have q3 := k3.keep hmi (by simp; omega)
            have q4 := k4.trans (hmi.wk (ns := [d2]) (fun _ _ h => h)) (by simp; omega)
            have q5 := fun hh => (k5 hh).keep hmi (by simp; omega)
            have q6 := fun hh => (k6 hh).keep hmi (by simp; omega)
            have q7 := k7
            rw [← e1 _ hmi] at q7
            have HF := Lib.hid (And.intro q1 (And.intro q2 (And.intro q3 (And.intro q4 (And.intro q5 (And.intro q6 q7))))))
            clear q1 q2 q3 q4 q5 q6 q7 k1 k2 k3 k4 k5 k6 k7 e1 HK
            go_wp2
            obtain ⟨q1, q2, q3, q4, q5, q6, q7⟩ := HF.out
            exact ⟨⟨sn ++ [1], q1, q2, q3, q4, q5, fun h0 => absurd (by simp) h0, q6⟩, q7⟩
      · simp only [ent_key, ent_val, ent_born] at hI2 hns hrun ⊢
        have hQ := (hP3 hns).keep m2 (by simp; omega)
        have hO1 : (0 ∉ sn ++ [2]) → _ := fun hh => (hP1 (fun h1 => hh (by simp [h1]))).keep m2 (by simp; omega)
        have hO2 : (1 ∉ sn ++ [2]) → _ := fun hh => (hP2 (fun h1 => hh (by simp [h1]))).keep m2 (by simp; omega)
        clear hP1 hP2 hP3 m2 hI hns
        go_wp2_with fail
        refine (high_j x 8 _ hx0 hx1 (by omega)).mono ?_
        rintro e w11 ⟨A1, c1, rfl, hR1, m3⟩
        go_wp2_with fail
        refine (both_n _ _ H (hi x.toNat 8) _ _ _ _ _ rfl (hi_length _ _).symm (by rw [hi_length]; omega) (hHr _ (hD.keep m3 (by simp))) hR1).mono ?_
        rintro e w12 ⟨rfl, hB, m4⟩
        replace m3 := m3.then m4
        clear m4
        go_wp2_with fail
        refine (same_n _ _ (H ++ hi x.toNat 8) (H ++ hi x.toNat 8) _ _ _ _ _ (by simp [hi_length]) (by simp [hi_length]) (by simp [hi_length]; unfold maxLen; omega) (by simp [hi_length]; unfold maxLen; omega) (Reads.of_holds (hQ.keep m3 (by simp))) (Reads.of_holds hB)).mono ?_
        rintro e w13 ⟨rfl, m4⟩
        replace m3 := m3.then m4
        clear m4 hB hR1
        rw [decide_eq_true rfl]
        replace hI2 := hI2.keep m3 (by simp)
        replace hM := hM.keep m3 (by simp)
        replace hD := hD.keep m3 (by simp)
        replace hQ := hQ.keep m3 (by simp)
        replace hO1 := fun hh => (hO1 hh).keep m3 (by simp)
        replace hO2 := fun hh => (hO2 hh).keep m3 (by simp)
        replace m1 := m1.then m3
        have hs1 := m3.size
        have hlt2 : toCome ES w13 r < toCome ES wq r := by
          have e1 : toCome ES w13 r = toCome ES w10 r := by unfold toCome World.iterSeen; rw [m3.block r (by omega) (by simp)]
          rw [e1]; exact hlt
        clear m3 hlt hrun
        have hQ' : ∃ cs : List UInt8, cs.length = H.length + 8 ∧ Holds w13 d3 5 (cs.map oct) := ⟨_, by simp [hi_length], hQ⟩
        clear hQ
        have HK := Lib.hid (And.intro hI2 (And.intro hM (And.intro hD (And.intro m1 (And.intro hO1 (And.intro hO2 hlt2))))))
        clear hI2 hM hD m1 hO1 hO2 hlt2
        have hn : (H.length : Int) + 8 ≤ 408 := by omega
        go_wp2_with fail
        obtain ⟨wo, hwo⟩ : ∃ wo : World, wo = w13 := ⟨_, rfl⟩
        have HW := Lib.hid hwo
        clear hwo
        go_loopw [55] (fun i wi => ∃ j : Nat, j ≤ H.length + 8 ∧ i = .int .i64 (j : Int) ∧ Mod [d3] wo wi ∧ ∃ cs : List UInt8, cs.length = H.length + 8 ∧ Holds wi d3 5 (cs.map oct)) (fun i _ => H.length + 8 - (intOf i).toNat)
        case atStart => exact ⟨0, by omega, rfl, by rw [HW.out]; exact Mod.refl _ _, hQ'⟩
        case round =>
          clear hQ'
          obtain ⟨j, hj, rfl, hmi, cs, hcs, hhi⟩ := hrel
          by_cases hjl : j < H.length + 8
          · have hcc := hhi.cell j
            have hff := hhi.free j
            have hjc : j < cs.length := by omega
            rw [List.getElem?_map, List.getElem?_eq_getElem hjc, Option.map_some] at hcc
            generalize cs[j] = y at hcc
            clear hjc
            have hup := Lib.hid (oct_up y)
            have hh2 := hhi.set j (oct (y + 1))
            rw [← List.map_set] at hh2
            have hm2 : Mod [d3] wo (World.setCell _ ⟨d3, j, none⟩ (oct (y + 1))) := hmi.trans (Mod.setCell (ms := [d3]) _ (by simp) _) (fun _ _ h => h)
            have hcs2 : (cs.set j (y + 1)).length = H.length + 8 := by simpa using hcs
            have HZ := Lib.hid (And.intro hh2 (And.intro hm2 hcs2))
            clear hh2 hm2 hcs2 hcs hhi hmi
            go_wp2
            rw [hup.out]
            exact ⟨⟨j + 1, by omega, by go_num, HZ.out.2.1, _, HZ.out.2.2, HZ.out.1⟩, by simp [intOf]; omega⟩
          · obtain rfl : j = H.length + 8 := by omega
            obtain ⟨k1, k2, k3, k4, k5, k6, k7⟩ := HK.out
            rw [HW.out] at hmi
            have hlt3 := hmi.size
            have e1 : ∀ v : World, Mod [d3] w13 v → toCome ES v r = toCome ES w13 r := fun v hv => by unfold toCome World.iterSeen; rw [hv.block r (by have := lt_of_some k1; omega) (by simp; omega)]
            have q1 := k1.keep hmi (by simp; omega)
            have q2 := k2.keep hmi (by simp; omega)
            have q3 := k3.keep hmi (by simp; omega)
            have q4 := k4.trans (hmi.wk (ns := [d3]) (fun _ _ h => h)) (by simp; omega)
            have q5 := fun hh => (k5 hh).keep hmi (by simp; omega)
            have q6 := fun hh => (k6 hh).keep hmi (by simp; omega)
            have q7 := k7
            rw [← e1 _ hmi] at q7
            have HF := Lib.hid (And.intro q1 (And.intro q2 (And.intro q3 (And.intro q4 (And.intro q5 (And.intro q6 q7))))))
            clear q1 q2 q3 q4 q5 q6 q7 k1 k2 k3 k4 k5 k6 k7 e1 HK
            go_wp2
            obtain ⟨q1, q2, q3, q4, q5, q6, q7⟩ := HF.out
            exact ⟨⟨sn ++ [2], q1, q2, q3, q4, q5, q6, fun h0 => absurd (by simp) h0⟩, q7⟩
theorem lays_w {w : World} (A : Option Addr) (l : List UInt8) (c : Nat) (hc : l.length ≤ c) (hcm : c ≤ maxLen) (ha : Reads w A l) (_ : l.length * Try.prog.bytesOf 5 ≤ reachBytes) (at_ : Int) (_ : (Lit.int .i64 at_).wf = true) (x : Int) (wx : (Lit.int .u64 x).wf = true) :
    Calls Try.prog 3 #[.slice A l.length c, .int .i64 at_, .int .u64 x] w fun e w' => e = .returned (.bool true) ∧ Mod [] w w' := by
  have hx : 0 ≤ x ∧ x < 18446744073709551616 := by simp [Lit.wf, IntKind.min, IntKind.max, IntKind.signed, IntKind.bits] at wx; omega
  have hu := wrap_u64_nonneg at_
  have hl4 : (l.take 400).length ≤ 400 := by simp; omega
  generalize hN : (l.take 400).length = N at *
  have h1 : 0 ≤ IntKind.u64.wrap at_ % ((N : Int) + 1) := Int.emod_nonneg _ (by omega)
  have h2 : IntKind.u64.wrap at_ % ((N : Int) + 1) < (N : Int) + 1 := Int.emod_lt_of_pos _ (by omega)
  obtain ⟨k, hk⟩ := Int.eq_ofNat_of_zero_le h1
  have hkl : ((l.take 400).take k).length = k := by rw [List.length_take, hN]; omega
  refine lays_c A l c at_ x w hc hcm ha hx.1 hx.2 (l.take 400) ((l.take 400).take k) N hl4 (by omega) ⟨rfl, hN, by rw [hkl]⟩ ?_
  rw [Int.tmod_eq_emod_of_nonneg hu, hk, hkl]

end Go.Proofs.Ytheebmehapemnaa
