/-
  My own texts RefA RefB, one behind the other.
-/
import Derived.Test.YtapafniekmfkaaaDoorOct
import Derived.Deep.QuietTactic
import Derived.BigQuiet
import Derived.Test.YtapafniekmfkaaaDoorApp
namespace Go.Proofs.YtapafniekmfkaaaDoor
section
open Go.RowKit

/-- How many places of two rows, of the first j, hold the same. -/
def alike (l k : List UInt8) (j : Nat) : Nat := ((l.zip k).take j).countP (fun p => p.1 == p.2)
theorem alike_next (l k : List UInt8) (j : Nat) (h : j < l.length) (h' : j < k.length) : alike l k (j + 1) = alike l k j + if l[j] = k[j] then 1 else 0 := by
  unfold alike
  rw [List.take_succ_eq_append_getElem (by simp; omega), List.countP_append]
  simp [List.countP_cons]
theorem alike_le (l k : List UInt8) (j : Nat) : alike l k j ≤ j := by
  unfold alike
  exact Nat.le_trans List.countP_le_length (by simp; omega)
theorem alike_all (l k : List UInt8) : (alike l k (min l.length k.length) = l.length ∧ alike l k (min l.length k.length) = k.length) ↔ l = k := by
  unfold alike
  rw [List.take_of_length_le (by simp)]
  constructor
  · rintro ⟨h1, h2⟩
    have hl : l.length = k.length := by omega
    have h3 : (l.zip k).countP (fun p => p.1 == p.2) = (l.zip k).length := by rw [h1]; simp [hl]
    rw [List.countP_eq_length] at h3
    apply List.ext_getElem hl
    intro i hi hi'
    have := h3 (l[i], k[i]) (by
      rw [List.mem_iff_getElem]
      exact ⟨i, by simp; omega, by simp⟩)
    simpa using this
  · rintro rfl
    have h3 : (l.zip l).countP (fun p => p.1 == p.2) = (l.zip l).length := by
      rw [List.countP_eq_length]
      intro p hp
      rw [List.mem_iff_getElem] at hp
      obtain ⟨i, hi, rfl⟩ := hp
      simp
    rw [h3]
    simp

theorem same_c (A B : Option Addr) (l k : List UInt8) (c d : Nat) (w : World) (hl : l.length ≤ maxLen) (hk : k.length ≤ maxLen) (h : Reads w A l) (h' : Reads w B k) :
    Calls Tryd.prog 19 #[.slice A l.length c, .slice B k.length d] w fun e w' => e = .returned (.bool (decide (l = k))) ∧ Mod [] w w' := by
  unfold maxLen at hl hk
  go_enter Tryd.func19, Tryd.ntmps19
  go_wp2
  go_loopw [5, 6] (fun x i wr => ∃ j : Nat, j ≤ l.length ∧ j ≤ k.length ∧ i = .int .i64 j ∧ x = .int .i64 (alike l k j : Int) ∧ Mod [] w wr) (fun _ i _ => l.length - (intOf i).toNat)
  case atStart => exact ⟨0, by omega, by omega, rfl, rfl, Mod.refl _ _⟩
  case round =>
    obtain ⟨j, hjl, hjk, rfl, rfl, hm⟩ := hrel
    have ha := alike_le l k j
    by_cases hlt : j < l.length
    · by_cases hlt' : j < k.length
      · have hn := alike_next l k j hlt hlt'
        obtain ⟨g, o, rfl, hc⟩ := (h.keep hm (by simp)) j hlt
        obtain ⟨g', o', rfl, hc'⟩ := (h'.keep hm (by simp)) j hlt'
        have b1 : (j : Int) < (l.length : Int) := by omega
        have b2 : (j : Int) < (k.length : Int) := by omega
        by_cases he : l[j] = k[j]
        · rw [if_pos he] at hn
          have hb : ((l[j].toNat : Int) == (k[j].toNat : Int)) = true := by rw [he]; simp
          have HN := Lib.hid hn
          clear hn
          go_wp2
          go_quiet (fail)
          go_wp2
          exact ⟨⟨j + 1, by omega, by omega, by go_num, by rw [HN.out]; go_num, hm.then (Mod.drewN [] _ _)⟩, by simp [intOf]; omega⟩
        · rw [if_neg he] at hn
          have hb : ((l[j].toNat : Int) == (k[j].toNat : Int)) = false := by
            rw [beq_eq_false_iff_ne]
            intro hh
            exact he (UInt8.toNat_inj.1 (by omega))
          have HN := Lib.hid hn
          clear hn
          go_wp2
          go_quiet (fail)
          go_wp2
          exact ⟨⟨j + 1, by omega, by omega, by go_num, by rw [HN.out]; rfl, hm.then (Mod.drewN [] _ _)⟩, by simp [intOf]; omega⟩
      · have hmin : min l.length k.length = j := by omega
        have hiff := alike_all l k
        rw [hmin] at hiff
        have hne : ¬ (l = k) := fun hh => by subst hh; omega
        have HD : Hid (decide (l = k) = false) := by show _ = _; simpa using hne
        have hb : ((alike l k j : Int) == (l.length : Int)) = false := by rw [beq_eq_false_iff_ne]; omega
        clear hiff hmin
        go_wp2
        go_ret
        exact ⟨by rw [HD.out]; rfl, hm⟩
    · obtain rfl : j = l.length := by omega
      have hmin : min l.length k.length = l.length := by omega
      have hiff := alike_all l k
      rw [hmin] at hiff
      by_cases he : l = k
      · subst he
        obtain ⟨e1, _⟩ := hiff.2 rfl
        have hb : ((alike l l l.length : Int) == (l.length : Int)) = true := by rw [beq_iff_eq]; omega
        clear hiff hmin e1
        go_wp2
        go_ret
        exact ⟨by simp, hm⟩
      · have HD : Hid (decide (l = k) = false) := by show _ = _; simpa using he
        by_cases e1 : alike l k l.length = l.length
        · have e2 : alike l k l.length ≠ k.length := fun e2 => he (hiff.1 ⟨e1, e2⟩)
          have hb : ((alike l k l.length : Int) == (l.length : Int)) = true := by rw [beq_iff_eq]; omega
          have hb' : ((alike l k l.length : Int) == (k.length : Int)) = false := by rw [beq_eq_false_iff_ne]; omega
          clear hiff hmin e1 e2
          go_wp2
          go_ret
          exact ⟨by rw [HD.out]; rfl, hm⟩
        · have hb : ((alike l k l.length : Int) == (l.length : Int)) = false := by rw [beq_eq_false_iff_ne]; omega
          clear hiff hmin e1
          go_wp2
          go_ret
          exact ⟨by rw [HD.out]; rfl, hm⟩

set_option maxRecDepth 100000 in
theorem both_c (A B : Option Addr) (l k : List UInt8) (c d : Nat) (w : World) (hlk : l.length + k.length ≤ 140737488355328) (h : Reads w A l) (h' : Reads w B k) :
    Calls Tryd.prog 56 #[.slice A l.length c, .slice B k.length d] w fun e w' => e = .returned (.slice (some ⟨w.heap.size, 0, none⟩) (l.length + k.length) (l.length + k.length)) ∧ Holds w' w.heap.size 5 ((l ++ k).map oct) ∧ Mod [] w w' := by
  obtain ⟨i0, hi0, hz0, hz1, hz2⟩ := info_parts u8_zero
  go_enter Tryd.func56, Tryd.ntmps56
  go_wp2_with (at_make; refine wpList_makes _ rfl _ _ 27 rfl 5 i0 (.int .u8 0) Tryd.underlying27 hi0 hz0 hz1 1 hz2 rfl .i64 .i64 _ _ (l.length + k.length) rfl rfl (by omega) (by omega) (by omega) (by unfold maxLen; omega) ?_; intro w1 hw1 hm1 hs1)
  go_loopw [15] (fun i wr => ∃ j : Nat, j ≤ l.length + k.length ∧ i = .int .i64 j ∧ Holds wr w.heap.size 5 (((l ++ k).take j).map oct ++ List.replicate (l.length + k.length - j) (.int .u8 0)) ∧ Mod [] w wr) (fun i _ => l.length + k.length - (intOf i).toNat)
  case atStart => exact ⟨0, by omega, rfl, by simpa using hw1, hm1⟩
  case round =>
    obtain ⟨j, hj, rfl, hh, hm⟩ := hrel
    have hl' : (((l ++ k).take j).map oct).length = j := by simp; omega
    by_cases hlt : j < l.length + k.length
    · have hlt2 : j < (l ++ k).length := by simpa using hlt
      have hf := hh.free j
      have hc := hh.cell j
      rw [List.getElem?_append_right (by omega), hl', Nat.sub_self, List.getElem?_replicate, if_pos (by omega)] at hc
      have hh' := hh.set j (oct (l ++ k)[j])
      rw [set_at _ _ _ _ _ hl' (by omega)] at hh'
      have e1 : (((l ++ k).take (j + 1)).map oct) = ((l ++ k).take j).map oct ++ [oct (l ++ k)[j]] := by
        rw [take_next _ _ hlt2]; simp only [List.map_append, List.map_cons, List.map_nil]
      rw [← e1] at hh'
      clear e1
      have hm' : Mod [] w (wr.setCell ⟨w.heap.size, j, none⟩ (oct (l ++ k)[j])) := hm.trans (Mod.setCell (ms := [w.heap.size]) wr (by simp) _) (by simp; omega)
      by_cases hjl : j < l.length
      · obtain ⟨g, o, rfl, hcl⟩ := (h.keep hm (by simp)) j hjl
        have e2 : (l ++ k)[j] = l[j] := List.getElem_append_left hjl
        rw [e2] at hh' hm'
        clear e2
        go_wp2
        exact ⟨⟨j + 1, by omega, by go_num, hh', hm'⟩, by simp [intOf]; omega⟩
      · obtain ⟨g, o, rfl, hck⟩ := (h'.keep hm (by simp)) (j - l.length) (by omega)
        have e2 : (l ++ k)[j] = k[j - l.length]'(by omega) := List.getElem_append_right (by omega)
        rw [e2] at hh' hm'
        clear e2
        go_wp2
        exact ⟨⟨j + 1, by omega, by go_num, hh', hm'⟩, by simp [intOf]; omega⟩
    · obtain rfl : j = l.length + k.length := by omega
      rw [List.take_of_length_le (by simp)] at hh
      go_wp2
      go_ret
      exact ⟨rfl, by simpa using hh, hm⟩
end
section
open Go.RowKit

theorem byte_c (x wd k : Nat) (w : World) (hx : x < 18446744073709551616) (hk : k < wd) (hw : wd ≤ 8) :
    Calls Tryd.prog 85 #[.int .u64 (x : Int), .int .i64 (wd : Int), .int .i64 (k : Int)] w fun e w' => e = .returned (oct ((hi x wd)[k]'(by rw [hi_length]; exact hk))) ∧ w = w' := by
  have hat := hi_at x wd k (by rw [hi_length]; exact hk)
  have hfin : (((x / 256 ^ (wd - 1 - k) : Nat) : Int) % 256) = (((hi x wd)[k]'(by rw [hi_length]; exact hk)).toNat : Int) := by
    rw [hat, UInt8.toNat_ofNat']
    rfl
  have HF := Lib.hid hfin
  clear hfin hat
  go_enter Tryd.func85, Tryd.ntmps85
  go_wp2
  go_loop [0, 2] (fun y i => ∃ j : Nat, k + j ≤ wd - 1 ∧ i = .int .i64 ((k + j : Nat) : Int) ∧ ∃ z : Nat, z < 18446744073709551616 ∧ y = .int .u64 (z : Int) ∧ Hid (z = x / 256 ^ j)) (fun _ i => wd - (intOf i).toNat)
  case atStart => exact ⟨0, by omega, rfl, x, hx, rfl, by show x = _; simp⟩
  case round =>
    obtain ⟨j, hj, rfl, z, hz, rfl, hzj⟩ := hrel
    by_cases hlt : k + j < wd - 1
    · have hlt' : (k : Int) + (j : Int) < (wd : Int) - 1 := by omega
      have hN : Hid (z / 256 = x / 256 ^ (j + 1)) := by
        show _ = _
        rw [hzj.out, Nat.div_div_eq_div_mul, Nat.pow_succ]
      go_wp2
      exact ⟨⟨j + 1, by omega, by go_num, z / 256, by omega, by simp, hN⟩, by simp [intOf]; omega⟩
    · have hlt' : ¬ (k : Int) + (j : Int) < (wd : Int) - 1 := by omega
      have ej : j = wd - 1 - k := by omega
      have HZ : Hid (((z : Int) % 256) = (((hi x wd)[k]'(by rw [hi_length]; exact hk)).toNat : Int)) := by
        show _ = _
        rw [← HF.out, hzj.out, ej]
      clear ej
      go_wp2
      go_ret
      exact ⟨congrArg (fun n => Ending.returned (.int .u8 n)) HZ.out, rfl⟩

theorem blk_new {A : Option Addr} {B i : Nat} (h : ∀ a, A = some a → B ≤ a.block) (hi : i < B) (hm : i ∈ blk A) : False := by
  rcases A with _ | a
  · simp [blk] at hm
  · simp [blk] at hm
    have := h a rfl
    omega

theorem high_c (x wd : Nat) (w : World) (hx : x < 18446744073709551616) (hw : wd ≤ 8) :
    Calls Tryd.prog 59 #[.int .u64 (x : Int), .int .i64 (wd : Int)] w fun e w' => ∃ A c, e = .returned (.slice A wd c) ∧ Reads w' A (hi x wd) ∧ Mod [] w w' := by
  obtain ⟨i0, hi0, hz0, hz1, hz2⟩ := info_parts u8_zero
  go_enter Tryd.func59, Tryd.ntmps59
  go_wp2
  go_loopw [5, 6] (fun v i wr => ∃ j : Nat, j ≤ wd ∧ i = .int .i64 (j : Int) ∧ ∃ A c, v = .slice A j c ∧ Owns wr w.heap.size 5 A c ((hi x wd).take j) ∧ Mod [] w wr) (fun _ i _ => wd - (intOf i).toNat)
  case atStart => exact ⟨0, by omega, rfl, none, 0, rfl, Owns.nil _ _ _, Mod.refl _ _⟩
  case round =>
    obtain ⟨j, hj, rfl, A, c, rfl, hO, hm⟩ := hrel
    have hjl : ((hi x wd).take j).length = j := by simp [hi_length]; omega
    by_cases hlt : j < wd
    · have ht := take_next (hi x wd) j (by rw [hi_length]; exact hlt)
      have hln : ((hi x wd).take (j + 1)).length = j + 1 := by simp [hi_length]; omega
      have H := Lib.hid (And.intro hjl (And.intro ht hln))
      clear hjl ht hln
      have hs := hm.size
      have hofs := hO.fits.2.2
      go_wp2_with fail
      refine (byte_c x wd j _ hx hlt hw).mono ?_
      rintro e w1 ⟨rfl, rfl⟩
      generalize hy : (hi x wd)[j]'(by rw [hi_length]; exact hlt) = y at *
      clear hy
      have hA := hO.keep (Mod.alloc [] wr (.cells #[oct y] 5)) (by simp)
      have hN : Holds (wr.alloc (.cells #[oct y] 5)) wr.heap.size 5 [oct y] := Holds.made _ _ _
      go_wp2_with (at_builtin; refine wpList_appends _ rfl (.tmp 12) (.tmp 17) 27 rfl 5 i0 (.int .u8 0) 1 Tryd.underlying27 hi0 hz0 hz1 hz2 rfl w.heap.size (by simp; omega) _ _ _ ((hi x wd).take j) rfl H.out.1.symm hA _ _ _ [y] rfl rfl (Reads.of_holds hN) (by rw [H.out.1]; simp; omega) (by rw [H.out.1]; unfold maxLen; simp; omega) ?_; intro A1 c1 w7 hO7 m7 hA7)
      rw [← H.out.2.1] at hO7
      have hm7 : Mod [] w w7 := (hm.then (Mod.alloc [] wr (.cells #[oct y] 5))).trans m7 (fun i hi hh => (blk_new (fun a e => (hofs a e).1) hi hh).elim)
      exact ⟨⟨j + 1, by omega, by go_num, A1, c1, by rw [hi_length, Nat.min_eq_left hj], hO7, hm7⟩, by simp [intOf]; omega⟩
    · obtain rfl : j = wd := by omega
      rw [List.take_of_length_le (by rw [hi_length]; omega)] at hO
      have hR := hO.reads
      go_wp2
      go_ret
      exact ⟨A, c, rfl, hR, hm⟩
end
end Go.Proofs.YtapafniekmfkaaaDoor
