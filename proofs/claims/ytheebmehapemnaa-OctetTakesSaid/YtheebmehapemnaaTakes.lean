/-
  OctetTakes: taking off behind a slice and taking off of a reader come to the same, and neither turns its argument. My own work.
-/
import Derived.Test.YtheebmehapemnaaTakes0
import Derived.Test.YtheebmehapemnaaOpen
import Derived.BigQuiet
import Derived.Deep.QuietTactic
namespace Go.Proofs.Ytheebmehapemnaa
open Go.RowKit
set_option linter.unusedVariables false

/-- A row of bytes whose first j are turned over. -/
def flip (L : List UInt8) (j : Nat) : List UInt8 := (L.take j).map (fun x => ~~~x) ++ L.drop j
theorem flip_len (L : List UInt8) (j : Nat) : (flip L j).length = L.length := by simp [flip]; omega
theorem flip_0 (L : List UInt8) : flip L 0 = L := by simp [flip]
theorem flip_at (L : List UInt8) (j : Nat) (h : j < L.length) : (flip L j)[j]? = some L[j] := by
  simp [flip, List.getElem?_append, List.getElem?_drop, Nat.min_eq_left (Nat.le_of_lt h)]
theorem flip_set (L : List UInt8) (j : Nat) (h : j < L.length) : (flip L j).set j (~~~L[j]) = flip L (j + 1) := by
  apply List.ext_getElem?
  intro i
  rw [List.getElem?_set]
  simp only [flip, List.getElem?_append, List.length_map, List.length_take, List.getElem?_map, List.getElem?_take, List.getElem?_drop, List.length_append, List.length_drop]
  by_cases h1 : j = i
  · subst h1
    rw [if_pos rfl, if_pos (by omega), if_pos (by omega), if_pos (by omega), List.getElem?_eq_getElem h]; rfl
  · rw [if_neg h1]
    by_cases h2 : i < j
    · rw [if_pos (show i < min j L.length by omega), if_pos h2, if_pos (show i < min (j + 1) L.length by omega), if_pos (show i < j + 1 by omega)]
    · rw [if_neg (show ¬ i < min j L.length by omega), if_neg (show ¬ i < min (j + 1) L.length by omega)]
      congr 1; omega
theorem flip_end (L : List UInt8) (j : Nat) (h : j < L.length) : (flip L L.length)[j]? = some (~~~L[j]) := by
  simp [flip, h]

theorem left_q (g b : Nat) (l : List UInt8) (er : Int) (w : World) (h : Rdr w g b l er) :
    Calls Try.prog 22 #[.pointer (some ⟨g, 0, none⟩)] w fun e w' => e = .returned (.int .i64 (l.length : Int)) ∧ w' = w := (left_c g b l er w h).mono fun _ _ h => ⟨h.1, h.2.symm⟩
theorem err_q (g b : Nat) (l : List UInt8) (er : Int) (w : World) (h : Rdr w g b l er) :
    Calls Try.prog 23 #[.pointer (some ⟨g, 0, none⟩)] w fun e w' => e = .returned (.int .i64 er) ∧ w' = w := (err_c g b l er w h).mono fun _ _ h => ⟨h.1, h.2.symm⟩

theorem xor_all : ∀ n : Fin 256, bits .xor .u8 (if IntKind.u8.signed = true then -1 else IntKind.u8.max) ((n.val : Nat) : Int) = 255 - ((n.val : Nat) : Int) := by decide +kernel
theorem xor_not (y : UInt8) : bits .xor .u8 (if IntKind.u8.signed = true then -1 else IntKind.u8.max) ((y.toNat : Nat) : Int) = (((~~~y).toNat : Nat) : Int) := by
  have h := xor_all ⟨y.toNat, y.toNat_lt⟩
  simp only at h
  rw [h, UInt8.toNat_not]
  have := y.toNat_lt
  simp at *; omega
theorem oct_not (y : UInt8) : Value.int .u8 (bits .xor .u8 (if IntKind.u8.signed = true then -1 else IntKind.u8.max) ((y.toNat : Nat) : Int)) = oct (~~~y) := by rw [xor_not]
theorem not_ne (y : UInt8) : (((255 - y.toNat : Nat) : Int) != bits .xor .u8 (if IntKind.u8.signed = true then -1 else IntKind.u8.max) ((y.toNat : Nat) : Int)) = false := by
  have h := xor_all ⟨y.toNat, y.toNat_lt⟩
  simp only at h
  have := y.toNat_lt
  rw [h, show ((255 - y.toNat : Nat) : Int) = 255 - ((y.toNat : Nat) : Int) by simp at *; omega]
  simp

set_option maxRecDepth 1000000 in
set_option maxHeartbeats 4000000 in
theorem taking_c (A : Option Addr) (l : List UInt8) (c : Nat) (hlc : l.length ≤ c) (hcm : c ≤ maxLen) (B : Option Addr) (ps : List (Int × Int)) (d : Nat) (hpd : ps.length ≤ d) (hdm : d ≤ maxLen) (w : World) (h : Reads w A l) (hP : Pairs w .i64 .i64 B ps)
    (L : List UInt8) (N : Nat) (E : Hid (l.take 400 = L ∧ L.length = N)) (hN : N ≤ 400) (hNl : N ≤ l.length) :
    Calls Try.prog 5 #[.slice A l.length c, .slice B ps.length d] w fun e w' => e = .returned (.bool true) ∧ Mod [] w w' := by
  have hpm : ps.length ≤ 9223372036854775807 := by unfold maxLen at hdm; omega
  go_enter Try.func5, Try.ntmps5
  go_wp2_with fail
  refine (wakes_c _).mono ?_
  rintro e w1 ⟨rfl, m1⟩
  go_wp2_with fail
  refine (row_l A l L c N _ hlc hcm E.out.1 E.out.2 (h.keep m1 (by simp))).mono ?_
  rintro e w2 ⟨rfl, hO, m2⟩
  have s1 := hO.lt
  go_wp2_with fail
  refine (read_n _ L N N _ E.out.2.symm (by rw [E.out.2]; omega) (Reads.of_holds hO)).mono ?_
  rintro e w3 ⟨g1, b1, rfl, s2, s3, hR1, m3⟩
  replace hO := hO.keep m3 (by simp)
  replace m2 := m2.then m3
  clear m3
  go_wp2_with fail
  refine (read_n _ L N N _ E.out.2.symm (by rw [E.out.2]; omega) (Reads.of_holds hO)).mono ?_
  rintro e w4 ⟨g2, b2, rfl, s4, s5, hR2, m3⟩
  obtain ⟨s6, s7, s8⟩ := hR1.lt
  obtain ⟨s9, s10, s11⟩ := hR2.lt
  have s0 := m1.size
  replace hO := hO.keep m3 (by simp)
  replace hR1 := hR1.keep m3 (by simp) (by simp)
  replace m2 := m2.then m3
  replace m1 := m1.then m2
  clear m3 m2
  go_wp2_with fail
  refine (row_l A l L c N _ hlc hcm E.out.1 E.out.2 (h.keep m1 (by simp))).mono ?_
  rintro e w5 ⟨rfl, hd, m2⟩
  have s12 := hd.lt
  replace hO := hO.keep m2 (by simp)
  replace hR1 := hR1.keep m2 (by simp) (by simp)
  replace hR2 := hR2.keep m2 (by simp) (by simp)
  replace m1 := m1.then m2
  clear m2
  go_wp2_with fail
  have hH := Holds.made w5 43 [.slice (some ⟨w4.heap.size, 0, none⟩) N N, .int .i64 0]
  have mA : Mod [] w5 (w5.alloc (.cells #[.slice (some ⟨w4.heap.size, 0, none⟩) N N, .int .i64 0] 43)) := Mod.alloc _ _ _
  obtain ⟨O, hOO⟩ : ∃ O, O = w1.heap.size := ⟨_, rfl⟩
  obtain ⟨D, hDD⟩ : ∃ D, D = w4.heap.size := ⟨_, rfl⟩
  obtain ⟨H, hHH⟩ : ∃ H, H = w5.heap.size := ⟨_, rfl⟩
  rw [← hOO] at hO s1 s0 ⊢
  rw [← hDD] at hd s9 s10 s12 hH mA ⊢
  rw [← hHH] at s12 hH ⊢
  clear hOO hDD hHH
  replace hO := hO.keep mA (by simp)
  replace hR1 := hR1.keep mA (by simp) (by simp)
  replace hR2 := hR2.keep mA (by simp) (by simp)
  replace hd := hd.keep mA (by simp)
  replace m1 := m1.then mA
  change Holds (w5.alloc (.cells #[.slice (some ⟨D, 0, none⟩) N N, .int .i64 0] 43)) _ _ _ at hH
  generalize w5.alloc (.cells #[.slice (some ⟨D, 0, none⟩) N N, .int .i64 0] 43) = w6 at *
  clear mA
  have o1 : O < g1 := by omega
  have o2 : O < b1 := by omega
  have o3 : g1 < g2 := by omega
  have o4 : g1 < b2 := by omega
  have o5 : b1 < g2 := by omega
  have o6 : b1 < b2 := by omega
  clear s2 s3 s4 s5 s6 s7 s1
  clear w1 w2 w3 w4 w5
  have HK := Lib.hid (And.intro hR1 (And.intro hR2 (And.intro hd (And.intro hH m1))))
  clear hR1 hR2 hd hH m1
  obtain ⟨wo, hwo⟩ : ∃ wo : World, wo = w6 := ⟨_, rfl⟩
  have HW := Lib.hid hwo
  clear hwo
  go_loopw [28] (fun i wi => ∃ j : Nat, j ≤ N ∧ i = .int .i64 (j : Int) ∧ Mod [O] wo wi ∧ Holds wi O 5 ((flip L j).map oct)) (fun i _ => N - (intOf i).toNat)
  case atStart => exact ⟨0, by omega, rfl, by rw [HW.out]; exact Mod.refl _ _, by rw [flip_0]; exact hO⟩
  case round =>
    clear hO
    obtain ⟨j, hj, rfl, hmi, hhi⟩ := hrel
    by_cases hjl : j < N
    · have hcc := hhi.cell j
      have hff := hhi.free j
      have hjL : j < L.length := by rw [E.out.2]; exact hjl
      rw [List.getElem?_map, flip_at L j hjL, Option.map_some] at hcc
      have hh2 := hhi.set j (oct (~~~L[j]))
      rw [← List.map_set, flip_set L j hjL] at hh2
      generalize L[j] = y at hcc hh2
      clear hjL
      have hup := Lib.hid (oct_not y)
      have hm2 : Mod [O] wo (World.setCell _ ⟨O, j, none⟩ (oct (~~~y))) := hmi.trans (Mod.setCell (ms := [O]) _ (by simp) _) (fun _ _ h => h)
      have HZ := Lib.hid (And.intro hh2 hm2)
      clear hh2 hm2 hhi hmi
      go_wp2
      rw [hup.out]
      exact ⟨⟨j + 1, by omega, by go_num, HZ.out.2, HZ.out.1⟩, by simp [intOf]; omega⟩
    · obtain rfl : N = j := by omega
      obtain ⟨hR1, hR2, hd, hH, m1⟩ := HK.out
      rw [HW.out] at hmi
      replace hR1 := hR1.keep hmi (by simp; omega) (by simp; omega)
      replace hR2 := hR2.keep hmi (by simp; omega) (by simp; omega)
      replace hd := hd.keep hmi (by simp; omega)
      replace hH := hH.keep hmi (by simp; omega)
      replace m1 := m1.trans (hmi.wk (ns := [O]) (fun _ _ h => h)) (by simp; omega)
      have hO := hhi
      clear hmi HK HW hhi
      go_wp2_with fail
      go_loopw [42] (fun i wi => ∃ j : Nat, j ≤ ps.length ∧ j ≤ 40 ∧ i = .int .i64 (j : Int) ∧ Mod [] w wi ∧ Holds wi O 5 ((flip L N).map oct) ∧ Rdr wi g2 b2 L 0 ∧ ∃ l' e' A' c', Holds wi H 43 [.slice A' (l' : List UInt8).length c', .int .i64 e'] ∧ Reads wi A' l' ∧ l'.length ≤ c' ∧ c' ≤ maxLen ∧ Rdr wi g1 b1 l' e' ∧ ∀ a, A' = some a → a.block = D) (fun i _ => ps.length - (intOf i).toNat)
      case atStart => exact ⟨0, by omega, by omega, rfl, m1, hO, hR2, L, 0, some ⟨D, 0, none⟩, N, by rw [E.out.2]; exact hH, Reads.of_holds hd, by rw [E.out.2]; exact Nat.le_refl _, by unfold maxLen; omega, hR1, fun a h => by cases h; rfl⟩
      case round =>
        clear m1 hO hR1 hR2 hd hH
        obtain ⟨j2, hj2, hj40, rfl, m1, hO, hR2, l', e', A', c', hH, hRl, hl', hc', hR1, hAd⟩ := hrel
        by_cases hlt : j2 < ps.length
        · obtain ⟨gp, op, rfl, hc0, hc1, _, _⟩ := (hP.keep m1 (by simp)) j2 hlt
          generalize ps[j2] = p at *
          obtain ⟨how, nn⟩ := p
          simp only at hc0 hc1
          by_cases h40 : j2 = 40
          · subst h40
            clear hRl hl' hc' hR1 hAd hH
            replace m1 := m1.then (Mod.alloc [] _ (.cells #[.int .i64 how, .int .i64 nn] 45))
            replace hO := hO.keep (Mod.alloc [] _ (.cells #[.int .i64 how, .int .i64 nn] 45)) (by simp)
            replace hR2 := hR2.keep (Mod.alloc [] _ (.cells #[.int .i64 how, .int .i64 nn] 45)) (by simp) (by simp)
            go_wp2_with fail
            go_loopw [77] (fun i wi => ∃ j : Nat, j ≤ N ∧ i = .int .i64 (j : Int) ∧ Mod [] w wi ∧ Holds wi O 5 ((flip L N).map oct) ∧ Rdr wi g2 b2 L 0) (fun i _ => N - (intOf i).toNat)
            case atStart => exact ⟨0, by omega, rfl, m1, hO, hR2⟩
            case round =>
              clear m1 hO hR2
              obtain ⟨j3, hj3, rfl, m1, hO, hR2⟩ := hrel
              by_cases hjl : j3 < N
              · have hjL : j3 < L.length := by rw [E.out.2]; exact hjl
                have hjl2 : j3 < l.length := by omega
                have hlj : l[j3] = L[j3] := by rw [List.getElem_of_eq E.out.1.symm hjL, List.getElem_take]
                have hcc := hO.cell j3
                rw [List.getElem?_map, ← E.out.2, flip_end L j3 hjL, Option.map_some] at hcc
                obtain ⟨ga, oa, rfl, hca⟩ := (h.keep m1 (by simp)) j3 hjl2
                rw [hlj] at hca
                generalize L[j3] = y at hcc hca hlj
                clear hlj hjL
                have hup := Lib.hid (oct_not y)
                have HZ := Lib.hid (And.intro m1 (And.intro hO hR2))
                clear m1 hO hR2
                go_wp2_with fail
                go_quiet (fail)
                rw [not_ne y]
                go_wp2_with fail
                exact ⟨⟨j3 + 1, by omega, by go_num, HZ.out.1.then (Mod.drewN [] _ _), HZ.out.2.1.keep (Mod.drewN [] _ _) (by simp), HZ.out.2.2.keep (Mod.drewN [] _ _) (by simp) (by simp)⟩, by simp [intOf]; omega⟩
              · obtain rfl : N = j3 := by omega
                go_wp2_with fail
                refine (raw_yes g2 b2 L N _ hR2 (by rw [E.out.2]; omega) L [] (List.take_of_length_le (by rw [E.out.2]; omega)) (List.drop_of_length_le (by rw [E.out.2]; omega))).mono ?_
                rintro e v7 ⟨d1, rfl, hd1, hh1, hRe, mb⟩
                replace m1 := m1.trans (mb.wk (ns := [g2]) (fun _ _ h => h)) (by simp; omega)
                clear mb hR2 hO
                go_wp2_with fail
                refine (row_l A l L c N _ hlc hcm E.out.1 E.out.2 (h.keep m1 (by simp))).mono ?_
                rintro e v8 ⟨rfl, hq, mc⟩
                replace m1 := m1.then mc
                replace hRe := hRe.keep mc (by simp) (by simp)
                replace hh1 := hh1.keep mc (by simp)
                clear mc
                go_wp2_with fail
                refine (same_n _ _ L L _ _ _ _ _ E.out.2.symm E.out.2.symm (by rw [E.out.2]; unfold maxLen; omega) (by rw [E.out.2]; unfold maxLen; omega) (Reads.of_holds hh1) (Reads.of_holds hq)).mono ?_
                rintro e v9 ⟨rfl, md⟩
                rw [decide_eq_true rfl]
                replace m1 := m1.then md
                replace hRe := hRe.keep md (by simp) (by simp)
                clear md hq hh1
                go_wp2_with fail
                refine (left_q g2 b2 [] 0 _ hRe).mono ?_
                rintro e v10 ⟨rfl, rfl⟩
                go_wp2_with fail
                refine (err_q g2 b2 [] 0 _ hRe).mono ?_
                rintro e v11 ⟨rfl, rfl⟩
                go_wp2_with fail
                go_ret
                exact ⟨rfl, m1⟩

          · have h40b : ((j2 : Int) == 40) = false := by simp; omega
            have h40c : ¬ (j2 : Int) = 40 := by omega
            have c80 := hH.cell 0
            have c81 := hH.cell 1
            have y9 := hH.lt
            simp at c80 c81
            go_wp2_with fail
            refine (takes_c g1 b1 l' e' A' c' how nn _ hl' hc' (hRl.keep (Mod.alloc [] _ _) (by simp)) (fun a ha => ⟨by rw [hAd a ha]; omega, by rw [hAd a ha]; simp; omega⟩) (hR1.keep (Mod.alloc [] _ _) (by simp) (by simp))).mono ?_
            rintro e v1 ⟨L2, e2, A1, c1, rfl, hRa, ha1, ha2, hRb, m3, hv⟩
            have hH1 := (hH.keep (Mod.alloc [] _ (.cells #[.int .i64 how, .int .i64 nn] 45)) (by simp)).keep m3 (by simp; omega)
            have hO1 := (hO.keep (Mod.alloc [] _ (.cells #[.int .i64 how, .int .i64 nn] 45)) (by simp)).keep m3 (by simp; omega)
            have hR21 := (hR2.keep (Mod.alloc [] _ (.cells #[.int .i64 how, .int .i64 nn] 45)) (by simp) (by simp)).keep m3 (by simp; omega) (by simp; omega)
            have m11 := (m1.then (Mod.alloc [] _ (.cells #[.int .i64 how, .int .i64 nn] 45))).trans m3 (by simp; omega)
            have hAd1 : ∀ a, A1 = some a → a.block = D := fun a ha => by
              obtain ⟨a0, e1, e2⟩ := hv a ha
              rw [e2]; exact hAd a0 e1
            have y8 := m3.size
            simp only [World.size_alloc] at y8
            clear hH hO hR2 m1 hRl hl' hc' hR1 hAd hv c80 c81 hc0 hc1 m3
            go_wp2_with fail
            have hn := Holds.made v1 43 [.slice A1 L2.length c1, .int .i64 e2]
            have mB : Mod [] v1 (v1.alloc (.cells #[.slice A1 L2.length c1, .int .i64 e2] 43)) := Mod.alloc _ _ _
            obtain ⟨nx, hnx⟩ : ∃ nx, nx = v1.heap.size := ⟨_, rfl⟩
            rw [← hnx] at hn y8 ⊢
            clear hnx
            replace hH1 := hH1.keep mB (by simp)
            replace hO1 := hO1.keep mB (by simp)
            replace hR21 := hR21.keep mB (by simp) (by simp)
            replace hRb := hRb.keep mB (by simp) (by simp)
            replace hRa := hRa.keep mB (by simp)
            replace m11 := m11.then mB
            clear mB
            change Holds (v1.alloc (.cells #[.slice A1 L2.length c1, .int .i64 e2] 43)) _ _ _ at hn
            generalize v1.alloc (.cells #[.slice A1 L2.length c1, .int .i64 e2] 43) = v2 at *
            have c90 := hn.cell 0
            have c91 := hn.cell 1
            simp at c90 c91
            have f0 := hH1.free 0
            have f1 := hH1.free 1
            have c80 := hH1.cell 0
            have c81 := hH1.cell 1
            simp at c80 c81
            have HZ := Lib.hid (And.intro hH1 (And.intro hO1 (And.intro hR21 (And.intro hRa m11))))
            clear hH1 hO1 hR21 hRa m11 hn
            go_quiet ((first | (go_at_call 22; exact Calls.quiet_of_same (left_q g1 b1 L2 e2 _ (hRb.keep (Mod.drewN [] _ _) (by simp) (by simp)))) | (go_at_call 23; exact Calls.quiet_of_same (err_q g1 b1 L2 e2 _ (hRb.keep (Mod.drewN [] _ _) (by simp) (by simp))))))
            go_wp2_with fail
            obtain ⟨hH1, hO1, hR21, hRa, m11⟩ := HZ.out
            have hF := ((hH1.keep (Mod.drewN [] _ nq) (by simp)).set 0 (.slice A1 L2.length c1)).set 1 (.int .i64 e2)
            simp only [List.set_cons_zero, List.set_cons_succ] at hF
            have hD : Mod [H] v2 (((v2.drewN nq).setCell ⟨H, 0, none⟩ (.slice A1 L2.length c1)).setCell ⟨H, 1, none⟩ (.int .i64 e2)) := ((Mod.drewN [H] v2 _).trans (Mod.setCell (ms := [H]) _ (by simp) _) (fun _ _ h => h)).trans (Mod.setCell (ms := [H]) _ (by simp) _) (fun _ _ h => h)
            exact ⟨⟨j2 + 1, by omega, by omega, by go_num, m11.trans hD (by simp; omega), hO1.keep hD (by simp; omega), hR21.keep hD (by simp; omega) (by simp; omega), L2, e2, A1, c1, hF, hRa.keep hD (fun a ha => by have := hAd1 a ha; simp; omega), ha1, ha2, hRb.keep hD (by simp; omega) (by simp; omega), hAd1⟩, by simp [intOf]; omega⟩
        · obtain rfl : ps.length = j2 := by omega
          clear hRl hl' hc' hR1 hAd hH
          go_wp2_with fail
          go_loopw [77] (fun i wi => ∃ j : Nat, j ≤ N ∧ i = .int .i64 (j : Int) ∧ Mod [] w wi ∧ Holds wi O 5 ((flip L N).map oct) ∧ Rdr wi g2 b2 L 0) (fun i _ => N - (intOf i).toNat)
          case atStart => exact ⟨0, by omega, rfl, m1, hO, hR2⟩
          case round =>
            clear m1 hO hR2
            obtain ⟨j3, hj3, rfl, m1, hO, hR2⟩ := hrel
            by_cases hjl : j3 < N
            · have hjL : j3 < L.length := by rw [E.out.2]; exact hjl
              have hjl2 : j3 < l.length := by omega
              have hlj : l[j3] = L[j3] := by rw [List.getElem_of_eq E.out.1.symm hjL, List.getElem_take]
              have hcc := hO.cell j3
              rw [List.getElem?_map, ← E.out.2, flip_end L j3 hjL, Option.map_some] at hcc
              obtain ⟨ga, oa, rfl, hca⟩ := (h.keep m1 (by simp)) j3 hjl2
              rw [hlj] at hca
              generalize L[j3] = y at hcc hca hlj
              clear hlj hjL
              have hup := Lib.hid (oct_not y)
              have HZ := Lib.hid (And.intro m1 (And.intro hO hR2))
              clear m1 hO hR2
              go_wp2_with fail
              go_quiet (fail)
              rw [not_ne y]
              go_wp2_with fail
              exact ⟨⟨j3 + 1, by omega, by go_num, HZ.out.1.then (Mod.drewN [] _ _), HZ.out.2.1.keep (Mod.drewN [] _ _) (by simp), HZ.out.2.2.keep (Mod.drewN [] _ _) (by simp) (by simp)⟩, by simp [intOf]; omega⟩
            · obtain rfl : N = j3 := by omega
              go_wp2_with fail
              refine (raw_yes g2 b2 L N _ hR2 (by rw [E.out.2]; omega) L [] (List.take_of_length_le (by rw [E.out.2]; omega)) (List.drop_of_length_le (by rw [E.out.2]; omega))).mono ?_
              rintro e v7 ⟨d1, rfl, hd1, hh1, hRe, mb⟩
              replace m1 := m1.trans (mb.wk (ns := [g2]) (fun _ _ h => h)) (by simp; omega)
              clear mb hR2 hO
              go_wp2_with fail
              refine (row_l A l L c N _ hlc hcm E.out.1 E.out.2 (h.keep m1 (by simp))).mono ?_
              rintro e v8 ⟨rfl, hq, mc⟩
              replace m1 := m1.then mc
              replace hRe := hRe.keep mc (by simp) (by simp)
              replace hh1 := hh1.keep mc (by simp)
              clear mc
              go_wp2_with fail
              refine (same_n _ _ L L _ _ _ _ _ E.out.2.symm E.out.2.symm (by rw [E.out.2]; unfold maxLen; omega) (by rw [E.out.2]; unfold maxLen; omega) (Reads.of_holds hh1) (Reads.of_holds hq)).mono ?_
              rintro e v9 ⟨rfl, md⟩
              rw [decide_eq_true rfl]
              replace m1 := m1.then md
              replace hRe := hRe.keep md (by simp) (by simp)
              clear md hq hh1
              go_wp2_with fail
              refine (left_q g2 b2 [] 0 _ hRe).mono ?_
              rintro e v10 ⟨rfl, rfl⟩
              go_wp2_with fail
              refine (err_q g2 b2 [] 0 _ hRe).mono ?_
              rintro e v11 ⟨rfl, rfl⟩
              go_wp2_with fail
              go_ret
              exact ⟨rfl, m1⟩

theorem taking_w {w : World} (A : Option Addr) (l : List UInt8) (c : Nat) (hlc : l.length ≤ c) (hcm : c ≤ maxLen) (h : Reads w A l) (_ : l.length * Try.prog.bytesOf 5 ≤ reachBytes)
    (B : Option Addr) (ps : List (Int × Int)) (d : Nat) (hpd : ps.length ≤ d) (hdm : d ≤ maxLen) (hP : Pairs w .i64 .i64 B ps) (_ : ps.length * Try.prog.bytesOf 45 ≤ reachBytes) :
    Calls Try.prog 5 #[.slice A l.length c, .slice B ps.length d] w fun e w' => e = .returned (.bool true) ∧ Mod [] w w' :=
  taking_c A l c hlc hcm B ps d hpd hdm w h hP (l.take 400) _ ⟨rfl, rfl⟩ (by simp; omega) (by simp; omega)
end Go.Proofs.Ytheebmehapemnaa
