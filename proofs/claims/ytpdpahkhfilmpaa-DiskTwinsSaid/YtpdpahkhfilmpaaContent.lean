/-
  The statements' own helpers: content. Contracts of mine.
-/
import Derived.Test.YtpdpahkhfilmpaaFive
namespace Go.Proofs.Ytpdpahkhfilmpaa
open Go.RowKit
/-- What the five sectors hold. -/
def told (S : St) (k : Nat) : List Blk := (List.range k).map fun (i : Nat) => S.holds (i : Int)
set_option maxRecDepth 1000000 in
set_option maxHeartbeats 8000000 in
theorem content_c (S : St) (g m : Nat) (A : Option Addr) (c : Nat) (w : World) (D : DAt w g m A c S) (hd : S.dead = false) (hn5 : S.n = 5) (ho : S.ops + 5 ≤ 1099511627776) :
    Calls Try.prog 35 #[.pointer (some ⟨g, 0, none⟩)] w fun e w' => e = .returned (.agg (bs (told S 5)).toArray) ∧ Mod [] w w' := by
  have hlt := D.blk.lt
  have ea : S.arm (-1) = (0, { S with armed := -1 }) := by unfold St.arm; rw [if_neg (by simp [hd])]
  have ef : ({ S with armed := -1 } : St).fail (-1) = (0, calm S 0) := by unfold St.fail; rw [if_neg (by simp [hd])]; rfl
  have er : ∀ k, k < 5 → (calm S k).read (k : Int) = (S.holds k, 0, calm S (k + 1)) := fun k hk => calm_read S k hd hn5 hk
  have HE := Lib.hid (And.intro ea (And.intro ef (And.intro er (And.intro D ho))))
  clear ea ef er D ho hd hn5
  go_enter Try.func35, Try.ntmps35
  go_wp2_with (with_reducible refine wpList_allocs (o := ⟨some 2, .alloc 61, _, _, _, _⟩) rfl 61 rfl _ zero61 ?_; intro w1 hb1 m1 z1; replace z1 := Lib.hid z1)
  have D1 := HE.out.2.2.2.1.keep m1 (by simp) (by simp) (by simp)
  have C := copy_c S g m A c w1 D1
  refine C.mono ?_
  clear C D1
  rintro e w2 ⟨g2, m2, A2, c2, rfl, D2, n2, o1, o2, o3⟩
  have F2 : Far w w2 g2 m2 A2 c2 S := ⟨D2, m1.then n2, Nat.le_trans m1.size o1, Nat.le_trans m1.size o2, fun a ha => Nat.le_trans m1.size (o3 a ha)⟩
  replace hb1 := hb1.keep n2 (by simp)
  obtain ⟨b2, hb⟩ : ∃ b, b = w.heap.size := ⟨_, rfl⟩
  rw [← hb] at hb1 ⊢
  have o4 : w.heap.size ≤ b2 := by omega
  clear hb z1 m1 n2 o1 o2 o3 D2
  go_wp2_with fail
  have X := far_arm F2 (-1) (by decide)
  rw [HE.out.1] at X
  refine X.mono ?_
  clear X
  rintro e w3 ⟨rfl, F3, kp⟩
  replace hb1 := kp _ _ _ (by decide) (by decide) hb1
  clear kp F2
  go_wp2_with fail
  have X := far_fail F3 (-1) (by decide)
  rw [HE.out.2.1] at X
  refine X.mono ?_
  clear X
  rintro e w4 ⟨rfl, F4, kp⟩
  replace hb1 := kp _ _ _ (by decide) (by decide) hb1
  clear kp F3
  go_wp2_with fail
  go_loopw [20] (fun i wi => ∃ k : Nat, k ≤ 5 ∧ i = .int .i64 (k : Int) ∧ Far w wi g2 m2 A2 c2 (calm S k) ∧ ∃ L : List Blk, L.length = 5 ∧ Holds wi b2 61 (bs L) ∧ L.take k = told S k) (fun i _ => 5 - (intOf i).toNat)
  case atStart => exact ⟨0, by omega, rfl, F4, _, List.length_replicate, hb1, rfl⟩
  case round =>
    clear hb1 F4
    obtain ⟨k, hk, rfl, Fk, L, hL, hbk, htk⟩ := hrel
    by_cases hk5 : k < 5
    · have X := far_read Fk (k : Int) (by show S.ops + k + 1 ≤ _; have := HE.out.2.2.2.2; omega)
      rw [HE.out.2.2.1 k hk5] at X
      have hnx : (L.set k (S.holds k)).take (k + 1) = told S (k + 1) := by
        rw [take_set_snoc L k _ (by omega), htk]
        unfold told
        rw [List.range_succ, List.map_append]
        rfl
      have HN := Lib.hid (And.intro hnx (And.intro hL hk5))
      clear hnx hL htk
      have hkZ : (k : Int) < 5 := by omega
      generalize S.holds (k : Int) = B at X HN
      go_wp2_with (first
        | (go_at_call 17; refine X.mono ?_; clear X; rintro e w5 ⟨rfl, F5, kp⟩; have hb5 := kp _ _ _ (by decide) (by decide) hbk)
        | (with_reducible refine wpList_stores (o := ⟨none, .store 39 (.tmp 30) (.tmp 28), _, _, _, _⟩) rfl 39 (.tmp 30) (.tmp 28) rfl rfl b2 (k * 64) (bc B) rfl (bv B) rfl rfl 61 _ hb5 (by rw [bc_length, bs_length, HN.out.2.1]; have := HN.out.2.2; omega) (bc_one _) (by rw [bc_length]; exact size39) ?_; intro w6 hw6 m6 z6))
      rw [bc_length, bs_set L k B (by rw [HN.out.2.1]; exact hk5)] at hw6
      have F6 : Far w w6 g2 m2 A2 c2 (calm S (k + 1)) := ⟨F5.D.keep m6 (by simpa using (hb5.ne F5.D.blk (by decide)).symm) (by simpa using (F5.D.firm.ne_holds hb5).symm) (fun a ha => by simpa using F5.D.loose.ne hb5 (by decide) a ha), far_mod F5.mm m6 (fun i hi => by simp at hi; subst hi; exact o4), F5.g, F5.m, F5.A⟩
      exact ⟨⟨k + 1, by omega, by go_num, F6, L.set k B, by rw [List.length_set]; exact HN.out.2.1, hw6, HN.out.1⟩, by simp [intOf]; omega⟩
    · obtain rfl : k = 5 := by omega
      have hall : L = told S 5 := by rw [List.take_of_length_le (by omega)] at htk; exact htk
      have hlen : (bs L).length = 320 := by rw [bs_length, hL]
      have HM := Lib.hid (And.intro Fk.mm (And.intro hall hlen))
      clear Fk htk hall
      go_wp2_with (first
        | (with_reducible refine wpList_loads (o := ⟨some 32, .load 61 (.tmp 2), _, _, _, _⟩) rfl 61 (.tmp 2) rfl b2 0 _ rfl (Cells.of_holds hbk) _ Try.underlying61 rfl (by rw [hlen]; exact size61) (.agg (bs L).toArray) rfl ?_)
        | (with_reducible refine wpList_storesAll (o := ⟨none, .store 61 (.tmp 2) (.tmp 32), _, _, _, _⟩) rfl 61 (.tmp 2) (.tmp 32) rfl rfl b2 (bs L) rfl (.agg (bs L).toArray) rfl rfl 61 _ hbk rfl (bs_one _) (by rw [hlen]; exact size61) ?_; intro w7 hw7 m7 z7))
      refine bodyPost_ret (results_cell_row rfl _ _ b2 61 _ (0, 0) _ rfl hw7 Try.underlying61 rfl (by rw [List.size_toArray, HM.out.2.2]; exact size61)) rfl ?_
      rw [HM.out.2.1]
      exact ⟨rfl, far_mod HM.out.1 m7 (fun i hi => by simp at hi; subst hi; exact o4)⟩
end Go.Proofs.Ytpdpahkhfilmpaa
