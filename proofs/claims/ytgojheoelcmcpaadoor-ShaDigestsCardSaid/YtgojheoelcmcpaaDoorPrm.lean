/-
  Contracts: the document's own primes. My own work.
-/
import Derived.Test.YtgojheoelcmcpaaDoorMul
namespace Go.Proofs.YtgojheoelcmcpaaDoor
open Go.RowKit
/-- how many from d on divide n, up to its root -/
def dvs (n : Nat) : Nat → Nat → Nat → Nat
  | 0, _, c => c
  | f + 1, d, c => if d * d ≤ n then dvs n f (d + 1) (c + if n % d = 0 then 1 else 0) else c
def isP (n : Nat) : Bool := dvs n 20 2 0 == 0
def cntP : Nat → Nat
  | 0 => 0
  | n + 1 => cntP n + if 2 ≤ n ∧ isP n = true then 1 else 0
def prm : List Nat := (List.range 312).filter fun n => decide (2 ≤ n) && isP n
def prime (k : Nat) : Nat := prm.getD k 0
theorem prime_all : (List.range 64).all (fun k => decide (2 ≤ prime k ∧ prime k < 312) && isP (prime k) && (cntP (prime k) == k)) = true := by decide +kernel
theorem prime_at (k : Nat) (h : k < 64) : 2 ≤ prime k ∧ prime k < 312 ∧ isP (prime k) = true ∧ cntP (prime k) = k := by
  have := List.all_eq_true.mp prime_all k (by simpa using h)
  simp only [Bool.and_eq_true, decide_eq_true_eq, beq_iff_eq] at this
  exact ⟨this.1.1.1, this.1.1.2, this.1.2, this.2⟩
theorem cntP_mono (n m : Nat) (h : n ≤ m) : cntP n ≤ cntP m := by
  induction h with
  | refl => exact Nat.le_refl _
  | step _ ih => exact Nat.le_trans ih (by rw [cntP]; omega)
theorem prime_yes (k n : Nat) (hk : k < 64) (h2 : 2 ≤ n) (hn : n ≤ prime k) (hp : isP n = true) (hc : cntP n = k) : n = prime k := by
  obtain ⟨_, _, _, e⟩ := prime_at k hk
  by_cases h : n = prime k
  · exact h
  · have hm := cntP_mono (n + 1) (prime k) (by omega)
    rw [cntP, if_pos ⟨h2, hp⟩] at hm
    omega
theorem prime_no (k n : Nat) (hk : k < 64) (hn : n ≤ prime k) (h : ¬ (isP n = true ∧ cntP n = k)) : n + 1 ≤ prime k := by
  obtain ⟨_, _, e1, e2⟩ := prime_at k hk
  by_cases hh : n = prime k
  · subst hh; exact absurd ⟨e1, e2⟩ h
  · omega
theorem sq_small (d n : Nat) (h : d * d ≤ n) (hn : n < 312) : d ≤ 17 := by
  rcases Nat.lt_or_ge d 18 with hc | hc
  · omega
  · have := Nat.mul_le_mul hc hc
    omega
theorem dvs_done (n f d c : Nat) (h : ¬ d * d ≤ n) : dvs n f d c = c := by
  cases f with
  | zero => rfl
  | succ f => rw [dvs, if_neg h]
theorem dvs_step (n f d c : Nat) (h : d * d ≤ n) (hf : 0 < f) : dvs n f d c = dvs n (f - 1) (d + 1) (c + if n % d = 0 then 1 else 0) := by
  obtain ⟨g, rfl⟩ : ∃ g, f = g + 1 := ⟨f - 1, by omega⟩
  rw [dvs, if_pos h]; rfl
set_option maxRecDepth 100000 in
theorem prime_c (k : Nat) (hk : k < 64) (w : World) :
    Calls Tryd.prog 16 #[.int .i64 (k : Int)] w fun e w' => e = .returned (.int .u64 (prime k : Int)) ∧ w' = w := by
  go_enter Tryd.func16, Tryd.ntmps16
  go_wp2_with fail
  go_loop [0, 2, 3, 4, 5] (fun b r n c d => ∃ N : Nat, n = .int .u64 (N : Int) ∧ 2 ≤ N ∧ N ≤ prime k ∧ b = .int .i64 ((k - cntP N : Nat) : Int)) (fun b r n c d => 400 - (intOf n).toNat)
  case atStart => exact ⟨2, rfl, by omega, (prime_at k hk).1, rfl⟩
  case round =>
    obtain ⟨N, rfl, h2, hN, rfl⟩ := hrel
    have hb := (prime_at k hk).2.1
    have h312 : N < 312 := by omega
    obtain ⟨M, hM⟩ : ∃ M, M = k - cntP N := ⟨_, rfl⟩
    rw [← hM]
    have hM' : (M : Int) < 64 := by omega
    have HK := Lib.hid (And.intro hk (And.intro hb (And.intro hN hM)))
    clear hk hb hN hM
    go_wp2_with fail
    go_loop [4, 5] (fun c d => ∃ C D F : Nat, c = .int .i64 (C : Int) ∧ d = .int .u64 (D : Int) ∧ D + F = 22 ∧ 2 ≤ D ∧ C ≤ D ∧ dvs N F D C = dvs N 20 2 0) (fun c d => 30 - (intOf d).toNat)
    case atStart => exact ⟨0, 2, 20, rfl, rfl, rfl, by omega, by omega, rfl⟩
    case round =>
      obtain ⟨C, D, F, rfl, rfl, hF, hD, hC, hdv⟩ := hrel
      have hw : IntKind.u64.wrap ((D : Int) * (D : Int)) = ((D * D : Nat) : Int) := by
        rw [← Int.natCast_mul]
        refine cast_wrap _ ?_
        have := Nat.mul_le_mul (show D ≤ 22 by omega) (show D ≤ 22 by omega)
        omega
      have hr : (N : Int) % (D : Int) = ((N % D : Nat) : Int) := rfl
      obtain ⟨Q, hQ⟩ : ∃ Q, Q = D * D := ⟨_, rfl⟩
      obtain ⟨R, hR⟩ : ∃ R, R = N % D := ⟨_, rfl⟩
      rw [← hQ] at hw
      rw [← hR] at hr
      have HQ := Lib.hid (And.intro hQ (And.intro hR (And.intro hF hdv)))
      have HD := Lib.hid (And.intro hC hD)
      clear hQ hR hF hdv
      by_cases hle : Q ≤ N
      · have hd17 : D ≤ 17 := sq_small D N (by rw [← HQ.out.1]; exact hle) h312
        have hle' : (Q : Int) ≤ N := by omega
        have hd17' : (D : Int) ≤ 17 := by omega
        have hd2' : 2 ≤ (D : Int) := by omega
        have hc17' : (C : Int) ≤ 17 := by omega
        have hs := dvs_step N F D C (by rw [← HQ.out.1]; exact hle) (by have := HQ.out.2.2.1; omega)
        rw [← HQ.out.2.1] at hs
        have HS := Lib.hid (And.intro hs hle)
        clear hs hle
        by_cases hz : R = 0
        · subst hz
          go_wp2_with fail
          exact ⟨⟨C + 1, D + 1, F - 1, by simp, by simp, by have := HQ.out.2.2.1; omega, by omega, by have := HD.out; omega, by rw [← HQ.out.2.2.2, HS.out.1, if_pos rfl]⟩, by simp [intOf]; omega⟩
        · have hz' : (R : Int) ≠ 0 := by omega
          go_wp2_with fail
          exact ⟨⟨C, D + 1, F - 1, rfl, by simp, by have := HQ.out.2.2.1; omega, by omega, by have := HD.out; omega, by rw [← HQ.out.2.2.2, HS.out.1, if_neg hz]; rfl⟩, by simp [intOf]; omega⟩
      · have hle' : ¬ (Q : Int) ≤ N := by omega
        have hCe : dvs N 20 2 0 = C := by rw [← HQ.out.2.2.2, dvs_done N F D C (by rw [← HQ.out.1]; exact hle)]
        clear hle
        have hc22 : (C : Int) ≤ 22 := by have := HQ.out.2.2.1; omega
        by_cases hc0 : 0 < C
        · have hP : isP N = false := by rw [isP, hCe]; simp; omega
          have hc0' : 0 < (C : Int) := by omega
          have HP := Lib.hid (And.intro (prime_no k N HK.out.1 HK.out.2.2.1 (by rw [hP]; simp)) (show cntP (N + 1) = cntP N by rw [cntP, hP]; simp))
          clear hP hCe
          go_wp2_with fail
          exact ⟨⟨N + 1, by simp, by omega, HP.out.1, by rw [HP.out.2, ← HK.out.2.2.2]⟩, by simp [intOf]; omega⟩
        · obtain rfl : C = 0 := by omega
          have hP : isP N = true := by rw [isP, hCe]; rfl
          have hcm : cntP N ≤ k := by
            have := cntP_mono N (prime k) HK.out.2.2.1
            rw [(prime_at k HK.out.1).2.2.2] at this
            exact this
          by_cases hm0 : M = 0
          · have hNk : N = prime k := prime_yes k N HK.out.1 h2 HK.out.2.2.1 hP (by have := HK.out.2.2.2; omega)
            have HP := Lib.hid hNk
            subst hm0
            clear hP hCe hNk hcm
            go_wp2_with fail
            go_ret
            exact ⟨ret_int (by rw [← HP.out]), rfl⟩
          · have hm0' : (M : Int) ≠ 0 := by omega
            have hm1' : 0 < (M : Int) := by omega
            have HP := Lib.hid (And.intro (prime_no k N HK.out.1 HK.out.2.2.1 (by rintro ⟨_, e⟩; have := HK.out.2.2.2; omega)) (show cntP (N + 1) = cntP N + 1 by rw [cntP, if_pos ⟨h2, hP⟩]))
            have HM := Lib.hid hm0
            clear hP hCe hcm hm0
            go_wp2_with fail
            exact ⟨⟨N + 1, by simp, by omega, HP.out.1, by rw [HP.out.2, show k - (cntP N + 1) = M - 1 by have := HK.out.2.2.2; omega, show ((M - 1 : Nat) : Int) = (M : Int) - 1 by have := HM.out; omega]⟩, by simp [intOf]; omega⟩
end Go.Proofs.YtgojheoelcmcpaaDoor
