/-
  A term is read, whatever the bytes. My own work.
-/
import Derived.Test.YtchanildogjhgaaDoorTw
import Derived.Test.YtchanildogjhgaaDoorTx
namespace Go.Proofs.YtchanildogjhgaaDoor
open Go.RowKit Go.Shelf
set_option linter.unusedVariables false
set_option linter.unusedSimpArgs false
theorem hf0_of {k : Int} (h : 1 ≤ k ∧ k ≤ 8) : (flds k != 0) = true := by unfold bne; rw [flds_zero]; simp [h]
theorem hf0_no {k : Int} (h : ¬ (1 ≤ k ∧ k ≤ 8)) : (flds k != 0) = false := by unfold bne; rw [flds_zero, decide_eq_false h]; rfl
theorem may_U {k u : Int} (h : Tm.hasU k = true) (hu : 1 ≤ u ∧ u ≤ 6) : Tm.may k u 0 (ByteArray.size ⟨#[]⟩) = true := by
  refine Tm.may_iff.2 ⟨Nat.zero_le _, ?_, Int.le_refl _, ?_⟩
  · rw [if_pos h, if_pos h]; exact hu
  · split <;> omega
theorem may_noU {k u : Int} (h : Tm.hasU k = true) (hu : ¬ (1 ≤ u ∧ u ≤ 6)) : Tm.may k u 0 (ByteArray.size ⟨#[]⟩) = false := by
  cases hb : Tm.may k u 0 (ByteArray.size ⟨#[]⟩) with
  | false => rfl
  | true =>
    have := (Tm.may_iff.1 hb).2.1
    rw [if_pos h, if_pos h] at this
    exact absurd this hu
theorem may_O {k : Int} (h : Tm.hasU k = false) : Tm.may k 0 0 (ByteArray.size ⟨#[]⟩) = true := by
  refine Tm.may_iff.2 ⟨Nat.zero_le _, ?_, Int.le_refl _, ?_⟩
  · rw [h]; decide
  · split <;> omega
theorem may_T {k : Int} (hT : Tm.hasT k = true) (h : Tm.hasU k = false) {n : Nat} (hn : n ≤ 64) : Tm.may k 0 0 n = true := by
  refine Tm.may_iff.2 ⟨by rw [if_pos hT]; exact hn, ?_, Int.le_refl _, ?_⟩
  · rw [h]; decide
  · split <;> omega
open Tm in
/-- What comes of the parts. -/
theorem dec_parts {m : Nat} {x : UInt8} {r : List UInt8} {s : Nat} (hc : 1 ≤ x.toNat ∧ x.toNat ≤ 8 ∧ s + 1 ≤ 1200) {tx : List UInt8} {r1 : List UInt8} (h1 : dText x.toNat r = .ok (tx, r1)) {u : Int} {r2 : List UInt8} (h2 : dUser x.toNat r1 = .ok (u, r2)) {n : Int} {r3 : List UInt8} (h3 : dNum x.toNat r2 = .ok (n, r3)) :
    (∀ ts l' z, decs (dec m) (nk (x.toNat : Int)) r3 (s + 1) = .ok (ts, l', z) → dec (m + 1) (x :: r) s = .ok (.mk (x.toNat : Int) u n ⟨tx.toArray⟩ ts, l', z)) ∧ (∀ e, decs (dec m) (nk (x.toNat : Int)) r3 (s + 1) = .error e → dec (m + 1) (x :: r) s = .error e) := by
  constructor
  · intro ts l' z h4
    rw [dec_cons _ _ _ _ hc, h1]; simp only []; rw [h2]; simp only []; rw [h3]; simp only []; rw [h4]
  · intro e h4
    rw [dec_cons _ _ _ _ hc, h1]; simp only []; rw [h2]; simp only []; rw [h3]; simp only []; rw [h4]
theorem term_all : ∀ m, m ≤ 60 → TermAll m
  | m, hm, q, g, b, [], s, w, h, G, h0q, h0g, hs => by
    have e : Tm.dec m [] s = .error 7 := by cases m <;> rfl
    rw [e]
    exact terr_small q g b s (61 - (m : Int)) w h G h0q h0g (by omega) (by omega) (by omega) (by omega)
  | 0, hm, q, g, b, x :: r, s, w, h, G, h0q, h0g, hs => by
    show Calls Tryd.prog 98 _ w (TermP w q g b (.error 150))
    by_cases hk : 1 ≤ (x.toNat : Int) ∧ (x.toNat : Int) ≤ 8
    · by_cases hz : (s : Int) + 1 ≤ 1200
      · exact terr_c3 q g b x r s (61 - ((0 : Nat) : Int)) w h G h0q h0g (by omega) (by omega) (by omega) (by omega) (hf0_of hk) (decide_eq_true hz) (by decide)
      · exact terr_c2 q g b x r s (61 - ((0 : Nat) : Int)) w h G h0q h0g (by omega) (by omega) (by omega) (by omega) (hf0_of hk) (decide_eq_false hz)
    · exact terr_c1 q g b x r s (61 - ((0 : Nat) : Int)) w h G h0q h0g (by omega) (by omega) (by omega) (by omega) (hf0_no hk)
  | m + 1, hm, q, g, b, x :: r, s, w, h, G, h0q, h0g, hs => by
    have ih := term_all m (by omega)
    have hdeep : 61 - ((m + 1 : Nat) : Int) = 60 - (m : Int) := by omega
    rw [hdeep]
    obtain ⟨deep, hdp⟩ : ∃ d, d = 60 - (m : Int) := ⟨_, rfl⟩
    rw [← hdp]
    have d0 : 0 ≤ deep := by omega
    have d1 : deep ≤ 60 := by omega
    have d2 : deep ≤ 61 := by omega
    by_cases hk : 1 ≤ x.toNat ∧ x.toNat ≤ 8
    case neg =>
      rw [Tm.dec, if_pos (by omega)]
      exact terr_c1 q g b x r s deep w h G h0q h0g (by omega) (by omega) d0 d2 (hf0_no (by omega))
    have hkz : 1 ≤ (x.toNat : Int) ∧ (x.toNat : Int) ≤ 8 := by omega
    by_cases hz : s + 1 ≤ 1200
    case neg =>
      rw [Tm.dec, if_pos (by omega)]
      exact terr_c2 q g b x r s deep w h G h0q h0g (by omega) (by omega) d0 d2 (hf0_of hkz) (decide_eq_false (by omega))
    have hc : 1 ≤ x.toNat ∧ x.toNat ≤ 8 ∧ s + 1 ≤ 1200 := ⟨hk.1, hk.2, hz⟩
    have hf := hf0_of hkz
    have c2 : decide ((s : Int) + 1 ≤ 1200) = true := decide_eq_true (by omega)
    have c3 : decide (deep ≤ 60) = true := decide_eq_true d1
    have bT := hasB_T (x.toNat : Int)
    have bU := hasB_U (x.toNat : Int)
    have bN := hasB_N (x.toNat : Int)
    cases hT : Tm.hasT (x.toNat : Int) with
    | true =>
      have hx1 : (x.toNat : Int) = 1 := by unfold Tm.hasT at hT; simpa using hT
      have hU : Tm.hasU (x.toNat : Int) = false := by rw [hx1]; rfl
      have hN : Tm.hasN (x.toNat : Int) = false := by rw [hx1]; rfl
      rw [hT] at bT
      rw [hU] at bU
      rw [hN] at bN
      cases r with
      | nil =>
        have e : Tm.dec (m + 1) [x] s = .error 7 := by rw [Tm.dec_cons _ _ _ _ hc]; simp [Tm.dText, hT]
        rw [e]
        exact terr_t7 q g b x s deep w h G h0q h0g (by omega) (by omega) d0 d2 hf c2 c3 bT
      | cons y r2 =>
        by_cases hy : 64 < y.toNat
        · have e : Tm.dec (m + 1) (x :: y :: r2) s = .error 150 := by rw [Tm.dec_cons _ _ _ _ hc]; simp [Tm.dText, hT, hy]
          rw [e]
          exact terr_t150 q g b x y r2 s deep w h G h0q h0g (by omega) (by omega) d0 d2 hf c2 c3 bT hy
        by_cases hl : r2.length < y.toNat
        · have e : Tm.dec (m + 1) (x :: y :: r2) s = .error 7 := by rw [Tm.dec_cons _ _ _ _ hc]; simp [Tm.dText, hT, hy, hl]
          rw [e]
          exact terr_t7b q g b x y r2 s deep w h G h0q h0g (by omega) (by omega) d0 d2 hf c2 c3 bT (by omega) hl
        have p1 : Tm.dText x.toNat (y :: r2) = .ok (r2.take y.toNat, r2.drop y.toNat) := by simp [Tm.dText, hT, hy, hl]
        have p2 : Tm.dUser x.toNat (r2.drop y.toNat) = .ok (0, r2.drop y.toNat) := by simp [Tm.dUser, hU]
        have p3 : Tm.dNum x.toNat (r2.drop y.toNat) = .ok (0, r2.drop y.toNat) := by simp [Tm.dNum, hN]
        obtain ⟨hD, hE⟩ := dec_parts (m := m) hc p1 p2 p3
        exact term_T m ih q g b x y r2 s s deep rfl w h G h0q h0g hz hdp d0 hk (by omega) (by omega) hf (fun tx ht => may_T hT hU ht) bT bU bN _ hD hE
    | false =>
    rw [hT] at bT
    have p1 : ∀ r', Tm.dText x.toNat r' = .ok ([], r') := fun r' => by simp [Tm.dText, hT]
    cases hU : Tm.hasU (x.toNat : Int) with
    | true =>
      rw [hU] at bU
      cases r with
      | nil =>
        have e : Tm.dec (m + 1) [x] s = .error 7 := by rw [Tm.dec_cons _ _ _ _ hc, p1]; simp [Tm.dUser, hU]
        rw [e]
        exact terr_u7 q g b x s deep w h G h0q h0g (by omega) (by omega) d0 d2 hf c2 c3 bT bU
      | cons y r2 =>
        by_cases hy : 1 ≤ y.toNat ∧ y.toNat ≤ 6
        case neg =>
          have e : Tm.dec (m + 1) (x :: y :: r2) s = .error 150 := by
            have p2' : Tm.dUser x.toNat (y :: r2) = .error 150 := by unfold Tm.dUser; rw [if_pos hU]; exact if_neg hy
            rw [Tm.dec_cons _ _ _ _ hc, p1]; simp [p2']
          rw [e]
          exact terr_may q g b x y r2 s deep w h G h0q h0g (by omega) (by omega) d0 d2 hf c2 c3 bT bU (may_noU hU (by omega))
        have p2 : Tm.dUser x.toNat (y :: r2) = .ok ((y.toNat : Int), r2) := by unfold Tm.dUser; rw [if_pos hU]; exact if_pos hy
        have hm : Tm.may (x.toNat : Int) (y.toNat : Int) 0 (ByteArray.size ⟨#[]⟩) = true := may_U hU (by omega)
        cases hN : Tm.hasN (x.toNat : Int) with
        | false =>
          rw [hN] at bN
          have p3 : Tm.dNum x.toNat r2 = .ok (0, r2) := by simp [Tm.dNum, hN]
          obtain ⟨hD, hE⟩ := dec_parts (m := m) hc (p1 _) p2 p3
          exact term_U m ih q g b x y r2 s s deep rfl w h G h0q h0g hz hdp d0 hk hf hm bT bU bN _ hD hE
        | true =>
          rw [hN] at bN
          match r2, h, p2 with
          | [], h, p2 =>
            have e : Tm.dec (m + 1) (x :: y :: []) s = .error 7 := by rw [Tm.dec_cons _ _ _ _ hc, p1]; simp [p2, Tm.dNum, hN]
            rw [e]
            exact terr_n7 q g b x y [] s deep w h G h0q h0g (by omega) (by omega) d0 d2 hf c2 c3 bT bU bN hm (by simp)
          | [z], h, p2 =>
            have e : Tm.dec (m + 1) (x :: y :: [z]) s = .error 7 := by rw [Tm.dec_cons _ _ _ _ hc, p1]; simp [p2, Tm.dNum, hN]
            rw [e]
            exact terr_n7 q g b x y [z] s deep w h G h0q h0g (by omega) (by omega) d0 d2 hf c2 c3 bT bU bN hm (by simp)
          | ya :: yb :: r3, h, p2 =>
            have p3 : Tm.dNum x.toNat (ya :: yb :: r3) = .ok (((ya.toNat * 256 + yb.toNat : Nat) : Int), r3) := by rw [Tm.dNum, if_pos hN]
            obtain ⟨hD, hE⟩ := dec_parts (m := m) hc (p1 _) p2 p3
            exact term_UN m ih q g b x y ya yb r3 s s deep rfl w h G h0q h0g hz hdp d0 hk hf hm bT bU bN _ hD hE
    | false =>
      have hN : Tm.hasN (x.toNat : Int) = false := by
        unfold Tm.hasN
        unfold Tm.hasU at hU
        simp at hU ⊢
        exact ⟨hU.1.1.1, hU.2⟩
      rw [hU] at bU
      rw [hN] at bN
      have p2 : Tm.dUser x.toNat r = .ok (0, r) := by simp [Tm.dUser, hU]
      have p3 : Tm.dNum x.toNat r = .ok (0, r) := by simp [Tm.dNum, hN]
      obtain ⟨hD, hE⟩ := dec_parts (m := m) hc (p1 _) p2 p3
      exact term_O m ih q g b x r s s deep rfl w h G h0q h0g hz hdp d0 hk hf (may_O hU) bT bU bN _ hD hE
end Go.Proofs.YtchanildogjhgaaDoor

