/-
  What follows from a change that was done. Pure. My own work.
-/
import Derived.Test.YtaadmpainikfpaaWy
import Derived.Test.YtaadmpainikfpaaWv
namespace Go.Proofs.Ytaadmpainikfpaa
set_option linter.unusedVariables false
set_option linter.unusedSimpArgs false
/-- What a change does. -/
structure Goes (k who : Int) (p q : Pm) : Prop where
  own : q.own = p.own
  right : q.Right
  ep : q.ep = p.ep + (if k = 2 ∨ k = 4 ∨ k = 5 then 1 else 0)
  rd1 : ∀ x ∈ p.rd, x ∈ q.rd ∨ (k = 2 ∧ x = who)
  wr1 : ∀ x ∈ p.wr, x ∈ q.wr ∨ (k = 2 ∧ x = who)
  gp1 : ∀ x ∈ p.gp, x ∈ q.gp ∨ k = 4
  rd2 : k = 2 ∨ k = 4 → ∀ x ∈ q.rd, x ∈ p.rd
  wr2 : k = 2 ∨ k = 4 → ∀ x ∈ q.wr, x ∈ p.wr
  gp2 : k = 2 ∨ k = 4 → ∀ x ∈ q.gp, x ∈ p.gp
theorem begun_ok {p q : Pm} (h : begun p = (0, q)) : p.ep ≠ 8 ∧ q = { p with ep := p.ep + 1 } := by
  unfold begun at h
  split at h
  · simp at h
  · rename_i h8
    exact ⟨h8, (Prod.mk.inj h).2.symm⟩
theorem byOwner_in {p q : Pm} {by_ : Int} {can : Bool} {r : Int × Pm} (h : byOwner p by_ can r = (0, q)) : p.rightB = true ∧ can = true ∧ r = (0, q) := by
  unfold byOwner at h
  split at h
  · rename_i h1
    split at h
    · split at h
      · rename_i h3
        exact ⟨h1, h3, h⟩
      · simp at h
    · simp at h
  · simp at h
theorem chg_goes {k who by_ : Int} {p q : Pm} (h0 : 0 ≤ k) (h6 : k < 6) (h : chg k p by_ who = (0, q)) : Goes k who p q := by
  unfold chg at h
  by_cases k01 : k = 0 ∨ k = 1
  · rw [if_pos k01] at h
    obtain ⟨hb, hc, hs⟩ := byOwner_in h
    have hR := (Pm.right_iff p).1 hb
    simp only [Pm.other, Bool.and_eq_true, decide_eq_true_eq, Bool.not_eq_true', beq_eq_false_iff_ne] at hc
    unfold shared at hs
    split at hs
    · simp at hs
    obtain rfl := (Prod.mk.inj hs).2
    have hi := ins_rises hR.r hc.1.1 hc.1.2
    have hj := ins_rises hR.w hc.1.1 hc.1.2
    refine ⟨rfl, ⟨hR.o1, hR.o6, hR.e1, hR.e8, hi.1, ?_, hR.g, fun hm => ?_, fun x hx => ?_⟩, ?_, fun x hx => .inl ((hi.2 x).2 (.inr hx)), fun x hx => .inl ?_, fun x hx => .inl hx, fun hk => ?_, fun hk => ?_, fun hk => ?_⟩
    · simp only
      split
      · exact hj.1
      · exact hR.w
    · rcases (hi.2 _).1 hm with e | e
      · exact hc.2 e.symm
      · exact hR.no e
    · refine (hi.2 x).2 ?_
      simp only at hx
      split at hx
      · rcases (hj.2 x).1 hx with e | e
        · exact .inl e
        · exact .inr (hR.sub _ e)
      · exact .inr (hR.sub _ hx)
    · have e : ¬ (k = 2 ∨ k = 4 ∨ k = 5) := by omega
      rw [if_neg e]
      simp
    · simp only
      split
      · exact (hj.2 x).2 (.inr hx)
      · exact hx
    · omega
    · omega
    · omega
  rw [if_neg k01] at h
  by_cases k2 : k = 2
  · rw [if_pos k2] at h
    obtain ⟨hb, hc, hs⟩ := byOwner_in h
    have hR := (Pm.right_iff p).1 hb
    unfold backed at hs
    split at hs
    · obtain ⟨h8, rfl⟩ := begun_ok hs
      have hi := del_rises (x := who) hR.r
      have hj := del_rises (x := who) hR.w
      have e1 := hR.e1
      have e8 := hR.e8
      simp only at h8
      refine ⟨rfl, ⟨hR.o1, hR.o6, by simp only; omega, by simp only; omega, hi.1, hj.1, hR.g, fun hm => hR.no ((hi.2 _).1 hm).1, fun x hx => ?_⟩, ?_, fun x hx => ?_, fun x hx => ?_, fun x hx => .inl hx, fun _ x hx => ((hi.2 x).1 hx).1, fun _ x hx => ((hj.2 x).1 hx).1, fun _ x hx => hx⟩
      · have := (hj.2 x).1 hx
        exact (hi.2 x).2 ⟨hR.sub _ this.1, this.2⟩
      · rw [if_pos (.inl k2)]
      · by_cases e : x = who
        · exact .inr ⟨k2, e⟩
        · exact .inl ((hi.2 x).2 ⟨hx, e⟩)
      · by_cases e : x = who
        · exact .inr ⟨k2, e⟩
        · exact .inl ((hj.2 x).2 ⟨hx, e⟩)
    · simp at hs
  rw [if_neg k2] at h
  by_cases k3 : k = 3
  · rw [if_pos k3] at h
    obtain ⟨hb, hc, hs⟩ := byOwner_in h
    have hR := (Pm.right_iff p).1 hb
    simp only [grp, Bool.and_eq_true, decide_eq_true_eq] at hc
    unfold sharedG at hs
    split at hs
    · simp at hs
    obtain rfl := (Prod.mk.inj hs).2
    have hi := ins_rises hR.g hc.1 hc.2
    refine ⟨rfl, ⟨hR.o1, hR.o6, hR.e1, hR.e8, hR.r, hR.w, hi.1, hR.no, hR.sub⟩, ?_, fun x hx => .inl hx, fun x hx => .inl hx, fun x hx => .inl ((hi.2 x).2 (.inr hx)), fun hk => ?_, fun hk => ?_, fun hk => ?_⟩
    · have e : ¬ (k = 2 ∨ k = 4 ∨ k = 5) := by omega
      rw [if_neg e]
      simp
    · omega
    · omega
    · omega
  rw [if_neg k3] at h
  by_cases k4 : k = 4
  · rw [if_pos k4] at h
    obtain ⟨hb, hc, hs⟩ := byOwner_in h
    have hR := (Pm.right_iff p).1 hb
    unfold backedG at hs
    split at hs
    · obtain ⟨h8, rfl⟩ := begun_ok hs
      have hi := del_rises (x := who) hR.g
      have e1 := hR.e1
      have e8 := hR.e8
      simp only at h8
      refine ⟨rfl, ⟨hR.o1, hR.o6, by simp only; omega, by simp only; omega, hR.r, hR.w, hi.1, hR.no, hR.sub⟩, ?_, fun x hx => .inl hx, fun x hx => .inl hx, fun x hx => .inr k4, fun _ x hx => hx, fun _ x hx => hx, fun _ x hx => ((hi.2 x).1 hx).1⟩
      rw [if_pos (.inr (.inl k4))]
    · simp at hs
  rw [if_neg k4] at h
  split at h
  · rename_i hb
    have hR := (Pm.right_iff p).1 hb
    obtain ⟨h8, rfl⟩ := begun_ok h
    have e1 := hR.e1
    have e8 := hR.e8
    refine ⟨rfl, ⟨hR.o1, hR.o6, by simp only; omega, by simp only; omega, hR.r, hR.w, hR.g, hR.no, hR.sub⟩, ?_, fun x hx => .inl hx, fun x hx => .inl hx, fun x hx => .inl hx, fun hk => ?_, fun hk => ?_, fun hk => ?_⟩
    · rw [if_pos (.inr (.inr (by omega)))]
    · omega
    · omega
    · omega
  · simp at h
section
variable {k who : Int} {p q : Pm}
theorem mayW_iff (hR : p.Right) (n : Int) : p.mayW n = true ↔ n = p.own ∨ n ∈ p.wr := by
  simp [Pm.mayW, (Pm.right_iff p).2 hR]
theorem mayR_iff (hR : p.Right) (n : Int) (m : List (Int × Int)) : p.mayR n m = true ↔ (1 ≤ n ∧ n ≤ 6) ∧ (n = p.own ∨ n ∈ p.rd ∨ ∃ g ∈ GL m n, g ∈ p.gp) := by
  simp [Pm.mayR, (Pm.right_iff p).2 hR, upTo]
theorem Goes.writes (h : Goes k who p q) {n : Int} (h1 : 1 ≤ n) (h6 : n ≤ 6) (hw : q.mayW n = true) : q.mayR n [] = true := by
  rw [mayW_iff h.right] at hw
  rw [mayR_iff h.right]
  exact ⟨⟨h1, h6⟩, hw.imp id fun hm => .inl (h.right.sub _ hm)⟩
theorem Goes.lost (h : Goes k who p q) (hp : p.Right) {n : Int} {m : List (Int × Int)} (ha : p.mayR n m = true) (hb : q.mayR n m = false) : (k = 2 ∧ n = who) ∨ k = 4 := by
  rw [mayR_iff hp] at ha
  have hb2 : ¬ q.mayR n m = true := by rw [hb]; simp
  rw [mayR_iff h.right] at hb2
  rcases ha.2 with e | e | ⟨g, hg, e⟩
  · exact absurd ⟨ha.1, .inl (e.trans h.own.symm)⟩ hb2
  · rcases h.rd1 _ e with e | e
    · exact absurd ⟨ha.1, .inr (.inl e)⟩ hb2
    · exact .inl e
  · rcases h.gp1 _ e with e | e
    · exact absurd ⟨ha.1, .inr (.inr ⟨g, hg, e⟩)⟩ hb2
    · exact .inr e
theorem Goes.lostW (h : Goes k who p q) (hp : p.Right) {n : Int} (ha : p.mayW n = true) (hb : q.mayW n = false) : k = 2 ∧ n = who := by
  rw [mayW_iff hp] at ha
  have hb2 : ¬ q.mayW n = true := by rw [hb]; simp
  rw [mayW_iff h.right] at hb2
  rcases ha with e | e
  · exact absurd (.inl (e.trans h.own.symm)) hb2
  · rcases h.wr1 _ e with e | e
    · exact absurd (.inr e) hb2
    · exact e
theorem Goes.got (h : Goes k who p q) (hp : p.Right) (hk : k = 2 ∨ k = 4) {n : Int} {m : List (Int × Int)} (hb : q.mayR n m = true) : p.mayR n m = true := by
  rw [mayR_iff h.right] at hb
  rw [mayR_iff hp]
  refine ⟨hb.1, ?_⟩
  rcases hb.2 with e | e | ⟨g, hg, e⟩
  · exact .inl (e.trans h.own)
  · exact .inr (.inl (h.rd2 hk _ e))
  · exact .inr (.inr ⟨g, hg, h.gp2 hk _ e⟩)
theorem Goes.gotW (h : Goes k who p q) (hp : p.Right) (hk : k = 2 ∨ k = 4) {n : Int} (hb : q.mayW n = true) : p.mayW n = true := by
  rw [mayW_iff h.right] at hb
  rw [mayW_iff hp]
  exact hb.imp (fun e => e.trans h.own) (h.wr2 hk _)
end
theorem chg_zp {k who by_ : Int} {p : Pm} (h : (chg k p by_ who).1 ≠ 0) : (chg k p by_ who).2 = zp := by
  unfold chg at h ⊢
  split
  · rename_i h1
    rw [if_pos h1] at h
    exact byOwner_zp shared_zp h
  rename_i h1
  rw [if_neg h1] at h
  split
  · rename_i h2
    rw [if_pos h2] at h
    exact byOwner_zp backed_zp h
  rename_i h2
  rw [if_neg h2] at h
  split
  · rename_i h3
    rw [if_pos h3] at h
    exact byOwner_zp sharedG_zp h
  rename_i h3
  rw [if_neg h3] at h
  split
  · rename_i h4
    rw [if_pos h4] at h
    exact byOwner_zp backedG_zp h
  rename_i h4
  rw [if_neg h4] at h
  split
  · rename_i h5
    rw [if_pos h5] at h
    exact begun_zp h
  · rfl
theorem new_right {u : Int} (h1 : 1 ≤ u) (h6 : u ≤ 6) : (Pm.mk u 1 [] [] []).Right :=
  ⟨h1, h6, by simp, by simp, ⟨List.Pairwise.nil, by simp⟩, ⟨List.Pairwise.nil, by simp⟩, ⟨List.Pairwise.nil, by simp⟩, by simp, by simp⟩
end Go.Proofs.Ytaadmpainikfpaa
