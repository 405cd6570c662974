/-
  What the power takes is told, and nothing behind it: the step. My own work.
-/
import Derived.Test.YtpdpahkhfilmpaaMisses
namespace Go.Proofs.Ytpdpahkhfilmpaa
open Go.RowKit
theorem Two.turn {w v v' : World} {g m c g' m' c' : Nat} {A A' : Option Addr} {S S' T : St} (h : Two w v g m A c S g' m' A' c' S') (D : DAt v' g m A c T) (k : Mod [g] v v') : Two w v' g m A c T g' m' A' c' S' ∧ Keeps v v' :=
  h.did D ⟨k.wk (fun i _ h => by simp at h; simp [h]), fun a ha => .inl (by subst ha; simp [blk])⟩
theorem two_arm {w v : World} {g m c g' m' c' : Nat} {A A' : Option Addr} {S S' : St} (h : Two w v g m A c S g' m' A' c' S') (n : Int) (hn : (Lit.int .i64 n).wf = true) : Calls Try.prog 24 #[.pointer (some ⟨g, 0, none⟩), .int .i64 n] v fun e v' => e = .returned (.int .i64 (S.arm n).1) ∧ Two w v' g m A c (S.arm n).2 g' m' A' c' S' ∧ Keeps v v' := by
  refine (arm_c S g m _ n v h.L.D.blk).mono ?_
  rintro e v' ⟨rfl, q1, q2⟩
  have hb : -9223372036854775808 ≤ n ∧ n < 9223372036854775808 := by simp [Lit.wf, IntKind.min, IntKind.max, IntKind.signed, IntKind.bits] at hn; omega
  have hf := h.L.D.fits
  refine ⟨rfl, h.turn (h.L.D.turn q2 q1 ?_ ?_ ?_ ?_) q2⟩ <;> unfold St.arm <;> split <;> first | rfl | exact hf | exact ⟨hf.1, hb.1, hb.2, hf.4, hf.5, hf.6⟩ | exact Nat.le_refl _
theorem two_read {w v : World} {g m c g' m' c' : Nat} {A A' : Option Addr} {S S' : St} (h : Two w v g m A c S g' m' A' c' S') (i : Int) (ho : S.ops + 1 ≤ 1099511627776) : Calls Try.prog 17 #[.pointer (some ⟨g, 0, none⟩), .int .i64 i] v fun e v' => e = .returned (.tuple #[bv (S.read i).1, .int .i64 (S.read i).2.1]) ∧ Two w v' g m A c (S.read i).2.2 g' m' A' c' S' ∧ Keeps v v' := by
  refine (read_c S g m A c i v h.L.D ho).mono ?_
  rintro e v' ⟨rfl, q1, q2⟩
  exact ⟨rfl, h.turn q1 q2⟩

/-- The power is to go behind left more that last. -/
structure Lose (left : Int) (d t : St) : Prop where
  dd : d.dead = false
  td : t.dead = false
  dn : d.n = 5
  tn : t.n = 5
  da : d.armed = left
  ta : t.armed = -1
  df : d.failing = -1
  tf : t.failing = -1
  firm : d.firm = t.firm
  loose : d.loose = t.loose
  ops : d.ops = t.ops
  left : 0 ≤ left
theorem lose_start (n : Nat) : Lose (n : Int) { St.new 5 with armed := (n : Int) } (St.new 5) := ⟨rfl, rfl, rfl, rfl, rfl, rfl, rfl, rfl, rfl, rfl, rfl, by show (0 : Int) ≤ (n : Int); omega⟩
/-- Without power all is told alike. -/
theorem dead_act (S : St) (h : S.dead = true) (a : Ac) (hk : a.kind < 3) : S.act a = (fil 0, 9, S) := by
  have e : ∀ p l, S.ask p l = (9, S) := fun p l => by unfold St.ask; rw [h]; rfl
  obtain hk0 | hk0 | hk0 : a.kind = 0 ∨ a.kind = 1 ∨ a.kind = 2 := by omega
  · have q : S.act a = S.read a.at_ := by unfold St.act; rw [hk0]; rfl
    rw [q]; unfold St.read; rw [e]; rfl
  · have q : S.act a = (fil 0, S.write a.at_ (fil a.fill)) := by unfold St.act; rw [hk0]; rfl
    rw [q]; unfold St.write; rw [e]; rfl
  · have q : S.act a = (fil 0, S.sync) := by unfold St.act; rw [hk0]; rfl
    rw [q]; unfold St.sync; rw [e]; rfl
theorem dead_read (S : St) (h : S.dead = true) (i : Int) : S.read i = (fil 0, 9, S) := by
  unfold St.read St.ask; rw [h]; rfl
theorem dead_arm (S : St) (h : S.dead = true) (n : Int) : S.arm n = (9, S) := by unfold St.arm; rw [if_pos h]
theorem dead_fail (S : St) (h : S.dead = true) (n : Int) : S.fail n = (9, S) := by unfold St.fail; rw [if_pos h]
theorem ask_firm (S : St) (hd : S.dead = false) (hf : S.failing = -1) (l : Bool) : S.ask true l = if l = true ∧ S.armed = 0 then (9, { S with armed := -1, dead := true }) else (0, { S with armed := if l then down S.armed else S.armed, ops := S.ops + 1 }) := by
  obtain ⟨n, firm, loose, dead, armed, failing, ops⟩ := S
  simp only at hd hf
  subst hd hf
  unfold St.ask
  by_cases hf : armed = 0
  · cases l <;> simp [hf, down]
  · cases l <;> simp [hf, down]
theorem Lose.step {left : Int} {d t : St} (h : Lose left d t) (a : Ac) (hk : a.kind < 3) :
    (¬ (a.kind > 0 ∧ (a.kind = 2 ∨ 0 ≤ a.at_ ∧ a.at_ < 5)) → ∃ B E d' t', d.act a = (B, E, d') ∧ t.act a = (B, E, t') ∧ Lose left d' t') ∧
    ((a.kind > 0 ∧ (a.kind = 2 ∨ 0 ≤ a.at_ ∧ a.at_ < 5)) → left ≠ 0 → ∃ B E d' t', d.act a = (B, E, d') ∧ t.act a = (B, E, t') ∧ Lose (left - 1) d' t') ∧
    ((a.kind > 0 ∧ (a.kind = 2 ∨ 0 ≤ a.at_ ∧ a.at_ < 5)) → left = 0 → ∃ d', d.act a = (fil 0, 9, d') ∧ d'.dead = true ∧ d'.ops = t.ops ∧ d'.loose = t.loose) := by
  obtain ⟨dd, td, dn, tn, da, ta, df, tf, hf, hl, ho, hleft⟩ := h
  have hd : d.has a.at_ = decide (0 ≤ a.at_ ∧ a.at_ < 5) := by unfold St.has; rw [dn]; rfl
  have ht : t.has a.at_ = decide (0 ≤ a.at_ ∧ a.at_ < 5) := by unfold St.has; rw [tn]; rfl
  have t0 : t.ask true false = (0, { t with ops := t.ops + 1 }) := by
    rw [ask_firm t td tf, if_neg (by simp)]; rfl
  have d0 : d.ask true false = (0, { d with ops := d.ops + 1 }) := by
    rw [ask_firm d dd df, if_neg (by simp)]; rfl
  have t1 : t.ask true true = (0, { t with armed := -1, ops := t.ops + 1 }) := by
    rw [ask_firm t td tf, ta, if_neg (by decide)]; rfl
  have d1 : left = 0 → d.ask true true = (9, { d with armed := -1, dead := true }) := fun h0 => by
    rw [ask_firm d dd df, da, if_pos ⟨rfl, h0⟩]
  have d2 : left ≠ 0 → d.ask true true = (0, { d with armed := left - 1, ops := d.ops + 1 }) := fun h0 => by
    rw [ask_firm d dd df, da, if_neg (fun h => h0 h.2)]
    have : down left = left - 1 := by unfold down; rw [if_neg (by omega)]
    simp [this]
  obtain hk0 | hk0 | hk0 : a.kind = 0 ∨ a.kind = 1 ∨ a.kind = 2 := by omega
  · have e : ∀ S : St, S.act a = S.read a.at_ := fun S => by unfold St.act; rw [hk0]; rfl
    rw [e, e]
    refine ⟨fun _ => ?_, fun hth => by omega, fun hth => by omega⟩
    by_cases hin : 0 ≤ a.at_ ∧ a.at_ < 5
    · refine ⟨app d.firm d.loose a.at_, 0, { d with ops := d.ops + 1 }, { t with ops := t.ops + 1 }, by unfold St.read; rw [hd, decide_eq_true hin, d0]; rfl, ?_, ⟨dd, td, dn, tn, da, ta, df, tf, hf, hl, by show d.ops + 1 = t.ops + 1; rw [ho], hleft⟩⟩
      unfold St.read
      rw [ht, decide_eq_true hin, t0]
      show ((app t.firm t.loose a.at_, (0 : Int), _) : Blk × Int × St) = (app d.firm d.loose a.at_, 0, _)
      rw [hf, hl]
    · refine ⟨fil 0, 2, d, t, by unfold St.read; rw [hd, decide_eq_false hin, ask_not d dd]; rfl, by unfold St.read; rw [ht, decide_eq_false hin, ask_not t td]; rfl, ⟨dd, td, dn, tn, da, ta, df, tf, hf, hl, ho, hleft⟩⟩
  · have e : ∀ S : St, S.act a = (fil 0, S.write a.at_ (fil a.fill)) := fun S => by unfold St.act; rw [hk0]; rfl
    rw [e, e]
    refine ⟨fun hth => ?_, fun hth h0 => ?_, fun hth h0 => ?_⟩
    · have hin : ¬ (0 ≤ a.at_ ∧ a.at_ < 5) := by omega
      refine ⟨fil 0, 2, d, t, by unfold St.write; rw [hd, decide_eq_false hin, ask_not d dd]; rfl, by unfold St.write; rw [ht, decide_eq_false hin, ask_not t td]; rfl, ⟨dd, td, dn, tn, da, ta, df, tf, hf, hl, ho, hleft⟩⟩
    · have hin : 0 ≤ a.at_ ∧ a.at_ < 5 := by omega
      refine ⟨fil 0, 0, { d with armed := left - 1, ops := d.ops + 1, loose := d.loose ++ [(a.at_, fil a.fill)] }, { t with armed := -1, ops := t.ops + 1, loose := t.loose ++ [(a.at_, fil a.fill)] }, by unfold St.write; rw [hd, decide_eq_true hin, d2 h0]; rfl, by unfold St.write; rw [ht, decide_eq_true hin, t1]; rfl, ⟨dd, td, dn, tn, rfl, rfl, df, tf, hf, by show d.loose ++ _ = t.loose ++ _; rw [hl], by show d.ops + 1 = t.ops + 1; rw [ho], by omega⟩⟩
    · have hin : 0 ≤ a.at_ ∧ a.at_ < 5 := by omega
      refine ⟨{ d with armed := -1, dead := true }, by unfold St.write; rw [hd, decide_eq_true hin, d1 h0]; rfl, rfl, ho, hl⟩
  · have e : ∀ S : St, S.act a = (fil 0, S.sync) := fun S => by unfold St.act; rw [hk0]; rfl
    rw [e, e]
    refine ⟨fun hth => absurd ⟨by omega, .inl hk0⟩ hth, fun hth h0 => ?_, fun hth h0 => ?_⟩
    · refine ⟨fil 0, 0, { d with armed := left - 1, ops := d.ops + 1, loose := [], firm := app d.firm d.loose }, { t with armed := -1, ops := t.ops + 1, loose := [], firm := app t.firm t.loose }, by unfold St.sync; rw [d2 h0]; rfl, by unfold St.sync; rw [t1]; rfl, ⟨dd, td, dn, tn, rfl, rfl, df, tf, by show app d.firm d.loose = app t.firm t.loose; rw [hf, hl], rfl, by show d.ops + 1 = t.ops + 1; rw [ho], by omega⟩⟩
    · exact ⟨{ d with armed := -1, dead := true }, by unfold St.sync; rw [d1 h0]; rfl, rfl, ho, hl⟩
end Go.Proofs.Ytpdpahkhfilmpaa
