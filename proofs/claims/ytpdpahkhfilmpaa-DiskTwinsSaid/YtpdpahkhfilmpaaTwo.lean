/-
  Rows of what is to be done, opened; two disks side by side. Words of mine.
-/
import Derived.Test.YtpdpahkhfilmpaaAct
import Derived.Test.YtpdpahkhfilmpaaContent
namespace Go.Proofs.Ytpdpahkhfilmpaa
open Go.ChangeShapes Go.WideShapes Go.ChangeAt Go.RowKit

/-- From address A on (if there is one) lie so many acts. -/
def Acts (W : World) (A : Option Addr) (n : Nat) : Prop :=
  ∀ i, i < n → ∃ g o kd a K c, A = some ⟨g, o, none⟩ ∧ Cells W (some ⟨g, o + i * 5, none⟩) (dv kd a K c) ∧ a.kind = ((IntKind.u64.wrap kd) % 7).toNat ∧ (Lit.int .i64 a.at_).wf = true ∧ (Lit.int .i64 a.n).wf = true ∧ a.keep.length ≤ c ∧ c ≤ maxLen ∧ Bools W K a.keep
theorem acts_in {H : Type} {enc : TypeId × Value → H} {W : World} {fuel : Nat} {x : DataW H × List MemPlace} {cs : List Value} (h : DataW.trod enc Try.prog W 0 (fun _ => true) true fuel 22 cs = some x) :
    ∃ A n c, cs = [.slice A n c] ∧ n ≤ c ∧ c ≤ maxLen ∧ Acts W A n := by
  have h5 : Try.prog.cellsOf 49 = 5 := by kernel_rfl
  rcases Deep.open_slice Try.underlying22 h with ⟨rfl, _⟩ | ⟨a, len, cap, m, n, D, Pl, rfl, _, hl, hm, hmm, _, hx⟩
  · exact ⟨none, 0, 0, rfl, Nat.le_refl _, by simp, fun i h => by omega⟩
  · simp only [if_true] at hmm
    refine ⟨some a, _, _, rfl, hl, hmm ▸ hm, fun i hi => ?_⟩
    obtain ⟨cs', h1, h2⟩ := hx i (by omega)
    obtain ⟨kd, ac, hd⟩ := deed_in h2
    obtain ⟨K, c, hf, hlc, hcm, hb⟩ := hd.form
    rw [h5] at h1
    obtain ⟨_, hlen, hcell⟩ := World.cells?_some h1
    have hsp : ∀ j, j < 5 → ∃ v, W.cell? ((a.add (i * 5)).add j) = some v ∧ cs'[j]? = some v := fun j hj => by
      have := hcell j (by omega)
      refine ⟨cs'[j]'(by omega), ?_, List.getElem?_eq_getElem (by omega)⟩
      rw [this]
      exact List.getElem?_eq_getElem _
    obtain ⟨b, o, s⟩ := a
    have hs : s = none := by
      obtain ⟨cs0, h10, h20⟩ := hx 0 (by omega)
      obtain ⟨kd0, ac0, hd0⟩ := deed_in h20
      obtain ⟨K0, c0, hf0, _, _, _⟩ := hd0.form
      obtain ⟨_, _, hcell0⟩ := World.cells?_some h10
      have q0 := hcell0 0 (by rw [h5]; omega)
      rw [hf0] at q0
      simpa [Addr.add] using World.cell?_spot q0
    subst hs
    refine ⟨b, o, kd, ac, K, c, rfl, Cells.of_cells fun j hj => ?_, hd.kind, hd.w2, hd.w3, hlc, hcm, hb⟩
    have hj5 : j < 5 := hj
    obtain ⟨v, e1, e2⟩ := hsp j hj5
    rw [add_plain, add_plain] at e1
    rw [e1]
    have hf' : cs' = dv kd ac K c := hf
    rw [hf', List.getElem?_eq_getElem hj] at e2
    exact e2.symm

/-- Two disks of the call's own, apart. -/
structure Two (w v : World) (g m : Nat) (A : Option Addr) (c : Nat) (S : St) (g' m' : Nat) (A' : Option Addr) (c' : Nat) (S' : St) : Prop where
  L : Far w v g m A c S
  R : Far w v g' m' A' c' S'
  ng : g ≠ g'
  nm : m ≠ m'
  nA : ∀ a a', A = some a → A' = some a' → a.block ≠ a'.block
section
variable {w v v' : World} {g m c g' m' c' c1 : Nat} {A A' A1 : Option Addr} {S S' S1 : St}
theorem Two.swap (h : Two w v g m A c S g' m' A' c' S') : Two w v g' m' A' c' S' g m A c S := ⟨h.R, h.L, h.ng.symm, h.nm.symm, fun a a' ha ha' => (h.nA a' a ha' ha).symm⟩
theorem Two.keep (h : Two w v g m A c S g' m' A' c' S') (k : Mod [] v v') : Two w v' g m A c S g' m' A' c' S' := ⟨h.L.keep k, h.R.keep k, h.ng, h.nm, h.nA⟩
theorem Two.did (h : Two w v g m A c S g' m' A' c' S') (D : DAt v' g m A1 c1 S1) (k : Did v v' g m A A1) : Two w v' g m A1 c1 S1 g' m' A' c' S' ∧ Keeps v v' := by
  have hfp : ∀ i ∈ g :: m :: blk A, w.heap.size ≤ i := fun i hi => by
    simp only [List.mem_cons] at hi
    rcases hi with rfl | rfl | hi
    · exact h.L.g
    · exact h.L.m
    · obtain ⟨a, ha, rfl⟩ := mem_blk hi
      exact h.L.A a ha
  have hg : g' ∉ g :: m :: blk A := by
    simp only [List.mem_cons, not_or]
    exact ⟨h.ng.symm, h.L.D.firm.ne_holds h.R.D.blk, notin_blk (h.L.D.loose.ne h.R.D.blk (by decide))⟩
  have hm : m' ∉ g :: m :: blk A := by
    simp only [List.mem_cons, not_or]
    exact ⟨fun e => h.R.D.firm.ne_holds h.L.D.blk e.symm, h.nm.symm, notin_blk (h.L.D.loose.ne_firm h.R.D.firm)⟩
  have hA : ∀ a, A' = some a → a.block ∉ g :: m :: blk A := fun a ha => by
    simp only [List.mem_cons, not_or]
    exact ⟨h.R.D.loose.ne h.L.D.blk (by decide) a ha, h.R.D.loose.ne_firm h.L.D.firm a ha, notin_blk (fun a2 ha2 => h.nA a2 a ha2 ha)⟩
  refine ⟨⟨⟨D, far_mod h.L.mm k.mod hfp, h.L.g, h.L.m, fun a ha => ?_⟩, ⟨h.R.D.keep k.mod hg hm hA, far_mod h.R.mm k.mod hfp, h.R.g, h.R.m, h.R.A⟩, h.ng, h.nm, fun a a' ha ha' => ?_⟩, Keeps.did h.L.D k.mod (fun i hi => by simpa only [List.mem_cons] using hi)⟩
  · rcases k.new a ha with h1 | h1
    · obtain ⟨a2, ha2, e2⟩ := mem_blk h1
      rw [← e2]
      exact h.L.A a2 ha2
    · have := h.L.mm.size; omega
  · rcases k.new a ha with h1 | h1
    · obtain ⟨a2, ha2, e2⟩ := mem_blk h1
      rw [← e2]
      exact h.nA a2 a' ha2 ha'
    · have := h.R.D.loose.lt a' ha'; omega
end

/-- What fails is told, and is as if it had not been asked: the step. -/
structure Miss (left : Int) (d t : St) : Prop where
  dd : d.dead = false
  td : t.dead = false
  dn : d.n = 5
  tn : t.n = 5
  da : d.armed = -1
  ta : t.armed = -1
  tf : t.failing = -1
  df : d.failing = if 0 ≤ left then left else -1
  firm : d.firm = t.firm
  loose : d.loose = t.loose
  ops : d.ops = t.ops
theorem ask_calm (S : St) (hd : S.dead = false) (ha : S.armed = -1) (l : Bool) : S.ask true l = if S.failing = 0 then (8, { S with failing := -1 }) else (0, { S with failing := down S.failing, ops := S.ops + 1 }) := by
  obtain ⟨n, firm, loose, dead, armed, failing, ops⟩ := S
  simp only at hd ha
  subst hd ha
  unfold St.ask
  by_cases hf : failing = 0
  · simp [hf]
  · cases l <;> simp [hf, down]
theorem ask_not (S : St) (hd : S.dead = false) (l : Bool) : S.ask false l = (2, S) := by
  unfold St.ask
  simp [hd]
theorem Miss.step {left : Int} {d t : St} (h : Miss left d t) (a : Ac) (hk : a.kind < 3) :
    (¬ (a.kind = 2 ∨ 0 ≤ a.at_ ∧ a.at_ < 5) → d.act a = (fil 0, 2, d) ∧ t.act a = (fil 0, 2, t)) ∧
    ((a.kind = 2 ∨ 0 ≤ a.at_ ∧ a.at_ < 5) → left = 0 → ∃ d', d.act a = (fil 0, 8, d') ∧ Miss (-1) d' t) ∧
    ((a.kind = 2 ∨ 0 ≤ a.at_ ∧ a.at_ < 5) → left ≠ 0 → ∃ B E d' t', d.act a = (B, E, d') ∧ t.act a = (B, E, t') ∧ Miss (left - 1) d' t') := by
  obtain ⟨dd, td, dn, tn, da, ta, tf, df, hf, hl, ho⟩ := h
  have hd : d.has a.at_ = decide (0 ≤ a.at_ ∧ a.at_ < 5) := by unfold St.has; rw [dn]; rfl
  have ht : t.has a.at_ = decide (0 ≤ a.at_ ∧ a.at_ < 5) := by unfold St.has; rw [tn]; rfl
  have hdown : left ≠ 0 → d.failing ≠ 0 ∧ down d.failing = if 0 ≤ left - 1 then left - 1 else -1 := fun hne => by
    rw [df]
    unfold down
    by_cases h0 : 0 ≤ left
    · rw [if_pos h0, if_neg (show ¬ (left < 0) by omega), if_pos (show 0 ≤ left - 1 by omega)]
      exact ⟨hne, rfl⟩
    · rw [if_neg h0, if_neg (show ¬ (0 ≤ left - 1) by omega)]
      exact ⟨by decide, rfl⟩
  have htd : ∀ l, t.ask true l = (0, { t with failing := -1, ops := t.ops + 1 }) := fun l => by
    rw [ask_calm t td ta, tf]; rfl
  have hd0 : left = 0 → ∀ l, d.ask true l = (8, { d with failing := -1 }) := fun h0 l => by
    rw [ask_calm d dd da, df, h0]; rfl
  have hd1 : left ≠ 0 → ∀ l, d.ask true l = (0, { d with failing := down d.failing, ops := d.ops + 1 }) := fun h0 l => by
    rw [ask_calm d dd da, if_neg (hdown h0).1]
  obtain hk0 | hk0 | hk0 : a.kind = 0 ∨ a.kind = 1 ∨ a.kind = 2 := by omega
  · have e : ∀ S : St, S.act a = S.read a.at_ := fun S => by unfold St.act; rw [hk0]; rfl
    rw [e, e]
    refine ⟨fun hn => ?_, fun hth h0 => ?_, fun hth h0 => ?_⟩
    · have hn' : decide (0 ≤ a.at_ ∧ a.at_ < 5) = false := decide_eq_false (by omega)
      unfold St.read
      rw [hd, ht, hn', ask_not d dd, ask_not t td]
      exact ⟨rfl, rfl⟩
    · have hn' : decide (0 ≤ a.at_ ∧ a.at_ < 5) = true := decide_eq_true (by omega)
      refine ⟨{ d with failing := -1 }, by unfold St.read; rw [hd, hn', hd0 h0]; rfl, ⟨dd, td, dn, tn, da, ta, tf, rfl, hf, hl, ho⟩⟩
    · have hn' : decide (0 ≤ a.at_ ∧ a.at_ < 5) = true := decide_eq_true (by omega)
      refine ⟨app d.firm d.loose a.at_, 0, { d with failing := down d.failing, ops := d.ops + 1 }, { t with failing := -1, ops := t.ops + 1 }, by unfold St.read; rw [hd, hn', hd1 h0]; rfl, ?_, ⟨dd, td, dn, tn, da, ta, rfl, (hdown h0).2, hf, hl, by show d.ops + 1 = t.ops + 1; rw [ho]⟩⟩
      unfold St.read
      rw [ht, hn', htd]
      show ((app t.firm t.loose a.at_, (0 : Int), _) : Blk × Int × St) = (app d.firm d.loose a.at_, 0, _)
      rw [hf, hl]
  · have e : ∀ S : St, S.act a = (fil 0, S.write a.at_ (fil a.fill)) := fun S => by unfold St.act; rw [hk0]; rfl
    rw [e, e]
    refine ⟨fun hn => ?_, fun hth h0 => ?_, fun hth h0 => ?_⟩
    · have hn' : decide (0 ≤ a.at_ ∧ a.at_ < 5) = false := decide_eq_false (by omega)
      unfold St.write
      rw [hd, ht, hn', ask_not d dd, ask_not t td]
      exact ⟨rfl, rfl⟩
    · have hn' : decide (0 ≤ a.at_ ∧ a.at_ < 5) = true := decide_eq_true (by omega)
      refine ⟨{ d with failing := -1 }, by unfold St.write; rw [hd, hn', hd0 h0]; rfl, ⟨dd, td, dn, tn, da, ta, tf, rfl, hf, hl, ho⟩⟩
    · have hn' : decide (0 ≤ a.at_ ∧ a.at_ < 5) = true := decide_eq_true (by omega)
      refine ⟨fil 0, 0, { d with failing := down d.failing, ops := d.ops + 1, loose := d.loose ++ [(a.at_, fil a.fill)] }, { t with failing := -1, ops := t.ops + 1, loose := t.loose ++ [(a.at_, fil a.fill)] }, by unfold St.write; rw [hd, hn', hd1 h0]; rfl, by unfold St.write; rw [ht, hn', htd]; rfl, ⟨dd, td, dn, tn, da, ta, rfl, (hdown h0).2, hf, by show d.loose ++ _ = t.loose ++ _; rw [hl], by show d.ops + 1 = t.ops + 1; rw [ho]⟩⟩
  · have e : ∀ S : St, S.act a = (fil 0, S.sync) := fun S => by unfold St.act; rw [hk0]; rfl
    rw [e, e]
    refine ⟨fun hn => absurd (.inl hk0) hn, fun hth h0 => ?_, fun hth h0 => ?_⟩
    · refine ⟨{ d with failing := -1 }, by unfold St.sync; rw [hd0 h0]; rfl, ⟨dd, td, dn, tn, da, ta, tf, rfl, hf, hl, ho⟩⟩
    · refine ⟨fil 0, 0, { d with failing := down d.failing, ops := d.ops + 1, loose := [], firm := app d.firm d.loose }, { t with failing := -1, ops := t.ops + 1, loose := [], firm := app t.firm t.loose }, by unfold St.sync; rw [hd1 h0]; rfl, by unfold St.sync; rw [htd]; rfl, ⟨dd, td, dn, tn, da, ta, rfl, (hdown h0).2, by show app d.firm d.loose = app t.firm t.loose; rw [hf, hl], rfl, by show d.ops + 1 = t.ops + 1; rw [ho]⟩⟩
end Go.Proofs.Ytpdpahkhfilmpaa
