/-
  A crash is as if the writes that it takes had never been done: the step. Words of mine, no program.
-/
import Derived.Test.YtpdpahkhfilmpaaLose
namespace Go.Proofs.Ytpdpahkhfilmpaa
open Go.RowKit
/-- The write that an act is. -/
def lay (a : Ac) : Int × Blk := (a.at_, fil a.fill)
/-- A disk to which these writes were done besides. -/
def plus (t : St) (L : List Ac) : St := { t with ops := t.ops + L.length, loose := t.loose ++ L.map lay }
theorem plus_nil (t : St) : plus t [] = t := by unfold plus; simp
theorem plus_snoc (t : St) (L : List Ac) (a : Ac) : plus t (L ++ [a]) = { plus t L with ops := (plus t L).ops + 1, loose := (plus t L).loose ++ [lay a] } := by
  unfold plus; simp; omega
structure Calm (t : St) : Prop where
  dead : t.dead = false
  n : t.n = 5
  armed : t.armed = -1
  failing : t.failing = -1
theorem Calm.plus {t : St} (h : Calm t) (L : List Ac) : Calm (plus t L) := ⟨h.dead, h.n, h.armed, h.failing⟩
theorem Calm.ask {t : St} (h : Calm t) (l : Bool) : t.ask true l = (0, { t with ops := t.ops + 1 }) := by
  obtain ⟨hd, hn, ha, hf⟩ := h
  obtain ⟨n, firm, loose, dead, armed, failing, ops⟩ := t
  simp only at hd hn ha hf
  subst hd hn ha hf
  unfold St.ask
  cases l <;> simp [down]
theorem Calm.has {t : St} (h : Calm t) (i : Int) (hi : 0 ≤ i ∧ i < 5) : t.has i = true := by
  unfold St.has; rw [h.n]; exact decide_eq_true hi
theorem calm_new : Calm (St.new 5) := ⟨rfl, rfl, rfl, rfl⟩
/-- A write to a sector that is there. -/
def Wr (a : Ac) : Prop := a.kind = 1 ∧ 0 ≤ a.at_ ∧ a.at_ < 5
theorem Calm.act_write {t : St} (h : Calm t) (a : Ac) (ha : Wr a) : t.act a = (fil 0, 0, { t with ops := t.ops + 1, loose := t.loose ++ [lay a] }) := by
  have e : t.act a = (fil 0, t.write a.at_ (fil a.fill)) := by unfold St.act; rw [ha.1]; rfl
  rw [e]
  unfold St.write
  rw [h.has _ ha.2, h.ask]
  rfl
theorem plus_act {t : St} (h : Calm t) (L : List Ac) (a : Ac) (ha : Wr a) : (plus t L).act a = (fil 0, 0, plus t (L ++ [a])) := by
  rw [(h.plus L).act_write a ha, plus_snoc]
/-- What d's firm sectors hold the twin holds; d's loose writes are those of L. -/
structure Chs (d t : St) (L : List Ac) : Prop where
  cd : Calm d
  ct : Calm t
  firm : d.firm = app t.firm t.loose
  loose : d.loose = L.map lay
theorem chs_start : Chs (St.new 5) (St.new 5) [] := ⟨calm_new, calm_new, rfl, rfl⟩
theorem Chs.read {d t : St} {L : List Ac} (h : Chs d t L) (a : Ac) (hk : a.kind = 0) (hi : 0 ≤ a.at_ ∧ a.at_ < 5) : ∃ B d', d.act a = (B, 0, d') ∧ Chs d' t L ∧ d'.ops = d.ops + 1 := by
  have e : d.act a = d.read a.at_ := by unfold St.act; rw [hk]; rfl
  rw [e]
  unfold St.read
  rw [h.cd.has _ hi, h.cd.ask]
  exact ⟨_, _, rfl, ⟨⟨h.cd.1, h.cd.2, h.cd.3, h.cd.4⟩, h.ct, h.firm, h.loose⟩, rfl⟩
theorem Chs.write {d t : St} {L : List Ac} (h : Chs d t L) (a : Ac) (ha : Wr a) : ∃ d', d.act a = (fil 0, 0, d') ∧ Chs d' t (L ++ [a]) ∧ d'.ops = d.ops + 1 := by
  rw [h.cd.act_write a ha]
  exact ⟨_, rfl, ⟨⟨h.cd.1, h.cd.2, h.cd.3, h.cd.4⟩, h.ct, h.firm, by show d.loose ++ [lay a] = _; rw [h.loose, List.map_append]; rfl⟩, rfl⟩
theorem Chs.sync {d t : St} {L : List Ac} (h : Chs d t L) (a : Ac) (hk : a.kind = 2) : ∃ d', d.act a = (fil 0, 0, d') ∧ Chs d' (plus t L) [] ∧ d'.ops = d.ops + 1 := by
  have e : d.act a = (fil 0, d.sync) := by unfold St.act; rw [hk]; rfl
  rw [e]
  unfold St.sync
  rw [h.cd.ask]
  refine ⟨_, rfl, ⟨⟨h.cd.1, h.cd.2, h.cd.3, h.cd.4⟩, h.ct.plus L, ?_, rfl⟩, rfl⟩
  show app d.firm d.loose = app t.firm (t.loose ++ L.map lay)
  rw [app_append, ← h.firm, h.loose]
/-- Behind the crash both hold the same. -/
theorem Chs.crash {d t : St} {L : List Ac} (h : Chs d t L) (keep : List Bool) : (d.crash keep).loose = [] ∧ (d.crash keep).firm = app t.firm (plus t (kept L keep)).loose ∧ Calm (d.crash keep) := by
  refine ⟨rfl, ?_, ⟨rfl, h.cd.n, rfl, rfl⟩⟩
  show app d.firm (kept d.loose keep) = app t.firm (t.loose ++ (kept L keep).map lay)
  rw [app_append, ← h.firm, h.loose, kept_map]
end Go.Proofs.Ytpdpahkhfilmpaa
