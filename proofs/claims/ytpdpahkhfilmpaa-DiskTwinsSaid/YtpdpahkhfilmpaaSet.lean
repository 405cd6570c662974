/-
  What DiskSettles leans on: rows of rows of bools that came in; append run; quiet disks. Words of mine.
-/
import Derived.Test.YtpdpahkhfilmpaaSiz
import Derived.Test.YtpdpahkhfilmpaaCho
namespace Go.Proofs.Ytpdpahkhfilmpaa
open Go.ChangeShapes Go.WideShapes Go.ChangeAt Go.RowKit
open Rg
def Rowsb (W : World) (A : Option Addr) (n : Nat) : Prop :=
  ∀ i, i < n → ∃ g o K c l, A = some ⟨g, o, none⟩ ∧ W.cell? ⟨g, o + i, none⟩ = some (.slice K l.length c) ∧ Bools W K l ∧ l.length ≤ 140737488355328
theorem mem_all {H : Type} {P : Program} {e : TypeId} {n : Nat} {d : DataW H} : ∀ {l : List (DataW H)}, d ∈ l → n ∈ d.weights P e → n ∈ DataW.weightsAll P e l
  | [], h, _ => by cases h
  | x :: l, h, hn => by
    rw [DataW.weightsAll]
    rcases List.mem_cons.1 h with rfl | h
    · exact List.mem_append_left _ hn
    · exact List.mem_append_right _ (mem_all h hn)
theorem rows_in {H : Type} {enc : TypeId × Value → H} {W : World} {fuel : Nat} {x : DataW H × List MemPlace} {cs : List Value} (h : DataW.trod enc Try.prog W 0 (fun _ => true) true fuel 64 cs = some x) (hw : ∀ n ∈ x.1.weights Try.prog 64, n ≤ reachBytes) :
    ∃ A n c, cs = [.slice A n c] ∧ n ≤ c ∧ c ≤ maxLen ∧ Rowsb W A n := by
  have h1 : Try.prog.cellsOf 47 = 1 := by kernel_rfl
  rcases Deep.open_slice Try.underlying64 h with ⟨rfl, _⟩ | ⟨a, len, cap, m, n, D, Pl, rfl, _, hl, hm, hmm, hX, hx⟩
  · exact ⟨none, 0, 0, rfl, Nat.le_refl _, by simp, fun i h => by omega⟩
  · simp only [if_true] at hmm
    refine ⟨some a, _, _, rfl, hl, hmm ▸ hm, fun i hi => ?_⟩
    have key : ∀ i, i < len → ∃ A n c l, W.cell? (a.add i) = some (.slice A n c) ∧ n = l.length ∧ Bools W A l ∧ Weighs (D i) n := fun i hi => by
      obtain ⟨cs', c1, c2⟩ := hx i (by omega)
      obtain ⟨A, n, c, l, e1, e2, _, _, e3, e4⟩ := bools_sized c2
      rw [h1, Nat.mul_one] at c1
      obtain ⟨_, hlen, hcell⟩ := World.cells?_some c1
      have q := hcell 0 (by omega)
      subst e1
      exact ⟨A, n, c, l, by simpa [Addr.add] using q, e2, e3, e4⟩
    obtain ⟨A, n', c, l, q1, q2, q3, q4⟩ := key i hi
    obtain ⟨b, o, s⟩ := a
    have hs : s = none := by
      obtain ⟨A0, n0, c0, l0, r1, _⟩ := key 0 (by omega)
      simpa [Addr.add] using World.cell?_spot r1
    subst hs
    rw [add_plain] at q1
    subst q2
    refine ⟨b, o, A, c, l, rfl, q1, q3, ?_⟩
    rcases q4 with h0 | ⟨elems, spare, hd, hle⟩
    · omega
    · have hb : Try.prog.bytesOf 4 = 1 := by kernel_rfl
      have hmem : (elems.length + spare.length) * Try.prog.bytesOf 4 ∈ x.1.weights Try.prog 64 := by
        rw [hX]
        simp only [DataW.weights, Try.underlying64]
        refine List.mem_cons_of_mem _ (List.mem_append_left _ (mem_all (d := D i) (List.mem_map.2 ⟨i, List.mem_range.2 hi, rfl⟩) ?_))
        rw [hd]
        simp [DataW.weights, Try.underlying47]
      have := hw _ hmem
      rw [hb] at this
      have := reachBytes_lt
      omega
theorem Far.did {w v v' : World} {g m c c1 : Nat} {A A1 : Option Addr} {S S1 : St} (h : Far w v g m A c S) (D : DAt v' g m A1 c1 S1) (k : Did v v' g m A A1) : Far w v' g m A1 c1 S1 := by
  have hfp : ∀ i ∈ g :: m :: blk A, w.heap.size ≤ i := fun i hi => by
    simp only [List.mem_cons] at hi
    rcases hi with rfl | rfl | hi
    · exact h.g
    · exact h.m
    · obtain ⟨a, ha, rfl⟩ := mem_blk hi
      exact h.A a ha
  refine ⟨D, far_mod h.mm k.mod hfp, h.g, h.m, fun a ha => ?_⟩
  rcases k.new a ha with h1 | h1
  · obtain ⟨a2, ha2, e2⟩ := mem_blk h1
    rw [← e2]
    exact h.A a2 ha2
  · have := h.mm.size; omega
theorem calm_act {S : St} (h : Calm S) (a : Ac) (hk : a.kind < 3) : Calm (S.act a).2.2 := by
  have hn := ask_not S h.dead
  have ha := h.ask
  obtain hk0 | hk0 | hk0 : a.kind = 0 ∨ a.kind = 1 ∨ a.kind = 2 := by omega
  · have e : S.act a = S.read a.at_ := by unfold St.act; rw [hk0]; rfl
    rw [e]; unfold St.read
    cases S.has a.at_
    · rw [hn]; exact h
    · rw [ha]; exact ⟨h.1, h.2, h.3, h.4⟩
  · have e : S.act a = (fil 0, S.write a.at_ (fil a.fill)) := by unfold St.act; rw [hk0]; rfl
    rw [e]; unfold St.write
    cases S.has a.at_
    · rw [hn]; exact h
    · rw [ha]; exact ⟨h.1, h.2, h.3, h.4⟩
  · have e : S.act a = (fil 0, S.sync) := by unfold St.act; rw [hk0]; rfl
    rw [e]; unfold St.sync
    rw [ha]; exact ⟨h.1, h.2, h.3, h.4⟩
theorem calm_sync {S : St} (h : Calm S) : ∃ S1, S.sync = (0, S1) ∧ Calm S1 ∧ S1.loose = [] ∧ S1.ops = S.ops + 1 := by
  unfold St.sync
  rw [h.ask]
  exact ⟨_, rfl, ⟨h.1, h.2, h.3, h.4⟩, rfl, rfl⟩
/-- A disk that has power, nothing loose, and these sectors. -/
structure Still (f : Int → Blk) (S : St) : Prop where
  calm : Calm S
  loose : S.loose = []
  firm : S.firm = f
theorem Still.told {f : Int → Blk} {S S' : St} (h : Still f S) (h' : Still f S') : told S 5 = told S' 5 := by
  unfold Go.Proofs.Ytpdpahkhfilmpaa.told St.holds
  rw [h.loose, h.firm, h'.loose, h'.firm]
theorem Still.crash {f : Int → Blk} {S : St} (h : Still f S) (n : Int) (keep : List Bool) : ∃ S1, S.arm n = (0, S1) ∧ Still f (S1.crash keep) ∧ (S1.crash keep).ops = S.ops ∧ S1.loose = [] := by
  unfold St.arm
  rw [if_neg (by rw [h.calm.dead]; decide)]
  refine ⟨_, rfl, ⟨⟨rfl, h.calm.n, rfl, rfl⟩, rfl, ?_⟩, rfl, h.loose⟩
  show app S.firm (kept S.loose keep) = f
  rw [h.loose, h.firm]
  rfl
theorem Still.read {f : Int → Blk} {S : St} (h : Still f S) (i : Int) (hi : 0 ≤ i ∧ i < 5) : ∃ B S1, S.read i = (B, 0, S1) ∧ Still f S1 ∧ S1.ops = S.ops + 1 := by
  unfold St.read
  rw [h.calm.has i hi, h.calm.ask]
  exact ⟨_, _, rfl, ⟨⟨h.calm.1, h.calm.2, h.calm.3, h.calm.4⟩, h.loose, h.firm⟩, rfl⟩
theorem exec_neq61 {ρ : Operand → Value} {o : Oper} {x y : Operand} {L : List Blk} {v : World} (hL : L.length = 5) (ho : o.op = .binOp .neq 61 x y 61) (hx : ρ x = .agg (bs L).toArray) (hy : ρ y = .agg (bs L).toArray) : (execOp ρ o).run Try.prog v = .ok (.value (.bool false)) v := by
  have h := run_eq_bs L hL 9997 v
  have hg : Try.prog.eqGuardType Try.prog.depth 61 = false := by kernel_rfl
  have h' : (Op.equalIn 10000 61 (.agg (bs L).toArray) (.agg (bs L).toArray)).run Try.prog v = .ok true v := h
  clear h
  generalize bs L = X at *
  unfold execOp
  simp [ho, hx, hy, go_sem, run_eqGuard_agg, hg, run_neq_struct, h', Result.andThen]
theorem run_appendB (v : World) (ty : TypeId) (A : Option Addr) (c : Nat) (hown : OwnG (fun b : Bool => [Value.bool b]) 4 1 v A c []) (X : Option Addr) (d : Nat) (k : List Bool) (hr : Bools v X k) (hk : k.length ≤ 140737488355328) :
    ∃ A' c' v', (Builtin.append_ #[47, 47] ty #[.slice A 0 c, .slice X k.length d]).run Try.prog v = .ok (.slice A' k.length c') v' ∧ Bools v' A' k ∧ Mod (blk A) v v' := by
  obtain ⟨i4, k1, k2, k3, k4⟩ := info4
  rcases X with _ | ad
  · have hk0 : k = [] := by
      rcases k with _ | ⟨x, k⟩
      · rfl
      · obtain ⟨g, o, hh, _⟩ := hr 0 (by simp)
        cases hh
    subst hk0
    have hrun := run_append_noneG (P := Try.prog) v 47 ty 4 i4 Try.underlying47 k1 hown d
    exact ⟨A, c, v, hrun, Cells.nil _ _, Mod.refl _ _⟩
  · have hcells : ∀ j u, (k.flatMap (fun b => [Value.bool b]))[j]? = some u → v.cell? (ad.add j) = some u := by
      rw [flat_bool]
      intro j u hu
      rcases Nat.eq_zero_or_pos (k.map Value.bool).length with h0 | h0
      · rw [List.eq_nil_of_length_eq_zero h0] at hu
        simp at hu
      · obtain ⟨ad', e', hh⟩ := Cells.first hr h0
        injection e' with e'
        subst e'
        exact hh j u hu
    have hone : ∀ u ∈ k.flatMap (fun b => [Value.bool b]), u.oneCell' = true := fun u hu => by
      obtain ⟨x, _, hx⟩ := List.mem_flatMap.1 hu
      exact bool_one x u hx
    have hkl := flat_length (fun b : Bool => [Value.bool b]) 1 (fun _ => rfl) k
    obtain ⟨v', w', hrun, hown', hgr, _, hbl⟩ := run_append_own_at (P := Try.prog) v 0 47 ty 4 i4 (.bool false) 1 1 Try.underlying47 k1 k2 k3 k4 rfl (by decide) _ _ _ hown ad k.length d (k.flatMap (fun b => [Value.bool b])) hkl hcells hone (by simp; unfold maxLen; omega) (by simp; omega) (Nat.zero_le _)
    have hv : ∃ A' c', v' = .slice A' k.length c' := by
      rcases hown'.2 with ⟨hv, hn⟩ | ⟨g, cap, cur, hv, _⟩
      · exact ⟨none, 0, by rw [hv]; simp at hn; simp [hn]⟩
      · exact ⟨_, _, by rw [hv, List.length_nil, Nat.zero_add]⟩
    obtain ⟨A', c', rfl⟩ := hv
    have hO : OwnG (fun b : Bool => [Value.bool b]) 4 1 w' A' c' k := by
      have := hown'
      simpa [OwnG] using this
    have hob : ∀ (A : Option Addr) n c, (Value.slice A n c).ownBlock = A.map (·.block) := by intro A n c; cases A <;> rfl
    rw [hob] at hgr
    refine ⟨A', c', w', hrun, ?_, ⟨hgr.os, hgr.tape, hgr.output, hgr.size, fun j hj hn => hgr.block j hj ?_⟩⟩
    · have := hO.cells; rwa [flat_bool] at this
    · intro hh
      exact hn (by unfold blk; rw [← hh]; simp)
end Go.Proofs.Ytpdpahkhfilmpaa
