/-
  A round of Kids: what its steps need. My own work.
-/
import Derived.Test.YtapafniekmfkaaaDoorTs
namespace Go.Proofs.YtapafniekmfkaaaDoor
open Go.RowKit Go.Shelf
set_option linter.unusedVariables false
set_option linter.unusedSimpArgs false
theorem run_appendG {α : Type} {f : α → List Value} {size : Nat} {P : Program} (w : World) (t ty : TypeId)
    (e : TypeId) (i : TypeInfo) (z : Value) (bytes : Nat) (ht : P.underlying t = some (.slice e)) (hi : P.info? e = some i) (hz : i.zero = some z) (hsize : i.size = size) (hby : i.bytes = bytes) (hzs : z.cells.size = size) (hs0 : 0 < size)
    (hf : ∀ x, (f x).length = size) (h1 : ∀ x, ∀ v ∈ f x, v.oneCell' = true)
    (A : Option Addr) (c : Nat) (l : List α) (hown : OwnG f e size w A c l)
    (ad : Addr) (d : Nat) (k : List α) (hr : Cells w (some ad) (k.flatMap f))
    (h63 : (l.length + k.length) * bytes ≤ 140737488355328) (h64 : l.length + k.length ≤ maxLen) :
    ∃ A' c' w', (Builtin.append_ #[t, t] ty #[.slice A l.length c, .slice (some ad) k.length d]).run P w = .ok (.slice A' (l ++ k).length c') w' ∧ OwnG f e size w' A' c' (l ++ k) ∧ Mod (blk A) w w' ∧ (∀ a, A' = some a → a.block ∈ blk A ∨ w.heap.size ≤ a.block) := by
  have hkl := flat_length f size hf k
  have hcells : ∀ j u, (k.flatMap f)[j]? = some u → w.cell? (ad.add j) = some u := by
    intro j u hu
    rcases Nat.eq_zero_or_pos (k.flatMap f).length with h0 | h0
    · rw [List.eq_nil_of_length_eq_zero h0] at hu
      simp at hu
    · obtain ⟨ad', e', hh⟩ := hr.first h0
      injection e' with e'
      subst e'
      exact hh j u hu
  have hone : ∀ u ∈ k.flatMap f, u.oneCell' = true := fun u hu => by
    obtain ⟨x, _, hx⟩ := List.mem_flatMap.1 hu
    exact h1 x u hx
  obtain ⟨v', w', hrun, hown', hgr, _, hbl⟩ := run_append_own_at (P := P) w 0 t ty e i z size bytes ht hi hz hsize hby hzs hs0 _ _ _ hown ad k.length d (k.flatMap f) hkl hcells hone h64 h63 (Nat.zero_le _)
  have hv : ∃ A' c', v' = .slice A' (l ++ k).length c' := by
    rcases hown'.2 with ⟨hv, hn⟩ | ⟨g, cap, cur, hv, _⟩
    · exact ⟨none, 0, by rw [hv, List.length_append, hn]⟩
    · exact ⟨_, _, by rw [hv, List.length_append]⟩
  obtain ⟨A', c', rfl⟩ := hv
  have hO : OwnG f e size w' A' c' (l ++ k) := by
    have := hown'
    rw [← List.length_append, ← List.flatMap_append] at this
    exact this
  have hob : ∀ (A : Option Addr) n c, (Value.slice A n c).ownBlock = A.map (·.block) := by intro A n c; cases A <;> rfl
  rw [hob] at hgr
  rw [hob, hob] at hbl
  refine ⟨A', c', w', by rw [hrun], hO, ⟨hgr.os, hgr.tape, hgr.output, hgr.size, fun j hj hn => hgr.block j hj ?_⟩, ?_⟩
  · intro hh
    exact hn (by unfold blk; rw [← hh]; simp)
  · intro b hb
    subst hb
    rcases hbl with hh | hh
    · left; unfold blk; rw [← hh]; simp
    · right
      simp at hh
      omega
theorem exec_lit22 {v : World} {o : Oper} {ρ : Operand → Value} {x : Operand} {cs : List Value} (ho : o.op = .buildSlice 22 1 #[(0, x)]) (hx : ρ x = .agg cs.toArray) (h5 : cs.length = 5) :
    (execOp ρ o).run Tryd.prog v = .ok (.value (.slice (some ⟨v.heap.size, 0, none⟩) 1 1)) (v.alloc (.cells cs.toArray 24)) := by
  unfold execOp
  simp only [ho, List.map_toArray, List.map_cons, List.map_nil, hx, Sem.run_bind, run_lit21 h5, Result.andThen, Sem.run_pure]
theorem it22 : ∃ it, Tryd.prog.info? 22 = some it ∧ it.size = 1 := by
  have h := sz22
  cases hq : Tryd.prog.info? 22 with
  | none => rw [hq] at h; cases h
  | some it => exact ⟨it, rfl, by rw [hq] at h; simpa using h⟩
theorem Holds.at4 {v : World} {g : Nat} {k u n : Int} {s : ByteArray} {A : Option Addr} {d c : Nat} (h : Holds v g 24 (tmc k u n s A d c)) : v.cell? ⟨g, 4, none⟩ = some (.slice A d c) := h.cell 4
theorem append1 (v : World) (A0 : Option Addr) (c0 : Nat) (dn : List C5) (cs : C5) (y : Nat) (hown : OwnG c5v 24 5 v A0 c0 dn) (hy : Holds v y 24 (c5v cs)) (hl : dn.length ≤ 10) :
    ∃ A' c' v', (Builtin.append_ #[22, 22] 22 #[.slice A0 dn.length c0, .slice (some ⟨y, 0, none⟩) 1 1]).run Tryd.prog v = .ok (.slice A' (dn.length + 1) c') v' ∧ OwnG c5v 24 5 v' A' c' (dn ++ [cs]) ∧ Mod (blk A0) v v' ∧ (∀ a, A' = some a → a.block ∈ blk A0 ∨ v.heap.size ≤ a.block) := by
  obtain ⟨i, hi, hz, hsz, hb⟩ := info24
  obtain ⟨A', c', v', h1, h2, h3, h4⟩ := run_appendG (f := c5v) (size := 5) v 22 22 24 i _ 64 Tryd.underlying22 hi hz hsz hb rfl (by decide) c5_len c5_one A0 c0 dn hown ⟨y, 0, none⟩ 1 [cs] (by have := Cells.of_holds hy; simpa using this) (by simp; omega) (by simp; unfold maxLen; omega)
  exact ⟨A', c', v', by simpa using h1, h2, h3, h4⟩
end Go.Proofs.YtapafniekmfkaaaDoor
