/-
  A region whose one step that writes comes last: what holds ahead of it, and behind it. Rows of words. My own work.
-/
import Derived.Test.YtdolihecjomjiaaDoorShaB
namespace Go.Proofs.YtdolihecjomjiaaDoor
open Go.RowKit
/-- Ahead of step n there holds A; behind it B, and all is done. -/
def Sto (n : Nat) (A B : World → Prop) (l : Nat → Bool) (v : World) : Prop := (l n = false ∧ A v) ∨ (l n = true ∧ (∀ j, j < n → l j = true) ∧ B v)
theorem Sto.start {n : Nat} {A B : World → Prop} {v : World} (h : A v) : Sto n A B (fun _ => false) v := .inl ⟨rfl, h⟩
theorem Sto.now {n j : Nat} {A B : World → Prop} {l : Nat → Bool} {v : World} (h : Sto n A B l v) (hl : l j = false) (hj : j ≤ n) : l n = false ∧ A v := by
  rcases h with h | ⟨h1, h2, _⟩
  · exact h
  · exfalso
    rcases Nat.lt_or_ge j n with hlt | hge
    · rw [h2 j hlt] at hl; cases hl
    · obtain rfl : j = n := by omega
      rw [h1] at hl; cases hl
theorem Sto.keep {n j : Nat} {A B : World → Prop} {l : Nat → Bool} {v : World} (h : l n = false ∧ A v) (hj : j < n) {v' : World} (h' : A v') : Sto n A B (fun i => if i = j then true else l i) v' := by
  refine .inl ⟨?_, h'⟩
  show (if n = j then true else l n) = false
  rw [if_neg (by omega)]; exact h.1
theorem Sto.done {n : Nat} {A B : World → Prop} {l : Nat → Bool} (h : ∀ j, j < n → l j = true) {v' : World} (h' : B v') : Sto n A B (fun i => if i = n then true else l i) v' :=
  .inr ⟨by simp, fun j hj => by show (if j = n then true else l j) = true; rw [if_neg (by omega)]; exact h j hj, h'⟩
theorem Sto.fin {n m : Nat} {A B : World → Prop} {l : Nat → Bool} {v : World} (h : Sto n A B l v) (hl : ∀ j, j < m → l j = true) (hn : n < m) : B v := by
  rcases h with ⟨h, _⟩ | ⟨_, _, h⟩
  · rw [hl n hn] at h; cases h
  · exact h
def phaseB (o : Oper) (n : Nat) : Bool := (List.range n).all fun k => o.after.toList.any fun e => e.on == k && Region.binds .any e
theorem phase_all {o : Oper} {n : Nat} (h : phaseB o n = true) {l : Nat → Bool} (hdep : ∀ e ∈ o.after, Region.binds .any e = true → l e.on = true) : ∀ k, k < n → l k = true := by
  intro k hk
  have := List.all_eq_true.1 h k (List.mem_range.2 hk)
  obtain ⟨e, he, h2⟩ := List.any_eq_true.1 this
  rw [Bool.and_eq_true] at h2
  have := hdep e (by simpa using he) h2.2
  rwa [show e.on = k by simpa using h2.1] at this

/-! Rows of words. -/
theorem word_cell {v : World} {g : Nat} {t : TypeId} {L : List UInt32} (h : Holds v g t (L.map wd)) {i : Nat} (hi : i < L.length) : v.cell? ⟨g, 0 + i, none⟩ = some (wd (g0 L i)) := by
  rw [Nat.zero_add, h.cell i]
  simp [g0, hi]
theorem word_load {v : World} {g : Nat} {t : TypeId} {L : List UInt32} (h : Holds v g t (L.map wd)) {i : Nat} (hi : i < L.length) : (loadVar 67 ⟨g, 0 + i, none⟩).run Tryd.prog v = .ok (wd (g0 L i)) v :=
  run_load1 Tryd.underlying67 rfl (word_cell h hi)
theorem word_set {v : World} {g : Nat} {t : TypeId} {L : List UInt32} (h : Holds v g t (L.map wd)) (i : Nat) (y : UInt32) : Holds (v.setCell ⟨g, 0 + i, none⟩ (wd y)) g t ((L.set i y).map wd) := by
  have := h.set i (wd y)
  rw [Nat.zero_add, List.map_set]
  exact this
theorem g0_set (L : List UInt32) (i : Nat) (y : UInt32) (hi : i < L.length) : g0 (L.set i y) i = y := by simp [g0, hi]
theorem words_one (L : List UInt32) : ∀ v ∈ L.map wd, v.oneCell' = true := by
  intro v hv
  obtain ⟨x, _, rfl⟩ := List.mem_map.1 hv
  rfl
theorem info67 : (Tryd.prog.info? 67).map (·.size) = some 1 := by kernel_rfl
theorem it67 : ∃ it, Tryd.prog.info? 67 = some it ∧ it.size = 1 := by
  have h := info67
  cases hq : Tryd.prog.info? 67 with
  | none => rw [hq] at h; cases h
  | some it => exact ⟨it, rfl, by rw [hq] at h; simpa using h⟩
theorem exec_word {v : World} {o : Oper} {ρ : Operand → Value} {x y : Operand} {g i : Nat} {t : TypeId} {L : List UInt32} {z : UInt32} (ho : o.op = .store 67 x y) (hx : ρ x = .pointer (some ⟨g, 0 + i, none⟩)) (hy : ρ y = wd z) (h : Holds v g t (L.map wd)) (hi : i < L.length) :
    (execOp ρ o).run Tryd.prog v = .ok .skip (v.setCell ⟨g, 0 + i, none⟩ (wd z)) := by
  obtain ⟨it, h1, h2⟩ := it67
  exact exec_store1 ho hx hy rfl h1 h2 (word_cell h hi) (by rw [Nat.zero_add]; exact h.free i)
theorem and15 (n : Nat) (hn : n < 4294967296) : bits .and .i64 (n : Int) 15 = ((n % 16 : Nat) : Int) := by
  show IntKind.i64.wrap ((BitVec.ofInt 64 (n : Int) &&& BitVec.ofInt 64 ((15 : Nat) : Int)).toNat : Int) = _
  rw [ofInt_nat, ofInt_nat, BitVec.toNat_and, BitVec.toNat_ofNat, BitVec.toNat_ofNat, Nat.mod_eq_of_lt (by omega : n < 2 ^ 64)]
  rw [show (15 : Nat) % 2 ^ 64 = 2 ^ 4 - 1 from rfl, Nat.and_two_pow_sub_one_eq_mod]
  simp [IntKind.wrap, IntKind.bits, IntKind.signed]; omega
theorem sub_n (n k : Nat) (hk : k ≤ n) (hn : n < 4294967296) : IntKind.i64.wrap ((n : Int) - (k : Int)) = ((n - k : Nat) : Int) := by
  simp [IntKind.wrap, IntKind.bits, IntKind.signed]; omega
theorem Mod.drewed {ms : List Nat} {w v : World} (h : Mod ms w.drew v) : Mod ms w v := ⟨h.os, h.tape, h.output, h.size, h.block⟩
end Go.Proofs.YtdolihecjomjiaaDoor
