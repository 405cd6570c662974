/-
  lay: the bytes of a term behind a row. My own work.
-/
import Derived.Test.YtchanildogjhgaaDoorTg
namespace Go.Proofs.YtchanildogjhgaaDoor
open Go.RowKit Go.Shelf
set_option linter.unusedVariables false
/-- A row that has grown since: its own, and nothing else was written. -/
structure Grow (w0 : World) (A0 : Option Addr) (w : World) (A : Option Addr) (c : Nat) (l : List UInt8) : Prop where
  own : Owns w 0 5 A c l
  mod : Mod (blk A0) w0 w
  fresh : ∀ a, A = some a → a.block ∈ blk A0 ∨ w0.heap.size ≤ a.block
theorem Grow.refl {w : World} {A : Option Addr} {c : Nat} {l : List UInt8} (h : Owns w 0 5 A c l) : Grow w A w A c l := ⟨h, Mod.refl _ _, fun a ha => .inl (by rw [ha]; exact blk_of)⟩
theorem Grow.then {w0 w v : World} {A0 A : Option Addr} {c : Nat} {l : List UInt8} (h : Grow w0 A0 w A c l) (m : Mod [] w v) : Grow w0 A0 v A c l := ⟨h.own.keep m (by simp), h.mod.then m, h.fresh⟩
theorem Grow.trans {w0 w v : World} {A0 A A' : Option Addr} {c c' : Nat} {l l' : List UInt8} (h : Grow w0 A0 w A c l) (k : Grow w A v A' c' l') : Grow w0 A0 v A' c' l' := by
  refine ⟨k.own, h.mod.trans k.mod fun i hi hm => ?_, fun a ha => ?_⟩
  · obtain ⟨a, ha, rfl⟩ := mem_blk hm
    rcases h.fresh a ha with h1 | h1
    · exact h1
    · omega
  · rcases k.fresh a ha with h1 | h1
    · obtain ⟨b, hb, e⟩ := mem_blk h1
      rw [← e]
      exact h.fresh b hb
    · exact .inr (Nat.le_trans h.mod.size h1)
theorem Grow.out {w0 w : World} {A0 A : Option Addr} {c : Nat} {l : List UInt8} (h : Grow w0 A0 w A c l) {S : Nat → Prop} (hS : ∀ g, S g → g < w0.heap.size ∧ g ∉ blk A0) : ∀ g, S g → g < w.heap.size ∧ g ∉ blk A := fun g hg => by
  obtain ⟨h1, h2⟩ := hS g hg
  refine ⟨Nat.lt_of_lt_of_le h1 h.mod.size, fun hm => ?_⟩
  obtain ⟨a, ha, rfl⟩ := mem_blk hm
  rcases h.fresh a ha with h3 | h3
  · exact h2 h3
  · omega
theorem Grow.glob {w0 w : World} {A0 A : Option Addr} {c : Nat} {l : List UInt8} (h : Grow w0 A0 w A c l) (G : Glob w0) (h0 : 0 ∉ blk A0) : Glob w ∧ 0 ∉ blk A := by
  have hlt : 0 < w0.heap.size := by
    have h1 := G.at 0 (by decide)
    rcases Nat.eq_zero_or_pos w0.heap.size with e | e
    · simp [World.cell?, Array.getElem?_eq_none (show w0.heap.size ≤ 0 by omega)] at h1
    · exact e
  refine ⟨G.mod h.mod h0, fun hm => ?_⟩
  obtain ⟨a, ha, e⟩ := mem_blk hm
  rcases h.fresh a ha with h3 | h3
  · rw [e] at h3; exact h0 h3
  · omega
theorem exec_c8 {v : World} {o : Oper} {ρ : Operand → Value} {x : Operand} {a : Int} (h0 : 0 ≤ a) (h1 : a < 256) (ho : o.op = .convert 3 5 x) (hx : ρ x = .int .i64 a) : (execOp ρ o).run Tryd.prog v = .ok (.value (oct (Tm.b8 a))) v := by
  have e : ((Tm.b8 a).toNat : Int) = a := Tm.b8_toNat h0 h1
  unfold execOp oct
  rw [e]
  have hw : IntKind.u8.wrap a = a := by simp [IntKind.wrap, IntKind.signed, IntKind.bits]; omega
  simp [ho, hx, go_sem, convert, run_underlying Tryd.underlying3, run_underlying Tryd.underlying5, hw]
theorem exec_c16 {v : World} {o : Oper} {ρ : Operand → Value} {x : Operand} {a : Int} (h0 : 0 ≤ a) (h1 : a < 65536) (ho : o.op = .convert 3 127 x) (hx : ρ x = .int .i64 a) : (execOp ρ o).run Tryd.prog v = .ok (.value (.int .u16 (a.toNat : Int))) v := by
  have e : (a.toNat : Int) = a := by omega
  unfold execOp
  rw [e]
  have hw : IntKind.u16.wrap a = a := by simp [IntKind.wrap, IntKind.signed, IntKind.bits]; omega
  simp [ho, hx, go_sem, convert, run_underlying Tryd.underlying3, run_underlying Tryd.underlying127, hw]
theorem run_lit27 (b : UInt8) (w : World) : (Instr.buildSlice 62 1 #[(0, oct b)]).run Tryd.prog w = .ok (.slice (some ⟨w.heap.size, 0, none⟩) 1 1) (w.alloc (.cells [oct b].toArray 5)) := by
  obtain ⟨i, hi, hz, hs, hb⟩ := info5
  exact run_lit1 (Z := .int .u8 0) (s := 1) w Tryd.underlying62 hi hs (by decide) (by decide) (fun w => by unfold zeroValue; simp [Sem.run_bind, typeInfo, hi, hz]) rfl rfl
theorem hi2 {n : Int} (h0 : 0 ≤ n) (h1 : n ≤ 65535) : hi n.toNat 2 = [Tm.b8 (n / 256), Tm.b8 (n % 256)] := by
  have e1 : (n / 256).toNat = n.toNat / 256 := by omega
  have e2 : (n % 256).toNat = n.toNat % 256 := by omega
  unfold hi Tm.b8
  simp only [List.range_succ, List.range_zero, List.nil_append, List.map_cons, List.map_nil, List.cons_append, e1, e2]
  simp only [Nat.reduceSub, Nat.pow_one, Nat.pow_zero, Nat.div_one, List.cons.injEq, and_true, true_and]
  rw [← UInt8.toNat_inj]
  simp
theorem put16n_c (n : Int) (w : World) (h0 : 0 ≤ n) (h1 : n ≤ 65535) :
    Calls Tryd.prog 95 #[.slice none 0 0, .int .u16 n] w fun e w' => e = .returned (.slice (some ⟨w.heap.size, 0, none⟩) 2 2) ∧ Holds w' w.heap.size 5 ([Tm.b8 (n / 256), Tm.b8 (n % 256)].map oct) ∧ Mod [] w w' := by
  have h := put16_c none [] 0 n.toNat w (by simp) (Reads.nil _ _) (by omega)
  rw [List.nil_append, hi2 h0 h1, show (n.toNat : Int) = n by omega] at h
  exact h
/-- What lay makes of a row. -/
def LayP (w : World) (A : Option Addr) (L : List UInt8) (e : Ending) (w' : World) : Prop := ∃ A' c', e = .returned (.slice A' L.length c') ∧ Grow w A w' A' c' L
def LayAll (m : Nat) : Prop := ∀ (t : Tm) (cs : List Value) (S : Nat → Prop) (A : Option Addr) (c : Nat) (l0 : List UInt8) (w : World), t.depth ≤ m → t.ok = true → TIs w S t cs → (∀ g, S g → g < w.heap.size ∧ g ∉ blk A) → Glob w → 0 ∉ blk A → Owns w 0 5 A c l0 → l0.length + t.bytes.length ≤ 1000000000 →
  Calls Tryd.prog 75 #[.slice A l0.length c, .agg cs.toArray] w (LayP w A (l0 ++ t.bytes))
theorem len_ok {l k : List UInt8} (h : l.length + k.length ≤ 2000000000) : (l.length + k.length) * 1 ≤ 140737488355328 ∧ l.length + k.length ≤ maxLen := ⟨by omega, by unfold maxLen; omega⟩
theorem wpList_appendS {w : World} {ops : Array Oper} {rest : List Oper} {o : Oper} {a : Act} {Q : Exit → Act → World → Prop} (hgd : o.guard = none) (s x : Operand) (ho : o.op = .call { callee := .builtin .append, args := #[s, x], argTypes := #[62, 9] })
    (A : Option Addr) (n c : Nat) (l : List UInt8) (hs : a.eval s = .slice A n c) (hn : n = l.length) (hown : Owns w 0 5 A c l) (S : ByteArray) (hx : a.eval x = .string S) (hl : l.length + S.size ≤ 140737488355328)
    (h : ∀ A' c' v, Owns v 0 5 A' c' (l ++ S.data.toList) → Mod (blk A) w v → (∀ a, A' = some a → a.block ∈ blk A ∨ w.heap.size ≤ a.block) → wpList Tryd.prog ops Q rest (a.put o.dst (.slice A' (l ++ S.data.toList).length c')) v) : wpList Tryd.prog ops Q (o :: rest) a w := by
  subst hn
  obtain ⟨A', c', v, hr, h1, h2, h3⟩ := appendS w o.type A c l hown S hl
  refine wpList_plain hgd fun K hK => ?_
  unfold Oper.wp execOp
  simp only [ho, resolve, invoke, builtin, Sem.run_bind, Sem.run_pure, Result.andThen_ok, List.map_toArray, List.map_cons, List.map_nil, hs, hx, hr]
  exact hK _ _ (h A' c' v h1 h2 h3)
theorem Reads.one {w : World} {g : Nat} {b : UInt8} (h : Holds w g 5 [oct b]) : Reads w (some ⟨g, 0, none⟩) [b] := Reads.of_holds (l := [b]) h
end Go.Proofs.YtchanildogjhgaaDoor
