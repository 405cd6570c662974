/-
  Parts of rows, a row's array, copying, in a region that draws its order; the numbers behind blocks. My own work.
-/
import Derived.Test.YtdolihecjomjiaaDoorShaF
namespace Go.Proofs.YtdolihecjomjiaaDoor
open Go.RowKit
/-- Where what stands behind k bytes lies. -/
def frm (A : Option Addr) (k c : Nat) : Option Addr := if c = k then A else A.map (·.add k)
theorem Reads.from {w : World} {A : Option Addr} {l : List UInt8} (h : Reads w A l) (k c : Nat) (hc : l.length ≤ c) : Reads w (frm A k c) (l.drop k) := by
  intro i hi
  have hi' : k + i < l.length := by simp at hi; omega
  obtain ⟨g, o, rfl, hx⟩ := h (k + i) hi'
  unfold frm
  rw [if_neg (by omega)]
  refine ⟨g, o + k, by rw [Option.map_some, add_plain], ?_⟩
  rw [Nat.add_assoc, hx]
  simp
theorem Reads.first {w : World} {A : Option Addr} {l : List UInt8} (h : Reads w A l) (k : Nat) : Reads w A (l.take k) := by
  intro i hi
  have hi' : i < l.length := by simp at hi; omega
  obtain ⟨g, o, rfl, hx⟩ := h i hi'
  exact ⟨g, o, rfl, by rw [hx]; simp⟩
theorem Reads.cells {w : World} {A : Option Addr} {l : List UInt8} (h : Reads w A l) : Cells w A (l.map oct) := by
  intro i hi
  obtain ⟨g, o, hA, hx⟩ := h i (by simpa using hi)
  exact ⟨g, o, hA, by rw [hx]; simp⟩
section
variable {P : Program} {v : World} {o : Oper} {ρ : Operand → Value}
theorem exec_from {t e : TypeId} {x y : Operand} {A : Option Addr} {n c k : Nat} (hu : P.underlying t = some (.slice e)) (he : (P.info? e).map (·.size) = some 1) (hk : k ≤ n) (ho : o.op = .slice t x (some y) none none) (hx : ρ x = .slice A n c) (hy : ρ y = .int .i64 (k : Int)) :
    (execOp ρ o).run P v = .ok (.value (.slice (frm A k c) (n - k) (c - k))) v := by
  unfold execOp
  cases hq : P.info? e with
  | none => rw [hq] at he; cases he
  | some it =>
    have hs : it.size = 1 := by rw [hq] at he; simpa using he
    simp [ho, hx, hy, Instr.sliceAt, Instr.slice, Instr.sliceBounds, Instr.sliceBound, Sem.run_bind, run_underlying hu, go_sem, sizeOf, typeInfo, hq, hs, hk, frm]
theorem exec_upto {t e : TypeId} {x y : Operand} {A : Option Addr} {n c k : Nat} (hu : P.underlying t = some (.slice e)) (he : (P.info? e).map (·.size) = some 1) (hk : k ≤ c) (ho : o.op = .slice t x none (some y) none) (hx : ρ x = .slice A n c) (hy : ρ y = .int .i64 (k : Int)) :
    (execOp ρ o).run P v = .ok (.value (.slice A k c)) v := by
  unfold execOp
  have h0 : ∀ a : Addr, a.add 0 = a := fun _ => rfl
  have h1 : (if c = 0 then A else A.map (·.add 0)) = A := by
    split
    · rfl
    · cases A <;> simp [h0]
  cases hq : P.info? e with
  | none => rw [hq] at he; cases he
  | some it =>
    simp [ho, hx, hy, Instr.sliceAt, Instr.slice, Instr.sliceBounds, Instr.sliceBound, Sem.run_bind, run_underlying hu, go_sem, sizeOf, typeInfo, hq, hk, h0]
theorem exec_arr {t e : TypeId} {x : Operand} {A : Option Addr} {n m c : Nat} (hu : P.underlying t = some (.array m e)) (hm : m ≤ n) (ho : o.op = .sliceToArrayPointer t x) (hx : ρ x = .slice A n c) : (execOp ρ o).run P v = .ok (.value (.pointer A)) v := by
  unfold execOp
  simp [ho, hx, Instr.arrayAt, Sem.run_bind, run_underlying hu, go_sem, hm]
/-- A slice of an array, from its k-th element on. -/
theorem exec_cut {t e : TypeId} {x y : Operand} {g m k : Nat} (hu : P.underlying t = some (.array m e)) (he : (P.info? e).map (·.size) = some 1) (hk : k < m) (ho : o.op = .slice t x (some y) none none) (hx : ρ x = .pointer (some ⟨g, 0, none⟩)) (hy : ρ y = .int .i64 (k : Int)) :
    (execOp ρ o).run P v = .ok (.value (.slice (some ⟨g, k, none⟩) (m - k) (m - k))) v := by
  unfold execOp
  have h1 : ¬ m = k := by omega
  have h2 : k ≤ m := by omega
  cases hq : P.info? e with
  | none => rw [hq] at he; cases he
  | some it =>
    have hs : it.size = 1 := by rw [hq] at he; simpa using he
    simp [ho, hx, hy, Instr.sliceAt, Instr.sliceBounds, Instr.sliceBound, Sem.run_bind, run_underlying hu, go_sem, sizeOf, typeInfo, hq, hs, h1, h2, add_plain]
theorem exec_convi {t t' : TypeId} {x : Operand} {k : IntKind} {a : Int} (ho : o.op = .convert t t' x) (hx : ρ x = .int .i64 a) (h : (convert t t' (.int .i64 a)).run P v = .ok (.int k a) v) : (execOp ρ o).run P v = .ok (.value (.int k a)) v := by
  unfold execOp
  simp only [ho, hx, Sem.run_bind, h, Result.andThen, Sem.run_pure]
/-- Bytes are copied into a block that is known, from a place on. -/
theorem exec_copy {t s e : TypeId} {x y : Operand} {g f n c n' c' : Nat} {ad : Addr} {T : TypeId} {old : List Value} {l : List UInt8} (hu : P.underlying t = some (.slice e)) (he : (P.info? e).map (·.size) = some 1) (ho : o.op = .call { callee := .builtin .copy, args := #[x, y], argTypes := #[t, s] }) (hx : ρ x = .slice (some ⟨g, f, none⟩) n c) (hy : ρ y = .slice (some ad) n' c') (hh : Holds v g T old) (hn : l.length = n') (hn' : l.length ≤ n) (hr : Reads v (some ad) l) (hp : 0 < l.length) (hfit : f + l.length ≤ old.length) :
    ∃ v', (execOp ρ o).run P v = .ok (.value (.int .i64 (l.length : Int))) v' ∧ Holds v' g T (old.take f ++ (l.map oct ++ old.drop (f + l.length))) ∧ Mod [g] v v' := by
  obtain ⟨ad', e', hsrc⟩ := hr.src hp
  injection e' with e'
  subst e'
  have hrun := run_copy_row (P := P) v t s o.type e g f n c ad n' c' old.toArray T (l.map oct) hu he hh (by simp only [List.length_map]; rw [← hn]; exact (Nat.min_eq_left hn').symm) hsrc (by simpa using hfit) (octs_one l)
  refine ⟨v.setRow g (List.take f old.toArray.toList ++ List.map oct l ++ List.drop (f + (List.map oct l).length) old.toArray.toList).toArray, ?_, ?_, ?_⟩
  · unfold execOp
    simp [ho, resolve, invoke, builtin, hx, hy, hrun, Result.andThen, goInt]
  · have := setRow_heap v g old.toArray (List.take f old.toArray.toList ++ List.map oct l ++ List.drop (f + (List.map oct l).length) old.toArray.toList).toArray T (0, 0) hh
    simpa [Holds] using this
  · exact ⟨rfl, rfl, rfl, by simp [World.setRow], fun k _ hk => setRow_other v g k _ (by simpa using hk)⟩
end
/-- Eight numbers behind so many blocks of these bytes. -/
def beh (c h : List UInt32) (l : List UInt8) : Nat → List UInt32
  | 0 => h
  | k + 1 => blkN c (beh c h l k) (first16 ((l.drop (k * 64)).take 64))
theorem blkN_length (c h f : List UInt32) (hh : h.length = 8) : (blkN c h f).length = 8 := by
  unfold blkN
  rw [List.length_zipWith, steps_length _ _ hh, hh]; rfl
theorem beh_length (c h : List UInt32) (l : List UInt8) (hh : h.length = 8) (k : Nat) : (beh c h l k).length = 8 := by
  induction k with
  | zero => exact hh
  | succ k ih => exact blkN_length c _ _ ih
theorem beh_succ (c h : List UInt32) (l : List UInt8) (k : Nat) : blkN c (beh c h l k) (first16 ((l.drop (k * 64)).take 64)) = beh c h l (k + 1) := rfl
theorem block_beh (c h : List UInt32) (l : List UInt8) (k : Nat) (hc : c.length = 64) (hh : h.length = 8) (hk : k * 64 + 64 ≤ l.length) (w : World) (G : Cells w (some ⟨1, 0, none⟩) (c.map wd)) :
    Calls Tryd.prog 44 #[.agg ((beh c h l k).map wd).toArray, .agg (((l.drop (k * 64)).take 64).map oct).toArray] w fun e w' => e = .returned (.agg ((beh c h l (k + 1)).map wd).toArray) ∧ Mod [] w w' := by
  have := block_c c (beh c h l k) ((l.drop (k * 64)).take 64) hc (beh_length c h l hh k) (by simp; omega) w G
  rw [beh_succ] at this
  exact this
theorem mul_n (n k : Nat) (h : n * k ≤ 9223372036854775807) : IntKind.i64.wrap ((n : Int) * (k : Int)) = ((n * k : Nat) : Int) := by
  have : ((n * k : Nat) : Int) ≤ 9223372036854775807 := by omega
  have h0 : (0 : Int) ≤ ((n * k : Nat) : Int) := Int.natCast_nonneg _
  rw [← Int.natCast_mul]
  generalize ((n * k : Nat) : Int) = z at *
  simp [IntKind.wrap, IntKind.bits, IntKind.signed]; omega
end Go.Proofs.YtdolihecjomjiaaDoor
