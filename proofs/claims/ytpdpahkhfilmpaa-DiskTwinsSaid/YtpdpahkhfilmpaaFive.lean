/-
  What the five sectors of a disk hold, by a copy. Contracts of mine.
-/
import Derived.Test.YtpdpahkhfilmpaaEq
namespace Go.Proofs.Ytpdpahkhfilmpaa
open Go.RowKit

/-- Blocks behind one another. -/
def bs (L : List Blk) : List Value := L.flatMap bc
theorem bs_length (L : List Blk) : (bs L).length = L.length * 64 := flat_length bc 64 bc_length L
theorem bs_one (L : List Blk) : ∀ v ∈ bs L, v.oneCell' = true := fun v hv => by
  obtain ⟨b, _, hb⟩ := List.mem_flatMap.1 hv
  exact bc_one b v hb
theorem size61 : (Try.prog.info? 61).map (·.size) = some 320 := by kernel_rfl
theorem zero61 : ∀ w, (zeroValue 61).run Try.prog w = .ok (.agg (bs (List.replicate 5 (fil 0))).toArray) w := (zero_of_info (n := 320) (by kernel_rfl)).1
theorem bs_set : ∀ (L : List Blk) (k : Nat) (b : Blk), k < L.length → (bs L).take (k * 64) ++ bc b ++ (bs L).drop (k * 64 + 64) = bs (L.set k b)
  | [], k, b, h => by simp at h
  | x :: L, 0, b, _ => by
    have : (bc x).length = 64 := bc_length x
    simp [bs, this]
  | x :: L, k + 1, b, h => by
    have hx : (bc x).length = 64 := bc_length x
    have ih := bs_set L k b (by simpa using h)
    unfold bs at ih ⊢
    rw [List.set_cons_succ, List.flatMap_cons, List.flatMap_cons, ← ih]
    rw [List.take_append, List.drop_append, hx]
    rw [List.take_of_length_le (by rw [hx, Nat.add_mul]; omega), List.drop_eq_nil_of_le (by rw [hx, Nat.add_mul]; omega)]
    rw [show (k + 1) * 64 - 64 = k * 64 by rw [Nat.add_mul]; omega, show (k + 1) * 64 + 64 - 64 = k * 64 + 64 by rw [Nat.add_mul]; omega]
    simp
theorem bs_part (L : List Blk) (k : Nat) (h : k < L.length) : (bs L).toArray.extract (k * 64) (k * 64 + 64) = (bc L[k]).toArray := by
  apply Array.ext'
  rw [Array.toList_extract]
  apply List.ext_getElem?
  intro i
  simp only [List.extract_eq_take_drop, List.getElem?_take, List.getElem?_drop]
  by_cases hi : i < 64
  · rw [if_pos (by omega)]
    exact flat_at bc 64 bc_length L k i h hi
  · rw [if_neg (by omega), List.getElem?_eq_none (by simp [bc_length]; omega)]
/-- Five blocks are the same as themselves. -/
theorem part_bs (L : List Blk) (j : Nat) (hj : j < L.length) (v : World) : (part 39 (bs L).toArray (j * 64)).run Try.prog v = .ok (bv L[j]) v := by
  obtain ⟨i, hi⟩ := info_of 39 (by kernel_rfl)
  have hs : i.size = 64 := by have := size39; rw [hi] at this; simpa using this
  have hagg : (isAgg 39).run Try.prog v = .ok true v := by
    unfold isAgg
    rw [Sem.run_bind, run_underlying Try.underlying39 v]
    rfl
  have hp := bs_part L j hj
  generalize bs L = X at *
  unfold part
  simp only [Sem.run_bind, hagg, Result.andThen_ok, if_true, sizeOf, typeInfo, run_program, hi, Sem.run_pure, hs, hp]
  rfl
theorem eq_step (X : Array Value) (v : World) (d : Nat) (j : Nat) (is : List Nat) (b : Blk) (h1 : (part 39 X (j * 64)).run Try.prog v = .ok (bv b) v) (h3 : (Op.eqItems (d + 2) 39 64 X X is).run Try.prog v = .ok true v) (h2 : (Op.equalIn (d + 2) 39 (bv b) (bv b)).run Try.prog v = .ok true v) : (Op.eqItems (d + 2) 39 64 X X (j :: is)).run Try.prog v = .ok true v := by
  generalize d + 2 = D at *
  unfold Op.eqItems
  rw [Sem.run_bind, h1, Result.andThen_ok, Sem.run_bind, h1, Result.andThen_ok, Sem.run_bind, h2, Result.andThen_ok]
  exact h3
theorem eq_items (X : Array Value) (v : World) (d : Nat) (hp : ∀ j, j < 5 → ∃ b, (part 39 X (j * 64)).run Try.prog v = .ok (bv b) v) : ∀ is : List Nat, (∀ j ∈ is, j < 5) → (Op.eqItems (d + 2) 39 64 X X is).run Try.prog v = .ok true v
  | [], _ => rfl
  | j :: is, h => by
    obtain ⟨b, h1⟩ := hp j (h j (by simp))
    exact eq_step X v d j is b h1 (eq_items X v d hp is (fun k hk => h k (by simp [hk]))) (run_eq_blk b d v)
theorem run_eq_bs (L : List Blk) (hL : L.length = 5) (d : Nat) (v : World) : (Op.equalIn (d + 3) 61 (.agg (bs L).toArray) (.agg (bs L).toArray)).run Try.prog v = .ok true v := by
  obtain ⟨i, hi⟩ := info_of 39 (by kernel_rfl)
  have hc : Try.prog.cellsOf 39 = 64 := by kernel_rfl
  have hp : ∀ j, j < 5 → ∃ b, (part 39 (bs L).toArray (j * 64)).run Try.prog v = .ok (bv b) v := fun j hj => ⟨_, part_bs L j (by omega) v⟩
  generalize (bs L).toArray = X at *
  have e := run_equalIn_array (P := Try.prog) v (d + 2) X X Try.underlying61 hi
  rw [hc] at e
  exact e.trans (eq_items X v d hp _ (fun j hj => by simpa using hj))
theorem exec_eql61 {ρ : Operand → Value} {o : Oper} {x y : Operand} {L : List Blk} {v : World} (hL : L.length = 5) (ho : o.op = .binOp .eql 61 x y 61) (hx : ρ x = .agg (bs L).toArray) (hy : ρ y = .agg (bs L).toArray) : (execOp ρ o).run Try.prog v = .ok (.value (.bool true)) v := by
  have h := run_eq_bs L hL 9997 v
  have hg : Try.prog.eqGuardType Try.prog.depth 61 = false := by kernel_rfl
  have h' : (Op.equalIn 10000 61 (.agg (bs L).toArray) (.agg (bs L).toArray)).run Try.prog v = .ok true v := h
  clear h
  generalize bs L = X at *
  unfold execOp
  simp [ho, hx, hy, go_sem, run_eqGuard_agg, hg, run_eql_struct, h', Result.andThen]
/-- A disk that has power, neither armed nor set to fail, tells what its sectors hold. -/
def calm (S : St) (k : Nat) : St := { S with armed := -1, failing := -1, ops := S.ops + k }
theorem calm_read (S : St) (k : Nat) (hd : S.dead = false) (hn : S.n = 5) (hk : k < 5) : (calm S k).read (k : Int) = (S.holds k, 0, calm S (k + 1)) := by
  have h1 : (calm S k).has (k : Int) = true := by simp [St.has, calm, hn]; omega
  unfold St.read
  rw [h1]
  unfold St.ask
  simp [calm, hd, down, St.holds]
  omega
end Go.Proofs.Ytpdpahkhfilmpaa
