/-
  The statements' own helpers of layer 3: row; and bytes.HasPrefix. Contracts of mine.
-/
import Derived.Test.YtgojheoelcmcpaaDoorEqs
import Derived.Test.YtgojheoelcmcpaaDoorOctD
import Derived.Test.YtgojheoelcmcpaaDoorOld
namespace Go.Proofs.YtgojheoelcmcpaaDoor
open Go.RowKit
/-- Bytes in memory of the call's own, at most 700. -/
def Rowed (l : List UInt8) (w : World) (e : Ending) (w' : World) : Prop := ∃ A c, e = .returned (.slice A (l.take 700).length c) ∧ Owns w' w.heap.size 5 A c (l.take 700) ∧ Mod [] w w'
theorem min700 (n : Nat) : ((min n 700 : Nat) : Int) = min (n : Int) 700 := by omega
theorem own0 (w : World) : Owns (w.alloc (.cells #[] 5)) w.heap.size 5 (some ⟨w.heap.size, 0, none⟩) 0 [] :=
  ⟨rfl, .inr ⟨w.heap.size, 0, #[], rfl, Nat.le_refl _, heap_alloc_new w _, Nat.le_refl _, by unfold maxLen; omega, rfl, rfl⟩⟩
theorem row_c (A : Option Addr) (l : List UInt8) (c : Nat) (w : World) (hc : l.length ≤ c) (hcm : c ≤ maxLen) (h : Reads w A l) :
    Calls Tryd.prog 20 #[.slice A l.length c] w (Rowed l w) := by
  unfold maxLen at hcm
  have hr := h.first 700
  have hl7 : (l.take 700).length = min l.length 700 := by rw [List.length_take]; omega
  obtain ⟨i0, hi, hz0, hz1, hz2⟩ := info_parts u8_zero
  have hi0 := Lib.hid (And.intro hi (And.intro hz0 (And.intro hz1 hz2)))
  clear hi hz0 hz1 hz2
  have h700 : (l.take 700).length ≤ 700 := by omega
  by_cases h7 : l.length ≤ 700
  · have e7 : l.length = (l.take 700).length := by omega
    have hle : (l.length : Int) ≤ 700 := by omega
    have HE := Lib.hid e7
    clear e7 hl7
    go_enter Tryd.func20, Tryd.ntmps20
    go_wp2_with (with_reducible refine wpList_appends (o := ⟨some 9, _, _, _, _, _⟩) _ rfl (.tmp 3) (.tmp 8) 36 rfl 5 i0 (.int .u8 0) 1 Tryd.underlying36 hi0.out.1 hi0.out.2.1 hi0.out.2.2.1 hi0.out.2.2.2 rfl w.heap.size (by simp) (some ⟨w.heap.size, 0, none⟩) 0 0 [] rfl rfl (own0 w) A l.length c (l.take 700) rfl HE.out (hr.keep (Mod.alloc [] w _) (by simp)) (by rw [List.length_take]; simp; omega) (by rw [List.length_take]; unfold maxLen; simp; omega) ?_; intro A' c' v hO hm _)
    go_ret
    exact ⟨A', c', by first | (simp; done) | (simp; omega), by simpa using hO, (Mod.alloc [] w _).trans hm (by intro i hi h; simp [blk] at h; omega)⟩
  · have h7' : (700 : Int) < (l.length : Int) := by omega
    have e7 : 700 = (l.take 700).length := by omega
    have HE := Lib.hid e7
    clear e7 hl7 h7
    go_enter Tryd.func20, Tryd.ntmps20
    go_wp2_with (with_reducible refine wpList_appends (o := ⟨some 9, _, _, _, _, _⟩) _ rfl (.tmp 3) (.tmp 8) 36 rfl 5 i0 (.int .u8 0) 1 Tryd.underlying36 hi0.out.1 hi0.out.2.1 hi0.out.2.2.1 hi0.out.2.2.2 rfl w.heap.size (by simp) (some ⟨w.heap.size, 0, none⟩) 0 0 [] rfl rfl (own0 w) A 700 c (l.take 700) rfl HE.out (hr.keep (Mod.alloc [] w _) (by simp)) (by rw [List.length_take]; simp; omega) (by rw [List.length_take]; unfold maxLen; simp; omega) ?_; intro A' c' v hO hm _)
    go_ret
    exact ⟨A', c', by first | (simp; done) | (simp; omega), by simpa using hO, (Mod.alloc [] w _).trans hm (by intro i hi h; simp [blk] at h; omega)⟩
theorem prefix_c (A B : Option Addr) (l k : List UInt8) (c d : Nat) (w : World) (hk : k <+: l) (hc : l.length ≤ c) (h : Reads w A l) (h' : Reads w B k) :
    Calls Tryd.prog 32 #[.slice A l.length c, .slice B k.length d] w fun e w' => e = .returned (.bool true) ∧ w = w' := by
  have hle := hk.length_le
  have hle' : (k.length : Int) ≤ (l.length : Int) := by omega
  have e : l.take k.length = k := (List.prefix_iff_eq_take.1 hk).symm
  have X := beq_n A B (l.take k.length) k k.length k.length c d w (by rw [e]) rfl (h.first _) h'
  rw [e, decide_eq_true rfl] at X
  clear e hk h h'
  go_enter Tryd.func32, Tryd.ntmps32
  go_wp2_with fail
  refine X.mono ?_
  rintro e w1 ⟨rfl, rfl⟩
  go_wp2_with fail
  go_ret
  exact ⟨rfl, rfl⟩
theorem exec_mid {P : Program} {v : World} {o : Oper} {ρ : Operand → Value} {t e : TypeId} {x y z : Operand} {A : Option Addr} {n c k m : Nat} (hu : P.underlying t = some (.slice e)) (he : (P.info? e).map (·.size) = some 1) (hk : k ≤ m) (hm : m ≤ c) (ho : o.op = .slice t x (some y) (some z) none) (hx : ρ x = .slice A n c) (hy : ρ y = .int .i64 (k : Int)) (hz : ρ z = .int .i64 (m : Int)) :
    (execOp ρ o).run P v = .ok (.value (.slice (frm A k c) (m - k) (c - k))) v := by
  unfold execOp
  cases hq : P.info? e with
  | none => rw [hq] at he; cases he
  | some it =>
    have hs : it.size = 1 := by rw [hq] at he; simpa using he
    simp [ho, hx, hy, hz, Instr.sliceAt, Instr.slice, Instr.sliceBounds, Instr.sliceBound, Sem.run_bind, run_underlying hu, go_sem, sizeOf, typeInfo, hq, hs, hk, hm, frm]
theorem beh_front (c s : List UInt32) (x y : List UInt8) : ∀ k, k * 64 ≤ x.length → beh c s (x ++ y) k = beh c s x k
  | 0, _ => rfl
  | k + 1, h => by
    have ih := beh_front c s x y k (by omega)
    have e : ((x ++ y).drop (k * 64)).take 64 = (x.drop (k * 64)).take 64 := by
      rw [List.drop_append_of_le_length (by omega), List.take_append_of_le_length (by rw [List.length_drop]; omega)]
    rw [← beh_succ, ← beh_succ, ih, e]
theorem beh_append (c s : List UInt32) (x y : List UInt8) (i : Nat) (hx : x.length = i * 64) : ∀ j, beh c s (x ++ y) (i + j) = beh c (beh c s x i) y j
  | 0 => beh_front c s x y i (by omega)
  | j + 1 => by
    have ih := beh_append c s x y i hx j
    have e : (x ++ y).drop ((i + j) * 64) = y.drop (j * 64) := by
      rw [List.drop_append, List.drop_eq_nil_of_le (by rw [hx, Nat.add_mul]; omega), List.nil_append]
      congr 1
      rw [hx, Nat.add_mul]; omega
    rw [← Nat.add_assoc, ← beh_succ, ← beh_succ, ih, e]
theorem fill_split (bb : List UInt8) : fillN bb bb.length = bb.take (wholeN bb.length) ++ tailN bb := by
  unfold tailN fillN
  rw [← List.append_assoc, ← List.append_assoc, ← List.append_assoc, List.take_append_drop, List.length_drop]
  have e : fillM bb.length - bb.length - 9 = fillM (bb.length - wholeN bb.length) - (bb.length - wholeN bb.length) - 9 := by unfold fillM wholeN; omega
  rw [e]
theorem chains_eq (c s : List UInt32) (bb : List UInt8) : beh c s (fillN bb bb.length) (fillM bb.length / 64) = sum2 c s bb := by
  have h1 : (bb.take (wholeN bb.length)).length = bb.length / 64 * 64 := by rw [List.length_take]; unfold wholeN; omega
  have h2 : fillM bb.length / 64 = bb.length / 64 + (tailN bb).length / 64 := by
    unfold tailN
    rw [fillN_length, List.length_drop]
    unfold fillM wholeN; omega
  rw [fill_split, h2, beh_append c s _ _ _ h1]
  unfold sum2 sum1
  rw [h1]
  congr 2
  omega
end Go.Proofs.YtgojheoelcmcpaaDoor
