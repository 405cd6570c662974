/-
  What RegressBack and RegressSecrets stand on. My own work.
-/
import Derived.Test.YtchanildogjhgaaDoorRe
namespace Go.Proofs.YtchanildogjhgaaDoor
open Go.RowKit Go.Shelf
set_option linter.unusedVariables false
set_option linter.unusedSimpArgs false
theorem iter_add (f : Tm → Tm) (t : Tm) (m : Nat) : ∀ n, iter f n (iter f m t) = iter f (m + n) t
  | 0 => rfl
  | n + 1 => by rw [iter, iter_add f t m n, ← Nat.add_assoc, iter]
theorem stA_count (t : Tm) : (stA t).count = t.count + 3 := by
  simp [stA, hdT, Tm.count, Tm.countAll]
  omega
theorem iter_count (t : Tm) : ∀ n, (iter stA n t).count = t.count + 3 * n
  | 0 => rfl
  | n + 1 => by rw [iter, stA_count, iter_count t n]; omega
theorem back_two {t : Tm} (hr : t.right = true) {A B : Int} (h1 : 1 ≤ B) (h2 : B ≤ A) (h3 : A ≤ 8) : ∃ X Y : Tm,
    (X.right = true → backT t 8 A = X ∧ backE t 8 A = 0) ∧ (X.right = false → backT t 8 A = nilT ∧ backE t 8 A = 150) ∧ (Y.right = true → backT t 8 B = Y ∧ backE t 8 B = 0) ∧ (Y.right = false → backT t 8 B = nilT ∧ backE t 8 B = 150) ∧
    (X.right = true → Y.right = true → backT X A B = Y ∧ backE X A B = 0) ∧ Tm.same X Y = (A == B) := by
  obtain ⟨n, hn⟩ : ∃ n : Nat, (n : Int) = 8 - A := ⟨(8 - A).toNat, by omega⟩
  obtain ⟨k, hk⟩ : ∃ n : Nat, (n : Int) = A - B := ⟨(A - B).toNat, by omega⟩
  have iA : inE A = true := by simp [inE]; omega
  have iB : inE B = true := by simp [inE]; omega
  obtain ⟨a1, a2⟩ := back_in (f := 8) (to := A) (n := n) ⟨rfl, iA, h3⟩ hr hn
  obtain ⟨b1, b2⟩ := back_in (f := 8) (to := B) (n := n + k) ⟨rfl, iB, by omega⟩ hr (by omega)
  refine ⟨iter stA n t, iter stA (n + k) t, fun h => ⟨by rw [a1, orNil, if_pos h], by rw [a2, chk, if_pos h]⟩, fun h => ⟨by rw [a1, orNil, h]; rfl, by rw [a2, chk, h]; rfl⟩, fun h => ⟨by rw [b1, orNil, if_pos h], by rw [b2, chk, if_pos h]⟩, fun h => ⟨by rw [b1, orNil, h]; rfl, by rw [b2, chk, h]; rfl⟩, fun h h' => ?_, ?_⟩
  · obtain ⟨c1, c2⟩ := back_in (f := A) (to := B) (n := k) ⟨iA, iB, h2⟩ h hk
    rw [iter_add] at c1 c2
    exact ⟨by rw [c1, orNil, if_pos h'], by rw [c2, chk, if_pos h']⟩
  · by_cases e : A = B
    · have : k = 0 := by omega
      subst this
      subst e
      simp [same_rfl]
    · rw [show (A == B) = false by simpa using e]
      cases hs : Tm.same (iter stA n t) (iter stA (n + k) t) with
      | false => rfl
      | true =>
        have h1 := iter_count t n
        have h2 := iter_count t (n + k)
        rw [← (Tm.same_iff _ _).1 hs] at h2
        omega
theorem exec_rem8 {v : World} {o : Oper} {ρ : Operand → Value} {x y : Operand} {a b : Int} (h0 : 0 ≤ a) (hb : a % 8 = b) (ho : o.op = .binOp .rem 3 x y 3) (hx : ρ x = .int .i64 a) (hy : ρ y = .int .i64 8) : (execOp ρ o).run Tryd.prog v = .ok (.value (.int .i64 b)) v := by
  subst hb
  unfold execOp
  simp [ho, hx, hy, go_sem]
  rw [Int.tmod_eq_emod_of_nonneg h0]
theorem exec_inc {v : World} {o : Oper} {ρ : Operand → Value} {x y : Operand} {a b : Int} (h0 : 0 ≤ a) (h1 : a < 8) (hb : a + 1 = b) (ho : o.op = .binOp .add 3 x y 3) (hx : ρ x = .int .i64 a) (hy : ρ y = .int .i64 1) : (execOp ρ o).run Tryd.prog v = .ok (.value (.int .i64 b)) v := by
  subst hb
  unfold execOp
  simp [ho, hx, hy, go_sem, IntKind.wrap]
  omega
end Go.Proofs.YtchanildogjhgaaDoor
