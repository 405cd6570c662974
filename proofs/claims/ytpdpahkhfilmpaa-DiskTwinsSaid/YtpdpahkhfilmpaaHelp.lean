/-
  The statements' own helpers: kind, asks, there, few, blank, act. Contracts of mine.
-/
import Derived.Test.YtpdpahkhfilmpaaEq
import Derived.Test.YtpdpahkhfilmpaaCall
import Derived.Test.YtpdpahkhfilmpaaArgs
namespace Go.Proofs.Ytpdpahkhfilmpaa
open Go.RowKit

/-- An act's value, of its five cells. -/
def dv (kd : Int) (a : Ac) (K : Option Addr) (c : Nat) : List Value := [.int .i64 kd, .int .i64 a.at_, .int .i64 a.n, oct a.fill, .slice K a.keep.length c]
theorem dv_one (kd : Int) (a : Ac) (K : Option Addr) (c : Nat) : ∀ v ∈ dv kd a K c, v.oneCell' = true := by
  intro v hv
  simp only [dv, List.mem_cons, List.not_mem_nil, or_false] at hv
  rcases hv with rfl | rfl | rfl | rfl | rfl <;> rfl
theorem dv_length (kd : Int) (a : Ac) (K : Option Addr) (c : Nat) : (dv kd a K c).length = 5 := rfl
theorem size49 : (Try.prog.info? 49).map (·.size) = some 5 := by kernel_rfl
theorem u64_nonneg (x : Int) : 0 ≤ IntKind.u64.wrap x := by
  show 0 ≤ x % 2 ^ 64
  exact Int.emod_nonneg _ (by decide)
theorem kind_c (kd : Int) (a : Ac) (K : Option Addr) (c : Nat) (w : World) (hk : a.kind = ((IntKind.u64.wrap kd) % 7).toNat) : Calls Try.prog 34 #[.agg (dv kd a K c).toArray] w fun e w' => e = .returned (.int .i64 (a.kind : Int)) ∧ Mod [] w w' := by
  go_enter Try.func34, Try.ntmps34
  go_wp2_with (with_reducible refine wpList_boxes (o := ⟨some 1, .box 49 (.tmp 0), _, _, _, _⟩) rfl 49 (.tmp 0) rfl _ rfl (dv kd a K c) rfl ?_; intro w1 hb1 m1 z1; have a0 := hb1.cell 0; simp only [dv, List.getElem?_cons_zero] at a0)
  go_ret
  refine ⟨?_, m1⟩
  have hu := u64_nonneg kd
  have e : wrap64 ((IntKind.u64.wrap kd).tmod 7) = (a.kind : Int) := by
    rw [Int.tmod_eq_emod_of_nonneg hu, hk]
    generalize IntKind.u64.wrap kd = u at *
    have h1 : 0 ≤ u % 7 := Int.emod_nonneg _ (by decide)
    have h2 : u % 7 < 7 := Int.emod_lt_of_pos _ (by decide)
    simp only [wrap64]
    omega
  show Ending.returned (Value.int .i64 (wrap64 ((IntKind.u64.wrap kd).tmod 7))) = _
  rw [e]
theorem asks_c (kd : Int) (a : Ac) (K : Option Addr) (c : Nat) (w : World) (hk : a.kind = ((IntKind.u64.wrap kd) % 7).toNat) : Calls Try.prog 31 #[.agg (dv kd a K c).toArray] w fun e w' => e = .returned (.bool (decide (a.kind < 3))) ∧ Mod [] w w' := by
  go_enter Try.func31, Try.ntmps31
  go_wp2_with (first
    | (with_reducible refine wpList_boxes (o := ⟨some 1, .box 49 (.tmp 0), _, _, _, _⟩) rfl 49 (.tmp 0) rfl _ rfl (dv kd a K c) rfl ?_; intro w1 hb1 m1 z1)
    | (with_reducible refine wpList_loads (o := ⟨some 3, .load 49 (.tmp 1), _, _, _, _⟩) rfl 49 (.tmp 1) rfl w.heap.size 0 _ rfl (Cells.of_holds hb1) _ Try.underlying49 rfl (by rw [dv_length]; exact size49) (.agg (dv kd a K c).toArray) rfl ?_))
  refine (kind_c kd a K c _ hk).mono ?_
  rintro e w2 ⟨rfl, m2⟩
  go_wp2
  go_ret
  refine ⟨?_, m1.then m2⟩
  simp
  omega
theorem there_c (kd : Int) (a : Ac) (K : Option Addr) (c : Nat) (w : World) (hk : a.kind = ((IntKind.u64.wrap kd) % 7).toNat) : Calls Try.prog 32 #[.agg (dv kd a K c).toArray] w fun e w' => e = .returned (.bool (decide (a.kind = 2 ∨ 0 ≤ a.at_ ∧ a.at_ < 5))) ∧ Mod [] w w' := by
  go_enter Try.func32, Try.ntmps32
  go_wp2_with (first
    | (with_reducible refine wpList_boxes (o := ⟨some 1, .box 49 (.tmp 0), _, _, _, _⟩) rfl 49 (.tmp 0) rfl _ rfl (dv kd a K c) rfl ?_; intro w1 hb1 m1 z1)
    | (with_reducible refine wpList_loads (o := ⟨some 3, .load 49 (.tmp 1), _, _, _, _⟩) rfl 49 (.tmp 1) rfl w.heap.size 0 _ rfl (Cells.of_holds hb1) _ Try.underlying49 rfl (by rw [dv_length]; exact size49) (.agg (dv kd a K c).toArray) rfl ?_))
  refine (kind_c kd a K c _ hk).mono ?_
  rintro e w2 ⟨rfl, m2⟩
  have a1 := (hb1.keep m2 (by simp)).cell 1
  simp only [dv, List.getElem?_cons_succ, List.getElem?_cons_zero] at a1
  have mm := m1.then m2
  clear hb1 m1 m2 z1 hk
  by_cases h2 : a.kind = 2
  · have h2' : (a.kind : Int) = 2 := by omega
    rw [h2']
    go_wp2
    go_ret
    exact ⟨by simp [h2], mm⟩
  · have h2' : (a.kind : Int) ≠ 2 := by omega
    by_cases h0 : 0 ≤ a.at_
    · by_cases h5 : a.at_ < 5
      · go_wp2
        go_ret
        exact ⟨by simp [h0, h5], mm⟩
      · have h5' : 5 ≤ a.at_ := by omega
        go_wp2
        go_ret
        refine ⟨?_, mm⟩
        have e1 : ((a.kind : Int) == 2) = false := by simpa using h2'
        have e2 : decide (a.at_ < 5) = false := decide_eq_false (by omega)
        have e3 : decide (a.kind = 2 ∨ 0 ≤ a.at_ ∧ a.at_ < 5) = false := decide_eq_false (by omega)
        rw [e3]
        simp [e1, e2]
    · have h0' : a.at_ < 0 := by omega
      go_wp2
      go_ret
      refine ⟨?_, mm⟩
      have e1 : ((a.kind : Int) == 2) = false := by simpa using h2'
      have e4 : decide (0 ≤ a.at_) = false := decide_eq_false (by omega)
      rw [e4]
      simp [e1]
theorem blank_c (w : World) : Calls Try.prog 30 #[] w fun e w' => ∃ g m, e = .returned (.pointer (some ⟨g, 0, none⟩)) ∧ DAt w' g m none 0 (St.new 5) ∧ Mod [] w w' ∧ w.heap.size ≤ g ∧ w.heap.size ≤ m := by
  have H := new_good 5 w (by omega) (by omega)
  go_enter Try.func30, Try.ntmps30
  go_wp2_with fail
  refine H.mono ?_
  rintro e w1 ⟨g, m, rfl, h⟩
  go_wp2
  go_ret
  exact ⟨g, m, rfl, h⟩
theorem few_c (A : Option Addr) (n c : Nat) (w : World) (hn : n ≤ c) (_ : c ≤ maxLen) : Calls Try.prog 20 #[.slice A n c] w fun e w' => e = .returned (.slice A (min n 60) c) ∧ w' = w := by
  go_enter Try.func20, Try.ntmps20
  go_wp2
  · go_ret
    have e : min n 60 = 60 := by omega
    rw [e]
    exact ⟨rfl, rfl⟩
  · go_ret
    have e : min n 60 = n := by omega
    rw [e]
    exact ⟨rfl, rfl⟩
end Go.Proofs.Ytpdpahkhfilmpaa
