/-
  Contracts of package sha: Text. My own work.
-/
import Derived.Test.YtgojheoelcmcpaaDoorOld
namespace Go.Proofs.YtgojheoelcmcpaaDoor
open Go.RowKit
/-- The digit of a number below 16. -/
def dg (n : Nat) : UInt8 := if n < 10 then UInt8.ofNat (48 + n) else UInt8.ofNat (87 + n)
def dgs : ByteArray := { data := #[48, 49, 50, 51, 52, 53, 54, 55, 56, 57, 97, 98, 99, 100, 101, 102] }
def dg2 (x : UInt8) : List UInt8 := [dg (x.toNat / 16), dg (x.toNat % 16)]
def textN (l : List UInt8) : List UInt8 := l.flatMap dg2
theorem textN_length (l : List UInt8) : (textN l).length = 2 * l.length := by
  induction l with
  | nil => rfl
  | cons x l ih => simp only [textN, List.flatMap_cons, List.length_append, List.length_cons] at ih ⊢; rw [ih]; simp only [dg2, List.length_cons, List.length_nil]; omega
theorem textN_snoc (l : List UInt8) (k : Nat) (hk : k < l.length) : textN (l.take k) ++ dg2 (l.getD k 0) = textN (l.take (k + 1)) := by
  have e : l.getD k 0 = l[k] := by simp [List.getD_eq_getElem?_getD, hk]
  rw [List.take_succ_eq_append_getElem hk, e]
  unfold textN
  rw [List.flatMap_append]
  simp
theorem run_digit (n : Nat) (hn : n < 16) (w : World) : (Instr.index 9 (.string { data := #[48, 49, 50, 51, 52, 53, 54, 55, 56, 57, 97, 98, 99, 100, 101, 102] }) (.int .u8 (n : Int))).run Tryd.prog w = .ok (oct (dg n)) w := by
  obtain rfl | rfl | rfl | rfl | rfl | rfl | rfl | rfl | rfl | rfl | rfl | rfl | rfl | rfl | rfl | rfl : n = 0 ∨ n = 1 ∨ n = 2 ∨ n = 3 ∨ n = 4 ∨ n = 5 ∨ n = 6 ∨ n = 7 ∨ n = 8 ∨ n = 9 ∨ n = 10 ∨ n = 11 ∨ n = 12 ∨ n = 13 ∨ n = 14 ∨ n = 15 := by omega
  all_goals rfl
section
variable {v : World} {o : Oper} {ρ : Operand → Value}
theorem exec_digit {y : Operand} {n : Nat} (hn : n < 16) (ho : o.op = .index 9 (.const (.string { data := #[48, 49, 50, 51, 52, 53, 54, 55, 56, 57, 97, 98, 99, 100, 101, 102] })) y) (hc : ∀ c, ρ (.const c) = c) (hy : ρ y = .int .u8 (n : Int)) : (execOp ρ o).run Tryd.prog v = .ok (.value (oct (dg n))) v := by
  unfold execOp
  simp only [ho, hc, hy, Sem.run_bind, run_digit n hn, Result.andThen, Sem.run_pure]
theorem exec_shr4 {x y : Operand} {b : UInt8} {t t' : TypeId} (ho : o.op = .binOp .shr t x y t') (hx : ρ x = oct b) (hy : ρ y = .int .u64 4) : (execOp ρ o).run Tryd.prog v = .ok (.value (.int .u8 ((b.toNat / 16 : Nat) : Int))) v := by
  have h := shift_shr .u8 .u64 (b.toNat : Int) 4 (by decide) (by decide)
  unfold execOp
  simp [ho, hx, hy, go_sem, h]
theorem and_15 (b : UInt8) : bits .and .u8 (b.toNat : Int) 15 = ((b.toNat % 16 : Nat) : Int) := by
  have := b.toNat_lt
  show IntKind.u8.wrap ((BitVec.ofInt 8 (b.toNat : Int) &&& BitVec.ofInt 8 ((15 : Nat) : Int)).toNat : Int) = _
  rw [ofInt_nat, ofInt_nat, BitVec.toNat_and, BitVec.toNat_ofNat, BitVec.toNat_ofNat, Nat.mod_eq_of_lt (by omega : b.toNat < 2 ^ 8)]
  rw [show (15 : Nat) % 2 ^ 8 = 2 ^ 4 - 1 from rfl, Nat.and_two_pow_sub_one_eq_mod]
  simp [IntKind.wrap, IntKind.bits, IntKind.signed]; omega
theorem run_two (a b : UInt8) (w : World) : (Instr.buildSlice 36 2 #[(0, oct a), (1, oct b)]).run Tryd.prog w = .ok (.slice (some ⟨w.heap.size, 0, none⟩) 2 2) (w.alloc (.cells #[oct a, oct b] 5)) := by
  go_simp
theorem exec_two {x y : Operand} {a b : UInt8} (ho : o.op = .buildSlice 36 2 #[(0, x), (1, y)]) (hx : ρ x = oct a) (hy : ρ y = oct b) : (execOp ρ o).run Tryd.prog v = .ok (.value (.slice (some ⟨v.heap.size, 0, none⟩) 2 2)) (v.alloc (.cells #[oct a, oct b] 5)) := by
  unfold execOp
  simp only [ho, List.map_toArray, List.map_cons, List.map_nil, hx, hy, Sem.run_bind, run_two, Result.andThen, Sem.run_pure]
end
theorem exec_index40 {v : World} {o : Oper} {ρ : Operand → Value} {x y : Operand} {L : List UInt8} {k : Nat} (hL : L.length = 32) (hk : k < 32) (ho : o.op = .index 40 x y) (hx : ρ x = .agg (L.map oct).toArray) (hy : ρ y = .int .i64 (k : Int)) : (execOp ρ o).run Tryd.prog v = .ok (.value (oct (L.getD k 0))) v := by
  unfold execOp
  obtain ⟨it, hq⟩ : ∃ it, Tryd.prog.info? 5 = some it := by
    cases hq : Tryd.prog.info? 5 with
    | none => have := u8_one; rw [hq] at this; cases this
    | some it => exact ⟨it, rfl⟩
  have hs : it.size = 1 := by have := u8_one; rw [hq] at this; simpa using this
  have hrun : (Instr.index 40 (.agg (L.map oct).toArray) (.int .i64 (k : Int))).run Tryd.prog v = .ok (oct (L.getD k 0)) v := by
    have hx : (L.map oct).toArray[k]? = some (oct (L.getD k 0)) := by simp [List.getD_eq_getElem?_getD, hL, hk]
    generalize (L.map oct).toArray = X at hx ⊢
    generalize oct (L.getD k 0) = y at hx ⊢
    simp [Instr.index, Sem.run_bind, run_underlying Tryd.underlying40, go_sem, sizeOf, typeInfo, hq, hs, hk, hx]
  simp only [ho, hx, hy, Sem.run_bind, hrun, Result.andThen, Sem.run_pure]
theorem exec_conv {P : Program} {v : World} {o : Oper} {ρ : Operand → Value} {t t' : TypeId} {x : Operand} {X Y : Value} (h : (convert t t' X).run P v = .ok Y v) (ho : o.op = .convert t t' x) (hx : ρ x = X) : (execOp ρ o).run P v = .ok (.value Y) v := by
  unfold execOp
  simp only [ho, hx, Sem.run_bind, h, Result.andThen, Sem.run_pure]
/-- make([]T, n, cc) of one-cell elements, in a walk. -/
theorem wpList_makeCap {P : Program} (w : World) {ops : Array Oper} {rest : List Oper} {o : Oper} {a : Act} {Q : Exit → Act → World → Prop}
    (hg : o.guard = none) (l c : Operand) (t : TypeId) (hop : o.op = Op.makeSlice t l c)
    (e : TypeId) (i : TypeInfo) (z : Value) (h1 : P.underlying t = some (.slice e)) (h2 : P.info? e = some i) (h3 : i.zero = some z) (h4 : i.size = 1) (bytes : Nat) (h5 : i.bytes = bytes) (hz : z.cells = #[z])
    (kl kc : IntKind) (L C : Int) (n cc : Nat) (hl : a.eval l = .int kl L) (hc : a.eval c = .int kc C) (hL : L = (n : Int)) (hC : C = (cc : Int)) (hn : n ≤ cc) (b2 : bytes * cc ≤ 281474976710656) (b3 : cc ≤ maxLen)
    (hK : ∀ v, Holds v w.heap.size e (List.replicate cc z) → Mod [] w v → v.heap.size = w.heap.size + 1 → wpList P ops Q rest (a.put o.dst (.slice (some ⟨w.heap.size, 0, none⟩) n cc)) v) :
    wpList P ops Q (o :: rest) a w := by
  refine wpList_plain hg fun K hK' => ?_
  subst h5
  have hb : (i.bytes : Int) * (cc : Int) ≤ 281474976710656 := by
    have h : ((i.bytes * cc : Nat) : Int) ≤ 281474976710656 := by omega
    rwa [Int.natCast_mul] at h
  have b3' : (cc : Int) ≤ 9223372036854775807 := by unfold maxLen at b3; omega
  have hrun := run_make (P := P) w t e i z h1 h2 h3 kl kc (n : Int) (cc : Int) (by omega) (by omega) hb b3'
  subst hL
  subst hC
  simp only [Int.toNat_natCast, h4, Nat.mul_one, hz, made_rep] at hrun
  unfold Oper.wp
  simp [execOp, hop, hl, hc, hrun, Result.andThen]
  exact hK' _ _ (hK _ (Holds.made w e _) (Mod.alloc [] w _) (by simp))
def TxtSt (A : Option Addr) (c : Nat) (l k : List UInt8) (B z : Nat) (W : World) (x : Nat × Option Addr × Nat) (l7 l8 : Bool) (v : World) : Prop :=
  Mod (blk A) W v ∧ (l8 = false → Owns v B 5 A c l ∧ Mk z 5 (k.map oct) x.1 l7 v) ∧ (l8 = true → Owns v B 5 x.2.1 x.2.2 (l ++ k))
set_option maxRecDepth 1000000 in
set_option maxHeartbeats 8000000 in
theorem text_c (idl : List UInt8) (hid : idl.length = 32) (w : World) :
    Calls Tryd.prog 28 #[.agg (idl.map oct).toArray] w fun e w' => e = .returned (.string ⟨(textN idl).toArray⟩) ∧ Mod [] w w' := by
  have HB := Lib.hid hid
  clear hid
  obtain ⟨i0, hi, hz0, hz1, hz2⟩ := info_parts u8_zero
  have hi0 := Lib.hid (And.intro hi (And.intro hz0 (And.intro hz1 hz2)))
  clear hi hz0 hz1 hz2
  go_enter Tryd.func28, Tryd.ntmps28
  go_wp2_with (first
    | (with_reducible refine wpList_boxes (o := ⟨some 1, .box 40 (.tmp 0), _, _, _, _⟩) rfl 40 (.tmp 0) rfl _ rfl (idl.map oct) rfl ?_; intro w1 hb1 m1 z1; replace z1 := Lib.hid z1)
    | (at_make; refine wpList_makeCap _ rfl _ _ 36 rfl 5 i0 (.int .u8 0) Tryd.underlying36 hi0.out.1 hi0.out.2.1 hi0.out.2.2.1 1 hi0.out.2.2.2 rfl .i64 .i64 _ _ 0 64 rfl rfl rfl rfl (by omega) (by omega) (by unfold maxLen; omega) ?_; intro w2 hw2 m2 z2; replace z2 := Lib.hid z2)
    | (with_reducible refine wpList_loads (o := ⟨some 7, .load 40 (.tmp 1), _, _, _, _⟩) rfl 40 (.tmp 1) rfl w.heap.size 0 _ rfl (Cells.of_holds (hb1.keep m2 (by simp))) _ Tryd.underlying40 rfl (size40_of _ HB.out) (.agg (idl.map oct).toArray) rfl ?_))
  obtain ⟨g1, e1⟩ : ∃ b, b = w.heap.size := ⟨_, rfl⟩
  obtain ⟨g3, e3⟩ : ∃ b, b = w1.heap.size := ⟨_, rfl⟩
  have hg3 : w.heap.size ≤ g3 := by have := m1.size; omega
  rw [← e3] at hw2
  have mm := m1.then m2
  rw [← e1, ← e3]
  have hO : Owns w2 w.heap.size 5 (some ⟨g3, 0, none⟩) 64 [] := ⟨rfl, .inr ⟨g3, 64, (List.replicate 64 (Value.int .u8 0)).toArray, rfl, hg3, hw2, by simp, by unfold maxLen; omega, by simp, by simp⟩⟩
  clear e1 e3 m1 m2 z1 z2 hb1 hw2 hg3
  go_wp2_with fail
  go_loopw [3, 8] (fun sl i wi => ∃ (k : Nat) (A : Option Addr) (c : Nat), k ≤ 32 ∧ i = .int .i64 (k : Int) ∧ sl = .slice A (textN (idl.take k)).length c ∧ Owns wi w.heap.size 5 A c (textN (idl.take k)) ∧ Mod [] w wi) (fun _ i _ => 32 - (intOf i).toNat)
  case atStart => exact ⟨0, _, _, by omega, rfl, rfl, hO, mm⟩
  case round =>
    clear hO mm
    obtain ⟨k, A, c, hk, rfl, rfl, kO, mk⟩ := hrel
    by_cases hlt : k < 32
    · have hz : (k : Int) < 32 := by omega
      have HK := Lib.hid hlt
      clear hlt hk
      go_wp2_with (with_reducible refine wpList_ran (o := ⟨some 10, .index 40 (.tmp 7) (.tmp 8), _, _, _, _⟩) rfl (oct (idl.getD k 0)) (exec_index40 HB.out HK.out rfl rfl rfl) ?_)
      clear hz
      refine wp_region_lito (X := Nat × Option Addr × Nat) (0, none, 0) (fun x => [.agg (idl.map oct).toArray, .pointer (some ⟨g1, 0, none⟩), .string { data := #[] }, .slice x.2.1 (textN (idl.take k) ++ dg2 (idl.getD k 0)).length x.2.2, undef, oct (idl.getD k 0), .slice (some ⟨g3, 0, none⟩) 0 64, .agg (idl.map oct).toArray, .int .i64 (k : Int), .bool true, oct (idl.getD k 0), .slice A (textN (idl.take k)).length c, oct (idl.getD k 0), .int .u8 (((idl.getD k 0).toNat / 16 : Nat) : Int), oct (dg ((idl.getD k 0).toNat / 16)), oct (idl.getD k 0), .int .u8 (((idl.getD k 0).toNat % 16 : Nat) : Int), oct (dg ((idl.getD k 0).toNat % 16)), .slice (some ⟨x.1, 0, none⟩) 2 2, .slice x.2.1 (textN (idl.take k) ++ dg2 (idl.getD k 0)).length x.2.2, u20, undef, undef]) 23 [0, 1, 2, 4, 5, 6, 7, 8, 9, 10, 20, 21, 22]
        (fun x lz v => TxtSt A c (textN (idl.take k)) (dg2 (idl.getD k 0)) w.heap.size wr.drew.heap.size wr.drew x (lz 7) (lz 8) v) []
        (by kernel_rfl) (fun _ => rfl) rfl rfl rfl (fun _ => by simp only [List.map_cons, List.map_nil, List.getD_cons_zero, List.getD_cons_succ]) 3 9 (.slice A (textN (idl.take k)).length c) rfl (by kernel_rfl) (⟨Mod.refl _ _, fun _ => ⟨kO, Mk.not⟩, fun h => by cases h⟩) (by kernel_rfl) (by kernel_rfl) ?step ?fin
      case step =>
        intro x lz T v j o hj hlj hdep hst hpar hgot hcl hold K hK
        have hjn : j < 10 := (Array.getElem?_eq_some_iff.1 hj).1
        obtain rfl | rfl | rfl | rfl | rfl | rfl | rfl | rfl | rfl | rfl : j = 0 ∨ j = 1 ∨ j = 2 ∨ j = 3 ∨ j = 4 ∨ j = 5 ∨ j = 6 ∨ j = 7 ∨ j = 8 ∨ j = 9 := by omega
        all_goals (have hj' := Option.some.inj (hj : some _ = some o); subst hj'; clear hj)
        · exact wp_ran rfl (exec_move rfl (eval_tmp (hold (by cases hh : lz 9 with | false => rfl | true => exact absurd (hcl 9 _ rfl hh ⟨0, .phase⟩ (by simp) rfl) (by rw [hlj]; simp))))) (hK x _ _ (fun _ _ _ _ _ _ => rfl) (fun s hs => by cases hs; rfl) hst)
        · exact wp_ran rfl (exec_move rfl (eval_tmp (hpar 5 (by simp)))) (hK x _ _ (fun _ _ _ _ _ _ => rfl) (fun s hs => by cases hs; rfl) hst)
        · exact wp_ran rfl (exec_shr4 (b := (idl.getD k 0)) rfl (eval_tmp (hgot 1 _ 12 rfl (hdep ⟨1, .data⟩ (by simp) rfl) rfl)) rfl) (hK x _ _ (fun _ _ _ _ _ _ => rfl) (fun s hs => by cases hs; rfl) hst)
        · exact wp_ran rfl (exec_digit (by have := ((idl.getD k 0)).toNat_lt; omega) rfl (fun _ => rfl) (eval_tmp (hgot 2 _ 13 rfl (hdep ⟨2, .data⟩ (by simp) rfl) rfl))) (hK x _ _ (fun _ _ _ _ _ _ => rfl) (fun s hs => by cases hs; rfl) hst)
        · exact wp_ran rfl (exec_move rfl (eval_tmp (hpar 5 (by simp)))) (hK x _ _ (fun _ _ _ _ _ _ => rfl) (fun s hs => by cases hs; rfl) hst)
        · exact wp_ran rfl (exec_and rfl (eval_tmp (hgot 4 _ 15 rfl (hdep ⟨4, .data⟩ (by simp) rfl) rfl)) rfl (and_15 (idl.getD k 0))) (hK x _ _ (fun _ _ _ _ _ _ => rfl) (fun s hs => by cases hs; rfl) hst)
        · exact wp_ran rfl (exec_digit (by omega) rfl (fun _ => rfl) (eval_tmp (hgot 5 _ 16 rfl (hdep ⟨5, .data⟩ (by simp) rfl) rfl))) (hK x _ _ (fun _ _ _ _ _ _ => rfl) (fun s hs => by cases hs; rfl) hst)
        · have h8 : lz 8 = false := by
            cases hh : lz 8 with
            | false => rfl
            | true => exact absurd (hcl 8 _ rfl hh ⟨7, .data⟩ (by simp) rfl) (by rw [hlj]; simp)
          have hA := hst.2.1 h8
          exact wp_ran rfl (exec_two rfl (eval_tmp (hgot 3 _ 14 rfl (hdep ⟨3, .data⟩ (by simp) rfl) rfl)) (eval_tmp (hgot 6 _ 17 rfl (hdep ⟨6, .data⟩ (by simp) rfl) rfl))) (hK (v.heap.size, x.2) _ _ (fun j' o' s' h1 h2 h3 => by
                  clear hA hst hpar hgot hdep hcl hK
                  have h4 : j' < 10 := (Array.getElem?_eq_some_iff.1 h1).1
                  obtain rfl | rfl | rfl | rfl | rfl | rfl | rfl | rfl | rfl | rfl : j' = 0 ∨ j' = 1 ∨ j' = 2 ∨ j' = 3 ∨ j' = 4 ∨ j' = 5 ∨ j' = 6 ∨ j' = 7 ∨ j' = 8 ∨ j' = 9 := by omega
                  all_goals (cases h1; cases h3 <;> first | rfl | (rw [hlj] at h2; cases h2))) (fun s hs => by cases hs; rfl) ⟨hst.1.then (Mod.alloc [] v _), fun _ => ⟨hA.1.keep (Mod.alloc [] v _) (by simp), fun _ => ⟨hst.1.size, Holds.made v 5 [oct (dg ((idl.getD k 0).toNat / 16)), oct (dg ((idl.getD k 0).toNat % 16))]⟩⟩, fun hh => by rw [show (fun j => if j = 7 then true else lz j) 8 = lz 8 from rfl, h8] at hh; cases hh⟩)
        · have hA := hst.2.1 hlj
          have h7 := (hA.2 (hdep ⟨7, .data⟩ (by simp) rfl)).2
          have hBv : w.heap.size ≤ v.heap.size := Nat.le_trans mk.size hst.1.size
          obtain ⟨A', c', v', hrun, hO, hm, _⟩ := run_appends (P := Tryd.prog) v 36 36 5 i0 (.int .u8 0) 1 Tryd.underlying36 hi0.out.1 hi0.out.2.1 hi0.out.2.2.1 hi0.out.2.2.2 rfl w.heap.size hBv A c (textN (idl.take k)) hA.1 ⟨x.1, 0, none⟩ 2 (dg2 (idl.getD k 0)) (by simp [dg2]) (Reads.of_holds h7) (by rw [textN_length]; have := HK.out; simp [dg2]; omega) (by rw [textN_length]; have := HK.out; unfold maxLen; simp [dg2]; omega)
          exact wp_ran rfl (exec_append rfl (eval_tmp (hgot 0 _ 11 rfl (hdep ⟨0, .data⟩ (by simp) rfl) rfl)) (eval_tmp (hgot 7 _ 18 rfl (hdep ⟨7, .data⟩ (by simp) rfl) rfl)) hrun) (hK (x.1, A', c') _ _ (fun j' o' s' h1 h2 h3 => by
                  clear hO hm hrun hA h7 hst hpar hgot hdep hK
                  have h4 : j' < 10 := (Array.getElem?_eq_some_iff.1 h1).1
                  obtain rfl | rfl | rfl | rfl | rfl | rfl | rfl | rfl | rfl | rfl : j' = 0 ∨ j' = 1 ∨ j' = 2 ∨ j' = 3 ∨ j' = 4 ∨ j' = 5 ∨ j' = 6 ∨ j' = 7 ∨ j' = 8 ∨ j' = 9 := by omega
                  all_goals (cases h1; cases h3 <;> first | rfl | (rw [hlj] at h2; cases h2) | exact absurd (hcl 9 _ rfl h2 ⟨8, .data⟩ (by simp) rfl) (by rw [hlj]; simp))) (fun s hs => by cases hs; rfl) ⟨hst.1.trans hm (fun _ _ h => h), (fun hh => by rw [show (fun j => if j = 8 then true else lz j) 8 = true from rfl] at hh; cases hh), fun _ => hO⟩)
        · exact wp_ran rfl (exec_assign rfl (eval_tmp (hgot 8 _ 19 rfl (hdep ⟨8, .data⟩ (by simp) rfl) rfl))) (hK x _ _ (fun _ _ _ _ _ _ => rfl) (fun s hs => by cases hs; rfl) hst)
      case fin =>
        intro x lz v hl hst
        have e8 := hl 8 (by decide)
        have nO := hst.2.2 e8
        have hbA : ∀ i ∈ blk A, w.heap.size ≤ i := by
          intro i hi
          cases hA : A with
          | none => rw [hA] at hi; simp [blk] at hi
          | some a =>
            have := (kO.fits.2.2 a hA).1
            rw [hA] at hi
            simp [blk] at hi
            omega
        have nm := hst.1
        have mn : Mod [] w v := ⟨nm.os.trans mk.os, nm.tape.trans mk.tape, nm.output.trans mk.output, Nat.le_trans mk.size nm.size, fun i hi _ => by
          rw [nm.block i (Nat.lt_of_lt_of_le hi mk.size) (fun hm => by have := hbA i hm; omega), show wr.drew.heap[i]? = wr.heap[i]? from rfl, mk.block i hi (by simp)]⟩
        have hnx := textN_snoc idl k (by rw [HB.out]; exact HK.out)
        rw [hnx] at nO ⊢
        obtain ⟨xa, A', c'⟩ := x
        have hk1 : k + 1 ≤ 32 := HK.out
        have HN := Lib.hid (And.intro hk1 (And.intro nO mn))
        have hz : (k : Int) < 32 := by have := HK.out; omega
        clear nO mn nm hst hl hk1 kO mk hnx hbA e8
        try dsimp only
        go_wp2_with fail
        exact ⟨⟨k + 1, A', c', HN.out.1, by go_num, rfl, HN.out.2.1, HN.out.2.2⟩, by simp [intOf]; omega⟩
    · obtain rfl : k = 32 := by omega
      rw [List.take_of_length_le (by rw [HB.out]; omega)] at kO ⊢
      have hr := kO.reads
      have HL := Lib.hid mk
      have hconv := conv_reads (P := Tryd.prog) wr 36 9 5 A c (textN idl) Tryd.underlying36 Tryd.underlying5 Tryd.underlying9 hr
      have hmk := HL.out
      clear hlt hk kO mk hr
      go_wp2_with (with_reducible refine wpList_ran (o := ⟨some 22, .convert 36 9 (.tmp 21), _, _, _, _⟩) rfl (.string ⟨(textN idl).toArray⟩) (exec_conv hconv rfl rfl) ?_)
      go_ret
      exact ⟨rfl, hmk⟩

end Go.Proofs.YtgojheoelcmcpaaDoor
