/-
  What a seed signs its key verifies; the keys of two seeds differ. My own work.
-/
import Derived.Test.YtdolihecjomjiaaDoorWn
import Derived.Test.YtdolihecjomjiaaDoorKey
namespace Go.Proofs.YtdolihecjomjiaaDoor
open Go.RowKit Go.Shelf
theorem walkI_add (i n j k : Nat) (x : Idv) : walkI i (n + j) k (walkI i n j x) = walkI i n (j + k) x := by
  induction k with
  | zero => rfl
  | succ k ih =>
    rw [← Nat.add_assoc]
    show stepI i (n + j + k) (walkI i (n + j) k (walkI i n j x)) = stepI i (n + (j + k)) (walkI i n (j + k) x)
    rw [ih, Nat.add_assoc]
theorem walkI_front (i n k : Nat) (x : Idv) : walkI i (n + 1) k (stepI i n x) = walkI i n (k + 1) x := by
  have := walkI_add i n 1 k x
  rwa [show walkI i n 1 x = stepI i n x from rfl, Nat.add_comm 1 k] at this
theorem signI_getD (x m : Idv) (i : Nat) (h : i < 67) : (signI x m).getD i zeroI = walkI i 0 (dgt m i) (startI i x) := by
  unfold signI stsI
  rw [List.map_map, List.getD_eq_getElem?_getD, List.getElem?_map, List.getElem?_range h]
  rfl
theorem signI_length (x m : Idv) : (signI x m).length = 67 := by simp [signI, stsI_length]
theorem rec_sign (x m : Idv) : recI m (signI x m) = keyI x := by
  unfold recI keyI recL stsI
  rw [List.map_map]
  congr 1
  apply List.map_congr_left
  intro i hi
  have hi := List.mem_range.1 hi
  rw [signI_getD x m i hi]
  show walkI i (dgt m i) (15 - dgt m i) (walkI i 0 (dgt m i) (startI i x)) = walkI i 0 15 (startI i x)
  have := walkI_add i 0 (dgt m i) (15 - dgt m i) (startI i x)
  rw [Nat.zero_add, show dgt m i + (15 - dgt m i) = 15 by have := dgt_le m i; omega] at this
  exact this
/-! With Nats. -/
def tn (x : List UInt8) : List Nat := x.map UInt8.toNat
theorem ofNat_toNat (i : Nat) (h : i < 256) : (UInt8.ofNat i).toNat = i := by simp; omega
theorem kstep_eq (i n : Nat) (x : Idv) (hi : i < 256) (hn : n < 256) : kstep i n (tn x.1) = tn (stepI i n x).1 := by
  have hl : (67 :: UInt8.ofNat i :: UInt8.ofNat n :: x.1).length = 35 := by simp [x.2]
  have := kdig_eq (67 :: UInt8.ofNat i :: UInt8.ofNat n :: x.1) (by rw [hl]; decide)
  rw [List.map_cons, List.map_cons, List.map_cons, ofNat_toNat i hi, ofNat_toNat n hn] at this
  exact this
theorem kwalk_eq (i : Nat) (hi : i < 256) (k : Nat) : ∀ (n : Nat) (x : Idv), n + k ≤ 256 → kwalk i k n (tn x.1) = tn (walkI i n k x).1 := by
  induction k with
  | zero => intros; rfl
  | succ k ih =>
    intro n x h
    rw [kwalk, kstep_eq i n x hi (by omega), ih (n + 1) _ (by omega), walkI_front]
theorem kend_eq (i : Nat) (hi : i < 256) (s : Idv) : kend i (tn s.1) = tn (endI (i, startI i s)).1 := by
  unfold kend endI
  have hl : (83 :: UInt8.ofNat i :: s.1).length = 34 := by simp [s.2]
  have := kdig_eq (83 :: UInt8.ofNat i :: s.1) (by rw [hl]; decide)
  rw [List.map_cons, List.map_cons, ofNat_toNat i hi] at this
  have h2 : kdig (83 :: i :: tn s.1) = tn (startI i s).1 := this
  rw [h2, kwalk_eq i hi 15 0 _ (by decide)]
theorem kends_eq (s : Idv) (n : Nat) : ∀ i, i + n ≤ 256 → kends (tn s.1) n i = tn (flatI ((List.range' i n).map fun j => endI (j, startI j s))) := by
  induction n with
  | zero => intros; rfl
  | succ n ih =>
    intro i h
    rw [kends, kend_eq i (by omega) s, ih (i + 1) (by omega), List.range'_succ, List.map_cons]
    simp [tn, flatI]
theorem kkey_eq (s : Idv) : kkey (tn s.1) = tn (keyI s).1 := by
  unfold kkey
  rw [kends_eq s 67 0 (by decide)]
  have he : (List.range' 0 67).map (fun j => endI (j, startI j s)) = (stsI s 67).map endI := by
    unfold stsI
    rw [List.map_map, List.range_eq_range']
    rfl
  rw [he]
  have hl : (75 :: flatI ((stsI s 67).map endI)).length = 2145 := by rw [List.length_cons, flatI_length, List.length_map, stsI_length]
  exact kdig_eq (75 :: flatI ((stsI s 67).map endI)) (by rw [hl]; decide)
def oneI (k : UInt8) : Idv := ⟨k :: List.replicate 31 0, rfl⟩
theorem key_ne : keyI (oneI 1) ≠ keyI (oneI 3) := fun h => by
  have h1 := kkey_eq (oneI 1)
  have h3 := kkey_eq (oneI 3)
  rw [h, ← h3] at h1
  exact kkey_ne h1
theorem digits_zero : (digitsN zeroI)[0]? = some 0 ∧ (digitsN zeroI)[64]? = some 3 ∧ (digitsN zeroI)[65]? = some 12 ∧ (digitsN zeroI)[66]? = some 0 := by decide +kernel
set_option maxRecDepth 100000 in
theorem build1 (w : World) : (Instr.build 25 #[(0, .int .u8 1)]).run Tryd.prog w = .ok (iv (oneI 1)) w := by
  refine run_build w _ _ _ ?_
  kernel_rfl
set_option maxRecDepth 100000 in
theorem build2 (w : World) : (Instr.build 25 #[(0, .int .u8 2)]).run Tryd.prog w = .ok (iv (oneI 2)) w := by
  refine run_build w _ _ _ ?_
  kernel_rfl
set_option maxRecDepth 100000 in
theorem build3 (w : World) : (Instr.build 25 #[(0, .int .u8 3)]).run Tryd.prog w = .ok (iv (oneI 3)) w := by
  refine run_build w _ _ _ ?_
  kernel_rfl
theorem exec_build1 {v : World} {o : Oper} {a : Act} (ho : o.op = .build 25 #[(0, .const (.int .u8 1))]) : (execOp a.eval o).run Tryd.prog v = .ok (.value (iv (oneI 1))) v := by
  unfold execOp
  have hc : a.eval (.const (.int .u8 1)) = .int .u8 1 := rfl
  simp only [ho, List.map_toArray, List.map_cons, List.map_nil, hc, Sem.run_bind, build1, Result.andThen, Sem.run_pure]
theorem exec_build2 {v : World} {o : Oper} {a : Act} (ho : o.op = .build 25 #[(0, .const (.int .u8 2))]) : (execOp a.eval o).run Tryd.prog v = .ok (.value (iv (oneI 2))) v := by
  unfold execOp
  have hc : a.eval (.const (.int .u8 2)) = .int .u8 2 := rfl
  simp only [ho, List.map_toArray, List.map_cons, List.map_nil, hc, Sem.run_bind, build2, Result.andThen, Sem.run_pure]
theorem exec_build3 {v : World} {o : Oper} {a : Act} (ho : o.op = .build 25 #[(0, .const (.int .u8 3))]) : (execOp a.eval o).run Tryd.prog v = .ok (.value (iv (oneI 3))) v := by
  unfold execOp
  have hc : a.eval (.const (.int .u8 3)) = .int .u8 3 := rfl
  simp only [ho, List.map_toArray, List.map_cons, List.map_nil, hc, Sem.run_bind, build3, Result.andThen, Sem.run_pure]
theorem zero_cells {w : World} {A : Option Addr} {c : Nat} (h : OwnG fi 3 1 w A c (digitsN zeroI)) : ∃ g o, A = some ⟨g, o, none⟩ ∧ w.cell? ⟨g, o, none⟩ = some (.int .i64 0) ∧ w.cell? ⟨g, o + 64, none⟩ = some (.int .i64 3) ∧ w.cell? ⟨g, o + 65, none⟩ = some (.int .i64 12) ∧ w.cell? ⟨g, o + 66, none⟩ = some (.int .i64 0) := by
  obtain ⟨e0, e64, e65, e66⟩ := digits_zero
  have hat : ∀ (k n : Nat), (digitsN zeroI)[k]? = some n → ∃ g o, A = some ⟨g, o, none⟩ ∧ w.cell? ⟨g, o + k, none⟩ = some (.int .i64 (n : Int)) := fun k n hk => by
    obtain ⟨hkl, he⟩ := List.getElem?_eq_some_iff.1 hk
    obtain ⟨g, o, h1, h2⟩ := h.int_at k hkl
    rw [he] at h2
    exact ⟨g, o, h1, h2⟩
  obtain ⟨g, o, hA, c0⟩ := hat 0 0 e0
  obtain ⟨g1, o1, hA1, c64⟩ := hat 64 3 e64
  obtain ⟨g2, o2, hA2, c65⟩ := hat 65 12 e65
  obtain ⟨g3, o3, hA3, c66⟩ := hat 66 0 e66
  rw [hA] at hA1 hA2 hA3
  cases hA1
  cases hA2
  cases hA3
  exact ⟨g, o, hA, by simpa using c0, c64, c65, c66⟩
set_option maxRecDepth 100000 in
set_option maxHeartbeats 4000000 in
/-- The layer does something. -/
theorem wakes_c (w : World) (Gl : Glob w) : Calls Tryd.prog 10 #[] w fun r w' => r = .returned (.bool true) ∧ Mod [] w w' := by
  have D0 := fun v => digits_c zeroI v
  obtain ⟨x1, hx1⟩ : ∃ x, x = oneI 1 := ⟨_, rfl⟩
  obtain ⟨x2, hx2⟩ : ∃ x, x = oneI 2 := ⟨_, rfl⟩
  obtain ⟨x3, hx3⟩ : ∃ x, x = oneI 3 := ⟨_, rfl⟩
  have hne : decide (keyI x1 = keyI x3) = false := by rw [hx1, hx3]; exact decide_eq_false key_ne
  have S := fun v (mv : Mod [] w v) => sign_c x1 x2 v (Gl.then mv)
  have K1 := fun v (mv : Mod [] w v) => key_c x1 v (Gl.then mv)
  have K3 := fun v (mv : Mod [] w v) => key_c x3 v (Gl.then mv)
  have V := fun (k : Idv) v (mv : Mod [] w v) (A : Option Addr) c (h : OwnG ic 25 32 v A c (signI x1 x2)) => verify_c k x2 (signI x1 x2) A c (signI_length _ _) v (Gl.then mv) h.cells
  rw [rec_sign] at V
  obtain ⟨k1, hk1⟩ : ∃ k, k = keyI x1 := ⟨_, rfl⟩
  obtain ⟨k3, hk3⟩ : ∃ k, k = keyI x3 := ⟨_, rfl⟩
  rw [← hk1] at K1 V hne
  rw [← hk3] at K3 hne
  have V1 := fun v (mv : Mod [] w v) (A : Option Addr) c h => V k1 v mv A c h
  have V3 := fun v (mv : Mod [] w v) (A : Option Addr) c h => V k3 v mv A c h
  rw [show decide (k1 = k1) = true from decide_eq_true rfl] at V1
  rw [hne] at V3
  have HX := Lib.hid (And.intro hx1 (And.intro hx2 hx3))
  clear hx1 hx2 hx3 hne V hk1 hk3 Gl
  go_enter Tryd.func10, Tryd.ntmps10
  go_wp2_with (first
    | (with_reducible refine wpList_ranW (o := ⟨some 3, .build 25 _, _, _, _, _⟩) (by with_unfolding_all rfl) (iv zeroI) w (exec_zero25 rfl) ?_)
    | (go_at_call 11; refine (D0 w).mono ?_
       rintro e w1 ⟨Ad, cd, rfl, hd1, m1, q1⟩
       clear D0
       obtain ⟨g, o, rfl, c0, c64, c65, c66⟩ := zero_cells hd1
       clear hd1 q1)
    | (with_reducible refine wpList_ranW (o := ⟨some 32, .build 25 _, _, _, _, _⟩) (by with_unfolding_all rfl) (iv x1) w1 (by rw [HX.out.1]; exact exec_build1 rfl) ?_)
    | (with_reducible refine wpList_ranW (o := ⟨some 33, .build 25 _, _, _, _, _⟩) (by with_unfolding_all rfl) (iv x2) w1 (by rw [HX.out.2.1]; exact exec_build2 rfl) ?_)
    | (go_at_call 19; refine (S w1 m1).mono ?_
       rintro e w2 ⟨A, c, rfl, hs2, m2, q2⟩
       clear S q2
       have m12 := m1.then m2
       clear m2 c0 c64 c65 c66)
    | (with_reducible refine wpList_ranW (o := ⟨some 39, .build 25 _, _, _, _, _⟩) (by with_unfolding_all rfl) (iv x1) w2 (by rw [HX.out.1]; exact exec_build1 rfl) ?_)
    | (go_at_call 23; refine (K1 w2 m12).mono ?_
       rintro e w3 ⟨rfl, m3⟩
       have hs3 := hs2.keep m3 (by simp)
       have m13 := m12.then m3
       clear K1 hs2 m3)
    | (with_reducible refine wpList_ranW (o := ⟨some 41, .build 25 _, _, _, _, _⟩) (by with_unfolding_all rfl) (iv x2) w3 (by rw [HX.out.2.1]; exact exec_build2 rfl) ?_)
    | (go_at_call 26; refine (V1 w3 m13 A c hs3).mono ?_
       rintro e w4 ⟨rfl, m4⟩
       have hs4 := hs3.keep m4 (by simp)
       have m14 := m13.then m4
       clear V1 hs3 m4)
    | (with_reducible refine wpList_ranW (o := ⟨some 46, .build 25 _, _, _, _, _⟩) (by with_unfolding_all rfl) (iv x3) w4 (by rw [HX.out.2.2]; exact exec_build3 rfl) ?_)
    | (go_at_call 23; refine (K3 w4 m14).mono ?_
       rintro e w5 ⟨rfl, m5⟩
       have hs5 := hs4.keep m5 (by simp)
       have m15 := m14.then m5
       clear K3 hs4 m5)
    | (with_reducible refine wpList_ranW (o := ⟨some 48, .build 25 _, _, _, _, _⟩) (by with_unfolding_all rfl) (iv x2) w5 (by rw [HX.out.2.1]; exact exec_build2 rfl) ?_)
    | (go_at_call 26; refine (V3 w5 m15 A c hs5).mono ?_
       rintro e w6 ⟨rfl, m6⟩))
  go_ret
  exact ⟨rfl, m15.then m6⟩
end Go.Proofs.YtdolihecjomjiaaDoor
