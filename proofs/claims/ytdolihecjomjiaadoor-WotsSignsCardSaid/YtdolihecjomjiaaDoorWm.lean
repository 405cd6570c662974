/-
  Package wots: what a signature leads to, and whether it is a key's. My own work.
-/
import Derived.Test.YtdolihecjomjiaaDoorWl
namespace Go.Proofs.YtdolihecjomjiaaDoor
open Go.RowKit Go.Shelf
/-- The ends that a signature leads to. -/
def recL (m : Idv) (s : List Idv) (n : Nat) : List Idv := (List.range n).map fun i => walkI i (dgt m i) (15 - dgt m i) (s.getD i zeroI)
theorem recL_snoc (m : Idv) (s : List Idv) (n : Nat) : recL m s (n + 1) = recL m s n ++ [walkI n (dgt m n) (15 - dgt m n) (s.getD n zeroI)] := by simp [recL, List.range_succ]
theorem recL_length (m : Idv) (s : List Idv) (n : Nat) : (recL m s n).length = n := by simp [recL]
def recI (m : Idv) (s : List Idv) : Idv := endsI (recL m s 67)
set_option maxRecDepth 100000 in
theorem build25 (w : World) : (Instr.build 25 #[]).run Tryd.prog w = .ok (iv zeroI) w := by
  refine run_build w _ _ _ ?_
  unfold Program.built
  rw [Tryd.underlying25]
  obtain ⟨i0, j1, j2, j3, j4⟩ := info_parts id_parts
  simp only [j1, j2]
  rfl
theorem exec_zero25 {v : World} {o : Oper} {ρ : Operand → Value} (ho : o.op = .build 25 #[]) : (execOp ρ o).run Tryd.prog v = .ok (.value (iv zeroI)) v := by
  unfold execOp
  simp only [ho, List.map_toArray, List.map_nil, Sem.run_bind, build25, Result.andThen, Sem.run_pure]
theorem size25' : (Tryd.prog.info? 25).map (·.size) = some 32 := size25
theorem results_cell_tmp {P : Program} {fn : Func} {p q : Tmp} {ty : TypeId} (h : fn.results = #[.cell p ty, .tmp q]) (tmps : Array Value) (w : World) (g : Nat) (cs : List Value) (x : Value) (d : TypeDesc)
    (hp : tmps.getD p undef = .pointer (some ⟨g, 0, none⟩)) (hq : tmps.getD q undef = x) (hc : Cells w (some ⟨g, 0, none⟩) cs)
    (hu : P.underlying ty = some d) (hd : (match d with | .struct _ | .array _ _ => true | _ => false) = true) (hi : (P.info? ty).map (·.size) = some cs.length) :
    (results fn tmps).run P w = .ok (.tuple #[.agg cs.toArray, x]) w := by
  have hp' : tmps[p]?.getD undef = .pointer (some ⟨g, 0, none⟩) := by simpa using hp
  have hq' : tmps[q]?.getD undef = x := by simpa using hq
  simp [results, h, hp', hq', asAddr, run_loads hc hu hd hi]
set_option maxRecDepth 100000 in
set_option maxHeartbeats 4000000 in
theorem recover_no (m : Idv) (A : Option Addr) (n c : Nat) (hn : n ≠ 67) (h63 : n ≤ 100000) (w : World) :
    Calls Tryd.prog 24 #[iv m, .slice A n c] w fun r w' => r = .returned (.tuple #[iv zeroI, .int .i64 3]) ∧ Mod [] w w' := by
  have hnZ : ¬ (n : Int) = 67 := by omega
  have hnZ2 : (n : Int) ≤ 100000 := by omega
  go_enter Tryd.func24, Tryd.ntmps24
  go_wp2_with (first
    | (with_reducible refine wpList_boxes (o := ⟨some 2, .box 25 (.tmp 0), _, _, _, _⟩) rfl 25 (.tmp 0) rfl _ rfl (ic m) rfl ?_; intro w1 hb1 m1 z1; replace z1 := Lib.hid z1)
    | (with_reducible refine wpList_allocs (o := ⟨some 4, .alloc 25, _, _, _, _⟩) rfl 25 rfl _ zeroI_25 ?_; intro w2 hb2 m2 z2; replace z2 := Lib.hid z2)
    | (with_reducible refine wpList_ranW (o := ⟨some 13, .build 25 _, _, _, _, _⟩) (by with_unfolding_all rfl) (iv zeroI) w2 (exec_zero25 rfl) ?_)
    | (with_reducible refine wpList_storesAll (o := ⟨none, .store 25 (.tmp 4) (.tmp 13), _, _, _, _⟩) rfl 25 (.tmp 4) (.tmp 13) rfl rfl w1.heap.size (ic zeroI) rfl (iv zeroI) rfl rfl 25 _ hb2 (by rw [ic_length]) (ic_one _) (size25i _) ?_; intro w3 hb3 m3 z3))
  refine bodyPost_ret (results_cell_tmp rfl _ _ w1.heap.size (ic zeroI) _ _ rfl rfl (Cells.of_holds hb3) Tryd.underlying25 rfl (size25i _)) rfl ?_
  exact ⟨rfl, far_mod (m1.then m2) m3 (by simp; exact m1.size)⟩
set_option maxRecDepth 100000 in
set_option maxHeartbeats 4000000 in
theorem recover_c (m : Idv) (s : List Idv) (A : Option Addr) (c : Nat) (hs : s.length = 67) (w : World) (Gl : Glob w) (RA : Cells w A (s.flatMap ic)) :
    Calls Tryd.prog 24 #[iv m, .slice A 67 c] w fun r w' => r = .returned (.tuple #[iv (recI m s), .int .i64 0]) ∧ Mod [] w w' := by
  obtain ⟨d, hd⟩ : ∃ d, d = recI m s := ⟨_, rfl⟩
  rw [← hd]
  obtain ⟨i0, j1, j2, j3, j4⟩ := info_parts id_parts
  have HI := Lib.hid (And.intro j1 (And.intro j2 (And.intro j3 j4)))
  have HH := Lib.hid (And.intro hd (And.intro Gl (And.intro RA hs)))
  clear hd Gl RA hs j1 j2 j3 j4
  go_enter Tryd.func24, Tryd.ntmps24
  go_wp2_with (first
    | (with_reducible refine wpList_boxes (o := ⟨some 2, .box 25 (.tmp 0), _, _, _, _⟩) rfl 25 (.tmp 0) rfl _ rfl (ic m) rfl ?_; intro w1 hb1 m1 z1; replace z1 := Lib.hid z1)
    | (with_reducible refine wpList_allocs (o := ⟨some 4, .alloc 25, _, _, _, _⟩) rfl 25 rfl _ zeroI_25 ?_; intro w2 hb2 m2 z2; replace z2 := Lib.hid z2)
    | (with_reducible refine wpList_loads (o := ⟨some 14, .load 25 (.tmp 2), _, _, _, _⟩) rfl 25 (.tmp 2) rfl w.heap.size 0 _ rfl (Cells.of_holds (hb1.keep m2 (by simp))) _ Tryd.underlying25 rfl (size25i m) (iv m) rfl ?_)
    | (go_at_call 11; refine (digits_c m w2).mono ?_
       rintro e w3 ⟨Ad, cd, rfl, hd3, m3, q3⟩)
    | (with_reducible refine wpList_make0G ic (o := ⟨some 16, .makeSlice 22 _ _, _, _, _, _⟩) rfl 22 _ _ rfl 25 i0 (iv zeroI) 32 32 67 Tryd.underlying22 HI.out.1 HI.out.2.1 HI.out.2.2.1 HI.out.2.2.2 rfl rfl d67 m67 ?_
       intro w6 hO m6 z6; replace z6 := Lib.hid z6))
  have y1 := z1.out
  have y2 := z2.out
  have y6 := z6.out
  obtain ⟨b2, hq2⟩ : ∃ q, q = w.heap.size := ⟨_, rfl⟩
  obtain ⟨b4, hq4⟩ : ∃ q, q = w1.heap.size := ⟨_, rfl⟩
  obtain ⟨b3, hq3⟩ : ∃ q, q = w3.heap.size := ⟨_, rfl⟩
  have k4 : Holds w6 b4 25 (ic zeroI) := by rw [hq4]; exact (hb2.keep m3 (by simp)).keep m6 (by simp)
  have kD : OwnG fi 3 1 w6 Ad cd (digitsN m) := hd3.keep m6 (by simp)
  have kA : ∀ i ∈ blk Ad, i < b3 := fun i hi => by have := hd3.notin hi; omega
  have k3 : OwnG ic 25 32 w6 (some ⟨b3, 0, none⟩) 67 [] := by rw [hq3]; exact hO
  have mm : Mod [] w w6 := ((m1.then m2).then m3).then m6
  have o1 : b2 < b4 := by omega
  have o2 : b4 < b3 := by have := m3.size; omega
  have o4 : w6.heap.size = b3 + 1 := by omega
  have o5 : w.heap.size ≤ b2 := by omega
  rw [← hq2, ← hq4, ← hq3]
  clear hb1 m1 z1 hb2 m2 z2 hO m3 z6 m6 hq2 hq3 hq4 y1 y2 y6 hd3 q3
  have HK := Lib.hid (And.intro k4 (And.intro kD (And.intro k3 (And.intro mm o4))))
  clear k4 kD k3 mm o4
  go_wp2_with fail
  go_loopw [19, 7, 20] (fun i x bb wi => ∃ (k : Nat) (A1 : Option Addr) (c' : Nat), k ≤ 67 ∧ i = .int .i64 (k : Int) ∧ x = .slice A1 k c' ∧ OwnG ic 25 32 wi A1 c' (recL m s k) ∧ (∀ i ∈ blk A1, b3 ≤ i) ∧ Holds wi b4 25 (ic zeroI) ∧ OwnG fi 3 1 wi Ad cd (digitsN m) ∧ b3 < wi.heap.size ∧ Mod [] w wi) (fun i _ _ _ => 67 - (intOf i).toNat)
  case atStart => exact ⟨0, some ⟨b3, 0, none⟩, 67, by omega, rfl, rfl, HK.out.2.2.1, fun i hi => by simp [blk] at hi; omega, HK.out.1, HK.out.2.1, by have := HK.out.2.2.2.2; omega, HK.out.2.2.2.1⟩
  case round =>
    obtain ⟨k, A1, c', hk, rfl, rfl, hOw, hbl, h4, hD, hsz, hmi⟩ := hrel
    by_cases hkn : k < 67
    · have hkZ : (k : Int) < 67 := by omega
      have hkl : k < s.length := by rw [HH.out.2.2.2]; exact hkn
      obtain ⟨ga, oa, rfl, hce⟩ := HH.out.2.2.1.elem' ic 32 (by omega) ic_length k hkl
      obtain ⟨q0, hq0⟩ : ∃ q, q = s[k] := ⟨_, rfl⟩
      rw [← hq0] at hce
      have hci := hce.keep hmi (by simp)
      obtain ⟨gd, od, hAd, hcd⟩ := hD.int_at k (by rw [digitsN_length]; exact hkn)
      obtain ⟨dg, hdg⟩ : ∃ d, d = dgt m k := ⟨_, rfl⟩
      have hdgc : (digitsN m)[k]'(by rw [digitsN_length]; exact hkn) = dg := by rw [hdg]; unfold dgt; rw [List.getD_eq_getElem?_getD, List.getElem?_eq_getElem (by rw [digitsN_length]; exact hkn)]; rfl
      rw [hdgc] at hcd
      have hdg15 : dg ≤ 15 := by rw [hdg]; exact dgt_le m _
      obtain ⟨e, he⟩ : ∃ e, e = walkI k dg (15 - dg) q0 := ⟨_, rfl⟩
      obtain ⟨r, hr⟩ : ∃ r, r = recL m s k := ⟨_, rfl⟩
      have hsn : recL m s (k + 1) = r ++ [e] := by rw [recL_snoc, ← hr, he, hdg, hq0, List.getD_eq_getElem?_getD, List.getElem?_eq_getElem hkl]; rfl
      have hrl : r.length = k := by rw [hr, recL_length]
      rw [← hr] at hOw
      have hgd : gd < b3 := kA gd (by simp [blk, hAd])
      have HP := Lib.hid (And.intro hsn (And.intro hOw (And.intro hbl (And.intro h4 (And.intro hD (And.intro hsz (And.intro hmi (And.intro hcd (And.intro hdg15 (And.intro he (And.intro hrl (And.intro hAd hgd))))))))))))
      clear hce hq0 hcd hdgc hdg hdg15 he hr hsn hrl hOw hbl h4 hD hsz hmi hAd hgd HK
      go_wp2_with (first
        | (with_reducible refine wpList_loads (o := ⟨some 23, .load 25 (.tmp 22), _, _, _, _⟩) rfl 25 (.tmp 22) rfl ga (oa + k * 32) _ rfl hci _ Tryd.underlying25 rfl (size25i q0) (iv q0) rfl ?_)
        | (with_reducible refine wpList_allocs (o := ⟨some 9, .alloc 25, _, _, _, _⟩) rfl 25 rfl _ zeroI_25 ?_; intro w2 hb2 m2 z2; replace z2 := Lib.hid z2)
        | (with_reducible refine wpList_storesAll (o := ⟨none, .store 25 (.tmp 9) (.tmp 23), _, _, _, _⟩) rfl 25 (.tmp 9) (.tmp 23) rfl rfl wr.heap.size (ic q0) rfl (iv q0) rfl rfl 25 _ hb2 (by rw [ic_length, ic_length]) (ic_one q0) (size25i q0) ?_
           intro w3 hb3 m3 z3
           obtain ⟨Bx, hBx⟩ : ∃ b, b = wr.heap.size := ⟨_, rfl⟩
           have mx : Mod [] wr w3 := m2.trans m3 (by intro i hi h; simp at h; omega)
           rw [← hBx] at hb3
           rw [← hBx]
           have HM := Lib.hid (And.intro hb3 (And.intro mx hBx))
           clear hb2 m2 z2 hb3 m3 z3 mx hBx))
      obtain ⟨hX, mx, hBx⟩ := HM.out
      have hOw := HP.out.2.1.keep mx (by simp)
      have hD3 := HP.out.2.2.2.2.1.keep mx (by simp)
      have hcd3 : w3.cell? ⟨gd, od + k, none⟩ = some (.int .i64 (dg : Int)) := Mod.cell mx (by simp) HP.out.2.2.2.2.2.2.2.1
      have hBxA : Bx ∉ blk A1 := fun hh => by have := HP.out.2.1.notin hh; omega
      have hmi := HP.out.2.2.2.2.2.2.1.then mx
      have hbl := HP.out.2.2.1
      have hsz := HP.out.2.2.2.2.2.1
      have hgd := HP.out.2.2.2.2.2.2.2.2.2.2.2.2
      have hAd := HP.out.2.2.2.2.2.2.2.2.2.2.2.1
      have hrl := HP.out.2.2.2.2.2.2.2.2.2.2.1
      have he := HP.out.2.2.2.2.2.2.2.2.2.1
      have hdg15 := HP.out.2.2.2.2.2.2.2.2.1
      have hlow : ∀ i, i < b3 → i ∉ blk A1 := fun i hi hh => by have := hbl i hh; omega
      have hGl : ∀ v, Mod (blk A1) w3 v → Glob v := fun v mv => (HH.out.2.1.then hmi).keep mv (fun i hi => by have := hbl i hi; have := HH.out.2.1.two; omega)
      refine wp_region_lito (X := Xk) ⟨0, none, 0⟩ (fun y => [iv m, .slice (some ⟨ga, oa, none⟩) 67 c, .pointer (some ⟨b2, 0, none⟩), undef, .pointer (some ⟨b4, 0, none⟩), .int .i64 0, .slice Ad 67 cd, .slice y.C (k + 1) y.c, .int .i64 (k : Int), .pointer (some ⟨Bx, 0, none⟩), .slice (some ⟨ga, oa, none⟩) 67 c, .int .i64 67, .bool false, undef, iv m, .slice Ad 67 cd, .slice (some ⟨b3, 0, none⟩) 0 67, .slice (some ⟨ga, oa, none⟩) 67 c, .int .i64 67, .int .i64 (k : Int), .bool true, .int .i64 (k : Int), .pointer (some ⟨ga, oa + k * 32, none⟩), iv q0, .slice A1 k c', iv q0, .int .i64 (k : Int), .slice Ad 67 cd, .int .i64 (k : Int), .pointer (some ⟨gd, od + k * 1, none⟩), .int .i64 (dg : Int), iv e, .slice (some ⟨y.b, 0, none⟩) 1 1, .slice y.C (k + 1) y.c, u34, undef, undef]) 37 [0, 1, 2, 3, 4, 5, 6, 8, 9, 10, 11, 12, 13, 14, 15, 16, 17, 18, 19, 20, 21, 22, 23, 34, 35, 36]
        (fun y lz v => SbK (blk A1) w3 r e A1 c' (lz 8) (lz 9) y v) []
        (by kernel_rfl) (fun _ => rfl) rfl rfl rfl (fun _ => by simp only [List.map_cons, List.map_nil, List.getD_cons_zero, List.getD_cons_succ]) 7 10 (.slice A1 k c') rfl (by kernel_rfl)
        ⟨Mod.drew _ w3, fun i hi => hi, fun _ => hOw, (fun q => by cases q), (fun q => by cases q)⟩ (by kernel_rfl) (by kernel_rfl) ?step ?fin
      case step =>
        intro y lz T v j o hj hlj hdep hs hpar hgot hcl hold Kq hK
        have hjn : j < 11 := (Array.getElem?_eq_some_iff.1 hj).1
        obtain rfl | rfl | rfl | rfl | rfl | rfl | rfl | rfl | rfl | rfl | rfl : j = 0 ∨ j = 1 ∨ j = 2 ∨ j = 3 ∨ j = 4 ∨ j = 5 ∨ j = 6 ∨ j = 7 ∨ j = 8 ∨ j = 9 ∨ j = 10 := by omega
        all_goals (have hj' := Option.some.inj (hj : some _ = some o); subst hj'; clear hj)
        · have l10 : lz 10 = false := (by cases hh : lz 10 with | false => rfl | true => exact absurd (hcl 10 _ rfl hh ⟨0, .phase⟩ (by simp) rfl) (by rw [hlj]; simp))
          exact wp_ran rfl (exec_move rfl (eval_tmp (hold l10))) (hK y _ _ (fun _ _ _ _ _ _ => rfl) (fun s hs => by cases hs; rfl) (by simpa using hs))
        · exact wp_ran rfl (exec_load rfl (eval_tmp (hpar 9 (by simp))) (run_loads (Cells.of_holds (hX.keep hs.1 hBxA)) Tryd.underlying25 rfl (size25i q0))) (hK y _ _ (fun _ _ _ _ _ _ => rfl) (fun s hs => by cases hs; rfl) (by simpa using hs))
        · exact wp_ran rfl (exec_move rfl (eval_tmp (hpar 8 (by simp)))) (hK y _ _ (fun _ _ _ _ _ _ => rfl) (fun s hs => by cases hs; rfl) (by simpa using hs))
        · exact wp_ran rfl (exec_move rfl (eval_tmp (hpar 6 (by simp)))) (hK y _ _ (fun _ _ _ _ _ _ => rfl) (fun s hs => by cases hs; rfl) (by simpa using hs))
        · exact wp_ran rfl (exec_move rfl (eval_tmp (hpar 8 (by simp)))) (hK y _ _ (fun _ _ _ _ _ _ => rfl) (fun s hs => by cases hs; rfl) (by simpa using hs))
        · exact wp_ran rfl (exec_ixs Tryd.underlying26 size3 hkn rfl (by rw [← hAd]; exact eval_tmp (hgot 3 _ 27 rfl (hdep ⟨3, .data⟩ (by simp) rfl) rfl)) (eval_tmp (hgot 4 _ 28 rfl (hdep ⟨4, .data⟩ (by simp) rfl) rfl))) (hK y _ _ (fun _ _ _ _ _ _ => rfl) (fun s hs => by cases hs; rfl) (by simpa using hs))
        · exact wp_ran rfl (exec_load rfl (eval_tmp (hgot 5 _ 29 rfl (hdep ⟨5, .data⟩ (by simp) rfl) rfl)) (run_load1 Tryd.underlying3 rfl (by rw [Nat.mul_one]; exact Mod.cell hs.1 (hlow gd hgd) hcd3))) (hK y _ _ (fun _ _ _ _ _ _ => rfl) (fun s hs => by cases hs; rfl) (by simpa using hs))
        · refine wp_called rfl (exec_call4 rfl rfl (eval_tmp (hgot 1 _ 25 rfl (hdep ⟨1, .data⟩ (by simp) rfl) rfl)) (eval_tmp (hgot 2 _ 26 rfl (hdep ⟨2, .data⟩ (by simp) rfl) rfl)) (eval_tmp (hgot 6 _ 30 rfl (hdep ⟨6, .data⟩ (by simp) rfl) rfl)) rfl (enters_of Tryd.func31 (by kernel_rfl) rfl)) ((reached_c q0 k dg 15 (15 - dg) (by omega) (by omega) (by decide) v (hGl v hs.1)).mono ?_)
          rintro e' v' ⟨rfl, mm'⟩
          exact ⟨_, rfl, hK y _ _ (fun _ _ _ _ _ _ => rfl) (fun s hs => by cases hs; rw [← he]; rfl) (by simpa using hs.mod0 mm')⟩
        · have l9 : lz 9 = false := (by cases hh : lz 9 with | false => rfl | true => exact absurd (hcl 9 _ rfl hh ⟨8, .data⟩ (by simp) rfl) (by rw [hlj]; simp))
          have hs' : SbK (blk A1) w3 r e A1 c' (lz 8) false y v := by rw [← l9]; exact hs
          refine wp_ran rfl (exec_lit22 rfl (eval_tmp (hgot 7 _ 31 rfl (hdep ⟨7, .data⟩ (by simp) rfl) rfl))) (hK { y with b := v.heap.size } _ _ (fun j' o' s' g1 g2 g3 => by
          have g4 : j' < 11 := (Array.getElem?_eq_some_iff.1 g1).1
          obtain rfl | rfl | rfl | rfl | rfl | rfl | rfl | rfl | rfl | rfl | rfl : j' = 0 ∨ j' = 1 ∨ j' = 2 ∨ j' = 3 ∨ j' = 4 ∨ j' = 5 ∨ j' = 6 ∨ j' = 7 ∨ j' = 8 ∨ j' = 9 ∨ j' = 10 := by omega
          all_goals (cases g1; cases g3 <;> first | rfl | (rw [hlj] at g2; cases g2) | (rw [l9] at g2; cases g2))) (fun s hs => by cases hs; rfl) ?_)
          simpa [l9] using hs'.lit
        · have l10 : lz 10 = false := (by cases hh : lz 10 with | false => rfl | true => exact absurd (hcl 10 _ rfl hh ⟨9, .data⟩ (by simp) rfl) (by rw [hlj]; simp))
          have l8 : lz 8 = true := hdep ⟨8, .data⟩ (by simp) rfl
          have l0 : lz 0 = true := hdep ⟨0, .data⟩ (by simp) rfl
          have hs' : SbK (blk A1) w3 r e A1 c' true false y v := by rw [← l8, ← hlj]; exact hs
          obtain ⟨C1, c1, v', hrun, g1, g2⟩ := hs'.app (o := { dst := some 33, op := .call { callee := .builtin .append, args := #[.tmp 24, .tmp 32], argTypes := #[22, 22] }, type := 22, pos := "wots.go:71", after := #[], guard := none }) (ρ := T.eval) (.tmp 24) (.tmp 32) rfl (by rw [hrl]; exact eval_tmp (hgot 0 _ 24 rfl l0 rfl)) (eval_tmp (hgot 8 _ 32 rfl l8 rfl)) (by omega)
          rw [hrl] at hrun
          refine wp_ran rfl hrun (hK { y with C := C1, c := c1 } _ _ (fun j' o' s' g1 g2 g3 => by
          have g4 : j' < 11 := (Array.getElem?_eq_some_iff.1 g1).1
          obtain rfl | rfl | rfl | rfl | rfl | rfl | rfl | rfl | rfl | rfl | rfl : j' = 0 ∨ j' = 1 ∨ j' = 2 ∨ j' = 3 ∨ j' = 4 ∨ j' = 5 ∨ j' = 6 ∨ j' = 7 ∨ j' = 8 ∨ j' = 9 ∨ j' = 10 := by omega
          all_goals (cases g1; cases g3 <;> first | rfl | (rw [hlj] at g2; cases g2) | (rw [l10] at g2; cases g2))) (fun s hs => by cases hs; rfl) (by simpa [l8] using g1))
        · exact wp_ran rfl (exec_assign rfl (eval_tmp (hgot 9 _ 33 rfl (hdep ⟨9, .data⟩ (by simp) rfl) rfl))) (hK y _ _ (fun _ _ _ _ _ _ => rfl) (fun s hs => by cases hs; rfl) (by simpa using hs))
      case fin =>
        intro y lz v hl hs
        obtain ⟨q1, q2, -, -, q5⟩ := hs
        have q6 := q5 (hl 9 (by decide))
        have HV := Lib.hid (And.intro q1 q6)
        clear q1 q2 q5 q6 hX mx hBx hOw hD3 hcd3 hBxA hmi hbl hsz hgd hAd hrl he hdg15 hlow hGl
        go_wp2
        obtain ⟨q1, q6⟩ := HV.out
        obtain ⟨hX, mx, hBx⟩ := HM.out
        have hbl := HP.out.2.2.1
        have hsz := HP.out.2.2.2.2.2.1
        refine ⟨⟨k + 1, y.C, y.c, by omega, by go_num, rfl, by rw [HP.out.1]; exact q6.1, fun i hi => ?_, ?_, ?_, ?_, ?_⟩, by simp [intOf]; omega⟩
        · rcases q6.2 i hi with q | q
          · exact hbl i q
          · have := mx.size; omega
        · exact (HP.out.2.2.2.1.keep mx (by simp)).keep q1 (fun hh => by have := hbl _ hh; omega)
        · exact (HP.out.2.2.2.2.1.keep mx (by simp)).keep q1 (fun a ha hh => by have := hbl _ hh; have := kA a.block (by simp [blk, ha]); omega)
        · have := mx.size; have := q1.size; omega
        · exact far_mod (HP.out.2.2.2.2.2.2.1.then mx) q1 (fun i hi => by have := hbl i hi; omega)
    · obtain rfl : k = 67 := by omega
      have X := keyOf_c A1 (recL m s 67) 67 c' (by rw [recL_length]) (by decide) wr (HH.out.2.1.then hmi) hOw.cells
      rw [show endsI (recL m s 67) = d by rw [HH.out.1]; rfl] at X
      have HP := Lib.hid (And.intro h4 hmi)
      clear hOw hbl h4 hD hsz hmi HK
      go_wp2_with (first
        | (go_at_call 35; refine X.mono ?_; rintro e w6' ⟨rfl, m6⟩)
        | (with_reducible refine wpList_storesAll (o := ⟨none, .store 25 (.tmp 4) (.tmp 36), _, _, _, _⟩) rfl 25 (.tmp 4) (.tmp 36) rfl rfl b4 (ic d) rfl (iv d) rfl rfl 25 _ (HP.out.1.keep m6 (by simp)) (by rw [ic_length, ic_length]) (ic_one d) (size25i d) ?_; intro v2 hv2 mv2 zv2))
      refine bodyPost_ret (results_cell_tmp rfl _ _ b4 (ic d) _ _ rfl rfl (Cells.of_holds hv2) Tryd.underlying25 rfl (size25i _)) rfl ?_
      exact ⟨rfl, far_mod (HP.out.2.then m6) mv2 (by simp; omega)⟩
end Go.Proofs.YtdolihecjomjiaaDoor
