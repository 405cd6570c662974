/-
  What fails is told, and is as if it had not been asked: the walk. My own work.
-/
import Derived.Test.YtpdpahkhfilmpaaTwo
import Derived.Test.YtpdpahkhfilmpaaWakes
namespace Go.Proofs.Ytpdpahkhfilmpaa
open Go.RowKit
theorem zero49 : ∀ w, (zeroValue 49).run Try.prog w = .ok (.agg (([.int .i64 0, .int .i64 0, .int .i64 0, .int .u8 0, .slice none 0 0] : List Value).toArray)) w := (zero_of_info (n := 5) (by kernel_rfl)).1
theorem miss_start (n : Nat) : Miss (n : Int) { St.new 5 with failing := (n : Int) } (St.new 5) := ⟨rfl, rfl, rfl, rfl, rfl, rfl, rfl, (if_pos (by omega)).symm, rfl, rfl, rfl⟩
theorem two_fail {w v : World} {g m c g' m' c' : Nat} {A A' : Option Addr} {S S' : St} (h : Two w v g m A c S g' m' A' c' S') (n : Int) (hn : (Lit.int .i64 n).wf = true) : Calls Try.prog 25 #[.pointer (some ⟨g, 0, none⟩), .int .i64 n] v fun e v' => e = .returned (.int .i64 (S.fail n).1) ∧ Two w v' g m A c (S.fail n).2 g' m' A' c' S' ∧ Keeps v v' := by
  refine (fail_c S g m _ n v h.L.D.blk).mono ?_
  rintro e v' ⟨rfl, q1, q2⟩
  have hb : -9223372036854775808 ≤ n ∧ n < 9223372036854775808 := by simp [Lit.wf, IntKind.min, IntKind.max, IntKind.signed, IntKind.bits] at hn; omega
  have hf := h.L.D.fits
  have D : DAt v' g m A c (S.fail n).2 := by
    refine h.L.D.turn q2 q1 ?_ ?_ ?_ ?_ <;> unfold St.fail <;> split <;> first | rfl | exact hf | exact ⟨hf.1, hf.2, hf.3, hb.1, hb.2, hf.6⟩ | exact Nat.le_refl _
  exact ⟨rfl, h.did D ⟨q2.wk (fun i _ h => by simp at h; simp [h]), fun a ha => .inl (by subst ha; simp [blk])⟩⟩
theorem ask_ops (S : St) (p l : Bool) : (S.ask p l).2.ops ≤ S.ops + 1 := by
  unfold St.ask
  repeat' split
  all_goals simp
theorem ops_step (S : St) (a : Ac) (hk : a.kind < 3) : (S.act a).2.2.ops ≤ S.ops + 1 := by
  obtain hk0 | hk0 | hk0 : a.kind = 0 ∨ a.kind = 1 ∨ a.kind = 2 := by omega
  · have e : S.act a = S.read a.at_ := by unfold St.act; rw [hk0]; rfl
    rw [e]
    exact ask_ops S _ _
  · have e : S.act a = (fil 0, S.write a.at_ (fil a.fill)) := by unfold St.act; rw [hk0]; rfl
    rw [e]
    have := ask_ops S (S.has a.at_) true
    unfold St.write
    simp only
    split
    · exact this
    · exact this
  · have e : S.act a = (fil 0, S.sync) := by unfold St.act; rw [hk0]; rfl
    rw [e]
    have := ask_ops S true true
    unfold St.sync
    simp only
    split
    · exact this
    · exact this
set_option maxRecDepth 1000000 in
set_option maxHeartbeats 8000000 in
theorem misses_w (A : Option Addr) (n c : Nat) (x : Nat) (hx : x < 256) (w : World) (hn : n ≤ c) (hc : c ≤ maxLen) (hA : Acts w A n) :
    Calls Try.prog 9 #[.slice A n c, .int .u8 (x : Int)] w fun e w' => e = .returned (.bool true) ∧ Mod [] w w' := by
  have HA := Lib.hid hA
  clear hA
  have hwf : (Lit.int .i64 (x : Int)).wf = true := by simp [Lit.wf, IntKind.min, IntKind.max, IntKind.signed, IntKind.bits]; omega
  have ef : (St.new 5).fail (x : Int) = (0, { St.new 5 with failing := (x : Int) }) := rfl
  replace ef := Lib.hid ef
  have hmaxx : maxLen ≤ 9223372036854775807 := by decide
  go_enter Try.func9, Try.ntmps9
  go_wp2_with fail
  refine (wakes_c _).mono ?_
  rintro e w1 ⟨rfl, m1⟩
  go_wp2_with fail
  refine (blank_c _).mono ?_
  rintro e w2 ⟨g, m, rfl, D1, m2, og, om⟩
  go_wp2_with fail
  refine (blank_c _).mono ?_
  rintro e w3 ⟨g', m', rfl, D2, m3, og', om'⟩
  have F1 : Far w w3 g m none 0 (St.new 5) := ⟨D1.keep m3 (by simp) (by simp) (by simp), (m1.then m2).then m3, Nat.le_trans m1.size og, Nat.le_trans m1.size om, fun a ha => by cases ha⟩
  have F2 : Far w w3 g' m' none 0 (St.new 5) := ⟨D2, (m1.then m2).then m3, Nat.le_trans (m1.then m2).size og', Nat.le_trans (m1.then m2).size om', fun a ha => by cases ha⟩
  have n1 : g ≠ g' := by have := D1.blk.lt; omega
  have n2 : m ≠ m' := by have := D1.firm.lt; omega
  have T0 : Two w w3 g m none 0 (St.new 5) g' m' none 0 (St.new 5) := ⟨F1, F2, n1, n2, fun a a' h _ => by cases h⟩
  clear D1 D2 F1 F2 og om og' om' m1 m2 m3
  go_wp2_with fail
  have X := two_fail T0 (x : Int) hwf
  rw [ef.out] at X
  refine X.mono ?_
  clear X T0
  rintro e w4 ⟨rfl, T1, _⟩
  go_wp2_with fail
  refine (few_c A n c _ hn hc).mono ?_
  rintro e w5 ⟨rfl, rfl⟩
  go_wp2_with fail
  have HM := Lib.hid (And.intro hmaxx (And.intro hc hx))
  clear hwf ef hx
  obtain ⟨N, hN⟩ : ∃ N, N = min n 60 := ⟨_, rfl⟩
  have hNn : N ≤ n := by omega
  have hN60 : N ≤ 60 := by omega
  rw [← hN]
  clear hN
  go_loopw [38, 7] (fun i lf wi => ∃ (k : Nat) (l : Int), k ≤ N ∧ i = .int .i64 (k : Int) ∧ lf = .int .i64 l ∧ -(k : Int) ≤ l ∧ l < 256 ∧ ∃ A1 c1 S A2 c2 T, Two w wi g m A1 c1 S g' m' A2 c2 T ∧ Miss l S T ∧ T.ops ≤ k) (fun i _ _ => N - (intOf i).toNat)
  case atStart => exact ⟨0, x, by omega, rfl, rfl, by omega, by have := HM.out.2.2; omega, none, 0, _, none, 0, _, T1, miss_start x, by exact Nat.le_refl _⟩
  case round =>
    clear T1
    obtain ⟨k, l, hk, rfl, rfl, hl0, hl1, A1, c1, S, A2, c2, T, TW, MI, hops⟩ := hrel
    by_cases hkn : k < N
    · have hkZ : (k : Int) < (N : Int) := by omega
      obtain ⟨ga, oa, kd, a, K, ck, rfl, hca, hkind, _, _, _, _, _⟩ := HA.out k (by omega)
      replace hca := hca.keep TW.L.mm (by simp)
      go_wp2_with (first
        | (with_reducible refine wpList_loads (o := ⟨some 41, .load 49 (.tmp 40), _, _, _, _⟩) rfl 49 (.tmp 40) rfl ga (oa + k * 5) _ rfl hca _ Try.underlying49 rfl (by rw [dv_length]; exact size49) (.agg (dv kd a K ck).toArray) rfl ?_)
        | (with_reducible refine wpList_allocs (o := ⟨some 9, .alloc 49, _, _, _, _⟩) rfl 49 rfl _ zero49 ?_; intro wa hba ma za; replace za := Lib.hid za)
        | (with_reducible refine wpList_storesAll (o := ⟨none, .store 49 (.tmp 9) (.tmp 41), _, _, _, _⟩) rfl 49 (.tmp 9) (.tmp 41) rfl rfl wr.heap.size (dv kd a K ck) rfl (.agg (dv kd a K ck).toArray) rfl rfl 49 _ hba rfl (dv_one kd a K ck) (by rw [dv_length]; exact size49) ?_; intro wb hbb mb zb; replace zb := Lib.hid zb
           have mx : Mod [] wr wb := ma.trans mb (fun i hi h => by simp at h; omega)
           replace TW := TW.keep mx
           clear mx hba mb zb za ma hca)
        | (with_reducible refine wpList_loads (o := ⟨some 42, .load 49 (.tmp 9), _, _, _, _⟩) rfl 49 (.tmp 9) rfl wr.heap.size 0 _ rfl (Cells.of_holds hbb) _ Try.underlying49 rfl (by rw [dv_length]; exact size49) (.agg (dv kd a K ck).toArray) rfl ?_))
      refine (asks_c kd a K ck _ hkind).mono ?_
      rintro e wc ⟨rfl, mc⟩
      replace TW := TW.keep mc
      replace hbb := hbb.keep mc (by simp)
      obtain ⟨b9, e9⟩ : ∃ b, b = wr.heap.size := ⟨_, rfl⟩
      rw [← e9] at hbb ⊢
      clear mc e9
      have MS := fun h3 => MI.step a h3
      by_cases hk3 : a.kind < 3
      · obtain ⟨M1, M2, M3⟩ := MS hk3
        clear MS
        have hd3 : decide (a.kind < 3) = true := decide_eq_true hk3
        rw [hd3]
        by_cases hP : a.kind = 2 ∨ 0 ≤ a.at_ ∧ a.at_ < 5
        · have hdP : decide (a.kind = 2 ∨ 0 ≤ a.at_ ∧ a.at_ < 5) = true := decide_eq_true hP
          by_cases hl : l = 0
          · skip
            obtain ⟨d', q1, MI'⟩ := M2 hP hl
            clear M1 M2 M3
            subst hl

            have X := act3_c S g m A1 c1 kd a K ck _ TW.L.D hkind hk3 (by have := MI.ops; omega)
            rw [q1] at X
            go_wp2_with (first
              | (with_reducible refine wpList_loads (o := ⟨some 47, .load 49 (.tmp 9), _, _, _, _⟩) rfl 49 (.tmp 9) rfl b9 0 _ rfl (Cells.of_holds hbb) _ Try.underlying49 rfl (by rw [dv_length]; exact size49) (.agg (dv kd a K ck).toArray) rfl ?_))
            refine X.mono ?_
            clear X
            rintro e wd ⟨rfl, A3, c3, Dd, did⟩
            obtain ⟨TW2, kp⟩ := TW.did Dd did
            replace hbb := kp _ _ _ (by decide) (by decide) hbb
            clear TW kp Dd did
            go_wp2_with (first
              | (with_reducible refine wpList_allocs (o := ⟨some 11, .alloc 39, _, _, _, _⟩) rfl 39 rfl _ zero39 ?_; intro we hbe me ze; replace ze := Lib.hid ze)
              | (with_reducible refine wpList_storesAll (o := ⟨none, .store 39 (.tmp 11) (.tmp 50), _, _, _, _⟩) rfl 39 (.tmp 11) (.tmp 50) rfl rfl wd.heap.size (bc (fil 0)) rfl (bv (fil 0)) rfl rfl 39 _ hbe (by simp only [bc_length]) (bc_one _) (by rw [bc_length]; exact size39) ?_; intro wf hbf mf zf; replace zf := Lib.hid zf
                 have mx : Mod [] wd wf := me.trans mf (fun i hi h => by simp at h; omega)
                 replace TW2 := TW2.keep mx
                 replace hbb := hbb.keep mx (by simp)
                 clear mx hbe mf zf ze me)
              | (with_reducible refine wpList_loads (o := ⟨some 52, .load 49 (.tmp 9), _, _, _, _⟩) rfl 49 (.tmp 9) rfl b9 0 _ rfl (Cells.of_holds hbb) _ Try.underlying49 rfl (by rw [dv_length]; exact size49) (.agg (dv kd a K ck).toArray) rfl ?_))
            refine (there_c kd a K ck _ hkind).mono ?_
            rw [hdP]
            rintro e wg ⟨rfl, mg⟩
            replace TW2 := TW2.keep mg
            replace hbb := hbb.keep mg (by simp)
            replace hbf := hbf.keep mg (by simp)
            obtain ⟨b11, e11⟩ : ∃ b, b = wd.heap.size := ⟨_, rfl⟩
            rw [← e11] at hbf ⊢
            clear mg e11

            go_wp2_with (first
              | (with_reducible refine wpList_loads (o := ⟨some 56, .load 49 (.tmp 9), _, _, _, _⟩) rfl 49 (.tmp 9) rfl b9 0 _ rfl (Cells.of_holds hbb) _ Try.underlying49 rfl (by rw [dv_length]; exact size49) (.agg (dv kd a K ck).toArray) rfl ?_))
            refine (there_c kd a K ck _ hkind).mono ?_
            rw [hdP]
            rintro e wh ⟨rfl, mh⟩
            replace TW2 := TW2.keep mh
            replace hbb := hbb.keep mh (by simp)
            replace hbf := hbf.keep mh (by simp)
            clear mh

            go_wp2_with (first
              | (with_reducible refine wpList_loadsW (o := ⟨some 65, .load 39 (.tmp 11), _, _, _, _⟩) (by with_unfolding_all rfl) 39 (.tmp 11) rfl b11 0 _ rfl (Cells.of_holds hbf) _ Try.underlying39 rfl (by rw [bc_length]; exact size39) (bv (fil 0)) rfl ?_)
              | (with_reducible refine wpList_ranW (o := ⟨some 66, .build 39 #[], _, _, _, _⟩) (by with_unfolding_all rfl) (bv (fil 0)) _ (exec_zero39 rfl) ?_)
              | (with_reducible refine wpList_ranW (o := ⟨some 67, .binOp .neq 39 (.tmp 65) (.tmp 66) 39, _, _, _, _⟩) (by with_unfolding_all rfl) (.bool false) _ (exec_neq39 (b := fil 0) rfl rfl rfl) ?_))
            exact ⟨⟨k + 1, -1, by omega, by go_num, rfl, by omega, by decide, A3, c3, d', A2, c2, T, TW2, MI', by omega⟩, by simp [intOf]; omega⟩
          · skip
            obtain ⟨B, E, d', t', q1, q2, MI'⟩ := M3 hP hl
            have hto : t'.ops ≤ k + 1 := by have := ops_step T a hk3; rw [q2] at this; exact Nat.le_trans this (by omega)
            clear M1 M2 M3
            have hl2 : l - 1 ≠ -1 := by omega

            have X := act3_c S g m A1 c1 kd a K ck _ TW.L.D hkind hk3 (by have := MI.ops; omega)
            rw [q1] at X
            go_wp2_with (first
              | (with_reducible refine wpList_loads (o := ⟨some 47, .load 49 (.tmp 9), _, _, _, _⟩) rfl 49 (.tmp 9) rfl b9 0 _ rfl (Cells.of_holds hbb) _ Try.underlying49 rfl (by rw [dv_length]; exact size49) (.agg (dv kd a K ck).toArray) rfl ?_))
            refine X.mono ?_
            clear X
            rintro e wd ⟨rfl, A3, c3, Dd, did⟩
            obtain ⟨TW2, kp⟩ := TW.did Dd did
            replace hbb := kp _ _ _ (by decide) (by decide) hbb
            clear TW kp Dd did
            go_wp2_with (first
              | (with_reducible refine wpList_allocs (o := ⟨some 11, .alloc 39, _, _, _, _⟩) rfl 39 rfl _ zero39 ?_; intro we hbe me ze; replace ze := Lib.hid ze)
              | (with_reducible refine wpList_storesAll (o := ⟨none, .store 39 (.tmp 11) (.tmp 50), _, _, _, _⟩) rfl 39 (.tmp 11) (.tmp 50) rfl rfl wd.heap.size (bc B) rfl (bv B) rfl rfl 39 _ hbe (by simp only [bc_length]) (bc_one _) (by rw [bc_length]; exact size39) ?_; intro wf hbf mf zf; replace zf := Lib.hid zf
                 have mx : Mod [] wd wf := me.trans mf (fun i hi h => by simp at h; omega)
                 replace TW2 := TW2.keep mx
                 replace hbb := hbb.keep mx (by simp)
                 clear mx hbe mf zf ze me)
              | (with_reducible refine wpList_loads (o := ⟨some 52, .load 49 (.tmp 9), _, _, _, _⟩) rfl 49 (.tmp 9) rfl b9 0 _ rfl (Cells.of_holds hbb) _ Try.underlying49 rfl (by rw [dv_length]; exact size49) (.agg (dv kd a K ck).toArray) rfl ?_))
            refine (there_c kd a K ck _ hkind).mono ?_
            rw [hdP]
            rintro e wg ⟨rfl, mg⟩
            replace TW2 := TW2.keep mg
            replace hbb := hbb.keep mg (by simp)
            replace hbf := hbf.keep mg (by simp)
            obtain ⟨b11, e11⟩ : ∃ b, b = wd.heap.size := ⟨_, rfl⟩
            rw [← e11] at hbf ⊢
            clear mg e11

            go_wp2_with (first
              | (with_reducible refine wpList_loads (o := ⟨some 56, .load 49 (.tmp 9), _, _, _, _⟩) rfl 49 (.tmp 9) rfl b9 0 _ rfl (Cells.of_holds hbb) _ Try.underlying49 rfl (by rw [dv_length]; exact size49) (.agg (dv kd a K ck).toArray) rfl ?_))
            refine (there_c kd a K ck _ hkind).mono ?_
            rw [hdP]
            rintro e wh ⟨rfl, mh⟩
            replace TW2 := TW2.keep mh
            replace hbb := hbb.keep mh (by simp)
            replace hbf := hbf.keep mh (by simp)
            clear mh

            have X := act3_c T g' m' A2 c2 kd a K ck _ TW2.R.D hkind hk3 (by omega)
            rw [q2] at X
            go_wp2_with (first
              | (with_reducible refine wpList_loads (o := ⟨some 71, .load 49 (.tmp 9), _, _, _, _⟩) rfl 49 (.tmp 9) rfl b9 0 _ rfl (Cells.of_holds hbb) _ Try.underlying49 rfl (by rw [dv_length]; exact size49) (.agg (dv kd a K ck).toArray) rfl ?_))
            refine X.mono ?_
            clear X
            rintro e wj ⟨rfl, A4, c4, Dd, did⟩
            obtain ⟨TW3, kp⟩ := TW2.swap.did Dd did
            replace TW3 := TW3.swap
            replace hbf := kp _ _ _ (by decide) (by decide) hbf
            clear TW2 kp Dd did hbb
            go_wp2_with (first
              | (with_reducible refine wpList_allocs (o := ⟨some 14, .alloc 39, _, _, _, _⟩) rfl 39 rfl _ zero39 ?_; intro wk hbk mk zk; replace zk := Lib.hid zk)
              | (with_reducible refine wpList_storesAll (o := ⟨none, .store 39 (.tmp 14) (.tmp 74), _, _, _, _⟩) rfl 39 (.tmp 14) (.tmp 74) rfl rfl wj.heap.size (bc B) rfl (bv B) rfl rfl 39 _ hbk (by simp only [bc_length]) (bc_one _) (by rw [bc_length]; exact size39) ?_; intro wl hbl ml zl; replace zl := Lib.hid zl
                 have mx : Mod [] wj wl := mk.trans ml (fun i hi h => by simp at h; omega)
                 replace TW3 := TW3.keep mx
                 replace hbf := hbf.keep mx (by simp)
                 clear mx hbk ml zl zk mk)
              | (with_reducible refine wpList_loads (o := ⟨some 76, .load 39 (.tmp 11), _, _, _, _⟩) rfl 39 (.tmp 11) rfl b11 0 _ rfl (Cells.of_holds hbf) _ Try.underlying39 rfl (by rw [bc_length]; exact size39) (bv B) rfl ?_)
              | (with_reducible refine wpList_loads (o := ⟨some 77, .load 39 (.tmp 14), _, _, _, _⟩) rfl 39 (.tmp 14) rfl wj.heap.size 0 _ rfl (Cells.of_holds hbl) _ Try.underlying39 rfl (by rw [bc_length]; exact size39) (bv B) rfl ?_)
              | (with_reducible refine wpList_ranW (o := ⟨some 78, .binOp .neq 39 (.tmp 76) (.tmp 77) 39, _, _, _, _⟩) (by with_unfolding_all rfl) (.bool false) _ (exec_neq39 (b := B) rfl rfl rfl) ?_))
            exact ⟨⟨k + 1, l - 1, by omega, by go_num, by go_num, by omega, by omega, A3, c3, d', A4, c4, t', TW3, MI', hto⟩, by simp [intOf]; omega⟩
        · have hdP : decide (a.kind = 2 ∨ 0 ≤ a.at_ ∧ a.at_ < 5) = false := decide_eq_false hP
          obtain ⟨q1, q2⟩ := M1 hP
          clear M1 M2 M3

          have X := act3_c S g m A1 c1 kd a K ck _ TW.L.D hkind hk3 (by have := MI.ops; omega)
          rw [q1] at X
          go_wp2_with (first
            | (with_reducible refine wpList_loads (o := ⟨some 47, .load 49 (.tmp 9), _, _, _, _⟩) rfl 49 (.tmp 9) rfl b9 0 _ rfl (Cells.of_holds hbb) _ Try.underlying49 rfl (by rw [dv_length]; exact size49) (.agg (dv kd a K ck).toArray) rfl ?_))
          refine X.mono ?_
          clear X
          rintro e wd ⟨rfl, A3, c3, Dd, did⟩
          obtain ⟨TW2, kp⟩ := TW.did Dd did
          replace hbb := kp _ _ _ (by decide) (by decide) hbb
          clear TW kp Dd did
          go_wp2_with (first
            | (with_reducible refine wpList_allocs (o := ⟨some 11, .alloc 39, _, _, _, _⟩) rfl 39 rfl _ zero39 ?_; intro we hbe me ze; replace ze := Lib.hid ze)
            | (with_reducible refine wpList_storesAll (o := ⟨none, .store 39 (.tmp 11) (.tmp 50), _, _, _, _⟩) rfl 39 (.tmp 11) (.tmp 50) rfl rfl wd.heap.size (bc (fil 0)) rfl (bv (fil 0)) rfl rfl 39 _ hbe (by simp only [bc_length]) (bc_one _) (by rw [bc_length]; exact size39) ?_; intro wf hbf mf zf; replace zf := Lib.hid zf
               have mx : Mod [] wd wf := me.trans mf (fun i hi h => by simp at h; omega)
               replace TW2 := TW2.keep mx
               replace hbb := hbb.keep mx (by simp)
               clear mx hbe mf zf ze me)
            | (with_reducible refine wpList_loads (o := ⟨some 52, .load 49 (.tmp 9), _, _, _, _⟩) rfl 49 (.tmp 9) rfl b9 0 _ rfl (Cells.of_holds hbb) _ Try.underlying49 rfl (by rw [dv_length]; exact size49) (.agg (dv kd a K ck).toArray) rfl ?_))
          refine (there_c kd a K ck _ hkind).mono ?_
          rw [hdP]
          rintro e wg ⟨rfl, mg⟩
          replace TW2 := TW2.keep mg
          replace hbb := hbb.keep mg (by simp)
          replace hbf := hbf.keep mg (by simp)
          obtain ⟨b11, e11⟩ : ∃ b, b = wd.heap.size := ⟨_, rfl⟩
          rw [← e11] at hbf ⊢
          clear mg e11

          go_wp2_with (first
            | (with_reducible refine wpList_loads (o := ⟨some 56, .load 49 (.tmp 9), _, _, _, _⟩) rfl 49 (.tmp 9) rfl b9 0 _ rfl (Cells.of_holds hbb) _ Try.underlying49 rfl (by rw [dv_length]; exact size49) (.agg (dv kd a K ck).toArray) rfl ?_))
          refine (there_c kd a K ck _ hkind).mono ?_
          rw [hdP]
          rintro e wh ⟨rfl, mh⟩
          replace TW2 := TW2.keep mh
          replace hbb := hbb.keep mh (by simp)
          replace hbf := hbf.keep mh (by simp)
          clear mh

          have X := act3_c T g' m' A2 c2 kd a K ck _ TW2.R.D hkind hk3 (by omega)
          rw [q2] at X
          go_wp2_with (first
            | (with_reducible refine wpList_loads (o := ⟨some 71, .load 49 (.tmp 9), _, _, _, _⟩) rfl 49 (.tmp 9) rfl b9 0 _ rfl (Cells.of_holds hbb) _ Try.underlying49 rfl (by rw [dv_length]; exact size49) (.agg (dv kd a K ck).toArray) rfl ?_))
          refine X.mono ?_
          clear X
          rintro e wj ⟨rfl, A4, c4, Dd, did⟩
          obtain ⟨TW3, kp⟩ := TW2.swap.did Dd did
          replace TW3 := TW3.swap
          replace hbf := kp _ _ _ (by decide) (by decide) hbf
          clear TW2 kp Dd did hbb
          go_wp2_with (first
            | (with_reducible refine wpList_allocs (o := ⟨some 14, .alloc 39, _, _, _, _⟩) rfl 39 rfl _ zero39 ?_; intro wk hbk mk zk; replace zk := Lib.hid zk)
            | (with_reducible refine wpList_storesAll (o := ⟨none, .store 39 (.tmp 14) (.tmp 74), _, _, _, _⟩) rfl 39 (.tmp 14) (.tmp 74) rfl rfl wj.heap.size (bc (fil 0)) rfl (bv (fil 0)) rfl rfl 39 _ hbk (by simp only [bc_length]) (bc_one _) (by rw [bc_length]; exact size39) ?_; intro wl hbl ml zl; replace zl := Lib.hid zl
               have mx : Mod [] wj wl := mk.trans ml (fun i hi h => by simp at h; omega)
               replace TW3 := TW3.keep mx
               replace hbf := hbf.keep mx (by simp)
               clear mx hbk ml zl zk mk)
            | (with_reducible refine wpList_loads (o := ⟨some 76, .load 39 (.tmp 11), _, _, _, _⟩) rfl 39 (.tmp 11) rfl b11 0 _ rfl (Cells.of_holds hbf) _ Try.underlying39 rfl (by rw [bc_length]; exact size39) (bv (fil 0)) rfl ?_)
            | (with_reducible refine wpList_loads (o := ⟨some 77, .load 39 (.tmp 14), _, _, _, _⟩) rfl 39 (.tmp 14) rfl wj.heap.size 0 _ rfl (Cells.of_holds hbl) _ Try.underlying39 rfl (by rw [bc_length]; exact size39) (bv (fil 0)) rfl ?_)
            | (with_reducible refine wpList_ranW (o := ⟨some 78, .binOp .neq 39 (.tmp 76) (.tmp 77) 39, _, _, _, _⟩) (by with_unfolding_all rfl) (.bool false) _ (exec_neq39 (b := (fil 0)) rfl rfl rfl) ?_))
          exact ⟨⟨k + 1, l, by omega, by go_num, rfl, by omega, hl1, A3, c3, S, A4, c4, T, TW3, MI, by omega⟩, by simp [intOf]; omega⟩
      · clear MS
        have hd3 : decide (a.kind < 3) = false := decide_eq_false hk3
        rw [hd3]
        go_wp2_with fail
        exact ⟨⟨k + 1, l, by omega, by go_num, rfl, by omega, hl1, A1, c1, S, A2, c2, T, TW, MI, by omega⟩, by simp [intOf]; omega⟩
    · obtain rfl : N = k := by omega
      have hT : T.ops ≤ 60 := by omega
      have hS : S.ops ≤ 60 := by have := MI.ops; omega
      have eT : told T 5 = told S 5 := by unfold told St.holds; rw [MI.firm, MI.loose]
      have eO : T.ops = S.ops := MI.ops.symm
      have eL : T.loose = S.loose := MI.loose.symm
      have eD : S.dead = false := MI.dd
      have eD' : T.dead = false := MI.td
      have X := content_c S g m A1 c1 wr TW.L.D MI.dd MI.dn (by omega)
      have Y := fun v (D : DAt v g' m' A2 c2 T) => content_c T g' m' A2 c2 v D MI.td MI.tn (by omega)
      rw [eT] at Y
      have HE := Lib.hid (And.intro eO (And.intro eL (And.intro eD eD')))
      clear eT eO eL eD eD' MI hT hS
      go_wp2_with fail
      refine X.mono ?_
      clear X
      rintro e wm ⟨rfl, mm⟩
      replace TW := TW.keep mm
      clear mm
      have Z := Y wm TW.R.D
      clear Y
      go_wp2_with fail
      refine Z.mono ?_
      clear Z
      rintro e wn ⟨rfl, mn⟩
      replace TW := TW.keep mn
      clear mn
      have o1 := (dc_cells TW.L.D.blk).2.2.2.2.2.2
      have o2 := (dc_cells TW.R.D.blk).2.2.2.2.2.2
      rw [HE.out.1] at o2
      have O1 := ops_c g _ wn o1
      have O2 := ops_c g' _ wn o2
      clear o1 o2
      have hl5 : (told S 5).length = 5 := rfl
      generalize told S 5 = B5 at hl5
      go_wp2_with (first
        | (with_reducible refine wpList_ranW (o := ⟨some 89, .binOp .eql 61 (.tmp 86) (.tmp 88) 61, _, _, _, _⟩) (by with_unfolding_all rfl) (.bool true) _ (exec_eql61 (L := B5) hl5 rfl rfl rfl) ?_)
        | (go_at_call 27; refine O1.mono ?_; clear O1; rintro e wo ⟨rfl, rfl⟩)
        | (go_at_call 27; refine O2.mono ?_; clear O2; rintro e wp ⟨rfl, rfl⟩))
      have P1 := pending_c S g m A1 c1 S.loose.length _ TW.L.D rfl
      refine P1.mono ?_
      clear P1
      rintro e wq ⟨gp, rfl, _, mq, _⟩
      replace TW := TW.keep mq
      clear mq
      go_wp2_with fail
      have P2 := pending_c T g' m' A2 c2 S.loose.length _ TW.R.D (by rw [HE.out.2.1])
      refine P2.mono ?_
      clear P2
      rintro e ws ⟨gq, rfl, _, ms, _⟩
      replace TW := TW.keep ms
      clear ms
      have o3 := (dc_cells TW.L.D.blk).2.2.2.1
      rw [HE.out.2.2.1] at o3
      have O3 := dead_c g _ ws o3
      go_wp2_with (first
        | (go_at_call 28; refine O3.mono ?_; clear O3; rintro e wt ⟨rfl, rfl⟩))
      go_ret
      exact ⟨rfl, TW.L.mm⟩
end Go.Proofs.Ytpdpahkhfilmpaa
