/-
  Share, Back, ShareGroup, BackGroup, Next. My own work.
-/
import Derived.Test.YtaadmpainikfpaaWp
namespace Go.Proofs.Ytaadmpainikfpaa
open Go.RowKit Go.Shelf
attribute [local go_sem] Oper.semAt_some
set_option linter.unusedVariables false
set_option linter.unusedSimpArgs false
theorem isOther_c {w : World} {S : Nat → Prop} {p : Pm} {cs : List Value} (h : PIs w S p cs) (u : Int) (b : Bool) (hb : Hid (p.other u = b)) : Calls Try.prog 39 #[ci u, .agg cs.toArray] w fun e w' => e = .returned (.bool b) ∧ Mod [] w w' := by
  obtain ⟨A1, c1, A2, c2, A3, c3, rfl, _⟩ := h
  obtain ⟨o, e, l1, l2, l3⟩ := p
  have hr := hb.out
  simp only [Pm.other, upTo_and] at hr
  obtain ⟨b1, hb1⟩ : ∃ x, upTo u 6 = x := ⟨_, rfl⟩
  rw [hb1] at hr
  have B1 := Lib.hid hb1
  clear hb hb1
  by_cases hu : u = o
  · have e1 : (u == o) = true := beq_iff_eq.2 hu
    have e2 : (u != o) = false := by simp [hu]
    obtain rfl : false = b := by rw [← hr, e1]; simp
    clear hr hu
    cases b1
    all_goals
      go_enter Try.func39, Try.ntmps39
      go_wp2_with (go_at_call 30; refine (isUser_c u _ B1 _).mono ?_; rintro r w' ⟨rfl, rfl⟩)
      go_ret
      exact ⟨rfl, Mod.alloc [] w _⟩
  · have e1 : (u == o) = false := beq_eq_false_iff_ne.2 hu
    have e2 : (u != o) = true := by simp [hu]
    obtain rfl : b1 = b := by rw [← hr, e1]; simp
    clear hr hu
    cases b1
    all_goals
      go_enter Try.func39, Try.ntmps39
      go_wp2_with (go_at_call 30; refine (isUser_c u _ B1 _).mono ?_; rintro r w' ⟨rfl, rfl⟩)
      go_ret
      exact ⟨rfl, Mod.alloc [] w _⟩
section
variable {o : Oper} {ρ : Operand → Value} {v : World} {f : FuncId}
theorem exec_mk1 {x : Operand} {X : Value} (ho : o.op = .makeFunc (.func f) #[] #[x]) (hx : ρ x = X) : (execOp ρ o).run Try.prog v = .ok (.value (.func (.func f) #[] #[X])) v := by
  unfold execOp
  simp [ho, hx, go_sem]
theorem exec_mk2 {x y : Operand} {X Y : Value} (ho : o.op = .makeFunc (.func f) #[] #[x, y]) (hx : ρ x = X) (hy : ρ y = Y) : (execOp ρ o).run Try.prog v = .ok (.value (.func (.func f) #[] #[X, Y])) v := by
  unfold execOp
  simp [ho, hx, hy, go_sem]
theorem exec_extract0 {x : Operand} {A B : Value} (ho : o.op = .extract x 0) (hx : ρ x = .tuple #[A, B]) : (execOp ρ o).run Try.prog v = .ok (.value A) v := by
  unfold execOp
  simp [ho, hx, go_sem]
theorem exec_extract1 {x : Operand} {A B : Value} (ho : o.op = .extract x 1) (hx : ρ x = .tuple #[A, B]) : (execOp ρ o).run Try.prog v = .ok (.value B) v := by
  unfold execOp
  simp [ho, hx, go_sem]
theorem exec_call4 {P : Program} {a b c d : Operand} {A B C D : Value} {ts : Array TypeId} (ho : o.op = .call { callee := .value (.func f), args := #[a, b, c, d], argTypes := ts }) (hf : ρ (.func f) = .func (.func f) #[] #[]) (ha : ρ a = A) (hb : ρ b = B) (hc : ρ c = C) (hd : ρ d = D) (he : ∀ args w, (callFunc f args).run P w = .ok (.enter f args) w) : (execOp ρ o).run P v = .ok (.enter f #[A, B, C, D]) v := by
  unfold execOp
  simp [ho, resolve, invoke, go_sem, hf, ha, hb, hc, hd, he]
end
/-- What lies while a change is asked for. -/
def AskS (w : World) (b8 : Nat) (rest ts : List Th) (r : Int × Pm) (l6 l9 : Bool) (x : List Value) (v : World) : Prop :=
  if l9 then ∃ S, (∀ g, S g → w.heap.size ≤ g) ∧ Fm w v (oB b8 24 x :: rest) (tP S r.2 x :: ts)
  else if l6 then ∃ S, (∀ g, S g → w.heap.size ≤ g) ∧ Fm w v (oB b8 24 zpm :: rest) (tP S r.2 x :: ts)
  else Fm w v (oB b8 24 zpm :: rest) ts
theorem AskS.fm {w : World} {b8 : Nat} {rest ts : List Th} {r : Int × Pm} {l6 l9 : Bool} {x : List Value} {v : World} (h : AskS w b8 rest ts r l6 l9 x v) : ∃ c ts', Fm w v (oB b8 24 c :: rest) ts' := by
  unfold AskS at h
  split at h
  · obtain ⟨S, _, F⟩ := h; exact ⟨_, _, F⟩
  · split at h
    · obtain ⟨S, _, F⟩ := h; exact ⟨_, _, F⟩
    · exact ⟨_, _, h⟩
theorem AskS.call {w : World} {b8 : Nat} {rest ts : List Th} {r : Int × Pm} {l6 l9 : Bool} {x : List Value} {v v' : World} (h : AskS w b8 rest ts r l6 l9 x v) (m : Mod [] v v') : AskS w b8 rest ts r l6 l9 x v' := by
  unfold AskS at h ⊢
  split
  · rename_i h9
    rw [if_pos h9] at h
    obtain ⟨S, hS, F⟩ := h
    exact ⟨S, hS, F.call m⟩
  · rename_i h9
    rw [if_neg h9] at h
    split
    · rename_i h6
      rw [if_pos h6] at h
      obtain ⟨S, hS, F⟩ := h
      exact ⟨S, hS, F.call m⟩
    · rename_i h6
      rw [if_neg h6] at h
      exact h.call m
theorem wp_storedO {w0 v : World} {os ts : List Th} {o : Oper} {ops : Array Oper} {T : Act} {Kq : Act → World → Prop} {Q : Exit → Act → World → Prop} {E : Prop} {x y : Operand} {b : Nat} {old cs : List Value} (F : Fm w0 v os ts) (i : Nat) (hi : os[i]? = some (oB b 24 old)) (hg : o.guard = none) (ho : o.op = .store 24 x y) (hdst : o.dst = none) (hx : T.eval x = .pointer (some ⟨b, 0, none⟩)) (hy : T.eval y = .agg cs.toArray) (h5 : cs.length = 5) (ho5 : old.length = 5) (h1 : ∀ v ∈ cs, v.oneCell' = true)
    (hK : ∀ v', Fm w0 v' (os.set i (oB b 24 cs)) ts → Kq (T.put o.dst undef) v') : if Region.wanted o (yielded ops T.tmps) = true then o.wp Try.prog T v Kq Q else E := by
  exact wp_stored hg ho hx hy rfl (F.blk i hi) (by omega) h1 (size24' h5) fun v' q1 q2 => hK v' (F.turn q2 i hi (fun g hg => List.mem_singleton.1 hg) _ (keeps_oB _ _ _) q1 fun g hg => ⟨.inl hg, by have : g = b := hg; have := q1.lt; omega⟩)

theorem begun_zp {p : Pm} (h : (begun p).1 ≠ 0) : (begun p).2 = zp := by
  unfold begun at h ⊢
  split
  · rfl
  · rename_i hc
    rw [if_neg hc] at h
    exact absurd rfl h
theorem backed_zp {p : Pm} {u : Int} (h : (backed p u).1 ≠ 0) : (backed p u).2 = zp := by
  unfold backed at h ⊢
  split
  · rename_i hc
    rw [if_pos hc] at h
    exact begun_zp h
  · rfl
theorem backedG_zp {p : Pm} {u : Int} (h : (backedG p u).1 ≠ 0) : (backedG p u).2 = zp := by
  unfold backedG at h ⊢
  split
  · rename_i hc
    rw [if_pos hc] at h
    exact begun_zp h
  · rfl
theorem sharedG_zp {p : Pm} {u : Int} (h : (sharedG p u).1 ≠ 0) : (sharedG p u).2 = zp := by
  unfold sharedG at h ⊢
  split
  · rfl
  · rename_i hc
    rw [if_neg hc] at h
    exact absurd rfl h
theorem shared_zp {p : Pm} {u : Int} {wr : Bool} (h : (shared p u wr).1 ≠ 0) : (shared p u wr).2 = zp := by
  unfold shared at h ⊢
  split
  · rfl
  · rename_i hc
    rw [if_neg hc] at h
    exact absurd rfl h
set_option maxRecDepth 100000 in
set_option maxHeartbeats 8000000 in
theorem share_p {w : World} {S : Nat → Prop} {p : Pm} {cs : List Value} (h : PIs w S p cs) (hS : ∀ g, S g → g < w.heap.size) (by_ who : Int) (wr : Bool) : Calls Try.prog 22 #[.agg cs.toArray, ci by_, ci who, .bool wr] w (ResR (byOwner p by_ (p.other who) (shared p who wr)) w) := by
  have h5 := h.len
  have h1 := h.one
  have FA := (Fm.nil w).arg (tP S p cs) (keeps_tP _ _ _) h hS
  obtain ⟨ts, hts⟩ : ∃ ts, ts = [tP S p cs] := ⟨_, rfl⟩
  rw [← hts] at FA
  have hTS := Lib.hid hts
  obtain ⟨can, hcan⟩ : ∃ c, p.other who = c := ⟨_, rfl⟩
  have HCAN : Hid (p.other who = can) := Lib.hid hcan
  rw [hcan]
  have hz : (shared p who wr).1 ≠ 0 → (shared p who wr).2 = zp := shared_zp
  have BIG : Hid (∀ (v : World) (b4 b5 b7 b8 : Nat), Fm w v (oB b8 24 zpm :: [oB b7 4 [.bool wr], oB b5 3 [ci who], oB b4 24 cs]) ts → Calls Try.prog 38 #[ci by_, .agg cs.toArray, .bool can, .func (.func 40) #[] #[.pointer (some ⟨b5, 0, none⟩), .pointer (some ⟨b7, 0, none⟩)]] v (ResR (byOwner p by_ can (shared p who wr)) v)) := Lib.hid fun v b4 b5 b7 b8 F => by
    have F2 := F.anew
    refine changedBy40_c (S := S) (List.mem_append_right _ (by rw [hTS.out]; simp)) F2 by_ can (fun p => shared p who wr) (fun w0 v2 b os ts' hin hPO hr => ?_) hz
    exact share_c who wr hPO (hin _ (List.mem_append_left _ (by simp))) (hin _ (List.mem_append_left _ (by simp))) hr
  obtain ⟨r, hr⟩ : ∃ r, byOwner p by_ can (shared p who wr) = r := ⟨_, rfl⟩
  rw [hr] at BIG ⊢
  clear h hts hcan hz hr
  go_enter Try.func22, Try.ntmps22
  go_wp2_with (first
    | (with_reducible refine fm_box FA (o := ⟨some 4, .box 24 (.tmp 0), _, _, _, _⟩) rfl 24 (.tmp 0) rfl cs rfl ?_; intro b4 w1 F1; clear FA)
    | (with_reducible refine fm_box1 F1 (o := ⟨some 6, .box 3 (.tmp 2), _, _, _, _⟩) rfl 3 (.tmp 2) rfl (ci who) rfl rfl ?_; intro b5 w2 F2; clear F1)
    | (with_reducible refine fm_box1 F2 (o := ⟨some 7, .box 4 (.tmp 3), _, _, _, _⟩) rfl 4 (.tmp 3) rfl (.bool wr) rfl rfl ?_; intro b7 w3 F3; clear F2)
    | (with_reducible refine fm_alloc F3 (o := ⟨some 8, .alloc 24, _, _, _, _⟩) rfl 24 rfl _ zero24 ?_; intro b8 w4 F9; clear F3))
  have HBIG : Hid (∀ (v : World), Fm w v (oB b8 24 zpm :: [oB b7 4 [.bool wr], oB b5 3 [ci who], oB b4 24 cs]) ts → Calls Try.prog 38 #[ci by_, .agg cs.toArray, .bool can, .func (.func 40) #[] #[.pointer (some ⟨b5, 0, none⟩), .pointer (some ⟨b7, 0, none⟩)]] v (ResR r v)) := Lib.hid fun v F => BIG.out v b4 b5 b7 b8 F
  clear BIG
  refine wp_region_upx (X := List Value) ([]) (fun x => [(10, ci by_), (11, .agg cs.toArray), (12, ci who), (13, .agg cs.toArray), (14, .bool can), (15, .func (.func 40) #[] #[.pointer (some ⟨b5, 0, none⟩), .pointer (some ⟨b7, 0, none⟩)]), (16, .tuple #[.agg x.toArray, .int .i64 r.1]), (17, .agg x.toArray), (18, .int .i64 r.1), (9, .int .i64 r.1)]) 19 [10, 11, 12, 13, 14, 15, 16, 17, 18, 9] rfl (fun _ => rfl) (by decide) (by kernel_rfl) (fun x lz v => AskS w b8 [oB b7 4 [.bool wr], oB b5 3 [ci who], oB b4 24 cs] ts r (lz 6) (lz 9) x v) (by kernel_rfl) (by simpa [AskS] using F9.call (Mod.drew [] _)) (by kernel_rfl) (by kernel_rfl) ?_ ?_
  · skip
    intro x lz T v j o hj hlj hdep hst hpar hgot hcl Kq hK
    have hjn : j < 11 := (Array.getElem?_eq_some_iff.1 hj).1
    obtain rfl | rfl | rfl | rfl | rfl | rfl | rfl | rfl | rfl | rfl | rfl : j = 0 ∨ j = 1 ∨ j = 2 ∨ j = 3 ∨ j = 4 ∨ j = 5 ∨ j = 6 ∨ j = 7 ∨ j = 8 ∨ j = 9 ∨ j = 10 := by omega
    all_goals (have hj' := Option.some.inj (hj : some _ = some o); subst hj'; clear hj)
    · exact wp_ran rfl (exec_move rfl (eval_tmp ((hpar 1 rfl).trans rfl))) (hK x _ _ (fun _ _ _ _ _ _ => rfl) (fun s hs => by cases hs; rfl) (by simpa using hst))
    · obtain ⟨c0, ts0, F0'⟩ := hst.fm
      exact wp_ran rfl (exec_load rfl (eval_tmp ((hpar 4 rfl).trans rfl)) (run_loads (Cells.of_holds (F0'.blk 3 rfl)) Try.underlying24 rfl (size24' h5))) (hK x _ _ (fun _ _ _ _ _ _ => rfl) (fun s hs => by cases hs; rfl) (by simpa using hst))
    · obtain ⟨c0, ts0, F0'⟩ := hst.fm
      exact wp_ran rfl (exec_load rfl (eval_tmp ((hpar 6 rfl).trans rfl)) (run_load1 Try.underlying3 rfl ((F0'.blk 2 rfl).cell 0))) (hK x _ _ (fun _ _ _ _ _ _ => rfl) (fun s hs => by cases hs; rfl) (by simpa using hst))
    · obtain ⟨c0, ts0, F0'⟩ := hst.fm
      exact wp_ran rfl (exec_load rfl (eval_tmp ((hpar 4 rfl).trans rfl)) (run_loads (Cells.of_holds (F0'.blk 3 rfl)) Try.underlying24 rfl (size24' h5))) (hK x _ _ (fun _ _ _ _ _ _ => rfl) (fun s hs => by cases hs; rfl) (by simpa using hst))
    · have l6 : lz 6 = false := (by cases hh : lz 6 with | false => rfl | true => exact absurd (hcl 6 _ rfl hh ⟨4, .data⟩ (by simp) rfl) (by rw [hlj]; simp))
      have l9 : lz 9 = false := (by cases hh : lz 9 with | false => rfl | true => exact absurd (hcl 9 _ rfl hh ⟨4, .phase⟩ (by simp) rfl) (by rw [hlj]; simp))
      have F1 : Fm w v (oB b8 24 zpm :: [oB b7 4 [.bool wr], oB b5 3 [ci who], oB b4 24 cs]) ts := by simpa [AskS, l6, l9] using hst
      rw [hTS.out] at F1
      refine wp_called rfl (exec_call2 rfl rfl (eval_tmp (hgot 2 _ 12 rfl (hdep ⟨2, .data⟩ (by simp) rfl) rfl)) (eval_tmp (hgot 3 _ 13 rfl (hdep ⟨3, .data⟩ (by simp) rfl) rfl)) (enters_of Try.func39 (by kernel_rfl) rfl)) ((isOther_c (F1.s 0 rfl : PIs v S p cs) who _ HCAN).mono ?_)
      rintro e v' ⟨rfl, m⟩
      exact ⟨_, rfl, hK x _ _ (fun _ _ _ _ _ _ => rfl) (fun s hs => by cases hs; rfl) (by simpa using hst.call m)⟩
    · exact wp_ran rfl (exec_mk2 rfl (eval_tmp ((hpar 6 rfl).trans rfl)) (eval_tmp ((hpar 7 rfl).trans rfl))) (hK x _ _ (fun _ _ _ _ _ _ => rfl) (fun s hs => by cases hs; rfl) (by simpa using hst))
    · have l7 : lz 7 = false := (by cases hh : lz 7 with | false => rfl | true => exact absurd (hcl 7 _ rfl hh ⟨6, .data⟩ (by simp) rfl) (by rw [hlj]; simp))
      have l8 : lz 8 = false := (by cases hh : lz 8 with | false => rfl | true => exact absurd (hcl 8 _ rfl hh ⟨6, .data⟩ (by simp) rfl) (by rw [hlj]; simp))
      have l10 : lz 10 = false := (by cases hh : lz 10 with | false => rfl | true => exact absurd (hcl 10 _ rfl hh ⟨6, .phase⟩ (by simp) rfl) (by rw [hlj]; simp))
      have l9 : lz 9 = false := (by cases hh : lz 9 with | false => rfl | true => exact absurd (hcl 9 _ rfl hh ⟨6, .chain⟩ (by simp) rfl) (by rw [hlj]; simp))
      have F1 : Fm w v (oB b8 24 zpm :: [oB b7 4 [.bool wr], oB b5 3 [ci who], oB b4 24 cs]) ts := by simpa [AskS, hlj, l9] using hst
      refine wp_called rfl (exec_call4 rfl rfl (eval_tmp (hgot 0 _ 10 rfl (hdep ⟨0, .data⟩ (by simp) rfl) rfl)) (eval_tmp (hgot 1 _ 11 rfl (hdep ⟨1, .data⟩ (by simp) rfl) rfl)) (eval_tmp (hgot 4 _ 14 rfl (hdep ⟨4, .data⟩ (by simp) rfl) rfl)) (eval_tmp (hgot 5 _ 15 rfl (hdep ⟨5, .data⟩ (by simp) rfl) rfl)) (enters_of Try.func38 (by kernel_rfl) rfl)) ((HBIG.out v F1).mono ?_)
      rintro e v' ⟨cs6, rfl, hP6, m6⟩
      refine ⟨_, rfl, hK cs6 _ _ (fun j' o' s' g1 g2 g3 => by
          have g4 : j' < 11 := (Array.getElem?_eq_some_iff.1 g1).1
          clear hpar hgot hdep hK
          obtain rfl | rfl | rfl | rfl | rfl | rfl | rfl | rfl | rfl | rfl | rfl : j' = 0 ∨ j' = 1 ∨ j' = 2 ∨ j' = 3 ∨ j' = 4 ∨ j' = 5 ∨ j' = 6 ∨ j' = 7 ∨ j' = 8 ∨ j' = 9 ∨ j' = 10 := by omega
          all_goals (cases g1; cases g3 <;> first | rfl | (rw [hlj] at g2; cases g2) | (rw [l7] at g2; cases g2) | (rw [l8] at g2; cases g2) | (rw [l10] at g2; cases g2))) (fun s hs => by cases hs; rfl) ?_⟩
      have F2 : ∃ S, (∀ g, S g → w.heap.size ≤ g) ∧ Fm w v' (oB b8 24 zpm :: [oB b7 4 [.bool wr], oB b5 3 [ci who], oB b4 24 cs]) (tP S r.2 cs6 :: ts) := ⟨_, fun g hg => Nat.le_trans F1.m.size hg.1, F1.tell hP6 m6⟩
      simpa [AskS, l9] using F2
    · exact wp_ran rfl (exec_extract0 rfl (eval_tmp (hgot 6 _ 16 rfl (hdep ⟨6, .data⟩ (by simp) rfl) rfl))) (hK x _ _ (fun _ _ _ _ _ _ => rfl) (fun s hs => by cases hs; rfl) (by simpa using hst))
    · exact wp_ran rfl (exec_extract1 rfl (eval_tmp (hgot 6 _ 16 rfl (hdep ⟨6, .data⟩ (by simp) rfl) rfl))) (hK x _ _ (fun _ _ _ _ _ _ => rfl) (fun s hs => by cases hs; rfl) (by simpa using hst))
    · have t6 : lz 6 = true := (hdep ⟨6, .chain⟩ (by simp) rfl)
      have F1 : ∃ S, (∀ g, S g → w.heap.size ≤ g) ∧ Fm w v (oB b8 24 zpm :: [oB b7 4 [.bool wr], oB b5 3 [ci who], oB b4 24 cs]) (tP S r.2 x :: ts) := by simpa [AskS, hlj, t6] using hst
      obtain ⟨S2, hS2, F1⟩ := F1
      have hx : PIs v S2 r.2 x := F1.s 0 rfl
      refine wp_storedO F1 0 rfl rfl rfl rfl (eval_tmp ((hpar 8 rfl).trans rfl)) (eval_tmp (hgot 7 _ 17 rfl (hdep ⟨7, .data⟩ (by simp) rfl) rfl)) hx.len rfl hx.one fun v' F2 => hK x _ _ (fun _ _ _ _ _ _ => rfl) (fun s hs => by cases hs) ?_
      have F3 : ∃ S, (∀ g, S g → w.heap.size ≤ g) ∧ Fm w v' (oB b8 24 x :: [oB b7 4 [.bool wr], oB b5 3 [ci who], oB b4 24 cs]) (tP S r.2 x :: ts) := ⟨S2, hS2, F2⟩
      simpa [AskS] using F3
    · exact wp_ran rfl (exec_assign rfl (eval_tmp (hgot 8 _ 18 rfl (hdep ⟨8, .data⟩ (by simp) rfl) rfl))) (hK x _ _ (fun _ _ _ _ _ _ => rfl) (fun s hs => by cases hs; rfl) (by simpa using hst))
  intro x lz v hlz hst
  have F1 : ∃ S, (∀ g, S g → w.heap.size ≤ g) ∧ Fm w v (oB b8 24 x :: [oB b7 4 [.bool wr], oB b5 3 [ci who], oB b4 24 cs]) (tP S r.2 x :: ts) := by simpa [AskS, hlz 6 (by decide), hlz 9 (by decide)] using hst
  obtain ⟨S2, hS2, F1⟩ := F1
  clear hst hlz HBIG
  simp only [setAll, Act.put, List.foldl_cons, List.foldl_nil, List.setIfInBounds_toArray, List.set_cons_succ, List.set_cons_zero]
  go_wp2_with fail
  have hx : PIs v S2 r.2 x := F1.s 0 rfl
  refine bodyPost_ret (results_ct rfl _ _ b8 _ (.int .i64 r.1) rfl rfl (F1.ret 0 rfl) hx.len) rfl ?_
  exact ⟨x, rfl, F1.ends hS2, F1.m⟩
set_option maxRecDepth 100000 in
set_option maxHeartbeats 8000000 in
theorem back_p {w : World} {S : Nat → Prop} {p : Pm} {cs : List Value} (h : PIs w S p cs) (hS : ∀ g, S g → g < w.heap.size) (by_ who : Int) : Calls Try.prog 23 #[.agg cs.toArray, ci by_, ci who] w (ResR (byOwner p by_ (p.other who) (backed p who)) w) := by
  have h5 := h.len
  have h1 := h.one
  have FA := (Fm.nil w).arg (tP S p cs) (keeps_tP _ _ _) h hS
  obtain ⟨ts, hts⟩ : ∃ ts, ts = [tP S p cs] := ⟨_, rfl⟩
  rw [← hts] at FA
  have hTS := Lib.hid hts
  obtain ⟨can, hcan⟩ : ∃ c, p.other who = c := ⟨_, rfl⟩
  have HCAN : Hid (p.other who = can) := Lib.hid hcan
  rw [hcan]
  have hz : (backed p who).1 ≠ 0 → (backed p who).2 = zp := backed_zp
  have BIG : Hid (∀ (v : World) (b4 b5 b8 : Nat), Fm w v (oB b8 24 zpm :: [oB b5 3 [ci who], oB b4 24 cs]) ts → Calls Try.prog 38 #[ci by_, .agg cs.toArray, .bool can, .func (.func 42) #[] #[.pointer (some ⟨b5, 0, none⟩)]] v (ResR (byOwner p by_ can (backed p who)) v)) := Lib.hid fun v b4 b5 b8 F => by
    have F2 := F.anew
    refine changedBy42_c (S := S) (List.mem_append_right _ (by rw [hTS.out]; simp)) F2 by_ can (fun p => backed p who) (fun w0 v2 b os ts' hin hPO hr => ?_) hz
    exact back_c who hPO (hin _ (List.mem_append_left _ (by simp))) hr
  obtain ⟨r, hr⟩ : ∃ r, byOwner p by_ can (backed p who) = r := ⟨_, rfl⟩
  rw [hr] at BIG ⊢
  clear h hts hcan hz hr
  go_enter Try.func23, Try.ntmps23
  go_wp2_with (first
    | (with_reducible refine fm_box FA (o := ⟨some 3, .box 24 (.tmp 0), _, _, _, _⟩) rfl 24 (.tmp 0) rfl cs rfl ?_; intro b4 w1 F1; clear FA)
    | (with_reducible refine fm_box1 F1 (o := ⟨some 5, .box 3 (.tmp 2), _, _, _, _⟩) rfl 3 (.tmp 2) rfl (ci who) rfl rfl ?_; intro b5 w2 F2; clear F1)
    | (with_reducible refine fm_alloc F2 (o := ⟨some 6, .alloc 24, _, _, _, _⟩) rfl 24 rfl _ zero24 ?_; intro b8 w4 F9; clear F2))
  have HBIG : Hid (∀ (v : World), Fm w v (oB b8 24 zpm :: [oB b5 3 [ci who], oB b4 24 cs]) ts → Calls Try.prog 38 #[ci by_, .agg cs.toArray, .bool can, .func (.func 42) #[] #[.pointer (some ⟨b5, 0, none⟩)]] v (ResR r v)) := Lib.hid fun v F => BIG.out v b4 b5 b8 F
  clear BIG
  refine wp_region_upx (X := List Value) ([]) (fun x => [(8, ci by_), (9, .agg cs.toArray), (10, ci who), (11, .agg cs.toArray), (12, .bool can), (13, .func (.func 42) #[] #[.pointer (some ⟨b5, 0, none⟩)]), (14, .tuple #[.agg x.toArray, .int .i64 r.1]), (15, .agg x.toArray), (16, .int .i64 r.1), (7, .int .i64 r.1)]) 17 [8, 9, 10, 11, 12, 13, 14, 15, 16, 7] rfl (fun _ => rfl) (by decide) (by kernel_rfl) (fun x lz v => AskS w b8 [oB b5 3 [ci who], oB b4 24 cs] ts r (lz 6) (lz 9) x v) (by kernel_rfl) (by simpa [AskS] using F9.call (Mod.drew [] _)) (by kernel_rfl) (by kernel_rfl) ?_ ?_
  · skip
    intro x lz T v j o hj hlj hdep hst hpar hgot hcl Kq hK
    have hjn : j < 11 := (Array.getElem?_eq_some_iff.1 hj).1
    obtain rfl | rfl | rfl | rfl | rfl | rfl | rfl | rfl | rfl | rfl | rfl : j = 0 ∨ j = 1 ∨ j = 2 ∨ j = 3 ∨ j = 4 ∨ j = 5 ∨ j = 6 ∨ j = 7 ∨ j = 8 ∨ j = 9 ∨ j = 10 := by omega
    all_goals (have hj' := Option.some.inj (hj : some _ = some o); subst hj'; clear hj)
    · exact wp_ran rfl (exec_move rfl (eval_tmp ((hpar 1 rfl).trans rfl))) (hK x _ _ (fun _ _ _ _ _ _ => rfl) (fun s hs => by cases hs; rfl) (by simpa using hst))
    · obtain ⟨c0, ts0, F0'⟩ := hst.fm
      exact wp_ran rfl (exec_load rfl (eval_tmp ((hpar 3 rfl).trans rfl)) (run_loads (Cells.of_holds (F0'.blk 2 rfl)) Try.underlying24 rfl (size24' h5))) (hK x _ _ (fun _ _ _ _ _ _ => rfl) (fun s hs => by cases hs; rfl) (by simpa using hst))
    · obtain ⟨c0, ts0, F0'⟩ := hst.fm
      exact wp_ran rfl (exec_load rfl (eval_tmp ((hpar 5 rfl).trans rfl)) (run_load1 Try.underlying3 rfl ((F0'.blk 1 rfl).cell 0))) (hK x _ _ (fun _ _ _ _ _ _ => rfl) (fun s hs => by cases hs; rfl) (by simpa using hst))
    · obtain ⟨c0, ts0, F0'⟩ := hst.fm
      exact wp_ran rfl (exec_load rfl (eval_tmp ((hpar 3 rfl).trans rfl)) (run_loads (Cells.of_holds (F0'.blk 2 rfl)) Try.underlying24 rfl (size24' h5))) (hK x _ _ (fun _ _ _ _ _ _ => rfl) (fun s hs => by cases hs; rfl) (by simpa using hst))
    · have l6 : lz 6 = false := (by cases hh : lz 6 with | false => rfl | true => exact absurd (hcl 6 _ rfl hh ⟨4, .data⟩ (by simp) rfl) (by rw [hlj]; simp))
      have l9 : lz 9 = false := (by cases hh : lz 9 with | false => rfl | true => exact absurd (hcl 9 _ rfl hh ⟨4, .phase⟩ (by simp) rfl) (by rw [hlj]; simp))
      have F1 : Fm w v (oB b8 24 zpm :: [oB b5 3 [ci who], oB b4 24 cs]) ts := by simpa [AskS, l6, l9] using hst
      rw [hTS.out] at F1
      refine wp_called rfl (exec_call2 rfl rfl (eval_tmp (hgot 2 _ 10 rfl (hdep ⟨2, .data⟩ (by simp) rfl) rfl)) (eval_tmp (hgot 3 _ 11 rfl (hdep ⟨3, .data⟩ (by simp) rfl) rfl)) (enters_of Try.func39 (by kernel_rfl) rfl)) ((isOther_c (F1.s 0 rfl : PIs v S p cs) who _ HCAN).mono ?_)
      rintro e v' ⟨rfl, m⟩
      exact ⟨_, rfl, hK x _ _ (fun _ _ _ _ _ _ => rfl) (fun s hs => by cases hs; rfl) (by simpa using hst.call m)⟩
    · exact wp_ran rfl (exec_mk1 rfl (eval_tmp ((hpar 5 rfl).trans rfl))) (hK x _ _ (fun _ _ _ _ _ _ => rfl) (fun s hs => by cases hs; rfl) (by simpa using hst))
    · have l7 : lz 7 = false := (by cases hh : lz 7 with | false => rfl | true => exact absurd (hcl 7 _ rfl hh ⟨6, .data⟩ (by simp) rfl) (by rw [hlj]; simp))
      have l8 : lz 8 = false := (by cases hh : lz 8 with | false => rfl | true => exact absurd (hcl 8 _ rfl hh ⟨6, .data⟩ (by simp) rfl) (by rw [hlj]; simp))
      have l10 : lz 10 = false := (by cases hh : lz 10 with | false => rfl | true => exact absurd (hcl 10 _ rfl hh ⟨6, .phase⟩ (by simp) rfl) (by rw [hlj]; simp))
      have l9 : lz 9 = false := (by cases hh : lz 9 with | false => rfl | true => exact absurd (hcl 9 _ rfl hh ⟨6, .chain⟩ (by simp) rfl) (by rw [hlj]; simp))
      have F1 : Fm w v (oB b8 24 zpm :: [oB b5 3 [ci who], oB b4 24 cs]) ts := by simpa [AskS, hlj, l9] using hst
      refine wp_called rfl (exec_call4 rfl rfl (eval_tmp (hgot 0 _ 8 rfl (hdep ⟨0, .data⟩ (by simp) rfl) rfl)) (eval_tmp (hgot 1 _ 9 rfl (hdep ⟨1, .data⟩ (by simp) rfl) rfl)) (eval_tmp (hgot 4 _ 12 rfl (hdep ⟨4, .data⟩ (by simp) rfl) rfl)) (eval_tmp (hgot 5 _ 13 rfl (hdep ⟨5, .data⟩ (by simp) rfl) rfl)) (enters_of Try.func38 (by kernel_rfl) rfl)) ((HBIG.out v F1).mono ?_)
      rintro e v' ⟨cs6, rfl, hP6, m6⟩
      refine ⟨_, rfl, hK cs6 _ _ (fun j' o' s' g1 g2 g3 => by
          have g4 : j' < 11 := (Array.getElem?_eq_some_iff.1 g1).1
          clear hpar hgot hdep hK
          obtain rfl | rfl | rfl | rfl | rfl | rfl | rfl | rfl | rfl | rfl | rfl : j' = 0 ∨ j' = 1 ∨ j' = 2 ∨ j' = 3 ∨ j' = 4 ∨ j' = 5 ∨ j' = 6 ∨ j' = 7 ∨ j' = 8 ∨ j' = 9 ∨ j' = 10 := by omega
          all_goals (cases g1; cases g3 <;> first | rfl | (rw [hlj] at g2; cases g2) | (rw [l7] at g2; cases g2) | (rw [l8] at g2; cases g2) | (rw [l10] at g2; cases g2))) (fun s hs => by cases hs; rfl) ?_⟩
      have F2 : ∃ S, (∀ g, S g → w.heap.size ≤ g) ∧ Fm w v' (oB b8 24 zpm :: [oB b5 3 [ci who], oB b4 24 cs]) (tP S r.2 cs6 :: ts) := ⟨_, fun g hg => Nat.le_trans F1.m.size hg.1, F1.tell hP6 m6⟩
      simpa [AskS, l9] using F2
    · exact wp_ran rfl (exec_extract0 rfl (eval_tmp (hgot 6 _ 14 rfl (hdep ⟨6, .data⟩ (by simp) rfl) rfl))) (hK x _ _ (fun _ _ _ _ _ _ => rfl) (fun s hs => by cases hs; rfl) (by simpa using hst))
    · exact wp_ran rfl (exec_extract1 rfl (eval_tmp (hgot 6 _ 14 rfl (hdep ⟨6, .data⟩ (by simp) rfl) rfl))) (hK x _ _ (fun _ _ _ _ _ _ => rfl) (fun s hs => by cases hs; rfl) (by simpa using hst))
    · have t6 : lz 6 = true := (hdep ⟨6, .chain⟩ (by simp) rfl)
      have F1 : ∃ S, (∀ g, S g → w.heap.size ≤ g) ∧ Fm w v (oB b8 24 zpm :: [oB b5 3 [ci who], oB b4 24 cs]) (tP S r.2 x :: ts) := by simpa [AskS, hlj, t6] using hst
      obtain ⟨S2, hS2, F1⟩ := F1
      have hx : PIs v S2 r.2 x := F1.s 0 rfl
      refine wp_storedO F1 0 rfl rfl rfl rfl (eval_tmp ((hpar 6 rfl).trans rfl)) (eval_tmp (hgot 7 _ 15 rfl (hdep ⟨7, .data⟩ (by simp) rfl) rfl)) hx.len rfl hx.one fun v' F2 => hK x _ _ (fun _ _ _ _ _ _ => rfl) (fun s hs => by cases hs) ?_
      have F3 : ∃ S, (∀ g, S g → w.heap.size ≤ g) ∧ Fm w v' (oB b8 24 x :: [oB b5 3 [ci who], oB b4 24 cs]) (tP S r.2 x :: ts) := ⟨S2, hS2, F2⟩
      simpa [AskS] using F3
    · exact wp_ran rfl (exec_assign rfl (eval_tmp (hgot 8 _ 16 rfl (hdep ⟨8, .data⟩ (by simp) rfl) rfl))) (hK x _ _ (fun _ _ _ _ _ _ => rfl) (fun s hs => by cases hs; rfl) (by simpa using hst))
  intro x lz v hlz hst
  have F1 : ∃ S, (∀ g, S g → w.heap.size ≤ g) ∧ Fm w v (oB b8 24 x :: [oB b5 3 [ci who], oB b4 24 cs]) (tP S r.2 x :: ts) := by simpa [AskS, hlz 6 (by decide), hlz 9 (by decide)] using hst
  obtain ⟨S2, hS2, F1⟩ := F1
  clear hst hlz HBIG
  simp only [setAll, Act.put, List.foldl_cons, List.foldl_nil, List.setIfInBounds_toArray, List.set_cons_succ, List.set_cons_zero]
  go_wp2_with fail
  have hx : PIs v S2 r.2 x := F1.s 0 rfl
  refine bodyPost_ret (results_ct rfl _ _ b8 _ (.int .i64 r.1) rfl rfl (F1.ret 0 rfl) hx.len) rfl ?_
  exact ⟨x, rfl, F1.ends hS2, F1.m⟩
set_option maxRecDepth 100000 in
set_option maxHeartbeats 8000000 in
theorem shareG_p {w : World} {S : Nat → Prop} {p : Pm} {cs : List Value} (h : PIs w S p cs) (hS : ∀ g, S g → g < w.heap.size) (by_ who : Int) : Calls Try.prog 24 #[.agg cs.toArray, ci by_, ci who] w (ResR (byOwner p by_ (grp who) (sharedG p who)) w) := by
  have h5 := h.len
  have h1 := h.one
  have FA := (Fm.nil w).arg (tP S p cs) (keeps_tP _ _ _) h hS
  obtain ⟨ts, hts⟩ : ∃ ts, ts = [tP S p cs] := ⟨_, rfl⟩
  rw [← hts] at FA
  have hTS := Lib.hid hts
  obtain ⟨can, hcan⟩ : ∃ c, grp who = c := ⟨_, rfl⟩
  have HCAN : Hid (upTo who 3 = can) := Lib.hid (by rw [← hcan]; rfl)
  rw [hcan]
  have hz : (sharedG p who).1 ≠ 0 → (sharedG p who).2 = zp := sharedG_zp
  have BIG : Hid (∀ (v : World) (b4 b5 b8 : Nat), Fm w v (oB b8 24 zpm :: [oB b5 3 [ci who], oB b4 24 cs]) ts → Calls Try.prog 38 #[ci by_, .agg cs.toArray, .bool can, .func (.func 46) #[] #[.pointer (some ⟨b5, 0, none⟩)]] v (ResR (byOwner p by_ can (sharedG p who)) v)) := Lib.hid fun v b4 b5 b8 F => by
    have F2 := F.anew
    refine changedBy46_c (S := S) (List.mem_append_right _ (by rw [hTS.out]; simp)) F2 by_ can (fun p => sharedG p who) (fun w0 v2 b os ts' hin hPO hr => ?_) hz
    exact shareG_c who hPO (hin _ (List.mem_append_left _ (by simp))) hr
  obtain ⟨r, hr⟩ : ∃ r, byOwner p by_ can (sharedG p who) = r := ⟨_, rfl⟩
  rw [hr] at BIG ⊢
  clear h hts hcan hz hr
  go_enter Try.func24, Try.ntmps24
  go_wp2_with (first
    | (with_reducible refine fm_box FA (o := ⟨some 3, .box 24 (.tmp 0), _, _, _, _⟩) rfl 24 (.tmp 0) rfl cs rfl ?_; intro b4 w1 F1; clear FA)
    | (with_reducible refine fm_box1 F1 (o := ⟨some 5, .box 3 (.tmp 2), _, _, _, _⟩) rfl 3 (.tmp 2) rfl (ci who) rfl rfl ?_; intro b5 w2 F2; clear F1)
    | (with_reducible refine fm_alloc F2 (o := ⟨some 6, .alloc 24, _, _, _, _⟩) rfl 24 rfl _ zero24 ?_; intro b8 w4 F9; clear F2))
  have HBIG : Hid (∀ (v : World), Fm w v (oB b8 24 zpm :: [oB b5 3 [ci who], oB b4 24 cs]) ts → Calls Try.prog 38 #[ci by_, .agg cs.toArray, .bool can, .func (.func 46) #[] #[.pointer (some ⟨b5, 0, none⟩)]] v (ResR r v)) := Lib.hid fun v F => BIG.out v b4 b5 b8 F
  clear BIG
  refine wp_region_upx (X := List Value) ([]) (fun x => [(8, ci by_), (9, .agg cs.toArray), (10, ci who), (11, .bool can), (12, .func (.func 46) #[] #[.pointer (some ⟨b5, 0, none⟩)]), (13, .tuple #[.agg x.toArray, .int .i64 r.1]), (14, .agg x.toArray), (15, .int .i64 r.1), (7, .int .i64 r.1)]) 16 [8, 9, 10, 11, 12, 13, 14, 15, 7] rfl (fun _ => rfl) (by decide) (by kernel_rfl) (fun x lz v => AskS w b8 [oB b5 3 [ci who], oB b4 24 cs] ts r (lz 5) (lz 8) x v) (by kernel_rfl) (by simpa [AskS] using F9.call (Mod.drew [] _)) (by kernel_rfl) (by kernel_rfl) ?_ ?_
  · skip
    intro x lz T v j o hj hlj hdep hst hpar hgot hcl Kq hK
    have hjn : j < 10 := (Array.getElem?_eq_some_iff.1 hj).1
    obtain rfl | rfl | rfl | rfl | rfl | rfl | rfl | rfl | rfl | rfl : j = 0 ∨ j = 1 ∨ j = 2 ∨ j = 3 ∨ j = 4 ∨ j = 5 ∨ j = 6 ∨ j = 7 ∨ j = 8 ∨ j = 9 := by omega
    all_goals (have hj' := Option.some.inj (hj : some _ = some o); subst hj'; clear hj)
    · exact wp_ran rfl (exec_move rfl (eval_tmp ((hpar 1 rfl).trans rfl))) (hK x _ _ (fun _ _ _ _ _ _ => rfl) (fun s hs => by cases hs; rfl) (by simpa using hst))
    · obtain ⟨c0, ts0, F0'⟩ := hst.fm
      exact wp_ran rfl (exec_load rfl (eval_tmp ((hpar 3 rfl).trans rfl)) (run_loads (Cells.of_holds (F0'.blk 2 rfl)) Try.underlying24 rfl (size24' h5))) (hK x _ _ (fun _ _ _ _ _ _ => rfl) (fun s hs => by cases hs; rfl) (by simpa using hst))
    · obtain ⟨c0, ts0, F0'⟩ := hst.fm
      exact wp_ran rfl (exec_load rfl (eval_tmp ((hpar 5 rfl).trans rfl)) (run_load1 Try.underlying3 rfl ((F0'.blk 1 rfl).cell 0))) (hK x _ _ (fun _ _ _ _ _ _ => rfl) (fun s hs => by cases hs; rfl) (by simpa using hst))
    · have l5 : lz 5 = false := (by cases hh : lz 5 with | false => rfl | true => exact absurd (hcl 5 _ rfl hh ⟨3, .data⟩ (by simp) rfl) (by rw [hlj]; simp))
      have l8 : lz 8 = false := (by cases hh : lz 8 with | false => rfl | true => exact absurd (hcl 8 _ rfl hh ⟨3, .phase⟩ (by simp) rfl) (by rw [hlj]; simp))
      have F1 : Fm w v (oB b8 24 zpm :: [oB b5 3 [ci who], oB b4 24 cs]) ts := by simpa [AskS, l5, l8] using hst
      rw [hTS.out] at F1
      refine wp_called rfl (exec_call1 rfl rfl (eval_tmp (hgot 2 _ 10 rfl (hdep ⟨2, .data⟩ (by simp) rfl) rfl)) (enters_of Try.func45 (by kernel_rfl) rfl)) ((isGroup_c who _ HCAN v).mono ?_)
      rintro e v' ⟨rfl, hvv⟩
      have m : Mod [] v v' := hvv ▸ Mod.refl _ _
      exact ⟨_, rfl, hK x _ _ (fun _ _ _ _ _ _ => rfl) (fun s hs => by cases hs; rfl) (by simpa using hst.call m)⟩
    · exact wp_ran rfl (exec_mk1 rfl (eval_tmp ((hpar 5 rfl).trans rfl))) (hK x _ _ (fun _ _ _ _ _ _ => rfl) (fun s hs => by cases hs; rfl) (by simpa using hst))
    · have l6 : lz 6 = false := (by cases hh : lz 6 with | false => rfl | true => exact absurd (hcl 6 _ rfl hh ⟨5, .data⟩ (by simp) rfl) (by rw [hlj]; simp))
      have l7 : lz 7 = false := (by cases hh : lz 7 with | false => rfl | true => exact absurd (hcl 7 _ rfl hh ⟨5, .data⟩ (by simp) rfl) (by rw [hlj]; simp))
      have l9 : lz 9 = false := (by cases hh : lz 9 with | false => rfl | true => exact absurd (hcl 9 _ rfl hh ⟨5, .phase⟩ (by simp) rfl) (by rw [hlj]; simp))
      have l8 : lz 8 = false := (by cases hh : lz 8 with | false => rfl | true => exact absurd (hcl 8 _ rfl hh ⟨5, .chain⟩ (by simp) rfl) (by rw [hlj]; simp))
      have F1 : Fm w v (oB b8 24 zpm :: [oB b5 3 [ci who], oB b4 24 cs]) ts := by simpa [AskS, hlj, l8] using hst
      refine wp_called rfl (exec_call4 rfl rfl (eval_tmp (hgot 0 _ 8 rfl (hdep ⟨0, .data⟩ (by simp) rfl) rfl)) (eval_tmp (hgot 1 _ 9 rfl (hdep ⟨1, .data⟩ (by simp) rfl) rfl)) (eval_tmp (hgot 3 _ 11 rfl (hdep ⟨3, .data⟩ (by simp) rfl) rfl)) (eval_tmp (hgot 4 _ 12 rfl (hdep ⟨4, .data⟩ (by simp) rfl) rfl)) (enters_of Try.func38 (by kernel_rfl) rfl)) ((HBIG.out v F1).mono ?_)
      rintro e v' ⟨cs6, rfl, hP6, m6⟩
      refine ⟨_, rfl, hK cs6 _ _ (fun j' o' s' g1 g2 g3 => by
          have g4 : j' < 10 := (Array.getElem?_eq_some_iff.1 g1).1
          clear hpar hgot hdep hK
          obtain rfl | rfl | rfl | rfl | rfl | rfl | rfl | rfl | rfl | rfl : j' = 0 ∨ j' = 1 ∨ j' = 2 ∨ j' = 3 ∨ j' = 4 ∨ j' = 5 ∨ j' = 6 ∨ j' = 7 ∨ j' = 8 ∨ j' = 9 := by omega
          all_goals (cases g1; cases g3 <;> first | rfl | (rw [hlj] at g2; cases g2) | (rw [l6] at g2; cases g2) | (rw [l7] at g2; cases g2) | (rw [l9] at g2; cases g2))) (fun s hs => by cases hs; rfl) ?_⟩
      have F2 : ∃ S, (∀ g, S g → w.heap.size ≤ g) ∧ Fm w v' (oB b8 24 zpm :: [oB b5 3 [ci who], oB b4 24 cs]) (tP S r.2 cs6 :: ts) := ⟨_, fun g hg => Nat.le_trans F1.m.size hg.1, F1.tell hP6 m6⟩
      simpa [AskS, l8] using F2
    · exact wp_ran rfl (exec_extract0 rfl (eval_tmp (hgot 5 _ 13 rfl (hdep ⟨5, .data⟩ (by simp) rfl) rfl))) (hK x _ _ (fun _ _ _ _ _ _ => rfl) (fun s hs => by cases hs; rfl) (by simpa using hst))
    · exact wp_ran rfl (exec_extract1 rfl (eval_tmp (hgot 5 _ 13 rfl (hdep ⟨5, .data⟩ (by simp) rfl) rfl))) (hK x _ _ (fun _ _ _ _ _ _ => rfl) (fun s hs => by cases hs; rfl) (by simpa using hst))
    · have t5 : lz 5 = true := (hdep ⟨5, .chain⟩ (by simp) rfl)
      have F1 : ∃ S, (∀ g, S g → w.heap.size ≤ g) ∧ Fm w v (oB b8 24 zpm :: [oB b5 3 [ci who], oB b4 24 cs]) (tP S r.2 x :: ts) := by simpa [AskS, hlj, t5] using hst
      obtain ⟨S2, hS2, F1⟩ := F1
      have hx : PIs v S2 r.2 x := F1.s 0 rfl
      refine wp_storedO F1 0 rfl rfl rfl rfl (eval_tmp ((hpar 6 rfl).trans rfl)) (eval_tmp (hgot 6 _ 14 rfl (hdep ⟨6, .data⟩ (by simp) rfl) rfl)) hx.len rfl hx.one fun v' F2 => hK x _ _ (fun _ _ _ _ _ _ => rfl) (fun s hs => by cases hs) ?_
      have F3 : ∃ S, (∀ g, S g → w.heap.size ≤ g) ∧ Fm w v' (oB b8 24 x :: [oB b5 3 [ci who], oB b4 24 cs]) (tP S r.2 x :: ts) := ⟨S2, hS2, F2⟩
      simpa [AskS] using F3
    · exact wp_ran rfl (exec_assign rfl (eval_tmp (hgot 7 _ 15 rfl (hdep ⟨7, .data⟩ (by simp) rfl) rfl))) (hK x _ _ (fun _ _ _ _ _ _ => rfl) (fun s hs => by cases hs; rfl) (by simpa using hst))
  intro x lz v hlz hst
  have F1 : ∃ S, (∀ g, S g → w.heap.size ≤ g) ∧ Fm w v (oB b8 24 x :: [oB b5 3 [ci who], oB b4 24 cs]) (tP S r.2 x :: ts) := by simpa [AskS, hlz 5 (by decide), hlz 8 (by decide)] using hst
  obtain ⟨S2, hS2, F1⟩ := F1
  clear hst hlz HBIG
  simp only [setAll, Act.put, List.foldl_cons, List.foldl_nil, List.setIfInBounds_toArray, List.set_cons_succ, List.set_cons_zero]
  go_wp2_with fail
  have hx : PIs v S2 r.2 x := F1.s 0 rfl
  refine bodyPost_ret (results_ct rfl _ _ b8 _ (.int .i64 r.1) rfl rfl (F1.ret 0 rfl) hx.len) rfl ?_
  exact ⟨x, rfl, F1.ends hS2, F1.m⟩
set_option maxRecDepth 100000 in
set_option maxHeartbeats 8000000 in
theorem backG_p {w : World} {S : Nat → Prop} {p : Pm} {cs : List Value} (h : PIs w S p cs) (hS : ∀ g, S g → g < w.heap.size) (by_ who : Int) : Calls Try.prog 25 #[.agg cs.toArray, ci by_, ci who] w (ResR (byOwner p by_ (grp who) (backedG p who)) w) := by
  have h5 := h.len
  have h1 := h.one
  have FA := (Fm.nil w).arg (tP S p cs) (keeps_tP _ _ _) h hS
  obtain ⟨ts, hts⟩ : ∃ ts, ts = [tP S p cs] := ⟨_, rfl⟩
  rw [← hts] at FA
  have hTS := Lib.hid hts
  obtain ⟨can, hcan⟩ : ∃ c, grp who = c := ⟨_, rfl⟩
  have HCAN : Hid (upTo who 3 = can) := Lib.hid (by rw [← hcan]; rfl)
  rw [hcan]
  have hz : (backedG p who).1 ≠ 0 → (backedG p who).2 = zp := backedG_zp
  have BIG : Hid (∀ (v : World) (b4 b5 b8 : Nat), Fm w v (oB b8 24 zpm :: [oB b5 3 [ci who], oB b4 24 cs]) ts → Calls Try.prog 38 #[ci by_, .agg cs.toArray, .bool can, .func (.func 47) #[] #[.pointer (some ⟨b5, 0, none⟩)]] v (ResR (byOwner p by_ can (backedG p who)) v)) := Lib.hid fun v b4 b5 b8 F => by
    have F2 := F.anew
    refine changedBy47_c (S := S) (List.mem_append_right _ (by rw [hTS.out]; simp)) F2 by_ can (fun p => backedG p who) (fun w0 v2 b os ts' hin hPO hr => ?_) hz
    exact backG_c who hPO (hin _ (List.mem_append_left _ (by simp))) hr
  obtain ⟨r, hr⟩ : ∃ r, byOwner p by_ can (backedG p who) = r := ⟨_, rfl⟩
  rw [hr] at BIG ⊢
  clear h hts hcan hz hr
  go_enter Try.func25, Try.ntmps25
  go_wp2_with (first
    | (with_reducible refine fm_box FA (o := ⟨some 3, .box 24 (.tmp 0), _, _, _, _⟩) rfl 24 (.tmp 0) rfl cs rfl ?_; intro b4 w1 F1; clear FA)
    | (with_reducible refine fm_box1 F1 (o := ⟨some 5, .box 3 (.tmp 2), _, _, _, _⟩) rfl 3 (.tmp 2) rfl (ci who) rfl rfl ?_; intro b5 w2 F2; clear F1)
    | (with_reducible refine fm_alloc F2 (o := ⟨some 6, .alloc 24, _, _, _, _⟩) rfl 24 rfl _ zero24 ?_; intro b8 w4 F9; clear F2))
  have HBIG : Hid (∀ (v : World), Fm w v (oB b8 24 zpm :: [oB b5 3 [ci who], oB b4 24 cs]) ts → Calls Try.prog 38 #[ci by_, .agg cs.toArray, .bool can, .func (.func 47) #[] #[.pointer (some ⟨b5, 0, none⟩)]] v (ResR r v)) := Lib.hid fun v F => BIG.out v b4 b5 b8 F
  clear BIG
  refine wp_region_upx (X := List Value) ([]) (fun x => [(8, ci by_), (9, .agg cs.toArray), (10, ci who), (11, .bool can), (12, .func (.func 47) #[] #[.pointer (some ⟨b5, 0, none⟩)]), (13, .tuple #[.agg x.toArray, .int .i64 r.1]), (14, .agg x.toArray), (15, .int .i64 r.1), (7, .int .i64 r.1)]) 16 [8, 9, 10, 11, 12, 13, 14, 15, 7] rfl (fun _ => rfl) (by decide) (by kernel_rfl) (fun x lz v => AskS w b8 [oB b5 3 [ci who], oB b4 24 cs] ts r (lz 5) (lz 8) x v) (by kernel_rfl) (by simpa [AskS] using F9.call (Mod.drew [] _)) (by kernel_rfl) (by kernel_rfl) ?_ ?_
  · skip
    intro x lz T v j o hj hlj hdep hst hpar hgot hcl Kq hK
    have hjn : j < 10 := (Array.getElem?_eq_some_iff.1 hj).1
    obtain rfl | rfl | rfl | rfl | rfl | rfl | rfl | rfl | rfl | rfl : j = 0 ∨ j = 1 ∨ j = 2 ∨ j = 3 ∨ j = 4 ∨ j = 5 ∨ j = 6 ∨ j = 7 ∨ j = 8 ∨ j = 9 := by omega
    all_goals (have hj' := Option.some.inj (hj : some _ = some o); subst hj'; clear hj)
    · exact wp_ran rfl (exec_move rfl (eval_tmp ((hpar 1 rfl).trans rfl))) (hK x _ _ (fun _ _ _ _ _ _ => rfl) (fun s hs => by cases hs; rfl) (by simpa using hst))
    · obtain ⟨c0, ts0, F0'⟩ := hst.fm
      exact wp_ran rfl (exec_load rfl (eval_tmp ((hpar 3 rfl).trans rfl)) (run_loads (Cells.of_holds (F0'.blk 2 rfl)) Try.underlying24 rfl (size24' h5))) (hK x _ _ (fun _ _ _ _ _ _ => rfl) (fun s hs => by cases hs; rfl) (by simpa using hst))
    · obtain ⟨c0, ts0, F0'⟩ := hst.fm
      exact wp_ran rfl (exec_load rfl (eval_tmp ((hpar 5 rfl).trans rfl)) (run_load1 Try.underlying3 rfl ((F0'.blk 1 rfl).cell 0))) (hK x _ _ (fun _ _ _ _ _ _ => rfl) (fun s hs => by cases hs; rfl) (by simpa using hst))
    · have l5 : lz 5 = false := (by cases hh : lz 5 with | false => rfl | true => exact absurd (hcl 5 _ rfl hh ⟨3, .data⟩ (by simp) rfl) (by rw [hlj]; simp))
      have l8 : lz 8 = false := (by cases hh : lz 8 with | false => rfl | true => exact absurd (hcl 8 _ rfl hh ⟨3, .phase⟩ (by simp) rfl) (by rw [hlj]; simp))
      have F1 : Fm w v (oB b8 24 zpm :: [oB b5 3 [ci who], oB b4 24 cs]) ts := by simpa [AskS, l5, l8] using hst
      rw [hTS.out] at F1
      refine wp_called rfl (exec_call1 rfl rfl (eval_tmp (hgot 2 _ 10 rfl (hdep ⟨2, .data⟩ (by simp) rfl) rfl)) (enters_of Try.func45 (by kernel_rfl) rfl)) ((isGroup_c who _ HCAN v).mono ?_)
      rintro e v' ⟨rfl, hvv⟩
      have m : Mod [] v v' := hvv ▸ Mod.refl _ _
      exact ⟨_, rfl, hK x _ _ (fun _ _ _ _ _ _ => rfl) (fun s hs => by cases hs; rfl) (by simpa using hst.call m)⟩
    · exact wp_ran rfl (exec_mk1 rfl (eval_tmp ((hpar 5 rfl).trans rfl))) (hK x _ _ (fun _ _ _ _ _ _ => rfl) (fun s hs => by cases hs; rfl) (by simpa using hst))
    · have l6 : lz 6 = false := (by cases hh : lz 6 with | false => rfl | true => exact absurd (hcl 6 _ rfl hh ⟨5, .data⟩ (by simp) rfl) (by rw [hlj]; simp))
      have l7 : lz 7 = false := (by cases hh : lz 7 with | false => rfl | true => exact absurd (hcl 7 _ rfl hh ⟨5, .data⟩ (by simp) rfl) (by rw [hlj]; simp))
      have l9 : lz 9 = false := (by cases hh : lz 9 with | false => rfl | true => exact absurd (hcl 9 _ rfl hh ⟨5, .phase⟩ (by simp) rfl) (by rw [hlj]; simp))
      have l8 : lz 8 = false := (by cases hh : lz 8 with | false => rfl | true => exact absurd (hcl 8 _ rfl hh ⟨5, .chain⟩ (by simp) rfl) (by rw [hlj]; simp))
      have F1 : Fm w v (oB b8 24 zpm :: [oB b5 3 [ci who], oB b4 24 cs]) ts := by simpa [AskS, hlj, l8] using hst
      refine wp_called rfl (exec_call4 rfl rfl (eval_tmp (hgot 0 _ 8 rfl (hdep ⟨0, .data⟩ (by simp) rfl) rfl)) (eval_tmp (hgot 1 _ 9 rfl (hdep ⟨1, .data⟩ (by simp) rfl) rfl)) (eval_tmp (hgot 3 _ 11 rfl (hdep ⟨3, .data⟩ (by simp) rfl) rfl)) (eval_tmp (hgot 4 _ 12 rfl (hdep ⟨4, .data⟩ (by simp) rfl) rfl)) (enters_of Try.func38 (by kernel_rfl) rfl)) ((HBIG.out v F1).mono ?_)
      rintro e v' ⟨cs6, rfl, hP6, m6⟩
      refine ⟨_, rfl, hK cs6 _ _ (fun j' o' s' g1 g2 g3 => by
          have g4 : j' < 10 := (Array.getElem?_eq_some_iff.1 g1).1
          clear hpar hgot hdep hK
          obtain rfl | rfl | rfl | rfl | rfl | rfl | rfl | rfl | rfl | rfl : j' = 0 ∨ j' = 1 ∨ j' = 2 ∨ j' = 3 ∨ j' = 4 ∨ j' = 5 ∨ j' = 6 ∨ j' = 7 ∨ j' = 8 ∨ j' = 9 := by omega
          all_goals (cases g1; cases g3 <;> first | rfl | (rw [hlj] at g2; cases g2) | (rw [l6] at g2; cases g2) | (rw [l7] at g2; cases g2) | (rw [l9] at g2; cases g2))) (fun s hs => by cases hs; rfl) ?_⟩
      have F2 : ∃ S, (∀ g, S g → w.heap.size ≤ g) ∧ Fm w v' (oB b8 24 zpm :: [oB b5 3 [ci who], oB b4 24 cs]) (tP S r.2 cs6 :: ts) := ⟨_, fun g hg => Nat.le_trans F1.m.size hg.1, F1.tell hP6 m6⟩
      simpa [AskS, l8] using F2
    · exact wp_ran rfl (exec_extract0 rfl (eval_tmp (hgot 5 _ 13 rfl (hdep ⟨5, .data⟩ (by simp) rfl) rfl))) (hK x _ _ (fun _ _ _ _ _ _ => rfl) (fun s hs => by cases hs; rfl) (by simpa using hst))
    · exact wp_ran rfl (exec_extract1 rfl (eval_tmp (hgot 5 _ 13 rfl (hdep ⟨5, .data⟩ (by simp) rfl) rfl))) (hK x _ _ (fun _ _ _ _ _ _ => rfl) (fun s hs => by cases hs; rfl) (by simpa using hst))
    · have t5 : lz 5 = true := (hdep ⟨5, .chain⟩ (by simp) rfl)
      have F1 : ∃ S, (∀ g, S g → w.heap.size ≤ g) ∧ Fm w v (oB b8 24 zpm :: [oB b5 3 [ci who], oB b4 24 cs]) (tP S r.2 x :: ts) := by simpa [AskS, hlj, t5] using hst
      obtain ⟨S2, hS2, F1⟩ := F1
      have hx : PIs v S2 r.2 x := F1.s 0 rfl
      refine wp_storedO F1 0 rfl rfl rfl rfl (eval_tmp ((hpar 6 rfl).trans rfl)) (eval_tmp (hgot 6 _ 14 rfl (hdep ⟨6, .data⟩ (by simp) rfl) rfl)) hx.len rfl hx.one fun v' F2 => hK x _ _ (fun _ _ _ _ _ _ => rfl) (fun s hs => by cases hs) ?_
      have F3 : ∃ S, (∀ g, S g → w.heap.size ≤ g) ∧ Fm w v' (oB b8 24 x :: [oB b5 3 [ci who], oB b4 24 cs]) (tP S r.2 x :: ts) := ⟨S2, hS2, F2⟩
      simpa [AskS] using F3
    · exact wp_ran rfl (exec_assign rfl (eval_tmp (hgot 7 _ 15 rfl (hdep ⟨7, .data⟩ (by simp) rfl) rfl))) (hK x _ _ (fun _ _ _ _ _ _ => rfl) (fun s hs => by cases hs; rfl) (by simpa using hst))
  intro x lz v hlz hst
  have F1 : ∃ S, (∀ g, S g → w.heap.size ≤ g) ∧ Fm w v (oB b8 24 x :: [oB b5 3 [ci who], oB b4 24 cs]) (tP S r.2 x :: ts) := by simpa [AskS, hlz 5 (by decide), hlz 8 (by decide)] using hst
  obtain ⟨S2, hS2, F1⟩ := F1
  clear hst hlz HBIG
  simp only [setAll, Act.put, List.foldl_cons, List.foldl_nil, List.setIfInBounds_toArray, List.set_cons_succ, List.set_cons_zero]
  go_wp2_with fail
  have hx : PIs v S2 r.2 x := F1.s 0 rfl
  refine bodyPost_ret (results_ct rfl _ _ b8 _ (.int .i64 r.1) rfl rfl (F1.ret 0 rfl) hx.len) rfl ?_
  exact ⟨x, rfl, F1.ends hS2, F1.m⟩
end Go.Proofs.Ytaadmpainikfpaa
