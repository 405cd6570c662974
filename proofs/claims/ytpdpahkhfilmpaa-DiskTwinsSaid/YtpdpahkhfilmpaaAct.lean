/-
  The statements' own helpers: act, of what is asked. Contracts of mine.
-/
import Derived.Test.YtpdpahkhfilmpaaHelp
import Derived.Test.YtpdpahkhfilmpaaDraw2
namespace Go.Proofs.Ytpdpahkhfilmpaa
open Go.RowKit
theorem exec_assign {v : World} {o : Oper} {ρ : Operand → Value} {P : Program} {x : Operand} {X : Value} (ho : o.op = .assign x) (hx : ρ x = X) : (execOp ρ o).run P v = .ok (.value X) v := by
  unfold execOp
  simp [ho, hx, go_sem]
theorem exec_stores {P : Program} {v : World} {o : Oper} {ρ : Operand → Value} {ty : TypeId} {x y : Operand} {g : Nat} {t : TypeId} {V : Value} {cs old : List Value} (ho : o.op = .store ty x y) (hx : ρ x = .pointer (some ⟨g, 0, none⟩)) (hy : ρ y = V) (hV : V = .agg cs.toArray) (hh : Holds v g t old) (hf : cs.length = old.length) (h1 : ∀ u ∈ cs, u.oneCell' = true) (hi : (P.info? ty).map (·.size) = some cs.length) :
    ∃ v', (execOp ρ o).run P v = .ok .skip v' ∧ Holds v' g t cs ∧ Mod [g] v v' ∧ v'.heap.size = v.heap.size := by
  subst hV
  obtain ⟨v', hrun, h2, h3, h4⟩ := run_stores (P := P) (ty := ty) (f := 0) hh (by omega) h1 hi
  refine ⟨v', ?_, by simpa [hf] using h2, h3, h4⟩
  unfold execOp
  simp only [ho, hx, hy, Instr.storeAt, Instr.sureAddr, Sem.run_bind, Sem.run_pure, Result.andThen_ok, hrun]
theorem wp_stored {P : Program} {v : World} {o : Oper} {ops : Array Oper} {T : Act} {Kq : Act → World → Prop} {Q : Exit → Act → World → Prop} {E : Prop} {ty : TypeId} {x y : Operand} {g : Nat} {t : TypeId} {V : Value} {cs old : List Value} (hg : o.guard = none) (ho : o.op = .store ty x y) (hx : T.eval x = .pointer (some ⟨g, 0, none⟩)) (hy : T.eval y = V) (hV : V = .agg cs.toArray) (hh : Holds v g t old) (hf : cs.length = old.length) (h1 : ∀ u ∈ cs, u.oneCell' = true) (hi : (P.info? ty).map (·.size) = some cs.length)
    (hK : ∀ v', Holds v' g t cs → Mod [g] v v' → Kq (T.put o.dst undef) v') : if Region.wanted o (yielded ops T.tmps) = true then o.wp P T v Kq Q else E := by
  obtain ⟨v', hr, q1, q2, _⟩ := exec_stores ho hx hy hV hh hf h1 hi
  exact wp_ran_skip hg hr (hK v' q1 q2)
theorem results_tct {P : Program} {fn : Func} {p q r : Tmp} {ty : TypeId} (h : fn.results = #[.tmp p, .cell q ty, .tmp r]) (tmps : Array Value) (w : World) (g : Nat) (cs : List Value) (x y : Value) (d : TypeDesc)
    (hp : tmps[p]? = some x) (hq : tmps[q]? = some (.pointer (some ⟨g, 0, none⟩))) (hr : tmps[r]? = some y) (hc : Cells w (some ⟨g, 0, none⟩) cs)
    (hu : P.underlying ty = some d) (hd : (match d with | .struct _ | .array _ _ => true | _ => false) = true) (hi : (P.info? ty).map (·.size) = some cs.length) :
    (results fn tmps).run P w = .ok (.tuple #[x, .agg cs.toArray, y]) w := by
  simp [results, h, hp, hq, hr, asAddr, run_loads hc hu hd hi]
/-- What an operation did to a disk. -/
structure Did (v v' : World) (g m : Nat) (A A' : Option Addr) : Prop where
  mod : Mod (g :: m :: blk A) v v'
  new : ∀ a, A' = some a → a.block ∈ blk A ∨ v.heap.size ≤ a.block
theorem Did.then {v v' v'' : World} {g m : Nat} {A A' : Option Addr} (h : Did v v' g m A A') (k : Mod [] v' v'') : Did v v'' g m A A' := ⟨h.mod.then k, h.new⟩
theorem Did.pre {v v' v'' : World} {g m : Nat} {A A' : Option Addr} (k : Mod [] v v') (h : Did v' v'' g m A A') : Did v v'' g m A A' := ⟨k.pre h.mod, fun a ha => (h.new a ha).imp id (fun h => Nat.le_trans k.size h)⟩
set_option maxRecDepth 1000000 in
set_option maxHeartbeats 8000000 in
theorem act3_c (S : St) (g m : Nat) (A : Option Addr) (c : Nat) (kd : Int) (a : Ac) (K : Option Addr) (ck : Nat) (w : World) (D : DAt w g m A c S) (hk : a.kind = ((IntKind.u64.wrap kd) % 7).toNat) (h3 : a.kind < 3) (ho : S.ops + 1 ≤ 1099511627776) :
    Calls Try.prog 33 #[.pointer (some ⟨g, 0, none⟩), .agg (dv kd a K ck).toArray] w fun e w' => e = .returned (.tuple #[.pointer (some ⟨g, 0, none⟩), bv (S.act a).1, .int .i64 (S.act a).2.1]) ∧ ∃ A' c', DAt w' g m A' c' (S.act a).2.2 ∧ Did w w' g m A A' := by
  have hlt := D.blk.lt
  obtain ⟨R0, hR0⟩ : ∃ R0, S.act a = R0 := ⟨_, rfl⟩
  rw [hR0]
  replace hR0 := Lib.hid hR0
  go_enter Try.func33, Try.ntmps33
  go_wp2_with (first
    | (with_reducible refine wpList_boxes (o := ⟨some 3, .box 49 (.tmp 1), _, _, _, _⟩) rfl 49 (.tmp 1) rfl _ rfl (dv kd a K ck) rfl ?_; intro w1 hb1 m1 z1; replace z1 := Lib.hid z1)
    | (with_reducible refine wpList_allocs (o := ⟨some 5, .alloc 39, _, _, _, _⟩) rfl 39 rfl _ zero39 ?_; intro w2 hb2 m2 z2; replace z2 := Lib.hid z2)
    | (with_reducible refine wpList_allocs (o := ⟨some 7, .alloc 39, _, _, _, _⟩) rfl 39 rfl _ zero39 ?_; intro w3 hb3 m3 z3; replace z3 := Lib.hid z3; replace hb1 := (hb1.keep m2 (by simp)).keep m3 (by simp))
    | (with_reducible refine wpList_loads (o := ⟨some 10, .load 49 (.tmp 3), _, _, _, _⟩) rfl 49 (.tmp 3) rfl w.heap.size 0 _ rfl (Cells.of_holds hb1) _ Try.underlying49 rfl (by rw [dv_length]; exact size49) (.agg (dv kd a K ck).toArray) rfl ?_))
  refine (kind_c kd a K ck _ hk).mono ?_
  rintro e w4 ⟨rfl, m4⟩
  have mm : Mod [] w w4 := ((m1.then m2).then m3).then m4
  have D4 := D.keep mm (by simp) (by simp) (by simp)
  have h5 : Holds w4 w1.heap.size 39 (bc (fil 0)) := (hb2.keep m3 (by simp)).keep m4 (by simp)
  have h7 : Holds w4 w2.heap.size 39 (bc (fil 0)) := hb3.keep m4 (by simp)
  have h1 : Holds w4 w.heap.size 49 (dv kd a K ck) := hb1.keep m4 (by simp)
  obtain ⟨b3, e3⟩ : ∃ b, b = w.heap.size := ⟨_, rfl⟩
  obtain ⟨b5, e5⟩ : ∃ b, b = w1.heap.size := ⟨_, rfl⟩
  obtain ⟨b7, e7⟩ : ∃ b, b = w2.heap.size := ⟨_, rfl⟩
  have o1 : g < b3 := by omega
  have o2 : b3 < b5 := by have := z1.out; omega
  have o3 : b5 < b7 := by have := z2.out; omega
  have o4 : w.heap.size ≤ b3 := by omega
  have o5 : b7 < w4.heap.size := by have := h7.lt; omega
  rw [← e5] at h5
  rw [← e7] at h7
  rw [← e3] at h1
  rw [← e3, ← e5, ← e7]
  clear e3 e5 e7 hb1 hb2 hb3 m1 m2 m3 m4 z1 z2 z3
  have k1 := h1.cell 1
  have k3 := h1.cell 3
  simp only [dv, List.getElem?_cons_succ, List.getElem?_cons_zero] at k1 k3
  obtain hk0 | hk0 | hk0 : a.kind = 0 ∨ a.kind = 1 ∨ a.kind = 2 := by omega
  · have hkz : (a.kind : Int) = 0 := by omega
    rw [hkz]
    have hact : S.read a.at_ = R0 := by rw [← hR0.out]; unfold St.act; rw [hk0]; rfl
    have R := read_c S g m A c a.at_ w4 D4 ho
    rw [hact] at R
    clear hR0 hact hk hkz hk0 h3
    go_wp2_with (first
      | (go_at_call 17; refine R.mono ?_; clear R; rintro e wy ⟨rfl, D5, m5⟩; replace h5 := h5.keep m5 (by simp; omega); replace h7 := h7.keep m5 (by simp; omega))
      | (with_reducible refine wpList_storesAll (o := ⟨none, .store 39 (.tmp 7) (.tmp 26), _, _, _, _⟩) rfl 39 (.tmp 7) (.tmp 26) rfl rfl b7 (bc R0.1) rfl (bv R0.1) rfl rfl 39 _ h7 (by simp only [bc_length]) (bc_one _) (by rw [bc_length]; exact size39) ?_; intro wz hw7 m7 z7))
    replace h5 := h5.keep m7 (by simp; omega)
    have h7 := hw7
    have hm : Mod [g, b7] w4 wz := (m5.wk (ns := [g, b7]) (fun i _ h => by simp at h; simp [h])).trans (m7.wk (ns := [g, b7]) (fun i _ h => by simp at h; simp [h])) (fun _ _ h => h)
    have D6 := D5.keep m7 (by simp; omega) (by have := D4.firm.lt; have := D.firm.lt; simp; omega) (fun a ha => by have := D.loose.lt a ha; simp; omega)
    clear m5 m7 z7 hw7 D5 k1 k3
    go_wp2_with fail

    refine wp_region_det2 64 (fun s => match s with
      | 0 => .pointer (some ⟨g, 0, none⟩) | 5 => .pointer (some ⟨b5, 0, none⟩) | 7 => .pointer (some ⟨b7, 0, none⟩) | 8 => .int .i64 (R0.2.1)
      | 61 => .pointer (some ⟨g, 0, none⟩) | 62 => bv (R0.1) | 63 => .int .i64 (R0.2.1) | 4 => .pointer (some ⟨g, 0, none⟩) | 6 => .int .i64 (R0.2.1) | _ => undef) [0, 5, 7, 8]
      (fun l v => (l 4 = false ∧ v = wz.drew) ∨ (l 4 = true ∧ Holds v b5 39 (bc (R0.1)) ∧ Mod [b5] wz.drew v)) []
      (by kernel_rfl) rfl rfl (by intro s hs; simp at hs; rcases hs with rfl | rfl | rfl | rfl <;> rfl) (.inl ⟨rfl, rfl⟩) (drawn2B_lt (nt := 64) (by kernel_rfl)) (drawn2B_dst (by kernel_rfl)) ?step ?fin
    case step =>
      intro l T v j o hj hlj hdep hst hpar hgot Kq hK
      have hj15 : j < 6 := (Array.getElem?_eq_some_iff.1 hj).1
      have r7 : (loadVar 39 ⟨b7, 0, none⟩).run Try.prog v = .ok (bv (R0.1)) v := by
        have h7d : Holds wz.drew b7 39 (bc (R0.1)) := h7
        rcases hst with ⟨_, rfl⟩ | ⟨_, _, q⟩
        · exact run_loads (Cells.of_holds h7d) Try.underlying39 rfl (by rw [bc_length]; exact size39)
        · exact run_loads (Cells.of_holds (h7d.keep q (by simp; omega))) Try.underlying39 rfl (by rw [bc_length]; exact size39)
      obtain rfl | rfl | rfl | rfl | rfl | rfl : j = 0 ∨ j = 1 ∨ j = 2 ∨ j = 3 ∨ j = 4 ∨ j = 5 := by omega
      all_goals (have hj' := Option.some.inj (hj : some _ = some o); subst hj'; clear hj)
      · exact wp_ran rfl (exec_move rfl (eval_tmp (hpar 0 (by simp)))) (hK _ _ (fun s hs => by cases hs; rfl) (by simpa using hst))
      · exact wp_ran rfl (exec_load rfl (eval_tmp (hpar 7 (by simp))) r7) (hK _ _ (fun s hs => by cases hs; rfl) (by simpa using hst))
      · exact wp_ran rfl (exec_move rfl (eval_tmp (hpar 8 (by simp)))) (hK _ _ (fun s hs => by cases hs; rfl) (by simpa using hst))
      · exact wp_ran rfl (exec_assign rfl (eval_tmp (hgot 0 _ _ rfl (hdep ⟨0, .data⟩ (by simp) rfl) rfl))) (hK _ _ (fun s hs => by cases hs; rfl) (by simpa using hst))
      · rcases hst with ⟨_, rfl⟩ | ⟨a1, _⟩
        · have h5d : Holds wz.drew b5 39 (bc (fil 0)) := h5
          exact wp_stored (ty := 39) (V := bv (R0.1)) (cs := bc (R0.1)) rfl rfl (eval_tmp (hpar 5 (by simp))) (eval_tmp (hgot 1 _ _ rfl (hdep ⟨1, .data⟩ (by simp) rfl) rfl)) rfl h5d (by simp only [bc_length]) (bc_one _) (by rw [bc_length]; exact size39) (fun v' q1 q2 => hK _ _ (fun s hs => by cases hs) (.inr ⟨rfl, q1, q2⟩))
        · rw [hlj] at a1; cases a1
      · exact wp_ran rfl (exec_assign rfl (eval_tmp (hgot 2 _ _ rfl (hdep ⟨2, .data⟩ (by simp) rfl) rfl))) (hK _ _ (fun s hs => by cases hs; rfl) (by simpa using hst))
    case fin =>
      intro l T v hl hst ht hd hpar hgot
      have e4 : l 4 = true := hl 4 (by decide)
      rcases hst with ⟨a1, _⟩ | ⟨_, q1, q2⟩
      · rw [e4] at a1; cases a1
      · have t4 := hgot 3 _ 4 rfl rfl
        have t5 := hpar 5 (by simp)
        have t6 := hgot 5 _ 6 rfl rfl
        have hmz : Mod [g, b7, b5] w4 v := ((hm.then (Mod.drew [] wz)).wk (ns := [g, b7, b5]) (fun i _ h => by simp at h; rcases h with h | h <;> simp [h])).trans (q2.wk (ns := [g, b7, b5]) (fun i _ h => by simp at h; simp [h])) (fun _ _ h => h)
        have hM : Mod (g :: m :: blk A) w v := ⟨hmz.os.trans mm.os, hmz.tape.trans mm.tape, hmz.output.trans mm.output, Nat.le_trans mm.size hmz.size, fun k hk hn => by
          rw [hmz.block k (by have := mm.size; omega) (by simp at hn ⊢; omega), mm.block k hk (by simp)]⟩
        have D7 := (D6.keep (Mod.drew [] wz) (by simp) (by simp) (by simp)).keep q2 (by simp; omega) (by have := D.firm.lt; simp; omega) (fun a ha => by have := D.loose.lt a ha; simp; omega)
        go_wp2
        refine bodyPost_ret (results_tct rfl _ _ b5 (bc R0.1) _ _ _ t4 t5 t6 (Cells.of_holds q1) Try.underlying39 rfl (by rw [bc_length]; exact size39)) hd ?_
        exact ⟨rfl, A, ⟨c, D7⟩, ⟨hM, fun a ha => .inl (by unfold blk; simp [ha])⟩⟩
  · have hkz : (a.kind : Int) = 1 := by omega
    rw [hkz]
    have hact : (fil 0, S.write a.at_ (fil a.fill)) = R0 := by rw [← hR0.out]; unfold St.act; rw [hk0]; rfl
    have r1 : R0.1 = fil 0 := by rw [← hact]
    have r2 : R0.2 = S.write a.at_ (fil a.fill) := by rw [← hact]
    have WR := fun (v : World) (Dv : DAt v g m A c S) => write_c S g m A c a.at_ (fil a.fill) v Dv ho
    rw [← r2] at WR
    have HR := Lib.hid (And.intro r1 r2)
    have bA : ∀ k ∈ blk A, k < b3 := fun k hk => by have := dat_blk_lt D k hk; omega
    have bm : m < b3 := by have := D.firm.lt; omega
    clear hR0 hact hk hkz hk0 h3 r1 r2
    go_wp2_with fail
    refine wp_region_det2 64 (fun s => match s with
      | 0 => .pointer (some ⟨g, 0, none⟩) | 3 => .pointer (some ⟨b3, 0, none⟩) | 5 => .pointer (some ⟨b5, 0, none⟩) | 7 => .pointer (some ⟨b7, 0, none⟩) | 8 => .int .i64 R0.2.1
      | 30 => .pointer (some ⟨g, 0, none⟩) | 31 => .pointer (some ⟨b3, 1, none⟩) | 32 => .int .i64 a.at_ | 33 => .pointer (some ⟨b3, 3, none⟩) | 34 => oct a.fill | 35 => bv (fil a.fill) | 36 => .int .i64 R0.2.1 | _ => undef) [0, 3, 5, 7]
      (fun l v => (l 6 = false ∧ Mod [] w4.drew v) ∨ (l 6 = true ∧ ∃ A' c', DAt v g m A' c' R0.2.2 ∧ Did w4.drew v g m A A')) []
      (by kernel_rfl) rfl rfl (by intro s hs; simp at hs; rcases hs with rfl | rfl | rfl | rfl <;> rfl) (.inl ⟨rfl, Mod.refl _ _⟩) (drawn2B_lt (nt := 64) (by kernel_rfl)) (drawn2B_dst (by kernel_rfl)) ?step ?fin
    case step =>
      intro l T v j o hj hlj hdep hst hpar hgot Kq hK
      have hj15 : j < 8 := (Array.getElem?_eq_some_iff.1 hj).1
      have hc : v.cell? ⟨b3, 1, none⟩ = some (.int .i64 a.at_) ∧ v.cell? ⟨b3, 3, none⟩ = some (oct a.fill) := by
        have h1d : Holds w4.drew b3 49 (dv kd a K ck) := h1
        rcases hst with ⟨_, q⟩ | ⟨_, A', c', _, q⟩
        · exact ⟨(h1d.keep q (by simp)).cell 1, (h1d.keep q (by simp)).cell 3⟩
        · have hn : b3 ∉ g :: m :: blk A := by
            simp only [List.mem_cons, not_or]
            exact ⟨by omega, by omega, fun hh => by have := bA _ hh; omega⟩
          exact ⟨(h1d.keep q.mod hn).cell 1, (h1d.keep q.mod hn).cell 3⟩
      obtain rfl | rfl | rfl | rfl | rfl | rfl | rfl | rfl : j = 0 ∨ j = 1 ∨ j = 2 ∨ j = 3 ∨ j = 4 ∨ j = 5 ∨ j = 6 ∨ j = 7 := by omega
      all_goals (have hj' := Option.some.inj (hj : some _ = some o); subst hj'; clear hj)
      · exact wp_ran rfl (exec_move rfl (eval_tmp (hpar 0 (by simp)))) (hK _ _ (fun s hs => by cases hs; rfl) (by simpa using hst))
      · exact wp_ran rfl (exec_field49 (k := 1) (by decide) rfl (eval_tmp (hpar 3 (by simp)))) (hK _ _ (fun s hs => by cases hs; rfl) (by simpa using hst))
      · exact wp_ran rfl (exec_load rfl (eval_tmp (hgot 1 _ _ rfl (hdep ⟨1, .data⟩ (by simp) rfl) rfl)) (run_load1 Try.underlying3 rfl hc.1)) (hK _ _ (fun s hs => by cases hs; rfl) (by simpa using hst))
      · exact wp_ran rfl (exec_field49 (k := 3) (by decide) rfl (eval_tmp (hpar 3 (by simp)))) (hK _ _ (fun s hs => by cases hs; rfl) (by simpa using hst))
      · exact wp_ran rfl (exec_load rfl (eval_tmp (hgot 3 _ _ rfl (hdep ⟨3, .data⟩ (by simp) rfl) rfl)) (run_load1 Try.underlying5 rfl hc.2)) (hK _ _ (fun s hs => by cases hs; rfl) (by simpa using hst))
      · refine wp_called rfl (exec_call1 rfl rfl (eval_tmp (hgot 4 _ _ rfl (hdep ⟨4, .data⟩ (by simp) rfl) rfl)) (enters_of Try.func22 (by kernel_rfl) rfl)) ((filled_c a.fill _).mono (fun e v' hh => ⟨_, hh.1, hK _ _ (fun s hs => by cases hs; rfl) ?_⟩))
        rcases hst with ⟨q0, q⟩ | ⟨q0, A', c', q1, q2⟩
        · exact .inl ⟨by simpa using q0, q.then hh.2⟩
        · exact .inr ⟨by simpa using q0, A', c', q1.keep hh.2 (by simp) (by simp) (by simp), q2.then hh.2⟩
      · rcases hst with ⟨q0, q⟩ | ⟨q0, _⟩
        · refine wp_called rfl (exec_call3 rfl rfl (eval_tmp (hgot 0 _ _ rfl (hdep ⟨0, .data⟩ (by simp) rfl) rfl)) (eval_tmp (hgot 2 _ _ rfl (hdep ⟨2, .data⟩ (by simp) rfl) rfl)) (eval_tmp (hgot 5 _ _ rfl (hdep ⟨5, .data⟩ (by simp) rfl) rfl)) (enters_of Try.func21 (by kernel_rfl) rfl)) ((WR v ((D4.keep (Mod.drew [] w4) (by simp) (by simp) (by simp)).keep q (by simp) (by simp) (by simp))).mono (fun e v' hh => ⟨_, hh.1, hK _ _ (fun s hs => by cases hs; rfl) ?_⟩))
          obtain ⟨_, A', c', u1, u2, u3⟩ := hh
          exact .inr ⟨rfl, A', c', u1, Did.pre q ⟨u2.wk (fun i _ h => by simp only [List.mem_cons] at h ⊢; rcases h with h | h; exact .inl h; exact .inr (.inr h)), u3⟩⟩
        · rw [hlj] at q0; cases q0
      · exact wp_ran rfl (exec_assign rfl (eval_tmp (hgot 6 _ _ rfl (hdep ⟨6, .data⟩ (by simp) rfl) rfl))) (hK _ _ (fun s hs => by cases hs; rfl) (by simpa using hst))
    case fin =>
      intro l T v hl hst ht hd hpar hgot
      have e6 : l 6 = true := hl 6 (by decide)
      obtain ⟨A', c', D5, did⟩ : ∃ A' c', DAt v g m A' c' R0.2.2 ∧ Did w4.drew v g m A A' := by
        rcases hst with ⟨q0, _⟩ | ⟨_, q⟩
        · rw [e6] at q0; cases q0
        · exact q
      have p0 := hpar 0 (by simp)
      have p5 := hpar 5 (by simp)
      have p7 := hpar 7 (by simp)
      have p8 := hgot 7 _ 8 rfl rfl
      have hz : ∀ k, b3 ≤ k → k ∉ g :: m :: blk A := fun k hk => by
        simp only [List.mem_cons, not_or]
        exact ⟨by omega, by omega, fun hh => by have := bA _ hh; omega⟩
      have h5d : Holds w4.drew b5 39 (bc (fil 0)) := h5
      have h7d : Holds w4.drew b7 39 (bc (fil 0)) := h7
      replace h5 := h5d.keep did.mod (hz _ (by omega))
      replace h7 := h7d.keep did.mod (hz _ (by omega))
      have dd : Did w v g m A A' := Did.pre (mm.then (Mod.drew [] w4)) did
      have hA5 : ∀ a, A' = some a → a.block ≠ b5 := fun a ha => D5.loose.ne h5 (by decide) a ha
      clear hl hst hpar hgot h1 k1 k3 did h5d h7d D4 WR
      go_wp2_with fail
      rw [← HR.out.1] at h7
      refine wp_region_det2 64 (fun s => match s with
        | 0 => .pointer (some ⟨g, 0, none⟩) | 5 => .pointer (some ⟨b5, 0, none⟩) | 7 => .pointer (some ⟨b7, 0, none⟩) | 8 => .int .i64 (R0.2.1)
        | 61 => .pointer (some ⟨g, 0, none⟩) | 62 => bv (R0.1) | 63 => .int .i64 (R0.2.1) | 4 => .pointer (some ⟨g, 0, none⟩) | 6 => .int .i64 (R0.2.1) | _ => undef) [0, 5, 7, 8]
        (fun l u => (l 4 = false ∧ u = v.drew) ∨ (l 4 = true ∧ Holds u b5 39 (bc (R0.1)) ∧ Mod [b5] v.drew u)) []
        (by kernel_rfl) ht hd (by intro s hs; simp at hs; rcases hs with rfl | rfl | rfl | rfl; exact p0; exact p5; exact p7; exact p8) (.inl ⟨rfl, rfl⟩) (drawn2B_lt (nt := 64) (by kernel_rfl)) (drawn2B_dst (by kernel_rfl)) ?step2 ?fin2
      case step2 =>
        intro l T' v' j o hj hlj hdep hst hpar hgot Kq hK
        have hj15 : j < 6 := (Array.getElem?_eq_some_iff.1 hj).1
        have r7 : (loadVar 39 ⟨b7, 0, none⟩).run Try.prog v' = .ok (bv (R0.1)) v' := by
          have h7d : Holds v.drew b7 39 (bc (R0.1)) := h7
          rcases hst with ⟨_, rfl⟩ | ⟨_, _, q⟩
          · exact run_loads (Cells.of_holds h7d) Try.underlying39 rfl (by rw [bc_length]; exact size39)
          · exact run_loads (Cells.of_holds (h7d.keep q (by simp; omega))) Try.underlying39 rfl (by rw [bc_length]; exact size39)
        obtain rfl | rfl | rfl | rfl | rfl | rfl : j = 0 ∨ j = 1 ∨ j = 2 ∨ j = 3 ∨ j = 4 ∨ j = 5 := by omega
        all_goals (have hj' := Option.some.inj (hj : some _ = some o); subst hj'; clear hj)
        · exact wp_ran rfl (exec_move rfl (eval_tmp (hpar 0 (by simp)))) (hK _ _ (fun s hs => by cases hs; rfl) (by simpa using hst))
        · exact wp_ran rfl (exec_load rfl (eval_tmp (hpar 7 (by simp))) r7) (hK _ _ (fun s hs => by cases hs; rfl) (by simpa using hst))
        · exact wp_ran rfl (exec_move rfl (eval_tmp (hpar 8 (by simp)))) (hK _ _ (fun s hs => by cases hs; rfl) (by simpa using hst))
        · exact wp_ran rfl (exec_assign rfl (eval_tmp (hgot 0 _ _ rfl (hdep ⟨0, .data⟩ (by simp) rfl) rfl))) (hK _ _ (fun s hs => by cases hs; rfl) (by simpa using hst))
        · rcases hst with ⟨_, rfl⟩ | ⟨a1, _⟩
          · have h5d : Holds v.drew b5 39 (bc (fil 0)) := h5
            exact wp_stored (ty := 39) (V := bv (R0.1)) (cs := bc (R0.1)) rfl rfl (eval_tmp (hpar 5 (by simp))) (eval_tmp (hgot 1 _ _ rfl (hdep ⟨1, .data⟩ (by simp) rfl) rfl)) rfl h5d (by simp only [bc_length]) (bc_one _) (by rw [bc_length]; exact size39) (fun v'' q1 q2 => hK _ _ (fun s hs => by cases hs) (.inr ⟨rfl, q1, q2⟩))
          · rw [hlj] at a1; cases a1
        · exact wp_ran rfl (exec_assign rfl (eval_tmp (hgot 2 _ _ rfl (hdep ⟨2, .data⟩ (by simp) rfl) rfl))) (hK _ _ (fun s hs => by cases hs; rfl) (by simpa using hst))
      case fin2 =>
        intro l T' v' hl hst ht hd hpar hgot
        have e4 : l 4 = true := hl 4 (by decide)
        rcases hst with ⟨a1, _⟩ | ⟨_, q1, q2⟩
        · rw [e4] at a1; cases a1
        · have t4 := hgot 3 _ 4 rfl rfl
          have t5 := hpar 5 (by simp)
          have t6 := hgot 5 _ 6 rfl rfl
          have hn5 : b5 ∉ g :: m :: blk A := hz _ (by omega)
          have hM : Mod (g :: m :: blk A) w v' := ⟨q2.os.trans dd.mod.os, q2.tape.trans dd.mod.tape, q2.output.trans dd.mod.output, Nat.le_trans dd.mod.size q2.size, fun k hk hn => by
            rw [q2.block k (by have := dd.mod.size; show k < v.heap.size; omega) (by simp; omega)]; exact dd.mod.block k hk hn⟩
          have D7 := (D5.keep (Mod.drew [] v) (by simp) (by simp) (by simp)).keep q2 (by simp; omega) (by simp; omega) (fun a ha => by simpa using hA5 a ha)
          go_wp2
          refine bodyPost_ret (results_tct rfl _ _ b5 (bc R0.1) _ _ _ t4 t5 t6 (Cells.of_holds q1) Try.underlying39 rfl (by rw [bc_length]; exact size39)) hd ?_
          exact ⟨rfl, A', ⟨c', D7⟩, ⟨hM, dd.new⟩⟩
  · have hkz : (a.kind : Int) = 2 := by omega
    rw [hkz]
    have hact : (fil 0, S.sync) = R0 := by rw [← hR0.out]; unfold St.act; rw [hk0]; rfl
    have r1 : R0.1 = fil 0 := by rw [← hact]
    have r2 : R0.2 = S.sync := by rw [← hact]
    have WR := sync_c S g m A c w4 D4 ho
    rw [← r2] at WR
    have HR := Lib.hid (And.intro r1 r2)
    have bA : ∀ k ∈ blk A, k < b3 := fun k hk => by have := dat_blk_lt D k hk; omega
    have bm : m < b3 := by have := D.firm.lt; omega
    have hz : ∀ k, b3 ≤ k → k ∉ g :: m :: blk A := fun k hk => by
      simp only [List.mem_cons, not_or]
      exact ⟨by omega, by omega, fun hh => by have := bA _ hh; omega⟩
    clear hR0 hact hk hkz hk0 h3 r1 r2 D4 k1 k3
    go_wp2_with fail
    refine WR.mono ?_
    clear WR
    rintro e wz ⟨rfl, A', c', D5, dm, dn⟩
    have did : Did w4 wz g m A A' := ⟨dm.wk (fun i _ h => by simp at h; rcases h with rfl | rfl <;> simp), fun a ha => .inl (by unfold blk; simp [dn a ha])⟩
    replace h5 := h5.keep did.mod (hz _ (by omega))
    replace h7 := h7.keep did.mod (hz _ (by omega))
    have dd : Did w wz g m A A' := Did.pre mm did
    have hA5 : ∀ a, A' = some a → a.block ≠ b5 := fun a ha => D5.loose.ne h5 (by decide) a ha
    clear did dm dn h1
    go_wp2_with fail
    rw [← HR.out.1] at h7
    refine wp_region_det2 64 (fun s => match s with
      | 0 => .pointer (some ⟨g, 0, none⟩) | 5 => .pointer (some ⟨b5, 0, none⟩) | 7 => .pointer (some ⟨b7, 0, none⟩) | 8 => .int .i64 (R0.2.1)
      | 61 => .pointer (some ⟨g, 0, none⟩) | 62 => bv (R0.1) | 63 => .int .i64 (R0.2.1) | 4 => .pointer (some ⟨g, 0, none⟩) | 6 => .int .i64 (R0.2.1) | _ => undef) [0, 5, 7, 8]
      (fun l v => (l 4 = false ∧ v = wz.drew) ∨ (l 4 = true ∧ Holds v b5 39 (bc (R0.1)) ∧ Mod [b5] wz.drew v)) []
      (by kernel_rfl) rfl rfl (by intro s hs; simp at hs; rcases hs with rfl | rfl | rfl | rfl <;> rfl) (.inl ⟨rfl, rfl⟩) (drawn2B_lt (nt := 64) (by kernel_rfl)) (drawn2B_dst (by kernel_rfl)) ?step ?fin
    case step =>
      intro l T v j o hj hlj hdep hst hpar hgot Kq hK
      have hj15 : j < 6 := (Array.getElem?_eq_some_iff.1 hj).1
      have r7 : (loadVar 39 ⟨b7, 0, none⟩).run Try.prog v = .ok (bv (R0.1)) v := by
        have h7d : Holds wz.drew b7 39 (bc (R0.1)) := h7
        rcases hst with ⟨_, rfl⟩ | ⟨_, _, q⟩
        · exact run_loads (Cells.of_holds h7d) Try.underlying39 rfl (by rw [bc_length]; exact size39)
        · exact run_loads (Cells.of_holds (h7d.keep q (by simp; omega))) Try.underlying39 rfl (by rw [bc_length]; exact size39)
      obtain rfl | rfl | rfl | rfl | rfl | rfl : j = 0 ∨ j = 1 ∨ j = 2 ∨ j = 3 ∨ j = 4 ∨ j = 5 := by omega
      all_goals (have hj' := Option.some.inj (hj : some _ = some o); subst hj'; clear hj)
      · exact wp_ran rfl (exec_move rfl (eval_tmp (hpar 0 (by simp)))) (hK _ _ (fun s hs => by cases hs; rfl) (by simpa using hst))
      · exact wp_ran rfl (exec_load rfl (eval_tmp (hpar 7 (by simp))) r7) (hK _ _ (fun s hs => by cases hs; rfl) (by simpa using hst))
      · exact wp_ran rfl (exec_move rfl (eval_tmp (hpar 8 (by simp)))) (hK _ _ (fun s hs => by cases hs; rfl) (by simpa using hst))
      · exact wp_ran rfl (exec_assign rfl (eval_tmp (hgot 0 _ _ rfl (hdep ⟨0, .data⟩ (by simp) rfl) rfl))) (hK _ _ (fun s hs => by cases hs; rfl) (by simpa using hst))
      · rcases hst with ⟨_, rfl⟩ | ⟨a1, _⟩
        · have h5d : Holds wz.drew b5 39 (bc (fil 0)) := h5
          exact wp_stored (ty := 39) (V := bv (R0.1)) (cs := bc (R0.1)) rfl rfl (eval_tmp (hpar 5 (by simp))) (eval_tmp (hgot 1 _ _ rfl (hdep ⟨1, .data⟩ (by simp) rfl) rfl)) rfl h5d (by simp only [bc_length]) (bc_one _) (by rw [bc_length]; exact size39) (fun v' q1 q2 => hK _ _ (fun s hs => by cases hs) (.inr ⟨rfl, q1, q2⟩))
        · rw [hlj] at a1; cases a1
      · exact wp_ran rfl (exec_assign rfl (eval_tmp (hgot 2 _ _ rfl (hdep ⟨2, .data⟩ (by simp) rfl) rfl))) (hK _ _ (fun s hs => by cases hs; rfl) (by simpa using hst))
    case fin =>
      intro l T v hl hst ht hd hpar hgot
      have e4 : l 4 = true := hl 4 (by decide)
      rcases hst with ⟨a1, _⟩ | ⟨_, q1, q2⟩
      · rw [e4] at a1; cases a1
      · have t4 := hgot 3 _ 4 rfl rfl
        have t5 := hpar 5 (by simp)
        have t6 := hgot 5 _ 6 rfl rfl
        have hn5 : b5 ∉ g :: m :: blk A := hz _ (by omega)
        have hM : Mod (g :: m :: blk A) w v := ⟨q2.os.trans dd.mod.os, q2.tape.trans dd.mod.tape, q2.output.trans dd.mod.output, Nat.le_trans dd.mod.size q2.size, fun k hk hn => by
        rw [q2.block k (by have := dd.mod.size; show k < wz.heap.size; omega) (by simp; omega)]; exact dd.mod.block k hk hn⟩
        have D7 := (D5.keep (Mod.drew [] wz) (by simp) (by simp) (by simp)).keep q2 (by simp; omega) (by simp; omega) (fun a ha => by simpa using hA5 a ha)
        go_wp2
        refine bodyPost_ret (results_tct rfl _ _ b5 (bc R0.1) _ _ _ t4 t5 t6 (Cells.of_holds q1) Try.underlying39 rfl (by rw [bc_length]; exact size39)) hd ?_
        exact ⟨rfl, A', ⟨c', D7⟩, ⟨hM, dd.new⟩⟩
end Go.Proofs.Ytpdpahkhfilmpaa
