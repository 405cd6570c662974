/-
  My own texts Sc Sd, one behind the other.
-/
import Derived.Test.YtchanildogjhgaaDoorFn
import Derived.Test.YtchanildogjhgaaDoorS1
import Derived.Test.YtchanildogjhgaaDoorRe
namespace Go.Proofs.YtchanildogjhgaaDoor
section
open Go.RowKit Go.Shelf
set_option linter.unusedVariables false
set_option linter.unusedSimpArgs false
/-- Terms ahead of one, paired. -/
def pairs : List Tm → Tm → Tm
  | [], t => t
  | a :: l, t => .mk 4 0 0 ⟨#[]⟩ [a, pairs l t]
abbrev nilX : Tm := .mk 1 0 0 ⟨#[]⟩ []
theorem listT_pairs : ∀ l, listT l = pairs l nilX
  | [] => rfl
  | a :: l => by rw [listT, pairs, listT_pairs l]
theorem pairs_snoc (a b : Tm) : ∀ l, pairs l (.mk 4 0 0 ⟨#[]⟩ [a, b]) = pairs (l ++ [a]) b
  | [] => rfl
  | x :: l => by rw [List.cons_append, pairs, pairs, pairs_snoc a b l]
theorem pairs_count : ∀ (l : List Tm) (t : Tm), l.length + 1 ≤ (pairs l t).count
  | [], t => by have := Tm.count_pos t; simpa [pairs] using this
  | a :: l, t => by
    have := pairs_count l t
    have := Tm.count_pos a
    simp [pairs, Tm.count, Tm.countAll]
    omega
/-- A list is one in one way alone. -/
theorem pairs_list : ∀ (l m : List Tm) (t : Tm), t.kind ≠ 4 → pairs l t = listT m → l = m ∧ t = nilX
  | [], [], t, _, h => ⟨rfl, h⟩
  | [], b :: m, t, hk, h => by
    rw [pairs] at h
    rw [h, listT] at hk
    exact absurd rfl hk
  | a :: l, [], t, _, h => by
    rw [pairs, listT] at h
    cases h
  | a :: l, b :: m, t, hk, h => by
    rw [pairs, listT] at h
    simp only [Tm.mk.injEq, List.cons.injEq, and_true, true_and] at h
    obtain ⟨rfl, h⟩ := h
    obtain ⟨rfl, h2⟩ := pairs_list l m t hk h
    exact ⟨rfl, h2⟩
theorem listT_inj {l m : List Tm} (h : listT l = listT m) : l = m := by
  rw [listT_pairs l] at h
  exact (pairs_list l m nilX (by decide) h).1
theorem ok_pair {u n : Int} {s : ByteArray} {l : List Tm} (h : (Tm.mk 4 u n s l).ok = true) : u = 0 ∧ n = 0 ∧ s = ⟨#[]⟩ ∧ ∃ a b, l = [a, b] ∧ a.ok = true ∧ b.ok = true := by
  rw [ok_mk, Bool.and_eq_true, Tm.one_iff] at h
  obtain ⟨⟨_, ⟨h1, h2, h3⟩, h4⟩, h5⟩ := h
  simp [Tm.hasT, Tm.hasU, Tm.hasN, Tm.nk] at h1 h2 h3 h4
  refine ⟨by omega, by omega, ?_, ?_⟩
  · exact h1
  · match l, h4 with
    | [a, b], _ =>
      simp [Tm.okAll] at h5
      exact ⟨a, b, rfl, h5.1, h5.2⟩
theorem pairs_ok : ∀ (l : List Tm) (t : Tm), (pairs l t).ok = true → t.ok = true
  | [], t, h => h
  | a :: l, t, h => by
    rw [pairs] at h
    obtain ⟨_, _, _, x, y, e, _, hy⟩ := ok_pair h
    simp only [List.cons.injEq, and_true] at e
    rw [← e.2] at hy
    exact pairs_ok l t hy
def slLen : Value → Nat
  | .slice _ n _ => n
  | _ => 0
/-- What Unlist answers of a term that may be. -/
def UnlP (w : World) (t : Tm) (e : Ending) (w' : World) : Prop := (∃ l A vs, t = listT l ∧ e = .returned (.tuple #[.slice A l.length l.length, .bool true]) ∧ RowT w' (Btw w.heap.size w'.heap.size) A vs l ∧ Mod [] w w') ∨ ((∀ l, t ≠ listT l) ∧ e = .returned (.tuple #[.slice none 0 0, .bool false]) ∧ Mod [] w w')
set_option maxRecDepth 1000000 in
set_option maxHeartbeats 2000000 in
theorem unlist_no (t : Tm) (ca : List Value) (S : Nat → Prop) (w : World) (hT : TIs w S t ca) (hS : ∀ g, S g → g < w.heap.size) (G : Glob w) (HR : t.right = false) : Calls Tryd.prog 28 #[.agg ca.toArray] w fun e w' => e = .returned (.tuple #[.slice none 0 0, .bool false]) ∧ Mod [] w w' := by
  have CK := fun v S h G => check_c t ca S v h G
  rw [show chk t = 150 by rw [chk, HR]; rfl] at CK
  have hca := hT.ones
  have FA := (Fm.nil w).argT hT hS
  clear hT hS
  clear HR
  go_enter Tryd.func28, Tryd.ntmps28
  go_wp2_with (first
    | (with_reducible refine fm_box FA (o := ⟨some 1, .box 24 (.tmp 0), _, _, _, _⟩) rfl 24 (.tmp 0) rfl (ca) rfl ?_; intro b1 w1 F1; clear FA)
    | (with_reducible refine fm_load F1 0 rfl (o := ⟨some 5, .load 24 (.tmp 1), _, _, _, _⟩) rfl (.tmp 1) rfl rfl hca.1 ?_)
    | (go_at_call 32; refine (CK w1 _ (F1.ist (F1.mem 0 rfl)) (F1.glob G)).mono ?_
       rintro e w2 ⟨rfl, m2⟩
       have F2 := F1.call m2
       clear m2 F1))
  go_ret2
  exact ⟨rfl, F2.m⟩
set_option maxRecDepth 1000000 in
set_option maxHeartbeats 4000000 in
theorem unlist_yes (t : Tm) (ca : List Value) (S : Nat → Prop) (w : World) (hT : TIs w S t ca) (hS : ∀ g, S g → g < w.heap.size) (G : Glob w) (HR : t.right = true) : Calls Tryd.prog 28 #[.agg ca.toArray] w (UnlP w t) := by
  have CK := fun v S h G => check_c t ca S v h G
  rw [show chk t = 0 by rw [chk, HR]; rfl] at CK
  have hcnt : t.count ≤ 1200 := by
    simp only [Tm.right, Bool.and_eq_true, decide_eq_true_eq] at HR
    exact HR.2
  have hok : t.ok = true := by
    simp only [Tm.right, Bool.and_eq_true] at HR
    exact HR.1.1
  have HO := Lib.hid (And.intro hcnt hok)
  have hca := hT.ones
  have FA := (Fm.nil w).argT hT hS
  clear hT hS
  clear HR hcnt hok
  go_enter Tryd.func28, Tryd.ntmps28
  go_wp2_with (first
    | (with_reducible refine fm_box FA (o := ⟨some 1, .box 24 (.tmp 0), _, _, _, _⟩) rfl 24 (.tmp 0) rfl (ca) rfl ?_; intro b1 w1 F1; clear FA)
    | (with_reducible refine fm_load F1 0 rfl (o := ⟨some 5, .load 24 (.tmp 1), _, _, _, _⟩) rfl (.tmp 1) rfl rfl hca.1 ?_)
    | (go_at_call 32; refine (CK w1 _ (F1.ist (F1.mem 0 rfl)) (F1.glob G)).mono ?_
       rintro e w2 ⟨rfl, m2⟩
       have F2 := F1.call m2
       clear m2 F1))
  go_loopw [4] (fun v wr => ∃ (acc : List Tm) (t' : Tm) (cs : List Value) (A : Option Addr) (c nn : Nat) (xs : List Q5) (S S' : Nat → Prop), v = .slice A nn c ∧ Hid (nn = acc.length ∧ t = pairs acc t' ∧ t'.ok = true) ∧ Fm w wr [oR A c xs, oB b1 24 cs] [tLs Any S acc xs, tT Any S' t' cs]) (fun v _ => 1201 - slLen v)
  case atStart => exact ⟨[], t, ca, none, 0, 0, [], _, _, rfl, Lib.hid ⟨rfl, rfl, HO.out.2⟩, F2.row0 Any⟩
  case round =>
  obtain ⟨acc, t', cs, A, c, nn, xs, Sl, St, rfl, HI, FJ⟩ := hrel
  obtain ⟨k, u, n, s, l'⟩ := t'
  obtain ⟨K, cc, vs, rfl, -⟩ := (FJ.tis 1 rfl).row
  obtain ⟨ln, hln⟩ : ∃ q, q = l'.length := ⟨_, rfl⟩
  rw [← hln] at FJ
  have HLN := Lib.hid hln
  clear hln
  have hnn : nn ≤ 1200 := by
    have h1 := HI.out
    have h2 := pairs_count acc (.mk k u n s l')
    rw [← h1.2.1] at h2
    have := HO.out.1
    omega
  cases hk : (k == 4) with
  | false =>
    have hk4 : k ≠ 4 := by simpa using hk
    cases hsm : Tm.same (.mk k u n s l') nilX with
    | false =>
      go_wp2_with (first
        | (with_reducible refine fm_load1 FJ 1 0 rfl (.int .i64 k) rfl (o := ⟨some 9, _, _, _, _, _⟩) rfl 3 (.tmp 8) rfl rfl (fun h => run_load1 Tryd.underlying3 rfl h) ?_))
      obtain ⟨Ts31, hTs31, FZ⟩ := (FJ.call (Mod.drew [] wr)).name
      have in0 := FJ.mem 0 rfl
      have in1 := FJ.mem 1 rfl
      rw [← hTs31] at in0
      rw [← hTs31] at in1
      refine wp_region_upxd (X := (Nat → List Value) × (Nat → Nat)) (fun _ => [], fun _ => 0) (fun x => [(22, .agg (tmc k u n s K ln cc).toArray), (23, .agg ((x.1 1)).toArray), (24, .bool false), (25, .bool true)]) 28 [22, 23, 24, 25] rfl (fun _ => rfl) (by decide) (by kernel_rfl) (fun x lz v => ∃ ts, Fm w v [oR A c xs, oB b1 24 (tmc k u n s K ln cc)] ts ∧ Ts31 ⊆ ts ∧ (lz 1 = true → ∃ Sx, tT (Up w.heap.size) Sx ((.mk 1 0 0 ⟨#[]⟩ [])) (x.1 1) ∈ ts)) (by kernel_rfl) ⟨_, FZ, List.Subset.refl _, (fun h => by cases h)⟩ (by kernel_rfl) (by kernel_rfl) ?step ?fin
      case step =>
        intro x lz T v j o hj hlj hdep hst hpar hgot hcl hdf Kq hK
        have hjn : j < 4 := (Array.getElem?_eq_some_iff.1 hj).1
        obtain rfl | rfl | rfl | rfl : j = 0 ∨ j = 1 ∨ j = 2 ∨ j = 3 := by omega
        all_goals (have hj' := Option.some.inj (hj : some _ = some o); subst hj'; clear hj)
        · obtain ⟨ts, FT, hts⟩ := hst
          have hL := FT.blk 1 rfl
          exact wp_ran rfl (exec_load rfl (eval_tmp ((hpar 1 rfl).trans rfl)) (run_loads (Cells.of_holds hL) Tryd.underlying24 rfl (size24' (tmc_len _ _ _ _ _ _ _)))) (hK x _ _ (fun _ _ _ _ _ _ => rfl) (fun s hs => by cases hs; rfl) (by simpa using (show ∃ ts, _ from ⟨ts, FT, hts⟩)))
        · obtain ⟨ts, FT, hs, g1⟩ := hst
          refine wp_called rfl (exec_call1 rfl rfl rfl (enters_of Tryd.func16 (by kernel_rfl) rfl)) ((text_c ⟨#[]⟩ (by decide) v).mono ?_)
          rintro e v' ⟨cs, rfl, hT, m⟩
          have FT' := FT.made m hT
          refine ⟨_, rfl, hK (fun i => if i = 1 then cs else x.1 i, x.2) _ _ (fun j' o' s' q1 q2 q3 => by
              have q4 : j' < 4 := (Array.getElem?_eq_some_iff.1 q1).1
              clear hpar hgot hdep hK
              obtain rfl | rfl | rfl | rfl : j' = 0 ∨ j' = 1 ∨ j' = 2 ∨ j' = 3 := by omega
              all_goals (cases q1; cases q3 <;> first | rfl | (rw [hlj] at q2; cases q2))) (fun s hs => by cases hs; rfl) ?_⟩
          refine ⟨_, (by simpa using FT'), (fun y hy => List.mem_cons_of_mem _ (hs hy)), (fun _ => ⟨_, List.mem_cons_self ..⟩)⟩
        · obtain ⟨ts, FT, hs, g1⟩ := hst
          obtain ⟨S1, e1⟩ := g1 (hdep ⟨1, .data⟩ (by simp) rfl)
          refine wp_called rfl (exec_call2 rfl rfl (eval_tmp (hgot 0 _ 22 rfl (hdep ⟨0, .data⟩ (by simp) rfl) rfl)) (eval_tmp (hgot 1 _ 23 rfl (hdep ⟨1, .data⟩ (by simp) rfl) rfl)) (enters_of Tryd.func33 (by kernel_rfl) rfl)) ((psame_c _ _ _ _ _ _ false v hsm (FT.ist (hs in1)) (FT.ist e1)).mono ?_)
          rintro e v' ⟨rfl, m⟩
          refine ⟨_, rfl, hK x _ _ (fun _ _ _ _ _ _ => rfl) (fun s hs => by cases hs; rfl) ?_⟩
          exact ⟨_, (by simpa using FT.call m), hs, (by simpa using g1)⟩
        · exact wp_ran rfl (exec_not rfl (eval_tmp (hgot 2 _ 24 rfl (hdep ⟨2, .data⟩ (by simp) rfl) rfl))) (hK x _ _ (fun _ _ _ _ _ _ => rfl) (fun s hs => by cases hs; rfl) (by simpa using hst))
      case fin =>
      intro x lz w31 hlz hst
      obtain ⟨ts, FT, hs, g1⟩ := hst
      obtain ⟨S31_1, e1⟩ := g1 (hlz 1 (by decide))
      obtain ⟨c31_1, hx1⟩ : ∃ c, c = x.1 1 := ⟨_, rfl⟩
      have F31 := FT.sub (ts' := [tT (Up w.heap.size) S31_1 ((.mk 1 0 0 ⟨#[]⟩ [])) (x.1 1)] ++ Ts31) (List.Sublist.refl _) (fun y hy => by
        rcases List.mem_append.1 hy with hy | hy
        · simp only [List.mem_cons, List.not_mem_nil, or_false] at hy
          rcases hy with rfl
          all_goals assumption
        · exact hs hy)
      rw [hTs31] at F31
      simp only [List.cons_append, List.nil_append] at F31
      have hc31_1 := (F31.tis 0 rfl).ones
      dsimp only [setAll, List.foldl_cons, List.foldl_nil, List.set_cons_succ, List.set_cons_zero]
      rw [← hx1] at F31 hc31_1 ⊢
      clear FT hs hlz hTs31 FZ e1 g1 hx1 in0 in1 FJ
      go_wp2_with fail
      go_ret2
      refine .inr ⟨fun m hm => ?_, rfl, F31.m⟩
      obtain ⟨h1, h2⟩ := pairs_list acc m (.mk k u n s l') hk4 (HI.out.2.1.symm.trans hm)
      rw [h2, same_rfl] at hsm
      cases hsm
    | true =>
      go_wp2_with (first
        | (with_reducible refine fm_load1 FJ 1 0 rfl (.int .i64 k) rfl (o := ⟨some 9, _, _, _, _, _⟩) rfl 3 (.tmp 8) rfl rfl (fun h => run_load1 Tryd.underlying3 rfl h) ?_))
      obtain ⟨Ts31, hTs31, FZ⟩ := (FJ.call (Mod.drew [] wr)).name
      have in0 := FJ.mem 0 rfl
      have in1 := FJ.mem 1 rfl
      rw [← hTs31] at in0
      rw [← hTs31] at in1
      refine wp_region_upxd (X := (Nat → List Value) × (Nat → Nat)) (fun _ => [], fun _ => 0) (fun x => [(22, .agg (tmc k u n s K ln cc).toArray), (23, .agg ((x.1 1)).toArray), (24, .bool true), (25, .bool false)]) 28 [22, 23, 24, 25] rfl (fun _ => rfl) (by decide) (by kernel_rfl) (fun x lz v => ∃ ts, Fm w v [oR A c xs, oB b1 24 (tmc k u n s K ln cc)] ts ∧ Ts31 ⊆ ts ∧ (lz 1 = true → ∃ Sx, tT (Up w.heap.size) Sx ((.mk 1 0 0 ⟨#[]⟩ [])) (x.1 1) ∈ ts)) (by kernel_rfl) ⟨_, FZ, List.Subset.refl _, (fun h => by cases h)⟩ (by kernel_rfl) (by kernel_rfl) ?step ?fin
      case step =>
        intro x lz T v j o hj hlj hdep hst hpar hgot hcl hdf Kq hK
        have hjn : j < 4 := (Array.getElem?_eq_some_iff.1 hj).1
        obtain rfl | rfl | rfl | rfl : j = 0 ∨ j = 1 ∨ j = 2 ∨ j = 3 := by omega
        all_goals (have hj' := Option.some.inj (hj : some _ = some o); subst hj'; clear hj)
        · obtain ⟨ts, FT, hts⟩ := hst
          have hL := FT.blk 1 rfl
          exact wp_ran rfl (exec_load rfl (eval_tmp ((hpar 1 rfl).trans rfl)) (run_loads (Cells.of_holds hL) Tryd.underlying24 rfl (size24' (tmc_len _ _ _ _ _ _ _)))) (hK x _ _ (fun _ _ _ _ _ _ => rfl) (fun s hs => by cases hs; rfl) (by simpa using (show ∃ ts, _ from ⟨ts, FT, hts⟩)))
        · obtain ⟨ts, FT, hs, g1⟩ := hst
          refine wp_called rfl (exec_call1 rfl rfl rfl (enters_of Tryd.func16 (by kernel_rfl) rfl)) ((text_c ⟨#[]⟩ (by decide) v).mono ?_)
          rintro e v' ⟨cs, rfl, hT, m⟩
          have FT' := FT.made m hT
          refine ⟨_, rfl, hK (fun i => if i = 1 then cs else x.1 i, x.2) _ _ (fun j' o' s' q1 q2 q3 => by
              have q4 : j' < 4 := (Array.getElem?_eq_some_iff.1 q1).1
              clear hpar hgot hdep hK
              obtain rfl | rfl | rfl | rfl : j' = 0 ∨ j' = 1 ∨ j' = 2 ∨ j' = 3 := by omega
              all_goals (cases q1; cases q3 <;> first | rfl | (rw [hlj] at q2; cases q2))) (fun s hs => by cases hs; rfl) ?_⟩
          refine ⟨_, (by simpa using FT'), (fun y hy => List.mem_cons_of_mem _ (hs hy)), (fun _ => ⟨_, List.mem_cons_self ..⟩)⟩
        · obtain ⟨ts, FT, hs, g1⟩ := hst
          obtain ⟨S1, e1⟩ := g1 (hdep ⟨1, .data⟩ (by simp) rfl)
          refine wp_called rfl (exec_call2 rfl rfl (eval_tmp (hgot 0 _ 22 rfl (hdep ⟨0, .data⟩ (by simp) rfl) rfl)) (eval_tmp (hgot 1 _ 23 rfl (hdep ⟨1, .data⟩ (by simp) rfl) rfl)) (enters_of Tryd.func33 (by kernel_rfl) rfl)) ((psame_c _ _ _ _ _ _ true v hsm (FT.ist (hs in1)) (FT.ist e1)).mono ?_)
          rintro e v' ⟨rfl, m⟩
          refine ⟨_, rfl, hK x _ _ (fun _ _ _ _ _ _ => rfl) (fun s hs => by cases hs; rfl) ?_⟩
          exact ⟨_, (by simpa using FT.call m), hs, (by simpa using g1)⟩
        · exact wp_ran rfl (exec_not rfl (eval_tmp (hgot 2 _ 24 rfl (hdep ⟨2, .data⟩ (by simp) rfl) rfl))) (hK x _ _ (fun _ _ _ _ _ _ => rfl) (fun s hs => by cases hs; rfl) (by simpa using hst))
      case fin =>
      intro x lz w31 hlz hst
      obtain ⟨ts, FT, hs, g1⟩ := hst
      obtain ⟨S31_1, e1⟩ := g1 (hlz 1 (by decide))
      obtain ⟨c31_1, hx1⟩ : ∃ c, c = x.1 1 := ⟨_, rfl⟩
      have F31 := FT.sub (ts' := [tT (Up w.heap.size) S31_1 ((.mk 1 0 0 ⟨#[]⟩ [])) (x.1 1)] ++ Ts31) (List.Sublist.refl _) (fun y hy => by
        rcases List.mem_append.1 hy with hy | hy
        · simp only [List.mem_cons, List.not_mem_nil, or_false] at hy
          rcases hy with rfl
          all_goals assumption
        · exact hs hy)
      rw [hTs31] at F31
      simp only [List.cons_append, List.nil_append] at F31
      have hc31_1 := (F31.tis 0 rfl).ones
      dsimp only [setAll, List.foldl_cons, List.foldl_nil, List.set_cons_succ, List.set_cons_zero]
      rw [← hx1] at F31 hc31_1 ⊢
      clear FT hs hlz hTs31 FZ e1 g1 hx1 in0 in1 FJ
      have hrow := F31.asRow (i := 0) rfl (F31.mem 1 rfl)
      have hcp := copied_all (Tm.depthAll acc) A c _ acc _ w31 (fun t ht => Tm.mem_depth ht) hrow (by have := HI.out.1; omega)
      rw [← HI.out.1] at hcp
      go_wp2_with (go_at_call 55; refine hcp.mono ?_; rintro e w60 ⟨A2, vs2, rfl, hR2, m2, -⟩)
      go_ret2
      have hsz := F31.m.size
      have e2 := (Tm.same_iff _ _).1 hsm
      refine .inl ⟨acc, A2, vs2, by rw [HI.out.2.1, e2, listT_pairs], rfl, hR2.mono (Btw.mono hsz (Nat.le_refl _)), F31.m.then m2⟩
  | true =>
    obtain rfl : k = 4 := by simpa using hk
    obtain ⟨rfl, rfl, rfl, ta, tb, rfl, hoa, hob⟩ := ok_pair HI.out.2.2
    have hln2 := HLN.out
    simp only [List.length_cons, List.length_nil] at hln2
    subst hln2
    obtain ⟨g, q, c1, rfl, h51, h11, F1⟩ := FJ.elem (FJ.mem 1 rfl) 0 (by simp)
    obtain ⟨g', q', c2, e', h52, h12, F2⟩ := F1.elem (F1.mem 2 rfl) 1 (by simp)
    cases e'
    simp only [List.getElem_cons_zero, List.getElem_cons_succ] at F1 F2
    have F3 := F2.eT (F2.mem 1 rfl)
    have F4 := F3.eT (F3.mem 1 rfl)
    have HB := Lib.hid hob
    clear F1 F2 F3 FJ hoa hob hk
    go_wp2_with (first
      | (with_reducible refine fm_load1 F4 1 0 rfl (.int .i64 4) rfl (o := ⟨some 9, _, _, _, _, _⟩) rfl 3 (.tmp 8) rfl rfl (fun h => run_load1 Tryd.underlying3 rfl h) ?_)
      | (with_reducible refine fm_load1 F4 1 4 rfl (.slice (some ⟨g, q, none⟩) 2 cc) rfl (o := ⟨some 17, _, _, _, _, _⟩) rfl 22 (.tmp 16) rfl rfl (fun h => run_load1 Tryd.underlying22 rfl h) ?_)
      | (with_reducible refine wpList_ran (o := ⟨some 18, _, _, _, _, _⟩) rfl (.pointer (some ⟨g, q + 0 * 5, none⟩)) (exec_ixs Tryd.underlying22 size24 (by decide) rfl rfl rfl) ?_)
      | (with_reducible refine fm_loadE F4 (F4.mem 3 rfl) (o := ⟨some 19, .load 24 (.tmp 18), _, _, _, _⟩) rfl (.tmp 18) rfl rfl h51 ?_)
      | (with_reducible refine fm_row1 F4 (F4.mem 1 rfl) Any (fun _ _ => trivial) (fun _ _ => trivial) rfl (.tmp 19) rfl rfl ?_; intro g5 S5 w5 F5)
      | (with_reducible refine fm_append1 F5 0 rfl (F5.mem 5 rfl) (F5.mem 0 rfl) (fun _ _ => trivial) nn HI.out.1 (by omega) (o := ⟨some 21, _, _, _, _, _⟩) rfl (.tmp 15) (.tmp 20) rfl rfl rfl ?_; intro A6 c6 xs6 S6 w6 F6; clear F5)
      | (with_reducible refine fm_load1 F6 1 4 rfl (.slice (some ⟨g, q, none⟩) 2 cc) rfl (o := ⟨some 12, _, _, _, _, _⟩) rfl 22 (.tmp 11) rfl rfl (fun h => run_load1 Tryd.underlying22 rfl h) ?_)
      | (with_reducible refine wpList_ran (o := ⟨some 13, _, _, _, _, _⟩) rfl (.pointer (some ⟨g, q + 1 * 5, none⟩)) (exec_ixs Tryd.underlying22 size24 (by decide) rfl rfl rfl) ?_)
      | (with_reducible refine fm_loadE F6 (F6.mem 4 rfl) (o := ⟨some 14, .load 24 (.tmp 13), _, _, _, _⟩) rfl (.tmp 13) rfl rfl h52 ?_)
      | (with_reducible refine fm_store F6 1 rfl (o := ⟨none, .store 24 (.tmp 1) (.tmp 14), _, _, _, _⟩) rfl (.tmp 1) (.tmp 14) rfl rfl c2 rfl rfl h52 (tmc_len _ _ _ _ _ _ _) h12 ?_; intro w7 F7; clear F6))
    refine ⟨⟨.slice A6 (nn + 1) c6, _, _, _, _, _, _, _, _, _, _, _, _, _, _, ⟨acc ++ [ta], tb, c2, A6, c6, nn + 1, xs6, S6, St, rfl, Lib.hid ⟨by have := HI.out.1; simp; omega, by rw [← pairs_snoc]; exact HI.out.2.1, HB.out⟩, F7.sub (List.Sublist.refl _) (fun y hy => ?_)⟩, rfl⟩, by simp [slLen, Act.put]; omega⟩
    rcases List.mem_cons.1 hy with rfl | hy
    · exact F7.mem 0 rfl
    · rw [List.mem_singleton] at hy
      subst hy
      exact F7.mem 2 rfl
end
section
open Go.RowKit Go.Shelf
set_option linter.unusedVariables false
set_option linter.unusedSimpArgs false
theorem unlist_list (l : List Tm) (n : Nat) (hn : n = l.length) (HR : (listT l).right = true) (ca : List Value) (S : Nat → Prop) (w : World) (hT : TIs w S (listT l) ca) (hS : ∀ g, S g → g < w.heap.size) (G : Glob w) : Calls Tryd.prog 28 #[.agg ca.toArray] w fun e w' => ∃ A vs, e = .returned (.tuple #[.slice A n n, .bool true]) ∧ RowT w' (Btw w.heap.size w'.heap.size) A vs l ∧ Mod [] w w' := by
  subst hn
  refine (unlist_yes (listT l) ca S w hT hS G HR).mono ?_
  rintro e w' (⟨m, A, vs, h1, h2, h3, h4⟩ | ⟨h, _⟩)
  · obtain rfl := listT_inj h1
    exact ⟨A, vs, h2, h3, h4⟩
  · exact absurd rfl (h l)
theorem Fm.argR {w0 w : World} {os ts : List Th} (F : Fm w0 w os ts) {S : Nat → Prop} {A : Option Addr} {vs : List (List Value)} {l : List Tm} (hR : RowT w S A vs l) (hS : ∀ g, S g → g < w0.heap.size) : Fm w0 w os (tR Any S A vs l :: ts) :=
  F.arg _ (keeps_tR _ _ _ _ _) ⟨hR, fun _ _ => trivial⟩ hS
theorem Fm.row {w0 w : World} {os ts : List Th} (F : Fm w0 w os ts) {L S : Nat → Prop} {A : Option Addr} {vs : List (List Value)} {l : List Tm} (h : tR L S A vs l ∈ ts) : RowT w S A vs l := (F.k _ (.inr h)).2.1.1
theorem Fm.madeRow {w0 w v : World} {os ts : List Th} (F : Fm w0 w os ts) (m : Mod [] w v) {A : Option Addr} {vs : List (List Value)} {l : List Tm} (hR : RowT v (Btw w.heap.size v.heap.size) A vs l) : Fm w0 v os (tR Any (Btw w.heap.size v.heap.size) A vs l :: ts) :=
  F.put m _ (keeps_tR _ _ _ _ _) ⟨hR, fun _ _ => trivial⟩ fun g hg => .inl hg
set_option maxRecDepth 1000000 in
set_option maxHeartbeats 2000000 in
theorem lists_long (A0 : Option Addr) (c0 : Nat) (vs0 : List (List Value)) (l : List Tm) (n : Nat) (w : World) (hl : n = l.length) (hR : RowT w (Btw 0 w.heap.size) A0 vs0 l) (G : Glob w) (hb : 100 < n) (hb2 : n ≤ 2199023255552) : Calls Tryd.prog 4 #[.slice A0 n c0] w fun e w' => e = .returned (.bool true) ∧ Mod [] w w' := by
  have FA := (Fm.nil w).argR hR (fun g hg => hg.2)
  have HL := Lib.hid hl
  clear hR hl
  have hd : decide ((100 : Int) < (n : Int)) = true := by simp; omega
  go_enter Tryd.func4, Tryd.ntmps4
  go_wp2_with (first
    | (go_at_call 13; refine (wakes_c w (FA.glob G)).mono ?_
       rintro e w1 ⟨rfl, m1⟩
       have F1 := FA.call m1
       clear m1 FA))
  go_ret
  exact ⟨rfl, F1.m⟩
set_option maxRecDepth 1000000 in
set_option maxHeartbeats 4000000 in
theorem lists_short (A0 : Option Addr) (c0 : Nat) (vs0 : List (List Value)) (l : List Tm) (n : Nat) (w : World) (hl : n = l.length) (hR : RowT w (Btw 0 w.heap.size) A0 vs0 l) (G : Glob w) (hb : n ≤ 100) : Calls Tryd.prog 4 #[.slice A0 n c0] w fun e w' => e = .returned (.bool true) ∧ Mod [] w w' := by
  have FA := (Fm.nil w).argR hR (fun g hg => hg.2)
  have HL := Lib.hid hl
  clear hR hl
  have hd : decide ((100 : Int) < (n : Int)) = false := by simp; omega
  go_enter Tryd.func4, Tryd.ntmps4
  go_wp2_with (first
    | (go_at_call 13; refine (wakes_c w (FA.glob G)).mono ?_
       rintro e w1 ⟨rfl, m1⟩
       have F1 := FA.call m1
       clear m1 FA))
  go_loopw [16] (fun i wr => ∃ j : Nat, i = .int .i64 j ∧ j ≤ n ∧ Fm w wr [] [tR Any (Btw 0 w.heap.size) A0 vs0 l]) (fun i _ => n - (intOf i).toNat)
  case atStart => exact ⟨0, rfl, Nat.zero_le _, F1⟩
  case round =>
  obtain ⟨j, rfl, hj, FJ⟩ := hrel
  by_cases hjl : j < n
  case pos =>
    obtain ⟨g, q, cj, rfl, h5, h1, F0⟩ := FJ.elemR (FJ.mem 0 rfl) j (by rw [← HL.out]; exact hjl)
    have hcj : cj.length = 5 ∧ ∀ v ∈ cj, v.oneCell' = true := ⟨h5, h1⟩
    replace F0 := F0.eT (F0.mem 0 rfl)
    clear h5 h1
    go_wp2_with (first
      | (with_reducible refine wpList_ran (o := ⟨some 18, _, _, _, _, _⟩) rfl (.pointer (some ⟨g, q + j * 5, none⟩)) (exec_ixs Tryd.underlying22 size24 hjl rfl rfl rfl) ?_)
      | (with_reducible refine fm_loadE F0 (F0.mem 1 rfl) (o := ⟨some 19, .load 24 (.tmp 18), _, _, _, _⟩) rfl (.tmp 18) rfl rfl hcj.1 ?_)
      | (with_reducible refine fm_alloc F0 (o := ⟨some 4, .alloc 24, _, _, _, _⟩) rfl 24 rfl _ zero24 ?_; intro b21 w21 F21; clear F0)
      | (with_reducible refine fm_store F21 0 rfl (o := ⟨none, .store 24 (.tmp 4) (.tmp 19), _, _, _, _⟩) rfl (.tmp 4) (.tmp 19) rfl rfl (cj) rfl rfl hcj.1 (tmc_len _ _ _ _ _ _ _) hcj.2 ?_; intro w22 F22; clear F21)
      | (with_reducible refine fm_load F22 0 rfl (o := ⟨some 20, .load 24 (.tmp 4), _, _, _, _⟩) rfl (.tmp 4) rfl rfl hcj.1 ?_))
    refine (over_c _ _ w.heap.size w22 (F22.tis 0 rfl) F22.m.size).mono ?_
    rintro e w23 ⟨ov23, rfl, m23⟩
    have F23 := F22.call m23
    clear m23
    clear F22
    cases ov23 with
    | true =>
      go_wp2_with fail
      go_ret
      exact ⟨rfl, F23.m⟩
    | false =>
      go_wp2_with fail
      exact ⟨⟨j + 1, by go_num, by omega, F23.sub (List.nil_sublist _) (fun y hy => by rw [List.mem_singleton] at hy; subst hy; exact F23.mem 2 rfl)⟩, by simp [intOf]; omega⟩
  case neg =>
    obtain rfl : n = j := by omega
    have LC := fun v S hr => list_c A0 n c0 vs0 l S v HL.out (by omega) hr
    cases HR : (listT l).right with
    | false =>
      have UN := fun v cs S h1 h2 h3 => unlist_no (listT l) cs S v h1 h2 h3 HR
      have CK := fun v cs S h G => check_c (listT l) cs S v h G
      rw [show chk (listT l) = 150 by rw [chk, HR]; rfl] at CK
      clear HR
      go_wp2_with (first
        | (go_at_call 26; refine (LC wr _ (FJ.row (FJ.mem 0 rfl))).mono ?_
           rintro e w41 ⟨c41, rfl, h41, m41⟩
           have hc41 := h41.ones
           have F41 := FJ.made m41 h41
           clear h41 m41 FJ)
        | (with_reducible refine fm_alloc F41 (o := ⟨some 5, .alloc 24, _, _, _, _⟩) rfl 24 rfl _ zero24 ?_; intro b42 w42 F42; clear F41)
        | (with_reducible refine fm_store F42 0 rfl (o := ⟨none, .store 24 (.tmp 5) (.tmp 24), _, _, _, _⟩) rfl (.tmp 5) (.tmp 24) rfl rfl (c41) rfl rfl hc41.1 (tmc_len _ _ _ _ _ _ _) hc41.2 ?_; intro w43 F43; clear F42)
        | (with_reducible refine fm_load F43 0 rfl (o := ⟨some 26, .load 24 (.tmp 5), _, _, _, _⟩) rfl (.tmp 5) rfl rfl hc41.1 ?_)
        | (go_at_call 28; refine (UN w43 _ _ (F43.ist (F43.mem 0 rfl)) (F43.ltm (F43.mem 0 rfl)) (F43.glob G)).mono ?_
           rintro e w44 ⟨rfl, m44⟩
           have F44 := F43.call m44
           clear m44 F43)
        | (with_reducible refine fm_load F44 0 rfl (o := ⟨some 30, .load 24 (.tmp 5), _, _, _, _⟩) rfl (.tmp 5) rfl rfl hc41.1 ?_)
        | (go_at_call 32; refine (CK w44 _ _ (F44.ist (F44.mem 0 rfl)) (F44.glob G)).mono ?_
           rintro e w45 ⟨rfl, m45⟩
           have F45 := F44.call m45
           clear m45 F44))
      go_ret
      exact ⟨rfl, F45.m⟩
    | true =>
      have UN := fun v cs S h1 h2 h3 => unlist_list l n HL.out HR cs S v h1 h2 h3
      have CK := fun v cs S h G => check_c (listT l) cs S v h G
      rw [show chk (listT l) = 0 by rw [chk, HR]; rfl] at CK
      have hnn : (((n : Int)) != (n : Int)) = false := by simp
      clear HR
      go_wp2_with (first
        | (go_at_call 26; refine (LC wr _ (FJ.row (FJ.mem 0 rfl))).mono ?_
           rintro e w41 ⟨c41, rfl, h41, m41⟩
           have hc41 := h41.ones
           have F41 := FJ.made m41 h41
           clear h41 m41 FJ)
        | (with_reducible refine fm_alloc F41 (o := ⟨some 5, .alloc 24, _, _, _, _⟩) rfl 24 rfl _ zero24 ?_; intro b42 w42 F42; clear F41)
        | (with_reducible refine fm_store F42 0 rfl (o := ⟨none, .store 24 (.tmp 5) (.tmp 24), _, _, _, _⟩) rfl (.tmp 5) (.tmp 24) rfl rfl (c41) rfl rfl hc41.1 (tmc_len _ _ _ _ _ _ _) hc41.2 ?_; intro w43 F43; clear F42)
        | (with_reducible refine fm_load F43 0 rfl (o := ⟨some 26, .load 24 (.tmp 5), _, _, _, _⟩) rfl (.tmp 5) rfl rfl hc41.1 ?_)
        | (go_at_call 28; refine (UN w43 _ _ (F43.ist (F43.mem 0 rfl)) (F43.ltm (F43.mem 0 rfl)) (F43.glob G)).mono ?_
           rintro e w44 ⟨A2, vs2, rfl, h44, m44⟩
           have F44 := F43.madeRow m44 h44
           clear h44 m44
           clear F43)
        | (with_reducible refine fm_load F44 0 rfl (o := ⟨some 30, .load 24 (.tmp 5), _, _, _, _⟩) rfl (.tmp 5) rfl rfl hc41.1 ?_)
        | (go_at_call 32; refine (CK w44 _ _ (F44.ist (F44.mem 1 rfl)) (F44.glob G)).mono ?_
           rintro e w45 ⟨rfl, m45⟩
           have F45 := F44.call m45
           clear m45 F44))
      obtain ⟨SS, FS⟩ : ∃ SS, Fm w w45 [] [tR Any SS A2 vs2 l, tR Any (Btw 0 w.heap.size) A0 vs0 l] := ⟨_, F45.sub (List.nil_sublist _) (fun y hy => by
        rcases List.mem_cons.1 hy with rfl | hy
        · exact F45.mem 0 rfl
        · rw [List.mem_singleton] at hy
          subst hy
          exact F45.mem 2 rfl)⟩
      clear F45 hnn
      go_loopw [51] (fun i wr => ∃ j : Nat, i = .int .i64 j ∧ j ≤ n ∧ Fm w wr [] [tR Any SS A2 vs2 l, tR Any (Btw 0 w.heap.size) A0 vs0 l]) (fun i _ => n - (intOf i).toNat)
      case atStart => exact ⟨0, rfl, Nat.zero_le _, FS⟩
      case round =>
      obtain ⟨j, rfl, hj', FJ⟩ := hrel
      by_cases hjl : j < n
      case neg =>
        go_wp2_with fail
        go_ret
        exact ⟨rfl, FJ.m⟩
      obtain ⟨g2, q2, d2, rfl, h52, h12, F1⟩ := FJ.elemR (FJ.mem 0 rfl) j (by rw [← HL.out]; exact hjl)
      obtain ⟨g, q, d0, rfl, h50, h10, F2⟩ := F1.elemR (F1.mem 2 rfl) j (by rw [← HL.out]; exact hjl)
      have hd2 : d2.length = 5 ∧ ∀ v ∈ d2, v.oneCell' = true := ⟨h52, h12⟩
      have hd0 : d0.length = 5 ∧ ∀ v ∈ d0, v.oneCell' = true := ⟨h50, h10⟩
      have F3 := F2.eT (F2.mem 0 rfl)
      have F4 := F3.eT (F3.mem 2 rfl)
      clear F1 F2 F3 FJ h52 h12 h50 h10
      go_wp2_with fail
      obtain ⟨Ts71, hTs71, FZ⟩ := (F4.call (Mod.drew [] wr)).name
      have in0 := F4.mem 0 rfl
      have in1 := F4.mem 1 rfl
      have in2 := F4.mem 2 rfl
      have in3 := F4.mem 3 rfl
      have in4 := F4.mem 4 rfl
      have in5 := F4.mem 5 rfl
      rw [← hTs71] at in0
      rw [← hTs71] at in1
      rw [← hTs71] at in2
      rw [← hTs71] at in3
      rw [← hTs71] at in4
      rw [← hTs71] at in5
      refine wp_region_upxd (X := (Nat → List Value) × (Nat → Nat)) (fun _ => [], fun _ => 0) (fun x => [(54, .slice (some ⟨g2, q2, none⟩) n n), (55, .int .i64 (j : Int)), (56, .pointer (some ⟨g2, q2 + j * 5, none⟩)), (57, .agg (d2).toArray), (58, .slice (some ⟨g, q, none⟩) n c0), (59, .int .i64 (j : Int)), (60, .pointer (some ⟨g, q + j * 5, none⟩)), (61, .agg (d0).toArray), (62, .bool true), (63, .bool false)]) 65 [54, 55, 56, 57, 58, 59, 60, 61, 62, 63] rfl (fun _ => rfl) (by decide) (by kernel_rfl) (fun x lz v => ∃ ts, Fm w v [] ts ∧ Ts71 ⊆ ts) (by kernel_rfl) ⟨_, FZ, List.Subset.refl _⟩ (by kernel_rfl) (by kernel_rfl) ?step ?fin
      case step =>
        intro x lz T v j o hj hlj hdep hst hpar hgot hcl hdf Kq hK
        have hjn : j < 10 := (Array.getElem?_eq_some_iff.1 hj).1
        obtain rfl | rfl | rfl | rfl | rfl | rfl | rfl | rfl | rfl | rfl : j = 0 ∨ j = 1 ∨ j = 2 ∨ j = 3 ∨ j = 4 ∨ j = 5 ∨ j = 6 ∨ j = 7 ∨ j = 8 ∨ j = 9 := by omega
        all_goals (have hj' := Option.some.inj (hj : some _ = some o); subst hj'; clear hj)
        · exact wp_ran rfl (exec_move rfl (eval_tmp ((hpar 6 rfl).trans rfl))) (hK x _ _ (fun _ _ _ _ _ _ => rfl) (fun s hs => by cases hs; rfl) (by simpa using hst))
        · exact wp_ran rfl (exec_move rfl (eval_tmp ((hpar 8 rfl).trans rfl))) (hK x _ _ (fun _ _ _ _ _ _ => rfl) (fun s hs => by cases hs; rfl) (by simpa using hst))
        · exact wp_ran rfl (exec_ixs Tryd.underlying22 size24 (hjl) rfl (eval_tmp (hgot 0 _ 54 rfl (hdep ⟨0, .data⟩ (by simp) rfl) rfl)) (eval_tmp (hgot 1 _ 55 rfl (hdep ⟨1, .data⟩ (by simp) rfl) rfl))) (hK x _ _ (fun _ _ _ _ _ _ => rfl) (fun s hs => by cases hs; rfl) (by simpa using hst))
        · obtain ⟨ts, FT, hs⟩ := hst
          have hL := FT.ec (hs in3)
          exact wp_ran rfl (exec_load rfl (eval_tmp (hgot 2 _ 56 rfl (hdep ⟨2, .data⟩ (by simp) rfl) rfl)) (run_loads hL Tryd.underlying24 rfl (size24' hd2.1))) (hK x _ _ (fun _ _ _ _ _ _ => rfl) (fun s hs => by cases hs; rfl) (by simpa using (show ∃ ts, _ from ⟨ts, FT, hs⟩)))
        · exact wp_ran rfl (exec_move rfl (eval_tmp ((hpar 0 rfl).trans rfl))) (hK x _ _ (fun _ _ _ _ _ _ => rfl) (fun s hs => by cases hs; rfl) (by simpa using hst))
        · exact wp_ran rfl (exec_move rfl (eval_tmp ((hpar 8 rfl).trans rfl))) (hK x _ _ (fun _ _ _ _ _ _ => rfl) (fun s hs => by cases hs; rfl) (by simpa using hst))
        · exact wp_ran rfl (exec_ixs Tryd.underlying22 size24 (hjl) rfl (eval_tmp (hgot 4 _ 58 rfl (hdep ⟨4, .data⟩ (by simp) rfl) rfl)) (eval_tmp (hgot 5 _ 59 rfl (hdep ⟨5, .data⟩ (by simp) rfl) rfl))) (hK x _ _ (fun _ _ _ _ _ _ => rfl) (fun s hs => by cases hs; rfl) (by simpa using hst))
        · obtain ⟨ts, FT, hs⟩ := hst
          have hL := FT.ec (hs in2)
          exact wp_ran rfl (exec_load rfl (eval_tmp (hgot 6 _ 60 rfl (hdep ⟨6, .data⟩ (by simp) rfl) rfl)) (run_loads hL Tryd.underlying24 rfl (size24' hd0.1))) (hK x _ _ (fun _ _ _ _ _ _ => rfl) (fun s hs => by cases hs; rfl) (by simpa using (show ∃ ts, _ from ⟨ts, FT, hs⟩)))
        · obtain ⟨ts, FT, hs⟩ := hst
          refine wp_called rfl (exec_call2 rfl rfl (eval_tmp (hgot 3 _ 57 rfl (hdep ⟨3, .data⟩ (by simp) rfl) rfl)) (eval_tmp (hgot 7 _ 61 rfl (hdep ⟨7, .data⟩ (by simp) rfl) rfl)) (enters_of Tryd.func33 (by kernel_rfl) rfl)) ((psame_c _ _ _ _ _ _ true v (same_rfl _) (FT.ist (hs in0)) (FT.ist (hs in1))).mono ?_)
          rintro e v' ⟨rfl, m⟩
          refine ⟨_, rfl, hK x _ _ (fun _ _ _ _ _ _ => rfl) (fun s hs => by cases hs; rfl) ?_⟩
          exact ⟨_, (by simpa using FT.call m), hs⟩
        · exact wp_ran rfl (exec_not rfl (eval_tmp (hgot 8 _ 62 rfl (hdep ⟨8, .data⟩ (by simp) rfl) rfl))) (hK x _ _ (fun _ _ _ _ _ _ => rfl) (fun s hs => by cases hs; rfl) (by simpa using hst))
      case fin =>
      intro x lz w71 hlz hst
      obtain ⟨ts, FT, hs⟩ := hst
      have F71 := FT.sub (ts' := [] ++ Ts71) (List.Sublist.refl _) (fun y hy => by
        rcases List.mem_append.1 hy with hy | hy
        · simp only [List.mem_cons, List.not_mem_nil, or_false] at hy
        · exact hs hy)
      rw [hTs71] at F71
      simp only [List.cons_append, List.nil_append] at F71
      dsimp only [setAll, List.foldl_cons, List.foldl_nil, List.set_cons_succ, List.set_cons_zero]
      clear FT hs hlz hTs71 FZ  in0 in1 in2 in3 in4 in5 F4
      go_wp2_with fail
      exact ⟨⟨j + 1, by go_num, by omega, F71.sub (List.Sublist.refl _) (fun y hy => by
        rcases List.mem_cons.1 hy with rfl | hy
        · exact F71.mem 4 rfl
        · rw [List.mem_singleton] at hy
          subst hy
          exact F71.mem 5 rfl)⟩, by simp [intOf]; omega⟩

theorem lists_w (A0 : Option Addr) (c0 : Nat) (vs0 : List (List Value)) (l : List Tm) (W : World) (hl : l.length ≤ c0) (hm : c0 ≤ maxLen) (hb : l.length ≤ 2199023255552) (hR : RowT W (Btw 0 W.heap.size) A0 vs0 l) (G : Glob W) : Calls Tryd.prog 4 #[.slice A0 l.length c0] W fun e w' => e = .returned (.bool true) ∧ Mod [] W w' := by
  by_cases h : 100 < l.length
  · exact lists_long A0 c0 vs0 l l.length W rfl hR G h hb
  · exact lists_short A0 c0 vs0 l l.length W rfl hR G (by omega)
end
end Go.Proofs.YtchanildogjhgaaDoor
