/-
  Contracts of package sha: a word, a step. My own work.
-/
import Derived.Test.YtdolihecjomjiaaDoorSto
namespace Go.Proofs.YtdolihecjomjiaaDoor
open Go.RowKit
set_option maxRecDepth 1000000 in
set_option maxHeartbeats 4000000 in
theorem word_hi (g t : Nat) (L : List UInt32) (w : World) (hL : L.length = 16) (ht : 16 ≤ t) (ht' : t < 64) (D0 : Holds w g 82 (L.map wd)) :
    Calls Tryd.prog 49 #[.pointer (some ⟨g, 0, none⟩), .int .i64 (t : Int)] w fun e w' => e = .returned (wd (g0 L (t % 16) + (sm1 (g0 L ((t - 2) % 16)) + g0 L ((t - 7) % 16) + sm0 (g0 L ((t - 15) % 16))))) ∧ Holds w' g 82 ((L.set (t % 16) (g0 L (t % 16) + (sm1 (g0 L ((t - 2) % 16)) + g0 L ((t - 7) % 16) + sm0 (g0 L ((t - 15) % 16))))).map wd) ∧ Mod [g] w w' := by
  have D : Holds w.drew g 82 (L.map wd) := D0
  have h16 : decide ((16 : Int) ≤ (t : Int)) = true := by simp; omega
  have hlt := D0.lt
  go_enter Tryd.func49, Tryd.ntmps49
  go_wp2_with fail
  refine wp_region_lit1 [.pointer (some ⟨g, 0, none⟩), .int .i64 ((t : Nat) : Int), undef, undef, .int .u32 0, .int .i64 ((t : Nat) : Int), .bool true, .pointer (some ⟨g, 0, none⟩), .int .i64 ((t : Nat) : Int), .int .i64 ((t % 16 : Nat) : Int), .pointer (some ⟨g, 0, none⟩), .pointer (some ⟨g, 0 + (t % 16), none⟩), wd (g0 L (t % 16)), .agg (mixC 17 19 65 10).toArray, .pointer (some ⟨g, 0, none⟩), .int .i64 ((t : Nat) : Int), .int .i64 ((t - 2 : Nat) : Int), .int .i64 (((t - 2) % 16 : Nat) : Int), .pointer (some ⟨g, 0, none⟩), .pointer (some ⟨g, 0 + ((t - 2) % 16), none⟩), wd (g0 L ((t - 2) % 16)), wd (sm1 (g0 L ((t - 2) % 16))), .pointer (some ⟨g, 0, none⟩), .int .i64 ((t : Nat) : Int), .int .i64 ((t - 7 : Nat) : Int), .int .i64 (((t - 7) % 16 : Nat) : Int), .pointer (some ⟨g, 0, none⟩), .pointer (some ⟨g, 0 + ((t - 7) % 16), none⟩), wd (g0 L ((t - 7) % 16)), wd (sm1 (g0 L ((t - 2) % 16)) + g0 L ((t - 7) % 16)), .agg (mixC 7 18 65 3).toArray, .pointer (some ⟨g, 0, none⟩), .int .i64 ((t : Nat) : Int), .int .i64 ((t - 15 : Nat) : Int), .int .i64 (((t - 15) % 16 : Nat) : Int), .pointer (some ⟨g, 0, none⟩), .pointer (some ⟨g, 0 + ((t - 15) % 16), none⟩), wd (g0 L ((t - 15) % 16)), wd (sm0 (g0 L ((t - 15) % 16))), wd (sm1 (g0 L ((t - 2) % 16)) + g0 L ((t - 7) % 16) + sm0 (g0 L ((t - 15) % 16))), wd (g0 L (t % 16) + (sm1 (g0 L ((t - 2) % 16)) + g0 L ((t - 7) % 16) + sm0 (g0 L ((t - 15) % 16)))), .pointer (some ⟨g, 0, none⟩), .pointer (some ⟨g, 0 + (t % 16), none⟩), undef, undef, undef, undef, undef, undef] 49 [0, 1, 2, 3, 4, 5, 6, 43, 44, 45, 46, 47, 48]
    (Sto 36 (fun v => Mod [] w.drew v) (fun v => Holds v g 82 ((L.set (t % 16) (g0 L (t % 16) + (sm1 (g0 L ((t - 2) % 16)) + g0 L ((t - 7) % 16) + sm0 (g0 L ((t - 15) % 16))))).map wd) ∧ Mod [g] w.drew v)) []
    (by kernel_rfl) rfl rfl rfl rfl (Sto.start (Mod.refl _ _)) (by kernel_rfl) (by kernel_rfl) ?step ?fin
  case step =>
    intro l T v j o hj hlj hdep hst hpar hgot hcl K hK
    have hjn : j < 37 := (Array.getElem?_eq_some_iff.1 hj).1
    have hq := fun h => Sto.now (j := j) hst hlj h
    obtain rfl | rfl | rfl | rfl | rfl | rfl | rfl | rfl | rfl | rfl | rfl | rfl | rfl | rfl | rfl | rfl | rfl | rfl | rfl | rfl | rfl | rfl | rfl | rfl | rfl | rfl | rfl | rfl | rfl | rfl | rfl | rfl | rfl | rfl | rfl | rfl | rfl : j = 0 ∨ j = 1 ∨ j = 2 ∨ j = 3 ∨ j = 4 ∨ j = 5 ∨ j = 6 ∨ j = 7 ∨ j = 8 ∨ j = 9 ∨ j = 10 ∨ j = 11 ∨ j = 12 ∨ j = 13 ∨ j = 14 ∨ j = 15 ∨ j = 16 ∨ j = 17 ∨ j = 18 ∨ j = 19 ∨ j = 20 ∨ j = 21 ∨ j = 22 ∨ j = 23 ∨ j = 24 ∨ j = 25 ∨ j = 26 ∨ j = 27 ∨ j = 28 ∨ j = 29 ∨ j = 30 ∨ j = 31 ∨ j = 32 ∨ j = 33 ∨ j = 34 ∨ j = 35 ∨ j = 36 := by omega
    all_goals (have hj' := Option.some.inj (hj : some _ = some o); subst hj'; clear hj)
    · exact wp_ran rfl (exec_move rfl (eval_tmp (hpar 0 (by simp)))) (hK _ _ (fun s hs => by cases hs; rfl) (Sto.keep (hq (by decide)) (by decide) (hq (by decide)).2))
    · exact wp_ran rfl (exec_move rfl (eval_tmp (hpar 1 (by simp)))) (hK _ _ (fun s hs => by cases hs; rfl) (Sto.keep (hq (by decide)) (by decide) (hq (by decide)).2))
    · exact wp_ran rfl (exec_and rfl (eval_tmp (hgot 1 _ 8 rfl (hdep ⟨1, .data⟩ (by simp) rfl) rfl)) rfl (and15 (t) (by omega))) (hK _ _ (fun s hs => by cases hs; rfl) (Sto.keep (hq (by decide)) (by decide) (hq (by decide)).2))
    · exact wp_ran rfl (exec_nil rfl (eval_tmp (hgot 0 _ 7 rfl (hdep ⟨0, .data⟩ (by simp) rfl) rfl))) (hK _ _ (fun s hs => by cases hs; rfl) (Sto.keep (hq (by decide)) (by decide) (hq (by decide)).2))
    · exact wp_ran rfl (exec_at Tryd.underlying82 info67 (by omega : t % 16 < 16) rfl (eval_tmp (hgot 3 _ 10 rfl (hdep ⟨3, .data⟩ (by simp) rfl) rfl)) (eval_tmp (hgot 2 _ 9 rfl (hdep ⟨2, .data⟩ (by simp) rfl) rfl))) (hK _ _ (fun s hs => by cases hs; rfl) (Sto.keep (hq (by decide)) (by decide) (hq (by decide)).2))
    · exact wp_ran rfl (exec_load rfl (eval_tmp (hgot 4 _ 11 rfl (hdep ⟨4, .data⟩ (by simp) rfl) rfl)) (word_load (D.keep (hq (by decide)).2 (by simp)) (by omega : t % 16 < L.length))) (hK _ _ (fun s hs => by cases hs; rfl) (Sto.keep (hq (by decide)) (by decide) (hq (by decide)).2))
    · exact wp_called rfl (exec_call0 rfl rfl (enters_of Tryd.func59 (by kernel_rfl) rfl)) ((small1_c _).mono (fun e v' hh => ⟨_, hh.1, hK _ _ (fun s hs => by cases hs; rfl) (Sto.keep (hq (by decide)) (by decide) ((hq (by decide)).2.then hh.2))⟩))
    · exact wp_ran rfl (exec_move rfl (eval_tmp (hpar 0 (by simp)))) (hK _ _ (fun s hs => by cases hs; rfl) (Sto.keep (hq (by decide)) (by decide) (hq (by decide)).2))
    · exact wp_ran rfl (exec_move rfl (eval_tmp (hpar 1 (by simp)))) (hK _ _ (fun s hs => by cases hs; rfl) (Sto.keep (hq (by decide)) (by decide) (hq (by decide)).2))
    · exact wp_ran rfl (exec_sub rfl (eval_tmp (hgot 8 _ 15 rfl (hdep ⟨8, .data⟩ (by simp) rfl) rfl)) rfl (sub_n t 2 (by omega) (by omega))) (hK _ _ (fun s hs => by cases hs; rfl) (Sto.keep (hq (by decide)) (by decide) (hq (by decide)).2))
    · exact wp_ran rfl (exec_and rfl (eval_tmp (hgot 9 _ 16 rfl (hdep ⟨9, .data⟩ (by simp) rfl) rfl)) rfl (and15 (t - 2) (by omega))) (hK _ _ (fun s hs => by cases hs; rfl) (Sto.keep (hq (by decide)) (by decide) (hq (by decide)).2))
    · exact wp_ran rfl (exec_nil rfl (eval_tmp (hgot 7 _ 14 rfl (hdep ⟨7, .data⟩ (by simp) rfl) rfl))) (hK _ _ (fun s hs => by cases hs; rfl) (Sto.keep (hq (by decide)) (by decide) (hq (by decide)).2))
    · exact wp_ran rfl (exec_at Tryd.underlying82 info67 (by omega : (t - 2) % 16 < 16) rfl (eval_tmp (hgot 11 _ 18 rfl (hdep ⟨11, .data⟩ (by simp) rfl) rfl)) (eval_tmp (hgot 10 _ 17 rfl (hdep ⟨10, .data⟩ (by simp) rfl) rfl))) (hK _ _ (fun s hs => by cases hs; rfl) (Sto.keep (hq (by decide)) (by decide) (hq (by decide)).2))
    · exact wp_ran rfl (exec_load rfl (eval_tmp (hgot 12 _ 19 rfl (hdep ⟨12, .data⟩ (by simp) rfl) rfl)) (word_load (D.keep (hq (by decide)).2 (by simp)) (by omega : (t - 2) % 16 < L.length))) (hK _ _ (fun s hs => by cases hs; rfl) (Sto.keep (hq (by decide)) (by decide) (hq (by decide)).2))
    · exact wp_called rfl (exec_call2 rfl rfl (eval_tmp (hgot 6 _ 13 rfl (hdep ⟨6, .data⟩ (by simp) rfl) rfl)) (eval_tmp (hgot 13 _ 20 rfl (hdep ⟨13, .data⟩ (by simp) rfl) rfl)) (enters_of Tryd.func55 (by kernel_rfl) rfl)) ((small1_of _ _).mono (fun e v' hh => ⟨_, hh.1, hK _ _ (fun s hs => by cases hs; rfl) (Sto.keep (hq (by decide)) (by decide) ((hq (by decide)).2.then hh.2))⟩))
    · exact wp_ran rfl (exec_move rfl (eval_tmp (hpar 0 (by simp)))) (hK _ _ (fun s hs => by cases hs; rfl) (Sto.keep (hq (by decide)) (by decide) (hq (by decide)).2))
    · exact wp_ran rfl (exec_move rfl (eval_tmp (hpar 1 (by simp)))) (hK _ _ (fun s hs => by cases hs; rfl) (Sto.keep (hq (by decide)) (by decide) (hq (by decide)).2))
    · exact wp_ran rfl (exec_sub rfl (eval_tmp (hgot 16 _ 23 rfl (hdep ⟨16, .data⟩ (by simp) rfl) rfl)) rfl (sub_n t 7 (by omega) (by omega))) (hK _ _ (fun s hs => by cases hs; rfl) (Sto.keep (hq (by decide)) (by decide) (hq (by decide)).2))
    · exact wp_ran rfl (exec_and rfl (eval_tmp (hgot 17 _ 24 rfl (hdep ⟨17, .data⟩ (by simp) rfl) rfl)) rfl (and15 (t - 7) (by omega))) (hK _ _ (fun s hs => by cases hs; rfl) (Sto.keep (hq (by decide)) (by decide) (hq (by decide)).2))
    · exact wp_ran rfl (exec_nil rfl (eval_tmp (hgot 15 _ 22 rfl (hdep ⟨15, .data⟩ (by simp) rfl) rfl))) (hK _ _ (fun s hs => by cases hs; rfl) (Sto.keep (hq (by decide)) (by decide) (hq (by decide)).2))
    · exact wp_ran rfl (exec_at Tryd.underlying82 info67 (by omega : (t - 7) % 16 < 16) rfl (eval_tmp (hgot 19 _ 26 rfl (hdep ⟨19, .data⟩ (by simp) rfl) rfl)) (eval_tmp (hgot 18 _ 25 rfl (hdep ⟨18, .data⟩ (by simp) rfl) rfl))) (hK _ _ (fun s hs => by cases hs; rfl) (Sto.keep (hq (by decide)) (by decide) (hq (by decide)).2))
    · exact wp_ran rfl (exec_load rfl (eval_tmp (hgot 20 _ 27 rfl (hdep ⟨20, .data⟩ (by simp) rfl) rfl)) (word_load (D.keep (hq (by decide)).2 (by simp)) (by omega : (t - 7) % 16 < L.length))) (hK _ _ (fun s hs => by cases hs; rfl) (Sto.keep (hq (by decide)) (by decide) (hq (by decide)).2))
    · exact wp_ran rfl (exec_add rfl (eval_tmp (hgot 14 _ 21 rfl (hdep ⟨14, .data⟩ (by simp) rfl) rfl)) (eval_tmp (hgot 21 _ 28 rfl (hdep ⟨21, .data⟩ (by simp) rfl) rfl)) (add_wd _ _)) (hK _ _ (fun s hs => by cases hs; rfl) (Sto.keep (hq (by decide)) (by decide) (hq (by decide)).2))
    · exact wp_called rfl (exec_call0 rfl rfl (enters_of Tryd.func60 (by kernel_rfl) rfl)) ((small0_c _).mono (fun e v' hh => ⟨_, hh.1, hK _ _ (fun s hs => by cases hs; rfl) (Sto.keep (hq (by decide)) (by decide) ((hq (by decide)).2.then hh.2))⟩))
    · exact wp_ran rfl (exec_move rfl (eval_tmp (hpar 0 (by simp)))) (hK _ _ (fun s hs => by cases hs; rfl) (Sto.keep (hq (by decide)) (by decide) (hq (by decide)).2))
    · exact wp_ran rfl (exec_move rfl (eval_tmp (hpar 1 (by simp)))) (hK _ _ (fun s hs => by cases hs; rfl) (Sto.keep (hq (by decide)) (by decide) (hq (by decide)).2))
    · exact wp_ran rfl (exec_sub rfl (eval_tmp (hgot 25 _ 32 rfl (hdep ⟨25, .data⟩ (by simp) rfl) rfl)) rfl (sub_n t 15 (by omega) (by omega))) (hK _ _ (fun s hs => by cases hs; rfl) (Sto.keep (hq (by decide)) (by decide) (hq (by decide)).2))
    · exact wp_ran rfl (exec_and rfl (eval_tmp (hgot 26 _ 33 rfl (hdep ⟨26, .data⟩ (by simp) rfl) rfl)) rfl (and15 (t - 15) (by omega))) (hK _ _ (fun s hs => by cases hs; rfl) (Sto.keep (hq (by decide)) (by decide) (hq (by decide)).2))
    · exact wp_ran rfl (exec_nil rfl (eval_tmp (hgot 24 _ 31 rfl (hdep ⟨24, .data⟩ (by simp) rfl) rfl))) (hK _ _ (fun s hs => by cases hs; rfl) (Sto.keep (hq (by decide)) (by decide) (hq (by decide)).2))
    · exact wp_ran rfl (exec_at Tryd.underlying82 info67 (by omega : (t - 15) % 16 < 16) rfl (eval_tmp (hgot 28 _ 35 rfl (hdep ⟨28, .data⟩ (by simp) rfl) rfl)) (eval_tmp (hgot 27 _ 34 rfl (hdep ⟨27, .data⟩ (by simp) rfl) rfl))) (hK _ _ (fun s hs => by cases hs; rfl) (Sto.keep (hq (by decide)) (by decide) (hq (by decide)).2))
    · exact wp_ran rfl (exec_load rfl (eval_tmp (hgot 29 _ 36 rfl (hdep ⟨29, .data⟩ (by simp) rfl) rfl)) (word_load (D.keep (hq (by decide)).2 (by simp)) (by omega : (t - 15) % 16 < L.length))) (hK _ _ (fun s hs => by cases hs; rfl) (Sto.keep (hq (by decide)) (by decide) (hq (by decide)).2))
    · exact wp_called rfl (exec_call2 rfl rfl (eval_tmp (hgot 23 _ 30 rfl (hdep ⟨23, .data⟩ (by simp) rfl) rfl)) (eval_tmp (hgot 30 _ 37 rfl (hdep ⟨30, .data⟩ (by simp) rfl) rfl)) (enters_of Tryd.func55 (by kernel_rfl) rfl)) ((small0_of _ _).mono (fun e v' hh => ⟨_, hh.1, hK _ _ (fun s hs => by cases hs; rfl) (Sto.keep (hq (by decide)) (by decide) ((hq (by decide)).2.then hh.2))⟩))
    · exact wp_ran rfl (exec_add rfl (eval_tmp (hgot 22 _ 29 rfl (hdep ⟨22, .data⟩ (by simp) rfl) rfl)) (eval_tmp (hgot 31 _ 38 rfl (hdep ⟨31, .data⟩ (by simp) rfl) rfl)) (add_wd _ _)) (hK _ _ (fun s hs => by cases hs; rfl) (Sto.keep (hq (by decide)) (by decide) (hq (by decide)).2))
    · exact wp_ran rfl (exec_add rfl (eval_tmp (hgot 5 _ 12 rfl (hdep ⟨5, .data⟩ (by simp) rfl) rfl)) (eval_tmp (hgot 32 _ 39 rfl (hdep ⟨32, .data⟩ (by simp) rfl) rfl)) (add_wd _ _)) (hK _ _ (fun s hs => by cases hs; rfl) (Sto.keep (hq (by decide)) (by decide) (hq (by decide)).2))
    · exact wp_ran rfl (exec_nil rfl (eval_tmp (hgot 0 _ 7 rfl (hdep ⟨0, .data⟩ (by simp) rfl) rfl))) (hK _ _ (fun s hs => by cases hs; rfl) (Sto.keep (hq (by decide)) (by decide) (hq (by decide)).2))
    · exact wp_ran rfl (exec_at Tryd.underlying82 info67 (by omega : t % 16 < 16) rfl (eval_tmp (hgot 34 _ 41 rfl (hdep ⟨34, .data⟩ (by simp) rfl) rfl)) (eval_tmp (hgot 2 _ 9 rfl (hdep ⟨2, .data⟩ (by simp) rfl) rfl))) (hK _ _ (fun s hs => by cases hs; rfl) (Sto.keep (hq (by decide)) (by decide) (hq (by decide)).2))
    · exact wp_ran_skip rfl (exec_word (z := g0 L (t % 16) + (sm1 (g0 L ((t - 2) % 16)) + g0 L ((t - 7) % 16) + sm0 (g0 L ((t - 15) % 16)))) rfl (eval_tmp (hgot 35 _ 42 rfl (hdep ⟨35, .data⟩ (by simp) rfl) rfl)) (eval_tmp (hgot 33 _ 40 rfl (hdep ⟨33, .data⟩ (by simp) rfl) rfl)) (D.keep (hq (by decide)).2 (by simp)) (by omega : t % 16 < L.length)) (hK _ _ (fun s hs => by cases hs) (Sto.done (reach_all (by kernel_rfl) hcl rfl hdep) ⟨word_set (D.keep (hq (by decide)).2 (by simp)) _ _, (hq (by decide)).2.pre (Mod.setCell _ (by simp) _)⟩))
  case fin =>
    intro l v hl hst
    obtain ⟨D1, m1⟩ := Sto.fin hst hl (by decide)
    clear hst hl
    have hcell := word_cell D1 (i := t % 16) (by rw [List.length_set]; omega)
    rw [g0_set _ _ _ (by omega), Nat.zero_add] at hcell
    have ha := and15 t (by omega)
    clear D
    dsimp only
    go_wp2_with fail
    go_ret
    exact ⟨rfl, D1, m1.drewed⟩
set_option maxRecDepth 100000 in
theorem word_lo (g t : Nat) (L : List UInt32) (w : World) (hL : L.length = 16) (ht : t < 16) (D0 : Holds w g 82 (L.map wd)) :
    Calls Tryd.prog 49 #[.pointer (some ⟨g, 0, none⟩), .int .i64 (t : Int)] w fun e w' => e = .returned (wd (g0 L t)) ∧ w' = w := by
  have h16 : decide ((16 : Int) ≤ (t : Int)) = false := by simp; omega
  have hcell := word_cell D0 (i := t) (by omega)
  rw [Nat.zero_add] at hcell
  have ha := and15 t (by omega)
  rw [Nat.mod_eq_of_lt ht] at ha
  have ht64 : (t : Int) < 16 := by omega
  clear hL ht D0
  go_enter Tryd.func49, Tryd.ntmps49
  go_wp2_with fail
  go_ret
  exact ⟨rfl, rfl⟩
end Go.Proofs.YtdolihecjomjiaaDoor
