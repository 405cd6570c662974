/-
  My own texts ShShaC ShShaD ShRing, one behind the other.
-/
import Derived.Test.YtcoedhemlghjoaaDoorBh
namespace Go.Proofs.YtcoedhemlghjoaaDoor
section
namespace Sh
open Go.RowKit
set_option maxRecDepth 1000000 in
set_option maxHeartbeats 4000000 in
theorem word_hi (g t : Nat) (L : List UInt32) (w : World) (hL : L.length = 16) (ht : 16 ≤ t) (ht' : t < 64) (D0 : Holds w g 131 (L.map wd)) :
    Calls Tryd.prog 85 #[.pointer (some ⟨g, 0, none⟩), .int .i64 (t : Int)] w fun e w' => e = .returned (wd (g0 L (t % 16) + (sm1 (g0 L ((t - 2) % 16)) + g0 L ((t - 7) % 16) + sm0 (g0 L ((t - 15) % 16))))) ∧ Holds w' g 131 ((L.set (t % 16) (g0 L (t % 16) + (sm1 (g0 L ((t - 2) % 16)) + g0 L ((t - 7) % 16) + sm0 (g0 L ((t - 15) % 16))))).map wd) ∧ Mod [g] w w' := by
  have D : Holds w.drew g 131 (L.map wd) := D0
  have h16 : decide ((16 : Int) ≤ (t : Int)) = true := by simp; omega
  have hlt := D0.lt
  go_enter Tryd.func85, Tryd.ntmps85
  go_wp2_with fail
  refine wp_region_lit1 [.pointer (some ⟨g, 0, none⟩), .int .i64 ((t : Nat) : Int), undef, undef, .int .u32 0, .int .i64 ((t : Nat) : Int), .bool true, .pointer (some ⟨g, 0, none⟩), .int .i64 ((t : Nat) : Int), .int .i64 ((t % 16 : Nat) : Int), .pointer (some ⟨g, 0, none⟩), .pointer (some ⟨g, 0 + (t % 16), none⟩), wd (g0 L (t % 16)), .agg (mixC 17 19 97 10).toArray, .pointer (some ⟨g, 0, none⟩), .int .i64 ((t : Nat) : Int), .int .i64 ((t - 2 : Nat) : Int), .int .i64 (((t - 2) % 16 : Nat) : Int), .pointer (some ⟨g, 0, none⟩), .pointer (some ⟨g, 0 + ((t - 2) % 16), none⟩), wd (g0 L ((t - 2) % 16)), wd (sm1 (g0 L ((t - 2) % 16))), .pointer (some ⟨g, 0, none⟩), .int .i64 ((t : Nat) : Int), .int .i64 ((t - 7 : Nat) : Int), .int .i64 (((t - 7) % 16 : Nat) : Int), .pointer (some ⟨g, 0, none⟩), .pointer (some ⟨g, 0 + ((t - 7) % 16), none⟩), wd (g0 L ((t - 7) % 16)), wd (sm1 (g0 L ((t - 2) % 16)) + g0 L ((t - 7) % 16)), .agg (mixC 7 18 97 3).toArray, .pointer (some ⟨g, 0, none⟩), .int .i64 ((t : Nat) : Int), .int .i64 ((t - 15 : Nat) : Int), .int .i64 (((t - 15) % 16 : Nat) : Int), .pointer (some ⟨g, 0, none⟩), .pointer (some ⟨g, 0 + ((t - 15) % 16), none⟩), wd (g0 L ((t - 15) % 16)), wd (sm0 (g0 L ((t - 15) % 16))), wd (sm1 (g0 L ((t - 2) % 16)) + g0 L ((t - 7) % 16) + sm0 (g0 L ((t - 15) % 16))), wd (g0 L (t % 16) + (sm1 (g0 L ((t - 2) % 16)) + g0 L ((t - 7) % 16) + sm0 (g0 L ((t - 15) % 16)))), .pointer (some ⟨g, 0, none⟩), .pointer (some ⟨g, 0 + (t % 16), none⟩), undef, undef, undef, undef, undef, undef] 49 [0, 1, 2, 3, 4, 5, 6, 43, 44, 45, 46, 47, 48]
    (Sto 36 (fun v => Mod [] w.drew v) (fun v => Holds v g 131 ((L.set (t % 16) (g0 L (t % 16) + (sm1 (g0 L ((t - 2) % 16)) + g0 L ((t - 7) % 16) + sm0 (g0 L ((t - 15) % 16))))).map wd) ∧ Mod [g] w.drew v)) []
    (by kernel_rfl) rfl rfl rfl rfl (Sto.start (Mod.refl _ _)) (by kernel_rfl) (by kernel_rfl) ?step ?fin
  case step =>
    intro l T v j o hj hlj hdep hst hpar hgot hcl K hK
    have hjn : j < 37 := (Array.getElem?_eq_some_iff.1 hj).1
    have hq := fun h => Sto.now (j := j) hst hlj h
    obtain rfl | rfl | rfl | rfl | rfl | rfl | rfl | rfl | rfl | rfl | rfl | rfl | rfl | rfl | rfl | rfl | rfl | rfl | rfl | rfl | rfl | rfl | rfl | rfl | rfl | rfl | rfl | rfl | rfl | rfl | rfl | rfl | rfl | rfl | rfl | rfl | rfl : j = 0 ∨ j = 1 ∨ j = 2 ∨ j = 3 ∨ j = 4 ∨ j = 5 ∨ j = 6 ∨ j = 7 ∨ j = 8 ∨ j = 9 ∨ j = 10 ∨ j = 11 ∨ j = 12 ∨ j = 13 ∨ j = 14 ∨ j = 15 ∨ j = 16 ∨ j = 17 ∨ j = 18 ∨ j = 19 ∨ j = 20 ∨ j = 21 ∨ j = 22 ∨ j = 23 ∨ j = 24 ∨ j = 25 ∨ j = 26 ∨ j = 27 ∨ j = 28 ∨ j = 29 ∨ j = 30 ∨ j = 31 ∨ j = 32 ∨ j = 33 ∨ j = 34 ∨ j = 35 ∨ j = 36 := by omega
    all_goals (have hj' := Option.some.inj (hj : some _ = some o); subst hj'; clear hj)
    · exact wp_ran rfl (exec_move rfl (eval_tmp (hpar 0 (by simp)))) (hK _ _ (fun s hs => by cases hs; rfl) (Sto.keep (hq (by decide)) (by decide) (hq (by decide)).2))
    · exact wp_ran rfl (exec_move rfl (eval_tmp (hpar 1 (by simp)))) (hK _ _ (fun s hs => by cases hs; rfl) (Sto.keep (hq (by decide)) (by decide) (hq (by decide)).2))
    · exact wp_ran rfl (exec_and rfl (eval_tmp (hgot 1 _ 8 rfl (hdep ⟨1, .data⟩ (by simp) rfl) rfl)) rfl (and15 (t) (by omega))) (hK _ _ (fun s hs => by cases hs; rfl) (Sto.keep (hq (by decide)) (by decide) (hq (by decide)).2))
    · exact wp_ran rfl (exec_nil rfl (eval_tmp (hgot 0 _ 7 rfl (hdep ⟨0, .data⟩ (by simp) rfl) rfl))) (hK _ _ (fun s hs => by cases hs; rfl) (Sto.keep (hq (by decide)) (by decide) (hq (by decide)).2))
    · exact wp_ran rfl (exec_at Tryd.underlying131 info55 (by omega : t % 16 < 16) rfl (eval_tmp (hgot 3 _ 10 rfl (hdep ⟨3, .data⟩ (by simp) rfl) rfl)) (eval_tmp (hgot 2 _ 9 rfl (hdep ⟨2, .data⟩ (by simp) rfl) rfl))) (hK _ _ (fun s hs => by cases hs; rfl) (Sto.keep (hq (by decide)) (by decide) (hq (by decide)).2))
    · exact wp_ran rfl (exec_load rfl (eval_tmp (hgot 4 _ 11 rfl (hdep ⟨4, .data⟩ (by simp) rfl) rfl)) (word_load (D.keep (hq (by decide)).2 (by simp)) (by omega : t % 16 < L.length))) (hK _ _ (fun s hs => by cases hs; rfl) (Sto.keep (hq (by decide)) (by decide) (hq (by decide)).2))
    · exact wp_called rfl (exec_call0 rfl rfl (enters_of Tryd.func93 (by kernel_rfl) rfl)) ((small1_c _).mono (fun e v' hh => ⟨_, hh.1, hK _ _ (fun s hs => by cases hs; rfl) (Sto.keep (hq (by decide)) (by decide) ((hq (by decide)).2.then hh.2))⟩))
    · exact wp_ran rfl (exec_move rfl (eval_tmp (hpar 0 (by simp)))) (hK _ _ (fun s hs => by cases hs; rfl) (Sto.keep (hq (by decide)) (by decide) (hq (by decide)).2))
    · exact wp_ran rfl (exec_move rfl (eval_tmp (hpar 1 (by simp)))) (hK _ _ (fun s hs => by cases hs; rfl) (Sto.keep (hq (by decide)) (by decide) (hq (by decide)).2))
    · exact wp_ran rfl (exec_sub rfl (eval_tmp (hgot 8 _ 15 rfl (hdep ⟨8, .data⟩ (by simp) rfl) rfl)) rfl (sub_n t 2 (by omega) (by omega))) (hK _ _ (fun s hs => by cases hs; rfl) (Sto.keep (hq (by decide)) (by decide) (hq (by decide)).2))
    · exact wp_ran rfl (exec_and rfl (eval_tmp (hgot 9 _ 16 rfl (hdep ⟨9, .data⟩ (by simp) rfl) rfl)) rfl (and15 (t - 2) (by omega))) (hK _ _ (fun s hs => by cases hs; rfl) (Sto.keep (hq (by decide)) (by decide) (hq (by decide)).2))
    · exact wp_ran rfl (exec_nil rfl (eval_tmp (hgot 7 _ 14 rfl (hdep ⟨7, .data⟩ (by simp) rfl) rfl))) (hK _ _ (fun s hs => by cases hs; rfl) (Sto.keep (hq (by decide)) (by decide) (hq (by decide)).2))
    · exact wp_ran rfl (exec_at Tryd.underlying131 info55 (by omega : (t - 2) % 16 < 16) rfl (eval_tmp (hgot 11 _ 18 rfl (hdep ⟨11, .data⟩ (by simp) rfl) rfl)) (eval_tmp (hgot 10 _ 17 rfl (hdep ⟨10, .data⟩ (by simp) rfl) rfl))) (hK _ _ (fun s hs => by cases hs; rfl) (Sto.keep (hq (by decide)) (by decide) (hq (by decide)).2))
    · exact wp_ran rfl (exec_load rfl (eval_tmp (hgot 12 _ 19 rfl (hdep ⟨12, .data⟩ (by simp) rfl) rfl)) (word_load (D.keep (hq (by decide)).2 (by simp)) (by omega : (t - 2) % 16 < L.length))) (hK _ _ (fun s hs => by cases hs; rfl) (Sto.keep (hq (by decide)) (by decide) (hq (by decide)).2))
    · exact wp_called rfl (exec_call2 rfl rfl (eval_tmp (hgot 6 _ 13 rfl (hdep ⟨6, .data⟩ (by simp) rfl) rfl)) (eval_tmp (hgot 13 _ 20 rfl (hdep ⟨13, .data⟩ (by simp) rfl) rfl)) (enters_of Tryd.func89 (by kernel_rfl) rfl)) ((small1_of _ _).mono (fun e v' hh => ⟨_, hh.1, hK _ _ (fun s hs => by cases hs; rfl) (Sto.keep (hq (by decide)) (by decide) ((hq (by decide)).2.then hh.2))⟩))
    · exact wp_ran rfl (exec_move rfl (eval_tmp (hpar 0 (by simp)))) (hK _ _ (fun s hs => by cases hs; rfl) (Sto.keep (hq (by decide)) (by decide) (hq (by decide)).2))
    · exact wp_ran rfl (exec_move rfl (eval_tmp (hpar 1 (by simp)))) (hK _ _ (fun s hs => by cases hs; rfl) (Sto.keep (hq (by decide)) (by decide) (hq (by decide)).2))
    · exact wp_ran rfl (exec_sub rfl (eval_tmp (hgot 16 _ 23 rfl (hdep ⟨16, .data⟩ (by simp) rfl) rfl)) rfl (sub_n t 7 (by omega) (by omega))) (hK _ _ (fun s hs => by cases hs; rfl) (Sto.keep (hq (by decide)) (by decide) (hq (by decide)).2))
    · exact wp_ran rfl (exec_and rfl (eval_tmp (hgot 17 _ 24 rfl (hdep ⟨17, .data⟩ (by simp) rfl) rfl)) rfl (and15 (t - 7) (by omega))) (hK _ _ (fun s hs => by cases hs; rfl) (Sto.keep (hq (by decide)) (by decide) (hq (by decide)).2))
    · exact wp_ran rfl (exec_nil rfl (eval_tmp (hgot 15 _ 22 rfl (hdep ⟨15, .data⟩ (by simp) rfl) rfl))) (hK _ _ (fun s hs => by cases hs; rfl) (Sto.keep (hq (by decide)) (by decide) (hq (by decide)).2))
    · exact wp_ran rfl (exec_at Tryd.underlying131 info55 (by omega : (t - 7) % 16 < 16) rfl (eval_tmp (hgot 19 _ 26 rfl (hdep ⟨19, .data⟩ (by simp) rfl) rfl)) (eval_tmp (hgot 18 _ 25 rfl (hdep ⟨18, .data⟩ (by simp) rfl) rfl))) (hK _ _ (fun s hs => by cases hs; rfl) (Sto.keep (hq (by decide)) (by decide) (hq (by decide)).2))
    · exact wp_ran rfl (exec_load rfl (eval_tmp (hgot 20 _ 27 rfl (hdep ⟨20, .data⟩ (by simp) rfl) rfl)) (word_load (D.keep (hq (by decide)).2 (by simp)) (by omega : (t - 7) % 16 < L.length))) (hK _ _ (fun s hs => by cases hs; rfl) (Sto.keep (hq (by decide)) (by decide) (hq (by decide)).2))
    · exact wp_ran rfl (exec_add rfl (eval_tmp (hgot 14 _ 21 rfl (hdep ⟨14, .data⟩ (by simp) rfl) rfl)) (eval_tmp (hgot 21 _ 28 rfl (hdep ⟨21, .data⟩ (by simp) rfl) rfl)) (add_wd _ _)) (hK _ _ (fun s hs => by cases hs; rfl) (Sto.keep (hq (by decide)) (by decide) (hq (by decide)).2))
    · exact wp_called rfl (exec_call0 rfl rfl (enters_of Tryd.func94 (by kernel_rfl) rfl)) ((small0_c _).mono (fun e v' hh => ⟨_, hh.1, hK _ _ (fun s hs => by cases hs; rfl) (Sto.keep (hq (by decide)) (by decide) ((hq (by decide)).2.then hh.2))⟩))
    · exact wp_ran rfl (exec_move rfl (eval_tmp (hpar 0 (by simp)))) (hK _ _ (fun s hs => by cases hs; rfl) (Sto.keep (hq (by decide)) (by decide) (hq (by decide)).2))
    · exact wp_ran rfl (exec_move rfl (eval_tmp (hpar 1 (by simp)))) (hK _ _ (fun s hs => by cases hs; rfl) (Sto.keep (hq (by decide)) (by decide) (hq (by decide)).2))
    · exact wp_ran rfl (exec_sub rfl (eval_tmp (hgot 25 _ 32 rfl (hdep ⟨25, .data⟩ (by simp) rfl) rfl)) rfl (sub_n t 15 (by omega) (by omega))) (hK _ _ (fun s hs => by cases hs; rfl) (Sto.keep (hq (by decide)) (by decide) (hq (by decide)).2))
    · exact wp_ran rfl (exec_and rfl (eval_tmp (hgot 26 _ 33 rfl (hdep ⟨26, .data⟩ (by simp) rfl) rfl)) rfl (and15 (t - 15) (by omega))) (hK _ _ (fun s hs => by cases hs; rfl) (Sto.keep (hq (by decide)) (by decide) (hq (by decide)).2))
    · exact wp_ran rfl (exec_nil rfl (eval_tmp (hgot 24 _ 31 rfl (hdep ⟨24, .data⟩ (by simp) rfl) rfl))) (hK _ _ (fun s hs => by cases hs; rfl) (Sto.keep (hq (by decide)) (by decide) (hq (by decide)).2))
    · exact wp_ran rfl (exec_at Tryd.underlying131 info55 (by omega : (t - 15) % 16 < 16) rfl (eval_tmp (hgot 28 _ 35 rfl (hdep ⟨28, .data⟩ (by simp) rfl) rfl)) (eval_tmp (hgot 27 _ 34 rfl (hdep ⟨27, .data⟩ (by simp) rfl) rfl))) (hK _ _ (fun s hs => by cases hs; rfl) (Sto.keep (hq (by decide)) (by decide) (hq (by decide)).2))
    · exact wp_ran rfl (exec_load rfl (eval_tmp (hgot 29 _ 36 rfl (hdep ⟨29, .data⟩ (by simp) rfl) rfl)) (word_load (D.keep (hq (by decide)).2 (by simp)) (by omega : (t - 15) % 16 < L.length))) (hK _ _ (fun s hs => by cases hs; rfl) (Sto.keep (hq (by decide)) (by decide) (hq (by decide)).2))
    · exact wp_called rfl (exec_call2 rfl rfl (eval_tmp (hgot 23 _ 30 rfl (hdep ⟨23, .data⟩ (by simp) rfl) rfl)) (eval_tmp (hgot 30 _ 37 rfl (hdep ⟨30, .data⟩ (by simp) rfl) rfl)) (enters_of Tryd.func89 (by kernel_rfl) rfl)) ((small0_of _ _).mono (fun e v' hh => ⟨_, hh.1, hK _ _ (fun s hs => by cases hs; rfl) (Sto.keep (hq (by decide)) (by decide) ((hq (by decide)).2.then hh.2))⟩))
    · exact wp_ran rfl (exec_add rfl (eval_tmp (hgot 22 _ 29 rfl (hdep ⟨22, .data⟩ (by simp) rfl) rfl)) (eval_tmp (hgot 31 _ 38 rfl (hdep ⟨31, .data⟩ (by simp) rfl) rfl)) (add_wd _ _)) (hK _ _ (fun s hs => by cases hs; rfl) (Sto.keep (hq (by decide)) (by decide) (hq (by decide)).2))
    · exact wp_ran rfl (exec_add rfl (eval_tmp (hgot 5 _ 12 rfl (hdep ⟨5, .data⟩ (by simp) rfl) rfl)) (eval_tmp (hgot 32 _ 39 rfl (hdep ⟨32, .data⟩ (by simp) rfl) rfl)) (add_wd _ _)) (hK _ _ (fun s hs => by cases hs; rfl) (Sto.keep (hq (by decide)) (by decide) (hq (by decide)).2))
    · exact wp_ran rfl (exec_nil rfl (eval_tmp (hgot 0 _ 7 rfl (hdep ⟨0, .data⟩ (by simp) rfl) rfl))) (hK _ _ (fun s hs => by cases hs; rfl) (Sto.keep (hq (by decide)) (by decide) (hq (by decide)).2))
    · exact wp_ran rfl (exec_at Tryd.underlying131 info55 (by omega : t % 16 < 16) rfl (eval_tmp (hgot 34 _ 41 rfl (hdep ⟨34, .data⟩ (by simp) rfl) rfl)) (eval_tmp (hgot 2 _ 9 rfl (hdep ⟨2, .data⟩ (by simp) rfl) rfl))) (hK _ _ (fun s hs => by cases hs; rfl) (Sto.keep (hq (by decide)) (by decide) (hq (by decide)).2))
    · exact wp_ran_skip rfl (exec_word (z := g0 L (t % 16) + (sm1 (g0 L ((t - 2) % 16)) + g0 L ((t - 7) % 16) + sm0 (g0 L ((t - 15) % 16)))) rfl (eval_tmp (hgot 35 _ 42 rfl (hdep ⟨35, .data⟩ (by simp) rfl) rfl)) (eval_tmp (hgot 33 _ 40 rfl (hdep ⟨33, .data⟩ (by simp) rfl) rfl)) (D.keep (hq (by decide)).2 (by simp)) (by omega : t % 16 < L.length)) (hK _ _ (fun s hs => by cases hs) (Sto.done (reach_all (by kernel_rfl) hcl rfl hdep) ⟨word_set (D.keep (hq (by decide)).2 (by simp)) _ _, (hq (by decide)).2.pre (Mod.setCell _ (by simp) _)⟩))
  case fin =>
    intro l v hl hst
    obtain ⟨D1, m1⟩ := Sto.fin hst hl (by decide)
    clear hst hl
    have hcell := word_cell D1 (i := t % 16) (by rw [List.length_set]; omega)
    rw [g0_set _ _ _ (by omega), Nat.zero_add] at hcell
    have ha := and15 t (by omega)
    clear D
    dsimp only
    go_wp2_with fail
    go_ret
    exact ⟨rfl, D1, m1.drewed⟩
set_option maxRecDepth 100000 in
theorem word_lo (g t : Nat) (L : List UInt32) (w : World) (hL : L.length = 16) (ht : t < 16) (D0 : Holds w g 131 (L.map wd)) :
    Calls Tryd.prog 85 #[.pointer (some ⟨g, 0, none⟩), .int .i64 (t : Int)] w fun e w' => e = .returned (wd (g0 L t)) ∧ w' = w := by
  have h16 : decide ((16 : Int) ≤ (t : Int)) = false := by simp; omega
  have hcell := word_cell D0 (i := t) (by omega)
  rw [Nat.zero_add] at hcell
  have ha := and15 t (by omega)
  rw [Nat.mod_eq_of_lt ht] at ha
  have ht64 : (t : Int) < 16 := by omega
  clear hL ht D0
  go_enter Tryd.func85, Tryd.ntmps85
  go_wp2_with fail
  go_ret
  exact ⟨rfl, rfl⟩
end Sh
end
section
namespace Sh
open Go.RowKit
/-- The eight numbers in their places, behind the t-th step. -/
def stepL (t : Nat) (x : UInt32) (L : List UInt32) : List UInt32 := ((L.set (plc 3 t) (g0 L (plc 3 t) + (((g0 L (plc 7 t) + bg1 (g0 L (plc 4 t))) + pck (g0 L (plc 4 t)) (g0 L (plc 5 t)) (g0 L (plc 6 t))) + x))).set (plc 7 t) (((((g0 L (plc 7 t) + bg1 (g0 L (plc 4 t))) + pck (g0 L (plc 4 t)) (g0 L (plc 5 t)) (g0 L (plc 6 t))) + x) + bg0 (g0 L (plc 0 t))) + mst (g0 L (plc 0 t)) (g0 L (plc 1 t)) (g0 L (plc 2 t))))
set_option maxRecDepth 1000000 in
set_option maxHeartbeats 8000000 in
theorem step_c (g t : Nat) (x : UInt32) (L : List UInt32) (w : World) (hL : L.length = 8) (ht : t < 64) (D0 : Holds w g 129 (L.map wd)) :
    Calls Tryd.prog 84 #[.pointer (some ⟨g, 0, none⟩), .int .i64 (t : Int), wd x] w fun e w' => e = .returned (.tuple #[]) ∧ Holds w' g 129 ((stepL t x L).map wd) ∧ Mod [g] w w' := by
  have hp : ∀ k, plc k t < L.length := fun k => by unfold plc; omega
  have hp8 : ∀ k, plc k t < 8 := fun k => by unfold plc; omega
  have hlt := D0.lt
  have HP := Lib.hid (And.intro hp (And.intro hp8 (And.intro hL ht)))
  clear hp hp8 hL ht
  replace D0 : Holds w.drew g 129 (L.map wd) := D0
  go_enter Tryd.func84, Tryd.ntmps84
  go_wp2_with fail
  refine wp_region_lit1 [.pointer (some ⟨g, 0, none⟩), .int .i64 ((t : Nat) : Int), wd x, undef, undef, undef, wd (g0 L (plc 0 t)), wd (g0 L (plc 1 t)), wd (g0 L (plc 2 t)), undef, undef, undef, undef, .pointer (some ⟨g, 0, none⟩), .int .i64 ((t : Nat) : Int), .int .i64 ((plc 0 t : Nat) : Int), .pointer (some ⟨g, 0, none⟩), .pointer (some ⟨g, 0 + (plc 0 t), none⟩), wd (g0 L (plc 0 t)), .pointer (some ⟨g, 0, none⟩), .int .i64 ((t : Nat) : Int), .int .i64 ((plc 1 t : Nat) : Int), .pointer (some ⟨g, 0, none⟩), .pointer (some ⟨g, 0 + (plc 1 t), none⟩), wd (g0 L (plc 1 t)), .pointer (some ⟨g, 0, none⟩), .int .i64 ((t : Nat) : Int), .int .i64 ((plc 2 t : Nat) : Int), .pointer (some ⟨g, 0, none⟩), .pointer (some ⟨g, 0 + (plc 2 t), none⟩), wd (g0 L (plc 2 t)), undef, undef, undef, undef, undef, undef, undef, undef, undef, undef, undef, undef, undef, undef, undef, undef, undef, undef, undef, undef, undef, undef, undef, undef, undef, undef, undef, undef, undef, undef, undef, undef, undef, undef, undef, undef, undef, undef, undef, undef, undef, undef, undef, undef, undef, undef, undef, undef, undef, undef, undef, undef, undef, undef, undef, undef, undef, undef, undef, undef] 91 [0, 1, 2, 3, 4, 5, 9, 10, 11, 12, 31, 32, 33, 34, 35, 36, 37, 38, 39, 40, 41, 42, 43, 44, 45, 46, 47, 48, 49, 50, 51, 52, 53, 54, 55, 56, 57, 58, 59, 60, 61, 62, 63, 64, 65, 66, 67, 68, 69, 70, 71, 72, 73, 74, 75, 76, 77, 78, 79, 80, 81, 82, 83, 84, 85, 86, 87, 88, 89, 90]
    (fun _ v => Mod [] w.drew v) []
    (by kernel_rfl) rfl rfl rfl rfl (Mod.refl _ _) (by kernel_rfl) (by kernel_rfl) ?step ?fin
  case step =>
    intro l T v j o hj hlj hdep hst hpar hgot hcl K hK
    have hjn : j < 21 := (Array.getElem?_eq_some_iff.1 hj).1
    obtain rfl | rfl | rfl | rfl | rfl | rfl | rfl | rfl | rfl | rfl | rfl | rfl | rfl | rfl | rfl | rfl | rfl | rfl | rfl | rfl | rfl : j = 0 ∨ j = 1 ∨ j = 2 ∨ j = 3 ∨ j = 4 ∨ j = 5 ∨ j = 6 ∨ j = 7 ∨ j = 8 ∨ j = 9 ∨ j = 10 ∨ j = 11 ∨ j = 12 ∨ j = 13 ∨ j = 14 ∨ j = 15 ∨ j = 16 ∨ j = 17 ∨ j = 18 ∨ j = 19 ∨ j = 20 := by omega
    all_goals (have hj' := Option.some.inj (hj : some _ = some o); subst hj'; clear hj)
    · exact wp_ran rfl (exec_move rfl (eval_tmp (hpar 0 (by simp)))) (hK _ _ (fun s hs => by cases hs; rfl) hst)
    · exact wp_ran rfl (exec_move rfl (eval_tmp (hpar 1 (by simp)))) (hK _ _ (fun s hs => by cases hs; rfl) hst)
    · exact wp_called rfl (exec_call2 rfl rfl rfl (eval_tmp (hgot 1 _ 14 rfl (hdep ⟨1, .data⟩ (by simp) rfl) rfl)) (enters_of Tryd.func87 (by kernel_rfl) rfl)) ((place_c 0 t (by decide) HP.out.2.2.2 _).mono (fun e v' hh => ⟨_, hh.1, hK _ _ (fun s hs => by cases hs; rfl) (by rw [hh.2]; exact hst)⟩))
    · exact wp_ran rfl (exec_nil rfl (eval_tmp (hgot 0 _ 13 rfl (hdep ⟨0, .data⟩ (by simp) rfl) rfl))) (hK _ _ (fun s hs => by cases hs; rfl) hst)
    · exact wp_ran rfl (exec_at Tryd.underlying129 info55 (HP.out.2.1 _) rfl (eval_tmp (hgot 3 _ 16 rfl (hdep ⟨3, .data⟩ (by simp) rfl) rfl)) (eval_tmp (hgot 2 _ 15 rfl (hdep ⟨2, .data⟩ (by simp) rfl) rfl))) (hK _ _ (fun s hs => by cases hs; rfl) hst)
    · exact wp_ran rfl (exec_load rfl (eval_tmp (hgot 4 _ 17 rfl (hdep ⟨4, .data⟩ (by simp) rfl) rfl)) (word_load (D0.keep hst (by simp)) (by exact HP.out.1 _))) (hK _ _ (fun s hs => by cases hs; rfl) hst)
    · exact wp_ran rfl (exec_move rfl (eval_tmp (hpar 0 (by simp)))) (hK _ _ (fun s hs => by cases hs; rfl) hst)
    · exact wp_ran rfl (exec_move rfl (eval_tmp (hpar 1 (by simp)))) (hK _ _ (fun s hs => by cases hs; rfl) hst)
    · exact wp_called rfl (exec_call2 rfl rfl rfl (eval_tmp (hgot 7 _ 20 rfl (hdep ⟨7, .data⟩ (by simp) rfl) rfl)) (enters_of Tryd.func87 (by kernel_rfl) rfl)) ((place_c 1 t (by decide) HP.out.2.2.2 _).mono (fun e v' hh => ⟨_, hh.1, hK _ _ (fun s hs => by cases hs; rfl) (by rw [hh.2]; exact hst)⟩))
    · exact wp_ran rfl (exec_nil rfl (eval_tmp (hgot 6 _ 19 rfl (hdep ⟨6, .data⟩ (by simp) rfl) rfl))) (hK _ _ (fun s hs => by cases hs; rfl) hst)
    · exact wp_ran rfl (exec_at Tryd.underlying129 info55 (HP.out.2.1 _) rfl (eval_tmp (hgot 9 _ 22 rfl (hdep ⟨9, .data⟩ (by simp) rfl) rfl)) (eval_tmp (hgot 8 _ 21 rfl (hdep ⟨8, .data⟩ (by simp) rfl) rfl))) (hK _ _ (fun s hs => by cases hs; rfl) hst)
    · exact wp_ran rfl (exec_load rfl (eval_tmp (hgot 10 _ 23 rfl (hdep ⟨10, .data⟩ (by simp) rfl) rfl)) (word_load (D0.keep hst (by simp)) (by exact HP.out.1 _))) (hK _ _ (fun s hs => by cases hs; rfl) hst)
    · exact wp_ran rfl (exec_move rfl (eval_tmp (hpar 0 (by simp)))) (hK _ _ (fun s hs => by cases hs; rfl) hst)
    · exact wp_ran rfl (exec_move rfl (eval_tmp (hpar 1 (by simp)))) (hK _ _ (fun s hs => by cases hs; rfl) hst)
    · exact wp_called rfl (exec_call2 rfl rfl rfl (eval_tmp (hgot 13 _ 26 rfl (hdep ⟨13, .data⟩ (by simp) rfl) rfl)) (enters_of Tryd.func87 (by kernel_rfl) rfl)) ((place_c 2 t (by decide) HP.out.2.2.2 _).mono (fun e v' hh => ⟨_, hh.1, hK _ _ (fun s hs => by cases hs; rfl) (by rw [hh.2]; exact hst)⟩))
    · exact wp_ran rfl (exec_nil rfl (eval_tmp (hgot 12 _ 25 rfl (hdep ⟨12, .data⟩ (by simp) rfl) rfl))) (hK _ _ (fun s hs => by cases hs; rfl) hst)
    · exact wp_ran rfl (exec_at Tryd.underlying129 info55 (HP.out.2.1 _) rfl (eval_tmp (hgot 15 _ 28 rfl (hdep ⟨15, .data⟩ (by simp) rfl) rfl)) (eval_tmp (hgot 14 _ 27 rfl (hdep ⟨14, .data⟩ (by simp) rfl) rfl))) (hK _ _ (fun s hs => by cases hs; rfl) hst)
    · exact wp_ran rfl (exec_load rfl (eval_tmp (hgot 16 _ 29 rfl (hdep ⟨16, .data⟩ (by simp) rfl) rfl)) (word_load (D0.keep hst (by simp)) (by exact HP.out.1 _))) (hK _ _ (fun s hs => by cases hs; rfl) hst)
    · exact wp_ran rfl (exec_assign rfl (eval_tmp (hgot 5 _ 18 rfl (hdep ⟨5, .data⟩ (by simp) rfl) rfl))) (hK _ _ (fun s hs => by cases hs; rfl) hst)
    · exact wp_ran rfl (exec_assign rfl (eval_tmp (hgot 11 _ 24 rfl (hdep ⟨11, .data⟩ (by simp) rfl) rfl))) (hK _ _ (fun s hs => by cases hs; rfl) hst)
    · exact wp_ran rfl (exec_assign rfl (eval_tmp (hgot 17 _ 30 rfl (hdep ⟨17, .data⟩ (by simp) rfl) rfl))) (hK _ _ (fun s hs => by cases hs; rfl) hst)
  case fin =>
    intro l v hl hst
    obtain ⟨w1, rfl⟩ : ∃ u, u = v := ⟨_, rfl⟩
    have D1 : Holds w1.drew g 129 (L.map wd) := Holds.keep (w := w.drew) (v := w1) D0 hst (by simp)
    have m0 : Mod [] w w1 := hst.drewed
    clear hst hl
    dsimp only
    go_wp2_with fail
    refine wp_region_lit1 [.pointer (some ⟨g, 0, none⟩), .int .i64 ((t : Nat) : Int), wd x, undef, undef, undef, wd (g0 L (plc 0 t)), wd (g0 L (plc 1 t)), wd (g0 L (plc 2 t)), wd (g0 L (plc 4 t)), wd (g0 L (plc 5 t)), wd (g0 L (plc 6 t)), undef, .pointer (some ⟨g, 0, none⟩), .int .i64 ((t : Nat) : Int), .int .i64 ((plc 0 t : Nat) : Int), .pointer (some ⟨g, 0, none⟩), .pointer (some ⟨g, 0 + (plc 0 t), none⟩), wd (g0 L (plc 0 t)), .pointer (some ⟨g, 0, none⟩), .int .i64 ((t : Nat) : Int), .int .i64 ((plc 1 t : Nat) : Int), .pointer (some ⟨g, 0, none⟩), .pointer (some ⟨g, 0 + (plc 1 t), none⟩), wd (g0 L (plc 1 t)), .pointer (some ⟨g, 0, none⟩), .int .i64 ((t : Nat) : Int), .int .i64 ((plc 2 t : Nat) : Int), .pointer (some ⟨g, 0, none⟩), .pointer (some ⟨g, 0 + (plc 2 t), none⟩), wd (g0 L (plc 2 t)), .pointer (some ⟨g, 0, none⟩), .int .i64 ((t : Nat) : Int), .int .i64 ((plc 4 t : Nat) : Int), .pointer (some ⟨g, 0, none⟩), .pointer (some ⟨g, 0 + (plc 4 t), none⟩), wd (g0 L (plc 4 t)), .pointer (some ⟨g, 0, none⟩), .int .i64 ((t : Nat) : Int), .int .i64 ((plc 5 t : Nat) : Int), .pointer (some ⟨g, 0, none⟩), .pointer (some ⟨g, 0 + (plc 5 t), none⟩), wd (g0 L (plc 5 t)), .pointer (some ⟨g, 0, none⟩), .int .i64 ((t : Nat) : Int), .int .i64 ((plc 6 t : Nat) : Int), .pointer (some ⟨g, 0, none⟩), .pointer (some ⟨g, 0 + (plc 6 t), none⟩), wd (g0 L (plc 6 t)), undef, undef, undef, undef, undef, undef, undef, undef, undef, undef, undef, undef, undef, undef, undef, undef, undef, undef, undef, undef, undef, undef, undef, undef, undef, undef, undef, undef, undef, undef, undef, undef, undef, undef, undef, undef, undef, undef, undef, undef, undef, undef] 91 [0, 1, 2, 3, 4, 5, 6, 7, 8, 12, 13, 14, 15, 16, 17, 18, 19, 20, 21, 22, 23, 24, 25, 26, 27, 28, 29, 30, 49, 50, 51, 52, 53, 54, 55, 56, 57, 58, 59, 60, 61, 62, 63, 64, 65, 66, 67, 68, 69, 70, 71, 72, 73, 74, 75, 76, 77, 78, 79, 80, 81, 82, 83, 84, 85, 86, 87, 88, 89, 90]
      (fun _ v => Mod [] w1.drew v) []
      (by kernel_rfl) rfl rfl rfl rfl (Mod.refl _ _) (by kernel_rfl) (by kernel_rfl) ?step ?fin
    case step =>
      intro l T v j o hj hlj hdep hst hpar hgot hcl K hK
      have hjn : j < 21 := (Array.getElem?_eq_some_iff.1 hj).1
      obtain rfl | rfl | rfl | rfl | rfl | rfl | rfl | rfl | rfl | rfl | rfl | rfl | rfl | rfl | rfl | rfl | rfl | rfl | rfl | rfl | rfl : j = 0 ∨ j = 1 ∨ j = 2 ∨ j = 3 ∨ j = 4 ∨ j = 5 ∨ j = 6 ∨ j = 7 ∨ j = 8 ∨ j = 9 ∨ j = 10 ∨ j = 11 ∨ j = 12 ∨ j = 13 ∨ j = 14 ∨ j = 15 ∨ j = 16 ∨ j = 17 ∨ j = 18 ∨ j = 19 ∨ j = 20 := by omega
      all_goals (have hj' := Option.some.inj (hj : some _ = some o); subst hj'; clear hj)
      · exact wp_ran rfl (exec_move rfl (eval_tmp (hpar 0 (by simp)))) (hK _ _ (fun s hs => by cases hs; rfl) hst)
      · exact wp_ran rfl (exec_move rfl (eval_tmp (hpar 1 (by simp)))) (hK _ _ (fun s hs => by cases hs; rfl) hst)
      · exact wp_called rfl (exec_call2 rfl rfl rfl (eval_tmp (hgot 1 _ 32 rfl (hdep ⟨1, .data⟩ (by simp) rfl) rfl)) (enters_of Tryd.func87 (by kernel_rfl) rfl)) ((place_c 4 t (by decide) HP.out.2.2.2 _).mono (fun e v' hh => ⟨_, hh.1, hK _ _ (fun s hs => by cases hs; rfl) (by rw [hh.2]; exact hst)⟩))
      · exact wp_ran rfl (exec_nil rfl (eval_tmp (hgot 0 _ 31 rfl (hdep ⟨0, .data⟩ (by simp) rfl) rfl))) (hK _ _ (fun s hs => by cases hs; rfl) hst)
      · exact wp_ran rfl (exec_at Tryd.underlying129 info55 (HP.out.2.1 _) rfl (eval_tmp (hgot 3 _ 34 rfl (hdep ⟨3, .data⟩ (by simp) rfl) rfl)) (eval_tmp (hgot 2 _ 33 rfl (hdep ⟨2, .data⟩ (by simp) rfl) rfl))) (hK _ _ (fun s hs => by cases hs; rfl) hst)
      · exact wp_ran rfl (exec_load rfl (eval_tmp (hgot 4 _ 35 rfl (hdep ⟨4, .data⟩ (by simp) rfl) rfl)) (word_load (D1.keep hst (by simp)) (by exact HP.out.1 _))) (hK _ _ (fun s hs => by cases hs; rfl) hst)
      · exact wp_ran rfl (exec_move rfl (eval_tmp (hpar 0 (by simp)))) (hK _ _ (fun s hs => by cases hs; rfl) hst)
      · exact wp_ran rfl (exec_move rfl (eval_tmp (hpar 1 (by simp)))) (hK _ _ (fun s hs => by cases hs; rfl) hst)
      · exact wp_called rfl (exec_call2 rfl rfl rfl (eval_tmp (hgot 7 _ 38 rfl (hdep ⟨7, .data⟩ (by simp) rfl) rfl)) (enters_of Tryd.func87 (by kernel_rfl) rfl)) ((place_c 5 t (by decide) HP.out.2.2.2 _).mono (fun e v' hh => ⟨_, hh.1, hK _ _ (fun s hs => by cases hs; rfl) (by rw [hh.2]; exact hst)⟩))
      · exact wp_ran rfl (exec_nil rfl (eval_tmp (hgot 6 _ 37 rfl (hdep ⟨6, .data⟩ (by simp) rfl) rfl))) (hK _ _ (fun s hs => by cases hs; rfl) hst)
      · exact wp_ran rfl (exec_at Tryd.underlying129 info55 (HP.out.2.1 _) rfl (eval_tmp (hgot 9 _ 40 rfl (hdep ⟨9, .data⟩ (by simp) rfl) rfl)) (eval_tmp (hgot 8 _ 39 rfl (hdep ⟨8, .data⟩ (by simp) rfl) rfl))) (hK _ _ (fun s hs => by cases hs; rfl) hst)
      · exact wp_ran rfl (exec_load rfl (eval_tmp (hgot 10 _ 41 rfl (hdep ⟨10, .data⟩ (by simp) rfl) rfl)) (word_load (D1.keep hst (by simp)) (by exact HP.out.1 _))) (hK _ _ (fun s hs => by cases hs; rfl) hst)
      · exact wp_ran rfl (exec_move rfl (eval_tmp (hpar 0 (by simp)))) (hK _ _ (fun s hs => by cases hs; rfl) hst)
      · exact wp_ran rfl (exec_move rfl (eval_tmp (hpar 1 (by simp)))) (hK _ _ (fun s hs => by cases hs; rfl) hst)
      · exact wp_called rfl (exec_call2 rfl rfl rfl (eval_tmp (hgot 13 _ 44 rfl (hdep ⟨13, .data⟩ (by simp) rfl) rfl)) (enters_of Tryd.func87 (by kernel_rfl) rfl)) ((place_c 6 t (by decide) HP.out.2.2.2 _).mono (fun e v' hh => ⟨_, hh.1, hK _ _ (fun s hs => by cases hs; rfl) (by rw [hh.2]; exact hst)⟩))
      · exact wp_ran rfl (exec_nil rfl (eval_tmp (hgot 12 _ 43 rfl (hdep ⟨12, .data⟩ (by simp) rfl) rfl))) (hK _ _ (fun s hs => by cases hs; rfl) hst)
      · exact wp_ran rfl (exec_at Tryd.underlying129 info55 (HP.out.2.1 _) rfl (eval_tmp (hgot 15 _ 46 rfl (hdep ⟨15, .data⟩ (by simp) rfl) rfl)) (eval_tmp (hgot 14 _ 45 rfl (hdep ⟨14, .data⟩ (by simp) rfl) rfl))) (hK _ _ (fun s hs => by cases hs; rfl) hst)
      · exact wp_ran rfl (exec_load rfl (eval_tmp (hgot 16 _ 47 rfl (hdep ⟨16, .data⟩ (by simp) rfl) rfl)) (word_load (D1.keep hst (by simp)) (by exact HP.out.1 _))) (hK _ _ (fun s hs => by cases hs; rfl) hst)
      · exact wp_ran rfl (exec_assign rfl (eval_tmp (hgot 5 _ 36 rfl (hdep ⟨5, .data⟩ (by simp) rfl) rfl))) (hK _ _ (fun s hs => by cases hs; rfl) hst)
      · exact wp_ran rfl (exec_assign rfl (eval_tmp (hgot 11 _ 42 rfl (hdep ⟨11, .data⟩ (by simp) rfl) rfl))) (hK _ _ (fun s hs => by cases hs; rfl) hst)
      · exact wp_ran rfl (exec_assign rfl (eval_tmp (hgot 17 _ 48 rfl (hdep ⟨17, .data⟩ (by simp) rfl) rfl))) (hK _ _ (fun s hs => by cases hs; rfl) hst)
    case fin =>
      intro l v hl hst
      obtain ⟨w2, rfl⟩ : ∃ u, u = v := ⟨_, rfl⟩
      have D2 : Holds w2.drew g 129 (L.map wd) := Holds.keep (w := w1.drew) (v := w2) D1 hst (by simp)
      have m1 : Mod [] w w2 := m0.then hst.drewed
      clear m0
      clear hst hl
      dsimp only
      go_wp2_with fail
      refine wp_region_lit1 [.pointer (some ⟨g, 0, none⟩), .int .i64 ((t : Nat) : Int), wd x, undef, undef, undef, wd (g0 L (plc 0 t)), wd (g0 L (plc 1 t)), wd (g0 L (plc 2 t)), wd (g0 L (plc 4 t)), wd (g0 L (plc 5 t)), wd (g0 L (plc 6 t)), wd (((g0 L (plc 7 t) + bg1 (g0 L (plc 4 t))) + pck (g0 L (plc 4 t)) (g0 L (plc 5 t)) (g0 L (plc 6 t))) + x), .pointer (some ⟨g, 0, none⟩), .int .i64 ((t : Nat) : Int), .int .i64 ((plc 0 t : Nat) : Int), .pointer (some ⟨g, 0, none⟩), .pointer (some ⟨g, 0 + (plc 0 t), none⟩), wd (g0 L (plc 0 t)), .pointer (some ⟨g, 0, none⟩), .int .i64 ((t : Nat) : Int), .int .i64 ((plc 1 t : Nat) : Int), .pointer (some ⟨g, 0, none⟩), .pointer (some ⟨g, 0 + (plc 1 t), none⟩), wd (g0 L (plc 1 t)), .pointer (some ⟨g, 0, none⟩), .int .i64 ((t : Nat) : Int), .int .i64 ((plc 2 t : Nat) : Int), .pointer (some ⟨g, 0, none⟩), .pointer (some ⟨g, 0 + (plc 2 t), none⟩), wd (g0 L (plc 2 t)), .pointer (some ⟨g, 0, none⟩), .int .i64 ((t : Nat) : Int), .int .i64 ((plc 4 t : Nat) : Int), .pointer (some ⟨g, 0, none⟩), .pointer (some ⟨g, 0 + (plc 4 t), none⟩), wd (g0 L (plc 4 t)), .pointer (some ⟨g, 0, none⟩), .int .i64 ((t : Nat) : Int), .int .i64 ((plc 5 t : Nat) : Int), .pointer (some ⟨g, 0, none⟩), .pointer (some ⟨g, 0 + (plc 5 t), none⟩), wd (g0 L (plc 5 t)), .pointer (some ⟨g, 0, none⟩), .int .i64 ((t : Nat) : Int), .int .i64 ((plc 6 t : Nat) : Int), .pointer (some ⟨g, 0, none⟩), .pointer (some ⟨g, 0 + (plc 6 t), none⟩), wd (g0 L (plc 6 t)), .pointer (some ⟨g, 0, none⟩), .int .i64 ((t : Nat) : Int), .int .i64 ((plc 7 t : Nat) : Int), .pointer (some ⟨g, 0, none⟩), .pointer (some ⟨g, 0 + (plc 7 t), none⟩), wd (g0 L (plc 7 t)), .agg (mixC 6 11 95 25).toArray, wd (g0 L (plc 4 t)), wd (bg1 (g0 L (plc 4 t))), wd (g0 L (plc 7 t) + bg1 (g0 L (plc 4 t))), wd (g0 L (plc 4 t)), wd (g0 L (plc 5 t)), wd (g0 L (plc 6 t)), wd (pck (g0 L (plc 4 t)) (g0 L (plc 5 t)) (g0 L (plc 6 t))), wd ((g0 L (plc 7 t) + bg1 (g0 L (plc 4 t))) + pck (g0 L (plc 4 t)) (g0 L (plc 5 t)) (g0 L (plc 6 t))), wd x, wd (((g0 L (plc 7 t) + bg1 (g0 L (plc 4 t))) + pck (g0 L (plc 4 t)) (g0 L (plc 5 t)) (g0 L (plc 6 t))) + x), undef, undef, undef, undef, undef, undef, undef, undef, undef, undef, undef, undef, undef, undef, undef, undef, undef, undef, undef, undef, undef, undef, undef, undef, undef] 91 [0, 1, 2, 3, 4, 5, 6, 7, 8, 9, 10, 11, 13, 14, 15, 16, 17, 18, 19, 20, 21, 22, 23, 24, 25, 26, 27, 28, 29, 30, 31, 32, 33, 34, 35, 36, 37, 38, 39, 40, 41, 42, 43, 44, 45, 46, 47, 48, 66, 67, 68, 69, 70, 71, 72, 73, 74, 75, 76, 77, 78, 79, 80, 81, 82, 83, 84, 85, 86, 87, 88, 89, 90]
        (fun _ v => Mod [] w2.drew v) []
        (by kernel_rfl) rfl rfl rfl rfl (Mod.refl _ _) (by kernel_rfl) (by kernel_rfl) ?step ?fin
      case step =>
        intro l T v j o hj hlj hdep hst hpar hgot hcl K hK
        have hjn : j < 18 := (Array.getElem?_eq_some_iff.1 hj).1
        obtain rfl | rfl | rfl | rfl | rfl | rfl | rfl | rfl | rfl | rfl | rfl | rfl | rfl | rfl | rfl | rfl | rfl | rfl : j = 0 ∨ j = 1 ∨ j = 2 ∨ j = 3 ∨ j = 4 ∨ j = 5 ∨ j = 6 ∨ j = 7 ∨ j = 8 ∨ j = 9 ∨ j = 10 ∨ j = 11 ∨ j = 12 ∨ j = 13 ∨ j = 14 ∨ j = 15 ∨ j = 16 ∨ j = 17 := by omega
        all_goals (have hj' := Option.some.inj (hj : some _ = some o); subst hj'; clear hj)
        · exact wp_ran rfl (exec_move rfl (eval_tmp (hpar 0 (by simp)))) (hK _ _ (fun s hs => by cases hs; rfl) hst)
        · exact wp_ran rfl (exec_move rfl (eval_tmp (hpar 1 (by simp)))) (hK _ _ (fun s hs => by cases hs; rfl) hst)
        · exact wp_called rfl (exec_call2 rfl rfl rfl (eval_tmp (hgot 1 _ 50 rfl (hdep ⟨1, .data⟩ (by simp) rfl) rfl)) (enters_of Tryd.func87 (by kernel_rfl) rfl)) ((place_c 7 t (by decide) HP.out.2.2.2 _).mono (fun e v' hh => ⟨_, hh.1, hK _ _ (fun s hs => by cases hs; rfl) (by rw [hh.2]; exact hst)⟩))
        · exact wp_ran rfl (exec_nil rfl (eval_tmp (hgot 0 _ 49 rfl (hdep ⟨0, .data⟩ (by simp) rfl) rfl))) (hK _ _ (fun s hs => by cases hs; rfl) hst)
        · exact wp_ran rfl (exec_at Tryd.underlying129 info55 (HP.out.2.1 _) rfl (eval_tmp (hgot 3 _ 52 rfl (hdep ⟨3, .data⟩ (by simp) rfl) rfl)) (eval_tmp (hgot 2 _ 51 rfl (hdep ⟨2, .data⟩ (by simp) rfl) rfl))) (hK _ _ (fun s hs => by cases hs; rfl) hst)
        · exact wp_ran rfl (exec_load rfl (eval_tmp (hgot 4 _ 53 rfl (hdep ⟨4, .data⟩ (by simp) rfl) rfl)) (word_load (D2.keep hst (by simp)) (by exact HP.out.1 _))) (hK _ _ (fun s hs => by cases hs; rfl) hst)
        · exact wp_called rfl (exec_call0 rfl rfl (enters_of Tryd.func88 (by kernel_rfl) rfl)) ((big1_c _).mono (fun e v' hh => ⟨_, hh.1, hK _ _ (fun s hs => by cases hs; rfl) (hst.then hh.2)⟩))
        · exact wp_ran rfl (exec_move rfl (eval_tmp (hpar 9 (by simp)))) (hK _ _ (fun s hs => by cases hs; rfl) hst)
        · exact wp_called rfl (exec_call2 rfl rfl (eval_tmp (hgot 6 _ 55 rfl (hdep ⟨6, .data⟩ (by simp) rfl) rfl)) (eval_tmp (hgot 7 _ 56 rfl (hdep ⟨7, .data⟩ (by simp) rfl) rfl)) (enters_of Tryd.func89 (by kernel_rfl) rfl)) ((big1_of _ _).mono (fun e v' hh => ⟨_, hh.1, hK _ _ (fun s hs => by cases hs; rfl) (hst.then hh.2)⟩))
        · exact wp_ran rfl (exec_add rfl (eval_tmp (hgot 5 _ 54 rfl (hdep ⟨5, .data⟩ (by simp) rfl) rfl)) (eval_tmp (hgot 8 _ 57 rfl (hdep ⟨8, .data⟩ (by simp) rfl) rfl)) (add_wd _ _)) (hK _ _ (fun s hs => by cases hs; rfl) hst)
        · exact wp_ran rfl (exec_move rfl (eval_tmp (hpar 9 (by simp)))) (hK _ _ (fun s hs => by cases hs; rfl) hst)
        · exact wp_ran rfl (exec_move rfl (eval_tmp (hpar 10 (by simp)))) (hK _ _ (fun s hs => by cases hs; rfl) hst)
        · exact wp_ran rfl (exec_move rfl (eval_tmp (hpar 11 (by simp)))) (hK _ _ (fun s hs => by cases hs; rfl) hst)
        · exact wp_called rfl (exec_call3 rfl rfl (eval_tmp (hgot 10 _ 59 rfl (hdep ⟨10, .data⟩ (by simp) rfl) rfl)) (eval_tmp (hgot 11 _ 60 rfl (hdep ⟨11, .data⟩ (by simp) rfl) rfl)) (eval_tmp (hgot 12 _ 61 rfl (hdep ⟨12, .data⟩ (by simp) rfl) rfl)) (enters_of Tryd.func90 (by kernel_rfl) rfl)) ((pick_c _ _ _ _).mono (fun e v' hh => ⟨_, hh.1, hK _ _ (fun s hs => by cases hs; rfl) (by rw [hh.2]; exact hst)⟩))
        · exact wp_ran rfl (exec_add rfl (eval_tmp (hgot 9 _ 58 rfl (hdep ⟨9, .data⟩ (by simp) rfl) rfl)) (eval_tmp (hgot 13 _ 62 rfl (hdep ⟨13, .data⟩ (by simp) rfl) rfl)) (add_wd _ _)) (hK _ _ (fun s hs => by cases hs; rfl) hst)
        · exact wp_ran rfl (exec_move rfl (eval_tmp (hpar 2 (by simp)))) (hK _ _ (fun s hs => by cases hs; rfl) hst)
        · exact wp_ran rfl (exec_add rfl (eval_tmp (hgot 14 _ 63 rfl (hdep ⟨14, .data⟩ (by simp) rfl) rfl)) (eval_tmp (hgot 15 _ 64 rfl (hdep ⟨15, .data⟩ (by simp) rfl) rfl)) (add_wd _ _)) (hK _ _ (fun s hs => by cases hs; rfl) hst)
        · exact wp_ran rfl (exec_assign rfl (eval_tmp (hgot 16 _ 65 rfl (hdep ⟨16, .data⟩ (by simp) rfl) rfl))) (hK _ _ (fun s hs => by cases hs; rfl) hst)
      case fin =>
        intro l v hl hst
        obtain ⟨w3, rfl⟩ : ∃ u, u = v := ⟨_, rfl⟩
        have D3 : Holds w3.drew g 129 (L.map wd) := Holds.keep (w := w2.drew) (v := w3) D2 hst (by simp)
        have m2 : Mod [] w w3 := m1.then hst.drewed
        clear hst hl m1
        dsimp only
        go_wp2_with fail
        refine wp_region_lit1 [.pointer (some ⟨g, 0, none⟩), .int .i64 ((t : Nat) : Int), wd x, undef, undef, undef, wd (g0 L (plc 0 t)), wd (g0 L (plc 1 t)), wd (g0 L (plc 2 t)), wd (g0 L (plc 4 t)), wd (g0 L (plc 5 t)), wd (g0 L (plc 6 t)), wd (((g0 L (plc 7 t) + bg1 (g0 L (plc 4 t))) + pck (g0 L (plc 4 t)) (g0 L (plc 5 t)) (g0 L (plc 6 t))) + x), .pointer (some ⟨g, 0, none⟩), .int .i64 ((t : Nat) : Int), .int .i64 ((plc 0 t : Nat) : Int), .pointer (some ⟨g, 0, none⟩), .pointer (some ⟨g, 0 + (plc 0 t), none⟩), wd (g0 L (plc 0 t)), .pointer (some ⟨g, 0, none⟩), .int .i64 ((t : Nat) : Int), .int .i64 ((plc 1 t : Nat) : Int), .pointer (some ⟨g, 0, none⟩), .pointer (some ⟨g, 0 + (plc 1 t), none⟩), wd (g0 L (plc 1 t)), .pointer (some ⟨g, 0, none⟩), .int .i64 ((t : Nat) : Int), .int .i64 ((plc 2 t : Nat) : Int), .pointer (some ⟨g, 0, none⟩), .pointer (some ⟨g, 0 + (plc 2 t), none⟩), wd (g0 L (plc 2 t)), .pointer (some ⟨g, 0, none⟩), .int .i64 ((t : Nat) : Int), .int .i64 ((plc 4 t : Nat) : Int), .pointer (some ⟨g, 0, none⟩), .pointer (some ⟨g, 0 + (plc 4 t), none⟩), wd (g0 L (plc 4 t)), .pointer (some ⟨g, 0, none⟩), .int .i64 ((t : Nat) : Int), .int .i64 ((plc 5 t : Nat) : Int), .pointer (some ⟨g, 0, none⟩), .pointer (some ⟨g, 0 + (plc 5 t), none⟩), wd (g0 L (plc 5 t)), .pointer (some ⟨g, 0, none⟩), .int .i64 ((t : Nat) : Int), .int .i64 ((plc 6 t : Nat) : Int), .pointer (some ⟨g, 0, none⟩), .pointer (some ⟨g, 0 + (plc 6 t), none⟩), wd (g0 L (plc 6 t)), .pointer (some ⟨g, 0, none⟩), .int .i64 ((t : Nat) : Int), .int .i64 ((plc 7 t : Nat) : Int), .pointer (some ⟨g, 0, none⟩), .pointer (some ⟨g, 0 + (plc 7 t), none⟩), wd (g0 L (plc 7 t)), .agg (mixC 6 11 95 25).toArray, wd (g0 L (plc 4 t)), wd (bg1 (g0 L (plc 4 t))), wd (g0 L (plc 7 t) + bg1 (g0 L (plc 4 t))), wd (g0 L (plc 4 t)), wd (g0 L (plc 5 t)), wd (g0 L (plc 6 t)), wd (pck (g0 L (plc 4 t)) (g0 L (plc 5 t)) (g0 L (plc 6 t))), wd ((g0 L (plc 7 t) + bg1 (g0 L (plc 4 t))) + pck (g0 L (plc 4 t)) (g0 L (plc 5 t)) (g0 L (plc 6 t))), wd x, wd (((g0 L (plc 7 t) + bg1 (g0 L (plc 4 t))) + pck (g0 L (plc 4 t)) (g0 L (plc 5 t)) (g0 L (plc 6 t))) + x), .pointer (some ⟨g, 0, none⟩), .int .i64 ((t : Nat) : Int), .int .i64 ((plc 3 t : Nat) : Int), .pointer (some ⟨g, 0, none⟩), .pointer (some ⟨g, 0 + (plc 3 t), none⟩), wd (g0 L (plc 3 t)), wd (((g0 L (plc 7 t) + bg1 (g0 L (plc 4 t))) + pck (g0 L (plc 4 t)) (g0 L (plc 5 t)) (g0 L (plc 6 t))) + x), wd (g0 L (plc 3 t) + (((g0 L (plc 7 t) + bg1 (g0 L (plc 4 t))) + pck (g0 L (plc 4 t)) (g0 L (plc 5 t)) (g0 L (plc 6 t))) + x)), .pointer (some ⟨g, 0, none⟩), .pointer (some ⟨g, 0 + (plc 3 t), none⟩), undef, undef, undef, undef, undef, undef, undef, undef, undef, undef, undef, undef, undef, undef, undef] 91 [0, 1, 2, 3, 4, 5, 6, 7, 8, 9, 10, 11, 12, 13, 14, 15, 16, 17, 18, 19, 20, 21, 22, 23, 24, 25, 26, 27, 28, 29, 30, 31, 32, 33, 34, 35, 36, 37, 38, 39, 40, 41, 42, 43, 44, 45, 46, 47, 48, 49, 50, 51, 52, 53, 54, 55, 56, 57, 58, 59, 60, 61, 62, 63, 64, 65, 76, 77, 78, 79, 80, 81, 82, 83, 84, 85, 86, 87, 88, 89, 90]
          (Sto 10 (fun v => Mod [] w3.drew v) (fun v => Holds v g 129 ((L.set (plc 3 t) (g0 L (plc 3 t) + (((g0 L (plc 7 t) + bg1 (g0 L (plc 4 t))) + pck (g0 L (plc 4 t)) (g0 L (plc 5 t)) (g0 L (plc 6 t))) + x))).map wd) ∧ Mod [g] w3.drew v)) []
          (by kernel_rfl) rfl rfl rfl rfl (Sto.start (Mod.refl _ _)) (by kernel_rfl) (by kernel_rfl) ?step ?fin
        case step =>
          intro l T v j o hj hlj hdep hst hpar hgot hcl K hK
          have hjn : j < 11 := (Array.getElem?_eq_some_iff.1 hj).1
          have hq := fun h => Sto.now (j := j) hst hlj h
          obtain rfl | rfl | rfl | rfl | rfl | rfl | rfl | rfl | rfl | rfl | rfl : j = 0 ∨ j = 1 ∨ j = 2 ∨ j = 3 ∨ j = 4 ∨ j = 5 ∨ j = 6 ∨ j = 7 ∨ j = 8 ∨ j = 9 ∨ j = 10 := by omega
          all_goals (have hj' := Option.some.inj (hj : some _ = some o); subst hj'; clear hj)
          · exact wp_ran rfl (exec_move rfl (eval_tmp (hpar 0 (by simp)))) (hK _ _ (fun s hs => by cases hs; rfl) (Sto.keep (hq (by decide)) (by decide) (hq (by decide)).2))
          · exact wp_ran rfl (exec_move rfl (eval_tmp (hpar 1 (by simp)))) (hK _ _ (fun s hs => by cases hs; rfl) (Sto.keep (hq (by decide)) (by decide) (hq (by decide)).2))
          · exact wp_called rfl (exec_call2 rfl rfl rfl (eval_tmp (hgot 1 _ 67 rfl (hdep ⟨1, .data⟩ (by simp) rfl) rfl)) (enters_of Tryd.func87 (by kernel_rfl) rfl)) ((place_c 3 t (by decide) HP.out.2.2.2 _).mono (fun e v' hh => ⟨_, hh.1, hK _ _ (fun s hs => by cases hs; rfl) (by rw [hh.2]; exact Sto.keep (hq (by decide)) (by decide) (hq (by decide)).2)⟩))
          · exact wp_ran rfl (exec_nil rfl (eval_tmp (hgot 0 _ 66 rfl (hdep ⟨0, .data⟩ (by simp) rfl) rfl))) (hK _ _ (fun s hs => by cases hs; rfl) (Sto.keep (hq (by decide)) (by decide) (hq (by decide)).2))
          · exact wp_ran rfl (exec_at Tryd.underlying129 info55 (HP.out.2.1 _) rfl (eval_tmp (hgot 3 _ 69 rfl (hdep ⟨3, .data⟩ (by simp) rfl) rfl)) (eval_tmp (hgot 2 _ 68 rfl (hdep ⟨2, .data⟩ (by simp) rfl) rfl))) (hK _ _ (fun s hs => by cases hs; rfl) (Sto.keep (hq (by decide)) (by decide) (hq (by decide)).2))
          · exact wp_ran rfl (exec_load rfl (eval_tmp (hgot 4 _ 70 rfl (hdep ⟨4, .data⟩ (by simp) rfl) rfl)) (word_load (D3.keep (hq (by decide)).2 (by simp)) (by exact HP.out.1 _))) (hK _ _ (fun s hs => by cases hs; rfl) (Sto.keep (hq (by decide)) (by decide) (hq (by decide)).2))
          · exact wp_ran rfl (exec_move rfl (eval_tmp (hpar 12 (by simp)))) (hK _ _ (fun s hs => by cases hs; rfl) (Sto.keep (hq (by decide)) (by decide) (hq (by decide)).2))
          · exact wp_ran rfl (exec_add rfl (eval_tmp (hgot 5 _ 71 rfl (hdep ⟨5, .data⟩ (by simp) rfl) rfl)) (eval_tmp (hgot 6 _ 72 rfl (hdep ⟨6, .data⟩ (by simp) rfl) rfl)) (add_wd _ _)) (hK _ _ (fun s hs => by cases hs; rfl) (Sto.keep (hq (by decide)) (by decide) (hq (by decide)).2))
          · exact wp_ran rfl (exec_nil rfl (eval_tmp (hgot 0 _ 66 rfl (hdep ⟨0, .data⟩ (by simp) rfl) rfl))) (hK _ _ (fun s hs => by cases hs; rfl) (Sto.keep (hq (by decide)) (by decide) (hq (by decide)).2))
          · exact wp_ran rfl (exec_at Tryd.underlying129 info55 (HP.out.2.1 _) rfl (eval_tmp (hgot 8 _ 74 rfl (hdep ⟨8, .data⟩ (by simp) rfl) rfl)) (eval_tmp (hgot 2 _ 68 rfl (hdep ⟨2, .data⟩ (by simp) rfl) rfl))) (hK _ _ (fun s hs => by cases hs; rfl) (Sto.keep (hq (by decide)) (by decide) (hq (by decide)).2))
          · exact wp_ran_skip rfl (exec_word (z := g0 L (plc 3 t) + (((g0 L (plc 7 t) + bg1 (g0 L (plc 4 t))) + pck (g0 L (plc 4 t)) (g0 L (plc 5 t)) (g0 L (plc 6 t))) + x)) rfl (eval_tmp (hgot 9 _ 75 rfl (hdep ⟨9, .data⟩ (by simp) rfl) rfl)) (eval_tmp (hgot 7 _ 73 rfl (hdep ⟨7, .data⟩ (by simp) rfl) rfl)) (D3.keep (hq (by decide)).2 (by simp)) (by exact HP.out.1 _)) (hK _ _ (fun s hs => by cases hs) (Sto.done (reach_all (by kernel_rfl) hcl rfl hdep) ⟨word_set (D3.keep (hq (by decide)).2 (by simp)) _ _, (hq (by decide)).2.pre (Mod.setCell _ (by simp) _)⟩))
        case fin =>
          intro l v hl hst
          obtain ⟨D4, hst⟩ := Sto.fin hst hl (by decide)
          obtain ⟨w4, rfl⟩ : ∃ u, u = v := ⟨_, rfl⟩
          replace D4 : Holds w4.drew g 129 ((L.set (plc 3 t) (g0 L (plc 3 t) + (((g0 L (plc 7 t) + bg1 (g0 L (plc 4 t))) + pck (g0 L (plc 4 t)) (g0 L (plc 5 t)) (g0 L (plc 6 t))) + x))).map wd) := D4
          have m3 : Mod [g] w w4 := m2.pre hst.drewed
          clear hst hl m2
          dsimp only
          go_wp2_with fail
          refine wp_region_lit1 [.pointer (some ⟨g, 0, none⟩), .int .i64 ((t : Nat) : Int), wd x, undef, undef, undef, wd (g0 L (plc 0 t)), wd (g0 L (plc 1 t)), wd (g0 L (plc 2 t)), wd (g0 L (plc 4 t)), wd (g0 L (plc 5 t)), wd (g0 L (plc 6 t)), wd (((g0 L (plc 7 t) + bg1 (g0 L (plc 4 t))) + pck (g0 L (plc 4 t)) (g0 L (plc 5 t)) (g0 L (plc 6 t))) + x), .pointer (some ⟨g, 0, none⟩), .int .i64 ((t : Nat) : Int), .int .i64 ((plc 0 t : Nat) : Int), .pointer (some ⟨g, 0, none⟩), .pointer (some ⟨g, 0 + (plc 0 t), none⟩), wd (g0 L (plc 0 t)), .pointer (some ⟨g, 0, none⟩), .int .i64 ((t : Nat) : Int), .int .i64 ((plc 1 t : Nat) : Int), .pointer (some ⟨g, 0, none⟩), .pointer (some ⟨g, 0 + (plc 1 t), none⟩), wd (g0 L (plc 1 t)), .pointer (some ⟨g, 0, none⟩), .int .i64 ((t : Nat) : Int), .int .i64 ((plc 2 t : Nat) : Int), .pointer (some ⟨g, 0, none⟩), .pointer (some ⟨g, 0 + (plc 2 t), none⟩), wd (g0 L (plc 2 t)), .pointer (some ⟨g, 0, none⟩), .int .i64 ((t : Nat) : Int), .int .i64 ((plc 4 t : Nat) : Int), .pointer (some ⟨g, 0, none⟩), .pointer (some ⟨g, 0 + (plc 4 t), none⟩), wd (g0 L (plc 4 t)), .pointer (some ⟨g, 0, none⟩), .int .i64 ((t : Nat) : Int), .int .i64 ((plc 5 t : Nat) : Int), .pointer (some ⟨g, 0, none⟩), .pointer (some ⟨g, 0 + (plc 5 t), none⟩), wd (g0 L (plc 5 t)), .pointer (some ⟨g, 0, none⟩), .int .i64 ((t : Nat) : Int), .int .i64 ((plc 6 t : Nat) : Int), .pointer (some ⟨g, 0, none⟩), .pointer (some ⟨g, 0 + (plc 6 t), none⟩), wd (g0 L (plc 6 t)), .pointer (some ⟨g, 0, none⟩), .int .i64 ((t : Nat) : Int), .int .i64 ((plc 7 t : Nat) : Int), .pointer (some ⟨g, 0, none⟩), .pointer (some ⟨g, 0 + (plc 7 t), none⟩), wd (g0 L (plc 7 t)), .agg (mixC 6 11 95 25).toArray, wd (g0 L (plc 4 t)), wd (bg1 (g0 L (plc 4 t))), wd (g0 L (plc 7 t) + bg1 (g0 L (plc 4 t))), wd (g0 L (plc 4 t)), wd (g0 L (plc 5 t)), wd (g0 L (plc 6 t)), wd (pck (g0 L (plc 4 t)) (g0 L (plc 5 t)) (g0 L (plc 6 t))), wd ((g0 L (plc 7 t) + bg1 (g0 L (plc 4 t))) + pck (g0 L (plc 4 t)) (g0 L (plc 5 t)) (g0 L (plc 6 t))), wd x, wd (((g0 L (plc 7 t) + bg1 (g0 L (plc 4 t))) + pck (g0 L (plc 4 t)) (g0 L (plc 5 t)) (g0 L (plc 6 t))) + x), .pointer (some ⟨g, 0, none⟩), .int .i64 ((t : Nat) : Int), .int .i64 ((plc 3 t : Nat) : Int), .pointer (some ⟨g, 0, none⟩), .pointer (some ⟨g, 0 + (plc 3 t), none⟩), wd (g0 L (plc 3 t)), wd (((g0 L (plc 7 t) + bg1 (g0 L (plc 4 t))) + pck (g0 L (plc 4 t)) (g0 L (plc 5 t)) (g0 L (plc 6 t))) + x), wd (g0 L (plc 3 t) + (((g0 L (plc 7 t) + bg1 (g0 L (plc 4 t))) + pck (g0 L (plc 4 t)) (g0 L (plc 5 t)) (g0 L (plc 6 t))) + x)), .pointer (some ⟨g, 0, none⟩), .pointer (some ⟨g, 0 + (plc 3 t), none⟩), .pointer (some ⟨g, 0, none⟩), .int .i64 ((t : Nat) : Int), .int .i64 ((plc 7 t : Nat) : Int), wd (((g0 L (plc 7 t) + bg1 (g0 L (plc 4 t))) + pck (g0 L (plc 4 t)) (g0 L (plc 5 t)) (g0 L (plc 6 t))) + x), .agg (mixC 2 13 95 22).toArray, wd (g0 L (plc 0 t)), wd (bg0 (g0 L (plc 0 t))), wd ((((g0 L (plc 7 t) + bg1 (g0 L (plc 4 t))) + pck (g0 L (plc 4 t)) (g0 L (plc 5 t)) (g0 L (plc 6 t))) + x) + bg0 (g0 L (plc 0 t))), wd (g0 L (plc 0 t)), wd (g0 L (plc 1 t)), wd (g0 L (plc 2 t)), wd (mst (g0 L (plc 0 t)) (g0 L (plc 1 t)) (g0 L (plc 2 t))), wd (((((g0 L (plc 7 t) + bg1 (g0 L (plc 4 t))) + pck (g0 L (plc 4 t)) (g0 L (plc 5 t)) (g0 L (plc 6 t))) + x) + bg0 (g0 L (plc 0 t))) + mst (g0 L (plc 0 t)) (g0 L (plc 1 t)) (g0 L (plc 2 t))), .pointer (some ⟨g, 0, none⟩), .pointer (some ⟨g, 0 + (plc 7 t), none⟩)] 91 [0, 1, 2, 3, 4, 5, 6, 7, 8, 9, 10, 11, 12, 13, 14, 15, 16, 17, 18, 19, 20, 21, 22, 23, 24, 25, 26, 27, 28, 29, 30, 31, 32, 33, 34, 35, 36, 37, 38, 39, 40, 41, 42, 43, 44, 45, 46, 47, 48, 49, 50, 51, 52, 53, 54, 55, 56, 57, 58, 59, 60, 61, 62, 63, 64, 65, 66, 67, 68, 69, 70, 71, 72, 73, 74, 75]
            (Sto 15 (fun v => Mod [] w4.drew v) (fun v => Holds v g 129 (((L.set (plc 3 t) (g0 L (plc 3 t) + (((g0 L (plc 7 t) + bg1 (g0 L (plc 4 t))) + pck (g0 L (plc 4 t)) (g0 L (plc 5 t)) (g0 L (plc 6 t))) + x))).set (plc 7 t) (((((g0 L (plc 7 t) + bg1 (g0 L (plc 4 t))) + pck (g0 L (plc 4 t)) (g0 L (plc 5 t)) (g0 L (plc 6 t))) + x) + bg0 (g0 L (plc 0 t))) + mst (g0 L (plc 0 t)) (g0 L (plc 1 t)) (g0 L (plc 2 t)))).map wd) ∧ Mod [g] w4.drew v)) []
            (by kernel_rfl) rfl rfl rfl rfl (Sto.start (Mod.refl _ _)) (by kernel_rfl) (by kernel_rfl) ?step ?fin
          case step =>
            intro l T v j o hj hlj hdep hst hpar hgot hcl K hK
            have hjn : j < 16 := (Array.getElem?_eq_some_iff.1 hj).1
            have hq := fun h => Sto.now (j := j) hst hlj h
            obtain rfl | rfl | rfl | rfl | rfl | rfl | rfl | rfl | rfl | rfl | rfl | rfl | rfl | rfl | rfl | rfl : j = 0 ∨ j = 1 ∨ j = 2 ∨ j = 3 ∨ j = 4 ∨ j = 5 ∨ j = 6 ∨ j = 7 ∨ j = 8 ∨ j = 9 ∨ j = 10 ∨ j = 11 ∨ j = 12 ∨ j = 13 ∨ j = 14 ∨ j = 15 := by omega
            all_goals (have hj' := Option.some.inj (hj : some _ = some o); subst hj'; clear hj)
            · exact wp_ran rfl (exec_move rfl (eval_tmp (hpar 0 (by simp)))) (hK _ _ (fun s hs => by cases hs; rfl) (Sto.keep (hq (by decide)) (by decide) (hq (by decide)).2))
            · exact wp_ran rfl (exec_move rfl (eval_tmp (hpar 1 (by simp)))) (hK _ _ (fun s hs => by cases hs; rfl) (Sto.keep (hq (by decide)) (by decide) (hq (by decide)).2))
            · exact wp_called rfl (exec_call2 rfl rfl rfl (eval_tmp (hgot 1 _ 77 rfl (hdep ⟨1, .data⟩ (by simp) rfl) rfl)) (enters_of Tryd.func87 (by kernel_rfl) rfl)) ((place_c 7 t (by decide) HP.out.2.2.2 _).mono (fun e v' hh => ⟨_, hh.1, hK _ _ (fun s hs => by cases hs; rfl) (by rw [hh.2]; exact Sto.keep (hq (by decide)) (by decide) (hq (by decide)).2)⟩))
            · exact wp_ran rfl (exec_move rfl (eval_tmp (hpar 12 (by simp)))) (hK _ _ (fun s hs => by cases hs; rfl) (Sto.keep (hq (by decide)) (by decide) (hq (by decide)).2))
            · exact wp_called rfl (exec_call0 rfl rfl (enters_of Tryd.func91 (by kernel_rfl) rfl)) ((big0_c _).mono (fun e v' hh => ⟨_, hh.1, hK _ _ (fun s hs => by cases hs; rfl) (Sto.keep (hq (by decide)) (by decide) ((hq (by decide)).2.then hh.2))⟩))
            · exact wp_ran rfl (exec_move rfl (eval_tmp (hpar 6 (by simp)))) (hK _ _ (fun s hs => by cases hs; rfl) (Sto.keep (hq (by decide)) (by decide) (hq (by decide)).2))
            · exact wp_called rfl (exec_call2 rfl rfl (eval_tmp (hgot 4 _ 80 rfl (hdep ⟨4, .data⟩ (by simp) rfl) rfl)) (eval_tmp (hgot 5 _ 81 rfl (hdep ⟨5, .data⟩ (by simp) rfl) rfl)) (enters_of Tryd.func89 (by kernel_rfl) rfl)) ((big0_of _ _).mono (fun e v' hh => ⟨_, hh.1, hK _ _ (fun s hs => by cases hs; rfl) (Sto.keep (hq (by decide)) (by decide) ((hq (by decide)).2.then hh.2))⟩))
            · exact wp_ran rfl (exec_add rfl (eval_tmp (hgot 3 _ 79 rfl (hdep ⟨3, .data⟩ (by simp) rfl) rfl)) (eval_tmp (hgot 6 _ 82 rfl (hdep ⟨6, .data⟩ (by simp) rfl) rfl)) (add_wd _ _)) (hK _ _ (fun s hs => by cases hs; rfl) (Sto.keep (hq (by decide)) (by decide) (hq (by decide)).2))
            · exact wp_ran rfl (exec_move rfl (eval_tmp (hpar 6 (by simp)))) (hK _ _ (fun s hs => by cases hs; rfl) (Sto.keep (hq (by decide)) (by decide) (hq (by decide)).2))
            · exact wp_ran rfl (exec_move rfl (eval_tmp (hpar 7 (by simp)))) (hK _ _ (fun s hs => by cases hs; rfl) (Sto.keep (hq (by decide)) (by decide) (hq (by decide)).2))
            · exact wp_ran rfl (exec_move rfl (eval_tmp (hpar 8 (by simp)))) (hK _ _ (fun s hs => by cases hs; rfl) (Sto.keep (hq (by decide)) (by decide) (hq (by decide)).2))
            · exact wp_called rfl (exec_call3 rfl rfl (eval_tmp (hgot 8 _ 84 rfl (hdep ⟨8, .data⟩ (by simp) rfl) rfl)) (eval_tmp (hgot 9 _ 85 rfl (hdep ⟨9, .data⟩ (by simp) rfl) rfl)) (eval_tmp (hgot 10 _ 86 rfl (hdep ⟨10, .data⟩ (by simp) rfl) rfl)) (enters_of Tryd.func92 (by kernel_rfl) rfl)) ((most_c _ _ _ _).mono (fun e v' hh => ⟨_, hh.1, hK _ _ (fun s hs => by cases hs; rfl) (by rw [hh.2]; exact Sto.keep (hq (by decide)) (by decide) (hq (by decide)).2)⟩))
            · exact wp_ran rfl (exec_add rfl (eval_tmp (hgot 7 _ 83 rfl (hdep ⟨7, .data⟩ (by simp) rfl) rfl)) (eval_tmp (hgot 11 _ 87 rfl (hdep ⟨11, .data⟩ (by simp) rfl) rfl)) (add_wd _ _)) (hK _ _ (fun s hs => by cases hs; rfl) (Sto.keep (hq (by decide)) (by decide) (hq (by decide)).2))
            · exact wp_ran rfl (exec_nil rfl (eval_tmp (hgot 0 _ 76 rfl (hdep ⟨0, .data⟩ (by simp) rfl) rfl))) (hK _ _ (fun s hs => by cases hs; rfl) (Sto.keep (hq (by decide)) (by decide) (hq (by decide)).2))
            · exact wp_ran rfl (exec_at Tryd.underlying129 info55 (HP.out.2.1 _) rfl (eval_tmp (hgot 13 _ 89 rfl (hdep ⟨13, .data⟩ (by simp) rfl) rfl)) (eval_tmp (hgot 2 _ 78 rfl (hdep ⟨2, .data⟩ (by simp) rfl) rfl))) (hK _ _ (fun s hs => by cases hs; rfl) (Sto.keep (hq (by decide)) (by decide) (hq (by decide)).2))
            · exact wp_ran_skip rfl (exec_word (z := ((((g0 L (plc 7 t) + bg1 (g0 L (plc 4 t))) + pck (g0 L (plc 4 t)) (g0 L (plc 5 t)) (g0 L (plc 6 t))) + x) + bg0 (g0 L (plc 0 t))) + mst (g0 L (plc 0 t)) (g0 L (plc 1 t)) (g0 L (plc 2 t))) rfl (eval_tmp (hgot 14 _ 90 rfl (hdep ⟨14, .data⟩ (by simp) rfl) rfl)) (eval_tmp (hgot 12 _ 88 rfl (hdep ⟨12, .data⟩ (by simp) rfl) rfl)) (D4.keep (hq (by decide)).2 (by simp)) (by rw [List.length_set]; exact HP.out.1 _)) (hK _ _ (fun s hs => by cases hs) (Sto.done (reach_all (by kernel_rfl) hcl rfl hdep) ⟨word_set (D4.keep (hq (by decide)).2 (by simp)) _ _, (hq (by decide)).2.pre (Mod.setCell _ (by simp) _)⟩))
          case fin =>
            intro l v hl hst
            obtain ⟨D5, hst⟩ := Sto.fin hst hl (by decide)
            have m4 : Mod [g] w v := m3.trans hst.drewed (fun i _ h => h)
            clear hst hl m3
            dsimp only
            go_wp2_with fail
            go_end0
            exact ⟨rfl, D5, m4⟩
end Sh
end
section
namespace Sh
open Go.RowKit
theorem g0_get (l : List UInt32) (k : Nat) (h : k < l.length) : g0 l k = l[k] := by simp [g0, h]
theorem g0_of (l m : List UInt32) (i j : Nat) (h : l[i]? = m[j]?) : g0 l i = g0 m j := by unfold g0; rw [List.getD_eq_getElem?_getD, List.getD_eq_getElem?_getD, h]
theorem more_g0 (f : List UInt32) (n m i : Nat) (hn : n ≤ m) (hi : i < f.length + n) : g0 (more f n) i = g0 (more f m) i := by
  obtain ⟨k, rfl⟩ : ∃ k, m = n + k := ⟨m - n, by omega⟩
  exact g0_of _ _ _ _ (more_keep f n k i hi).symm
theorem more_next (f : List UInt32) (hf : f.length = 16) (t : Nat) (h1 : 16 ≤ t) (h2 : t < 64) :
    g0 (more f 48) t = sm1 (g0 (more f 48) (t - 2)) + g0 (more f 48) (t - 7) + sm0 (g0 (more f 48) (t - 15)) + g0 (more f 48) (t - 16) := by
  obtain ⟨n, rfl⟩ : ∃ n, t = 16 + n := ⟨t - 16, by omega⟩
  have hl : (more f n).length = 16 + n := by rw [more_length, hf]
  have e1 : g0 (more f 48) (16 + n) = nxt (more f n) := by
    rw [← more_g0 f (n + 1) 48 (16 + n) (by omega) (by omega)]
    unfold g0
    rw [List.getD_eq_getElem?_getD]
    simp only [more]
    rw [List.getElem?_append_right (by omega), hl]
    simp
  rw [e1]
  unfold nxt
  rw [hl]
  rw [more_g0 f n 48 _ (by omega) (by omega : 16 + n - 2 < _), more_g0 f n 48 _ (by omega) (by omega : 16 + n - 7 < _), more_g0 f n 48 _ (by omega) (by omega : 16 + n - 15 < _), more_g0 f n 48 _ (by omega) (by omega : 16 + n - 16 < _)]
/-- The ring, ahead of the t-th word. -/
structure Ring (f : List UInt32) (t : Nat) (R : List UInt32) : Prop where
  len : R.length = 16
  at_ : ∀ j, j < max t 16 → max t 16 ≤ j + 16 → g0 R (j % 16) = g0 (more f 48) j
def ringW (t : Nat) (R : List UInt32) : UInt32 := if t < 16 then g0 R t else g0 R (t % 16) + (sm1 (g0 R ((t - 2) % 16)) + g0 R ((t - 7) % 16) + sm0 (g0 R ((t - 15) % 16)))
def ringL (t : Nat) (R : List UInt32) : List UInt32 := if t < 16 then R else R.set (t % 16) (ringW t R)
theorem Ring.start (f : List UInt32) (hf : f.length = 16) : Ring f 0 f := ⟨hf, fun j h1 h2 => by
  have : max 0 16 = 16 := rfl
  rw [this] at h1
  rw [Nat.mod_eq_of_lt h1]
  exact more_g0 f 0 48 j (by omega) (by omega)⟩
theorem Ring.word {f : List UInt32} {t : Nat} {R : List UInt32} (h : Ring f t R) (hf : f.length = 16) (ht : t < 64) : ringW t R = g0 (more f 48) t := by
  unfold ringW
  split
  · rename_i h16
    have := h.at_ t (by omega) (by omega)
    rwa [Nat.mod_eq_of_lt h16] at this
  · rename_i h16
    have e0 := h.at_ (t - 16) (by omega) (by omega)
    rw [show (t - 16) % 16 = t % 16 by omega] at e0
    rw [e0, h.at_ (t - 2) (by omega) (by omega), h.at_ (t - 7) (by omega) (by omega), h.at_ (t - 15) (by omega) (by omega), more_next f hf t (by omega) ht, UInt32.add_comm]
theorem Ring.next {f : List UInt32} {t : Nat} {R : List UInt32} (h : Ring f t R) (hf : f.length = 16) (ht : t < 64) : Ring f (t + 1) (ringL t R) := by
  have hw := h.word hf ht
  unfold ringL
  split
  · rename_i h16
    refine ⟨h.len, fun j h1 h2 => h.at_ j (by omega) (by omega)⟩
  · rename_i h16
    refine ⟨by rw [List.length_set]; exact h.len, fun j h1 h2 => ?_⟩
    by_cases hj : j = t
    · subst hj
      rw [g0_set _ _ _ (by rw [h.len]; omega), hw]
    · have hne : t % 16 ≠ j % 16 := by omega
      rw [← h.at_ j (by omega) (by omega)]
      exact g0_of _ _ _ _ (by rw [List.getElem?_set_ne hne])
theorem word_c (g t : Nat) (L : List UInt32) (w : World) (hL : L.length = 16) (ht : t < 64) (D0 : Holds w g 131 (L.map wd)) :
    Calls Tryd.prog 85 #[.pointer (some ⟨g, 0, none⟩), .int .i64 (t : Int)] w fun e w' => e = .returned (wd (ringW t L)) ∧ Holds w' g 131 ((ringL t L).map wd) ∧ Mod [g] w w' := by
  unfold ringL ringW
  by_cases h : t < 16
  · rw [if_pos h, if_pos h]
    exact (word_lo g t L w hL h D0).mono fun e w' ⟨h1, h2⟩ => ⟨h1, by rw [h2]; exact D0, by rw [h2]; exact Mod.refl _ _⟩
  · rw [if_neg h, if_neg h]
    exact word_hi g t L w hL (by omega) ht D0
/-- The eight numbers, ahead of the t-th step. -/
structure Eight (h xs : List UInt32) (t : Nat) (L : List UInt32) : Prop where
  len : L.length = 8
  at_ : ∀ k, k < 8 → g0 L (plc k t) = g0 (steps h (xs.take t)) k
theorem Eight.start (h xs : List UInt32) (hh : h.length = 8) : Eight h xs 0 h := ⟨hh, fun k hk => by
  have : plc k 0 = k := by unfold plc; omega
  rw [this]; rfl⟩
theorem stepL_length (t : Nat) (x : UInt32) (L : List UInt32) : (stepL t x L).length = L.length := by unfold stepL; simp
theorem g0_set_ne (L : List UInt32) (i j : Nat) (y : UInt32) (h : i ≠ j) : g0 (L.set i y) j = g0 L j := g0_of _ _ _ _ (by rw [List.getElem?_set_ne h])
theorem Eight.next {h xs : List UInt32} {t : Nat} {L : List UInt32} (E : Eight h xs t L) (ht : t < xs.length) : Eight h xs (t + 1) (stepL t (g0 xs t) L) := by
  refine ⟨by rw [stepL_length]; exact E.len, fun k hk => ?_⟩
  have hx : xs.take (t + 1) = xs.take t ++ [g0 xs t] := by rw [List.take_succ_eq_append_getElem ht, g0_get xs t ht]
  rw [hx, steps_snoc]
  have a0 := E.at_ 0 (by omega)
  have a1 := E.at_ 1 (by omega)
  have a2 := E.at_ 2 (by omega)
  have a3 := E.at_ 3 (by omega)
  have a4 := E.at_ 4 (by omega)
  have a5 := E.at_ 5 (by omega)
  have a6 := E.at_ 6 (by omega)
  have a7 := E.at_ 7 (by omega)
  have hl := E.len
  unfold stepL
  rw [a0, a1, a2, a3, a4, a5, a6, a7]
  generalize steps h (xs.take t) = r at *
  have p : ∀ k, plc k t < 8 := fun k => by unfold plc; omega
  have h37 : plc 3 t ≠ plc 7 t := by unfold plc; omega
  obtain rfl | rfl | rfl | rfl | rfl | rfl | rfl | rfl : k = 0 ∨ k = 1 ∨ k = 2 ∨ k = 3 ∨ k = 4 ∨ k = 5 ∨ k = 6 ∨ k = 7 := by omega
  · rw [show plc 0 (t + 1) = plc 7 t by unfold plc; omega, g0_set _ _ _ (by rw [List.length_set, hl]; exact p 7)]; rfl
  · rw [show plc 1 (t + 1) = plc 0 t by unfold plc; omega, g0_set_ne _ _ _ _ (by unfold plc; omega), g0_set_ne _ _ _ _ (by unfold plc; omega), a0]; rfl
  · rw [show plc 2 (t + 1) = plc 1 t by unfold plc; omega, g0_set_ne _ _ _ _ (by unfold plc; omega), g0_set_ne _ _ _ _ (by unfold plc; omega), a1]; rfl
  · rw [show plc 3 (t + 1) = plc 2 t by unfold plc; omega, g0_set_ne _ _ _ _ (by unfold plc; omega), g0_set_ne _ _ _ _ (by unfold plc; omega), a2]; rfl
  · rw [show plc 4 (t + 1) = plc 3 t by unfold plc; omega, g0_set_ne _ _ _ _ h37.symm, g0_set _ _ _ (by rw [hl]; exact p 3)]; rfl
  · rw [show plc 5 (t + 1) = plc 4 t by unfold plc; omega, g0_set_ne _ _ _ _ (by unfold plc; omega), g0_set_ne _ _ _ _ (by unfold plc; omega), a4]; rfl
  · rw [show plc 6 (t + 1) = plc 5 t by unfold plc; omega, g0_set_ne _ _ _ _ (by unfold plc; omega), g0_set_ne _ _ _ _ (by unfold plc; omega), a5]; rfl
  · rw [show plc 7 (t + 1) = plc 6 t by unfold plc; omega, g0_set_ne _ _ _ _ (by unfold plc; omega), g0_set_ne _ _ _ _ (by unfold plc; omega), a6]; rfl
theorem sums_length (c f : List UInt32) (hc : c.length = 64) (hf : f.length = 16) : (sums c f).length = 64 := by simp [sums, more_length, hc, hf]
theorem sums_at (c f : List UInt32) (t : Nat) (hc : c.length = 64) (hf : f.length = 16) (ht : t < 64) : g0 (sums c f) t = g0 c t + g0 (more f 48) t := by
  rw [g0_get _ _ (by rw [sums_length c f hc hf]; exact ht), g0_get _ _ (by omega), g0_get _ _ (by rw [more_length]; omega)]
  simp [sums]
/-- So many of the eight are added. -/
structure Added (h r : List UInt32) (k : Nat) (H : List UInt32) : Prop where
  len : H.length = 8
  at_ : ∀ i, i < 8 → g0 H i = if i < k then g0 h i + g0 r i else g0 h i
theorem Added.start (h r : List UInt32) (hh : h.length = 8) : Added h r 0 h := ⟨hh, fun i _ => by rw [if_neg (by omega)]⟩
theorem Added.next {h r : List UInt32} {k : Nat} {H : List UInt32} (A : Added h r k H) (hk : k < 8) : Added h r (k + 1) (H.set k (g0 H k + g0 r k)) := by
  refine ⟨by rw [List.length_set]; exact A.len, fun i hi => ?_⟩
  by_cases hik : i = k
  · subst hik
    rw [g0_set _ _ _ (by rw [A.len]; exact hi), if_pos (by omega), A.at_ i hi, if_neg (by omega)]
  · rw [g0_set_ne _ _ _ _ (Ne.symm hik), A.at_ i hi]
    by_cases hlt : i < k
    · rw [if_pos hlt, if_pos (by omega)]
    · rw [if_neg hlt, if_neg (by omega)]
theorem Added.all {h r H : List UInt32} (A : Added h r 8 H) (hh : h.length = 8) (hr : r.length = 8) : H = List.zipWith (· + ·) h r := by
  apply List.ext_getElem
  · simp [A.len, hh, hr]
  · intro i h1 h2
    have := A.at_ i (by rw [← A.len]; exact h1)
    rw [if_pos (by rw [A.len] at h1; exact h1), g0_get _ _ h1, g0_get _ _ (by rw [A.len] at h1; omega), g0_get _ _ (by rw [A.len] at h1; omega)] at this
    simp [this]
end Sh
end
end Go.Proofs.YtcoedhemlghjoaaDoor
