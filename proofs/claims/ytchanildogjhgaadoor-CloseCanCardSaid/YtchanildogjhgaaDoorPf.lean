/-
  Parts and Atoms. My own work.
-/
import Derived.Test.YtchanildogjhgaaDoorPe
namespace Go.Proofs.YtchanildogjhgaaDoor
section
open Go.RowKit Go.Shelf
attribute [local go_sem] Oper.semAt_some
set_option linter.unusedVariables false
set_option linter.unusedSimpArgs false
set_option maxRecDepth 1000000 in
set_option maxHeartbeats 4000000 in
theorem says81 : Says 81 (fun _ => true) := by
  intro t cs S w hT
  have F0 := Fm.nil w
  clear hT
  go_enter Tryd.func81, Tryd.ntmps81
  go_wp2_with (first
    | (with_reducible refine fm_box F0 (o := ⟨some 1, .box 24 (.tmp 0), _, _, _, _⟩) rfl 24 (.tmp 0) rfl cs rfl ?_; intro b w1 F1; clear F0))
  go_ret
  exact ⟨rfl, F1.m⟩
def PartsQ (w : World) (K : List Tm) (P : Tm → Bool) (R m : Nat) (vs' : List (List Value)) (l : List Tm) (w' : World) : Prop := (m = l.length ∧ m ≤ 10000) ∧ UpT l ∧ l.Nodup ∧ (∀ t, t ∈ l ↔ Tm.Gk K true t ∧ P t = true) ∧ RowT w' (Btw w.heap.size w'.heap.size) (some ⟨R, 0, none⟩) vs' l ∧ Mod [] w w'
def PartsR (w : World) (K : List Tm) (P : Tm → Bool) (e : Ending) (w' : World) : Prop := ∃ R m vs' l, e = .returned (.tuple #[.slice (some ⟨R, 0, none⟩) m m, .int .i64 0]) ∧ PartsQ w K P R m vs' l w'
set_option maxRecDepth 1000000 in
set_option maxHeartbeats 4000000 in
theorem parts_ok (A : Option Addr) (n c : Nat) (vs : List (List Value)) (K : List Tm) (S : Nat → Prop) (w : World) (hl : n = K.length) (hR : RowT w S A vs K) (hS : ∀ g, S g → g < w.heap.size) (G : Glob w) (hz : rfE K [] = 0) (hC : Tm.countAll K ≤ 4000) :
    Calls Tryd.prog 57 #[.slice A n c] w (PartsR w K fun _ => true) := by
  have PT : Calls Tryd.prog 66 #[.slice A n c, .func (.func 81) #[] #[]] w (PartsR w K fun _ => true) := partsThat_ok 81 (fun _ => true) (enters_of Tryd.func81 (by kernel_rfl) rfl) says81 A n c vs K S w hl hR hS G hz hC
  clear hl hR hS G hz hC
  go_enter Tryd.func57, Tryd.ntmps57
  go_wp2_with (go_at_call 66; refine PT.mono ?_; rintro e w' ⟨R, m, vs', l, rfl, q⟩; replace q := Lib.hid q; clear PT)
  refine bodyPost_ret (results_tmp2 rfl _ _ _) rfl ?_
  exact ⟨R, m, vs', l, rfl, q.out⟩
end
section
open Tm
set_option linter.unusedVariables false
set_option linter.unusedSimpArgs false
abbrev wkK : Tm := .mk 2 1 1 ⟨#[]⟩ []
abbrev wkN : Tm := .mk 2 1 2 ⟨#[]⟩ []
abbrev wkL : Tm := .mk 6 0 0 ⟨#[]⟩ [wkK, wkN]
theorem wk_shut : ∀ {b t}, Gk [wkL] b t → (b = true → t = wkL) ∧ (isAtomB t = true → False) := by
  intro b t h
  induction h with
  | known ht =>
    simp only [List.mem_cons, List.not_mem_nil, or_false] at ht
    subst ht
    exact ⟨fun _ => rfl, by simp [isAtomB, wkL, Tm.kind]⟩
  | @opened t m h1 h2 hm ih1 ih2 =>
    have e := ih1.1 rfl
    subst e
    exact ((ih2 wkK (by simp [keysT, wkL, Tm.kind, Tm.kids])).2 (by simp [isAtomB, wkK, Tm.kind])).elim
  | weak h1 ih => exact ⟨fun h => (by cases h), ih.2⟩
  | make h1 h2 ih => exact ⟨fun h => (by cases h), fun h => (by rw [h1] at h; cases h)⟩
theorem wk_no : ¬ Gk [wkL] false wkN := fun h => (wk_shut h).2 (by simp [isAtomB, wkN, Tm.kind])
theorem wk_open : Gk [wkL, wkK] true wkN := by
  refine .opened (t := wkL) (.known (by simp)) (fun k hk => ?_) (by simp [inside, wkL, Tm.kind, Tm.kids])
  have : k = wkK := by simpa [keysT, wkL, Tm.kind, Tm.kids] using hk
  subst this
  exact .weak (.known (by simp))
theorem wk_part : ∀ {b t}, Gk [wkL, wkK] b t → b = true → t ∈ [wkL, wkK, wkN] := by
  intro b t h
  induction h with
  | known ht => intro _; simp only [List.mem_cons, List.not_mem_nil, or_false] at ht ⊢; rcases ht with h | h <;> simp [h]
  | @opened t m h1 h2 hm ih1 ih2 =>
    intro _
    have := ih1 rfl
    simp only [List.mem_cons, List.not_mem_nil, or_false] at this
    rcases this with e | e | e <;> subst e <;> simp [inside, Tm.kind, Tm.kids] at hm
    subst hm; simp
  | weak h1 ih => intro h; cases h
  | make _ _ _ => intro h; cases h
theorem wk_parts {l : List Tm} (hd : l.Nodup) (h : ∀ t, t ∈ l ↔ Gk [wkL, wkK] true t ∧ (fun _ => true : Tm → Bool) t = true) : l.length = 3 := by
  have hn : [wkL, wkK, wkN].Nodup := by
    simp [List.Nodup]
  have : l.Perm [wkL, wkK, wkN] := (List.perm_ext_iff_of_nodup hd hn).2 fun t => by
    rw [h t]
    constructor
    · rintro ⟨h1, _⟩; exact wk_part h1 rfl
    · intro h1
      refine ⟨?_, rfl⟩
      simp only [List.mem_cons, List.not_mem_nil, or_false] at h1
      rcases h1 with e | e | e
      · subst e; exact .known (by simp)
      · subst e; exact .known (by simp)
      · subst e; exact wk_open
  rw [this.length_eq]; rfl
theorem wk_atom {U V : Int} (h1 : 1 ≤ U) (h2 : U ≤ 6) (h3 : 0 ≤ V) (h4 : V ≤ 65535) : (Tm.mk 2 U V ⟨#[]⟩ []).ok = true := by
  simp [Tm.ok, Tm.one, Tm.may, Tm.nk, Tm.okAll, Tm.hasU, Tm.hasT, Tm.hasN, h1, h2, h3, h4]
  rfl
theorem right_by {t : Tm} (h1 : t.ok = true) (h2 : t.depth ≤ 60) (h3 : t.count ≤ 1200) : t.right = true := by
  unfold Tm.right
  simp [h1, h2, h3]
theorem wk_right : wkL.right = true ∧ wkK.right = true ∧ wkN.right = true := by
  have a1 : wkK.ok = true := wk_atom (by omega) (by omega) (by omega) (by omega)
  have a2 : wkN.ok = true := wk_atom (by omega) (by omega) (by omega) (by omega)
  refine ⟨right_by ?_ ?_ ?_, right_by a1 ?_ ?_, right_by a2 ?_ ?_⟩
  · simp only [Tm.ok, Tm.okAll, a1, a2]
    simp [Tm.one, Tm.may, Tm.nk, Tm.hasU, Tm.hasT, Tm.hasN]
    rfl
  all_goals simp [Tm.depth, Tm.depthAll, Tm.count, Tm.countAll]
end
end Go.Proofs.YtchanildogjhgaaDoor

