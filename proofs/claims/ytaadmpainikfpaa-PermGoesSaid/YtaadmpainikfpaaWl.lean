/-
  take, begin; permissions of the call's own, as they are turned. My own work.
-/
import Derived.Test.YtaadmpainikfpaaWk
namespace Go.Proofs.Ytaadmpainikfpaa
open Go.RowKit Go.Shelf
attribute [local go_sem] Oper.semAt_some
set_option linter.unusedVariables false
set_option linter.unusedSimpArgs false
theorem set_same {α : Type} {l : List α} {i : Nat} {x : α} (h : l[i]? = some x) : l.set i x = l := by
  obtain ⟨h1, h2⟩ := List.getElem?_eq_some_iff.1 h
  rw [← h2, List.set_getElem_self]
set_option maxHeartbeats 4000000 in
theorem take_c {w0 w : World} {os ts : List Th} (F : Fm w0 w os ts) (i j k b : Nat) (A : Option Addr) (c n : Nat) (l : List Int) (x : Int) (cs : List Value) (hij : i ≠ j) (hi : os[i]? = some (oB b 24 cs)) (hj : os[j]? = some (oI A c l)) (hk : cs[k]? = some (.slice A n c)) (hn : n = l.length) (hb : n ≤ 900) (hu : l.Pairwise (· < ·)) (u : Bool) (hu2 : Hid (l.contains x = u)) :
    Calls Try.prog 43 #[.pointer (some ⟨b, k, none⟩), ci x] w (PutR w0 os ts i j k b cs (del l x) u) := by
  have hO := F.row j hj
  have hB : Holds w b 24 cs := F.blk i hi
  have hri := hO.ri n hn
  obtain ⟨p, hp⟩ : ∃ p, ahead l x = p := ⟨_, rfl⟩
  have hpl := ahead_le l x
  rw [hp] at hpl
  have hpu : u = true → p < n := fun h => by
    have := (del_up (x := x) hu (by have := hu2.out; rw [h] at this; simpa using this)).1
    omega
  have HP := Lib.hid hp
  have HI := Lib.hid hi
  have HJ := Lib.hid hj
  have HN := Lib.hid hn
  have HU := Lib.hid hu
  have HKS := Lib.hid hk
  have hkl : k < cs.length := (List.getElem?_eq_some_iff.1 hk).1
  have k0 : w.cell? ⟨b, k, none⟩ = some (.slice A n c) := (hB.cell k).trans hk
  have hpn : p ≤ n := by omega
  have HR := Lib.hid hri
  clear hp hi hj hn hu hpl hri hB hk
  cases u
  · clear hpu
    go_enter Try.func43, Try.ntmps43
    go_wp2_with (go_at_call 52; refine (bsearch_c A n c l x _ p _ HR.out HU.out (by omega) hu2 HP).mono ?_
                 rintro e w1 ⟨rfl, q, hq⟩
                 have m1 : Mod [] w w1 := hq ▸ Mod.drewN [] w q
                 have F1 := F.call m1
                 clear hq k0)
    go_ret
    refine ⟨rfl, A, c, ?_⟩
    have e1 : del l x = l := by rw [del, if_neg (by rw [hu2.out]; simp)]
    have e3 : cs.set k (.slice A l.length c) = cs := by rw [← HN.out]; exact set_same HKS.out
    rw [e1, e3, set_same HJ.out, set_same HI.out]
    exact F1
  · have hpn2 : p < n := hpu rfl
    clear hpu
    go_enter Try.func43, Try.ntmps43
    go_wp2_with (first
      | (go_at_call 52; refine (bsearch_c A n c l x _ p _ HR.out HU.out (by omega) hu2 HP).mono ?_
         rintro e w1 ⟨rfl, q, hq⟩
         have m1 : Mod [] w w1 := hq ▸ Mod.drewN [] w q
         have F1 := F.call m1
         have k1 : w1.cell? ⟨b, k, none⟩ = some (.slice A n c) := ((F1.blk i HI.out).cell k).trans HKS.out
         have DEL := delete_c A n c p l w1 (F1.row j HJ.out) HN.out hpn2
         clear hq k0)
      | (go_at_call 54; refine DEL.mono ?_
         rintro e w3 ⟨A', c', rfl, hO3, m3, hb3⟩
         have F3 := fm_rowTurn F1 j HJ.out m3 hO3 hb3
         have hi3 : (os.set j (oI A' c' (l.take p ++ l.drop (p + 1))))[i]? = some (oB b 24 cs) := by rw [List.getElem?_set_ne (fun h => hij h.symm)]; exact HI.out
         have HI3 := Lib.hid hi3
         clear DEL m3 hO3 hb3 F1 hi3)
      | (with_reducible refine fm_store1 F3 i k HI3.out hkl 22 (.slice A' (n - 1) c') rfl one22 (o := ⟨none, .store 22 (.tmp 24) (.tmp 23), _, _, _, _⟩) rfl (.tmp 24) (.tmp 23) rfl rfl rfl rfl ?_; intro w4 F4; clear F3))
    go_ret
    refine ⟨rfl, A', c', ?_⟩
    have e1 : del l x = l.take p ++ l.drop (p + 1) := by rw [del, if_pos hu2.out, HP.out]
    have e2 : (del l x).length = n - 1 := by
      rw [e1, List.length_append, List.length_take, List.length_drop]
      have := HN.out
      omega
    rw [e2, e1]
    exact F4
/-- The permissions that are turned: a box, and a row each. -/
def PO (w0 w : World) (b : Nat) (p : Pm) (os ts : List Th) : Prop :=
  ∃ A1 c1 A2 c2 A3 c3, Fm w0 w (oB b 24 (pmc p A1 c1 A2 c2 A3 c3) :: oI A1 c1 p.rd :: oI A2 c2 p.wr :: oI A3 c3 p.gp :: os) ts
theorem PO.rest {w0 w : World} {b : Nat} {p : Pm} {os ts : List Th} (h : PO w0 w b p os ts) : Fm w0 w os ts := by
  obtain ⟨A1, c1, A2, c2, A3, c3, F⟩ := h
  exact F.sub ((((List.sublist_cons_self _ _).trans (List.sublist_cons_self _ _)).trans (List.sublist_cons_self _ _)).trans (List.sublist_cons_self _ _)) (fun _ h => h)
theorem PO.m {w0 w : World} {b : Nat} {p : Pm} {os ts : List Th} (h : PO w0 w b p os ts) : Mod [] w0 w := h.rest.m
/-- What a change answers. -/
def ClR (r : Int × Pm) (w0 : World) (b : Nat) (os ts : List Th) (e : Ending) (w' : World) : Prop :=
  e = .returned (.int .i64 r.1) ∧ (r.1 = 0 → PO w0 w' b r.2 os ts) ∧ Fm w0 w' os ts
theorem Rises.len {l : List Int} {m : Int} (h : Rises l m) (hm : m ≤ 6) : l.length ≤ 6 := by
  have hs : setL l 0 false = l := by
    refine up_ext (setL_up _ _ _) h.up fun y => ?_
    rw [setL_mem]
    constructor
    · rintro ⟨_, h2⟩
      split at h2
      · cases h2
      · exact h2
    · intro hy
      have := h.within y hy
      rw [if_neg (by omega)]
      exact ⟨by omega, hy⟩
  rw [← hs]
  exact List.length_filter_le _ _
/-- begin. -/
theorem begin_c {w0 w : World} {b : Nat} {p : Pm} {os ts : List Th} (h : PO w0 w b p os ts) (h1 : 1 ≤ p.ep) (h8 : p.ep ≤ 8) : Calls Try.prog 44 #[.pointer (some ⟨b, 0, none⟩)] w (ClR (begun p) w0 b os ts) := by
  have HF := Lib.hid h.rest
  obtain ⟨A1, c1, A2, c2, A3, c3, F⟩ := h
  obtain ⟨o, e, l1, l2, l3⟩ := p
  simp only at h1 h8 F
  have k1 : w.cell? ⟨b, 1, none⟩ = some (ci e) := (F.blk 0 rfl).cell 1
  by_cases he : e = 8
  · subst he
    have hr : begun ⟨o, 8, l1, l2, l3⟩ = (212, zp) := rfl
    rw [hr]
    go_enter Try.func44, Try.ntmps44
    go_wp2_with fail
    go_ret
    exact ⟨rfl, fun h => by simp at h, HF.out⟩
  · have hr : begun ⟨o, e, l1, l2, l3⟩ = (0, ⟨o, e + 1, l1, l2, l3⟩) := by rw [begun, if_neg he]
    rw [hr]
    have e1 : (e == 8) = false := beq_eq_false_iff_ne.2 he
    clear he hr
    go_enter Try.func44, Try.ntmps44
    go_wp2_with (with_reducible refine fm_store1 F 0 1 rfl (by simp) 3 (ci (e + 1)) rfl one3 (o := ⟨none, .store 3 (.tmp 14) (.tmp 12), _, _, _, _⟩) rfl (.tmp 14) (.tmp 12) rfl rfl rfl rfl ?_; intro w4 F4; clear F)
    go_ret
    have hP : PO w0 w4 b ⟨o, e + 1, l1, l2, l3⟩ os ts := ⟨A1, c1, A2, c2, A3, c3, F4⟩
    exact ⟨rfl, fun _ => hP, hP.rest⟩
end Go.Proofs.Ytaadmpainikfpaa
