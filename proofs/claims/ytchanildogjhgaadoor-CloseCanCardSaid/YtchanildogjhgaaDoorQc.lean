/-
  The document's all (ref 07). My own work.
-/
import Derived.Test.YtchanildogjhgaaDoorQb
namespace Go.Proofs.YtchanildogjhgaaDoor
open Go.RowKit Go.Shelf
set_option linter.unusedVariables false
set_option linter.unusedSimpArgs false
theorem bools_cell {w : World} {b : Nat} {cb : List Bool} (h : Holds w b 4 (cb.map Value.bool)) {i : Nat} (hi : i < cb.length) {v : Bool} (hv : Tm.gB cb i = v) : w.cell? ⟨b, i, none⟩ = some (.bool v) := by
  have := h.cell i
  rw [this, List.getElem?_map, List.getElem?_eq_getElem hi]
  unfold Tm.gB at hv
  rw [List.getD_eq_getElem?_getD, List.getElem?_eq_getElem hi] at hv
  subst hv
  rfl
theorem allC_snoc (L : List Tm) (cb : List Bool) (ks : List Tm) (j : Nat) (hj : j < ks.length) : Tm.allC L cb (ks.take (j + 1)) = (Tm.allC L cb (ks.take j) && Tm.gB cb (Tm.idx L ks[j])) := by
  unfold Tm.allC
  rw [List.take_succ_eq_append_getElem hj, List.all_append]
  simp
theorem allC_false (L : List Tm) (cb : List Bool) (ks : List Tm) (j : Nat) (hj : j < ks.length) (h : Tm.gB cb (Tm.idx L ks[j]) = false) : Tm.allC L cb ks = false := by
  unfold Tm.allC
  rw [List.all_eq_false]
  exact ⟨ks[j], List.getElem_mem hj, by rw [h]; simp⟩
set_option maxRecDepth 100000 in
set_option maxHeartbeats 4000000 in
theorem rall_c (A : Option Addr) (n c : Nat) (vs : List (List Value)) (L : List Tm) (S : Nat → Prop) (bc cc : Nat) (cb : List Bool) (ct : List Value) (t : Tm) (St : Nat → Prop) (w : World) (hn : n = L.length) (hb : n < 1000000) (hR : RowT w S A vs L) (hC : Holds w bc 4 (cb.map Value.bool)) (hcl : cb.length = n) (hT : TIs w St t ct) (hok : t.ok = true) (hk : ∀ k ∈ t.kids, k ∈ L) :
    Calls Tryd.prog 88 #[.slice A n c, .slice (some ⟨bc, 0, none⟩) n cc, .agg ct.toArray] w fun e w' => e = .returned (.bool (Tm.allC L cb t.kids)) ∧ Mod [] w w' := by
  have hkk := Tm.kids_kind hok
  obtain ⟨kd, u, nm, s, ks⟩ := t
  obtain ⟨K, cap, vs', rfl, hrow, hkc, hcm, hk9, hs9⟩ := hT.row
  obtain ⟨kn, hkn⟩ : ∃ k, k = ks.length := ⟨_, rfl⟩
  have hkb : kn ≤ 2 := by
    have h1 : ks.length = Tm.nk kd := hkk.1
    rw [hkn, h1]
    unfold Tm.nk
    split
    · omega
    · split <;> omega
  rw [← hkn]
  obtain ⟨r, hr⟩ : ∃ r, r = Tm.allC L cb ks := ⟨_, rfl⟩
  rw [show (Tm.mk kd u nm s ks).kids = ks from rfl, ← hr]
  have HRR := Lib.hid hr
  have HKN := Lib.hid hkn
  have HN := Lib.hid hn
  have HCL := Lib.hid hcl
  have HX := Lib.hid (And.intro hR (And.intro hC (And.intro hrow hk)))
  clear hkk hT hrow hkc hcm hk9 hs9 hkn hr hn hR hC hcl hk hok
  go_enter Tryd.func88, Tryd.ntmps88
  go_wp2_with (first
    | (with_reducible refine wpList_boxes (o := ⟨some 5, .box 24 (.tmp 2), _, _, _, _⟩) rfl 24 (.tmp 2) rfl _ rfl (tmc kd u nm s K kn cap) rfl ?_; intro w1 h5 mm z1
       obtain ⟨b5, hq5⟩ : ∃ q, q = w.heap.size := ⟨_, rfl⟩
       rw [← hq5] at h5 ⊢
       clear z1 hq5))
  have H5 := Lib.hid h5
  have M1 := Lib.hid mm
  clear mm h5
  go_loopw [7] (fun i wi => ∃ j : Nat, i = .int .i64 (j : Int) ∧ j ≤ kn ∧ Hid (Tm.allC L cb (ks.take j) = true) ∧ Mod [] w1 wi) (fun i _ => kn - (intOf i).toNat)
  case atStart => exact ⟨0, rfl, Nat.zero_le _, Lib.hid rfl, Mod.refl _ _⟩
  case round =>
    obtain ⟨j, rfl, hj, hja, mm⟩ := hrel
    have e4 := (H5.out.keep mm (by simp)).cell 4
    simp only [tmc, List.getElem?_cons_succ, List.getElem?_cons_zero] at e4
    by_cases hjk : j < kn
    · have hjZ : (j : Int) < (kn : Int) := by omega
      have hjl : j < ks.length := by rw [← HKN.out]; exact hjk
      obtain ⟨g, oo, cs, hA, hC, hTj, h5c, _⟩ := (HX.out.2.2.1.keep (M1.out.then mm) (fun _ _ => by simp)).elem j hjl
      subst hA
      have hin : ks[j] ∈ L := HX.out.2.2.2 ks[j] (List.getElem_mem hjl)
      obtain ⟨ix, hix⟩ : ∃ i, i = Tm.idx L ks[j] := ⟨_, rfl⟩
      have hixn : ix < n := by rw [HN.out, hix]; exact Tm.idx_lt hin
      have hixZ : (ix : Int) < (n : Int) := by omega
      obtain ⟨b, hb9⟩ : ∃ b, b = Tm.gB cb ix := ⟨_, rfl⟩
      have HS := Lib.hid (allC_snoc L cb ks j hjl)
      have HF := Lib.hid (allC_false L cb ks j hjl)
      have hcall : ∀ v, Mod [] wr v → Calls Tryd.prog 65 #[.slice A n c, .agg cs.toArray] v fun e w' => e = .returned (.int .i64 (ix : Int)) ∧ Mod [] v w' := fun v mv => by
        have := rhas_c A n c vs L S cs ks[j] St v HN.out hb (HX.out.1.keep ((M1.out.then mm).then mv) (fun _ _ => by simp)) (hTj.keep mv (fun _ _ => by simp))
        rwa [hasI_in hin, ← hix] at this
      have HCA := Lib.hid hcall
      have HIX := Lib.hid (And.intro hix hb9)
      have HJ := Lib.hid hjk
      clear hcall hix hb9 hin hTj hixn
      cases b with
      | true =>
        go_wp2_with (first
          | (with_reducible refine wpList_loads (o := ⟨some 21, .load 24 (.tmp 20), _, _, _, _⟩) rfl 24 (.tmp 20) rfl g (oo + j * 5) cs rfl hC _ Tryd.underlying24 rfl (size24' h5c) (.agg cs.toArray) rfl ?_)
          | (go_at_call 65
             with_reducible refine Calls.mono (HCA.out wr (Mod.refl _ _)) ?_
             rintro e w7 ⟨rfl, m7⟩
             have ec := bools_cell (HX.out.2.1.keep ((M1.out.then mm).then m7) (by simp)) (i := ix) (by rw [HCL.out]; omega) HIX.out.2.symm))
        exact ⟨⟨j + 1, by go_num, by have := HJ.out; omega, Lib.hid (by rw [HS.out, hja.out, ← HIX.out.1, ← HIX.out.2]; rfl), mm.then m7⟩, by have := HJ.out; simp [intOf]; omega⟩
      | false =>
        have hrf : r = false := by rw [HRR.out]; exact HF.out (by rw [← HIX.out.1, ← HIX.out.2])
        subst hrf
        go_wp2_with (first
          | (with_reducible refine wpList_loads (o := ⟨some 21, .load 24 (.tmp 20), _, _, _, _⟩) rfl 24 (.tmp 20) rfl g (oo + j * 5) cs rfl hC _ Tryd.underlying24 rfl (size24' h5c) (.agg cs.toArray) rfl ?_)
          | (go_at_call 65
             with_reducible refine Calls.mono (HCA.out wr (Mod.refl _ _)) ?_
             rintro e w7 ⟨rfl, m7⟩
             have ec := bools_cell (HX.out.2.1.keep ((M1.out.then mm).then m7) (by simp)) (i := ix) (by rw [HCL.out]; omega) HIX.out.2.symm))
        go_ret
        exact ⟨rfl, (M1.out.then mm).then m7⟩
    · have hjZ : ¬ (j : Int) < (kn : Int) := by omega
      have hrt : r = true := by
        rw [HRR.out, ← hja.out, List.take_of_length_le (by have := HKN.out; omega)]
      subst hrt
      go_wp2_with fail
      go_ret
      exact ⟨rfl, M1.out.then mm⟩
end Go.Proofs.YtchanildogjhgaaDoor

