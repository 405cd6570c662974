/-
  The document's Set, whole, and Can (ref 07). My own work.
-/
import Derived.Test.YtchanildogjhgaaDoorQf
import Derived.Test.YtchanildogjhgaaDoorQg
import Derived.Test.YtchanildogjhgaaDoorQh
import Derived.Test.YtchanildogjhgaaDoorQi
import Derived.Test.YtchanildogjhgaaDoorQj
namespace Go.Proofs.YtchanildogjhgaaDoor
open Go.RowKit Go.Shelf
set_option linter.unusedVariables false
set_option linter.unusedSimpArgs false
theorem set_c (w : World) (A : Option Addr) (n c : Nat) (vs : List (List Value)) (K : List Tm) (S : Nat → Prop) (B : Option Addr) (nb d : Nat) (vb : List (List Value)) (T : List Tm) (Sb : Nat → Prop) (hn : n = K.length) (hnb : nb = T.length) (hR : RowT w S A vs K) (hB : RowT w Sb B vb T) (hS : ∀ g, S g → g < w.heap.size) (hSb : ∀ g, Sb g → g < w.heap.size) (hok : ∀ x, x ∈ K ∨ x ∈ T → x.ok = true) (hcnt : Tm.countAll K + Tm.countAll T ≤ 4000) : Calls Tryd.prog 64 #[.slice A n c, .slice B nb d] w (SetR w S A vs K Sb B vb T) :=
  setP.all ⟨bodyP.all ⟨body_1⟩ ⟨body_2⟩ ⟨body_3⟩ ⟨body_4⟩ ⟨body_5⟩ ⟨body_6⟩ ⟨body_7⟩ ⟨body_8⟩⟩ w A n c vs K S B nb d vb T Sb hn hnb hR hB hS hSb hok hcnt
theorem gB_rep (m i : Nat) : Tm.gB (List.replicate m false) i = false := by
  unfold Tm.gB
  rw [List.getD_eq_getElem?_getD]
  cases h : (List.replicate m false)[i]? with
  | none => rfl
  | some b =>
    have := List.mem_of_getElem? h
    rw [List.mem_replicate] at this
    rw [this.2]
    rfl
/-- What Set's answer tells. -/
theorem set_tells {L K : List Tm} {m : Nat} {cb pb : List Bool} (hC : Tm.Clo L ∧ ∀ x ∈ K, x ∈ L) (hm : m = L.length) {s0 : List Bool × List Bool} {y0 : List Bool} (h : Tm.rounds L s0 (2 * m + 1) = (cb, pb)) (h0 : s0 = (y0, y0)) (hy : y0 = Tm.ini L K (List.replicate m false)) (hl : y0.length = m) : cb.length = m ∧ ∀ t ∈ L, (Tm.gB cb (Tm.idx L t) = true ↔ Tm.Gk K false t) := by
  have hin : ∀ i (hi : i < L.length), Tm.gB y0 i = true → L[i] ∈ K := fun i hi e => by
    rw [hy] at e
    rcases Tm.ini_only L K _ i e with e | ⟨t, ht, e⟩
    · rw [gB_rep] at e; cases e
    · subst e
      have := Tm.idx_at hi
      rw [this]
      exact ht
  have T := Tm.rounds_tell (K := K) hC.1 (s := s0) (by rw [h0]; exact hl.trans hm) (by rw [h0]; exact hl.trans hm) ⟨fun i hi e => .weak (.known (hin i hi (by rw [h0] at e; exact e))), fun i hi e => .known (hin i hi (by rw [h0] at e; exact e))⟩ (fun t ht => by
    have hx := Tm.idx_lt (hC.2 t ht)
    have : Tm.gB y0 (Tm.idx L t) = true := by
      rw [hy]
      exact Tm.ini_has L K _ t ht (by rw [List.length_replicate, hm]; exact hx)
    rw [h0]
    exact ⟨hC.2 t ht, this, this⟩) (r := 2 * m + 1) (by omega)
  rw [h] at T
  have hle := (Tm.rounds_le L s0 (2 * m + 1)).1.length
  rw [h, h0] at hle
  exact ⟨by rw [← hle]; exact hl, fun t ht => (T t ht).1⟩
set_option maxRecDepth 100000 in
set_option maxHeartbeats 4000000 in
theorem rcan_c (A : Option Addr) (n c : Nat) (vs : List (List Value)) (K : List Tm) (S : Nat → Prop) (ct : List Value) (t : Tm) (St : Nat → Prop) (w : World) (hl : n = K.length) (hR : RowT w S A vs K) (hT : TIs w St t ct) (hS : ∀ g, S g → g < w.heap.size) (hSt : ∀ g, St g → g < w.heap.size) (hok : ∀ x, x ∈ K ∨ x ∈ [t] → x.ok = true) (hC : Tm.countAll K + t.count ≤ 4000) :
    Calls Tryd.prog 38 #[.slice A n c, .agg ct.toArray] w fun e w' => ∃ bb, e = .returned (.bool bb) ∧ (bb = true ↔ Tm.Gk K false t) ∧ Mod [] w w' := by
  have F0 := ((Fm.nil w).arg (tR Any S A vs K) (keeps_tR _ _ _ _ _) ⟨hR, fun _ _ => trivial⟩ hS).argT hT hSt
  have h5 := hT.len
  have HN := Lib.hid hl
  have HOK := Lib.hid hok
  have HCN : Hid (Tm.countAll K + Tm.countAll [t] ≤ 4000) := Lib.hid (by simp only [Tm.countAll]; omega)
  clear hl hR hT hS hSt hok hC
  go_enter Tryd.func38, Tryd.ntmps38
  go_wp2_with (first
    | (with_reducible refine fm_box F0 (o := ⟨some 3, .box 24 (.tmp 1), _, _, _, _⟩) rfl 24 (.tmp 1) rfl ct rfl ?_; intro b3 w1 F1; clear F0)
    | (with_reducible refine fm_load F1 0 rfl (o := ⟨some 10, .load 24 (.tmp 3), _, _, _, _⟩) rfl (.tmp 3) rfl rfl h5 ?_)
    | (with_reducible refine fm_row1 F1 (List.mem_cons_self ..) Any (fun _ _ => trivial) (fun _ _ => trivial) (o := ⟨some 11, .buildSlice 22 1 #[(0, .tmp 10)], _, _, _, _⟩) rfl (.tmp 10) rfl rfl ?_; intro g2 S2 w2 F2; clear F1)
    | (go_at_call 64
       have hK := F2.s 2 rfl
       have hB := F2.s 0 rfl
       have HSC := set_c w2 A n c vs K S (some ⟨g2, 0, none⟩) 1 1 [ct] [t] S2 HN.out rfl hK.1 hB.1 (F2.slt 2 rfl) (F2.slt 0 rfl) HOK.out HCN.out
       with_reducible refine Calls.mono HSC ?_
       rintro e w3 ⟨A1, c1, xs, S1, bc, bp, cb, pb, m, rfl, ⟨L, hClo, hLE, hm, s0, y0, h1, h2, h3, h4⟩, FS⟩
       have ht := set_tells hClo hm h1 h2 h3 h4
       rw [← hLE] at FS
       have htL : t ∈ L := by
         rw [hLE]
         exact (Tm.withAll_clo [t] [] (Tm.withAll K []) (Tm.withAll_clo K [] [] Tm.CloE.nil (okAll_of fun x hx => HOK.out x (.inl hx))).1 (okAll_of fun x hx => HOK.out x (.inr hx))).2.1 t (by simp)
       have hmb : m < 1000000 := by
         have a1 := Tm.withAll_len [t] (Tm.withAll K [])
         have a2 := Tm.withAll_len K []
         have a3 := HCN.out
         rw [← hLE, ← hm] at a1
         simp only [List.length_nil] at a2
         omega
       have F3 := F2.call FS.m
       have h3' := F3.blk 0 rfl
       obtain ⟨ix, hix⟩ : ∃ i, i = Tm.idx L t := ⟨_, rfl⟩
       have hixm : ix < m := by rw [hm, hix]; exact Tm.idx_lt htL
       have hixZ : (ix : Int) < (m : Int) := by omega
       obtain ⟨bb, hbb⟩ : ∃ b, b = Tm.gB cb ix := ⟨_, rfl⟩
       have HB := Lib.hid (show bb = true ↔ Tm.Gk K false t by rw [hbb, hix]; exact ht.2 t htL)
       have HM := Lib.hid hm
       have HIX := Lib.hid (And.intro hix (And.intro hixm (And.intro htL (And.intro hbb.symm (And.intro ht.1 hmb)))))
       clear HSC hK hB hClo hLE hm h1 h2 h3 h4 ht htL hmb hix hixm hbb F2)
    | (with_reducible refine wpList_loads (o := ⟨some 18, .load 24 (.tmp 3), _, _, _, _⟩) rfl 24 (.tmp 3) rfl b3 0 ct rfl (Cells.of_holds h3') _ Tryd.underlying24 rfl (size24' h5) (.agg ct.toArray) rfl ?_)
    | (go_at_call 65
       have HC := rhas_c A1 m c1 _ L _ ct t St w3 HM.out HIX.out.2.2.2.2.2 (FS.asRow (i := 0) rfl (List.mem_cons_self ..)) (F3.ist (F3.mem 1 rfl))
       rw [hasI_in HIX.out.2.2.1, ← HIX.out.1] at HC
       with_reducible refine Calls.mono HC ?_
       rintro e w4 ⟨rfl, mz⟩
       have FT := FS.call mz
       have F4 := F3.call mz
       have ec := bools_cell (FT.blk 1 rfl) (i := ix) (by rw [HIX.out.2.2.2.2.1]; exact HIX.out.2.1) HIX.out.2.2.2.1
       clear HC FS F3 mz))
  go_ret
  exact ⟨bb, rfl, HB.out, F4.m⟩
end Go.Proofs.YtchanildogjhgaaDoor

