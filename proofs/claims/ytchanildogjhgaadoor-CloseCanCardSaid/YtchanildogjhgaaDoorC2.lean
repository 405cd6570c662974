/-
  My own texts Cp Cq Cr Cs Cu Cv, one behind the other.
-/
import Derived.Test.YtchanildogjhgaaDoorC1
import Derived.Laws.CopyRow
import Derived.Laws.IdiomCopy
namespace Go.Proofs.YtchanildogjhgaaDoor
section
open Go.RowKit Go.Shelf
set_option linter.unusedVariables false
set_option linter.unusedSimpArgs false
section
variable {w0 w v : World} {os ts : List Th}
theorem lk7 {a b : List NdC} {u n : Int} {s : ByteArray} {l : List Tm} (h : Few a b 1) : Few a b (lk (.mk 7 u n s l)) := by simpa [lk, Tm.kind] using h
theorem lk8 {a b : List NdC} {u n : Int} {s : ByteArray} {l : List Tm} (h : Few a b 1) : Few a b (lk (.mk 8 u n s l)) := by simpa [lk, Tm.kind] using h
theorem laid_end {i wb mp kk : Nat} {ns ns2 : List NdC} {N2 : Option Addr} {cap2 : Nat} {T2 T' : Nat → Prop} {tz : List Th} {x : NdC} (F : Fm w0 w (os.set i (oWN wb mp N2 cap2 ns2)) tz) (h2 : tN Any T2 ns2 ∈ tz) (hz : ∀ y ∈ ts, y ∈ tz) (HG : Good ns2) (HE : Ext (grN ns) (grN ns2)) (hl : Few ns ns2 kk) (hx : StandN w T' x) (hT : ∀ g, T' g → ∃ y ∈ tz, y.1 g) :
    Grown w0 os ts i wb mp ns kk w ns2 [tN Any T' [x]] := by
  refine ⟨N2, cap2, T2, (F.also (tN Any T' [x]) (keeps_tN _ _ _) ⟨fun y hy => by rw [List.mem_singleton] at hy; subst hy; exact hx, fun _ _ => trivial⟩ hT).sub (List.Sublist.refl _) (fun y hy => ?_), HG, HE, hl⟩
  simp only [List.cons_append, List.nil_append, List.mem_cons] at hy
  rcases hy with rfl | rfl | hy
  · exact List.mem_cons_self ..
  · exact List.mem_cons_of_mem _ h2
  · exact List.mem_cons_of_mem _ (hz y hy)
theorem Fm.ti (F : Fm w0 w os ts) {L S : Nat → Prop} {A : Option Addr} {l : List Nat} (h : tI L S A l ∈ ts) (c : Nat) : RwIn w S (A, c, l) := by
  have := (F.k _ (.inr h)).2.1
  exact ⟨this.1, fun a ha hn => this.2.1 a ha hn⟩
end
theorem n9_oneS {c : List Value} (h : ∀ v ∈ c, v.oneCell' = true) (A1 A2 A3 A4 : Option Addr) (l1 l2 l3 l4 c1 c2 c3 c4 : Nat) : ∀ v ∈ n9 c (.slice A1 l1 c1) (.slice A2 l2 c2) (.slice A3 l3 c3) (.slice A4 l4 c4), v.oneCell' = true := by
  intro v hv
  unfold n9 at hv
  rcases List.mem_append.1 hv with hv | hv
  · exact h v hv
  · simp only [List.mem_cons, List.not_mem_nil, or_false] at hv
    rcases hv with rfl | rfl | rfl | rfl <;> rfl
set_option maxRecDepth 1000000 in
set_option maxHeartbeats 4000000 in
theorem laid_other (wb mp : Nat) (k u n : Int) (s : ByteArray) (l : List Tm) (h4 : (k == 4) = false) (h6 : (k == 6) = false) (h7 : (k == 7) = false) (h8 : (k == 8) = false) : LaidC wb mp (.mk k u n s l) := by
  intro w0 w os ts i N cap ns T S SK c K len cK kids FA hi hN HG hT hK hok hlen hcK hkid Gl hc
  obtain ⟨A, cA, vs, hcc, _⟩ := (FA.ist hT).row
  obtain ⟨la, hla⟩ : ∃ la, la = l.length := ⟨_, rfl⟩
  rw [← hla] at hcc
  clear hla
  subst hcc
  have HI := Lib.hid hi
  have HN := Lib.hid hN
  have hG := Lib.hid HG
  have HT := Lib.hid hT
  have HK := Lib.hid hK
  have HL := Lib.hid hlen
  have HD := Lib.hid hkid
  have HC := Lib.hid hc
  have HB : Hid (kids.length ≤ 100000) := Lib.hid (by have h1 := numOf_get hkid; have h2 := ok_len hok; have h3 := nk_le (Tm.mk k u n s l).kind; omega)
  have HOK := Lib.hid hok
  clear hi hN HG hT hK hlen hkid hc hok
  have hc5 : (tmc k u n s A la cA).length = 5 := rfl
  go_enter Tryd.func83, Tryd.ntmps83
  go_wp2_with (first
    | (with_reducible refine fm_box FA (o := ⟨some 4, .box 24 (.tmp 1), _, _, _, _⟩) rfl 24 (.tmp 1) rfl (tmc k u n s A la cA) rfl ?_; intro b1 w1 F1; clear FA)
    | (with_reducible refine fm_alloc F1 (o := ⟨some 6, .alloc 111, _, _, _, _⟩) rfl 111 rfl _ zero111 ?_; intro b2 w2 F2; clear F1)
    | (with_reducible refine fm_load F2 1 rfl (o := ⟨some 8, .load 24 (.tmp 4), _, _, _, _⟩) rfl (.tmp 4) rfl rfl hc5 ?_)
    | (with_reducible refine wpList_ran (o := ⟨some 10, .build 111 _, _, _, _, _⟩) rfl (.agg (n9 (tmc k u n s A la cA) (nilS) (nilS) (.slice K len cK) (nilS)).toArray) (exec_b111 rfl rfl rfl) ?_)
    | (with_reducible refine fm_alloc F2 (o := ⟨some 7, .alloc 111, _, _, _, _⟩) rfl 111 rfl _ zero111 ?_; intro b3 w3 F3; clear F2)
    | (with_reducible refine fm_store9 F3 0 rfl (o := ⟨none, .store 111 (.tmp 7) (.tmp 10), _, _, _, _⟩) rfl (.tmp 7) (.tmp 10) rfl rfl (n9 (tmc k u n s A la cA) (nilS) (nilS) (.slice K len cK) (nilS)) rfl rfl (n9_len hc5 _ _ _ _) (n9_len rfl _ _ _ _) (n9_oneS (tmc_one _ _ _ _ _ _ _) _ _ _ _ _ _ _ _ _ _ _ _) ?_; intro w4 F4; clear F3)
    | (with_reducible refine fm_load1 F4 2 0 rfl (.int .i64 k) rfl (o := ⟨some 12, _, _, _, _, _⟩) rfl 3 (.tmp 11) rfl rfl (fun h => run_load1 Tryd.underlying3 rfl h) ?_)
    | (with_reducible refine fm_load9 F4 0 rfl (o := ⟨some 44, .load 111 (.tmp 7), _, _, _, _⟩) rfl (.tmp 7) rfl rfl (n9_len hc5 _ _ _ _) ?_)
    | (with_reducible refine fm_store9 F4 1 rfl (o := ⟨none, .store 111 (.tmp 6) (.tmp 44), _, _, _, _⟩) rfl (.tmp 6) (.tmp 44) rfl rfl (n9 (tmc k u n s A la cA) (nilS) (nilS) (.slice K len cK) (nilS)) rfl rfl (n9_len hc5 _ _ _ _) (n9_len rfl _ _ _ _) (n9_oneS (tmc_one _ _ _ _ _ _ _) _ _ _ _ _ _ _ _ _ _ _ _) ?_; intro w5 F5; clear F4))
  refine bodyPost_ret (results_cell9 rfl _ _ b2 _ rfl (Cells.of_holds (F5.blk 1 rfl)) (n9_len hc5 _ _ _ _)) rfl ?_
  have e1 := HL.out
  have FZ := F5.sub (os' := os) (List.sublist_append_right [_, _, _] os) (fun y hy => hy)
  rw [← set_self HI.out] at FZ
  refine ⟨ns, ⟨.mk k u n s l, kids, tmc k u n s A la cA, (none, 0, []), (none, 0, []), (K, cK, kids), (none, 0, [])⟩, fun g => S g ∨ SK g, by rw [e1]; rfl, laid_end FZ HN.out (fun y hy => hy) hG.out (Ext.refl _) (Few.refl _ _) ⟨(FZ.ist HT.out).mono fun g hg => .inl hg, RwIn.none _ _, RwIn.none _ _, (FZ.ti HK.out cK).mono fun g hg => .inr hg⟩ (fun g hg => hg.elim (fun h => ⟨_, HT.out, h⟩) (fun h => ⟨_, HK.out, h⟩)), rfl, rfl, rfl, rfl, ?_, ?_, ?_, fun h => h⟩
  · have : Tm.needs (.mk k u n s l) = l := by simp only [beq_eq_false_iff_ne] at h8; simp [Tm.needs, Tm.kind, Tm.kids, h8]
    rw [this]; exact HD.out
  · have : Tm.keysT (.mk k u n s l) = [] := by simp only [beq_eq_false_iff_ne] at h6 h7; simp [Tm.keysT, Tm.kind, h6, h7]
    rw [this]; rfl
  · have : Tm.inside (.mk k u n s l) = [] := by simp only [beq_eq_false_iff_ne] at h4 h6 h7 h8; simp [Tm.inside, Tm.kind, h4, h6, h7, h8]
    rw [this]; rfl
set_option maxRecDepth 1000000 in
set_option maxHeartbeats 4000000 in
theorem laid_pair (wb mp : Nat) (k u n : Int) (s : ByteArray) (l : List Tm) (hk4 : k = 4) : LaidC wb mp (.mk k u n s l) := by
  intro w0 w os ts i N cap ns T S SK c K len cK kids FA hi hN HG hT hK hok hlen hcK hkid Gl hc
  obtain ⟨A, cA, vs, hcc, _⟩ := (FA.ist hT).row
  obtain ⟨la, hla⟩ : ∃ la, la = l.length := ⟨_, rfl⟩
  rw [← hla] at hcc
  clear hla
  subst hcc
  have HI := Lib.hid hi
  have HN := Lib.hid hN
  have hG := Lib.hid HG
  have HT := Lib.hid hT
  have HK := Lib.hid hK
  have HL := Lib.hid hlen
  have HD := Lib.hid hkid
  have HC := Lib.hid hc
  have HB : Hid (kids.length ≤ 100000) := Lib.hid (by have h1 := numOf_get hkid; have h2 := ok_len hok; have h3 := nk_le (Tm.mk k u n s l).kind; omega)
  have HOK := Lib.hid hok
  clear hi hN HG hT hK hlen hkid hc hok
  have hc5 : (tmc k u n s A la cA).length = 5 := rfl
  subst hk4
  go_enter Tryd.func83, Tryd.ntmps83
  go_wp2_with (first
    | (with_reducible refine fm_box FA (o := ⟨some 4, .box 24 (.tmp 1), _, _, _, _⟩) rfl 24 (.tmp 1) rfl (tmc 4 u n s A la cA) rfl ?_; intro b1 w1 F1; clear FA)
    | (with_reducible refine fm_alloc F1 (o := ⟨some 6, .alloc 111, _, _, _, _⟩) rfl 111 rfl _ zero111 ?_; intro b2 w2 F2; clear F1)
    | (with_reducible refine fm_load F2 1 rfl (o := ⟨some 8, .load 24 (.tmp 4), _, _, _, _⟩) rfl (.tmp 4) rfl rfl hc5 ?_)
    | (with_reducible refine wpList_ran (o := ⟨some 10, .build 111 _, _, _, _, _⟩) rfl (.agg (n9 (tmc 4 u n s A la cA) (nilS) (nilS) (.slice K len cK) (nilS)).toArray) (exec_b111 rfl rfl rfl) ?_)
    | (with_reducible refine fm_alloc F2 (o := ⟨some 7, .alloc 111, _, _, _, _⟩) rfl 111 rfl _ zero111 ?_; intro b3 w3 F3; clear F2)
    | (with_reducible refine fm_store9 F3 0 rfl (o := ⟨none, .store 111 (.tmp 7) (.tmp 10), _, _, _, _⟩) rfl (.tmp 7) (.tmp 10) rfl rfl (n9 (tmc 4 u n s A la cA) (nilS) (nilS) (.slice K len cK) (nilS)) rfl rfl (n9_len hc5 _ _ _ _) (n9_len rfl _ _ _ _) (n9_oneS (tmc_one _ _ _ _ _ _ _) _ _ _ _ _ _ _ _ _ _ _ _) ?_; intro w4 F4; clear F3)
    | (with_reducible refine fm_load1 F4 2 0 rfl (.int .i64 4) rfl (o := ⟨some 12, _, _, _, _, _⟩) rfl 3 (.tmp 11) rfl rfl (fun h => run_load1 Tryd.underlying3 rfl h) ?_)
    | (with_reducible refine fm_store1 F4 0 5 rfl (by simp [n9, hc5]) 80 (.slice K len cK) rfl size80 (o := ⟨none, .store 80 (.tmp 16) (.tmp 15), _, _, _, _⟩) rfl (.tmp 16) (.tmp 15) rfl rfl rfl rfl ?_; intro w5 F5; clear F4)
    | (with_reducible refine fm_load9 F5 0 rfl (o := ⟨some 44, .load 111 (.tmp 7), _, _, _, _⟩) rfl (.tmp 7) rfl rfl (n9_len hc5 _ _ _ _) ?_)
    | (with_reducible refine fm_store9 F5 1 rfl (o := ⟨none, .store 111 (.tmp 6) (.tmp 44), _, _, _, _⟩) rfl (.tmp 6) (.tmp 44) rfl rfl (n9 (tmc 4 u n s A la cA) (.slice K len cK) (nilS) (.slice K len cK) (nilS)) rfl rfl (n9_len hc5 _ _ _ _) (n9_len rfl _ _ _ _) (n9_oneS (tmc_one _ _ _ _ _ _ _) _ _ _ _ _ _ _ _ _ _ _ _) ?_; intro w6 F6; clear F5))
  refine bodyPost_ret (results_cell9 rfl _ _ b2 _ rfl (Cells.of_holds (F6.blk 1 rfl)) (n9_len hc5 _ _ _ _)) rfl ?_
  have e1 := HL.out
  have FZ := F6.sub (os' := os) (List.sublist_append_right [_, _, _] os) (fun y hy => hy)
  rw [← set_self HI.out] at FZ
  exact ⟨ns, ⟨.mk 4 u n s l, kids, tmc 4 u n s A la cA, (K, cK, kids), (none, 0, []), (K, cK, kids), (none, 0, [])⟩, fun g => S g ∨ SK g, by rw [e1]; rfl, laid_end FZ HN.out (fun y hy => hy) hG.out (Ext.refl _) (Few.refl _ _) ⟨(FZ.ist HT.out).mono fun g hg => .inl hg, (FZ.ti HK.out cK).mono fun g hg => .inr hg, RwIn.none _ _, (FZ.ti HK.out cK).mono fun g hg => .inr hg⟩ (fun g hg => hg.elim (fun h => ⟨_, HT.out, h⟩) (fun h => ⟨_, HK.out, h⟩)), rfl, rfl, rfl, rfl, HD.out, rfl, HD.out, fun h => h⟩
set_option maxRecDepth 1000000 in
set_option maxHeartbeats 4000000 in
theorem laid_seal (wb mp : Nat) (k u n : Int) (s : ByteArray) (l : List Tm) (hk4 : k = 7) (SC : SecC wb mp u) : LaidC wb mp (.mk k u n s l) := by
  intro w0 w os ts i N cap ns T S SK c K len cK kids FA hi hN HG hT hK hok hlen hcK hkid Gl hc
  obtain ⟨A, cA, vs, hcc, _⟩ := (FA.ist hT).row
  obtain ⟨la, hla⟩ : ∃ la, la = l.length := ⟨_, rfl⟩
  rw [← hla] at hcc
  clear hla
  subst hcc
  have HI := Lib.hid hi
  have HN := Lib.hid hN
  have hG := Lib.hid HG
  have HT := Lib.hid hT
  have HK := Lib.hid hK
  have HL := Lib.hid hlen
  have HD := Lib.hid hkid
  have HC := Lib.hid hc
  have HB : Hid (kids.length ≤ 100000) := Lib.hid (by have h1 := numOf_get hkid; have h2 := ok_len hok; have h3 := nk_le (Tm.mk k u n s l).kind; omega)
  have HOK := Lib.hid hok
  clear hi hN HG hT hK hlen hkid hc hok
  have hc5 : (tmc k u n s A la cA).length = 5 := rfl
  subst hk4
  go_enter Tryd.func83, Tryd.ntmps83
  go_wp2_with (first
    | (with_reducible refine fm_box FA (o := ⟨some 4, .box 24 (.tmp 1), _, _, _, _⟩) rfl 24 (.tmp 1) rfl (tmc 7 u n s A la cA) rfl ?_; intro b1 w1 F1; clear FA)
    | (with_reducible refine fm_alloc F1 (o := ⟨some 6, .alloc 111, _, _, _, _⟩) rfl 111 rfl _ zero111 ?_; intro b2 w2 F2; clear F1)
    | (with_reducible refine fm_load F2 1 rfl (o := ⟨some 8, .load 24 (.tmp 4), _, _, _, _⟩) rfl (.tmp 4) rfl rfl hc5 ?_)
    | (with_reducible refine wpList_ran (o := ⟨some 10, .build 111 _, _, _, _, _⟩) rfl (.agg (n9 (tmc 7 u n s A la cA) (nilS) (nilS) (.slice K len cK) (nilS)).toArray) (exec_b111 rfl rfl rfl) ?_)
    | (with_reducible refine fm_alloc F2 (o := ⟨some 7, .alloc 111, _, _, _, _⟩) rfl 111 rfl _ zero111 ?_; intro b3 w3 F3; clear F2)
    | (with_reducible refine fm_store9 F3 0 rfl (o := ⟨none, .store 111 (.tmp 7) (.tmp 10), _, _, _, _⟩) rfl (.tmp 7) (.tmp 10) rfl rfl (n9 (tmc 7 u n s A la cA) (nilS) (nilS) (.slice K len cK) (nilS)) rfl rfl (n9_len hc5 _ _ _ _) (n9_len rfl _ _ _ _) (n9_oneS (tmc_one _ _ _ _ _ _ _) _ _ _ _ _ _ _ _ _ _ _ _) ?_; intro w4 F4; clear F3)
    | (with_reducible refine fm_load1 F4 2 0 rfl (.int .i64 7) rfl (o := ⟨some 12, _, _, _, _, _⟩) rfl 3 (.tmp 11) rfl rfl (fun h => run_load1 Tryd.underlying3 rfl h) ?_)
    | (with_reducible refine fm_load F4 2 rfl (o := ⟨some 28, .load 24 (.tmp 4), _, _, _, _⟩) rfl (.tmp 4) rfl rfl hc5 ?_)
    | (go_at_call 102; refine (SC w0 w4 _ _ (i + 3) N cap ns T 7 n s A la cA F4 (by simpa using HI.out) HN.out hG.out Gl HC.out).mono ?_
       rintro e w5 ⟨ns2, n2, A2, S2, rfl, ⟨N2, cap2, T2, F5x, q1, q2, q3⟩, q4⟩
       have F5 : Fm w0 w5 (_ :: _ :: _ :: os.set i (oWN wb mp N2 cap2 ns2)) (tI Any S2 A2 [n2] :: tN Any T2 ns2 :: ts) := F5x
       replace q1 := Lib.hid q1
       replace q2 := Lib.hid q2
       replace q3 := Lib.hid q3
       replace q4 := Lib.hid q4
       clear F4 F5x)
    | (with_reducible refine fm_store1 F5 0 6 rfl (by simp [n9, hc5]) 80 (.slice A2 1 1) rfl size80 (o := ⟨none, .store 80 (.tmp 31) (.tmp 29), _, _, _, _⟩) rfl (.tmp 31) (.tmp 29) rfl rfl rfl rfl ?_; intro w6 F6; clear F5)
    | (with_reducible refine fm_store1 F6 0 5 rfl (by simp [n9, hc5]) 80 (.slice K len cK) rfl size80 (o := ⟨none, .store 80 (.tmp 32) (.tmp 30), _, _, _, _⟩) rfl (.tmp 32) (.tmp 30) rfl rfl rfl rfl ?_; intro w7 F7; clear F6)
    | (with_reducible refine fm_load9 F7 0 rfl (o := ⟨some 44, .load 111 (.tmp 7), _, _, _, _⟩) rfl (.tmp 7) rfl rfl (n9_len hc5 _ _ _ _) ?_)
    | (with_reducible refine fm_store9 F7 1 rfl (o := ⟨none, .store 111 (.tmp 6) (.tmp 44), _, _, _, _⟩) rfl (.tmp 6) (.tmp 44) rfl rfl (n9 (tmc 7 u n s A la cA) (.slice K len cK) (.slice A2 1 1) (.slice K len cK) (nilS)) rfl rfl (n9_len hc5 _ _ _ _) (n9_len rfl _ _ _ _) (n9_oneS (tmc_one _ _ _ _ _ _ _) _ _ _ _ _ _ _ _ _ _ _ _) ?_; intro w8 F8; clear F7))
  refine bodyPost_ret (results_cell9 rfl _ _ b2 _ rfl (Cells.of_holds (F8.blk 1 rfl)) (n9_len hc5 _ _ _ _)) rfl ?_
  have e1 := HL.out
  have FZ : Fm w0 w8 (os.set i (oWN wb mp N2 cap2 ns2)) (tI Any S2 A2 [n2] :: tN Any T2 ns2 :: ts) := F8.sub (List.sublist_append_right [_, _, _] _) (fun y hy => hy)
  have HT2 : tT Any S (.mk 7 u n s l) (tmc 7 u n s A la cA) ∈ tI Any S2 A2 [n2] :: tN Any T2 ns2 :: ts := List.mem_cons_of_mem _ (List.mem_cons_of_mem _ HT.out)
  have HK2 : tI Any SK K kids ∈ tI Any S2 A2 [n2] :: tN Any T2 ns2 :: ts := List.mem_cons_of_mem _ (List.mem_cons_of_mem _ HK.out)
  refine ⟨ns2, ⟨.mk 7 u n s l, kids, tmc 7 u n s A la cA, (K, cK, kids), (A2, 1, [n2]), (K, cK, kids), (none, 0, [])⟩, fun g => (S g ∨ SK g) ∨ S2 g, by rw [e1]; rfl, laid_end FZ (List.mem_cons_of_mem _ (List.mem_cons_self ..)) (fun y hy => List.mem_cons_of_mem _ (List.mem_cons_of_mem _ hy)) q1.out q2.out (lk7 q3.out) ⟨(FZ.ist HT2).mono fun g hg => .inl (.inl hg), (FZ.ti HK2 cK).mono fun g hg => .inl (.inr hg), (FZ.ti (List.mem_cons_self ..) 1).mono fun g hg => .inr hg, (FZ.ti HK2 cK).mono fun g hg => .inl (.inr hg)⟩ (fun g hg => hg.elim (fun h => h.elim (fun h => ⟨_, HT2, h⟩) (fun h => ⟨_, HK2, h⟩)) (fun h => ⟨_, List.mem_cons_self .., h⟩)), rfl, rfl, rfl, rfl, q2.out.num HD.out, ?_, q2.out.num HD.out, q3.out.fresh (two_count HOK.out (.inl rfl))⟩
  show numOf (grN ns2) [n2] [Tm.sec u]
  unfold numOf
  simp [q4.out]
theorem zero80 (w : World) : (zeroValue 80).run Tryd.prog w = .ok (.slice none 0 0) w := by kernel_rfl
theorem info80 : ∃ i : TypeInfo, Tryd.prog.info? 80 = some i ∧ i.zero = some (.slice none 0 0) ∧ i.size = 1 ∧ i.bytes = 24 :=
  info_parts (show (Tryd.prog.info? 80).map (fun i => (i.zero, i.size, i.bytes)) = some (some (.slice none 0 0), 1, 24) by kernel_rfl)
theorem concat2_c (g : Nat) (A : Option Addr) (n : Nat) (K : Option Addr) (cK len : Nat) (kids : List Nat) (w : World) (hl : len = kids.length) (hC : Cells w (some ⟨g, 0, none⟩) [.slice A 1 1, .slice K len cK]) (h1 : Cells w A [vi n]) (h2 : Cells w K (kids.map vi)) (hb : kids.length ≤ 100000) : Calls Tryd.prog 84 #[.slice (some ⟨g, 0, none⟩) 2 2] w fun e w' => ∃ B c, e = .returned (.slice B (len + 1) c) ∧ OwnG fi 3 1 w' B c (n :: kids) ∧ Mod [] w w' ∧ ∀ a, B = some a → w.heap.size ≤ a.block := by
  have hcat : catN [(A, 1, [n]), (K, cK, kids)] = n :: kids := by simp [catN]
  have h := concat_c g 2 2 [(A, 1, [n]), (K, cK, kids)] w rfl (by omega) (by rw [hl] at hC; exact hC) (fun r hr => by
    simp only [List.mem_cons, List.not_mem_nil, or_false] at hr
    rcases hr with rfl | rfl
    · exact h1
    · exact h2) (by rw [hcat, List.length_cons]; omega)
  rw [hcat, List.length_cons, ← hl] at h
  exact h
/-- A row of two rows. -/
theorem fm_lit2S {w0 w : World} {os ts : List Th} {ops : Array Oper} {rest : List Oper} {o : Oper} {a : Act} {Q : Exit → Act → World → Prop} (F : Fm w0 w os ts) (hgd : o.guard = none) (x y : Operand) (ho : o.op = .buildSlice 134 2 #[(0, x), (1, y)]) (A B : Option Addr) (n c m d : Nat) (hx : a.eval x = .slice A n c) (hy : a.eval y = .slice B m d)
    (h : ∀ g v, Fm w0 v (oB g 80 [.slice A n c, .slice B m d] :: os) ts → wpList Tryd.prog ops Q rest (a.put o.dst (.slice (some ⟨g, 0, none⟩) 2 2)) v) : wpList Tryd.prog ops Q (o :: rest) a w := by
  obtain ⟨it, i0, i1, i2, i3⟩ := info80
  have hr := run_lit2 (P := Tryd.prog) (t := 134) (e := 80) (V0 := .slice A n c) (V1 := .slice B m d) (c0 := [.slice A n c]) (c1 := [.slice B m d]) (s := 1) w Tryd.underlying134 i0 i2 (by omega) (by omega) zero80 rfl rfl rfl rfl
  have hH : Holds (w.alloc (.cells [.slice A n c, .slice B m d].toArray 80)) w.heap.size 80 [.slice A n c, .slice B m d] := Holds.made w 80 _
  have F' := F.own (v := w.alloc (.cells (([.slice A n c, .slice B m d] : List Value)).toArray 80)) (Mod.alloc [] w _) (oB w.heap.size 80 [.slice A n c, .slice B m d]) (keeps_oB _ _ _) hH (hH.new_keeps rfl)
  refine wpList_ran_w hgd (.slice (some ⟨w.heap.size, 0, none⟩) 2 2) ?_ (h _ _ F')
  unfold execOp
  simp only [ho, List.map_toArray, List.map_cons, List.map_nil, hx, hy, Sem.run_bind, hr, Result.andThen, Sem.run_pure]
  rfl
set_option maxRecDepth 1000000 in
set_option maxHeartbeats 4000000 in
theorem laid_sign (wb mp : Nat) (k u n : Int) (s : ByteArray) (l : List Tm) (hk4 : k = 8) (SC : SecC wb mp u) : LaidC wb mp (.mk k u n s l) := by
  intro w0 w os ts i N cap ns T S SK c K len cK kids FA hi hN HG hT hK hok hlen hcK hkid Gl hc
  obtain ⟨A, cA, vs, hcc, _⟩ := (FA.ist hT).row
  obtain ⟨la, hla⟩ : ∃ la, la = l.length := ⟨_, rfl⟩
  rw [← hla] at hcc
  clear hla
  subst hcc
  have HI := Lib.hid hi
  have HN := Lib.hid hN
  have hG := Lib.hid HG
  have HT := Lib.hid hT
  have HK := Lib.hid hK
  have HL := Lib.hid hlen
  have HD := Lib.hid hkid
  have HC := Lib.hid hc
  have HB : Hid (kids.length ≤ 100000) := Lib.hid (by have h1 := numOf_get hkid; have h2 := ok_len hok; have h3 := nk_le (Tm.mk k u n s l).kind; omega)
  have HOK := Lib.hid hok
  clear hi hN HG hT hK hlen hkid hc hok
  have hc5 : (tmc k u n s A la cA).length = 5 := rfl
  subst hk4
  go_enter Tryd.func83, Tryd.ntmps83
  go_wp2_with (first
    | (with_reducible refine fm_box FA (o := ⟨some 4, .box 24 (.tmp 1), _, _, _, _⟩) rfl 24 (.tmp 1) rfl (tmc 8 u n s A la cA) rfl ?_; intro b1 w1 F1; clear FA)
    | (with_reducible refine fm_alloc F1 (o := ⟨some 6, .alloc 111, _, _, _, _⟩) rfl 111 rfl _ zero111 ?_; intro b2 w2 F2; clear F1)
    | (with_reducible refine fm_load F2 1 rfl (o := ⟨some 8, .load 24 (.tmp 4), _, _, _, _⟩) rfl (.tmp 4) rfl rfl hc5 ?_)
    | (with_reducible refine wpList_ran (o := ⟨some 10, .build 111 _, _, _, _, _⟩) rfl (.agg (n9 (tmc 8 u n s A la cA) (nilS) (nilS) (.slice K len cK) (nilS)).toArray) (exec_b111 rfl rfl rfl) ?_)
    | (with_reducible refine fm_alloc F2 (o := ⟨some 7, .alloc 111, _, _, _, _⟩) rfl 111 rfl _ zero111 ?_; intro b3 w3 F3; clear F2)
    | (with_reducible refine fm_store9 F3 0 rfl (o := ⟨none, .store 111 (.tmp 7) (.tmp 10), _, _, _, _⟩) rfl (.tmp 7) (.tmp 10) rfl rfl (n9 (tmc 8 u n s A la cA) (nilS) (nilS) (.slice K len cK) (nilS)) rfl rfl (n9_len hc5 _ _ _ _) (n9_len rfl _ _ _ _) (n9_oneS (tmc_one _ _ _ _ _ _ _) _ _ _ _ _ _ _ _ _ _ _ _) ?_; intro w4 F4; clear F3)
    | (with_reducible refine fm_load1 F4 2 0 rfl (.int .i64 8) rfl (o := ⟨some 12, _, _, _, _, _⟩) rfl 3 (.tmp 11) rfl rfl (fun h => run_load1 Tryd.underlying3 rfl h) ?_)
    | (with_reducible refine fm_load F4 2 rfl (o := ⟨some 37, .load 24 (.tmp 4), _, _, _, _⟩) rfl (.tmp 4) rfl rfl hc5 ?_)
    | (go_at_call 102; refine (SC w0 w4 _ _ (i + 3) N cap ns T 8 n s A la cA F4 (by simpa using HI.out) HN.out hG.out Gl HC.out).mono ?_
       rintro e w5 ⟨ns2, n2, A2, S2, rfl, ⟨N2, cap2, T2, F5x, q1, q2, q3⟩, q4⟩
       have F5 : Fm w0 w5 (_ :: _ :: _ :: os.set i (oWN wb mp N2 cap2 ns2)) (tI Any S2 A2 [n2] :: tN Any T2 ns2 :: ts) := F5x
       replace q1 := Lib.hid q1
       replace q2 := Lib.hid q2
       replace q3 := Lib.hid q3
       replace q4 := Lib.hid q4
       clear F4 F5x)
    | (with_reducible refine fm_lit2S F5 (o := ⟨some 40, .buildSlice 134 2 #[(0, .tmp 38), (1, .tmp 39)], _, _, _, _⟩) rfl (.tmp 38) (.tmp 39) rfl A2 K 1 1 len cK rfl rfl ?_; intro g6 w6 F6; clear F5)
    | (go_at_call 84; refine (concat2_c g6 A2 n2 K cK len kids w6 HL.out (Cells.of_holds (F6.blk 0 rfl)) (F6.ti (F6.mem 0 rfl) 1).1 (F6.ti (List.mem_cons_of_mem _ (List.mem_cons_of_mem _ HK.out)) cK).1 HB.out).mono ?_
       rintro e w7 ⟨A3, c3, rfl, O7, m7, B7⟩
       have F7y := F6.own m7 (oI A3 c3 (n2 :: kids)) (keeps_oI _ _ _) O7 (fun g hg => by
         obtain ⟨a', ha', rfl⟩ := mem_blk hg
         exact ⟨B7 a' ha', O7.lt a' ha'⟩)
       have F7x := ((F7y.freeze 0 rfl).freeze 0 rfl).also (tI Any (· ∈ blkOf A3) A3 (n2 :: kids)) (keeps_tI _ _ _ _) ⟨by rw [← fi_flat]; exact O7.cells, fun a ha _ => by rw [ha]; exact blk_of, fun _ _ => trivial⟩ fun g hg => ⟨_, List.mem_cons_of_mem _ (List.mem_cons_self ..), hg⟩
       have F7 : Fm w0 w7 (_ :: _ :: _ :: os.set i (oWN wb mp N2 cap2 ns2)) (tI Any (· ∈ blkOf A3) A3 (n2 :: kids) :: tI Any S2 A2 [n2] :: tN Any T2 ns2 :: ts) := F7x.sub (List.Sublist.refl _) (fun y hy => by
         rcases List.mem_cons.1 hy with rfl | hy
         · exact List.mem_cons_self ..
         · exact List.mem_cons_of_mem _ (List.mem_cons_of_mem _ (List.mem_cons_of_mem _ hy)))
       clear F6 F7y F7x O7 m7 B7)
    | (with_reducible refine fm_store1 F7 0 5 rfl (by simp [n9, hc5]) 80 (.slice K len cK) rfl size80 (o := ⟨none, .store 80 (.tmp 42) (.tmp 35), _, _, _, _⟩) rfl (.tmp 42) (.tmp 35) rfl rfl rfl rfl ?_; intro w8 F8; clear F7)
    | (with_reducible refine fm_store1 F8 0 7 rfl (by simp [n9, hc5]) 80 (.slice A3 (len + 1) c3) rfl size80 (o := ⟨none, .store 80 (.tmp 43) (.tmp 41), _, _, _, _⟩) rfl (.tmp 43) (.tmp 41) rfl rfl rfl rfl ?_; intro w9 F9; clear F8)
    | (with_reducible refine fm_load9 F9 0 rfl (o := ⟨some 44, .load 111 (.tmp 7), _, _, _, _⟩) rfl (.tmp 7) rfl rfl (n9_len hc5 _ _ _ _) ?_)
    | (with_reducible refine fm_store9 F9 1 rfl (o := ⟨none, .store 111 (.tmp 6) (.tmp 44), _, _, _, _⟩) rfl (.tmp 6) (.tmp 44) rfl rfl (n9 (tmc 8 u n s A la cA) (.slice K len cK) (nilS) (.slice A3 (len + 1) c3) (nilS)) rfl rfl (n9_len hc5 _ _ _ _) (n9_len rfl _ _ _ _) (n9_oneS (tmc_one _ _ _ _ _ _ _) _ _ _ _ _ _ _ _ _ _ _ _) ?_; intro w10 F10; clear F9))
  refine bodyPost_ret (results_cell9 rfl _ _ b2 _ rfl (Cells.of_holds (F10.blk 1 rfl)) (n9_len hc5 _ _ _ _)) rfl ?_
  have e1 := HL.out
  have FZ : Fm w0 w10 (os.set i (oWN wb mp N2 cap2 ns2)) (tI Any (· ∈ blkOf A3) A3 (n2 :: kids) :: tI Any S2 A2 [n2] :: tN Any T2 ns2 :: ts) := F10.sub (List.sublist_append_right [_, _, _] _) (fun y hy => hy)
  have HT2 : tT Any S (.mk 8 u n s l) (tmc 8 u n s A la cA) ∈ (tI Any (· ∈ blkOf A3) A3 (n2 :: kids) :: tI Any S2 A2 [n2] :: tN Any T2 ns2 :: ts) := List.mem_cons_of_mem _ (List.mem_cons_of_mem _ (List.mem_cons_of_mem _ HT.out))
  have HK2 : tI Any SK K kids ∈ (tI Any (· ∈ blkOf A3) A3 (n2 :: kids) :: tI Any S2 A2 [n2] :: tN Any T2 ns2 :: ts) := List.mem_cons_of_mem _ (List.mem_cons_of_mem _ (List.mem_cons_of_mem _ HK.out))
  refine ⟨ns2, ⟨.mk 8 u n s l, kids, tmc 8 u n s A la cA, (K, cK, kids), (none, 0, []), (A3, c3, n2 :: kids), (none, 0, [])⟩, fun g => (S g ∨ SK g) ∨ g ∈ blkOf A3, by rw [e1]; rfl, laid_end FZ (List.mem_cons_of_mem _ (List.mem_cons_of_mem _ (List.mem_cons_self ..))) (fun y hy => List.mem_cons_of_mem _ (List.mem_cons_of_mem _ (List.mem_cons_of_mem _ hy))) q1.out q2.out (lk8 q3.out) ⟨(FZ.ist HT2).mono fun g hg => .inl (.inl hg), (FZ.ti HK2 cK).mono fun g hg => .inl (.inr hg), RwIn.none _ _, (FZ.ti (List.mem_cons_self ..) c3).mono fun g hg => .inr hg⟩ (fun g hg => hg.elim (fun h => h.elim (fun h => ⟨_, HT2, h⟩) (fun h => ⟨_, HK2, h⟩)) (fun h => ⟨_, List.mem_cons_self .., h⟩)), rfl, rfl, rfl, rfl, ?_, rfl, q2.out.num HD.out, q3.out.fresh (two_count HOK.out (.inr rfl))⟩
  show numOf (grN ns2) (n2 :: kids) (Tm.sec u :: l)
  have := q2.out.num HD.out
  unfold numOf at this ⊢
  simp only [List.map_cons, q4.out]
  rw [this]
  rfl
end
section
open Go.RowKit Go.Shelf
set_option linter.unusedVariables false
set_option linter.unusedSimpArgs false
set_option maxRecDepth 1000000 in
set_option maxHeartbeats 4000000 in
theorem laid_lock (wb mp : Nat) (k u n : Int) (s : ByteArray) (l : List Tm) (hk4 : k = 6) : LaidC wb mp (.mk k u n s l) := by
  intro w0 w os ts i N cap ns T S SK c K len cK kids FA hi hN HG hT hK hok hlen hcK hkid Gl hc
  obtain ⟨A, cA, vs, hcc, _⟩ := (FA.ist hT).row
  obtain ⟨la, hla⟩ : ∃ la, la = l.length := ⟨_, rfl⟩
  rw [← hla] at hcc
  clear hla
  subst hcc
  have HI := Lib.hid hi
  have HN := Lib.hid hN
  have hG := Lib.hid HG
  have HT := Lib.hid hT
  have HK := Lib.hid hK
  have HL := Lib.hid hlen
  have HD := Lib.hid hkid
  have HC := Lib.hid hc
  have HB : Hid (kids.length ≤ 100000) := Lib.hid (by have h1 := numOf_get hkid; have h2 := ok_len hok; have h3 := nk_le (Tm.mk k u n s l).kind; omega)
  have h2 : kids.length = 2 := by have h1 := numOf_get hkid; have h2 := ok_len hok; rw [h1, h2, hk4]; rfl
  clear hi hN HG hT hK hkid hc hok
  obtain ⟨n1, n2, rfl⟩ : ∃ a b, kids = [a, b] := by
    match kids, h2 with
    | [a, b], _ => exact ⟨a, b, rfl⟩
  have e2 : len = 2 := hlen
  subst e2
  clear h2 hlen
  obtain ⟨g, q, rfl, _⟩ := (FA.ti HK.out cK).1 0 (by simp)
  have hc5 : (tmc k u n s A la cA).length = 5 := rfl
  subst hk4
  go_enter Tryd.func83, Tryd.ntmps83
  go_wp2_with (first
    | (with_reducible refine fm_box FA (o := ⟨some 4, .box 24 (.tmp 1), _, _, _, _⟩) rfl 24 (.tmp 1) rfl (tmc 6 u n s A la cA) rfl ?_; intro b1 w1 F1; clear FA)
    | (with_reducible refine fm_alloc F1 (o := ⟨some 6, .alloc 111, _, _, _, _⟩) rfl 111 rfl _ zero111 ?_; intro b2 w2 F2; clear F1)
    | (with_reducible refine fm_load F2 1 rfl (o := ⟨some 8, .load 24 (.tmp 4), _, _, _, _⟩) rfl (.tmp 4) rfl rfl hc5 ?_)
    | (with_reducible refine wpList_ran (o := ⟨some 10, .build 111 _, _, _, _, _⟩) rfl (.agg (n9 (tmc 6 u n s A la cA) (nilS) (nilS) (.slice (some ⟨g, q, none⟩) 2 cK) (nilS)).toArray) (exec_b111 rfl rfl rfl) ?_)
    | (with_reducible refine fm_alloc F2 (o := ⟨some 7, .alloc 111, _, _, _, _⟩) rfl 111 rfl _ zero111 ?_; intro b3 w3 F3; clear F2)
    | (with_reducible refine fm_store9 F3 0 rfl (o := ⟨none, .store 111 (.tmp 7) (.tmp 10), _, _, _, _⟩) rfl (.tmp 7) (.tmp 10) rfl rfl (n9 (tmc 6 u n s A la cA) (nilS) (nilS) (.slice (some ⟨g, q, none⟩) 2 cK) (nilS)) rfl rfl (n9_len hc5 _ _ _ _) (n9_len rfl _ _ _ _) (n9_oneS (tmc_one _ _ _ _ _ _ _) _ _ _ _ _ _ _ _ _ _ _ _) ?_; intro w4 F4; clear F3)
    | (with_reducible refine fm_load1 F4 2 0 rfl (.int .i64 6) rfl (o := ⟨some 12, _, _, _, _, _⟩) rfl 3 (.tmp 11) rfl rfl (fun h => run_load1 Tryd.underlying3 rfl h) ?_))
  have c5 : w4.cell? ⟨b3, 5, none⟩ = some nilS := (F4.blk 0 rfl).cell 5
  have c6 : w4.cell? ⟨b3, 6, none⟩ = some nilS := (F4.blk 0 rfl).cell 6
  have f5 : w4.frozen? ⟨b3, 5, none⟩ = false := (F4.blk 0 rfl).free 5
  have f6 : w4.frozen? ⟨b3, 6, none⟩ = false := (F4.blk 0 rfl).free 6
  go_region
  have F5 := ((F4.setc 0 rfl 6 (.slice (some ⟨g, q, none⟩) 1 cK)).setc 0 rfl 5 (.slice (some ⟨g, q + 1, none⟩) 1 (cK - 1))).call (Mod.drew [] _)
  clear F4 c5 c6 f5 f6
  revert F5
  generalize World.drew _ = w5
  intro F5
  go_wp2_with (first
    | (with_reducible refine fm_load9 F5 0 rfl (o := ⟨some 44, .load 111 (.tmp 7), _, _, _, _⟩) rfl (.tmp 7) rfl rfl (n9_len hc5 _ _ _ _) ?_)
    | (with_reducible refine fm_store9 F5 1 rfl (o := ⟨none, .store 111 (.tmp 6) (.tmp 44), _, _, _, _⟩) rfl (.tmp 6) (.tmp 44) rfl rfl (n9 (tmc 6 u n s A la cA) (.slice (some ⟨g, q + 1, none⟩) 1 (cK - 1)) (.slice (some ⟨g, q, none⟩) 1 cK) (.slice (some ⟨g, q, none⟩) 2 cK) (nilS)) rfl rfl (n9_len hc5 _ _ _ _) (n9_len rfl _ _ _ _) (n9_oneS (tmc_one _ _ _ _ _ _ _) _ _ _ _ _ _ _ _ _ _ _ _) ?_; intro w6 F6; clear F5))
  refine bodyPost_ret (results_cell9 rfl _ _ b2 _ rfl (Cells.of_holds (F6.blk 1 rfl)) (n9_len hc5 _ _ _ _)) rfl ?_
  have FZ := F6.sub (os' := os) (List.sublist_append_right [_, _, _] os) (fun y hy => hy)
  rw [← set_self HI.out] at FZ
  have HRK := FZ.ti HK.out cK
  have hb := HRK.2 _ rfl (by simp)
  have r1 : RwIn w6 SK (some ⟨g, q, none⟩, cK, [n1]) := ⟨Cells.of_cells fun i hi => by
    have : i = 0 := by simp at hi; omega
    subst this
    exact HRK.1.at 0 (by simp), fun a ha _ => by cases ha; exact hb⟩
  have r2 : RwIn w6 SK (some ⟨g, q + 1, none⟩, cK - 1, [n2]) := ⟨Cells.of_cells fun i hi => by
    have : i = 0 := by simp at hi; omega
    subst this
    exact HRK.1.at 1 (by simp), fun a ha _ => by cases ha; exact hb⟩
  refine ⟨ns, ⟨.mk 6 u n s l, [n1, n2], tmc 6 u n s A la cA, (some ⟨g, q + 1, none⟩, cK - 1, [n2]), (some ⟨g, q, none⟩, cK, [n1]), (some ⟨g, q, none⟩, cK, [n1, n2]), (none, 0, [])⟩, fun g => S g ∨ SK g, rfl, laid_end FZ HN.out (fun y hy => hy) hG.out (Ext.refl _) (Few.refl _ _) ⟨(FZ.ist HT.out).mono fun g hg => .inl hg, r2.mono fun g hg => .inr hg, r1.mono fun g hg => .inr hg, HRK.mono fun g hg => .inr hg⟩ (fun g hg => hg.elim (fun h => ⟨_, HT.out, h⟩) (fun h => ⟨_, HK.out, h⟩)), rfl, rfl, rfl, rfl, HD.out, ?_, ?_, fun h => h⟩
  · have := HD.out
    unfold numOf at this ⊢
    show [tmAt (grN ns) n1] = (l.take 1).map some
    have e := congrArg (List.take 1) this
    rw [← List.map_take] at e
    exact e.trans (by simp [Tm.kids])
  · have := HD.out
    unfold numOf at this ⊢
    show [tmAt (grN ns) n2] = (l.drop 1).map some
    have e := congrArg (List.drop 1) this
    exact e.trans (by simp [Tm.kids])
end
section
open Go.RowKit Go.Shelf
set_option linter.unusedVariables false
theorem laid_all (wb mp : Nat) (t : Tm) (SC : t.kind = 7 ∨ t.kind = 8 → SecC wb mp t.user) : LaidC wb mp t := by
  obtain ⟨k, u, n, s, l⟩ := t
  simp only [Tm.kind, Tm.user] at SC
  by_cases h4 : k = 4
  · exact laid_pair wb mp k u n s l h4
  by_cases h6 : k = 6
  · exact laid_lock wb mp k u n s l h6
  by_cases h7 : k = 7
  · exact laid_seal wb mp k u n s l h7 (SC (.inl h7))
  by_cases h8 : k = 8
  · exact laid_sign wb mp k u n s l h8 (SC (.inr h8))
  exact laid_other wb mp k u n s l (by simpa using h4) (by simpa using h6) (by simpa using h7) (by simpa using h8)
end
section
open Go.RowKit Go.Shelf
set_option linter.unusedVariables false
set_option linter.unusedSimpArgs false
def sh6 (k u n : Int) (s : ByteArray) (a b : Nat) : List Value := [.int .i64 k, .int .i64 u, .int .i64 n, .string s, vi a, vi b]
theorem sh6_len (k u n : Int) (s : ByteArray) (a b : Nat) : (sh6 k u n s a b).length = 6 := rfl
theorem sh6_one (k u n : Int) (s : ByteArray) (a b : Nat) : ∀ v ∈ sh6 k u n s a b, v.oneCell' = true := by
  intro v hv
  simp only [sh6, List.mem_cons, List.not_mem_nil, or_false] at hv
  rcases hv with rfl | rfl | rfl | rfl | rfl | rfl <;> rfl
theorem size109 : (Tryd.prog.info? 109).map (·.size) = some 6 := by kernel_rfl
set_option maxRecDepth 100000 in
theorem zero109 (w : World) : (zeroValue 109).run Tryd.prog w = .ok (.agg (sh6 0 0 0 ⟨#[]⟩ 0 0).toArray) w := by kernel_rfl
set_option maxRecDepth 100000 in
theorem run_b109 (k u n : Int) (s : ByteArray) (w : World) : (Instr.build 109 #[(0, .int .i64 k), (1, .int .i64 u), (2, .int .i64 n), (3, .string s)]).run Tryd.prog w = .ok (.agg (sh6 k u n s 0 0).toArray) w := by
  refine run_build w _ _ _ ?_
  kernel_rfl
section
variable {v : World} {o : Oper} {ρ : Operand → Value} {x y z q : Operand}
theorem exec_b109 {k u n : Int} {s : ByteArray} (ho : o.op = .build 109 #[(0, x), (1, y), (2, z), (3, q)]) (hx : ρ x = .int .i64 k) (hy : ρ y = .int .i64 u) (hz : ρ z = .int .i64 n) (hq : ρ q = .string s) : (execOp ρ o).run Tryd.prog v = .ok (.value (.agg (sh6 k u n s 0 0).toArray)) v := by
  unfold execOp
  simp only [ho, List.map_toArray, List.map_cons, List.map_nil, hx, hy, hz, hq, Sem.run_bind, run_b109, Result.andThen, Sem.run_pure]
end
section
variable {w0 w v : World} {os ts : List Th}
variable {ops : Array Oper} {rest : List Oper} {o : Oper} {a : Act} {Q : Exit → Act → World → Prop}
theorem fm_store6 (F : Fm w0 w os ts) (i : Nat) {b : Nat} {old : List Value} (hi : os[i]? = some (oB b 109 old)) (hgd : o.guard = none) (x y : Operand) (ho : o.op = .store 109 x y) (hdst : o.dst = none) (cs : List Value) (hx : a.eval x = .pointer (some ⟨b, 0, none⟩)) (hy : a.eval y = .agg cs.toArray)
    (h5 : cs.length = 6) (ho5 : old.length = 6) (h1 : ∀ v ∈ cs, v.oneCell' = true)
    (h : ∀ v, Fm w0 v (os.set i (oB b 109 cs)) ts → wpList Tryd.prog ops Q rest a v) : wpList Tryd.prog ops Q (o :: rest) a w :=
  wpList_storesAll hgd 109 x y ho hdst b cs hx _ hy rfl 109 old (F.blk i hi) (by omega) h1 (by rw [h5]; exact size109) fun v hv m z => h v (F.turn m i hi (fun g hg => List.mem_singleton.1 hg) _ (keeps_oB _ _ _) hv fun g hg => ⟨.inl hg, by have : g = b := hg; have := hv.lt; omega⟩)
/-- copy of at most two numbers into a shape. -/
theorem fm_copyK (F : Fm w0 w os ts) (i : Nat) {b : Nat} {k u n : Int} {s : ByteArray} (hi : os[i]? = some (oB b 109 (sh6 k u n s 0 0))) (K : Option Addr) (len c : Nat) (kids : List Nat) (hlen : len = kids.length) (h2 : kids.length ≤ 2) (hC : Cells w K (kids.map vi)) (hgd : o.guard = none) (x y : Operand) (ho : o.op = .call { callee := .builtin .copy, args := #[x, y], argTypes := #[80, 80] }) (hx : a.eval x = .slice (some ⟨b, 4, none⟩) 2 2) (hy : a.eval y = .slice K len c)
    (h : ∀ v, Fm w0 v (os.set i (oB b 109 (sh6 k u n s (kids.getD 0 0) (kids.getD 1 0)))) ts → wpList Tryd.prog ops Q rest (a.put o.dst (.int .i64 len)) v) : wpList Tryd.prog ops Q (o :: rest) a w := by
  subst hlen
  have hh : Holds w b 109 (sh6 k u n s 0 0) := F.blk i hi
  have key : ∃ v, (Builtin.copy_ #[80, 80] o.type #[.slice (some ⟨b, 4, none⟩) 2 2, .slice K kids.length c]).run Tryd.prog w = .ok (.int .i64 (kids.length : Int)) v ∧ Holds v b 109 (sh6 k u n s (kids.getD 0 0) (kids.getD 1 0)) ∧ Mod [b] w v := by
    match kids, h2 with
    | [], _ =>
      refine ⟨w, ?_, hh, Mod.refl _ _⟩
      have := run_copy_none (P := Tryd.prog) w 80 80 o.type 3 (some ⟨b, 4, none⟩) K 2 2 0 c Tryd.underlying80 (by kernel_rfl) rfl
      exact this
    | [x1], _ =>
      obtain ⟨g, f, rfl, h0⟩ := hC 0 (by simp)
      refine ⟨_, run_copy_row (P := Tryd.prog) w 80 80 o.type 3 b 4 2 2 ⟨g, f, none⟩ 1 c (sh6 k u n s 0 0).toArray 109 [vi x1] Tryd.underlying80 (by kernel_rfl) hh rfl (fun j v hj => ?_) (by simp [sh6]) (by simp [vi, Value.oneCell']), setRow_heap w b _ _ 109 (0, 0) hh, ⟨rfl, rfl, rfl, by simp [World.setRow], fun k _ hk => setRow_other w b k _ (by simpa using hk)⟩⟩
      match j, hj with
      | 0, hj => cases hj; exact h0
    | [x1, x2], _ =>
      obtain ⟨g, f, rfl, h0⟩ := hC 0 (by simp)
      have h1 := hC.at 1 (by simp)
      refine ⟨_, run_copy_row (P := Tryd.prog) w 80 80 o.type 3 b 4 2 2 ⟨g, f, none⟩ 2 c (sh6 k u n s 0 0).toArray 109 [vi x1, vi x2] Tryd.underlying80 (by kernel_rfl) hh rfl (fun j v hj => ?_) (by simp [sh6]) (by simp [vi, Value.oneCell']), setRow_heap w b _ _ 109 (0, 0) hh, ⟨rfl, rfl, rfl, by simp [World.setRow], fun k _ hk => setRow_other w b k _ (by simpa using hk)⟩⟩
      match j, hj with
      | 0, hj => cases hj; exact h0
      | 1, hj => cases hj; exact h1
  obtain ⟨v, r1, r2, r3⟩ := key
  refine wpList_ran_w hgd (.int .i64 kids.length) ?_ (h v (F.turn r3 i hi (fun g hg => List.mem_singleton.1 hg) _ (keeps_oB _ _ _) r2 fun g hg => ⟨.inl hg, by have : g = b := hg; have := r2.lt; omega⟩))
  unfold execOp
  simp only [ho, resolve, invoke, builtin, Sem.run_bind, Sem.run_pure, Result.andThen_ok, List.map_toArray, List.map_cons, List.map_nil, hx, hy, r1]
end
end
section
open Go.RowKit Go.Shelf
set_option linter.unusedVariables false
set_option linter.unusedSimpArgs false
set_option maxRecDepth 100000 in
theorem run_b106 (m : Option Nat) (w : World) : (Instr.build 106 #[(0, .map m)]).run Tryd.prog w = .ok (.agg #[.map m, .slice none 0 0]) w := by
  refine run_build w _ _ _ ?_
  kernel_rfl
theorem exec_b106 {v : World} {o : Oper} {ρ : Operand → Value} {x : Operand} {m : Option Nat} (ho : o.op = .build 106 #[(0, x)]) (hx : ρ x = .map m) : (execOp ρ o).run Tryd.prog v = .ok (.value (.agg [.map m, .slice none 0 0].toArray)) v := by
  unfold execOp
  simp only [ho, List.map_toArray, List.map_cons, List.map_nil, hx, Sem.run_bind, run_b106, Result.andThen, Sem.run_pure]
theorem run_mk103 (w : World) : (Instr.makeMap 103 none).run Tryd.prog w = .ok (.map (some w.heap.size)) (w.alloc (.map #[] 0)) := by
  simp [Instr.makeMap, run_underlying Tryd.underlying103, go_sem]
theorem exec_mk103 {v : World} {o : Oper} {ρ : Operand → Value} (ho : o.op = .makeMap 103 none) : (execOp ρ o).run Tryd.prog v = .ok (.value (.map (some v.heap.size))) (v.alloc (.map #[] 0)) := by
  unfold execOp
  simp [ho, run_mk103, Result.andThen]
/-- A map of numbers of the call's own. -/
def oM (mp : Nat) (ks : List Value) : Th := ((· = mp), fun w => IsNum w mp ks)
theorem keeps_oM (mp : Nat) (ks : List Value) : keeps (oM mp ks) := fun w v ms m h hw => IsNum.keep hw m (h mp rfl)
theorem fm_map {w0 w : World} {os ts : List Th} {ops : Array Oper} {rest : List Oper} {o : Oper} {a : Act} {Q : Exit → Act → World → Prop} (F : Fm w0 w os ts) (hgd : o.guard = none) (ho : o.op = .makeMap 103 none)
    (h : ∀ mp v, Fm w0 v (oM mp [] :: os) ts → wpList Tryd.prog ops Q rest (a.put o.dst (.map (some mp))) v) : wpList Tryd.prog ops Q (o :: rest) a w := by
  have hN : IsNum (w.alloc (.map #[] 0)) w.heap.size [] := ⟨#[], 0, (MapKept.heap_alloc w _).1, rfl, fun i h => by simp at h, List.nodup_nil, fun k hk => by cases hk⟩
  exact wpList_ran_w hgd (.map (some w.heap.size)) (exec_mk103 ho) (h _ _ (F.own (Mod.alloc [] w _) (oM w.heap.size []) (keeps_oM _ _) hN fun g hg => by
    have : g = w.heap.size := hg
    subst this
    exact ⟨Nat.le_refl _, by simp⟩))
set_option maxRecDepth 1000000 in
set_option maxHeartbeats 1000000 in
theorem newWeb_c (w : World) : Calls Tryd.prog 60 #[] w fun e w' => ∃ wb mp, e = .returned (.pointer (some ⟨wb, 0, none⟩)) ∧ Fm w w' [oWN wb mp none 0 []] [] := by
  have FA := Fm.nil w
  go_enter Tryd.func60, Tryd.ntmps60
  go_wp2_with (first
    | (with_reducible refine fm_map FA (o := ⟨some 1, .makeMap 103 none, _, _, _, _⟩) rfl rfl ?_; intro mp w1 F1; clear FA)
    | (with_reducible refine wpList_ran (o := ⟨some 2, .build 106 _, _, _, _, _⟩) rfl (.agg [.map (some mp), .slice none 0 0].toArray) (exec_b106 rfl rfl) ?_)
    | (with_reducible refine fm_box F1 (o := ⟨some 3, .box 106 (.tmp 2), _, _, _, _⟩) rfl 106 (.tmp 2) rfl [.map (some mp), .slice none 0 0] rfl ?_; intro wb w2 F2; clear F1))
  go_ret
  refine ⟨wb, mp, rfl, F2.fuse 0 rfl (oWN wb mp none 0 []) (keeps_oW _ _ _ _ _ _ _ _) ⟨F2.blk 0 rfl, F2.o 1 rfl, ⟨[], rfl, OwnG.nil _ _ _ _⟩, fun x hx => (by cases hx), List.Pairwise.nil⟩ fun g hg => ?_⟩
  rcases hg with h | h | h | ⟨x, hx, _⟩
  · exact .inl h
  · exact .inr h
  · simp [blkOf, Go.Proofs.YtchanildogjhgaaDoor.blk] at h
  · cases hx
theorem Good.none : Good [] := ⟨Wok.none, fun i h => by simp at h, (fun x hx => by cases hx), fun x hx => by cases hx⟩
end
section
open Go.RowKit Go.Shelf
set_option linter.unusedVariables false
set_option linter.unusedSimpArgs false
theorem n9_pre {w : World} {b : Nat} {t : TypeId} {c : List Value} {x y z q : Value} (h : Holds w b t (n9 c x y z q)) : Cells w (some ⟨b, 0, none⟩) c := Cells.of_cells fun i hi => by
  have h1 := (Cells.of_holds h).at i (by simp [n9]; omega)
  rw [h1]
  unfold n9
  rw [List.getElem_append_left hi]
theorem size9' {cs : List Value} (h : cs.length = 9) : (Tryd.prog.info? 111).map (·.size) = some cs.length := by rw [h]; exact size111
theorem canMk_at {ns : List NdC} {hd : Nat → Nat} {n : Nat} (h : n < ns.length) : canMk (grN ns) hd n = (!Tm.isAtomB ns[n].t && ns[n].needs.2.2.all (fun m => decide (1 ≤ hd m))) := by
  unfold canMk grN
  rw [List.getElem?_map, List.getElem?_eq_getElem h]
  rfl
set_option maxRecDepth 1000000 in
set_option maxHeartbeats 2000000 in
theorem canMake_w {w : World} {wb mp cap : Nat} {V : Value} {N : Option Addr} {ks : List Value} {ns : List NdC} {wr : List Rw} {T : Nat → Prop} {nn : Nat} (W : Web w wb mp (.slice N nn cap) N cap ks ns wr) (hnn : nn = ns.length) (HST : ∀ x ∈ ns, StandN w T x) (n : Nat) (hn : n < nn) (hsz : ∀ x ∈ ns, x.needs.2.2.length ≤ 1000) (mv : Value) (hd : Nat → Nat) (LK : ∀ v k, Mod [] w v → (Instr.lookup 83 mv (vi k) false).run Tryd.prog v = .ok (vi (hd k)) v) :
    Calls Tryd.prog 104 #[.pointer (some ⟨wb, 0, none⟩), .int .i64 (n : Int), mv] w fun e w' => e = .returned (.bool (canMk (grN ns) hd n)) ∧ Mod [] w w' := by
  have hn' : n < ns.length := by omega
  obtain ⟨g, hNg, hc9, hzz⟩ := W.node n hn'
  clear hzz
  subst hNg
  have hst := HST _ (List.getElem_mem hn')
  rw [canMk_at hn']
  have hs := hsz _ (List.getElem_mem hn')
  have hx0 : ∃ x, x = ns[n]'hn' := ⟨_, rfl⟩
  obtain ⟨x, hx⟩ := hx0
  rw [← hx] at hc9 hst hs ⊢
  obtain ⟨⟨k, u, m, s, l⟩, kids, c, ⟨A1, c1, l1⟩, ⟨A2, c2, l2⟩, ⟨A3, c3, l3⟩, ⟨A4, c4, l4⟩⟩ := x
  obtain ⟨A, cA, vs, hcc, hzz⟩ := hst.t.row
  clear hzz
  obtain ⟨la, hla⟩ : ∃ la, la = l.length := ⟨_, rfl⟩
  rw [← hla] at hcc
  dsimp only at hcc hs
  subst hcc
  have hcr := hst.needs.1
  have cr : w.cell? ⟨wb, 1, none⟩ = some (.slice (some ⟨g, 0, none⟩) nn cap) := W.rowc
  have hC9 : Cells w (some ⟨g, 0 + n * 9, none⟩) (n9 (tmc k u m s A la cA) (.slice A1 l1.length c1) (.slice A2 l2.length c2) (.slice A3 l3.length c3) (.slice A4 l4.length c4)) := by
    rw [Nat.zero_add]; exact hc9
  have FA := Fm.nil w
  obtain ⟨n1, h1⟩ : ∃ q, q = l1.length := ⟨_, rfl⟩
  obtain ⟨n2, h2⟩ : ∃ q, q = l2.length := ⟨_, rfl⟩
  obtain ⟨n3, h3⟩ : ∃ q, q = l3.length := ⟨_, rfl⟩
  obtain ⟨n4, h4⟩ : ∃ q, q = l4.length := ⟨_, rfl⟩
  rw [← h1, ← h2, ← h3, ← h4] at hC9
  have H3 := Lib.hid h3
  have HS : Hid (n3 ≤ 2199023255552) := Lib.hid (by rw [h3]; omega)
  have HR := Lib.hid hcr
  have HAt : Hid (Tm.isAtomB (.mk k u m s l) = (k == 2 || k == 3)) := Lib.hid rfl
  obtain ⟨R, hR⟩ : ∃ r, r = l3.all (fun m => decide (1 ≤ hd m)) := ⟨_, rfl⟩
  have HRR := Lib.hid hR
  clear hc9 hst hx hla h1 h2 h3 h4 W HST hn' hs hcr hnn hsz hR
  show Calls _ _ _ _ fun e w' => e = .returned (.bool (!(k == 2 || k == 3) && l3.all (fun m => decide (1 ≤ hd m)))) ∧ Mod [] w w'
  rw [← HRR.out]
  obtain ⟨at_, hat⟩ : ∃ b, b = (k == 2 || k == 3) := ⟨_, rfl⟩
  rw [← hat]
  have IA := fun v => isAtom_c k u m s A la cA v
  rw [← hat] at IA
  clear hat
  have AR : ∀ v, Mod [] w v → Calls Tryd.prog 106 #[.slice A3 n3 c3, mv] v fun e w' => e = .returned (.bool R) ∧ w' = v := fun v mv' => by
    rw [HRR.out]
    exact all_c A3 n3 c3 l3 mv hd v H3.out HS.out (HR.out.keep mv' (by simp)) (fun k => LK v k mv')
  clear HRR
  cases at_ with
  | true =>
    go_enter Tryd.func104, Tryd.ntmps104
    go_wp2_with (first
      | (with_reducible refine wpList_ran (o := ⟨some 11, _, _, _, _, _⟩) rfl (.slice (some ⟨g, 0, none⟩) nn cap) (exec_load rfl rfl (run_load1 Tryd.underlying104 rfl cr)) ?_)
      | (with_reducible refine wpList_ran (o := ⟨some 13, _, _, _, _, _⟩) rfl (.pointer (some ⟨g, 0 + n * 9, none⟩)) (exec_ixs Tryd.underlying104 size111 hn rfl rfl rfl) ?_)
      | (with_reducible refine wpList_loads (o := ⟨some 14, .load 111 (.tmp 13), _, _, _, _⟩) rfl 111 (.tmp 13) rfl g (0 + n * 9) _ rfl hC9 _ Tryd.underlying111 rfl (size9' (n9_len (tmc_len _ _ _ _ _ _ _) _ _ _ _)) _ rfl ?_)
      | (with_reducible refine fm_alloc FA (o := ⟨some 7, .alloc 111, _, _, _, _⟩) rfl 111 rfl _ zero111 ?_; intro b1 w1 F1; clear FA)
      | (with_reducible refine fm_store9 F1 0 rfl (o := ⟨none, .store 111 (.tmp 7) (.tmp 14), _, _, _, _⟩) rfl (.tmp 7) (.tmp 14) rfl rfl (n9 (tmc k u m s A la cA) (.slice A1 n1 c1) (.slice A2 n2 c2) (.slice A3 n3 c3) (.slice A4 n4 c4)) rfl rfl (n9_len (tmc_len _ _ _ _ _ _ _) _ _ _ _) (n9_len (tmc_len _ _ _ _ _ _ _) _ _ _ _) (n9_oneS (tmc_one _ _ _ _ _ _ _) _ _ _ _ _ _ _ _ _ _ _ _) ?_; intro w2 F2; clear F1)
      | (with_reducible refine wpList_loads (o := ⟨some 16, .load 24 (.tmp 15), _, _, _, _⟩) rfl 24 (.tmp 15) rfl b1 0 (tmc k u m s A la cA) rfl (n9_pre (F2.blk 0 rfl)) _ Tryd.underlying24 rfl (size24' (tmc_len _ _ _ _ _ _ _)) _ rfl ?_)
      | (go_at_call 67; refine (IA w2).mono ?_
         rintro e w3 ⟨rfl, m3⟩
         have F3 := F2.call m3
         clear F2 m3))
    go_ret
    exact ⟨rfl, F3.m⟩
  | false =>
    go_enter Tryd.func104, Tryd.ntmps104
    go_wp2_with (first
      | (with_reducible refine wpList_ran (o := ⟨some 11, _, _, _, _, _⟩) rfl (.slice (some ⟨g, 0, none⟩) nn cap) (exec_load rfl rfl (run_load1 Tryd.underlying104 rfl cr)) ?_)
      | (with_reducible refine wpList_ran (o := ⟨some 13, _, _, _, _, _⟩) rfl (.pointer (some ⟨g, 0 + n * 9, none⟩)) (exec_ixs Tryd.underlying104 size111 hn rfl rfl rfl) ?_)
      | (with_reducible refine wpList_loads (o := ⟨some 14, .load 111 (.tmp 13), _, _, _, _⟩) rfl 111 (.tmp 13) rfl g (0 + n * 9) _ rfl hC9 _ Tryd.underlying111 rfl (size9' (n9_len (tmc_len _ _ _ _ _ _ _) _ _ _ _)) _ rfl ?_)
      | (with_reducible refine fm_alloc FA (o := ⟨some 7, .alloc 111, _, _, _, _⟩) rfl 111 rfl _ zero111 ?_; intro b1 w1 F1; clear FA)
      | (with_reducible refine fm_store9 F1 0 rfl (o := ⟨none, .store 111 (.tmp 7) (.tmp 14), _, _, _, _⟩) rfl (.tmp 7) (.tmp 14) rfl rfl (n9 (tmc k u m s A la cA) (.slice A1 n1 c1) (.slice A2 n2 c2) (.slice A3 n3 c3) (.slice A4 n4 c4)) rfl rfl (n9_len (tmc_len _ _ _ _ _ _ _) _ _ _ _) (n9_len (tmc_len _ _ _ _ _ _ _) _ _ _ _) (n9_oneS (tmc_one _ _ _ _ _ _ _) _ _ _ _ _ _ _ _ _ _ _ _) ?_; intro w2 F2; clear F1)
      | (with_reducible refine wpList_loads (o := ⟨some 16, .load 24 (.tmp 15), _, _, _, _⟩) rfl 24 (.tmp 15) rfl b1 0 (tmc k u m s A la cA) rfl (n9_pre (F2.blk 0 rfl)) _ Tryd.underlying24 rfl (size24' (tmc_len _ _ _ _ _ _ _)) _ rfl ?_)
      | (go_at_call 67; refine (IA w2).mono ?_
         rintro e w3 ⟨rfl, m3⟩
         have F3 := F2.call m3
         clear F2 m3)
      | (with_reducible refine fm_load1G' F3 0 7 rfl (.slice A3 n3 c3) rfl (o := ⟨some 21, _, _, _, _, _⟩) (by with_unfolding_all rfl) 80 (.tmp 20) rfl rfl (fun h => run_load1 Tryd.underlying80 rfl h) ?_)
      | (go_at_call 106; refine (AR w3 F3.m).mono ?_
         rintro e w4 ⟨rfl, rfl⟩))
    go_ret
    exact ⟨by first | rfl | simp, F3.m⟩
theorem canMake_c {w0 w : World} {os ts : List Th} {i wb mp cap : Nat} {N : Option Addr} {ks : List Value} {ns : List NdC} {wr : List Rw} {T : Nat → Prop} {nn : Nat} (F : Fm w0 w os ts) (hi : os[i]? = some (oW wb mp (.slice N nn cap) N cap ks ns wr)) (hnn : nn = ns.length) (hN : tN Any T ns ∈ ts) (n : Nat) (hn : n < nn) (hsz : ∀ x ∈ ns, x.needs.2.2.length ≤ 1000) (mv : Value) (hd : Nat → Nat) (LK : ∀ v k, Mod [] w v → (Instr.lookup 83 mv (vi k) false).run Tryd.prog v = .ok (vi (hd k)) v) :
    Calls Tryd.prog 104 #[.pointer (some ⟨wb, 0, none⟩), .int .i64 (n : Int), mv] w fun e w' => e = .returned (.bool (canMk (grN ns) hd n)) ∧ Mod [] w w' :=
  canMake_w (V := .int .i64 0) (F.web hi) hnn (F.k _ (.inr hN)).2.1.1 n hn hsz mv hd LK
end
end Go.Proofs.YtchanildogjhgaaDoor

