/-
  My own texts TlT TlUN TlU TlO, one behind the other.
-/
import Derived.Test.YtchanildogjhgaaDoorTh
namespace Go.Proofs.YtchanildogjhgaaDoor
section
open Go.RowKit Go.Shelf
set_option linter.unusedSimpArgs false
set_option linter.unusedVariables false
set_option maxRecDepth 1000000 in
set_option maxHeartbeats 4000000 in
theorem lay_T (m : Nat) (ih : LayAll m) (k u n : Int) (s : ByteArray) (K : Option Addr) (len cc : Nat) (l : List Tm) (vs : List (List Value)) (S : Nat → Prop) (A : Option Addr) (c : Nat) (l0 : List UInt8) (w : World) (hlen : len = l.length) (hlm : len ≤ 2199023255552) (hr : RowT w S K vs l) (hd : ∀ t ∈ l, t.depth ≤ m ∧ t.ok = true)
    (hS : ∀ g, S g → g < w.heap.size ∧ g ∉ blk A) (G : Glob w) (h0 : 0 ∉ blk A) (hO : Owns w 0 5 A c l0) (hL : l0.length ≤ 1000000000) (k0 : 0 ≤ k) (k1 : k < 256) (hs : s.size ≤ 64) (hT : hasB (flds k) 1 = true) (hU : hasB (flds k) 2 = false) (hN : hasB (flds k) 4 = false)
    (LT : List UInt8) (hLT : (((l0 ++ [Tm.b8 k]) ++ [Tm.b8 (s.size : Int)]) ++ s.data.toList) ++ Tm.bytesAll l = LT) (hLL : LT.length ≤ 1000000000) :
    Calls Tryd.prog 75 #[.slice A l0.length c, .agg (tmc k u n s K len cc).toArray] w (LayP w A LT) := by
  obtain ⟨F, hF⟩ : ∃ F, F = flds k := ⟨_, rfl⟩
  have FC := fun v (g : Glob v) => fieldsOf_c k v g
  rw [← hF] at hT hU hN FC
  have BT := has_b F 1 true hT
  have BU := has_b F 2 false hU
  have BN := has_b F 4 false hN
  obtain ⟨i0, i1, i2, i3, i4⟩ := info5
  have HI := Lib.hid (And.intro i1 (And.intro i2 (And.intro i3 i4)))
  have HO := Lib.hid (And.intro hO (And.intro G h0))
  have HR := Lib.hid (And.intro hlen (And.intro hr (And.intro hd (And.intro ih hS))))
  have HLT := Lib.hid (And.intro hLT hLL)
  have H1 := Lib.hid (len_ok (l := l0) (k := [Tm.b8 k]) (by simp only [List.length_cons, List.length_nil]; omega))
  have hs3 : ∀ {L : List UInt8}, L.length ≤ 1000000300 → L.length + s.size ≤ 140737488355328 := fun {L} h => by omega
  have s0 : (0 : Int) ≤ (s.size : Int) := by omega
  have s1 : (s.size : Int) < 256 := by omega
  clear hF hT hU hN i1 i2 i3 i4 hO G h0 hlen hr hd ih hS hLT hLL
  go_enter Tryd.func75, Tryd.ntmps75
  go_wp2_with (first
    | (with_reducible refine wpList_boxes (o := ⟨some 3, .box 24 (.tmp 1), _, _, _, _⟩) rfl 24 (.tmp 1) rfl _ rfl (tmc k u n s K len cc) rfl ?_; intro w1 hb1 m1 z1; replace z1 := Lib.hid z1
       have g1 : Grow w A w1 A c l0 := (Grow.refl HO.out.1).then m1
       obtain ⟨b1, hq1⟩ : ∃ b, b = w.heap.size := ⟨_, rfl⟩
       rw [← hq1] at hb1 ⊢
       have hb := hb1
       have hG1 := (g1.glob HO.out.2.1 HO.out.2.2).1
       clear hb1 z1 hq1 m1
       have e0 := hb.cell 0
       simp only [tmc, List.getElem?_cons_succ, List.getElem?_cons_zero] at e0)
    | (go_at_call 91; refine (FC w1 hG1).mono ?_; rintro e w2 ⟨rfl, rfl⟩; clear hG1 FC)
    | (with_reducible refine wpList_ranW (o := ⟨some 14, .convert 3 5 (.tmp 13), _, _, _, _⟩) (by with_unfolding_all rfl) (oct (Tm.b8 k)) _ (exec_c8 k0 k1 rfl rfl) ?_)
    | (with_reducible refine wpList_lits (o := ⟨some 15, .buildSlice 62 1 _, _, _, _, _⟩) rfl 62 5 1 _ rfl [oct (Tm.b8 k)] ?_ ?_
       · with_unfolding_all exact run_lit27 _ _
       intro x1 hx1 mx1 zx1
       clear zx1
       replace g1 := g1.then mx1
       replace hb := hb.keep mx1 (by simp)
       have rx1 := Reads.one hx1
       clear hx1 mx1 e0)
    | (with_reducible refine wpList_appends x1 (o := ⟨some 16, _, _, _, _, _⟩) rfl (.tmp 11) (.tmp 15) 62 rfl 5 i0 (.int .u8 0) 1 Tryd.underlying62 HI.out.1 HI.out.2.1 HI.out.2.2.1 HI.out.2.2.2 (by with_unfolding_all rfl) 0 (Nat.zero_le _) A _ c (l0) rfl rfl g1.own _ 1 1 [Tm.b8 k] rfl rfl rx1 (H1.out).1 (H1.out).2 ?_
       intro A2 c2 v2 o2 mo2 f2
       have hn2 := g1.own.nblk hb (by decide)
       have g2 := g1.trans ⟨o2, mo2, f2⟩
       replace hb := hb.keep mo2 hn2
       clear g1 rx1 o2 mo2 f2 hn2
       have e3 := hb.cell 3
       simp only [tmc, List.getElem?_cons_succ, List.getElem?_cons_zero] at e3
       obtain ⟨L2, hL2⟩ : ∃ L, L = l0 ++ [Tm.b8 k] := ⟨_, rfl⟩
       rw [← hL2] at g2 ⊢
       have hm2 : L2.length ≤ 1000000200 := by rw [hL2]; simp only [List.length_append, List.length_cons, List.length_nil]; omega
       have HE2 := Lib.hid hL2
       have HL2 := Lib.hid (len_ok (l := L2) (k := [Tm.b8 (s.size : Int)]) (by simp only [List.length_cons, List.length_nil]; omega))
       clear hL2)
    | (go_at_call 94; first | ((with_reducible refine Calls.mono (BT _) ?_); rintro e wz ⟨rfl, rfl⟩) | ((with_reducible refine Calls.mono (BU _) ?_); rintro e wz ⟨rfl, rfl⟩) | ((with_reducible refine Calls.mono (BN _) ?_); rintro e wz ⟨rfl, rfl⟩))
    | (with_reducible refine wpList_ranW (o := ⟨some 23, .convert 3 5 (.tmp 22), _, _, _, _⟩) (by with_unfolding_all rfl) (oct (Tm.b8 (s.size : Int))) _ (exec_c8 s0 s1 rfl rfl) ?_)
    | (with_reducible refine wpList_lits (o := ⟨some 24, .buildSlice 62 1 _, _, _, _, _⟩) rfl 62 5 1 _ rfl [oct (Tm.b8 (s.size : Int))] ?_ ?_
       · with_unfolding_all exact run_lit27 _ _
       intro x2 hx2 mx2 zx2
       clear zx2
       replace g2 := g2.then mx2
       replace hb := hb.keep mx2 (by simp)
       have rx2 := Reads.one hx2
       clear hx2 mx2 e3)
    | (with_reducible refine wpList_appends x2 (o := ⟨some 25, _, _, _, _, _⟩) rfl (.tmp 19) (.tmp 24) 62 rfl 5 i0 (.int .u8 0) 1 Tryd.underlying62 HI.out.1 HI.out.2.1 HI.out.2.2.1 HI.out.2.2.2 (by with_unfolding_all rfl) 0 (Nat.zero_le _) A2 _ c2 (L2) rfl rfl g2.own _ 1 1 [Tm.b8 (s.size : Int)] rfl rfl rx2 (HL2.out).1 (HL2.out).2 ?_
       intro A3 c3 v3 o3 mo3 f3
       have hn3 := g2.own.nblk hb (by decide)
       have g3 := g2.trans ⟨o3, mo3, f3⟩
       replace hb := hb.keep mo3 hn3
       clear g2 rx2 o3 mo3 f3 hn3
       have e3 := hb.cell 3
       simp only [tmc, List.getElem?_cons_succ, List.getElem?_cons_zero] at e3
       obtain ⟨L3, hL3⟩ : ∃ L, L = L2 ++ [Tm.b8 (s.size : Int)] := ⟨_, rfl⟩
       rw [← hL3] at g3 ⊢
       have hm3 : L3.length ≤ 1000000300 := by rw [hL3]; simp only [List.length_append, List.length_cons, List.length_nil]; omega
       have HE3 := Lib.hid hL3
       clear hL3)
    | (with_reducible refine wpList_appendS (o := ⟨some 29, _, _, _, _, _⟩) rfl (.tmp 26) (.tmp 28) rfl A3 _ c3 L3 rfl rfl g3.own s rfl (hs3 hm3) ?_
       intro A4 c4 v4 o4 mo4 f4
       have hn4 := g3.own.nblk hb (by decide)
       have g4 := g3.trans ⟨o4, mo4, f4⟩
       replace hb := hb.keep mo4 hn4
       obtain ⟨L4, hL4⟩ : ∃ L, L = L3 ++ s.data.toList := ⟨_, rfl⟩
       rw [← hL4] at g4 ⊢
       have HE4 := Lib.hid hL4
       clear g3 o4 mo4 f4 hn4 e3 hL4
       have e4 := hb.cell 4
       simp only [tmc, List.getElem?_cons_succ, List.getElem?_cons_zero] at e4))
  obtain ⟨LF, hLF⟩ : ∃ L : List UInt8, L = L4 := ⟨_, rfl⟩
  have HLF := Lib.hid (And.intro (show LF ++ Tm.bytesAll l = LT by rw [hLF, HE4.out, HE3.out, HE2.out]; exact HLT.out.1) HLT.out.2)
  rw [← hLF] at g4 ⊢
  clear hLF hb e4 BT BU BN
  go_loopw [0, 49] (fun r i wr => ∃ (j : Nat) (B : Option Addr) (d nn : Nat), i = .int .i64 j ∧ j ≤ len ∧ r = .slice B nn d ∧ nn = (LF ++ Tm.bytesAll (l.take j)).length ∧ Grow w A wr B d (LF ++ Tm.bytesAll (l.take j))) (fun _ i _ => len - (intOf i).toNat)
  case atStart => exact ⟨0, A4, c4, _, rfl, by omega, rfl, by simp [Tm.bytesAll], by simpa [Tm.bytesAll] using g4⟩
  case round =>
  obtain ⟨j, B, d, nn, rfl, hj, rfl, hnn, gr⟩ := hrel
  have HN := Lib.hid hnn
  clear hnn
  by_cases hjl : j < len
  case neg =>
    obtain rfl : len = j := by omega
    have gr' := gr
    rw [HR.out.1, List.take_length, HLF.out.1] at gr'
    have hn' : nn = LT.length := by rw [HN.out, HR.out.1, List.take_length, HLF.out.1]
    have HG := Lib.hid (And.intro gr' hn')
    clear gr gr' hn' HN
    go_wp2_with fail
    go_ret
    exact ⟨B, d, congrArg (fun z => Ending.returned (Value.slice B z d)) HG.out.2, HG.out.1⟩
  have hjl' : j < l.length := by rw [← HR.out.1]; exact hjl
  obtain ⟨g, q, cs, rfl, hcE, hT, hcs, hSg⟩ := HR.out.2.1.elem j hjl'
  have hSo := HR.out.2.2.2.2
  replace hcE := hcE.keep gr.mod (by rintro _ ⟨⟩; exact (hSo g hSg).2)
  have hone := hT.one
  have hst := take_next' l j hjl'
  have hbl : (LF ++ Tm.bytesAll (l.take j)).length + l[j].bytes.length ≤ 1000000000 := by
    have e1 : LF ++ Tm.bytesAll l = LF ++ Tm.bytesAll (l.take (j + 1)) ++ Tm.bytesAll (l.drop (j + 1)) := by rw [List.append_assoc, ← Tm.bytesAll_append, List.take_append_drop]
    have e2 := HLF.out.2
    rw [← HLF.out.1, e1, hst, Tm.bytesAll_append, Tm.bytesAll, Tm.bytesAll] at e2
    simp only [List.length_append, List.length_nil] at e2 ⊢
    omega
  have IHC := fun v (gv : Grow w A v B d (LF ++ Tm.bytesAll (l.take j))) => HR.out.2.2.2.1 l[j] cs S B d (LF ++ Tm.bytesAll (l.take j)) v (HR.out.2.2.1 _ (List.getElem_mem _)).1 (HR.out.2.2.1 _ (List.getElem_mem _)).2 (hT.keep gv.mod (fun i hi => (hSo i hi).2)) (gv.out hSo) (gv.glob HO.out.2.1 HO.out.2.2).1 (gv.glob HO.out.2.1 HO.out.2.2).2 gv.own hbl
  rw [← HN.out] at IHC
  have HNX : Hid (LF ++ Tm.bytesAll (l.take j) ++ l[j].bytes = LF ++ Tm.bytesAll (l.take (j + 1))) := Lib.hid (by rw [hst, Tm.bytesAll_append, Tm.bytesAll, Tm.bytesAll, List.append_nil, List.append_assoc])
  clear hT hSg hSo hst hbl
  go_wp2_with (first
    | (with_reducible refine wpList_loads (o := ⟨some 52, .load 24 (.tmp 51), _, _, _, _⟩) rfl 24 (.tmp 51) rfl g (q + j * 5) (cs) rfl (hcE) _ Tryd.underlying24 rfl (size24' hcs) (.agg (cs).toArray) rfl ?_)
    | (with_reducible refine wpList_allocs (o := ⟨some 7, .alloc 24, _, _, _, _⟩) rfl 24 rfl _ zero24 ?_; intro y7 hy7 my7 zy7; replace zy7 := Lib.hid zy7)
    | (with_reducible refine wpList_storesAll (o := ⟨none, .store 24 (.tmp 7) (.tmp 52), _, _, _, _⟩) rfl 24 (.tmp 7) (.tmp 52) rfl rfl wr.heap.size (cs) rfl (.agg (cs).toArray) rfl rfl 24 _ hy7 (zlen hcs) (hone) (size24' hcs) ?_
       intro u8 hu8 mu8 zu8
       clear zu8
       have g8 := gr.then (my7.trans mu8 (by intro i hi h; simp at h; omega))
       obtain ⟨b8, hb8⟩ : ∃ b, b = wr.heap.size := ⟨_, rfl⟩
       rw [← hb8] at hu8 ⊢
       clear hy7 my7 zy7 mu8 hb8)
    | (with_reducible refine wpList_loads (o := ⟨some 54, .load 24 (.tmp 7), _, _, _, _⟩) rfl 24 (.tmp 7) rfl b8 (0) (cs) rfl (Cells.of_holds hu8) _ Tryd.underlying24 rfl (size24' hcs) (.agg (cs).toArray) rfl ?_)
    | (go_at_call 75
       refine (IHC u8 g8).mono ?_
       rintro e w9 ⟨B', d', rfl, g9⟩
       replace g9 := g8.trans g9
       rw [HNX.out] at g9 ⊢
       clear g8 hu8 IHC gr))
  exact ⟨⟨j + 1, B', d', _, by go_num, by omega, rfl, by simp only [List.length_append], g9⟩, by simp [intOf]; omega⟩
end
section
open Go.RowKit Go.Shelf
set_option linter.unusedSimpArgs false
set_option linter.unusedVariables false
set_option maxRecDepth 1000000 in
set_option maxHeartbeats 4000000 in
theorem lay_UN (m : Nat) (ih : LayAll m) (k u n : Int) (s : ByteArray) (K : Option Addr) (len cc : Nat) (l : List Tm) (vs : List (List Value)) (S : Nat → Prop) (A : Option Addr) (c : Nat) (l0 : List UInt8) (w : World) (hlen : len = l.length) (hlm : len ≤ 2199023255552) (hr : RowT w S K vs l) (hd : ∀ t ∈ l, t.depth ≤ m ∧ t.ok = true)
    (hS : ∀ g, S g → g < w.heap.size ∧ g ∉ blk A) (G : Glob w) (h0 : 0 ∉ blk A) (hO : Owns w 0 5 A c l0) (hL : l0.length ≤ 1000000000) (k0 : 0 ≤ k) (k1 : k < 256) (u0 : 0 ≤ u) (u1 : u < 256) (n0 : 0 ≤ n) (n3 : n ≤ 65535) (hT : hasB (flds k) 1 = false) (hU : hasB (flds k) 2 = true) (hN : hasB (flds k) 4 = true)
    (LT : List UInt8) (hLT : (((l0 ++ [Tm.b8 k]) ++ [Tm.b8 u]) ++ [Tm.b8 (n / 256), Tm.b8 (n % 256)]) ++ Tm.bytesAll l = LT) (hLL : LT.length ≤ 1000000000) :
    Calls Tryd.prog 75 #[.slice A l0.length c, .agg (tmc k u n s K len cc).toArray] w (LayP w A LT) := by
  obtain ⟨F, hF⟩ : ∃ F, F = flds k := ⟨_, rfl⟩
  have FC := fun v (g : Glob v) => fieldsOf_c k v g
  rw [← hF] at hT hU hN FC
  have BT := has_b F 1 false hT
  have BU := has_b F 2 true hU
  have BN := has_b F 4 true hN
  obtain ⟨i0, i1, i2, i3, i4⟩ := info5
  have HI := Lib.hid (And.intro i1 (And.intro i2 (And.intro i3 i4)))
  have HO := Lib.hid (And.intro hO (And.intro G h0))
  have HR := Lib.hid (And.intro hlen (And.intro hr (And.intro hd (And.intro ih hS))))
  have HLT := Lib.hid (And.intro hLT hLL)
  have H1 := Lib.hid (len_ok (l := l0) (k := [Tm.b8 k]) (by simp only [List.length_cons, List.length_nil]; omega))
  have n1 : n < 65536 := by omega
  have n2 : n.toNat < 65536 := by omega
  clear hF hT hU hN i1 i2 i3 i4 hO G h0 hlen hr hd ih hS hLT hLL
  go_enter Tryd.func75, Tryd.ntmps75
  go_wp2_with (first
    | (with_reducible refine wpList_boxes (o := ⟨some 3, .box 24 (.tmp 1), _, _, _, _⟩) rfl 24 (.tmp 1) rfl _ rfl (tmc k u n s K len cc) rfl ?_; intro w1 hb1 m1 z1; replace z1 := Lib.hid z1
       have g1 : Grow w A w1 A c l0 := (Grow.refl HO.out.1).then m1
       obtain ⟨b1, hq1⟩ : ∃ b, b = w.heap.size := ⟨_, rfl⟩
       rw [← hq1] at hb1 ⊢
       have hb := hb1
       have hG1 := (g1.glob HO.out.2.1 HO.out.2.2).1
       clear hb1 z1 hq1 m1
       have e0 := hb.cell 0
       simp only [tmc, List.getElem?_cons_succ, List.getElem?_cons_zero] at e0)
    | (go_at_call 91; refine (FC w1 hG1).mono ?_; rintro e w2 ⟨rfl, rfl⟩; clear hG1 FC)
    | (with_reducible refine wpList_ranW (o := ⟨some 14, .convert 3 5 (.tmp 13), _, _, _, _⟩) (by with_unfolding_all rfl) (oct (Tm.b8 k)) _ (exec_c8 k0 k1 rfl rfl) ?_)
    | (with_reducible refine wpList_lits (o := ⟨some 15, .buildSlice 62 1 _, _, _, _, _⟩) rfl 62 5 1 _ rfl [oct (Tm.b8 k)] ?_ ?_
       · with_unfolding_all exact run_lit27 _ _
       intro x1 hx1 mx1 zx1
       clear zx1
       replace g1 := g1.then mx1
       replace hb := hb.keep mx1 (by simp)
       have rx1 := Reads.one hx1
       clear hx1 mx1 e0)
    | (with_reducible refine wpList_appends x1 (o := ⟨some 16, _, _, _, _, _⟩) rfl (.tmp 11) (.tmp 15) 62 rfl 5 i0 (.int .u8 0) 1 Tryd.underlying62 HI.out.1 HI.out.2.1 HI.out.2.2.1 HI.out.2.2.2 (by with_unfolding_all rfl) 0 (Nat.zero_le _) A _ c (l0) rfl rfl g1.own _ 1 1 [Tm.b8 k] rfl rfl rx1 (H1.out).1 (H1.out).2 ?_
       intro A2 c2 v2 o2 mo2 f2
       have hn2 := g1.own.nblk hb (by decide)
       have g2 := g1.trans ⟨o2, mo2, f2⟩
       replace hb := hb.keep mo2 hn2
       clear g1 rx1 o2 mo2 f2 hn2
       have e1 := hb.cell 1
       simp only [tmc, List.getElem?_cons_succ, List.getElem?_cons_zero] at e1
       obtain ⟨L2, hL2⟩ : ∃ L, L = l0 ++ [Tm.b8 k] := ⟨_, rfl⟩
       rw [← hL2] at g2 ⊢
       have hm2 : L2.length ≤ 1000000200 := by rw [hL2]; simp only [List.length_append, List.length_cons, List.length_nil]; omega
       have HE2 := Lib.hid hL2
       have HL2 := Lib.hid (len_ok (l := L2) (k := [Tm.b8 u]) (by simp only [List.length_cons, List.length_nil]; omega))
       clear hL2)
    | (go_at_call 94; first | ((with_reducible refine Calls.mono (BT _) ?_); rintro e wz ⟨rfl, rfl⟩) | ((with_reducible refine Calls.mono (BU _) ?_); rintro e wz ⟨rfl, rfl⟩) | ((with_reducible refine Calls.mono (BN _) ?_); rintro e wz ⟨rfl, rfl⟩))
    | (with_reducible refine wpList_ranW (o := ⟨some 35, .convert 3 5 (.tmp 34), _, _, _, _⟩) (by with_unfolding_all rfl) (oct (Tm.b8 u)) _ (exec_c8 u0 u1 rfl rfl) ?_)
    | (with_reducible refine wpList_lits (o := ⟨some 36, .buildSlice 62 1 _, _, _, _, _⟩) rfl 62 5 1 _ rfl [oct (Tm.b8 u)] ?_ ?_
       · with_unfolding_all exact run_lit27 _ _
       intro x2 hx2 mx2 zx2
       clear zx2
       replace g2 := g2.then mx2
       replace hb := hb.keep mx2 (by simp)
       have rx2 := Reads.one hx2
       clear hx2 mx2 e1)
    | (with_reducible refine wpList_appends x2 (o := ⟨some 37, _, _, _, _, _⟩) rfl (.tmp 32) (.tmp 36) 62 rfl 5 i0 (.int .u8 0) 1 Tryd.underlying62 HI.out.1 HI.out.2.1 HI.out.2.2.1 HI.out.2.2.2 (by with_unfolding_all rfl) 0 (Nat.zero_le _) A2 _ c2 (L2) rfl rfl g2.own _ 1 1 [Tm.b8 u] rfl rfl rx2 (HL2.out).1 (HL2.out).2 ?_
       intro A3 c3 v3 o3 mo3 f3
       have hn3 := g2.own.nblk hb (by decide)
       have g3 := g2.trans ⟨o3, mo3, f3⟩
       replace hb := hb.keep mo3 hn3
       clear g2 rx2 o3 mo3 f3 hn3
       have e2 := hb.cell 2
       simp only [tmc, List.getElem?_cons_succ, List.getElem?_cons_zero] at e2
       obtain ⟨L3, hL3⟩ : ∃ L, L = L2 ++ [Tm.b8 u] := ⟨_, rfl⟩
       rw [← hL3] at g3 ⊢
       have hm3 : L3.length ≤ 1000000300 := by rw [hL3]; simp only [List.length_append, List.length_cons, List.length_nil]; omega
       have HE3 := Lib.hid hL3
       have HL3 := Lib.hid (len_ok (l := L3) (k := [Tm.b8 (n / 256), Tm.b8 (n % 256)]) (by simp only [List.length_cons, List.length_nil]; omega))
       clear hL3)
    | (with_reducible refine wpList_ranW (o := ⟨some 43, .convert 3 127 (.tmp 42), _, _, _, _⟩) (by with_unfolding_all rfl) (.int .u16 n) _ (exec_c16 n0 n1 rfl rfl) ?_)
    | (go_at_call 95; refine (put16n_c n _ n0 n3).mono ?_; rintro e x9 ⟨rfl, hx9, mx9⟩
       replace g3 := g3.then mx9
       replace hb := hb.keep mx9 (by simp)
       have rx9 := Reads.of_holds hx9
       clear hx9 mx9 e2)
    | (with_reducible refine wpList_appends x9 (o := ⟨some 45, _, _, _, _, _⟩) rfl (.tmp 40) (.tmp 44) 62 rfl 5 i0 (.int .u8 0) 1 Tryd.underlying62 HI.out.1 HI.out.2.1 HI.out.2.2.1 HI.out.2.2.2 (by with_unfolding_all rfl) 0 (Nat.zero_le _) A3 _ c3 L3 rfl rfl g3.own _ 2 2 [Tm.b8 (n / 256), Tm.b8 (n % 256)] rfl rfl rx9 HL3.out.1 HL3.out.2 ?_
       intro A4 c4 v4 o4 mo4 f4
       have hn4 := g3.own.nblk hb (by decide)
       have g4 := g3.trans ⟨o4, mo4, f4⟩
       replace hb := hb.keep mo4 hn4
       clear g3 rx9 o4 mo4 f4 hn4
       have e4 := hb.cell 4
       simp only [tmc, List.getElem?_cons_succ, List.getElem?_cons_zero] at e4
       obtain ⟨L4, hL4⟩ : ∃ L, L = L3 ++ [Tm.b8 (n / 256), Tm.b8 (n % 256)] := ⟨_, rfl⟩
       rw [← hL4] at g4 ⊢
       have hm4 : L4.length ≤ 1000000400 := by rw [hL4]; simp only [List.length_append, List.length_cons, List.length_nil]; omega
       have HE4 := Lib.hid hL4
       clear hL4))
  obtain ⟨LF, hLF⟩ : ∃ L : List UInt8, L = L4 := ⟨_, rfl⟩
  have HLF := Lib.hid (And.intro (show LF ++ Tm.bytesAll l = LT by rw [hLF, HE4.out, HE3.out, HE2.out]; exact HLT.out.1) HLT.out.2)
  rw [← hLF] at g4 ⊢
  clear hLF hb e4 BT BU BN
  go_loopw [0, 49] (fun r i wr => ∃ (j : Nat) (B : Option Addr) (d nn : Nat), i = .int .i64 j ∧ j ≤ len ∧ r = .slice B nn d ∧ nn = (LF ++ Tm.bytesAll (l.take j)).length ∧ Grow w A wr B d (LF ++ Tm.bytesAll (l.take j))) (fun _ i _ => len - (intOf i).toNat)
  case atStart => exact ⟨0, A4, c4, _, rfl, by omega, rfl, by simp [Tm.bytesAll], by simpa [Tm.bytesAll] using g4⟩
  case round =>
  obtain ⟨j, B, d, nn, rfl, hj, rfl, hnn, gr⟩ := hrel
  have HN := Lib.hid hnn
  clear hnn
  by_cases hjl : j < len
  case neg =>
    obtain rfl : len = j := by omega
    have gr' := gr
    rw [HR.out.1, List.take_length, HLF.out.1] at gr'
    have hn' : nn = LT.length := by rw [HN.out, HR.out.1, List.take_length, HLF.out.1]
    have HG := Lib.hid (And.intro gr' hn')
    clear gr gr' hn' HN
    go_wp2_with fail
    go_ret
    exact ⟨B, d, congrArg (fun z => Ending.returned (Value.slice B z d)) HG.out.2, HG.out.1⟩
  have hjl' : j < l.length := by rw [← HR.out.1]; exact hjl
  obtain ⟨g, q, cs, rfl, hcE, hT, hcs, hSg⟩ := HR.out.2.1.elem j hjl'
  have hSo := HR.out.2.2.2.2
  replace hcE := hcE.keep gr.mod (by rintro _ ⟨⟩; exact (hSo g hSg).2)
  have hone := hT.one
  have hst := take_next' l j hjl'
  have hbl : (LF ++ Tm.bytesAll (l.take j)).length + l[j].bytes.length ≤ 1000000000 := by
    have e1 : LF ++ Tm.bytesAll l = LF ++ Tm.bytesAll (l.take (j + 1)) ++ Tm.bytesAll (l.drop (j + 1)) := by rw [List.append_assoc, ← Tm.bytesAll_append, List.take_append_drop]
    have e2 := HLF.out.2
    rw [← HLF.out.1, e1, hst, Tm.bytesAll_append, Tm.bytesAll, Tm.bytesAll] at e2
    simp only [List.length_append, List.length_nil] at e2 ⊢
    omega
  have IHC := fun v (gv : Grow w A v B d (LF ++ Tm.bytesAll (l.take j))) => HR.out.2.2.2.1 l[j] cs S B d (LF ++ Tm.bytesAll (l.take j)) v (HR.out.2.2.1 _ (List.getElem_mem _)).1 (HR.out.2.2.1 _ (List.getElem_mem _)).2 (hT.keep gv.mod (fun i hi => (hSo i hi).2)) (gv.out hSo) (gv.glob HO.out.2.1 HO.out.2.2).1 (gv.glob HO.out.2.1 HO.out.2.2).2 gv.own hbl
  rw [← HN.out] at IHC
  have HNX : Hid (LF ++ Tm.bytesAll (l.take j) ++ l[j].bytes = LF ++ Tm.bytesAll (l.take (j + 1))) := Lib.hid (by rw [hst, Tm.bytesAll_append, Tm.bytesAll, Tm.bytesAll, List.append_nil, List.append_assoc])
  clear hT hSg hSo hst hbl
  go_wp2_with (first
    | (with_reducible refine wpList_loads (o := ⟨some 52, .load 24 (.tmp 51), _, _, _, _⟩) rfl 24 (.tmp 51) rfl g (q + j * 5) (cs) rfl (hcE) _ Tryd.underlying24 rfl (size24' hcs) (.agg (cs).toArray) rfl ?_)
    | (with_reducible refine wpList_allocs (o := ⟨some 7, .alloc 24, _, _, _, _⟩) rfl 24 rfl _ zero24 ?_; intro y7 hy7 my7 zy7; replace zy7 := Lib.hid zy7)
    | (with_reducible refine wpList_storesAll (o := ⟨none, .store 24 (.tmp 7) (.tmp 52), _, _, _, _⟩) rfl 24 (.tmp 7) (.tmp 52) rfl rfl wr.heap.size (cs) rfl (.agg (cs).toArray) rfl rfl 24 _ hy7 (zlen hcs) (hone) (size24' hcs) ?_
       intro u8 hu8 mu8 zu8
       clear zu8
       have g8 := gr.then (my7.trans mu8 (by intro i hi h; simp at h; omega))
       obtain ⟨b8, hb8⟩ : ∃ b, b = wr.heap.size := ⟨_, rfl⟩
       rw [← hb8] at hu8 ⊢
       clear hy7 my7 zy7 mu8 hb8)
    | (with_reducible refine wpList_loads (o := ⟨some 54, .load 24 (.tmp 7), _, _, _, _⟩) rfl 24 (.tmp 7) rfl b8 (0) (cs) rfl (Cells.of_holds hu8) _ Tryd.underlying24 rfl (size24' hcs) (.agg (cs).toArray) rfl ?_)
    | (go_at_call 75
       refine (IHC u8 g8).mono ?_
       rintro e w9 ⟨B', d', rfl, g9⟩
       replace g9 := g8.trans g9
       rw [HNX.out] at g9 ⊢
       clear g8 hu8 IHC gr))
  exact ⟨⟨j + 1, B', d', _, by go_num, by omega, rfl, by simp only [List.length_append], g9⟩, by simp [intOf]; omega⟩
end
section
open Go.RowKit Go.Shelf
set_option linter.unusedSimpArgs false
set_option linter.unusedVariables false
set_option maxRecDepth 1000000 in
set_option maxHeartbeats 4000000 in
theorem lay_U (m : Nat) (ih : LayAll m) (k u n : Int) (s : ByteArray) (K : Option Addr) (len cc : Nat) (l : List Tm) (vs : List (List Value)) (S : Nat → Prop) (A : Option Addr) (c : Nat) (l0 : List UInt8) (w : World) (hlen : len = l.length) (hlm : len ≤ 2199023255552) (hr : RowT w S K vs l) (hd : ∀ t ∈ l, t.depth ≤ m ∧ t.ok = true)
    (hS : ∀ g, S g → g < w.heap.size ∧ g ∉ blk A) (G : Glob w) (h0 : 0 ∉ blk A) (hO : Owns w 0 5 A c l0) (hL : l0.length ≤ 1000000000) (k0 : 0 ≤ k) (k1 : k < 256) (u0 : 0 ≤ u) (u1 : u < 256) (hT : hasB (flds k) 1 = false) (hU : hasB (flds k) 2 = true) (hN : hasB (flds k) 4 = false)
    (LT : List UInt8) (hLT : ((l0 ++ [Tm.b8 k]) ++ [Tm.b8 u]) ++ Tm.bytesAll l = LT) (hLL : LT.length ≤ 1000000000) :
    Calls Tryd.prog 75 #[.slice A l0.length c, .agg (tmc k u n s K len cc).toArray] w (LayP w A LT) := by
  obtain ⟨F, hF⟩ : ∃ F, F = flds k := ⟨_, rfl⟩
  have FC := fun v (g : Glob v) => fieldsOf_c k v g
  rw [← hF] at hT hU hN FC
  have BT := has_b F 1 false hT
  have BU := has_b F 2 true hU
  have BN := has_b F 4 false hN
  obtain ⟨i0, i1, i2, i3, i4⟩ := info5
  have HI := Lib.hid (And.intro i1 (And.intro i2 (And.intro i3 i4)))
  have HO := Lib.hid (And.intro hO (And.intro G h0))
  have HR := Lib.hid (And.intro hlen (And.intro hr (And.intro hd (And.intro ih hS))))
  have HLT := Lib.hid (And.intro hLT hLL)
  have H1 := Lib.hid (len_ok (l := l0) (k := [Tm.b8 k]) (by simp only [List.length_cons, List.length_nil]; omega))
  clear hF hT hU hN i1 i2 i3 i4 hO G h0 hlen hr hd ih hS hLT hLL
  go_enter Tryd.func75, Tryd.ntmps75
  go_wp2_with (first
    | (with_reducible refine wpList_boxes (o := ⟨some 3, .box 24 (.tmp 1), _, _, _, _⟩) rfl 24 (.tmp 1) rfl _ rfl (tmc k u n s K len cc) rfl ?_; intro w1 hb1 m1 z1; replace z1 := Lib.hid z1
       have g1 : Grow w A w1 A c l0 := (Grow.refl HO.out.1).then m1
       obtain ⟨b1, hq1⟩ : ∃ b, b = w.heap.size := ⟨_, rfl⟩
       rw [← hq1] at hb1 ⊢
       have hb := hb1
       have hG1 := (g1.glob HO.out.2.1 HO.out.2.2).1
       clear hb1 z1 hq1 m1
       have e0 := hb.cell 0
       simp only [tmc, List.getElem?_cons_succ, List.getElem?_cons_zero] at e0)
    | (go_at_call 91; refine (FC w1 hG1).mono ?_; rintro e w2 ⟨rfl, rfl⟩; clear hG1 FC)
    | (with_reducible refine wpList_ranW (o := ⟨some 14, .convert 3 5 (.tmp 13), _, _, _, _⟩) (by with_unfolding_all rfl) (oct (Tm.b8 k)) _ (exec_c8 k0 k1 rfl rfl) ?_)
    | (with_reducible refine wpList_lits (o := ⟨some 15, .buildSlice 62 1 _, _, _, _, _⟩) rfl 62 5 1 _ rfl [oct (Tm.b8 k)] ?_ ?_
       · with_unfolding_all exact run_lit27 _ _
       intro x1 hx1 mx1 zx1
       clear zx1
       replace g1 := g1.then mx1
       replace hb := hb.keep mx1 (by simp)
       have rx1 := Reads.one hx1
       clear hx1 mx1 e0)
    | (with_reducible refine wpList_appends x1 (o := ⟨some 16, _, _, _, _, _⟩) rfl (.tmp 11) (.tmp 15) 62 rfl 5 i0 (.int .u8 0) 1 Tryd.underlying62 HI.out.1 HI.out.2.1 HI.out.2.2.1 HI.out.2.2.2 (by with_unfolding_all rfl) 0 (Nat.zero_le _) A _ c (l0) rfl rfl g1.own _ 1 1 [Tm.b8 k] rfl rfl rx1 (H1.out).1 (H1.out).2 ?_
       intro A2 c2 v2 o2 mo2 f2
       have hn2 := g1.own.nblk hb (by decide)
       have g2 := g1.trans ⟨o2, mo2, f2⟩
       replace hb := hb.keep mo2 hn2
       clear g1 rx1 o2 mo2 f2 hn2
       have e1 := hb.cell 1
       simp only [tmc, List.getElem?_cons_succ, List.getElem?_cons_zero] at e1
       obtain ⟨L2, hL2⟩ : ∃ L, L = l0 ++ [Tm.b8 k] := ⟨_, rfl⟩
       rw [← hL2] at g2 ⊢
       have hm2 : L2.length ≤ 1000000200 := by rw [hL2]; simp only [List.length_append, List.length_cons, List.length_nil]; omega
       have HE2 := Lib.hid hL2
       have HL2 := Lib.hid (len_ok (l := L2) (k := [Tm.b8 u]) (by simp only [List.length_cons, List.length_nil]; omega))
       clear hL2)
    | (go_at_call 94; first | ((with_reducible refine Calls.mono (BT _) ?_); rintro e wz ⟨rfl, rfl⟩) | ((with_reducible refine Calls.mono (BU _) ?_); rintro e wz ⟨rfl, rfl⟩) | ((with_reducible refine Calls.mono (BN _) ?_); rintro e wz ⟨rfl, rfl⟩))
    | (with_reducible refine wpList_ranW (o := ⟨some 35, .convert 3 5 (.tmp 34), _, _, _, _⟩) (by with_unfolding_all rfl) (oct (Tm.b8 u)) _ (exec_c8 u0 u1 rfl rfl) ?_)
    | (with_reducible refine wpList_lits (o := ⟨some 36, .buildSlice 62 1 _, _, _, _, _⟩) rfl 62 5 1 _ rfl [oct (Tm.b8 u)] ?_ ?_
       · with_unfolding_all exact run_lit27 _ _
       intro x2 hx2 mx2 zx2
       clear zx2
       replace g2 := g2.then mx2
       replace hb := hb.keep mx2 (by simp)
       have rx2 := Reads.one hx2
       clear hx2 mx2 e1)
    | (with_reducible refine wpList_appends x2 (o := ⟨some 37, _, _, _, _, _⟩) rfl (.tmp 32) (.tmp 36) 62 rfl 5 i0 (.int .u8 0) 1 Tryd.underlying62 HI.out.1 HI.out.2.1 HI.out.2.2.1 HI.out.2.2.2 (by with_unfolding_all rfl) 0 (Nat.zero_le _) A2 _ c2 (L2) rfl rfl g2.own _ 1 1 [Tm.b8 u] rfl rfl rx2 (HL2.out).1 (HL2.out).2 ?_
       intro A3 c3 v3 o3 mo3 f3
       have hn3 := g2.own.nblk hb (by decide)
       have g3 := g2.trans ⟨o3, mo3, f3⟩
       replace hb := hb.keep mo3 hn3
       clear g2 rx2 o3 mo3 f3 hn3
       have e4 := hb.cell 4
       simp only [tmc, List.getElem?_cons_succ, List.getElem?_cons_zero] at e4
       obtain ⟨L3, hL3⟩ : ∃ L, L = L2 ++ [Tm.b8 u] := ⟨_, rfl⟩
       rw [← hL3] at g3 ⊢
       have hm3 : L3.length ≤ 1000000300 := by rw [hL3]; simp only [List.length_append, List.length_cons, List.length_nil]; omega
       have HE3 := Lib.hid hL3
       clear hL3))
  obtain ⟨LF, hLF⟩ : ∃ L : List UInt8, L = L3 := ⟨_, rfl⟩
  have HLF := Lib.hid (And.intro (show LF ++ Tm.bytesAll l = LT by rw [hLF, HE3.out, HE2.out]; exact HLT.out.1) HLT.out.2)
  rw [← hLF] at g3 ⊢
  clear hLF hb e4 BT BU BN
  go_loopw [0, 49] (fun r i wr => ∃ (j : Nat) (B : Option Addr) (d nn : Nat), i = .int .i64 j ∧ j ≤ len ∧ r = .slice B nn d ∧ nn = (LF ++ Tm.bytesAll (l.take j)).length ∧ Grow w A wr B d (LF ++ Tm.bytesAll (l.take j))) (fun _ i _ => len - (intOf i).toNat)
  case atStart => exact ⟨0, A3, c3, _, rfl, by omega, rfl, by simp [Tm.bytesAll], by simpa [Tm.bytesAll] using g3⟩
  case round =>
  obtain ⟨j, B, d, nn, rfl, hj, rfl, hnn, gr⟩ := hrel
  have HN := Lib.hid hnn
  clear hnn
  by_cases hjl : j < len
  case neg =>
    obtain rfl : len = j := by omega
    have gr' := gr
    rw [HR.out.1, List.take_length, HLF.out.1] at gr'
    have hn' : nn = LT.length := by rw [HN.out, HR.out.1, List.take_length, HLF.out.1]
    have HG := Lib.hid (And.intro gr' hn')
    clear gr gr' hn' HN
    go_wp2_with fail
    go_ret
    exact ⟨B, d, congrArg (fun z => Ending.returned (Value.slice B z d)) HG.out.2, HG.out.1⟩
  have hjl' : j < l.length := by rw [← HR.out.1]; exact hjl
  obtain ⟨g, q, cs, rfl, hcE, hT, hcs, hSg⟩ := HR.out.2.1.elem j hjl'
  have hSo := HR.out.2.2.2.2
  replace hcE := hcE.keep gr.mod (by rintro _ ⟨⟩; exact (hSo g hSg).2)
  have hone := hT.one
  have hst := take_next' l j hjl'
  have hbl : (LF ++ Tm.bytesAll (l.take j)).length + l[j].bytes.length ≤ 1000000000 := by
    have e1 : LF ++ Tm.bytesAll l = LF ++ Tm.bytesAll (l.take (j + 1)) ++ Tm.bytesAll (l.drop (j + 1)) := by rw [List.append_assoc, ← Tm.bytesAll_append, List.take_append_drop]
    have e2 := HLF.out.2
    rw [← HLF.out.1, e1, hst, Tm.bytesAll_append, Tm.bytesAll, Tm.bytesAll] at e2
    simp only [List.length_append, List.length_nil] at e2 ⊢
    omega
  have IHC := fun v (gv : Grow w A v B d (LF ++ Tm.bytesAll (l.take j))) => HR.out.2.2.2.1 l[j] cs S B d (LF ++ Tm.bytesAll (l.take j)) v (HR.out.2.2.1 _ (List.getElem_mem _)).1 (HR.out.2.2.1 _ (List.getElem_mem _)).2 (hT.keep gv.mod (fun i hi => (hSo i hi).2)) (gv.out hSo) (gv.glob HO.out.2.1 HO.out.2.2).1 (gv.glob HO.out.2.1 HO.out.2.2).2 gv.own hbl
  rw [← HN.out] at IHC
  have HNX : Hid (LF ++ Tm.bytesAll (l.take j) ++ l[j].bytes = LF ++ Tm.bytesAll (l.take (j + 1))) := Lib.hid (by rw [hst, Tm.bytesAll_append, Tm.bytesAll, Tm.bytesAll, List.append_nil, List.append_assoc])
  clear hT hSg hSo hst hbl
  go_wp2_with (first
    | (with_reducible refine wpList_loads (o := ⟨some 52, .load 24 (.tmp 51), _, _, _, _⟩) rfl 24 (.tmp 51) rfl g (q + j * 5) (cs) rfl (hcE) _ Tryd.underlying24 rfl (size24' hcs) (.agg (cs).toArray) rfl ?_)
    | (with_reducible refine wpList_allocs (o := ⟨some 7, .alloc 24, _, _, _, _⟩) rfl 24 rfl _ zero24 ?_; intro y7 hy7 my7 zy7; replace zy7 := Lib.hid zy7)
    | (with_reducible refine wpList_storesAll (o := ⟨none, .store 24 (.tmp 7) (.tmp 52), _, _, _, _⟩) rfl 24 (.tmp 7) (.tmp 52) rfl rfl wr.heap.size (cs) rfl (.agg (cs).toArray) rfl rfl 24 _ hy7 (zlen hcs) (hone) (size24' hcs) ?_
       intro u8 hu8 mu8 zu8
       clear zu8
       have g8 := gr.then (my7.trans mu8 (by intro i hi h; simp at h; omega))
       obtain ⟨b8, hb8⟩ : ∃ b, b = wr.heap.size := ⟨_, rfl⟩
       rw [← hb8] at hu8 ⊢
       clear hy7 my7 zy7 mu8 hb8)
    | (with_reducible refine wpList_loads (o := ⟨some 54, .load 24 (.tmp 7), _, _, _, _⟩) rfl 24 (.tmp 7) rfl b8 (0) (cs) rfl (Cells.of_holds hu8) _ Tryd.underlying24 rfl (size24' hcs) (.agg (cs).toArray) rfl ?_)
    | (go_at_call 75
       refine (IHC u8 g8).mono ?_
       rintro e w9 ⟨B', d', rfl, g9⟩
       replace g9 := g8.trans g9
       rw [HNX.out] at g9 ⊢
       clear g8 hu8 IHC gr))
  exact ⟨⟨j + 1, B', d', _, by go_num, by omega, rfl, by simp only [List.length_append], g9⟩, by simp [intOf]; omega⟩
end
section
open Go.RowKit Go.Shelf
set_option linter.unusedSimpArgs false
set_option linter.unusedVariables false
set_option maxRecDepth 1000000 in
set_option maxHeartbeats 4000000 in
theorem lay_O (m : Nat) (ih : LayAll m) (k u n : Int) (s : ByteArray) (K : Option Addr) (len cc : Nat) (l : List Tm) (vs : List (List Value)) (S : Nat → Prop) (A : Option Addr) (c : Nat) (l0 : List UInt8) (w : World) (hlen : len = l.length) (hlm : len ≤ 2199023255552) (hr : RowT w S K vs l) (hd : ∀ t ∈ l, t.depth ≤ m ∧ t.ok = true)
    (hS : ∀ g, S g → g < w.heap.size ∧ g ∉ blk A) (G : Glob w) (h0 : 0 ∉ blk A) (hO : Owns w 0 5 A c l0) (hL : l0.length ≤ 1000000000) (k0 : 0 ≤ k) (k1 : k < 256) (hT : hasB (flds k) 1 = false) (hU : hasB (flds k) 2 = false) (hN : hasB (flds k) 4 = false)
    (LT : List UInt8) (hLT : (l0 ++ [Tm.b8 k]) ++ Tm.bytesAll l = LT) (hLL : LT.length ≤ 1000000000) :
    Calls Tryd.prog 75 #[.slice A l0.length c, .agg (tmc k u n s K len cc).toArray] w (LayP w A LT) := by
  obtain ⟨F, hF⟩ : ∃ F, F = flds k := ⟨_, rfl⟩
  have FC := fun v (g : Glob v) => fieldsOf_c k v g
  rw [← hF] at hT hU hN FC
  have BT := has_b F 1 false hT
  have BU := has_b F 2 false hU
  have BN := has_b F 4 false hN
  obtain ⟨i0, i1, i2, i3, i4⟩ := info5
  have HI := Lib.hid (And.intro i1 (And.intro i2 (And.intro i3 i4)))
  have HO := Lib.hid (And.intro hO (And.intro G h0))
  have HR := Lib.hid (And.intro hlen (And.intro hr (And.intro hd (And.intro ih hS))))
  have HLT := Lib.hid (And.intro hLT hLL)
  have H1 := Lib.hid (len_ok (l := l0) (k := [Tm.b8 k]) (by simp only [List.length_cons, List.length_nil]; omega))
  clear hF hT hU hN i1 i2 i3 i4 hO G h0 hlen hr hd ih hS hLT hLL
  go_enter Tryd.func75, Tryd.ntmps75
  go_wp2_with (first
    | (with_reducible refine wpList_boxes (o := ⟨some 3, .box 24 (.tmp 1), _, _, _, _⟩) rfl 24 (.tmp 1) rfl _ rfl (tmc k u n s K len cc) rfl ?_; intro w1 hb1 m1 z1; replace z1 := Lib.hid z1
       have g1 : Grow w A w1 A c l0 := (Grow.refl HO.out.1).then m1
       obtain ⟨b1, hq1⟩ : ∃ b, b = w.heap.size := ⟨_, rfl⟩
       rw [← hq1] at hb1 ⊢
       have hb := hb1
       have hG1 := (g1.glob HO.out.2.1 HO.out.2.2).1
       clear hb1 z1 hq1 m1
       have e0 := hb.cell 0
       simp only [tmc, List.getElem?_cons_succ, List.getElem?_cons_zero] at e0)
    | (go_at_call 91; refine (FC w1 hG1).mono ?_; rintro e w2 ⟨rfl, rfl⟩; clear hG1 FC)
    | (with_reducible refine wpList_ranW (o := ⟨some 14, .convert 3 5 (.tmp 13), _, _, _, _⟩) (by with_unfolding_all rfl) (oct (Tm.b8 k)) _ (exec_c8 k0 k1 rfl rfl) ?_)
    | (with_reducible refine wpList_lits (o := ⟨some 15, .buildSlice 62 1 _, _, _, _, _⟩) rfl 62 5 1 _ rfl [oct (Tm.b8 k)] ?_ ?_
       · with_unfolding_all exact run_lit27 _ _
       intro x1 hx1 mx1 zx1
       clear zx1
       replace g1 := g1.then mx1
       replace hb := hb.keep mx1 (by simp)
       have rx1 := Reads.one hx1
       clear hx1 mx1 e0)
    | (with_reducible refine wpList_appends x1 (o := ⟨some 16, _, _, _, _, _⟩) rfl (.tmp 11) (.tmp 15) 62 rfl 5 i0 (.int .u8 0) 1 Tryd.underlying62 HI.out.1 HI.out.2.1 HI.out.2.2.1 HI.out.2.2.2 (by with_unfolding_all rfl) 0 (Nat.zero_le _) A _ c (l0) rfl rfl g1.own _ 1 1 [Tm.b8 k] rfl rfl rx1 (H1.out).1 (H1.out).2 ?_
       intro A2 c2 v2 o2 mo2 f2
       have hn2 := g1.own.nblk hb (by decide)
       have g2 := g1.trans ⟨o2, mo2, f2⟩
       replace hb := hb.keep mo2 hn2
       clear g1 rx1 o2 mo2 f2 hn2
       have e4 := hb.cell 4
       simp only [tmc, List.getElem?_cons_succ, List.getElem?_cons_zero] at e4
       obtain ⟨L2, hL2⟩ : ∃ L, L = l0 ++ [Tm.b8 k] := ⟨_, rfl⟩
       rw [← hL2] at g2 ⊢
       have hm2 : L2.length ≤ 1000000200 := by rw [hL2]; simp only [List.length_append, List.length_cons, List.length_nil]; omega
       have HE2 := Lib.hid hL2
       clear hL2)
    | (go_at_call 94; first | ((with_reducible refine Calls.mono (BT _) ?_); rintro e wz ⟨rfl, rfl⟩) | ((with_reducible refine Calls.mono (BU _) ?_); rintro e wz ⟨rfl, rfl⟩) | ((with_reducible refine Calls.mono (BN _) ?_); rintro e wz ⟨rfl, rfl⟩)))
  obtain ⟨LF, hLF⟩ : ∃ L : List UInt8, L = L2 := ⟨_, rfl⟩
  have HLF := Lib.hid (And.intro (show LF ++ Tm.bytesAll l = LT by rw [hLF, HE2.out]; exact HLT.out.1) HLT.out.2)
  rw [← hLF] at g2 ⊢
  clear hLF hb e4 BT BU BN
  go_loopw [0, 49] (fun r i wr => ∃ (j : Nat) (B : Option Addr) (d nn : Nat), i = .int .i64 j ∧ j ≤ len ∧ r = .slice B nn d ∧ nn = (LF ++ Tm.bytesAll (l.take j)).length ∧ Grow w A wr B d (LF ++ Tm.bytesAll (l.take j))) (fun _ i _ => len - (intOf i).toNat)
  case atStart => exact ⟨0, A2, c2, _, rfl, by omega, rfl, by simp [Tm.bytesAll], by simpa [Tm.bytesAll] using g2⟩
  case round =>
  obtain ⟨j, B, d, nn, rfl, hj, rfl, hnn, gr⟩ := hrel
  have HN := Lib.hid hnn
  clear hnn
  by_cases hjl : j < len
  case neg =>
    obtain rfl : len = j := by omega
    have gr' := gr
    rw [HR.out.1, List.take_length, HLF.out.1] at gr'
    have hn' : nn = LT.length := by rw [HN.out, HR.out.1, List.take_length, HLF.out.1]
    have HG := Lib.hid (And.intro gr' hn')
    clear gr gr' hn' HN
    go_wp2_with fail
    go_ret
    exact ⟨B, d, congrArg (fun z => Ending.returned (Value.slice B z d)) HG.out.2, HG.out.1⟩
  have hjl' : j < l.length := by rw [← HR.out.1]; exact hjl
  obtain ⟨g, q, cs, rfl, hcE, hT, hcs, hSg⟩ := HR.out.2.1.elem j hjl'
  have hSo := HR.out.2.2.2.2
  replace hcE := hcE.keep gr.mod (by rintro _ ⟨⟩; exact (hSo g hSg).2)
  have hone := hT.one
  have hst := take_next' l j hjl'
  have hbl : (LF ++ Tm.bytesAll (l.take j)).length + l[j].bytes.length ≤ 1000000000 := by
    have e1 : LF ++ Tm.bytesAll l = LF ++ Tm.bytesAll (l.take (j + 1)) ++ Tm.bytesAll (l.drop (j + 1)) := by rw [List.append_assoc, ← Tm.bytesAll_append, List.take_append_drop]
    have e2 := HLF.out.2
    rw [← HLF.out.1, e1, hst, Tm.bytesAll_append, Tm.bytesAll, Tm.bytesAll] at e2
    simp only [List.length_append, List.length_nil] at e2 ⊢
    omega
  have IHC := fun v (gv : Grow w A v B d (LF ++ Tm.bytesAll (l.take j))) => HR.out.2.2.2.1 l[j] cs S B d (LF ++ Tm.bytesAll (l.take j)) v (HR.out.2.2.1 _ (List.getElem_mem _)).1 (HR.out.2.2.1 _ (List.getElem_mem _)).2 (hT.keep gv.mod (fun i hi => (hSo i hi).2)) (gv.out hSo) (gv.glob HO.out.2.1 HO.out.2.2).1 (gv.glob HO.out.2.1 HO.out.2.2).2 gv.own hbl
  rw [← HN.out] at IHC
  have HNX : Hid (LF ++ Tm.bytesAll (l.take j) ++ l[j].bytes = LF ++ Tm.bytesAll (l.take (j + 1))) := Lib.hid (by rw [hst, Tm.bytesAll_append, Tm.bytesAll, Tm.bytesAll, List.append_nil, List.append_assoc])
  clear hT hSg hSo hst hbl
  go_wp2_with (first
    | (with_reducible refine wpList_loads (o := ⟨some 52, .load 24 (.tmp 51), _, _, _, _⟩) rfl 24 (.tmp 51) rfl g (q + j * 5) (cs) rfl (hcE) _ Tryd.underlying24 rfl (size24' hcs) (.agg (cs).toArray) rfl ?_)
    | (with_reducible refine wpList_allocs (o := ⟨some 7, .alloc 24, _, _, _, _⟩) rfl 24 rfl _ zero24 ?_; intro y7 hy7 my7 zy7; replace zy7 := Lib.hid zy7)
    | (with_reducible refine wpList_storesAll (o := ⟨none, .store 24 (.tmp 7) (.tmp 52), _, _, _, _⟩) rfl 24 (.tmp 7) (.tmp 52) rfl rfl wr.heap.size (cs) rfl (.agg (cs).toArray) rfl rfl 24 _ hy7 (zlen hcs) (hone) (size24' hcs) ?_
       intro u8 hu8 mu8 zu8
       clear zu8
       have g8 := gr.then (my7.trans mu8 (by intro i hi h; simp at h; omega))
       obtain ⟨b8, hb8⟩ : ∃ b, b = wr.heap.size := ⟨_, rfl⟩
       rw [← hb8] at hu8 ⊢
       clear hy7 my7 zy7 mu8 hb8)
    | (with_reducible refine wpList_loads (o := ⟨some 54, .load 24 (.tmp 7), _, _, _, _⟩) rfl 24 (.tmp 7) rfl b8 (0) (cs) rfl (Cells.of_holds hu8) _ Tryd.underlying24 rfl (size24' hcs) (.agg (cs).toArray) rfl ?_)
    | (go_at_call 75
       refine (IHC u8 g8).mono ?_
       rintro e w9 ⟨B', d', rfl, g9⟩
       replace g9 := g8.trans g9
       rw [HNX.out] at g9 ⊢
       clear g8 hu8 IHC gr))
  exact ⟨⟨j + 1, B', d', _, by go_num, by omega, rfl, by simp only [List.length_append], g9⟩, by simp [intOf]; omega⟩
end
end Go.Proofs.YtchanildogjhgaaDoor
