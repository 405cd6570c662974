/-
  The document's Bytes. My own work.
-/
import Derived.Test.YtapafniekmfkaaaDoorUj
import Derived.Test.YtapafniekmfkaaaDoorTj
import Derived.Test.YtapafniekmfkaaaDoorRef
namespace Go.Proofs.YtapafniekmfkaaaDoor
open Go.RowKit Go.Shelf
set_option linter.unusedVariables false
set_option linter.unusedSimpArgs false
theorem Made.own {w v : World} {A : Option Addr} {c : Nat} {l : List UInt8} (h : Made w A c l v) : Owns v 0 5 A c l := h.1
theorem Made.mod {w v : World} {A : Option Addr} {c : Nat} {l : List UInt8} (h : Made w A c l v) : Mod [] w v := h.2.1
theorem Made.then {w v v' : World} {A : Option Addr} {c : Nat} {l : List UInt8} (h : Made w A c l v) (m : Mod [] v v') : Made w A c l v' := ⟨h.1.keep m (by simp), h.2.1.then m, h.2.2⟩
theorem Made.app {w v v' : World} {A A' : Option Addr} {c c' : Nat} {l l' : List UInt8} (h : Made w A c l v) (ho : Owns v' 0 5 A' c' l') (m : Mod (blk A) v v') (hf : ∀ a, A' = some a → a.block ∈ blk A ∨ v.heap.size ≤ a.block) : Made w A' c' l' v' := by
  refine ⟨ho, h.2.1.trans m (fun i hi hm => ?_), fun a ha => ?_⟩
  · obtain ⟨a, ha, rfl⟩ := mem_blk hm
    have := h.2.2 a ha
    omega
  · rcases hf a ha with h1 | h1
    · obtain ⟨b, hb, e⟩ := mem_blk h1
      have := h.2.2 b hb
      omega
    · exact Nat.le_trans h.2.1.size h1
theorem Made.of {w v v' : World} {A : Option Addr} {c : Nat} {l : List UInt8} (m : Mod [] w v) (h : Made v A c l v') : Made w A c l v' := ⟨h.1, m.then h.2.1, fun a ha => Nat.le_trans m.size (h.2.2 a ha)⟩
theorem Made.lit {v v' : World} {l : List UInt8} {g : Nat} (h : Holds v' g 5 (l.map oct)) (m : Mod [] v v') (hg : v.heap.size ≤ g) (hl : l.length ≤ maxLen) : Made v (some ⟨g, 0, none⟩) l.length l v' := ⟨Owns.of_holds h (Nat.zero_le _) hl, m, fun a ha => by cases ha; exact hg⟩
theorem Made.out {w v v' : World} {A : Option Addr} {c b t : Nat} {l : List UInt8} {cs : List Value} (h : Made w A c l v) (hb : Holds v b t cs) (hw : b < w.heap.size) (m : Mod (blk A) v v') : Holds v' b t cs := hb.keep m (fun hm => by
  obtain ⟨a, ha, e⟩ := mem_blk hm
  have := h.2.2 a ha
  omega)
theorem both_m (A B : Option Addr) (l k L : List UInt8) (n m q c d : Nat) (v : World) (hn : n = l.length) (hm : m = k.length) (hL : L = l ++ k) (hq : q = L.length) (hlk : L.length ≤ 2000000000) (h : Reads v A l) (h' : Reads v B k) :
    Calls Tryd.prog 56 #[.slice A n c, .slice B m d] v fun e v' => ∃ g, e = .returned (.slice (some ⟨g, 0, none⟩) q q) ∧ Made v (some ⟨g, 0, none⟩) q L v' := by
  subst hn hm hq hL
  simp only [List.length_append] at hlk ⊢
  refine (both_c A B l k c d v (by omega) h h').mono ?_
  rintro e v' ⟨rfl, hh, hm⟩
  refine ⟨_, rfl, ?_⟩
  have := Made.lit hh hm (Nat.le_refl _) (by simp; unfold maxLen; omega)
  simpa using this
theorem exec_c64 {v : World} {o : Oper} {ρ : Operand → Value} {x : Operand} {a : Int} (h0 : 0 ≤ a) (h1 : a < 65536) (ho : o.op = .convert 3 74 x) (hx : ρ x = .int .i64 a) : (execOp ρ o).run Tryd.prog v = .ok (.value (.int .u64 a)) v := by
  unfold execOp
  have hw : IntKind.u64.wrap a = a := by simp [IntKind.wrap, IntKind.signed, IntKind.bits]; omega
  simp [ho, hx, go_sem, convert, run_underlying Tryd.underlying3, run_underlying Tryd.underlying74, hw]
theorem high2_c (n : Int) (w : World) (h0 : 0 ≤ n) (h1 : n ≤ 65535) : Calls Tryd.prog 59 #[.int .u64 n, .int .i64 2] w fun e w' => ∃ A c, e = .returned (.slice A 2 c) ∧ Reads w' A [Tm.b8 (n / 256), Tm.b8 (n % 256)] ∧ Mod [] w w' := by
  have h := high_c n.toNat 2 w (by omega) (by decide)
  rw [hi2 h0 h1, show (n.toNat : Int) = n by omega] at h
  exact h
/-- What the document's Bytes does with the terms of a depth. -/
def RBytesAll (m : Nat) : Prop := ∀ (t : Tm) (cs : List Value) (S : Nat → Prop) (w : World), t.depth ≤ m → t.ok = true → t.bytes.length ≤ 1000000000 → TIs w S t cs →
  Calls Tryd.prog 20 #[.agg cs.toArray] w fun e w' => ∃ A c, e = .returned (.slice A t.bytes.length c) ∧ Made w A c t.bytes w'
set_option maxRecDepth 1000000 in
set_option maxHeartbeats 4000000 in
theorem rbytes_O (m : Nat) (ih : RBytesAll m) (k u n : Int) (s : ByteArray) (K : Option Addr) (len cc : Nat) (l : List Tm) (vs : List (List Value)) (S : Nat → Prop) (w : World) (hlen : len = l.length) (hlm : len ≤ 2199023255552) (hr : RowT w S K vs l) (hd : ∀ t ∈ l, t.depth ≤ m ∧ t.ok = true)
    (k0 : 0 ≤ k) (k1 : k < 256) (u0 : 0 ≤ u) (u1 : u < 256) (n0 : 0 ≤ n) (n1 : n < 65536) (hT : (k == 1) = false) (hU : Tm.hasU k = false) (hN : Tm.hasN k = false) (LT : List UInt8) (hLT : LT = ([Tm.b8 k]) ++ Tm.bytesAll l) (hLL : LT.length ≤ 1000000000) (nt : Nat) (hnt : nt = LT.length) :
    Calls Tryd.prog 20 #[.agg (tmc k u n s K len cc).toArray] w fun e w' => ∃ A c, e = .returned (.slice A nt c) ∧ Made w A c LT w' := by
  have BU := fun v => ruser_c k v
  have BN := fun v => rnum_c k v
  rw [hU] at BU
  rw [hN] at BN
  obtain ⟨i0, i1, i2, i3, i4⟩ := info5
  have HI := Lib.hid (And.intro i1 (And.intro i2 (And.intro i3 i4)))
  have HR := Lib.hid (And.intro hlen (And.intro hr (And.intro hd ih)))
  obtain ⟨LH, hLH⟩ : ∃ LH, LH = [Tm.b8 k] := ⟨_, rfl⟩
  rw [← hLH] at hLT
  obtain ⟨nh, hnh⟩ : ∃ nh : Nat, nh = LH.length := ⟨_, rfl⟩
  have HNH := Lib.hid (And.intro hnh (show LH.length ≤ 2000000000 by rw [hLH]; simp))
  clear hnh
  have HLT := Lib.hid (And.intro hLT (And.intro hLL (And.intro hnt hLH)))
  have H2 := fun v => high2_c n v n0 (by omega)
  have HLc := Lib.hid (len_ok (l := [Tm.b8 k]) (k := [Tm.b8 u]) (by simp))
  have hk1 : ¬ k = 1 := by simpa using hT
  clear hU hN i1 i2 i3 i4 hlen hr hd ih hLT hLL hnt hLH
  go_enter Tryd.func20, Tryd.ntmps20
  go_wp2_with (first
    | (with_reducible refine wpList_boxes (o := ⟨some 1, .box 24 (.tmp 0), _, _, _, _⟩) rfl 24 (.tmp 0) rfl _ rfl (tmc k u n s K len cc) rfl ?_; intro w1 hb m1 z1
       obtain ⟨b1, hq1⟩ : ∃ b, b = w.heap.size := ⟨_, rfl⟩
       rw [← hq1] at hb ⊢
       have hb1 := hb.lt
       have e0 := hb.cell 0
       simp only [tmc, List.getElem?_cons_succ, List.getElem?_cons_zero] at e0
       clear z1 hq1)
    | (with_reducible refine wpList_ranW (o := ⟨some 7, .convert 3 5 (.tmp 6), _, _, _, _⟩) (by with_unfolding_all rfl) (oct (Tm.b8 k)) _ (exec_c8 k0 k1 rfl rfl) ?_)
    | (with_reducible refine wpList_lits (o := ⟨some 8, .buildSlice 27 1 _, _, _, _, _⟩) rfl 27 5 1 _ rfl [oct (Tm.b8 k)] ?_ ?_
       · with_unfolding_all exact run_lit27 _ _
       intro x1 hx mx zx
       clear zx
       have g1 : Made w1 (some ⟨w1.heap.size, 0, none⟩) 1 [Tm.b8 k] x1 := Made.lit (l := [Tm.b8 k]) hx mx (Nat.le_refl _) (by simp [maxLen])
       obtain ⟨A1, hA1⟩ : ∃ A, A = (some ⟨w1.heap.size, 0, none⟩ : Option Addr) := ⟨_, rfl⟩
       rw [← hA1] at g1 ⊢
       replace hb := hb.keep mx (by simp)
       clear hx mx e0 hA1
       have e0 := hb.cell 0
       have e1 := hb.cell 1
       simp only [tmc, List.getElem?_cons_succ, List.getElem?_cons_zero] at e0 e1)
    | (go_at_call 57; with_reducible refine Calls.mono (BU _) ?_; rintro e wz ⟨rfl, rfl⟩)
    | (go_at_call 58; with_reducible refine Calls.mono (BN _) ?_; rintro e wz ⟨rfl, rfl⟩))
  have g3 : Made w1 A1 1 LH x1 := by rw [HLT.out.2.2.2]; exact g1
  clear g1
  have M1 := Lib.hid m1
  have HG3 := Lib.hid (And.intro g3 (And.intro hb (show 1 = LH.length by rw [HLT.out.2.2.2]; rfl)))
  clear g3 hb m1 BU BN H2
  go_loopw [3, 4] (fun r i wr => ∃ (j : Nat) (B : Option Addr) (d nn : Nat), i = .int .i64 j ∧ j ≤ len ∧ r = .slice B nn d ∧ nn = (LH ++ Tm.bytesAll (l.take j)).length ∧ Made w1 B d (LH ++ Tm.bytesAll (l.take j)) wr ∧ Holds wr b1 24 (tmc k u n s K len cc)) (fun _ i _ => len - (intOf i).toNat)
  case atStart => exact ⟨0, _, _, _, rfl, by omega, rfl, by simpa [Tm.bytesAll] using HG3.out.2.2, by simpa [Tm.bytesAll] using HG3.out.1, HG3.out.2.1⟩
  case round =>
  obtain ⟨j, B, d, nn, rfl, hj, rfl, hnn, gr, hbr⟩ := hrel
  have HN := Lib.hid hnn
  clear hnn
  have e4 := hbr.cell 4
  simp only [tmc, List.getElem?_cons_succ, List.getElem?_cons_zero] at e4
  by_cases hjl : j < len
  case neg =>
    obtain rfl : len = j := by omega
    have gr' := gr
    rw [HR.out.1, List.take_length, ← HLT.out.1] at gr'
    have hn' : nn = nt := by rw [HN.out, HR.out.1, List.take_length, ← HLT.out.1, ← HLT.out.2.2.1]
    have HG := Lib.hid (And.intro (Made.of M1.out gr') hn')
    clear gr gr' hn' HN
    go_wp2_with fail
    go_ret
    exact ⟨B, d, congrArg (fun z => Ending.returned (Value.slice B z d)) HG.out.2, HG.out.1⟩
  have hjl' : j < l.length := by rw [← HR.out.1]; exact hjl
  obtain ⟨g, q, cs, rfl, hcE, hT, hcs, hSg⟩ := HR.out.2.1.elem j hjl'
  have mr := M1.out.then (Made.mod gr)
  replace hcE := hcE.keep mr (by simp)
  have hd := HR.out.2.2.1 l[j] (List.getElem_mem _)
  have eq1 : LH ++ Tm.bytesAll (l.take (j + 1)) = (LH ++ Tm.bytesAll (l.take j)) ++ l[j].bytes := by
    rw [take_next' l j hjl', Tm.bytesAll_append]
    simp [Tm.bytesAll]
  have hle : (LH ++ Tm.bytesAll (l.take (j + 1))).length ≤ 1000000000 := by
    have e : LT = (LH ++ Tm.bytesAll (l.take (j + 1))) ++ Tm.bytesAll (l.drop (j + 1)) := by
      rw [HLT.out.1, List.append_assoc, ← Tm.bytesAll_append, List.take_append_drop]
    have := HLT.out.2.1
    rw [e, List.length_append] at this
    omega
  have IHC := HR.out.2.2.2 l[j] cs S wr hd.1 hd.2 (by rw [eq1, List.length_append] at hle; omega) (hT.keep mr (by simp))
  obtain ⟨nj, hnj⟩ : ∃ nj : Nat, nj = l[j].bytes.length := ⟨_, rfl⟩
  obtain ⟨n2, hn2⟩ : ∃ n2 : Nat, n2 = (LH ++ Tm.bytesAll (l.take (j + 1))).length := ⟨_, rfl⟩
  rw [← hnj] at IHC
  have HNJ := Lib.hid (And.intro hnj (And.intro eq1 (And.intro hn2 (show (LH ++ Tm.bytesAll (l.take (j + 1))).length ≤ 2000000000 by omega))))
  clear hnj hn2 eq1 hle hd mr hT hSg
  go_wp2_with (first
    | (with_reducible refine wpList_loads (o := ⟨some 53, .load 24 (.tmp 52), _, _, _, _⟩) rfl 24 (.tmp 52) rfl g (q + j * 5) (cs) rfl (hcE) _ Tryd.underlying24 rfl (size24' hcs) (.agg (cs).toArray) rfl ?_)
    | (go_at_call 20; with_reducible refine Calls.mono IHC ?_
       rintro e w5 ⟨A5, c5, rfl, M5⟩
       have gr5 := gr.then (Made.mod M5)
       have hb5 := hbr.keep (Made.mod M5) (by simp)
       clear IHC)
    | (go_at_call 56; with_reducible refine Calls.mono (both_m B A5 (LH ++ Tm.bytesAll (l.take j)) (l[j]'hjl').bytes (LH ++ Tm.bytesAll (l.take (j + 1))) nn nj n2 d c5 w5 HN.out HNJ.out.1 HNJ.out.2.1 HNJ.out.2.2.1 HNJ.out.2.2.2 gr5.own.reads M5.own.reads) ?_
       rintro e w6 ⟨g6, rfl, M6⟩
       have gr6 := Made.of (Made.mod gr5) M6
       have hb6 := hb5.keep (Made.mod M6) (by simp)))
  exact ⟨⟨j + 1, _, _, n2, by go_num, by omega, rfl, HNJ.out.2.2.1, gr6, hb6⟩, by simp [intOf]; omega⟩
set_option maxRecDepth 1000000 in
set_option maxHeartbeats 4000000 in
theorem rbytes_U (m : Nat) (ih : RBytesAll m) (k u n : Int) (s : ByteArray) (K : Option Addr) (len cc : Nat) (l : List Tm) (vs : List (List Value)) (S : Nat → Prop) (w : World) (hlen : len = l.length) (hlm : len ≤ 2199023255552) (hr : RowT w S K vs l) (hd : ∀ t ∈ l, t.depth ≤ m ∧ t.ok = true)
    (k0 : 0 ≤ k) (k1 : k < 256) (u0 : 0 ≤ u) (u1 : u < 256) (n0 : 0 ≤ n) (n1 : n < 65536) (hT : (k == 1) = false) (hU : Tm.hasU k = true) (hN : Tm.hasN k = false) (LT : List UInt8) (hLT : LT = ([Tm.b8 k] ++ [Tm.b8 u]) ++ Tm.bytesAll l) (hLL : LT.length ≤ 1000000000) (nt : Nat) (hnt : nt = LT.length) :
    Calls Tryd.prog 20 #[.agg (tmc k u n s K len cc).toArray] w fun e w' => ∃ A c, e = .returned (.slice A nt c) ∧ Made w A c LT w' := by
  have BU := fun v => ruser_c k v
  have BN := fun v => rnum_c k v
  rw [hU] at BU
  rw [hN] at BN
  obtain ⟨i0, i1, i2, i3, i4⟩ := info5
  have HI := Lib.hid (And.intro i1 (And.intro i2 (And.intro i3 i4)))
  have HR := Lib.hid (And.intro hlen (And.intro hr (And.intro hd ih)))
  obtain ⟨LH, hLH⟩ : ∃ LH, LH = [Tm.b8 k] ++ [Tm.b8 u] := ⟨_, rfl⟩
  rw [← hLH] at hLT
  obtain ⟨nh, hnh⟩ : ∃ nh : Nat, nh = LH.length := ⟨_, rfl⟩
  have HNH := Lib.hid (And.intro hnh (show LH.length ≤ 2000000000 by rw [hLH]; simp))
  clear hnh
  have HLT := Lib.hid (And.intro hLT (And.intro hLL (And.intro hnt hLH)))
  have H2 := fun v => high2_c n v n0 (by omega)
  have HLc := Lib.hid (len_ok (l := [Tm.b8 k]) (k := [Tm.b8 u]) (by simp))
  have hk1 : ¬ k = 1 := by simpa using hT
  clear hU hN i1 i2 i3 i4 hlen hr hd ih hLT hLL hnt hLH
  go_enter Tryd.func20, Tryd.ntmps20
  go_wp2_with (first
    | (with_reducible refine wpList_boxes (o := ⟨some 1, .box 24 (.tmp 0), _, _, _, _⟩) rfl 24 (.tmp 0) rfl _ rfl (tmc k u n s K len cc) rfl ?_; intro w1 hb m1 z1
       obtain ⟨b1, hq1⟩ : ∃ b, b = w.heap.size := ⟨_, rfl⟩
       rw [← hq1] at hb ⊢
       have hb1 := hb.lt
       have e0 := hb.cell 0
       simp only [tmc, List.getElem?_cons_succ, List.getElem?_cons_zero] at e0
       clear z1 hq1)
    | (with_reducible refine wpList_ranW (o := ⟨some 7, .convert 3 5 (.tmp 6), _, _, _, _⟩) (by with_unfolding_all rfl) (oct (Tm.b8 k)) _ (exec_c8 k0 k1 rfl rfl) ?_)
    | (with_reducible refine wpList_lits (o := ⟨some 8, .buildSlice 27 1 _, _, _, _, _⟩) rfl 27 5 1 _ rfl [oct (Tm.b8 k)] ?_ ?_
       · with_unfolding_all exact run_lit27 _ _
       intro x1 hx mx zx
       clear zx
       have g1 : Made w1 (some ⟨w1.heap.size, 0, none⟩) 1 [Tm.b8 k] x1 := Made.lit (l := [Tm.b8 k]) hx mx (Nat.le_refl _) (by simp [maxLen])
       obtain ⟨A1, hA1⟩ : ∃ A, A = (some ⟨w1.heap.size, 0, none⟩ : Option Addr) := ⟨_, rfl⟩
       rw [← hA1] at g1 ⊢
       replace hb := hb.keep mx (by simp)
       clear hx mx e0 hA1
       have e0 := hb.cell 0
       have e1 := hb.cell 1
       simp only [tmc, List.getElem?_cons_succ, List.getElem?_cons_zero] at e0 e1)
    | (go_at_call 57; with_reducible refine Calls.mono (BU _) ?_; rintro e wz ⟨rfl, rfl⟩)
    | (go_at_call 58; with_reducible refine Calls.mono (BN _) ?_; rintro e wz ⟨rfl, rfl⟩)
    | (with_reducible refine wpList_ranW (o := ⟨some 29, .convert 3 5 (.tmp 28), _, _, _, _⟩) (by with_unfolding_all rfl) (oct (Tm.b8 u)) _ (exec_c8 u0 u1 rfl rfl) ?_)
    | (with_reducible refine wpList_lits (o := ⟨some 30, .buildSlice 27 1 _, _, _, _, _⟩) rfl 27 5 1 _ rfl [oct (Tm.b8 u)] ?_ ?_
       · with_unfolding_all exact run_lit27 _ _
       intro x2 hx mx zx
       clear zx
       replace g1 := g1.then mx
       replace hb := hb.keep mx (by simp)
       have rx := Reads.one hx
       clear hx mx e0 e1)
    | (with_reducible refine wpList_appends x2 (o := ⟨some 31, _, _, _, _, _⟩) rfl (.tmp 26) (.tmp 30) 27 rfl 5 i0 (.int .u8 0) 1 Tryd.underlying27 HI.out.1 HI.out.2.1 HI.out.2.2.1 HI.out.2.2.2 (by with_unfolding_all rfl) 0 (Nat.zero_le _) A1 _ 1 [Tm.b8 k] rfl rfl g1.own _ 1 1 [Tm.b8 u] rfl rfl rx HLc.out.1 HLc.out.2 ?_
       intro A2 c2 x3 o2 mo2 f2
       have g2 : Made w1 A2 c2 ([Tm.b8 k] ++ [Tm.b8 u]) x3 := g1.app o2 mo2 f2
       replace hb := g1.out hb hb1 mo2
       clear g1 rx o2 mo2 f2
       obtain ⟨L2, hL2⟩ : ∃ L, L = [Tm.b8 k] ++ [Tm.b8 u] := ⟨_, rfl⟩
       rw [← hL2] at g2 ⊢
       have HE2 := Lib.hid (by rw [HLT.out.2.2.2, ← hL2] : LH = L2)
       clear hL2
       have e0 := hb.cell 0
       have e2 := hb.cell 2
       simp only [tmc, List.getElem?_cons_succ, List.getElem?_cons_zero] at e0 e2))
  have g3 : Made w1 A2 c2 LH x3 := by rw [HE2.out]; exact g2
  clear g2
  have M1 := Lib.hid m1
  have HG3 := Lib.hid (And.intro g3 (And.intro hb (show L2.length = LH.length by rw [HE2.out])))
  clear g3 hb m1 BU BN H2
  go_loopw [3, 4] (fun r i wr => ∃ (j : Nat) (B : Option Addr) (d nn : Nat), i = .int .i64 j ∧ j ≤ len ∧ r = .slice B nn d ∧ nn = (LH ++ Tm.bytesAll (l.take j)).length ∧ Made w1 B d (LH ++ Tm.bytesAll (l.take j)) wr ∧ Holds wr b1 24 (tmc k u n s K len cc)) (fun _ i _ => len - (intOf i).toNat)
  case atStart => exact ⟨0, _, _, _, rfl, by omega, rfl, by simpa [Tm.bytesAll] using HG3.out.2.2, by simpa [Tm.bytesAll] using HG3.out.1, HG3.out.2.1⟩
  case round =>
  obtain ⟨j, B, d, nn, rfl, hj, rfl, hnn, gr, hbr⟩ := hrel
  have HN := Lib.hid hnn
  clear hnn
  have e4 := hbr.cell 4
  simp only [tmc, List.getElem?_cons_succ, List.getElem?_cons_zero] at e4
  by_cases hjl : j < len
  case neg =>
    obtain rfl : len = j := by omega
    have gr' := gr
    rw [HR.out.1, List.take_length, ← HLT.out.1] at gr'
    have hn' : nn = nt := by rw [HN.out, HR.out.1, List.take_length, ← HLT.out.1, ← HLT.out.2.2.1]
    have HG := Lib.hid (And.intro (Made.of M1.out gr') hn')
    clear gr gr' hn' HN
    go_wp2_with fail
    go_ret
    exact ⟨B, d, congrArg (fun z => Ending.returned (Value.slice B z d)) HG.out.2, HG.out.1⟩
  have hjl' : j < l.length := by rw [← HR.out.1]; exact hjl
  obtain ⟨g, q, cs, rfl, hcE, hT, hcs, hSg⟩ := HR.out.2.1.elem j hjl'
  have mr := M1.out.then (Made.mod gr)
  replace hcE := hcE.keep mr (by simp)
  have hd := HR.out.2.2.1 l[j] (List.getElem_mem _)
  have eq1 : LH ++ Tm.bytesAll (l.take (j + 1)) = (LH ++ Tm.bytesAll (l.take j)) ++ l[j].bytes := by
    rw [take_next' l j hjl', Tm.bytesAll_append]
    simp [Tm.bytesAll]
  have hle : (LH ++ Tm.bytesAll (l.take (j + 1))).length ≤ 1000000000 := by
    have e : LT = (LH ++ Tm.bytesAll (l.take (j + 1))) ++ Tm.bytesAll (l.drop (j + 1)) := by
      rw [HLT.out.1, List.append_assoc, ← Tm.bytesAll_append, List.take_append_drop]
    have := HLT.out.2.1
    rw [e, List.length_append] at this
    omega
  have IHC := HR.out.2.2.2 l[j] cs S wr hd.1 hd.2 (by rw [eq1, List.length_append] at hle; omega) (hT.keep mr (by simp))
  obtain ⟨nj, hnj⟩ : ∃ nj : Nat, nj = l[j].bytes.length := ⟨_, rfl⟩
  obtain ⟨n2, hn2⟩ : ∃ n2 : Nat, n2 = (LH ++ Tm.bytesAll (l.take (j + 1))).length := ⟨_, rfl⟩
  rw [← hnj] at IHC
  have HNJ := Lib.hid (And.intro hnj (And.intro eq1 (And.intro hn2 (show (LH ++ Tm.bytesAll (l.take (j + 1))).length ≤ 2000000000 by omega))))
  clear hnj hn2 eq1 hle hd mr hT hSg
  go_wp2_with (first
    | (with_reducible refine wpList_loads (o := ⟨some 53, .load 24 (.tmp 52), _, _, _, _⟩) rfl 24 (.tmp 52) rfl g (q + j * 5) (cs) rfl (hcE) _ Tryd.underlying24 rfl (size24' hcs) (.agg (cs).toArray) rfl ?_)
    | (go_at_call 20; with_reducible refine Calls.mono IHC ?_
       rintro e w5 ⟨A5, c5, rfl, M5⟩
       have gr5 := gr.then (Made.mod M5)
       have hb5 := hbr.keep (Made.mod M5) (by simp)
       clear IHC)
    | (go_at_call 56; with_reducible refine Calls.mono (both_m B A5 (LH ++ Tm.bytesAll (l.take j)) (l[j]'hjl').bytes (LH ++ Tm.bytesAll (l.take (j + 1))) nn nj n2 d c5 w5 HN.out HNJ.out.1 HNJ.out.2.1 HNJ.out.2.2.1 HNJ.out.2.2.2 gr5.own.reads M5.own.reads) ?_
       rintro e w6 ⟨g6, rfl, M6⟩
       have gr6 := Made.of (Made.mod gr5) M6
       have hb6 := hb5.keep (Made.mod M6) (by simp)))
  exact ⟨⟨j + 1, _, _, n2, by go_num, by omega, rfl, HNJ.out.2.2.1, gr6, hb6⟩, by simp [intOf]; omega⟩
set_option maxRecDepth 1000000 in
set_option maxHeartbeats 4000000 in
theorem rbytes_UN (m : Nat) (ih : RBytesAll m) (k u n : Int) (s : ByteArray) (K : Option Addr) (len cc : Nat) (l : List Tm) (vs : List (List Value)) (S : Nat → Prop) (w : World) (hlen : len = l.length) (hlm : len ≤ 2199023255552) (hr : RowT w S K vs l) (hd : ∀ t ∈ l, t.depth ≤ m ∧ t.ok = true)
    (k0 : 0 ≤ k) (k1 : k < 256) (u0 : 0 ≤ u) (u1 : u < 256) (n0 : 0 ≤ n) (n1 : n < 65536) (hT : (k == 1) = false) (hU : Tm.hasU k = true) (hN : Tm.hasN k = true) (LT : List UInt8) (hLT : LT = ([Tm.b8 k] ++ [Tm.b8 u] ++ [Tm.b8 (n / 256), Tm.b8 (n % 256)]) ++ Tm.bytesAll l) (hLL : LT.length ≤ 1000000000) (nt : Nat) (hnt : nt = LT.length) :
    Calls Tryd.prog 20 #[.agg (tmc k u n s K len cc).toArray] w fun e w' => ∃ A c, e = .returned (.slice A nt c) ∧ Made w A c LT w' := by
  have BU := fun v => ruser_c k v
  have BN := fun v => rnum_c k v
  rw [hU] at BU
  rw [hN] at BN
  obtain ⟨i0, i1, i2, i3, i4⟩ := info5
  have HI := Lib.hid (And.intro i1 (And.intro i2 (And.intro i3 i4)))
  have HR := Lib.hid (And.intro hlen (And.intro hr (And.intro hd ih)))
  obtain ⟨LH, hLH⟩ : ∃ LH, LH = [Tm.b8 k] ++ [Tm.b8 u] ++ [Tm.b8 (n / 256), Tm.b8 (n % 256)] := ⟨_, rfl⟩
  rw [← hLH] at hLT
  obtain ⟨nh, hnh⟩ : ∃ nh : Nat, nh = LH.length := ⟨_, rfl⟩
  have HNH := Lib.hid (And.intro hnh (show LH.length ≤ 2000000000 by rw [hLH]; simp))
  clear hnh
  have HLT := Lib.hid (And.intro hLT (And.intro hLL (And.intro hnt hLH)))
  have H2 := fun v => high2_c n v n0 (by omega)
  have HLc := Lib.hid (len_ok (l := [Tm.b8 k]) (k := [Tm.b8 u]) (by simp))
  have hk1 : ¬ k = 1 := by simpa using hT
  clear hU hN i1 i2 i3 i4 hlen hr hd ih hLT hLL hnt hLH
  go_enter Tryd.func20, Tryd.ntmps20
  go_wp2_with (first
    | (with_reducible refine wpList_boxes (o := ⟨some 1, .box 24 (.tmp 0), _, _, _, _⟩) rfl 24 (.tmp 0) rfl _ rfl (tmc k u n s K len cc) rfl ?_; intro w1 hb m1 z1
       obtain ⟨b1, hq1⟩ : ∃ b, b = w.heap.size := ⟨_, rfl⟩
       rw [← hq1] at hb ⊢
       have hb1 := hb.lt
       have e0 := hb.cell 0
       simp only [tmc, List.getElem?_cons_succ, List.getElem?_cons_zero] at e0
       clear z1 hq1)
    | (with_reducible refine wpList_ranW (o := ⟨some 7, .convert 3 5 (.tmp 6), _, _, _, _⟩) (by with_unfolding_all rfl) (oct (Tm.b8 k)) _ (exec_c8 k0 k1 rfl rfl) ?_)
    | (with_reducible refine wpList_lits (o := ⟨some 8, .buildSlice 27 1 _, _, _, _, _⟩) rfl 27 5 1 _ rfl [oct (Tm.b8 k)] ?_ ?_
       · with_unfolding_all exact run_lit27 _ _
       intro x1 hx mx zx
       clear zx
       have g1 : Made w1 (some ⟨w1.heap.size, 0, none⟩) 1 [Tm.b8 k] x1 := Made.lit (l := [Tm.b8 k]) hx mx (Nat.le_refl _) (by simp [maxLen])
       obtain ⟨A1, hA1⟩ : ∃ A, A = (some ⟨w1.heap.size, 0, none⟩ : Option Addr) := ⟨_, rfl⟩
       rw [← hA1] at g1 ⊢
       replace hb := hb.keep mx (by simp)
       clear hx mx e0 hA1
       have e0 := hb.cell 0
       have e1 := hb.cell 1
       simp only [tmc, List.getElem?_cons_succ, List.getElem?_cons_zero] at e0 e1)
    | (go_at_call 57; with_reducible refine Calls.mono (BU _) ?_; rintro e wz ⟨rfl, rfl⟩)
    | (go_at_call 58; with_reducible refine Calls.mono (BN _) ?_; rintro e wz ⟨rfl, rfl⟩)
    | (with_reducible refine wpList_ranW (o := ⟨some 29, .convert 3 5 (.tmp 28), _, _, _, _⟩) (by with_unfolding_all rfl) (oct (Tm.b8 u)) _ (exec_c8 u0 u1 rfl rfl) ?_)
    | (with_reducible refine wpList_lits (o := ⟨some 30, .buildSlice 27 1 _, _, _, _, _⟩) rfl 27 5 1 _ rfl [oct (Tm.b8 u)] ?_ ?_
       · with_unfolding_all exact run_lit27 _ _
       intro x2 hx mx zx
       clear zx
       replace g1 := g1.then mx
       replace hb := hb.keep mx (by simp)
       have rx := Reads.one hx
       clear hx mx e0 e1)
    | (with_reducible refine wpList_appends x2 (o := ⟨some 31, _, _, _, _, _⟩) rfl (.tmp 26) (.tmp 30) 27 rfl 5 i0 (.int .u8 0) 1 Tryd.underlying27 HI.out.1 HI.out.2.1 HI.out.2.2.1 HI.out.2.2.2 (by with_unfolding_all rfl) 0 (Nat.zero_le _) A1 _ 1 [Tm.b8 k] rfl rfl g1.own _ 1 1 [Tm.b8 u] rfl rfl rx HLc.out.1 HLc.out.2 ?_
       intro A2 c2 x3 o2 mo2 f2
       have g2 : Made w1 A2 c2 ([Tm.b8 k] ++ [Tm.b8 u]) x3 := g1.app o2 mo2 f2
       replace hb := g1.out hb hb1 mo2
       clear g1 rx o2 mo2 f2
       obtain ⟨L2, hL2⟩ : ∃ L, L = [Tm.b8 k] ++ [Tm.b8 u] := ⟨_, rfl⟩
       rw [← hL2] at g2 ⊢
       have HE2 := Lib.hid (by rw [HLT.out.2.2.2, ← hL2] : LH = L2 ++ [Tm.b8 (n / 256), Tm.b8 (n % 256)])
       clear hL2
       have e0 := hb.cell 0
       have e2 := hb.cell 2
       simp only [tmc, List.getElem?_cons_succ, List.getElem?_cons_zero] at e0 e2)
    | (with_reducible refine wpList_ranW (o := ⟨some 38, .convert 3 74 (.tmp 37), _, _, _, _⟩) (by with_unfolding_all rfl) (.int .u64 n) _ (exec_c64 n0 n1 rfl rfl) ?_)
    | (go_at_call 59; with_reducible refine Calls.mono (H2 _) ?_; rintro e x4 ⟨A9, c9, rfl, r9, m9⟩
       replace g2 := g2.then m9
       replace hb := hb.keep m9 (by simp)
       clear m9 e0 e2)
    | (go_at_call 56; with_reducible refine Calls.mono (both_m A2 A9 L2 [Tm.b8 (n / 256), Tm.b8 (n % 256)] LH L2.length 2 nh c2 c9 x4 rfl rfl HE2.out HNH.out.1 HNH.out.2 g2.own.reads r9) ?_
       rintro e x5 ⟨g5, rfl, M5⟩
       replace hb := hb.keep (Made.mod M5) (by simp)
       have g3 := Made.of (Made.mod g2) M5
       clear M5 r9 g2))
  have M1 := Lib.hid m1
  have HG3 := Lib.hid (And.intro g3 (And.intro hb (show nh = LH.length by exact HNH.out.1)))
  clear g3 hb m1 BU BN H2
  go_loopw [3, 4] (fun r i wr => ∃ (j : Nat) (B : Option Addr) (d nn : Nat), i = .int .i64 j ∧ j ≤ len ∧ r = .slice B nn d ∧ nn = (LH ++ Tm.bytesAll (l.take j)).length ∧ Made w1 B d (LH ++ Tm.bytesAll (l.take j)) wr ∧ Holds wr b1 24 (tmc k u n s K len cc)) (fun _ i _ => len - (intOf i).toNat)
  case atStart => exact ⟨0, _, _, _, rfl, by omega, rfl, by simpa [Tm.bytesAll] using HG3.out.2.2, by simpa [Tm.bytesAll] using HG3.out.1, HG3.out.2.1⟩
  case round =>
  obtain ⟨j, B, d, nn, rfl, hj, rfl, hnn, gr, hbr⟩ := hrel
  have HN := Lib.hid hnn
  clear hnn
  have e4 := hbr.cell 4
  simp only [tmc, List.getElem?_cons_succ, List.getElem?_cons_zero] at e4
  by_cases hjl : j < len
  case neg =>
    obtain rfl : len = j := by omega
    have gr' := gr
    rw [HR.out.1, List.take_length, ← HLT.out.1] at gr'
    have hn' : nn = nt := by rw [HN.out, HR.out.1, List.take_length, ← HLT.out.1, ← HLT.out.2.2.1]
    have HG := Lib.hid (And.intro (Made.of M1.out gr') hn')
    clear gr gr' hn' HN
    go_wp2_with fail
    go_ret
    exact ⟨B, d, congrArg (fun z => Ending.returned (Value.slice B z d)) HG.out.2, HG.out.1⟩
  have hjl' : j < l.length := by rw [← HR.out.1]; exact hjl
  obtain ⟨g, q, cs, rfl, hcE, hT, hcs, hSg⟩ := HR.out.2.1.elem j hjl'
  have mr := M1.out.then (Made.mod gr)
  replace hcE := hcE.keep mr (by simp)
  have hd := HR.out.2.2.1 l[j] (List.getElem_mem _)
  have eq1 : LH ++ Tm.bytesAll (l.take (j + 1)) = (LH ++ Tm.bytesAll (l.take j)) ++ l[j].bytes := by
    rw [take_next' l j hjl', Tm.bytesAll_append]
    simp [Tm.bytesAll]
  have hle : (LH ++ Tm.bytesAll (l.take (j + 1))).length ≤ 1000000000 := by
    have e : LT = (LH ++ Tm.bytesAll (l.take (j + 1))) ++ Tm.bytesAll (l.drop (j + 1)) := by
      rw [HLT.out.1, List.append_assoc, ← Tm.bytesAll_append, List.take_append_drop]
    have := HLT.out.2.1
    rw [e, List.length_append] at this
    omega
  have IHC := HR.out.2.2.2 l[j] cs S wr hd.1 hd.2 (by rw [eq1, List.length_append] at hle; omega) (hT.keep mr (by simp))
  obtain ⟨nj, hnj⟩ : ∃ nj : Nat, nj = l[j].bytes.length := ⟨_, rfl⟩
  obtain ⟨n2, hn2⟩ : ∃ n2 : Nat, n2 = (LH ++ Tm.bytesAll (l.take (j + 1))).length := ⟨_, rfl⟩
  rw [← hnj] at IHC
  have HNJ := Lib.hid (And.intro hnj (And.intro eq1 (And.intro hn2 (show (LH ++ Tm.bytesAll (l.take (j + 1))).length ≤ 2000000000 by omega))))
  clear hnj hn2 eq1 hle hd mr hT hSg
  go_wp2_with (first
    | (with_reducible refine wpList_loads (o := ⟨some 53, .load 24 (.tmp 52), _, _, _, _⟩) rfl 24 (.tmp 52) rfl g (q + j * 5) (cs) rfl (hcE) _ Tryd.underlying24 rfl (size24' hcs) (.agg (cs).toArray) rfl ?_)
    | (go_at_call 20; with_reducible refine Calls.mono IHC ?_
       rintro e w5 ⟨A5, c5, rfl, M5⟩
       have gr5 := gr.then (Made.mod M5)
       have hb5 := hbr.keep (Made.mod M5) (by simp)
       clear IHC)
    | (go_at_call 56; with_reducible refine Calls.mono (both_m B A5 (LH ++ Tm.bytesAll (l.take j)) (l[j]'hjl').bytes (LH ++ Tm.bytesAll (l.take (j + 1))) nn nj n2 d c5 w5 HN.out HNJ.out.1 HNJ.out.2.1 HNJ.out.2.2.1 HNJ.out.2.2.2 gr5.own.reads M5.own.reads) ?_
       rintro e w6 ⟨g6, rfl, M6⟩
       have gr6 := Made.of (Made.mod gr5) M6
       have hb6 := hb5.keep (Made.mod M6) (by simp)))
  exact ⟨⟨j + 1, _, _, n2, by go_num, by omega, rfl, HNJ.out.2.2.1, gr6, hb6⟩, by simp [intOf]; omega⟩
end Go.Proofs.YtapafniekmfkaaaDoor
