/-
  My own texts Da Ct Db Dc Dd De Df, one behind the other.
-/
import Derived.Test.YtchanildogjhgaaDoorC2
namespace Go.Proofs.YtchanildogjhgaaDoor
section
open Go.RowKit Go.Shelf
set_option linter.unusedVariables false
set_option linter.unusedSimpArgs false
section
variable {v : World} {o : Oper} {ρ : Operand → Value} {x y : Operand} {g f : Nat}
theorem exec_fp106_0 (ho : o.op = .fieldAddr 106 x 0) (hx : ρ x = .pointer (some ⟨g, 0, none⟩)) : (execOp ρ o).run Tryd.prog v = .ok (.value (.pointer (some ⟨g, 0, none⟩))) v := by
  unfold execOp
  simp [ho, hx, go_sem]
theorem exec_fp106_1 (ho : o.op = .fieldAddr 106 x 1) (hx : ρ x = .pointer (some ⟨g, 0, none⟩)) : (execOp ρ o).run Tryd.prog v = .ok (.value (.pointer (some ⟨g, 1, none⟩))) v := by
  unfold execOp
  simp [ho, hx, go_sem]
theorem exec_fp111_1 (ho : o.op = .fieldAddr 111 x 1) (hx : ρ x = .pointer (some ⟨g, f, none⟩)) : (execOp ρ o).run Tryd.prog v = .ok (.value (.pointer (some ⟨g, f + 5, none⟩))) v := by
  unfold execOp
  simp [ho, hx, go_sem]
theorem exec_fp111_2 (ho : o.op = .fieldAddr 111 x 2) (hx : ρ x = .pointer (some ⟨g, f, none⟩)) : (execOp ρ o).run Tryd.prog v = .ok (.value (.pointer (some ⟨g, f + 6, none⟩))) v := by
  unfold execOp
  simp [ho, hx, go_sem]
theorem exec_fp111_4 (ho : o.op = .fieldAddr 111 x 4) (hx : ρ x = .pointer (some ⟨g, f, none⟩)) : (execOp ρ o).run Tryd.prog v = .ok (.value (.pointer (some ⟨g, f + 8, none⟩))) v := by
  unfold execOp
  simp [ho, hx, go_sem]
theorem exec_fp117_0 (ho : o.op = .fieldAddr 117 x 0) (hx : ρ x = .pointer (some ⟨g, 0, none⟩)) : (execOp ρ o).run Tryd.prog v = .ok (.value (.pointer (some ⟨g, 0, none⟩))) v := by
  unfold execOp
  simp [ho, hx, go_sem]
theorem exec_lookup2 {t : TypeId} {M K V : Value} (hr : (Instr.lookup t M K true).run Tryd.prog v = .ok V v) (ho : o.op = .lookup t x y true) (hx : ρ x = M) (hy : ρ y = K) : (execOp ρ o).run Tryd.prog v = .ok (.value V) v := by
  unfold execOp
  simp only [ho, hx, hy, Sem.run_bind, hr, Result.andThen, Sem.run_pure]
theorem exec_extract0 {A B : Value} (ho : o.op = .extract x 0) (hx : ρ x = .tuple #[A, B]) : (execOp ρ o).run Tryd.prog v = .ok (.value A) v := by
  unfold execOp
  simp [ho, hx, go_sem]
theorem exec_extract1 {A B : Value} (ho : o.op = .extract x 1) (hx : ρ x = .tuple #[A, B]) : (execOp ρ o).run Tryd.prog v = .ok (.value B) v := by
  unfold execOp
  simp [ho, hx, go_sem]
theorem exec_update {z : Operand} {t : TypeId} {M K V : Value} {v' : World} (hr : (Instr.mapUpdate t M K V).run Tryd.prog v = .ok () v') (ho : o.op = .mapUpdate t x y z) (hx : ρ x = M) (hy : ρ y = K) (hz : ρ z = V) : (execOp ρ o).run Tryd.prog v = .ok .skip v' := by
  unfold execOp
  simp only [ho, hx, hy, hz, Sem.run_bind, hr, Result.andThen, Sem.run_pure]
theorem exec_lit104 {c : List Value} (h9 : c.length = 9) (ho : o.op = .buildSlice 104 1 #[(0, x)]) (hx : ρ x = .agg c.toArray) : (execOp ρ o).run Tryd.prog v = .ok (.value (.slice (some ⟨v.heap.size, 0, none⟩) 1 1)) (v.alloc (.cells c.toArray 111)) := by
  obtain ⟨it, i0, _, i2, _⟩ := info111
  have hr := run_lit1 (P := Tryd.prog) (t := 104) (V := .agg c.toArray) (s := 9) v Tryd.underlying104 i0 i2 (by omega) (by omega) zero111 rfl h9
  unfold execOp
  simp only [ho, List.map_toArray, List.map_cons, List.map_nil, hx, Sem.run_bind, hr, Result.andThen, Sem.run_pure]
theorem exec_lit80 {n : Nat} (ho : o.op = .buildSlice 80 1 #[(0, x)]) (hx : ρ x = .int .i64 (n : Int)) : (execOp ρ o).run Tryd.prog v = .ok (.value (.slice (some ⟨v.heap.size, 0, none⟩) 1 1)) (v.alloc (.cells [vi n].toArray 3)) := by
  obtain ⟨it, i0, i1, i2, i3⟩ := info3
  have hr := run_lit1 (P := Tryd.prog) (t := 80) (e := 3) (V := vi n) (cs := [vi n]) (s := 1) v Tryd.underlying80 i0 i2 (by omega) (by omega) z3 rfl rfl
  have hx' : ρ x = vi n := hx
  unfold execOp
  simp only [ho, List.map_toArray, List.map_cons, List.map_nil, hx', Sem.run_bind, hr, Result.andThen, Sem.run_pure]
end
theorem wp_stored1 {v : World} {o : Oper} {ops : Array Oper} {T : Act} {Kq : Act → World → Prop} {Q : Exit → Act → World → Prop} {E : Prop} {ty : TypeId} {x y : Operand} {A : Addr} {u old : Value} (hg : o.guard = none) (ho : o.op = .store ty x y) (hx : T.eval x = .pointer (some A)) (hy : T.eval y = u) (h1 : u.oneCell' = true) (hs : (Tryd.prog.info? ty).map (·.size) = some 1) (hc : v.cell? A = some old) (hf : v.frozen? A = false)
    (hK : Kq (T.put o.dst undef) (v.setCell A u)) : if Region.wanted o (yielded ops T.tmps) = true then o.wp Tryd.prog T v Kq Q else E := by
  cases hq : Tryd.prog.info? ty with
  | none => rw [hq] at hs; cases hs
  | some it =>
    rw [hq] at hs
    exact wp_ran_skip hg (exec_store1 ho hx hy h1 hq (by simpa using hs) hc hf) hK
theorem size104 : (Tryd.prog.info? 104).map (·.size) = some 1 := by kernel_rfl
end
section
open Go.RowKit Go.Shelf
set_option linter.unusedVariables false
set_option linter.unusedSimpArgs false
theorem Fm.tic {w0 w : World} {os ts : List Th} (F : Fm w0 w os ts) {L S : Nat → Prop} {A : Option Addr} {l : List Nat} (h : tI L S A l ∈ ts) : Cells w A (l.map vi) := (F.k _ (.inr h)).2.1.1
theorem i64_of {z : Int} (h1 : -9223372036854775808 ≤ z) (h2 : z ≤ 9223372036854775807) : I64 z := by
  unfold I64 Lit.wf
  simp [IntKind.min, IntKind.max, IntKind.bits, IntKind.signed]
  omega
theorem ok_i64 {k u n : Int} {s : ByteArray} {l : List Tm} (h : (Tm.mk k u n s l).ok = true) : I64 k ∧ I64 u ∧ I64 n := by
  rw [ok_mk, Bool.and_eq_true] at h
  have h1 := h.1
  unfold Tm.one Tm.may at h1
  simp only [Bool.and_eq_true, decide_eq_true_eq] at h1
  obtain ⟨⟨a, ⟨b, c⟩, d⟩, e⟩ := h1
  refine ⟨i64_of (by omega) (by omega), i64_of ?_ ?_, i64_of (by omega) ?_⟩
  · have := c.1; split at this <;> omega
  · have := c.2; split at this <;> omega
  · have := d.2; split at this <;> omega
theorem kid_i64 {ns ns1 : List NdC} {kids : List Nat} {l : List Tm} {b : Nat} (hk : numOf (grN ns1) kids l) (h1 : ns1.length ≤ ns.length + (2 * b - 1)) (h2 : ns.length + 2 * b ≤ 10000000) (j : Nat) : I64 ((kids.getD j 0 : Nat) : Int) := by
  refine i64_of (by omega) ?_
  have : kids.getD j 0 ≤ 10000000 := by
    rcases Nat.lt_or_ge j kids.length with h | h
    · have e : kids.getD j 0 = kids[j] := by simp [h]
      rw [e]
      have := numOf_lt hk (List.getElem_mem h)
      simp at this
      omega
    · have e : kids.getD j 0 = 0 := by simp [h]
      omega
  omega
theorem Fm.rowAt {w0 w : World} {x y z : Th} {os ts : List Th} {i wb mp nn cap : Nat} {N : Option Addr} {ns : List NdC} {q : Th} (F : Fm w0 w (x :: y :: z :: os.set i (oWN wb mp N cap ns)) ts) (hi : os[i]? = some q) (hn : nn = ns.length) : w.cell? ⟨wb, 1, none⟩ = some (.slice N nn cap) := by
  rw [hn]
  exact (F.web (i := i + 3) (by simpa using set_get hi)).rowc
/-- What laid answers, field by field. -/
theorem LaidC.out {wb mp : Nat} {t : Tm} (LD : LaidC wb mp t) {w0 w : World} {os ts : List Th} {i : Nat} {N : Option Addr} {cap : Nat} {ns : List NdC} {T S SK : Nat → Prop} {c : List Value} {K : Option Addr} {len cK : Nat} {kids : List Nat} (F : Fm w0 w os ts) (hi : os[i]? = some (oWN wb mp N cap ns)) (hN : tN Any T ns ∈ ts) (HG : Good ns) (hT : tT Any S t c ∈ ts) (hK : tI Any SK K kids ∈ ts) (hok : t.ok = true) (hlen : len = kids.length) (hc : len ≤ cK) (hkid : numOf (grN ns) kids t.kids) (Gl : Glob w0) (hb : ns.length + 2 ≤ 10000000) :
    Calls Tryd.prog 83 #[.pointer (some ⟨wb, 0, none⟩), .agg c.toArray, .slice K len cK] w fun e w' => ∃ ns' A1 c1 l1 A2 c2 l2 A3 c3 l3 T' n1 n2 n3, e = .returned (.agg (n9 c (.slice A1 n1 c1) (.slice A2 n2 c2) (.slice A3 n3 c3) nilS).toArray) ∧ n1 = l1.length ∧ n2 = l2.length ∧ n3 = l3.length ∧ Grown w0 os ts i wb mp ns (lk t) w' ns' [tN Any T' [⟨t, kids, c, (A1, c1, l1), (A2, c2, l2), (A3, c3, l3), (none, 0, [])⟩]] ∧ numOf (grN ns') l3 (Tm.needs t) ∧ numOf (grN ns') l2 (Tm.keysT t) ∧ numOf (grN ns') l1 (Tm.inside t) ∧ ((∀ i, tmAt (grN ns) i ≠ some t) → ∀ i, tmAt (grN ns') i ≠ some t) := by
  refine (LD w0 w os ts i N cap ns T S SK c K len cK kids F hi hN HG hT hK hok hlen hc hkid Gl hb).mono ?_
  rintro e w' ⟨ns', ⟨xt, xk, xc, ⟨A1, c1, l1⟩, ⟨A2, c2, l2⟩, ⟨A3, c3, l3⟩, xw⟩, T', he, hg, h1, h2, h3, h4, h5, h6, h7, h8⟩
  dsimp only at h1 h2 h3 h4
  subst h1 h2 h3 h4
  exact ⟨ns', A1, c1, l1, A2, c2, l2, A3, c3, l3, T', _, _, _, he, rfl, rfl, rfl, hg, h5, h6, h7, h8⟩
def S11 (w0 : World) (os ts : List Th) (i wb mp nn : Nat) (N2 : Option Addr) (cap2 : Nat) (ks : List Value) (ns2 : List NdC) (nd : NdC) (wr : List Rw) (l6 l7 l10 : Bool) (x : Nat × Option Addr × Nat) (v : World) : Prop :=
  if l10 then Fm w0 v (os.set i (oW wb mp (.slice x.2.1 (nn + 1) x.2.2) x.2.1 x.2.2 ks (ns2 ++ [nd]) wr)) ts
  else if l7 then Fm w0 v (os.set i (oW wb mp (.slice N2 nn cap2) x.2.1 x.2.2 ks (ns2 ++ [nd]) wr)) ts
  else Fm w0 v (os.set i (oW wb mp (.slice N2 nn cap2) N2 cap2 ks ns2 wr)) ts ∧ (l6 = true → Cells v (some ⟨x.1, 0, none⟩) (ndv nd))
def S15 (w0 : World) (os ts : List Th) (i wb mp nn m : Nat) (V : Value) (N : Option Addr) (cap : Nat) (ks : List Value) (ns : List NdC) (nsF : Rw → List NdC) (old : List Nat) (l14 l15 l18 : Bool) (x : Nat × Rw) (v : World) : Prop :=
  if l18 then Fm w0 v (os.set i (oW wb mp V N cap ks (nsF x.2) ((ns.map (·.wakes)).set m x.2))) ts ∧ x.2.2.2 = old ++ [nn]
  else if l15 then Fm w0 v (os.set i (oW wb mp V N cap ks ns ((ns.map (·.wakes)).set m x.2))) ts ∧ x.2.2.2 = old ++ [nn]
  else Fm w0 v (os.set i (oW wb mp V N cap ks ns (ns.map (·.wakes)))) ts ∧ (l14 = true → Cells v (some ⟨x.1, 0, none⟩) [vi nn])
theorem S15.rowc {w0 : World} {os ts : List Th} {q : Th} {i wb mp nn m : Nat} {V : Value} {N : Option Addr} {cap : Nat} {ks : List Value} {ns : List NdC} {nsF : Rw → List NdC} {old : List Nat} {l14 l15 l18 : Bool} {x : Nat × Rw} {v : World} (hi : os[i]? = some q) (h : S15 w0 os ts i wb mp nn m V N cap ks ns nsF old l14 l15 l18 x v) : v.cell? ⟨wb, 1, none⟩ = some V := by
  unfold S15 at h
  split at h
  · exact (h.1.web (set_get hi)).rowc
  · split at h
    · exact (h.1.web (set_get hi)).rowc
    · exact (h.1.web (set_get hi)).rowc
theorem few_push {ns ns1 ns2 ns' : List NdC} {nd : NdC} {c kk n : Nat} {L : List Nat} (h1 : Few ns ns1 c) (h2 : Few ns1 ns2 kk) (hl : ns'.length = ns2.length + 1) (hg : grN ns' = wks (grN (ns2 ++ [nd])) L n) (ht : nd.t.count = 1 + c) (hk : kk ≤ 1) (hk2 : kk = 1 → 1 ≤ c) : Few ns ns' (1 + c) := by
  refine ⟨?_, fun j x hx => ?_⟩
  · have a1 := h1.1
    have a2 := h2.1
    by_cases h : kk = 1
    · have := hk2 h
      omega
    · omega
  · rw [hg, tmAt_wks] at hx
    obtain ⟨hj, e⟩ := tmAt_some hx
    have hjl : j < ns2.length + 1 := by simpa using hj
    rcases Nat.lt_or_ge j ns2.length with hlt | hge
    · have hx2 : tmAt (grN ns2) j = some x := by
        have hx3 := (tmAt_gr (ns := ns2 ++ [nd]) (i := j) (by simp; omega)).symm.trans hx
        rw [List.getElem_append_left hlt] at hx3
        rw [tmAt_gr hlt]
        exact hx3
      rcases h2.2 j x hx2 with ⟨i, hi⟩ | h
      · rcases h1.2 i x hi with h | h
        · exact .inl h
        · exact .inr (by omega)
      · exact .inr (by omega)
    · have : j = ns2.length := by omega
      subst this
      have : x = nd.t := by
        rw [← e]
        simp [ndP]
      exact .inr (by rw [this, ht]; exact Nat.le_refl _)
theorem lk_le (t : Tm) : lk t ≤ 1 := by unfold lk; split <;> omega
theorem concatG_c (g : Nat) (A B : Option Addr) (n c m d ln : Nat) (l k : List Nat) (w : World) (hn : n = l.length) (hm : m = k.length) (hln : ln = (l ++ k).length) (hC : Cells w (some ⟨g, 0, none⟩) [.slice A n c, .slice B m d]) (h1 : Cells w A (l.map vi)) (h2 : Cells w B (k.map vi)) (hb : l.length + k.length ≤ 100000) : Calls Tryd.prog 84 #[.slice (some ⟨g, 0, none⟩) 2 2] w fun e w' => ∃ B c, e = .returned (.slice B ln c) ∧ OwnG fi 3 1 w' B c (l ++ k) ∧ Mod [] w w' ∧ ∀ a, B = some a → w.heap.size ≤ a.block := by
  have hcat : catN [(A, c, l), (B, d, k)] = l ++ k := by simp [catN]
  have h := concat_c g 2 2 [(A, c, l), (B, d, k)] w rfl (by omega) (by rw [hn, hm] at hC; exact hC) (fun r hr => by
    simp only [List.mem_cons, List.not_mem_nil, or_false] at hr
    rcases hr with rfl | rfl
    · exact h1
    · exact h2) (by rw [hcat, List.length_append]; omega)
  rw [hcat, ← hln] at h
  exact h
theorem ndv8 {x : NdC} (h : (ndv x).length = 9) : (ndv x)[8]? = some (rv x.wakes) := by
  unfold ndv at h ⊢
  have h5 : x.c.length = 5 := by simpa using h
  rw [List.getElem?_append_right (by omega), h5]
  rfl
theorem ndv5 {x : NdC} (h : (ndv x).length = 9) : x.c.length = 5 := by
  unfold ndv at h
  simpa using h
theorem exec_ixs104 {v : World} {o : Oper} {ρ : Operand → Value} {x y : Operand} {n c g i : Nat} (hi : i < n) (ho : o.op = .indexAddr 104 x y) (hx : ρ x = .slice (some ⟨g, 0, none⟩) n c) (hy : ρ y = .int .i64 (i : Int)) :
    (execOp ρ o).run Tryd.prog v = .ok (.value (.pointer (some ⟨g, i * 9, none⟩))) v := by
  have h := exec_ixs (v := v) (o := o) (ρ := ρ) Tryd.underlying104 size111 hi ho hx hy
  rw [Nat.zero_add] at h
  exact h
/-- Nodes that are like but for what they wake stand alike. -/
theorem stands_same {w : World} {T : Nat → Prop} {a b : List NdC} (h : SameN a b) (hb : ∀ x ∈ b, StandN w T x) : ∀ x ∈ a, StandN w T x := by
  intro x hx
  obtain ⟨i, hi, rfl⟩ := List.getElem_of_mem hx
  obtain ⟨h', e1, e2, e3, e4, e5, e6⟩ := h.at i hi
  have := hb _ (List.getElem_mem h')
  exact ⟨by rw [e1, e3]; exact this.t, by rw [e4]; exact this.ins, by rw [e5]; exact this.keys, by rw [e6]; exact this.needs⟩
theorem Web.rowFree {w : World} {wb mp cap g : Nat} {V : Value} {ks : List Value} {ns : List NdC} {wr : List Rw} (W : Web w wb mp V (some ⟨g, 0, none⟩) cap ks ns wr) (k : Nat) : w.frozen? ⟨g, k, none⟩ = false := by
  obtain ⟨xs, _, q2⟩ := W.row
  obtain ⟨cs, hcs⟩ := q2.heap _ rfl
  have hh : Holds w g 111 cs.toList := by simpa [Holds] using hcs
  exact hh.free k
theorem Web.ones {w : World} {wb mp cap : Nat} {N : Option Addr} {V : Value} {ks : List Value} {ns : List NdC} {wr : List Rw} (W : Web w wb mp V N cap ks ns wr) (m : Nat) (hm : m < ns.length) : ns[m].c.length = 5 := by
  obtain ⟨g, _, _, h9, _⟩ := W.node m hm
  exact ndv5 h9
set_option maxRecDepth 1000000 in
set_option maxHeartbeats 4000000 in
theorem add_try (wb mp : Nat) (k u n : Int) (s : ByteArray) (l : List Tm) (AA : AllC wb mp l) (LD : LaidC wb mp (.mk k u n s l)) (hok : (Tm.mk k u n s l).ok = true) : AddC wb mp (.mk k u n s l) := by
  intro w0 w os ts i N cap ns T S c FA hi hN HG hT Gl hc
  obtain ⟨A, cA, vs, hcc, hrow, hb1, hb2, hb3, hs⟩ := (FA.ist hT).row
  obtain ⟨la, hla⟩ : ∃ la, la = l.length := ⟨_, rfl⟩
  rw [← hla] at hcc
  have hl2 : l.length ≤ 2 := by have := ok_len hok; rw [show (Tm.mk k u n s l).kids = l from rfl] at this; rw [this]; exact nk_le _
  subst hcc
  have HI := Lib.hid hi
  have HN := Lib.hid hN
  have hG := Lib.hid HG
  have HT := Lib.hid hT
  have HLA := Lib.hid hla
  have HL2 : Hid (la ≤ 1000) := Lib.hid (by omega)
  have HC := Lib.hid hc
  have HCA : Hid (ns.length + 2 * Tm.countAll l ≤ 10000000) := Lib.hid (by rw [show (Tm.mk k u n s l).count = 1 + Tm.countAll l by rw [Tm.count]] at hc; omega)
  have HOK := Lib.hid hok
  have HS := Lib.hid hs
  have F0 := FA.also (tR Any S A vs l) (keeps_tR _ _ _ _ _) ⟨hrow, fun _ _ => trivial⟩ fun g hg => ⟨_, hT, hg⟩
  have HL := Lib.hid hl2
  clear hi hN HG hT hla hc hok hs hrow hb1 hb2 hb3 hl2 FA
  go_enter Tryd.func62, Tryd.ntmps62
  go_wp2_with (first
    | (with_reducible refine fm_box F0 (o := ⟨some 3, .box 24 (.tmp 1), _, _, _, _⟩) rfl 24 (.tmp 1) rfl (tmc k u n s A la cA) rfl ?_; intro b1 w1 F1; clear F0)
    | (with_reducible refine fm_load1 F1 0 4 rfl (.slice A la cA) rfl (o := ⟨some 15, _, _, _, _, _⟩) rfl 22 (.tmp 14) rfl rfl (fun h => run_load1 Tryd.underlying22 rfl h) ?_)
    | (go_at_call 61; refine (AA w0 w1 _ _ (i + 1) N cap ns T S A la cA vs F1 (by simpa using HI.out) (List.mem_cons_of_mem _ HN.out) hG.out (F1.mem 0 rfl) Gl HLA.out HL2.out HCA.out).mono ?_
       rintro e w2 ⟨ns1, kids, A', c', S', rfl, hlc, ⟨N1, cap1, T1, F2x, q1, q2, q3⟩, q4⟩
       have F2 : Fm w0 w2 (oB b1 24 (tmc k u n s A la cA) :: os.set i (oWN wb mp N1 cap1 ns1)) (tI Any S' A' kids :: tN Any T1 ns1 :: ts) := F2x.sub (List.Sublist.refl _) (fun y hy => by
         simp only [List.mem_cons] at hy
         simp only [List.cons_append, List.nil_append, List.mem_cons]
         rcases hy with h | h | h
         · exact .inl h
         · exact .inr (.inl h)
         · exact .inr (.inr (.inr h)))
       have Q := Lib.hid (show _ ∧ _ ∧ _ ∧ _ ∧ _ from ⟨q1, q2, q3, q4, hlc⟩)
       have HKL : Hid (la = kids.length) := Lib.hid (by rw [numOf_get q4, HLA.out])
       have HK2 : Hid (kids.length ≤ 2) := Lib.hid (by rw [numOf_get q4]; exact HL.out)
       clear F1 F2x q1 q2 q3 q4 hlc)
    | (with_reducible refine fm_load1 F2 0 0 rfl (.int .i64 k) rfl (o := ⟨some 18, _, _, _, _, _⟩) rfl 3 (.tmp 17) rfl rfl (fun h => run_load1 Tryd.underlying3 rfl h) ?_)
    | (with_reducible refine fm_load1 F2 0 1 rfl (.int .i64 u) rfl (o := ⟨some 20, _, _, _, _, _⟩) rfl 3 (.tmp 19) rfl rfl (fun h => run_load1 Tryd.underlying3 rfl h) ?_)
    | (with_reducible refine fm_load1 F2 0 2 rfl (.int .i64 n) rfl (o := ⟨some 22, _, _, _, _, _⟩) rfl 3 (.tmp 21) rfl rfl (fun h => run_load1 Tryd.underlying3 rfl h) ?_)
    | (with_reducible refine fm_load1 F2 0 3 rfl (.string s) rfl (o := ⟨some 24, _, _, _, _, _⟩) rfl 9 (.tmp 23) rfl rfl (fun h => run_load1 Tryd.underlying9 rfl h) ?_)
    | (with_reducible refine wpList_ran (o := ⟨some 25, .build 109 _, _, _, _, _⟩) rfl (.agg (sh6 k u n s 0 0).toArray) (exec_b109 rfl rfl rfl rfl rfl) ?_)
    | (with_reducible refine fm_alloc F2 (o := ⟨some 6, .alloc 109, _, _, _, _⟩) rfl 109 rfl _ zero109 ?_; intro b3 w3 F3; clear F2)
    | (with_reducible refine fm_store6 F3 0 rfl (o := ⟨none, .store 109 (.tmp 6) (.tmp 25), _, _, _, _⟩) rfl (.tmp 6) (.tmp 25) rfl rfl (sh6 k u n s 0 0) rfl rfl (sh6_len _ _ _ _ _ _) (sh6_len _ _ _ _ _ _) (sh6_one _ _ _ _ _ _) ?_; intro w4 F4; clear F3)
    | (with_reducible refine fm_copyK F4 0 rfl A' la c' kids HKL.out HK2.out (F4.tic (F4.mem 0 rfl)) (o := ⟨some 29, _, _, _, _, _⟩) rfl (.tmp 27) (.tmp 28) rfl rfl rfl ?_; intro w5 F5; clear F4))
  obtain ⟨qa, qb, qc, qd, qe⟩ := Q.out
  have hpos : (b1 :: b3 :: os.map (fun _ => b1))[0]? = some b1 := rfl
  clear hpos
  have hi5 : ((oB b3 109 (sh6 k u n s (kids.getD 0 0) (kids.getD 1 0))) :: (oB b1 24 (tmc k u n s A la cA)) :: os.set i (oWN wb mp N1 cap1 ns1))[i + 2]? = some (oWN wb mp N1 cap1 ns1) := by simpa using set_get HI.out
  have W : Web w5 wb mp (.slice N1 ns1.length cap1) N1 cap1 (ns1.map keyN) ns1 (ns1.map (·.wakes)) := F5.web hi5
  have cm := W.mapc
  have h6 : Holds w5 b3 109 (sh6 k u n s (kids.getD 0 0) (kids.getD 1 0)) := F5.blk 0 rfl
  obtain ⟨a0, ha0⟩ : ∃ a, a = kids.getD 0 0 := ⟨_, rfl⟩
  obtain ⟨a1, ha1⟩ : ∃ a, a = kids.getD 1 0 := ⟨_, rfl⟩
  rw [← ha0, ← ha1] at h6 F5 hi5
  have F6 := F5.call (Mod.drew [] w5)
  have W6 := F6.web hi5
  have hL3 := W6.mapc
  have hH4 : Holds w5.drew b3 109 (sh6 k u n s a0 a1) := F6.blk 0 rfl
  obtain ⟨z, q, LK, HZ⟩ : ∃ (z : Nat) (q : Bool), (Instr.lookup 103 (.map (some mp)) (.agg (sh6 k u n s a0 a1).toArray) true).run Tryd.prog w5.drew = .ok (.tuple #[.int .i64 (z : Int), .bool q]) w5.drew ∧ Hid (if q then tmAt (grN ns1) z = some (.mk k u n s l) else shT (.mk k u n s l) kids ∉ ns1.map keyN) := by
    by_cases hmem : shT (.mk k u n s l) kids ∈ ns1.map keyN
    · obtain ⟨j, hj, hje⟩ := List.getElem_of_mem hmem
      have hjn : j < ns1.length := by simpa using hj
      have LK := num_yes (W.num.keep (Mod.drew [] w5) (by simp)) j hj
      rw [hje] at LK
      have hfound := qa.found HOK.out qd hjn (by rw [← hje]; simp)
      refine ⟨j, true, by rw [ha0, ha1]; exact LK, Lib.hid ?_⟩
      exact (tmAt_gr hjn).trans (by rw [hfound])
    · have LK := num_no (W.num.keep (Mod.drew [] w5) (by simp)) _ hmem (shape_key k u n s _ _ (ok_i64 HOK.out).1 (ok_i64 HOK.out).2.1 (ok_i64 HOK.out).2.2 (by have := HS.out; unfold maxLen; omega) (kid_i64 qd qc.1 HCA.out 0) (kid_i64 qd qc.1 HCA.out 1))
      exact ⟨0, false, by rw [ha0, ha1]; exact LK, Lib.hid hmem⟩
  have HA0 := Lib.hid ha0
  have HA1 := Lib.hid ha1
  clear qa qb qc qd qe ha0 ha1 h6 W W6 cm
  refine wp_region_ups [(31, .pointer (some ⟨wb, 0, none⟩)), (32, .pointer (some ⟨wb, 0, none⟩)), (33, .pointer (some ⟨wb, 0, none⟩)), (34, .map (some mp)), (35, .agg (sh6 k u n s a0 a1).toArray), (36, .tuple #[.int .i64 (z : Int), .bool q]), (30, .tuple #[.int .i64 (z : Int), .bool q]), (37, .int .i64 (z : Int)), (38, .bool q), (7, .int .i64 (z : Int)), (8, .bool q)] 100 [31, 32, 33, 34, 35, 36, 30, 37, 38, 7, 8] rfl rfl (by decide) (by kernel_rfl) (fun lz v => v = w5.drew) (by kernel_rfl) (rfl) (by kernel_rfl) (by kernel_rfl) ?step ?fin
  case step =>
    intro lz T v j o hj hlj hdep hst hpar hgot hcl Kq hK
    have hjn : j < 11 := (Array.getElem?_eq_some_iff.1 hj).1
    obtain rfl | rfl | rfl | rfl | rfl | rfl | rfl | rfl | rfl | rfl | rfl : j = 0 ∨ j = 1 ∨ j = 2 ∨ j = 3 ∨ j = 4 ∨ j = 5 ∨ j = 6 ∨ j = 7 ∨ j = 8 ∨ j = 9 ∨ j = 10 := by omega
    all_goals (have hj' := Option.some.inj (hj : some _ = some o); subst hj'; clear hj)
    · exact wp_ran rfl (exec_move rfl (eval_tmp ((hpar 0 rfl).trans rfl))) (hK _ _ (fun s hs => by cases hs; rfl) hst)
    · exact wp_ran rfl (exec_nil rfl (eval_tmp (hgot 0 _ 31 rfl (hdep ⟨0, .data⟩ (by simp) rfl) rfl))) (hK _ _ (fun s hs => by cases hs; rfl) hst)
    · exact wp_ran rfl (exec_fp106_0 rfl (eval_tmp (hgot 1 _ 32 rfl (hdep ⟨1, .data⟩ (by simp) rfl) rfl))) (hK _ _ (fun s hs => by cases hs; rfl) hst)
    · exact wp_ran rfl (exec_load rfl (eval_tmp (hgot 2 _ 33 rfl (hdep ⟨2, .data⟩ (by simp) rfl) rfl)) (run_load1 Tryd.underlying103 rfl (by rw [hst]; exact hL3))) (hK _ _ (fun s hs => by cases hs; rfl) hst)
    · exact wp_ran rfl (exec_load rfl (eval_tmp ((hpar 6 rfl).trans rfl)) (run_loads (cs := sh6 k u n s a0 a1) (Cells.of_holds (by rw [hst]; exact hH4)) Tryd.underlying109 rfl size109)) (hK _ _ (fun s hs => by cases hs; rfl) hst)
    · exact wp_ran rfl (exec_lookup2 (by rw [hst]; exact LK) rfl (eval_tmp (hgot 3 _ 34 rfl (hdep ⟨3, .data⟩ (by simp) rfl) rfl)) (eval_tmp (hgot 4 _ 35 rfl (hdep ⟨4, .data⟩ (by simp) rfl) rfl))) (hK _ _ (fun s hs => by cases hs; rfl) hst)
    · exact wp_ran rfl (exec_move rfl (eval_tmp (hgot 5 _ 36 rfl (hdep ⟨5, .data⟩ (by simp) rfl) rfl))) (hK _ _ (fun s hs => by cases hs; rfl) hst)
    · exact wp_ran rfl (exec_extract0 rfl (eval_tmp (hgot 6 _ 30 rfl (hdep ⟨6, .data⟩ (by simp) rfl) rfl))) (hK _ _ (fun s hs => by cases hs; rfl) hst)
    · exact wp_ran rfl (exec_extract1 rfl (eval_tmp (hgot 6 _ 30 rfl (hdep ⟨6, .data⟩ (by simp) rfl) rfl))) (hK _ _ (fun s hs => by cases hs; rfl) hst)
    · exact wp_ran rfl (exec_assign rfl (eval_tmp (hgot 7 _ 37 rfl (hdep ⟨7, .data⟩ (by simp) rfl) rfl))) (hK _ _ (fun s hs => by cases hs; rfl) hst)
    · exact wp_ran rfl (exec_assign rfl (eval_tmp (hgot 8 _ 38 rfl (hdep ⟨8, .data⟩ (by simp) rfl) rfl))) (hK _ _ (fun s hs => by cases hs; rfl) hst)
  case fin =>
  intro lz v hlz hst
  subst hst
  dsimp only [setAll, List.foldl_cons, List.foldl_nil, List.set_cons_succ, List.set_cons_zero]
  clear hlz LK hL3 hH4 F5
  revert F6
  generalize w5.drew = w6
  intro F6
  cases q with
  | true =>
    go_wp2_with fail
    go_ret
    obtain ⟨qa, qb, qc, qd, qe⟩ := Q.out
    have HF : tmAt (grN ns1) z = some (.mk k u n s l) := by simpa using HZ.out
    exact ⟨ns1, z, rfl, ⟨N1, cap1, T1, F6.sub (os' := os.set i (oWN wb mp N1 cap1 ns1)) (ts' := tN Any T1 ns1 :: ts) (List.sublist_append_right [_, _] _) (fun y hy => List.mem_cons_of_mem _ hy), qa, qb, qc.mono (by rw [Tm.count]; omega)⟩, HF⟩
  | false =>
      have HM : Hid (shT (.mk k u n s l) kids ∉ ns1.map keyN) := Lib.hid (by simpa using HZ.out)
      clear HZ
      obtain ⟨qa, qb, qc, qd, qe⟩ := Q.out
      have hi6 : ((oB b3 109 (sh6 k u n s a0 a1)) :: (oB b1 24 (tmc k u n s A la cA)) :: os.set i (oWN wb mp N1 cap1 ns1))[i + 2]? = some (oWN wb mp N1 cap1 ns1) := by simpa using set_get HI.out
      have HB6 : Hid (ns1.length + 2 ≤ 10000000) := Lib.hid (by have := HC.out; have := qc.1; rw [Tm.count] at *; omega)
      have HI6 := Lib.hid hi6
      have HQA := Lib.hid qa
      have HQB := Lib.hid qb
      have HQC := Lib.hid qc
      have HQD := Lib.hid qd
      have HQE := Lib.hid qe
      clear qa qb qc qd qe hi6 hi5 Q
      go_wp2_with (first
        | (with_reducible refine fm_load F6 1 rfl (o := ⟨some 42, .load 24 (.tmp 3), _, _, _, _⟩) rfl (.tmp 3) rfl rfl (tmc_len _ _ _ _ _ _ _) ?_)
        | (go_at_call 83; refine (LD.out F6 HI6.out (F6.mem 1 rfl) HQA.out (List.mem_cons_of_mem _ (List.mem_cons_of_mem _ HT.out)) (F6.mem 0 rfl) HOK.out HKL.out HQE.out HQD.out Gl HB6.out).mono ?_
           rintro e w7 ⟨ns2, A1, c1, l1, A2, c2, l2, A3, c3, l3, T2, n1, n2, n3, rfl, hn1, hn2, hn3, ⟨N2, cap2, T3, F7x, q1, q2, q3⟩, q4, q5, q6, q7⟩
           have F7y : Fm w0 w7 (oB b3 109 (sh6 k u n s a0 a1) :: oB b1 24 (tmc k u n s A la cA) :: (os.set i (oWN wb mp N1 cap1 ns1)).set i (oWN wb mp N2 cap2 ns2)) _ := F7x
           rw [List.set_set] at F7y
           have F7 : Fm w0 w7 (oB b3 109 (sh6 k u n s a0 a1) :: oB b1 24 (tmc k u n s A la cA) :: os.set i (oWN wb mp N2 cap2 ns2)) (tN Any T2 [⟨.mk k u n s l, kids, tmc k u n s A la cA, (A1, c1, l1), (A2, c2, l2), (A3, c3, l3), (none, 0, [])⟩] :: tN Any T3 ns2 :: ts) := F7y.sub (List.Sublist.refl _) (fun y hy => by
             simp only [List.mem_cons] at hy
             simp only [List.cons_append, List.nil_append, List.mem_cons]
             rcases hy with h | h | h
             · exact .inl h
             · exact .inr (.inl h)
             · exact .inr (.inr (.inr (.inr h))))
           have Q2 := Lib.hid (show _ ∧ _ ∧ _ ∧ _ ∧ _ ∧ _ ∧ _ ∧ _ ∧ _ ∧ _ from ⟨q1, q2, q3, q4, q5, q6, q7, hn1, hn2, hn3⟩)
           obtain ⟨nn, hnn⟩ : ∃ m, m = ns2.length := ⟨_, rfl⟩
           have HNN := Lib.hid hnn
           have cr : w7.cell? ⟨wb, 1, none⟩ = some (.slice N2 nn cap2) := by
             rw [hnn]
             exact (F7.web (i := i + 2) (by simpa using set_get HI.out)).rowc
           clear F6 F7x F7y q1 q2 q3 q4 q5 q6 q7 hn1 hn2 hn3 hnn)
        | (with_reducible refine fm_alloc F7 (o := ⟨some 9, .alloc 111, _, _, _, _⟩) rfl 111 rfl _ zero111 ?_; intro b8 w8 F8)
        | (with_reducible refine fm_store9 F8 0 rfl (o := ⟨none, .store 111 (.tmp 9) (.tmp 44), _, _, _, _⟩) rfl (.tmp 9) (.tmp 44) rfl rfl (n9 (tmc k u n s A la cA) (.slice A1 n1 c1) (.slice A2 n2 c2) (.slice A3 n3 c3) nilS) rfl rfl (n9_len (tmc_len _ _ _ _ _ _ _) _ _ _ _) (n9_len (tmc_len _ _ _ _ _ _ _) _ _ _ _) (n9_oneS (tmc_one _ _ _ _ _ _ _) _ _ _ _ _ _ _ _ _ _ _ _) ?_; intro w9 F9; clear F8)
        | (with_reducible refine wpList_ran (o := ⟨some 48, _, _, _, _, _⟩) rfl (.slice N2 nn cap2) (exec_load rfl rfl (run_load1 Tryd.underlying104 rfl (F9.rowAt HI.out HNN.out))) ?_)
        | (with_reducible refine fm_litI F9 (o := ⟨some 51, .buildSlice 80 1 #[(0, .tmp 50)], _, _, _, _⟩) rfl (.tmp 50) rfl nn rfl ?_; intro b10 w10 F10; clear F9)
        | (with_reducible refine fm_store1 F10 1 8 rfl (by simp [n9, tmc]) 80 (.slice (some ⟨b10, 0, none⟩) 1 1) rfl size80 (o := ⟨none, .store 80 (.tmp 52) (.tmp 51), _, _, _, _⟩) rfl (.tmp 52) (.tmp 51) rfl rfl rfl rfl ?_; intro w11 F11; clear F10))
      have fr := Q2.out.2.2.2.2.2.2.1 (HQA.out.fresh HOK.out HQD.out HM.out)
      have hkid2 : numOf (grN ns2) kids (Tm.mk k u n s l).kids := Q2.out.2.1.num HQD.out
      have hm2 : shT (.mk k u n s l) kids ∉ ns2.map keyN := fun h => by
        obtain ⟨j, hj, hje⟩ := List.getElem_of_mem h
        have hjn : j < ns2.length := by simpa using hj
        have := Q2.out.1.found HOK.out hkid2 hjn (by rw [← hje]; simp)
        exact fr j ((tmAt_gr hjn).trans (by rw [this]))
      have F12x := Fm.webWake (i := i + 3) F11 (by simpa using set_get HI.out)
      have F12y : Fm w0 w11 (oB b8 111 (n9 (tmc k u n s A la cA) (.slice A1 n1 c1) (.slice A2 n2 c2) (.slice A3 n3 c3) (.slice (some ⟨b10, 0, none⟩) 1 1)) :: oB b3 109 (sh6 k u n s a0 a1) :: oB b1 24 (tmc k u n s A la cA) :: (os.set i (oWN wb mp N2 cap2 ns2)).set i (oW wb mp (.slice N2 ns2.length cap2) N2 cap2 (ns2.map keyN) ns2 (ns2.map (·.wakes) ++ [(some ⟨b10, 0, none⟩, 1, [nn])]))) _ := F12x
      rw [List.set_set] at F12y
      have F12 := F12y.call (Mod.drew [] w11)
      have h6 : Holds w11 b3 109 (sh6 k u n s a0 a1) := F12y.blk 1 rfl
      have cm : w11.cell? ⟨wb, 0, none⟩ = some (.map (some mp)) := (F12y.web (i := i + 3) (by simpa using set_get HI.out)).mapc
      obtain ⟨v13, hup, F13x⟩ := F12.webKey (i := i + 3) (by simpa using set_get HI.out) (shT (.mk k u n s l) kids) hm2 (shape_key k u n s _ _ (ok_i64 HOK.out).1 (ok_i64 HOK.out).2.1 (ok_i64 HOK.out).2.2 (by have := HS.out; unfold maxLen; omega) (kid_i64 HQD.out HQC.out.1 HCA.out 0) (kid_i64 HQD.out HQC.out.1 HCA.out 1))
      have UP : (Instr.mapUpdate 103 (.map (some mp)) (.agg (sh6 k u n s a0 a1).toArray) (.int .i64 (nn : Int))).run Tryd.prog w11.drew = .ok () v13 := by
        rw [HA0.out, HA1.out, HNN.out]
        rw [List.length_map] at hup
        exact hup
      have F13y : Fm w0 v13 (oB b8 111 (n9 (tmc k u n s A la cA) (.slice A1 n1 c1) (.slice A2 n2 c2) (.slice A3 n3 c3) (.slice (some ⟨b10, 0, none⟩) 1 1)) :: oB b3 109 (sh6 k u n s a0 a1) :: oB b1 24 (tmc k u n s A la cA) :: (os.set i (oW wb mp (.slice N2 ns2.length cap2) N2 cap2 (ns2.map keyN) ns2 (ns2.map (·.wakes) ++ [(some ⟨b10, 0, none⟩, 1, [nn])]))).set i (oW wb mp (.slice N2 ns2.length cap2) N2 cap2 (ns2.map keyN ++ [shT (.mk k u n s l) kids]) ns2 (ns2.map (·.wakes) ++ [(some ⟨b10, 0, none⟩, 1, [nn])]))) _ := F13x
      rw [List.set_set] at F13y
      have g3 : w11.drew.cell? ⟨wb, 0, none⟩ = some (.map (some mp)) := cm
      have g4 : Holds w11.drew b3 109 (sh6 k u n s a0 a1) := h6
      clear hup h6 F12 F12y F12x F11 cr F13x cm
      refine wp_region_ups [(53, .pointer (some ⟨wb, 0, none⟩)), (54, .pointer (some ⟨wb, 0, none⟩)), (55, .pointer (some ⟨wb, 0, none⟩)), (56, .map (some mp)), (57, .agg (sh6 k u n s a0 a1).toArray), (58, .int .i64 (nn : Int))] 100 [53, 54, 55, 56, 57, 58] rfl rfl (by decide) (by kernel_rfl) (fun lz v => v = if lz 6 then v13 else w11.drew) (by kernel_rfl) (rfl) (by kernel_rfl) (by kernel_rfl) ?step ?fin
      case step =>
        intro lz T v j o hj hlj hdep hst hpar hgot hcl Kq hK
        have hjn : j < 7 := (Array.getElem?_eq_some_iff.1 hj).1
        obtain rfl | rfl | rfl | rfl | rfl | rfl | rfl : j = 0 ∨ j = 1 ∨ j = 2 ∨ j = 3 ∨ j = 4 ∨ j = 5 ∨ j = 6 := by omega
        all_goals (have hj' := Option.some.inj (hj : some _ = some o); subst hj'; clear hj)
        · exact wp_ran rfl (exec_move rfl (eval_tmp ((hpar 0 rfl).trans rfl))) (hK _ _ (fun s hs => by cases hs; rfl) (by simpa using hst))
        · exact wp_ran rfl (exec_nil rfl (eval_tmp (hgot 0 _ 53 rfl (hdep ⟨0, .data⟩ (by simp) rfl) rfl))) (hK _ _ (fun s hs => by cases hs; rfl) (by simpa using hst))
        · exact wp_ran rfl (exec_fp106_0 rfl (eval_tmp (hgot 1 _ 54 rfl (hdep ⟨1, .data⟩ (by simp) rfl) rfl))) (hK _ _ (fun s hs => by cases hs; rfl) (by simpa using hst))
        · have l6 : lz 6 = false := (by cases hh : lz 6 with | false => rfl | true => exact absurd (hcl 6 _ rfl hh ⟨3, .data⟩ (by simp) rfl) (by rw [hlj]; simp))
          have hv : v = w11.drew := by simpa [l6] using hst
          exact wp_ran rfl (exec_load rfl (eval_tmp (hgot 2 _ 55 rfl (hdep ⟨2, .data⟩ (by simp) rfl) rfl)) (run_load1 Tryd.underlying103 rfl (by rw [hv]; exact g3))) (hK _ _ (fun s hs => by cases hs; rfl) (by simpa using hst))
        · have l6 : lz 6 = false := (by cases hh : lz 6 with | false => rfl | true => exact absurd (hcl 6 _ rfl hh ⟨4, .data⟩ (by simp) rfl) (by rw [hlj]; simp))
          have hv : v = w11.drew := by simpa [l6] using hst
          exact wp_ran rfl (exec_load rfl (eval_tmp ((hpar 6 rfl).trans rfl)) (run_loads (cs := sh6 k u n s a0 a1) (Cells.of_holds (by rw [hv]; exact g4)) Tryd.underlying109 rfl size109)) (hK _ _ (fun s hs => by cases hs; rfl) (by simpa using hst))
        · exact wp_ran rfl (exec_move rfl (eval_tmp ((hpar 10 rfl).trans rfl))) (hK _ _ (fun s hs => by cases hs; rfl) (by simpa using hst))
        · have hv : v = w11.drew := by simpa [hlj] using hst
          exact wp_ran_skip rfl (exec_update (by rw [hv]; exact UP) rfl (eval_tmp (hgot 3 _ 56 rfl (hdep ⟨3, .data⟩ (by simp) rfl) rfl)) (eval_tmp (hgot 4 _ 57 rfl (hdep ⟨4, .data⟩ (by simp) rfl) rfl)) (eval_tmp (hgot 5 _ 58 rfl (hdep ⟨5, .data⟩ (by simp) rfl) rfl))) (hK _ _ (fun s hs => by cases hs) (by simp))
      case fin =>
      intro lz v hlz hst
      rw [hlz 6 (by decide), if_pos rfl] at hst
      subst hst
      simp only [setAll, Act.put, List.foldl_cons, List.foldl_nil, List.setIfInBounds_toArray, List.set_cons_succ, List.set_cons_zero]
      clear hlz UP g3 g4
      obtain ⟨c9, hc9⟩ : ∃ c, c = n9 (tmc k u n s A la cA) (.slice A1 n1 c1) (.slice A2 n2 c2) (.slice A3 n3 c3) (.slice (some ⟨b10, 0, none⟩) 1 1) := ⟨_, rfl⟩
      have hl9 : c9.length = 9 := by rw [hc9]; rfl
      have ho9 : ∀ v ∈ c9, v.oneCell' = true := by rw [hc9]; exact n9_oneS (tmc_one _ _ _ _ _ _ _) _ _ _ _ _ _ _ _ _ _ _ _
      obtain ⟨nd, hnd⟩ : ∃ x : NdC, x = ⟨.mk k u n s l, kids, tmc k u n s A la cA, (A1, c1, l1), (A2, c2, l2), (A3, c3, l3), (some ⟨b10, 0, none⟩, 1, [nn])⟩ := ⟨_, rfl⟩
      have hx9 : c9 = ndv nd := by
        obtain ⟨_, _, _, _, _, _, _, r1, r2, r3⟩ := Q2.out
        rw [hc9, hnd, r1, r2, r3]
        rfl
      have k6 : c9[6]? = some (.slice A2 n2 c2) := by rw [hc9]; rfl
      have k7 : c9[7]? = some (.slice A3 n3 c3) := by rw [hc9]; rfl
      rw [← hc9] at F13y
      have HX9 := Lib.hid hx9
      have HND := Lib.hid hnd
      have HK6 := Lib.hid k6
      have HK7 := Lib.hid k7
      have HL9 := Lib.hid hl9
      have HO9 := Lib.hid ho9
      have HNS : Hid (ns2.length ≤ 100000000) := Lib.hid (by have h1 := Q2.out.2.2.1.1; have h2 := HB6.out; have h3 := lk_le (.mk k u n s l); omega)
      rw [← HNN.out] at F13y
      obtain ⟨ks, hks⟩ : ∃ x, x = ns2.map keyN ++ [shT (.mk k u n s l) kids] := ⟨_, rfl⟩
      obtain ⟨wrl, hwr⟩ : ∃ x, x = ns2.map (·.wakes) ++ [(some ⟨b10, 0, none⟩, 1, [nn])] := ⟨_, rfl⟩
      rw [← hks, ← hwr] at F13y
      have HKS := Lib.hid hks
      have HWR := Lib.hid hwr
      have F14 := F13y.call (Mod.drew [] v)
      obtain ⟨os9, hos9⟩ : ∃ x, x = oB b8 111 c9 :: oB b3 109 (sh6 k u n s a0 a1) :: oB b1 24 (tmc k u n s A la cA) :: os.set i (oW wb mp (.slice N2 nn cap2) N2 cap2 ks ns2 wrl) := ⟨_, rfl⟩
      obtain ⟨ts9, hts9⟩ : ∃ x, x = tN Any T2 [⟨.mk k u n s l, kids, tmc k u n s A la cA, (A1, c1, l1), (A2, c2, l2), (A3, c3, l3), (none, 0, [])⟩] :: tN Any T3 ns2 :: ts := ⟨_, rfl⟩
      rw [← hts9, ← hos9] at F14
      have hi9 : os9[i + 3]? = some (oW wb mp (.slice N2 nn cap2) N2 cap2 ks ns2 wrl) := by rw [hos9]; simpa using set_get HI.out
      have hb9 : ∀ W, (os9.set (i + 3) W)[0]? = some (oB b8 111 c9) := fun W => by rw [hos9]; rfl
      have H9 := Lib.hid hi9
      have HS9 : Hid (os9.set (i + 3) (oW wb mp (.slice N2 nn cap2) N2 cap2 ks ns2 wrl) = os9) := Lib.hid (set_self hi9)
      clear hi9 hks hwr hl9 ho9 k6 k7 hx9 hnd F13y
      go_wp2_with fail
      refine wp_region_upx (X := Nat × Option Addr × Nat) (0, none, 0) (fun x => [(59, .pointer (some ⟨wb, 0, none⟩)), (60, .pointer (some ⟨wb, 0, none⟩)), (61, .pointer (some ⟨wb, 0, none⟩)), (62, .pointer (some ⟨wb, 1, none⟩)), (63, .slice N2 nn cap2), (64, .agg c9.toArray), (65, .slice (some ⟨x.1, 0, none⟩) 1 1), (66, .slice x.2.1 (nn + 1) x.2.2), (67, .pointer (some ⟨wb, 0, none⟩)), (68, .pointer (some ⟨wb, 1, none⟩))]) 100 [59, 60, 61, 62, 63, 64, 65, 66, 67, 68] rfl (fun _ => rfl) (by decide) (by kernel_rfl) (fun x lz v => S11 w0 os9 ts9 (i + 3) wb mp nn N2 cap2 ks ns2 nd wrl (lz 6) (lz 7) (lz 10) x v) (by kernel_rfl) (by simpa [S11] using (show _ ∧ _ from ⟨HS9.out.symm ▸ F14, trivial⟩)) (by kernel_rfl) (by kernel_rfl) ?step ?fin
      case step =>
        intro x lz T v j o hj hlj hdep hst hpar hgot hcl Kq hK
        have hjn : j < 11 := (Array.getElem?_eq_some_iff.1 hj).1
        obtain rfl | rfl | rfl | rfl | rfl | rfl | rfl | rfl | rfl | rfl | rfl : j = 0 ∨ j = 1 ∨ j = 2 ∨ j = 3 ∨ j = 4 ∨ j = 5 ∨ j = 6 ∨ j = 7 ∨ j = 8 ∨ j = 9 ∨ j = 10 := by omega
        all_goals (have hj' := Option.some.inj (hj : some _ = some o); subst hj'; clear hj)
        · exact wp_ran rfl (exec_move rfl (eval_tmp ((hpar 0 rfl).trans rfl))) (hK x _ _ (fun _ _ _ _ _ _ => rfl) (fun s hs => by cases hs; rfl) (by simpa using hst))
        · exact wp_ran rfl (exec_move rfl (eval_tmp ((hpar 0 rfl).trans rfl))) (hK x _ _ (fun _ _ _ _ _ _ => rfl) (fun s hs => by cases hs; rfl) (by simpa using hst))
        · exact wp_ran rfl (exec_nil rfl (eval_tmp (hgot 1 _ 60 rfl (hdep ⟨1, .data⟩ (by simp) rfl) rfl))) (hK x _ _ (fun _ _ _ _ _ _ => rfl) (fun s hs => by cases hs; rfl) (by simpa using hst))
        · exact wp_ran rfl (exec_fp106_1 rfl (eval_tmp (hgot 2 _ 61 rfl (hdep ⟨2, .data⟩ (by simp) rfl) rfl))) (hK x _ _ (fun _ _ _ _ _ _ => rfl) (fun s hs => by cases hs; rfl) (by simpa using hst))
        · have l7 : lz 7 = false := (by cases hh : lz 7 with | false => rfl | true => exact absurd (hcl 7 _ rfl hh ⟨4, .data⟩ (by simp) rfl) (by rw [hlj]; simp))
          have l10 : lz 10 = false := (by cases hh : lz 10 with | false => rfl | true => exact absurd (hcl 10 _ rfl hh ⟨4, .phase⟩ (by simp) rfl) (by rw [hlj]; simp))
          have hst2 : Fm w0 v (os9.set (i + 3) (oW wb mp (.slice N2 nn cap2) N2 cap2 ks ns2 wrl)) ts9 ∧ (lz 6 = true → Cells v (some ⟨x.1, 0, none⟩) (ndv nd)) := by simpa [S11, l7, l10] using hst
          obtain ⟨F, hC⟩ := hst2
          exact wp_ran rfl (exec_load rfl (eval_tmp (hgot 3 _ 62 rfl (hdep ⟨3, .data⟩ (by simp) rfl) rfl)) (run_load1 Tryd.underlying104 rfl (F.web (set_get H9.out)).rowc)) (hK x _ _ (fun _ _ _ _ _ _ => rfl) (fun s hs => by cases hs; rfl) (by simpa using hst))
        · have l7 : lz 7 = false := (by cases hh : lz 7 with | false => rfl | true => exact absurd (hcl 6 _ rfl (hcl 7 _ rfl hh ⟨6, .data⟩ (by simp) rfl) ⟨5, .data⟩ (by simp) rfl) (by rw [hlj]; simp))
          have l10 : lz 10 = false := (by cases hh : lz 10 with | false => rfl | true => exact absurd (hcl 10 _ rfl hh ⟨5, .phase⟩ (by simp) rfl) (by rw [hlj]; simp))
          have hst2 : Fm w0 v (os9.set (i + 3) (oW wb mp (.slice N2 nn cap2) N2 cap2 ks ns2 wrl)) ts9 ∧ (lz 6 = true → Cells v (some ⟨x.1, 0, none⟩) (ndv nd)) := by simpa [S11, l7, l10] using hst
          obtain ⟨F, hC⟩ := hst2
          exact wp_ran rfl (exec_load rfl (eval_tmp ((hpar 9 rfl).trans rfl)) (run_loads (Cells.of_holds (F.blk 0 (hb9 _))) Tryd.underlying111 rfl (by rw [HL9.out]; exact size111))) (hK x _ _ (fun _ _ _ _ _ _ => rfl) (fun s hs => by cases hs; rfl) (by simpa using hst))
        · have l7 : lz 7 = false := (by cases hh : lz 7 with | false => rfl | true => exact absurd (hcl 7 _ rfl hh ⟨6, .data⟩ (by simp) rfl) (by rw [hlj]; simp))
          have l10 : lz 10 = false := (by cases hh : lz 10 with | false => rfl | true => exact absurd (hcl 10 _ rfl hh ⟨7, .data⟩ (by simp) rfl) (by rw [l7]; simp))
          have hst2 : Fm w0 v (os9.set (i + 3) (oW wb mp (.slice N2 nn cap2) N2 cap2 ks ns2 wrl)) ts9 ∧ (lz 6 = true → Cells v (some ⟨x.1, 0, none⟩) (ndv nd)) := by simpa [S11, l7, l10] using hst
          obtain ⟨F, hC⟩ := hst2
          have hH := Holds.made v 111 c9
          refine wp_ran rfl (exec_lit104 HL9.out rfl (eval_tmp (hgot 5 _ 64 rfl (hdep ⟨5, .data⟩ (by simp) rfl) rfl))) (hK (v.heap.size, x.2) _ _ (fun j' o' s' g1 g2 g3 => by
              have g4 : j' < 11 := (Array.getElem?_eq_some_iff.1 g1).1
              clear hpar hgot hdep hK
              obtain rfl | rfl | rfl | rfl | rfl | rfl | rfl | rfl | rfl | rfl | rfl : j' = 0 ∨ j' = 1 ∨ j' = 2 ∨ j' = 3 ∨ j' = 4 ∨ j' = 5 ∨ j' = 6 ∨ j' = 7 ∨ j' = 8 ∨ j' = 9 ∨ j' = 10 := by omega
              all_goals (cases g1; cases g3 <;> first | rfl | (rw [hlj] at g2; cases g2))) (fun s hs => by cases hs; rfl) ?_)
          have hst3 : Fm w0 (v.alloc (.cells c9.toArray 111)) (os9.set (i + 3) (oW wb mp (.slice N2 nn cap2) N2 cap2 ks ns2 wrl)) ts9 ∧ Cells (v.alloc (.cells c9.toArray 111)) (some ⟨v.heap.size, 0, none⟩) (ndv nd) := ⟨F.call (Mod.alloc [] v _), by rw [← HX9.out]; exact Cells.of_holds hH⟩
          simpa [S11, l7, l10] using hst3
        · have t6 : lz 6 = true := (hdep ⟨6, .data⟩ (by simp) rfl)
          have l10 : lz 10 = false := (by cases hh : lz 10 with | false => rfl | true => exact absurd (hcl 10 _ rfl hh ⟨7, .data⟩ (by simp) rfl) (by rw [hlj]; simp))
          have hst2 : Fm w0 v (os9.set (i + 3) (oW wb mp (.slice N2 nn cap2) N2 cap2 ks ns2 wrl)) ts9 ∧ (lz 6 = true → Cells v (some ⟨x.1, 0, none⟩) (ndv nd)) := by simpa [S11, hlj, l10] using hst
          obtain ⟨F, hC⟩ := hst2
          obtain ⟨A5, c5, v15, hap, F15⟩ := F.webNode (i := i + 3) (set_get H9.out) nd (by rw [← HX9.out]; exact HL9.out) (by rw [← HX9.out]; exact HO9.out) 104 ⟨x.1, 0, none⟩ 1 (hC t6) HNS.out
          rw [← HNN.out] at hap
          rw [List.set_set] at F15
          refine wp_ran rfl (exec_append rfl (eval_tmp (hgot 4 _ 63 rfl (hdep ⟨4, .data⟩ (by simp) rfl) rfl)) (eval_tmp (hgot 6 _ 65 rfl (hdep ⟨6, .data⟩ (by simp) rfl) rfl)) hap) (hK (x.1, A5, c5) _ _ (fun j' o' s' g1 g2 g3 => by
              have g4 : j' < 11 := (Array.getElem?_eq_some_iff.1 g1).1
              clear hpar hgot hdep hK
              obtain rfl | rfl | rfl | rfl | rfl | rfl | rfl | rfl | rfl | rfl | rfl : j' = 0 ∨ j' = 1 ∨ j' = 2 ∨ j' = 3 ∨ j' = 4 ∨ j' = 5 ∨ j' = 6 ∨ j' = 7 ∨ j' = 8 ∨ j' = 9 ∨ j' = 10 := by omega
              all_goals (cases g1; cases g3 <;> first | rfl | (rw [hlj] at g2; cases g2))) (fun s hs => by cases hs; rfl) ?_)
          simpa [S11, l10] using F15
        · exact wp_ran rfl (exec_nil rfl (eval_tmp (hgot 0 _ 59 rfl (hdep ⟨0, .data⟩ (by simp) rfl) rfl))) (hK x _ _ (fun _ _ _ _ _ _ => rfl) (fun s hs => by cases hs; rfl) (by simpa using hst))
        · exact wp_ran rfl (exec_fp106_1 rfl (eval_tmp (hgot 8 _ 67 rfl (hdep ⟨8, .data⟩ (by simp) rfl) rfl))) (hK x _ _ (fun _ _ _ _ _ _ => rfl) (fun s hs => by cases hs; rfl) (by simpa using hst))
        · have t7 : lz 7 = true := (hdep ⟨7, .data⟩ (by simp) rfl)
          have hst2 : Fm w0 v (os9.set (i + 3) (oW wb mp (.slice N2 nn cap2) x.2.1 x.2.2 ks (ns2 ++ [nd]) wrl)) ts9 := by simpa [S11, t7, hlj] using hst
          have W := hst2.web (set_get H9.out)
          refine wp_stored1 (ty := 104) rfl rfl (eval_tmp (hgot 9 _ 68 rfl (hdep ⟨9, .data⟩ (by simp) rfl) rfl)) (eval_tmp (hgot 7 _ 66 rfl (hdep ⟨7, .data⟩ (by simp) rfl) rfl)) rfl size104 W.rowc (W.blk.free 1) (hK x _ _ (fun _ _ _ _ _ _ => rfl) (fun s hs => by cases hs) ?_)
          have F16 := hst2.webRow (i := i + 3) (set_get H9.out) (.slice x.2.1 (nn + 1) x.2.2)
          rw [List.set_set] at F16
          simpa [S11] using F16
      case fin =>
      intro x lz v17 hlz hst
      obtain ⟨g5, A5, c5⟩ := x
      have F17 : Fm w0 v17 (os9.set (i + 3) (oW wb mp (.slice A5 (nn + 1) c5) A5 c5 ks (ns2 ++ [nd]) wrl)) ts9 := by simpa [S11, hlz 10 (by decide)] using hst
      clear hst hlz HS9
      simp only [setAll, Act.put, List.foldl_cons, List.foldl_nil, List.setIfInBounds_toArray, List.set_cons_succ, List.set_cons_zero]
      rw [hos9, hts9] at F17
      simp only [List.set_cons_succ, List.set_set] at F17
      clear H9 hb9 hos9 hts9 F14
      obtain ⟨VA, hVA⟩ : ∃ x : Value, x = .slice A5 (nn + 1) c5 := ⟨_, rfl⟩
      rw [← hVA] at F17
      have HVA := Lib.hid hVA
      clear hVA
      have NUMS := Lib.hid (show l2.length + l3.length ≤ 100000 from (by have h1 := numOf_get Q2.out.2.2.2.1; have h2 := numOf_get Q2.out.2.2.2.2.1; have h3 := keysT_len (.mk k u n s l); have h4 := needs_len HOK.out; omega))
      obtain ⟨L, hL⟩ : ∃ x, x = l2 ++ l3 := ⟨_, rfl⟩
      obtain ⟨ln, hln⟩ : ∃ x, x = L.length := ⟨_, rfl⟩
      have HL12 := Lib.hid hL
      have HLN := Lib.hid hln
      clear hL hln
      go_wp2_with (first
        | (with_reducible refine fm_load1 F17 0 6 rfl (.slice A2 n2 c2) HK6.out (o := ⟨some 70, _, _, _, _, _⟩) rfl 80 (.tmp 69) rfl rfl (fun h => run_load1 Tryd.underlying80 rfl h) ?_)
        | (with_reducible refine fm_load1 F17 0 7 rfl (.slice A3 n3 c3) HK7.out (o := ⟨some 72, _, _, _, _, _⟩) rfl 80 (.tmp 71) rfl rfl (fun h => run_load1 Tryd.underlying80 rfl h) ?_)
        | (with_reducible refine fm_lit2S F17 (o := ⟨some 73, .buildSlice 134 2 #[(0, .tmp 70), (1, .tmp 72)], _, _, _, _⟩) rfl (.tmp 70) (.tmp 72) rfl A2 A3 n2 c2 n3 c3 rfl rfl ?_; intro g18 w18 F18; clear F17)
        | (go_at_call 84; refine (concatG_c g18 A2 A3 n2 c2 n3 c3 ln l2 l3 w18 Q2.out.2.2.2.2.2.2.2.2.1 Q2.out.2.2.2.2.2.2.2.2.2 (HLN.out.trans (congrArg List.length HL12.out)) (Cells.of_holds (F18.blk 0 rfl)) ((F18.k _ (.inr (F18.mem 0 rfl))).2.1.1 _ (List.mem_singleton.2 rfl)).keys.1 ((F18.k _ (.inr (F18.mem 0 rfl))).2.1.1 _ (List.mem_singleton.2 rfl)).needs.1 NUMS.out).mono ?_
           rintro e w19 ⟨AL, cL, rfl, hO, m19, hlo⟩
           rw [← HL12.out] at hO
           have F19 := F18.put m19 (tI Any (· ∈ blkOf AL) AL L) (keeps_tI _ _ _ _) ⟨by rw [← fi_flat]; exact hO.cells, fun a ha _ => by rw [ha]; exact blk_of, fun _ _ => trivial⟩ (fun g hg => by
             obtain ⟨a', ha', rfl⟩ := mem_blk hg
             exact .inl ⟨hlo a' ha', hO.lt a' ha'⟩)
           clear F18 m19 hlo hO))
      have hwr2 : wrl = (ns2 ++ [nd]).map (·.wakes) := by rw [HWR.out, List.map_append, HND.out]; rfl
      have F20 := F19.sub (os' := os.set i (oW wb mp VA A5 c5 ks (ns2 ++ [nd]) wrl)) (List.sublist_append_right [_, _, _, _] _) (fun y hy => hy)
      rw [hwr2] at F20
      clear hwr2 F19
      have HLT : Hid (∀ m ∈ L, m < ns2.length) := Lib.hid (fun m hm => by
        rw [HL12.out] at hm
        rcases List.mem_append.1 hm with h | h
        · simpa using numOf_lt Q2.out.2.2.2.2.1 h
        · simpa using numOf_lt Q2.out.2.2.2.1 h)
      have HB2 : Hid (ns2.length ≤ 10000000) := Lib.hid (by have h1 := Q2.out.2.2.1.1; have h2 := HB6.out; have h3 := lk_le (.mk k u n s l); omega)
      go_loopw [76] (fun iv wq => ∃ (j : Nat) (ns' : List NdC), iv = .int .i64 j ∧ j ≤ ln ∧ Fm w0 wq (os.set i (oW wb mp VA A5 c5 ks ns' (ns'.map (·.wakes)))) (tI Any (· ∈ blkOf AL) AL L :: tN Any T2 [⟨.mk k u n s l, kids, tmc k u n s A la cA, (A1, c1, l1), (A2, c2, l2), (A3, c3, l3), (none, 0, [])⟩] :: tN Any T3 ns2 :: ts) ∧ Hid (SameN ns' (ns2 ++ [nd]) ∧ grN ns' = wks (grN (ns2 ++ [nd])) (L.take j) nn)) (fun iv _ => ln - (intOf iv).toNat)
      case atStart => exact ⟨0, ns2 ++ [nd], rfl, Nat.zero_le _, F20, Lib.hid ⟨SameN.refl _, by rw [List.take_zero]; rfl⟩⟩
      case round =>
      clear F20
      obtain ⟨j, ns', rfl, hj, FJ, hh⟩ := hrel
      by_cases hjl : j < ln
      case neg =>
        obtain rfl : ln = j := by omega
        go_wp2_with fail
        go_ret
        obtain ⟨h1, h2⟩ := hh.out
        rw [HLN.out, List.take_length] at h2
        obtain ⟨q1, q2, q3, q4, q5, q6, q7, _, _, _⟩ := Q2.out
        have hlen : ns'.length = ns2.length + 1 := by rw [h1.1]; simp
        obtain ⟨GG, GE, GT⟩ := Good.push q1 (x := nd) (by rw [HND.out]; exact HOK.out) (by rw [HND.out]; exact fr) (by rw [HND.out]; exact hkid2) (by rw [HND.out]; exact q4) (by rw [HND.out]; exact q5) (by rw [HND.out]; exact q6) (by rw [HND.out, HNN.out]) h1 (by rw [h2, HNN.out, HL12.out, HND.out])
        have eks : ks = ns'.map keyN := by rw [HKS.out, h1.keys, List.map_append, HND.out]; rfl
        have eVA : VA = .slice A5 ns'.length c5 := by rw [HVA.out, hlen, HNN.out]
        rw [eks, eVA] at FJ
        have FN := FJ.also (tN Any (fun g => T2 g ∨ T3 g) ns') (keeps_tN _ _ _) ⟨stands_same h1 (fun x hx => by
            rcases List.mem_append.1 hx with hx | hx
            · exact ((FJ.k _ (.inr (FJ.mem 2 rfl))).2.1.1 x hx).mono fun g hg => .inr hg
            · rw [List.mem_singleton] at hx
              have hs := (FJ.k _ (.inr (FJ.mem 1 rfl))).2.1.1 _ (List.mem_singleton.2 rfl)
              rw [hx, HND.out]
              exact StandN.mono ⟨hs.t, hs.ins, hs.keys, hs.needs⟩ fun g hg => .inl hg), fun _ _ => trivial⟩ (fun g hg => hg.elim (fun h => ⟨_, FJ.mem 1 rfl, h⟩) (fun h => ⟨_, FJ.mem 2 rfl, h⟩))
        refine ⟨ns', nn, rfl, ⟨A5, c5, _, FN.sub (ts' := [] ++ (tN Any (fun g => T2 g ∨ T3 g) ns' :: ts)) (List.Sublist.refl _) (fun y hy => ?_), GG, (HQB.out.then q2).then GE, ?_⟩, ?_⟩
        · rcases List.mem_cons.1 hy with rfl | hy
          · exact List.mem_cons_self ..
          · exact List.mem_cons_of_mem _ (List.mem_cons_of_mem _ (List.mem_cons_of_mem _ (List.mem_cons_of_mem _ hy)))
        · have hf := few_push HQC.out q3 hlen h2 (by rw [HND.out, Tm.count]) (lk_le _) (fun h => by
            have h3 : Tm.kind (.mk k u n s l) = 7 ∨ Tm.kind (.mk k u n s l) = 8 := by
              unfold lk at h
              split at h
              · assumption
              · omega
            have := two_count HOK.out h3
            rw [Tm.count] at this
            omega)
          rw [Tm.count]
          exact hf
        · rw [HNN.out, GT, HND.out]
      case pos =>
        have hjq : j < L.length := by rw [← HLN.out]; exact hjl
        obtain ⟨g, q, e, hc⟩ := FJ.tic (FJ.mem 0 rfl) j (by simpa using hjq)
        subst e
        simp only [List.getElem_map] at hc
        obtain ⟨m0, hm0⟩ : ∃ m, m = L[j]'hjq := ⟨_, rfl⟩
        rw [← hm0] at hc
        have hc' : wr.cell? ⟨g, q + j * 1, none⟩ = some (vi m0) := by rw [Nat.mul_one]; exact hc
        have hm2 : m0 < ns2.length := by rw [hm0]; exact HLT.out _ (List.getElem_mem hjq)
        have hlen : ns'.length = ns2.length + 1 := by rw [hh.out.1.1]; simp
        have hm3 : m0 < ns'.length := by omega
        obtain ⟨gA, rfl, hCn, h9n, h1n⟩ := (FJ.web (set_get HI.out)).node m0 hm3
      
        obtain ⟨wk0, hwk⟩ : ∃ r, r = ns'[m0].wakes := ⟨_, rfl⟩
        have HWK := Lib.hid hwk
        have HM3 := Lib.hid hm3
        have hmn : m0 < nn + 1 := by rw [HNN.out]; omega
        have HWB : Hid (wk0.2.2.length ≤ 100000000) := Lib.hid (by
          have h1 := wk_few hh.out.2 hm3 (by simp; omega)
          have h2 := Q2.out.1.few _ (List.getElem_mem hm2)
          rw [List.getElem_append_left hm2] at h1
          have h3 : (L.take j).length ≤ L.length := by rw [List.length_take]; omega
          have h4 := NUMS.out
          have h5 : L.length = l2.length + l3.length := by rw [HL12.out, List.length_append]
          have h6 := HB2.out
          rw [← hwk] at h1
          omega)
        have HM0 := Lib.hid hm0
        clear hCn h9n h1n hm0 hc hlen hwk
        go_wp2_with (first
          | (with_reducible refine wpList_ran (o := ⟨some 78, _, _, _, _, _⟩) rfl (.pointer (some ⟨g, q + j * 1, none⟩)) (exec_ixs Tryd.underlying80 int_one hjl rfl rfl rfl) ?_)
          | (with_reducible refine wpList_ran (o := ⟨some 79, _, _, _, _, _⟩) rfl (vi m0) (exec_load rfl rfl (run_load1 Tryd.underlying3 rfl hc')) ?_))
        have FD := FJ.call (Mod.drew [] wr)
        obtain ⟨tsL, htsL⟩ : ∃ x, x = (tI Any (· ∈ blkOf (some ⟨g, q, none⟩)) (some ⟨g, q, none⟩) L :: tN Any T2 [⟨.mk k u n s l, kids, tmc k u n s A la cA, (A1, c1, l1), (A2, c2, l2), (A3, c3, l3), (none, 0, [])⟩] :: tN Any T3 ns2 :: ts) := ⟨_, rfl⟩
        rw [← htsL] at FD
        have HTSL := Lib.hid htsL
        clear htsL FJ hc'
        refine wp_region_upx (X := Nat × Rw) (0, none, 0, []) (fun x => [(80, .pointer (some ⟨wb, 0, none⟩)), (81, .pointer (some ⟨wb, 0, none⟩)), (82, .pointer (some ⟨wb, 1, none⟩)), (83, .slice (some ⟨gA, 0, none⟩) (nn + 1) c5), (84, .int .i64 (m0 : Int)), (85, .pointer (some ⟨wb, 0, none⟩)), (86, .pointer (some ⟨wb, 0, none⟩)), (87, .pointer (some ⟨wb, 1, none⟩)), (88, .slice (some ⟨gA, 0, none⟩) (nn + 1) c5), (89, .int .i64 (m0 : Int)), (90, .pointer (some ⟨gA, m0 * 9, none⟩)), (91, .pointer (some ⟨gA, m0 * 9 + 8, none⟩)), (92, rv wk0), (93, .int .i64 (nn : Int)), (94, .slice (some ⟨x.1, 0, none⟩) 1 1), (95, rv x.2), (96, .pointer (some ⟨gA, m0 * 9, none⟩)), (97, .pointer (some ⟨gA, m0 * 9 + 8, none⟩))]) 100 [80, 81, 82, 83, 84, 85, 86, 87, 88, 89, 90, 91, 92, 93, 94, 95, 96, 97] rfl (fun _ => rfl) (by decide) (by kernel_rfl) (fun x lz v => S15 w0 os tsL i wb mp nn m0 VA (some ⟨gA, 0, none⟩) c5 ks ns' (fun r => ns'.set m0 { ns'[m0]'HM3.out with wakes := r }) wk0.2.2 (lz 14) (lz 15) (lz 18) x v) (by kernel_rfl) (by simpa [S15] using (show _ ∧ _ from ⟨FD, trivial⟩)) (by kernel_rfl) (by kernel_rfl) ?step ?fin
        case step =>
          intro x lz T v j o hj hlj hdep hst hpar hgot hcl Kq hK
          have hjn : j < 19 := (Array.getElem?_eq_some_iff.1 hj).1
          obtain rfl | rfl | rfl | rfl | rfl | rfl | rfl | rfl | rfl | rfl | rfl | rfl | rfl | rfl | rfl | rfl | rfl | rfl | rfl : j = 0 ∨ j = 1 ∨ j = 2 ∨ j = 3 ∨ j = 4 ∨ j = 5 ∨ j = 6 ∨ j = 7 ∨ j = 8 ∨ j = 9 ∨ j = 10 ∨ j = 11 ∨ j = 12 ∨ j = 13 ∨ j = 14 ∨ j = 15 ∨ j = 16 ∨ j = 17 ∨ j = 18 := by omega
          all_goals (have hj' := Option.some.inj (hj : some _ = some o); subst hj'; clear hj)
          · exact wp_ran rfl (exec_move rfl (eval_tmp ((hpar 0 rfl).trans rfl))) (hK x _ _ (fun _ _ _ _ _ _ => rfl) (fun s hs => by cases hs; rfl) (by simpa using hst))
          · exact wp_ran rfl (exec_nil rfl (eval_tmp (hgot 0 _ 80 rfl (hdep ⟨0, .data⟩ (by simp) rfl) rfl))) (hK x _ _ (fun _ _ _ _ _ _ => rfl) (fun s hs => by cases hs; rfl) (by simpa using hst))
          · exact wp_ran rfl (exec_fp106_1 rfl (eval_tmp (hgot 1 _ 81 rfl (hdep ⟨1, .data⟩ (by simp) rfl) rfl))) (hK x _ _ (fun _ _ _ _ _ _ => rfl) (fun s hs => by cases hs; rfl) (by simpa using hst))
          · exact wp_ran rfl (exec_load rfl (eval_tmp (hgot 2 _ 82 rfl (hdep ⟨2, .data⟩ (by simp) rfl) rfl)) (run_load1 Tryd.underlying104 rfl (by rw [hst.rowc HI.out, HVA.out]))) (hK x _ _ (fun _ _ _ _ _ _ => rfl) (fun s hs => by cases hs; rfl) (by simpa using hst))
          · exact wp_ran rfl (exec_move rfl (eval_tmp ((hpar 12 rfl).trans rfl))) (hK x _ _ (fun _ _ _ _ _ _ => rfl) (fun s hs => by cases hs; rfl) (by simpa using hst))
          · exact wp_ran rfl (exec_move rfl (eval_tmp ((hpar 0 rfl).trans rfl))) (hK x _ _ (fun _ _ _ _ _ _ => rfl) (fun s hs => by cases hs; rfl) (by simpa using hst))
          · exact wp_ran rfl (exec_nil rfl (eval_tmp (hgot 5 _ 85 rfl (hdep ⟨5, .data⟩ (by simp) rfl) rfl))) (hK x _ _ (fun _ _ _ _ _ _ => rfl) (fun s hs => by cases hs; rfl) (by simpa using hst))
          · exact wp_ran rfl (exec_fp106_1 rfl (eval_tmp (hgot 6 _ 86 rfl (hdep ⟨6, .data⟩ (by simp) rfl) rfl))) (hK x _ _ (fun _ _ _ _ _ _ => rfl) (fun s hs => by cases hs; rfl) (by simpa using hst))
          · exact wp_ran rfl (exec_load rfl (eval_tmp (hgot 7 _ 87 rfl (hdep ⟨7, .data⟩ (by simp) rfl) rfl)) (run_load1 Tryd.underlying104 rfl (by rw [hst.rowc HI.out, HVA.out]))) (hK x _ _ (fun _ _ _ _ _ _ => rfl) (fun s hs => by cases hs; rfl) (by simpa using hst))
          · exact wp_ran rfl (exec_move rfl (eval_tmp ((hpar 12 rfl).trans rfl))) (hK x _ _ (fun _ _ _ _ _ _ => rfl) (fun s hs => by cases hs; rfl) (by simpa using hst))
          · exact wp_ran rfl (exec_ixs104 hmn rfl (eval_tmp (hgot 8 _ 88 rfl (hdep ⟨8, .data⟩ (by simp) rfl) rfl)) (eval_tmp (hgot 9 _ 89 rfl (hdep ⟨9, .data⟩ (by simp) rfl) rfl))) (hK x _ _ (fun _ _ _ _ _ _ => rfl) (fun s hs => by cases hs; rfl) (by simpa using hst))
          · exact wp_ran rfl (exec_fp111_4 rfl (eval_tmp (hgot 10 _ 90 rfl (hdep ⟨10, .data⟩ (by simp) rfl) rfl))) (hK x _ _ (fun _ _ _ _ _ _ => rfl) (fun s hs => by cases hs; rfl) (by simpa using hst))
          · have l15 : lz 15 = false := (by cases hh : lz 15 with | false => rfl | true => exact absurd (hcl 15 _ rfl hh ⟨12, .data⟩ (by simp) rfl) (by rw [hlj]; simp))
            have l18 : lz 18 = false := (by cases hh : lz 18 with | false => rfl | true => exact absurd (hcl 18 _ rfl hh ⟨12, .phase⟩ (by simp) rfl) (by rw [hlj]; simp))
            have hst2 : Fm w0 v (os.set i (oW wb mp VA (some ⟨gA, 0, none⟩) c5 ks ns' (ns'.map (·.wakes)))) tsL ∧ (lz 14 = true → Cells v (some ⟨x.1, 0, none⟩) [vi nn]) := by simpa [S15, l15, l18] using hst
            obtain ⟨F, hC⟩ := hst2
            have W := F.web (set_get HI.out)
            obtain ⟨gB, hgB, hCn, h9n, _⟩ := W.node m0 HM3.out
            cases hgB
            have h := hCn.at 8 (by omega)
            have h' := ndv8 h9n
            rw [List.getElem?_eq_getElem (by omega)] at h'
            have hcv : v.cell? ⟨gA, m0 * 9 + 8, none⟩ = some (rv wk0) := by rw [h, h', HWK.out]
            exact wp_ran rfl (exec_load rfl (eval_tmp (hgot 11 _ 91 rfl (hdep ⟨11, .data⟩ (by simp) rfl) rfl)) (run_load1 Tryd.underlying80 rfl hcv)) (hK x _ _ (fun _ _ _ _ _ _ => rfl) (fun s hs => by cases hs; rfl) (by simpa using hst))
          · exact wp_ran rfl (exec_move rfl (eval_tmp ((hpar 10 rfl).trans rfl))) (hK x _ _ (fun _ _ _ _ _ _ => rfl) (fun s hs => by cases hs; rfl) (by simpa using hst))
          · have l15 : lz 15 = false := (by cases hh : lz 15 with | false => rfl | true => exact absurd (hcl 15 _ rfl hh ⟨14, .data⟩ (by simp) rfl) (by rw [hlj]; simp))
            have l18 : lz 18 = false := (by cases hh : lz 18 with | false => rfl | true => exact absurd (hcl 18 _ rfl hh ⟨14, .phase⟩ (by simp) rfl) (by rw [hlj]; simp))
            have hst2 : Fm w0 v (os.set i (oW wb mp VA (some ⟨gA, 0, none⟩) c5 ks ns' (ns'.map (·.wakes)))) tsL ∧ (lz 14 = true → Cells v (some ⟨x.1, 0, none⟩) [vi nn]) := by simpa [S15, l15, l18] using hst
            obtain ⟨F, hC⟩ := hst2
            have hH := Holds.made v 3 [vi nn]
            refine wp_ran rfl (exec_lit80 rfl (eval_tmp (hgot 13 _ 93 rfl (hdep ⟨13, .data⟩ (by simp) rfl) rfl))) (hK (v.heap.size, x.2) _ _ (fun j' o' s' g1 g2 g3 => by
                have g4 : j' < 19 := (Array.getElem?_eq_some_iff.1 g1).1
                clear hpar hgot hdep hK
                obtain rfl | rfl | rfl | rfl | rfl | rfl | rfl | rfl | rfl | rfl | rfl | rfl | rfl | rfl | rfl | rfl | rfl | rfl | rfl : j' = 0 ∨ j' = 1 ∨ j' = 2 ∨ j' = 3 ∨ j' = 4 ∨ j' = 5 ∨ j' = 6 ∨ j' = 7 ∨ j' = 8 ∨ j' = 9 ∨ j' = 10 ∨ j' = 11 ∨ j' = 12 ∨ j' = 13 ∨ j' = 14 ∨ j' = 15 ∨ j' = 16 ∨ j' = 17 ∨ j' = 18 := by omega
                all_goals (cases g1; cases g3 <;> first | rfl | (rw [hlj] at g2; cases g2))) (fun s hs => by cases hs; rfl) ?_)
            have hst3 : Fm w0 (v.alloc (.cells [vi nn].toArray 3)) (os.set i (oW wb mp VA (some ⟨gA, 0, none⟩) c5 ks ns' (ns'.map (·.wakes)))) tsL ∧ Cells (v.alloc (.cells [vi nn].toArray 3)) (some ⟨v.heap.size, 0, none⟩) [vi nn] := ⟨F.call (Mod.alloc [] v _), Cells.of_holds hH⟩
            simpa [S15, l15, l18] using hst3
          · have t14 : lz 14 = true := (hdep ⟨14, .data⟩ (by simp) rfl)
            have l18 : lz 18 = false := (by cases hh : lz 18 with | false => rfl | true => exact absurd (hcl 18 _ rfl hh ⟨15, .data⟩ (by simp) rfl) (by rw [hlj]; simp))
            have hst2 : Fm w0 v (os.set i (oW wb mp VA (some ⟨gA, 0, none⟩) c5 ks ns' (ns'.map (·.wakes)))) tsL ∧ (lz 14 = true → Cells v (some ⟨x.1, 0, none⟩) [vi nn]) := by simpa [S15, hlj, l18] using hst
            obtain ⟨F, hC⟩ := hst2
            obtain ⟨A9, c9', v9, hap, F9⟩ := F.webMore (i := i) (set_get HI.out) m0 (by rw [List.length_map]; exact HM3.out) nn 80 ⟨x.1, 0, none⟩ 1 (hC t14) (by rw [List.getElem_map, ← HWK.out]; exact HWB.out)
            rw [List.getElem_map, ← HWK.out] at hap F9
            rw [List.set_set] at F9
            refine wp_ran rfl (exec_append rfl (eval_tmp (hgot 12 _ 92 rfl (hdep ⟨12, .data⟩ (by simp) rfl) rfl)) (eval_tmp (hgot 14 _ 94 rfl (hdep ⟨14, .data⟩ (by simp) rfl) rfl)) hap) (hK (x.1, A9, c9', wk0.2.2 ++ [nn]) _ _ (fun j' o' s' g1 g2 g3 => by
                have g4 : j' < 19 := (Array.getElem?_eq_some_iff.1 g1).1
                clear hpar hgot hdep hK
                obtain rfl | rfl | rfl | rfl | rfl | rfl | rfl | rfl | rfl | rfl | rfl | rfl | rfl | rfl | rfl | rfl | rfl | rfl | rfl : j' = 0 ∨ j' = 1 ∨ j' = 2 ∨ j' = 3 ∨ j' = 4 ∨ j' = 5 ∨ j' = 6 ∨ j' = 7 ∨ j' = 8 ∨ j' = 9 ∨ j' = 10 ∨ j' = 11 ∨ j' = 12 ∨ j' = 13 ∨ j' = 14 ∨ j' = 15 ∨ j' = 16 ∨ j' = 17 ∨ j' = 18 := by omega
                all_goals (cases g1; cases g3 <;> first | rfl | (rw [hlj] at g2; cases g2))) (fun s hs => by cases hs; rfl) ?_)
            have hst4 : Fm w0 v9 (os.set i (oW wb mp VA (some ⟨gA, 0, none⟩) c5 ks ns' ((ns'.map (·.wakes)).set m0 (A9, c9', wk0.2.2 ++ [nn])))) tsL := F9
            simpa [S15, l18] using hst4
          · exact wp_ran rfl (exec_ixs104 hmn rfl (eval_tmp (hgot 3 _ 83 rfl (hdep ⟨3, .data⟩ (by simp) rfl) rfl)) (eval_tmp (hgot 4 _ 84 rfl (hdep ⟨4, .data⟩ (by simp) rfl) rfl))) (hK x _ _ (fun _ _ _ _ _ _ => rfl) (fun s hs => by cases hs; rfl) (by simpa using hst))
          · exact wp_ran rfl (exec_fp111_4 rfl (eval_tmp (hgot 16 _ 96 rfl (hdep ⟨16, .data⟩ (by simp) rfl) rfl))) (hK x _ _ (fun _ _ _ _ _ _ => rfl) (fun s hs => by cases hs; rfl) (by simpa using hst))
          · have t15 : lz 15 = true := (hdep ⟨15, .data⟩ (by simp) rfl)
            have hst2 : Fm w0 v (os.set i (oW wb mp VA (some ⟨gA, 0, none⟩) c5 ks ns' ((ns'.map (·.wakes)).set m0 x.2))) tsL ∧ x.2.2.2 = wk0.2.2 ++ [nn] := by simpa [S15, t15, hlj] using hst
            obtain ⟨F, hx2⟩ := hst2
            have W := F.web (set_get HI.out)
            obtain ⟨gB, hgB, hCn, h9n, _⟩ := W.node m0 HM3.out
            cases hgB
            have h := hCn.at 8 (by omega)
            obtain ⟨gC, hgC, F9⟩ := F.webTold (i := i) (set_get HI.out) m0 HM3.out (W.ones m0 HM3.out) x.2
            cases hgC
            rw [List.set_set] at F9
            refine wp_stored1 (ty := 80) rfl rfl (eval_tmp (hgot 17 _ 97 rfl (hdep ⟨17, .data⟩ (by simp) rfl) rfl)) (eval_tmp (hgot 15 _ 95 rfl (hdep ⟨15, .data⟩ (by simp) rfl) rfl)) rfl size80 h (W.rowFree _) (hK x _ _ (fun _ _ _ _ _ _ => rfl) (fun s hs => by cases hs) ?_)
            have hst4 : Fm w0 (v.setCell ⟨gA, m0 * 9 + 8, none⟩ (rv x.2)) (os.set i (oW wb mp VA (some ⟨gA, 0, none⟩) c5 ks (ns'.set m0 { ns'[m0]'HM3.out with wakes := x.2 }) ((ns'.map (·.wakes)).set m0 x.2))) tsL ∧ x.2.2.2 = wk0.2.2 ++ [nn] := ⟨F9, hx2⟩
            simpa [S15] using hst4
        case fin =>
        intro x lz vq hlz hst
        obtain ⟨g5, A9, c9', l9⟩ := x
        have hst2 : Fm w0 vq (os.set i (oW wb mp VA (some ⟨gA, 0, none⟩) c5 ks (ns'.set m0 { ns'[m0]'HM3.out with wakes := (A9, c9', l9) }) ((ns'.map (·.wakes)).set m0 (A9, c9', l9)))) tsL ∧ l9 = wk0.2.2 ++ [nn] := by simpa [S15, hlz 18 (by decide)] using hst
        obtain ⟨F21, hl9⟩ := hst2
        clear hst hlz FD
        simp only [setAll, Act.put, List.foldl_cons, List.foldl_nil, List.setIfInBounds_toArray, List.set_cons_succ, List.set_cons_zero]
        have HL9q := Lib.hid hl9
        clear hl9
        have hlb : ln ≤ 100000 := by
          have h4 := NUMS.out
          rw [HLN.out, HL12.out, List.length_append]
          exact h4
        have hj1 : j + 1 ≤ ln := hjl
        go_wp2_with fail
        have h1 := hh.out
        rw [HTSL.out] at F21
        have hsame := h1.1.set m0 HM3.out (A9, c9', l9)
        have hgr : grN (ns'.set m0 { ns'[m0]'HM3.out with wakes := (A9, c9', l9) }) = wks (grN (ns2 ++ [nd])) (L.take (j + 1)) nn := by
          have e := gr_set (n := nn) HM3.out A9 c9'
          rw [← HWK.out, ← HL9q.out] at e
          rw [List.take_succ_eq_append_getElem hjq, ← HM0.out, wks_snoc, ← h1.2]
          exact e
        have hmp : (ns'.map (·.wakes)).set m0 (A9, c9', l9) = (ns'.set m0 { ns'[m0]'HM3.out with wakes := (A9, c9', l9) }).map (·.wakes) := by rw [List.map_set]
        rw [hmp] at F21
        exact ⟨⟨j + 1, _, by go_num, hj1, F21, Lib.hid ⟨hsame, hgr⟩⟩, by simp [intOf]; omega⟩
end
section
open Go.RowKit Go.Shelf
set_option linter.unusedVariables false
set_option linter.unusedSimpArgs false
theorem sec_okU (u : Int) (h1 : 1 ≤ u) (h2 : u ≤ 6) : (Tm.sec u).ok = true := by
  simp [Tm.sec, Tm.ok, Tm.one, Tm.may, Tm.nk, Tm.okAll, Tm.hasU, Tm.hasT, Tm.hasN, h1, h2]
  rfl
theorem sec_right {t : Tm} (h : t.ok = true) (hk : t.kind = 7 ∨ t.kind = 8) : (Tm.sec t.user).ok = true := by
  obtain ⟨k, u, n, s, l⟩ := t
  rw [ok_mk, Bool.and_eq_true] at h
  have h1 := h.1
  simp only [Tm.kind] at hk
  unfold Tm.one Tm.may at h1
  simp only [Bool.and_eq_true, decide_eq_true_eq] at h1
  obtain ⟨⟨a, ⟨b, c⟩, d⟩, e⟩ := h1
  have hu : 1 ≤ u ∧ u ≤ 6 := by
    rcases hk with rfl | rfl
    · simpa [Tm.hasU] using c
    · simpa [Tm.hasU] using c
  exact sec_okU u hu.1 hu.2
theorem add_sec (wb mp : Nat) (u : Int) (h : (Tm.sec u).ok = true) : AddC wb mp (Tm.sec u) :=
  add_try wb mp 3 u 0 ⟨#[]⟩ [] (all_of wb mp [] (fun t h => by cases h)) (laid_all wb mp _ (fun h => by simp [Tm.kind] at h)) h
theorem add_all (wb mp : Nat) : ∀ (b : Nat) (t : Tm), t.count ≤ b → t.ok = true → AddC wb mp t
  | 0, t, hb, _ => by have := Tm.count_pos t; omega
  | b + 1, .mk k u n s l, hb, h => by
    refine add_try wb mp k u n s l (all_of wb mp l fun x hx => add_all wb mp b x ?_ (ok_kid h hx)) (laid_all wb mp _ fun hk => ?_) h
    · have := Tm.mem_count hx
      rw [Tm.count] at hb
      omega
    · exact sec_of wb mp _ (add_sec wb mp _ (sec_right h hk))
end
section
open Go.RowKit Go.Shelf
set_option linter.unusedVariables false
set_option linter.unusedSimpArgs false
def f2 (x : Nat × Nat) : List Value := [vi x.1, vi x.2]
theorem f2_len (x : Nat × Nat) : (f2 x).length = 2 := rfl
theorem f2_one (x : Nat × Nat) : ∀ v ∈ f2 x, v.oneCell' = true := by
  intro v hv
  simp only [f2, List.mem_cons, List.not_mem_nil, or_false] at hv
  rcases hv with rfl | rfl <;> rfl
def oG (A : Option Addr) (c : Nat) (st : List (Nat × Nat)) : Th := ((· ∈ blkOf A), fun w => OwnG f2 117 2 w A c st)
theorem keeps_oG (A : Option Addr) (c : Nat) (st : List (Nat × Nat)) : keeps (oG A c st) := fun w v ms m h hw => OwnG.keep hw m (fun a ha => h _ (by rw [ha]; exact blk_of))
theorem info117 : ∃ i : TypeInfo, Tryd.prog.info? 117 = some i ∧ i.zero = some (.agg #[vi 0, vi 0]) ∧ i.size = 2 ∧ i.bytes = 16 :=
  info_parts (show (Tryd.prog.info? 117).map (fun i => (i.zero, i.size, i.bytes)) = some (some (.agg #[vi 0, vi 0]), 2, 16) by kernel_rfl)
theorem z117 (w : World) : (zeroValue 117).run Tryd.prog w = .ok (.agg #[vi 0, vi 0]) w := by kernel_rfl
theorem z117' (w : World) : (zeroValue 117).run Tryd.prog w = .ok (.agg [vi 0, vi 0].toArray) w := by kernel_rfl
theorem size117 : (Tryd.prog.info? 117).map (·.size) = some 2 := by kernel_rfl
theorem run_b117 (n h : Nat) (w : World) : (Instr.build 117 #[(0, vi n), (1, vi h)]).run Tryd.prog w = .ok (.agg (f2 (n, h)).toArray) w := by
  refine run_build w _ _ _ ?_
  kernel_rfl
theorem exec_b117 {v : World} {o : Oper} {ρ : Operand → Value} {x y : Operand} {n h : Nat} (ho : o.op = .build 117 #[(0, x), (1, y)]) (hx : ρ x = vi n) (hy : ρ y = vi h) : (execOp ρ o).run Tryd.prog v = .ok (.value (.agg (f2 (n, h)).toArray)) v := by
  unfold execOp
  simp only [ho, List.map_toArray, List.map_cons, List.map_nil, hx, hy, Sem.run_bind, run_b117, Result.andThen, Sem.run_pure]
section
variable {w0 w v : World} {os ts : List Th}
variable {ops : Array Oper} {rest : List Oper} {o : Oper} {a : Act} {Q : Exit → Act → World → Prop}
theorem fm_litG (F : Fm w0 w os ts) (hgd : o.guard = none) (x : Operand) (ho : o.op = .buildSlice 114 1 #[(0, x)]) (n : Nat × Nat) (hx : a.eval x = .agg (f2 n).toArray)
    (h : ∀ g v, Fm w0 v (oG (some ⟨g, 0, none⟩) 1 [n] :: os) ts → wpList Tryd.prog ops Q rest (a.put o.dst (.slice (some ⟨g, 0, none⟩) 1 1)) v) : wpList Tryd.prog ops Q (o :: rest) a w := by
  obtain ⟨it, i0, i1, i2, i3⟩ := info117
  have hr := run_lit1 (P := Tryd.prog) (t := 114) (e := 117) (V := .agg (f2 n).toArray) (cs := f2 n) (s := 2) w Tryd.underlying114 i0 i2 (by omega) (by omega) z117 rfl rfl
  have hH : Holds (w.alloc (.cells (f2 n).toArray 117)) w.heap.size 117 (f2 n) := Holds.made w 117 (f2 n)
  have hO : OwnG f2 117 2 (w.alloc (.cells (f2 n).toArray 117)) (some ⟨w.heap.size, 0, none⟩) 1 [n] := OwnG.of_holds (l := [n]) (by simpa [f2] using hH) f2_len (by simp [maxLen])
  have F' := F.own (Mod.alloc [] w (.cells (f2 n).toArray 117)) (oG (some ⟨w.heap.size, 0, none⟩) 1 [n]) (keeps_oG _ _ _) hO (fun g hg => by
    have : g = w.heap.size := by simpa [oG, blkOf, Go.Proofs.YtchanildogjhgaaDoor.blk] using hg
    subst this
    exact ⟨Nat.le_refl _, by simp⟩)
  refine wpList_ran_w hgd (.slice (some ⟨w.heap.size, 0, none⟩) 1 1) ?_ (h _ _ F')
  unfold execOp
  simp only [ho, List.map_toArray, List.map_cons, List.map_nil, hx, Sem.run_bind, hr, Result.andThen, Sem.run_pure]
theorem fm_appG (F : Fm w0 w os ts) (i : Nat) {A : Option Addr} {c : Nat} {l : List (Nat × Nat)} (hi : os[i]? = some (oG A c l)) (j : Nat) {X : Option Addr} {d : Nat} {k : List (Nat × Nat)} (hj : os[j]? = some (oG X d k)) (n m : Nat) (hn : n = l.length) (hm : m = k.length) (hb : l.length + k.length ≤ 1000000000000)
    (hgd : o.guard = none) (x y : Operand) (ho : o.op = .call { callee := .builtin .append, args := #[x, y], argTypes := #[114, 114] }) (hx : a.eval x = .slice A n c) (hy : a.eval y = .slice X m d)
    (h : ∀ A' c' v, n + m ≤ c' → Fm w0 v (os.set i (oG A' c' (l ++ k))) ts → wpList Tryd.prog ops Q rest (a.put o.dst (.slice A' (n + m) c')) v) : wpList Tryd.prog ops Q (o :: rest) a w := by
  obtain ⟨it, i0, i1, i2, i3⟩ := info117
  have O : OwnG f2 117 2 w A c l := F.o i hi
  have O2 : OwnG f2 117 2 w X d k := F.o j hj
  refine wpList_appendG (f := f2) w hgd x y 114 ho 117 it (.agg #[vi 0, vi 0]) 16 Tryd.underlying114 i0 i1 i2 i3 (by rfl) (by decide) f2_len f2_one A n c l hx hn O X m d k hy hm O2.cells (by omega) (by unfold maxLen; omega) ?_
  intro A' c' v hO' m' hb'
  have hfit := hO'.fits.1
  rw [List.length_append, ← hn, ← hm] at *
  refine h A' c' v hfit (F.turn m' i hi (fun g hg => hg) _ (keeps_oG _ _ _) hO' fun g hg => ?_)
  obtain ⟨a', ha', rfl⟩ := mem_blk hg
  exact ⟨hb' a' ha', hO'.lt a' ha'⟩
end
theorem few_needs {ns : List NdC} (G : Good ns) : ∀ x ∈ ns, x.needs.2.2.length ≤ 1000 := fun x hx => by
  obtain ⟨i, hi, rfl⟩ := List.getElem_of_mem hx
  have h := numOf_get (G.wok.needs i (by simpa using hi))
  have h2 := needs_len (G.ok _ hx)
  simp only [List.getElem_map, ndP] at h
  omega
/-- Where the stack begins: what can be made of nothing. -/
abbrev beg0 (g : Gr) (j : Nat) : List (Nat × Nat) := ((List.range j).filter (canMk g (fun _ => 0))).map (fun n => (n, 1))
theorem beg0_succ (g : Gr) (j : Nat) : beg0 g (j + 1) = beg0 g j ++ if canMk g (fun _ => 0) j then [(j, 1)] else [] := by
  unfold beg0
  rw [List.range_succ, List.filter_append, List.map_append]
  congr 1
  simp only [List.filter_cons, List.filter_nil]
  split <;> rfl
theorem beg0_len (g : Gr) (j : Nat) : (beg0 g j).length ≤ j := by
  unfold beg0
  rw [List.length_map]
  exact Nat.le_trans (List.length_filter_le _ _) (by simp)
set_option maxRecDepth 1000000 in
set_option maxHeartbeats 2000000 in
theorem toBegin_c {w0 w : World} {os ts : List Th} {i wb mp cap : Nat} {N : Option Addr} {ns : List NdC} {T SK : Nat → Prop} (F : Fm w0 w os ts) (hi : os[i]? = some (oWN wb mp N cap ns)) (hN : tN Any T ns ∈ ts) (HG : Good ns) (hb : ns.length ≤ 10000000) {K : Option Addr} {kn : List Nat} (hK : tI Any SK K kn ∈ ts) (len cK : Nat) (hlen : len = kn.length) (hl : len ≤ 10000) :
    Calls Tryd.prog 85 #[.pointer (some ⟨wb, 0, none⟩), .slice K len cK] w fun e w' => ∃ A n c st, e = .returned (.slice A n c) ∧ n = st.length ∧ Fm w0 w' (oG A c st :: os) ts ∧ st = beg0 (grN ns) ns.length ++ kn.map (fun n => (n, 2)) := by
  obtain ⟨nn, hnn⟩ : ∃ q, q = ns.length := ⟨_, rfl⟩
  have hi' : os[i]? = some (oW wb mp (.slice N nn cap) N cap (ns.map keyN) ns (ns.map (·.wakes))) := by rw [hnn]; exact hi
  have cr : w.cell? ⟨wb, 1, none⟩ = some (.slice N nn cap) := (F.web hi').rowc
  have HI := Lib.hid hi'
  have HNN := Lib.hid hnn
  have hnb : nn ≤ 10000000 := by omega
  have HL := Lib.hid hlen
  have HN := Lib.hid hN
  have hg := Lib.hid HG
  have HK := Lib.hid hK
  rw [← hnn]
  obtain ⟨st, hst⟩ : ∃ s, s = beg0 (grN ns) nn := ⟨_, rfl⟩
  have HST := Lib.hid hst
  rw [← hst]
  clear hi hi' hnn hlen hN HG hb hK hst
  go_enter Tryd.func85, Tryd.ntmps85
  go_wp2_with (first
    | (with_reducible refine wpList_ran (o := ⟨some 12, _, _, _, _, _⟩) rfl (.slice N nn cap) (exec_load rfl rfl (run_load1 Tryd.underlying104 rfl cr)) ?_))
  clear cr
  go_loopw [5, 14] (fun z iv wr => ∃ (j k : Nat) (A : Option Addr) (c : Nat), iv = .int .i64 j ∧ z = .slice A k c ∧ j ≤ nn ∧ k ≤ j ∧ Hid (k = (beg0 (grN ns) j).length) ∧ Fm w0 wr (oG A c (beg0 (grN ns) j) :: os) ts) (fun _ iv _ => nn - (intOf iv).toNat)
  case atStart =>
    exact ⟨0, 0, none, 0, rfl, rfl, Nat.zero_le _, Nat.le_refl _, Lib.hid rfl, F.own (Mod.refl [] w) (oG none 0 []) (keeps_oG _ _ _) (OwnG.nil f2 117 2 w) (fun g hg => by simp [oG, blkOf, Go.Proofs.YtchanildogjhgaaDoor.blk] at hg)⟩
  case round =>
  obtain ⟨j, k, A, c, rfl, rfl, hj, hkj, hk, FJ⟩ := hrel
  clear F
  by_cases hjl : j < nn
  case pos =>
    obtain ⟨b, hbm⟩ : ∃ b, b = canMk (grN ns) (fun _ => 0) j := ⟨_, rfl⟩
    have CM := fun (v : World) (FV : Fm w0 v (oG A c (beg0 (grN ns) j) :: os) ts) => canMake_c FV (i := i + 1) (by simpa using HI.out) HNN.out HN.out j hjl (few_needs hg.out) (.map none) (fun _ => 0) (fun v k _ => nil_lookup v k)
    rw [← hbm] at CM
    have hsucc := beg0_succ (grN ns) j
    rw [← hbm] at hsucc
    have HSU := Lib.hid hsucc
    clear hsucc hbm
    obtain ⟨sj, hsj⟩ : ∃ s, s = beg0 (grN ns) j := ⟨_, rfl⟩
    rw [← hsj] at FJ CM HSU hk
    clear hsj
    cases b with
    | true =>
      have HS1 : Hid (beg0 (grN ns) (j + 1) = sj ++ [(j, 1)]) := Lib.hid (by rw [HSU.out, if_pos rfl])
      clear HSU
      go_wp2_with (first
        | (go_at_call 104; refine (CM _ FJ).mono ?_
           rintro e w1 ⟨rfl, m1⟩
           have F1 := FJ.call m1
           clear FJ m1 CM)
        | (with_reducible refine wpList_ran (o := ⟨some 22, .build 117 _, _, _, _, _⟩) rfl (.agg (f2 (j, 1)).toArray) (exec_b117 rfl rfl rfl) ?_)
        | (with_reducible refine fm_litG F1 (o := ⟨some 23, .buildSlice 114 1 #[(0, .tmp 22)], _, _, _, _⟩) rfl (.tmp 22) rfl (j, 1) rfl ?_; intro g2 w2 F2; clear F1)
        | (with_reducible refine fm_appG F2 1 rfl 0 rfl k 1 hk.out rfl (by have := hk.out; simp; omega) (o := ⟨some 24, .call { callee := .builtin .append, args := #[.tmp 20, .tmp 23], argTypes := #[114, 114] }, _, _, _, _⟩) rfl (.tmp 20) (.tmp 23) rfl rfl rfl ?_; intro A2 c2 w3 hc2 F3; clear F2))
      have F4 := F3.sub (os' := oG A2 c2 (sj ++ [(j, 1)]) :: os) (List.sublist_cons_self _ _) (fun y hy => hy)
      have hkk := hk.out
      exact ⟨⟨j + 1, k + 1, A2, c2, by go_num, rfl, by omega, by omega, Lib.hid (by rw [HS1.out, List.length_append, List.length_singleton, hkk]), by rw [HS1.out]; exact F4⟩, by simp [intOf]; omega⟩
    | false =>
      have HS1 : Hid (beg0 (grN ns) (j + 1) = sj) := Lib.hid (by rw [HSU.out, if_neg (by simp), List.append_nil])
      clear HSU
      go_wp2_with (first
        | (go_at_call 104; refine (CM _ FJ).mono ?_
           rintro e w1 ⟨rfl, m1⟩
           have F1 := FJ.call m1
           clear FJ m1 CM))
      have hkk := hk.out
      exact ⟨⟨j + 1, k, A, c, by go_num, rfl, by omega, by omega, Lib.hid (by rw [HS1.out]; exact hkk), by rw [HS1.out]; exact F1⟩, by simp [intOf]; omega⟩
  case neg =>
    obtain rfl : nn = j := by omega
    rw [← HST.out] at FJ hk
    go_wp2_with fail
    go_loopw [5, 28] (fun z iv wr => ∃ (j k : Nat) (A : Option Addr) (c : Nat), iv = .int .i64 j ∧ z = .slice A k c ∧ j ≤ len ∧ k ≤ nn + j ∧ Hid (k = st.length + j) ∧ Fm w0 wr (oG A c (st ++ (kn.take j).map (fun n => (n, 2))) :: os) ts) (fun _ iv _ => len - (intOf iv).toNat)
    case atStart => exact ⟨0, k, A, c, rfl, rfl, Nat.zero_le _, hkj, Lib.hid hk.out, by simpa using FJ⟩
    case round =>
    clear FJ hk hkj
    obtain ⟨q, kk, B, d, rfl, rfl, hq, hkj, hk, FJ⟩ := hrel
    by_cases hql : q < len
    case neg =>
      obtain rfl : len = q := by omega
      go_wp2_with fail
      go_ret
      refine ⟨B, kk, d, _, rfl, ?_, FJ, ?_⟩
      · rw [List.length_append, List.length_map, List.length_take, hk.out, HL.out]
        omega
      · rw [HL.out, List.take_length]
    case pos =>
      have hqq : q < kn.length := by rw [← HL.out]; exact hql
      obtain ⟨g, p, e, hc⟩ := FJ.tic HK.out q (by simpa using hqq)
      subst e
      simp only [List.getElem_map] at hc
      obtain ⟨m0, hm0⟩ : ∃ m, m = kn[q]'hqq := ⟨_, rfl⟩
      rw [← hm0] at hc
      have hc' : wr.cell? ⟨g, p + q * 1, none⟩ = some (vi m0) := by rw [Nat.mul_one]; exact hc
      have HM0 := Lib.hid hm0
      have HT : Hid ((kn.take (q + 1)).map (fun n => (n, 2)) = (kn.take q).map (fun n => (n, 2)) ++ [(m0, 2)]) := Lib.hid (by rw [List.take_succ_eq_append_getElem hqq, List.map_append, HM0.out]; rfl)
      obtain ⟨sq, hsq⟩ : ∃ s, s = st ++ (kn.take q).map (fun n => (n, 2)) := ⟨_, rfl⟩
      have HSQ := Lib.hid hsq
      have HSL : Hid (kk = sq.length) := Lib.hid (by rw [hsq, List.length_append, List.length_map, List.length_take, hk.out]; omega)
      rw [← hsq] at FJ
      clear hc hm0 hsq
      go_wp2_with (first
        | (with_reducible refine wpList_ran (o := ⟨some 30, _, _, _, _, _⟩) rfl (.pointer (some ⟨g, p + q * 1, none⟩)) (exec_ixs Tryd.underlying80 int_one hql rfl rfl rfl) ?_)
        | (with_reducible refine wpList_ran (o := ⟨some 31, _, _, _, _, _⟩) rfl (vi m0) (exec_load rfl rfl (run_load1 Tryd.underlying3 rfl hc')) ?_)
        | (with_reducible refine wpList_ran (o := ⟨some 34, .build 117 _, _, _, _, _⟩) rfl (.agg (f2 (m0, 2)).toArray) (exec_b117 rfl rfl rfl) ?_)
        | (with_reducible refine fm_litG FJ (o := ⟨some 35, .buildSlice 114 1 #[(0, .tmp 34)], _, _, _, _⟩) rfl (.tmp 34) rfl (m0, 2) rfl ?_; intro g2 w2 F2; clear FJ)
        | (with_reducible refine fm_appG F2 1 rfl 0 rfl kk 1 HSL.out rfl (by have := HSL.out; simp; omega) (o := ⟨some 36, .call { callee := .builtin .append, args := #[.tmp 32, .tmp 35], argTypes := #[114, 114] }, _, _, _, _⟩) rfl (.tmp 32) (.tmp 35) rfl rfl rfl ?_; intro A2 c2 w3 hc2 F3; clear F2))
      have F4 := F3.sub (os' := oG A2 c2 (sq ++ [(m0, 2)]) :: os) (List.sublist_cons_self _ _) (fun y hy => hy)
      have hkk := hk.out
      exact ⟨⟨q + 1, kk + 1, A2, c2, by go_num, rfl, by omega, by omega, Lib.hid (by omega), by rw [HT.out, ← List.append_assoc, ← HSQ.out]; exact F4⟩, by simp [intOf]; omega⟩
end
section
open Go.RowKit Go.Shelf
attribute [local go_sem] Oper.semAt_some
set_option linter.unusedVariables false
set_option linter.unusedSimpArgs false
/-- What a round keeps: whatever turned lies among these blocks, or is new. -/
def KeepM (ms : List Nat) (n0 : Nat) (W V : World) : Prop := ∃ ns, Mod ns W V ∧ ∀ i ∈ ns, i < n0 → i ∈ ms
theorem KeepM.trans {ms : List Nat} {n0 : Nat} {A B C : World} : KeepM ms n0 A B → KeepM ms n0 B C → KeepM ms n0 A C := fun ⟨a, h1, h2⟩ ⟨b, k1, k2⟩ =>
  ⟨a ++ b, (h1.wk fun _ _ h => List.mem_append_left _ h).trans k1 (fun _ _ h => List.mem_append_right _ h), fun i hi hlt => (List.mem_append.1 hi).elim (fun h => h2 i h hlt) (fun h => k2 i h hlt)⟩
theorem Mod.keepM {ns ms : List Nat} {n0 : Nat} {W V : World} (m : Mod ns W V) (h : ∀ i ∈ ns, i < n0 → i ∈ ms) : KeepM ms n0 W V := ⟨ns, m, h⟩
/-- Things that such rounds leave alone. -/
def StdG (ms : List Nat) (n0 : Nat) (xs : List Th) (W : World) : Prop := ∀ x ∈ xs, keeps x ∧ x.2 W ∧ ∀ g, x.1 g → g < n0 ∧ g ∉ ms
theorem StdG.keep {ms : List Nat} {n0 : Nat} {xs : List Th} {W V : World} (h : StdG ms n0 xs W) (m : KeepM ms n0 W V) : StdG ms n0 xs V := fun x hx => by
  obtain ⟨h1, h2, h3⟩ := h x hx
  obtain ⟨ns, m, hn⟩ := m
  exact ⟨h1, h1 _ _ _ m (fun g hg hm => (h3 g hg).2 (hn g hm (h3 g hg).1)) h2, h3⟩
abbrev CG (b0 b1 b2 wb mp mh : Nat) (N : Option Addr) (cap : Nat) (ns : List NdC) (T : Nat → Prop) (hd : Nat → Nat) (n : Nat) : List Th :=
  [oB b0 78 [.pointer (some ⟨wb, 0, none⟩)], oB b1 3 [vi n], oB b2 83 [.map (some mh)], oWN wb mp N cap ns, tN Any T ns, oH mh hd]
abbrev encG (x : Nat × Nat) : Array Value := #[.agg (f2 x).toArray]
def FxG (Y : List (Nat × Nat)) (pre : List (Nat × Nat)) (x : Nat × Nat) (_ : World) : Prop := Y[pre.length]? = some x ∧ pre = Y.take pre.length
theorem wpListIn_ranG {F : Fence} {n : Nat} {P : Program} {w : World} {ops : Array Oper} {rest : List Oper} {o : Oper} {a : Act} {Q : Exit → Act → World → Prop} (hF : ∀ f, F.fn f) (hw : Region.wanted o (yielded ops a.tmps) = true) (hd : ∀ c, o.op ≠ .defer c) (V : Value) (v : World) (hrun : (execOp a.eval o).run P w = .ok (.value V) v)
    (h : wpListIn F n P ops Q rest (a.put o.dst V) v) : wpListIn F n P ops Q (o :: rest) a w := by
  refine wpListIn_step fun K hK => ?_
  rw [if_pos hw]
  refine ⟨fun f _ => hF f, ?_⟩
  rw [Oper.semAt_plain F _ _ hd, hrun]
  exact hK _ _ h
theorem opens_at {ns : List NdC} {hd : Nat → Nat} {n : Nat} (h : n < ns.length) : opensB (grN ns) hd n = (decide (2 ≤ hd n) && ns[n].keys.2.2.all (fun m => decide (1 ≤ hd m))) := by
  unfold opensB grN
  rw [List.getElem?_map, List.getElem?_eq_getElem h]
  rfl
theorem gives_at {ns : List NdC} {hd : Nat → Nat} {n : Nat} (h : n < ns.length) : givesL (grN ns) hd n = (if canMk (grN ns) hd n then [(n, 1)] else []) ++ (if opensB (grN ns) hd n then ns[n].ins.2.2.map (fun m => (m, 2)) else []) := by
  unfold givesL grN
  rw [List.getElem?_map, List.getElem?_eq_getElem h]
  rfl
set_option maxRecDepth 1000000 in
set_option maxHeartbeats 4000000 in
theorem gives_in (nn : Nat) (hn1 : 1 ≤ nn) (y : Nat) (ms : List Nat) (n0 b0 b1 b2 wb mp mh : Nat) (N : Option Addr) (cap : Nat) (ns : List NdC) (T : Nat → Prop) (hd : Nat → Nat) (n : Nat) (hnl : n < ns.length) (G : Good ns) (Y : List (Nat × Nat)) (hYY : Y = givesL (grN ns) hd n) (J Jx : List (Nat × Nat) → World → Prop) (W : World)
    (hJm : ∀ pre A B, J pre A → Mod [] A B → J pre B)
    (hY : ∀ pre x V, FxG Y pre x V → J pre V → pre.length < Y.length → YieldAt Fence.wide (nn - 1) Tryd.prog y (encG x) V fun r W' => (r = .returned (.bool true) ∧ J (pre ++ [x]) W' ∧ KeepM ms n0 V W') ∨ (r = .returned (.bool false) ∧ Jx (pre ++ [x]) W'))
    (H : StdG ms n0 (CG b0 b1 b2 wb mp mh N cap ns T hd n) W) (h0 : J [] W) :
    CallsIn Fence.wide nn Tryd.prog 105 #[.func (.yield y) #[] #[], .pointer (some ⟨b0, 0, none⟩), .pointer (some ⟨b1, 0, none⟩), .pointer (some ⟨b2, 0, none⟩)] W fun r W' => (∃ v, r = .returned v) ∧ ((∃ xs, xs = Y ∧ J xs W') ∨ ∃ pre, True ∧ Jx pre W') := by
  have HH := Lib.hid H
  obtain ⟨nl, hnlen⟩ : ∃ q, q = ns.length := ⟨_, rfl⟩
  have CM : ∀ v, StdG ms n0 (CG b0 b1 b2 wb mp mh N cap ns T hd n) v → Calls Tryd.prog 104 #[.pointer (some ⟨wb, 0, none⟩), .int .i64 (n : Int), .map (some mh)] v fun e w' => e = .returned (.bool (canMk (grN ns) hd n)) ∧ Mod [] v w' := fun v h =>
    canMake_w (V := .int .i64 0) (h (oWN wb mp N cap ns) (by simp)).2.1 rfl (h (tN Any T ns) (by simp)).2.1.1 n hnl (few_needs G) (.map (some mh)) hd (fun u k m => had_lookup (IsHad.keep (h (oH mh hd) (by simp)).2.1 m (by simp)) k)
  have c0 : W.cell? ⟨b0, 0, none⟩ = some (.pointer (some ⟨wb, 0, none⟩)) := Holds.cell (H (oB b0 78 [.pointer (some ⟨wb, 0, none⟩)]) (by simp)).2.1 0
  have c1 : W.cell? ⟨b1, 0, none⟩ = some (.int .i64 (n : Int)) := Holds.cell (H (oB b1 3 [vi n]) (by simp)).2.1 0
  have c2 : W.cell? ⟨b2, 0, none⟩ = some (.map (some mh)) := Holds.cell (H (oB b2 83 [.map (some mh)]) (by simp)).2.1 0
  obtain ⟨mk, hmk⟩ : ∃ b, b = canMk (grN ns) hd n := ⟨_, rfl⟩
  rw [← hmk] at CM
  clear H
  refine callsIn_of_wp Tryd.func105 rfl trivial ?_ rfl
  simp only [Tryd.ntmps105, List.size_toArray, List.length_cons, List.length_nil, Nat.reduceAdd, Nat.reduceSub, Array.replicate_succ, Array.replicate_zero, List.push_toArray, List.append_toArray, List.nil_append, List.cons_append]
  have hFn : ∀ f, Fence.wide.fn f := fun _ => trivial
  have HMK := Lib.hid hmk
  have HG := Lib.hid (gives_at (hd := hd) hnl)
  have HYY := Lib.hid hYY
  clear hmk hYY
  cases mk
  case' true =>
    have hY0 : FxG Y [] (n, 1) W := ⟨by rw [HYY.out, HG.out, ← HMK.out]; rfl, rfl⟩
    have hYl : ([] : List (Nat × Nat)).length < Y.length := by rw [HYY.out, HG.out, ← HMK.out]; simp
    have HY0 := Lib.hid hY0
    have HYl := Lib.hid hYl
    clear hY0 hYl
    gi_wp2_with (first
      | (with_reducible refine wpListIn_ranW (o := ⟨some 7, _, _, _, _, _⟩) hFn rfl (by with_unfolding_all (intro c hc; cases hc)) (.pointer (some ⟨wb, 0, none⟩)) W (exec_load rfl rfl (run_load1 Tryd.underlying78 rfl c0)) ?_)
      | (with_reducible refine wpListIn_ranW (o := ⟨some 8, _, _, _, _, _⟩) hFn rfl (by with_unfolding_all (intro c hc; cases hc)) (.int .i64 (n : Int)) W (exec_load rfl rfl (run_load1 Tryd.underlying3 rfl c1)) ?_)
      | (with_reducible refine wpListIn_ranW (o := ⟨some 9, _, _, _, _, _⟩) hFn rfl (by with_unfolding_all (intro c hc; cases hc)) (.map (some mh)) W (exec_load rfl rfl (run_load1 Tryd.underlying83 rfl c2)) ?_))
    refine (callsIn_wide.2 (CM W HH.out)).mono ?_
    rintro e w1 ⟨rfl, m1⟩
    have d1 : w1.cell? ⟨b1, 0, none⟩ = some (.int .i64 (n : Int)) := Holds.cell (((HH.out.keep (m1.keepM (fun _ h => by cases h))) (oB b1 3 [vi n]) (by simp)).2.1) 0
    have hyy := hY [] (n, 1) w1 HY0.out (hJm _ _ _ h0 m1) HYl.out
    have HH1 := Lib.hid (HH.out.keep (m1.keepM (fun _ h => by cases h)))
    clear m1 c0 c1 c2
    obtain ⟨fn, tmps, assign, body, hy, hR⟩ := hyy
    dsimp only [encG, f2] at hy
    gi_wp2_with (first
      | (with_reducible refine wpListIn_ranG (o := ⟨some 13, _, _, _, _, _⟩) hFn (by with_unfolding_all rfl) (by with_unfolding_all (intro c hc; cases hc)) (.int .i64 (n : Int)) w1 (exec_load rfl rfl (run_load1 Tryd.underlying3 rfl d1)) ?_)
      | (with_reducible refine wpListIn_ranG (o := ⟨some 14, _, _, _, _, _⟩) hFn (by with_unfolding_all rfl) (by with_unfolding_all (intro c hc; cases hc)) (.agg [vi n, vi 1].toArray) w1 (exec_b117 rfl rfl rfl) ?_))
    refine hR.mono ?_
    rintro r WR (⟨rfl, hJ3, hk3⟩ | ⟨rfl, hJx3⟩)
    rotate_left
    · gi_wp2
      refine bodyPost_ret (results_none rfl _ _ _) rfl ?_
      exact ⟨⟨_, rfl⟩, .inr ⟨_, trivial, hJx3⟩⟩
    have HHR := Lib.hid (HH1.out.keep hk3)
    have HPre := Lib.hid (show Y = [(n, 1)] ++ (if opensB (grN ns) hd n then ns[n].ins.2.2.map (fun m => (m, 2)) else []) from (by rw [HYY.out, HG.out, ← HMK.out]; rfl))
    obtain ⟨PRE, hPRE⟩ : ∃ p : List (Nat × Nat), p = [] ++ [(n, 1)] := ⟨_, rfl⟩
    rw [← hPRE] at hJ3
    have HP := Lib.hid (show Y = PRE ++ (if opensB (grN ns) hd n then ns[n].ins.2.2.map (fun m => (m, 2)) else []) from (by rw [HPre.out, hPRE]; rfl))
    clear HPre hPRE hk3 hR hy d1 HH1 HY0 HYl h0
    gi_wp2_with fail
  case' false =>
    gi_wp2_with (first
      | (with_reducible refine wpListIn_ranW (o := ⟨some 7, _, _, _, _, _⟩) hFn rfl (by with_unfolding_all (intro c hc; cases hc)) (.pointer (some ⟨wb, 0, none⟩)) W (exec_load rfl rfl (run_load1 Tryd.underlying78 rfl c0)) ?_)
      | (with_reducible refine wpListIn_ranW (o := ⟨some 8, _, _, _, _, _⟩) hFn rfl (by with_unfolding_all (intro c hc; cases hc)) (.int .i64 (n : Int)) W (exec_load rfl rfl (run_load1 Tryd.underlying3 rfl c1)) ?_)
      | (with_reducible refine wpListIn_ranW (o := ⟨some 9, _, _, _, _, _⟩) hFn rfl (by with_unfolding_all (intro c hc; cases hc)) (.map (some mh)) W (exec_load rfl rfl (run_load1 Tryd.underlying83 rfl c2)) ?_))
    refine (callsIn_wide.2 (CM W HH.out)).mono ?_
    rintro e WR ⟨rfl, m1⟩
    have HHR := Lib.hid (HH.out.keep (m1.keepM (fun _ h => by cases h)))
    have hJ3 := hJm _ _ _ h0 m1
    obtain ⟨PRE, hPRE⟩ : ∃ p : List (Nat × Nat), p = [] := ⟨_, rfl⟩
    rw [← hPRE] at hJ3
    have HP := Lib.hid (show Y = PRE ++ (if opensB (grN ns) hd n then ns[n].ins.2.2.map (fun m => (m, 2)) else []) from (by rw [HYY.out, HG.out, ← HMK.out, hPRE]; rfl))
    clear hPRE m1 c0 c1 c2 h0
    gi_wp2_with fail
  all_goals
    clear HMK HG HYY CM HH
    have hs0 := HHR.out
    have e0 : WR.drew.cell? ⟨b0, 0, none⟩ = some (.pointer (some ⟨wb, 0, none⟩)) := Holds.cell (hs0 (oB b0 78 [.pointer (some ⟨wb, 0, none⟩)]) (by simp)).2.1 0
    have e1 : WR.drew.cell? ⟨b1, 0, none⟩ = some (.int .i64 (n : Int)) := Holds.cell (hs0 (oB b1 3 [vi n]) (by simp)).2.1 0
    have e2 : WR.drew.cell? ⟨b2, 0, none⟩ = some (.map (some mh)) := Holds.cell (hs0 (oB b2 83 [.map (some mh)]) (by simp)).2.1 0
    have hWeb : Web WR wb mp (.slice N ns.length cap) N cap (ns.map keyN) ns (ns.map (·.wakes)) := (hs0 (oWN wb mp N cap ns) (by simp)).2.1
    have hStn := (hs0 (tN Any T ns) (by simp)).2.1.1 _ (List.getElem_mem hnl)
    have hMap : IsHad WR mh hd := (hs0 (oH mh hd) (by simp)).2.1
    obtain ⟨g, hNg, hc9, h9n, _⟩ := hWeb.node n hnl
    have er : WR.drew.cell? ⟨wb, 1, none⟩ = some (.slice (some ⟨g, 0, none⟩) ns.length cap) := by rw [← hNg]; exact hWeb.rowc
    obtain ⟨xx, hxx⟩ : ∃ x, x = ns[n]'hnl := ⟨_, rfl⟩
    have HXX := Lib.hid hxx
    rw [← hxx] at hc9 h9n hStn HP
    have h5n := ndv5 h9n
    obtain ⟨xt, xkids, xc, ⟨A1, c1, l1⟩, ⟨A2, c2, l2⟩, ⟨A3, c3, l3⟩, ⟨A4, c4, l4⟩⟩ := xx
    obtain ⟨n1, hn1'⟩ : ∃ q, q = l1.length := ⟨_, rfl⟩
    obtain ⟨n2, hn2'⟩ : ∃ q, q = l2.length := ⟨_, rfl⟩
    dsimp only at h5n hStn HP
    have cell9 : ∀ k V, k < 4 → [rv (A1, c1, l1), rv (A2, c2, l2), rv (A3, c3, l3), rv (A4, c4, l4)][k]? = some V → WR.drew.cell? ⟨g, n * 9 + (5 + k), none⟩ = some V := fun k V hk hV => by
      have h := hc9.at (5 + k) (by omega)
      have h' : (ndv ⟨xt, xkids, xc, (A1, c1, l1), (A2, c2, l2), (A3, c3, l3), (A4, c4, l4)⟩)[5 + k]? = some V := by
        unfold ndv
        rw [List.getElem?_append_right (by rw [h5n]; omega), h5n, Nat.add_sub_cancel_left]
        exact hV
      rw [List.getElem?_eq_getElem (by omega)] at h'
      exact h.trans h'
    have ei : WR.drew.cell? ⟨g, n * 9 + 5, none⟩ = some (.slice A1 n1 c1) := by rw [hn1']; exact cell9 0 _ (by omega) rfl
    have ek : WR.drew.cell? ⟨g, n * 9 + 6, none⟩ = some (.slice A2 n2 c2) := by rw [hn2']; exact cell9 1 _ (by omega) rfl
    have HN1 := Lib.hid hn1'
    have HN2 := Lib.hid hn2'
    obtain ⟨hn, hhn⟩ : ∃ q, q = hd n := ⟨_, rfl⟩
    have LKn : (Instr.lookup 83 (.map (some mh)) (.int .i64 (n : Int)) false).run Tryd.prog WR.drew = .ok (.int .i64 (hn : Int)) WR.drew := by rw [hhn]; exact had_lookup (hMap.keep (Mod.drew [] WR) (by simp)) n
    obtain ⟨R, hR'⟩ : ∃ r, r = l2.all (fun m => decide (1 ≤ hd m)) := ⟨_, rfl⟩
    have hl2 : l2.length ≤ 1 := by
      have h1 := numOf_get (G.wok.keys n (by simpa using hnl))
      have h2 := keysT_len ns[n].t
      simp only [List.getElem_map, ndP] at h1
      rw [← HXX.out] at h1 h2
      dsimp only at h1 h2
      omega
    have ALK : ∀ v, Mod [] WR v → Calls Tryd.prog 106 #[.slice A2 n2 c2, .map (some mh)] v fun e w' => e = .returned (.bool R) ∧ w' = v := fun v mv => by
      rw [hR']
      exact all_c A2 n2 c2 l2 (.map (some mh)) hd v HN2.out (by rw [HN2.out]; omega) (hStn.keys.1.keep mv (by simp)) (fun k => had_lookup (hMap.keep mv (by simp)) k)
    have HOP : Hid (opensB (grN ns) hd n = (decide (2 ≤ hn) && R)) := Lib.hid (by rw [opens_at hnl, ← HXX.out, hhn, hR'])
    have HSI := Lib.hid hStn.ins.1
    clear hs0 hWeb hStn hMap hNg hc9 h9n hxx h5n cell9 hn1' hn2' hhn hR' hl2
    rcases Nat.lt_or_ge hn 2 with h2 | h2
    · have hlt : decide ((hn : Int) < 2) = true := by simp; omega
      have HOF : Hid (Y = PRE) := Lib.hid (by rw [HP.out, HOP.out]; simp; omega)
      refine wpIn_wide.2 ?_
      refine wp_region_ups [(18, .map (some mh)), (19, .int .i64 (n : Int)), (20, .int .i64 (hn : Int)), (21, .bool true), (22, .bool true), (23, undef), (24, undef), (25, undef), (26, undef), (27, undef), (28, undef), (29, undef), (30, undef), (31, undef), (32, undef), (33, undef), (34, .bool true)] 54 [18, 19, 20, 21, 22, 23, 24, 25, 26, 27, 28, 29, 30, 31, 32, 33, 34] rfl rfl (by decide) (by kernel_rfl) (fun lz v => v = WR.drew) (by kernel_rfl) (rfl) (by kernel_rfl) (by kernel_rfl) ?_ ?_
      · skip
        intro lz T v j o hj hlj hdep hst hpar hgot hcl Kq hK
        have hjn : j < 17 := (Array.getElem?_eq_some_iff.1 hj).1
        obtain rfl | rfl | rfl | rfl | rfl | rfl | rfl | rfl | rfl | rfl | rfl | rfl | rfl | rfl | rfl | rfl | rfl : j = 0 ∨ j = 1 ∨ j = 2 ∨ j = 3 ∨ j = 4 ∨ j = 5 ∨ j = 6 ∨ j = 7 ∨ j = 8 ∨ j = 9 ∨ j = 10 ∨ j = 11 ∨ j = 12 ∨ j = 13 ∨ j = 14 ∨ j = 15 ∨ j = 16 := by omega
        all_goals (have hj' := Option.some.inj (hj : some _ = some o); subst hj'; clear hj)
        · exact wp_ran rfl (exec_load rfl (eval_tmp ((hpar 3 rfl).trans rfl)) (run_load1 Tryd.underlying83 rfl (by rw [hst]; exact e2))) (hK _ _ (fun s hs => by cases hs; rfl) hst)
        · exact wp_ran rfl (exec_load rfl (eval_tmp ((hpar 2 rfl).trans rfl)) (run_load1 Tryd.underlying3 rfl (by rw [hst]; exact e1))) (hK _ _ (fun s hs => by cases hs; rfl) hst)
        · exact wp_ran rfl (exec_lookup (by rw [hst]; exact LKn) rfl (eval_tmp (hgot 0 _ 18 rfl (hdep ⟨0, .data⟩ (by simp) rfl) rfl)) (eval_tmp (hgot 1 _ 19 rfl (hdep ⟨1, .data⟩ (by simp) rfl) rfl))) (hK _ _ (fun s hs => by cases hs; rfl) hst)
        · exact wp_ran rfl (exec_lss hlt rfl (eval_tmp (hgot 2 _ 20 rfl (hdep ⟨2, .data⟩ (by simp) rfl) rfl)) rfl) (hK _ _ (fun s hs => by cases hs; rfl) hst)
        · exact wp_ran rfl (exec_move rfl (eval_tmp (hgot 3 _ 21 rfl (hdep ⟨3, .data⟩ (by simp) rfl) rfl))) (hK _ _ (fun s hs => by cases hs; rfl) hst)
        · exact wp_skip (wanted_no rfl rfl rfl rfl (hgot 4 _ 22 rfl (hdep ⟨4, .guard⟩ (by simp) rfl) rfl)) (hK _ _ (fun s hs => by cases hs; rfl) hst)
        · exact wp_skip (wanted_no rfl rfl rfl rfl (hgot 4 _ 22 rfl (hdep ⟨4, .guard⟩ (by simp) rfl) rfl)) (hK _ _ (fun s hs => by cases hs; rfl) hst)
        · exact wp_skip (wanted_no rfl rfl rfl rfl (hgot 4 _ 22 rfl (hdep ⟨4, .guard⟩ (by simp) rfl) rfl)) (hK _ _ (fun s hs => by cases hs; rfl) hst)
        · exact wp_skip (wanted_no rfl rfl rfl rfl (hgot 4 _ 22 rfl (hdep ⟨4, .guard⟩ (by simp) rfl) rfl)) (hK _ _ (fun s hs => by cases hs; rfl) hst)
        · exact wp_skip (wanted_no rfl rfl rfl rfl (hgot 4 _ 22 rfl (hdep ⟨4, .guard⟩ (by simp) rfl) rfl)) (hK _ _ (fun s hs => by cases hs; rfl) hst)
        · exact wp_skip (wanted_no rfl rfl rfl rfl (hgot 4 _ 22 rfl (hdep ⟨4, .guard⟩ (by simp) rfl) rfl)) (hK _ _ (fun s hs => by cases hs; rfl) hst)
        · exact wp_skip (wanted_no rfl rfl rfl rfl (hgot 4 _ 22 rfl (hdep ⟨4, .guard⟩ (by simp) rfl) rfl)) (hK _ _ (fun s hs => by cases hs; rfl) hst)
        · exact wp_skip (wanted_no rfl rfl rfl rfl (hgot 4 _ 22 rfl (hdep ⟨4, .guard⟩ (by simp) rfl) rfl)) (hK _ _ (fun s hs => by cases hs; rfl) hst)
        · exact wp_skip (wanted_no rfl rfl rfl rfl (hgot 4 _ 22 rfl (hdep ⟨4, .guard⟩ (by simp) rfl) rfl)) (hK _ _ (fun s hs => by cases hs; rfl) hst)
        · exact wp_skip (wanted_no rfl rfl rfl rfl (hgot 4 _ 22 rfl (hdep ⟨4, .chain⟩ (by simp) rfl) rfl)) (hK _ _ (fun s hs => by cases hs; rfl) hst)
        · exact wp_skip (wanted_no rfl rfl rfl rfl (hgot 4 _ 22 rfl (hdep ⟨4, .guard⟩ (by simp) rfl) rfl)) (hK _ _ (fun s hs => by cases hs; rfl) hst)
        · exact wp_ran rfl (exec_pick rfl (eval_tmp (hgot 4 _ 22 rfl (hdep ⟨4, .data⟩ (by simp) rfl) rfl)) rfl (eval_tmp (hgot 15 _ 33 rfl (hdep ⟨15, .data⟩ (by simp) rfl) rfl)) rfl) (hK _ _ (fun s hs => by cases hs; rfl) hst)
      intro lz v hlz hst
      subst hst
      dsimp only [setAll, List.foldl_cons, List.foldl_nil, List.set_cons_succ, List.set_cons_zero]
      clear hlz
      gi_wp2_with fail
      refine bodyPost_ret (results_none rfl _ _ _) rfl ?_
      exact ⟨⟨_, rfl⟩, .inl (by rw [HOF.out]; exact hJm _ _ _ hJ3 (Mod.drew [] WR))⟩
    have hlt : decide ((hn : Int) < 2) = false := by simp; omega
    refine wpIn_wide.2 ?_
    refine wp_region_ups [(18, .map (some mh)), (19, .int .i64 (n : Int)), (20, .int .i64 (hn : Int)), (21, .bool false), (22, .bool false), (23, .pointer (some ⟨wb, 0, none⟩)), (24, .pointer (some ⟨wb, 0, none⟩)), (25, .pointer (some ⟨wb, 1, none⟩)), (26, .slice (some ⟨g, 0, none⟩) ns.length cap), (27, .int .i64 (n : Int)), (28, .pointer (some ⟨g, n * 9, none⟩)), (29, .pointer (some ⟨g, n * 9 + 6, none⟩)), (30, .slice A2 n2 c2), (31, .map (some mh)), (32, .bool R), (33, .bool (!R)), (34, .bool (!R))] 54 [18, 19, 20, 21, 22, 23, 24, 25, 26, 27, 28, 29, 30, 31, 32, 33, 34] rfl rfl (by decide) (by kernel_rfl) (fun lz v => v = WR.drew) (by kernel_rfl) (rfl) (by kernel_rfl) (by kernel_rfl) ?_ ?_
    · skip
      intro lz T v j o hj hlj hdep hst hpar hgot hcl Kq hK
      have hjn : j < 17 := (Array.getElem?_eq_some_iff.1 hj).1
      obtain rfl | rfl | rfl | rfl | rfl | rfl | rfl | rfl | rfl | rfl | rfl | rfl | rfl | rfl | rfl | rfl | rfl : j = 0 ∨ j = 1 ∨ j = 2 ∨ j = 3 ∨ j = 4 ∨ j = 5 ∨ j = 6 ∨ j = 7 ∨ j = 8 ∨ j = 9 ∨ j = 10 ∨ j = 11 ∨ j = 12 ∨ j = 13 ∨ j = 14 ∨ j = 15 ∨ j = 16 := by omega
      all_goals (have hj' := Option.some.inj (hj : some _ = some o); subst hj'; clear hj)
      · exact wp_ran rfl (exec_load rfl (eval_tmp ((hpar 3 rfl).trans rfl)) (run_load1 Tryd.underlying83 rfl (by rw [hst]; exact e2))) (hK _ _ (fun s hs => by cases hs; rfl) hst)
      · exact wp_ran rfl (exec_load rfl (eval_tmp ((hpar 2 rfl).trans rfl)) (run_load1 Tryd.underlying3 rfl (by rw [hst]; exact e1))) (hK _ _ (fun s hs => by cases hs; rfl) hst)
      · exact wp_ran rfl (exec_lookup (by rw [hst]; exact LKn) rfl (eval_tmp (hgot 0 _ 18 rfl (hdep ⟨0, .data⟩ (by simp) rfl) rfl)) (eval_tmp (hgot 1 _ 19 rfl (hdep ⟨1, .data⟩ (by simp) rfl) rfl))) (hK _ _ (fun s hs => by cases hs; rfl) hst)
      · exact wp_ran rfl (exec_lss hlt rfl (eval_tmp (hgot 2 _ 20 rfl (hdep ⟨2, .data⟩ (by simp) rfl) rfl)) rfl) (hK _ _ (fun s hs => by cases hs; rfl) hst)
      · exact wp_ran rfl (exec_move rfl (eval_tmp (hgot 3 _ 21 rfl (hdep ⟨3, .data⟩ (by simp) rfl) rfl))) (hK _ _ (fun s hs => by cases hs; rfl) hst)
      · exact wp_ranW (wanted_yes rfl rfl rfl (hgot 4 _ 22 rfl (hdep ⟨4, .guard⟩ (by simp) rfl) rfl)) (exec_load rfl (eval_tmp ((hpar 1 rfl).trans rfl)) (run_load1 Tryd.underlying78 rfl (by rw [hst]; exact e0))) (hK _ _ (fun s hs => by cases hs; rfl) hst)
      · exact wp_ranW (wanted_yes rfl rfl rfl (hgot 4 _ 22 rfl (hdep ⟨4, .guard⟩ (by simp) rfl) rfl)) (exec_nil rfl (eval_tmp (hgot 5 _ 23 rfl (hdep ⟨5, .data⟩ (by simp) rfl) rfl))) (hK _ _ (fun s hs => by cases hs; rfl) hst)
      · exact wp_ranW (wanted_yes rfl rfl rfl (hgot 4 _ 22 rfl (hdep ⟨4, .guard⟩ (by simp) rfl) rfl)) (exec_fp106_1 rfl (eval_tmp (hgot 6 _ 24 rfl (hdep ⟨6, .data⟩ (by simp) rfl) rfl))) (hK _ _ (fun s hs => by cases hs; rfl) hst)
      · exact wp_ranW (wanted_yes rfl rfl rfl (hgot 4 _ 22 rfl (hdep ⟨4, .guard⟩ (by simp) rfl) rfl)) (exec_load rfl (eval_tmp (hgot 7 _ 25 rfl (hdep ⟨7, .data⟩ (by simp) rfl) rfl)) (run_load1 Tryd.underlying104 rfl (by rw [hst]; exact er))) (hK _ _ (fun s hs => by cases hs; rfl) hst)
      · exact wp_ranW (wanted_yes rfl rfl rfl (hgot 4 _ 22 rfl (hdep ⟨4, .guard⟩ (by simp) rfl) rfl)) (exec_load rfl (eval_tmp ((hpar 2 rfl).trans rfl)) (run_load1 Tryd.underlying3 rfl (by rw [hst]; exact e1))) (hK _ _ (fun s hs => by cases hs; rfl) hst)
      · exact wp_ranW (wanted_yes rfl rfl rfl (hgot 4 _ 22 rfl (hdep ⟨4, .guard⟩ (by simp) rfl) rfl)) (exec_ixs104 hnl rfl (eval_tmp (hgot 8 _ 26 rfl (hdep ⟨8, .data⟩ (by simp) rfl) rfl)) (eval_tmp (hgot 9 _ 27 rfl (hdep ⟨9, .data⟩ (by simp) rfl) rfl))) (hK _ _ (fun s hs => by cases hs; rfl) hst)
      · exact wp_ranW (wanted_yes rfl rfl rfl (hgot 4 _ 22 rfl (hdep ⟨4, .guard⟩ (by simp) rfl) rfl)) (exec_fp111_2 rfl (eval_tmp (hgot 10 _ 28 rfl (hdep ⟨10, .data⟩ (by simp) rfl) rfl))) (hK _ _ (fun s hs => by cases hs; rfl) hst)
      · exact wp_ranW (wanted_yes rfl rfl rfl (hgot 4 _ 22 rfl (hdep ⟨4, .guard⟩ (by simp) rfl) rfl)) (exec_load rfl (eval_tmp (hgot 11 _ 29 rfl (hdep ⟨11, .data⟩ (by simp) rfl) rfl)) (run_load1 Tryd.underlying80 rfl (by rw [hst]; exact ek))) (hK _ _ (fun s hs => by cases hs; rfl) hst)
      · exact wp_ranW (wanted_yes rfl rfl rfl (hgot 4 _ 22 rfl (hdep ⟨4, .guard⟩ (by simp) rfl) rfl)) (exec_load rfl (eval_tmp ((hpar 3 rfl).trans rfl)) (run_load1 Tryd.underlying83 rfl (by rw [hst]; exact e2))) (hK _ _ (fun s hs => by cases hs; rfl) hst)
      · refine wp_calledW (wanted_yes rfl rfl rfl (hgot 4 _ 22 rfl (hdep ⟨4, .chain⟩ (by simp) rfl) rfl)) (exec_call2 rfl rfl (eval_tmp (hgot 12 _ 30 rfl (hdep ⟨12, .data⟩ (by simp) rfl) rfl)) (eval_tmp (hgot 13 _ 31 rfl (hdep ⟨13, .data⟩ (by simp) rfl) rfl)) (enters_of Tryd.func106 (by kernel_rfl) rfl)) ((ALK v (by rw [hst]; exact Mod.drew [] WR)).mono ?_)
        rintro e v' ⟨rfl, rfl⟩
        exact ⟨_, rfl, hK _ _ (fun s hs => by cases hs; rfl) hst⟩
      · exact wp_ranW (wanted_yes rfl rfl rfl (hgot 4 _ 22 rfl (hdep ⟨4, .guard⟩ (by simp) rfl) rfl)) (exec_not rfl (eval_tmp (hgot 14 _ 32 rfl (hdep ⟨14, .data⟩ (by simp) rfl) rfl))) (hK _ _ (fun s hs => by cases hs; rfl) hst)
      · exact wp_ran rfl (exec_pick rfl (eval_tmp (hgot 4 _ 22 rfl (hdep ⟨4, .data⟩ (by simp) rfl) rfl)) rfl (eval_tmp (hgot 15 _ 33 rfl (hdep ⟨15, .data⟩ (by simp) rfl) rfl)) rfl) (hK _ _ (fun s hs => by cases hs; rfl) hst)
    intro lz v hlz hst
    subst hst
    dsimp only [setAll, List.foldl_cons, List.foldl_nil, List.set_cons_succ, List.set_cons_zero]
    clear hlz
    cases R
    case false =>
      have HOF : Hid (Y = PRE) := Lib.hid (by rw [HP.out, HOP.out]; simp)
      gi_wp2_with fail
      refine bodyPost_ret (results_none rfl _ _ _) rfl ?_
      exact ⟨⟨_, rfl⟩, .inl (by rw [HOF.out]; exact hJm _ _ _ hJ3 (Mod.drew [] WR))⟩
    case true =>
      have HOF : Hid (Y = PRE ++ l1.map (fun m => (m, 2))) := Lib.hid (by rw [HP.out, HOP.out]; simp [h2])
      gi_wp2_with fail
      refine wpIn_wide.2 ?_
      refine wp_region_ups [(35, .pointer (some ⟨wb, 0, none⟩)), (36, .pointer (some ⟨wb, 0, none⟩)), (37, .pointer (some ⟨wb, 1, none⟩)), (38, .slice (some ⟨g, 0, none⟩) ns.length cap), (39, .int .i64 (n : Int)), (40, .pointer (some ⟨g, n * 9, none⟩)), (41, .pointer (some ⟨g, n * 9 + 5, none⟩)), (42, .slice A1 n1 c1), (43, .int .i64 (n1 : Int)), (44, .int .i64 0)] 54 [35, 36, 37, 38, 39, 40, 41, 42, 43, 44] rfl rfl (by decide) (by kernel_rfl) (fun lz v => v = WR.drew.drew) (by kernel_rfl) (rfl) (by kernel_rfl) (by kernel_rfl) ?_ ?_
      · skip
        intro lz T v j o hj hlj hdep hst hpar hgot hcl Kq hK
        have hjn : j < 10 := (Array.getElem?_eq_some_iff.1 hj).1
        obtain rfl | rfl | rfl | rfl | rfl | rfl | rfl | rfl | rfl | rfl : j = 0 ∨ j = 1 ∨ j = 2 ∨ j = 3 ∨ j = 4 ∨ j = 5 ∨ j = 6 ∨ j = 7 ∨ j = 8 ∨ j = 9 := by omega
        all_goals (have hj' := Option.some.inj (hj : some _ = some o); subst hj'; clear hj)
        · exact wp_ran rfl (exec_load rfl (eval_tmp ((hpar 1 rfl).trans rfl)) (run_load1 Tryd.underlying78 rfl (by rw [hst]; exact e0))) (hK _ _ (fun s hs => by cases hs; rfl) hst)
        · exact wp_ran rfl (exec_nil rfl (eval_tmp (hgot 0 _ 35 rfl (hdep ⟨0, .data⟩ (by simp) rfl) rfl))) (hK _ _ (fun s hs => by cases hs; rfl) hst)
        · exact wp_ran rfl (exec_fp106_1 rfl (eval_tmp (hgot 1 _ 36 rfl (hdep ⟨1, .data⟩ (by simp) rfl) rfl))) (hK _ _ (fun s hs => by cases hs; rfl) hst)
        · exact wp_ran rfl (exec_load rfl (eval_tmp (hgot 2 _ 37 rfl (hdep ⟨2, .data⟩ (by simp) rfl) rfl)) (run_load1 Tryd.underlying104 rfl (by rw [hst]; exact er))) (hK _ _ (fun s hs => by cases hs; rfl) hst)
        · exact wp_ran rfl (exec_load rfl (eval_tmp ((hpar 2 rfl).trans rfl)) (run_load1 Tryd.underlying3 rfl (by rw [hst]; exact e1))) (hK _ _ (fun s hs => by cases hs; rfl) hst)
        · exact wp_ran rfl (exec_ixs104 hnl rfl (eval_tmp (hgot 3 _ 38 rfl (hdep ⟨3, .data⟩ (by simp) rfl) rfl)) (eval_tmp (hgot 4 _ 39 rfl (hdep ⟨4, .data⟩ (by simp) rfl) rfl))) (hK _ _ (fun s hs => by cases hs; rfl) hst)
        · exact wp_ran rfl (exec_fp111_1 rfl (eval_tmp (hgot 5 _ 40 rfl (hdep ⟨5, .data⟩ (by simp) rfl) rfl))) (hK _ _ (fun s hs => by cases hs; rfl) hst)
        · exact wp_ran rfl (exec_load rfl (eval_tmp (hgot 6 _ 41 rfl (hdep ⟨6, .data⟩ (by simp) rfl) rfl)) (run_load1 Tryd.underlying80 rfl (by rw [hst]; exact ei))) (hK _ _ (fun s hs => by cases hs; rfl) hst)
        · exact wp_ran rfl (exec_len Tryd.underlying80 rfl (eval_tmp (hgot 7 _ 42 rfl (hdep ⟨7, .data⟩ (by simp) rfl) rfl))) (hK _ _ (fun s hs => by cases hs; rfl) hst)
        · exact wp_ran rfl (exec_move rfl rfl) (hK _ _ (fun s hs => by cases hs; rfl) hst)
      intro lz v hlz hst
      subst hst
      dsimp only [setAll, List.foldl_cons, List.foldl_nil, List.set_cons_succ, List.set_cons_zero]
      clear hlz
      have hJ4 := hJm _ _ _ (hJm _ _ _ hJ3 (Mod.drew [] WR)) (Mod.drew [] WR.drew)
      have HHD : Hid (StdG ms n0 (CG b0 b1 b2 wb mp mh N cap ns T hd n) WR.drew.drew) := Lib.hid (HHR.out.keep (((Mod.drew [] WR).then (Mod.drew [] _)).keepM (fun _ h => by cases h)))
      have hn1b : n1 ≤ 100 := by
        have h1 := numOf_get (G.wok.inside n (by simpa using hnl))
        have h2 := ok_len (G.ok _ (List.getElem_mem hnl))
        have h3 := nk_le ns[n].t.kind
        have h4 : (Tm.inside ns[n].t).length ≤ ns[n].t.kids.length := by
          unfold Tm.inside
          split
          · rw [List.length_drop]; omega
          · split
            · omega
            · simp
        simp only [List.getElem_map, ndP] at h1
        rw [← HXX.out] at h1 h2 h3 h4
        dsimp only at h1 h2 h3 h4
        rw [HN1.out]
        omega
      clear hJ3 HHR HSI e0 e1 e2 er ei ek LKn ALK hlt HP HOP
      revert hJ4 HHD
      generalize WR.drew.drew = WD
      intro hJ4 HHD
      gi_wp2_with fail
      gi_loopw [44] (fun i wr => ∃ (j : Nat), i = .int .i64 j ∧ j ≤ n1 ∧ J (PRE ++ (l1.take j).map (fun m => (m, 2))) wr ∧ StdG ms n0 (CG b0 b1 b2 wb mp mh N cap ns T hd n) wr) (fun i _ => n1 - (intOf i).toNat)
      case atStart => exact ⟨0, rfl, Nat.zero_le _, by simpa using hJ4, HHD.out⟩
      case round =>
      obtain ⟨j, rfl, hj, hJj, hS⟩ := hrel
      have HSS := Lib.hid hS
      clear hJ4 HHD hS
      rcases Nat.lt_or_ge j n1 with hjl | hjl
      · have hjq : j < l1.length := by rw [← HN1.out]; exact hjl
        have hci := ((HSS.out (tN Any T ns) (by simp)).2.1.1 _ (List.getElem_mem hnl)).ins.1
        rw [← HXX.out] at hci
        obtain ⟨gI, q, e, hc⟩ := hci j (by simpa using hjq)
        dsimp only at e
        subst e
        simp only [List.getElem_map] at hc
        obtain ⟨m0, hm0⟩ : ∃ m, m = l1[j]'hjq := ⟨_, rfl⟩
        have hc' : wr.cell? ⟨gI, q + j * 1, none⟩ = some (.int .i64 (m0 : Int)) := by rw [Nat.mul_one, hm0]; exact hc
        have hT : (l1.take (j + 1)).map (fun m => (m, 2)) = (l1.take j).map (fun m => (m, 2)) ++ [(m0, 2)] := by rw [List.take_succ_eq_append_getElem hjq, List.map_append, hm0]; rfl
        have HTT := Lib.hid hT
        have hpl : (PRE ++ (l1.take j).map (fun m => (m, 2))).length = PRE.length + j := by rw [List.length_append, List.length_map, List.length_take]; omega
        have hyy := hY (PRE ++ (l1.take j).map (fun m => (m, 2))) (m0, 2) wr ⟨by rw [hpl, HOF.out, List.getElem?_append_right (by omega), Nat.add_sub_cancel_left, List.getElem?_map, List.getElem?_eq_getElem hjq, hm0]; rfl, by rw [hpl, HOF.out, List.take_length_add_append, List.map_take]⟩ hJj (by rw [hpl, HOF.out, List.length_append, List.length_map]; omega)
        obtain ⟨fn, tmps, assign, body, hy, hR⟩ := hyy
        dsimp only [encG, f2] at hy
        clear hc hci hm0 hT hpl
        gi_wp2_with (first
          | (with_reducible refine wpListIn_ranW (o := ⟨some 46, _, _, _, _, _⟩) hFn rfl (by with_unfolding_all (intro c hc; cases hc)) (.pointer (some ⟨gI, q + j * 1, none⟩)) wr (exec_ixs Tryd.underlying80 int_one hjl rfl rfl rfl) ?_)
          | (with_reducible refine wpListIn_ranW (o := ⟨some 47, _, _, _, _, _⟩) hFn rfl (by with_unfolding_all (intro c hc; cases hc)) (.int .i64 (m0 : Int)) wr (exec_load rfl rfl (run_load1 Tryd.underlying3 rfl hc')) ?_)
          | (with_reducible refine wpListIn_ranW (o := ⟨some 50, _, _, _, _, _⟩) hFn rfl (by with_unfolding_all (intro c hc; cases hc)) (.agg [vi m0, vi 2].toArray) wr (exec_b117 rfl rfl rfl) ?_))
        refine hR.mono ?_
        rintro r W3 (⟨rfl, hJ3, hk3⟩ | ⟨rfl, hJx3⟩)
        · have HE := Lib.hid (And.intro hJ3 (HSS.out.keep hk3))
          clear hJ3 hk3 HSS
          gi_wp2_with fail
          exact ⟨⟨j + 1, by go_num, hjl, by rw [HTT.out, ← List.append_assoc]; exact HE.out.1, HE.out.2⟩, by simp [intOf]; omega⟩
        · gi_wp2
          refine bodyPost_ret (results_none rfl _ _ _) rfl ?_
          exact ⟨⟨_, rfl⟩, .inr ⟨_, trivial, hJx3⟩⟩
      · obtain rfl : n1 = j := by omega
        have HE := Lib.hid (show J Y wr from (by rw [HOF.out]; rw [HN1.out, List.take_length] at hJj; exact hJj))
        clear hJj HSS
        gi_wp2
        go_end0
        exact ⟨⟨_, rfl⟩, .inl ⟨_, rfl, HE.out⟩⟩
theorem gives_with (nn : Nat) (hn1 : 1 ≤ nn) (ms : List Nat) (n0 b0 b1 b2 wb mp mh : Nat) (N : Option Addr) (cap : Nat) (ns : List NdC) (T : Nat → Prop) (hd : Nat → Nat) (n : Nat) (hnl : n < ns.length) (G : Good ns) (Y : List (Nat × Nat)) (hYY : Y = givesL (grN ns) hd n) (w : World) (hn0 : n0 ≤ w.heap.size)
    (H : StdG ms n0 (CG b0 b1 b2 wb mp mh N cap ns T hd n) w) :
    SeqWith Fence.wide nn Tryd.prog 105 #[.pointer (some ⟨b0, 0, none⟩), .pointer (some ⟨b1, 0, none⟩), .pointer (some ⟨b2, 0, none⟩)] encG (FxG Y) (KeepM ms n0) (fun xs => xs = Y) (fun _ => True) Y.length w := fun y J Jx W hW hJ _ hY h0 => by
  have hk : KeepM ms n0 w W := by
    refine Mod.keepM (ns := List.range' w.heap.size (W.heap.size - w.heap.size)) ⟨hW.os, hW.tape, hW.output, hW.size, fun k h1 h2 => hW.block k h1⟩ (fun i hi hlt => ?_)
    have := (List.mem_range'_1.1 hi).1
    omega
  refine gives_in nn hn1 y ms n0 b0 b1 b2 wb mp mh N cap ns T hd n hnl G Y hYY J Jx W (fun pre A B hA m => hJ pre A B none hA ⟨m.os, m.tape, m.output, m.size, fun k h1 _ => m.block k h1 (by simp)⟩ (fun r e => by cases e)) hY (H.keep hk) h0
end
section
open Go.RowKit Go.Shelf
set_option linter.unusedVariables false
set_option linter.unusedSimpArgs false
theorem OwnG.dropLast {α : Type} {f : α → List Value} {e : TypeId} {size : Nat} {w : World} {A : Option Addr} {c : Nat} {l : List α} {x : α} (hf : ∀ x, (f x).length = size) (h : OwnG f e size w A c (l ++ [x])) : OwnG f e size w A c l := by
  rcases h.2 with ⟨hv, hn⟩ | ⟨g, cap, cur, hv, hb, hg, h1, h2, h3, h4⟩
  · simp at hn
  · injection hv with e3 e4 e5
    subst e5
    rw [List.length_append, List.length_singleton] at h1 h4
    refine ⟨flat_length f size hf l, .inr ⟨g, c, cur, by rw [e3], hb, hg, by omega, h2, h3, ?_⟩⟩
    have e5 : (l.flatMap f).take (l.length * size) = l.flatMap f := List.take_of_length_le (by rw [flat_length f size hf l]; exact Nat.le_refl _)
    have h5 := congrArg (List.take (l.length * size)) h4
    rw [List.take_take, Nat.min_eq_left (by rw [Nat.add_mul]; omega), List.flatMap_append, List.take_append_of_le_length (by rw [flat_length f size hf l]; exact Nat.le_refl _), e5] at h5
    exact h5
/-- What turned is none of these things. -/
theorem Fm.skip {w0 w v : World} {os ts : List Th} {ns : List Nat} (F : Fm w0 w os ts) (m : Mod ns w v) (h0 : ∀ g ∈ ns, w0.heap.size ≤ g) (hn : ∀ g ∈ ns, ∀ x, x ∈ os ∨ x ∈ ts → ¬ x.1 g) : Fm w0 v os ts :=
  ⟨F.m.trans m (fun i hi h => by have := h0 i h; omega), fun x hx => by obtain ⟨h1, h2, h3⟩ := F.k x hx; exact ⟨h1, h1 _ _ _ m (fun g hg hgm => hn g hgm x hx hg) h2, fun g hg => Nat.lt_of_lt_of_le (h3 g hg) m.size⟩, F.lo, F.d, F.e⟩
theorem Mod.keepsFromL {ms : List Nat} {W W' : World} (h : Mod ms W W') (hh : ∀ g ∈ ms, ∃ cs t z, W.heap[g]? = some (.cells cs t z)) (B : Nat) : KeepsFrom B W W' := ⟨h.size, fun k o _ hk hc => (h.block k (Array.getElem?_eq_some_iff.1 hk).1 (fun hm => by
  obtain ⟨cs, t, z, h1⟩ := hh k hm
  rw [h1] at hk
  cases hk
  cases hc)).trans hk⟩
theorem wpListIn_stored1 {F : Fence} {n : Nat} {w : World} {ops : Array Oper} {rest : List Oper} {o : Oper} {a : Act} {Q : Exit → Act → World → Prop} (hgd : o.guard = none) (ty : TypeId) (x y : Operand) (ho : o.op = .store ty x y) (hdst : o.dst = none) (A : Addr) (u old : Value) (hx : a.eval x = .pointer (some A)) (hy : a.eval y = u) (h1 : u.oneCell' = true) (hs : (Tryd.prog.info? ty).map (·.size) = some 1) (hc : w.cell? A = some old) (hf : w.frozen? A = false)
    (h : wpListIn F n Tryd.prog ops Q rest a (w.setCell A u)) : wpListIn F n Tryd.prog ops Q (o :: rest) a w := by
  cases hq : Tryd.prog.info? ty with
  | none => rw [hq] at hs; cases hs
  | some it =>
    rw [hq] at hs
    have hrun := exec_store1 (v := w) ho hx hy h1 hq (by simpa using hs) hc hf
    refine wpListIn_plain hgd fun K hK => ?_
    unfold Oper.wpIn
    refine ⟨by simp [Oper.about, ho], ?_⟩
    rw [Oper.semAt_plain F _ _ (by rw [ho]; intro c hc'; cases hc'), hrun]
    refine hK _ _ ?_
    show wpListIn F n Tryd.prog ops Q rest (a.put o.dst undef) _
    rw [hdst]
    exact h
theorem exec_lit114 {v : World} {o : Oper} {ρ : Operand → Value} {x : Operand} {n : Nat × Nat} (ho : o.op = .buildSlice 114 1 #[(0, x)]) (hx : ρ x = .agg (f2 n).toArray) : (execOp ρ o).run Tryd.prog v = .ok (.value (.slice (some ⟨v.heap.size, 0, none⟩) 1 1)) (v.alloc (.cells (f2 n).toArray 117)) := by
  obtain ⟨it, i0, i1, i2, i3⟩ := info117
  have hr := run_lit1 (P := Tryd.prog) (t := 114) (e := 117) (V := .agg (f2 n).toArray) (cs := f2 n) (s := 2) v Tryd.underlying114 i0 i2 (by omega) (by omega) z117 rfl rfl
  unfold execOp
  simp only [ho, List.map_toArray, List.map_cons, List.map_nil, hx, Sem.run_bind, hr, Result.andThen, Sem.run_pure]
/-! How far there is to go. -/
def sumH (hd : Nat → Nat) : Nat → Nat
  | 0 => 0
  | n + 1 => sumH hd n + (2 - hd n)
theorem sumH_ge (hd : Nat → Nat) (m h : Nat) : ∀ len, len ≤ m → sumH (setH hd m h) len = sumH hd len
  | 0, _ => rfl
  | n + 1, hl => by
    rw [sumH, sumH, sumH_ge hd m h n (by omega)]
    unfold setH
    rw [if_neg (by omega)]
theorem sumH_set (hd : Nat → Nat) (m h : Nat) (h1 : hd m < h) (h2 : h ≤ 2) : ∀ len, m < len → sumH (setH hd m h) len + 1 ≤ sumH hd len
  | 0, hl => by omega
  | n + 1, hl => by
    rw [sumH, sumH]
    rcases Nat.lt_or_ge m n with h' | h'
    · have := sumH_set hd m h h1 h2 n h'
      unfold setH at *
      rw [if_neg (by omega)]
      omega
    · have e : m = n := by omega
      subst e
      rw [sumH_ge hd m h m (Nat.le_refl _)]
      unfold setH
      rw [if_pos rfl]
      omega
theorem sumH_le (hd : Nat → Nat) : ∀ len, sumH hd len ≤ 2 * len
  | 0 => Nat.le_refl _
  | n + 1 => by rw [sumH]; have := sumH_le hd n; omega
open Classical in
noncomputable def muW (bs mh len C : Nat) (w : World) : Nat :=
  (if h : ∃ hd, IsHad w mh hd then sumH (Classical.choose h) len * C else 0) + (match w.cell? ⟨bs, 0, none⟩ with | some (.slice _ k _) => k | _ => 0)
theorem muW_eq {bs mh len C : Nat} {w : World} {hd : Nat → Nat} {A : Option Addr} {k c : Nat} (h : IsHad w mh hd) (hc : w.cell? ⟨bs, 0, none⟩ = some (.slice A k c)) : muW bs mh len C w = sumH hd len * C + k := by
  have hex : ∃ hd, IsHad w mh hd := ⟨hd, h⟩
  unfold muW
  rw [dif_pos hex, hc]
  rw [IsHad.uniq (Classical.choose_spec hex) h]
theorem gives_len {ns : List NdC} (G : Good ns) (hd : Nat → Nat) (n : Nat) : (givesL (grN ns) hd n).length ≤ 3 := by
  rcases Nat.lt_or_ge n ns.length with hn | hn
  · rw [gives_at hn]
    have h1 := numOf_get (G.wok.inside n (by simpa using hn))
    have h2 := ok_len (G.ok _ (List.getElem_mem hn))
    have h3 := nk_le ns[n].t.kind
    have h4 : (Tm.inside ns[n].t).length ≤ ns[n].t.kids.length := by
      unfold Tm.inside
      split
      · rw [List.length_drop]; omega
      · split
        · omega
        · simp
    simp only [List.getElem_map, ndP] at h1
    rw [List.length_append]
    split <;> split <;> simp <;> omega
  · unfold givesL canMk opensB
    rw [List.getElem?_eq_none (by simpa using hn)]
    simp
theorem givess_len {ns : List NdC} (G : Good ns) (hd : Nat → Nat) : ∀ l : List Nat, (l.flatMap (givesL (grN ns) hd)).length ≤ 3 * l.length
  | [] => by simp
  | n :: l => by
    rw [List.flatMap_cons, List.length_append, List.length_cons]
    have := gives_len G hd n
    have := givess_len G hd l
    omega
/-! A map of what is had. -/
theorem run_mk83 (w : World) : (Instr.makeMap 83 none).run Tryd.prog w = .ok (.map (some w.heap.size)) (w.alloc (.map #[] 0)) := by
  simp [Instr.makeMap, run_underlying Tryd.underlying83, go_sem]
theorem exec_mk83 {v : World} {o : Oper} {ρ : Operand → Value} (ho : o.op = .makeMap 83 none) : (execOp ρ o).run Tryd.prog v = .ok (.value (.map (some v.heap.size))) (v.alloc (.map #[] 0)) := by
  unfold execOp
  simp [ho, run_mk83, Result.andThen]
theorem fm_mapH {w0 w : World} {os ts : List Th} {ops : Array Oper} {rest : List Oper} {o : Oper} {a : Act} {Q : Exit → Act → World → Prop} (F : Fm w0 w os ts) (hgd : o.guard = none) (ho : o.op = .makeMap 83 none)
    (h : ∀ mh v, Fm w0 v (oH mh (fun _ => 0) :: os) ts → wpList Tryd.prog ops Q rest (a.put o.dst (.map (some mh))) v) : wpList Tryd.prog ops Q (o :: rest) a w := by
  have hN : IsHad (w.alloc (.map #[] 0)) w.heap.size (fun _ => 0) := ⟨#[], 0, (MapKept.heap_alloc w _).1, fun x hx => by simp at hx, fun _ _ => rfl, by simp⟩
  exact wpList_ran_w hgd (.map (some w.heap.size)) (exec_mk83 ho) (h _ _ (F.own (Mod.alloc [] w _) (oH w.heap.size (fun _ => 0)) (keeps_oH _ _) hN fun g hg => by
    have : g = w.heap.size := hg
    subst this
    exact ⟨Nat.le_refl _, by simp⟩))
theorem Fm.hadSet {w0 w : World} {os ts : List Th} (F : Fm w0 w os ts) (i : Nat) {mh : Nat} {hd : Nat → Nat} (hi : os[i]? = some (oH mh hd)) (n k : Nat) : ∃ v, (Instr.mapUpdate 83 (.map (some mh)) (vi n) (vi k)).run Tryd.prog w = .ok () v ∧ Fm w0 v (os.set i (oH mh (setH hd n k))) ts := by
  obtain ⟨v, h1, h2, h3, h4⟩ := had_update (F.o i hi : IsHad w mh hd) n k
  refine ⟨v, h1, F.turn h3 i hi (fun g hg => List.mem_singleton.1 hg) _ (keeps_oH _ _) h2 fun g hg => ⟨.inl hg, ?_⟩⟩
  have : g = mh := hg
  have := h2.lt
  omega
/-- One from the end of the row taken off. -/
theorem Fm.popG {w0 w : World} {os ts : List Th} (F : Fm w0 w os ts) (i : Nat) {A : Option Addr} {c : Nat} {l : List (Nat × Nat)} {x : Nat × Nat} (hi : os[i]? = some (oG A c (l ++ [x]))) : Fm w0 w (os.set i (oG A c l)) ts :=
  F.turn (Mod.refl [] w) i hi (fun g hg => by cases hg) _ (keeps_oG _ _ _) (OwnG.dropLast f2_len (F.o i hi : OwnG f2 117 2 w A c (l ++ [x]))) fun g hg => ⟨.inl hg, (F.k _ (.inl (F.webm hi))).2.2 g hg⟩
end
section
open Go.RowKit Go.Shelf
set_option linter.unusedVariables false
set_option linter.unusedSimpArgs false
abbrev mark (D : Nat) : Deferred := { target := .collected D, args := #[] }
/-- The blocks of marks: there, and empty. -/
def Marks (Ds : List Nat) (w : World) : Prop := Ds.Nodup ∧ ∀ D ∈ Ds, w.heap[D]? = some (.deferred (some []))
theorem Marks.keep {Ds ms : List Nat} {w v : World} (h : Marks Ds w) (m : Mod ms w v) (hm : ∀ i ∈ ms, i ∉ Ds) : Marks Ds v := ⟨h.1, fun D hD => by
  have := h.2 D hD
  rw [m.block D (Array.getElem?_eq_some_iff.1 this).1 (fun hh => hm D hh hD)]
  exact this⟩
theorem leaves_marks {F : Fence} {n : Nat} {P : Program} {fn : Func} {tmps : Array Value} {R : Ending → World → Prop} : ∀ (Ds : List Nat) (w : World), Marks Ds w → (∀ w', Mod Ds w w' → w'.heap.size = w.heap.size → LeavesInM F n P fn tmps R [] .returning w') → LeavesInM F n P fn tmps R (Ds.map mark) .returning w := by
  intro Ds
  induction Ds with
  | nil => intro w _ h; exact h w (Mod.refl _ _) rfl
  | cons D Ds ih =>
    intro w hM h
    have hD := hM.2 D (by simp)
    have hsz : (w.putObj D (.deferred none)).heap.size = w.heap.size := by simp [World.putObj]
    have hmod : Mod [D] w (w.putObj D (.deferred none)) := ⟨rfl, rfl, rfl, by rw [hsz]; exact Nat.le_refl _, fun k _ hk => World.putObj_heap_other (by simpa using hk)⟩
    refine ⟨by simp, .inl ⟨D, _, rfl, run_takeDeferred hD, ?_⟩⟩
    refine ih _ ⟨(List.nodup_cons.1 hM.1).2, fun E hE => ?_⟩ (fun w' m hs => h w' ((hmod.wk (fun i _ hi => by simp at hi; simp [hi])).trans m (fun i _ hi => by simp [hi])) (hs.trans hsz))
    rw [hmod.block E (Array.getElem?_eq_some_iff.1 (hM.2 E (by simp [hE]))).1 (by simp; rintro rfl; exact (List.nodup_cons.1 hM.1).1 hE)]
    exact hM.2 E (by simp [hE])
def oD (Ds : List Nat) : Th := ((· ∈ Ds), fun w => Marks Ds w)
theorem keeps_oD (Ds : List Nat) : keeps (oD Ds) := fun w v ms m h hw => Marks.keep hw m fun i hi hD => h i hD hi
section
variable {w0 w v : World} {os ts : List Th}
/-- A thing that lies there already, beside all others, becomes the call's own. -/
theorem Fm.adopt (F : Fm w0 w os ts) (x : Th) (hk : keeps x) (hx : x.2 w) (hlo : ∀ g, x.1 g → w0.heap.size ≤ g ∧ g < w.heap.size) (hd : ∀ y, y ∈ os ∨ y ∈ ts → ∀ g, x.1 g → ¬ y.1 g) : Fm w0 w (x :: os) ts := by
  refine ⟨F.m, fun y hy => ?_, fun y hy g hg => ?_, List.pairwise_cons.2 ⟨fun y hy g hg hy' => hd y (.inl hy) g hg hy', F.d⟩, fun y hy z hz g hg hz' => ?_⟩
  · rcases hy with hy | hy
    · rcases List.mem_cons.1 hy with rfl | hy
      · exact ⟨hk, hx, fun g hg => (hlo g hg).2⟩
      · exact F.k y (.inl hy)
    · exact F.k y (.inr hy)
  · rcases List.mem_cons.1 hy with rfl | hy
    · exact (hlo g hg).1
    · exact F.lo y hy g hg
  · rcases List.mem_cons.1 hy with rfl | hy
    · exact hd z (.inr hz) g hg hz'
    · exact F.e y hy z hz g hg hz'
/-- One more mark. -/
theorem Fm.marked (F : Fm w0 w os ts) (i : Nat) {Ds : List Nat} (hi : os[i]? = some (oD Ds)) (D : Nat) (hD : w.heap[D]? = some (.deferred (some []))) (hlo : w0.heap.size ≤ D) (hn : ∀ y, y ∈ os ∨ y ∈ ts → ¬ y.1 D) : Fm w0 w (os.set i (oD (D :: Ds))) ts := by
  have hM : Marks Ds w := F.o i hi
  have hDs : D ∉ Ds := hn _ (.inl (F.webm hi))
  have hlt : D < w.heap.size := (Array.getElem?_eq_some_iff.1 hD).1
  have F' := F.adopt ((· = D), fun w => w.heap[D]? = some (.deferred (some []))) (fun w v ms m h hw => by
      have := (m.block D (Array.getElem?_eq_some_iff.1 hw).1 (h D rfl)).trans hw
      exact this) hD (fun g hg => by rw [show g = D from hg]; exact ⟨hlo, hlt⟩) (fun y hy g hg => by rw [show g = D from hg]; exact hn y hy)
  refine F'.fuse i hi (oD (D :: Ds)) (keeps_oD _) ⟨List.nodup_cons.2 ⟨hDs, hM.1⟩, fun E hE => ?_⟩ fun g hg => ?_
  · rcases List.mem_cons.1 hE with rfl | hE
    · exact hD
    · exact hM.2 E hE
  · rcases List.mem_cons.1 hg with h | h
    · exact .inl h
    · exact .inr h
end
theorem OwnG.some' {α : Type} {f : α → List Value} {e : TypeId} {size : Nat} {w : World} {A : Option Addr} {c : Nat} {l : List α} (h : OwnG f e size w A c l) (hl : 0 < l.length) : ∃ g, A = some ⟨g, 0, none⟩ := by
  rcases h.2 with ⟨hv, hn⟩ | ⟨g, cap, cur, hv, _⟩
  · omega
  · injection hv with e1
    exact ⟨g, e1⟩
theorem exec_ixs114 {v : World} {o : Oper} {ρ : Operand → Value} {x y : Operand} {n c g i : Nat} (hi : i < n) (ho : o.op = .indexAddr 114 x y) (hx : ρ x = .slice (some ⟨g, 0, none⟩) n c) (hy : ρ y = .int .i64 (i : Int)) :
    (execOp ρ o).run Tryd.prog v = .ok (.value (.pointer (some ⟨g, i * 2, none⟩))) v := by
  have h := exec_ixs (v := v) (o := o) (ρ := ρ) Tryd.underlying114 size117 hi ho hx hy
  rw [Nat.zero_add] at h
  exact h
theorem exec_cut114 {v : World} {o : Oper} {ρ : Operand → Value} {x y : Operand} {g n c k : Nat} (hk : k ≤ c) (ho : o.op = .slice 114 x none (some y) none) (hx : ρ x = .slice (some ⟨g, 0, none⟩) n c) (hy : ρ y = .int .i64 (k : Int)) : (execOp ρ o).run Tryd.prog v = .ok (.value (.slice (some ⟨g, 0, none⟩) k c)) v := by
  unfold execOp
  obtain ⟨it, i0, i1, i2, i3⟩ := info117
  simp [ho, hx, hy, Instr.sliceAt, Instr.slice, Instr.sliceBounds, Instr.sliceBound, Sem.run_bind, run_underlying Tryd.underlying114, go_sem, sizeOf, typeInfo, i0, i2, hk]
section
variable {w0 w v : World} {os ts : List Th}
variable {ops : Array Oper} {rest : List Oper} {o : Oper} {a : Act} {Q : Exit → Act → World → Prop}
theorem fm_store2 (F : Fm w0 w os ts) (i : Nat) {b : Nat} {old : List Value} (hi : os[i]? = some (oB b 117 old)) (hgd : o.guard = none) (x y : Operand) (ho : o.op = .store 117 x y) (hdst : o.dst = none) (cs : List Value) (hx : a.eval x = .pointer (some ⟨b, 0, none⟩)) (hy : a.eval y = .agg cs.toArray)
    (h5 : cs.length = 2) (ho5 : old.length = 2) (h1 : ∀ v ∈ cs, v.oneCell' = true)
    (h : ∀ v, Fm w0 v (os.set i (oB b 117 cs)) ts → wpList Tryd.prog ops Q rest a v) : wpList Tryd.prog ops Q (o :: rest) a w :=
  wpList_storesAll hgd 117 x y ho hdst b cs hx _ hy rfl 117 old (F.blk i hi) (by omega) h1 (by rw [h5]; exact size117) fun v hv m z => h v (F.turn m i hi (fun g hg => List.mem_singleton.1 hg) _ (keeps_oB _ _ _) hv fun g hg => ⟨.inl hg, by have : g = b := hg; have := hv.lt; omega⟩)
end
set_option maxRecDepth 1000000 in
set_option maxHeartbeats 1000000 in
theorem gives_c {w0 w : World} {os ts : List Th} (F : Fm w0 w os ts) (wb mh n : Nat) : Calls Tryd.prog 86 #[.pointer (some ⟨wb, 0, none⟩), .int .i64 (n : Int), .map (some mh)] w fun e w' => ∃ b0 b1 b2, e = .returned (.func (.func 105) #[] #[.pointer (some ⟨b0, 0, none⟩), .pointer (some ⟨b1, 0, none⟩), .pointer (some ⟨b2, 0, none⟩)]) ∧ Fm w0 w' (oB b0 78 [.pointer (some ⟨wb, 0, none⟩)] :: oB b1 3 [vi n] :: oB b2 83 [.map (some mh)] :: os) ts := by
  go_enter Tryd.func86, Tryd.ntmps86
  go_wp2_with (first
    | (with_reducible refine fm_box1 F (o := ⟨some 3, .box 78 (.tmp 0), _, _, _, _⟩) rfl 78 (.tmp 0) rfl (.pointer (some ⟨wb, 0, none⟩)) rfl rfl ?_; intro b1 w1 F1; clear F)
    | (with_reducible refine fm_box1 F1 (o := ⟨some 4, .box 3 (.tmp 1), _, _, _, _⟩) rfl 3 (.tmp 1) rfl (.int .i64 (n : Int)) rfl rfl ?_; intro b2 w2 F2; clear F1)
    | (with_reducible refine fm_box1 F2 (o := ⟨some 5, .box 83 (.tmp 2), _, _, _, _⟩) rfl 83 (.tmp 2) rfl (.map (some mh)) rfl rfl ?_; intro b3 w3 F3; clear F2))
  go_ret
  refine ⟨b1, b2, b3, by simp, ?_⟩
  -- the boxes the other way round
  have hb1 := F3.blk 2 rfl
  have p := F3.d
  refine ⟨F3.m, fun x hx => F3.k x (hx.imp_left fun h => ?_), fun x hx => F3.lo x ?_, ?_, fun x hx => F3.e x ?_⟩
  · simp only [List.mem_cons] at h ⊢
    rcases h with h | h | h | h
    · exact .inr (.inr (.inl h))
    · exact .inr (.inl h)
    · exact .inl h
    · exact .inr (.inr (.inr h))
  · simp only [List.mem_cons] at hx ⊢
    rcases hx with h | h | h | h
    · exact .inr (.inr (.inl h))
    · exact .inr (.inl h)
    · exact .inl h
    · exact .inr (.inr (.inr h))
  · simp only [List.pairwise_cons, List.mem_cons] at p ⊢
    obtain ⟨p1, p2, p3, p4⟩ := p
    refine ⟨?_, ?_, ?_, p4⟩
    · rintro y (rfl | rfl | h) g hg hg'
      · exact p2 _ (.inl rfl) g hg' hg
      · exact p1 _ (.inr (.inl rfl)) g hg' hg
      · exact p3 y h g hg hg'
    · rintro y (rfl | h) g hg hg'
      · exact p1 _ (.inl rfl) g hg' hg
      · exact p2 y (.inr h) g hg hg'
    · intro y h g hg hg'
      exact p1 y (.inr (.inr h)) g hg hg'
  · simp only [List.mem_cons] at hx ⊢
    rcases hx with h | h | h | h
    · exact .inr (.inr (.inl h))
    · exact .inr (.inl h)
    · exact .inl h
    · exact .inr (.inr (.inr h))
end
end Go.Proofs.YtchanildogjhgaaDoor

