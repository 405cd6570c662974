/-
  The document's Set (ref 07). My own work.
-/
import Derived.Test.YtchanildogjhgaaDoorQc
namespace Go.Proofs.YtchanildogjhgaaDoor
open Go.RowKit Go.Shelf
set_option linter.unusedVariables false
set_option linter.unusedSimpArgs false
namespace Tm
def ini (L : List Tm) (ts : List Tm) (c : List Bool) : List Bool := ts.foldl (fun c t => c.set (idx L t) true) c
theorem ini_snoc (L ts : List Tm) (c : List Bool) (j : Nat) (hj : j < ts.length) : ini L (ts.take (j + 1)) c = (ini L (ts.take j) c).set (idx L ts[j]) true := by
  unfold ini
  rw [List.take_succ_eq_append_getElem hj, List.foldl_append]
  rfl
theorem ini_le (L : List Tm) : ∀ (ts : List Tm) (c : List Bool), Le c (ini L ts c)
  | [], c => Le.refl c
  | t :: ts, c => (le_set c _).trans (ini_le L ts (c.set (idx L t) true))
theorem ini_only (L : List Tm) : ∀ (ts : List Tm) (c : List Bool) (i : Nat), gB (ini L ts c) i = true → gB c i = true ∨ ∃ t ∈ ts, i = idx L t
  | [], c, i, h => .inl h
  | t :: ts, c, i, h => by
    rcases ini_only L ts (c.set (idx L t) true) i h with h | ⟨x, hx, e⟩
    · rcases gB_set h with e | e
      · exact .inr ⟨t, List.mem_cons_self .., e⟩
      · exact .inl e
    · exact .inr ⟨x, List.mem_cons_of_mem _ hx, e⟩
theorem ini_has (L : List Tm) : ∀ (ts : List Tm) (c : List Bool) (t : Tm), t ∈ ts → idx L t < c.length → gB (ini L ts c) (idx L t) = true
  | t0 :: ts, c, t, h, hl => by
    rcases List.mem_cons.1 h with rfl | h
    · refine (ini_le L ts (c.set (idx L t) true)).gB ?_
      unfold gB
      rw [List.getD_eq_getElem?_getD, List.getElem?_set_self hl]
      rfl
    · exact ini_has L ts _ t h (by rw [List.length_set]; exact hl)
end Tm
theorem made_bools (n : Nat) : (madeCells (Value.bool false).cells (n * 1)).toList = (List.replicate n false).map Value.bool := by
  rw [show (Value.bool false).cells = #[.bool false] from rfl, made_rep, Nat.mul_one]
  simp
theorem info4 : ∃ i : TypeInfo, Tryd.prog.info? 4 = some i ∧ i.zero = some (.bool false) ∧ i.size = 1 ∧ i.bytes = 1 := by
  cases hq : Tryd.prog.info? 4 with
  | none => exact absurd (show (Tryd.prog.info? 4).isSome = true by kernel_rfl) (by rw [hq]; decide)
  | some i =>
    have h : (Tryd.prog.info? 4).map (fun i => (i.zero, i.size, i.bytes)) = some (some (.bool false), 1, 1) := by kernel_rfl
    rw [hq] at h
    simp only [Option.map_some, Option.some.injEq, Prod.mk.injEq] at h
    exact ⟨i, rfl, h.1, h.2.1, h.2.2⟩
theorem one4 : (Tryd.prog.info? 4).map (·.size) = some 1 := by kernel_rfl
/-- What lies about while Set goes its rounds. -/
abbrev SetOs (A : Option Addr) (c : Nat) (xs : List Q5) (bc bp : Nat) (cb pb : List Bool) : List Th := [oR A c xs, oB bc 4 (cb.map Value.bool), oB bp 4 (pb.map Value.bool)]
theorem Tm.len_count : ∀ l : List Tm, l.length ≤ Tm.countAll l
  | [] => Nat.le_refl _
  | t :: l => by rw [Tm.countAll, List.length_cons]; have := Tm.count_pos t; have := Tm.len_count l; omega
theorem fm_makeB {w0 w : World} {os ts : List Th} {ops : Array Oper} {rest : List Oper} {o : Oper} {a : Act} {Q : Exit → Act → World → Prop} (F : Fm w0 w os ts) (hgd : o.guard = none) (x y : Operand) (ho : o.op = .makeSlice 85 x y) (n : Nat) (hx : a.eval x = .int .i64 (n : Int)) (hy : a.eval y = .int .i64 (n : Int)) (hn : n ≤ 1000000)
    (h : ∀ b v, Fm w0 v (oB b 4 ((List.replicate n false).map Value.bool) :: os) ts → wpList Tryd.prog ops Q rest (a.put o.dst (.slice (some ⟨b, 0, none⟩) n n)) v) : wpList Tryd.prog ops Q (o :: rest) a w := by
  obtain ⟨i, h1, h2, h3, h4⟩ := info4
  refine wpList_makeG hgd 85 x y ho 4 i (.bool false) 1 1 n Tryd.underlying85 h1 h2 h3 h4 hx hy (by omega) (by omega) fun v cs hv hl hc m zz => ?_
  rw [made_bools] at hc
  subst hc
  exact h _ v (F.own m _ (keeps_oB _ _ _) hv (hv.new_keeps rfl))
structure Kept (P : Prop) : Prop where
  out : P
structure Parts (X : Prop) where
  one : Prop
  all : Kept one → X
theorem Fm.set1 {w v : World} {ts : List Th} {A : Option Addr} {c : Nat} {xs : List Q5} {bc bp : Nat} {cb pb : List Bool} {ix : Nat} (F : Fm w v ((SetOs A c xs bc bp cb pb).set 1 (oB bc 4 ((cb.map Value.bool).set ix (.bool true)))) ts) : Fm w v (SetOs A c xs bc bp (cb.set ix true) pb) ts := by
  unfold SetOs
  rw [List.map_set]
  exact F
theorem Fm.set2 {w v : World} {ts : List Th} {A : Option Addr} {c : Nat} {xs : List Q5} {bc bp : Nat} {cb pb : List Bool} {ix : Nat} (F : Fm w v ((SetOs A c xs bc bp cb pb).set 2 (oB bp 4 ((pb.map Value.bool).set ix (.bool true)))) ts) : Fm w v (SetOs A c xs bc bp cb (pb.set ix true)) ts := by
  unfold SetOs
  rw [List.map_set]
  exact F
theorem results_ttt {P : Program} {fn : Func} {p q r : Tmp} (h : fn.results = #[.tmp p, .tmp q, .tmp r]) (tmps : Array Value) (w : World) (x y z : Value) (hp : tmps.getD p undef = x) (hq : tmps.getD q undef = y) (hr : tmps.getD r undef = z) : (results fn tmps).run P w = .ok (.tuple #[x, y, z]) w := by
  have hp' : tmps[p]?.getD undef = x := by simpa using hp
  have hq' : tmps[q]?.getD undef = y := by simpa using hq
  have hr' : tmps[r]?.getD undef = z := by simpa using hr
  simp [results, h, hp', hq', hr']
theorem okAll_of : ∀ {l : List Tm}, (∀ x ∈ l, x.ok = true) → Tm.okAll l = true
  | [], _ => rfl
  | t :: l, h => by rw [Tm.okAll, h t (by simp), okAll_of fun x hx => h x (List.mem_cons_of_mem _ hx)]; rfl
/-- What Set answers. -/
def SetR (w : World) (S : Nat → Prop) (A : Option Addr) (vs : List (List Value)) (K : List Tm) (Sb : Nat → Prop) (B : Option Addr) (vb : List (List Value)) (T : List Tm) (e : Ending) (w' : World) : Prop := ∃ (A1 : Option Addr) (c1 : Nat) (xs : List Q5) (S1 : Nat → Prop) (bc bp : Nat) (cb pb : List Bool) (m : Nat), e = .returned (.tuple #[.slice A1 m c1, .slice (some ⟨bc, 0, none⟩) m m, .slice (some ⟨bp, 0, none⟩) m m]) ∧
  (∃ L, (Tm.Clo L ∧ ∀ x ∈ K, x ∈ L) ∧ L = Tm.withAll T (Tm.withAll K []) ∧ m = L.length ∧ ∃ s0 y0, Tm.rounds L s0 (2 * m + 1) = (cb, pb) ∧ s0 = (y0, y0) ∧ y0 = Tm.ini L K (List.replicate m false) ∧ y0.length = m) ∧
  Fm w w' (SetOs A1 c1 xs bc bp cb pb) (tLs Any S1 (Tm.withAll T (Tm.withAll K [])) xs :: [tR Any S A vs K, tR Any Sb B vb T])
set_option maxRecDepth 100000 in
set_option maxHeartbeats 4000000 in
def setP : Parts (∀ (w : World) (A : Option Addr) (n c : Nat) (vs : List (List Value)) (K : List Tm) (S : Nat → Prop) (B : Option Addr) (nb d : Nat) (vb : List (List Value)) (T : List Tm) (Sb : Nat → Prop) (hn : n = K.length) (hnb : nb = T.length) (hR : RowT w S A vs K) (hB : RowT w Sb B vb T) (hS : ∀ g, S g → g < w.heap.size) (hSb : ∀ g, Sb g → g < w.heap.size) (hok : ∀ x, x ∈ K ∨ x ∈ T → x.ok = true) (hcnt : Tm.countAll K + Tm.countAll T ≤ 4000), Calls Tryd.prog 64 #[.slice A n c, .slice B nb d] w (SetR w S A vs K Sb B vb T)) := by
  apply Parts.mk
  case all =>
  intro H1
  intro w A n c vs K S B nb d vb T Sb hn hnb hR hB hS hSb hok hcnt
  have F0 := ((Fm.nil w).arg (tR Any Sb B vb T) (keeps_tR _ _ _ _ _) ⟨hB, fun _ _ => trivial⟩ hSb).arg (tR Any S A vs K) (keeps_tR _ _ _ _ _) ⟨hR, fun _ _ => trivial⟩ hS
  replace F0 := F0.row0 Any
  have HN := Lib.hid hn
  have HNB := Lib.hid hnb
  have HOK := Lib.hid hok
  have HCNT := Lib.hid hcnt
  have hn9 : n ≤ 10000 := by rw [hn]; exact Nat.le_trans (Tm.len_count K) (by omega)
  have hnb9 : nb ≤ 10000 := by rw [hnb]; exact Nat.le_trans (Tm.len_count T) (by omega)
  clear hB hR hS hSb hn hnb hok hcnt
  go_enter Tryd.func64, Tryd.ntmps64
  go_wp2_with fail
  go_loopw [7, 8] (fun r i wi => ∃ (j m : Nat) (A1 : Option Addr) (c1 : Nat) (xs : List Q5) (S1 : Nat → Prop), r = .slice A1 m c1 ∧ i = .int .i64 (j : Int) ∧ j ≤ n ∧ Hid (m = (Tm.withAll (K.take j) []).length) ∧ Fm w wi [oR A1 c1 xs] (tLs Any S1 (Tm.withAll (K.take j) []) xs :: [tR Any S A vs K, tR Any Sb B vb T])) (fun _ i _ => n - (intOf i).toNat)
  case atStart => exact ⟨0, 0, none, 0, [], _, rfl, rfl, Nat.zero_le _, Lib.hid rfl, F0⟩
  case round =>
    clear F0
    obtain ⟨j, m, A1, c1, xs, S1, rfl, rfl, hj, hm, FJ⟩ := hrel
    by_cases hjk : j < n
    · have hjZ : (j : Int) < (n : Int) := by omega
      have hjl : j < K.length := by rw [← HN.out]; exact hjk
      obtain ⟨g, oo, cs, hA, h5e, h1e, FE⟩ := FJ.elemR (L := Any) (A := A) (S := S) (vs := vs) (l := K) (by simp) j hjl
      subst hA
      have FE2 := FE.eT (List.mem_cons_self ..)
      have CE := FE.ec (List.mem_cons_self ..)
      have IH := Lib.hid (with_all K[j].depth K[j] (Nat.le_refl _) (HOK.out _ (.inl (List.getElem_mem hjl))))
      have hs := Tm.withAll_snoc K [] j hjl
      have hb : m + 2 * Tm.count K[j] ≤ 100000 := by
        have h1 := Tm.withAll_len (K.take j) []
        have h2 := Tm.countAll_take K j hjl
        have h3 := hm.out
        have h4 := HCNT.out
        simp only [List.length_nil] at h1; omega
      obtain ⟨tj, htj⟩ : ∃ t, t = K[j] := ⟨_, rfl⟩
      rw [← htj] at FE2 IH hs hb
      have HS := Lib.hid hs
      have HBB := Lib.hid hb
      have hjk' := Lib.hid hjk
      clear hs hb htj hjk hjl FE
      go_wp2_with (first
        | (with_reducible refine wpList_loads (o := ⟨some 30, .load 24 (.tmp 29), _, _, _, _⟩) rfl 24 (.tmp 29) rfl g (oo + j * 5) cs rfl CE _ Tryd.underlying24 rfl (size24' h5e) (.agg cs.toArray) rfl ?_)
        | (go_at_call 87
           with_reducible refine Calls.mono (IH.out w wr _ _ A1 c1 xs _ S1 _ _ m FE2 (List.mem_cons_of_mem _ (List.mem_cons_of_mem _ (List.mem_cons_self ..))) (List.mem_cons_self ..) hm.out HBB.out) ?_
           rintro e w7 ⟨A7, c7, xs7, S7, rfl, F7⟩
           clear FE2))
      have F8 := F7.sub (ts' := tLs Any S7 (Tm.withT tj (Tm.withAll (K.take j) [])) xs7 :: [tR Any S (some ⟨g, oo, none⟩) vs K, tR Any Sb B vb T]) (List.Sublist.refl _) (fun y hy => by
        rcases List.mem_cons.1 hy with h | h
        · rw [h]; exact List.mem_cons_self ..
        · exact List.mem_cons_of_mem _ (List.mem_cons_of_mem _ (List.mem_cons_of_mem _ (List.mem_cons_of_mem _ h))))
      rw [← HS.out] at F8 ⊢
      exact ⟨⟨j + 1, _, A7, c7, xs7, S7, rfl, by go_num, by have := hjk'.out; omega, Lib.hid rfl, F8⟩, by have := hjk'.out; simp [intOf]; omega⟩
    have hjZ : ¬ (j : Int) < (n : Int) := by omega
    have e9 : K.take j = K := List.take_of_length_le (by have := HN.out; omega)
    rw [e9] at FJ hm
    clear e9 hjk
    go_wp2_with fail
    obtain ⟨M1, hM1⟩ : ∃ M, M = Tm.withAll K [] := ⟨_, rfl⟩
    rw [← hM1] at FJ hm
    have HM1 : Hid (m = M1.length ∧ M1.length ≤ 2 * Tm.countAll K) := Lib.hid ⟨hm.out, by rw [hM1]; have := Tm.withAll_len K []; simp only [List.length_nil] at this; omega⟩
    have HME := Lib.hid hM1
    have FJ1 := FJ
    clear hM1 FJ hm
    go_loopw [7, 9] (fun r i wi => ∃ (j m : Nat) (A1 : Option Addr) (c1 : Nat) (xs : List Q5) (S1 : Nat → Prop), r = .slice A1 m c1 ∧ i = .int .i64 (j : Int) ∧ j ≤ nb ∧ Hid (m = (Tm.withAll (T.take j) M1).length) ∧ Fm w wi [oR A1 c1 xs] (tLs Any S1 (Tm.withAll (T.take j) M1) xs :: [tR Any S A vs K, tR Any Sb B vb T])) (fun _ i _ => nb - (intOf i).toNat)
    case atStart => exact ⟨0, m, A1, c1, xs, S1, rfl, rfl, Nat.zero_le _, Lib.hid (by rw [List.take_zero, Tm.withAll]; exact HM1.out.1), by rw [List.take_zero, Tm.withAll]; exact FJ1⟩
    case round =>
      clear FJ1
      obtain ⟨j, m, A1, c1, xs, S1, rfl, rfl, hj, hm, FJ⟩ := hrel
      by_cases hjk : j < nb
      · have hjZ : (j : Int) < (nb : Int) := by omega
        have hjl : j < T.length := by rw [← HNB.out]; exact hjk
        obtain ⟨g, oo, cs, hA, h5e, h1e, FE⟩ := FJ.elemR (L := Any) (A := B) (S := Sb) (vs := vb) (l := T) (by simp) j hjl
        subst hA
        have FE2 := FE.eT (List.mem_cons_self ..)
        have CE := FE.ec (List.mem_cons_self ..)
        have IH := Lib.hid (with_all T[j].depth T[j] (Nat.le_refl _) (HOK.out _ (.inr (List.getElem_mem hjl))))
        have hs := Tm.withAll_snoc T M1 j hjl
        have hb : m + 2 * Tm.count T[j] ≤ 100000 := by
          have h1 := Tm.withAll_len (T.take j) M1
          have h2 := Tm.countAll_take T j hjl
          have h3 := hm.out
          have h4 := HCNT.out
          have h5 := HM1.out.2; omega
        obtain ⟨tj, htj⟩ : ∃ t, t = T[j] := ⟨_, rfl⟩
        rw [← htj] at FE2 IH hs hb
        have HS := Lib.hid hs
        have HBB := Lib.hid hb
        have hjk' := Lib.hid hjk
        clear hs hb htj hjk hjl FE
        go_wp2_with (first
          | (with_reducible refine wpList_loads (o := ⟨some 42, .load 24 (.tmp 41), _, _, _, _⟩) rfl 24 (.tmp 41) rfl g (oo + j * 5) cs rfl CE _ Tryd.underlying24 rfl (size24' h5e) (.agg cs.toArray) rfl ?_)
          | (go_at_call 87
             with_reducible refine Calls.mono (IH.out w wr _ _ A1 c1 xs _ S1 _ _ m FE2 (List.mem_cons_of_mem _ (List.mem_cons_of_mem _ (List.mem_cons_self ..))) (List.mem_cons_self ..) hm.out HBB.out) ?_
             rintro e w7 ⟨A7, c7, xs7, S7, rfl, F7⟩
             clear FE2))
        have F8 := F7.sub (ts' := tLs Any S7 (Tm.withT tj (Tm.withAll (T.take j) M1)) xs7 :: [tR Any S A vs K, tR Any Sb (some ⟨g, oo, none⟩) vb T]) (List.Sublist.refl _) (fun y hy => by
          rcases List.mem_cons.1 hy with h | h
          · rw [h]; exact List.mem_cons_self ..
          · exact List.mem_cons_of_mem _ (List.mem_cons_of_mem _ (List.mem_cons_of_mem _ (List.mem_cons_of_mem _ h))))
        rw [← HS.out] at F8 ⊢
        exact ⟨⟨j + 1, _, A7, c7, xs7, S7, rfl, by go_num, by have := hjk'.out; omega, Lib.hid rfl, F8⟩, by have := hjk'.out; simp [intOf]; omega⟩
      have hjZ : ¬ (j : Int) < (nb : Int) := by omega
      have e9 : T.take j = T := List.take_of_length_le (by have := HNB.out; omega)
      rw [e9] at FJ hm
      clear e9 hjk
      obtain ⟨L, hL⟩ : ∃ L, L = Tm.withAll T M1 := ⟨_, rfl⟩
      rw [← hL] at FJ hm
      have hmb : m ≤ 100000 := by
        have h1 := Tm.withAll_len T M1
        rw [← hL, ← hm.out] at h1
        have h2 := HM1.out.2
        have h3 := HCNT.out
        omega
      have HLE := Lib.hid hL
      have HCLO : Hid (Tm.Clo L ∧ ∀ x ∈ K, x ∈ L) := Lib.hid (by
        obtain ⟨a1, a2, a3, a4⟩ := Tm.withAll_clo K [] [] Tm.CloE.nil (okAll_of fun x hx => HOK.out x (.inl hx))
        rw [← HME.out] at a1 a2
        obtain ⟨b1, b2, b3, b4⟩ := Tm.withAll_clo T [] M1 a1 (okAll_of fun x hx => HOK.out x (.inr hx))
        rw [← HLE.out] at b1 b3
        exact ⟨b1.clo, fun x hx => b3 x (a2 x hx)⟩)
      clear hL
      go_wp2_with (first
        | (with_reducible refine fm_makeB FJ (o := ⟨some 46, .makeSlice 85 _ _, _, _, _, _⟩) rfl _ _ rfl m rfl rfl (by omega) ?_; intro bc w10 F10; clear FJ)
        | (with_reducible refine fm_makeB F10 (o := ⟨some 49, .makeSlice 85 _ _, _, _, _, _⟩) rfl _ _ rfl m rfl rfl (by omega) ?_; intro bp w11 F11; clear F10))
      have FS : Fm w w11 (SetOs A1 c1 xs bc bp (List.replicate m false) (List.replicate m false)) (tLs Any S1 L xs :: [tR Any S A vs K, tR Any Sb B vb T]) := F11.permQ (List.reverse_perm [oR A1 c1 xs, oB bc 4 ((List.replicate m false).map Value.bool), oB bp 4 ((List.replicate m false).map Value.bool)])
      obtain ⟨z0, hz0⟩ : ∃ z, z = List.replicate m false := ⟨_, rfl⟩
      have HZ0 := Lib.hid hz0
      rw [← hz0] at FS
      clear hz0 F11
      go_loopw [12] (fun i wi => ∃ j : Nat, i = .int .i64 (j : Int) ∧ j ≤ n ∧ Fm w wi (SetOs A1 c1 xs bc bp (Tm.ini L (K.take j) z0) (Tm.ini L (K.take j) z0)) (tLs Any S1 L xs :: [tR Any S A vs K, tR Any Sb B vb T])) (fun i _ => n - (intOf i).toNat)
      case atStart => exact ⟨0, rfl, Nat.zero_le _, FS⟩
      case round =>
        clear FS
        obtain ⟨j, rfl, hj, FI⟩ := hrel
        have hil : (Tm.ini L (K.take j) z0).length = m := by rw [← (Tm.ini_le L (K.take j) z0).length, HZ0.out, List.length_replicate]
        by_cases hjk : j < n
        · have hjZ : (j : Int) < (n : Int) := by omega
          have hjl : j < K.length := by rw [← HN.out]; exact hjk
          obtain ⟨g, oo, cs, hA, h5e, h1e, FE⟩ := FI.elemR (L := Any) (A := A) (S := S) (vs := vs) (l := K) (by simp) j hjl
          subst hA
          have FE2 := FE.eT (List.mem_cons_self ..)
          have CE := FE.ec (List.mem_cons_self ..)
          have hin : K[j] ∈ L := HCLO.out.2 _ (List.getElem_mem hjl)
          have hs := Tm.ini_snoc L K z0 j hjl
          obtain ⟨cb, hcb⟩ : ∃ c, c = Tm.ini L (K.take j) z0 := ⟨_, rfl⟩
          rw [← hcb] at hs hil FE2
          obtain ⟨tj, htj⟩ : ∃ t, t = K[j] := ⟨_, rfl⟩
          rw [← htj] at FE2 hin hs
          obtain ⟨ix, hix⟩ : ∃ i, i = Tm.idx L tj := ⟨_, rfl⟩
          have hixn : ix < m := by rw [hm.out, hix]; exact Tm.idx_lt hin
          have hh := hasI_in hin
          rw [← hix] at hh hs
          have HH := Lib.hid hh
          have HS := Lib.hid hs
          have HIL := Lib.hid hil
          have HJ := Lib.hid hjk
          have HM9 : Hid (m < 1000000) := Lib.hid (by omega)
          have hixZ : (ix : Int) < (m : Int) := by omega
          clear hs hh hix hin htj hjk hjl FE FI hil hcb
          go_wp2_with (first
            | (with_reducible refine wpList_loads (o := ⟨some 61, .load 24 (.tmp 60), _, _, _, _⟩) rfl 24 (.tmp 60) rfl g (oo + j * 5) cs rfl CE _ Tryd.underlying24 rfl (size24' h5e) (.agg cs.toArray) rfl ?_)
            | (go_at_call 65
               have HC := FE2.hasR (i := 0) (A := A1) (c := c1) (xs := xs) rfl (l := L) (S := S1) (L := Any) (by simp) (List.mem_cons_self ..) m hm.out HM9.out
               rw [HH.out] at HC
               with_reducible refine Calls.mono HC ?_
               rintro e w12 ⟨rfl, m12⟩
               have F12 := FE2.call m12
               have CE2 := CE.keep m12 (by simp)
               clear HC FE2 CE m12)
            | (with_reducible refine fm_store1 F12 1 ix rfl (by rw [List.length_map, HIL.out]; exact hixn) (o := ⟨none, .store 4 (.tmp 63) _, _, _, _, _⟩) 4 (.bool true) rfl one4 rfl (.tmp 63) _ rfl rfl rfl rfl ?_
               intro w13 F13
               replace F13 := Fm.set1 F13
               have CE3 := (F13.ec (A := some ⟨g, oo + j * 5, none⟩) (cs := cs) (t := tj) (L := Any) (S := S) (by simp))
               clear F12 CE2)
            | (with_reducible refine wpList_loads (o := ⟨some 69, .load 24 (.tmp 68), _, _, _, _⟩) rfl 24 (.tmp 68) rfl g (oo + j * 5) cs rfl CE3 _ Tryd.underlying24 rfl (size24' h5e) (.agg cs.toArray) rfl ?_)
            | (go_at_call 65
               have HC := F13.hasR (i := 0) (A := A1) (c := c1) (xs := xs) rfl (l := L) (S := S1) (L := Any) (by simp) (List.mem_cons_self ..) m hm.out HM9.out
               rw [HH.out] at HC
               with_reducible refine Calls.mono HC ?_
               rintro e w14 ⟨rfl, m14⟩
               have F14 := F13.call m14
               clear HC F13 CE3 m14)
            | (with_reducible refine fm_store1 F14 2 ix rfl (by rw [List.length_map, HIL.out]; exact hixn) (o := ⟨none, .store 4 (.tmp 71) _, _, _, _, _⟩) 4 (.bool true) rfl one4 rfl (.tmp 71) _ rfl rfl rfl rfl ?_
               intro w15 F15
               replace F15 := Fm.set2 F15
               clear F14))
          have F16 := F15.sub (ts' := tLs Any S1 L xs :: [tR Any S (some ⟨g, oo, none⟩) vs K, tR Any Sb B vb T]) (List.Sublist.refl _) (fun y hy => List.mem_cons_of_mem _ (List.mem_cons_of_mem _ hy))
          rw [← HS.out] at F16
          exact ⟨⟨j + 1, by go_num, by have := HJ.out; omega, F16⟩, by have := HJ.out; simp [intOf]; omega⟩
        have hjZ : ¬ (j : Int) < (n : Int) := by omega
        have e9 : K.take j = K := List.take_of_length_le (by have := HN.out; omega)
        rw [e9] at FI hil
        obtain ⟨s0, hs0⟩ : ∃ s, s = (Tm.ini L K z0, Tm.ini L K z0) := ⟨_, rfl⟩
        obtain ⟨y0, hy0⟩ : ∃ c, c = Tm.ini L K z0 := ⟨_, rfl⟩
        rw [← hy0] at hs0 FI hil
        have HS0 := Lib.hid (And.intro hs0 (And.intro hy0 hil))
        clear hs0 hy0 e9 hjk hil
        go_wp2_with fail
        go_loopw [13] (fun i wi => ∃ (r : Nat) (cb pb : List Bool), i = .int .i64 (r : Int) ∧ r ≤ 2 * m + 1 ∧ Hid (Tm.rounds L s0 r = (cb, pb) ∧ cb.length = m ∧ pb.length = m) ∧ Fm w wi (SetOs A1 c1 xs bc bp cb pb) (tLs Any S1 L xs :: [tR Any S A vs K, tR Any Sb B vb T])) (fun i _ => 2 * m + 1 - (intOf i).toNat)
        case atStart => exact ⟨0, y0, y0, rfl, Nat.zero_le _, Lib.hid ⟨HS0.out.1, HS0.out.2.2, HS0.out.2.2⟩, FI⟩
        case round =>
          clear FI
          obtain ⟨r, cb, pb, rfl, hr, hrd, FR⟩ := hrel
          have hw2 : 2 * (m : Int) ≤ 200000 := by omega
          by_cases hrm : r ≤ 2 * m
          · have hrZ : (r : Int) ≤ 2 * (m : Int) := by omega
            go_wp2_with fail
            obtain ⟨s1, hs1⟩ : ∃ s, s = (cb, pb) := ⟨_, rfl⟩
            have HS1 := Lib.hid hs1
            have HRM := Lib.hid hrm
            clear hs1 hrm
            go_loopw [14] (fun i wi => ∃ (k : Nat) (cb pb : List Bool), i = .int .i64 (k : Int) ∧ k ≤ m ∧ Hid (Tm.steps L s1 k = (cb, pb) ∧ cb.length = m ∧ pb.length = m) ∧ Fm w wi (SetOs A1 c1 xs bc bp cb pb) (tLs Any S1 L xs :: [tR Any S A vs K, tR Any Sb B vb T])) (fun i _ => m - (intOf i).toNat)
            case atStart => exact ⟨0, cb, pb, rfl, Nat.zero_le _, Lib.hid ⟨HS1.out, hrd.out.2⟩, FR⟩
            case round =>
              clear FR
              obtain ⟨k, cb, pb, rfl, hk, hst, FK⟩ := hrel
              by_cases hkm : k < m
              · have hkZ : (k : Int) < (m : Int) := by omega
                clear HLE HM1 HME HNB HN HCNT HOK HZ0 hrd HS0 HS1 HRM
                rename_i q1 q2 q3 q4 q5 q6 q7 q8 q9 q10 q11 q12 q13 q14 q15 q16 q17 q18 q19 q20 q21 q22 q23 q24 q25 q26 q27 q28 q29 q30 q31 q32 q33 q34 q35 q36 q37 q38 q39 q40 q41 q42 q43 q44 q45 q46 q47 q48 q49 q50 q51 q52 q53 q54 q55 q56 q57 q58 q59 q60 q61 q62 q63 q64 q65 q66 q67 q68 q69 q70 q71 q72 q73 q74 q75 q76 q77 q78 q79 q80 q81 q82 q83 q84 q85 q86 q87 q88 q89 q90 q91 q92 q93 q94 q95 q96 q97 q98 q99 q100 q101 q102 q103 q104 q105 q106 q107 q108 q109 q110 q111 q112 q113 q114 q115 q116 q117 q118 q119 q120 q121 q122 q123 q124 q125 q126 q127 q128 q129 q130 q131 q132 q133 q134 q135 q136 q137 q138 q139 q140 q141 q142 q143 q144 q145 q146 q147 q148 q149 q150 q151 q152 q153 q154 q155 q156 q157 q158 q159 q160
                revert w A n c vs K S B nb d vb T Sb hn9 hnb9 q1 q2 u20 u21 u22 u23 u24 u25 u26 u27 u28 u29 u30 u31 q3 q4 q5 q6 q7 q8 q9 q10 q11 q12 q13 q14 M1 q15 u32 u33 u34 u35 u36 u37 u38 u39 u40 u41 u42 u43 q16 m A1 c1 xs S1 q17 L hm hmb HCLO q18 q19 q20 bc w10 bp w11 q21 q22 z0 q23 u50 u51 u52 u53 u54 u55 u56 u57 u58 u59 u60 u61 u62 u63 u64 u65 u66 u67 u68 u69 u70 u71 j hj s0 y0 q24 q25 q26 q27 q28 hjZ q29 u14 q30 q31 q32 q33 q34 u72 u73 u74 u75 u76 u77 u78 q35 q36 q37 q38 q39 q40 q41 q42 q43 q44 q45 q46 q47 q48 q49 q50 q51 q52 q53 q54 q55 q56 q57 q58 q59 q60 q61 q62 q63 q64 q65 q66 q67 q68 q69 q70 q71 q72 q73 q74 q75 q76 q77 q78 q79 q80 q81 q82 q83 q84 q85 q86 q87 q88 q89 q90 q91 q92 q93 q94 q95 q96 q97 q98 q99 q100 q101 q102 q103 q104 q105 q106 q107 q108 q109 q110 q111 q112 q113 q114 q115 q116 q117 q118 q119 q120 q121 q122 q123 q124 q125 q126 q127 q128 q129 q130 q131 q132 q133 q134 q135 q136 q137 q138 q139 q140 q141 q142 q143 q144 q145 q146 q147 q148 q149 q150 q151 q152 q153 q154 q155 r q156 q157 hr hw2 hrZ q158 q159 q160 s1 wr u15 u16 u17 u18 u19 u79 u80 u81 u82 u83 u84 u85 u86 u87 u88 u89 u90 u91 u92 u93 u94 u95 u96 u97 u98 u99 u100 u101 u102 u103 u104 u105 u106 u107 u108 u109 u110 u111 u112 u113 u114 u115 u116 u117 u118 u119 u120 u121 u122 u123 u124 u125 u126 u127 u128 u129 u130 u131 u132 u133 u134 u135 u136 u137 u138 u139 u140 u141 u142 u143 u144 u145 u146 u147 u148 u149 u150 u151 u152 u153 u154 u155 u156 u157 u158 u159 u160 u161 u162 u163 u164 u165 u166 u167 u168 u169 u170 u171 u172 u173 u174 u175 u176 u177 u178 u179 u180 u181 u182 u183 u184 u185 u186 u187 u188 u189 u190 u191 u192 u193 u194 u195 u196 u197 u198 u199 k cb pb hk hst FK hkm hkZ
                exact H1.out
              have hkZ : ¬ (k : Int) < (m : Int) := by omega
              obtain rfl : k = m := by omega
              have hfin : Tm.rounds L s0 (r + 1) = (cb, pb) := by
                show Tm.steps L (Tm.rounds L s0 r) L.length = (cb, pb)
                rw [hrd.out.1, ← HS1.out, ← hm.out]
                exact hst.out.1
              have HFI := Lib.hid (And.intro hfin hst.out.2)
              clear hfin hst hkm
              go_wp2_with fail
              exact ⟨⟨r + 1, cb, pb, by go_num, by have := HRM.out; omega, HFI, FK⟩, by have := HRM.out; simp [intOf]; omega⟩
          have hrZ : ¬ (r : Int) ≤ 2 * (m : Int) := by omega
          obtain rfl : r = 2 * m + 1 := by omega
          clear hrm
          go_wp2_with fail
          refine bodyPost_ret (results_ttt rfl _ _ (.slice A1 m c1) (.slice (some ⟨bc, 0, none⟩) m m) (.slice (some ⟨bp, 0, none⟩) m m) rfl rfl rfl) rfl ?_
          refine ⟨A1, c1, xs, S1, bc, bp, cb, pb, m, ?_, ?_, by rw [← HME.out, ← HLE.out]; exact FR⟩
          · rfl
          · exact ⟨L, HCLO.out, HLE.out.trans (by rw [HME.out]), hm.out, s0, y0, hrd.out.1, HS0.out.1, HS0.out.2.1.trans (by rw [HZ0.out]), HS0.out.2.2⟩
end Go.Proofs.YtchanildogjhgaaDoor

