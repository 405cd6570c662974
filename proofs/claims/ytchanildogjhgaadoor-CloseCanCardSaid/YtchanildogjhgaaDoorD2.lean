/-
  My own texts Dg Dh, one behind the other.
-/
import Derived.Test.YtchanildogjhgaaDoorD1
namespace Go.Proofs.YtchanildogjhgaaDoor
section
open Go.RowKit Go.Shelf
attribute [local go_sem] Oper.semAt_some
set_option linter.unusedVariables false
set_option linter.unusedSimpArgs false
theorem Fm.perm {w0 w : World} {os os' ts : List Th} (F : Fm w0 w os ts) (h : os.Perm os') : Fm w0 w os' ts :=
  ⟨F.m, fun x hx => F.k x (hx.imp_left h.mem_iff.2), fun x hx => F.lo x (h.mem_iff.2 hx), (h.pairwise_iff (fun hxy g h1 h2 => hxy g h2 h1)).1 F.d, fun x hx => F.e x (h.mem_iff.2 hx)⟩
theorem fm_hadSet {w0 w : World} {os ts : List Th} {ops : Array Oper} {rest : List Oper} {o : Oper} {a : Act} {Q : Exit → Act → World → Prop} (F : Fm w0 w os ts) (i : Nat) {mh : Nat} {hd : Nat → Nat} (hi : os[i]? = some (oH mh hd)) (hgd : o.guard = none) (x y z : Operand) (ho : o.op = .mapUpdate 83 x y z) (hdst : o.dst = none) (n k : Nat) (hx : a.eval x = .map (some mh)) (hy : a.eval y = vi n) (hz : a.eval z = vi k)
    (h : ∀ v, Fm w0 v (os.set i (oH mh (setH hd n k))) ts → wpList Tryd.prog ops Q rest a v) : wpList Tryd.prog ops Q (o :: rest) a w := by
  obtain ⟨v, hr, F'⟩ := F.hadSet i hi n k
  refine wpList_plain hgd fun K hK => ?_
  unfold Oper.wp
  rw [exec_update hr ho hx hy hz]
  refine hK _ _ ?_
  rw [hdst]
  exact h v F'
theorem LKF {w0 v : World} {os ts : List Th} {mh : Nat} {hd : Nat → Nat} (F : Fm w0 v os ts) (j : Nat) (hj : os[j]? = some (oH mh hd)) (n : Nat) (hn : Nat) (h : hn = hd n) : (Instr.lookup 83 (.map (some mh)) (vi n) false).run Tryd.prog v = .ok (vi hn) v := by
  rw [h]
  exact had_lookup (F.o j hj) n
theorem wrap64_id' (k : Nat) (h : k ≤ 9000000000000000000) : IntKind.i64.wrap (k : Int) = (k : Int) := by
  simp [IntKind.wrap, IntKind.bits, IntKind.signed]
  omega
theorem size117' (x : Nat × Nat) : (Tryd.prog.info? 117).map (·.size) = some (f2 x).length := size117
theorem f2_len2 (x : Nat × Nat) : (f2 x).length = 2 := rfl
theorem Fm.apart {w0 w : World} {os ts : List Th} (F : Fm w0 w os ts) {i j : Nat} {x y : Th} (hi : os[i]? = some x) (hj : os[j]? = some y) (hij : i ≠ j) (g : Nat) (hg : x.1 g) : ¬ y.1 g := by
  obtain ⟨h1, rfl⟩ := List.getElem?_eq_some_iff.1 hi
  obtain ⟨h2, rfl⟩ := List.getElem?_eq_some_iff.1 hj
  rcases Nat.lt_or_gt_of_ne hij with h | h
  · exact List.pairwise_iff_getElem.1 F.d i j h1 h2 h g hg
  · exact fun hg' => List.pairwise_iff_getElem.1 F.d j i h2 h1 h g hg' hg
theorem stdG_of {w0 w : World} {os ts : List Th} (F : Fm w0 w os ts) (ib iA : Nat) {bs c : Nat} {cs : List Value} {A : Option Addr} {st : List (Nat × Nat)} (hib : os[ib]? = some (oB bs 114 cs)) (hiA : os[iA]? = some (oG A c st)) (xs : List Th) (h : ∀ x ∈ xs, x ∈ ts ∨ ∃ j, j ≠ ib ∧ j ≠ iA ∧ os[j]? = some x) : StdG (bs :: blkOf A) w.heap.size xs w := fun x hx => by
  rcases h x hx with hx | ⟨j, h1, h2, hj⟩
  · obtain ⟨k1, k2, k3⟩ := F.k x (.inr hx)
    refine ⟨k1, k2, fun g hg => ⟨k3 g hg, fun hm => ?_⟩⟩
    rcases List.mem_cons.1 hm with rfl | hm
    · exact F.e _ (Fm.webm F hib) x hx g rfl hg
    · exact F.e _ (Fm.webm F hiA) x hx g hm hg
  · obtain ⟨k1, k2, k3⟩ := F.k x (.inl (Fm.webm F hj))
    refine ⟨k1, k2, fun g hg => ⟨k3 g hg, fun hm => ?_⟩⟩
    rcases List.mem_cons.1 hm with rfl | hm
    · exact F.apart hj hib h1 g hg rfl
    · exact F.apart hj hiA h2 g hg hm
theorem zip_one' (p : Tmp) (v : Value) (T : Array Value) : ((#[p] : Array Tmp).zip #[v]).foldl (fun t (p, v) => t.setIfInBounds p v) T = T.setIfInBounds p v := by simp
theorem exec_ixs80 {v : World} {o : Oper} {ρ : Operand → Value} {x y : Operand} {n c g i : Nat} (hi : i < n) (ho : o.op = .indexAddr 80 x y) (hx : ρ x = .slice (some ⟨g, 0, none⟩) n c) (hy : ρ y = .int .i64 (i : Int)) :
    (execOp ρ o).run Tryd.prog v = .ok (.value (.pointer (some ⟨g, i, none⟩))) v := by
  have h := exec_ixs (v := v) (o := o) (ρ := ρ) Tryd.underlying80 int_one hi ho hx hy
  rw [Nat.zero_add, Nat.mul_one] at h
  exact h
abbrev fr1 (wb len cK mh bs k0 c0 : Nat) (K A0 : Option Addr) (Ds : List Nat) (u : Nat → Value) : Act := { tmps := #[.pointer (some ⟨wb, 0, none⟩), .slice K len cK, undef, undef, .map none, .map (some mh), .pointer (some ⟨bs, 0, none⟩), u 7, undef, u 9, u 10, .map (some mh), .pointer (some ⟨wb, 0, none⟩), .slice K len cK, .slice A0 k0 c0, u 15, u 16, u 17, u 18, u 19, u 20, u 21, u 22, u 23, u 24, u 25, u 26, u 27, u 28, u 29, u 30, u 31, u 32, u 33, u 34, u 35, u 36, u 37, u 38, u 39, u 40, u 41, u 42, u 43, u 44, u 45, u 46, u 47, u 48, u 49, u 50, u 51, u 52, u 53, u 54, u 55, u 56, u 57, u 58, u 59, u 60, u 61, u 62, u 63, u 64, u 65], defers := Ds.map mark }
def Fr1 (wb len cK mh bs k0 c0 : Nat) (K A0 : Option Addr) (Ds : List Nat) (a : Act) : Prop := ∃ u, a = fr1 wb len cK mh bs k0 c0 K A0 Ds u
theorem Fr1.of (wb len cK mh bs k0 c0 : Nat) (K A0 : Option Addr) (Ds : List Nat) (a : Act) (h : a = fr1 wb len cK mh bs k0 c0 K A0 Ds (fun q => a.tmps.toList.getD q undef)) : Fr1 wb len cK mh bs k0 c0 K A0 Ds a := ⟨_, h⟩
abbrev fr2 (wb len cK mh bs k0 c0 nW cW j : Nat) (K A0 AW : Option Addr) (Ds : List Nat) (u : Nat → Value) : Act := { tmps := #[.pointer (some ⟨wb, 0, none⟩), .slice K len cK, undef, undef, .map none, .map (some mh), .pointer (some ⟨bs, 0, none⟩), u 7, undef, u 9, u 10, .map (some mh), .pointer (some ⟨wb, 0, none⟩), .slice K len cK, .slice A0 k0 c0, u 15, u 16, u 17, u 18, u 19, u 20, u 21, u 22, u 23, u 24, u 25, u 26, u 27, u 28, u 29, u 30, u 31, u 32, u 33, u 34, u 35, u 36, u 37, u 38, u 39, u 40, u 41, u 42, u 43, u 44, u 45, u 46, u 47, u 48, .slice AW nW cW, .int .i64 (nW : Int), .int .i64 (j : Int), u 52, u 53, u 54, u 55, u 56, u 57, u 58, u 59, u 60, u 61, u 62, u 63, u 64, u 65], defers := Ds.map mark }
def Fr2 (wb len cK mh bs k0 c0 nW cW j : Nat) (K A0 AW : Option Addr) (Ds : List Nat) (a : Act) : Prop := ∃ u, a = fr2 wb len cK mh bs k0 c0 nW cW j K A0 AW Ds u
theorem Fr2.of (wb len cK mh bs k0 c0 nW cW j : Nat) (K A0 AW : Option Addr) (Ds : List Nat) (a : Act) (h : a = fr2 wb len cK mh bs k0 c0 nW cW j K A0 AW Ds (fun q => a.tmps.toList.getD q undef)) : Fr2 wb len cK mh bs k0 c0 nW cW j K A0 AW Ds a := ⟨_, h⟩
theorem zero114 (w : World) : (zeroValue 114).run Tryd.prog w = .ok (.slice none 0 0) w := by kernel_rfl
theorem size114 : (Tryd.prog.info? 114).map (·.size) = some 1 := by kernel_rfl
set_option maxRecDepth 1000000 in
set_option maxHeartbeats 8000000 in
theorem reckoned_c {w0 w : World} {os ts : List Th} {i wb mp cap : Nat} {N : Option Addr} {ns : List NdC} {T SK : Nat → Prop} (F : Fm w0 w os ts) (hi : os[i]? = some (oWN wb mp N cap ns)) (hN : tN Any T ns ∈ ts) (HG : Good ns) (hb : ns.length ≤ 10000) {K : Option Addr} {kn : List Nat} (hK : tI Any SK K kn ∈ ts) (len cK : Nat) (hlen : len = kn.length) (hl : len ≤ 10000) (KT : List Tm) (hkn : numOf (grN ns) kn KT) :
    Calls Tryd.prog 63 #[.pointer (some ⟨wb, 0, none⟩), .slice K len cK] w fun e w' => ∃ mh hd, e = .returned (.map (some mh)) ∧ Fm w0 w' (oH mh hd :: os) ts ∧ Run KT (grN ns) kn hd [] := by
  have HI := Lib.hid hi
  have HN := Lib.hid hN
  have hg := Lib.hid HG
  have HK := Lib.hid hK
  have HL := Lib.hid hlen
  have HB := Lib.hid hb
  have HKN := Lib.hid hkn
  clear hi hN HG hK hlen hb hkn
  refine (callsIn_wide (n := 5)).1 ?_
  refine callsIn_of_wp_marks Tryd.func63 rfl trivial ?_ rfl
  simp only [Tryd.ntmps63, List.size_toArray, List.length_cons, List.length_nil, Nat.reduceAdd, Nat.reduceSub, Array.replicate_succ, Array.replicate_zero, List.push_toArray, List.append_toArray, List.nil_append, List.cons_append]
  refine wpIn_wide.2 ?_
  go_wp2_with fail
  go_step3
  go_wp2_with (first
    | (with_reducible refine fm_mapH F (o := ⟨some 11, .makeMap 83 none, _, _, _, _⟩) rfl rfl ?_; intro mh w1 F1; clear F)
    | (go_at_call 85; refine (toBegin_c F1 (i := i + 1) (by simpa using HI.out) HN.out hg.out (by have := HB.out; omega) HK.out len cK HL.out hl).mono ?_
       rintro e w2 ⟨A0, k0, c0, st0, rfl, hk0, F2, hst0⟩
       have HST := Lib.hid (And.intro hk0 hst0)
       clear F1 hk0 hst0)
    | (with_reducible refine fm_alloc1 F2 (o := ⟨some 6, .alloc 114, _, _, _, _⟩) rfl 114 rfl (.slice none 0 0) rfl zero114 ?_; intro bs w3 F3; clear F2)
    | (with_reducible refine fm_store1 F3 0 0 rfl (by simp) 114 (.slice A0 k0 c0) rfl size114 (o := ⟨none, .store 114 (.tmp 6) (.tmp 14), _, _, _, _⟩) rfl (.tmp 6) (.tmp 14) rfl rfl rfl rfl ?_; intro w4 F4; clear F3))
  go_step3
  go_wp2_with fail
  rename_i Kf aK
  obtain ⟨hk0, hst0⟩ := HST.out
  have F5 := F4.adopt (oD []) (keeps_oD _) ⟨List.nodup_nil, fun _ h => by cases h⟩ (fun g hg => by cases hg) (fun y hy g hg => by cases hg)
  have hnn := HB.out
  have hB0 : sumH (fun _ => 0) ns.length * (15 * ns.length + 1) + k0 ≤ 4000000000 := by
    have h1 := sumH_le (fun _ => 0) ns.length
    have h2 : st0.length ≤ ns.length + len := by
      have h4 := beg0_len (grN ns) ns.length
      have h5 : (kn.map (fun n => (n, 2))).length = kn.length := List.length_map ..
      have h6 := HL.out
      rw [hst0, List.length_append, h5]
      omega
    have h3 : sumH (fun _ => 0) ns.length * (15 * ns.length + 1) ≤ 20000 * 150001 := Nat.mul_le_mul (by omega) (by omega)
    omega
  have F6 : Fm w0 w4 (oB bs 114 [.slice A0 k0 c0] :: oG A0 c0 st0 :: oH mh (fun _ => 0) :: oD [] :: os) ts :=
    Fm.perm (os := oD [] :: oB bs 114 [.slice A0 k0 c0] :: oG A0 c0 st0 :: oH mh (fun _ => 0) :: os) F5 (List.perm_middle (l₁ := [oB bs 114 [.slice A0 k0 c0], oG A0 c0 st0, oH mh (fun _ => 0)]) (a := oD []) (l₂ := os)).symm
  have R0 : Run KT (grN ns) kn (fun _ => 0) st0 := by rw [hst0]; have := Run.begin hg.out.wok HKN.out (fun _ _ => trivial); simpa [beg0] using this
  refine wp_loop (fun a' W => ∃ (Ds : List Nat) (A : Option Addr) (k c : Nat) (st : List (Nat × Nat)) (hd : Nat → Nat), Fm w0 W (oB bs 114 [.slice A k c] :: oG A c st :: oH mh hd :: oD Ds :: os) ts ∧ Hid (k = st.length ∧ Run KT (grN ns) kn hd st ∧ sumH hd ns.length * (15 * ns.length + 1) + k ≤ 4000000000) ∧ (∀ D ∈ Ds, w0.heap.size ≤ D) ∧ Fr1 wb len cK mh bs k0 c0 K A0 Ds a') (fun _ W => muW bs mh ns.length (15 * ns.length + 1) W) ?start ?round
  case start => exact ⟨[], A0, k0, c0, st0, fun _ => 0, F6, Lib.hid ⟨hk0, R0, hB0⟩, (fun _ h => by cases h), Fr1.of _ _ _ _ _ _ _ _ _ _ _ rfl⟩
  case round =>
  rintro _ W ⟨Ds, A, k, c, st, hd, FJ, hj, hds, u, rfl⟩
  clear F4 F5 F6 R0 hB0 hst0 HST hk0
  dsimp only [fr1]
  obtain ⟨hk, hR, hM⟩ := hj.out
  rcases List.eq_nil_or_concat st with hnil | ⟨st', ⟨m, h⟩, hst⟩
  · subst hnil
    have hk0 : k = 0 := hk
    subst hk0
    have HR := Lib.hid hR
    clear hk hR hM hj
    go_wp2_with (first
      | (with_reducible refine fm_load1 FJ 0 0 rfl (.slice A 0 c) rfl (o := ⟨some 15, _, _, _, _, _⟩) rfl 114 (.tmp 6) rfl rfl (fun h => run_load1 Tryd.underlying114 rfl h) ?_))
    rw [Exit.noGoto_ret]
    have hMk : Marks Ds W := FJ.o 3 rfl
    refine leaves_marks Ds W hMk (fun w8 m8 hs8 => ?_)
    have F8 := (FJ.sub (os' := oH mh hd :: os) (ts' := ts) (List.Sublist.cons _ (List.Sublist.cons _ (List.Sublist.cons_cons _ (List.sublist_cons_self _ _)))) (fun y hy => hy)).skip m8 (fun D hD => FJ.lo (oD Ds) (by simp) D hD) (fun D hD x hx hxD => by
      rcases hx with hx | hx
      · rcases List.mem_cons.1 hx with rfl | hx
        · have h1 : D = mh := hxD
          obtain ⟨es, cl, h2, _⟩ := (FJ.o 2 rfl : IsHad W mh hd)
          have h3 := hMk.2 D hD
          rw [h1, h2] at h3
          cases h3
        · exact (List.pairwise_cons.1 (List.pairwise_cons.1 (List.pairwise_cons.1 (List.pairwise_cons.1 FJ.d).2).2).2).1 x hx D hD hxD
      · exact FJ.e (oD Ds) (by simp) x hx D hD hxD)
    exact ⟨_, results_tmp rfl _ _ _, mh, hd, rfl, F8, HR.out⟩
  · rw [List.concat_eq_append] at hst
    subst hst
    have HMU := Lib.hid (muW_eq (len := ns.length) (C := 15 * ns.length + 1) (FJ.o 2 rfl) ((FJ.blk 0 rfl).cell 0))
    obtain ⟨k', hk'⟩ : ∃ k', k' = st'.length := ⟨_, rfl⟩
    have hkk : k = k' + 1 := by rw [hk, List.length_append, ← hk']; rfl
    have hOw : OwnG f2 117 2 W A c (st' ++ [(m, h)]) := FJ.o 1 rfl
    obtain ⟨gA, rfl⟩ := hOw.some' (by simp)
    have hOc : Cells W (some ⟨gA, k' * 2, none⟩) (f2 (m, h)) := by
      have h1 := hOw.cells.elem f2 2 f2_len k' (by simp; omega)
      rw [Nat.zero_add] at h1
      have e : (st' ++ [(m, h)])[k']'(by simp; omega) = (m, h) := by simp [hk']
      rw [e] at h1
      exact h1
    have hfit : k' ≤ c := by have := hOw.fits.1; simp at this; omega
    have hkb : k ≤ 4000000000 := by omega
    have hlt : k' < k := by omega
    have hsub : IntKind.i64.wrap ((k : Int) - 1) = (k' : Int) := by
      rw [hkk]
      have : (((k' + 1 : Nat) : Int) - 1) = (k' : Int) := by omega
      rw [this]
      exact wrap64_id' k' (by omega)
    obtain ⟨hh12, tq, htq, _⟩ := hR.stk (m, h) (by simp)
    have hmn : m < ns.length := by simpa using (tmAt_some htq).1
    have hh2 : h ≤ 2 := by dsimp only at hh12; omega
    obtain ⟨hdm, hhdm⟩ : ∃ q, q = hd m := ⟨_, rfl⟩
    have HDM := Lib.hid hhdm
    have HR := Lib.hid hR
    have HKK := Lib.hid hkk
    have HK' := Lib.hid hk'
    have HMM := Lib.hid hM
    clear hj hR hM hk hkk hk' htq hh12 hOw hhdm
    rcases Nat.lt_or_ge hdm h with hge | hge
    case inr =>
      go_wp2_with (first
        | (with_reducible refine fm_load1 FJ 0 0 rfl (.slice (some ⟨gA, 0, none⟩) k c) rfl (o := ⟨some 15, _, _, _, _, _⟩) rfl 114 (.tmp 6) rfl rfl (fun h => run_load1 Tryd.underlying114 rfl h) ?_)
        | (with_reducible refine fm_load1 FJ 0 0 rfl (.slice (some ⟨gA, 0, none⟩) k c) rfl (o := ⟨some 18, _, _, _, _, _⟩) rfl 114 (.tmp 6) rfl rfl (fun h => run_load1 Tryd.underlying114 rfl h) ?_)
        | (with_reducible refine fm_load1 FJ 0 0 rfl (.slice (some ⟨gA, 0, none⟩) k c) rfl (o := ⟨some 19, _, _, _, _, _⟩) rfl 114 (.tmp 6) rfl rfl (fun h => run_load1 Tryd.underlying114 rfl h) ?_)
        | (with_reducible refine wpList_ran (o := ⟨some 21, _, _, _, _, _⟩) rfl (.int .i64 (k' : Int)) (exec_sub rfl rfl rfl hsub) ?_)
        | (with_reducible refine wpList_ran (o := ⟨some 22, _, _, _, _, _⟩) rfl (.pointer (some ⟨gA, k' * 2, none⟩)) (exec_ixs114 hlt rfl rfl rfl) ?_)
        | (with_reducible refine wpList_loads (o := ⟨some 23, .load 117 (.tmp 22), _, _, _, _⟩) rfl 117 (.tmp 22) rfl gA (k' * 2) (f2 (m, h)) rfl hOc _ Tryd.underlying117 rfl (size117' (m, h)) _ rfl ?_)
        | (with_reducible refine fm_alloc FJ (o := ⟨some 7, .alloc 117, _, _, _, _⟩) rfl 117 rfl _ z117' ?_; intro b7 w1 F1; clear FJ)
        | (with_reducible refine fm_store2 F1 0 rfl (o := ⟨none, .store 117 (.tmp 7) (.tmp 23), _, _, _, _⟩) rfl (.tmp 7) (.tmp 23) rfl rfl (f2 (m, h)) rfl rfl (f2_len2 _) rfl (f2_one _) ?_; intro w2 F2; clear F1)
        | (with_reducible refine fm_load1 F2 1 0 rfl (.slice (some ⟨gA, 0, none⟩) k c) rfl (o := ⟨some 24, _, _, _, _, _⟩) rfl 114 (.tmp 6) rfl rfl (fun h => run_load1 Tryd.underlying114 rfl h) ?_)
        | (with_reducible refine fm_load1 F2 1 0 rfl (.slice (some ⟨gA, 0, none⟩) k c) rfl (o := ⟨some 25, _, _, _, _, _⟩) rfl 114 (.tmp 6) rfl rfl (fun h => run_load1 Tryd.underlying114 rfl h) ?_)
        | (with_reducible refine wpList_ran (o := ⟨some 27, _, _, _, _, _⟩) rfl (.int .i64 (k' : Int)) (exec_sub rfl rfl rfl hsub) ?_)
        | (with_reducible refine wpList_ran (o := ⟨some 28, _, _, _, _, _⟩) rfl (.slice (some ⟨gA, 0, none⟩) k' c) (exec_cut114 hfit rfl rfl rfl) ?_)
        | (with_reducible refine fm_store1 F2 1 0 rfl (by simp) 114 (.slice (some ⟨gA, 0, none⟩) k' c) rfl size114 (o := ⟨none, .store 114 (.tmp 6) (.tmp 28), _, _, _, _⟩) rfl (.tmp 6) (.tmp 28) rfl rfl rfl rfl ?_; intro w3 F3; clear F2)
        | (with_reducible refine fm_load1 F3 0 0 rfl (vi m) rfl (o := ⟨some 31, _, _, _, _, _⟩) rfl 3 (.tmp 30) rfl rfl (fun h => run_load1 Tryd.underlying3 rfl h) ?_)
        | (with_reducible refine wpList_ran (o := ⟨some 32, _, _, _, _, _⟩) rfl (vi hdm) (exec_lookup (LKF F3 3 rfl m hdm HDM.out) rfl rfl rfl) ?_)
        | (with_reducible refine fm_load1 F3 0 1 rfl (vi h) rfl (o := ⟨some 34, _, _, _, _, _⟩) rfl 82 (.tmp 33) rfl rfl (fun h => run_load1 Tryd.underlying82 rfl h) ?_))
      have F4 := (F3.sub (os' := oB bs 114 [.slice (some ⟨gA, 0, none⟩) k' c] :: oG (some ⟨gA, 0, none⟩) c (st' ++ [(m, h)]) :: oH mh hd :: oD Ds :: os) (List.sublist_cons_self _ _) (fun y hy => hy)).popG 1 rfl
      have F5 : Fm w0 w3 (oB bs 114 [.slice (some ⟨gA, 0, none⟩) k' c] :: oG (some ⟨gA, 0, none⟩) c st' :: oH mh hd :: oD Ds :: os) ts := F4
      have h1 := HKK.out
      have h2 := HMM.out
      refine ⟨⟨Ds, some ⟨gA, 0, none⟩, k', c, st', hd, F5, Lib.hid ⟨HK'.out, HR.out.drop (by rw [← HDM.out]; exact hge), by omega⟩, hds, Fr1.of _ _ _ _ _ _ _ _ _ _ _ rfl⟩, ?_⟩
      rw [HMU.out, muW_eq (F5.o 2 rfl) ((F5.blk 0 rfl).cell 0)]
      omega
    case inl =>
      go_wp2_with (first
        | (with_reducible refine fm_load1 FJ 0 0 rfl (.slice (some ⟨gA, 0, none⟩) k c) rfl (o := ⟨some 15, _, _, _, _, _⟩) rfl 114 (.tmp 6) rfl rfl (fun h => run_load1 Tryd.underlying114 rfl h) ?_)
        | (with_reducible refine fm_load1 FJ 0 0 rfl (.slice (some ⟨gA, 0, none⟩) k c) rfl (o := ⟨some 18, _, _, _, _, _⟩) rfl 114 (.tmp 6) rfl rfl (fun h => run_load1 Tryd.underlying114 rfl h) ?_)
        | (with_reducible refine fm_load1 FJ 0 0 rfl (.slice (some ⟨gA, 0, none⟩) k c) rfl (o := ⟨some 19, _, _, _, _, _⟩) rfl 114 (.tmp 6) rfl rfl (fun h => run_load1 Tryd.underlying114 rfl h) ?_)
        | (with_reducible refine wpList_ran (o := ⟨some 21, _, _, _, _, _⟩) rfl (.int .i64 (k' : Int)) (exec_sub rfl rfl rfl hsub) ?_)
        | (with_reducible refine wpList_ran (o := ⟨some 22, _, _, _, _, _⟩) rfl (.pointer (some ⟨gA, k' * 2, none⟩)) (exec_ixs114 hlt rfl rfl rfl) ?_)
        | (with_reducible refine wpList_loads (o := ⟨some 23, .load 117 (.tmp 22), _, _, _, _⟩) rfl 117 (.tmp 22) rfl gA (k' * 2) (f2 (m, h)) rfl hOc _ Tryd.underlying117 rfl (size117' (m, h)) _ rfl ?_)
        | (with_reducible refine fm_alloc FJ (o := ⟨some 7, .alloc 117, _, _, _, _⟩) rfl 117 rfl _ z117' ?_; intro b7 w1 F1; clear FJ)
        | (with_reducible refine fm_store2 F1 0 rfl (o := ⟨none, .store 117 (.tmp 7) (.tmp 23), _, _, _, _⟩) rfl (.tmp 7) (.tmp 23) rfl rfl (f2 (m, h)) rfl rfl (f2_len2 _) rfl (f2_one _) ?_; intro w2 F2; clear F1)
        | (with_reducible refine fm_load1 F2 1 0 rfl (.slice (some ⟨gA, 0, none⟩) k c) rfl (o := ⟨some 24, _, _, _, _, _⟩) rfl 114 (.tmp 6) rfl rfl (fun h => run_load1 Tryd.underlying114 rfl h) ?_)
        | (with_reducible refine fm_load1 F2 1 0 rfl (.slice (some ⟨gA, 0, none⟩) k c) rfl (o := ⟨some 25, _, _, _, _, _⟩) rfl 114 (.tmp 6) rfl rfl (fun h => run_load1 Tryd.underlying114 rfl h) ?_)
        | (with_reducible refine wpList_ran (o := ⟨some 27, _, _, _, _, _⟩) rfl (.int .i64 (k' : Int)) (exec_sub rfl rfl rfl hsub) ?_)
        | (with_reducible refine wpList_ran (o := ⟨some 28, _, _, _, _, _⟩) rfl (.slice (some ⟨gA, 0, none⟩) k' c) (exec_cut114 hfit rfl rfl rfl) ?_)
        | (with_reducible refine fm_store1 F2 1 0 rfl (by simp) 114 (.slice (some ⟨gA, 0, none⟩) k' c) rfl size114 (o := ⟨none, .store 114 (.tmp 6) (.tmp 28), _, _, _, _⟩) rfl (.tmp 6) (.tmp 28) rfl rfl rfl rfl ?_; intro w3 F3; clear F2)
        | (with_reducible refine fm_load1 F3 0 0 rfl (vi m) rfl (o := ⟨some 31, _, _, _, _, _⟩) rfl 3 (.tmp 30) rfl rfl (fun h => run_load1 Tryd.underlying3 rfl h) ?_)
        | (with_reducible refine wpList_ran (o := ⟨some 32, _, _, _, _, _⟩) rfl (vi hdm) (exec_lookup (LKF F3 3 rfl m hdm HDM.out) rfl rfl rfl) ?_)
        | (with_reducible refine fm_load1 F3 0 1 rfl (vi h) rfl (o := ⟨some 34, _, _, _, _, _⟩) rfl 82 (.tmp 33) rfl rfl (fun h => run_load1 Tryd.underlying82 rfl h) ?_)
        | (with_reducible refine fm_load1 F3 0 0 rfl (vi m) rfl (o := ⟨some 38, _, _, _, _, _⟩) rfl 3 (.tmp 37) rfl rfl (fun h => run_load1 Tryd.underlying3 rfl h) ?_)
        | (with_reducible refine fm_load1 F3 0 1 rfl (vi h) rfl (o := ⟨some 40, _, _, _, _, _⟩) rfl 82 (.tmp 39) rfl rfl (fun h => run_load1 Tryd.underlying82 rfl h) ?_)
        | (with_reducible refine fm_hadSet F3 3 rfl (o := ⟨none, .mapUpdate 83 (.tmp 36) (.tmp 38) (.tmp 40), _, _, _, _⟩) rfl (.tmp 36) (.tmp 38) (.tmp 40) rfl rfl m h rfl rfl rfl ?_; intro w4 F4x; clear F3))
      have F4 : Fm w0 w4 (oB b7 117 (f2 (m, h)) :: oB bs 114 [.slice (some ⟨gA, 0, none⟩) k' c] :: oG (some ⟨gA, 0, none⟩) c st' :: oH mh (setH hd m h) :: oD Ds :: os) ts := F4x.popG 2 rfl
      clear F4x
      obtain ⟨hd', hhd'⟩ : ∃ f, f = setH hd m h := ⟨_, rfl⟩
      rw [← hhd'] at F4
      have HHD := Lib.hid hhd'
      have hi4 : (oB b7 117 (f2 (m, h)) :: oB bs 114 [.slice (some ⟨gA, 0, none⟩) k' c] :: oG (some ⟨gA, 0, none⟩) c st' :: oH mh hd' :: oD Ds :: os)[i + 5]? = some (oWN wb mp N cap ns) := by simpa using HI.out
      have W4 : Web w4 wb mp (.slice N ns.length cap) N cap (ns.map keyN) ns (ns.map (·.wakes)) := F4.web hi4
      obtain ⟨g, hNg, hc9, h9n, _⟩ := W4.node m hmn
      have er : w4.drew.cell? ⟨wb, 1, none⟩ = some (.slice (some ⟨g, 0, none⟩) ns.length cap) := by rw [← hNg]; exact W4.rowc
      have e7 : w4.drew.cell? ⟨b7, 0, none⟩ = some (.int .i64 (m : Int)) := (F4.blk 0 rfl).cell 0
      obtain ⟨rw4, hwk⟩ : ∃ r, r = ns[m].wakes := ⟨_, rfl⟩
      obtain ⟨AW, cW, lW⟩ := rw4
      have HWK := Lib.hid hwk
      obtain ⟨nW, hnW⟩ : ∃ q, q = lW.length := ⟨_, rfl⟩
      have HNW := Lib.hid hnW
      have ew : w4.drew.cell? ⟨g, m * 9 + 8, none⟩ = some (.slice AW nW cW) := by
        have q1 := hc9.at 8 (by omega)
        have q2 := ndv8 h9n
        rw [List.getElem?_eq_getElem (by omega)] at q2
        have q3 : w4.cell? ⟨g, m * 9 + 8, none⟩ = some (rv ns[m].wakes) := q1.trans q2
        rw [← hwk] at q3
        rw [hnW]
        exact q3
      have hnWb : nW ≤ 5 * ns.length := by
        have := hg.out.few _ (List.getElem_mem hmn)
        rw [← hwk] at this
        rw [hnW]
        exact this
      have F5 := (F4.sub (os' := oB bs 114 [.slice (some ⟨gA, 0, none⟩) k' c] :: oG (some ⟨gA, 0, none⟩) c st' :: oH mh hd' :: oD Ds :: os) (List.sublist_cons_self _ _) (fun y hy => hy)).call (Mod.drew [] w4)
      clear hi4 W4 hNg hc9 h9n hwk hnW hhd' F4
      refine wp_region_ups [(41, .pointer (some ⟨wb, 0, none⟩)), (42, .pointer (some ⟨wb, 0, none⟩)), (43, .pointer (some ⟨wb, 1, none⟩)), (44, .slice (some ⟨g, 0, none⟩) ns.length cap), (45, .pointer (some ⟨b7, 0, none⟩)), (46, .int .i64 (m : Int)), (47, .pointer (some ⟨g, m * 9, none⟩)), (48, .pointer (some ⟨g, m * 9 + 8, none⟩)), (49, .slice AW nW cW), (50, .int .i64 (nW : Int)), (51, .int .i64 0)] 66 [41, 42, 43, 44, 45, 46, 47, 48, 49, 50, 51] rfl rfl (by decide) (by kernel_rfl) (fun lz v => v = w4.drew) (by kernel_rfl) (rfl) (by kernel_rfl) (by kernel_rfl) ?_ ?_
      · skip
        intro lz T v j o hj hlj hdep hst hpar hgot hcl Kq hK
        have hjn : j < 11 := (Array.getElem?_eq_some_iff.1 hj).1
        obtain rfl | rfl | rfl | rfl | rfl | rfl | rfl | rfl | rfl | rfl | rfl : j = 0 ∨ j = 1 ∨ j = 2 ∨ j = 3 ∨ j = 4 ∨ j = 5 ∨ j = 6 ∨ j = 7 ∨ j = 8 ∨ j = 9 ∨ j = 10 := by omega
        all_goals (have hj' := Option.some.inj (hj : some _ = some o); subst hj'; clear hj)
        · exact wp_ran rfl (exec_move rfl (eval_tmp ((hpar 0 rfl).trans rfl))) (hK _ _ (fun s hs => by cases hs; rfl) hst)
        · exact wp_ran rfl (exec_nil rfl (eval_tmp (hgot 0 _ 41 rfl (hdep ⟨0, .data⟩ (by simp) rfl) rfl))) (hK _ _ (fun s hs => by cases hs; rfl) hst)
        · exact wp_ran rfl (exec_fp106_1 rfl (eval_tmp (hgot 1 _ 42 rfl (hdep ⟨1, .data⟩ (by simp) rfl) rfl))) (hK _ _ (fun s hs => by cases hs; rfl) hst)
        · exact wp_ran rfl (exec_load rfl (eval_tmp (hgot 2 _ 43 rfl (hdep ⟨2, .data⟩ (by simp) rfl) rfl)) (run_load1 Tryd.underlying104 rfl (by rw [hst]; exact er))) (hK _ _ (fun s hs => by cases hs; rfl) hst)
        · exact wp_ran rfl (exec_fp117_0 rfl (eval_tmp ((hpar 7 rfl).trans rfl))) (hK _ _ (fun s hs => by cases hs; rfl) hst)
        · exact wp_ran rfl (exec_load rfl (eval_tmp (hgot 4 _ 45 rfl (hdep ⟨4, .data⟩ (by simp) rfl) rfl)) (run_load1 Tryd.underlying3 rfl (by rw [hst]; exact e7))) (hK _ _ (fun s hs => by cases hs; rfl) hst)
        · exact wp_ran rfl (exec_ixs104 hmn rfl (eval_tmp (hgot 3 _ 44 rfl (hdep ⟨3, .data⟩ (by simp) rfl) rfl)) (eval_tmp (hgot 5 _ 46 rfl (hdep ⟨5, .data⟩ (by simp) rfl) rfl))) (hK _ _ (fun s hs => by cases hs; rfl) hst)
        · exact wp_ran rfl (exec_fp111_4 rfl (eval_tmp (hgot 6 _ 47 rfl (hdep ⟨6, .data⟩ (by simp) rfl) rfl))) (hK _ _ (fun s hs => by cases hs; rfl) hst)
        · exact wp_ran rfl (exec_load rfl (eval_tmp (hgot 7 _ 48 rfl (hdep ⟨7, .data⟩ (by simp) rfl) rfl)) (run_load1 Tryd.underlying80 rfl (by rw [hst]; exact ew))) (hK _ _ (fun s hs => by cases hs; rfl) hst)
        · exact wp_ran rfl (exec_len Tryd.underlying80 rfl (eval_tmp (hgot 8 _ 49 rfl (hdep ⟨8, .data⟩ (by simp) rfl) rfl))) (hK _ _ (fun s hs => by cases hs; rfl) hst)
        · exact wp_ran rfl (exec_move rfl rfl) (hK _ _ (fun s hs => by cases hs; rfl) hst)
      intro lz v hlz hst
      subst hst
      simp only [setAll, Act.put, List.foldl_cons, List.foldl_nil, List.setIfInBounds_toArray, List.set_cons_succ, List.set_cons_zero]
      clear hlz
      clear er e7 ew
      revert F5
      generalize w4.drew = w5
      intro F5
      go_wp2_with fail
      refine wp_loop (fun a' W => ∃ (Ds : List Nat) (A : Option Addr) (k c j : Nat) (st : List (Nat × Nat)), Fm w0 W (oB bs 114 [.slice A k c] :: oG A c st :: oH mh hd' :: oD Ds :: os) ts ∧ Hid (k = st.length ∧ st = st' ++ (lW.take j).flatMap (givesL (grN ns) hd')) ∧ j ≤ nW ∧ (∀ D ∈ Ds, w0.heap.size ≤ D) ∧ Fr2 wb len cK mh bs k0 c0 nW cW j K A0 AW Ds a') (fun a' _ => nW - (intOf (a'.tmps.getD 51 undef)).toNat) ?start2 ?round2
      case start2 => exact ⟨Ds, some ⟨gA, 0, none⟩, k', c, 0, st', F5, Lib.hid ⟨HK'.out, by simp⟩, Nat.zero_le _, hds, Fr2.of _ _ _ _ _ _ _ _ _ _ _ _ _ _ _ rfl⟩
      case round2 =>
      clear F5
      rintro _ W2 ⟨Ds2, A2, k2, c2, j, st2, FJ, hj, hjn, hds2, u2, rfl⟩
      dsimp only [fr2]
      have HST2 := hj
      clear hj
      rcases Nat.lt_or_ge j nW with hjl | hjl
      case inr =>
        obtain rfl : nW = j := by omega
        go_wp2_with fail
        obtain ⟨hk2, hst2⟩ := HST2.out
        have hgl := givess_len hg.out hd' lW
        rw [HNW.out, List.take_length] at hst2
        have hsum := sumH_set hd m h (by rw [← HDM.out]; exact hge) hh2 ns.length hmn
        rw [← HHD.out] at hsum
        have hmul : (sumH hd' ns.length + 1) * (15 * ns.length + 1) ≤ sumH hd ns.length * (15 * ns.length + 1) := Nat.mul_le_mul_right _ hsum
        rw [Nat.add_mul, Nat.one_mul] at hmul
        have hkk2 : k2 ≤ k' + 15 * ns.length := by
          rw [hk2, hst2, List.length_append, ← HK'.out]
          have := HNW.out
          omega
        have hkk := HKK.out
        have hM := HMM.out
        have hwm : (grN ns)[m]? = some (ndP ns[m]) := by rw [List.getElem?_map, List.getElem?_eq_getElem hmn]; rfl
        have hR2 := HR.out.take hg.out.wok (by rw [← HDM.out]; exact hge) _ hwm
        rw [← HHD.out] at hR2
        have hlw : (ndP ns[m]).wakes = lW := by show ns[m].wakes.2.2 = lW; rw [← HWK.out]
        rw [hlw, ← hst2] at hR2
        refine ⟨⟨Ds2, A2, k2, c2, st2, hd', FJ, Lib.hid ⟨hk2, hR2, by omega⟩, hds2, Fr1.of _ _ _ _ _ _ _ _ _ _ _ rfl⟩, ?_⟩
        rw [HMU.out, muW_eq (FJ.o 2 rfl) ((FJ.blk 0 rfl).cell 0)]
        omega
      case inl =>
        have hwk4 : OwnG fi 3 1 W2 AW cW lW := by
          have := (FJ.web (i := i + 4) (by simpa using HI.out)).wak _ (List.mem_map.2 ⟨ns[m], List.getElem_mem hmn, rfl⟩)
          rw [← HWK.out] at this
          exact this
        have hjq : j < lW.length := by rw [← HNW.out]; exact hjl
        obtain ⟨gW, rfl⟩ := hwk4.some' (by omega)
        obtain ⟨x0, hx0⟩ : ∃ x, x = lW[j]'hjq := ⟨_, rfl⟩
        have hc' : W2.cell? ⟨gW, j, none⟩ = some (vi x0) := by
          have q1 := hwk4.cells
          rw [fi_flat] at q1
          have q2 := q1.at j (by simpa using hjq)
          rw [Nat.zero_add] at q2
          rw [q2, hx0]
          simp
        have hxn : x0 < ns.length := by
          have q1 := hg.out.wok.wlt m (by simpa using hmn) x0
          simp only [List.getElem_map, ndP] at q1
          rw [← HWK.out] at q1
          have := q1 (by rw [hx0]; exact List.getElem_mem hjq)
          simpa using this
        have HX0 := Lib.hid hx0
        clear hwk4 hx0
        go_wp2_with (first
          | (with_reducible refine wpList_ran (o := ⟨some 53, _, _, _, _, _⟩) rfl (.pointer (some ⟨gW, j, none⟩)) (exec_ixs80 hjl rfl rfl rfl) ?_)
          | (with_reducible refine wpList_ran (o := ⟨some 54, _, _, _, _, _⟩) rfl (vi x0) (exec_load rfl rfl (run_load1 Tryd.underlying3 rfl hc')) ?_)
          | (go_at_call 86; refine (gives_c FJ wb mh x0).mono ?_
             rintro e w6 ⟨b0, b1, b2, rfl, F6⟩
             clear FJ))
        obtain ⟨Y, hY⟩ : ∃ Y, Y = givesL (grN ns) hd' x0 := ⟨_, rfl⟩
        obtain ⟨n0, hn0⟩ : ∃ q, q = w6.heap.size := ⟨_, rfl⟩
        obtain ⟨hk2, hst2⟩ := HST2.out
        have hYl : Y.length ≤ 3 := by rw [hY]; exact gives_len hg.out hd' x0
        have hk2b : k2 ≤ 200000 + 4000000000 := by
          have q1 := givess_len hg.out hd' (lW.take j)
          have q2 : (lW.take j).length ≤ nW := by rw [List.length_take, HNW.out]; omega
          have q3 := HK'.out
          rw [hst2, List.length_append] at hk2
          have := HB.out
          omega
        have SG : StdG (bs :: blkOf A2) n0 (CG b0 b1 b2 wb mp mh N cap ns T hd' x0) w6 := by
          rw [hn0]
          refine stdG_of F6 3 4 rfl rfl _ fun x hx => ?_
          simp only [List.mem_cons, List.not_mem_nil, or_false] at hx
          rcases hx with rfl | rfl | rfl | rfl | rfl | rfl
          · exact .inr ⟨0, by omega, by omega, rfl⟩
          · exact .inr ⟨1, by omega, by omega, rfl⟩
          · exact .inr ⟨2, by omega, by omega, rfl⟩
          · exact .inr ⟨i + 7, by omega, by omega, by simpa using HI.out⟩
          · exact .inl HN.out
          · exact .inr ⟨5, by omega, by omega, rfl⟩
        have F7 : Fm w0 w6 (oB bs 114 [.slice A2 k2 c2] :: oG A2 c2 st2 :: oB b0 78 [.pointer (some ⟨wb, 0, none⟩)] :: oB b1 3 [vi x0] :: oB b2 83 [.map (some mh)] :: oH mh hd' :: oD Ds2 :: os) ts :=
          F6.perm (List.perm_append_comm_assoc [oB b0 78 [.pointer (some ⟨wb, 0, none⟩)], oB b1 3 [vi x0], oB b2 83 [.map (some mh)]] [oB bs 114 [.slice A2 k2 c2], oG A2 c2 st2] (oH mh hd' :: oD Ds2 :: os))
        obtain ⟨osr, hosr⟩ : ∃ q, q = oB b0 78 [.pointer (some ⟨wb, 0, none⟩)] :: oB b1 3 [vi x0] :: oB b2 83 [.map (some mh)] :: oH mh hd' :: oD Ds2 :: os := ⟨_, rfl⟩
        rw [← hosr] at F7
        have STAT : ∀ x, x ∈ osr ∨ x ∈ ts → ∀ g, x.1 g → g < n0 := fun x hx g hgx => by
          rw [hn0]
          exact (F7.k x (hx.imp_left fun hx => List.mem_cons_of_mem _ (List.mem_cons_of_mem _ hx))).2.2 g hgx
        have hbs0 : bs < n0 := by rw [hn0]; exact (F7.blk 0 rfl).lt
        have hw0n : w0.heap.size ≤ n0 := by rw [hn0]; exact F7.m.size
        refine (wpIn_wide (n := 5)).1 ?_
        refine wpIn_rangeFunc_with (F := Fence.wide) (n := 5) rfl (by omega) (gf := 105) (lb := #[.pointer (some ⟨b0, 0, none⟩), .pointer (some ⟨b1, 0, none⟩), .pointer (some ⟨b2, 0, none⟩)]) rfl trivial (enters_of Tryd.func105 (by kernel_rfl) rfl)
          (gives_with 4 (by omega) (bs :: blkOf A2) n0 b0 b1 b2 wb mp mh N cap ns T hd' x0 hxn hg.out Y hY w6 (by rw [hn0]; exact Nat.le_refl _) SG)
          (fun a b => KeepM.trans a b) (fun W l o o' hl ho h1 _ => ?hKb) (Below.refl _ _) (fun _ => rfl)
          (fun pre W => ∃ (A' : Option Addr) (k' c' : Nat), Fm w0 W (oB bs 114 [.slice A' k' c'] :: oG A' c' (st2 ++ pre) :: osr) ts ∧ k' = st2.length + pre.length ∧ (∀ g ∈ blkOf A', g ∈ blkOf A2 ∨ n0 ≤ g) ∧ n0 ≤ W.heap.size)
          (fun _ _ _ => False)
          (fun s A B row hs hgr hr => ?hI) (fun _ _ _ _ _ hs _ _ => hs.elim) ⟨A2, k2, c2, by simpa using F7, by simpa using hk2, fun g hg => .inl hg, by rw [hn0]; exact Nat.le_refl _⟩
          (fun pre x a' W => ∃ b10, n0 ≤ b10 ∧ Holds W b10 117 (f2 x) ∧ a' = { tmps := #[.pointer (some ⟨wb, 0, none⟩), .slice K len cK, undef, undef, .map none, .map (some mh), .pointer (some ⟨bs, 0, none⟩), u2 7, undef, vi x0, .pointer (some ⟨b10, 0, none⟩), .map (some mh), .pointer (some ⟨wb, 0, none⟩), .slice K len cK, .slice A0 k0 c0, u2 15, u2 16, u2 17, u2 18, u2 19, u2 20, u2 21, u2 22, u2 23, u2 24, u2 25, u2 26, u2 27, u2 28, u2 29, u2 30, u2 31, u2 32, u2 33, u2 34, u2 35, u2 36, u2 37, u2 38, u2 39, u2 40, u2 41, u2 42, u2 43, u2 44, u2 45, u2 46, u2 47, u2 48, .slice (some ⟨gW, 0, none⟩) nW cW, .int .i64 (nW : Int), .int .i64 (j : Int), .bool true, .pointer (some ⟨gW, j, none⟩), vi x0, .pointer (some ⟨wb, 0, none⟩), vi x0, .map (some mh), .func (.func 105) #[] #[.pointer (some ⟨b0, 0, none⟩), .pointer (some ⟨b1, 0, none⟩), .pointer (some ⟨b2, 0, none⟩)], .agg (f2 x).toArray, u2 60, u2 61, u2 62, u2 63, u2 64, u2 65], defers := [] })
          (fun pre x a' s A B row hs hgr hr => ?hAx) ?assign ?body ?done ?stop
        case hKb =>
          exact Mod.keepM (ns := [l]) ⟨rfl, rfl, rfl, by simp [World.putObj], fun k hk hn => World.putObj_heap_other (by simpa using hn)⟩ (fun i hi hlt => by simp at hi; omega)
        case hI =>
          obtain ⟨A', k', c', FA, hk', hbl, hsz⟩ := hs
          have m1 : Mod (row.toList) A B := ⟨hgr.os, hgr.tape, hgr.output, hgr.size, fun k hk hn => hgr.block k hk (fun e => hn (by rw [← e]; simp))⟩
          refine ⟨A', k', c', FA.skip m1 (fun g hgm => ?_) (fun g hgm x hx hxg => ?_), hk', hbl, Nat.le_trans hsz hgr.size⟩
          · cases row with
            | none => simp at hgm
            | some r =>
              simp at hgm
              have := (hr r rfl).1
              omega
          · cases row with
            | none => simp at hgm
            | some r =>
              simp at hgm
              subst hgm
              obtain ⟨q1, o, q2, q3⟩ := hr g rfl
              rcases hx with hx | hx
              · rcases List.mem_cons.1 hx with rfl | hx
                · have : g = bs := hxg
                  omega
                · rcases List.mem_cons.1 hx with rfl | hx
                  · obtain ⟨a', ha', rfl⟩ := mem_blk hxg
                    obtain ⟨cs, hcs⟩ := (FA.o 1 rfl : OwnG f2 117 2 A A' c' (st2 ++ s)).heap a' ha'
                    rw [hcs] at q2
                    cases q2
                    cases q3
                  · have := STAT x (.inl hx) g hxg
                    omega
              · have := STAT x (.inr hx) g hxg
                omega
        case hAx =>
          obtain ⟨b10, q1, q2, q3⟩ := hs
          exact ⟨b10, q1, holds_own q2 hgr (fun r e => (hr r e).2), q3⟩
        case assign =>
          rintro L pre x W Kq ⟨A', k', c', FA, hk', hbl, hsz⟩ hF hKq
          rw [zip_one']
          have hlen2 : (f2 x).length = [vi 0, vi 0].length := rfl
          simp only [List.setIfInBounds_toArray, List.set_cons_succ, List.set_cons_zero]
          gi_wp2_with (first
            | (with_reducible refine wpListIn_allocs (o := ⟨some 10, .alloc 117, _, _, _, _⟩) rfl 117 rfl _ z117' ?_; intro W1 hW1 mW1 zW1
               obtain ⟨b10, hb10⟩ : ∃ q, q = W.heap.size := ⟨_, rfl⟩
               rw [← hb10] at hW1 ⊢
               replace hb10 := Lib.hid hb10
               replace zW1 := Lib.hid zW1)
            | (with_reducible refine wpListIn_storesAll (o := ⟨none, .store 117 (.tmp 10) (.tmp 59), _, _, _, _⟩) rfl 117 (.tmp 10) (.tmp 59) rfl rfl b10 (f2 x) rfl _ rfl rfl 117 _ hW1 hlen2 (f2_one x) (size117' x) ?_
               intro W3 hW3 mW3 zW3))
          have mm : Mod [] W W3 := mW1.trans mW3 (fun i hi hn => by have := hb10.out; simp at hn; omega)
          exact hKq _ _ (mm.keepsFrom _) (mm.keepM (fun _ h => by cases h)) ⟨A', k', c', FA.call mm, hk', hbl, Nat.le_trans hsz mm.size⟩ ⟨b10, by rw [hb10.out]; exact hsz, hW3, rfl⟩
        case body =>
          rintro L pre x a' W hl _ ⟨A', k', c', FA, hk', hbl, hsz⟩ ⟨b10, hB10, hb10, rfl⟩ hlen3
          have hFn : ∀ f, (Fence.wide.inRound L).fn f := fun _ => trivial
          have hcell : W.cell? ⟨bs, 0, none⟩ = some (.slice A' k' c') := (FA.blk 0 rfl).cell 0
          have F1 := FA.call (Mod.alloc [] W (.cells (f2 x).toArray 117))
          obtain ⟨it, i0, i1, i2, i3⟩ := info117
          have hkL : k' = (st2 ++ pre).length := by rw [List.length_append]; exact hk'
          have hHm : Holds (W.alloc (.cells (f2 x).toArray 117)) W.heap.size 117 (f2 x) := Holds.made W 117 (f2 x)
          have hbd : k' ≤ 5000000000 := by omega
          obtain ⟨A3, c3, W3, hap, hO3, m3, hb3⟩ := run_appendG (f := f2) (size := 2) (W.alloc (.cells (f2 x).toArray 117)) 114 114 117 it _ 16 Tryd.underlying114 i0 i1 i2 i3 (by rfl) (by decide) f2_len f2_one A' c' (st2 ++ pre) (F1.o 1 rfl) ⟨W.heap.size, 0, none⟩ 1 [x] (by simpa [f2] using Cells.of_holds hHm) (by rw [← hkL]; simp; omega) (by rw [← hkL]; simp [maxLen]; omega)
          rw [← hkL, List.length_append, ← hkL] at hap
          replace hap : (Builtin.append_ #[114, 114] 114 #[.slice A' k' c', .slice (some ⟨W.heap.size, 0, none⟩) 1 1]).run Tryd.prog (W.alloc (.cells (f2 x).toArray 117)) = .ok (.slice A3 (k' + 1) c3) W3 := hap
          have F3 : Fm w0 W3 (oB bs 114 [.slice A' k' c'] :: oG A3 c3 (st2 ++ pre ++ [x]) :: osr) ts := F1.turn m3 1 rfl (fun g hg => hg) (oG A3 c3 (st2 ++ pre ++ [x])) (keeps_oG _ _ _) hO3 (fun g hg => by
            obtain ⟨a', ha', rfl⟩ := mem_blk hg
            exact ⟨hb3 a' ha', hO3.lt a' ha'⟩)
          have hcell3 : W3.cell? ⟨bs, 0, none⟩ = some (.slice A' k' c') := (F3.blk 0 rfl).cell 0
          have hfree3 : W3.frozen? ⟨bs, 0, none⟩ = false := (F3.blk 0 rfl).free 0
          have F4 : Fm w0 (W3.setCell ⟨bs, 0, none⟩ (.slice A3 (k' + 1) c3)) (oB bs 114 [.slice A3 (k' + 1) c3] :: oG A3 c3 (st2 ++ pre ++ [x]) :: osr) ts := F3.setc 0 rfl 0 _
          have mAll : Mod (bs :: blkOf A') W (W3.setCell ⟨bs, 0, none⟩ (.slice A3 (k' + 1) c3)) := by
            have q1 : Mod (bs :: blkOf A') W W3 := ((Mod.alloc [] W (.cells (f2 x).toArray 117)).wk (fun _ _ h => by cases h)).trans m3 (fun i _ hi => List.mem_cons_of_mem _ hi)
            exact q1.trans (Mod.setCell (ms := [bs]) W3 (by simp) _) (fun i _ hi => by simp at hi; simp [hi])
          have hAh := (FA.o 1 rfl : OwnG f2 117 2 W A' c' (st2 ++ pre)).heap
          have hbh := FA.blk 0 rfl
          have HE := Lib.hid (And.intro F4 (And.intro mAll (And.intro hAh (And.intro hbh (And.intro hb3 (And.intro hbl (And.intro hk' hsz)))))))
          clear F4 mAll hAh hbh hb3 hbl hk' F3 F1 FA m3 hO3 hHm hkL hsz
          dsimp only
          gi_wp2_with (first
            | (with_reducible refine wpListIn_ranW (o := ⟨some 60, _, _, _, _, _⟩) hFn rfl (by with_unfolding_all (intro c hc; cases hc)) (.slice A' k' c') W (exec_load rfl rfl (run_load1 Tryd.underlying114 rfl hcell)) ?_)
            | (with_reducible refine wpListIn_loads (o := ⟨some 61, .load 117 (.tmp 10), _, _, _, _⟩) rfl 117 (.tmp 10) rfl b10 0 (f2 x) rfl (Cells.of_holds hb10) _ Tryd.underlying117 rfl (size117' x) _ rfl ?_)
            | (with_reducible refine wpListIn_ranW (o := ⟨some 62, _, _, _, _, _⟩) hFn rfl (by with_unfolding_all (intro c hc; cases hc)) (.slice (some ⟨W.heap.size, 0, none⟩) 1 1) (W.alloc (.cells (f2 x).toArray 117)) (exec_lit114 rfl rfl) ?_)
            | (with_reducible refine wpListIn_ranW (o := ⟨some 63, _, _, _, _, _⟩) hFn rfl (by with_unfolding_all (intro c hc; cases hc)) (.slice A3 (k' + 1) c3) W3 (exec_append (V := .slice A' k' c') (U := .slice (some ⟨W.heap.size, 0, none⟩) 1 1) rfl rfl rfl hap) ?_)
            | (with_reducible refine wpListIn_stored1 (o := ⟨none, .store 114 (.tmp 6) (.tmp 63), _, _, _, _⟩) rfl 114 (.tmp 6) (.tmp 63) rfl rfl ⟨bs, 0, none⟩ (.slice A3 (k' + 1) c3) (.slice A' k' c') rfl rfl rfl size114 hcell3 hfree3 ?_))
          obtain ⟨F4, mAll, hAh, hbh, hb3, hbl, hk', hsz⟩ := HE.out
          refine ⟨mAll.keepsFromL (fun g hg => ?_) _, mAll.keepM (fun g hg hlt => ?_), A3, k' + 1, c3, by rw [← List.append_assoc]; exact F4, by rw [List.length_append, List.length_singleton]; omega, fun g hg => ?_, Nat.le_trans hsz mAll.size⟩
          · rcases List.mem_cons.1 hg with rfl | hg
            · exact ⟨_, _, _, hbh⟩
            · obtain ⟨a', ha', rfl⟩ := mem_blk hg
              obtain ⟨cs, hcs⟩ := hAh a' ha'
              exact ⟨_, _, _, hcs⟩
          · rcases List.mem_cons.1 hg with rfl | hg
            · exact List.mem_cons_self ..
            · rcases hbl g hg with h' | h'
              · exact List.mem_cons_of_mem _ h'
              · omega
          · obtain ⟨a', ha', rfl⟩ := mem_blk hg
            rcases hb3 a' ha' with h' | h'
            · exact hbl _ h'
            · have := (Mod.alloc [] W (.cells (f2 x).toArray 117)).size
              exact .inr (by omega)
        case done =>
          rintro D xs W hD hxs ⟨A', k', c', FA, hk', hbl, hsz⟩ hDk
          subst hxs
          rw [← hn0] at hD
          have hnD : ∀ y, y ∈ (oB bs 114 [.slice A' k' c'] :: oG A' c' (st2 ++ xs) :: osr) ∨ y ∈ ts → ¬ y.1 D := fun y hy hyD => by
            rcases hy with hy | hy
            · rcases List.mem_cons.1 hy with rfl | hy
              · have : D = bs := hyD
                omega
              · rcases List.mem_cons.1 hy with rfl | hy
                · obtain ⟨a', ha', rfl⟩ := mem_blk hyD
                  obtain ⟨cs, hcs⟩ := (FA.o 1 rfl : OwnG f2 117 2 W A' c' (st2 ++ xs)).heap a' ha'
                  rw [hcs] at hDk
                  cases hDk
                · have := STAT y (.inl hy) D hyD
                  omega
            · have := STAT y (.inr hy) D hyD
              omega
          have FM := FA.marked 6 (Ds := Ds2) (by rw [hosr]; rfl) D hDk (by omega) hnD
          rw [hosr] at FM
          have FN : Fm w0 W (oB bs 114 [.slice A' k' c'] :: oG A' c' (st2 ++ xs) :: oH mh hd' :: oD (D :: Ds2) :: os) ts :=
            FM.sub (.cons_cons _ (.cons_cons _ (.cons _ (.cons _ (.cons _ (List.Sublist.refl _)))))) (fun y hy => hy)
          have hst3 : st2 ++ xs = st' ++ (lW.take (j + 1)).flatMap (givesL (grN ns) hd') := by
            rw [List.take_succ_eq_append_getElem hjq, List.flatMap_append, ← HX0.out, hst2, List.append_assoc, hY]
            simp
          have HE := Lib.hid (And.intro FN (And.intro hst3 hk'))
          have hjb : j + 1 ≤ 60000 := by have := HB.out; omega
          clear FM FN hst3 hk' FA hnD STAT hbl
          go_wp2_with fail
          obtain ⟨FN, hst3, hk'⟩ := HE.out
          exact ⟨⟨D :: Ds2, A', k', c', j + 1, st2 ++ xs, FN, Lib.hid ⟨by rw [List.length_append]; exact hk', hst3⟩, hjl, (fun E hE => by
            rcases List.mem_cons.1 hE with rfl | hE
            · omega
            · exact hds2 E hE), Fr2.of _ _ _ _ _ _ _ _ _ _ _ _ _ _ _ rfl⟩, by simp [intOf]; omega⟩
        case stop =>
          rintro D cd pre W hD _ hf hK
          exact hf.elim
end
section
open Go.RowKit Go.Shelf
set_option linter.unusedVariables false
set_option linter.unusedSimpArgs false
structure X5C where
  A1 : Option Addr
  c1 : Nat
  kids : List Nat
  ns1 : List NdC
  n2 : Nat
  ns2 : List NdC
def S5C (w : World) (b wb mp : Nat) (ct : List Value) (K : List Tm) (t : Tm) (ts0 : List Th) (l2 l5 : Bool) (x : X5C) (v : World) : Prop :=
  if l5 then ∃ N cap T S1, Fm w v [oB b 24 ct, oWN wb mp N cap x.ns2] (tN Any T x.ns2 :: tI Any S1 x.A1 x.kids :: ts0) ∧ Good x.ns2 ∧ numOf (grN x.ns2) x.kids K ∧ tmAt (grN x.ns2) x.n2 = some t ∧ x.ns2.length ≤ 2 * Tm.countAll K + 2 * t.count
  else if l2 then ∃ N cap T S1, Fm w v [oB b 24 ct, oWN wb mp N cap x.ns1] (tI Any S1 x.A1 x.kids :: tN Any T x.ns1 :: ts0) ∧ Good x.ns1 ∧ numOf (grN x.ns1) x.kids K ∧ x.ns1.length ≤ 2 * Tm.countAll K
  else Fm w v [oB b 24 ct, oWN wb mp none 0 []] ts0
theorem S5C.blk {w : World} {b wb mp : Nat} {ct : List Value} {K : List Tm} {t : Tm} {ts0 : List Th} {l2 l5 : Bool} {x : X5C} {v : World} (h : S5C w b wb mp ct K t ts0 l2 l5 x v) : Holds v b 24 ct := by
  unfold S5C at h
  split at h
  · obtain ⟨N, cap, T, S1, F, _⟩ := h
    exact F.blk 0 rfl
  · split at h
    · obtain ⟨N, cap, T, S1, F, _⟩ := h
      exact F.blk 0 rfl
    · exact h.blk 0 rfl
theorem fwE_all {l : List Tm} (h : fwE l = 0) : ∀ t ∈ l, t.right = true := by
  unfold fwE at h
  split at h
  · rename_i h'
    exact fun t ht => List.all_eq_true.1 h' t ht
  · omega
theorem right_ok {t : Tm} (h : t.right = true) : t.ok = true ∧ t.depth ≤ 60 ∧ t.count ≤ 1200 := by
  unfold Tm.right at h
  simp only [Bool.and_eq_true, decide_eq_true_eq] at h
  exact ⟨h.1.1, h.1.2, h.2⟩
theorem rfE_zero {K T : List Tm} (h : rfE K T = 0) : K.length ≤ 500 ∧ (∀ t ∈ K, t.right = true) ∧ ∀ t ∈ T, t.right = true := by
  unfold rfE at h
  split at h
  · omega
  · split at h
    · rename_i h2
      exact ⟨by omega, fwE_all h2, fwE_all h⟩
    · omega
set_option maxRecDepth 1000000 in
set_option maxHeartbeats 4000000 in
theorem can_no (A : Option Addr) (n c : Nat) (vs : List (List Value)) (K : List Tm) (S : Nat → Prop) (ct : List Value) (t : Tm) (St : Nat → Prop) (w : World) (hl : n = K.length) (hR : RowT w S A vs K) (hT : TIs w St t ct) (hS : ∀ g, S g → g < w.heap.size) (hSt : ∀ g, St g → g < w.heap.size) (G : Glob w) (hne : rfE K [t] ≠ 0) :
    Calls Tryd.prog 36 #[.slice A n c, .agg ct.toArray] w fun e w' => e = .returned (.tuple #[.bool false, .int .i64 (rfE K [t])]) ∧ Mod [] w w' := by
  have F0 := ((Fm.nil w).arg (tR Any S A vs K) (keeps_tR _ _ _ _ _) ⟨hR, fun _ _ => trivial⟩ hS).argT hT hSt
  have hc5 := hT.ones.1
  have HL := Lib.hid hl
  have HG := Lib.hid G
  obtain ⟨E, hE⟩ : ∃ E, E = rfE K [t] := ⟨_, rfl⟩
  rw [← hE] at hne ⊢
  have HE := Lib.hid hE
  have hne' : (E != 0) = true := by simpa using hne
  clear hl hR hT hS hSt G hE
  go_enter Tryd.func36, Tryd.ntmps36
  go_wp2_with (first
    | (with_reducible refine fm_box F0 (o := ⟨some 3, .box 24 (.tmp 1), _, _, _, _⟩) rfl 24 (.tmp 1) rfl ct rfl ?_; intro b w1 F1; clear F0)
    | (with_reducible refine fm_load F1 0 rfl (o := ⟨some 11, .load 24 (.tmp 3), _, _, _, _⟩) rfl (.tmp 3) rfl rfl hc5 ?_)
    | (with_reducible refine fm_row1 F1 (F1.mem 0 rfl) Any (fun _ _ => trivial) (fun _ _ => trivial) (o := ⟨some 12, .buildSlice 22 1 #[(0, .tmp 11)], _, _, _, _⟩) rfl (.tmp 11) rfl rfl ?_; intro g Sg w2 F2; clear F1)
    | (go_at_call 59; refine (refused_c A n c vs K S (some ⟨g, 0, none⟩) 1 1 [ct] [t] Sg w2 HL.out rfl (by omega) (F2.s 2 rfl).1 (F2.s 0 rfl).1 (F2.slt 2 rfl) (F2.slt 0 rfl) (F2.glob HG.out)).mono ?_
       rintro e w3 ⟨he, m3⟩
       rw [← HE.out] at he
       subst he
       have F3 := F2.call m3
       clear F2 m3))
  refine bodyPost_ret (results_tmp2 rfl _ _ _) rfl ?_
  exact ⟨rfl, F3.m⟩
set_option maxRecDepth 1000000 in
set_option maxHeartbeats 4000000 in
theorem can_ok (A : Option Addr) (n c : Nat) (vs : List (List Value)) (K : List Tm) (S : Nat → Prop) (ct : List Value) (t : Tm) (St : Nat → Prop) (w : World) (hl : n = K.length) (hR : RowT w S A vs K) (hT : TIs w St t ct) (hS : ∀ g, S g → g < w.heap.size) (hSt : ∀ g, St g → g < w.heap.size) (G : Glob w) (hz : rfE K [t] = 0) (hC : Tm.countAll K + t.count ≤ 4000) :
    Calls Tryd.prog 36 #[.slice A n c, .agg ct.toArray] w fun e w' => ∃ bb, e = .returned (.tuple #[.bool bb, .int .i64 0]) ∧ (bb = true ↔ Tm.Gk K false t) ∧ Mod [] w w' := by
  have F0 := ((Fm.nil w).arg (tR Any S A vs K) (keeps_tR _ _ _ _ _) ⟨hR, fun _ _ => trivial⟩ hS).argT hT hSt
  obtain ⟨k1, k2, k3⟩ := rfE_zero hz
  have hn5 : n ≤ 1000 := by omega
  have HC5 := Lib.hid hT.ones.1
  have HL := Lib.hid hl
  have HGL := Lib.hid G
  have HC := Lib.hid hC
  have HZ := Lib.hid hz
  have HKO : Hid (∀ x ∈ K, x.ok = true) := Lib.hid fun x hx => (right_ok (k2 x hx)).1
  have HTO : Hid (t.ok = true) := Lib.hid (right_ok (k3 t (by simp))).1
  clear hl hR hT hS hSt G hz hC k1 k2 k3
  go_enter Tryd.func36, Tryd.ntmps36
  go_wp2_with (first
    | (with_reducible refine fm_box F0 (o := ⟨some 3, .box 24 (.tmp 1), _, _, _, _⟩) rfl 24 (.tmp 1) rfl ct rfl ?_; intro b w1 F1; clear F0)
    | (with_reducible refine fm_load F1 0 rfl (o := ⟨some 11, .load 24 (.tmp 3), _, _, _, _⟩) rfl (.tmp 3) rfl rfl HC5.out ?_)
    | (with_reducible refine fm_row1 F1 (F1.mem 0 rfl) Any (fun _ _ => trivial) (fun _ _ => trivial) (o := ⟨some 12, .buildSlice 22 1 #[(0, .tmp 11)], _, _, _, _⟩) rfl (.tmp 11) rfl rfl ?_; intro g Sg w2 F2; clear F1)
    | (go_at_call 59; refine (refused_c A n c vs K S (some ⟨g, 0, none⟩) 1 1 [ct] [t] Sg w2 HL.out rfl (by omega) (F2.s 2 rfl).1 (F2.s 0 rfl).1 (F2.slt 2 rfl) (F2.slt 0 rfl) (F2.glob HGL.out)).mono ?_
       rintro e w3 ⟨he, m3⟩
       rw [HZ.out] at he
       subst he
       have F3 := F2.call m3
       clear F2 m3)
    | (go_at_call 60; refine (newWeb_c w3).mono ?_
       rintro e w4 ⟨wb, mp, rfl, FW⟩
       have F4 := F3.own FW.m (oWN wb mp none 0 []) (keeps_oW _ _ _ _ _ _ _ _) (FW.o 0 rfl) (fun g hg => ⟨FW.lo _ (by simp) g hg, (FW.k _ (.inl (by simp))).2.2 g hg⟩)
       clear F3 FW))
  have F4p := F4.perm (os' := [oB b 24 ct, oWN wb mp none 0 []]) (List.Perm.swap _ _ _)
  have F5x := F4p.also (tN Any (fun _ => False) []) (keeps_tN _ _ _) ⟨(fun x hx => by cases hx), fun _ h => h.elim⟩ (fun g (hg : False) => hg.elim)
  obtain ⟨ts0, hts0⟩ : ∃ q, q = tN Any (fun _ => False) [] :: tR Any Sg (some ⟨g, 0, none⟩) [ct] [t] :: tT Any St t ct :: tR Any S A vs K :: [] := ⟨_, rfl⟩
  have HT0 : Hid (tN Any (fun _ => False) [] ∈ ts0) := Lib.hid (by rw [hts0]; simp)
  have HTT : Hid (tT Any St t ct ∈ ts0) := Lib.hid (by rw [hts0]; simp)
  have HR0 : Hid (tR Any S A vs K ∈ ts0) := Lib.hid (by rw [hts0]; simp)
  rw [← hts0] at F5x
  have F6 : Fm w w4.drew [oB b 24 ct, oWN wb mp none 0 []] ts0 := F5x.call (Mod.drew [] w4)
  have HAC : Hid (AllC wb mp K) := Lib.hid (all_of wb mp K fun x hx => add_all wb mp _ x (Nat.le_refl _) (HKO.out x hx))
  have HAD : Hid (AddC wb mp t) := Lib.hid (add_all wb mp _ t (Nat.le_refl _) HTO.out)
  clear F4 F4p F5x hts0
  refine wp_region_upx (X := X5C) (⟨none, 0, [], [], 0, []⟩) (fun x => [(18, .pointer (some ⟨wb, 0, none⟩)), (19, .slice A n c), (20, .slice x.A1 n x.c1), (21, .pointer (some ⟨wb, 0, none⟩)), (22, .agg ct.toArray), (23, vi x.n2), (8, .slice x.A1 n x.c1), (9, vi x.n2)]) 30 [18, 19, 20, 21, 22, 23, 8, 9] rfl (fun _ => rfl) (by decide) (by kernel_rfl) (fun x lz v => S5C w b wb mp ct K t ts0 (lz 2) (lz 5) x v) (by kernel_rfl) (by simpa [S5C] using F6) (by kernel_rfl) (by kernel_rfl) ?_ ?_
  · skip
    intro x lz T v j o hj hlj hdep hst hpar hgot hcl Kq hK
    have hjn : j < 8 := (Array.getElem?_eq_some_iff.1 hj).1
    obtain rfl | rfl | rfl | rfl | rfl | rfl | rfl | rfl : j = 0 ∨ j = 1 ∨ j = 2 ∨ j = 3 ∨ j = 4 ∨ j = 5 ∨ j = 6 ∨ j = 7 := by omega
    all_goals (have hj' := Option.some.inj (hj : some _ = some o); subst hj'; clear hj)
    · exact wp_ran rfl (exec_move rfl (eval_tmp ((hpar 7 rfl).trans rfl))) (hK x _ _ (fun _ _ _ _ _ _ => rfl) (fun s hs => by cases hs; rfl) (by simpa using hst))
    · exact wp_ran rfl (exec_move rfl (eval_tmp ((hpar 0 rfl).trans rfl))) (hK x _ _ (fun _ _ _ _ _ _ => rfl) (fun s hs => by cases hs; rfl) (by simpa using hst))
    · have l5 : lz 5 = false := (by cases hh : lz 5 with | false => rfl | true => exact absurd (hcl 5 _ rfl hh ⟨2, .chain⟩ (by simp) rfl) (by rw [hlj]; simp))
      have lq : lz 6 = false := (by cases hh : lz 6 with | false => rfl | true => exact absurd (hcl 6 _ rfl hh ⟨2, .data⟩ (by simp) rfl) (by rw [hlj]; simp))
      have hst2 : Fm w v [oB b 24 ct, oWN wb mp none 0 []] ts0 := by simpa [S5C, hlj, l5] using hst
      refine wp_called rfl (exec_call2 rfl rfl (eval_tmp (hgot 0 _ 18 rfl (hdep ⟨0, .data⟩ (by simp) rfl) rfl)) (eval_tmp (hgot 1 _ 19 rfl (hdep ⟨1, .data⟩ (by simp) rfl) rfl)) (enters_of Tryd.func61 (by kernel_rfl) rfl)) ((HAC.out w v _ _ 1 none 0 [] (fun _ => False) S A n c vs hst2 rfl HT0.out Good.none HR0.out HGL.out HL.out hn5 (by simp; have := HC.out; omega)).mono ?_)
      rintro e v' ⟨ns1, kids, A1, c1, S1, rfl, hc1, ⟨N1, cap1, T1, F1, q1, q2, q3⟩, q4⟩
      refine ⟨_, rfl, hK ⟨A1, c1, kids, ns1, x.n2, x.ns2⟩ _ _ (fun j' o' s' g1 g2 g3 => by
          have g4 : j' < 8 := (Array.getElem?_eq_some_iff.1 g1).1
          clear hpar hgot hdep hK
          obtain rfl | rfl | rfl | rfl | rfl | rfl | rfl | rfl : j' = 0 ∨ j' = 1 ∨ j' = 2 ∨ j' = 3 ∨ j' = 4 ∨ j' = 5 ∨ j' = 6 ∨ j' = 7 := by omega
          all_goals (cases g1; cases g3 <;> first | rfl | (rw [hlj] at g2; cases g2) | (rw [lq] at g2; cases g2))) (fun s hs => by cases hs; rfl) ?_⟩
      have hst3 : ∃ N cap T S1, Fm w v' [oB b 24 ct, oWN wb mp N cap ns1] (tI Any S1 A1 kids :: tN Any T ns1 :: ts0) ∧ Good ns1 ∧ numOf (grN ns1) kids K ∧ ns1.length ≤ 2 * Tm.countAll K := ⟨N1, cap1, T1, S1, F1, q1, q4, by have := q3.1; simp at this; omega⟩
      simpa [S5C, l5] using hst3
    · exact wp_ran rfl (exec_move rfl (eval_tmp ((hpar 7 rfl).trans rfl))) (hK x _ _ (fun _ _ _ _ _ _ => rfl) (fun s hs => by cases hs; rfl) (by simpa using hst))
    · exact wp_ran rfl (exec_load rfl (eval_tmp ((hpar 3 rfl).trans rfl)) (run_loads (Cells.of_holds hst.blk) Tryd.underlying24 rfl (size24' HC5.out))) (hK x _ _ (fun _ _ _ _ _ _ => rfl) (fun s hs => by cases hs; rfl) (by simpa using hst))
    · have t2 : lz 2 = true := (hdep ⟨2, .chain⟩ (by simp) rfl)
      have lq : lz 7 = false := (by cases hh : lz 7 with | false => rfl | true => exact absurd (hcl 7 _ rfl hh ⟨5, .data⟩ (by simp) rfl) (by rw [hlj]; simp))
      have hst2 : ∃ N cap T S1, Fm w v [oB b 24 ct, oWN wb mp N cap x.ns1] (tI Any S1 x.A1 x.kids :: tN Any T x.ns1 :: ts0) ∧ Good x.ns1 ∧ numOf (grN x.ns1) x.kids K ∧ x.ns1.length ≤ 2 * Tm.countAll K := by simpa [S5C, hlj, t2] using hst
      obtain ⟨N1, cap1, T1, S1, F1, q1, q2, q3⟩ := hst2
      refine wp_called rfl (exec_call2 rfl rfl (eval_tmp (hgot 3 _ 21 rfl (hdep ⟨3, .data⟩ (by simp) rfl) rfl)) (eval_tmp (hgot 4 _ 22 rfl (hdep ⟨4, .data⟩ (by simp) rfl) rfl)) (enters_of Tryd.func62 (by kernel_rfl) rfl)) ((HAD.out w v _ _ 1 N1 cap1 x.ns1 T1 St ct F1 rfl (F1.mem 1 rfl) q1 (List.mem_cons_of_mem _ (List.mem_cons_of_mem _ HTT.out)) HGL.out (by have := HC.out; omega)).mono ?_)
      rintro e v' ⟨ns2, n2, rfl, ⟨N2, cap2, T2, F2, p1, p2, p3⟩, p4⟩
      refine ⟨_, rfl, hK ⟨x.A1, x.c1, x.kids, x.ns1, n2, ns2⟩ _ _ (fun j' o' s' g1 g2 g3 => by
          have g4 : j' < 8 := (Array.getElem?_eq_some_iff.1 g1).1
          clear hpar hgot hdep hK
          obtain rfl | rfl | rfl | rfl | rfl | rfl | rfl | rfl : j' = 0 ∨ j' = 1 ∨ j' = 2 ∨ j' = 3 ∨ j' = 4 ∨ j' = 5 ∨ j' = 6 ∨ j' = 7 := by omega
          all_goals (cases g1; cases g3 <;> first | rfl | (rw [hlj] at g2; cases g2) | (rw [lq] at g2; cases g2))) (fun s hs => by cases hs; rfl) ?_⟩
      have hst3 : ∃ N cap T S1, Fm w v' [oB b 24 ct, oWN wb mp N cap ns2] (tN Any T ns2 :: tI Any S1 x.A1 x.kids :: ts0) ∧ Good ns2 ∧ numOf (grN ns2) x.kids K ∧ tmAt (grN ns2) n2 = some t ∧ ns2.length ≤ 2 * Tm.countAll K + 2 * t.count := ⟨N2, cap2, T2, S1, F2.sub (List.Sublist.refl _) (fun y hy => by
        simp only [List.mem_cons] at hy
        simp only [List.nil_append, List.mem_cons]
        rcases hy with h | h | h
        · exact .inl h
        · exact .inr (.inl h)
        · exact .inr (.inr (.inr h))), p1, p2.num q2, p4, by have := p3.1; omega⟩
      simpa [S5C] using hst3
    · exact wp_ran rfl (exec_assign rfl (eval_tmp (hgot 2 _ 20 rfl (hdep ⟨2, .data⟩ (by simp) rfl) rfl))) (hK x _ _ (fun _ _ _ _ _ _ => rfl) (fun s hs => by cases hs; rfl) (by simpa using hst))
    · exact wp_ran rfl (exec_assign rfl (eval_tmp (hgot 5 _ 23 rfl (hdep ⟨5, .data⟩ (by simp) rfl) rfl))) (hK x _ _ (fun _ _ _ _ _ _ => rfl) (fun s hs => by cases hs; rfl) (by simpa using hst))
  intro x lz v hlz hst
  have hst2 : ∃ N cap T S1, Fm w v [oB b 24 ct, oWN wb mp N cap x.ns2] (tN Any T x.ns2 :: tI Any S1 x.A1 x.kids :: ts0) ∧ Good x.ns2 ∧ numOf (grN x.ns2) x.kids K ∧ tmAt (grN x.ns2) x.n2 = some t ∧ x.ns2.length ≤ 2 * Tm.countAll K + 2 * t.count := by simpa [S5C, hlz 5 (by decide)] using hst
  obtain ⟨N2, cap2, T2, S1, F7, q1, q2, q3, q4⟩ := hst2
  obtain ⟨A1, c1, kids, ns1, n2, ns2⟩ := x
  dsimp only at F7 q1 q2 q3 q4
  clear hst hlz
  simp only [setAll, Act.put, List.foldl_cons, List.foldl_nil, List.setIfInBounds_toArray, List.set_cons_succ, List.set_cons_zero]
  obtain ⟨ln, hln⟩ : ∃ q, q = kids.length := ⟨_, rfl⟩
  have hkl := numOf_get q2
  have HKL : Hid (n = kids.length) := Lib.hid (by rw [hkl]; exact HL.out)
  have HQ := Lib.hid (And.intro q1 (And.intro q2 (And.intro q3 (show ns2.length ≤ 10000 from (by have := HC.out; omega)))))
  have RC := reckoned_c F7 (i := 1) rfl (F7.mem 0 rfl) q1 HQ.out.2.2.2 (F7.mem 1 rfl) n c1 HKL.out (by omega) K q2
  clear q1 q2 q3 q4 hkl hln
  go_wp2_with fail
  refine RC.mono ?_
  rintro e w8 ⟨mh, hd, rfl, F8, hRun⟩
  clear F7
  obtain ⟨hn2, hhn2⟩ : ∃ q, q = hd n2 := ⟨_, rfl⟩
  have HN2 := Lib.hid hhn2
  have HRun := Lib.hid hRun
  obtain ⟨bb, hbb⟩ : ∃ q, q = decide ((1 : Int) ≤ (hn2 : Int)) := ⟨_, rfl⟩
  have HBB := Lib.hid hbb
  clear hRun hhn2
  go_wp2_with (first
    | (with_reducible refine wpList_ran (o := ⟨some 28, _, _, _, _, _⟩) rfl (vi hn2) (exec_lookup (LKF F8 0 rfl n2 hn2 HN2.out) rfl rfl rfl) ?_)
    | (with_reducible refine wpList_ran (o := ⟨some 29, _, _, _, _, _⟩) rfl (.bool bb) (exec_geq hbb.symm rfl rfl rfl) ?_))
  refine bodyPost_ret (results_tmp2 rfl _ _ _) rfl ?_
  refine ⟨decide ((1 : Int) ≤ (hn2 : Int)), rfl, ?_, F8.m⟩
  have ht := HRun.out.tells HQ.out.1.wok HQ.out.2.1 HQ.out.2.2.1
  rw [← ht, ← HN2.out]
  simp only [decide_eq_true_eq]
  omega
end
end Go.Proofs.YtchanildogjhgaaDoor

