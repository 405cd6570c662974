/-
  inOrder. My own work.
-/
import Derived.Test.YtchanildogjhgaaDoorPb
namespace Go.Proofs.YtchanildogjhgaaDoor
section
open Go.RowKit Go.Shelf
set_option linter.unusedVariables false
set_option linter.unusedSimpArgs false
theorem Fm.moreT {w0 w : World} {os ts : List Th} {L T S : Nat → Prop} {l : List Tm} {zs : List Q5} {t : Tm} {cs : List Value} (F : Fm w0 w os ts) (hl : tLs L T l zs ∈ ts) (ht : tT L S t cs ∈ ts) (h5 : cs.length = 5 ∧ ∀ v ∈ cs, v.oneCell' = true) : Fm w0 w os (tLs L (fun g => T g ∨ S g) (l ++ [t]) (zs ++ [⟨cs, h5⟩]) :: ts) := by
  obtain ⟨_, ⟨q1, q2, q3⟩, _⟩ := F.k _ (.inr hl)
  obtain ⟨_, ⟨p1, p2⟩, _⟩ := F.k _ (.inr ht)
  refine F.also _ (keeps_tLs _ _ _ _) ⟨by simp [q1], fun i h h' => ?_, fun g hg => hg.elim (q3 g) (p2 g)⟩ (fun g hg => hg.elim (fun h => ⟨_, hl, h⟩) (fun h => ⟨_, ht, h⟩))
  by_cases hi : i < l.length
  · rw [List.getElem_append_left hi, List.getElem_append_left (by omega)]
    exact (q2 i hi (by omega)).mono fun g hg => .inl hg
  · have e : i = l.length := by simp at h; omega
    subst e
    simp only [List.getElem_append_right (Nat.le_refl _), Nat.sub_self, List.getElem_cons_zero]
    rw [List.getElem_append_right (by omega)]
    simp only [q1, Nat.sub_self, List.getElem_cons_zero]
    exact p1.mono fun g hg => .inr hg
set_option maxRecDepth 1000000 in
set_option maxHeartbeats 4000000 in
theorem inOrder_c (A : Option Addr) (n c : Nat) (vs : List (List Value)) (L : List Tm) (S : Nat → Prop) (w : World) (hl : n = L.length) (hb : n ≤ 1000000) (hR : RowT w S A vs L) (hS : ∀ g, S g → g < w.heap.size) (G : Glob w) (hr : ∀ t ∈ L, t.right = true) :
    Calls Tryd.prog 89 #[.slice A n c] w fun e w' => ∃ R vs' l, e = .returned (.slice (some ⟨R, 0, none⟩) n n) ∧ l.Perm L ∧ UpT l ∧ RowT w' (Btw w.heap.size w'.heap.size) (some ⟨R, 0, none⟩) vs' l ∧ Mod [] w w' := by
  have F0 := ((Fm.nil w).arg (tR Any S A vs L) (keeps_tR _ _ _ _ _) ⟨hR, fun _ _ => trivial⟩ hS).also (tBs Any []) (keeps_tBs _ _) ⟨fun x hx => by simp at hx, fun _ _ => trivial⟩ (fun g hg => by obtain ⟨x, hx, _⟩ := hg; simp at hx)
  have HL := Lib.hid hl
  have HG := Lib.hid G
  have HR := Lib.hid hr
  obtain ⟨i0, i1, i2, i3, i4⟩ := info62
  have HI := Lib.hid (And.intro i1 (And.intro i2 (And.intro i3 i4)))
  obtain ⟨j0, j1, j2, j3, j4⟩ := info24
  have HJ := Lib.hid (And.intro j1 (And.intro j2 (And.intro j3 j4)))
  have hm1 : 24 * n ≤ 281474976710656 := by omega
  have hm2 : 64 * n ≤ 281474976710656 := by omega
  have hm3 : n ≤ 9223372036854775807 := by omega
  clear i1 i2 i3 i4 j1 j2 j3 j4 hl hR hS G hr
  go_enter Tryd.func89, Tryd.ntmps89
  go_wp2_with (first
    | (with_reducible refine fm_makeS F0 (o := ⟨some 11, .makeSlice 139 (.tmp 10) (.tmp 10), _, _, _, _⟩) rfl 139 (.tmp 10) (.tmp 10) rfl 62 i0 _ 1 24 n Tryd.underlying139 HI.out.1 HI.out.2.1 HI.out.2.2.1 HI.out.2.2.2 rfl rfl hm1 hm3 ?_
       intro R1 w1 cs hcs F1
       clear F0))
  have HC := Lib.hid hcs
  clear hcs
  go_loopw [14] (fun iv wr => ∃ (j : Nat) (xs : List RB) (rest : List Value), iv = .int .i64 j ∧ j ≤ n ∧ xs.length = j ∧ rest.length = n - j ∧ xs.map (·.l) = (L.take j).map Tm.bytes ∧ Fm w wr [oB R1 62 (xs.map rbv ++ rest)] [tBs Any xs, tR Any S A vs L]) (fun iv _ => n - (intOf iv).toNat)
  case atStart => exact ⟨0, [], cs, rfl, by omega, rfl, by rw [HC.out]; simp, rfl, by simpa using F1⟩
  case round =>
  obtain ⟨j, xs, rest, rfl, hj, hxl, hrl, hxb, FJ⟩ := hrel
  by_cases hjl : j < n
  case pos =>
    have hjq : j < L.length := by rw [← HL.out]; exact hjl
    obtain ⟨g, q, cj, rfl, h5, h1, F2⟩ := FJ.elemR (FJ.mem 1 rfl) j hjq
    have hcj : cj.length = 5 ∧ ∀ v ∈ cj, v.oneCell' = true := ⟨h5, h1⟩
    replace F2 := F2.eT (F2.mem 0 rfl)
    clear h5 h1 FJ
    have hrj := HR.out (L[j]'hjq) (List.getElem_mem hjq)
    obtain ⟨tj, htj⟩ : ∃ t, t = L[j]'hjq := ⟨_, rfl⟩
    rw [← htj] at F2 hrj
    have HT := Lib.hid htj
    have HX := Lib.hid (And.intro hxl (And.intro hrl hxb))
    have hlt : j < (xs.map rbv ++ rest).length := by simp; omega
    obtain ⟨nb, hnb⟩ : ∃ q, q = tj.bytes.length := ⟨_, rfl⟩
    have EN := fun (w5 : World) (os5 ts5 : List Th) (F5 : Fm w w5 os5 (tT Any S tj cj :: ts5)) => encode_yes tj cj _ w5 (F5.ist (F5.mem 0 rfl)) (F5.ltm (F5.mem 0 rfl)) (F5.glob HG.out) hrj
    have HN := Lib.hid hnb
    rw [← hnb] at EN
    clear htj hxl hrl hxb hnb
    go_wp2_with (first
      | (with_reducible refine wpList_ran (o := ⟨some 17, _, _, _, _, _⟩) rfl (.pointer (some ⟨g, q + j * 5, none⟩)) (exec_ixs Tryd.underlying22 size24 hjl rfl rfl rfl) ?_)
      | (with_reducible refine fm_loadE F2 (F2.mem 1 rfl) (o := ⟨some 18, .load 24 (.tmp 17), _, _, _, _⟩) rfl (.tmp 17) rfl rfl hcj.1 ?_)
      | (with_reducible refine fm_alloc F2 (o := ⟨some 5, .alloc 24, _, _, _, _⟩) rfl 24 rfl _ zero24 ?_; intro b3 w3 F3; clear F2)
      | (with_reducible refine fm_store F3 0 rfl (o := ⟨none, .store 24 (.tmp 5) (.tmp 18), _, _, _, _⟩) rfl (.tmp 5) (.tmp 18) rfl rfl (cj) rfl rfl hcj.1 (tmc_len _ _ _ _ _ _ _) hcj.2 ?_; intro w4 F4; clear F3)
      | (with_reducible refine fm_load F4 0 rfl (o := ⟨some 22, .load 24 (.tmp 5), _, _, _, _⟩) rfl (.tmp 5) rfl rfl hcj.1 ?_)
      | (go_at_call 50; refine (EN w4 _ _ F4).mono ?_
         rintro e w5 ⟨A5, c5, rfl, hM⟩
         have F5 := F4.moreB (F4.mem 2 rfl) hM
         clear F4 hM EN)
      | (with_reducible refine fm_store1 F5 1 j rfl hlt 62 (.slice A5 nb c5) rfl size62 (o := ⟨none, .store 62 (.tmp 26) (.tmp 24), _, _, _, _⟩) rfl (.tmp 26) (.tmp 24) rfl rfl rfl rfl ?_; intro w6 F6; clear F5))
    obtain ⟨q1, q2, q3⟩ := HX.out
    have hsn := set_next (d := xs.map rbv) (r := rest) (v := rbv ⟨A5, c5, tj.bytes⟩) (by simpa using q1) q2 hjl
    have e1 : Value.slice A5 nb c5 = rbv ⟨A5, c5, tj.bytes⟩ := by rw [HN.out]; rfl
    have F7 := F6.sub (os' := [oB R1 62 ((xs.map rbv ++ rest).set j (.slice A5 nb c5))]) (ts' := [tBs Any (xs ++ [⟨A5, c5, tj.bytes⟩]), tR Any S (some ⟨g, q, none⟩) vs L]) (by simp) (fun y hy => by
      simp only [List.mem_cons, List.not_mem_nil, or_false] at hy
      rcases hy with h | h <;> simp [h])
    rw [e1, hsn.1] at F7
    exact ⟨⟨j + 1, xs ++ [⟨A5, c5, tj.bytes⟩], rest.drop 1, by go_num, by omega, by simp [q1], hsn.2, by rw [List.map_append, q3, List.take_succ_eq_append_getElem hjq, List.map_append, HT.out]; rfl, by rw [List.map_append]; exact F7⟩, by simp [intOf]; omega⟩
  case neg =>
  obtain rfl : n = j := by omega
  have hre : rest = [] := List.eq_nil_of_length_eq_zero (by omega)
  subst hre
  rw [List.append_nil] at FJ
  rw [HL.out, List.take_length] at hxb
  have hst : ∀ x ∈ xs, StandB wr R1 x := fun x hx => by
    refine ⟨(FJ.s 0 rfl).1 x hx, fun a ha => ⟨fun e => ?_, FJ.ltm (FJ.mem 0 rfl) _ ⟨x, hx, a, ha, rfl⟩⟩⟩
    exact FJ.out (i := 0) rfl R1 rfl 0 rfl ⟨x, hx, a, ha, e⟩
  have SO := sortB_c R1 n n 62 xs wr hxl.symm hb (FJ.blk 0 rfl) hst
  have HX := Lib.hid (And.intro hxl hxb)
  clear hrl hxl hxb hst
  go_wp2_with (first
    | (go_at_call 107; refine SO.mono ?_
       rintro e w2 ⟨rfl, ys, hp, hu, hys, m2⟩
       have F2 := FJ.turn m2 0 rfl (fun g hg => List.mem_singleton.1 hg) (oB R1 62 (ys.map rbv)) (keeps_oB _ _ _) hys fun g hg => ⟨.inl hg, by have : g = R1 := hg; have := hys.lt; omega⟩
       have HO := Lib.hid (ordered HR.out HX.out.2 hp hu)
       have HP := Lib.hid hp
       clear FJ hys m2 hu hp)
    | (with_reducible refine fm_makeS F2 (o := ⟨some 32, .makeSlice 22 (.tmp 31) (.tmp 31), _, _, _, _⟩) rfl 22 (.tmp 31) (.tmp 31) rfl 24 j0 _ 5 64 n Tryd.underlying22 HJ.out.1 HJ.out.2.1 HJ.out.2.2.1 HJ.out.2.2.2 rfl rfl hm2 hm3 ?_
       intro R2 w3 cs2 hcs2 F3
       clear F2))
  have HC2 := Lib.hid hcs2
  obtain ⟨l, hlp, hlu, hlb⟩ := HO.out
  have HLN : Hid (n = l.length) := Lib.hid (by rw [hlp.length_eq]; exact HL.out)
  have HLB := Lib.hid hlb
  have HLR : Hid (∀ t ∈ l, t.right = true) := Lib.hid fun t ht => HR.out t (hlp.mem_iff.1 ht)
  have HLU := Lib.hid (And.intro hlp hlu)
  have F4 : Fm w w3 [oB R2 24 cs2, oB R1 62 (ys.map rbv)] [tBs Any xs, tR Any S A vs L] := F3
  clear hcs2 hlp hlu hlb HO F3
  go_loopw [35] (fun iv wr => ∃ (j : Nat) (zs : List Q5) (rest : List Value) (T : Nat → Prop), iv = .int .i64 j ∧ j ≤ n ∧ zs.length = j ∧ rest.length = (n - j) * 5 ∧ Fm w wr [oB R2 24 (zs.flatMap f5 ++ rest), oB R1 62 (ys.map rbv)] [tLs (Up w.heap.size) T (l.take j) zs, tBs Any xs]) (fun iv _ => n - (intOf iv).toNat)
  case atStart => exact ⟨0, [], cs2, fun _ => False, rfl, by omega, rfl, by rw [HC2.out]; simp, (F4.sub (ts' := [tBs Any xs]) (List.Sublist.refl _) (fun y hy => by simp at hy; simp [hy])).also _ (keeps_tLs _ _ _ _) ⟨rfl, fun i h => by simp at h, fun _ h => h.elim⟩ fun _ h => h.elim⟩
  case round =>
  obtain ⟨j, zs, rest, T, rfl, hj, hzl, hrl, FJ⟩ := hrel
  by_cases hjl : j < n
  case pos =>
    have hjq : j < l.length := by rw [← HLN.out]; exact hjl
    have hjy : j < ys.length := by have := congrArg List.length HLB.out; simp at this; omega
    have hrj := HLR.out (l[j]'hjq) (List.getElem_mem hjq)
    obtain ⟨tj, htj⟩ : ∃ t, t = l[j]'hjq := ⟨_, rfl⟩
    obtain ⟨y, hy⟩ : ∃ y, y = ys[j]'hjy := ⟨_, rfl⟩
    have hyl : y.l = tj.bytes := by
      have := congrArg (fun q : List (List UInt8) => q[j]?) HLB.out
      simpa [hjy, hjq, ← hy, ← htj] using this
    rw [← htj] at hrj
    have hyx : y ∈ xs := HP.out.mem_iff.1 (by rw [hy]; exact List.getElem_mem hjy)
    have hyj : (ys.map rbv)[j]? = some (.slice y.A y.l.length y.c) := by rw [List.getElem?_map, List.getElem?_eq_getElem hjy, ← hy]; rfl
    obtain ⟨nb, hnb⟩ : ∃ q, q = y.l.length := ⟨_, rfl⟩
    rw [← hnb] at hyj
    have hdec : Tm.dec 60 y.l 0 = .ok (tj, [], 0 + tj.count) := by
      have := (back_again hrj []).1
      rw [List.append_nil] at this
      rw [hyl]; exact this
    have DE := fun (w5 : World) (os5 ts5 : List Th) (F5 : Fm w w5 os5 (tLs (Up w.heap.size) T (l.take j) zs :: tBs Any xs :: ts5)) => decode_yes y.A y.l [] tj _ nb y.c nb w5 hnb (by have := right_len hrj; rw [hyl]; omega) ((F5.s 1 rfl).1 y hyx) (F5.glob HG.out) hdec (by simp)
    have HT := Lib.hid htj
    have HX := Lib.hid (And.intro hzl hrl)
    have hlt : j * 5 + 5 ≤ (zs.flatMap f5 ++ rest).length := by
      have hf : (zs.flatMap f5).length = j * 5 := by
        have : ∀ d : List Q5, (d.flatMap f5).length = d.length * 5 := fun d => by
          induction d with
          | nil => rfl
          | cons x d ih => rw [List.flatMap_cons, List.length_append, ih, f5_len, List.length_cons]; omega
        rw [this, hzl]
      rw [List.length_append, hf, hrl]
      omega
    clear htj hzl hrl hnb hdec hrj hyl hy
    go_wp2_with (first
      | (with_reducible refine fm_load1 FJ 1 j rfl (.slice y.A nb y.c) hyj (o := ⟨some 39, _, _, _, _, _⟩) rfl 62 (.tmp 38) rfl rfl (fun h => run_load1 Tryd.underlying62 rfl h) ?_)
      | (go_at_call 51; refine (DE _ _ _ FJ).mono ?_
         rintro e w5 ⟨cs5, rfl, hT5, m5⟩
         have h5 := hT5.ones
         have F5 := FJ.made m5 hT5
         clear FJ hT5 m5 DE)
      | (with_reducible refine fm_storeAt F5 0 (j * 5) rfl hlt (o := ⟨none, .store 24 (.tmp 48) (.tmp 45), _, _, _, _⟩) rfl (.tmp 48) (.tmp 45) rfl rfl cs5 rfl rfl h5.1 h5.2 ?_; intro w6 F6; clear F5))
    obtain ⟨q1, q2⟩ := HX.out
    have hsn := store_next (cs := cs5) q1 q2 hjl ⟨cs5, h5⟩ rfl
    have F7 := (F6.moreT (F6.mem 1 rfl) (F6.mem 0 rfl) h5).sub (os' := [oB R2 24 ((zs.flatMap f5 ++ rest).take (j * 5) ++ cs5 ++ (zs.flatMap f5 ++ rest).drop (j * 5 + 5)), oB R1 62 (ys.map rbv)]) (ts' := [tLs (Up w.heap.size) _ (l.take j ++ [tj]) (zs ++ [⟨cs5, h5⟩]), tBs Any xs]) (by simp) (fun y hy => by
      simp only [List.mem_cons, List.not_mem_nil, or_false] at hy
      rcases hy with h | h
      · rw [h]; exact List.mem_cons_self ..
      · simp [h])
    rw [hsn.1, HT.out, List.take_append_getElem hjq] at F7
    exact ⟨⟨j + 1, zs ++ [⟨cs5, h5⟩], rest.drop 5, _, by go_num, by omega, by simp [q1], hsn.2, F7⟩, by simp [intOf]; omega⟩
  case neg =>
  obtain rfl : n = j := by omega
  have hre : rest = [] := List.eq_nil_of_length_eq_zero (by omega)
  subst hre
  rw [List.append_nil] at FJ
  go_wp2_with fail
  go_ret
  obtain ⟨q1, q2, q3⟩ := FJ.s 0 rfl
  have q4 := FJ.slt 0 rfl
  have q5 := FJ.blk 0 rfl
  have q6 : w.heap.size ≤ R2 := FJ.lo (oB R2 24 (zs.flatMap f5)) (List.mem_cons_self ..) R2 rfl
  have e1 : l.take n = l := by rw [HLN.out, List.take_length]
  have e2 : zs.length = l.length := by rw [hzl]; exact HLN.out
  refine ⟨R2, zs.map (·.1), l, rfl, HLU.out.1, HLU.out.2, ⟨fun a ha _ => ?_, by rw [List.length_map, e2], fun v hv => ?_, ?_, fun i h1 h2 => ?_⟩, FJ.m⟩
  · cases ha; exact ⟨q6, q5.lt⟩
  · obtain ⟨x, _, rfl⟩ := List.mem_map.1 hv
    exact x.2.1
  · rw [f5_flat]; exact Cells.of_holds q5
  · have h3 := q2 i (by rw [e1]; exact h1) (by omega)
    simp only [e1] at h3
    simp only [List.getElem_map]
    exact h3.mono fun g hg => ⟨q3 g hg, q4 g hg⟩
end
end Go.Proofs.YtchanildogjhgaaDoor

