/-
  My own texts Wsd, one behind the other.
-/
import Derived.Test.YtcoedhemlghjoaaDoorBt
namespace Go.Proofs.YtcoedhemlghjoaaDoor
section
open Go.RowKit Go.Shelf
attribute [local go_sem] Oper.semAt_some
/-- How a book stands in memory whose entries are these. -/
def SaidAt (B : Nat) (w : World) (st cm : Value) : List (List UInt8) → Prop
  | [] => st = .slice none 0 0 ∧ cm = .slice none 0 0
  | x :: xs => ∃ (p : Option Addr × Nat × Nat) (C : Option Addr) (ck k : Nat) (L : List (Option Addr × Nat × Nat)), st = .slice p.1 p.2.1 p.2.2 ∧ Ent B w p x ∧ cm = .slice C k ck ∧ k = L.length ∧ OwnG sl 34 1 w C ck L ∧ Ents B w L xs ∧ (∀ z, C = some z → B ≤ z.block)
theorem zero3 : ∀ w, (zeroValue 3).run Tryd.prog w = .ok (.int .i64 0) w := (zero_of_info (n := 1) (by kernel_rfl)).1
theorem zero103 : ∀ w, (zeroValue 66).run Tryd.prog w = .ok (.slice none 0 0) w := (zero_of_info (n := 1) (by kernel_rfl)).1
theorem exec_ixs {P : Program} {v : World} {o : Oper} {ρ : Operand → Value} {t e : TypeId} {n c g f z : Nat} {x y : Operand} {i : Nat} (hu : P.underlying t = some (.slice e)) (he : (P.info? e).map (·.size) = some z) (hi : i < n) (ho : o.op = .indexAddr t x y) (hx : ρ x = .slice (some ⟨g, f, none⟩) n c) (hy : ρ y = .int .i64 (i : Int)) :
    (execOp ρ o).run P v = .ok (.value (.pointer (some ⟨g, f + i * z, none⟩))) v := by
  unfold execOp
  cases hq : P.info? e with
  | none => rw [hq] at he; cases he
  | some it =>
    have hs : it.size = z := by rw [hq] at he; simpa using he
    simp [ho, hx, hy, Instr.indexAt, Sem.run_bind, run_underlying hu, go_sem, sizeOf, typeInfo, hq, hs, hi, add_plain]
/-- How far a book has come. -/
def endAt (b : Nat) (W : World) : Nat := (intOf ((W.cell? ⟨b, 4, none⟩).getD undef)).toNat
theorem endAt_kc {b T t : Nat} {a : Int} {st cm : Value} {e : Nat} {W : World} (h : Holds W b T (kc t a st cm (e : Int))) : endAt b W = e := by
  have := (kc_cells (Cells.of_holds h)).2.2.2.2
  unfold endAt
  rw [Nat.zero_add] at this
  rw [this]
  simp [intOf]
/-- How things stand at the head of the loop. -/
structure SL (c s : List UInt32) (t a x : Nat) (F : List Blk) (w w4 : World) (b : Nat) (Ds : List Nat) (e : Nat) (st cm : Value) (ents : List (List UInt8)) (n : Nat) (W : World) : Prop where
  hb : Holds W b 50 (kc t (a : Int) st cm (e : Int))
  he : e ≤ a
  sa : SaidAt w4.heap.size W st cm ents
  e0 : ents = [] → e = 0
  e1 : ents ≠ [] → 0 < e
  el : ents.length ≤ e
  hn : F.length - e ≤ n
  eq : saidB c s t F = saidN c s t F n ents e
  m0 : Mod [] w W
  m4 : Mod [b] w4 W
  mks : Marks Ds W
  ds : ∀ D ∈ Ds, w4.heap.size ≤ D
theorem SaidAt.keep {B : Nat} {w v : World} {st cm : Value} {ents : List (List UInt8)} (h : SaidAt B w st cm ents) (m : Mod [] w v) : SaidAt B v st cm ents := by
  cases ents with
  | nil => exact h
  | cons y ys =>
    obtain ⟨p, C, ck, k, L, h1, h2, h3, h4, h5, h6, h7⟩ := h
    exact ⟨p, C, ck, k, L, h1, h2.keep m (fun z cs _ hz => by simp), h3, h4, h5.keep m (by simp), h6.keep m (by simp), h7⟩
theorem SL.keep {c s : List UInt32} {t a x : Nat} {F : List Blk} {w w4 : World} {b : Nat} {Ds : List Nat} {e : Nat} {st cm : Value} {ents : List (List UInt8)} {n : Nat} {W V : World} (h : SL c s t a x F w w4 b Ds e st cm ents n W) (m : Mod [] W V) : SL c s t a x F w w4 b Ds e st cm ents n V :=
  ⟨h.hb.keep m (by simp), h.he, h.sa.keep m, h.e0, h.e1, h.el, h.hn, h.eq, h.m0.then m, h.m4.then m, h.mks.keep m (by simp), h.ds⟩
theorem SL.mark {c s : List UInt32} {t a x : Nat} {F : List Blk} {w w4 : World} {b : Nat} {Ds : List Nat} {e : Nat} {st cm : Value} {ents : List (List UInt8)} {n : Nat} {W V : World} {D : Nat} (h : SL c s t a x F w w4 b Ds e st cm ents n W) (m : Mod [] W V) (hD : W.heap.size ≤ D) (hk : V.heap[D]? = some (.deferred (some []))) : SL c s t a x F w w4 b (D :: Ds) e st cm ents n V :=
  ⟨h.hb.keep m (by simp), h.he, h.sa.keep m, h.e0, h.e1, h.el, h.hn, h.eq, h.m0.then m, h.m4.then m, h.mks.cons m hD hk, fun E hE => by
    simp only [List.mem_cons] at hE
    rcases hE with rfl | hE
    · exact Nat.le_trans h.m4.size hD
    · exact h.ds E hE⟩
theorem SL.take0 {c s : List UInt32} {t a x : Nat} {F : List Blk} {w w4 : World} {b : Nat} {Ds : List Nat} {st cm : Value} {n : Nat} {W V : World} {en : List UInt8} {ad : Addr} {L f : Nat} (h : SL c s t a x F w w4 b Ds 0 st cm [] n W) (m : Mod [b] W V) (hb : Holds V b 50 (kc t (a : Int) (.slice (some ad) L L) (.slice none 0 0) (f : Int)))
    (hst : standsB c s t 0 F 0 = some en) (hL : en.length = L) (hL4 : L ≤ 40000) (hf : fills en.length = f) (hf1 : 1 ≤ f) (hfa : f ≤ a) (hFl : F.length = a) (hr : Reads W (some ad) en) (hw : w4.heap.size ≤ ad.block) (hc : ∃ cs, Holds W ad.block 5 cs) (hbw : w.heap.size ≤ b) :
    SL c s t a x F w w4 b Ds f (.slice (some ad) L L) (.slice none 0 0) [en] (n - 1) V := by
  obtain ⟨cs, hcs⟩ := hc
  have hne : ad.block ∉ [b] := by simpa using hcs.ne h.hb (by decide)
  refine ⟨hb, hfa, ⟨(some ad, L, L), none, 0, 0, [], rfl, ⟨hL.symm, hL.symm, by omega, hr.keep m (fun y hy => by cases hy; exact hne), fun y hy => by cases hy; exact ⟨hw, cs, hcs.keep m hne⟩⟩, rfl, rfl, OwnG.nil _ _ _ _, .nil, by simp⟩, by simp, fun _ => hf1, by simpa using hf1, ?_, ?_, h.m0.trans m (fun i hi q => by simp at q; omega), h.m4.trans m (fun i hi q => q), h.mks.keep m (fun i hi => by simp at hi; subst hi; exact h.mks.not_cells h.hb), h.ds⟩
  · have := h.hn; omega
  · rw [h.eq, saidN_some c s t F [] 0 en hst n h.hn, hf]
    simp
theorem SL.take1 {c s : List UInt32} {t a x : Nat} {F : List Blk} {w w4 : World} {b : Nat} {Ds : List Nat} {e : Nat} {st cm : Value} {ents : List (List UInt8)} {n : Nat} {W V : World} {en : List UInt8} {ad : Addr} {L f : Nat} {C C' : Option Addr} {k ck ck' : Nat} {LL : List (Option Addr × Nat × Nat)} {y : List UInt8} {ys : List (List UInt8)} {p : Option Addr × Nat × Nat} (he : ents = y :: ys) (h : SL c s t a x F w w4 b Ds e st cm ents n W)
    (h1 : st = .slice p.1 p.2.1 p.2.2) (h2 : Ent w4.heap.size W p y) (h4 : k = LL.length) (h5 : OwnG sl 34 1 W C ck LL) (h6 : Ents w4.heap.size W LL ys) (h7 : ∀ z, C = some z → w4.heap.size ≤ z.block)
    (m : Mod (b :: blk C) W V) (hb : Holds V b 50 (kc t (a : Int) st (.slice C' (k + 1) ck') ((e + f : Nat) : Int))) (hO : OwnG sl 34 1 V C' ck' (LL ++ [(some ad, L, L)])) (hC' : ∀ z, C' = some z → z.block ∈ blk C ∨ W.heap.size ≤ z.block)
    (hst : standsB c s t ents.length F e = some en) (hL : en.length = L) (hL4 : L ≤ 40000) (hf : fills en.length = f) (hf1 : 1 ≤ f) (hfa : e + f ≤ a) (hFl : F.length = a) (hr : Reads W (some ad) en) (hw : w4.heap.size ≤ ad.block) (hc : ∃ cs, Holds W ad.block 5 cs) (hbw : w.heap.size ≤ b) (hww : w.heap.size ≤ w4.heap.size) :
    SL c s t a x F w w4 b Ds (e + f) st (.slice C' (k + 1) ck') (ents ++ [en]) (n - 1) V := by
  obtain ⟨cs, hcs⟩ := hc
  have hn5 : ∀ k cs, Holds W k 5 cs → k ∉ b :: blk C := fun k cs hk => by
    simp only [List.mem_cons, not_or]
    exact ⟨hk.ne h.hb (by decide), notin_blk (h5.ne hk (by decide))⟩
  have hCb : ∀ i ∈ blk C, w4.heap.size ≤ i := fun i hi => by
    obtain ⟨z, hz, rfl⟩ := mem_blk hi
    exact h7 z hz
  refine ⟨hb, hfa, ?_, by simp, fun _ => by omega, ?_, ?_, ?_, h.m0.trans m (fun i hi q => ?_), h.m4.trans m (fun i hi q => ?_), h.mks.keep m (fun i hi hD => ?_), h.ds⟩
  · rw [he]
    refine ⟨p, C', ck', k + 1, LL ++ [(some ad, L, L)], h1, h2.keep m (fun z cs _ hz => hn5 _ cs hz), rfl, by simp [h4], hO, ?_, fun z hz => ?_⟩
    · refine (h6.keep m (fun k cs hk => hn5 k cs hk)).snoc ⟨hL.symm, hL.symm, by omega, hr.keep m (fun y hy => by cases hy; exact hn5 _ cs hcs), fun y hy => by cases hy; exact ⟨hw, cs, hcs.keep m (hn5 _ cs hcs)⟩⟩
    · rcases hC' z hz with q | q
      · exact hCb _ q
      · exact Nat.le_trans h.m4.size q
  · have := h.el; rw [List.length_append]; simp; omega
  · have := h.hn; omega
  · rw [h.eq, saidN_some c s t F ents e en hst n h.hn, hf]
  · simp only [List.mem_cons] at q
    rcases q with rfl | q
    · omega
    · have := hCb i q; omega
  · simp only [List.mem_cons] at q
    rcases q with rfl | q
    · simp
    · have := hCb i q; omega
  · simp only [List.mem_cons] at hi
    rcases hi with rfl | hi
    · exact h.mks.not_cells h.hb hD
    · obtain ⟨z, hz, rfl⟩ := mem_blk hi
      obtain ⟨o, ho, hoc⟩ := own_cells h5 z hz
      rw [h.mks.2 _ hD] at ho
      cases ho
      cases hoc
set_option maxRecDepth 100000 in
set_option maxHeartbeats 4000000 in
theorem said_c (c s : List UInt32) (t a fx : Nat) (F : List Blk) (w : World) (G : Glob c s w) (ht : t < 4294967296) (ha : a ≤ 1000) (hFl : F.length = a) (hX : Holds w fx 73 (F.flatMap bc)) :
    Calls Tryd.prog 31 #[hv t (a : Int), .slice (some ⟨fx, 0, none⟩) a a] w fun r w' => ∃ st cm, r = .returned (kv t (a : Int) st cm ((saidB c s t F).2 : Int)) ∧ SaidAt w.heap.size w' st cm (saidB c s t F).1 ∧ Mod [] w w' := by
  have HH := Lib.hid (And.intro G (And.intro ht (And.intro ha (And.intro hFl hX))))
  clear G ht ha hFl hX
  refine (callsIn_wide (n := 5)).1 ?_
  refine callsIn_of_wp_marks Tryd.func31 rfl trivial ?_ rfl
  simp only [Tryd.ntmps31, List.size_toArray, List.length_cons, List.length_nil, Nat.reduceAdd, Nat.reduceSub, Array.replicate_succ, Array.replicate_zero, List.push_toArray, List.append_toArray, List.nil_append, List.cons_append]
  refine wpIn_wide.2 ?_
  go_wp2_with (first
    | (with_reducible refine wpList_boxes (o := ⟨some 2, .box 47 (.tmp 0), _, _, _, _⟩) rfl 47 (.tmp 0) rfl _ rfl (hc t (a : Int)) rfl ?_; intro w1 hb1 m1 z1; replace z1 := Lib.hid z1)
    | (with_reducible refine wpList_allocs (o := ⟨some 4, .alloc 50, _, _, _, _⟩) rfl 50 rfl _ zero93 ?_; intro w2 hb2 m2 z2; replace z2 := Lib.hid z2))
  go_step3
  obtain ⟨bh, ebh⟩ : ∃ b, b = w.heap.size := ⟨_, rfl⟩
  obtain ⟨br, ebr⟩ : ∃ b, b = w1.heap.size := ⟨_, rfl⟩
  rw [← ebr] at hb2
  rw [← ebh] at hb1
  rw [← ebr, ← ebh]
  have HB := Lib.hid (And.intro ebh (And.intro ebr (And.intro z1.out z2.out)))
  clear ebh ebr z1 z2
  have hbh2 := hb1.keep m2 (by simp)
  have mm2 : Mod [] w w2 := m1.then m2
  clear m1 m2 hb1
  go_wp2_with (first
    | (with_reducible refine wpList_loads (o := ⟨some 12, .load 47 (.tmp 2), _, _, _, _⟩) rfl 47 (.tmp 2) rfl bh 0 _ rfl (Cells.of_holds hbh2) _ Tryd.underlying47 rfl (size91_of t (a : Int)) (hv t (a : Int)) rfl ?_)
    | (with_reducible refine wpList_ranW (o := ⟨some 13, .build _ _, _, _, _, _⟩) (by with_unfolding_all rfl) (kv t (a : Int) (.slice none 0 0) (.slice none 0 0) 0) w2 (exec_build93 rfl rfl) ?_)
    | (with_reducible refine wpList_allocs (o := ⟨some 5, .alloc 50, _, _, _, _⟩) rfl 50 rfl _ zero93 ?_; intro w3 hb3 m3 z3; replace z3 := Lib.hid z3)
    | (with_reducible refine wpList_storesAll (o := ⟨none, .store 50 (.tmp 5) (.tmp 13), _, _, _, _⟩) rfl 50 (.tmp 5) (.tmp 13) rfl rfl w2.heap.size (kc t (a : Int) (.slice none 0 0) (.slice none 0 0) 0) rfl (kv t (a : Int) (.slice none 0 0) (.slice none 0 0) 0) rfl rfl 50 _ hb3 (by rw [kc_length, kc_length]) (kc_one _ _ _ _ _ _ _ _ _) (size93_of _ _ _ _ _) ?_; intro w4 hb4 m4 z4; replace z4 := Lib.hid z4))
  go_step3
  go_wp2_with fail
  obtain ⟨b, eb⟩ : ∃ b, b = w2.heap.size := ⟨_, rfl⟩
  rw [← eb] at hb4 m4
  rw [← eb]
  have hbh4 := (hbh2.keep m3 (by simp)).keep m4 (by simp; intro q; have := hbh2.lt; omega)
  have hbr4 := (hb2.keep m3 (by simp)).keep m4 (by simp; intro q; have := hb2.lt; omega)
  have mm4 : Mod [] w w4 := (mm2.then m3).trans m4 (fun i hi h => by simp at h; have := mm2.size; omega)
  have HN := Lib.hid (show w.heap.size ≤ bh ∧ bh < b ∧ w.heap.size ≤ br ∧ br < b ∧ b < w4.heap.size ∧ fx < w.heap.size by
    obtain ⟨q1, q2, q3, q4⟩ := HB.out
    have := z3.out; have := z4.out; have := HH.out.2.2.2.2.lt
    omega)
  have HW := Lib.hid (And.intro hbh4 (And.intro hbr4 mm4))
  have H0 : SL c s t a fx F w w4 b [] 0 (.slice none 0 0) (.slice none 0 0) [] F.length w4 := ⟨by simpa using hb4, Nat.zero_le _, ⟨rfl, rfl⟩, fun _ => rfl, fun q => absurd rfl q, Nat.le_refl _, by omega, rfl, mm4, Mod.refl _ _, Marks.nil _, fun _ h => by cases h⟩
  clear hb2 hbh2 hb3 hb4 m3 m4 z3 z4 mm2 eb HB hbh4 hbr4 mm4
  rename_i Kf aK
  have FIN : ∀ (Ds : List Nat) (e : Nat) (st cm : Value) (ents : List (List UInt8)) (n : Nat) (u6 u7 u8 u9 u10 u11 u14 u15 u16 u17 u18 u19 u20 u21 u22 u23 u24 u25 u26 u27 u28 u29 u30 u31 u32 u33 u34 u35 u36 u37 u38 u39 u40 u41 u42 u43 u44 u45 u46 u47 u48 u49 u50 u51 u52 u53 u54 u55 u56 u57 u58 u59 : Value) (W : World), SL c s t a fx F w w4 b Ds e st cm ents n W → standsB c s t ents.length F e = none → Kf { tmps := #[hv t (a : Int), .slice (some ⟨fx, 0, none⟩) a a, .pointer (some ⟨bh, 0, none⟩), undef, .pointer (some ⟨br, 0, none⟩), .pointer (some ⟨b, 0, none⟩), u6, u7, u8, u9, u10, u11, hv t (a : Int), kv t (a : Int) (.slice none 0 0) (.slice none 0 0) 0, u14, u15, u16, u17, u18, u19, u20, u21, u22, u23, u24, u25, u26, u27, u28, u29, u30, u31, u32, u33, u34, u35, u36, u37, u38, u39, u40, u41, u42, u43, u44, u45, u46, u47, u48, u49, u50, u51, u52, u53, u54, u55, u56, u57, u58, u59, undef], defers := Ds.map mark } W := by
    intro Ds e st cm ents n u6 u7 u8 u9 u10 u11 u14 u15 u16 u17 u18 u19 u20 u21 u22 u23 u24 u25 u26 u27 u28 u29 u30 u31 u32 u33 u34 u35 u36 u37 u38 u39 u40 u41 u42 u43 u44 u45 u46 u47 u48 u49 u50 u51 u52 u53 u54 u55 u56 u57 u58 u59 W hS hN
    have hEq : saidB c s t F = (ents, e) := by rw [hS.eq]; exact saidN_none c s t F ents e hN n
    obtain ⟨q1, q2, q3, q4, q5, q6⟩ := HN.out
    have hbr := HW.out.2.1.keep hS.m4 (by simp; omega)
    refine aK _ _ ?_
    clear aK
    have hst : ∃ A1 n1 c1, st = .slice A1 n1 c1 := by
      have := hS.sa
      cases ents with
      | nil => exact ⟨_, _, _, this.1⟩
      | cons y ys => obtain ⟨p, C, ck, k, L, h1, _⟩ := this; exact ⟨_, _, _, h1⟩
    have hcm : ∃ A1 n1 c1, cm = .slice A1 n1 c1 := by
      have := hS.sa
      cases ents with
      | nil => exact ⟨_, _, _, this.2⟩
      | cons y ys => obtain ⟨p, C, ck, k, L, h1, h2, h3, _⟩ := this; exact ⟨_, _, _, h3⟩
    obtain ⟨A1, n1, c1, rfl⟩ := hst
    obtain ⟨A2, n2, c2, rfl⟩ := hcm
    have HSS := Lib.hid hS
    have hSb := hS.hb
    clear hS
    dsimp only
    go_wp2_with (first
      | (with_reducible refine wpList_loads (o := ⟨some 60, .load 50 (.tmp 5), _, _, _, _⟩) rfl 50 (.tmp 5) rfl b 0 _ rfl (Cells.of_holds hSb) _ Tryd.underlying50 rfl (size93_of _ _ _ _ _) (kv t (a : Int) (.slice A1 n1 c1) (.slice A2 n2 c2) (e : Int)) rfl ?_)
      | (with_reducible refine wpList_storesAll (o := ⟨none, .store 50 (.tmp 4) (.tmp 60), _, _, _, _⟩) rfl 50 (.tmp 4) (.tmp 60) rfl rfl br (kc t (a : Int) (.slice A1 n1 c1) (.slice A2 n2 c2) (e : Int)) rfl (kv t (a : Int) (.slice A1 n1 c1) (.slice A2 n2 c2) (e : Int)) rfl rfl 50 _ hbr (by rw [kc_length, kc_length]) (kc_one _ _ _ _ _ _ _ _ _) (size93_of _ _ _ _ _) ?_; intro w7 hb7 m7 z7; replace z7 := Lib.hid z7))
    rw [Exit.noGoto_ret]
    have hM7 : Marks Ds w7 := HSS.out.mks.keep m7 (fun i hi => by simp at hi; subst hi; exact HSS.out.mks.not_cells hbr)
    refine leaves_marks Ds w7 hM7 (fun w8 m8 hs8 => ?_)
    have hb8 := hb7.keep m8 (hM7.not_cells hb7)
    refine ⟨_, results_cell_row rfl _ _ br 50 _ (0, 0) _ rfl hb8 Tryd.underlying50 rfl (by rw [List.size_toArray]; exact size93_of _ _ _ _ _), ?_⟩
    have hS := HSS.out
    have m78 : Mod (br :: Ds) W w8 := (m7.wk (fun i _ h => by simp at h; simp [h])).trans m8 (fun i _ h => by simp [h])
    have hk5 : ∀ k cs, Holds W k 5 cs → k ∉ br :: Ds := fun k cs hk => by
      simp only [List.mem_cons, not_or]
      exact ⟨hk.ne hbr (by decide), hS.mks.not_cells hk⟩
    refine ⟨.slice A1 n1 c1, .slice A2 n2 c2, by rw [hEq], ?_, ?_⟩
    · rw [hEq]
      have hsa := hS.sa
      show SaidAt _ _ _ _ ents
      cases ents with
      | nil => exact hsa
      | cons y ys =>
        obtain ⟨p, C, ck, k, L, h1, h2, h3, h4, h5, h6, h7⟩ := hsa
        have hlow : w.heap.size ≤ w4.heap.size := by omega
        refine ⟨p, C, ck, k, L, h1, (h2.keep m78 (fun z cs _ hz => hk5 _ cs hz)).lower hlow, h3, h4, h5.keep m78 (fun z hz => ?_), (h6.keep m78 (fun k cs hk => hk5 k cs hk)).lower hlow, fun z hz => Nat.le_trans hlow (h7 z hz)⟩
        simp only [List.mem_cons, not_or]
        refine ⟨h5.ne hbr (by decide) z hz, fun hD => ?_⟩
        obtain ⟨o, ho, hoc⟩ := own_cells h5 z hz
        rw [hS.mks.2 _ hD] at ho
        cases ho
        cases hoc
    · refine hS.m0.trans m78 (fun i hi h => ?_)
      simp only [List.mem_cons] at h
      rcases h with rfl | h
      · omega
      · exact absurd h (fun hD => by have := hS.ds i hD; omega)
  clear aK
  replace FIN := Lib.hid FIN
  refine wp_loop (fun a' W => ∃ (Ds : List Nat) (e : Nat) (st cm : Value) (ents : List (List UInt8)) (n : Nat) (u6 u7 u8 u9 u10 u11 u14 u15 u16 u17 u18 u19 u20 u21 u22 u23 u24 u25 u26 u27 u28 u29 u30 u31 u32 u33 u34 u35 u36 u37 u38 u39 u40 u41 u42 u43 u44 u45 u46 u47 u48 u49 u50 u51 u52 u53 u54 u55 u56 u57 u58 u59 : Value), SL c s t a fx F w w4 b Ds e st cm ents n W ∧ a' = { tmps := #[hv t (a : Int), .slice (some ⟨fx, 0, none⟩) a a, .pointer (some ⟨bh, 0, none⟩), undef, .pointer (some ⟨br, 0, none⟩), .pointer (some ⟨b, 0, none⟩), u6, u7, u8, u9, u10, u11, hv t (a : Int), kv t (a : Int) (.slice none 0 0) (.slice none 0 0) 0, u14, u15, u16, u17, u18, u19, u20, u21, u22, u23, u24, u25, u26, u27, u28, u29, u30, u31, u32, u33, u34, u35, u36, u37, u38, u39, u40, u41, u42, u43, u44, u45, u46, u47, u48, u49, u50, u51, u52, u53, u54, u55, u56, u57, u58, u59, undef], defers := Ds.map mark }) (fun _ W => a - endAt b W) ?_ ?_
  · exact ⟨[], 0, _, _, [], _, undef, undef, undef, undef, undef, undef, undef, undef, undef, undef, undef, undef, undef, undef, undef, undef, undef, undef, undef, undef, undef, undef, undef, undef, undef, undef, undef, undef, undef, undef, undef, undef, undef, undef, undef, undef, undef, undef, undef, undef, undef, undef, undef, undef, undef, undef, undef, undef, undef, undef, undef, undef, H0, rfl⟩
  rintro _ W ⟨Ds, e, st, cm, ents, n, u6, u7, u8, u9, u10, u11, u14, u15, u16, u17, u18, u19, u20, u21, u22, u23, u24, u25, u26, u27, u28, u29, u30, u31, u32, u33, u34, u35, u36, u37, u38, u39, u40, u41, u42, u43, u44, u45, u46, u47, u48, u49, u50, u51, u52, u53, u54, u55, u56, u57, u58, u59, hrel, rfl⟩
  clear H0
  dsimp only
  have d := kc_cells (Cells.of_holds hrel.hb)
  have d4 := d.2.2.2.2
  simp only [Nat.zero_add] at d4
  by_cases hlt : e < a
  · have hltZ : (e : Int) < (a : Int) := by omega
    have haZ : (a : Int) ≤ 1000 := by have := HH.out.2.2.1; omega
    have heF : e < F.length := by rw [HH.out.2.2.2.1]; exact hlt
    have hXW : Holds W fx 73 (F.flatMap bc) := HH.out.2.2.2.2.keep hrel.m0 (by simp)
    obtain ⟨oo, hoo⟩ : ∃ o, o = e * 64 := ⟨_, rfl⟩
    obtain ⟨lf, hlf⟩ : ∃ p, F[e]? = some p := ⟨_, List.getElem?_eq_getElem heF⟩
    have hcl : Cells W (some ⟨fx, e * 64, none⟩) (bc lf) := by
      have h1 := (Cells.of_holds hXW).elem bc 64 bc_length e heF
      rw [List.getElem?_eq_getElem heF] at hlf
      injection hlf with hlf
      rw [hlf, Nat.zero_add] at h1
      exact h1
    have HR := Lib.hid (And.intro hrel (And.intro hXW (And.intro heF (And.intro hlf hoo))))
    have XL := fun v => lengthOf_c lf v
    clear hrel d hXW heF hlf
    go_wp2_with (first
      | (refine wpList_alloc1 (o := ⟨some 6, .alloc 66, _, _, _, _⟩) rfl 66 rfl (.slice none 0 0) rfl zero103 ?_
         intro v1 hv1 mv1 zv1
         obtain ⟨b6, eb6⟩ : ∃ b, b = W.heap.size := ⟨_, rfl⟩
         rw [← eb6] at hv1
         rw [← eb6]
         have e1 := hv1.cell 0
         have e2 := hv1.free 0
         replace zv1 := Lib.hid zv1
         have HV1 := Lib.hid (And.intro hv1 (And.intro mv1 eb6))
         clear hv1 mv1 eb6)
      | (obtain ⟨v2, ev2⟩ : ∃ v, v = v1.setCell ⟨b6, 0, none⟩ (.slice (some ⟨fx, e * 64, none⟩) (a - e) (a - e)) := ⟨_, rfl⟩
         have hb6 : Holds v2 b6 66 [.slice (some ⟨fx, e * 64, none⟩) (a - e) (a - e)] := by rw [ev2]; exact HV1.out.1.set 0 _
         have m2 : Mod [] W v2 := by
           rw [ev2]
           exact HV1.out.2.1.trans (Mod.setCell (ms := [b6]) _ (by simp) _) (fun i hi h => by have := HV1.out.2.2; simp at h; omega)
         rw [← ev2]
         have hcl2 := hcl.keep m2 (by simp)
         have HV2 := Lib.hid (And.intro hb6 (And.intro m2 HV1.out.2.2))
         clear hb6 m2 ev2 HV1 e1 e2
         with_reducible refine wpList_loads (o := ⟨some 25, .load 73 (.tmp 24), _, _, _, _⟩) rfl 73 (.tmp 24) rfl fx (e * 64) _ rfl hcl2 _ Tryd.underlying73 rfl (by rw [bc_length]; exact size110) (bv lf) rfl ?_))
    refine (XL v2).mono ?_
    rintro r v3 ⟨rfl, hL16, m3⟩
    clear XL hcl hcl2
    obtain ⟨L, hL⟩ : ∃ L, L = lenB lf := ⟨_, rfl⟩
    rw [← hL] at hL16 ⊢
    have XS := sectors_c L (by omega) v3
    obtain ⟨f, hf⟩ : ∃ f, f = fills L := ⟨_, rfl⟩
    rw [← hf] at XS
    have HL := Lib.hid (And.intro hL (And.intro hf hL16))
    have c6 : v3.cell? ⟨b6, 0, none⟩ = some (.slice (some ⟨fx, e * 64, none⟩) (a - e) (a - e)) := by simpa using (HV2.out.1.keep m3 (by simp)).cell 0
    have HV3 := Lib.hid (And.intro (HV2.out.1.keep m3 (by simp)) (And.intro (HV2.out.2.1.then m3) HV2.out.2.2))
    clear hL hf hL16 m3 HV2
    go_wp2_with fail
    refine XS.mono ?_
    rintro r v4 ⟨rfl, rfl⟩
    clear XS
    by_cases hf0 : f = 0
    · subst hf0
      have hrel := HR.out.1
      have hn2 : standsB c s t ents.length F e = none := by
        unfold standsB
        rw [HR.out.2.2.2.1]
        simp only
        rw [if_pos (by rw [← HL.out.1, ← HL.out.2.1]; exact .inl rfl)]
      have hsl := SL.keep hrel HV3.out.2.1
      clear HR HL HV3 hrel
      go_wp2_with fail
      exact FIN.out Ds e st cm ents n _ _ _ _ _ _ _ _ _ _ _ _ _ _ _ _ _ _ _ _ _ _ _ _ _ _ _ _ _ _ _ _ _ _ _ _ _ _ _ _ _ _ _ _ _ _ _ _ _ _ _ _ v4 hsl hn2
    have hbf : ((f : Int) == 0) = false := by simp; omega
    by_cases hfl : a - e < f
    · have hf1 : ¬ (f : Int) = 0 := by omega
      have hrel := HR.out.1
      have hn2 : standsB c s t ents.length F e = none := by
        unfold standsB
        rw [HR.out.2.2.2.1]
        simp only
        rw [if_pos (by rw [← HL.out.1, ← HL.out.2.1]; exact .inr (by rw [HH.out.2.2.2.1]; exact hfl))]
      have hsl := SL.keep hrel HV3.out.2.1
      clear HR HL HV3 hrel
      go_wp2_with fail
      exact FIN.out Ds e st cm ents n _ _ _ _ _ _ _ _ _ _ _ _ _ _ _ _ _ _ _ _ _ _ _ _ _ _ _ _ _ _ _ _ _ _ _ _ _ _ _ _ _ _ _ _ _ _ _ _ _ _ _ _ v4 hsl hn2
    have hf1 : ¬ (f : Int) = 0 := by omega
    have hL4 : L ≤ 40000 ∧ L ≤ f * 48 ∧ 48 ≤ f * 48 := by
      have h1 := HL.out.2.1
      unfold fills at h1
      split at h1
      · omega
      · omega
    obtain ⟨FF, hFF⟩ : ∃ FF, FF = (F.drop e).take f := ⟨_, rfl⟩
    have hFFl : f = FF.length := by rw [hFF, List.length_take, List.length_drop, HH.out.2.2.2.1]; omega
    have hFc : Cells v4 (some ⟨fx, e * 64, none⟩) (FF.flatMap bc) := by
      have h1 := (Cells.of_holds HR.out.2.1).keep HV3.out.2.1 (by simp)
      have h2 := h1.part (e * 64) (ds := FF.flatMap bc) (fun i hi => by
        rw [flat_length bc 64 bc_length] at hi
        have hk : i / 64 < FF.length := by omega
        have hk2 : e + i / 64 < F.length := by rw [HH.out.2.2.2.1]; omega
        have h3 := flat_at bc 64 bc_length FF (i / 64) (i % 64) hk (by omega)
        have h4 := flat_at bc 64 bc_length F (e + i / 64) (i % 64) hk2 (by omega)
        have h5 : FF[i / 64] = F[e + i / 64] := by simp [hFF]
        rw [show i / 64 * 64 + i % 64 = i by omega, h5] at h3
        rw [show (e + i / 64) * 64 + i % 64 = e * 64 + i by omega] at h4
        rw [h4, ← h3, List.getElem?_eq_getElem (by rw [flat_length bc 64 bc_length]; omega)])
      rwa [Nat.zero_add] at h2
    have XT := textOf_c FF (some ⟨fx, e * 64, none⟩) f (a - e) hFFl v4 (by omega) hFc
    have hflN : f ≤ a - e := by omega
    have HF := Lib.hid (And.intro hFF (And.intro hFFl (And.intro hL4 hflN)))
    clear hFF hFFl hL4 hFc
    go_wp2_with fail
    refine XT.mono ?_
    rintro r v5 ⟨A5, c5, rfl, hO5, m5⟩
    clear XT
    have hA5 : ∃ ad, A5 = some ad := by
      cases A5 with
      | some ad => exact ⟨ad, rfl⟩
      | none =>
        have h1 := (hO5.nil_addr).1
        have h2 := congrArg List.length h1
        rw [textB_length, ← HF.out.2.1] at h2
        have := HF.out.2.2.1
        simp at h2
        omega
    obtain ⟨ad, rfl⟩ := hA5
    have hLc : L ≤ c5 := by
      have h1 := hO5.fits.1
      rw [textB_length, ← HF.out.2.1] at h1
      have := HF.out.2.2.1
      omega
    obtain ⟨en, hen⟩ : ∃ en, en = (textB FF).take L := ⟨_, rfl⟩
    have henl : en.length = L := by
      rw [hen, List.length_take, textB_length, ← HF.out.2.1]
      have := HF.out.2.2.1
      omega
    have hRe : Reads v5 (some ad) en := by rw [hen]; exact reads_take hO5.reads L
    have hBe : W.heap.size ≤ ad.block ∧ ∃ cs, Holds v5 ad.block 5 cs := by
      have hW4 : W.heap.size ≤ v4.heap.size := HV3.out.2.1.size
      rcases hO5.2 with ⟨hv, hn⟩ | ⟨g, cap, cur, hv, hb, hg, h1, h2, _⟩
      · cases hv
      · injection hv with hv1 hv2 hv3
        injection hv1 with hv1
        subst hv1
        exact ⟨Nat.le_trans hW4 hb, cur.toList, by unfold Holds; rw [hg]⟩
    have c6b : v5.cell? ⟨b6, 0, none⟩ = some (.slice (some ⟨fx, e * 64, none⟩) (a - e) (a - e)) := by simpa using (HV3.out.1.keep m5 (by simp)).cell 0
    have HV5 := Lib.hid (And.intro (HV3.out.1.keep m5 (by simp)) (And.intro (HV3.out.2.1.then m5) (And.intro HV3.out.2.2 (And.intro hen (And.intro henl (And.intro hRe (And.intro hBe hLc)))))))
    clear hO5 HV3 m5 c6 hen henl hRe hBe hLc
    go_wp2_with (first
      | (refine wpList_ranW (o := ⟨some 43, .slice 34 _ _ _ _, _, _, _, _⟩) rfl (.slice (some ad) L L) v5 (exec_upto3 Tryd.underlying34 u8_one HV5.out.2.2.2.2.2.2.2 rfl rfl rfl rfl) ?_)
      | (refine wpList_alloc1 (o := ⟨some 10, .alloc 3, _, _, _, _⟩) rfl 3 rfl (.int .i64 0) rfl zero3 ?_
         intro v6 hv6 mv6 zv6
         obtain ⟨bi, ebi⟩ : ∃ b, b = v5.heap.size := ⟨_, rfl⟩
         rw [← ebi] at hv6
         rw [← ebi]
         have e1 := hv6.cell 0
         have e2 := hv6.free 0
         replace zv6 := Lib.hid zv6
         have HV6 := Lib.hid (And.intro hv6 (And.intro mv6 ebi))
         clear hv6 mv6 ebi))
    obtain ⟨v7, ev7⟩ : ∃ v, v = v6.setCell ⟨bi, 0, none⟩ (.int .i64 0) := ⟨_, rfl⟩
    have hb7 : Holds v7 bi 3 [.int .i64 0] := by rw [ev7]; exact HV6.out.1.set 0 _
    have m7 : Mod [] v5 v7 := by
      rw [ev7]
      exact HV6.out.2.1.trans (Mod.setCell (ms := [bi]) _ (by simp) _) (fun i hi h => by have := HV6.out.2.2; simp at h; omega)
    rw [← ev7]
    have HV7 := Lib.hid (And.intro hb7 (And.intro m7 (And.intro HV6.out.2.2 (show v7.heap.size = v5.heap.size + 1 by rw [ev7]; simpa using zv6.out))))
    clear hb7 m7 ev7 HV6 e1 e2 zv6 c6b
    obtain ⟨nu, hnu⟩ : ∃ n, n = ents.length := ⟨_, rfl⟩
    have XN : ∀ v, Mod [] W v → Calls Tryd.prog 45 #[.pointer (some ⟨b, 0, none⟩)] v fun r v' => r = .returned (.int .i64 (nu : Int)) ∧ v' = v := by
      intro v mv
      have hS := HR.out.1
      have hk := (Cells.of_holds hS.hb).keep mv (by simp)
      have hea : e ≤ 1000 := by have := hS.he; have := HH.out.2.2.1; omega
      have hel := hS.el
      have hsa := hS.sa
      cases ents with
      | nil =>
        obtain ⟨h1, h2⟩ := hsa
        have h0 := hS.e0 rfl
        rw [h2] at hk
        refine (number105_c b t (a : Int) st none 0 0 e v hk (by omega) (by omega)).mono ?_
        rintro r v' ⟨rfl, rfl⟩
        exact ⟨by rw [hnu, h0]; rfl, rfl⟩
      | cons y ys =>
        obtain ⟨p, C, ck, k, LL, h1, h2, h3, h4, h5, h6, h7⟩ := hsa
        have h0 := hS.e1 (by simp)
        rw [h3] at hk
        have hkl : k = ys.length := by rw [h4, h6.length]
        refine (number105_c b t (a : Int) st C k ck e v hk (by simp at hel; omega) (by omega)).mono ?_
        rintro r v' ⟨rfl, rfl⟩
        exact ⟨by rw [hnu, if_neg (by omega), hkl, List.length_cons, Nat.add_comm], rfl⟩
    have HNU := Lib.hid hnu
    clear hnu
    have HZ := Lib.hid (And.intro (show Holds v7 bh 47 (hc t (a : Int)) from (HW.out.1.keep HR.out.1.m4 (by have := HN.out; simp; omega)).keep (HV5.out.2.1.then HV7.out.2.1) (by simp)) (show Mod [] W v7 from HV5.out.2.1.then HV7.out.2.1))
    refine Rg.wp_region_lit (X := Nat) 0 (fun x => [hv t ↑a, Value.slice (some { block := fx, off := 0 }) a a, Value.pointer (some { block := bh, off := 0 }), undef, Value.pointer (some { block := br, off := 0 }), Value.pointer (some { block := b, off := 0 }), Value.pointer (some { block := b6, off := 0 }), Value.int IntKind.i64 ↑L, Value.int IntKind.i64 ↑f, Value.slice (some ad) L L, Value.pointer (some { block := bi, off := 0 }), u11, hv t ↑a, kv t (↑a) (Value.slice none 0 0) (Value.slice none 0 0) 0, Value.pointer (some { block := b, off := 4 }), Value.int IntKind.i64 ↑e, Value.slice (some { block := fx, off := 0 }) a a, Value.int IntKind.i64 ↑a, Value.bool true, Value.slice (some { block := fx, off := 0 }) a a, Value.pointer (some { block := b, off := 4 }), Value.int IntKind.i64 ↑e, Value.slice (some { block := fx, off := e * 64 }) (a - e) (a - e), Value.slice (some { block := fx, off := e * 64 }) (a - e) (a - e), Value.pointer (some { block := fx, off := e * 64 }), bv lf, Value.int IntKind.i64 ↑L, Value.int IntKind.i64 ↑L, Value.int IntKind.i64 ↑f, Value.int IntKind.i64 ↑f, Value.bool false, Value.bool false, Value.int IntKind.i64 ↑f, Value.slice (some { block := fx, off := e * 64 }) (a - e) (a - e), Value.int IntKind.i64 ↑(a - e), Value.bool false, Value.bool false, Value.slice (some { block := fx, off := e * 64 }) (a - e) (a - e), Value.int IntKind.i64 ↑f, Value.slice (some { block := fx, off := e * 64 }) f (a - e), Value.slice (some ad) (f * 48) c5, Value.int IntKind.i64 ↑L, Value.int IntKind.i64 ↑L, Value.slice (some ad) L L, .pointer (some ⟨bh, 0, none⟩), .int .u32 (t : Int), .int .i64 (nu : Int), .slice (some ad) L L, .func (.func 57) #[] #[.pointer (some ⟨x + 2, 0, none⟩), .pointer (some ⟨x, 0, none⟩), .pointer (some ⟨x + 1, 0, none⟩)], u49, u50, u51, u52, u53, u54, u55, u56, u57, u58, u59, undef]) 61 [0, 1, 2, 3, 4, 5, 6, 7, 8, 9, 10, 11, 12, 13, 14, 15, 16, 17, 18, 19, 20, 21, 22, 23, 24, 25, 26, 27, 28, 29, 30, 31, 32, 33, 34, 35, 36, 37, 38, 39, 40, 41, 42, 43, 49, 50, 51, 52, 53, 54, 55, 56, 57, 58, 59, 60]
      (fun x lz v => Mod [] v7.drew v ∧ (lz 4 = true → Holds v x 36 [.int .u32 (t : Int)] ∧ Holds v (x + 1) 3 [.int .i64 (nu : Int)] ∧ Holds v (x + 2) 34 [.slice (some ad) L L] ∧ v7.drew.heap.size ≤ x ∧ x + 2 < v.heap.size)) (Ds.map mark)
      (by kernel_rfl) (fun _ => rfl) rfl rfl rfl (fun _ => by simp only [List.map_cons, List.map_nil, List.getD_cons_zero, List.getD_cons_succ]) (⟨Mod.refl _ _, fun q => by cases q⟩) (by kernel_rfl) (by kernel_rfl) ?step ?fin
    case step =>
      intro x lz T v j o hj hlj hdep hst hpar hgot hcl Kq hK
      have hjn : j < 5 := (Array.getElem?_eq_some_iff.1 hj).1
      obtain rfl | rfl | rfl | rfl | rfl : j = 0 ∨ j = 1 ∨ j = 2 ∨ j = 3 ∨ j = 4 := by omega
      all_goals (have hj' := Option.some.inj (hj : some _ = some o); subst hj'; clear hj)
      · have h16 : lz 4 = false := by
          cases hh4 : lz 4 with
          | false => rfl
          | true =>
            have hh1 := hcl 4 _ rfl hh4 ⟨1, .data⟩ (by simp) rfl
            have hh0 := hcl 1 _ rfl hh1 ⟨0, .data⟩ (by simp) rfl
            rw [hlj] at hh0
            cases hh0
        exact Rg.wp_ran rfl (exec_f91_0 rfl (eval_tmp (hpar 2 (by simp)))) (hK x _ _ (fun _ _ _ _ _ _ => rfl) (fun s hs => by cases hs; rfl) ⟨hst.1, fun q => absurd (h16.symm.trans q) (by simp)⟩)
      · have h16 : lz 4 = false := by
          cases hh4 : lz 4 with
          | false => rfl
          | true =>
            have hh1 := hcl 4 _ rfl hh4 ⟨1, .data⟩ (by simp) rfl
            rw [hlj] at hh1
            cases hh1
        have hbhv : Holds v bh 47 (hc t (a : Int)) := (show Holds v7.drew bh 47 (hc t (a : Int)) from HZ.out.1).keep hst.1 (by simp)
        exact Rg.wp_ran rfl (Rg.exec_load rfl (eval_tmp (hgot 0 _ 44 rfl (hdep ⟨0, .data⟩ (by simp) rfl) rfl)) (Rg.run_load1 Tryd.underlying36 rfl (by simpa [hc] using hbhv.cell 0))) (hK x _ _ (fun _ _ _ _ _ _ => rfl) (fun s hs => by cases hs; rfl) ⟨hst.1, fun q => absurd (h16.symm.trans q) (by simp)⟩)
      · have h16 : lz 4 = false := by
          cases hh4 : lz 4 with
          | false => rfl
          | true =>
            have hh2 := hcl 4 _ rfl hh4 ⟨2, .data⟩ (by simp) rfl
            rw [hlj] at hh2
            cases hh2
        exact Rg.wp_called rfl (Rg.exec_call1 rfl rfl (eval_tmp (hpar 5 (by simp))) (enters_of Tryd.func45 (by kernel_rfl) rfl)) ((XN v (HZ.out.2.then ((Mod.drew [] v7).then hst.1))).mono (fun e v' hh => ⟨_, hh.1, hK x _ _ (fun _ _ _ _ _ _ => rfl) (fun s hs => by cases hs; rfl) ⟨by rw [hh.2]; exact hst.1, fun q => absurd (h16.symm.trans q) (by simp)⟩⟩))
      · have h16 : lz 4 = false := by
          cases hh4 : lz 4 with
          | false => rfl
          | true =>
            have hh3 := hcl 4 _ rfl hh4 ⟨3, .data⟩ (by simp) rfl
            rw [hlj] at hh3
            cases hh3
        exact Rg.wp_ran rfl (Rg.exec_move rfl (eval_tmp (hpar 9 (by simp)))) (hK x _ _ (fun _ _ _ _ _ _ => rfl) (fun s hs => by cases hs; rfl) ⟨hst.1, fun q => absurd (h16.symm.trans q) (by simp)⟩)
      · exact Rg.wp_called rfl (Rg.exec_call3 rfl rfl (eval_tmp (hgot 1 _ 45 rfl (hdep ⟨1, .data⟩ (by simp) rfl) rfl)) (eval_tmp (hgot 2 _ 46 rfl (hdep ⟨2, .data⟩ (by simp) rfl) rfl)) (eval_tmp (hgot 3 _ 47 rfl (hdep ⟨3, .data⟩ (by simp) rfl) rfl)) (enters_of Tryd.func40 (by kernel_rfl) rfl)) ((leaves_c t nu (some ad) L L v).mono (fun e v' hh => ⟨_, hh.1, hK v.heap.size _ _ (fun j' o' s' h1 h2 h3 => by
                clear hst hpar hgot hdep hcl hK
                have h4 : j' < 5 := (Array.getElem?_eq_some_iff.1 h1).1
                obtain rfl | rfl | rfl | rfl | rfl : j' = 0 ∨ j' = 1 ∨ j' = 2 ∨ j' = 3 ∨ j' = 4 := by omega
                all_goals (cases h1; cases h3 <;> first | rfl | (rw [hlj] at h2; cases h2))) (fun s hs => by cases hs; rfl) ⟨hst.1.then hh.2.2.2.2.1, fun _ => ⟨hh.2.1, hh.2.2.1, hh.2.2.2.1, hst.1.size, by have := hh.2.2.2.2.2; omega⟩⟩⟩))
    case fin =>
      intro y lz v hl hst
      obtain ⟨mv, hst2⟩ := hst
      obtain ⟨r1, r2, r3, r4, r5⟩ := hst2 (hl 4 (by decide))
      clear hl hst2
      dsimp only
      have mv7 : Mod [] v7 v := (Mod.drew [] v7).then mv
      have mWv : Mod [] W v := HZ.out.2.then mv7
      have hbiv : Holds v bi 3 [.int .i64 0] := HV7.out.1.keep mv7 (by simp)
      have hb6v : Holds v b6 66 [.slice (some ⟨fx, e * 64, none⟩) (a - e) (a - e)] := (HV5.out.1.keep HV7.out.2.1 (by simp)).keep mv7 (by simp)
      have hFxv : Holds v fx 73 (F.flatMap bc) := HR.out.2.1.keep mWv (by simp)
      have hord : W.heap.size ≤ b6 ∧ b6 < bi ∧ bi < y ∧ y + 2 < v.heap.size ∧ W.heap.size ≤ ad.block ∧ ad.block < bi := by
        have h1 := HV5.out.2.2.1
        have h2 := HV7.out.2.2.1
        have h3 := HV7.out.2.2.2
        have h4 : b6 < v5.heap.size := HV5.out.1.lt
        obtain ⟨h5, cs, h6⟩ := HV5.out.2.2.2.2.2.2.1
        have h7 := h6.lt
        have h8 : v7.heap.size ≤ y := r4
        omega
      have hRv : Reads v (some ad) en := (HV5.out.2.2.2.2.2.1.keep HV7.out.2.1 (by simp)).keep mv7 (by simp)
      have hEb : ∃ cs, Holds v ad.block 5 cs := by
        obtain ⟨h5, cs, h6⟩ := HV5.out.2.2.2.2.2.2.1
        exact ⟨cs, (h6.keep HV7.out.2.1 (by simp)).keep mv7 (by simp)⟩
      have hGv : Glob c s v := HH.out.1.keep (HR.out.1.m0.then mWv)
      have hnu2 : nu < 4294967296 := by
        have h1 := HNU.out
        have h2 := HR.out.1.el
        have h3 := HH.out.2.2.1
        omega
      have henl := HV5.out.2.2.2.2.1
      have hL5 := HF.out.2.2.1.1
      have hff : fills en.length = f := by rw [henl, ← HL.out.2.1]
      have hLf : Lf c s [bi] v.heap.size (y + 2) y (y + 1) (some ad) en L t nu v :=
        ⟨hGv, by rw [henl]; exact Cells.of_holds r3, Cells.of_holds r1, Cells.of_holds r2, hRv, ⟨by omega, by simp; omega⟩, ⟨by omega, by simp; omega⟩, ⟨by omega, by simp; omega⟩, fun z hz => by cases hz; exact ⟨by omega, by simp; omega⟩, hGv.two, by omega, fun i hi => by
          have := HH.out.1.two
          have := HR.out.1.m0.size
          simp at hi
          omega⟩
      have HO := Lib.hid (And.intro hord (And.intro mWv (And.intro hEb (And.intro hRv (And.intro hff hFxv)))))
      have H6v := Lib.hid hb6v
      clear mv mv7 XN r1 r2 r3 r4 r5 hRv hEb hGv hFxv hb6v
      go_wp2_with fail
      refine (wpIn_wide (n := 5)).1 ?_
      refine wpIn_rangeFunc_ownH (F := Fence.wide) (n := 5) rfl (by omega) (gf := 57) (lb := #[.pointer (some ⟨y + 2, 0, none⟩), .pointer (some ⟨y, 0, none⟩), .pointer (some ⟨y + 1, 0, none⟩)]) rfl trivial (enters_of Tryd.func57 (by kernel_rfl) rfl)
        (leaves_stops c s 4 (by omega) (y + 2) y (y + 1) v.heap.size L [bi] (some ad) en t nu HH.out.2.1 hnu2 (by omega) v hLf (Nat.le_refl _))
        (fun h k => h.trans k) (fun W l o o' hl ho h1 h2 => ?hKb) (Below.refl _ _) (fun _ => rfl)
        (fun pre W => Holds W bi 3 [.int .i64 (pre.length : Int)] ∧ pre = (F.drop e).take pre.length ∧ Mod [bi] v W)
        (fun cd pre W => cd = .exit 0 ∧ pre ≠ (F.drop e).take pre.length ∧ Mod [bi] v W)
        (fun s A B row hs hg hr => ?hI) (fun cd s A B row hs hg hr => ?hIx) ⟨hbiv, rfl, Mod.refl _ _⟩
        (fun q a' W => ∃ Bx, bi < Bx ∧ Holds W Bx 73 (bc q) ∧ a' = { tmps := #[hv t ↑a, Value.slice (some { block := fx, off := 0 }) a a, Value.pointer (some { block := bh, off := 0 }), undef, Value.pointer (some { block := br, off := 0 }), Value.pointer (some { block := b, off := 0 }), Value.pointer (some { block := b6, off := 0 }), Value.int IntKind.i64 ↑L, Value.int IntKind.i64 ↑f, Value.slice (some ad) L L, Value.pointer (some { block := bi, off := 0 }), .pointer (some ⟨Bx, 0, none⟩), hv t ↑a, kv t (↑a) (Value.slice none 0 0) (Value.slice none 0 0) 0, Value.pointer (some { block := b, off := 4 }), Value.int IntKind.i64 ↑e, Value.slice (some { block := fx, off := 0 }) a a, Value.int IntKind.i64 ↑a, Value.bool true, Value.slice (some { block := fx, off := 0 }) a a, Value.pointer (some { block := b, off := 4 }), Value.int IntKind.i64 ↑e, Value.slice (some { block := fx, off := e * 64 }) (a - e) (a - e), Value.slice (some { block := fx, off := e * 64 }) (a - e) (a - e), Value.pointer (some { block := fx, off := e * 64 }), bv lf, Value.int IntKind.i64 ↑L, Value.int IntKind.i64 ↑L, Value.int IntKind.i64 ↑f, Value.int IntKind.i64 ↑f, Value.bool false, Value.bool false, Value.int IntKind.i64 ↑f, Value.slice (some { block := fx, off := e * 64 }) (a - e) (a - e), Value.int IntKind.i64 ↑(a - e), Value.bool false, Value.bool false, Value.slice (some { block := fx, off := e * 64 }) (a - e) (a - e), Value.int IntKind.i64 ↑f, Value.slice (some { block := fx, off := e * 64 }) f (a - e), Value.slice (some ad) (f * 48) c5, Value.int IntKind.i64 ↑L, Value.int IntKind.i64 ↑L, Value.slice (some ad) L L, .pointer (some ⟨bh, 0, none⟩), .int .u32 (t : Int), .int .i64 (nu : Int), .slice (some ad) L L, .func (.func 57) #[] #[.pointer (some ⟨y + 2, 0, none⟩), .pointer (some ⟨y, 0, none⟩), .pointer (some ⟨y + 1, 0, none⟩)], bv q, u50, u51, u52, u53, u54, u55, u56, u57, u58, u59, undef], defers := [] })
        (fun q a' s A B row hs hg hr => ?hAx) ?assign ?body ?done ?stop
      case hKb => exact ⟨by simp [World.putObj], fun k hk _ _ => World.putObj_heap_other (by omega)⟩
      case hI =>
        obtain ⟨h1, h2, h3⟩ := hs
        exact ⟨holds_own h1 hg (fun r e => (hr r e).2), h2, modl_own h3 hg (fun r e => (hr r e).1)⟩
      case hIx =>
        obtain ⟨h1, h2, h3⟩ := hs
        exact ⟨h1, h2, modl_own h3 hg (fun r e => (hr r e).1)⟩
      case hAx =>
        obtain ⟨Bx, h1, h2, h3⟩ := hs
        exact ⟨Bx, h1, holds_own h2 hg (fun r e => (hr r e).2), h3⟩
      case assign =>
        rintro l pre q W K ⟨h1, h2, h3⟩ hK
        have hlt := h1.lt
        rw [zip_one]
        change Code.wpIn _ _ _ _ _ { tmps := #[hv t ↑a, Value.slice (some { block := fx, off := 0 }) a a, Value.pointer (some { block := bh, off := 0 }), undef, Value.pointer (some { block := br, off := 0 }), Value.pointer (some { block := b, off := 0 }), Value.pointer (some { block := b6, off := 0 }), Value.int IntKind.i64 ↑L, Value.int IntKind.i64 ↑f, Value.slice (some ad) L L, Value.pointer (some { block := bi, off := 0 }), u11, hv t ↑a, kv t (↑a) (Value.slice none 0 0) (Value.slice none 0 0) 0, Value.pointer (some { block := b, off := 4 }), Value.int IntKind.i64 ↑e, Value.slice (some { block := fx, off := 0 }) a a, Value.int IntKind.i64 ↑a, Value.bool true, Value.slice (some { block := fx, off := 0 }) a a, Value.pointer (some { block := b, off := 4 }), Value.int IntKind.i64 ↑e, Value.slice (some { block := fx, off := e * 64 }) (a - e) (a - e), Value.slice (some { block := fx, off := e * 64 }) (a - e) (a - e), Value.pointer (some { block := fx, off := e * 64 }), bv lf, Value.int IntKind.i64 ↑L, Value.int IntKind.i64 ↑L, Value.int IntKind.i64 ↑f, Value.int IntKind.i64 ↑f, Value.bool false, Value.bool false, Value.int IntKind.i64 ↑f, Value.slice (some { block := fx, off := e * 64 }) (a - e) (a - e), Value.int IntKind.i64 ↑(a - e), Value.bool false, Value.bool false, Value.slice (some { block := fx, off := e * 64 }) (a - e) (a - e), Value.int IntKind.i64 ↑f, Value.slice (some { block := fx, off := e * 64 }) f (a - e), Value.slice (some ad) (f * 48) c5, Value.int IntKind.i64 ↑L, Value.int IntKind.i64 ↑L, Value.slice (some ad) L L, .pointer (some ⟨bh, 0, none⟩), .int .u32 (t : Int), .int .i64 (nu : Int), .slice (some ad) L L, .func (.func 57) #[] #[.pointer (some ⟨y + 2, 0, none⟩), .pointer (some ⟨y, 0, none⟩), .pointer (some ⟨y + 1, 0, none⟩)], bv q, u50, u51, u52, u53, u54, u55, u56, u57, u58, u59, undef], defers := [] } W
        gi_wp2_with (first
          | (with_reducible refine wpListIn_allocs (o := ⟨some 11, .alloc 73, _, _, _, _⟩) rfl 73 rfl _ zero110 ?_; intro v1 hv1 mv1 zv1)
          | (with_reducible refine wpListIn_storesAll (o := ⟨none, .store 73 (.tmp 11) (.tmp 49), _, _, _, _⟩) rfl 73 (.tmp 11) (.tmp 49) rfl rfl W.heap.size (bc q) rfl (bv q) rfl rfl 73 _ hv1 (by rw [bc_length, bc_length]) (bc_one q) (by rw [bc_length]; exact size110) ?_; intro v2 hv2 mv2 zv2))
        have mm : Mod [] W v2 := ⟨mv2.os.trans mv1.os, mv2.tape.trans mv1.tape, mv2.output.trans mv1.output, by omega, fun i hi hn => (mv2.block i (by omega) (by simp; omega)).trans (mv1.block i hi hn)⟩
        exact hK _ _ (mm.keepsFrom _) (mm.keepL _ (fun _ h => by cases h)) ⟨h1.keep mm (by simp), h2, h3.then mm⟩ ⟨W.heap.size, hlt, hv2, rfl⟩
      case body =>
        rintro l pre q a' W9 hl _ ⟨h1, h2, h3⟩ ⟨Bx, hlt, hX, rfl⟩ hpre
        obtain ⟨pj, hpj⟩ : ∃ j, j = pre.length := ⟨_, rfl⟩
        rw [← hpj] at h1 h2 hpre
        have hpa : pj < a - e := by have := HO.out.2.2.2.2.1; omega
        have hFe : e + pj < F.length := by rw [HH.out.2.2.2.1]; omega
        obtain ⟨z, hz⟩ : ∃ z, F[e + pj]? = some z := ⟨_, List.getElem?_eq_getElem hFe⟩
        obtain ⟨cb, hcb⟩ : ∃ c, (!decide (q = z)) = c := ⟨_, rfl⟩
        have hord := HO.out.1
        have hfw := HN.out.2.2.2.2.2
        have hw0 := HR.out.1.m0.size
        have hz9 : Hid (Cells W9 (some ⟨fx, e * 64 + pj * 64, none⟩) (bc z)) := Lib.hid (by
          have k1 := (Cells.of_holds (HO.out.2.2.2.2.2.keep h3 (by simp; omega))).elem bc 64 bc_length (e + pj) hFe
          rw [List.getElem?_eq_getElem hFe] at hz
          injection hz with hz
          rw [hz, Nat.zero_add, Nat.add_mul] at k1
          exact k1)
        have h69 : Hid (Holds W9 b6 66 [.slice (some ⟨fx, e * 64, none⟩) (a - e) (a - e)]) := Lib.hid (H6v.out.keep h3 (by simp; omega))
        have hi9 := Lib.hid h1
        have hX9 := Lib.hid hX
        have HJ := Lib.hid (And.intro hpa (And.intro hcb (And.intro hz (And.intro hpj (And.intro h2 h3)))))
        have hpZ : (pj : Int) ≤ 1000 := by have := HH.out.2.2.1; omega
        clear hX h1 h2 h3 hpre hcb hz hpj hpa hFe hLf hbiv
        gi_wp2_with fail
        refine Rgi.wpIn_reg1 [hv t ↑a, Value.slice (some { block := fx, off := 0 }) a a, Value.pointer (some { block := bh, off := 0 }), undef, Value.pointer (some { block := br, off := 0 }), Value.pointer (some { block := b, off := 0 }), Value.pointer (some { block := b6, off := 0 }), Value.int IntKind.i64 ↑L, Value.int IntKind.i64 ↑f, Value.slice (some ad) L L, Value.pointer (some { block := bi, off := 0 }), Value.pointer (some { block := Bx, off := 0 }), hv t ↑a, kv t (↑a) (Value.slice none 0 0) (Value.slice none 0 0) 0, Value.pointer (some { block := b, off := 4 }), Value.int IntKind.i64 ↑e, Value.slice (some { block := fx, off := 0 }) a a, Value.int IntKind.i64 ↑a, Value.bool true, Value.slice (some { block := fx, off := 0 }) a a, Value.pointer (some { block := b, off := 4 }), Value.int IntKind.i64 ↑e, Value.slice (some { block := fx, off := e * 64 }) (a - e) (a - e), Value.slice (some { block := fx, off := e * 64 }) (a - e) (a - e), Value.pointer (some { block := fx, off := e * 64 }), bv lf, Value.int IntKind.i64 ↑L, Value.int IntKind.i64 ↑L, Value.int IntKind.i64 ↑f, Value.int IntKind.i64 ↑f, Value.bool false, Value.bool false, Value.int IntKind.i64 ↑f, Value.slice (some { block := fx, off := e * 64 }) (a - e) (a - e), Value.int IntKind.i64 ↑(a - e), Value.bool false, Value.bool false, Value.slice (some { block := fx, off := e * 64 }) (a - e) (a - e), Value.int IntKind.i64 ↑f, Value.slice (some { block := fx, off := e * 64 }) f (a - e), Value.slice (some ad) (f * 48) c5, Value.int IntKind.i64 ↑L, Value.int IntKind.i64 ↑L, Value.slice (some ad) L L, Value.pointer (some { block := bh, off := 0 }), Value.int IntKind.u32 ↑t, Value.int IntKind.i64 ↑nu, Value.slice (some ad) L L, Value.func (Fn.func 57) #[] #[Value.pointer (some { block := y + 2, off := 0 }), Value.pointer (some { block := y, off := 0 }), Value.pointer (some { block := y + 1, off := 0 })], bv q, bv q, .slice (some ⟨fx, e * 64, none⟩) (a - e) (a - e), .int .i64 (pj : Int), .pointer (some ⟨fx, e * 64 + pj * 64, none⟩), bv z, .bool cb, u56, u57, u58, u59, undef] 61 [0, 1, 2, 3, 4, 5, 6, 7, 8, 9, 10, 11, 12, 13, 14, 15, 16, 17, 18, 19, 20, 21, 22, 23, 24, 25, 26, 27, 28, 29, 30, 31, 32, 33, 34, 35, 36, 37, 38, 39, 40, 41, 42, 43, 44, 45, 46, 47, 48, 49, 56, 57, 58, 59, 60]
          (fun lz v => Mod [] W9.drew v) []
          (by kernel_rfl) rfl rfl rfl rfl (Mod.refl _ _) (by kernel_rfl) (by kernel_rfl) ?step ?fin
        case step =>
          intro lz T v j o hj hlj hdep hst hpar hgot hcl Kq hK
          have hjn : j < 6 := (Array.getElem?_eq_some_iff.1 hj).1
          have mv9 : Mod [] W9 v := (Mod.drew [] W9).then hst
          have hqx := hX9.out.keep mv9 (by simp)
          have hq6 := h69.out.keep mv9 (by simp)
          have hqi := hi9.out.keep mv9 (by simp)
          have hqz := hz9.out.keep mv9 (by simp)
          obtain rfl | rfl | rfl | rfl | rfl | rfl : j = 0 ∨ j = 1 ∨ j = 2 ∨ j = 3 ∨ j = 4 ∨ j = 5 := by omega
          all_goals (have hj' := Option.some.inj (hj : some _ = some o); subst hj'; clear hj)
          · exact Rgi.wpi_ran (fun _ => trivial) (by intro c hc; cases hc) rfl (Rg.exec_load rfl (eval_tmp (hpar 11 (by simp))) (run_loads (Cells.of_holds hqx) Tryd.underlying73 rfl (by rw [bc_length]; exact size110))) (hK _ _ (fun s hs => by cases hs; rfl) hst)
          · exact Rgi.wpi_ran (fun _ => trivial) (by intro c hc; cases hc) rfl (Rg.exec_load rfl (eval_tmp (hpar 6 (by simp))) (Rg.run_load1 Tryd.underlying66 rfl (by simpa using hq6.cell 0))) (hK _ _ (fun s hs => by cases hs; rfl) hst)
          · exact Rgi.wpi_ran (fun _ => trivial) (by intro c hc; cases hc) rfl (Rg.exec_load rfl (eval_tmp (hpar 10 (by simp))) (Rg.run_load1 Tryd.underlying3 rfl (by simpa using hqi.cell 0))) (hK _ _ (fun s hs => by cases hs; rfl) hst)
          · exact Rgi.wpi_ran (fun _ => trivial) (by intro c hc; cases hc) rfl (exec_ixs Tryd.underlying66 size110' HJ.out.1 rfl (eval_tmp (hgot 1 _ 51 rfl (hdep ⟨1, .data⟩ (by simp) rfl) rfl)) (eval_tmp (hgot 2 _ 52 rfl (hdep ⟨2, .data⟩ (by simp) rfl) rfl))) (hK _ _ (fun s hs => by cases hs; rfl) hst)
          · exact Rgi.wpi_ran (fun _ => trivial) (by intro c hc; cases hc) rfl (Rg.exec_load rfl (eval_tmp (hgot 3 _ 53 rfl (hdep ⟨3, .data⟩ (by simp) rfl) rfl)) (run_loads hqz Tryd.underlying73 rfl (by rw [bc_length]; exact size110))) (hK _ _ (fun s hs => by cases hs; rfl) hst)
          · exact Rgi.wpi_ran (fun _ => trivial) (by intro c hc; cases hc) rfl (exec_neb_v rfl (eval_tmp (hgot 0 _ 50 rfl (hdep ⟨0, .data⟩ (by simp) rfl) rfl)) (eval_tmp (hgot 4 _ 54 rfl (hdep ⟨4, .data⟩ (by simp) rfl) rfl)) HJ.out.2.1) (hK _ _ (fun s hs => by cases hs; rfl) hst)
        case fin =>
          intro lz v8 hl hst
          have mv9 : Mod [] W9 v8 := (Mod.drew [] W9).then hst
          clear hl hst
          dsimp only
          have hi8 := hi9.out.keep mv9 (by simp)
          cases cb with
          | false =>
            have e2 : v8.cell? ⟨bi, 0, none⟩ = some (.int .i64 (pj : Int)) := hi8.cell 0
            have e3 := hi8.free 0
            have H8 := Lib.hid (And.intro hi8 mv9)
            clear hi8 mv9
            gi_wp2_with fail
            obtain ⟨hi8, mv9⟩ := H8.out
            obtain ⟨-, hcb, hz, hpj, h2, h3⟩ := HJ.out
            have hqz : q = z := by simpa using hcb
            have m2 : Mod [bi] v8 (v8.setCell ⟨bi, 0, none⟩ (.int .i64 ((pj : Int) + 1))) := Mod.setCell _ (by simp) _
            have h5 := hi8.set 0 (.int .i64 ((pj : Int) + 1))
            have hlen : (pre ++ [q]).length = pj + 1 := by rw [List.length_append, ← hpj]; rfl
            refine ⟨(mv9.keepsFrom _).trans (m2.keepsFrom1 hi8 _), (mv9.keepL _ (fun _ h => by cases h)).trans (m2.keepL _ (fun i hi hl => hi)), ?_, ?_, (h3.then mv9).trans m2 (fun i hi h => h)⟩
            · rw [hlen]
              simpa using h5
            · rw [hlen, List.take_add_one, ← h2, List.getElem?_drop, hz, hqz]
              rfl
          | true =>
            have H8 := Lib.hid mv9
            clear hi8 mv9
            gi_wp2_with fail
            obtain ⟨-, hcb, hz, hpj, h2, h3⟩ := HJ.out
            have hqz : ¬ q = z := by simpa using hcb
            refine ⟨H8.out.keepsFrom _, rfl, fun hh => hqz ?_, h3.then H8.out⟩
            have hlen : (pre ++ [q]).length = pj + 1 := by rw [List.length_append, ← hpj]; rfl
            rw [hlen, List.take_add_one, ← h2, List.getElem?_drop, hz] at hh
            simpa using hh
      case done =>
        rintro D xs W9 hD rfl ⟨h1, h2, h3⟩ hK
        rw [leavesB_length, hff] at h2
        have hord := HO.out.1
        have mW9 : Mod [] W W9 := HO.out.2.1.trans h3 (fun i hi h => by simp at h; omega)
        have hS9 := HR.out.1.mark mW9 (Nat.le_trans HO.out.2.1.size hD) hK
        have hst : standsB c s t ents.length F e = some en := by
          unfold standsB
          rw [HR.out.2.2.2.1]
          simp only
          rw [← HL.out.1, ← HL.out.2.1, if_neg (by rw [HH.out.2.2.2.1]; omega), ← HF.out.1, ← HV5.out.2.2.2.1, if_pos (by rw [← HNU.out, HF.out.1]; exact h2)]
        have hRe : Reads W9 (some ad) en := HO.out.2.2.2.1.keep h3 (fun y hy => by cases hy; simp; omega)
        have hEb : ∃ cs, Holds W9 ad.block 5 cs := by
          obtain ⟨cs, hcs⟩ := HO.out.2.2.1
          exact ⟨cs, hcs.keep h3 (by simp; omega)⟩
        have hw4 : w4.heap.size ≤ ad.block := Nat.le_trans HR.out.1.m4.size hord.2.2.2.2.1
        have hww : w.heap.size ≤ b ∧ w.heap.size ≤ w4.heap.size := by have := HN.out; omega
        have hfa : e + f ≤ a := by omega
        have hend0 := endAt_kc HR.out.1.hb
        have hmeas : a - (e + f) < a - endAt b W := by rw [hend0]; omega
        have HP := Lib.hid (And.intro hS9 (And.intro hst (And.intro hRe (And.intro hEb (And.intro hw4 (And.intro hww (And.intro hfa hmeas)))))))
        clear h1 h2 h3 hK hS9 hst hRe hEb hw4 hww hfa hend0 hmeas hLf hbiv mW9
        cases hents : ents with
        | nil =>
          have hS := HP.out.1
          have he0 := hS.e0 hents
          obtain ⟨h3, h4⟩ : st = .slice none 0 0 ∧ cm = .slice none 0 0 := by have := hS.sa; rw [hents] at this; exact this
          have hb9 := hS.hb
          rw [he0, h3, h4] at hb9
          have XK := take0_c b 50 t (a : Int) (.slice none 0 0) (.slice none 0 0) (some ad) L L [] W9 (by simpa using hb9) (by omega)
          have HE := Lib.hid (And.intro hents (And.intro he0 (And.intro h3 h4)))
          clear hents he0 h3 h4 hb9 hS
          go_wp2_with fail
          refine XK.mono ?_
          rintro r w6 ⟨⟨u, rfl⟩, h6, m6⟩
          rw [List.append_nil, ← HL.out.2.1] at h6
          clear XK
          go_wp2_with fail
          obtain ⟨q1, q2, q3, q4, q5, q6, q7, q8⟩ := HP.out
          obtain ⟨k1, k2, k3, k4⟩ := HE.out
          rw [k1, k2] at q1
          rw [k1, k2, List.length_nil] at q2
          have hSn := q1.take0 m6 h6 q2 henl (by omega) hff (by omega) (by omega) HH.out.2.2.2.1 q3 q5 q4 q6.1
          have hen := endAt_kc h6
          refine ⟨⟨D :: Ds, f, _, _, [en], n - 1, _, _, _, _, _, _, _, _, _, _, _, _, _, _, _, _, _, _, _, _, _, _, _, _, _, _, _, _, _, _, _, _, _, _, _, _, _, _, _, _, _, _, _, _, _, _, _, _, _, _, _, _, hSn, rfl⟩, by rw [hen]; omega⟩
        | cons y ys =>
          have hS := HP.out.1
          have he1 := hS.e1 (by rw [hents]; simp)
          obtain ⟨p, C, ck, k, LL, h1, h2, h3, h4, h5, h6, h7⟩ : SaidAt w4.heap.size W9 st cm (y :: ys) := by have := hS.sa; rwa [hents] at this
          have hb9 := hS.hb
          rw [h3] at hb9
          have hk5 : k ≤ 100000 := by
            have k1 := hS.el
            have k2 := h6.length
            rw [hents] at k1
            simp at k1
            have := HH.out.2.2.1
            omega
          have XK := take1_c b 50 t (a : Int) st C k ck e LL (some ad) L L [] W9 (by simpa using hb9) h5 h4 (by decide) hk5 (by omega) he1 (by omega)
          have HE := Lib.hid (And.intro hents (And.intro h1 (And.intro h2 (And.intro h4 (And.intro h5 (And.intro h6 h7))))))
          clear hents he1 h1 h2 h3 h4 h5 h6 h7 hb9 hS hk5
          go_wp2_with fail
          refine XK.mono ?_
          rintro r w6 ⟨⟨u, rfl⟩, C', ck', g6, gO, m6, gN⟩
          rw [List.append_nil, ← HL.out.2.1] at g6
          clear XK
          go_wp2_with fail
          obtain ⟨q1, q2, q3, q4, q5, q6, q7, q8⟩ := HP.out
          obtain ⟨k1, k2, k3, k4, k5, k6, k7⟩ := HE.out
          have hSn := SL.take1 k1 q1 k2 k3 k4 k5 k6 k7 m6 g6 gO gN q2 henl (by omega) hff (by omega) q7 HH.out.2.2.2.1 q3 q5 q4 q6.1 q6.2
          have hen := endAt_kc g6
          refine ⟨⟨D :: Ds, e + f, _, _, ents ++ [en], n - 1, _, _, _, _, _, _, _, _, _, _, _, _, _, _, _, _, _, _, _, _, _, _, _, _, _, _, _, _, _, _, _, _, _, _, _, _, _, _, _, _, _, _, _, _, _, _, _, _, _, _, _, _, hSn, rfl⟩, by rw [hen]; exact q8⟩
      case stop =>
        rintro D cd pre W9 hD ⟨u, hu⟩ ⟨rfl, h2, h3⟩ hK
        have hord := HO.out.1
        have mW9 : Mod [] W W9 := HO.out.2.1.trans h3 (fun i hi h => by simp at h; omega)
        have hS9 := HR.out.1.mark mW9 (Nat.le_trans HO.out.2.1.size hD) hK
        have hn2 : standsB c s t ents.length F e = none := by
          unfold standsB
          rw [HR.out.2.2.2.1]
          simp only
          rw [← HL.out.1, ← HL.out.2.1, if_neg (by rw [HH.out.2.2.2.1]; omega), ← HF.out.1, ← HV5.out.2.2.2.1, if_neg (fun q => h2 ?_)]
          rw [← HNU.out, HF.out.1] at q
          have hl := congrArg List.length hu
          rw [leavesB_length, hff, List.length_append] at hl
          have q2 := congrArg (List.take pre.length) (q.symm.trans hu)
          rw [List.take_take, Nat.min_eq_left (by omega), List.take_append_of_le_length (Nat.le_refl _), List.take_of_length_le (Nat.le_refl _)] at q2
          exact q2.symm
        clear h2 h3 hK mW9 hu hLf hbiv
        refine wpIn_wide.2 ?_
        go_wp2_with fail
        exact FIN.out (D :: Ds) e st cm ents n _ _ _ _ _ _ _ _ _ _ _ _ _ _ _ _ _ _ _ _ _ _ _ _ _ _ _ _ _ _ _ _ _ _ _ _ _ _ _ _ _ _ _ _ _ _ _ _ _ _ _ _ W9 hS9 hn2
  · go_wp2_with fail
    refine FIN.out Ds e st cm ents n _ _ _ _ _ _ _ _ _ _ _ _ _ _ _ _ _ _ _ _ _ _ _ _ _ _ _ _ _ _ _ _ _ _ _ _ _ _ _ _ _ _ _ _ _ _ _ _ _ _ _ _ W hrel ?_
    unfold standsB
    rw [List.getElem?_eq_none (by rw [HH.out.2.2.2.1]; omega)]
end
end Go.Proofs.YtcoedhemlghjoaaDoor
