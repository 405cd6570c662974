/-
  What goes on in a disk's place; the document's Crash as a value; act, of what is not asked. Contracts of mine.
-/
import Derived.Test.YtpdpahkhfilmpaaRdr
import Derived.Test.YtpdpahkhfilmpaaRowq
namespace Go.Proofs.Ytpdpahkhfilmpaa
section
open Go.RowKit
/-- append, run. -/
theorem wpList_appended {P : Program} {w : World} {ops : Array Oper} {rest : List Oper} {o : Oper} {a : Act} {Q : Exit → Act → World → Prop} (V : Value) (v : World) {U X : Value} (hgd : o.guard = none) (s x : Operand) (t : TypeId) (ho : o.op = .call { callee := .builtin .append, args := #[s, x], argTypes := #[t, t] }) (hs : a.eval s = U) (hx : a.eval x = X)
    (hrun : (Builtin.append_ #[t, t] o.type #[U, X]).run P w = .ok V v) (h : wpList P ops Q rest (a.put o.dst V) v) : wpList P ops Q (o :: rest) a w :=
  wpList_ranW (by unfold Region.wanted; rw [hgd]) V v (exec_append ho hs hx hrun) h
/-- What was done to a disk, or to the copy that goes on in its place. -/
structure Went (v v' : World) (g m : Nat) (A : Option Addr) (g' m' : Nat) (A' : Option Addr) : Prop where
  mod : Mod (g :: m :: blk A) v v'
  g : g' = g ∨ v.heap.size ≤ g'
  m : m' = m ∨ v.heap.size ≤ m'
  new : ∀ a, A' = some a → a.block ∈ blk A ∨ v.heap.size ≤ a.block
section
variable {w v v' v'' : World} {g m g1 m1 g2 m2 g' m' c c' c1 : Nat} {A A1 A2 A' : Option Addr} {S S' S1 : St}
theorem Did.went (h : Did v v' g m A A1) : Went v v' g m A g m A1 := ⟨h.mod, .inl rfl, .inl rfl, h.new⟩
theorem Went.refl : Went v v g m A g m A := ⟨Mod.refl _ _, .inl rfl, .inl rfl, fun a ha => .inl (by unfold blk; simp [ha])⟩
theorem Went.then (h : Went v v' g m A g1 m1 A1) (k : Mod [] v' v'') : Went v v'' g m A g1 m1 A1 := ⟨h.mod.then k, h.g, h.m, h.new⟩
theorem Went.pre (k : Mod [] v v') (h : Went v' v'' g m A g1 m1 A1) : Went v v'' g m A g1 m1 A1 :=
  ⟨k.pre h.mod, h.g.imp id (fun h => Nat.le_trans k.size h), h.m.imp id (fun h => Nat.le_trans k.size h), fun a ha => (h.new a ha).imp id (fun h => Nat.le_trans k.size h)⟩
theorem Went.trans (h : Went v v' g m A g1 m1 A1) (k : Went v' v'' g1 m1 A1 g2 m2 A2) : Went v v'' g m A g2 m2 A2 := by
  have hs := h.mod.size
  refine ⟨h.mod.trans k.mod (fun i hi hm => ?_), ?_, ?_, fun a ha => ?_⟩
  · simp only [List.mem_cons] at hm ⊢
    rcases hm with rfl | rfl | hm
    · rcases h.g with e | e
      · exact .inl e
      · omega
    · rcases h.m with e | e
      · exact .inr (.inl e)
      · omega
    · obtain ⟨a, ha, e⟩ := mem_blk hm
      rcases h.new a ha with q | q
      · rw [e] at q; exact .inr (.inr q)
      · omega
  · rcases k.g with rfl | e
    · exact h.g
    · exact .inr (by omega)
  · rcases k.m with rfl | e
    · exact h.m
    · exact .inr (by omega)
  · rcases k.new a ha with e | e
    · obtain ⟨b, hb, e2⟩ := mem_blk e
      rw [← e2]
      exact h.new b hb
    · exact .inr (by omega)
theorem Went.keeps (h : Went v v' g m A g1 m1 A1) (D : DAt v g m A c S) : Keeps v v' := Keeps.did D h.mod (fun i hi => by simpa only [List.mem_cons] using hi)
theorem Far.foot (h : Far w v g m A c S) : ∀ i ∈ g :: m :: blk A, w.heap.size ≤ i := fun i hi => by
  simp only [List.mem_cons] at hi
  rcases hi with rfl | rfl | hi
  · exact h.g
  · exact h.m
  · obtain ⟨a, ha, rfl⟩ := mem_blk hi
    exact h.A a ha
theorem Far.went (h : Far w v g m A c S) (D : DAt v' g1 m1 A1 c1 S1) (k : Went v v' g m A g1 m1 A1) : Far w v' g1 m1 A1 c1 S1 := by
  have hs := h.mm.size
  refine ⟨D, far_mod h.mm k.mod h.foot, ?_, ?_, fun a ha => ?_⟩
  · rcases k.g with rfl | e
    · exact h.g
    · omega
  · rcases k.m with rfl | e
    · exact h.m
    · omega
  · rcases k.new a ha with e | e
    · obtain ⟨b, hb, e2⟩ := mem_blk e
      rw [← e2]
      exact h.A b hb
    · omega
theorem Two.went (h : Two w v g m A c S g' m' A' c' S') (D : DAt v' g1 m1 A1 c1 S1) (k : Went v v' g m A g1 m1 A1) : Two w v' g1 m1 A1 c1 S1 g' m' A' c' S' := by
  have hg : g' ∉ g :: m :: blk A := by
    simp only [List.mem_cons, not_or]
    exact ⟨h.ng.symm, h.L.D.firm.ne_holds h.R.D.blk, notin_blk (h.L.D.loose.ne h.R.D.blk (by decide))⟩
  have hm : m' ∉ g :: m :: blk A := by
    simp only [List.mem_cons, not_or]
    exact ⟨fun e => h.R.D.firm.ne_holds h.L.D.blk e.symm, h.nm.symm, notin_blk (h.L.D.loose.ne_firm h.R.D.firm)⟩
  have hA : ∀ a, A' = some a → a.block ∉ g :: m :: blk A := fun a ha => by
    simp only [List.mem_cons, not_or]
    exact ⟨h.R.D.loose.ne h.L.D.blk (by decide) a ha, h.R.D.loose.ne_firm h.L.D.firm a ha, notin_blk (fun a2 ha2 => h.nA a2 a ha2 ha)⟩
  have l1 := h.R.D.blk.lt
  have l2 := h.R.D.firm.lt
  refine ⟨h.L.went D k, ⟨h.R.D.keep k.mod hg hm hA, far_mod h.R.mm k.mod h.L.foot, h.R.g, h.R.m, h.R.A⟩, ?_, ?_, fun a a' ha ha' => ?_⟩
  · rcases k.g with rfl | e
    · exact h.ng
    · omega
  · rcases k.m with rfl | e
    · exact h.nm
    · omega
  · rcases k.new a ha with e | e
    · obtain ⟨a2, ha2, e2⟩ := mem_blk e
      rw [← e2]
      exact h.nA a2 a' ha2 ha'
    · have := h.R.D.loose.lt a' ha'; omega
theorem Told.went {R : RSt} {B : Option Addr} {b : Nat} (h : Told v R B b) (D : DAt v g m A c S) (k : Went v v' g m A g1 m1 A1) : Told v' R B b :=
  h.keep k.mod (fun a ha => by
    simp only [List.mem_cons, not_or]
    exact ⟨h.ne D.blk (by decide) a ha, h.ne_firm D.firm a ha, notin_blk (fun a2 ha2 => (h.ne_own D.loose (by decide) a a2 ha ha2).symm)⟩)
end
theorem Fine.crash {R : RSt} {B : Nat} (h : Fine R B) (k : List Bool) : Fine (R.crash k) B := by
  obtain ⟨h1, h2, h3, h4, h5⟩ := h
  have := kept_length (R.story.drop R.firm) k
  refine ⟨?_, h2, by simp [RSt.crash], by simp [RSt.crash], by simp [RSt.crash]⟩
  simp only [RSt.crash, List.length_append, List.length_take]
  simp only [List.length_drop] at this
  omega
theorem Fine.act {R : RSt} {B : Nat} (h : Fine R B) (a : Ac) (hn : a.n ≤ 9223372036854775807) : Fine (R.act a).2.2 (B + 1) := by
  have hw := h.wk (Nat.le_succ B)
  obtain ⟨k, i, n, c, keep⟩ := a
  simp only at hn
  unfold RSt.act
  match k with
  | 0 => dsimp only; exact h.ask 0 i (fil 0)
  | 1 => dsimp only; exact h.ask 1 i (fil c)
  | 2 => dsimp only; exact h.ask 2 0 (fil 0)
  | 3 =>
    show Fine (if R.out then ((fil 0, 9, R) : Blk × Int × RSt) else (fil 0, 0, { R with arms := max n (-1) })).2.2 (B + 1)
    split
    · exact hw
    · exact ⟨hw.1, hw.2, hw.3, by dsimp only; omega, hw.5⟩
  | 4 =>
    show Fine (if R.out then ((fil 0, 9, R) : Blk × Int × RSt) else (fil 0, 0, { R with fails := max n (-1) })).2.2 (B + 1)
    split
    · exact hw
    · exact ⟨hw.1, hw.2, by dsimp only; omega, hw.4, hw.5⟩
  | 5 => exact hw.crash keep
  | _ + 6 => exact hw
end
section
open Go.RowKit
theorem exec_upto28 {v : World} {o : Oper} {ρ : Operand → Value} {x y : Operand} {A : Option Addr} {n c k : Nat} (hk : k ≤ c) (ho : o.op = .slice 28 x none (some y) none) (hx : ρ x = .slice A n c) (hy : ρ y = .int .i64 (k : Int)) :
    (execOp ρ o).run Try.prog v = .ok (.value (.slice A k c)) v := by
  unfold execOp
  obtain ⟨it, hq⟩ := info_of 80 (by kernel_rfl)
  simp [ho, hx, hy, Instr.sliceAt, Instr.slice, Instr.sliceBounds, Instr.sliceBound, Sem.run_bind, run_underlying Try.underlying28, go_sem, sizeOf, typeInfo, hq, hk]
theorem Cells.takew {w : World} {A : Option Addr} {l : Story} (h : Cells w A (l.flatMap wc)) (k : Nat) : Cells w A ((l.take k).flatMap wc) := by
  intro i hi
  have e : l.flatMap wc = (l.take k).flatMap wc ++ (l.drop k).flatMap wc := by rw [← List.flatMap_append, List.take_append_drop]
  obtain ⟨g, o, h1, h2⟩ := h i (by rw [e, List.length_append]; omega)
  refine ⟨g, o, h1, ?_⟩
  rw [h2]
  congr 1
  simp only [e]
  rw [List.getElem_append_left hi]
theorem run_rcrash (z f : Int) (A : Option Addr) (n c : Nat) (op : Int) (w : World) : (Instr.build 30 #[(0, .int .i64 z), (1, .int .i64 f), (2, .slice A n c), (4, .int .i64 (-1)), (5, .int .i64 (-1)), (6, .int .i64 op)]).run Try.prog w = .ok (.agg (kc z f (.slice A n c) false (-1) (-1) op).toArray) w := by
  refine run_build w _ _ _ ?_
  kernel_rfl
theorem exec_rcrash {v : World} {o : Oper} {ρ : Operand → Value} {x y u p q r : Operand} {z f op : Int} {A : Option Addr} {n c : Nat} (ho : o.op = .build 30 #[(0, x), (1, y), (2, u), (4, p), (5, q), (6, r)]) (hx : ρ x = .int .i64 z) (hy : ρ y = .int .i64 f) (hu : ρ u = .slice A n c) (hp : ρ p = .int .i64 (-1)) (hq : ρ q = .int .i64 (-1)) (hr : ρ r = .int .i64 op) : (execOp ρ o).run Try.prog v = .ok (.value (.agg (kc z f (.slice A n c) false (-1) (-1) op).toArray)) v := by
  unfold execOp
  simp only [ho, List.map_toArray, List.map_cons, List.map_nil, hx, hy, hu, hp, hq, hr, Sem.run_bind, run_rcrash, Result.andThen, Sem.run_pure]
theorem exec_litw {v : World} {o : Oper} {ρ : Operand → Value} {x : Operand} {p : Int × Blk} (ho : o.op = .buildSlice 28 1 #[(0, x)]) (hx : ρ x = wv p) : (execOp ρ o).run Try.prog v = .ok (.value (.slice (some ⟨v.heap.size, 0, none⟩) 1 1)) (v.alloc (.cells (wc p).toArray 80)) := exec_lit ho hx (run_lit28 p v)
def RcPost (w : World) (R' : RSt) (e : Ending) (w' : World) : Prop := ∃ A' c', e = .returned (rv R' A' c') ∧ Told w' R' A' c' ∧ Mod [] w w'
set_option maxRecDepth 100000 in
set_option maxHeartbeats 4000000 in
theorem rcrash_c (R : RSt) (A : Option Addr) (c : Nat) (K : Option Addr) (n ck : Nat) (keep : List Bool) (w : World) (hR : Told w R A c) (hl : R.story.length ≤ 1099511627776) (hf : R.firm ≤ R.story.length) (hb : Bools w K keep) (hn : n = keep.length) (hk : n ≤ maxLen) :
    Calls Try.prog 16 #[rv R A c, .slice K n ck] w (RcPost w (R.crash keep)) := by
  obtain ⟨z, F, s, out, ar, fa, op⟩ := R
  simp only at hl hf
  obtain ⟨N, hN⟩ : ∃ N, N = s.length := ⟨_, rfl⟩
  have hcap := hR.fits.1
  have hFN : F ≤ N := by omega
  have hFZ : (F : Int) ≤ (N : Int) := by omega
  have hNc : N ≤ c := by simp only at hcap; omega
  have hcZ : (N : Int) ≤ (c : Int) := by omega
  have hFc : F ≤ c := by omega
  obtain ⟨D, hD⟩ : ∃ D, D = s.drop F := ⟨_, rfl⟩
  obtain ⟨T, hT⟩ : ∃ T, T = s.take F := ⟨_, rfl⟩
  obtain ⟨M, hM⟩ : ∃ M, M = N - F := ⟨_, rfl⟩
  have hDl : D.length = M := by rw [hD, hM, hN, List.length_drop]
  have hTl : T.length = F := by rw [hT, List.length_take]; omega
  obtain ⟨Af, hAf⟩ : ∃ Af, Af = frs A F c := ⟨_, rfl⟩
  obtain ⟨cf, hcf⟩ : ∃ cf, cf = c - F := ⟨_, rfl⟩
  have hcells : Cells w Af (D.flatMap wc) := by rw [hAf, hD]; exact Cells.fromw hR.cells F c (by omega)
  have htake : Cells w A (T.flatMap wc) := by rw [hT]; exact Cells.takew hR.cells F
  have hMN : M ≤ 1099511627776 := by omega
  have hMZ : (M : Int) ≤ 1099511627776 := by omega
  have hTM : F + M ≤ 1099511627776 := by omega
  obtain ⟨R', hR'⟩ : ∃ R', R' = RSt.crash ⟨z, F, s, out, ar, fa, op⟩ keep := ⟨_, rfl⟩
  have hR2 : R' = ⟨z, (T ++ kept D keep).length, T ++ kept D keep, false, -1, -1, op⟩ := by rw [hR', hT, hD]; rfl
  rw [← hR']
  have hrv : rv ⟨z, F, s, out, ar, fa, op⟩ A c = .agg (kc z F (.slice A N c) out ar fa op).toArray := by rw [hN]; rfl
  rw [hrv]
  have hmx : n ≤ 9223372036854775807 := by unfold maxLen at hk; omega
  have HT := Lib.hid (And.intro hcells (And.intro htake (And.intro hDl (And.intro hTl (And.intro hTM hR2)))))
  have HF := Lib.hid (And.intro hM (And.intro hAf (And.intro hcf (And.intro hFN (And.intro hNc hFc)))))
  have HB := Lib.hid (And.intro hb (And.intro hn hmx))
  clear hcells htake hDl hTl hTM hR2 hM hAf hcf hFN hNc hFc hb hn hk hR hl hN hcap hD hT hR' hrv hf hMN
  go_enter Try.func16, Try.ntmps16
  go_wp2_with (first
    | (with_reducible refine wpList_boxes (o := ⟨some 2, .box 30 (.tmp 0), _, _, _, _⟩) rfl 30 (.tmp 0) rfl _ rfl (kc z F (.slice A N c) out ar fa op) rfl ?_; intro w1 hb1 m1 z1; replace z1 := Lib.hid z1)
    | (with_reducible refine wpList_allocs (o := ⟨some 4, .alloc 30, _, _, _, _⟩) rfl 30 rfl _ zero30 ?_; intro w2 hb2 m2 z2; replace z2 := Lib.hid z2
       obtain ⟨g2, e2⟩ : ∃ b, b = w.heap.size := ⟨_, rfl⟩
       obtain ⟨g4, e4⟩ : ∃ b, b = w1.heap.size := ⟨_, rfl⟩
       replace hb1 := hb1.keep m2 (by simp)
       rw [← e2] at hb1
       rw [← e4] at hb2
       rw [← e2, ← e4]
       have HG := Lib.hid (show w.heap.size ≤ g2 ∧ g2 < g4 ∧ g4 < w2.heap.size by have := z1.out; have := z2.out; omega)
       have mm : Mod [] w w2 := m1.then m2
       clear e2 e4 m1 m2 z1 z2)
    | (with_reducible refine wpList_ranW (o := ⟨some 8, .buildSlice 28 0 #[], _, _, _, _⟩) (by with_unfolding_all rfl) (.slice (some ⟨w2.heap.size, 0, none⟩) 0 0) (w2.alloc (.cells #[] 80)) (exec_none28 rfl) ?_
       have mA : Mod [] w2 (w2.alloc (.cells #[] 80)) := Mod.alloc [] w2 _
       have hE : Holds (w2.alloc (.cells #[] 80)) w2.heap.size 80 [] := Holds.made w2 80 []
       obtain ⟨wa, hwa⟩ : ∃ v, v = w2.alloc (.cells #[] 80) := ⟨_, rfl⟩
       obtain ⟨be, hbe⟩ : ∃ b, b = w2.heap.size := ⟨_, rfl⟩
       have HE := Lib.hid (show w2.heap.size ≤ be by omega)
       rw [← hwa, ← hbe] at hE
       rw [← hwa] at mA
       rw [← hwa, ← hbe]
       clear hwa hbe
       replace hb1 := hb1.keep mA (by simp)
       replace hb2 := hb2.keep mA (by simp)
       have c1 := hb1.cell 1
       have c2 := hb1.cell 2
       simp only [kc, List.getElem?_cons_succ, List.getElem?_cons_zero] at c1 c2)
    | (with_reducible refine wpList_ranW (o := ⟨some 13, .slice 28 (.tmp 10) none (some (.tmp 12)) none, _, _, _, _⟩) (by with_unfolding_all rfl) (.slice A F c) wa (exec_upto28 HF.out.2.2.2.2.2 rfl rfl rfl) ?_)
    | (obtain ⟨A1, d1, v1, hrun, hO, hm, hbn⟩ := run_append80 wa 28 (some ⟨be, 0, none⟩) 0 [] (own80 hE) A c T ((HT.out.2.1.keep mm (by simp)).keep mA (by simp)) (by have := HT.out.2.2.2.1; have := HT.out.2.2.2.2.1; simp; omega)
       simp only [List.length_nil, List.nil_append, HT.out.2.2.2.1] at hrun
       with_reducible refine wpList_appended (o := ⟨some 14, _, _, _, _, _⟩) (.slice A1 F d1) v1 (U := .slice (some ⟨be, 0, none⟩) 0 0) (X := .slice A F c) rfl (.tmp 8) (.tmp 13) 28 rfl rfl rfl hrun ?_
       clear hrun
       simp only [List.nil_append] at hO
       have hm' : Mod [be] wa v1 := hm.wk (fun i _ h => by simpa [blk] using h)
       have hA1 : ∀ a, A1 = some a → w.heap.size ≤ a.block := fun a ha => by
         have := mm.size; have := mA.size
         rcases hbn a ha with h1 | h1
         · have : a.block = be := by simpa [blk] using h1
           have := HE.out; omega
         · omega
       replace hb1 := hb1.keep hm' (by have := HE.out; have := HG.out; simp; omega)
       replace hb2 := hb2.keep hm' (by have := HE.out; have := HG.out; simp; omega)
       replace mm := (mm.then mA).trans hm' (fun i hi h => by have := HE.out; have := mm.size; simp at h; omega)
       clear c1 c2 hm hbn hm' mA hE
       have c1 := hb1.cell 1
       have c2 := hb1.cell 2
       simp only [kc, List.getElem?_cons_succ, List.getElem?_cons_zero] at c1 c2)
    | (with_reducible refine wpList_ranW (o := ⟨some 19, .slice 28 (.tmp 16) (some (.tmp 18)) none none, _, _, _, _⟩) (by with_unfolding_all rfl) (.slice Af M cf) v1 (by rw [HF.out.1, HF.out.2.1, HF.out.2.2.1]; exact exec_from28 HF.out.2.2.2.1 HF.out.2.2.2.2.1 rfl rfl rfl) ?_))
  clear c1 c2 hFZ hcZ
  have hO0 : OwnG wc 80 65 v1 A1 d1 (T ++ kept (D.take 0) keep) := by simpa [kept] using hO
  have hL0 : (T ++ kept (D.take 0) keep).length = F := by simpa [kept] using HT.out.2.2.2.1
  have HL0 := Lib.hid hL0
  clear hO hL0
  go_loopw [5, 21] (fun row i wi => ∃ k L : Nat, k ≤ M ∧ L ≤ F + k ∧ i = .int .i64 (k : Int) ∧ (T ++ kept (D.take k) keep).length = L ∧ ∃ A' c', row = .slice A' L c' ∧ OwnG wc 80 65 wi A' c' (T ++ kept (D.take k) keep) ∧ (∀ a, A' = some a → w.heap.size ≤ a.block ∧ a.block ≠ g2 ∧ a.block ≠ g4) ∧ Holds wi g2 30 (kc z F (.slice A N c) out ar fa op) ∧ Holds wi g4 30 r0 ∧ Mod [] w wi) (fun _ i _ => M - (intOf i).toNat)
  case atStart => exact ⟨0, F, by omega, by omega, rfl, HL0.out, A1, d1, rfl, hO0, fun a ha => ⟨hA1 a ha, hO0.ne hb1 (by decide) a ha, hO0.ne hb2 (by decide) a ha⟩, hb1, hb2, mm⟩
  case round =>
    clear hO0 hA1 hb1 hb2 mm
    obtain ⟨k, L, hk, hLk, rfl, hLe, A', c', rfl, hO, hA', hb1, hb2, mm⟩ := hrel
    have HLe := Lib.hid hLe
    clear hLe
    by_cases hkn : k < M
    · have hkZ : (k : Int) < (M : Int) := by omega
      have hkD : k < D.length := by rw [HT.out.2.2.1]; exact hkn
      obtain ⟨ga, oa, hAf, hca⟩ := Cells.elem' wc 65 (by decide) wc_length (HT.out.1.keep mm (by simp)) k hkD
      have hkt := kept_take D k keep hkD
      obtain ⟨⟨at', b⟩, hp⟩ : ∃ p, p = D[k] := ⟨_, rfl⟩
      rw [← hp] at hca hkt
      have HK := Lib.hid hkt
      have HAf := Lib.hid hAf
      clear hp hkD hkt
      subst hAf
      by_cases hkk : k < n
      · have hkkZ : (k : Int) < (n : Int) := by omega
        obtain ⟨gk, ok, rfl, hcb⟩ := HB.out.1 k (by rw [List.length_map, ← HB.out.2.1]; exact hkk)
        replace hcb := mm.cell (p := ⟨gk, ok + k, none⟩) (by simp) hcb
        rw [List.getElem_map] at hcb
        have hgt : keep[k]?.getD false = keep[k]'(by rw [← HB.out.2.1]; exact hkk) := by rw [List.getElem?_eq_getElem (by rw [← HB.out.2.1]; exact hkk)]; rfl
        generalize keep[k]'(by rw [← HB.out.2.1]; exact hkk) = bk at hcb hgt
        have HK2 := Lib.hid hgt
        clear hgt
        cases bk with
        | true =>
          have hk40 : L + 1 ≤ 1099511627776 := by have := HT.out.2.2.2.2.1; omega
          have HK40 := Lib.hid hk40
          clear hk40
          go_wp2_with (first
            | (with_reducible refine wpList_loads (o := ⟨some 25, .load 80 (.tmp 24), _, _, _, _⟩) rfl 80 (.tmp 24) rfl ga (oa + k * 65) _ rfl hca _ Try.underlying80 rfl (size80' _) (.agg (wc (at', b)).toArray) rfl ?_)
            | (with_reducible refine wpList_allocs (o := ⟨some 7, .alloc 80, _, _, _, _⟩) rfl 80 rfl _ zero80 ?_; intro w7 hb7 m7 z7; replace z7 := Lib.hid z7)
            | (with_reducible refine wpList_storesAll (o := ⟨none, .store 80 (.tmp 7) (.tmp 25), _, _, _, _⟩) rfl 80 (.tmp 7) (.tmp 25) rfl rfl wr.heap.size (wc (at', b)) rfl (.agg (wc (at', b)).toArray) rfl rfl 80 _ hb7 (by rw [wc_length, wc_length]) (wc_one _) (size80' _) ?_; intro w8 hb8 m8 z8; replace z8 := Lib.hid z8
               have mx : Mod [] wr w8 := m7.trans m8 (fun i hi h => by simp at h; omega)
               replace hO := hO.keep mx (by simp)
               replace hb1 := hb1.keep mx (by simp)
               replace hb2 := hb2.keep mx (by simp)
               replace hcb := mx.cell (p := ⟨gk, ok + k, none⟩) (by simp) hcb
               replace mm := mm.then mx
               clear mx hb7 m7 m8 z7 z8 hca)
            | (with_reducible refine wpList_loads (o := ⟨some 37, .load 80 (.tmp 7), _, _, _, _⟩) rfl 80 (.tmp 7) rfl wr.heap.size 0 _ rfl (Cells.of_holds hb8) _ Try.underlying80 rfl (size80' _) (wv (at', b)) rfl ?_)
            | (with_reducible refine wpList_ranW (o := ⟨some 38, .buildSlice 28 1 _, _, _, _, _⟩) (by with_unfolding_all rfl) (.slice (some ⟨w8.heap.size, 0, none⟩) 1 1) (w8.alloc (.cells (wc (at', b)).toArray 80)) (exec_litw (p := (at', b)) rfl rfl) ?_
               have hN : Holds (w8.alloc (.cells (wc (at', b)).toArray 80)) w8.heap.size 80 (wc (at', b)) := Holds.made w8 80 _
               have mN : Mod [] w8 (w8.alloc (.cells (wc (at', b)).toArray 80)) := Mod.alloc [] w8 _
               obtain ⟨wn, hwn⟩ : ∃ v, v = w8.alloc (.cells (wc (at', b)).toArray 80) := ⟨_, rfl⟩
               obtain ⟨bn, hbn⟩ : ∃ v, v = w8.heap.size := ⟨_, rfl⟩
               rw [← hwn, ← hbn] at hN
               rw [← hwn] at mN
               rw [← hwn, ← hbn]
               clear hwn hbn hcb
               replace hO := hO.keep mN (by simp)
               replace hb1 := hb1.keep mN (by simp)
               replace hb2 := hb2.keep mN (by simp)
               replace mm := mm.then mN)
            | (obtain ⟨A2, d2, v2, hrun, hO2, hm, hbn⟩ := run_append80 wn 28 A' c' (T ++ kept (D.take k) keep) hO (some ⟨bn, 0, none⟩) 1 [(at', b)] (by rw [List.flatMap_cons, List.flatMap_nil, List.append_nil]; exact Cells.of_holds hN) (by rw [HLe.out]; exact HK40.out)
               have e1 : (T ++ kept (D.take k) keep ++ [(at', b)]).length = L + 1 := by rw [List.length_append, HLe.out]; rfl
               have HE1 := Lib.hid e1
               rw [HLe.out, e1, show ([(at', b)] : Story).length = 1 from rfl] at hrun
               clear e1
               with_reducible refine wpList_appended (o := ⟨some 39, _, _, _, _, _⟩) (.slice A2 (L + 1) d2) v2 (U := .slice A' L c') (X := .slice (some ⟨bn, 0, none⟩) 1 1) rfl (.tmp 36) (.tmp 38) 28 rfl rfl rfl hrun ?_
               clear hrun))
          have ek : T ++ kept (D.take (k + 1)) keep = T ++ kept (D.take k) keep ++ [(at', b)] := by rw [HK.out, HK2.out]; simp
          exact ⟨⟨k + 1, L + 1, hkn, by omega, by go_num, by rw [ek]; exact HE1.out, A2, d2, rfl, by rw [ek]; exact hO2, fun a ha => ⟨by
            rcases hbn a ha with h1 | h1
            · obtain ⟨a2, ha2, e2⟩ := mem_blk h1
              rw [← e2]; exact (hA' a2 ha2).1
            · have := mm.size; omega, hO2.ne (hb1.keep hm (notin_blk (fun a2 ha2 => (hA' a2 ha2).2.1))) (by decide) a ha, hO2.ne (hb2.keep hm (notin_blk (fun a2 ha2 => (hA' a2 ha2).2.2))) (by decide) a ha⟩, hb1.keep hm (notin_blk (fun a2 ha2 => (hA' a2 ha2).2.1)), hb2.keep hm (notin_blk (fun a2 ha2 => (hA' a2 ha2).2.2)), mm.trans hm (fun i hi h => by obtain ⟨a2, ha2, e2⟩ := mem_blk h; have := (hA' a2 ha2).1; omega)⟩, by simp [intOf]; omega⟩
        | false =>
          go_wp2_with (first
            | (with_reducible refine wpList_loads (o := ⟨some 25, .load 80 (.tmp 24), _, _, _, _⟩) rfl 80 (.tmp 24) rfl ga (oa + k * 65) _ rfl hca _ Try.underlying80 rfl (size80' _) (.agg (wc (at', b)).toArray) rfl ?_)
            | (with_reducible refine wpList_allocs (o := ⟨some 7, .alloc 80, _, _, _, _⟩) rfl 80 rfl _ zero80 ?_; intro w7 hb7 m7 z7; replace z7 := Lib.hid z7)
            | (with_reducible refine wpList_storesAll (o := ⟨none, .store 80 (.tmp 7) (.tmp 25), _, _, _, _⟩) rfl 80 (.tmp 7) (.tmp 25) rfl rfl wr.heap.size (wc (at', b)) rfl (.agg (wc (at', b)).toArray) rfl rfl 80 _ hb7 (by rw [wc_length, wc_length]) (wc_one _) (size80' _) ?_; intro w8 hb8 m8 z8; replace z8 := Lib.hid z8
               have mx : Mod [] wr w8 := m7.trans m8 (fun i hi h => by simp at h; omega)
               replace hO := hO.keep mx (by simp)
               replace hb1 := hb1.keep mx (by simp)
               replace hb2 := hb2.keep mx (by simp)
               replace hcb := mx.cell (p := ⟨gk, ok + k, none⟩) (by simp) hcb
               replace mm := mm.then mx
               clear mx hb7 m7 m8 z7 z8 hca))
          have ek : T ++ kept (D.take (k + 1)) keep = T ++ kept (D.take k) keep := by rw [HK.out, HK2.out]; simp
          exact ⟨⟨k + 1, L, hkn, by omega, by go_num, by rw [ek]; exact HLe.out, A', c', rfl, by rw [ek]; exact hO, hA', hb1, hb2, mm⟩, by simp [intOf]; omega⟩
      · have hkkZ : (n : Int) ≤ (k : Int) := by omega
        have hgt : keep[k]?.getD false = false := by rw [List.getElem?_eq_none (by rw [← HB.out.2.1]; omega)]; rfl
        have HK2 := Lib.hid hgt
        clear hgt
        go_wp2_with (first
          | (with_reducible refine wpList_loads (o := ⟨some 25, .load 80 (.tmp 24), _, _, _, _⟩) rfl 80 (.tmp 24) rfl ga (oa + k * 65) _ rfl hca _ Try.underlying80 rfl (size80' _) (.agg (wc (at', b)).toArray) rfl ?_)
          | (with_reducible refine wpList_allocs (o := ⟨some 7, .alloc 80, _, _, _, _⟩) rfl 80 rfl _ zero80 ?_; intro w7 hb7 m7 z7; replace z7 := Lib.hid z7)
          | (with_reducible refine wpList_storesAll (o := ⟨none, .store 80 (.tmp 7) (.tmp 25), _, _, _, _⟩) rfl 80 (.tmp 7) (.tmp 25) rfl rfl wr.heap.size (wc (at', b)) rfl (.agg (wc (at', b)).toArray) rfl rfl 80 _ hb7 (by rw [wc_length, wc_length]) (wc_one _) (size80' _) ?_; intro w8 hb8 m8 z8; replace z8 := Lib.hid z8
             have mx : Mod [] wr w8 := m7.trans m8 (fun i hi h => by simp at h; omega)
             replace hO := hO.keep mx (by simp)
             replace hb1 := hb1.keep mx (by simp)
             replace hb2 := hb2.keep mx (by simp)
             replace mm := mm.then mx
             clear mx hb7 m7 m8 z7 z8 hca))
        have ek : T ++ kept (D.take (k + 1)) keep = T ++ kept (D.take k) keep := by rw [HK.out, HK2.out]; simp
        exact ⟨⟨k + 1, L, hkn, by omega, by go_num, by rw [ek]; exact HLe.out, A', c', rfl, by rw [ek]; exact hO, hA', hb1, hb2, mm⟩, by simp [intOf]; omega⟩
    · obtain rfl : M = k := by omega
      have hall : D.take M = D := List.take_of_length_le (by rw [HT.out.2.2.1]; exact Nat.le_refl _)
      rw [hall] at hO
      have hLe2 : (T ++ kept D keep).length = L := by rw [← hall]; exact HLe.out
      have HL2 := Lib.hid hLe2
      have c0 := hb1.cell 0
      have c6 := hb1.cell 6
      simp only [kc, List.getElem?_cons_succ, List.getElem?_cons_zero] at c0 c6
      clear hall hLe2 hkn hk HLe HL0
      go_wp2_with (first
        | (with_reducible refine wpList_ranW (o := ⟨some 48, .build 30 _, _, _, _, _⟩) (by with_unfolding_all rfl) (.agg (kc z L (.slice A' L c') false (-1) (-1) op).toArray) wr (exec_rcrash (z := z) (f := (L : Int)) (op := (op : Int)) (A := A') (n := L) (c := c') rfl rfl rfl rfl rfl rfl rfl) ?_)
        | (with_reducible refine wpList_storesAll (o := ⟨none, .store 30 (.tmp 4) (.tmp 48), _, _, _, _⟩) rfl 30 (.tmp 4) (.tmp 48) rfl rfl g4 (kc z L (.slice A' L c') false (-1) (-1) op) rfl (.agg (kc z L (.slice A' L c') false (-1) (-1) op).toArray) rfl rfl 30 _ hb2 (kc_r0 _ _ _ _ _ _ _) (kc_one _ _ _ _ _ _ _ _ _) (kc_size _ _ _ _ _ _ _) ?_; intro w9 hb9 m9 z9; replace z9 := Lib.hid z9))
      refine bodyPost_ret (results_cell_row rfl _ _ g4 30 _ (0, 0) _ rfl hb9 Try.underlying30 rfl (by rw [List.size_toArray]; exact kc_size _ _ _ _ _ _ _)) rfl ?_
      refine ⟨A', c', ?_, ?_, mm.trans m9 (fun i hi h => by have := HG.out; simp at h; omega)⟩
      · rw [HT.out.2.2.2.2.2]; unfold rv rc; simp only; rw [HL2.out]; rfl
      · rw [HT.out.2.2.2.2.2]; exact hO.keep m9 (fun a ha => by simpa using (hA' a ha).2.2)
end
section
open Go.RowKit
theorem Went.own {v v' v'' : World} {g m g1 m1 : Nat} {A A1 : Option Addr} {ms : List Nat} (h : Went v v' g m A g1 m1 A1) (k : Mod ms v' v'') (hm : ∀ i ∈ ms, v.heap.size ≤ i) : Went v v'' g m A g1 m1 A1 :=
  ⟨h.mod.trans k (fun i hi hh => by have := hm i hh; omega), h.g, h.m, h.new⟩
theorem DAt.apart {v : World} {g m c b : Nat} {A : Option Addr} {S : St} {t : TypeId} {cs : List Value} (D : DAt v g m A c S) (h : Holds v b t cs) (h1 : t ≠ 74) (h2 : t ≠ 84) : g ∉ [b] ∧ m ∉ [b] ∧ ∀ a, A = some a → a.block ∉ [b] :=
  ⟨by simpa using (h.ne D.blk h1).symm, by simpa using (D.firm.ne_holds h).symm, fun a ha => by simpa using D.loose.ne h (fun e => h2 e.symm) a ha⟩
theorem dat_arm {v : World} {g m c : Nat} {A : Option Addr} {S : St} (D : DAt v g m A c S) (n : Int) (hn : (Lit.int .i64 n).wf = true) : Calls Try.prog 24 #[.pointer (some ⟨g, 0, none⟩), .int .i64 n] v fun e v' => e = .returned (.int .i64 (S.arm n).1) ∧ DAt v' g m A c (S.arm n).2 ∧ Mod [g] v v' := by
  refine (arm_c S g m _ n v D.blk).mono ?_
  rintro e v' ⟨rfl, q1, q2⟩
  have hb : -9223372036854775808 ≤ n ∧ n < 9223372036854775808 := by simp [Lit.wf, IntKind.min, IntKind.max, IntKind.signed, IntKind.bits] at hn; omega
  have hf := D.fits
  refine ⟨rfl, (D.turn q2 q1 ?_ ?_ ?_ ?_), q2⟩ <;> unfold St.arm <;> split <;> first | rfl | exact hf | exact ⟨hf.1, hb.1, hb.2, hf.4, hf.5, hf.6⟩ | exact Nat.le_refl _
theorem dat_fail {v : World} {g m c : Nat} {A : Option Addr} {S : St} (D : DAt v g m A c S) (n : Int) (hn : (Lit.int .i64 n).wf = true) : Calls Try.prog 25 #[.pointer (some ⟨g, 0, none⟩), .int .i64 n] v fun e v' => e = .returned (.int .i64 (S.fail n).1) ∧ DAt v' g m A c (S.fail n).2 ∧ Mod [g] v v' := by
  refine (fail_c S g m _ n v D.blk).mono ?_
  rintro e v' ⟨rfl, q1, q2⟩
  have hb : -9223372036854775808 ≤ n ∧ n < 9223372036854775808 := by simp [Lit.wf, IntKind.min, IntKind.max, IntKind.signed, IntKind.bits] at hn; omega
  have hf := D.fits
  refine ⟨rfl, (D.turn q2 q1 ?_ ?_ ?_ ?_), q2⟩ <;> unfold St.fail <;> split <;> first | rfl | exact hf | exact ⟨hf.1, hf.2, hf.3, hb.1, hb.2, hf.6⟩ | exact Nat.le_refl _
theorem exec_nil47 {v : World} {o : Oper} {ρ : Operand → Value} (ho : o.op = .buildSlice 47 0 #[]) : (execOp ρ o).run Try.prog v = .ok (.value (.slice (some ⟨v.heap.size, 0, none⟩) 0 0)) (v.alloc (.cells #[] 4)) := by
  have h : (Instr.buildSlice 47 0 #[]).run Try.prog v = .ok (.slice (some ⟨v.heap.size, 0, none⟩) 0 0) (v.alloc (.cells #[] 4)) := by go_simp
  unfold execOp
  simp only [ho, List.map_toArray, List.map_nil, Sem.run_bind, h, Result.andThen, Sem.run_pure]
def ActPost (w : World) (g m : Nat) (A : Option Addr) (R : Blk × Int × St) (e : Ending) (w' : World) : Prop :=
  ∃ g' m' A' c', e = .returned (.tuple #[.pointer (some ⟨g', 0, none⟩), bv R.1, .int .i64 R.2.1]) ∧ DAt w' g' m' A' c' R.2.2 ∧ Went w w' g m A g' m' A'

set_option maxRecDepth 1000000 in
set_option maxHeartbeats 8000000 in
theorem actA_c (S : St) (g m : Nat) (A : Option Addr) (c : Nat) (kd : Int) (a : Ac) (K : Option Addr) (ck : Nat) (w : World) (D : DAt w g m A c S) (hk : a.kind = ((IntKind.u64.wrap kd) % 7).toNat) (h3 : a.kind = 3) (hw : (Lit.int .i64 a.n).wf = true) :
    Calls Try.prog 33 #[.pointer (some ⟨g, 0, none⟩), .agg (dv kd a K ck).toArray] w (ActPost w g m A (fil 0, S.arm a.n)) := by
  have hlt := D.blk.lt
  have hkz : (a.kind : Int) = 3 := by omega
  obtain ⟨R0, hR0⟩ : ∃ R0, R0 = S.arm a.n := ⟨_, rfl⟩
  have XC := fun v (Dv : DAt v g m A c S) => dat_arm Dv a.n hw
  rw [← hR0] at XC ⊢
  clear hR0 h3 hw
  go_enter Try.func33, Try.ntmps33
  go_wp2_with (first
    | (with_reducible refine wpList_boxes (o := ⟨some 3, .box 49 (.tmp 1), _, _, _, _⟩) rfl 49 (.tmp 1) rfl _ rfl (dv kd a K ck) rfl ?_; intro w1 hb1 m1 z1; replace z1 := Lib.hid z1)
    | (with_reducible refine wpList_allocs (o := ⟨some 5, .alloc 39, _, _, _, _⟩) rfl 39 rfl _ zero39 ?_; intro w2 hb2 m2 z2; replace z2 := Lib.hid z2)
    | (with_reducible refine wpList_allocs (o := ⟨some 7, .alloc 39, _, _, _, _⟩) rfl 39 rfl _ zero39 ?_; intro w3 hb3 m3 z3; replace z3 := Lib.hid z3; replace hb1 := (hb1.keep m2 (by simp)).keep m3 (by simp))
    | (with_reducible refine wpList_loads (o := ⟨some 10, .load 49 (.tmp 3), _, _, _, _⟩) rfl 49 (.tmp 3) rfl w.heap.size 0 _ rfl (Cells.of_holds hb1) _ Try.underlying49 rfl (by rw [dv_length]; exact size49) (.agg (dv kd a K ck).toArray) rfl ?_))
  refine (kind_c kd a K ck _ hk).mono ?_
  rintro e w4 ⟨rfl, m4⟩
  have mm : Mod [] w w4 := ((m1.then m2).then m3).then m4
  have D4 := D.keep mm (by simp) (by simp) (by simp)
  have h5 : Holds w4 w1.heap.size 39 (bc (fil 0)) := (hb2.keep m3 (by simp)).keep m4 (by simp)
  have h7 : Holds w4 w2.heap.size 39 (bc (fil 0)) := hb3.keep m4 (by simp)
  have h1 : Holds w4 w.heap.size 49 (dv kd a K ck) := hb1.keep m4 (by simp)
  obtain ⟨b3, e3⟩ : ∃ b, b = w.heap.size := ⟨_, rfl⟩
  obtain ⟨b5, e5⟩ : ∃ b, b = w1.heap.size := ⟨_, rfl⟩
  obtain ⟨b7, e7⟩ : ∃ b, b = w2.heap.size := ⟨_, rfl⟩
  have o1 : g < b3 := by omega
  have o2 : b3 < b5 := by have := z1.out; omega
  have o3 : b5 < b7 := by have := z2.out; omega
  have o4 : w.heap.size ≤ b3 := by omega
  have o5 : b7 < w4.heap.size := by have := h7.lt; omega
  rw [← e5] at h5
  rw [← e7] at h7
  rw [← e3] at h1
  rw [← e3, ← e5, ← e7]
  clear e3 e5 e7 hb1 hb2 hb3 m1 m2 m3 m4 z1 z2 z3
  have k2 := h1.cell 2
  have k4 := h1.cell 4
  simp only [dv, List.getElem?_cons_succ, List.getElem?_cons_zero] at k2 k4
  rw [hkz]
  clear hk hkz h1
  clear k4
  go_wp2_with fail
  refine (XC _ D4).mono ?_
  clear XC
  rintro e wz ⟨rfl, D5, m5⟩
  have W5 : Went w wz g m A g m A := Went.pre mm ⟨m5.wk (fun i _ h => by simp at h; simp [h]), .inl rfl, .inl rfl, fun a ha => .inl (by unfold blk; simp [ha])⟩
  replace h5 := h5.keep m5 (by simp; omega)
  replace h7 := h7.keep m5 (by simp; omega)
  clear m5 k2 D4
  go_wp2_with fail
  refine wp_region_det2 64 (fun s => match s with
    | 0 => .pointer (some ⟨g, 0, none⟩) | 5 => .pointer (some ⟨b5, 0, none⟩) | 7 => .pointer (some ⟨b7, 0, none⟩) | 8 => .int .i64 R0.1
    | 61 => .pointer (some ⟨g, 0, none⟩) | 62 => bv (fil 0) | 63 => .int .i64 R0.1 | 4 => .pointer (some ⟨g, 0, none⟩) | 6 => .int .i64 R0.1 | _ => undef) [0, 5, 7, 8]
    (fun l v => (l 4 = false ∧ v = wz.drew) ∨ (l 4 = true ∧ Holds v b5 39 (bc (fil 0)) ∧ Mod [b5] wz.drew v)) []
    (by kernel_rfl) rfl rfl (by intro s hs; simp at hs; rcases hs with rfl | rfl | rfl | rfl <;> rfl) (.inl ⟨rfl, rfl⟩) (drawn2B_lt (nt := 64) (by kernel_rfl)) (drawn2B_dst (by kernel_rfl)) ?step ?fin
  case step =>
    intro l T v j o hj hlj hdep hst hpar hgot Kq hK
    have hj15 : j < 6 := (Array.getElem?_eq_some_iff.1 hj).1
    have h7d : Holds wz.drew b7 39 (bc (fil 0)) := h7
    have r7 : (loadVar 39 ⟨b7, 0, none⟩).run Try.prog v = .ok (bv (fil 0)) v := by
      rcases hst with ⟨_, rfl⟩ | ⟨_, _, q⟩
      · exact run_loads (Cells.of_holds h7d) Try.underlying39 rfl (by rw [bc_length]; exact size39)
      · exact run_loads (Cells.of_holds (h7d.keep q (by simp; omega))) Try.underlying39 rfl (by rw [bc_length]; exact size39)
    obtain rfl | rfl | rfl | rfl | rfl | rfl : j = 0 ∨ j = 1 ∨ j = 2 ∨ j = 3 ∨ j = 4 ∨ j = 5 := by omega
    all_goals (have hj' := Option.some.inj (hj : some _ = some o); subst hj'; clear hj)
    · exact wp_ran rfl (exec_move rfl (eval_tmp (hpar 0 (by simp)))) (hK _ _ (fun s hs => by cases hs; rfl) (by simpa using hst))
    · exact wp_ran rfl (exec_load rfl (eval_tmp (hpar 7 (by simp))) r7) (hK _ _ (fun s hs => by cases hs; rfl) (by simpa using hst))
    · exact wp_ran rfl (exec_move rfl (eval_tmp (hpar 8 (by simp)))) (hK _ _ (fun s hs => by cases hs; rfl) (by simpa using hst))
    · exact wp_ran rfl (exec_assign rfl (eval_tmp (hgot 0 _ _ rfl (hdep ⟨0, .data⟩ (by simp) rfl) rfl))) (hK _ _ (fun s hs => by cases hs; rfl) (by simpa using hst))
    · rcases hst with ⟨_, rfl⟩ | ⟨a1, _⟩
      · have h5d : Holds wz.drew b5 39 (bc (fil 0)) := h5
        exact wp_stored (ty := 39) (V := bv (fil 0)) (cs := bc (fil 0)) rfl rfl (eval_tmp (hpar 5 (by simp))) (eval_tmp (hgot 1 _ _ rfl (hdep ⟨1, .data⟩ (by simp) rfl) rfl)) rfl h5d rfl (bc_one _) (by rw [bc_length]; exact size39) (fun v' q1 q2 => hK _ _ (fun s hs => by cases hs) (.inr ⟨rfl, q1, q2⟩))
      · rw [hlj] at a1; cases a1
    · exact wp_ran rfl (exec_assign rfl (eval_tmp (hgot 2 _ _ rfl (hdep ⟨2, .data⟩ (by simp) rfl) rfl))) (hK _ _ (fun s hs => by cases hs; rfl) (by simpa using hst))
  case fin =>
    intro l T v hl hst ht hd hpar hgot
    have e4 : l 4 = true := hl 4 (by decide)
    rcases hst with ⟨a1, _⟩ | ⟨_, q1, q2⟩
    · rw [e4] at a1; cases a1
    · have t4 := hgot 3 _ 4 rfl rfl
      have t5 := hpar 5 (by simp)
      have t6 := hgot 5 _ 6 rfl rfl
      have D6 := D5.keep (Mod.drew [] wz) (by simp) (by simp) (by simp)
      have h5d : Holds wz.drew b5 39 (bc (fil 0)) := h5
      obtain ⟨d1, d2, d3⟩ := D6.apart h5d (by decide) (by decide)
      have D7 := D6.keep q2 d1 d2 d3
      have W7 := (W5.then (Mod.drew [] wz)).own q2 (fun i hi => by simp at hi; omega)
      go_wp2
      refine bodyPost_ret (results_tct rfl _ _ b5 (bc (fil 0)) _ _ _ t4 t5 t6 (Cells.of_holds q1) Try.underlying39 rfl (by rw [bc_length]; exact size39)) hd ?_
      exact ⟨g, m, A, c, rfl, D7, W7⟩

set_option maxRecDepth 1000000 in
set_option maxHeartbeats 8000000 in
theorem actF_c (S : St) (g m : Nat) (A : Option Addr) (c : Nat) (kd : Int) (a : Ac) (K : Option Addr) (ck : Nat) (w : World) (D : DAt w g m A c S) (hk : a.kind = ((IntKind.u64.wrap kd) % 7).toNat) (h3 : a.kind = 4) (hw : (Lit.int .i64 a.n).wf = true) :
    Calls Try.prog 33 #[.pointer (some ⟨g, 0, none⟩), .agg (dv kd a K ck).toArray] w (ActPost w g m A (fil 0, S.fail a.n)) := by
  have hlt := D.blk.lt
  have hkz : (a.kind : Int) = 4 := by omega
  obtain ⟨R0, hR0⟩ : ∃ R0, R0 = S.fail a.n := ⟨_, rfl⟩
  have XC := fun v (Dv : DAt v g m A c S) => dat_fail Dv a.n hw
  rw [← hR0] at XC ⊢
  clear hR0 h3 hw
  go_enter Try.func33, Try.ntmps33
  go_wp2_with (first
    | (with_reducible refine wpList_boxes (o := ⟨some 3, .box 49 (.tmp 1), _, _, _, _⟩) rfl 49 (.tmp 1) rfl _ rfl (dv kd a K ck) rfl ?_; intro w1 hb1 m1 z1; replace z1 := Lib.hid z1)
    | (with_reducible refine wpList_allocs (o := ⟨some 5, .alloc 39, _, _, _, _⟩) rfl 39 rfl _ zero39 ?_; intro w2 hb2 m2 z2; replace z2 := Lib.hid z2)
    | (with_reducible refine wpList_allocs (o := ⟨some 7, .alloc 39, _, _, _, _⟩) rfl 39 rfl _ zero39 ?_; intro w3 hb3 m3 z3; replace z3 := Lib.hid z3; replace hb1 := (hb1.keep m2 (by simp)).keep m3 (by simp))
    | (with_reducible refine wpList_loads (o := ⟨some 10, .load 49 (.tmp 3), _, _, _, _⟩) rfl 49 (.tmp 3) rfl w.heap.size 0 _ rfl (Cells.of_holds hb1) _ Try.underlying49 rfl (by rw [dv_length]; exact size49) (.agg (dv kd a K ck).toArray) rfl ?_))
  refine (kind_c kd a K ck _ hk).mono ?_
  rintro e w4 ⟨rfl, m4⟩
  have mm : Mod [] w w4 := ((m1.then m2).then m3).then m4
  have D4 := D.keep mm (by simp) (by simp) (by simp)
  have h5 : Holds w4 w1.heap.size 39 (bc (fil 0)) := (hb2.keep m3 (by simp)).keep m4 (by simp)
  have h7 : Holds w4 w2.heap.size 39 (bc (fil 0)) := hb3.keep m4 (by simp)
  have h1 : Holds w4 w.heap.size 49 (dv kd a K ck) := hb1.keep m4 (by simp)
  obtain ⟨b3, e3⟩ : ∃ b, b = w.heap.size := ⟨_, rfl⟩
  obtain ⟨b5, e5⟩ : ∃ b, b = w1.heap.size := ⟨_, rfl⟩
  obtain ⟨b7, e7⟩ : ∃ b, b = w2.heap.size := ⟨_, rfl⟩
  have o1 : g < b3 := by omega
  have o2 : b3 < b5 := by have := z1.out; omega
  have o3 : b5 < b7 := by have := z2.out; omega
  have o4 : w.heap.size ≤ b3 := by omega
  have o5 : b7 < w4.heap.size := by have := h7.lt; omega
  rw [← e5] at h5
  rw [← e7] at h7
  rw [← e3] at h1
  rw [← e3, ← e5, ← e7]
  clear e3 e5 e7 hb1 hb2 hb3 m1 m2 m3 m4 z1 z2 z3
  have k2 := h1.cell 2
  have k4 := h1.cell 4
  simp only [dv, List.getElem?_cons_succ, List.getElem?_cons_zero] at k2 k4
  rw [hkz]
  clear hk hkz h1
  clear k4
  go_wp2_with fail
  refine (XC _ D4).mono ?_
  clear XC
  rintro e wz ⟨rfl, D5, m5⟩
  have W5 : Went w wz g m A g m A := Went.pre mm ⟨m5.wk (fun i _ h => by simp at h; simp [h]), .inl rfl, .inl rfl, fun a ha => .inl (by unfold blk; simp [ha])⟩
  replace h5 := h5.keep m5 (by simp; omega)
  replace h7 := h7.keep m5 (by simp; omega)
  clear m5 k2 D4
  go_wp2_with fail
  refine wp_region_det2 64 (fun s => match s with
    | 0 => .pointer (some ⟨g, 0, none⟩) | 5 => .pointer (some ⟨b5, 0, none⟩) | 7 => .pointer (some ⟨b7, 0, none⟩) | 8 => .int .i64 R0.1
    | 61 => .pointer (some ⟨g, 0, none⟩) | 62 => bv (fil 0) | 63 => .int .i64 R0.1 | 4 => .pointer (some ⟨g, 0, none⟩) | 6 => .int .i64 R0.1 | _ => undef) [0, 5, 7, 8]
    (fun l v => (l 4 = false ∧ v = wz.drew) ∨ (l 4 = true ∧ Holds v b5 39 (bc (fil 0)) ∧ Mod [b5] wz.drew v)) []
    (by kernel_rfl) rfl rfl (by intro s hs; simp at hs; rcases hs with rfl | rfl | rfl | rfl <;> rfl) (.inl ⟨rfl, rfl⟩) (drawn2B_lt (nt := 64) (by kernel_rfl)) (drawn2B_dst (by kernel_rfl)) ?step ?fin
  case step =>
    intro l T v j o hj hlj hdep hst hpar hgot Kq hK
    have hj15 : j < 6 := (Array.getElem?_eq_some_iff.1 hj).1
    have h7d : Holds wz.drew b7 39 (bc (fil 0)) := h7
    have r7 : (loadVar 39 ⟨b7, 0, none⟩).run Try.prog v = .ok (bv (fil 0)) v := by
      rcases hst with ⟨_, rfl⟩ | ⟨_, _, q⟩
      · exact run_loads (Cells.of_holds h7d) Try.underlying39 rfl (by rw [bc_length]; exact size39)
      · exact run_loads (Cells.of_holds (h7d.keep q (by simp; omega))) Try.underlying39 rfl (by rw [bc_length]; exact size39)
    obtain rfl | rfl | rfl | rfl | rfl | rfl : j = 0 ∨ j = 1 ∨ j = 2 ∨ j = 3 ∨ j = 4 ∨ j = 5 := by omega
    all_goals (have hj' := Option.some.inj (hj : some _ = some o); subst hj'; clear hj)
    · exact wp_ran rfl (exec_move rfl (eval_tmp (hpar 0 (by simp)))) (hK _ _ (fun s hs => by cases hs; rfl) (by simpa using hst))
    · exact wp_ran rfl (exec_load rfl (eval_tmp (hpar 7 (by simp))) r7) (hK _ _ (fun s hs => by cases hs; rfl) (by simpa using hst))
    · exact wp_ran rfl (exec_move rfl (eval_tmp (hpar 8 (by simp)))) (hK _ _ (fun s hs => by cases hs; rfl) (by simpa using hst))
    · exact wp_ran rfl (exec_assign rfl (eval_tmp (hgot 0 _ _ rfl (hdep ⟨0, .data⟩ (by simp) rfl) rfl))) (hK _ _ (fun s hs => by cases hs; rfl) (by simpa using hst))
    · rcases hst with ⟨_, rfl⟩ | ⟨a1, _⟩
      · have h5d : Holds wz.drew b5 39 (bc (fil 0)) := h5
        exact wp_stored (ty := 39) (V := bv (fil 0)) (cs := bc (fil 0)) rfl rfl (eval_tmp (hpar 5 (by simp))) (eval_tmp (hgot 1 _ _ rfl (hdep ⟨1, .data⟩ (by simp) rfl) rfl)) rfl h5d rfl (bc_one _) (by rw [bc_length]; exact size39) (fun v' q1 q2 => hK _ _ (fun s hs => by cases hs) (.inr ⟨rfl, q1, q2⟩))
      · rw [hlj] at a1; cases a1
    · exact wp_ran rfl (exec_assign rfl (eval_tmp (hgot 2 _ _ rfl (hdep ⟨2, .data⟩ (by simp) rfl) rfl))) (hK _ _ (fun s hs => by cases hs; rfl) (by simpa using hst))
  case fin =>
    intro l T v hl hst ht hd hpar hgot
    have e4 : l 4 = true := hl 4 (by decide)
    rcases hst with ⟨a1, _⟩ | ⟨_, q1, q2⟩
    · rw [e4] at a1; cases a1
    · have t4 := hgot 3 _ 4 rfl rfl
      have t5 := hpar 5 (by simp)
      have t6 := hgot 5 _ 6 rfl rfl
      have D6 := D5.keep (Mod.drew [] wz) (by simp) (by simp) (by simp)
      have h5d : Holds wz.drew b5 39 (bc (fil 0)) := h5
      obtain ⟨d1, d2, d3⟩ := D6.apart h5d (by decide) (by decide)
      have D7 := D6.keep q2 d1 d2 d3
      have W7 := (W5.then (Mod.drew [] wz)).own q2 (fun i hi => by simp at hi; omega)
      go_wp2
      refine bodyPost_ret (results_tct rfl _ _ b5 (bc (fil 0)) _ _ _ t4 t5 t6 (Cells.of_holds q1) Try.underlying39 rfl (by rw [bc_length]; exact size39)) hd ?_
      exact ⟨g, m, A, c, rfl, D7, W7⟩

set_option maxRecDepth 1000000 in
set_option maxHeartbeats 8000000 in
theorem actC_c (S : St) (g m : Nat) (A : Option Addr) (c : Nat) (kd : Int) (a : Ac) (K : Option Addr) (ck : Nat) (w : World) (D : DAt w g m A c S) (hk : a.kind = ((IntKind.u64.wrap kd) % 7).toNat) (h3 : a.kind = 5) (hb : Bools w K a.keep) (hkl : a.keep.length ≤ 140737488355328) :
    Calls Try.prog 33 #[.pointer (some ⟨g, 0, none⟩), .agg (dv kd a K ck).toArray] w (ActPost w g m A (fil 0, 0, S.crash a.keep)) := by
  have hlt := D.blk.lt
  have hkz : (a.kind : Int) = 5 := by omega
  obtain ⟨nk, hnk⟩ : ∃ n, n = a.keep.length := ⟨_, rfl⟩
  have HB := Lib.hid (And.intro hb (And.intro hkl hnk))
  clear hb hkl hnk h3
  go_enter Try.func33, Try.ntmps33
  go_wp2_with (first
    | (with_reducible refine wpList_boxes (o := ⟨some 3, .box 49 (.tmp 1), _, _, _, _⟩) rfl 49 (.tmp 1) rfl _ rfl (dv kd a K ck) rfl ?_; intro w1 hb1 m1 z1; replace z1 := Lib.hid z1)
    | (with_reducible refine wpList_allocs (o := ⟨some 5, .alloc 39, _, _, _, _⟩) rfl 39 rfl _ zero39 ?_; intro w2 hb2 m2 z2; replace z2 := Lib.hid z2)
    | (with_reducible refine wpList_allocs (o := ⟨some 7, .alloc 39, _, _, _, _⟩) rfl 39 rfl _ zero39 ?_; intro w3 hb3 m3 z3; replace z3 := Lib.hid z3; replace hb1 := (hb1.keep m2 (by simp)).keep m3 (by simp))
    | (with_reducible refine wpList_loads (o := ⟨some 10, .load 49 (.tmp 3), _, _, _, _⟩) rfl 49 (.tmp 3) rfl w.heap.size 0 _ rfl (Cells.of_holds hb1) _ Try.underlying49 rfl (by rw [dv_length]; exact size49) (.agg (dv kd a K ck).toArray) rfl ?_))
  refine (kind_c kd a K ck _ hk).mono ?_
  rintro e w4 ⟨rfl, m4⟩
  have mm : Mod [] w w4 := ((m1.then m2).then m3).then m4
  have D4 := D.keep mm (by simp) (by simp) (by simp)
  have h5 : Holds w4 w1.heap.size 39 (bc (fil 0)) := (hb2.keep m3 (by simp)).keep m4 (by simp)
  have h7 : Holds w4 w2.heap.size 39 (bc (fil 0)) := hb3.keep m4 (by simp)
  have h1 : Holds w4 w.heap.size 49 (dv kd a K ck) := hb1.keep m4 (by simp)
  obtain ⟨b3, e3⟩ : ∃ b, b = w.heap.size := ⟨_, rfl⟩
  obtain ⟨b5, e5⟩ : ∃ b, b = w1.heap.size := ⟨_, rfl⟩
  obtain ⟨b7, e7⟩ : ∃ b, b = w2.heap.size := ⟨_, rfl⟩
  have o1 : g < b3 := by omega
  have o2 : b3 < b5 := by have := z1.out; omega
  have o3 : b5 < b7 := by have := z2.out; omega
  have o4 : w.heap.size ≤ b3 := by omega
  have o5 : b7 < w4.heap.size := by have := h7.lt; omega
  rw [← e5] at h5
  rw [← e7] at h7
  rw [← e3] at h1
  rw [← e3, ← e5, ← e7]
  clear e3 e5 e7 hb1 hb2 hb3 m1 m2 m3 m4 z1 z2 z3
  have k2 := h1.cell 2
  have k4 := h1.cell 4
  simp only [dv, List.getElem?_cons_succ, List.getElem?_cons_zero] at k2 k4
  rw [hkz]
  clear hk hkz h1
  clear k2
  have hnl : a.keep.length ≤ maxLen := by have := HB.out.2.1; unfold maxLen; omega
  have HNL := Lib.hid hnl
  clear hnl
  go_wp2_with (first
    | (with_reducible refine wpList_ranW (o := ⟨some 56, .buildSlice 47 0 #[], _, _, _, _⟩) (by with_unfolding_all rfl) (.slice (some ⟨w4.heap.size, 0, none⟩) 0 0) (w4.alloc (.cells #[] 4)) (exec_nil47 rfl) ?_
       have mA : Mod [] w4 (w4.alloc (.cells #[] 4)) := Mod.alloc [] w4 _
       have hE : Holds (w4.alloc (.cells #[] 4)) w4.heap.size 4 [] := Holds.made w4 4 []
       replace k4 := mA.cell (by simp) k4
       obtain ⟨wa, hwa⟩ : ∃ v, v = w4.alloc (.cells #[] 4) := ⟨_, rfl⟩
       obtain ⟨be, hbe⟩ : ∃ b, b = w4.heap.size := ⟨_, rfl⟩
       rw [← hwa, ← hbe] at hE
       rw [← hwa] at mA k4
       rw [← hwa, ← hbe]
       have HW := Lib.hid hbe
       clear hwa hbe)
    | (obtain ⟨A', c', v', hrun, hb, hm⟩ := run_appendB wa 47 (some ⟨be, 0, none⟩) 0 (OwnG.of_holds (f := fun b : Bool => [Value.bool b]) (e := 4) (size := 1) (l := []) hE (fun _ => rfl) (by decide)) K ck a.keep ((HB.out.1.keep mm (by simp)).keep mA (by simp)) HB.out.2.1
       with_reducible refine wpList_appended (o := ⟨some 59, _, _, _, _, _⟩) (.slice A' a.keep.length c') v' (U := .slice (some ⟨be, 0, none⟩) 0 0) (X := .slice K a.keep.length ck) rfl (.tmp 56) (.tmp 58) 47 rfl rfl rfl hrun ?_
       clear hrun
       have hm' : Mod [be] wa v' := hm.wk (fun i _ h => by simpa [blk] using h)))
  have hb4 := HW.out
  obtain ⟨d1, d2, d3⟩ := (D4.keep mA (by simp) (by simp) (by simp)).apart hE (by decide) (by decide)
  have D4' := (D4.keep mA (by simp) (by simp) (by simp)).keep hm' d1 d2 d3
  refine (crash_c S g m A c A' a.keep.length c' a.keep v' D4' hb rfl HNL.out).mono ?_
  rintro e wz ⟨rfl, D5, m5⟩
  have mm' : Mod [] w v' := (mm.then mA).trans hm' (fun i hi h => by have := mm.size; simp at h; omega)
  have W5 : Went w wz g m A g m none := Went.pre mm' ⟨m5.wk (fun i _ h => by simp at h ⊢; rcases h with h | h <;> simp [h]), .inl rfl, .inl rfl, fun a ha => by cases ha⟩
  have n5 := (D4'.firm.ne_holds (((h5.keep mA (by simp))).keep hm' (by simp; omega)))
  have n7 := (D4'.firm.ne_holds (((h7.keep mA (by simp))).keep hm' (by simp; omega)))
  replace h5 := ((h5.keep mA (by simp)).keep hm' (by simp; omega)).keep m5 (by simp; omega)
  replace h7 := ((h7.keep mA (by simp)).keep hm' (by simp; omega)).keep m5 (by simp; omega)
  clear m5 k4 D4 D4' mA hm' hm hE hb d1 d2 d3 n5 n7 hb4
  go_wp2_with fail
  refine wp_region_det2 64 (fun s => match s with
    | 0 => .pointer (some ⟨g, 0, none⟩) | 5 => .pointer (some ⟨b5, 0, none⟩) | 7 => .pointer (some ⟨b7, 0, none⟩) | 8 => .int .i64 0
    | 61 => .pointer (some ⟨g, 0, none⟩) | 62 => bv (fil 0) | 63 => .int .i64 0 | 4 => .pointer (some ⟨g, 0, none⟩) | 6 => .int .i64 0 | _ => undef) [0, 5, 7, 8]
    (fun l v => (l 4 = false ∧ v = wz.drew) ∨ (l 4 = true ∧ Holds v b5 39 (bc (fil 0)) ∧ Mod [b5] wz.drew v)) []
    (by kernel_rfl) rfl rfl (by intro s hs; simp at hs; rcases hs with rfl | rfl | rfl | rfl <;> rfl) (.inl ⟨rfl, rfl⟩) (drawn2B_lt (nt := 64) (by kernel_rfl)) (drawn2B_dst (by kernel_rfl)) ?step ?fin
  case step =>
    intro l T v j o hj hlj hdep hst hpar hgot Kq hK
    have hj15 : j < 6 := (Array.getElem?_eq_some_iff.1 hj).1
    have h7d : Holds wz.drew b7 39 (bc (fil 0)) := h7
    have r7 : (loadVar 39 ⟨b7, 0, none⟩).run Try.prog v = .ok (bv (fil 0)) v := by
      rcases hst with ⟨_, rfl⟩ | ⟨_, _, q⟩
      · exact run_loads (Cells.of_holds h7d) Try.underlying39 rfl (by rw [bc_length]; exact size39)
      · exact run_loads (Cells.of_holds (h7d.keep q (by simp; omega))) Try.underlying39 rfl (by rw [bc_length]; exact size39)
    obtain rfl | rfl | rfl | rfl | rfl | rfl : j = 0 ∨ j = 1 ∨ j = 2 ∨ j = 3 ∨ j = 4 ∨ j = 5 := by omega
    all_goals (have hj' := Option.some.inj (hj : some _ = some o); subst hj'; clear hj)
    · exact wp_ran rfl (exec_move rfl (eval_tmp (hpar 0 (by simp)))) (hK _ _ (fun s hs => by cases hs; rfl) (by simpa using hst))
    · exact wp_ran rfl (exec_load rfl (eval_tmp (hpar 7 (by simp))) r7) (hK _ _ (fun s hs => by cases hs; rfl) (by simpa using hst))
    · exact wp_ran rfl (exec_move rfl (eval_tmp (hpar 8 (by simp)))) (hK _ _ (fun s hs => by cases hs; rfl) (by simpa using hst))
    · exact wp_ran rfl (exec_assign rfl (eval_tmp (hgot 0 _ _ rfl (hdep ⟨0, .data⟩ (by simp) rfl) rfl))) (hK _ _ (fun s hs => by cases hs; rfl) (by simpa using hst))
    · rcases hst with ⟨_, rfl⟩ | ⟨a1, _⟩
      · have h5d : Holds wz.drew b5 39 (bc (fil 0)) := h5
        exact wp_stored (ty := 39) (V := bv (fil 0)) (cs := bc (fil 0)) rfl rfl (eval_tmp (hpar 5 (by simp))) (eval_tmp (hgot 1 _ _ rfl (hdep ⟨1, .data⟩ (by simp) rfl) rfl)) rfl h5d rfl (bc_one _) (by rw [bc_length]; exact size39) (fun v' q1 q2 => hK _ _ (fun s hs => by cases hs) (.inr ⟨rfl, q1, q2⟩))
      · rw [hlj] at a1; cases a1
    · exact wp_ran rfl (exec_assign rfl (eval_tmp (hgot 2 _ _ rfl (hdep ⟨2, .data⟩ (by simp) rfl) rfl))) (hK _ _ (fun s hs => by cases hs; rfl) (by simpa using hst))
  case fin =>
    intro l T v hl hst ht hd hpar hgot
    have e4 : l 4 = true := hl 4 (by decide)
    rcases hst with ⟨a1, _⟩ | ⟨_, q1, q2⟩
    · rw [e4] at a1; cases a1
    · have t4 := hgot 3 _ 4 rfl rfl
      have t5 := hpar 5 (by simp)
      have t6 := hgot 5 _ 6 rfl rfl
      have D6 := D5.keep (Mod.drew [] wz) (by simp) (by simp) (by simp)
      have h5d : Holds wz.drew b5 39 (bc (fil 0)) := h5
      obtain ⟨d1, d2, d3⟩ := D6.apart h5d (by decide) (by decide)
      have D7 := D6.keep q2 d1 d2 d3
      have W7 := (W5.then (Mod.drew [] wz)).own q2 (fun i hi => by simp at hi; omega)
      go_wp2
      refine bodyPost_ret (results_tct rfl _ _ b5 (bc (fil 0)) _ _ _ t4 t5 t6 (Cells.of_holds q1) Try.underlying39 rfl (by rw [bc_length]; exact size39)) hd ?_
      exact ⟨g, m, none, 0, rfl, D7, W7⟩

set_option maxRecDepth 1000000 in
set_option maxHeartbeats 8000000 in
theorem actK_c (S : St) (g m : Nat) (A : Option Addr) (c : Nat) (kd : Int) (a : Ac) (K : Option Addr) (ck : Nat) (w : World) (D : DAt w g m A c S) (hk : a.kind = ((IntKind.u64.wrap kd) % 7).toNat) (h3 : a.kind = 6) :
    Calls Try.prog 33 #[.pointer (some ⟨g, 0, none⟩), .agg (dv kd a K ck).toArray] w (ActPost w g m A (fil 0, 0, S)) := by
  have hlt := D.blk.lt
  have hkz : (a.kind : Int) = 6 := by omega
  clear h3
  go_enter Try.func33, Try.ntmps33
  go_wp2_with (first
    | (with_reducible refine wpList_boxes (o := ⟨some 3, .box 49 (.tmp 1), _, _, _, _⟩) rfl 49 (.tmp 1) rfl _ rfl (dv kd a K ck) rfl ?_; intro w1 hb1 m1 z1; replace z1 := Lib.hid z1)
    | (with_reducible refine wpList_allocs (o := ⟨some 5, .alloc 39, _, _, _, _⟩) rfl 39 rfl _ zero39 ?_; intro w2 hb2 m2 z2; replace z2 := Lib.hid z2)
    | (with_reducible refine wpList_allocs (o := ⟨some 7, .alloc 39, _, _, _, _⟩) rfl 39 rfl _ zero39 ?_; intro w3 hb3 m3 z3; replace z3 := Lib.hid z3; replace hb1 := (hb1.keep m2 (by simp)).keep m3 (by simp))
    | (with_reducible refine wpList_loads (o := ⟨some 10, .load 49 (.tmp 3), _, _, _, _⟩) rfl 49 (.tmp 3) rfl w.heap.size 0 _ rfl (Cells.of_holds hb1) _ Try.underlying49 rfl (by rw [dv_length]; exact size49) (.agg (dv kd a K ck).toArray) rfl ?_))
  refine (kind_c kd a K ck _ hk).mono ?_
  rintro e w4 ⟨rfl, m4⟩
  have mm : Mod [] w w4 := ((m1.then m2).then m3).then m4
  have D4 := D.keep mm (by simp) (by simp) (by simp)
  have h5 : Holds w4 w1.heap.size 39 (bc (fil 0)) := (hb2.keep m3 (by simp)).keep m4 (by simp)
  have h7 : Holds w4 w2.heap.size 39 (bc (fil 0)) := hb3.keep m4 (by simp)
  have h1 : Holds w4 w.heap.size 49 (dv kd a K ck) := hb1.keep m4 (by simp)
  obtain ⟨b3, e3⟩ : ∃ b, b = w.heap.size := ⟨_, rfl⟩
  obtain ⟨b5, e5⟩ : ∃ b, b = w1.heap.size := ⟨_, rfl⟩
  obtain ⟨b7, e7⟩ : ∃ b, b = w2.heap.size := ⟨_, rfl⟩
  have o1 : g < b3 := by omega
  have o2 : b3 < b5 := by have := z1.out; omega
  have o3 : b5 < b7 := by have := z2.out; omega
  have o4 : w.heap.size ≤ b3 := by omega
  have o5 : b7 < w4.heap.size := by have := h7.lt; omega
  rw [← e5] at h5
  rw [← e7] at h7
  rw [← e3] at h1
  rw [← e3, ← e5, ← e7]
  clear e3 e5 e7 hb1 hb2 hb3 m1 m2 m3 m4 z1 z2 z3
  have k2 := h1.cell 2
  have k4 := h1.cell 4
  simp only [dv, List.getElem?_cons_succ, List.getElem?_cons_zero] at k2 k4
  rw [hkz]
  clear hk hkz h1
  clear k2 k4
  go_wp2_with fail
  refine (copy_c S g m A c w4 D4).mono ?_
  rintro e wz ⟨g2, m2, A2, c2, rfl, D5, m5, f1, f2, f3⟩
  have ms := mm.size
  have W5 : Went w wz g m A g2 m2 A2 := ⟨(mm.then m5).wk (fun i _ h => by cases h), .inr (by omega), .inr (by omega), fun a ha => .inr (by have := f3 a ha; omega)⟩
  replace h5 := h5.keep m5 (by simp)
  replace h7 := h7.keep m5 (by simp)
  clear m5 D4 f1 f2 f3 ms
  go_wp2_with fail
  refine wp_region_det2 64 (fun s => match s with
    | 9 => .pointer (some ⟨g2, 0, none⟩) | 5 => .pointer (some ⟨b5, 0, none⟩) | 7 => .pointer (some ⟨b7, 0, none⟩) | 8 => .int .i64 0
    | 16 => .pointer (some ⟨g2, 0, none⟩) | 17 => bv (fil 0) | 18 => .int .i64 0 | 4 => .pointer (some ⟨g2, 0, none⟩) | 6 => .int .i64 0 | _ => undef) [9, 5, 7, 8]
    (fun l v => (l 4 = false ∧ v = wz.drew) ∨ (l 4 = true ∧ Holds v b5 39 (bc (fil 0)) ∧ Mod [b5] wz.drew v)) []
    (by kernel_rfl) rfl rfl (by intro s hs; simp at hs; rcases hs with rfl | rfl | rfl | rfl <;> rfl) (.inl ⟨rfl, rfl⟩) (drawn2B_lt (nt := 64) (by kernel_rfl)) (drawn2B_dst (by kernel_rfl)) ?step ?fin
  case step =>
    intro l T v j o hj hlj hdep hst hpar hgot Kq hK
    have hj15 : j < 6 := (Array.getElem?_eq_some_iff.1 hj).1
    have h7d : Holds wz.drew b7 39 (bc (fil 0)) := h7
    have r7 : (loadVar 39 ⟨b7, 0, none⟩).run Try.prog v = .ok (bv (fil 0)) v := by
      rcases hst with ⟨_, rfl⟩ | ⟨_, _, q⟩
      · exact run_loads (Cells.of_holds h7d) Try.underlying39 rfl (by rw [bc_length]; exact size39)
      · exact run_loads (Cells.of_holds (h7d.keep q (by simp; omega))) Try.underlying39 rfl (by rw [bc_length]; exact size39)
    obtain rfl | rfl | rfl | rfl | rfl | rfl : j = 0 ∨ j = 1 ∨ j = 2 ∨ j = 3 ∨ j = 4 ∨ j = 5 := by omega
    all_goals (have hj' := Option.some.inj (hj : some _ = some o); subst hj'; clear hj)
    · exact wp_ran rfl (exec_move rfl (eval_tmp (hpar 9 (by simp)))) (hK _ _ (fun s hs => by cases hs; rfl) (by simpa using hst))
    · exact wp_ran rfl (exec_load rfl (eval_tmp (hpar 7 (by simp))) r7) (hK _ _ (fun s hs => by cases hs; rfl) (by simpa using hst))
    · exact wp_ran rfl (exec_move rfl (eval_tmp (hpar 8 (by simp)))) (hK _ _ (fun s hs => by cases hs; rfl) (by simpa using hst))
    · exact wp_ran rfl (exec_assign rfl (eval_tmp (hgot 0 _ _ rfl (hdep ⟨0, .data⟩ (by simp) rfl) rfl))) (hK _ _ (fun s hs => by cases hs; rfl) (by simpa using hst))
    · rcases hst with ⟨_, rfl⟩ | ⟨a1, _⟩
      · have h5d : Holds wz.drew b5 39 (bc (fil 0)) := h5
        exact wp_stored (ty := 39) (V := bv (fil 0)) (cs := bc (fil 0)) rfl rfl (eval_tmp (hpar 5 (by simp))) (eval_tmp (hgot 1 _ _ rfl (hdep ⟨1, .data⟩ (by simp) rfl) rfl)) rfl h5d rfl (bc_one _) (by rw [bc_length]; exact size39) (fun v' q1 q2 => hK _ _ (fun s hs => by cases hs) (.inr ⟨rfl, q1, q2⟩))
      · rw [hlj] at a1; cases a1
    · exact wp_ran rfl (exec_assign rfl (eval_tmp (hgot 2 _ _ rfl (hdep ⟨2, .data⟩ (by simp) rfl) rfl))) (hK _ _ (fun s hs => by cases hs; rfl) (by simpa using hst))
  case fin =>
    intro l T v hl hst ht hd hpar hgot
    have e4 : l 4 = true := hl 4 (by decide)
    rcases hst with ⟨a1, _⟩ | ⟨_, q1, q2⟩
    · rw [e4] at a1; cases a1
    · have t4 := hgot 3 _ 4 rfl rfl
      have t5 := hpar 5 (by simp)
      have t6 := hgot 5 _ 6 rfl rfl
      have D6 := D5.keep (Mod.drew [] wz) (by simp) (by simp) (by simp)
      have h5d : Holds wz.drew b5 39 (bc (fil 0)) := h5
      obtain ⟨d1, d2, d3⟩ := D6.apart h5d (by decide) (by decide)
      have D7 := D6.keep q2 d1 d2 d3
      have W7 := (W5.then (Mod.drew [] wz)).own q2 (fun i hi => by simp at hi; omega)
      go_wp2
      refine bodyPost_ret (results_tct rfl _ _ b5 (bc (fil 0)) _ _ _ t4 t5 t6 (Cells.of_holds q1) Try.underlying39 rfl (by rw [bc_length]; exact size39)) hd ?_
      exact ⟨g2, m2, A2, c2, rfl, D7, W7⟩

theorem act_c (S : St) (g m : Nat) (A : Option Addr) (c : Nat) (kd : Int) (a : Ac) (K : Option Addr) (ck : Nat) (w : World) (D : DAt w g m A c S) (hk : a.kind = ((IntKind.u64.wrap kd) % 7).toNat) (hw : (Lit.int .i64 a.n).wf = true) (hb : Bools w K a.keep) (hkl : a.keep.length ≤ 140737488355328) (ho : S.ops + 1 ≤ 1099511627776) :
    Calls Try.prog 33 #[.pointer (some ⟨g, 0, none⟩), .agg (dv kd a K ck).toArray] w (ActPost w g m A (S.act a)) := by
  have h7 : a.kind < 7 := by have := Int.emod_lt_of_pos (IntKind.u64.wrap kd) (show (0 : Int) < 7 by decide); have := Int.emod_nonneg (IntKind.u64.wrap kd) (show (7 : Int) ≠ 0 by decide); omega
  by_cases h3 : a.kind < 3
  · refine (act3_c S g m A c kd a K ck w D hk h3 ho).mono ?_
    rintro e w' ⟨rfl, A', c', q1, q2⟩
    exact ⟨g, m, A', c', rfl, q1, q2.went⟩
  obtain h | h | h | h : a.kind = 3 ∨ a.kind = 4 ∨ a.kind = 5 ∨ a.kind = 6 := by omega
  · have e : S.act a = (fil 0, S.arm a.n) := by unfold St.act; rw [h]; rfl
    rw [e]; exact actA_c S g m A c kd a K ck w D hk h hw
  · have e : S.act a = (fil 0, S.fail a.n) := by unfold St.act; rw [h]; rfl
    rw [e]; exact actF_c S g m A c kd a K ck w D hk h hw
  · have e : S.act a = (fil 0, 0, S.crash a.keep) := by unfold St.act; rw [h]; rfl
    rw [e]; exact actC_c S g m A c kd a K ck w D hk h hb hkl
  · have e : S.act a = (fil 0, 0, S) := by unfold St.act; rw [h]; rfl
    rw [e]; exact actK_c S g m A c kd a K ck w D hk h
end
end Go.Proofs.Ytpdpahkhfilmpaa
