/-
  A copy goes on by itself: the walk. My own work.
-/
import Derived.Test.YtpdpahkhfilmpaaFol
namespace Go.Proofs.Ytpdpahkhfilmpaa
open Go.RowKit
namespace Rg
/-- Slot s is written by step j alone. -/
def ownB (ops : Array Oper) (s j : Nat) : Bool := (List.range ops.size).all fun i => ((ops[i]?).map fun (o : Oper) => !(o.dst == some s) || i == j).getD true
theorem ownB_of {ops : Array Oper} {s j : Nat} (h : ownB ops s j = true) (i : Nat) (o : Oper) (ho : ops[i]? = some o) (hs : o.dst = some s) : i = j := by
  have hi := (Array.getElem?_eq_some_iff.1 ho).1
  have := List.all_eq_true.1 h i (List.mem_range.2 hi)
  rw [ho] at this
  simpa [hs] using this
section
variable {P : Program} {ops : Array Oper} {Q : Exit → Act → World → Prop}
/-- A region that draws its order, each of whose steps yields the same whenever it may come, but for what x says (the places of what is made). -/
theorem wp_region_detxo {X : Type} {id : Nat} {a : Act} {w : World} (x0 : X) (nt : Nat) (E : X → Nat → Value) (ps : List Nat) (st : X → (Nat → Bool) → World → Prop) (ds : List Deferred) (hm : P.follows .mixedOrders = true)
    (ht : a.tmps.size = nt) (hd : a.defers = ds) (hp : ∀ s ∈ ps, a.tmps[s]? = some (E x0 s)) (h0 : st x0 (fun _ => false) w.drew)
    (hlt : ∀ (i : Nat) (o : Oper), ops[i]? = some o → ∀ e ∈ o.after, Region.binds .any e = true → e.on < i) (os ow : Nat) (ov : Value) (ho0 : a.tmps[os]? = some ov) (hou : ∀ (j : Nat) (o : Oper), ops[j]? = some o → o.dst = some os → j = ow) (hdst : ∀ (i : Nat) (o : Oper) (s : Nat), ops[i]? = some o → o.dst = some s → s < nt)
    (hstep : ∀ (x : X) (l : Nat → Bool) (T : Act) (v : World) (i : Nat) (o : Oper), ops[i]? = some o → l i = false → (∀ e ∈ o.after, Region.binds .any e = true → l e.on = true) → st x l v →
      (∀ s ∈ ps, T.tmps[s]? = some (E x s)) → (∀ (j : Nat) (o' : Oper) (s : Nat), ops[j]? = some o' → l j = true → o'.dst = some s → T.tmps[s]? = some (E x s)) → (l ow = false → T.tmps[os]? = some ov) →
      ∀ K : Act → World → Prop, (∀ x' u v', (∀ s ∈ ps, E x' s = E x s) → (∀ (j : Nat) (o' : Oper) (s : Nat), ops[j]? = some o' → l j = true → o'.dst = some s → E x' s = E x s) → (∀ s, o.dst = some s → u = E x' s) → st x' (fun j => if j = i then true else l j) v' → K (T.put o.dst u) v') →
        if Region.wanted o (yielded ops T.tmps) = true then o.wp P T v K Q else K (T.put o.dst undef) v)
    (hend : ∀ (x : X) (l : Nat → Bool) (T : Act) (v : World), (∀ j, j < ops.size → l j = true) → st x l v → T.tmps.size = nt → T.defers = ds → (∀ s ∈ ps, T.tmps[s]? = some (E x s)) →
      (∀ (j : Nat) (o' : Oper) (s : Nat), ops[j]? = some o' → o'.dst = some s → T.tmps[s]? = some (E x s)) → Q .normal T v) :
    (Code.region id ops true).wp P Q a w := by
  refine wp_region_any hm ?_
  refine wpAny_inv2 (fun listed T v => (∃ x, Drawn ops nt (E x) ps (st x) ds listed T v) ∧ (listed.getD ow false = false → T.tmps[os]? = some ov)) (fun _ _ _ ⟨⟨_, h⟩, _⟩ => h.size) ?_ ?_ hlt ops.size _ a _ ?_ ?_
  · rintro listed T v i o ⟨⟨x, hI⟩, hO⟩ ho hi hdep K hK
    have hio : i < ops.size := (Array.getElem?_eq_some_iff.1 ho).1
    have hil : i < listed.size := by rw [hI.size]; exact hio
    have hi' : listed.getD i false = false := by
      simp only [Array.getD, hil, dite_true] at hi ⊢
      exact hi
    have hput : ∀ (u : Value) (s : Nat) (y : Value), T.tmps[s]? = some y → (o.dst = some s → y = u) → (T.put o.dst u).tmps[s]? = some y := by
      intro u s y hx hsx
      unfold Act.put
      cases hds : o.dst with
      | none => exact hx
      | some d =>
        show (T.tmps.setIfInBounds d u)[s]? = some y
        rw [Array.getElem?_setIfInBounds]
        by_cases hd' : d = s
        · subst hd'
          have hlt' : d < T.tmps.size := (Array.getElem?_eq_some_iff.1 hx).1
          simp [hlt', hsx hds]
        · simp [hd', hx]
    refine hstep x (fun j => listed.getD j false) T v i o ho hi' hdep hI.wor hI.par hI.got hO K (fun x' u v' hps hold hu hv' => hK _ _ ⟨⟨x', ?_⟩, fun hw => ?_⟩)
    rotate_left
    · rw [getD_set _ _ _ hil] at hw
      by_cases hwi : ow = i
      · rw [if_pos hwi] at hw; cases hw
      · rw [if_neg hwi] at hw
        exact hput u os _ (hO hw) (fun hd => absurd (hou i o ho hd).symm hwi)
    refine ⟨by simpa using hI.size, ?_, ?_, fun s hs' => hput u s _ (by rw [hps s hs']; exact hI.par s hs') (fun h => (hu s h).symm), ?_, ?_⟩
    · unfold Act.put
      split <;> simp [hI.tsize]
    · unfold Act.put
      split <;> exact hI.defs
    · intro j o' s hj hl hs'
      rw [getD_set _ _ _ hil] at hl
      by_cases hji : j = i
      · subst hji
        rw [ho] at hj
        cases hj
        unfold Act.put
        rw [hs']
        show (T.tmps.setIfInBounds s u)[s]? = _
        have hsl : s < T.tmps.size := by rw [hI.tsize]; exact hdst _ _ _ ho hs'
        simp [hsl, hu s hs']
      · rw [if_neg hji] at hl
        exact hput u s _ (by rw [hold j o' s hj hl hs']; exact hI.got j o' s hj hl hs') (fun h => (hu s h).symm)
    · have : (fun j => (listed.setIfInBounds i true).getD j false) = (fun j => if j = i then true else listed.getD j false) := funext fun j => getD_set _ _ _ hil
      rw [this]
      exact hv'
  · rintro listed T v ⟨⟨x, hI⟩, _⟩ hl
    exact hend x _ T v hl hI.wor hI.tsize hI.defs hI.par (fun j o' s hj hs' => hI.got j o' s hj (hl j (Array.getElem?_eq_some_iff.1 hj).1) hs')
  · have : ∀ n : Nat, (List.replicate n false).countP (fun b => !b) ≤ n := fun n => Nat.le_trans List.countP_le_length (by simp)
    simpa using this ops.size
  · refine ⟨⟨x0, by simp, ht, hd, hp, fun j o s _ hl _ => ?_, ?_⟩, fun _ => ho0⟩
    · simp [Array.getD] at hl
    · have : (fun j => (Array.replicate ops.size false).getD j false) = (fun _ => false) := by
        funext j
        simp [Array.getD]
      rw [this]
      exact h0
/-- The same, to a literal frame. -/
theorem wp_region_lito {X : Type} {id : Nat} {a : Act} {w : World} (x0 : X) (F : X → List Value) (nt : Nat) (ps : List Nat) (st : X → (Nat → Bool) → World → Prop) (ds : List Deferred) (hm : P.follows .mixedOrders = true)
    (hF : ∀ x, (F x).length = nt) (ht : a.tmps.size = nt) (hd : a.defers = ds) (hp : ps.map (fun s => a.tmps[s]?) = ps.map (fun s => some ((F x0).getD s undef))) (hx : ∀ x, ps.map (fun s => (F x).getD s undef) = ps.map (fun s => (F x0).getD s undef)) (os ow : Nat) (ov : Value) (ho0 : a.tmps[os]? = some ov) (hou : ownB ops os ow = true) (h0 : st x0 (fun _ => false) w.drew)
    (hB : drawn2B ops nt = true) (hC : coverB ops nt ps = true)
    (hstep : ∀ (x : X) (l : Nat → Bool) (T : Act) (v : World) (i : Nat) (o : Oper), ops[i]? = some o → l i = false → (∀ e ∈ o.after, Region.binds .any e = true → l e.on = true) → st x l v →
      (∀ s, s ∈ ps → T.tmps[s]? = some ((F x).getD s undef)) → (∀ (j : Nat) (o' : Oper) (s : Nat), ops[j]? = some o' → l j = true → o'.dst = some s → T.tmps[s]? = some ((F x).getD s undef)) → Closed ops l → (l ow = false → T.tmps[os]? = some ov) →
      ∀ K : Act → World → Prop, (∀ x' u v', (∀ (j : Nat) (o' : Oper) (s : Nat), ops[j]? = some o' → l j = true → o'.dst = some s → (F x').getD s undef = (F x).getD s undef) → (∀ s, o.dst = some s → u = (F x').getD s undef) → st x' (fun j => if j = i then true else l j) v' → K (T.put o.dst u) v') →
        if Region.wanted o (yielded ops T.tmps) = true then o.wp P T v K Q else K (T.put o.dst undef) v)
    (hend : ∀ (x : X) (l : Nat → Bool) (v : World), (∀ j, j < ops.size → l j = true) → st x l v → Q .normal ⟨(F x).toArray, ds⟩ v) :
    (Code.region id ops true).wp P Q a w := by
  refine wp_region_detxo (os := os) (ow := ow) (ov := ov) (ho0 := ho0) (hou := ownB_of hou) x0 nt (fun x s => (F x).getD s undef) ps (fun x l v => st x l v ∧ Closed ops l) ds hm ht hd (map_mem hp) ⟨h0, fun _ _ _ h => by cases h⟩ (drawn2B_lt hB) (drawn2B_dst hB) ?_ ?_
  · intro x l T v i o ho hl hdep hst hpar hgot hold K hK
    exact hstep x l T v i o ho hl hdep hst.1 hpar hgot hst.2 hold K (fun x' u v' h1 h2 h3 => hK x' u v' (fun s hs => by
      have e1 := map_mem (hx x') s hs
      have e2 := map_mem (hx x) s hs
      exact e1.trans e2.symm) h1 h2 ⟨h3, hst.2.add ho hdep⟩)
  · intro x l T v hl hst hts hds hpar hgot
    have hall : ∀ s, s < nt → T.tmps[s]? = some ((F x).getD s undef) := fun s hs => by
      rcases coverB_or hC s hs with h | ⟨j, o, hj, ho⟩
      · exact hpar s h
      · exact hgot j o s hj ho
    have hT : T = ⟨(F x).toArray, ds⟩ := by
      obtain ⟨tm, df⟩ := T
      have h1 : tm = (F x).toArray := by
        apply Array.ext_getElem?
        intro s
        by_cases hs : s < nt
        · rw [show tm[s]? = _ from hall s hs]
          have hl' : s < (F x).length := by rw [hF]; exact hs
          simp [List.getD_eq_getElem?_getD, hl']
        · rw [Array.getElem?_eq_none (by rw [show tm.size = nt from hts]; omega), Array.getElem?_eq_none (by simp [hF]; omega)]
      rw [h1, show df = ds from hds]
    rw [hT]
    exact hend x l v hl hst.1
end
end Rg
theorem Two.own {w v v' : World} {g m c g' m' c' b : Nat} {A A' : Option Addr} {S S' : St} {t : TypeId} {cs : List Value} (h : Two w v g m A c S g' m' A' c' S') (k : Mod [b] v v') (hb : Holds v b t cs) (h1 : t ≠ 74) (h2 : t ≠ 84) (hw : w.heap.size ≤ b) : Two w v' g m A c S g' m' A' c' S' :=
  ⟨h.L.own k hb h1 h2 hw, h.R.own k hb h1 h2 hw, h.ng, h.nm, h.nA⟩
/-- What a region makes: a disk that goes on, and the document's beside it. -/
structure Xt where
  g : Nat
  m : Nat
  A : Option Addr
  c : Nat
  S : St
  R : RSt
  B : Option Addr
  b : Nat
theorem Acts2.one {W : World} {A : Option Addr} {n : Nat} (h : Acts2 W A n) {k : Nat} (hk : k < n) : Acts2 W (A.map (·.add (k * 5))) 1 := fun i hi => by
  obtain rfl : i = 0 := by omega
  obtain ⟨g, o, kd, a, K, c, rfl, h1, h2, h3, h4, h5⟩ := h k hk
  exact ⟨g, o + k * 5, kd, a, K, c, by rw [Option.map_some, add_plain], by simpa using h1, h2, h3, h4, h5⟩
theorem exec_one22 {v : World} {o : Oper} {ρ : Operand → Value} {x y z : Operand} {A : Option Addr} {n c k : Nat} (hk : k < n) (hn : n ≤ c) (ho : o.op = .slice 22 x (some y) (some z) none) (hx : ρ x = .slice A n c) (hy : ρ y = .int .i64 (k : Int)) (hz : ρ z = .int .i64 ((k : Int) + 1)) :
    (execOp ρ o).run Try.prog v = .ok (.value (.slice (A.map (·.add (k * 5))) 1 (c - k))) v := by
  unfold execOp
  obtain ⟨it, hq⟩ := info_of 49 (by kernel_rfl)
  have hs : it.size = 5 := by have := size49; rw [hq] at this; simpa using this
  have h1 : ((k : Int) + 1).toNat = k + 1 := by omega
  have h4 : ¬ c = k := by omega
  have h6 : k + 1 - k = 1 := by omega
  have h7 : ¬ ((c : Int) < (k : Int) + 1) := by omega
  simp [ho, hx, hy, hz, Instr.sliceAt, Instr.slice, Instr.sliceBounds, Instr.sliceBound, Sem.run_bind, run_underlying Try.underlying22, go_sem, sizeOf, typeInfo, hq, hs, h1, h4, h6]
  intro h
  exact absurd (h (by omega)) h7
theorem exec_maxn {P : Program} {v : World} {o : Oper} {ρ : Operand → Value} {x y : Operand} {a b : Nat} (ho : o.op = .call { callee := .builtin .max, args := #[x, y], argTypes := #[3, 3] }) (hx : ρ x = .int .i64 (a : Int)) (hy : ρ y = .int .i64 (b : Int)) : (execOp ρ o).run P v = .ok (.value (.int .i64 ((max a b : Nat) : Int))) v := by
  rw [exec_max ho hx hy]
  have : max (a : Int) (b : Int) = ((max a b : Nat) : Int) := by omega
  rw [this]
theorem exec_addk {P : Program} {v : World} {o : Oper} {ρ : Operand → Value} {x y : Operand} {t t' : TypeId} {k : Nat} (hk : k < 1000) (ho : o.op = .binOp .add t x y t') (hx : ρ x = .int .i64 (k : Int)) (hy : ρ y = .int .i64 1) : (execOp ρ o).run P v = .ok (.value (.int .i64 ((k : Int) + 1))) v := by
  refine Rg.exec_add ho hx hy ?_
  exact IntWalk.i64_in _ (by omega)
theorem exec_extractt0 {P : Program} {v : World} {o : Oper} {ρ : Operand → Value} {x : Operand} {X Y Z : Value} (ho : o.op = .extract x 0) (hx : ρ x = .tuple #[X, Y, Z]) : (execOp ρ o).run P v = .ok (.value X) v := by
  unfold execOp
  simp [ho, hx, go_sem]
theorem exec_extractt1 {P : Program} {v : World} {o : Oper} {ρ : Operand → Value} {x : Operand} {X Y Z : Value} (ho : o.op = .extract x 1) (hx : ρ x = .tuple #[X, Y, Z]) : (execOp ρ o).run P v = .ok (.value Y) v := by
  unfold execOp
  simp [ho, hx, go_sem]
theorem exec_extractt2 {P : Program} {v : World} {o : Oper} {ρ : Operand → Value} {x : Operand} {X Y Z : Value} (ho : o.op = .extract x 2) (hx : ρ x = .tuple #[X, Y, Z]) : (execOp ρ o).run P v = .ok (.value Z) v := by
  unfold execOp
  simp [ho, hx, go_sem]
def TwSt (w : World) (y x : Xt) (g' m' : Nat) (A' : Option Addr) (c' : Nat) (S' : St) (R' : RSt) (B' : Option Addr) (b' : Nat) (gx gy K : Nat) (b7 b13 : Bool) (v : World) : Prop :=
  (b7 = false → Two w v y.g y.m y.A y.c y.S g' m' A' c' S') ∧
  (b7 = true → Two w v x.g x.m x.A x.c x.S g' m' A' c' S' ∧ Told v x.R x.B x.b ∧ Like x.S x.R ∧ Fine x.R K) ∧
  Told v y.R y.B y.b ∧ Told v R' B' b' ∧
  (b13 = false → Holds v gx 30 (rc y.R y.B y.b)) ∧ (b13 = true → Holds v gx 30 (rc x.R x.B x.b)) ∧ Holds v gy 30 (rc R' B' b')
set_option maxRecDepth 1000000 in
set_option maxHeartbeats 4000000 in
theorem twins_w (W0 : Option Addr) (n0 k0 : Nat) (W1 : Option Addr) (n1 k1 : Nat) (W2 : Option Addr) (n2 k2 : Nat) (w : World) (hn0 : n0 ≤ k0) (hk0 : k0 ≤ maxLen) (hA0 : Acts2 w W0 n0) (hn1 : n1 ≤ k1) (hk1 : k1 ≤ maxLen) (hA1 : Acts2 w W1 n1) (hn2 : n2 ≤ k2) (hk2 : k2 ≤ maxLen) (hA2 : Acts2 w W2 n2) :
    Calls Try.prog 4 #[.slice W0 n0 k0, .slice W1 n1 k1, .slice W2 n2 k2] w fun e w' => e = .returned (.bool true) ∧ Mod [] w w' := by
  have HA := Lib.hid (And.intro hA0 (And.intro hA1 (And.intro hA2 (And.intro hn0 (And.intro hn1 (And.intro hn2 (And.intro hk0 (And.intro hk1 hk2))))))))
  clear hA0 hA1 hA2 hn0 hn1 hn2 hk0 hk1 hk2
  go_enter Try.func4, Try.ntmps4
  go_wp2_with fail
  refine (wakes_c _).mono ?_
  rintro e w1 ⟨rfl, m1⟩
  go_wp2_with fail
  refine (new_good 5 _ (by omega) (by omega)).mono ?_
  rintro e w2 ⟨g, m, rfl, D2, m2, og, om⟩
  have F : Far w w2 g m none 0 (St.new 5) := ⟨D2, m1.then m2, Nat.le_trans m1.size og, Nat.le_trans m1.size om, fun a ha => by cases ha⟩
  clear D2 og om m1 m2
  go_wp2_with fail
  refine (rnew_c 5 ⟨by omega, by omega⟩ _).mono ?_
  rintro e w3 ⟨rfl, m3⟩
  replace F := F.keep m3
  clear m3
  obtain ⟨R0, hR0⟩ : ∃ R, R = RSt.new 5 := ⟨_, rfl⟩
  obtain ⟨S0, hS0⟩ : ∃ S, S = St.new 5 := ⟨_, rfl⟩
  have L0 : Like S0 R0 := by rw [hR0, hS0]; exact Like.new 5
  have F0 : Fine R0 0 := by rw [hR0]; exact Fine.new _
  have hs0 : R0.story = [] := by rw [hR0]; rfl
  rw [← hS0] at F
  rw [← hR0]
  have HL := Lib.hid (And.intro L0 (And.intro F0 hs0))
  clear hR0 hS0 L0 F0 hs0
  have hT : Told w3 R0 none 0 := by unfold Told; rw [HL.out.2.2]; exact OwnG.nil _ _ _ _
  go_wp2_with (first
    | (with_reducible refine wpList_allocs (o := ⟨some 9, .alloc 30, _, _, _, _⟩) rfl 30 rfl _ zero30 ?_; intro wa hba ma za; replace za := Lib.hid za)
    | (with_reducible refine wpList_storesAll (o := ⟨none, .store 30 (.tmp 9) (.tmp 23), _, _, _, _⟩) rfl 30 (.tmp 9) (.tmp 23) rfl rfl w3.heap.size (rc R0 none 0) rfl (rv R0 none 0) rfl rfl 30 _ hba rfl (rc_one _ _ _) (size30_of _ _ _) ?_; intro wb h9 mb zb
       have mx : Mod [] w3 wb := ma.trans mb (fun i hi h => by simp at h; omega)
       have o9 : w.heap.size ≤ w3.heap.size := F.mm.size
       replace F := F.keep mx
       replace hT := hT.keep mx (by simp)
       obtain ⟨g9, e9⟩ : ∃ b, b = w3.heap.size := ⟨_, rfl⟩
       rw [← e9] at h9 o9
       rw [← e9]
       have H9 := Lib.hid o9
       clear hba ma za mb zb mx e9 o9)
    | (with_reducible refine wpList_loads (o := ⟨some 33, .load 30 (.tmp 9), _, _, _, _⟩) rfl 30 (.tmp 9) rfl g9 0 _ rfl (Cells.of_holds h9) _ Try.underlying30 rfl (size30_of _ _ _) (rv R0 none 0) rfl ?_))
  refine (lived_c F HL.out.1 none 0 hT 0 HL.out.2.1 (by omega) W0 n0 k0 HA.out.2.2.2.1 HA.out.2.2.2.2.2.2.1 HA.out.1).mono ?_
  rintro e wd ⟨gq1, mq1, Aq1, cq1, Sq1, Rq1, Bq1, bq1, rfl, D1, V1, hT1, L1, hF1, _⟩
  replace h9 := V1.keeps F.D _ _ _ (by decide) (by decide) h9
  have hx9 := h9
  have F1 := F.went D1 V1
  have hF1 : Fine Rq1 60 := hF1.wk (by omega)
  clear F hT V1 D1
  go_wp2_with (first
    | (with_reducible refine wpList_storesAll (o := ⟨none, .store 30 (.tmp 9) (.tmp 37), _, _, _, _⟩) rfl 30 (.tmp 9) (.tmp 37) rfl rfl g9 (rc Rq1 Bq1 bq1) rfl (rv Rq1 Bq1 bq1) rfl rfl 30 _ h9 rfl (rc_one _ _ _) (size30_of _ _ _) ?_
       clear h9
       intro we h9 mb zb
       have T2 := hT1.keep mb (fun a ha => by simpa using hT1.ne hx9 (by decide) a ha)
       replace hT1 := T2
       replace F1 := F1.own mb hx9 (by decide) (by decide) H9.out
       clear T2 hx9 mb zb))
  refine (copy_c Sq1 gq1 mq1 Aq1 cq1 _ F1.D).mono ?_
  rintro e wf ⟨gq2, mq2, Aq2, cq2, rfl, D2, mf, f1, f2, f3⟩
  have T0 : Two w wf gq1 mq1 Aq1 cq1 Sq1 gq2 mq2 Aq2 cq2 Sq1 := by
    have s1 := F1.mm.size
    have s2 := F1.D.blk.lt
    have s3 := F1.D.firm.lt
    refine ⟨F1.keep mf, ⟨D2, F1.mm.then mf, by omega, by omega, fun a ha => by have := f3 a ha; omega⟩, by omega, by omega, fun a a' ha ha' => ?_⟩
    have := f3 a' ha'
    have := F1.D.loose.lt a ha
    omega
  replace hT1 := hT1.keep mf (by simp)
  replace h9 := h9.keep mf (by simp)
  clear F1 D2 mf f1 f2 f3
  go_wp2_with (first
    | (with_reducible refine wpList_loadsW (o := ⟨some 49, .load 30 (.tmp 9), _, _, _, _⟩) (by with_unfolding_all rfl) 30 (.tmp 9) rfl g9 0 _ rfl (Cells.of_holds h9) _ Try.underlying30 rfl (size30_of _ _ _) (rv Rq1 Bq1 bq1) rfl ?_))
  refine (stands_c L1 gq2 mq2 Aq2 cq2 Bq1 bq1 _ T0.R.D hT1 (hF1.wk (by omega))).mono ?_
  rintro e wg ⟨rfl, mg⟩
  replace T0 := T0.keep mg
  replace hT1 := hT1.keep mg (by simp)
  replace h9 := h9.keep mg (by simp)
  clear mg
  have HF1 := Lib.hid (And.intro L1 hF1)
  clear L1 hF1
  go_wp2_with (first
    | (with_reducible refine wpList_loads (o := ⟨some 53, .load 30 (.tmp 9), _, _, _, _⟩) rfl 30 (.tmp 9) rfl g9 0 _ rfl (Cells.of_holds h9) _ Try.underlying30 rfl (size30_of _ _ _) (rv Rq1 Bq1 bq1) rfl ?_)
    | (with_reducible refine wpList_allocs (o := ⟨some 13, .alloc 30, _, _, _, _⟩) rfl 30 rfl _ zero30 ?_; intro wa hba ma za; replace za := Lib.hid za)
    | (with_reducible refine wpList_storesAll (o := ⟨none, .store 30 (.tmp 13) (.tmp 53), _, _, _, _⟩) rfl 30 (.tmp 13) (.tmp 53) rfl rfl wg.heap.size (rc Rq1 Bq1 bq1) rfl (rv Rq1 Bq1 bq1) rfl rfl 30 _ hba rfl (rc_one _ _ _) (size30_of _ _ _) ?_; intro wb2 h13 mb zb
       have mx : Mod [] wg wb2 := ma.trans mb (fun i hi h => by simp at h; omega)
       have o13 : w.heap.size ≤ wg.heap.size ∧ g9 < wg.heap.size := ⟨T0.L.mm.size, h9.lt⟩
       replace T0 := T0.keep mx
       replace hT1 := hT1.keep mx (by simp)
       replace h9 := h9.keep mx (by simp)
       obtain ⟨g13, e13⟩ : ∃ b, b = wg.heap.size := ⟨_, rfl⟩
       rw [← e13] at h13 o13
       rw [← e13]
       have H13 := Lib.hid o13
       clear hba ma za mb zb mx e13 o13))
  refine (few_c W1 n1 k1 _ HA.out.2.2.2.2.1 HA.out.2.2.2.2.2.2.2.1).mono ?_
  rintro e wh ⟨rfl, rfl⟩
  go_wp2_with fail
  refine (few_c W2 n2 k2 _ HA.out.2.2.2.2.2.1 HA.out.2.2.2.2.2.2.2.2).mono ?_
  rintro e wi ⟨rfl, rfl⟩
  obtain ⟨N1, hN1⟩ : ∃ N, N = min n1 60 := ⟨_, rfl⟩
  obtain ⟨N2, hN2⟩ : ∃ N, N = min n2 60 := ⟨_, rfl⟩
  obtain ⟨M, hM⟩ : ∃ M, M = max N1 N2 := ⟨_, rfl⟩
  have HN := Lib.hid (show N1 ≤ n1 ∧ N2 ≤ n2 ∧ N1 ≤ 60 ∧ N2 ≤ 60 ∧ M = max N1 N2 by omega)
  rw [← hN1, ← hN2]
  clear hN1 hN2 hM
  go_wp2_with (with_reducible refine wpList_ranW (o := ⟨some 62, .call _, _, _, _, _⟩) (by with_unfolding_all rfl) (.int .i64 ((max N1 N2 : Nat) : Int)) _ (exec_maxn rfl rfl rfl) ?_)
  rw [← HN.out.2.2.2.2]
  go_loopw [7, 11, 12, 63] (fun dp ok cp i wi => ∃ (k g1 m1 : Nat) (A1 : Option Addr) (c1 : Nat) (S1 : St) (R1 : RSt) (B1 : Option Addr) (b1 g2 m2 : Nat) (A2 : Option Addr) (c2 : Nat) (S2 : St) (R2 : RSt) (B2 : Option Addr) (b2 : Nat), k ≤ M ∧ i = .int .i64 (k : Int) ∧ dp = .pointer (some ⟨g1, 0, none⟩) ∧ cp = .pointer (some ⟨g2, 0, none⟩) ∧ ok = .bool true ∧ Two w wi g1 m1 A1 c1 S1 g2 m2 A2 c2 S2 ∧ Like S1 R1 ∧ Like S2 R2 ∧ Told wi R1 B1 b1 ∧ Told wi R2 B2 b2 ∧ Fine R1 (60 + k) ∧ Fine R2 (60 + k) ∧ Holds wi g9 30 (rc R1 B1 b1) ∧ Holds wi g13 30 (rc R2 B2 b2)) (fun _ _ _ i _ => M - (intOf i).toNat)
  case atStart => exact ⟨0, gq1, mq1, Aq1, cq1, Sq1, Rq1, Bq1, bq1, gq2, mq2, Aq2, cq2, Sq1, Rq1, Bq1, bq1, by omega, rfl, rfl, rfl, rfl, T0, HF1.out.1, HF1.out.1, hT1, hT1, HF1.out.2, HF1.out.2, h9, h13⟩
  case round =>
    clear T0 hT1 h9 h13
    obtain ⟨k, g1, m1, A1, c1, S1, R1, B1, b1, g2, m2, A2, c2, S2, R2, B2, b2, hk, rfl, rfl, rfl, rfl, TW, L1, L2, hT1, hT2, hF1, hF2, h9, h13⟩ := hrel
    have hM60 : (M : Int) ≤ 60 := by have := HN.out; omega
    by_cases hkn : k < M
    · have hkZ : (k : Int) < (M : Int) := by omega
      have hk60 : k < 60 := by omega
      have HL := Lib.hid (And.intro L1 (And.intro hF1 (And.intro L2 (And.intro hF2 hk60))))
      clear L1 hF1 L2 hF2 hk60
      by_cases hk1 : k < N1
      · have hk1Z : (k : Int) < (N1 : Int) := by omega
        by_cases hk2 : k < N2
        · have hk2Z : (k : Int) < (N2 : Int) := by omega
          go_wp2_with fail
          have hks : k < N1 := hk1
          have hks2 : k < n1 := by have := HN.out; omega
          have hkc : N1 ≤ k1 := by have := HN.out; have := HA.out; omega
          have TWd := (TW).keep (Mod.drew [] wr)
          have hT1d : Told wr.drew R1 B1 b1 := hT1.keep (Mod.drew [] wr) (by simp)
          have hT2d : Told wr.drew R2 B2 b2 := hT2.keep (Mod.drew [] wr) (by simp)
          have h9d : Holds wr.drew g9 30 _ := h9
          have h13d : Holds wr.drew g13 30 _ := h13
          refine Rg.wp_region_lito (X := Xt) (⟨g1, m1, A1, c1, S1, R1, B1, b1⟩ : Xt) (fun x => [Value.slice W0 n0 k0, Value.slice W1 N1 k1, Value.slice W2 N2 k2, undef, undef, undef, u6, .pointer (some ⟨x.g, 0, none⟩), Value.int IntKind.i64 0, Value.pointer (some { block := g9, off := 0 }), Value.bool true, .bool true, Value.pointer (some { block := g2, off := 0 }), Value.pointer (some { block := g13, off := 0 }), Value.int IntKind.i64 ↑k, Value.bool true, Value.bool false, Value.tuple #[Value.pointer (some { block := g, off := 0 }), Value.int IntKind.i64 0], Value.tuple #[Value.pointer (some { block := g, off := 0 }), Value.int IntKind.i64 0], Value.pointer (some { block := g, off := 0 }), Value.int IntKind.i64 0, Value.tuple #[rv R0 none 0, Value.bool true], Value.tuple #[rv R0 none 0, Value.bool true], rv R0 none 0, Value.bool true, Value.pointer (some { block := g, off := 0 }), Value.bool false, Value.bool false, Value.int IntKind.i64 0, Value.bool false, Value.bool false, Value.tuple #[Value.pointer (some { block := gq1, off := 0 }), rv Rq1 Bq1 bq1, Value.bool true], Value.pointer (some { block := g, off := 0 }), rv R0 none 0, Value.slice W0 n0 k0, Value.tuple #[Value.pointer (some { block := gq1, off := 0 }), rv Rq1 Bq1 bq1, Value.bool true], Value.pointer (some { block := gq1, off := 0 }), rv Rq1 Bq1 bq1, Value.bool true, Value.pointer (some { block := gq1, off := 0 }), Value.pointer (some { block := gq2, off := 0 }), Value.bool true, Value.bool false, Value.bool false, Value.pointer (some { block := gq2, off := 0 }), Value.bool false, Value.bool false, Value.bool false, Value.pointer (some { block := gq2, off := 0 }), rv Rq1 Bq1 bq1, Value.bool true, Value.bool false, Value.bool false, rv Rq1 Bq1 bq1, Value.slice W1 n1 k1, Value.slice W1 N1 k1, Value.slice W2 n2 k2, Value.slice W2 N2 k2, Value.slice W1 N1 k1, Value.int IntKind.i64 ↑N1, Value.slice W2 N2 k2, Value.int IntKind.i64 ↑N2, Value.int IntKind.i64 ↑M, Value.int IntKind.i64 ↑k, Value.bool true, Value.int IntKind.i64 ↑k, Value.int IntKind.i64 ↑k, Value.slice W1 N1 k1, Value.int IntKind.i64 ↑N1, Value.bool true, .tuple #[.pointer (some ⟨x.g, 0, none⟩), rv x.R x.B x.b, .bool true], .pointer (some ⟨g1, 0, none⟩), rv R1 B1 b1, .slice W1 N1 k1, .int .i64 (k : Int), .int .i64 (k : Int), .int .i64 ((k : Int) + 1), .slice (W1.map (·.add (k * 5))) 1 (k1 - k), .tuple #[.pointer (some ⟨x.g, 0, none⟩), rv x.R x.B x.b, .bool true], .pointer (some ⟨x.g, 0, none⟩), rv x.R x.B x.b, .bool true, u82, u83, u84, u85, u86, u87, u88, u89, u90, u91, u92, u93, u94, u95, u96, u97, u98, u99, u100, u101, u102, u103, u104, u105, u106, u107, u108, u109, u110, u111, u112]) 113 [0, 1, 2, 3, 4, 5, 6, 8, 9, 10, 12, 13, 14, 15, 16, 17, 18, 19, 20, 21, 22, 23, 24, 25, 26, 27, 28, 29, 30, 31, 32, 33, 34, 35, 36, 37, 38, 39, 40, 41, 42, 43, 44, 45, 46, 47, 48, 49, 50, 51, 52, 53, 54, 55, 56, 57, 58, 59, 60, 61, 62, 63, 64, 65, 66, 67, 68, 69, 82, 83, 84, 85, 86, 87, 88, 89, 90, 91, 92, 93, 94, 95, 96, 97, 98, 99, 100, 101, 102, 103, 104, 105, 106, 107, 108, 109, 110, 111, 112]
            (fun x lz v => TwSt w ⟨g1, m1, A1, c1, S1, R1, B1, b1⟩ x g2 m2 A2 c2 S2 R2 B2 b2 g9 g13 (61 + k) (lz 7) (lz 13) v) []
            (by kernel_rfl) (fun _ => rfl) rfl rfl rfl (fun _ => by simp only [List.map_cons, List.map_nil, List.getD_cons_zero, List.getD_cons_succ]) 7 12 (.pointer (some ⟨g1, 0, none⟩)) rfl (by kernel_rfl) (⟨fun _ => TWd, (fun q => by cases q), hT1d, hT2d, fun _ => h9d, (fun q => by cases q), h13d⟩) (by kernel_rfl) (by kernel_rfl) ?step ?fin
          case step =>
            intro x lz T v j o hj hlj hdep hst hpar hgot hcl hold Kq hK
            have hjn : j < 15 := (Array.getElem?_eq_some_iff.1 hj).1
            obtain rfl | rfl | rfl | rfl | rfl | rfl | rfl | rfl | rfl | rfl | rfl | rfl | rfl | rfl | rfl : j = 0 ∨ j = 1 ∨ j = 2 ∨ j = 3 ∨ j = 4 ∨ j = 5 ∨ j = 6 ∨ j = 7 ∨ j = 8 ∨ j = 9 ∨ j = 10 ∨ j = 11 ∨ j = 12 ∨ j = 13 ∨ j = 14 := by omega
            all_goals (have hj' := Option.some.inj (hj : some _ = some o); subst hj'; clear hj)
            · exact wp_ran rfl (exec_move rfl (eval_tmp (hold (by cases hh : lz 12 with | false => rfl | true => exact absurd (hcl 12 _ rfl hh ⟨0, .phase⟩ (by simp) rfl) (by rw [hlj]; simp))))) (hK x _ _ (fun _ _ _ _ _ _ => rfl) (fun s hs => by cases hs; rfl) hst)
            · have n13 : lz 13 = false := by
                cases hh : lz 13 with
                | false => rfl
                | true => exact absurd (hcl 13 _ rfl hh ⟨1, .phase⟩ (by simp) rfl) (by rw [hlj]; simp)
              exact wp_ran rfl (exec_load rfl (eval_tmp (hpar 9 (by simp))) (run_loads (Cells.of_holds (hst.2.2.2.2.1 n13)) Try.underlying30 rfl (size30_of _ _ _))) (hK x _ _ (fun _ _ _ _ _ _ => rfl) (fun s hs => by cases hs; rfl) hst)
            · exact wp_ran rfl (exec_move rfl (eval_tmp (hpar 1 (by simp)))) (hK x _ _ (fun _ _ _ _ _ _ => rfl) (fun s hs => by cases hs; rfl) hst)
            · exact wp_ran rfl (exec_move rfl (eval_tmp (hpar 14 (by simp)))) (hK x _ _ (fun _ _ _ _ _ _ => rfl) (fun s hs => by cases hs; rfl) hst)
            · exact wp_ran rfl (exec_move rfl (eval_tmp (hpar 14 (by simp)))) (hK x _ _ (fun _ _ _ _ _ _ => rfl) (fun s hs => by cases hs; rfl) hst)
            · exact wp_ran rfl (exec_addk (k := k) (by have := HL.out.2.2.2.2; omega) rfl (eval_tmp (hgot 4 _ 75 rfl (hdep ⟨4, .data⟩ (by simp) rfl) rfl)) rfl) (hK x _ _ (fun _ _ _ _ _ _ => rfl) (fun s hs => by cases hs; rfl) hst)
            · exact wp_ran rfl (exec_one22 (n := N1) hks hkc rfl (eval_tmp (hgot 2 _ 73 rfl (hdep ⟨2, .data⟩ (by simp) rfl) rfl)) (eval_tmp (hgot 3 _ 74 rfl (hdep ⟨3, .data⟩ (by simp) rfl) rfl)) (eval_tmp (hgot 5 _ 76 rfl (hdep ⟨5, .data⟩ (by simp) rfl) rfl))) (hK x _ _ (fun _ _ _ _ _ _ => rfl) (fun s hs => by cases hs; rfl) hst)
            · have n8 : lz 8 = false := by
                cases hh : lz 8 with
                | false => rfl
                | true => exact absurd (hcl 8 _ rfl hh ⟨7, .data⟩ (by simp) rfl) (by rw [hlj]; simp)
              have n9 : lz 9 = false := by
                cases hh : lz 9 with
                | false => rfl
                | true => exact absurd (hcl 9 _ rfl hh ⟨8, .data⟩ (by simp) rfl) (by rw [n8]; simp)
              have n10 : lz 10 = false := by
                cases hh : lz 10 with
                | false => rfl
                | true => exact absurd (hcl 10 _ rfl hh ⟨8, .data⟩ (by simp) rfl) (by rw [n8]; simp)
              have n11 : lz 11 = false := by
                cases hh : lz 11 with
                | false => rfl
                | true => exact absurd (hcl 11 _ rfl hh ⟨8, .data⟩ (by simp) rfl) (by rw [n8]; simp)
              have n12 : lz 12 = false := by
                cases hh : lz 12 with
                | false => rfl
                | true => exact absurd (hcl 12 _ rfl hh ⟨9, .data⟩ (by simp) rfl) (by rw [n9]; simp)
              have n13 : lz 13 = false := by
                cases hh : lz 13 with
                | false => rfl
                | true => exact absurd (hcl 13 _ rfl hh ⟨7, .phase⟩ (by simp) rfl) (by rw [hlj]; simp)
              have n14 : lz 14 = false := by
                cases hh : lz 14 with
                | false => rfl
                | true => exact absurd (hcl 14 _ rfl hh ⟨11, .data⟩ (by simp) rfl) (by rw [n11]; simp)
              have T1 := hst.1 hlj
              refine wp_called rfl (exec_call3 rfl rfl (eval_tmp (hgot 0 _ 71 rfl (hdep ⟨0, .data⟩ (by simp) rfl) rfl)) (eval_tmp (hgot 1 _ 72 rfl (hdep ⟨1, .data⟩ (by simp) rfl) rfl)) (eval_tmp (hgot 6 _ 77 rfl (hdep ⟨6, .data⟩ (by simp) rfl) rfl)) (enters_of Try.func14 (by kernel_rfl) rfl)) ((lived_c T1.L HL.out.1 B1 b1 hst.2.2.1 (60 + k) HL.out.2.1 (by have := HL.out.2.2.2.2; omega) (W1.map (·.add (k * 5))) 1 (k1 - k) (by omega) (by have := HA.out.2.2.2.2.2.2.2.1; omega) (Acts2.one HA.out.2.1 hks2)).mono (fun e v' hh => ?_))
              obtain ⟨g', m', A', c', S', R', B', b', h1, D', V', hT', L', F', _⟩ := hh
              have kp := V'.keeps T1.L.D
              exact ⟨_, h1, hK ⟨g', m', A', c', S', R', B', b'⟩ _ _ (fun j' o' s' h1 h2 h3 => by
                clear hst hpar hgot hdep hcl hK
                have h4 : j' < 15 := (Array.getElem?_eq_some_iff.1 h1).1
                obtain rfl | rfl | rfl | rfl | rfl | rfl | rfl | rfl | rfl | rfl | rfl | rfl | rfl | rfl | rfl : j' = 0 ∨ j' = 1 ∨ j' = 2 ∨ j' = 3 ∨ j' = 4 ∨ j' = 5 ∨ j' = 6 ∨ j' = 7 ∨ j' = 8 ∨ j' = 9 ∨ j' = 10 ∨ j' = 11 ∨ j' = 12 ∨ j' = 13 ∨ j' = 14 := by omega
                all_goals (cases h1; cases h3 <;> first | rfl | (rw [hlj] at h2; cases h2) | (rw [n8] at h2; cases h2) | (rw [n9] at h2; cases h2) | (rw [n10] at h2; cases h2) | (rw [n11] at h2; cases h2) | (rw [n12] at h2; cases h2) | (rw [n14] at h2; cases h2))) (fun s hs => by cases hs; rfl) ⟨(fun q => by cases q), fun _ => ⟨T1.went D' V', hT', L', F'.wk (by omega)⟩, Told.went hst.2.2.1 T1.L.D V', Told.went hst.2.2.2.1 T1.L.D V', fun q => kp _ _ _ (by decide) (by decide) (hst.2.2.2.2.1 q), (fun q => absurd (show lz 13 = true from q) (by rw [n13]; simp)), kp _ _ _ (by decide) (by decide) hst.2.2.2.2.2.2⟩⟩
            · exact wp_ran rfl (exec_move rfl (eval_tmp (hgot 7 _ 78 rfl (hdep ⟨7, .data⟩ (by simp) rfl) rfl))) (hK x _ _ (fun _ _ _ _ _ _ => rfl) (fun s hs => by cases hs; rfl) hst)
            · exact wp_ran rfl (exec_extractt0 rfl (eval_tmp (hgot 8 _ 70 rfl (hdep ⟨8, .data⟩ (by simp) rfl) rfl))) (hK x _ _ (fun _ _ _ _ _ _ => rfl) (fun s hs => by cases hs; rfl) hst)
            · exact wp_ran rfl (exec_extractt1 rfl (eval_tmp (hgot 8 _ 70 rfl (hdep ⟨8, .data⟩ (by simp) rfl) rfl))) (hK x _ _ (fun _ _ _ _ _ _ => rfl) (fun s hs => by cases hs; rfl) hst)
            · exact wp_ran rfl (exec_extractt2 rfl (eval_tmp (hgot 8 _ 70 rfl (hdep ⟨8, .data⟩ (by simp) rfl) rfl))) (hK x _ _ (fun _ _ _ _ _ _ => rfl) (fun s hs => by cases hs; rfl) hst)
            · exact wp_ran rfl (exec_assign rfl (eval_tmp (hgot 9 _ 79 rfl (hdep ⟨9, .data⟩ (by simp) rfl) rfl))) (hK x _ _ (fun _ _ _ _ _ _ => rfl) (fun s hs => by cases hs; rfl) hst)
            · have a7 : lz 7 = true := hdep ⟨7, .phase⟩ (by simp) rfl
              have hg := hst.2.2.2.2.1 hlj
              obtain ⟨T1, u1, u2, u3⟩ := hst.2.1 a7
              have hTn : ∀ {R' : RSt} {A' : Option Addr} {c' : Nat}, Told v R' A' c' → ∀ a, A' = some a → a.block ∉ [g9] := fun h a ha => by simpa using h.ne hg (by decide) a ha
              exact wp_stored (ty := 30) (V := rv x.R x.B x.b) (cs := rc x.R x.B x.b) rfl rfl (eval_tmp (hpar 9 (by simp))) (eval_tmp (hgot 10 _ 80 rfl (hdep ⟨10, .data⟩ (by simp) rfl) rfl)) rfl hg rfl (rc_one _ _ _) (size30_of _ _ _) (fun v' r1 r2 => hK x _ _ (fun _ _ _ _ _ _ => rfl) (fun s hs => by cases hs) ⟨(fun q => absurd (show lz 7 = false from q) (by rw [a7]; simp)), fun _ => ⟨T1.own r2 hg (by decide) (by decide) (by have := H9.out; have := H13.out; omega), u1.keep r2 (hTn u1), u2, u3⟩, hst.2.2.1.keep r2 (hTn hst.2.2.1), hst.2.2.2.1.keep r2 (hTn hst.2.2.2.1), (fun q => by cases q), fun _ => r1, hst.2.2.2.2.2.2.keep r2 (by have := H13.out; simp; omega)⟩)
            · exact wp_ran rfl (exec_assign rfl (eval_tmp (hgot 11 _ 81 rfl (hdep ⟨11, .data⟩ (by simp) rfl) rfl))) (hK x _ _ (fun _ _ _ _ _ _ => rfl) (fun s hs => by cases hs; rfl) hst)
          case fin =>
            intro x lz v hl hst
            obtain ⟨_, q2, _, q4, _, q6, q7⟩ := hst
            obtain ⟨T3, hT3, L3, F3⟩ := q2 (hl 7 (by decide))
            replace h9 := q6 (hl 13 (by decide))
            replace h13 := q7
            replace hT2 := q4
            obtain ⟨g3, m3, A3, c3, S3, R3, B3, b3⟩ := x
            dsimp only at T3 hT3 L3 F3 h9
            have HL3 := Lib.hid (And.intro L3 F3)
            clear L3 F3 q2 q6 q7 q4 hl
            dsimp only
            go_wp2_with fail
            have hkt : k < N2 := hk2
            have hkt2 : k < n2 := by have := HN.out; omega
            have hku : N2 ≤ k2 := by have := HN.out; have := HA.out; omega
            have TWe := (T3.swap).keep (Mod.drew [] v)
            have hT2e : Told v.drew R2 B2 b2 := hT2.keep (Mod.drew [] v) (by simp)
            have hT3e : Told v.drew R3 B3 b3 := hT3.keep (Mod.drew [] v) (by simp)
            have h9e : Holds v.drew g9 30 _ := h9
            have h13e : Holds v.drew g13 30 _ := h13
            refine Rg.wp_region_lito (X := Xt) (⟨g2, m2, A2, c2, S2, R2, B2, b2⟩ : Xt) (fun x => [Value.slice W0 n0 k0, Value.slice W1 N1 k1, Value.slice W2 N2 k2, undef, undef, undef, u6, Value.pointer (some { block := g3, off := 0 }), Value.int IntKind.i64 0, Value.pointer (some { block := g9, off := 0 }), Value.bool true, .bool true, .pointer (some ⟨x.g, 0, none⟩), Value.pointer (some { block := g13, off := 0 }), Value.int IntKind.i64 ↑k, Value.bool true, Value.bool false, Value.tuple #[Value.pointer (some { block := g, off := 0 }), Value.int IntKind.i64 0], Value.tuple #[Value.pointer (some { block := g, off := 0 }), Value.int IntKind.i64 0], Value.pointer (some { block := g, off := 0 }), Value.int IntKind.i64 0, Value.tuple #[rv R0 none 0, Value.bool true], Value.tuple #[rv R0 none 0, Value.bool true], rv R0 none 0, Value.bool true, Value.pointer (some { block := g, off := 0 }), Value.bool false, Value.bool false, Value.int IntKind.i64 0, Value.bool false, Value.bool false, Value.tuple #[Value.pointer (some { block := gq1, off := 0 }), rv Rq1 Bq1 bq1, Value.bool true], Value.pointer (some { block := g, off := 0 }), rv R0 none 0, Value.slice W0 n0 k0, Value.tuple #[Value.pointer (some { block := gq1, off := 0 }), rv Rq1 Bq1 bq1, Value.bool true], Value.pointer (some { block := gq1, off := 0 }), rv Rq1 Bq1 bq1, Value.bool true, Value.pointer (some { block := gq1, off := 0 }), Value.pointer (some { block := gq2, off := 0 }), Value.bool true, Value.bool false, Value.bool false, Value.pointer (some { block := gq2, off := 0 }), Value.bool false, Value.bool false, Value.bool false, Value.pointer (some { block := gq2, off := 0 }), rv Rq1 Bq1 bq1, Value.bool true, Value.bool false, Value.bool false, rv Rq1 Bq1 bq1, Value.slice W1 n1 k1, Value.slice W1 N1 k1, Value.slice W2 n2 k2, Value.slice W2 N2 k2, Value.slice W1 N1 k1, Value.int IntKind.i64 ↑N1, Value.slice W2 N2 k2, Value.int IntKind.i64 ↑N2, Value.int IntKind.i64 ↑M, Value.int IntKind.i64 ↑k, Value.bool true, Value.int IntKind.i64 ↑k, Value.int IntKind.i64 ↑k, Value.slice W1 N1 k1, Value.int IntKind.i64 ↑N1, Value.bool true, Value.tuple #[Value.pointer (some { block := g3, off := 0 }), rv R3 B3 b3, Value.bool true], Value.pointer (some { block := g1, off := 0 }), rv R1 B1 b1, Value.slice W1 N1 k1, Value.int IntKind.i64 ↑k, Value.int IntKind.i64 ↑k, Value.int IntKind.i64 (↑k + 1), Value.slice (Option.map (fun x => x.add (k * 5)) W1) 1 (k1 - k), Value.tuple #[Value.pointer (some { block := g3, off := 0 }), rv R3 B3 b3, Value.bool true], Value.pointer (some { block := g3, off := 0 }), rv R3 B3 b3, Value.bool true, Value.bool true, Value.bool false, Value.int IntKind.i64 ↑k, Value.slice W2 N2 k2, Value.int IntKind.i64 ↑N2, Value.bool true, .tuple #[.pointer (some ⟨x.g, 0, none⟩), rv x.R x.B x.b, .bool true], .pointer (some ⟨g2, 0, none⟩), rv R2 B2 b2, .slice W2 N2 k2, .int .i64 (k : Int), .int .i64 (k : Int), .int .i64 ((k : Int) + 1), .slice (W2.map (·.add (k * 5))) 1 (k2 - k), .tuple #[.pointer (some ⟨x.g, 0, none⟩), rv x.R x.B x.b, .bool true], .pointer (some ⟨x.g, 0, none⟩), rv x.R x.B x.b, .bool true, u100, u101, u102, u103, u104, u105, u106, u107, u108, u109, u110, u111, u112]) 113 [0, 1, 2, 3, 4, 5, 6, 7, 8, 9, 10, 13, 14, 15, 16, 17, 18, 19, 20, 21, 22, 23, 24, 25, 26, 27, 28, 29, 30, 31, 32, 33, 34, 35, 36, 37, 38, 39, 40, 41, 42, 43, 44, 45, 46, 47, 48, 49, 50, 51, 52, 53, 54, 55, 56, 57, 58, 59, 60, 61, 62, 63, 64, 65, 66, 67, 68, 69, 70, 71, 72, 73, 74, 75, 76, 77, 78, 79, 80, 81, 82, 83, 84, 85, 86, 87, 100, 101, 102, 103, 104, 105, 106, 107, 108, 109, 110, 111, 112]
              (fun x lz v => TwSt w ⟨g2, m2, A2, c2, S2, R2, B2, b2⟩ x g3 m3 A3 c3 S3 R3 B3 b3 g13 g9 (61 + k) (lz 7) (lz 13) v) []
              (by kernel_rfl) (fun _ => rfl) rfl rfl rfl (fun _ => by simp only [List.map_cons, List.map_nil, List.getD_cons_zero, List.getD_cons_succ]) 12 12 (.pointer (some ⟨g2, 0, none⟩)) rfl (by kernel_rfl) (⟨fun _ => TWe, (fun q => by cases q), hT2e, hT3e, fun _ => h13e, (fun q => by cases q), h9e⟩) (by kernel_rfl) (by kernel_rfl) ?step2 ?fin2
            case step2 =>
              intro x lz T v2 j o hj hlj hdep hst hpar hgot hcl hold Kq hK
              have hjn : j < 15 := (Array.getElem?_eq_some_iff.1 hj).1
              obtain rfl | rfl | rfl | rfl | rfl | rfl | rfl | rfl | rfl | rfl | rfl | rfl | rfl | rfl | rfl : j = 0 ∨ j = 1 ∨ j = 2 ∨ j = 3 ∨ j = 4 ∨ j = 5 ∨ j = 6 ∨ j = 7 ∨ j = 8 ∨ j = 9 ∨ j = 10 ∨ j = 11 ∨ j = 12 ∨ j = 13 ∨ j = 14 := by omega
              all_goals (have hj' := Option.some.inj (hj : some _ = some o); subst hj'; clear hj)
              · exact wp_ran rfl (exec_move rfl (eval_tmp (hold (by cases hh : lz 12 with | false => rfl | true => exact absurd (hcl 12 _ rfl hh ⟨0, .phase⟩ (by simp) rfl) (by rw [hlj]; simp))))) (hK x _ _ (fun _ _ _ _ _ _ => rfl) (fun s hs => by cases hs; rfl) hst)
              · have n13 : lz 13 = false := by
                  cases hh : lz 13 with
                  | false => rfl
                  | true => exact absurd (hcl 13 _ rfl hh ⟨1, .phase⟩ (by simp) rfl) (by rw [hlj]; simp)
                exact wp_ran rfl (exec_load rfl (eval_tmp (hpar 13 (by simp))) (run_loads (Cells.of_holds (hst.2.2.2.2.1 n13)) Try.underlying30 rfl (size30_of _ _ _))) (hK x _ _ (fun _ _ _ _ _ _ => rfl) (fun s hs => by cases hs; rfl) hst)
              · exact wp_ran rfl (exec_move rfl (eval_tmp (hpar 2 (by simp)))) (hK x _ _ (fun _ _ _ _ _ _ => rfl) (fun s hs => by cases hs; rfl) hst)
              · exact wp_ran rfl (exec_move rfl (eval_tmp (hpar 14 (by simp)))) (hK x _ _ (fun _ _ _ _ _ _ => rfl) (fun s hs => by cases hs; rfl) hst)
              · exact wp_ran rfl (exec_move rfl (eval_tmp (hpar 14 (by simp)))) (hK x _ _ (fun _ _ _ _ _ _ => rfl) (fun s hs => by cases hs; rfl) hst)
              · exact wp_ran rfl (exec_addk (k := k) (by have := HL.out.2.2.2.2; omega) rfl (eval_tmp (hgot 4 _ 93 rfl (hdep ⟨4, .data⟩ (by simp) rfl) rfl)) rfl) (hK x _ _ (fun _ _ _ _ _ _ => rfl) (fun s hs => by cases hs; rfl) hst)
              · exact wp_ran rfl (exec_one22 (n := N2) hkt hku rfl (eval_tmp (hgot 2 _ 91 rfl (hdep ⟨2, .data⟩ (by simp) rfl) rfl)) (eval_tmp (hgot 3 _ 92 rfl (hdep ⟨3, .data⟩ (by simp) rfl) rfl)) (eval_tmp (hgot 5 _ 94 rfl (hdep ⟨5, .data⟩ (by simp) rfl) rfl))) (hK x _ _ (fun _ _ _ _ _ _ => rfl) (fun s hs => by cases hs; rfl) hst)
              · have n8 : lz 8 = false := by
                  cases hh : lz 8 with
                  | false => rfl
                  | true => exact absurd (hcl 8 _ rfl hh ⟨7, .data⟩ (by simp) rfl) (by rw [hlj]; simp)
                have n9 : lz 9 = false := by
                  cases hh : lz 9 with
                  | false => rfl
                  | true => exact absurd (hcl 9 _ rfl hh ⟨8, .data⟩ (by simp) rfl) (by rw [n8]; simp)
                have n10 : lz 10 = false := by
                  cases hh : lz 10 with
                  | false => rfl
                  | true => exact absurd (hcl 10 _ rfl hh ⟨8, .data⟩ (by simp) rfl) (by rw [n8]; simp)
                have n11 : lz 11 = false := by
                  cases hh : lz 11 with
                  | false => rfl
                  | true => exact absurd (hcl 11 _ rfl hh ⟨8, .data⟩ (by simp) rfl) (by rw [n8]; simp)
                have n12 : lz 12 = false := by
                  cases hh : lz 12 with
                  | false => rfl
                  | true => exact absurd (hcl 12 _ rfl hh ⟨9, .data⟩ (by simp) rfl) (by rw [n9]; simp)
                have n13 : lz 13 = false := by
                  cases hh : lz 13 with
                  | false => rfl
                  | true => exact absurd (hcl 13 _ rfl hh ⟨7, .phase⟩ (by simp) rfl) (by rw [hlj]; simp)
                have n14 : lz 14 = false := by
                  cases hh : lz 14 with
                  | false => rfl
                  | true => exact absurd (hcl 14 _ rfl hh ⟨11, .data⟩ (by simp) rfl) (by rw [n11]; simp)
                have T1 := hst.1 hlj
                refine wp_called rfl (exec_call3 rfl rfl (eval_tmp (hgot 0 _ 89 rfl (hdep ⟨0, .data⟩ (by simp) rfl) rfl)) (eval_tmp (hgot 1 _ 90 rfl (hdep ⟨1, .data⟩ (by simp) rfl) rfl)) (eval_tmp (hgot 6 _ 95 rfl (hdep ⟨6, .data⟩ (by simp) rfl) rfl)) (enters_of Try.func14 (by kernel_rfl) rfl)) ((lived_c T1.L HL.out.2.2.1 B2 b2 hst.2.2.1 (60 + k) HL.out.2.2.2.1 (by have := HL.out.2.2.2.2; omega) (W2.map (·.add (k * 5))) 1 (k2 - k) (by omega) (by have := HA.out.2.2.2.2.2.2.2.2; omega) (Acts2.one HA.out.2.2.1 hkt2)).mono (fun e v' hh => ?_))
                obtain ⟨g', m', A', c', S', R', B', b', h1, D', V', hT', L', F', _⟩ := hh
                have kp := V'.keeps T1.L.D
                exact ⟨_, h1, hK ⟨g', m', A', c', S', R', B', b'⟩ _ _ (fun j' o' s' h1 h2 h3 => by
                  clear hst hpar hgot hdep hcl hK
                  have h4 : j' < 15 := (Array.getElem?_eq_some_iff.1 h1).1
                  obtain rfl | rfl | rfl | rfl | rfl | rfl | rfl | rfl | rfl | rfl | rfl | rfl | rfl | rfl | rfl : j' = 0 ∨ j' = 1 ∨ j' = 2 ∨ j' = 3 ∨ j' = 4 ∨ j' = 5 ∨ j' = 6 ∨ j' = 7 ∨ j' = 8 ∨ j' = 9 ∨ j' = 10 ∨ j' = 11 ∨ j' = 12 ∨ j' = 13 ∨ j' = 14 := by omega
                  all_goals (cases h1; cases h3 <;> first | rfl | (rw [hlj] at h2; cases h2) | (rw [n8] at h2; cases h2) | (rw [n9] at h2; cases h2) | (rw [n10] at h2; cases h2) | (rw [n11] at h2; cases h2) | (rw [n12] at h2; cases h2) | (rw [n14] at h2; cases h2))) (fun s hs => by cases hs; rfl) ⟨(fun q => by cases q), fun _ => ⟨T1.went D' V', hT', L', F'.wk (by omega)⟩, Told.went hst.2.2.1 T1.L.D V', Told.went hst.2.2.2.1 T1.L.D V', fun q => kp _ _ _ (by decide) (by decide) (hst.2.2.2.2.1 q), (fun q => absurd (show lz 13 = true from q) (by rw [n13]; simp)), kp _ _ _ (by decide) (by decide) hst.2.2.2.2.2.2⟩⟩
              · exact wp_ran rfl (exec_move rfl (eval_tmp (hgot 7 _ 96 rfl (hdep ⟨7, .data⟩ (by simp) rfl) rfl))) (hK x _ _ (fun _ _ _ _ _ _ => rfl) (fun s hs => by cases hs; rfl) hst)
              · exact wp_ran rfl (exec_extractt0 rfl (eval_tmp (hgot 8 _ 88 rfl (hdep ⟨8, .data⟩ (by simp) rfl) rfl))) (hK x _ _ (fun _ _ _ _ _ _ => rfl) (fun s hs => by cases hs; rfl) hst)
              · exact wp_ran rfl (exec_extractt1 rfl (eval_tmp (hgot 8 _ 88 rfl (hdep ⟨8, .data⟩ (by simp) rfl) rfl))) (hK x _ _ (fun _ _ _ _ _ _ => rfl) (fun s hs => by cases hs; rfl) hst)
              · exact wp_ran rfl (exec_extractt2 rfl (eval_tmp (hgot 8 _ 88 rfl (hdep ⟨8, .data⟩ (by simp) rfl) rfl))) (hK x _ _ (fun _ _ _ _ _ _ => rfl) (fun s hs => by cases hs; rfl) hst)
              · exact wp_ran rfl (exec_assign rfl (eval_tmp (hgot 9 _ 97 rfl (hdep ⟨9, .data⟩ (by simp) rfl) rfl))) (hK x _ _ (fun _ _ _ _ _ _ => rfl) (fun s hs => by cases hs; rfl) hst)
              · have a7 : lz 7 = true := hdep ⟨7, .phase⟩ (by simp) rfl
                have hg := hst.2.2.2.2.1 hlj
                obtain ⟨T1, u1, u2, u3⟩ := hst.2.1 a7
                have hTn : ∀ {R' : RSt} {A' : Option Addr} {c' : Nat}, Told v2 R' A' c' → ∀ a, A' = some a → a.block ∉ [g13] := fun h a ha => by simpa using h.ne hg (by decide) a ha
                exact wp_stored (ty := 30) (V := rv x.R x.B x.b) (cs := rc x.R x.B x.b) rfl rfl (eval_tmp (hpar 13 (by simp))) (eval_tmp (hgot 10 _ 98 rfl (hdep ⟨10, .data⟩ (by simp) rfl) rfl)) rfl hg rfl (rc_one _ _ _) (size30_of _ _ _) (fun v2' r1 r2 => hK x _ _ (fun _ _ _ _ _ _ => rfl) (fun s hs => by cases hs) ⟨(fun q => absurd (show lz 7 = false from q) (by rw [a7]; simp)), fun _ => ⟨T1.own r2 hg (by decide) (by decide) (by have := H9.out; have := H13.out; omega), u1.keep r2 (hTn u1), u2, u3⟩, hst.2.2.1.keep r2 (hTn hst.2.2.1), hst.2.2.2.1.keep r2 (hTn hst.2.2.2.1), (fun q => by cases q), fun _ => r1, hst.2.2.2.2.2.2.keep r2 (by have := H13.out; simp; omega)⟩)
              · exact wp_ran rfl (exec_assign rfl (eval_tmp (hgot 11 _ 99 rfl (hdep ⟨11, .data⟩ (by simp) rfl) rfl))) (hK x _ _ (fun _ _ _ _ _ _ => rfl) (fun s hs => by cases hs; rfl) hst)
            case fin2 =>
              intro x lz v2 hl hst
              obtain ⟨_, q2, _, q4, _, q6, q7⟩ := hst
              obtain ⟨T4, hT4, L4, F4⟩ := q2 (hl 7 (by decide))
              replace h13 := q6 (hl 13 (by decide))
              replace h9 := q7
              replace hT3 := q4
              obtain ⟨g4, m4, A4, c4, S4, R4, B4, b4⟩ := x
              dsimp only at T4 hT4 L4 F4 h13
              have HL4 := Lib.hid (And.intro L4 F4)
              clear L4 F4 q2 q6 q7 q4 hl
              dsimp only
              go_wp2_with (first
                | (with_reducible refine wpList_loads (o := ⟨some 103, .load 30 (.tmp 9), _, _, _, _⟩) rfl 30 (.tmp 9) rfl g9 0 _ rfl (Cells.of_holds h9) _ Try.underlying30 rfl (size30_of _ _ _) (rv R3 B3 b3) rfl ?_))
              refine (stands_c HL3.out.1 g3 m3 A3 c3 B3 b3 _ (T4.swap).L.D hT3 (HL3.out.2.wk (by have := HL.out.2.2.2.2; omega))).mono ?_
              rintro e wy ⟨rfl, my⟩
              have TQ := (T4.swap).keep my
              replace hT3 := hT3.keep my (by simp)
              replace hT4 := hT4.keep my (by simp)
              replace h9 := h9.keep my (by simp)
              replace h13 := h13.keep my (by simp)
              clear my
              go_wp2_with (first
                | (with_reducible refine wpList_loadsW (o := ⟨some 108, .load 30 (.tmp 13), _, _, _, _⟩) (by with_unfolding_all rfl) 30 (.tmp 13) rfl g13 0 _ rfl (Cells.of_holds h13) _ Try.underlying30 rfl (size30_of _ _ _) (rv R4 B4 b4) rfl ?_))
              refine (stands_c HL4.out.1 g4 m4 A4 c4 B4 b4 _ TQ.R.D hT4 (HL4.out.2.wk (by have := HL.out.2.2.2.2; omega))).mono ?_
              rintro e wz ⟨rfl, mz⟩
              go_wp2_with fail
              exact ⟨⟨k + 1, g3, m3, A3, c3, S3, R3, B3, b3, g4, m4, A4, c4, S4, R4, B4, b4, hkn, by go_num, rfl, rfl, rfl, TQ.keep mz, HL3.out.1, HL4.out.1, hT3.keep mz (by simp), hT4.keep mz (by simp), (HL3.out.2.wk (by omega)), (HL4.out.2.wk (by omega)), h9.keep mz (by simp), h13.keep mz (by simp)⟩, by simp [intOf]; omega⟩
        · have hk2Z : ¬ (k : Int) < (N2 : Int) := by omega
          go_wp2_with fail
          have hks : k < N1 := hk1
          have hks2 : k < n1 := by have := HN.out; omega
          have hkc : N1 ≤ k1 := by have := HN.out; have := HA.out; omega
          have TWd := (TW).keep (Mod.drew [] wr)
          have hT1d : Told wr.drew R1 B1 b1 := hT1.keep (Mod.drew [] wr) (by simp)
          have hT2d : Told wr.drew R2 B2 b2 := hT2.keep (Mod.drew [] wr) (by simp)
          have h9d : Holds wr.drew g9 30 _ := h9
          have h13d : Holds wr.drew g13 30 _ := h13
          refine Rg.wp_region_lito (X := Xt) (⟨g1, m1, A1, c1, S1, R1, B1, b1⟩ : Xt) (fun x => [Value.slice W0 n0 k0, Value.slice W1 N1 k1, Value.slice W2 N2 k2, undef, undef, undef, u6, .pointer (some ⟨x.g, 0, none⟩), Value.int IntKind.i64 0, Value.pointer (some { block := g9, off := 0 }), Value.bool true, .bool true, Value.pointer (some { block := g2, off := 0 }), Value.pointer (some { block := g13, off := 0 }), Value.int IntKind.i64 ↑k, Value.bool true, Value.bool false, Value.tuple #[Value.pointer (some { block := g, off := 0 }), Value.int IntKind.i64 0], Value.tuple #[Value.pointer (some { block := g, off := 0 }), Value.int IntKind.i64 0], Value.pointer (some { block := g, off := 0 }), Value.int IntKind.i64 0, Value.tuple #[rv R0 none 0, Value.bool true], Value.tuple #[rv R0 none 0, Value.bool true], rv R0 none 0, Value.bool true, Value.pointer (some { block := g, off := 0 }), Value.bool false, Value.bool false, Value.int IntKind.i64 0, Value.bool false, Value.bool false, Value.tuple #[Value.pointer (some { block := gq1, off := 0 }), rv Rq1 Bq1 bq1, Value.bool true], Value.pointer (some { block := g, off := 0 }), rv R0 none 0, Value.slice W0 n0 k0, Value.tuple #[Value.pointer (some { block := gq1, off := 0 }), rv Rq1 Bq1 bq1, Value.bool true], Value.pointer (some { block := gq1, off := 0 }), rv Rq1 Bq1 bq1, Value.bool true, Value.pointer (some { block := gq1, off := 0 }), Value.pointer (some { block := gq2, off := 0 }), Value.bool true, Value.bool false, Value.bool false, Value.pointer (some { block := gq2, off := 0 }), Value.bool false, Value.bool false, Value.bool false, Value.pointer (some { block := gq2, off := 0 }), rv Rq1 Bq1 bq1, Value.bool true, Value.bool false, Value.bool false, rv Rq1 Bq1 bq1, Value.slice W1 n1 k1, Value.slice W1 N1 k1, Value.slice W2 n2 k2, Value.slice W2 N2 k2, Value.slice W1 N1 k1, Value.int IntKind.i64 ↑N1, Value.slice W2 N2 k2, Value.int IntKind.i64 ↑N2, Value.int IntKind.i64 ↑M, Value.int IntKind.i64 ↑k, Value.bool true, Value.int IntKind.i64 ↑k, Value.int IntKind.i64 ↑k, Value.slice W1 N1 k1, Value.int IntKind.i64 ↑N1, Value.bool true, .tuple #[.pointer (some ⟨x.g, 0, none⟩), rv x.R x.B x.b, .bool true], .pointer (some ⟨g1, 0, none⟩), rv R1 B1 b1, .slice W1 N1 k1, .int .i64 (k : Int), .int .i64 (k : Int), .int .i64 ((k : Int) + 1), .slice (W1.map (·.add (k * 5))) 1 (k1 - k), .tuple #[.pointer (some ⟨x.g, 0, none⟩), rv x.R x.B x.b, .bool true], .pointer (some ⟨x.g, 0, none⟩), rv x.R x.B x.b, .bool true, u82, u83, u84, u85, u86, u87, u88, u89, u90, u91, u92, u93, u94, u95, u96, u97, u98, u99, u100, u101, u102, u103, u104, u105, u106, u107, u108, u109, u110, u111, u112]) 113 [0, 1, 2, 3, 4, 5, 6, 8, 9, 10, 12, 13, 14, 15, 16, 17, 18, 19, 20, 21, 22, 23, 24, 25, 26, 27, 28, 29, 30, 31, 32, 33, 34, 35, 36, 37, 38, 39, 40, 41, 42, 43, 44, 45, 46, 47, 48, 49, 50, 51, 52, 53, 54, 55, 56, 57, 58, 59, 60, 61, 62, 63, 64, 65, 66, 67, 68, 69, 82, 83, 84, 85, 86, 87, 88, 89, 90, 91, 92, 93, 94, 95, 96, 97, 98, 99, 100, 101, 102, 103, 104, 105, 106, 107, 108, 109, 110, 111, 112]
            (fun x lz v => TwSt w ⟨g1, m1, A1, c1, S1, R1, B1, b1⟩ x g2 m2 A2 c2 S2 R2 B2 b2 g9 g13 (61 + k) (lz 7) (lz 13) v) []
            (by kernel_rfl) (fun _ => rfl) rfl rfl rfl (fun _ => by simp only [List.map_cons, List.map_nil, List.getD_cons_zero, List.getD_cons_succ]) 7 12 (.pointer (some ⟨g1, 0, none⟩)) rfl (by kernel_rfl) (⟨fun _ => TWd, (fun q => by cases q), hT1d, hT2d, fun _ => h9d, (fun q => by cases q), h13d⟩) (by kernel_rfl) (by kernel_rfl) ?step ?fin
          case step =>
            intro x lz T v j o hj hlj hdep hst hpar hgot hcl hold Kq hK
            have hjn : j < 15 := (Array.getElem?_eq_some_iff.1 hj).1
            obtain rfl | rfl | rfl | rfl | rfl | rfl | rfl | rfl | rfl | rfl | rfl | rfl | rfl | rfl | rfl : j = 0 ∨ j = 1 ∨ j = 2 ∨ j = 3 ∨ j = 4 ∨ j = 5 ∨ j = 6 ∨ j = 7 ∨ j = 8 ∨ j = 9 ∨ j = 10 ∨ j = 11 ∨ j = 12 ∨ j = 13 ∨ j = 14 := by omega
            all_goals (have hj' := Option.some.inj (hj : some _ = some o); subst hj'; clear hj)
            · exact wp_ran rfl (exec_move rfl (eval_tmp (hold (by cases hh : lz 12 with | false => rfl | true => exact absurd (hcl 12 _ rfl hh ⟨0, .phase⟩ (by simp) rfl) (by rw [hlj]; simp))))) (hK x _ _ (fun _ _ _ _ _ _ => rfl) (fun s hs => by cases hs; rfl) hst)
            · have n13 : lz 13 = false := by
                cases hh : lz 13 with
                | false => rfl
                | true => exact absurd (hcl 13 _ rfl hh ⟨1, .phase⟩ (by simp) rfl) (by rw [hlj]; simp)
              exact wp_ran rfl (exec_load rfl (eval_tmp (hpar 9 (by simp))) (run_loads (Cells.of_holds (hst.2.2.2.2.1 n13)) Try.underlying30 rfl (size30_of _ _ _))) (hK x _ _ (fun _ _ _ _ _ _ => rfl) (fun s hs => by cases hs; rfl) hst)
            · exact wp_ran rfl (exec_move rfl (eval_tmp (hpar 1 (by simp)))) (hK x _ _ (fun _ _ _ _ _ _ => rfl) (fun s hs => by cases hs; rfl) hst)
            · exact wp_ran rfl (exec_move rfl (eval_tmp (hpar 14 (by simp)))) (hK x _ _ (fun _ _ _ _ _ _ => rfl) (fun s hs => by cases hs; rfl) hst)
            · exact wp_ran rfl (exec_move rfl (eval_tmp (hpar 14 (by simp)))) (hK x _ _ (fun _ _ _ _ _ _ => rfl) (fun s hs => by cases hs; rfl) hst)
            · exact wp_ran rfl (exec_addk (k := k) (by have := HL.out.2.2.2.2; omega) rfl (eval_tmp (hgot 4 _ 75 rfl (hdep ⟨4, .data⟩ (by simp) rfl) rfl)) rfl) (hK x _ _ (fun _ _ _ _ _ _ => rfl) (fun s hs => by cases hs; rfl) hst)
            · exact wp_ran rfl (exec_one22 (n := N1) hks hkc rfl (eval_tmp (hgot 2 _ 73 rfl (hdep ⟨2, .data⟩ (by simp) rfl) rfl)) (eval_tmp (hgot 3 _ 74 rfl (hdep ⟨3, .data⟩ (by simp) rfl) rfl)) (eval_tmp (hgot 5 _ 76 rfl (hdep ⟨5, .data⟩ (by simp) rfl) rfl))) (hK x _ _ (fun _ _ _ _ _ _ => rfl) (fun s hs => by cases hs; rfl) hst)
            · have n8 : lz 8 = false := by
                cases hh : lz 8 with
                | false => rfl
                | true => exact absurd (hcl 8 _ rfl hh ⟨7, .data⟩ (by simp) rfl) (by rw [hlj]; simp)
              have n9 : lz 9 = false := by
                cases hh : lz 9 with
                | false => rfl
                | true => exact absurd (hcl 9 _ rfl hh ⟨8, .data⟩ (by simp) rfl) (by rw [n8]; simp)
              have n10 : lz 10 = false := by
                cases hh : lz 10 with
                | false => rfl
                | true => exact absurd (hcl 10 _ rfl hh ⟨8, .data⟩ (by simp) rfl) (by rw [n8]; simp)
              have n11 : lz 11 = false := by
                cases hh : lz 11 with
                | false => rfl
                | true => exact absurd (hcl 11 _ rfl hh ⟨8, .data⟩ (by simp) rfl) (by rw [n8]; simp)
              have n12 : lz 12 = false := by
                cases hh : lz 12 with
                | false => rfl
                | true => exact absurd (hcl 12 _ rfl hh ⟨9, .data⟩ (by simp) rfl) (by rw [n9]; simp)
              have n13 : lz 13 = false := by
                cases hh : lz 13 with
                | false => rfl
                | true => exact absurd (hcl 13 _ rfl hh ⟨7, .phase⟩ (by simp) rfl) (by rw [hlj]; simp)
              have n14 : lz 14 = false := by
                cases hh : lz 14 with
                | false => rfl
                | true => exact absurd (hcl 14 _ rfl hh ⟨11, .data⟩ (by simp) rfl) (by rw [n11]; simp)
              have T1 := hst.1 hlj
              refine wp_called rfl (exec_call3 rfl rfl (eval_tmp (hgot 0 _ 71 rfl (hdep ⟨0, .data⟩ (by simp) rfl) rfl)) (eval_tmp (hgot 1 _ 72 rfl (hdep ⟨1, .data⟩ (by simp) rfl) rfl)) (eval_tmp (hgot 6 _ 77 rfl (hdep ⟨6, .data⟩ (by simp) rfl) rfl)) (enters_of Try.func14 (by kernel_rfl) rfl)) ((lived_c T1.L HL.out.1 B1 b1 hst.2.2.1 (60 + k) HL.out.2.1 (by have := HL.out.2.2.2.2; omega) (W1.map (·.add (k * 5))) 1 (k1 - k) (by omega) (by have := HA.out.2.2.2.2.2.2.2.1; omega) (Acts2.one HA.out.2.1 hks2)).mono (fun e v' hh => ?_))
              obtain ⟨g', m', A', c', S', R', B', b', h1, D', V', hT', L', F', _⟩ := hh
              have kp := V'.keeps T1.L.D
              exact ⟨_, h1, hK ⟨g', m', A', c', S', R', B', b'⟩ _ _ (fun j' o' s' h1 h2 h3 => by
                clear hst hpar hgot hdep hcl hK
                have h4 : j' < 15 := (Array.getElem?_eq_some_iff.1 h1).1
                obtain rfl | rfl | rfl | rfl | rfl | rfl | rfl | rfl | rfl | rfl | rfl | rfl | rfl | rfl | rfl : j' = 0 ∨ j' = 1 ∨ j' = 2 ∨ j' = 3 ∨ j' = 4 ∨ j' = 5 ∨ j' = 6 ∨ j' = 7 ∨ j' = 8 ∨ j' = 9 ∨ j' = 10 ∨ j' = 11 ∨ j' = 12 ∨ j' = 13 ∨ j' = 14 := by omega
                all_goals (cases h1; cases h3 <;> first | rfl | (rw [hlj] at h2; cases h2) | (rw [n8] at h2; cases h2) | (rw [n9] at h2; cases h2) | (rw [n10] at h2; cases h2) | (rw [n11] at h2; cases h2) | (rw [n12] at h2; cases h2) | (rw [n14] at h2; cases h2))) (fun s hs => by cases hs; rfl) ⟨(fun q => by cases q), fun _ => ⟨T1.went D' V', hT', L', F'.wk (by omega)⟩, Told.went hst.2.2.1 T1.L.D V', Told.went hst.2.2.2.1 T1.L.D V', fun q => kp _ _ _ (by decide) (by decide) (hst.2.2.2.2.1 q), (fun q => absurd (show lz 13 = true from q) (by rw [n13]; simp)), kp _ _ _ (by decide) (by decide) hst.2.2.2.2.2.2⟩⟩
            · exact wp_ran rfl (exec_move rfl (eval_tmp (hgot 7 _ 78 rfl (hdep ⟨7, .data⟩ (by simp) rfl) rfl))) (hK x _ _ (fun _ _ _ _ _ _ => rfl) (fun s hs => by cases hs; rfl) hst)
            · exact wp_ran rfl (exec_extractt0 rfl (eval_tmp (hgot 8 _ 70 rfl (hdep ⟨8, .data⟩ (by simp) rfl) rfl))) (hK x _ _ (fun _ _ _ _ _ _ => rfl) (fun s hs => by cases hs; rfl) hst)
            · exact wp_ran rfl (exec_extractt1 rfl (eval_tmp (hgot 8 _ 70 rfl (hdep ⟨8, .data⟩ (by simp) rfl) rfl))) (hK x _ _ (fun _ _ _ _ _ _ => rfl) (fun s hs => by cases hs; rfl) hst)
            · exact wp_ran rfl (exec_extractt2 rfl (eval_tmp (hgot 8 _ 70 rfl (hdep ⟨8, .data⟩ (by simp) rfl) rfl))) (hK x _ _ (fun _ _ _ _ _ _ => rfl) (fun s hs => by cases hs; rfl) hst)
            · exact wp_ran rfl (exec_assign rfl (eval_tmp (hgot 9 _ 79 rfl (hdep ⟨9, .data⟩ (by simp) rfl) rfl))) (hK x _ _ (fun _ _ _ _ _ _ => rfl) (fun s hs => by cases hs; rfl) hst)
            · have a7 : lz 7 = true := hdep ⟨7, .phase⟩ (by simp) rfl
              have hg := hst.2.2.2.2.1 hlj
              obtain ⟨T1, u1, u2, u3⟩ := hst.2.1 a7
              have hTn : ∀ {R' : RSt} {A' : Option Addr} {c' : Nat}, Told v R' A' c' → ∀ a, A' = some a → a.block ∉ [g9] := fun h a ha => by simpa using h.ne hg (by decide) a ha
              exact wp_stored (ty := 30) (V := rv x.R x.B x.b) (cs := rc x.R x.B x.b) rfl rfl (eval_tmp (hpar 9 (by simp))) (eval_tmp (hgot 10 _ 80 rfl (hdep ⟨10, .data⟩ (by simp) rfl) rfl)) rfl hg rfl (rc_one _ _ _) (size30_of _ _ _) (fun v' r1 r2 => hK x _ _ (fun _ _ _ _ _ _ => rfl) (fun s hs => by cases hs) ⟨(fun q => absurd (show lz 7 = false from q) (by rw [a7]; simp)), fun _ => ⟨T1.own r2 hg (by decide) (by decide) (by have := H9.out; have := H13.out; omega), u1.keep r2 (hTn u1), u2, u3⟩, hst.2.2.1.keep r2 (hTn hst.2.2.1), hst.2.2.2.1.keep r2 (hTn hst.2.2.2.1), (fun q => by cases q), fun _ => r1, hst.2.2.2.2.2.2.keep r2 (by have := H13.out; simp; omega)⟩)
            · exact wp_ran rfl (exec_assign rfl (eval_tmp (hgot 11 _ 81 rfl (hdep ⟨11, .data⟩ (by simp) rfl) rfl))) (hK x _ _ (fun _ _ _ _ _ _ => rfl) (fun s hs => by cases hs; rfl) hst)
          case fin =>
            intro x lz v hl hst
            obtain ⟨_, q2, _, q4, _, q6, q7⟩ := hst
            obtain ⟨T3, hT3, L3, F3⟩ := q2 (hl 7 (by decide))
            replace h9 := q6 (hl 13 (by decide))
            replace h13 := q7
            replace hT2 := q4
            obtain ⟨g3, m3, A3, c3, S3, R3, B3, b3⟩ := x
            dsimp only at T3 hT3 L3 F3 h9
            have HL3 := Lib.hid (And.intro L3 F3)
            clear L3 F3 q2 q6 q7 q4 hl
            dsimp only
            go_wp2_with (first
              | (with_reducible refine wpList_loads (o := ⟨some 103, .load 30 (.tmp 9), _, _, _, _⟩) rfl 30 (.tmp 9) rfl g9 0 _ rfl (Cells.of_holds h9) _ Try.underlying30 rfl (size30_of _ _ _) (rv R3 B3 b3) rfl ?_))
            refine (stands_c HL3.out.1 g3 m3 A3 c3 B3 b3 _ (T3).L.D hT3 (HL3.out.2.wk (by have := HL.out.2.2.2.2; omega))).mono ?_
            rintro e wy ⟨rfl, my⟩
            have TQ := (T3).keep my
            replace hT3 := hT3.keep my (by simp)
            replace hT2 := hT2.keep my (by simp)
            replace h9 := h9.keep my (by simp)
            replace h13 := h13.keep my (by simp)
            clear my
            go_wp2_with (first
              | (with_reducible refine wpList_loadsW (o := ⟨some 108, .load 30 (.tmp 13), _, _, _, _⟩) (by with_unfolding_all rfl) 30 (.tmp 13) rfl g13 0 _ rfl (Cells.of_holds h13) _ Try.underlying30 rfl (size30_of _ _ _) (rv R2 B2 b2) rfl ?_))
            refine (stands_c HL.out.2.2.1 g2 m2 A2 c2 B2 b2 _ TQ.R.D hT2 (HL.out.2.2.2.1.wk (by have := HL.out.2.2.2.2; omega))).mono ?_
            rintro e wz ⟨rfl, mz⟩
            go_wp2_with fail
            exact ⟨⟨k + 1, g3, m3, A3, c3, S3, R3, B3, b3, g2, m2, A2, c2, S2, R2, B2, b2, hkn, by go_num, rfl, rfl, rfl, TQ.keep mz, HL3.out.1, HL.out.2.2.1, hT3.keep mz (by simp), hT2.keep mz (by simp), (HL3.out.2.wk (by omega)), (HL.out.2.2.2.1.wk (by omega)), h9.keep mz (by simp), h13.keep mz (by simp)⟩, by simp [intOf]; omega⟩
      · have hk1Z : ¬ (k : Int) < (N1 : Int) := by omega
        have hk2 : k < N2 := by have := HN.out; omega
        have hk2Z : (k : Int) < (N2 : Int) := by omega
        go_wp2_with fail
        have hks : k < N2 := hk2
        have hks2 : k < n2 := by have := HN.out; omega
        have hkc : N2 ≤ k2 := by have := HN.out; have := HA.out; omega
        have TWd := (TW.swap).keep (Mod.drew [] wr)
        have hT2d : Told wr.drew R2 B2 b2 := hT2.keep (Mod.drew [] wr) (by simp)
        have hT1d : Told wr.drew R1 B1 b1 := hT1.keep (Mod.drew [] wr) (by simp)
        have h9d : Holds wr.drew g9 30 _ := h9
        have h13d : Holds wr.drew g13 30 _ := h13
        refine Rg.wp_region_lito (X := Xt) (⟨g2, m2, A2, c2, S2, R2, B2, b2⟩ : Xt) (fun x => [Value.slice W0 n0 k0, Value.slice W1 N1 k1, Value.slice W2 N2 k2, undef, undef, undef, u6, Value.pointer (some { block := g1, off := 0 }), Value.int IntKind.i64 0, Value.pointer (some { block := g9, off := 0 }), Value.bool true, .bool true, .pointer (some ⟨x.g, 0, none⟩), Value.pointer (some { block := g13, off := 0 }), Value.int IntKind.i64 ↑k, Value.bool true, Value.bool false, Value.tuple #[Value.pointer (some { block := g, off := 0 }), Value.int IntKind.i64 0], Value.tuple #[Value.pointer (some { block := g, off := 0 }), Value.int IntKind.i64 0], Value.pointer (some { block := g, off := 0 }), Value.int IntKind.i64 0, Value.tuple #[rv R0 none 0, Value.bool true], Value.tuple #[rv R0 none 0, Value.bool true], rv R0 none 0, Value.bool true, Value.pointer (some { block := g, off := 0 }), Value.bool false, Value.bool false, Value.int IntKind.i64 0, Value.bool false, Value.bool false, Value.tuple #[Value.pointer (some { block := gq1, off := 0 }), rv Rq1 Bq1 bq1, Value.bool true], Value.pointer (some { block := g, off := 0 }), rv R0 none 0, Value.slice W0 n0 k0, Value.tuple #[Value.pointer (some { block := gq1, off := 0 }), rv Rq1 Bq1 bq1, Value.bool true], Value.pointer (some { block := gq1, off := 0 }), rv Rq1 Bq1 bq1, Value.bool true, Value.pointer (some { block := gq1, off := 0 }), Value.pointer (some { block := gq2, off := 0 }), Value.bool true, Value.bool false, Value.bool false, Value.pointer (some { block := gq2, off := 0 }), Value.bool false, Value.bool false, Value.bool false, Value.pointer (some { block := gq2, off := 0 }), rv Rq1 Bq1 bq1, Value.bool true, Value.bool false, Value.bool false, rv Rq1 Bq1 bq1, Value.slice W1 n1 k1, Value.slice W1 N1 k1, Value.slice W2 n2 k2, Value.slice W2 N2 k2, Value.slice W1 N1 k1, Value.int IntKind.i64 ↑N1, Value.slice W2 N2 k2, Value.int IntKind.i64 ↑N2, Value.int IntKind.i64 ↑M, Value.int IntKind.i64 ↑k, Value.bool true, Value.int IntKind.i64 ↑k, Value.int IntKind.i64 ↑k, Value.slice W1 N1 k1, Value.int IntKind.i64 ↑N1, Value.bool false, u70, u71, u72, u73, u74, u75, u76, u77, u78, u79, u80, u81, u82, u83, Value.int IntKind.i64 ↑k, Value.slice W2 N2 k2, Value.int IntKind.i64 ↑N2, Value.bool true, .tuple #[.pointer (some ⟨x.g, 0, none⟩), rv x.R x.B x.b, .bool true], .pointer (some ⟨g2, 0, none⟩), rv R2 B2 b2, .slice W2 N2 k2, .int .i64 (k : Int), .int .i64 (k : Int), .int .i64 ((k : Int) + 1), .slice (W2.map (·.add (k * 5))) 1 (k2 - k), .tuple #[.pointer (some ⟨x.g, 0, none⟩), rv x.R x.B x.b, .bool true], .pointer (some ⟨x.g, 0, none⟩), rv x.R x.B x.b, .bool true, u100, u101, u102, u103, u104, u105, u106, u107, u108, u109, u110, u111, u112]) 113 [0, 1, 2, 3, 4, 5, 6, 7, 8, 9, 10, 13, 14, 15, 16, 17, 18, 19, 20, 21, 22, 23, 24, 25, 26, 27, 28, 29, 30, 31, 32, 33, 34, 35, 36, 37, 38, 39, 40, 41, 42, 43, 44, 45, 46, 47, 48, 49, 50, 51, 52, 53, 54, 55, 56, 57, 58, 59, 60, 61, 62, 63, 64, 65, 66, 67, 68, 69, 70, 71, 72, 73, 74, 75, 76, 77, 78, 79, 80, 81, 82, 83, 84, 85, 86, 87, 100, 101, 102, 103, 104, 105, 106, 107, 108, 109, 110, 111, 112]
          (fun x lz v => TwSt w ⟨g2, m2, A2, c2, S2, R2, B2, b2⟩ x g1 m1 A1 c1 S1 R1 B1 b1 g13 g9 (61 + k) (lz 7) (lz 13) v) []
          (by kernel_rfl) (fun _ => rfl) rfl rfl rfl (fun _ => by simp only [List.map_cons, List.map_nil, List.getD_cons_zero, List.getD_cons_succ]) 12 12 (.pointer (some ⟨g2, 0, none⟩)) rfl (by kernel_rfl) (⟨fun _ => TWd, (fun q => by cases q), hT2d, hT1d, fun _ => h13d, (fun q => by cases q), h9d⟩) (by kernel_rfl) (by kernel_rfl) ?step ?fin
        case step =>
          intro x lz T v j o hj hlj hdep hst hpar hgot hcl hold Kq hK
          have hjn : j < 15 := (Array.getElem?_eq_some_iff.1 hj).1
          obtain rfl | rfl | rfl | rfl | rfl | rfl | rfl | rfl | rfl | rfl | rfl | rfl | rfl | rfl | rfl : j = 0 ∨ j = 1 ∨ j = 2 ∨ j = 3 ∨ j = 4 ∨ j = 5 ∨ j = 6 ∨ j = 7 ∨ j = 8 ∨ j = 9 ∨ j = 10 ∨ j = 11 ∨ j = 12 ∨ j = 13 ∨ j = 14 := by omega
          all_goals (have hj' := Option.some.inj (hj : some _ = some o); subst hj'; clear hj)
          · exact wp_ran rfl (exec_move rfl (eval_tmp (hold (by cases hh : lz 12 with | false => rfl | true => exact absurd (hcl 12 _ rfl hh ⟨0, .phase⟩ (by simp) rfl) (by rw [hlj]; simp))))) (hK x _ _ (fun _ _ _ _ _ _ => rfl) (fun s hs => by cases hs; rfl) hst)
          · have n13 : lz 13 = false := by
              cases hh : lz 13 with
              | false => rfl
              | true => exact absurd (hcl 13 _ rfl hh ⟨1, .phase⟩ (by simp) rfl) (by rw [hlj]; simp)
            exact wp_ran rfl (exec_load rfl (eval_tmp (hpar 13 (by simp))) (run_loads (Cells.of_holds (hst.2.2.2.2.1 n13)) Try.underlying30 rfl (size30_of _ _ _))) (hK x _ _ (fun _ _ _ _ _ _ => rfl) (fun s hs => by cases hs; rfl) hst)
          · exact wp_ran rfl (exec_move rfl (eval_tmp (hpar 2 (by simp)))) (hK x _ _ (fun _ _ _ _ _ _ => rfl) (fun s hs => by cases hs; rfl) hst)
          · exact wp_ran rfl (exec_move rfl (eval_tmp (hpar 14 (by simp)))) (hK x _ _ (fun _ _ _ _ _ _ => rfl) (fun s hs => by cases hs; rfl) hst)
          · exact wp_ran rfl (exec_move rfl (eval_tmp (hpar 14 (by simp)))) (hK x _ _ (fun _ _ _ _ _ _ => rfl) (fun s hs => by cases hs; rfl) hst)
          · exact wp_ran rfl (exec_addk (k := k) (by have := HL.out.2.2.2.2; omega) rfl (eval_tmp (hgot 4 _ 93 rfl (hdep ⟨4, .data⟩ (by simp) rfl) rfl)) rfl) (hK x _ _ (fun _ _ _ _ _ _ => rfl) (fun s hs => by cases hs; rfl) hst)
          · exact wp_ran rfl (exec_one22 (n := N2) hks hkc rfl (eval_tmp (hgot 2 _ 91 rfl (hdep ⟨2, .data⟩ (by simp) rfl) rfl)) (eval_tmp (hgot 3 _ 92 rfl (hdep ⟨3, .data⟩ (by simp) rfl) rfl)) (eval_tmp (hgot 5 _ 94 rfl (hdep ⟨5, .data⟩ (by simp) rfl) rfl))) (hK x _ _ (fun _ _ _ _ _ _ => rfl) (fun s hs => by cases hs; rfl) hst)
          · have n8 : lz 8 = false := by
              cases hh : lz 8 with
              | false => rfl
              | true => exact absurd (hcl 8 _ rfl hh ⟨7, .data⟩ (by simp) rfl) (by rw [hlj]; simp)
            have n9 : lz 9 = false := by
              cases hh : lz 9 with
              | false => rfl
              | true => exact absurd (hcl 9 _ rfl hh ⟨8, .data⟩ (by simp) rfl) (by rw [n8]; simp)
            have n10 : lz 10 = false := by
              cases hh : lz 10 with
              | false => rfl
              | true => exact absurd (hcl 10 _ rfl hh ⟨8, .data⟩ (by simp) rfl) (by rw [n8]; simp)
            have n11 : lz 11 = false := by
              cases hh : lz 11 with
              | false => rfl
              | true => exact absurd (hcl 11 _ rfl hh ⟨8, .data⟩ (by simp) rfl) (by rw [n8]; simp)
            have n12 : lz 12 = false := by
              cases hh : lz 12 with
              | false => rfl
              | true => exact absurd (hcl 12 _ rfl hh ⟨9, .data⟩ (by simp) rfl) (by rw [n9]; simp)
            have n13 : lz 13 = false := by
              cases hh : lz 13 with
              | false => rfl
              | true => exact absurd (hcl 13 _ rfl hh ⟨7, .phase⟩ (by simp) rfl) (by rw [hlj]; simp)
            have n14 : lz 14 = false := by
              cases hh : lz 14 with
              | false => rfl
              | true => exact absurd (hcl 14 _ rfl hh ⟨11, .data⟩ (by simp) rfl) (by rw [n11]; simp)
            have T1 := hst.1 hlj
            refine wp_called rfl (exec_call3 rfl rfl (eval_tmp (hgot 0 _ 89 rfl (hdep ⟨0, .data⟩ (by simp) rfl) rfl)) (eval_tmp (hgot 1 _ 90 rfl (hdep ⟨1, .data⟩ (by simp) rfl) rfl)) (eval_tmp (hgot 6 _ 95 rfl (hdep ⟨6, .data⟩ (by simp) rfl) rfl)) (enters_of Try.func14 (by kernel_rfl) rfl)) ((lived_c T1.L HL.out.2.2.1 B2 b2 hst.2.2.1 (60 + k) HL.out.2.2.2.1 (by have := HL.out.2.2.2.2; omega) (W2.map (·.add (k * 5))) 1 (k2 - k) (by omega) (by have := HA.out.2.2.2.2.2.2.2.2; omega) (Acts2.one HA.out.2.2.1 hks2)).mono (fun e v' hh => ?_))
            obtain ⟨g', m', A', c', S', R', B', b', h1, D', V', hT', L', F', _⟩ := hh
            have kp := V'.keeps T1.L.D
            exact ⟨_, h1, hK ⟨g', m', A', c', S', R', B', b'⟩ _ _ (fun j' o' s' h1 h2 h3 => by
              clear hst hpar hgot hdep hcl hK
              have h4 : j' < 15 := (Array.getElem?_eq_some_iff.1 h1).1
              obtain rfl | rfl | rfl | rfl | rfl | rfl | rfl | rfl | rfl | rfl | rfl | rfl | rfl | rfl | rfl : j' = 0 ∨ j' = 1 ∨ j' = 2 ∨ j' = 3 ∨ j' = 4 ∨ j' = 5 ∨ j' = 6 ∨ j' = 7 ∨ j' = 8 ∨ j' = 9 ∨ j' = 10 ∨ j' = 11 ∨ j' = 12 ∨ j' = 13 ∨ j' = 14 := by omega
              all_goals (cases h1; cases h3 <;> first | rfl | (rw [hlj] at h2; cases h2) | (rw [n8] at h2; cases h2) | (rw [n9] at h2; cases h2) | (rw [n10] at h2; cases h2) | (rw [n11] at h2; cases h2) | (rw [n12] at h2; cases h2) | (rw [n14] at h2; cases h2))) (fun s hs => by cases hs; rfl) ⟨(fun q => by cases q), fun _ => ⟨T1.went D' V', hT', L', F'.wk (by omega)⟩, Told.went hst.2.2.1 T1.L.D V', Told.went hst.2.2.2.1 T1.L.D V', fun q => kp _ _ _ (by decide) (by decide) (hst.2.2.2.2.1 q), (fun q => absurd (show lz 13 = true from q) (by rw [n13]; simp)), kp _ _ _ (by decide) (by decide) hst.2.2.2.2.2.2⟩⟩
          · exact wp_ran rfl (exec_move rfl (eval_tmp (hgot 7 _ 96 rfl (hdep ⟨7, .data⟩ (by simp) rfl) rfl))) (hK x _ _ (fun _ _ _ _ _ _ => rfl) (fun s hs => by cases hs; rfl) hst)
          · exact wp_ran rfl (exec_extractt0 rfl (eval_tmp (hgot 8 _ 88 rfl (hdep ⟨8, .data⟩ (by simp) rfl) rfl))) (hK x _ _ (fun _ _ _ _ _ _ => rfl) (fun s hs => by cases hs; rfl) hst)
          · exact wp_ran rfl (exec_extractt1 rfl (eval_tmp (hgot 8 _ 88 rfl (hdep ⟨8, .data⟩ (by simp) rfl) rfl))) (hK x _ _ (fun _ _ _ _ _ _ => rfl) (fun s hs => by cases hs; rfl) hst)
          · exact wp_ran rfl (exec_extractt2 rfl (eval_tmp (hgot 8 _ 88 rfl (hdep ⟨8, .data⟩ (by simp) rfl) rfl))) (hK x _ _ (fun _ _ _ _ _ _ => rfl) (fun s hs => by cases hs; rfl) hst)
          · exact wp_ran rfl (exec_assign rfl (eval_tmp (hgot 9 _ 97 rfl (hdep ⟨9, .data⟩ (by simp) rfl) rfl))) (hK x _ _ (fun _ _ _ _ _ _ => rfl) (fun s hs => by cases hs; rfl) hst)
          · have a7 : lz 7 = true := hdep ⟨7, .phase⟩ (by simp) rfl
            have hg := hst.2.2.2.2.1 hlj
            obtain ⟨T1, u1, u2, u3⟩ := hst.2.1 a7
            have hTn : ∀ {R' : RSt} {A' : Option Addr} {c' : Nat}, Told v R' A' c' → ∀ a, A' = some a → a.block ∉ [g13] := fun h a ha => by simpa using h.ne hg (by decide) a ha
            exact wp_stored (ty := 30) (V := rv x.R x.B x.b) (cs := rc x.R x.B x.b) rfl rfl (eval_tmp (hpar 13 (by simp))) (eval_tmp (hgot 10 _ 98 rfl (hdep ⟨10, .data⟩ (by simp) rfl) rfl)) rfl hg rfl (rc_one _ _ _) (size30_of _ _ _) (fun v' r1 r2 => hK x _ _ (fun _ _ _ _ _ _ => rfl) (fun s hs => by cases hs) ⟨(fun q => absurd (show lz 7 = false from q) (by rw [a7]; simp)), fun _ => ⟨T1.own r2 hg (by decide) (by decide) (by have := H9.out; have := H13.out; omega), u1.keep r2 (hTn u1), u2, u3⟩, hst.2.2.1.keep r2 (hTn hst.2.2.1), hst.2.2.2.1.keep r2 (hTn hst.2.2.2.1), (fun q => by cases q), fun _ => r1, hst.2.2.2.2.2.2.keep r2 (by have := H13.out; simp; omega)⟩)
          · exact wp_ran rfl (exec_assign rfl (eval_tmp (hgot 11 _ 99 rfl (hdep ⟨11, .data⟩ (by simp) rfl) rfl))) (hK x _ _ (fun _ _ _ _ _ _ => rfl) (fun s hs => by cases hs; rfl) hst)
        case fin =>
          intro x lz v hl hst
          obtain ⟨_, q2, _, q4, _, q6, q7⟩ := hst
          obtain ⟨T4, hT4, L4, F4⟩ := q2 (hl 7 (by decide))
          replace h13 := q6 (hl 13 (by decide))
          replace h9 := q7
          replace hT1 := q4
          obtain ⟨g4, m4, A4, c4, S4, R4, B4, b4⟩ := x
          dsimp only at T4 hT4 L4 F4 h13
          have HL4 := Lib.hid (And.intro L4 F4)
          clear L4 F4 q2 q6 q7 q4 hl
          dsimp only
          go_wp2_with (first
            | (with_reducible refine wpList_loads (o := ⟨some 103, .load 30 (.tmp 9), _, _, _, _⟩) rfl 30 (.tmp 9) rfl g9 0 _ rfl (Cells.of_holds h9) _ Try.underlying30 rfl (size30_of _ _ _) (rv R1 B1 b1) rfl ?_))
          refine (stands_c HL.out.1 g1 m1 A1 c1 B1 b1 _ (T4.swap).L.D hT1 (HL.out.2.1.wk (by have := HL.out.2.2.2.2; omega))).mono ?_
          rintro e wy ⟨rfl, my⟩
          have TQ := (T4.swap).keep my
          replace hT1 := hT1.keep my (by simp)
          replace hT4 := hT4.keep my (by simp)
          replace h9 := h9.keep my (by simp)
          replace h13 := h13.keep my (by simp)
          clear my
          go_wp2_with (first
            | (with_reducible refine wpList_loadsW (o := ⟨some 108, .load 30 (.tmp 13), _, _, _, _⟩) (by with_unfolding_all rfl) 30 (.tmp 13) rfl g13 0 _ rfl (Cells.of_holds h13) _ Try.underlying30 rfl (size30_of _ _ _) (rv R4 B4 b4) rfl ?_))
          refine (stands_c HL4.out.1 g4 m4 A4 c4 B4 b4 _ TQ.R.D hT4 (HL4.out.2.wk (by have := HL.out.2.2.2.2; omega))).mono ?_
          rintro e wz ⟨rfl, mz⟩
          go_wp2_with fail
          exact ⟨⟨k + 1, g1, m1, A1, c1, S1, R1, B1, b1, g4, m4, A4, c4, S4, R4, B4, b4, hkn, by go_num, rfl, rfl, rfl, TQ.keep mz, HL.out.1, HL4.out.1, hT1.keep mz (by simp), hT4.keep mz (by simp), (HL.out.2.1.wk (by omega)), (HL4.out.2.wk (by omega)), h9.keep mz (by simp), h13.keep mz (by simp)⟩, by simp [intOf]; omega⟩
    · obtain rfl : M = k := by omega
      clear hkn hk
      go_wp2_with fail
      go_ret
      exact ⟨rfl, TW.L.mm⟩
end Go.Proofs.Ytpdpahkhfilmpaa
