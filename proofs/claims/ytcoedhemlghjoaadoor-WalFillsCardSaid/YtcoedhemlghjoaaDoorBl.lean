/-
  My own texts Wa Wb Wc Wd We, one behind the other.
-/
import Derived.Test.YtcoedhemlghjoaaDoorBk
import Derived.Test.YtcoedhemlghjoaaDoorBo
import Derived.Test.YtcoedhemlghjoaaDoorBg
import Derived.Test.YtcoedhemlghjoaaDoorBf
import Derived.Test.YtcoedhemlghjoaaDoorBe
import Derived.Lib.AppendStr
import Derived.Test.YtcoedhemlghjoaaDoorBd
namespace Go.Proofs.YtcoedhemlghjoaaDoor
section
open Go.RowKit
/-- How many sectors so many bytes fill. -/
def fills (n : Nat) : Nat := if n ≤ 40000 then max 1 ((n + 47) / 48) else 0
theorem fills_le (n : Nat) : fills n ≤ 834 := by unfold fills; split <;> omega
theorem fills_pos (n : Nat) (h : n ≤ 40000) : 1 ≤ fills n := by unfold fills; rw [if_pos h]; omega
theorem exec_max1 {P : Program} {v : World} {o : Oper} {ρ : Operand → Value} {x y : Operand} {a b : Int} (ho : o.op = .call { callee := .builtin .max, args := #[x, y], argTypes := #[3, 3] }) (hx : ρ x = .int .i64 a) (hy : ρ y = .int .i64 b) : (execOp ρ o).run P v = .ok (.value (.int .i64 (max a b))) v := by
  unfold execOp
  simp [ho, hx, hy, go_sem]
  by_cases h : a < b
  · simp [h, Int.max_eq_right (Int.le_of_lt h)]
  · simp [h, Int.max_eq_left (Int.not_lt.1 h)]
theorem exec_min1 {P : Program} {v : World} {o : Oper} {ρ : Operand → Value} {x y : Operand} {a b : Int} (ho : o.op = .call { callee := .builtin .min, args := #[x, y], argTypes := #[3, 3] }) (hx : ρ x = .int .i64 a) (hy : ρ y = .int .i64 b) : (execOp ρ o).run P v = .ok (.value (.int .i64 (min a b))) v := by
  unfold execOp
  simp [ho, hx, hy, go_sem]
  by_cases h : b < a
  · simp [h, Int.min_eq_right (Int.le_of_lt h)]
  · simp [h, Int.min_eq_left (Int.not_lt.1 h)]
theorem sectors_c (n : Nat) (hn : n ≤ 9223372036854775807) (w : World) : Calls Tryd.prog 5 #[.int .i64 (n : Int)] w fun e w' => e = .returned (.int .i64 (fills n : Int)) ∧ w' = w := by
  have h0 : ¬ (n : Int) < 0 := by omega
  obtain ⟨f, hf⟩ : ∃ f, f = fills n := ⟨_, rfl⟩
  rw [← hf]
  by_cases h : n ≤ 40000
  · have h1 : ¬ 40000 < (n : Int) := by omega
    have h2 : (n : Int) ≤ 40000 := by omega
    have hq : max (1 : Int) (((n : Int) + 48 - 1) / 48) = (f : Int) := by rw [hf]; unfold fills; rw [if_pos h]; omega
    have HQ := Lib.hid hq
    clear hq hf h hn
    go_enter Tryd.func5, Tryd.ntmps5
    go_wp2_with (with_reducible refine wpList_ranW (o := ⟨some 13, .call _, _, _, _, _⟩) (by with_unfolding_all rfl) (.int .i64 (f : Int)) w (by rw [← HQ.out]; exact exec_max1 rfl rfl rfl) ?_)
    go_ret
    exact ⟨rfl, rfl⟩
  · have h1 : 40000 < (n : Int) := by omega
    have hq : f = 0 := by rw [hf]; unfold fills; rw [if_neg h]
    subst hq
    clear hf h hn
    go_enter Tryd.func5, Tryd.ntmps5
    go_wp2_with fail
    go_ret
    exact ⟨rfl, rfl⟩
/-- The cells of a heading. -/
def hc (t : Nat) (a : Int) : List Value := [.int .u32 (t : Int), .int .i64 a]
abbrev hv (t : Nat) (a : Int) : Value := .agg (hc t a).toArray
theorem hc_one (t : Nat) (a : Int) : ∀ v ∈ hc t a, v.oneCell' = true := by
  intro v hv
  simp only [hc, List.mem_cons, List.not_mem_nil, or_false] at hv
  rcases hv with rfl | rfl <;> rfl
theorem size91 : (Tryd.prog.info? 47).map (·.size) = some 2 := by kernel_rfl
theorem size91_of (t : Nat) (a : Int) : (Tryd.prog.info? 47).map (·.size) = some (hc t a).length := size91
theorem zero91 : ∀ w, (zeroValue 47).run Tryd.prog w = .ok (.agg (hc 0 0).toArray) w := (zero_of_info (n := 2) (by kernel_rfl)).1
theorem place_c (t : Nat) (a : Int) (ht : t < 4294967296) (w : World) : Calls Tryd.prog 42 #[hv t a] w fun e w' => e = .returned (.int .i64 ((t % 2 : Nat) : Int)) ∧ Mod [] w w' := by
  obtain ⟨q, hq⟩ : ∃ q, q = t % 2 := ⟨_, rfl⟩
  have hq2 : ((t : Int) % 2) = (q : Int) := by omega
  have hql : (q : Int) < 2 := by omega
  have ht' : (t : Int) < 4294967296 := by omega
  rw [← hq]
  clear hq ht
  go_enter Tryd.func42, Tryd.ntmps42
  go_wp2_with (with_reducible refine wpList_boxes (o := ⟨some 1, .box 47 (.tmp 0), _, _, _, _⟩) rfl 47 (.tmp 0) rfl _ rfl (hc t a) rfl ?_; intro w1 hb1 m1 z1; replace z1 := Lib.hid z1; have c0 := hb1.cell 0; simp only [hc, List.getElem?_cons_zero] at c0)
  go_ret
  exact ⟨rfl, m1⟩
theorem needs_c (t : Nat) (a : Nat) (ha : a ≤ 1000) (w : World) : Calls Tryd.prog 20 #[hv t a] w fun e w' => e = .returned (.int .i64 ((2 + 2 * a : Nat) : Int)) ∧ Mod [] w w' := by
  have ha' : (a : Int) ≤ 1000 := by omega
  have ha0 : 0 ≤ (a : Int) := by omega
  clear ha
  go_enter Tryd.func20, Tryd.ntmps20
  go_wp2_with (with_reducible refine wpList_boxes (o := ⟨some 1, .box 47 (.tmp 0), _, _, _, _⟩) rfl 47 (.tmp 0) rfl _ rfl (hc t a) rfl ?_; intro w1 hb1 m1 z1; replace z1 := Lib.hid z1; have c0 := hb1.cell 1; simp only [hc, List.getElem?_cons_succ, List.getElem?_cons_zero] at c0)
  go_ret
  exact ⟨by congr 2, m1⟩
/-! Where the fields of headings, books and logs lie. -/
theorem exec_f91_0 {v : World} {o : Oper} {ρ : Operand → Value} {x : Operand} {g : Nat} (ho : o.op = .fieldAddr 47 x 0) (hx : ρ x = .pointer (some ⟨g, 0, none⟩)) : (execOp ρ o).run Tryd.prog v = .ok (.value (.pointer (some ⟨g, 0, none⟩))) v := by
  unfold execOp
  simp [ho, hx, go_sem]
theorem exec_f91_1 {v : World} {o : Oper} {ρ : Operand → Value} {x : Operand} {g : Nat} (ho : o.op = .fieldAddr 47 x 1) (hx : ρ x = .pointer (some ⟨g, 0, none⟩)) : (execOp ρ o).run Tryd.prog v = .ok (.value (.pointer (some ⟨g, 1, none⟩))) v := by
  unfold execOp
  simp [ho, hx, go_sem]
theorem exec_f93_0 {v : World} {o : Oper} {ρ : Operand → Value} {x : Operand} {g : Nat} (ho : o.op = .fieldAddr 50 x 0) (hx : ρ x = .pointer (some ⟨g, 0, none⟩)) : (execOp ρ o).run Tryd.prog v = .ok (.value (.pointer (some ⟨g, 0, none⟩))) v := by
  unfold execOp
  simp [ho, hx, go_sem]
theorem exec_f93_1 {v : World} {o : Oper} {ρ : Operand → Value} {x : Operand} {g : Nat} (ho : o.op = .fieldAddr 50 x 1) (hx : ρ x = .pointer (some ⟨g, 0, none⟩)) : (execOp ρ o).run Tryd.prog v = .ok (.value (.pointer (some ⟨g, 2, none⟩))) v := by
  unfold execOp
  simp [ho, hx, go_sem]
theorem exec_f93_3 {v : World} {o : Oper} {ρ : Operand → Value} {x : Operand} {g : Nat} (ho : o.op = .fieldAddr 50 x 3) (hx : ρ x = .pointer (some ⟨g, 0, none⟩)) : (execOp ρ o).run Tryd.prog v = .ok (.value (.pointer (some ⟨g, 4, none⟩))) v := by
  unfold execOp
  simp [ho, hx, go_sem]
theorem exec_f100_0 {v : World} {o : Oper} {ρ : Operand → Value} {x : Operand} {g : Nat} (ho : o.op = .fieldAddr 58 x 0) (hx : ρ x = .pointer (some ⟨g, 0, none⟩)) : (execOp ρ o).run Tryd.prog v = .ok (.value (.pointer (some ⟨g, 0, none⟩))) v := by
  unfold execOp
  simp [ho, hx, go_sem]
theorem exec_f100_1 {v : World} {o : Oper} {ρ : Operand → Value} {x : Operand} {g : Nat} (ho : o.op = .fieldAddr 58 x 1) (hx : ρ x = .pointer (some ⟨g, 0, none⟩)) : (execOp ρ o).run Tryd.prog v = .ok (.value (.pointer (some ⟨g, 5, none⟩))) v := by
  unfold execOp
  simp [ho, hx, go_sem]
end
section
open Go.RowKit
set_option maxRecDepth 100000 in
set_option maxHeartbeats 2000000 in
theorem hstart_c (t a : Nat) (ht : t < 4294967296) (ha : a ≤ 1000) (w : World) : Calls Tryd.prog 39 #[hv t a] w fun e w' => e = .returned (.int .i64 ((2 + t % 2 * a : Nat) : Int)) ∧ Mod [] w w' := by
  have XP := place_c t a ht
  obtain ⟨q, hq⟩ : ∃ q, q = t % 2 := ⟨_, rfl⟩
  obtain ⟨m, hm⟩ : ∃ m, m = q * a := ⟨_, rfl⟩
  obtain ⟨z, hz⟩ : ∃ z, z = 2 + m := ⟨_, rfl⟩
  have hma : m ≤ 1000 := by
    have h1 : q ≤ 1 := by omega
    have h2 : q * a ≤ 1 * a := Nat.mul_le_mul_right a h1
    omega
  have e1 : IntKind.i64.wrap ((q : Int) * (a : Int)) = (m : Int) := by
    have : (q : Int) * (a : Int) = (m : Int) := by rw [hm]; simp
    rw [this]
    exact IntWalk.i64_in _ (by omega)
  have e2 : IntKind.i64.wrap ((2 : Int) + (m : Int)) = (z : Int) := by
    have : (2 : Int) + (m : Int) = (z : Int) := by omega
    rw [this]
    exact IntWalk.i64_in _ (by omega)
  rw [← hq] at XP ⊢
  rw [← hm, ← hz]
  have HE := Lib.hid (And.intro e1 e2)
  clear e1 e2 hq hm hz ht ha hma
  go_enter Tryd.func39, Tryd.ntmps39
  go_wp2_with (with_reducible refine wpList_boxes (o := ⟨some 1, .box 47 (.tmp 0), _, _, _, _⟩) rfl 47 (.tmp 0) rfl _ rfl (hc t a) rfl ?_; intro w1 hb1 m1 z1; replace z1 := Lib.hid z1)
  obtain ⟨g1, eg⟩ : ∃ b, b = w.heap.size := ⟨_, rfl⟩
  rw [← eg] at hb1 ⊢
  clear eg z1
  refine Rg.wp_region_lit1 [hv t ↑a, Value.pointer (some { block := g1, off := 0 }), .int .i64 (z : Int), hv t a, .int .i64 (q : Int), .pointer (some ⟨g1, 1, none⟩), .int .i64 (a : Int), .int .i64 (m : Int), .int .i64 (z : Int)] 9 [0, 1]
    (fun lz v => Mod [] w1.drew v) []
    (by kernel_rfl) rfl rfl rfl rfl (Mod.refl _ _) (by kernel_rfl) (by kernel_rfl) ?step ?fin
  case step =>
    intro lz T v j o hj hlj hdep hst hpar hgot hcl Kq hK
    have hjn : j < 7 := (Array.getElem?_eq_some_iff.1 hj).1
    have hbd : Holds v g1 47 (hc t a) := (show Holds w1.drew g1 47 (hc t a) from hb1).keep hst (by simp)
    obtain rfl | rfl | rfl | rfl | rfl | rfl | rfl : j = 0 ∨ j = 1 ∨ j = 2 ∨ j = 3 ∨ j = 4 ∨ j = 5 ∨ j = 6 := by omega
    all_goals (have hj' := Option.some.inj (hj : some _ = some o); subst hj'; clear hj)
    · exact Rg.wp_ran rfl (Rg.exec_load rfl (eval_tmp (hpar 1 (by simp))) (run_loads (Cells.of_holds hbd) Tryd.underlying47 rfl size91)) (hK _ _ (fun s hs => by cases hs; rfl) hst)
    · exact Rg.wp_called rfl (Rg.exec_call1 rfl rfl (eval_tmp (hgot 0 _ 3 rfl (hdep ⟨0, .data⟩ (by simp) rfl) rfl)) (enters_of Tryd.func42 (by kernel_rfl) rfl)) ((XP v).mono (fun e v' hh => ⟨_, hh.1, hK _ _ (fun s hs => by cases hs; rfl) (hst.then hh.2)⟩))
    · exact Rg.wp_ran rfl (exec_f91_1 rfl (eval_tmp (hpar 1 (by simp)))) (hK _ _ (fun s hs => by cases hs; rfl) hst)
    · exact Rg.wp_ran rfl (Rg.exec_load rfl (eval_tmp (hgot 2 _ 5 rfl (hdep ⟨2, .data⟩ (by simp) rfl) rfl)) (Rg.run_load1 Tryd.underlying3 rfl (hbd.cell 1))) (hK _ _ (fun s hs => by cases hs; rfl) hst)
    · exact Rg.wp_ran rfl (Rg.exec_mul rfl (eval_tmp (hgot 1 _ 4 rfl (hdep ⟨1, .data⟩ (by simp) rfl) rfl)) (eval_tmp (hgot 3 _ 6 rfl (hdep ⟨3, .data⟩ (by simp) rfl) rfl)) (HE.out.1)) (hK _ _ (fun s hs => by cases hs; rfl) hst)
    · exact Rg.wp_ran rfl (Rg.exec_add rfl rfl (eval_tmp (hgot 4 _ 7 rfl (hdep ⟨4, .data⟩ (by simp) rfl) rfl)) (HE.out.2)) (hK _ _ (fun s hs => by cases hs; rfl) hst)
    · exact Rg.wp_ran rfl (Rg.exec_assign rfl (eval_tmp (hgot 5 _ 8 rfl (hdep ⟨5, .data⟩ (by simp) rfl) rfl))) (hK _ _ (fun s hs => by cases hs; rfl) hst)
  case fin =>
    intro lz v hl hst
    clear hl
    go_wp2
    go_ret
    exact ⟨rfl, (m1.then (Mod.drew [] w1)).then hst⟩
end
section
open Go.RowKit
/-- The tables of sha lie where they lay. -/
structure Glob (c s : List UInt32) (w : World) : Prop where
  hc : c.length = 64
  hs : s.length = 8
  G : Cells w (some ⟨1, 0, none⟩) (c.map Sh.wd)
  G1 : Cells w (some ⟨0, 0, none⟩) (s.map Sh.wd)
  two : 2 ≤ w.heap.size
theorem Glob.keep {c s : List UInt32} {w v : World} (h : Glob c s w) (m : Mod [] w v) : Glob c s v := ⟨h.hc, h.hs, h.G.keep m (by simp), h.G1.keep m (by simp), Nat.le_trans h.two m.size⟩
/-- 60 bytes: these, and noughts behind them; their seal ahead of them. -/
def pad60 (l : List UInt8) : List UInt8 := l ++ List.replicate (60 - l.length) 0
def dig (c s : List UInt32) (l : List UInt8) : List UInt8 := Sh.octs (Sh.sum2 c s l)
def sealL (c s : List UInt32) (l : List UInt8) : List UInt8 := (dig c s (pad60 l)).drop 28 ++ pad60 l
def sealB (c s : List UInt32) (l : List UInt8) : Blk := if h : (sealL c s l).length = 64 then ⟨sealL c s l, h⟩ else fil 0
theorem pad60_length (l : List UInt8) (h : l.length ≤ 60) : (pad60 l).length = 60 := by simp [pad60]; omega
theorem dig_length (c s : List UInt32) (l : List UInt8) (hs : s.length = 8) : (dig c s l).length = 32 := by unfold dig; rw [Sh.octs_length, Sh.sum2_length c s l hs]
theorem sealL_length (c s : List UInt32) (l : List UInt8) (hs : s.length = 8) (h : l.length ≤ 60) : (sealL c s l).length = 64 := by
  unfold sealL
  rw [List.length_append, List.length_drop, dig_length c s _ hs, pad60_length l h]
theorem sealB_val (c s : List UInt32) (l : List UInt8) (hs : s.length = 8) (h : l.length ≤ 60) : bc (sealB c s l) = (sealL c s l).map oct := by
  unfold sealB
  rw [dif_pos (sealL_length c s l hs h)]
  rfl
theorem wpList_copied {P : Program} {w : World} {ops : Array Oper} {rest : List Oper} {o : Oper} {a : Act} {Q : Exit → Act → World → Prop} (hgd : o.guard = none) (t s e : TypeId) (x y : Operand) (g f n c n' c' : Nat) (ad : Addr) (T : TypeId) (old : List Value) (l : List UInt8) (hu : P.underlying t = some (.slice e)) (he : (P.info? e).map (·.size) = some 1) (ho : o.op = .call { callee := .builtin .copy, args := #[x, y], argTypes := #[t, s] }) (hx : a.eval x = .slice (some ⟨g, f, none⟩) n c) (hy : a.eval y = .slice (some ad) n' c') (hh : Holds w g T old) (hn : l.length = n') (hn' : l.length ≤ n) (hr : Reads w (some ad) l) (hp : 0 < l.length) (hfit : f + l.length ≤ old.length)
    (h : ∀ v, Holds v g T (old.take f ++ (l.map oct ++ old.drop (f + l.length))) → Mod [g] w v → wpList P ops Q rest (a.put o.dst (.int .i64 (l.length : Int))) v) : wpList P ops Q (o :: rest) a w := by
  obtain ⟨v, h1, h2, h3⟩ := Sh.exec_copy hu he ho hx hy hh hn hn' hr hp hfit
  exact wpList_ranW (by unfold Region.wanted; rw [hgd]) _ v h1 (h v h2 h3)
theorem wp_copied {P : Program} {v : World} {o : Oper} {ops : Array Oper} {T : Act} {Kq : Act → World → Prop} {Q : Exit → Act → World → Prop} {E : Prop} {t s e : TypeId} {x y : Operand} {g f n c n' c' : Nat} {ad : Addr} {Ty : TypeId} {old : List Value} {l : List UInt8} (hg : o.guard = none) (hu : P.underlying t = some (.slice e)) (he : (P.info? e).map (·.size) = some 1) (ho : o.op = .call { callee := .builtin .copy, args := #[x, y], argTypes := #[t, s] }) (hx : T.eval x = .slice (some ⟨g, f, none⟩) n c) (hy : T.eval y = .slice (some ad) n' c') (hh : Holds v g Ty old) (hn : l.length = n') (hn' : l.length ≤ n) (hr : Reads v (some ad) l) (hp : 0 < l.length) (hfit : f + l.length ≤ old.length)
    (hK : ∀ v', Holds v' g Ty (old.take f ++ (l.map oct ++ old.drop (f + l.length))) → Mod [g] v v' → Kq (T.put o.dst (.int .i64 (l.length : Int))) v') : if Region.wanted o (yielded ops T.tmps) = true then o.wp P T v Kq Q else E := by
  obtain ⟨v', h1, h2, h3⟩ := Sh.exec_copy hu he ho hx hy hh hn hn' hr hp hfit
  exact wp_ran hg h1 (hK v' h2 h3)
theorem exec_headcut {P : Program} {v : World} {o : Oper} {ρ : Operand → Value} {t e : TypeId} {x y : Operand} {g m k : Nat} (hu : P.underlying t = some (.array m e)) (he : (P.info? e).map (·.size) = some 1) (hk : k ≤ m) (ho : o.op = .slice t x none (some y) none) (hx : ρ x = .pointer (some ⟨g, 0, none⟩)) (hy : ρ y = .int .i64 (k : Int)) :
    (execOp ρ o).run P v = .ok (.value (.slice (some ⟨g, 0, none⟩) k m)) v := by
  unfold execOp
  cases hq : P.info? e with
  | none => rw [hq] at he; cases he
  | some it =>
    simp [ho, hx, hy, Instr.sliceAt, Instr.sliceBounds, Instr.sliceBound, Sem.run_bind, run_underlying hu, go_sem, sizeOf, typeInfo, hq, hk]
theorem exec_cut4 {v : World} {o : Oper} {ρ : Operand → Value} {x y : Operand} {g : Nat} (ho : o.op = .slice 73 x (some y) none none) (hx : ρ x = .pointer (some ⟨g, 0, none⟩)) (hy : ρ y = .int .i64 4) : (execOp ρ o).run Tryd.prog v = .ok (.value (.slice (some ⟨g, 4, none⟩) 60 60)) v := Sh.exec_cut (k := 4) Tryd.underlying73 u8_one (by decide) ho hx hy
theorem exec_to4 {v : World} {o : Oper} {ρ : Operand → Value} {x y : Operand} {g : Nat} (ho : o.op = .slice 73 x none (some y) none) (hx : ρ x = .pointer (some ⟨g, 0, none⟩)) (hy : ρ y = .int .i64 4) : (execOp ρ o).run Tryd.prog v = .ok (.value (.slice (some ⟨g, 0, none⟩) 4 64)) v := exec_headcut (k := 4) Tryd.underlying73 u8_one (by decide) ho hx hy
theorem exec_cut28 {v : World} {o : Oper} {ρ : Operand → Value} {x y : Operand} {g : Nat} (ho : o.op = .slice 107 x (some y) none none) (hx : ρ x = .pointer (some ⟨g, 0, none⟩)) (hy : ρ y = .int .i64 28) : (execOp ρ o).run Tryd.prog v = .ok (.value (.slice (some ⟨g, 28, none⟩) 4 4)) v := Sh.exec_cut (k := 28) Tryd.underlying107 u8_one (by decide) ho hx hy
theorem reads_at {w : World} {g : Nat} {t : TypeId} {l : List UInt8} (h : Holds w g t (l.map oct)) (k : Nat) : Reads w (some ⟨g, k, none⟩) (l.drop k) := fun i hi => by
  have hi' : k + i < l.length := by simp at hi; omega
  refine ⟨g, k, rfl, ?_⟩
  rw [h.cell (k + i)]
  simp [hi']
set_option maxRecDepth 100000 in
set_option maxHeartbeats 4000000 in
theorem sealed_c (c s : List UInt32) (A : Option Addr) (l : List UInt8) (n cap : Nat) (hn : n = l.length) (h0 : 0 < l.length) (h60 : l.length ≤ 60) (w : World) (G : Glob c s w) (R : Reads w A l) : Calls Tryd.prog 60 #[.slice A n cap] w fun e w' => e = .returned (bv (sealB c s l)) ∧ Mod [] w w' := by
  obtain ⟨ad, rfl, _⟩ := R.src h0
  obtain ⟨P6, hP⟩ : ∃ P6, P6 = pad60 l := ⟨_, rfl⟩
  obtain ⟨D, hD⟩ : ∃ D, D = dig c s P6 := ⟨_, rfl⟩
  have hPl : P6.length = 60 := by rw [hP]; exact pad60_length l h60
  have hDl : D.length = 32 := by rw [hD]; exact dig_length c s _ G.hs
  have hV : bc (sealB c s l) = (D.drop 28 ++ P6).map oct := by rw [sealB_val c s l G.hs h60]; unfold sealL; rw [← hP, ← hD]
  have hB : (List.replicate 64 (0 : UInt8)).map oct = bc (fil 0) := rfl
  have hC : (bc (fil 0)).take 4 ++ (l.map oct ++ (bc (fil 0)).drop (4 + l.length)) = ((List.replicate 4 (0 : UInt8)) ++ P6).map oct := by
    rw [← hB, hP, ← List.map_take, ← List.map_drop, ← List.map_append, ← List.map_append]
    congr 1
    unfold pad60
    rw [List.take_replicate, List.drop_replicate]
    congr 2
    congr 1
    omega
  have XS := fun v g (hm : Glob c s v) (hr : Reads v (some ⟨g, 4, none⟩) P6) => Sh.sum_c c s G.hc G.hs (some ⟨g, 4, none⟩) P6 60 60 hPl.symm (by omega) (by omega) v hm.G hm.G1 hr
  have hDD : Sh.octs (Sh.sum2 c s P6) = D := hD.symm
  simp only [hDD] at XS
  have HV := Lib.hid (And.intro hV (And.intro hC (And.intro hPl (And.intro hDl (And.intro G (And.intro R (And.intro hn (And.intro h0 h60))))))))
  clear hV hC hPl hDl G R hn h0 h60 hP hD hB hDD
  go_enter Tryd.func60, Tryd.ntmps60
  go_wp2_with (first
    | (with_reducible refine wpList_allocs (o := ⟨some 2, .alloc 73, _, _, _, _⟩) rfl 73 rfl _ zero110 ?_; intro w1 hb2 m1 z1; replace z1 := Lib.hid z1)
    | (with_reducible refine wpList_allocs (o := ⟨some 3, .alloc 73, _, _, _, _⟩) rfl 73 rfl _ zero110 ?_; intro w2 hb3 m2 z2; replace z2 := Lib.hid z2
       replace hb2 := hb2.keep m2 (by simp)
       obtain ⟨g2, e2⟩ : ∃ b, b = w.heap.size := ⟨_, rfl⟩
       obtain ⟨g3, e3⟩ : ∃ b, b = w1.heap.size := ⟨_, rfl⟩
       have HG := Lib.hid (show w.heap.size ≤ g2 ∧ g2 < g3 ∧ g3 < w2.heap.size by have := z1.out; have := z2.out; omega)
       rw [← e2] at hb2
       rw [← e3] at hb3
       rw [← e2, ← e3]
       have mm : Mod [] w w2 := m1.then m2
       clear e2 e3 m1 m2 z1 z2)
    | (with_reducible refine wpList_ranW (o := ⟨some 5, .slice 73 _ _ _ _, _, _, _, _⟩) (by with_unfolding_all rfl) (.slice (some ⟨g3, 4, none⟩) 60 60) w2 (exec_cut4 rfl rfl rfl) ?_)
    | (with_reducible refine wpList_copied (o := ⟨some 7, _, _, _, _, _⟩) rfl 34 34 5 (.tmp 5) (.tmp 6) g3 4 60 60 n cap ad 73 (bc (fil 0)) l Tryd.underlying34 u8_one rfl rfl rfl hb3 HV.out.2.2.2.2.2.2.1.symm (by have := HV.out.2.2.2.2.2.2.2.2; omega) (HV.out.2.2.2.2.2.1.keep mm (by simp)) HV.out.2.2.2.2.2.2.2.1 (by rw [bc_length]; have := HV.out.2.2.2.2.2.2.2.2; omega) ?_
       intro w3 hb3' m3
       rw [HV.out.2.1] at hb3'
       replace hb3 := hb3'
       replace hb2 := hb2.keep m3 (by have := HG.out; simp; omega)
       replace mm := mm.trans m3 (fun i hi h => by have := HG.out; simp at h; omega)
       clear hb3' m3)
    | (with_reducible refine wpList_ranW (o := ⟨some 8, .slice 73 _ _ _ _, _, _, _, _⟩) (by with_unfolding_all rfl) (.slice (some ⟨g3, 4, none⟩) 60 60) w3 (exec_cut4 rfl rfl rfl) ?_))
  have hr4 : Reads w3 (some ⟨g3, 4, none⟩) P6 := by
    have := reads_at hb3 4
    simpa using this
  refine (XS _ g3 (HV.out.2.2.2.2.1.keep mm) hr4).mono ?_
  clear XS hr4
  rintro e w4 ⟨rfl, m4⟩
  replace hb2 := hb2.keep m4 (by simp)
  replace hb3 := hb3.keep m4 (by simp)
  replace mm := mm.then m4
  have HGs := Lib.hid (show g3 < w4.heap.size from hb3.lt)
  clear m4
  go_wp2_with (first
    | (with_reducible refine wpList_allocs (o := ⟨some 4, .alloc 107, _, _, _, _⟩) rfl 107 rfl _ Sh.zero176 ?_; intro w5 hb4 m5 z5; replace z5 := Lib.hid z5
       replace hb2 := hb2.keep m5 (by simp)
       replace hb3 := hb3.keep m5 (by simp)
       replace mm := mm.then m5
       obtain ⟨g4, e4⟩ : ∃ b, b = w4.heap.size := ⟨_, rfl⟩
       have HG4 := Lib.hid (show g3 < g4 ∧ w.heap.size ≤ g4 by have := HGs.out; have := HG.out; omega)
       rw [← e4] at hb4
       rw [← e4]
       clear e4 m5 z5)
    | (with_reducible refine wpList_storesAll (o := ⟨none, .store 107 (.tmp 4) (.tmp 9), _, _, _, _⟩) rfl 107 (.tmp 4) (.tmp 9) rfl rfl g4 (D.map oct) rfl (.agg (D.map oct).toArray) rfl rfl 107 _ hb4 (by simp [HV.out.2.2.2.1]) (octs_one D) (Sh.size40_of D HV.out.2.2.2.1) ?_
       clear hb4
       intro w6 hb4 m6 z6
       replace hb2 := hb2.keep m6 (by have := HG4.out; have := HG.out; simp; omega)
       replace hb3 := hb3.keep m6 (by have := HG4.out; simp; omega)
       replace mm := mm.trans m6 (fun i hi h => by have := HG4.out; simp at h; omega)
       clear m6 z6))
  simp only [Act.put, List.setIfInBounds_toArray, List.set_cons_succ, List.set_cons_zero]
  refine Rg.wp_region_lit1 [Value.slice (some ad) n cap, undef, Value.pointer (some { block := g2, off := 0 }), Value.pointer (some { block := g3, off := 0 }), Value.pointer (some { block := g4, off := 0 }), Value.slice (some { block := g3, off := 4 }) 60 60, Value.slice (some ad) n cap, Value.int IntKind.i64 ↑l.length, Value.slice (some { block := g3, off := 4 }) 60 60, Value.agg (List.map oct D).toArray, .slice (some ⟨g3, 0, none⟩) 4 64, .slice (some ⟨g4, 28, none⟩) 4 4, .int .i64 4, undef] 14 [0, 1, 2, 3, 4, 5, 6, 7, 8, 9, 13]
    (fun lz v => (lz 2 = false → Holds v g3 73 ((List.replicate 4 (0 : UInt8) ++ P6).map oct)) ∧ (lz 2 = true → Holds v g3 73 ((D.drop 28 ++ P6).map oct)) ∧ Mod [g3] w6.drew v) []
    (by kernel_rfl) rfl rfl rfl rfl (⟨fun _ => hb3, (fun q => by cases q), Mod.refl _ _⟩) (by kernel_rfl) (by kernel_rfl) ?step ?fin
  case step =>
    intro lz T v j o hj hlj hdep hst hpar hgot hcl Kq hK
    have hjn : j < 3 := (Array.getElem?_eq_some_iff.1 hj).1
    have hb4d : lz 2 = false → Holds v g4 107 (D.map oct) := fun _ => (show Holds w6.drew g4 107 (D.map oct) from hb4).keep hst.2.2 (by have := HG4.out; simp; omega)
    obtain rfl | rfl | rfl : j = 0 ∨ j = 1 ∨ j = 2 := by omega
    all_goals (have hj' := Option.some.inj (hj : some _ = some o); subst hj'; clear hj)
    · exact wp_ran rfl (exec_to4 rfl (eval_tmp (hpar 3 (by simp))) rfl) (hK _ _ (fun s hs => by cases hs; rfl) hst)
    · exact wp_ran rfl (exec_cut28 rfl (eval_tmp (hpar 4 (by simp))) rfl) (hK _ _ (fun s hs => by cases hs; rfl) hst)
    · have e4 : (D.drop 28).length = 4 := by rw [List.length_drop]; have := HV.out.2.2.2.1; omega
      refine wp_copied (l := D.drop 28) (g := g3) (f := 0) rfl Tryd.underlying34 u8_one rfl (eval_tmp (hgot 0 _ 10 rfl (hdep ⟨0, .data⟩ (by simp) rfl) rfl)) (eval_tmp (hgot 1 _ 11 rfl (hdep ⟨1, .data⟩ (by simp) rfl) rfl)) (hst.1 hlj) e4 (by omega) (reads_at (hb4d hlj) 28) (by omega) (by rw [List.length_map, List.length_append, List.length_replicate]; have := HV.out.2.2.1; omega) (fun v' q2 q3 => hK _ _ (fun s hs => by cases hs; rw [e4]; rfl) ⟨(fun q => by cases q), fun _ => ?_, hst.2.2.trans q3 (fun _ _ h => h)⟩)
      have e5 : (List.map oct (List.replicate 4 (0 : UInt8) ++ P6)).take 0 ++ ((D.drop 28).map oct ++ (List.map oct (List.replicate 4 (0 : UInt8) ++ P6)).drop (0 + (D.drop 28).length)) = (D.drop 28 ++ P6).map oct := by
        rw [e4]
        simp
      rw [e5] at q2
      exact q2
  case fin =>
    intro lz v hl hst
    have hb3 := hst.2.1 (hl 2 (by decide))
    have m7 := hst.2.2
    rw [← HV.out.1] at hb3
    replace hb2 : Holds v g2 73 (bc (fil 0)) := (show Holds w6.drew g2 73 (bc (fil 0)) from hb2).keep m7 (by have := HG.out; simp; omega)
    replace mm : Mod [] w v := (mm.then (Mod.drew [] w6)).trans m7 (fun i hi h => by have := HG.out; simp at h; omega)
    clear hl hst m7
    go_wp2_with (first
      | (with_reducible refine wpList_loads (o := ⟨some 13, .load 73 (.tmp 3), _, _, _, _⟩) rfl 73 (.tmp 3) rfl g3 0 _ rfl (Cells.of_holds hb3) _ Tryd.underlying73 rfl (by rw [bc_length]; exact size110) (bv (sealB c s l)) rfl ?_)
      | (with_reducible refine wpList_storesAll (o := ⟨none, .store 73 (.tmp 2) (.tmp 13), _, _, _, _⟩) rfl 73 (.tmp 2) (.tmp 13) rfl rfl g2 (bc (sealB c s l)) rfl (bv (sealB c s l)) rfl rfl 73 _ hb2 (by rw [bc_length, bc_length]) (bc_one _) (by rw [bc_length]; exact size110) ?_; intro w8 hb8 m8 z8))
    refine bodyPost_ret (results_cell_row rfl _ _ g2 73 _ (0, 0) _ rfl hb8 Tryd.underlying73 rfl (by rw [List.size_toArray, bc_length]; exact size110)) rfl ?_
    exact ⟨rfl, mm.trans m8 (fun i hi h => by have := HG.out; simp at h; omega)⟩
end
section
open Go.RowKit
def letters : List UInt8 := [83, 65, 70, 69, 72, 79, 85, 83, 69]
def titleL (t a : Nat) : List UInt8 := hi a 4 ++ hi t 4 ++ letters
def titleB (c s : List UInt32) (t a : Nat) : Blk := sealB c s (titleL t a)
theorem titleL_length (t a : Nat) : (titleL t a).length = 17 := by simp [titleL, hi_length, letters]
theorem letters_cells : Go.Lib.strCells { data := #[83, 65, 70, 69, 72, 79, 85, 83, 69] } = letters.map oct := by rfl
theorem owns_reads {w : World} {B : Nat} {e : TypeId} {v : Value} {n : Nat} {l : List UInt8} (h : w.ownsRow B e 1 v n (l.map oct)) (hl : l.length = n) : ∃ A c, v = .slice A n c ∧ Owns w B e A c l := by
  subst hl
  rcases h.2 with ⟨hv, hn⟩ | ⟨g, cap, cur, hv, _⟩
  · exact ⟨none, 0, by rw [hv, hn], by unfold Owns; rw [hn]; rw [hv, hn] at h; exact h⟩
  · exact ⟨_, _, hv, by unfold Owns; rw [hv] at h; exact h⟩
theorem u8_info : ∃ it, Tryd.prog.info? 5 = some it ∧ it.zero = some (.int .u8 0) ∧ it.size = 1 ∧ it.bytes = 1 := by
  obtain ⟨it, hq⟩ := info_of 5 (by kernel_rfl)
  have h1 : (Tryd.prog.info? 5).bind (·.zero) = some (.int .u8 0) := by kernel_rfl
  have h2 : (Tryd.prog.info? 5).map (·.size) = some 1 := by kernel_rfl
  have h3 : (Tryd.prog.info? 5).map (·.bytes) = some 1 := by kernel_rfl
  rw [hq] at h1 h2 h3
  exact ⟨it, hq, h1, by simpa using h2, by simpa using h3⟩
theorem put32_none (x : Nat) (hx : x < 4294967296) (v : World) : Calls Tryd.prog 58 #[.slice none 0 0, .int .u32 (x : Int)] v fun e w' => e = .returned (.slice (some ⟨v.heap.size, 0, none⟩) 4 4) ∧ Holds w' v.heap.size 5 ((hi x 4).map oct) ∧ Mod [] v w' := put32_c none [] 0 x v (by simp) (Reads.nil _ _) hx
theorem put32_at (l : List UInt8) (n p x : Nat) (hn : n = l.length) (hl : n ≤ 1000) (hx : x < 4294967296) (v : World) (h : Holds v p 5 (l.map oct)) : Calls Tryd.prog 58 #[.slice (some ⟨p, 0, none⟩) n n, .int .u32 (x : Int)] v fun e w' => e = .returned (.slice (some ⟨v.heap.size, 0, none⟩) (n + 4) (n + 4)) ∧ Holds w' v.heap.size 5 ((l ++ hi x 4).map oct) ∧ Mod [] v w' := by
  subst hn
  exact put32_c (some ⟨p, 0, none⟩) l l.length x v (by omega) (Reads.of_holds h) hx
theorem put16_at (l : List UInt8) (n p x : Nat) (hn : n = l.length) (hl : n ≤ 1000) (hx : x < 65536) (v : World) (h : Holds v p 5 (l.map oct)) : Calls Tryd.prog 59 #[.slice (some ⟨p, 0, none⟩) n n, .int .u16 (x : Int)] v fun e w' => e = .returned (.slice (some ⟨v.heap.size, 0, none⟩) (n + 2) (n + 2)) ∧ Holds w' v.heap.size 5 ((l ++ hi x 2).map oct) ∧ Mod [] v w' := by
  subst hn
  exact put16_c (some ⟨p, 0, none⟩) l l.length x v (by omega) (Reads.of_holds h) hx
set_option maxRecDepth 100000 in
set_option maxHeartbeats 4000000 in
theorem title_c (c s : List UInt32) (t a : Nat) (ht : t < 4294967296) (ha : a < 4294967296) (w : World) (G : Glob c s w) : Calls Tryd.prog 43 #[hv t (a : Int)] w fun e w' => e = .returned (bv (titleB c s t a)) ∧ Mod [] w w' := by
  have haZ : (a : Int) < 4294967296 := by omega
  have ha0 : 0 ≤ (a : Int) := by omega
  have X1 := fun v => put32_none a ha v
  have X2 := fun v p h => put32_at (hi a 4) 4 p t (by rw [hi_length]) (by omega) ht v h
  have HB : Hid (Glob c s w) := Lib.hid G
  obtain ⟨B, hB⟩ : ∃ B, B = titleB c s t a := ⟨_, rfl⟩
  have X3 := fun v A cap (hm : Mod [] w v) (R : Reads v A (titleL t a)) => sealed_c c s A (titleL t a) 17 cap (titleL_length t a).symm (by rw [titleL_length]; omega) (by rw [titleL_length]; omega) v (G.keep hm) R
  have hBB : sealB c s (titleL t a) = B := hB.symm
  simp only [hBB] at X3
  rw [← hB]
  obtain ⟨i0, j1, j2, j3, j4⟩ := u8_info
  have HI := Lib.hid (And.intro j1 (And.intro j2 (And.intro j3 j4)))
  clear ht ha G hB hBB j1 j2 j3 j4
  go_enter Tryd.func43, Tryd.ntmps43
  go_wp2_with (first
    | (with_reducible refine wpList_boxes (o := ⟨some 1, .box 47 (.tmp 0), _, _, _, _⟩) rfl 47 (.tmp 0) rfl _ rfl (hc t a) rfl ?_; intro w1 hb1 m1 z1; replace z1 := Lib.hid z1)
    | (with_reducible refine wpList_allocs (o := ⟨some 2, .alloc 73, _, _, _, _⟩) rfl 73 rfl _ zero110 ?_; intro w2 hb2 m2 z2; replace z2 := Lib.hid z2; replace hb1 := hb1.keep m2 (by simp)
       obtain ⟨g1, e1⟩ : ∃ b, b = w.heap.size := ⟨_, rfl⟩
       obtain ⟨g2, e2⟩ : ∃ b, b = w1.heap.size := ⟨_, rfl⟩
       have HG := Lib.hid (show w.heap.size ≤ g1 ∧ g1 < g2 ∧ g2 < w2.heap.size by have := z1.out; have := z2.out; omega)
       rw [← e1] at hb1
       rw [← e2] at hb2
       rw [← e1, ← e2]
       have mm : Mod [] w w2 := m1.then m2
       have c1 := hb1.cell 1
       simp only [hc, List.getElem?_cons_succ, List.getElem?_cons_zero] at c1
       clear e1 e2 m1 m2 z1 z2))
  refine (X1 _).mono ?_
  rintro e w3 ⟨rfl, hp1, m3⟩
  obtain ⟨p1, ep⟩ : ∃ b, b = w2.heap.size := ⟨_, rfl⟩
  rw [← ep] at hp1 ⊢
  clear ep X1 c1
  replace hb1 := hb1.keep m3 (by simp)
  replace hb2 := hb2.keep m3 (by simp)
  replace mm := mm.then m3
  have c0 := hb1.cell 0
  simp only [hc, List.getElem?_cons_zero] at c0
  clear m3
  go_wp2_with fail
  refine (X2 _ _ hp1).mono ?_
  rintro e w4 ⟨rfl, hp2, m4⟩
  obtain ⟨p2, ep⟩ : ∃ b, b = w3.heap.size := ⟨_, rfl⟩
  have hlp : Hid (g2 < w3.heap.size) := Lib.hid hb2.lt
  rw [← ep] at hp2 ⊢
  rw [← ep] at hlp
  replace hb2 := hb2.keep m4 (by simp)
  replace mm := mm.then m4
  have HP := Lib.hid (show w.heap.size ≤ p2 by have := hlp.out; have := HG.out; omega)
  clear ep X2 c0 hb1 hp1 m4
  have hown : w4.ownsRow 0 5 1 (.slice (some ⟨p2, 0, none⟩) 8 8) 8 ((hi a 4 ++ hi t 4).map oct) := by
    have := Owns.of_holds (B := 0) hp2 (by omega) (by simp [hi_length]; decide)
    unfold Owns at this
    have e8 : (hi a 4 ++ hi t 4).length = 8 := by simp [hi_length]
    rw [e8] at this
    exact this
  go_wp2_with (first
    | (with_reducible refine Go.Lib.wpList_append_own_string (o := ⟨some 13, _, _, _, _, _⟩) _ rfl (.tmp 12) _ 34 9 rfl 0 5 i0 Tryd.underlying34 Tryd.underlying9 HI.out.1 HI.out.2.1 HI.out.2.2.1 HI.out.2.2.2 (.slice (some ⟨p2, 0, none⟩) 8 8) 8 ((hi a 4 ++ hi t 4).map oct) rfl hown { data := #[83, 65, 70, 69, 72, 79, 85, 83, 69] } rfl (by decide) (by decide) (Nat.zero_le _) ?_
       intro v' w5 hO hgr _))
  have hO2 : w5.ownsRow 0 5 1 v' 17 ((titleL t a).map oct) := by
    have e : List.map oct (hi a 4 ++ hi t 4) ++ Go.Lib.strCells { data := #[83, 65, 70, 69, 72, 79, 85, 83, 69] } = (titleL t a).map oct := by
      rw [letters_cells, ← List.map_append]; rfl
    rw [e] at hO
    exact hO
  obtain ⟨A', cap', rfl, hOw⟩ := owns_reads hO2 (titleL_length t a)
  have m5 : Mod [p2] w4 w5 := ⟨hgr.os, hgr.tape, hgr.output, hgr.size, fun j hj hn => hgr.block j hj (fun hh => hn (by
    have : some j = some p2 := hh
    simpa using this))⟩
  replace hb2 := hb2.keep m5 (by have := hlp.out; simp; omega)
  replace mm := mm.trans m5 (fun i hi h => by have := HP.out; simp at h; omega)
  refine (X3 _ _ _ mm hOw.reads).mono ?_
  clear X3 hOw hO2 hO hgr hown hp2 m5
  rintro e w6 ⟨rfl, m6⟩
  replace hb2 := hb2.keep m6 (by simp)
  replace mm := mm.then m6
  go_wp2_with (first
    | (with_reducible refine wpList_storesAll (o := ⟨none, .store 73 (.tmp 2) (.tmp 14), _, _, _, _⟩) rfl 73 (.tmp 2) (.tmp 14) rfl rfl g2 (bc B) rfl (bv B) rfl rfl 73 _ hb2 (by rw [bc_length, bc_length]) (bc_one _) (by rw [bc_length]; exact size110) ?_; intro w8 hb8 m8 z8))
  refine bodyPost_ret (results_cell_row rfl _ _ g2 73 _ (0, 0) _ rfl hb8 Tryd.underlying73 rfl (by rw [List.size_toArray, bc_length]; exact size110)) rfl ?_
  exact ⟨rfl, mm.trans m8 (fun i hi h => by have := HG.out; simp at h; omega)⟩
end
section
open Go.RowKit Go.Shelf
attribute [local go_sem] Oper.semAt_some
/-- An operation that is run, within a fence. -/
theorem wpListIn_ranW {F : Fence} {n : Nat} {P : Program} {w : World} {ops : Array Oper} {rest : List Oper} {o : Oper} {a : Act} {Q : Exit → Act → World → Prop} (hF : ∀ f, F.fn f) (hgd : o.guard = none) (hd : ∀ c, o.op ≠ .defer c) (V : Value) (v : World) (hrun : (execOp a.eval o).run P w = .ok (.value V) v)
    (h : wpListIn F n P ops Q rest (a.put o.dst V) v) : wpListIn F n P ops Q (o :: rest) a w := by
  refine wpListIn_plain hgd fun K hK => ?_
  refine ⟨fun f _ => hF f, ?_⟩
  rw [Oper.semAt_plain F _ _ hd, hrun]
  exact hK _ _ h
/-- append of bytes, within a fence. -/
theorem wpListIn_appends {F : Fence} {n0 : Nat} (hF : ∀ f, F.fn f) {P : Program} (w : World) {ops : Array Oper} {rest : List Oper} {o : Oper} {a : Act} {Q : Exit → Act → World → Prop} (hgd : o.guard = none) (s x : Operand) (t : TypeId)
    (ho : o.op = .call { callee := .builtin .append, args := #[s, x], argTypes := #[t, t] })
    (e : TypeId) (i : TypeInfo) (z : Value) (bytes : Nat) (ht : P.underlying t = some (.slice e)) (hi : P.info? e = some i) (hz : i.zero = some z) (hsize : i.size = 1) (hby : i.bytes = bytes) (hzs : z.cells.size = 1)
    (B : Nat) (hB : B ≤ w.heap.size) (A : Option Addr) (n c : Nat) (l : List UInt8) (hs : a.eval s = .slice A n c) (hn : n = l.length) (hown : Owns w B e A c l)
    (X : Option Addr) (m d : Nat) (k : List UInt8) (hx : a.eval x = .slice X m d) (hm : m = k.length) (hr : Reads w X k)
    (h63 : (l.length + k.length) * bytes ≤ 140737488355328) (h64 : l.length + k.length ≤ maxLen)
    (h : ∀ A' c' v, Owns v B e A' c' (l ++ k) → Mod (blk A) w v → (∀ a, A' = some a → a.block ∈ blk A ∨ w.heap.size ≤ a.block) → wpListIn F n0 P ops Q rest (a.put o.dst (.slice A' (l ++ k).length c')) v) :
    wpListIn F n0 P ops Q (o :: rest) a w := by
  subst hn hm
  rcases X with _ | ad
  · have hk : k = [] := by
      rcases k with _ | ⟨x, k⟩
      · rfl
      · obtain ⟨g, o, hh, _⟩ := hr 0 (by simp); cases hh
    subst hk
    have hrun := run_append_none (P := P) w B t o.type e i ht hi hown d
    simp only [List.length_nil] at hx
    refine wpListIn_plain hgd fun K hK => ?_
    have := h A c w (by simpa using hown) (Mod.refl _ _) (fun b hb => .inl (by subst hb; simp [blk]))
    refine ⟨fun f _ => hF f, ?_⟩
    rw [Oper.semAt_plain F _ _ (by rw [ho]; intro c hc; cases hc)]
    unfold execOp
    simp only [ho, resolve, invoke, builtin, Sem.run_bind, Sem.run_pure, Result.andThen_ok, List.map_toArray, List.map_cons, List.map_nil, hs, hx, hrun]
    exact hK _ _ (by simpa using this)
  · have hcells : ∀ j u, (k.map oct)[j]? = some u → w.cell? (ad.add j) = some u := by
      intro j u hu
      rcases Nat.eq_zero_or_pos k.length with h0 | h0
      · have : k = [] := List.eq_nil_of_length_eq_zero h0
        subst this
        simp at hu
      · obtain ⟨ad', e', hh⟩ := hr.src h0
        injection e' with e'
        subst e'
        exact hh j u hu
    obtain ⟨v', w', hrun, hown', hgr, _, hbl⟩ := run_append_own_at (P := P) w B t o.type e i z 1 bytes ht hi hz hsize hby hzs (by omega) _ _ _ hown ad k.length d (k.map oct) (by simp) hcells (octs_one k) h64 h63 hB
    have hv : ∃ A' c', v' = .slice A' (l ++ k).length c' := by
      rcases hown'.2 with ⟨hv, hn⟩ | ⟨g, cap, cur, hv, _⟩
      · exact ⟨none, 0, by rw [hv, List.length_append, hn]⟩
      · exact ⟨_, _, by rw [hv, List.length_append]⟩
    obtain ⟨A', c', rfl⟩ := hv
    have hO : Owns w' B e A' c' (l ++ k) := by
      have := hown'
      rw [← List.length_append, ← List.map_append] at this
      exact this
    have hob : ∀ (A : Option Addr) n c, (Value.slice A n c).ownBlock = A.map (·.block) := by intro A n c; cases A <;> rfl
    rw [hob] at hgr
    rw [hob, hob] at hbl
    refine wpListIn_plain hgd fun K hK => ?_
    refine ⟨fun f _ => hF f, ?_⟩
    rw [Oper.semAt_plain F _ _ (by rw [ho]; intro c hc; cases hc)]
    unfold execOp
    simp only [ho, resolve, invoke, builtin, Sem.run_bind, Sem.run_pure, Result.andThen_ok, List.map_toArray, List.map_cons, List.map_nil, hs, hx, hrun]
    refine hK _ _ (h A' c' w' hO ⟨hgr.os, hgr.tape, hgr.output, hgr.size, fun j hj hn => hgr.block j hj ?_⟩ ?_)
    · intro hh
      exact hn (by unfold blk; rw [← hh]; simp)
    · intro b hb
      subst hb
      rcases hbl with hh | hh
      · left; unfold blk; rw [← hh]; simp
      · right
        simp at hh
        omega
/-- What a round keeps: the blocks below n, but for a few. -/
structure KeepL (ms : List Nat) (n : Nat) (W W' : World) : Prop where
  size : W.heap.size ≤ W'.heap.size
  same : ∀ k, k < n → k < W.heap.size → k ∉ ms → W'.heap[k]? = W.heap[k]?
theorem KeepL.refl (ms : List Nat) (n : Nat) (W : World) : KeepL ms n W W := ⟨Nat.le_refl _, fun _ _ _ _ => rfl⟩
theorem KeepL.trans {ms : List Nat} {n : Nat} {A B C : World} (h : KeepL ms n A B) (k : KeepL ms n B C) : KeepL ms n A C :=
  ⟨Nat.le_trans h.size k.size, fun i h1 h2 h3 => (k.same i h1 (Nat.lt_of_lt_of_le h2 h.size) h3).trans (h.same i h1 h2 h3)⟩
theorem Mod.keepL {ms ns : List Nat} {W W' : World} (h : Mod ms W W') (n : Nat) (hs : ∀ i ∈ ms, i < n → i ∈ ns) : KeepL ns n W W' := ⟨h.size, fun k h1 h2 h3 => h.block k h2 (fun h4 => h3 (hs k h4 h1))⟩
theorem KeepL.cells {ms : List Nat} {n : Nat} {w v : World} {A : Option Addr} {cs : List Value} (h : Cells w A cs) (m : KeepL ms n w v) (hn : ∀ a, A = some a → a.block < n ∧ a.block ∉ ms) : Cells v A cs := by
  intro i hi
  obtain ⟨g, o, rfl, hc⟩ := h i hi
  obtain ⟨h1, h2⟩ := hn _ rfl
  have hlt : g < w.heap.size := by
    rcases Nat.lt_or_ge g w.heap.size with hlt | hge
    · exact hlt
    · simp [World.cell?, Array.getElem?_eq_none hge] at hc
  exact ⟨g, o, rfl, by rw [World.cell?_of_block (a := ⟨g, o + i, none⟩) (m.same g h1 hlt h2)]; exact hc⟩
theorem KeepL.reads {ms : List Nat} {n : Nat} {w v : World} {A : Option Addr} {l : List UInt8} (h : Reads w A l) (m : KeepL ms n w v) (hn : ∀ a, A = some a → a.block < n ∧ a.block ∉ ms) : Reads v A l := by
  intro i hi
  obtain ⟨g, o, rfl, hc⟩ := h i hi
  obtain ⟨h1, h2⟩ := hn _ rfl
  have hlt : g < w.heap.size := by
    rcases Nat.lt_or_ge g w.heap.size with hlt | hge
    · exact hlt
    · simp [World.cell?, Array.getElem?_eq_none hge] at hc
  exact ⟨g, o, rfl, by rw [World.cell?_of_block (a := ⟨g, o + i, none⟩) (m.same g h1 hlt h2)]; exact hc⟩
theorem KeepL.glob {ms : List Nat} {n : Nat} {w v : World} {c s : List UInt32} (h : Glob c s w) (m : KeepL ms n w v) (h0 : 2 ≤ n) (h1 : ∀ i ∈ ms, 2 ≤ i) : Glob c s v := ⟨h.hc, h.hs, m.cells h.G (fun a ha => by cases ha; exact ⟨by show 1 < n; omega, fun h => absurd (h1 _ h) (by decide)⟩), m.cells h.G1 (fun a ha => by cases ha; exact ⟨by show 0 < n; omega, fun h => absurd (h1 _ h) (by decide)⟩), Nat.le_trans h.two m.size⟩
/-- The bytes of a leaf, its seal aside. -/
def leafL (t n L q : Nat) (x : List UInt8) : List UInt8 := hi t 4 ++ hi n 4 ++ hi L 2 ++ hi q 2 ++ x
theorem leafL_length (t n L q : Nat) (x : List UInt8) : (leafL t n L q x).length = 12 + x.length := by simp [leafL, hi_length]; omega
def leafB (c s : List UInt32) (t n : Nat) (e : List UInt8) (k : Nat) : Blk := sealB c s (leafL t n e.length (e.length - 48 * k) ((e.drop (48 * k)).take 48))
def leavesB (c s : List UInt32) (t n : Nat) (e : List UInt8) : List Blk := (List.range (fills e.length)).map (leafB c s t n e)
theorem leavesB_length (c s : List UInt32) (t n : Nat) (e : List UInt8) : (leavesB c s t n e).length = fills e.length := by simp [leavesB]
theorem fills_in (L k : Nat) (h : k < fills L) : 48 * k ≤ L ∧ L ≤ 40000 := by
  unfold fills at h
  split at h
  · constructor
    · omega
    · assumption
  · omega
theorem conv_u32 (n : Nat) (hn : n < 4294967296) (w : World) : (convert 3 36 (.int .i64 (n : Int))).run Tryd.prog w = .ok (.int .u32 (n : Int)) w := by
  have h : (convert 3 36 (.int .i64 (n : Int))).run Tryd.prog w = .ok (.int .u32 (IntKind.u32.wrap (n : Int))) w := by go_simp
  rw [h]
  have : IntKind.u32.wrap (n : Int) = (n : Int) := by simp [IntKind.wrap, IntKind.bits, IntKind.signed]; omega
  rw [this]
theorem conv_u16 (n : Nat) (hn : n < 65536) (w : World) : (convert 3 97 (.int .i64 (n : Int))).run Tryd.prog w = .ok (.int .u16 (n : Int)) w := by
  have h : (convert 3 97 (.int .i64 (n : Int))).run Tryd.prog w = .ok (.int .u16 (IntKind.u16.wrap (n : Int))) w := by go_simp
  rw [h]
  have : IntKind.u16.wrap (n : Int) = (n : Int) := by simp [IntKind.wrap, IntKind.bits, IntKind.signed]; omega
  rw [this]
end
end Go.Proofs.YtcoedhemlghjoaaDoor
