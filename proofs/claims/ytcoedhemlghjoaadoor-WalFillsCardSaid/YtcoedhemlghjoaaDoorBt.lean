/-
  My own texts Wst Wsl Rgi, one behind the other.
-/
import Derived.Test.YtcoedhemlghjoaaDoorBc
import Derived.Test.YtcoedhemlghjoaaDoorBe
import Derived.OrdersIn
import Derived.OwnWalkIn
namespace Go.Proofs.YtcoedhemlghjoaaDoor
section
open Go.RowKit
/-- The sectors of a field from e on, n of them looked at, that are not noughts. -/
def stale (z : Nat) (F : List Blk) (e : Nat) : Nat → List Int
  | 0 => []
  | n + 1 => if F[e + n]? = some (fil 0) then stale z F e n else stale z F e n ++ [((z + (e + n) : Nat) : Int)]
theorem stale_length (z : Nat) (F : List Blk) (e : Nat) : ∀ n, (stale z F e n).length ≤ n := by
  intro n
  induction n with
  | zero => exact Nat.le_refl _
  | succ n ih =>
    unfold stale
    split
    · omega
    · rw [List.length_append]; simp; omega
def St.settle (S : St) (z : Nat) (F : List Blk) (e : Nat) : Int × St :=
  if stale z F e (F.length - e) = [] ∧ S.loose = [] then (0, S) else S.wipes (stale z F e (F.length - e))
/-- The cell of a number. -/
def ic (x : Int) : List Value := [.int .i64 x]
theorem ic_map (l : List Int) : l.flatMap ic = l.map (Value.int .i64) := by
  induction l with
  | nil => rfl
  | cons x l ih => rw [List.flatMap_cons, ih]; rfl
theorem run_lit73 (x : Int) (w : World) : (Instr.buildSlice 54 1 #[(0, .int .i64 x)]).run Tryd.prog w = .ok (.slice (some ⟨w.heap.size, 0, none⟩) 1 1) (w.alloc (.cells #[.int .i64 x] 3)) := by kernel_rfl
theorem exec_lit73 {v : World} {o : Oper} {ρ : Operand → Value} {x : Operand} {a : Int} (ho : o.op = .buildSlice 54 1 #[(0, x)]) (hx : ρ x = .int .i64 a) : (execOp ρ o).run Tryd.prog v = .ok (.value (.slice (some ⟨v.heap.size, 0, none⟩) 1 1)) (v.alloc (.cells #[.int .i64 a] 3)) := by
  unfold execOp
  simp only [ho, List.map_toArray, List.map_cons, List.map_nil, hx, Sem.run_bind, run_lit73, Result.andThen, Sem.run_pure]
/-- A row of the call's own lies apart from a disk. -/
theorem own_off {α : Type} {f : α → List Value} {e : TypeId} {n : Nat} {W : World} {g m c ck : Nat} {A C : Option Addr} {S : St} {L : List α} (D : DAt W g m A c S) (h : OwnG f e n W C ck L) (h1 : e ≠ 45) (h2 : e ≠ 92) : ∀ x, C = some x → x.block ∉ g :: m :: blk A := by
  intro x hx
  simp only [List.mem_cons, not_or]
  refine ⟨h.ne D.blk h1 x hx, fun e => ?_, fun hh => ?_⟩
  · obtain ⟨o, h1, h2⟩ := own_cells h x hx
    obtain ⟨l, c0, h3, _⟩ := D.firm
    have h4 : W.heap[m]? = some (.map (l.map be).toArray c0) := h3
    rw [e, h4] at h1
    cases h1
    cases h2
  · obtain ⟨a, ha, e⟩ := mem_blk hh
    exact own_apart h D.loose h2 x a hx ha e.symm
set_option maxRecDepth 100000 in
set_option maxHeartbeats 4000000 in
theorem settle_c (S : St) (g m cc : Nat) (A : Option Addr) (b t a : Nat) (st cm : Value) (e : Nat) (F : List Blk) (X : Option Addr) (cx : Nat) (w : World) (D : DAt w g m A cc S) (hb : Holds w b 50 (kc t (a : Int) st cm (e : Int))) (hF : Cells w X (F.flatMap bc)) (ha : a ≤ 1000) (ht : t < 4294967296) (hFl : F.length = a) (he : e ≤ a) (ho : S.ops + 5000 ≤ 1099511627776) :
    Calls Tryd.prog 32 #[.pointer (some ⟨b, 0, none⟩), .pointer (some ⟨g, 0, none⟩), .slice X a cx] w fun r w' => r = .returned (.int .i64 (S.settle (2 + t % 2 * a) F e).1) ∧ ∃ A' c', Twr (S.settle (2 + t % 2 * a) F e).2 g m A w w' A' c' := by
  obtain ⟨i0, j1, j2, j3, j4⟩ := info_parts i64_parts
  have HI := Lib.hid (And.intro j1 (And.intro j2 (And.intro j3 j4)))
  have XH := fun v => hstart_c t a ht ha v
  obtain ⟨z, hz⟩ : ∃ z, z = 2 + t % 2 * a := ⟨_, rfl⟩
  have hz6 : z ≤ 1002 := by
    have h1 : t % 2 ≤ 1 := by omega
    have h2 : t % 2 * a ≤ 1 * a := Nat.mul_le_mul_right a h1
    omega
  rw [← hz] at XH ⊢
  obtain ⟨rr, hrr⟩ : ∃ r, r = (S.settle z F e).1 := ⟨_, rfl⟩
  obtain ⟨SS, hSS⟩ : ∃ r, r = (S.settle z F e).2 := ⟨_, rfl⟩
  rw [← hrr, ← hSS]
  have c4 : w.cell? ⟨b, 4, none⟩ = some (.int .i64 (e : Int)) := by have := (kc_cells (Cells.of_holds hb)).2.2.2.2; simpa using this
  have haZ : (a : Int) ≤ 1000 := by omega
  have heZ : (e : Int) ≤ 1000 := by omega
  have HH := Lib.hid (And.intro D (And.intro hb (And.intro hF (And.intro hFl (And.intro he (And.intro ho (And.intro hrr (And.intro hSS (And.intro hz6 ha)))))))))
  clear j1 j2 j3 j4 D hb hF ho hz hz6 ht hFl hrr hSS ha
  go_enter Tryd.func32, Tryd.ntmps32
  go_wp2_with fail
  go_loopw [8, 7] (fun i x wi => ∃ (j : Nat) (A0 : Option Addr) (n0 c0 : Nat), j ≤ a - e ∧ i = .int .i64 ((e + j : Nat) : Int) ∧ x = .slice A0 n0 c0 ∧ n0 = (stale z F e j).length ∧ OwnG ic 3 1 wi A0 c0 (stale z F e j) ∧ (∀ y, A0 = some y → w.heap.size ≤ y.block) ∧ Mod [] w wi) (fun i _ _ => a - (intOf i).toNat)
  case atStart => exact ⟨0, none, 0, 0, by omega, rfl, rfl, rfl, OwnG.nil _ _ _ _, (fun y hy => by cases hy), Mod.refl _ _⟩
  case round =>
    obtain ⟨j, A0, n0, c0, hj, rfl, rfl, hn0, hO, hnw, hmi⟩ := hrel
    obtain ⟨k, hk⟩ : ∃ k, k = e + j := ⟨_, rfl⟩
    have hn1 : n0 ≤ 1000 := by have := stale_length z F e j; have := HH.out.2.2.2.2.2.2.2.2.2; omega
    rw [← hk]
    by_cases hka : k < a
    · have hkZ : (k : Int) < (a : Int) := by omega
      have hkl : k < F.length := by rw [HH.out.2.2.2.1]; exact hka
      obtain ⟨ga, oa, rfl, hce⟩ := HH.out.2.2.1.elem' bc 64 (by omega) bc_length k hkl
      obtain ⟨p, hp⟩ : ∃ p, p = F[k] := ⟨_, rfl⟩
      rw [← hp] at hce
      have hci := hce.keep hmi (by simp)
      have hg : F[e + j]? = some p := by rw [← hk, List.getElem?_eq_getElem hkl, hp]
      have hsu : stale z F e (j + 1) = if F[e + j]? = some (fil 0) then stale z F e j else stale z F e j ++ [((z + (e + j) : Nat) : Int)] := by conv => lhs; unfold stale
      rw [hg, ← hk] at hsu
      have HS := Lib.hid (And.intro hsu (And.intro hn0 (And.intro hO (And.intro hnw (And.intro hmi hk)))))
      clear hg hce hp hsu hn0 hO hnw hmi hk
      by_cases h0 : p = fil 0
      · have hd : (!decide (p = fil 0)) = false := by simp [h0]
        go_wp2_with (first
          | (with_reducible refine wpList_loads (o := ⟨some 22, .load 73 (.tmp 21), _, _, _, _⟩) rfl 73 (.tmp 21) rfl ga (oa + k * 64) _ rfl hci _ Tryd.underlying73 rfl (by rw [bc_length]; exact size110) (bv p) rfl ?_)
          | (with_reducible refine wpList_ranW (o := ⟨some 23, .build 73 _, _, _, _, _⟩) (by with_unfolding_all rfl) (bv (fil 0)) wr (exec_build110 rfl) ?_)
          | (with_reducible refine wpList_ranW (o := ⟨some 24, .binOp _ _ _ _ _, _, _, _, _⟩) (by with_unfolding_all rfl) (.bool false) wr (exec_neb_v rfl rfl rfl hd) ?_))
        obtain ⟨hsu, hn0, hO, hnw, hmi, hk⟩ := HS.out
        rw [if_pos (by rw [h0])] at hsu
        refine ⟨⟨j + 1, A0, n0, c0, by omega, ?_, rfl, by rw [hsu]; exact hn0, by rw [hsu]; exact hO, hnw, hmi⟩, by simp [intOf]; omega⟩
        congr 1
        omega
      · have hd : (!decide (p = fil 0)) = true := by simp [h0]
        obtain ⟨zk, hzk⟩ : ∃ x, x = z + k := ⟨_, rfl⟩
        have HZ : Hid (IntKind.i64.wrap ((z : Int) + (k : Int)) = (zk : Int)) := Lib.hid (by
          have : (z : Int) + (k : Int) = (zk : Int) := by omega
          rw [this]
          exact IntWalk.i64_in _ (by have := HH.out.2.2.2.2.2.2.2.2.1; omega))
        have hbi := HH.out.2.1.keep HS.out.2.2.2.2.1 (by simp)
        go_wp2_with (first
          | (with_reducible refine wpList_loads (o := ⟨some 22, .load 73 (.tmp 21), _, _, _, _⟩) rfl 73 (.tmp 21) rfl ga (oa + k * 64) _ rfl hci _ Tryd.underlying73 rfl (by rw [bc_length]; exact size110) (bv p) rfl ?_)
          | (with_reducible refine wpList_ranW (o := ⟨some 23, .build 73 _, _, _, _, _⟩) (by with_unfolding_all rfl) (bv (fil 0)) wr (exec_build110 rfl) ?_)
          | (with_reducible refine wpList_ranW (o := ⟨some 24, .binOp _ _ _ _ _, _, _, _, _⟩) (by with_unfolding_all rfl) (.bool true) wr (exec_neb_v rfl rfl rfl hd) ?_)
          | (with_reducible refine wpList_ranW (o := ⟨some 28, .fieldAddr 50 _ _, _, _, _, _⟩) (by with_unfolding_all rfl) (.pointer (some ⟨b, 0, none⟩)) wr (exec_f93_0 rfl rfl) ?_)
          | (with_reducible refine wpList_loads (o := ⟨some 29, .load 47 (.tmp 28), _, _, _, _⟩) rfl 47 (.tmp 28) rfl b 0 _ rfl (kc_head (Cells.of_holds hbi)) _ Tryd.underlying47 rfl (size91_of t (a : Int)) (hv t (a : Int)) rfl ?_))
        refine (XH _).mono ?_
        rintro r w3 ⟨rfl, m3⟩
        have O3 := HS.out.2.2.1.keep m3 (by simp)
        have hsz := Lib.hid (HS.out.2.2.2.2.1.then m3).size
        clear hbi hci
        go_wp2_with (first
          | (with_reducible refine wpList_ranW (o := ⟨some 32, .binOp _ _ _ _ _, _, _, _, _⟩) (by with_unfolding_all rfl) (.int .i64 (zk : Int)) w3 (Rg.exec_add rfl rfl rfl HZ.out) ?_)
          | (with_reducible refine wpList_ranW (o := ⟨some 33, .buildSlice 54 1 _, _, _, _, _⟩) (by with_unfolding_all rfl) (.slice (some ⟨w3.heap.size, 0, none⟩) 1 1) (w3.alloc (.cells #[.int .i64 (zk : Int)] 3)) (exec_lit73 rfl rfl) ?_
             have hN : Holds (w3.alloc (.cells #[.int .i64 (zk : Int)] 3)) w3.heap.size 3 [.int .i64 (zk : Int)] := Holds.made w3 3 _
             have mN : Mod [] w3 (w3.alloc (.cells #[.int .i64 (zk : Int)] 3)) := Mod.alloc [] w3 _
             obtain ⟨wn, hwn⟩ : ∃ v, v = w3.alloc (.cells #[.int .i64 (zk : Int)] 3) := ⟨_, rfl⟩
             obtain ⟨bn, hbn⟩ : ∃ v, v = w3.heap.size := ⟨_, rfl⟩
             rw [← hwn, ← hbn] at hN
             rw [← hwn] at mN
             rw [← hwn, ← hbn]
             have hK : Cells wn (some ⟨bn, 0, none⟩) ([(zk : Int)].flatMap ic) := Cells.of_holds hN
             replace O3 := O3.keep mN (by simp)
             replace hbn := Lib.hid hbn
             clear hwn hN)
          | (refine wpList_appendG (f := ic) (size := 1) wn (o := ⟨some 34, _, _, _, _, _⟩) rfl (.tmp 25) (.tmp 33) 54 rfl 3 i0 (.int .i64 0) 8 Tryd.underlying54 HI.out.1 HI.out.2.1 HI.out.2.2.1 HI.out.2.2.2 rfl (by omega) (fun x => rfl) (fun x v hv => by cases List.mem_singleton.1 hv; rfl) A0 n0 c0 (stale z F e j) rfl HS.out.2.1 O3 (some ⟨bn, 0, none⟩) 1 1 [(zk : Int)] rfl rfl hK (by rw [← HS.out.2.1]; simp; omega) (by rw [← HS.out.2.1]; simp; unfold maxLen; omega) ?_
             intro A1 c1 w4 hO4 m4 q4))
        obtain ⟨hsu, hn0, hO, hnw, hmi, hk⟩ := HS.out
        rw [if_neg (fun h => h0 (by injection h))] at hsu
        have hzz : ((z + k : Nat) : Int) = (zk : Int) := by rw [hzk]
        rw [hzz] at hsu
        have mw4 : Mod [] w w4 := far_mod ((hmi.then m3).then mN) m4 (fun i hi => by
          obtain ⟨y, hy, rfl⟩ := mem_blk hi
          exact hnw y hy)
        refine ⟨⟨j + 1, A1, _, c1, by omega, ?_, rfl, by rw [hsu, List.length_append]; rfl, by rw [hsu]; exact hO4, fun y hy => ?_, mw4⟩, by simp [intOf]; omega⟩
        · have : ((k + 1 : Nat) : Int) = ((e + (j + 1) : Nat) : Int) := by omega
          rw [← this]
          go_num
        · rcases q4 y hy with h1 | h1
          · obtain ⟨y2, hy2, e2⟩ := mem_blk h1
            rw [← e2]
            exact hnw y2 hy2
          · have := hsz.out; have := mN.size; omega
    · have hja : j = a - e := by omega
      have hka' : k = a := by have := HH.out.2.2.2.2.1; omega
      subst hka'
      obtain ⟨l, hl⟩ : ∃ l, l = stale z F e j := ⟨_, rfl⟩
      have hl2 : l = stale z F e (F.length - e) := by rw [hl, HH.out.2.2.2.1, hja]
      rw [← hl] at hn0 hO
      have DD := HH.out.1.keep hmi (by simp) (by simp) (by simp)
      have hoff := own_off DD hO (by decide) (by decide)
      have hcl : Cells wr A0 (l.map (Value.int .i64)) := by rw [← ic_map]; exact hO.cells
      obtain ⟨wv, hwv⟩ : ∃ x, x = wr := ⟨_, rfl⟩
      subst hwv
      have XW := fun v (q : Mod [] wv v) => wipe_c S g m cc A l A0 n0 c0 hn0 v (DD.keep q (by simp) (by simp) (by simp)) (hcl.keep q (by simp)) hoff (by omega) HH.out.2.2.2.2.2.1
      have hss : S.settle z F e = if l = [] ∧ S.loose = [] then (0, S) else S.wipes l := by unfold St.settle; rw [← hl2]
      have HR := HH.out.2.2.2.2.2.2.1
      have HT := HH.out.2.2.2.2.2.2.2.1
      rw [hss] at HR HT
      have hlz : l = [] ↔ n0 = 0 := by rw [hn0]; exact List.length_eq_zero_iff.symm
      have XP := fun v (q : Mod [] wv v) => pending_c S g m A cc S.loose.length v (DD.keep q (by simp) (by simp) (by simp)) rfl
      obtain ⟨np, hnp⟩ : ∃ n, n = S.loose.length := ⟨_, rfl⟩
      have hpz : S.loose = [] ↔ np = 0 := by rw [hnp]; exact List.length_eq_zero_iff.symm
      rw [← hnp] at XP
      have T0 : Twr S g m A w wv A cc := (Twr.of_dat HH.out.1).mod hmi
      have HC := Lib.hid (And.intro HR (And.intro HT (And.intro hlz (And.intro hpz (And.intro T0 hmi)))))
      clear HR HT hlz hpz hl hl2 hn0 hO DD hoff hcl hss hnp T0 hmi hnw hja
      by_cases h0 : n0 = 0
      · subst h0
        go_wp2_with fail
        refine (XP _ (Mod.refl _ _)).mono ?_
        rintro r w3 ⟨gp, rfl, -, m3, -⟩
        by_cases h1 : np = 0
        · subst h1
          clear XP XW
          go_wp2
          go_ret
          obtain ⟨HR, HT, hlz, hpz, T0, hmi⟩ := HC.out
          rw [if_pos ⟨hlz.2 (by trivial), hpz.2 (by trivial)⟩] at HR HT
          subst HR HT
          exact ⟨rfl, A, cc, T0.mod m3⟩
        · have h1Z : ¬ (np : Int) = 0 := by omega
          go_wp2_with fail
          refine (XW _ m3).mono ?_
          rintro r w4 ⟨rfl, A1, c1, T1⟩
          clear XP XW
          go_wp2
          go_ret
          obtain ⟨HR, HT, hlz, hpz, T0, hmi⟩ := HC.out
          rw [if_neg (fun h => h1 (hpz.1 h.2))] at HR HT
          subst HR HT
          exact ⟨rfl, A1, c1, Twr.pre (hmi.then m3) T1.D T1.mm T1.new⟩
      · have h0Z : ¬ (n0 : Int) = 0 := by omega
        go_wp2_with fail
        refine (XW _ (Mod.refl _ _)).mono ?_
        rintro r w4 ⟨rfl, A1, c1, T1⟩
        clear XP XW
        go_wp2
        go_ret
        obtain ⟨HR, HT, hlz, hpz, T0, hmi⟩ := HC.out
        rw [if_neg (fun h => h0 (hlz.1 h.1))] at HR HT
        subst HR HT
        exact ⟨rfl, A1, c1, Twr.pre hmi T1.D T1.mm T1.new⟩
end
section
open Go.RowKit Go.Shelf
section
variable {P : Program} {v : World} {o : Oper} {ρ : Operand → Value} {t e : TypeId} {x y z : Operand} {size : Nat}
/-- s[k:]. -/
theorem exec_from {g f n c k : Nat} (hu : P.underlying t = some (.slice e)) (he : (P.info? e).map (·.size) = some size) (h1 : k ≤ n) (h3 : k < c) (ho : o.op = .slice t x (some y) none none) (hx : ρ x = .slice (some ⟨g, f, none⟩) n c) (hy : ρ y = .int .i64 (k : Int)) :
    (execOp ρ o).run P v = .ok (.value (.slice (some ⟨g, f + k * size, none⟩) (n - k) (c - k))) v := by
  unfold execOp
  have h4 : ¬ c = k := by omega
  cases hq : P.info? e with
  | none => rw [hq] at he; cases he
  | some it =>
    have hs : it.size = size := by rw [hq] at he; simpa using he
    simp [ho, hx, hy, Instr.sliceAt, Instr.slice, Instr.sliceBounds, Instr.sliceBound, Sem.run_bind, run_underlying hu, go_sem, sizeOf, typeInfo, hq, hs, h1, h4, add_plain]
/-- s[:k]. -/
theorem exec_upto {g f n c k : Nat} (hu : P.underlying t = some (.slice e)) (he : (P.info? e).map (·.size) = some size) (h1 : k ≤ c) (ho : o.op = .slice t x none (some y) none) (hx : ρ x = .slice (some ⟨g, f, none⟩) n c) (hy : ρ y = .int .i64 (k : Int)) :
    (execOp ρ o).run P v = .ok (.value (.slice (some ⟨g, f, none⟩) k c)) v := by
  unfold execOp
  cases hq : P.info? e with
  | none => rw [hq] at he; cases he
  | some it =>
    simp [ho, hx, hy, Instr.sliceAt, Instr.slice, Instr.sliceBounds, Instr.sliceBound, Sem.run_bind, run_underlying hu, go_sem, sizeOf, typeInfo, hq, h1]
/-- s[:k:k]. -/
theorem exec_upto3 {A : Option Addr} {n c k : Nat} (hu : P.underlying t = some (.slice e)) (he : (P.info? e).map (·.size) = some size) (h1 : k ≤ c) (ho : o.op = .slice t x none (some y) (some z)) (hx : ρ x = .slice A n c) (hy : ρ y = .int .i64 (k : Int)) (hz : ρ z = .int .i64 (k : Int)) :
    (execOp ρ o).run P v = .ok (.value (.slice A k k)) v := by
  unfold execOp
  cases hq : P.info? e with
  | none => rw [hq] at he; cases he
  | some it =>
    simp [ho, hx, hy, hz, Instr.sliceAt, Instr.slice, Instr.sliceBounds, Instr.sliceBound, Sem.run_bind, run_underlying hu, go_sem, sizeOf, typeInfo, hq, h1]
end
theorem size110' : (Tryd.prog.info? 73).map (·.size) = some 64 := size110
/-! Marks. -/
abbrev mark (D : Nat) : Deferred := { target := .collected D, args := #[] }
/-- The blocks of marks: there, and empty. -/
def Marks (Ds : List Nat) (w : World) : Prop := Ds.Nodup ∧ ∀ D ∈ Ds, w.heap[D]? = some (.deferred (some []))
theorem Marks.nil (w : World) : Marks [] w := ⟨List.nodup_nil, fun _ h => by cases h⟩
theorem Marks.keep {Ds ms : List Nat} {w v : World} (h : Marks Ds w) (m : Mod ms w v) (hm : ∀ i ∈ ms, i ∉ Ds) : Marks Ds v := ⟨h.1, fun D hD => by
  have := h.2 D hD
  rw [m.block D (Array.getElem?_eq_some_iff.1 this).1 (fun hh => hm D hh hD)]
  exact this⟩
theorem Marks.cons {Ds : List Nat} {w v : World} {D : Nat} (h : Marks Ds w) (m : Mod [] w v) (hD : w.heap.size ≤ D) (hk : v.heap[D]? = some (.deferred (some []))) : Marks (D :: Ds) v := by
  refine ⟨List.nodup_cons.2 ⟨fun hh => ?_, h.1⟩, fun E hE => ?_⟩
  · have := (Array.getElem?_eq_some_iff.1 (h.2 D hh)).1
    omega
  · simp only [List.mem_cons] at hE
    rcases hE with rfl | hE
    · exact hk
    · exact (h.keep m (fun _ h => by cases h)).2 E hE
theorem Marks.not_cells {Ds : List Nat} {w : World} {g : Nat} {t : TypeId} {cs : List Value} (h : Marks Ds w) (hh : Holds w g t cs) : g ∉ Ds := fun hg => by
  have := h.2 g hg
  unfold Holds at hh
  rw [hh] at this
  cases this
theorem leaves_marks {F : Fence} {n : Nat} {P : Program} {fn : Func} {tmps : Array Value} {R : Ending → World → Prop} : ∀ (Ds : List Nat) (w : World), Marks Ds w → (∀ w', Mod Ds w w' → w'.heap.size = w.heap.size → LeavesInM F n P fn tmps R [] .returning w') → LeavesInM F n P fn tmps R (Ds.map mark) .returning w := by
  intro Ds
  induction Ds with
  | nil => intro w _ h; exact h w (Mod.refl _ _) rfl
  | cons D Ds ih =>
    intro w hM h
    have hD := hM.2 D (by simp)
    have hsz : (w.putObj D (.deferred none)).heap.size = w.heap.size := by simp [World.putObj]
    have hmod : Mod [D] w (w.putObj D (.deferred none)) := ⟨rfl, rfl, rfl, by rw [hsz]; exact Nat.le_refl _, fun k _ hk => World.putObj_heap_other (by simpa using hk)⟩
    refine ⟨by simp, .inl ⟨D, _, rfl, run_takeDeferred hD, ?_⟩⟩
    refine ih _ ⟨(List.nodup_cons.1 hM.1).2, fun E hE => ?_⟩ (fun w' m hs => h w' ((hmod.wk (fun i _ hi => by simp at hi; simp [hi])).trans m (fun i _ hi => by simp [hi])) (hs.trans hsz))
    rw [hmod.block E (Array.getElem?_eq_some_iff.1 (hM.2 E (by simp [hE]))).1 (by simp; rintro rfl; exact (List.nodup_cons.1 hM.1).1 hE)]
    exact hM.2 E (by simp [hE])
/-! Entries in memory. -/
/-- The slice p holds these bytes, has no room left, and lies in a block of bytes from B on. -/
structure Ent (B : Nat) (w : World) (p : Option Addr × Nat × Nat) (l : List UInt8) : Prop where
  n : p.2.1 = l.length
  c : p.2.2 = l.length
  le : l.length ≤ 40000
  r : Reads w p.1 l
  b : ∀ x, p.1 = some x → B ≤ x.block ∧ ∃ cs, Holds w x.block 5 cs
theorem Ent.keep {B : Nat} {w v : World} {p : Option Addr × Nat × Nat} {l : List UInt8} {ms : List Nat} (h : Ent B w p l) (m : Mod ms w v) (hm : ∀ x cs, p.1 = some x → Holds w x.block 5 cs → x.block ∉ ms) : Ent B v p l :=
  ⟨h.n, h.c, h.le, h.r.keep m (fun x hx => by obtain ⟨_, cs, hh⟩ := h.b x hx; exact hm x cs hx hh), fun x hx => by obtain ⟨h1, cs, hh⟩ := h.b x hx; exact ⟨h1, cs, hh.keep m (hm x cs hx hh)⟩⟩
theorem Ent.lower {B B' : Nat} {w : World} {p : Option Addr × Nat × Nat} {l : List UInt8} (h : Ent B w p l) (hB : B' ≤ B) : Ent B' w p l := ⟨h.n, h.c, h.le, h.r, fun x hx => ⟨Nat.le_trans hB (h.b x hx).1, (h.b x hx).2⟩⟩
/-- Entries, one behind the other. -/
inductive Ents (B : Nat) (w : World) : List (Option Addr × Nat × Nat) → List (List UInt8) → Prop
  | nil : Ents B w [] []
  | cons {p : Option Addr × Nat × Nat} {l : List UInt8} {L : List (Option Addr × Nat × Nat)} {ls : List (List UInt8)} (h : Ent B w p l) (hs : Ents B w L ls) : Ents B w (p :: L) (l :: ls)
theorem Ents.keep {B : Nat} {w v : World} {ms : List Nat} {L : List (Option Addr × Nat × Nat)} {ls : List (List UInt8)} (h : Ents B w L ls) (m : Mod ms w v) (hm : ∀ k cs, Holds w k 5 cs → k ∉ ms) : Ents B v L ls := by
  induction h with
  | nil => exact .nil
  | cons h _ ih => exact .cons (h.keep m (fun x cs _ hh => hm _ _ hh)) ih
theorem Ents.lower {B B' : Nat} {w : World} {L : List (Option Addr × Nat × Nat)} {ls : List (List UInt8)} (h : Ents B w L ls) (hB : B' ≤ B) : Ents B' w L ls := by
  induction h with
  | nil => exact .nil
  | cons h _ ih => exact .cons (h.lower hB) ih
theorem Ents.length {B : Nat} {w : World} {L : List (Option Addr × Nat × Nat)} {ls : List (List UInt8)} (h : Ents B w L ls) : L.length = ls.length := by
  induction h with
  | nil => rfl
  | cons _ _ ih => simp [ih]
theorem Ents.snoc {B : Nat} {w : World} {L : List (Option Addr × Nat × Nat)} {ls : List (List UInt8)} {p : Option Addr × Nat × Nat} {l : List UInt8} (h : Ents B w L ls) (hp : Ent B w p l) : Ents B w (L ++ [p]) (ls ++ [l]) := by
  induction h with
  | nil => exact .cons hp .nil
  | cons h _ ih => exact .cons h ih
/-! What a field says. -/
/-- The entry of that number that stands at the sector e of a field. -/
def standsB (c s : List UInt32) (t num : Nat) (F : List Blk) (e : Nat) : Option (List UInt8) :=
  match F[e]? with
  | none => none
  | some x =>
    if fills (lenB x) = 0 ∨ F.length - e < fills (lenB x) then none
    else if leavesB c s t num ((textB ((F.drop e).take (fills (lenB x)))).take (lenB x)) = (F.drop e).take (fills (lenB x)) then some ((textB ((F.drop e).take (fills (lenB x)))).take (lenB x))
    else none
def saidN (c s : List UInt32) (t : Nat) (F : List Blk) : Nat → List (List UInt8) → Nat → List (List UInt8) × Nat
  | 0, ents, e => (ents, e)
  | n + 1, ents, e => match standsB c s t ents.length F e with
    | none => (ents, e)
    | some x => saidN c s t F n (ents ++ [x]) (e + fills x.length)
def saidB (c s : List UInt32) (t : Nat) (F : List Blk) : List (List UInt8) × Nat := saidN c s t F F.length [] 0
theorem saidN_none (c s : List UInt32) (t : Nat) (F : List Blk) (ents : List (List UInt8)) (e : Nat) (h : standsB c s t ents.length F e = none) : ∀ n, saidN c s t F n ents e = (ents, e) := by
  intro n
  cases n with
  | zero => rfl
  | succ n => unfold saidN; rw [h]
theorem standsB_some {c s : List UInt32} {t num : Nat} {F : List Blk} {e : Nat} {x : List UInt8} (h : standsB c s t num F e = some x) : e < F.length ∧ x.length ≤ 40000 ∧ 1 ≤ fills x.length ∧ e + fills x.length ≤ F.length ∧ leavesB c s t num x = (F.drop e).take (fills x.length) := by
  unfold standsB at h
  split at h
  · cases h
  · rename_i b hb
    have he : e < F.length := (List.getElem?_eq_some_iff.1 hb).1
    split at h
    · cases h
    · rename_i hf
      have hf1 : ¬ fills (lenB b) = 0 := fun q => hf (.inl q)
      have hf2 : ¬ F.length - e < fills (lenB b) := fun q => hf (.inr q)
      split at h
      · rename_i heq
        injection h with h
        have hL : lenB b ≤ 40000 := by
          rcases Nat.lt_or_ge 40000 (lenB b) with q | q
          · exact absurd (by unfold fills; rw [if_neg (by omega)]) hf1
          · exact q
        have hfl : lenB b ≤ fills (lenB b) * 48 := by unfold fills; rw [if_pos hL]; omega
        have hxl : x.length = lenB b := by
          rw [← h, List.length_take, textB_length, List.length_take, List.length_drop]
          have : min (fills (lenB b)) (F.length - e) = fills (lenB b) := by omega
          rw [this]
          omega
        rw [hxl, ← h]
        exact ⟨he, hL, by omega, by omega, heq⟩
      · cases h
theorem saidN_some (c s : List UInt32) (t : Nat) (F : List Blk) (ents : List (List UInt8)) (e : Nat) (x : List UInt8) (h : standsB c s t ents.length F e = some x) (n : Nat) (hn : F.length - e ≤ n) : saidN c s t F n ents e = saidN c s t F (n - 1) (ents ++ [x]) (e + fills x.length) := by
  obtain ⟨h1, -, h3, h4, -⟩ := standsB_some h
  cases n with
  | zero => omega
  | succ n => conv => lhs; unfold saidN
              rw [h]; rfl
end
section
open Go.RowKit
namespace Rgi
open Rg
section
variable {Fe : Fence} {nf : Nat} {P : Program} {ops : Array Oper} {Q : Exit → Act → World → Prop}
/-- What holds ahead of each step, whatever was done by then, holds when all is done. -/
theorem wpAnyIn_inv2 (I : Array Bool → Act → World → Prop) (hs : ∀ listed a w, I listed a w → listed.size = ops.size)
    (hstep : ∀ listed a w i o, I listed a w → ops[i]? = some o → listed.getD i true = false → (∀ e ∈ o.after, Region.binds .any e = true → listed.getD e.on false = true) →
      ∀ K : Act → World → Prop, (∀ a' w', I (listed.setIfInBounds i true) a' w' → K a' w') → if Region.wanted o (yielded ops a.tmps) = true then o.wpIn Fe nf P a w K Q else ((∀ f, o.about P w a.eval = some f → Fe.fn f) ∧ K (a.put o.dst undef) w))
    (hend : ∀ listed a w, I listed a w → (∀ j, j < ops.size → listed.getD j false = true) → Q .normal a w)
    (hlt : ∀ (i : Nat) (o : Oper), ops[i]? = some o → ∀ e ∈ o.after, Region.binds .any e = true → e.on < i) :
    ∀ (fuel : Nat) (listed : Array Bool) (a : Act) (w : World), listed.toList.countP (fun b => !b) ≤ fuel → I listed a w → wpAnyIn Fe nf P .any ops Q fuel listed a w := by
  have hall : ∀ listed : Array Bool, listed.size = ops.size → Region.ready .any ops listed = [] → ∀ n j, j < n → j < ops.size → listed.getD j false = true := by
    intro listed hsz hr n
    induction n with
    | zero => intro j h; omega
    | succ n ih =>
      intro j hj hjo
      by_cases hjn : j < n
      · exact ih j hjn hjo
      · obtain rfl : j = n := by omega
        rcases hb : listed.getD j false with _ | _
        · exfalso
          have hlj : j < listed.size := by omega
          have hmem : j ∈ Region.ready .any ops listed := by
            unfold Region.ready
            rw [List.mem_filter]
            refine ⟨by simpa using hjo, ?_⟩
            have h1 : listed.getD j true = false := by
              simp only [Array.getD, hlj, dite_true] at hb ⊢
              exact hb
            rw [h1, Array.getElem?_eq_getElem hjo]
            simp only [Bool.not_false, Bool.true_and, Option.map_some, Option.getD_some]
            rw [Array.all_eq_true_iff_forall_mem]
            intro e he
            cases hbe : Region.binds .any e with
            | false => rfl
            | true =>
              have := hlt j ops[j] (Array.getElem?_eq_getElem hjo) e he hbe
              rw [ih e.on this (by omega)]
              rfl
          rw [hr] at hmem
          cases hmem
        · rfl
  intro fuel
  induction fuel with
  | zero =>
    intro listed a w hc hI
    have hsz := hs _ _ _ hI
    have hl : ∀ j, j < ops.size → listed.getD j false = true := fun j hj => by
      have hh := count_zero listed.toList (by omega) j (by simp; omega)
      have hj' : j < listed.size := by omega
      simp only [Array.getD, hj', dite_true]
      simpa [hj'] using hh
    refine ⟨?_, hend _ _ _ hI hl⟩
    unfold Region.ready
    rw [List.filter_eq_nil_iff]
    intro j hj
    have hj' : j < listed.size := by have := List.mem_range.1 hj; omega
    have := hl j (List.mem_range.1 hj)
    have h1 : listed.getD j true = true := by
      simp only [Array.getD, hj', dite_true] at this ⊢
      exact this
    simp [h1]
  | succ fuel ih =>
    intro listed a w hc hI
    have hsz := hs _ _ _ hI
    refine ⟨fun hr => hend _ _ _ hI (fun j hj => hall listed hsz hr (j + 1) j (by omega) hj), fun i hi => ?_⟩
    unfold Region.ready at hi
    rw [List.mem_filter] at hi
    obtain ⟨hi1, hi2⟩ := hi
    have hio : i < ops.size := List.mem_range.1 hi1
    rw [Array.getElem?_eq_getElem hio] at hi2
    simp only [Bool.and_eq_true, Bool.not_eq_true', Option.map_some, Option.getD_some] at hi2
    obtain ⟨h1, h2⟩ := hi2
    rw [Array.all_eq_true_iff_forall_mem] at h2
    have hil : i < listed.size := by omega
    have hcs : (listed.setIfInBounds i true).toList.countP (fun b => !b) ≤ fuel := by
      have := count_set listed.toList i (by
        simp only [Array.getD, hil, dite_true] at h1
        simpa [hil] using h1)
      rw [Array.toList_setIfInBounds]
      omega
    refine wpOpIn_step (Array.getElem?_eq_getElem hio) (fun K' hK => ?_)
    exact hstep listed a w i _ hI (Array.getElem?_eq_getElem hio) h1 (fun e he hb => by
      have := h2 e he
      rw [hb] at this
      simpa using this) K' (fun a' w' hI' => hK _ _ (ih _ _ _ hcs hI'))
/-- A region that draws its order, each of whose steps yields the same whenever it may come, but for what x says (the places of what is made). -/
theorem wpIn_region_detx {X : Type} {id : Nat} {a : Act} {w : World} (x0 : X) (nt : Nat) (E : X → Nat → Value) (ps : List Nat) (st : X → (Nat → Bool) → World → Prop) (ds : List Deferred) (hm : P.follows .mixedOrders = true)
    (ht : a.tmps.size = nt) (hd : a.defers = ds) (hp : ∀ s ∈ ps, a.tmps[s]? = some (E x0 s)) (h0 : st x0 (fun _ => false) w.drew)
    (hlt : ∀ (i : Nat) (o : Oper), ops[i]? = some o → ∀ e ∈ o.after, Region.binds .any e = true → e.on < i) (hdst : ∀ (i : Nat) (o : Oper) (s : Nat), ops[i]? = some o → o.dst = some s → s < nt)
    (hstep : ∀ (x : X) (l : Nat → Bool) (T : Act) (v : World) (i : Nat) (o : Oper), ops[i]? = some o → l i = false → (∀ e ∈ o.after, Region.binds .any e = true → l e.on = true) → st x l v →
      (∀ s ∈ ps, T.tmps[s]? = some (E x s)) → (∀ (j : Nat) (o' : Oper) (s : Nat), ops[j]? = some o' → l j = true → o'.dst = some s → T.tmps[s]? = some (E x s)) →
      ∀ K : Act → World → Prop, (∀ x' u v', (∀ s ∈ ps, E x' s = E x s) → (∀ (j : Nat) (o' : Oper) (s : Nat), ops[j]? = some o' → l j = true → o'.dst = some s → E x' s = E x s) → (∀ s, o.dst = some s → u = E x' s) → st x' (fun j => if j = i then true else l j) v' → K (T.put o.dst u) v') →
        if Region.wanted o (yielded ops T.tmps) = true then o.wpIn Fe nf P T v K Q else ((∀ f, o.about P v T.eval = some f → Fe.fn f) ∧ K (T.put o.dst undef) v))
    (hend : ∀ (x : X) (l : Nat → Bool) (T : Act) (v : World), (∀ j, j < ops.size → l j = true) → st x l v → T.tmps.size = nt → T.defers = ds → (∀ s ∈ ps, T.tmps[s]? = some (E x s)) →
      (∀ (j : Nat) (o' : Oper) (s : Nat), ops[j]? = some o' → o'.dst = some s → T.tmps[s]? = some (E x s)) → Q .normal T v) :
    (Code.region id ops true).wpIn Fe nf P Q a w := by
  refine wpIn_region_any hm ?_
  refine wpAnyIn_inv2 (fun listed T v => ∃ x, Drawn ops nt (E x) ps (st x) ds listed T v) (fun _ _ _ ⟨_, h⟩ => h.size) ?_ ?_ hlt ops.size _ a _ ?_ ?_
  · rintro listed T v i o ⟨x, hI⟩ ho hi hdep K hK
    have hio : i < ops.size := (Array.getElem?_eq_some_iff.1 ho).1
    have hil : i < listed.size := by rw [hI.size]; exact hio
    have hi' : listed.getD i false = false := by
      simp only [Array.getD, hil, dite_true] at hi ⊢
      exact hi
    refine hstep x (fun j => listed.getD j false) T v i o ho hi' hdep hI.wor hI.par hI.got K (fun x' u v' hps hold hu hv' => hK _ _ ⟨x', ?_⟩)
    have hput : ∀ s y, T.tmps[s]? = some y → (o.dst = some s → y = u) → (T.put o.dst u).tmps[s]? = some y := by
      intro s y hx hsx
      unfold Act.put
      cases hds : o.dst with
      | none => exact hx
      | some d =>
        show (T.tmps.setIfInBounds d u)[s]? = some y
        rw [Array.getElem?_setIfInBounds]
        by_cases hd' : d = s
        · subst hd'
          have hlt' : d < T.tmps.size := (Array.getElem?_eq_some_iff.1 hx).1
          simp [hlt', hsx hds]
        · simp [hd', hx]
    refine ⟨by simpa using hI.size, ?_, ?_, fun s hs' => hput s _ (by rw [hps s hs']; exact hI.par s hs') (fun h => (hu s h).symm), ?_, ?_⟩
    · unfold Act.put
      split <;> simp [hI.tsize]
    · unfold Act.put
      split <;> exact hI.defs
    · intro j o' s hj hl hs'
      rw [getD_set _ _ _ hil] at hl
      by_cases hji : j = i
      · subst hji
        rw [ho] at hj
        cases hj
        unfold Act.put
        rw [hs']
        show (T.tmps.setIfInBounds s u)[s]? = _
        have hsl : s < T.tmps.size := by rw [hI.tsize]; exact hdst _ _ _ ho hs'
        simp [hsl, hu s hs']
      · rw [if_neg hji] at hl
        exact hput s _ (by rw [hold j o' s hj hl hs']; exact hI.got j o' s hj hl hs') (fun h => (hu s h).symm)
    · have : (fun j => (listed.setIfInBounds i true).getD j false) = (fun j => if j = i then true else listed.getD j false) := funext fun j => getD_set _ _ _ hil
      rw [this]
      exact hv'
  · rintro listed T v ⟨x, hI⟩ hl
    exact hend x _ T v hl hI.wor hI.tsize hI.defs hI.par (fun j o' s hj hs' => hI.got j o' s hj (hl j (Array.getElem?_eq_some_iff.1 hj).1) hs')
  · have : ∀ n : Nat, (List.replicate n false).countP (fun b => !b) ≤ n := fun n => Nat.le_trans List.countP_le_length (by simp)
    simpa using this ops.size
  · refine ⟨x0, by simp, ht, hd, hp, fun j o s _ hl _ => ?_, ?_⟩
    · simp [Array.getD] at hl
    · have : (fun j => (Array.replicate ops.size false).getD j false) = (fun _ => false) := by
        funext j
        simp [Array.getD]
      rw [this]
      exact h0
/-- The same, to a literal frame. -/
theorem wpIn_regx {X : Type} {id : Nat} {a : Act} {w : World} (x0 : X) (F : X → List Value) (nt : Nat) (ps : List Nat) (st : X → (Nat → Bool) → World → Prop) (ds : List Deferred) (hm : P.follows .mixedOrders = true)
    (hF : ∀ x, (F x).length = nt) (ht : a.tmps.size = nt) (hd : a.defers = ds) (hp : ps.map (fun s => a.tmps[s]?) = ps.map (fun s => some ((F x0).getD s undef))) (hx : ∀ x, ps.map (fun s => (F x).getD s undef) = ps.map (fun s => (F x0).getD s undef)) (h0 : st x0 (fun _ => false) w.drew)
    (hB : drawn2B ops nt = true) (hC : coverB ops nt ps = true)
    (hstep : ∀ (x : X) (l : Nat → Bool) (T : Act) (v : World) (i : Nat) (o : Oper), ops[i]? = some o → l i = false → (∀ e ∈ o.after, Region.binds .any e = true → l e.on = true) → st x l v →
      (∀ s, s ∈ ps → T.tmps[s]? = some ((F x).getD s undef)) → (∀ (j : Nat) (o' : Oper) (s : Nat), ops[j]? = some o' → l j = true → o'.dst = some s → T.tmps[s]? = some ((F x).getD s undef)) → Closed ops l →
      ∀ K : Act → World → Prop, (∀ x' u v', (∀ (j : Nat) (o' : Oper) (s : Nat), ops[j]? = some o' → l j = true → o'.dst = some s → (F x').getD s undef = (F x).getD s undef) → (∀ s, o.dst = some s → u = (F x').getD s undef) → st x' (fun j => if j = i then true else l j) v' → K (T.put o.dst u) v') →
        if Region.wanted o (yielded ops T.tmps) = true then o.wpIn Fe nf P T v K Q else ((∀ f, o.about P v T.eval = some f → Fe.fn f) ∧ K (T.put o.dst undef) v))
    (hend : ∀ (x : X) (l : Nat → Bool) (v : World), (∀ j, j < ops.size → l j = true) → st x l v → Q .normal ⟨(F x).toArray, ds⟩ v) :
    (Code.region id ops true).wpIn Fe nf P Q a w := by
  refine wpIn_region_detx x0 nt (fun x s => (F x).getD s undef) ps (fun x l v => st x l v ∧ Closed ops l) ds hm ht hd (map_mem hp) ⟨h0, fun _ _ _ h => by cases h⟩ (drawn2B_lt hB) (drawn2B_dst hB) ?_ ?_
  · intro x l T v i o ho hl hdep hst hpar hgot K hK
    exact hstep x l T v i o ho hl hdep hst.1 hpar hgot hst.2 K (fun x' u v' h1 h2 h3 => hK x' u v' (fun s hs => by
      have e1 := map_mem (hx x') s hs
      have e2 := map_mem (hx x) s hs
      exact e1.trans e2.symm) h1 h2 ⟨h3, hst.2.add ho hdep⟩)
  · intro x l T v hl hst hts hds hpar hgot
    have hall : ∀ s, s < nt → T.tmps[s]? = some ((F x).getD s undef) := fun s hs => by
      rcases coverB_or hC s hs with h | ⟨j, o, hj, ho⟩
      · exact hpar s h
      · exact hgot j o s hj ho
    have hT : T = ⟨(F x).toArray, ds⟩ := by
      obtain ⟨tm, df⟩ := T
      have h1 : tm = (F x).toArray := by
        apply Array.ext_getElem?
        intro s
        by_cases hs : s < nt
        · rw [show tm[s]? = _ from hall s hs]
          have hl' : s < (F x).length := by rw [hF]; exact hs
          simp [List.getD_eq_getElem?_getD, hl']
        · rw [Array.getElem?_eq_none (by rw [show tm.size = nt from hts]; omega), Array.getElem?_eq_none (by simp [hF]; omega)]
      rw [h1, show df = ds from hds]
    rw [hT]
    exact hend x l v hl hst.1
/-- Where nothing is made whose place hangs on the order. -/
theorem wpIn_reg1 {id : Nat} {a : Act} {w : World} (F : List Value) (nt : Nat) (ps : List Nat) (st : (Nat → Bool) → World → Prop) (ds : List Deferred) (hm : P.follows .mixedOrders = true)
    (hF : F.length = nt) (ht : a.tmps.size = nt) (hd : a.defers = ds) (hp : ps.map (fun s => a.tmps[s]?) = ps.map (fun s => some (F.getD s undef))) (h0 : st (fun _ => false) w.drew)
    (hB : drawn2B ops nt = true) (hC : coverB ops nt ps = true)
    (hstep : ∀ (l : Nat → Bool) (T : Act) (v : World) (i : Nat) (o : Oper), ops[i]? = some o → l i = false → (∀ e ∈ o.after, Region.binds .any e = true → l e.on = true) → st l v →
      (∀ s, s ∈ ps → T.tmps[s]? = some (F.getD s undef)) → (∀ (j : Nat) (o' : Oper) (s : Nat), ops[j]? = some o' → l j = true → o'.dst = some s → T.tmps[s]? = some (F.getD s undef)) → Closed ops l →
      ∀ K : Act → World → Prop, (∀ u v', (∀ s, o.dst = some s → u = F.getD s undef) → st (fun j => if j = i then true else l j) v' → K (T.put o.dst u) v') →
        if Region.wanted o (yielded ops T.tmps) = true then o.wpIn Fe nf P T v K Q else ((∀ f, o.about P v T.eval = some f → Fe.fn f) ∧ K (T.put o.dst undef) v))
    (hend : ∀ (l : Nat → Bool) (v : World), (∀ j, j < ops.size → l j = true) → st l v → Q .normal ⟨F.toArray, ds⟩ v) :
    (Code.region id ops true).wpIn Fe nf P Q a w :=
  wpIn_regx (X := Unit) () (fun _ => F) nt ps (fun _ => st) ds hm (fun _ => hF) ht hd hp (fun _ => rfl) h0 hB hC
    (fun _ l T v i o ho hl hdep hst hpar hgot hcl K hK => hstep l T v i o ho hl hdep hst hpar hgot hcl K (fun u v' h1 h2 => hK () u v' (fun _ _ _ _ _ _ => rfl) h1 h2))
    (fun _ l v hl hst => hend l v hl hst)
theorem wpi_ran {o : Oper} {T : Act} {v v' : World} {u : Value} {K : Act → World → Prop} {E : Prop} (hF : ∀ f, Fe.fn f) (hd : ∀ c, o.op ≠ .defer c) (hg : o.guard = none) (h : (execOp T.eval o).run P v = .ok (.value u) v') (hK : K (T.put o.dst u) v') :
    if Region.wanted o (yielded ops T.tmps) = true then o.wpIn Fe nf P T v K Q else E := by
  have hw : Region.wanted o (yielded ops T.tmps) = true := by simp [Region.wanted, hg]
  rw [if_pos hw]
  refine ⟨fun f _ => hF f, ?_⟩
  rw [Oper.semAt_plain Fe _ _ hd, h]
  exact hK
end
end Rgi
end
end Go.Proofs.YtcoedhemlghjoaaDoor
