/-
  My own texts Wp Wq Wr Ws Wt, one behind the other.
-/
import Derived.Test.YtcoedhemlghjoaaDoorBp
import Derived.Defers
namespace Go.Proofs.YtcoedhemlghjoaaDoor
section
open Go.RowKit
theorem run_build91 (a : Int) (w : World) : (Instr.build 47 #[(0, .int .u32 0), (1, .int .i64 a)]).run Tryd.prog w = .ok (hv 0 a) w := by kernel_rfl
theorem exec_build91 {v : World} {o : Oper} {ρ : Operand → Value} {x y : Operand} {a : Int} (ho : o.op = .build 47 #[(0, x), (1, y)]) (hx : ρ x = .int .u32 0) (hy : ρ y = .int .i64 a) : (execOp ρ o).run Tryd.prog v = .ok (.value (hv 0 a)) v := by
  unfold execOp
  simp only [ho, List.map_toArray, List.map_cons, List.map_nil, hx, hy, Sem.run_bind, run_build91, Result.andThen, Sem.run_pure]
/-- The cells of a log. -/
def lc (t : Nat) (a : Int) (st cm : Value) (e : Int) (D : Value) (br : Bool) : List Value := [.int .u32 (t : Int), .int .i64 a, st, cm, .int .i64 e, D, .bool br]
abbrev lv (t : Nat) (a : Int) (st cm : Value) (e : Int) (D : Value) (br : Bool) : Value := .agg (lc t a st cm e D br).toArray
theorem run_build100 (t : Nat) (a : Int) (A C : Option Addr) (n c k d : Nat) (e : Int) (g : Nat) (w : World) : (Instr.build 58 #[(0, kv t a (.slice A n c) (.slice C k d) e), (1, .pointer (some ⟨g, 0, none⟩))]).run Tryd.prog w = .ok (lv t a (.slice A n c) (.slice C k d) e (.pointer (some ⟨g, 0, none⟩)) false) w := by kernel_rfl
theorem exec_build100 {v : World} {o : Oper} {ρ : Operand → Value} {x y : Operand} {t : Nat} {a : Int} {A C : Option Addr} {n c k d : Nat} {e : Int} {g : Nat} (ho : o.op = .build 58 #[(0, x), (1, y)]) (hx : ρ x = kv t a (.slice A n c) (.slice C k d) e) (hy : ρ y = .pointer (some ⟨g, 0, none⟩)) : (execOp ρ o).run Tryd.prog v = .ok (.value (lv t a (.slice A n c) (.slice C k d) e (.pointer (some ⟨g, 0, none⟩)) false)) v := by
  unfold execOp
  simp only [ho, List.map_toArray, List.map_cons, List.map_nil, hx, hy, Sem.run_bind, run_build100, Result.andThen, Sem.run_pure]
/-- What Format does to a disk. -/
def St.format (c s : List UInt32) (S : St) (a : Int) : Int × St :=
  if 4 ≤ a ∧ a ≤ 1000 ∧ 2 + 2 * a ≤ (S.n : Int) then
    let r := S.wipes ((List.range (2 + 2 * a.toNat)).map (fun j => ((0 + j : Nat) : Int)))
    if r.1 = 0 then r.2.layN 2 0 (leavesB c s 0 0 []) (titleB c s 0 a.toNat) 4 else r
  else (2, S)
theorem format_no (c s : List UInt32) (S : St) (a : Int) (h : ¬ (4 ≤ a ∧ a ≤ 1000 ∧ 2 + 2 * a ≤ (S.n : Int))) : S.format c s a = (2, S) := by unfold St.format; rw [if_neg h]
theorem format_yes (c s : List UInt32) (S : St) (k : Nat) (h : 4 ≤ (k : Int) ∧ (k : Int) ≤ 1000 ∧ 2 + 2 * (k : Int) ≤ (S.n : Int)) : S.format c s (k : Int) = (if (S.wipes ((List.range (2 + 2 * k)).map (fun j => ((0 + j : Nat) : Int)))).1 = 0 then (S.wipes ((List.range (2 + 2 * k)).map (fun j => ((0 + j : Nat) : Int)))).2.layN 2 0 (leavesB c s 0 0 []) (titleB c s 0 k) 4 else S.wipes ((List.range (2 + 2 * k)).map (fun j => ((0 + j : Nat) : Int)))) := by
  unfold St.format
  rw [if_pos h]
  simp only [Int.toNat_natCast]
/-- What Format answers: a new log, or nothing. -/
def FmtPost (c s : List UInt32) (S : St) (a : Int) (g m : Nat) (A : Option Addr) (w : World) (r : Ending) (w' : World) : Prop :=
  ∃ p, r = .returned (.tuple #[.pointer p, .int .i64 (S.format c s a).1]) ∧ (∃ A' c', Twr (S.format c s a).2 g m A w w' A' c') ∧
    (((S.format c s a).1 ≠ 0 ∧ p = none) ∨ ((S.format c s a).1 = 0 ∧ ∃ b x, p = some ⟨b, 0, none⟩ ∧ w.heap.size ≤ b ∧ w.heap.size ≤ x ∧ Holds w' x 5 [] ∧ Holds w' b 58 (lc 0 a (.slice (some ⟨x, 0, none⟩) 0 0) (.slice none 0 0) 1 (.pointer (some ⟨g, 0, none⟩)) false)))
theorem notin3 {W : World} {g m c k : Nat} {A : Option Addr} {S : St} {t : TypeId} {cs : List Value} (D : DAt W g m A c S) (h : Holds W k t cs) (h1 : t ≠ 45) (h2 : 92 ≠ t) : k ∉ g :: m :: blk A := by
  have hn := notin88 D h h1 h2
  have h4 := D.firm.ne_holds h
  simp only [List.mem_cons, not_or] at hn ⊢
  exact ⟨hn.1, fun e => h4 (by first | exact e | exact e.symm), hn.2⟩
theorem Twr.out {S : St} {g m c1 : Nat} {A A1 : Option Addr} {v W : World} (h : Twr S g m A v W A1 c1) (out : ∀ i ∈ g :: m :: blk A, 2 ≤ i) (h2 : 2 ≤ v.heap.size) : ∀ i ∈ g :: m :: blk A1, 2 ≤ i := by
  intro i hi
  simp only [List.mem_cons] at hi
  rcases hi with rfl | rfl | hb
  · exact out _ (by simp)
  · exact out _ (by simp)
  · obtain ⟨a, ha, rfl⟩ := mem_blk hb
    rcases h.new a ha with h1 | h1
    · exact out _ (by simp [h1])
    · omega
set_option maxRecDepth 100000 in
set_option maxHeartbeats 4000000 in
theorem format_c (c s : List UInt32) (S : St) (g m cc : Nat) (A : Option Addr) (a : Int) (w : World) (G : Glob c s w) (D : DAt w g m A cc S) (out : ∀ i ∈ g :: m :: blk A, 2 ≤ i) (ho : S.ops + 20000 ≤ 1099511627776) :
    Calls Tryd.prog 8 #[.pointer (some ⟨g, 0, none⟩), .int .i64 a] w (FmtPost c s S a g m A w) := by
  have X1 := fun v => begin_c 0 a none [] 0 0 rfl v (by omega) (Reads.nil _ _)
  have HH := Lib.hid (And.intro G (And.intro D (And.intro out ho)))
  clear G D out ho
  go_enter Tryd.func8, Tryd.ntmps8
  go_wp2_with (with_reducible refine wpList_ranW (o := ⟨some 12, .build 47 _, _, _, _, _⟩) (by with_unfolding_all rfl) (hv 0 a) w (exec_build91 rfl rfl) ?_)
  refine (X1 _).mono ?_
  rintro r w1 ⟨x, rfl, hx, m1, ox⟩
  clear X1
  have f1 : (fills 0 : Int) = 1 := rfl
  rw [f1] at *
  clear f1
  go_wp2_with (first
    | (with_reducible refine wpList_allocs (o := ⟨some 6, .alloc 50, _, _, _, _⟩) rfl 50 rfl _ zero93 ?_; intro w2 hb2 m2 z2; replace z2 := Lib.hid z2)
    | (with_reducible refine wpList_storesAll (o := ⟨none, .store 50 (.tmp 6) (.tmp 13), _, _, _, _⟩) rfl 50 (.tmp 6) (.tmp 13) rfl rfl w1.heap.size (kc 0 a (.slice (some ⟨x, 0, none⟩) 0 0) (.slice none 0 0) 1) rfl (kv 0 a (.slice (some ⟨x, 0, none⟩) 0 0) (.slice none 0 0) 1) rfl rfl 50 _ hb2 (by rw [kc_length, kc_length]) (kc_one _ _ _ _ _ _ _ _ _) (size93_of _ _ _ _ _) ?_
       intro w3 hb3 m3 z3
       have hxl := hx.lt
       have m13 : Mod [] w1 w3 := m2.trans m3 (fun i hi h => by simp at h; omega)
       replace hx := hx.keep m13 (by simp)
       have mm : Mod [] w w3 := m1.then m13
       obtain ⟨gb, eg⟩ : ∃ b, b = w1.heap.size := ⟨_, rfl⟩
       have ob := Lib.hid (show w.heap.size ≤ gb ∧ x < gb by have := m1.size; omega)
       rw [← eg] at hb3 ⊢
       clear eg m13 m1 m2 m3 z2 z3 hb2 hxl)
    | (with_reducible refine wpList_loads (o := ⟨some 15, .load 47 (.tmp 14), _, _, _, _⟩) rfl 47 (.tmp 14) rfl gb 0 _ rfl (kc_head (Cells.of_holds hb3)) _ Tryd.underlying47 rfl (size91_of 0 a) (hv 0 a) rfl ?_))
  have D3 := HH.out.2.1.keep mm (by simp) (by simp) (by simp)
  refine (fits_c 0 g S.n a w3 (dc_cells D3.blk).1).mono ?_
  rintro r w4 ⟨rfl, m4⟩
  replace mm := mm.then m4
  replace hx := hx.keep m4 (by simp)
  replace hb3 := hb3.keep m4 (by simp)
  clear D3 m4
  by_cases hfit : 4 ≤ a ∧ a ≤ 1000 ∧ 2 + 2 * a ≤ (S.n : Int)
  · obtain ⟨k, rfl⟩ : ∃ k : Nat, a = (k : Int) := ⟨a.toNat, by omega⟩
    have hF := format_yes c s S k hfit
    rw [decide_eq_true hfit]
    have HF := Lib.hid (And.intro hF (And.intro hfit (And.intro hx mm)))
    have hk : k ≤ 1000 := by omega
    have XN := fun v => needs_c 0 k hk v
    obtain ⟨nn, hnn⟩ : ∃ n, n = 2 + 2 * k := ⟨_, rfl⟩
    rw [← hnn] at XN
    have hnn2 : nn ≤ 2002 := by omega
    have XS := fun v => sectors56_c 0 nn (by omega) (by omega) v
    have HN := Lib.hid (And.intro hnn hnn2)
    clear hF hfit hx hk hnn hnn2
    go_wp2_with (with_reducible refine wpList_loads (o := ⟨some 21, .load 47 (.tmp 20), _, _, _, _⟩) rfl 47 (.tmp 20) rfl gb 0 _ rfl (kc_head (Cells.of_holds hb3)) _ Tryd.underlying47 rfl (size91_of 0 (k : Int)) (hv 0 (k : Int)) rfl ?_)
    refine (XN _).mono ?_
    rintro r w5 ⟨rfl, m5⟩
    clear XN
    replace mm := mm.then m5
    replace hb3 := hb3.keep m5 (by simp)
    go_wp2_with fail
    refine (XS _).mono ?_
    rintro r w6 ⟨rfl, h6, m6⟩
    clear XS
    obtain ⟨L, hL⟩ : ∃ L, L = (List.range nn).map (fun j => ((0 + j : Nat) : Int)) := ⟨_, rfl⟩
    rw [← hL] at h6
    have hLn : nn = L.length := by rw [hL]; simp
    obtain ⟨bl, ebl⟩ : ∃ b, b = w5.heap.size := ⟨_, rfl⟩
    rw [← ebl] at h6 ⊢
    replace mm := mm.then m6
    replace hb3 := hb3.keep m6 (by simp)
    have m46 : Mod [] w4 w6 := m5.then m6
    have D6 := HH.out.2.1.keep mm (by simp) (by simp) (by simp)
    have XW := wipe_c S g m cc A L (some ⟨bl, 0, none⟩) nn nn hLn w6 D6 (Cells.of_holds h6) (fun a ha => by cases ha; exact notin3 D6 h6 (by decide) (by decide)) (by have := HN.out.2; omega) (by have := HH.out.2.2.2; omega)
    have hops := wipes_ops L S
    obtain ⟨r1, hr1⟩ : ∃ r, r = (S.wipes L).1 := ⟨_, rfl⟩
    obtain ⟨U, hU⟩ : ∃ U, U = (S.wipes L).2 := ⟨_, rfl⟩
    rw [← hr1, ← hU] at XW
    rw [← hU] at hops
    have hF := HF.out.1
    rw [← HN.out.1, ← hL, ← hr1, ← hU] at hF
    have hW2 : S.wipes L = (r1, U) := by rw [hr1, hU]
    rw [hW2] at hF
    have HG := Lib.hid (And.intro hF (And.intro D6 (And.intro hb3 (And.intro mm (And.intro m46 (And.intro hops hLn))))))
    clear hF D6 hb3 mm m46 hops hLn hL hr1 hU hW2 h6 m5 m6 ebl
    go_wp2_with fail
    refine XW.mono ?_
    rintro r w7 ⟨rfl, A1, c1, T1⟩
    clear XW
    by_cases h0 : r1 = 0
    · subst h0
      obtain ⟨hF, D6, hb3, mm, m46, hops, hLn⟩ := HG.out
      obtain ⟨G, D, out, ho⟩ := HH.out
      rw [if_pos rfl] at hF
      have hb7 := T1.holds D6 hb3 (by decide) (by decide)
      have hx7 : Holds w7 x 5 [] := T1.holds D6 (HF.out.2.2.1.keep m46 (by simp)) (by decide) (by decide)
      have G7 := T1.glob (G.keep mm) out
      have HB : LayB c s g m A1 gb 50 0 k (some ⟨x, 0, none⟩) 0 0 (.slice none 0 0) 1 [] w7 := ⟨G7, hb7, Reads.nil _ _, by decide, by decide, by decide, by have := HF.out.2.1; omega, rfl, Nat.le_refl _, by omega, fun y hy => by cases hy; exact ⟨hx7.lt, notin3 T1.D hx7 (by decide) (by decide)⟩, T1.out out (G.keep mm).two⟩
      have XL := lay_c c s U g m c1 A1 gb 50 0 k (some ⟨x, 0, none⟩) 0 0 (.slice none 0 0) 1 [] w7 T1.D HB (by have := HN.out.2; omega)
      have e1 : ((2 + 0 % 2 * k : Nat) : Int) = 2 := by simp
      have e2 : ((0 % 2 : Nat) : Int) = 0 := rfl
      rw [e1, e2] at XL
      obtain ⟨r2, hr2⟩ : ∃ r, r = (U.layN 2 0 (leavesB c s 0 0 []) (titleB c s 0 k) 4).1 := ⟨_, rfl⟩
      obtain ⟨V, hV⟩ : ∃ V, V = (U.layN 2 0 (leavesB c s 0 0 []) (titleB c s 0 k) 4).2 := ⟨_, rfl⟩
      rw [← hr2, ← hV] at XL
      have hV2 : U.layN 2 0 (leavesB c s 0 0 []) (titleB c s 0 k) 4 = (r2, V) := by rw [hr2, hV]
      rw [hV2] at hF
      have HK := Lib.hid (And.intro hF (And.intro hb7 (And.intro hx7 (And.intro T1 mm))))
      clear hF hb7 hx7 hr2 hV hV2 e1 e2 G7 HB D6 hb3 mm m46 hops hLn G D out ho T1 HG
      go_wp2_with fail
      refine XL.mono ?_
      rintro r w8 ⟨rfl, A2, c2, T2⟩
      clear XL
      by_cases h1 : r2 = 0
      · subst h1
        obtain ⟨hF, hb7, hx7, T1, mm⟩ := HK.out
        have hb8 := T2.holds T1.D hb7 (by decide) (by decide)
        have hx8 := T2.holds T1.D hx7 (by decide) (by decide)
        have HJ := Lib.hid (And.intro hF (And.intro hx8 (And.intro (T1.trans T2) mm)))
        clear hF hb7 hx7 T1 mm T2 hx8 HK
        go_wp2_with (first
          | (with_reducible refine wpList_loads (o := ⟨some 33, .load 50 (.tmp 6), _, _, _, _⟩) rfl 50 (.tmp 6) rfl gb 0 _ rfl (Cells.of_holds hb8) _ Tryd.underlying50 rfl (size93_of _ _ _ _ _) (kv 0 (k : Int) (.slice (some ⟨x, 0, none⟩) 0 0) (.slice none 0 0) 1) rfl ?_)
          | (with_reducible refine wpList_ranW (o := ⟨some 35, .build 58 _, _, _, _, _⟩) (by with_unfolding_all rfl) (lv 0 (k : Int) (.slice (some ⟨x, 0, none⟩) 0 0) (.slice none 0 0) 1 (.pointer (some ⟨g, 0, none⟩)) false) w8 (exec_build100 rfl rfl rfl) ?_)
          | (with_reducible refine wpList_boxes (o := ⟨some 36, .box 58 (.tmp 35), _, _, _, _⟩) rfl 58 (.tmp 35) rfl _ rfl (lc 0 (k : Int) (.slice (some ⟨x, 0, none⟩) 0 0) (.slice none 0 0) 1 (.pointer (some ⟨g, 0, none⟩)) false) rfl ?_; intro w9 hb9 m9 z9; replace z9 := Lib.hid z9))
        go_ret2
        obtain ⟨hF, hx8, T12, mm⟩ := HJ.out
        unfold FmtPost
        rw [hF]
        have T9 := T12.mod m9
        exact ⟨_, rfl, ⟨A2, c2, Twr.pre mm T9.D T9.mm T9.new⟩, .inr ⟨rfl, _, x, rfl, by have := mm.size; have := T12.mm.size; omega, ox, hx8.keep m9 (by simp), hb9⟩⟩
      · go_wp2
        go_ret2
        obtain ⟨hF, hb7, hx7, T1, mm⟩ := HK.out
        unfold FmtPost
        rw [hF]
        have T12 := T1.trans T2
        exact ⟨none, rfl, ⟨A2, c2, Twr.pre mm T12.D T12.mm T12.new⟩, .inl ⟨h1, rfl⟩⟩
    · go_wp2
      go_ret2
      obtain ⟨hF, D6, hb3, mm, m46, hops, hLn⟩ := HG.out
      rw [if_neg h0] at hF
      unfold FmtPost
      rw [hF]
      exact ⟨none, rfl, ⟨A1, c1, Twr.pre mm T1.D T1.mm T1.new⟩, .inl ⟨h0, rfl⟩⟩
  · have hF := format_no c s S a hfit
    rw [decide_eq_false hfit]
    have HF := Lib.hid (And.intro hF (And.intro hx mm))
    clear hF hfit hx mm hb3
    go_wp2
    go_ret2
    obtain ⟨hF, hx, mm⟩ := HF.out
    unfold FmtPost
    rw [hF]
    exact ⟨none, rfl, ⟨A, cc, (Twr.of_dat HH.out.2.1).mod mm⟩, .inl ⟨by simp, rfl⟩⟩
end
section
open Go.RowKit
theorem lc_split (t : Nat) (a : Int) (st cm : Value) (e : Int) (D : Value) (br : Bool) : lc t a st cm e D br = kc t a st cm e ++ [D, .bool br] := rfl
theorem lc_cells {w : World} {b T t : Nat} {a e : Int} {st cm D : Value} {br : Bool} (h : Holds w b T (lc t a st cm e D br)) :
    w.cell? ⟨b, 0, none⟩ = some (.int .u32 (t : Int)) ∧ w.cell? ⟨b, 1, none⟩ = some (.int .i64 a) ∧ w.cell? ⟨b, 2, none⟩ = some st ∧ w.cell? ⟨b, 3, none⟩ = some cm ∧ w.cell? ⟨b, 4, none⟩ = some (.int .i64 e) ∧ w.cell? ⟨b, 5, none⟩ = some D ∧ w.cell? ⟨b, 6, none⟩ = some (.bool br) :=
  ⟨h.cell 0, h.cell 1, h.cell 2, h.cell 3, h.cell 4, h.cell 5, h.cell 6⟩
theorem lc_book {w : World} {b T t : Nat} {a e : Int} {st cm D : Value} {br : Bool} (h : Holds w b T (lc t a st cm e D br)) : Cells w (some ⟨b, 0, none⟩) (kc t a st cm e) := by
  rw [lc_split] at h
  exact kc_at h
section
variable {b t : Nat} {a e : Int} {st cm D : Value} {br : Bool}
theorem len27_c (C : Option Addr) (n c : Nat) (w : World) (h : Holds w b 58 (lc t a st (.slice C n c) e D br)) : Calls Tryd.prog 12 #[.pointer (some ⟨b, 0, none⟩)] w fun r w' => r = .returned (.int .i64 (n : Int)) ∧ w' = w := by
  obtain ⟨-, -, -, d3, -⟩ := lc_cells h
  clear h
  go_enter Tryd.func12, Tryd.ntmps12
  go_wp2_with fail
  go_ret
  exact ⟨rfl, rfl⟩
theorem turn29_c (w : World) (h : Holds w b 58 (lc t a st cm e D br)) : Calls Tryd.prog 14 #[.pointer (some ⟨b, 0, none⟩)] w fun r w' => r = .returned (.int .u32 (t : Int)) ∧ w' = w := by
  obtain ⟨d0, -⟩ := lc_cells h
  clear h
  go_enter Tryd.func14, Tryd.ntmps14
  go_wp2_with fail
  go_ret
  exact ⟨rfl, rfl⟩
theorem left28_c (k f : Nat) (w : World) (h : Holds w b 58 (lc t (k : Int) st cm (f : Int) D br)) (hk : k ≤ 1000) (hf : f ≤ k) : Calls Tryd.prog 9 #[.pointer (some ⟨b, 0, none⟩)] w fun r w' => r = .returned (.int .i64 ((k - f : Nat) : Int)) ∧ Mod [] w w' := by
  have X := left75_c b t k st cm f w (lc_book h) hk hf
  obtain ⟨x, hx⟩ : ∃ x, x = k - f := ⟨_, rfl⟩
  rw [← hx] at X ⊢
  clear h hk hf hx
  go_enter Tryd.func9, Tryd.ntmps9
  go_wp2_with fail
  refine X.mono ?_
  rintro r w1 ⟨rfl, m1⟩
  go_wp2
  go_ret
  exact ⟨rfl, m1⟩
theorem snap26_c (A : Option Addr) (l : List UInt8) (n c : Nat) (hn : n = l.length) (w : World) (hl : n ≤ 140737488355328) (hr : Reads w A l) (h : Holds w b 58 (lc t a (.slice A n c) cm e D br)) : Calls Tryd.prog 15 #[.pointer (some ⟨b, 0, none⟩)] w fun r w' => ∃ x, r = .returned (.slice (some ⟨x, 0, none⟩) n n) ∧ Holds w' x 5 (l.map oct) ∧ Mod [] w w' ∧ w.heap.size ≤ x := by
  have X := copied73_c A l n c hn w hl hr
  obtain ⟨-, -, d2, -⟩ := lc_cells h
  clear h hn hl hr
  go_enter Tryd.func15, Tryd.ntmps15
  go_wp2_with fail
  refine X.mono ?_
  rintro r w1 ⟨rfl, h1, m1, z1⟩
  replace z1 := Lib.hid z1
  go_wp2
  go_ret
  exact ⟨_, rfl, h1, m1, Nat.le_refl _⟩
/-- Why b is refused. -/
theorem refuses_c (B : Option Addr) (n c : Nat) (w : World) (hn : n ≤ 140737488355328) (h : Holds w b 58 (lc t a st cm e D br)) : Calls Tryd.prog 23 #[.pointer (some ⟨b, 0, none⟩), .slice B n c] w fun r w' => r = .returned (.int .i64 (if 40000 < n then 3 else if br = true then 8 else 0)) ∧ w' = w := by
  obtain ⟨-, -, -, -, -, -, d6⟩ := lc_cells h
  clear h
  by_cases h1 : 40000 < n
  · have h2 : (40000 : Int) < (n : Int) := by omega
    rw [if_pos h1]
    go_enter Tryd.func23, Tryd.ntmps23
    go_wp2_with fail
    go_ret
    exact ⟨rfl, rfl⟩
  · have h2 : ¬ (40000 : Int) < (n : Int) := by omega
    have h3 : (n : Int) ≤ 40000 := by omega
    rw [if_neg h1]
    clear h1 hn
    cases br
    · go_enter Tryd.func23, Tryd.ntmps23
      go_wp2_with fail
      go_ret
      exact ⟨rfl, rfl⟩
    · go_enter Tryd.func23, Tryd.ntmps23
      go_wp2_with fail
      go_ret
      exact ⟨rfl, rfl⟩
end
end
section
open Go.RowKit
/-- A log's disk, turned; and the log's own block. -/
structure Wtr (S : St) (b g m : Nat) (A : Option Addr) (v W : World) (A' : Option Addr) (c' : Nat) : Prop where
  D : DAt W g m A' c' S
  mm : Mod (b :: g :: m :: blk A) v W
  new : ∀ a, A' = some a → a.block ∈ blk A ∨ v.heap.size ≤ a.block
theorem broken106_c (be bw b : Nat) (er : Int) (old : Bool) (u : FrameMode) (w : World) (h1 : w.cell? ⟨be, 0, none⟩ = some (.int .i64 er)) (h2 : w.cell? ⟨bw, 0, none⟩ = some (.pointer (some ⟨b, 0, none⟩))) (h3 : w.cell? ⟨b, 6, none⟩ = some (.bool old)) (h4 : w.frozen? ⟨b, 6, none⟩ = false) (br : Bool) (hbr : br = decide (er ≠ 0)) :
    CallsD Tryd.prog 44 #[.pointer (some ⟨be, 0, none⟩), .pointer (some ⟨bw, 0, none⟩)] u w fun e u' w' => u' = u ∧ (e = .returned (.tuple #[]) ∧ w' = w.setCell ⟨b, 6, none⟩ (.bool br)) := by
  by_cases h0 : er = 0
  · subst h0
    have : br = false := by rw [hbr]; rfl
    subst this
    clear hbr
    go_enter_d Tryd.func44, Tryd.ntmps44
    go_wp2
    go_end0
    exact ⟨rfl, rfl⟩
  · have : br = true := by rw [hbr]; simpa using h0
    subst this
    clear hbr
    go_enter_d Tryd.func44, Tryd.ntmps44
    go_wp2
    go_end0
    refine ⟨rfl, ?_⟩
    have : (er != 0) = true := by simpa using h0
    rw [this]
set_option maxRecDepth 100000 in
set_option maxHeartbeats 4000000 in
theorem lasting_77 (S T : St) (b g m cc p1 p2 : Nat) (A : Option Addr) (t : Nat) (a : Int) (st cm : Value) (fi : Int) (Dv : Value) (br : Bool) (er : Int) (w : World) (D : DAt w g m A cc S) (hb : Holds w b 58 (lc t a st cm fi Dv br)) (br' : Bool) (hbr : br' = decide (er ≠ 0))
    (hdo : ∀ v, Mod [] w v → Calls Tryd.prog 25 #[.pointer (some ⟨p1, 0, none⟩), .pointer (some ⟨p2, 0, none⟩)] v fun r v' => r = .returned (.int .i64 er) ∧ ∃ A' c', Twr T g m A v v' A' c') :
    Calls Tryd.prog 24 #[.pointer (some ⟨b, 0, none⟩), .func (.func 25) #[] #[.pointer (some ⟨p1, 0, none⟩), .pointer (some ⟨p2, 0, none⟩)]] w fun r w' => r = .returned (.int .i64 er) ∧ Holds w' b 58 (lc t a st cm fi Dv br') ∧ ∃ A' c', Wtr T b g m A w w' A' c' := by
  have HH := Lib.hid (And.intro D (And.intro hb hbr))
  clear D hb hbr
  go_enter_defers Tryd.func24, Tryd.ntmps24
  go_wp2_with (first
    | (with_reducible refine wpList_boxes (o := ⟨some 2, .box 29 (.tmp 0), _, _, _, _⟩) rfl 29 (.tmp 0) rfl _ rfl [.pointer (some ⟨b, 0, none⟩)] rfl ?_; intro w1 hb1 m1 z1; replace z1 := Lib.hid z1)
    | (refine wpList_alloc1 (o := ⟨some 4, .alloc 26, _, _, _, _⟩) rfl 26 rfl (.int .i64 0) rfl zero33 ?_; intro w2 hb2 m2 z2; replace z2 := Lib.hid z2))
  have y1 := z1.out
  have y2 := z2.out
  obtain ⟨bw, e1⟩ : ∃ x, x = w.heap.size := ⟨_, rfl⟩
  obtain ⟨be, e2⟩ : ∃ x, x = w1.heap.size := ⟨_, rfl⟩
  have mm : Mod [] w w2 := m1.then m2
  replace hb1 := hb1.keep m2 (by simp)
  rw [← e1] at hb1
  rw [← e2] at hb2
  rw [← e1, ← e2]
  have HO := Lib.hid (show w.heap.size ≤ bw ∧ bw < be ∧ be < w2.heap.size by omega)
  clear e1 e2 z1 z2 y1 y2 m1 m2
  refine (hdo _ mm).mono ?_
  rintro r w3 ⟨rfl, A1, c1, T1⟩
  clear hdo
  have D2 := HH.out.1.keep mm (by simp) (by simp) (by simp)
  have hb3 := T1.holds D2 hb2 (by decide) (by decide)
  have hw3 := T1.holds D2 hb1 (by decide) (by decide)
  have hl3 := T1.holds D2 (HH.out.2.1.keep mm (by simp)) (by decide) (by decide)
  have c3 := hb3.cell 0
  have f3 := hb3.free 0
  simp only [List.getElem?_cons_zero] at c3
  have HT := Lib.hid (And.intro T1 (And.intro D2 (And.intro mm (And.intro hb3 (And.intro hw3 hl3)))))
  clear T1 D2 mm hb3 hw3 hl3 hb1 hb2
  go_wp2
  obtain ⟨T1, D2, mm, hb3, hw3, hl3⟩ := HT.out
  have Tw := Twr.pre mm T1.D T1.mm T1.new
  have mb : Mod [be] w3 (w3.setCell ⟨be, 0, none⟩ (.int .i64 er)) := Mod.setCell _ (by simp) _
  have T4 := Tw.step hb3 (by decide) (by decide) (by have := HO.out; omega) mb
  have hb4 := hb3.set 0 (.int .i64 er)
  have hw4 := hw3.keep mb (by have := HO.out; simp; omega)
  have hl4 := hl3.keep mb (by have := hl3.ne hb3 (by decide); simpa using this)
  clear HT T1 Tw hb3 hw3 hl3 c3 f3 mb D2
  generalize w3.setCell ⟨be, 0, none⟩ (.int .i64 er) = w4 at *
  refine leaves_cons (f := 44) (args := #[.pointer (some ⟨be, 0, none⟩), .pointer (some ⟨bw, 0, none⟩)]) (by simp) (by simp [go_sem]) ?_
  refine (broken106_c be bw b er br .returning w4 (by simpa using hb4.cell 0) (hw4.cell 0) (lc_cells hl4).2.2.2.2.2.2 (hl4.free 6) br' HH.out.2.2).mono ?_
  rintro e u' w5 ⟨rfl, rfl, rfl⟩
  have m5 : Mod [b] w4 (w4.setCell ⟨b, 6, none⟩ (.bool br')) := Mod.setCell _ (by simp) _
  have hl5 := hl4.set 6 (.bool br')
  have hn := notin3 T4.D hl4 (by decide) (by decide)
  simp only [List.mem_cons, not_or] at hn
  have hb5 := hb4.keep m5 (by have := hl4.ne hb4 (by decide); simpa using fun e => this e.symm)
  have D5 := T4.D.keep m5 (by simpa using fun e => hn.1 e.symm) (by simpa using fun e => hn.2.1 e.symm) (fun a ha hh => by
    simp at hh
    exact hn.2.2 (by unfold blk; simp [ha, hh]))
  exact ⟨_, results_cell_one rfl _ _ be 26 (0, 0) _ rfl (show Holds _ be 26 [.int .i64 er] by simpa using hb5) Tryd.underlying26 rfl, rfl, hl5, A1, c1, D5, (T4.mm.wk (fun i _ h => by simp only [List.mem_cons] at h ⊢; exact .inr h)).trans m5 (fun i _ h => by simp at h; simp [h]), T4.new⟩
set_option maxRecDepth 100000 in
set_option maxHeartbeats 4000000 in
theorem lasting_80 (S T : St) (b g m cc p1 p2 : Nat) (A : Option Addr) (t : Nat) (a : Int) (st cm : Value) (fi : Int) (Dv : Value) (br : Bool) (er : Int) (w : World) (D : DAt w g m A cc S) (hb : Holds w b 58 (lc t a st cm fi Dv br)) (br' : Bool) (hbr : br' = decide (er ≠ 0))
    (hdo : ∀ v, Mod [] w v → Calls Tryd.prog 33 #[.pointer (some ⟨p1, 0, none⟩), .pointer (some ⟨p2, 0, none⟩)] v fun r v' => r = .returned (.int .i64 er) ∧ ∃ A' c', Twr T g m A v v' A' c') :
    Calls Tryd.prog 24 #[.pointer (some ⟨b, 0, none⟩), .func (.func 33) #[] #[.pointer (some ⟨p1, 0, none⟩), .pointer (some ⟨p2, 0, none⟩)]] w fun r w' => r = .returned (.int .i64 er) ∧ Holds w' b 58 (lc t a st cm fi Dv br') ∧ ∃ A' c', Wtr T b g m A w w' A' c' := by
  have HH := Lib.hid (And.intro D (And.intro hb hbr))
  clear D hb hbr
  go_enter_defers Tryd.func24, Tryd.ntmps24
  go_wp2_with (first
    | (with_reducible refine wpList_boxes (o := ⟨some 2, .box 29 (.tmp 0), _, _, _, _⟩) rfl 29 (.tmp 0) rfl _ rfl [.pointer (some ⟨b, 0, none⟩)] rfl ?_; intro w1 hb1 m1 z1; replace z1 := Lib.hid z1)
    | (refine wpList_alloc1 (o := ⟨some 4, .alloc 26, _, _, _, _⟩) rfl 26 rfl (.int .i64 0) rfl zero33 ?_; intro w2 hb2 m2 z2; replace z2 := Lib.hid z2))
  have y1 := z1.out
  have y2 := z2.out
  obtain ⟨bw, e1⟩ : ∃ x, x = w.heap.size := ⟨_, rfl⟩
  obtain ⟨be, e2⟩ : ∃ x, x = w1.heap.size := ⟨_, rfl⟩
  have mm : Mod [] w w2 := m1.then m2
  replace hb1 := hb1.keep m2 (by simp)
  rw [← e1] at hb1
  rw [← e2] at hb2
  rw [← e1, ← e2]
  have HO := Lib.hid (show w.heap.size ≤ bw ∧ bw < be ∧ be < w2.heap.size by omega)
  clear e1 e2 z1 z2 y1 y2 m1 m2
  refine (hdo _ mm).mono ?_
  rintro r w3 ⟨rfl, A1, c1, T1⟩
  clear hdo
  have D2 := HH.out.1.keep mm (by simp) (by simp) (by simp)
  have hb3 := T1.holds D2 hb2 (by decide) (by decide)
  have hw3 := T1.holds D2 hb1 (by decide) (by decide)
  have hl3 := T1.holds D2 (HH.out.2.1.keep mm (by simp)) (by decide) (by decide)
  have c3 := hb3.cell 0
  have f3 := hb3.free 0
  simp only [List.getElem?_cons_zero] at c3
  have HT := Lib.hid (And.intro T1 (And.intro D2 (And.intro mm (And.intro hb3 (And.intro hw3 hl3)))))
  clear T1 D2 mm hb3 hw3 hl3 hb1 hb2
  go_wp2
  obtain ⟨T1, D2, mm, hb3, hw3, hl3⟩ := HT.out
  have Tw := Twr.pre mm T1.D T1.mm T1.new
  have mb : Mod [be] w3 (w3.setCell ⟨be, 0, none⟩ (.int .i64 er)) := Mod.setCell _ (by simp) _
  have T4 := Tw.step hb3 (by decide) (by decide) (by have := HO.out; omega) mb
  have hb4 := hb3.set 0 (.int .i64 er)
  have hw4 := hw3.keep mb (by have := HO.out; simp; omega)
  have hl4 := hl3.keep mb (by have := hl3.ne hb3 (by decide); simpa using this)
  clear HT T1 Tw hb3 hw3 hl3 c3 f3 mb D2
  generalize w3.setCell ⟨be, 0, none⟩ (.int .i64 er) = w4 at *
  refine leaves_cons (f := 44) (args := #[.pointer (some ⟨be, 0, none⟩), .pointer (some ⟨bw, 0, none⟩)]) (by simp) (by simp [go_sem]) ?_
  refine (broken106_c be bw b er br .returning w4 (by simpa using hb4.cell 0) (hw4.cell 0) (lc_cells hl4).2.2.2.2.2.2 (hl4.free 6) br' HH.out.2.2).mono ?_
  rintro e u' w5 ⟨rfl, rfl, rfl⟩
  have m5 : Mod [b] w4 (w4.setCell ⟨b, 6, none⟩ (.bool br')) := Mod.setCell _ (by simp) _
  have hl5 := hl4.set 6 (.bool br')
  have hn := notin3 T4.D hl4 (by decide) (by decide)
  simp only [List.mem_cons, not_or] at hn
  have hb5 := hb4.keep m5 (by have := hl4.ne hb4 (by decide); simpa using fun e => this e.symm)
  have D5 := T4.D.keep m5 (by simpa using fun e => hn.1 e.symm) (by simpa using fun e => hn.2.1 e.symm) (fun a ha hh => by
    simp at hh
    exact hn.2.2 (by unfold blk; simp [ha, hh]))
  exact ⟨_, results_cell_one rfl _ _ be 26 (0, 0) _ rfl (show Holds _ be 26 [.int .i64 er] by simpa using hb5) Tryd.underlying26 rfl, rfl, hl5, A1, c1, D5, (T4.mm.wk (fun i _ h => by simp only [List.mem_cons] at h ⊢; exact .inr h)).trans m5 (fun i _ h => by simp at h; simp [h]), T4.new⟩
end
section
open Go.RowKit
/-- An entry's leaves are written, then all is made firm. -/
def St.add (S : St) (z : Int) (bs : List Blk) : Int × St := if (S.writes z bs).1 = 0 then (S.writes z bs).2.sync else S.writes z bs
/-- What is asked of a log and of bytes that are to be added. -/
structure AddH (c s : List UInt32) (g m : Nat) (A : Option Addr) (b t a : Nat) (st : Value) (C : Option Addr) (k ck e : Nat) (Dv : Value) (br : Bool) (B : Option Addr) (nb cb : Nat) (l : List UInt8) (w : World) : Prop where
  G : Glob c s w
  hb : Holds w b 58 (lc t (a : Int) st (.slice C k ck) (e : Int) Dv br)
  hr : Reads w B l
  ht : t < 4294967296
  ha : a ≤ 1000
  hn : nb = l.length
  hc : nb ≤ cb
  hl : nb ≤ 140737488355328
  hB : ∀ x, B = some x → x.block < w.heap.size ∧ x.block ∉ g :: m :: blk A
  out : ∀ i ∈ g :: m :: blk A, 2 ≤ i
  hk : k ≤ 1000000
  he : e ≤ 1000
theorem AddH.keep {c s : List UInt32} {g m : Nat} {A : Option Addr} {b t a : Nat} {st : Value} {C : Option Addr} {k ck e : Nat} {Dv : Value} {br : Bool} {B : Option Addr} {nb cb : Nat} {l : List UInt8} {w v : World} (h : AddH c s g m A b t a st C k ck e Dv br B nb cb l w) (q : Mod [] w v) : AddH c s g m A b t a st C k ck e Dv br B nb cb l v :=
  ⟨h.G.keep q, h.hb.keep q (by simp), h.hr.keep q (by simp), h.ht, h.ha, h.hn, h.hc, h.hl, fun x hx => ⟨Nat.lt_of_lt_of_le (h.hB x hx).1 q.size, (h.hB x hx).2⟩, h.out, h.hk, h.he⟩
def numB (k e : Nat) : Nat := if e = 0 then 0 else 1 + k
set_option maxRecDepth 100000 in
set_option maxHeartbeats 4000000 in
theorem add_c (c s : List UInt32) (S : St) (g m cc : Nat) (A : Option Addr) (b t a : Nat) (st : Value) (C : Option Addr) (k ck e : Nat) (Dv : Value) (br : Bool) (B : Option Addr) (nb cb : Nat) (l : List UInt8) (w : World) (D : DAt w g m A cc S) (H : AddH c s g m A b t a st C k ck e Dv br B nb cb l w) (ho : S.ops + 5000 ≤ 1099511627776) :
    Calls Tryd.prog 26 #[.pointer (some ⟨b, 0, none⟩), .pointer (some ⟨g, 0, none⟩), .slice B nb cb] w fun r w' => r = .returned (.int .i64 (S.add ((2 + t % 2 * a + e : Nat) : Int) (leavesB c s t (numB k e) l)).1) ∧ ∃ A' c', Twr (S.add ((2 + t % 2 * a + e : Nat) : Int) (leavesB c s t (numB k e) l)).2 g m A w w' A' c' := by
  have XH := fun v => hstart_c t a H.ht H.ha v
  obtain ⟨z0, hz0⟩ : ∃ z, z = 2 + t % 2 * a := ⟨_, rfl⟩
  have hz06 : z0 ≤ 1002 := by
    have h1 : t % 2 ≤ 1 := by omega
    have h2 : t % 2 * a ≤ 1 * a := Nat.mul_le_mul_right a h1
    have := H.ha
    omega
  obtain ⟨z, hz⟩ : ∃ z, z = 2 + t % 2 * a + e := ⟨_, rfl⟩
  obtain ⟨nu, hnu⟩ : ∃ n, n = numB k e := ⟨_, rfl⟩
  have hnu2 : nu ≤ 1000001 := by rw [hnu]; unfold numB; have := H.hk; split <;> omega
  have hz6 : z ≤ 1000000 := by have := H.he; omega
  have HF : Hid (IntKind.i64.wrap ((z0 : Int) + (e : Int)) = (z : Int)) := Lib.hid (by
    have : (z0 : Int) + (e : Int) = (z : Int) := by omega
    rw [this]
    exact IntWalk.i64_in _ (by omega))
  rw [← hz0] at XH
  rw [← hz, ← hnu]
  obtain ⟨bs, hbs⟩ : ∃ b, b = leavesB c s t nu l := ⟨_, rfl⟩
  have hbl : bs.length ≤ 834 := by rw [hbs, leavesB_length]; exact fills_le _
  rw [← hbs]
  obtain ⟨r0, hr0⟩ : ∃ r, r = (S.writes (z : Int) bs).1 := ⟨_, rfl⟩
  obtain ⟨ar, har⟩ : ∃ r, r = (S.add (z : Int) bs).1 := ⟨_, rfl⟩
  obtain ⟨aS, haS⟩ : ∃ r, r = (S.add (z : Int) bs).2 := ⟨_, rfl⟩
  rw [← har, ← haS]
  have HA := Lib.hid (And.intro har haS)
  clear har haS
  have HH := Lib.hid (And.intro D (And.intro H (And.intro ho (And.intro hz6 (And.intro hr0 (And.intro hnu (And.intro hnu2 (And.intro hbs hbl))))))))
  clear D H ho hz6 hz hr0 hz0 hz06 hnu hnu2 hbs hbl
  go_enter Tryd.func26, Tryd.ntmps26
  go_wp2_with fail
  refine Rg.wp_region_lit (X := Nat) 0 (fun x => [Value.pointer (some { block := b, off := 0 }), Value.pointer (some { block := g, off := 0 }), Value.slice B nb cb, undef, undef, undef, Value.int IntKind.i64 0, .int .i64 r0, .pointer (some ⟨g, 0, none⟩), .pointer (some ⟨b, 0, none⟩), .pointer (some ⟨b, 0, none⟩), .pointer (some ⟨b, 0, none⟩), hv t (a : Int), .int .i64 (z0 : Int), .pointer (some ⟨b, 0, none⟩), .pointer (some ⟨b, 0, none⟩), .pointer (some ⟨b, 4, none⟩), .int .i64 (e : Int), .int .i64 (z : Int), .pointer (some ⟨b, 0, none⟩), .pointer (some ⟨b, 0, none⟩), .pointer (some ⟨b, 0, none⟩), .pointer (some ⟨b, 0, none⟩), .int .u32 (t : Int), .pointer (some ⟨b, 0, none⟩), .int .i64 (nu : Int), .slice B nb cb, .func (.func 57) #[] #[.pointer (some ⟨x + 2, 0, none⟩), .pointer (some ⟨x, 0, none⟩), .pointer (some ⟨x + 1, 0, none⟩)], .int .i64 r0, undef, undef, undef, undef, undef]) 34 [0, 1, 2, 3, 4, 5, 6, 29, 30, 31, 32, 33]
    (fun x lz v => (lz 20 = false → Mod [] w.drew v ∧ (lz 19 = true → Holds v x 36 [.int .u32 (t : Int)] ∧ Holds v (x + 1) 3 [.int .i64 (nu : Int)] ∧ Holds v (x + 2) 34 [.slice B nb cb] ∧ w.drew.heap.size ≤ x)) ∧ (lz 20 = true → ∃ A' c', Twr (S.writes (z : Int) bs).2 g m A w v A' c')) []
    (by kernel_rfl) (fun _ => rfl) rfl rfl rfl (fun _ => by simp only [List.map_cons, List.map_nil, List.getD_cons_zero, List.getD_cons_succ]) (⟨fun _ => ⟨Mod.refl _ _, fun q => by cases q⟩, fun q => by cases q⟩) (by kernel_rfl) (by kernel_rfl) ?step ?fin
  case step =>
    intro x lz T v j o hj hlj hdep hst hpar hgot hcl Kq hK
    have hjn : j < 22 := (Array.getElem?_eq_some_iff.1 hj).1
    obtain rfl | rfl | rfl | rfl | rfl | rfl | rfl | rfl | rfl | rfl | rfl | rfl | rfl | rfl | rfl | rfl | rfl | rfl | rfl | rfl | rfl | rfl : j = 0 ∨ j = 1 ∨ j = 2 ∨ j = 3 ∨ j = 4 ∨ j = 5 ∨ j = 6 ∨ j = 7 ∨ j = 8 ∨ j = 9 ∨ j = 10 ∨ j = 11 ∨ j = 12 ∨ j = 13 ∨ j = 14 ∨ j = 15 ∨ j = 16 ∨ j = 17 ∨ j = 18 ∨ j = 19 ∨ j = 20 ∨ j = 21 := by omega
    all_goals (have hj' := Option.some.inj (hj : some _ = some o); subst hj'; clear hj)
    · exact Rg.wp_ran rfl (Rg.exec_move rfl (eval_tmp (hpar 1 (by simp)))) (hK x _ _ (fun _ _ _ _ _ _ => rfl) (fun s hs => by cases hs; rfl) hst)
    · exact Rg.wp_ran rfl (Rg.exec_move rfl (eval_tmp (hpar 0 (by simp)))) (hK x _ _ (fun _ _ _ _ _ _ => rfl) (fun s hs => by cases hs; rfl) hst)
    · exact Rg.wp_ran rfl (Rg.exec_nil rfl (eval_tmp (hgot 1 _ 9 rfl (hdep ⟨1, .data⟩ (by simp) rfl) rfl))) (hK x _ _ (fun _ _ _ _ _ _ => rfl) (fun s hs => by cases hs; rfl) hst)
    · exact Rg.wp_ran rfl (exec_f93_0 rfl (eval_tmp (hgot 2 _ 10 rfl (hdep ⟨2, .data⟩ (by simp) rfl) rfl))) (hK x _ _ (fun _ _ _ _ _ _ => rfl) (fun s hs => by cases hs; rfl) hst)
    · have h16 : lz 20 = false := by
        cases hh20 : lz 20 with
        | false => rfl
        | true =>
          have hh10 := hcl 20 _ rfl hh20 ⟨10, .data⟩ (by simp) rfl
          have hh5 := hcl 10 _ rfl hh10 ⟨5, .data⟩ (by simp) rfl
          have hh4 := hcl 5 _ rfl hh5 ⟨4, .data⟩ (by simp) rfl
          rw [hlj] at hh4
          cases hh4
      obtain ⟨q1, -⟩ := hst.1 h16
      have HL := HH.out.2.1.keep ((Mod.drew [] w).then q1)
      exact Rg.wp_ran rfl (Rg.exec_load rfl (eval_tmp (hgot 3 _ 11 rfl (hdep ⟨3, .data⟩ (by simp) rfl) rfl)) (run_loads (kc_head (lc_book HL.hb)) Tryd.underlying47 rfl (size91_of t (a : Int)))) (hK x _ _ (fun _ _ _ _ _ _ => rfl) (fun s hs => by cases hs; rfl) hst)
    · have h16 : lz 20 = false := by
        cases hh20 : lz 20 with
        | false => rfl
        | true =>
          have hh10 := hcl 20 _ rfl hh20 ⟨10, .data⟩ (by simp) rfl
          have hh5 := hcl 10 _ rfl hh10 ⟨5, .data⟩ (by simp) rfl
          rw [hlj] at hh5
          cases hh5
      obtain ⟨q1, q2⟩ := hst.1 h16
      exact Rg.wp_called rfl (Rg.exec_call1 rfl rfl (eval_tmp (hgot 4 _ 12 rfl (hdep ⟨4, .data⟩ (by simp) rfl) rfl)) (enters_of Tryd.func39 (by kernel_rfl) rfl)) ((XH v).mono (fun e v' hh => ⟨_, hh.1, hK x _ _ (fun _ _ _ _ _ _ => rfl) (fun s hs => by cases hs; rfl) ⟨fun _ => ⟨q1.then hh.2, fun q => by obtain ⟨r1, r2, r3, r4⟩ := q2 q; exact ⟨r1.keep hh.2 (by simp), r2.keep hh.2 (by simp), r3.keep hh.2 (by simp), r4⟩⟩, fun q => by rw [show lz 20 = true from q] at h16; cases h16⟩⟩))
    · exact Rg.wp_ran rfl (Rg.exec_move rfl (eval_tmp (hpar 0 (by simp)))) (hK x _ _ (fun _ _ _ _ _ _ => rfl) (fun s hs => by cases hs; rfl) hst)
    · exact Rg.wp_ran rfl (Rg.exec_nil rfl (eval_tmp (hgot 6 _ 14 rfl (hdep ⟨6, .data⟩ (by simp) rfl) rfl))) (hK x _ _ (fun _ _ _ _ _ _ => rfl) (fun s hs => by cases hs; rfl) hst)
    · exact Rg.wp_ran rfl (exec_f93_3 rfl (eval_tmp (hgot 7 _ 15 rfl (hdep ⟨7, .data⟩ (by simp) rfl) rfl))) (hK x _ _ (fun _ _ _ _ _ _ => rfl) (fun s hs => by cases hs; rfl) hst)
    · have h16 : lz 20 = false := by
        cases hh20 : lz 20 with
        | false => rfl
        | true =>
          have hh10 := hcl 20 _ rfl hh20 ⟨10, .data⟩ (by simp) rfl
          have hh9 := hcl 10 _ rfl hh10 ⟨9, .data⟩ (by simp) rfl
          rw [hlj] at hh9
          cases hh9
      obtain ⟨q1, -⟩ := hst.1 h16
      have HL := HH.out.2.1.keep ((Mod.drew [] w).then q1)
      exact Rg.wp_ran rfl (Rg.exec_load rfl (eval_tmp (hgot 8 _ 16 rfl (hdep ⟨8, .data⟩ (by simp) rfl) rfl)) (Rg.run_load1 Tryd.underlying3 rfl (lc_cells HL.hb).2.2.2.2.1)) (hK x _ _ (fun _ _ _ _ _ _ => rfl) (fun s hs => by cases hs; rfl) hst)
    · exact Rg.wp_ran rfl (Rg.exec_add rfl (eval_tmp (hgot 5 _ 13 rfl (hdep ⟨5, .data⟩ (by simp) rfl) rfl)) (eval_tmp (hgot 9 _ 17 rfl (hdep ⟨9, .data⟩ (by simp) rfl) rfl)) (HF.out)) (hK x _ _ (fun _ _ _ _ _ _ => rfl) (fun s hs => by cases hs; rfl) hst)
    · exact Rg.wp_ran rfl (Rg.exec_move rfl (eval_tmp (hpar 0 (by simp)))) (hK x _ _ (fun _ _ _ _ _ _ => rfl) (fun s hs => by cases hs; rfl) hst)
    · exact Rg.wp_ran rfl (Rg.exec_nil rfl (eval_tmp (hgot 11 _ 19 rfl (hdep ⟨11, .data⟩ (by simp) rfl) rfl))) (hK x _ _ (fun _ _ _ _ _ _ => rfl) (fun s hs => by cases hs; rfl) hst)
    · exact Rg.wp_ran rfl (exec_f93_0 rfl (eval_tmp (hgot 12 _ 20 rfl (hdep ⟨12, .data⟩ (by simp) rfl) rfl))) (hK x _ _ (fun _ _ _ _ _ _ => rfl) (fun s hs => by cases hs; rfl) hst)
    · exact Rg.wp_ran rfl (exec_f91_0 rfl (eval_tmp (hgot 13 _ 21 rfl (hdep ⟨13, .data⟩ (by simp) rfl) rfl))) (hK x _ _ (fun _ _ _ _ _ _ => rfl) (fun s hs => by cases hs; rfl) hst)
    · have h16 : lz 20 = false := by
        cases hh20 : lz 20 with
        | false => rfl
        | true =>
          have hh19 := hcl 20 _ rfl hh20 ⟨19, .data⟩ (by simp) rfl
          have hh15 := hcl 19 _ rfl hh19 ⟨15, .data⟩ (by simp) rfl
          rw [hlj] at hh15
          cases hh15
      obtain ⟨q1, -⟩ := hst.1 h16
      have HL := HH.out.2.1.keep ((Mod.drew [] w).then q1)
      exact Rg.wp_ran rfl (Rg.exec_load rfl (eval_tmp (hgot 14 _ 22 rfl (hdep ⟨14, .data⟩ (by simp) rfl) rfl)) (Rg.run_load1 Tryd.underlying36 rfl (lc_cells HL.hb).1)) (hK x _ _ (fun _ _ _ _ _ _ => rfl) (fun s hs => by cases hs; rfl) hst)
    · exact Rg.wp_ran rfl (Rg.exec_move rfl (eval_tmp (hpar 0 (by simp)))) (hK x _ _ (fun _ _ _ _ _ _ => rfl) (fun s hs => by cases hs; rfl) hst)
    · have h16 : lz 20 = false := by
        cases hh20 : lz 20 with
        | false => rfl
        | true =>
          have hh19 := hcl 20 _ rfl hh20 ⟨19, .data⟩ (by simp) rfl
          have hh17 := hcl 19 _ rfl hh19 ⟨17, .data⟩ (by simp) rfl
          rw [hlj] at hh17
          cases hh17
      obtain ⟨q1, q2⟩ := hst.1 h16
      have HL := HH.out.2.1.keep ((Mod.drew [] w).then q1)
      have XN := number105_c b t (a : Int) st C k ck e v (lc_book HL.hb) HL.hk (by have := HL.he; omega)
      rw [show (if e = 0 then 0 else 1 + k : Nat) = nu from HH.out.2.2.2.2.2.1.symm] at XN
      exact Rg.wp_called rfl (Rg.exec_call1 rfl rfl (eval_tmp (hgot 16 _ 24 rfl (hdep ⟨16, .data⟩ (by simp) rfl) rfl)) (enters_of Tryd.func45 (by kernel_rfl) rfl)) (XN.mono (fun e v' hh => ⟨_, hh.1, hK x _ _ (fun _ _ _ _ _ _ => rfl) (fun s hs => by cases hs; rfl) (by rw [hh.2]; exact hst)⟩))
    · exact Rg.wp_ran rfl (Rg.exec_move rfl (eval_tmp (hpar 2 (by simp)))) (hK x _ _ (fun _ _ _ _ _ _ => rfl) (fun s hs => by cases hs; rfl) hst)
    · have h16 : lz 20 = false := by
        cases hh20 : lz 20 with
        | false => rfl
        | true =>
          have hh19 := hcl 20 _ rfl hh20 ⟨19, .data⟩ (by simp) rfl
          rw [hlj] at hh19
          cases hh19
      obtain ⟨q1, q2⟩ := hst.1 h16
      exact Rg.wp_called rfl (Rg.exec_call3 rfl rfl (eval_tmp (hgot 15 _ 23 rfl (hdep ⟨15, .data⟩ (by simp) rfl) rfl)) (eval_tmp (hgot 17 _ 25 rfl (hdep ⟨17, .data⟩ (by simp) rfl) rfl)) (eval_tmp (hgot 18 _ 26 rfl (hdep ⟨18, .data⟩ (by simp) rfl) rfl)) (enters_of Tryd.func40 (by kernel_rfl) rfl)) ((leaves_c t nu B nb cb v).mono (fun e v' hh => ⟨_, hh.1, hK v.heap.size _ _ (fun j' o' s' h1 h2 h3 => by
              clear hst hpar hgot hdep hcl hK
              have h4 : j' < 22 := (Array.getElem?_eq_some_iff.1 h1).1
              obtain rfl | rfl | rfl | rfl | rfl | rfl | rfl | rfl | rfl | rfl | rfl | rfl | rfl | rfl | rfl | rfl | rfl | rfl | rfl | rfl | rfl | rfl : j' = 0 ∨ j' = 1 ∨ j' = 2 ∨ j' = 3 ∨ j' = 4 ∨ j' = 5 ∨ j' = 6 ∨ j' = 7 ∨ j' = 8 ∨ j' = 9 ∨ j' = 10 ∨ j' = 11 ∨ j' = 12 ∨ j' = 13 ∨ j' = 14 ∨ j' = 15 ∨ j' = 16 ∨ j' = 17 ∨ j' = 18 ∨ j' = 19 ∨ j' = 20 ∨ j' = 21 := by omega
              all_goals (cases h1; cases h3 <;> first | rfl | (rw [hlj] at h2; cases h2))) (fun s hs => by cases hs; rfl) ⟨fun _ => ⟨q1.then hh.2.2.2.2.1, fun _ => ⟨hh.2.1, hh.2.2.1, hh.2.2.2.1, q1.size⟩⟩, fun q => by rw [show lz 20 = true from q] at h16; cases h16⟩⟩))
    · have h15 : lz 19 = true := hdep ⟨19, .data⟩ (by simp) rfl
      obtain ⟨q1, q2⟩ := hst.1 hlj
      obtain ⟨r1, r2, r3, r4⟩ := q2 h15
      have q3 : Mod [] w v := (Mod.drew [] w).then q1
      have DL := HH.out.1.keep q3 (by simp) (by simp) (by simp)
      have HL := HH.out.2.1.keep q3
      have XW := write93_c c s S g m cc A z (x + 2) x (x + 1) cb B l t nu v DL ⟨HL.G, by rw [← HL.hn]; exact Cells.of_holds r3, Cells.of_holds r1, Cells.of_holds r2, HL.hr, ⟨r3.lt, notin3 DL r3 (by decide) (by decide)⟩, ⟨r1.lt, notin3 DL r1 (by decide) (by decide)⟩, ⟨r2.lt, notin3 DL r2 (by decide) (by decide)⟩, HL.hB, HL.G.two, by rw [← HL.hn]; exact HL.hc, HL.out⟩ HH.out.2.2.2.1 (by have := HH.out.2.2.1; omega) HL.ht (by have := HH.out.2.2.2.2.2.2.1; omega) (by rw [← HL.hn]; have := HL.hl; omega)
      rw [← HH.out.2.2.2.2.2.2.2.1, ← HH.out.2.2.2.2.1] at XW
      exact Rg.wp_called rfl (Rg.exec_call3 rfl rfl (eval_tmp (hgot 0 _ 8 rfl (hdep ⟨0, .data⟩ (by simp) rfl) rfl)) (eval_tmp (hgot 10 _ 18 rfl (hdep ⟨10, .data⟩ (by simp) rfl) rfl)) (eval_tmp (hgot 19 _ 27 rfl (hdep ⟨19, .data⟩ (by simp) rfl) rfl)) (enters_of Tryd.func38 (by kernel_rfl) rfl)) (XW.mono (fun e v' hh => ⟨_, hh.1, hK x _ _ (fun _ _ _ _ _ _ => rfl) (fun s hs => by cases hs; rfl) ⟨(fun q => by cases q), fun _ => by obtain ⟨A', c', u1, u2, u3⟩ := hh.2; exact ⟨A', c', Twr.pre q3 u1 u2 u3⟩⟩⟩))
    · exact Rg.wp_ran rfl (Rg.exec_assign rfl (eval_tmp (hgot 20 _ 28 rfl (hdep ⟨20, .data⟩ (by simp) rfl) rfl))) (hK x _ _ (fun _ _ _ _ _ _ => rfl) (fun s hs => by cases hs; rfl) hst)
  case fin =>
    intro x lz v hl hst
    obtain ⟨A1, c1, T1⟩ := hst.2 (hl 20 (by decide))
    clear hl hst
    dsimp only
    by_cases h0 : r0 = 0
    · have hS : S.add (z : Int) bs = (S.writes (z : Int) bs).2.sync := by unfold St.add; rw [if_pos (by rw [← HH.out.2.2.2.2.1]; exact h0)]
      subst h0
      have hops := writes_ops bs S (z : Int)
      have XY := sync_c (S.writes (z : Int) bs).2 g m A1 c1 v T1.D (by have := HH.out.2.2.1; have := HH.out.2.2.2.2.2.2.2.2; omega)
      have HT := Lib.hid (And.intro T1 hS)
      clear T1 hS hops HH
      go_wp2_with fail
      refine XY.mono ?_
      rintro r w7 ⟨rfl, A2, c2, D7, q1, q2⟩
      clear XY
      go_wp2
      go_ret
      rw [HA.out.1, HA.out.2, HT.out.2]
      exact ⟨rfl, A2, c2, HT.out.1.sync D7 q1 q2⟩
    · have hS : S.add (z : Int) bs = S.writes (z : Int) bs := by unfold St.add; rw [if_neg (by rw [← HH.out.2.2.2.2.1]; exact h0)]
      have HT := Lib.hid (And.intro T1 (And.intro hS HH.out.2.2.2.2.1))
      clear T1 hS HH
      go_wp2
      go_ret
      rw [HA.out.1, HA.out.2, HT.out.2.1, ← HT.out.2.2]
      exact ⟨rfl, A1, c1, HT.out.1⟩
end
section
open Go.RowKit
theorem sl_parts : (Tryd.prog.info? 34).map (fun i => (i.zero, i.size, i.bytes)) = some (some (.slice none 0 0), 1, 24) := by kernel_rfl
theorem run_lit60 (B : Option Addr) (n cb : Nat) (w : World) : (Instr.buildSlice 48 1 #[(0, .slice B n cb)]).run Tryd.prog w = .ok (.slice (some ⟨w.heap.size, 0, none⟩) 1 1) (w.alloc (.cells #[.slice B n cb] 34)) := by kernel_rfl
theorem exec_lit60 {v : World} {o : Oper} {ρ : Operand → Value} {x : Operand} {B : Option Addr} {n cb : Nat} (ho : o.op = .buildSlice 48 1 #[(0, x)]) (hx : ρ x = .slice B n cb) : (execOp ρ o).run Tryd.prog v = .ok (.value (.slice (some ⟨v.heap.size, 0, none⟩) 1 1)) (v.alloc (.cells #[.slice B n cb] 34)) := by
  unfold execOp
  simp only [ho, List.map_toArray, List.map_cons, List.map_nil, hx, Sem.run_bind, run_lit60, Result.andThen, Sem.run_pure]
set_option maxRecDepth 100000 in
set_option maxHeartbeats 4000000 in
theorem take1_c (g T t : Nat) (a : Int) (st : Value) (C : Option Addr) (k ck e : Nat) (L : List (Option Addr × Nat × Nat)) (B : Option Addr) (n cb : Nat) (z : List Value) (w : World) (hb : Holds w g T (kc t a st (.slice C k ck) (e : Int) ++ z)) (hL : OwnG sl 34 1 w C ck L) (hk : k = L.length) (hT : 34 ≠ T) (hkl : k ≤ 100000) (hn : n ≤ 140737488355328) (he : 0 < e) (he2 : e ≤ 100000) :
    Calls Tryd.prog 27 #[.pointer (some ⟨g, 0, none⟩), .slice B n cb] w fun r w' => (∃ v, r = .returned v) ∧ ∃ C' ck', Holds w' g T (kc t a st (.slice C' (k + 1) ck') ((e + fills n : Nat) : Int) ++ z) ∧ OwnG sl 34 1 w' C' ck' (L ++ [(B, n, cb)]) ∧ Mod (g :: blk C) w w' ∧ (∀ x, C' = some x → x.block ∈ blk C ∨ w.heap.size ≤ x.block) := by
  have d := kc_cells (kc_at hb)
  have XS := fun v => sectors_c n (by omega) v
  obtain ⟨f, hf⟩ : ∃ f, f = fills n := ⟨_, rfl⟩
  have hfl : f ≤ 834 := by rw [hf]; exact fills_le n
  rw [← hf] at XS ⊢
  obtain ⟨e1, he1⟩ : ∃ x, x = e + f := ⟨_, rfl⟩
  have HF : Hid (IntKind.i64.wrap ((e : Int) + (f : Int)) = (e1 : Int)) := Lib.hid (by
    have : (e : Int) + (f : Int) = (e1 : Int) := by omega
    rw [this]
    exact IntWalk.i64_in _ (by omega))
  rw [← he1]
  obtain ⟨i0, j1, j2, j3, j4⟩ := info_parts sl_parts
  have HI := Lib.hid (And.intro j1 (And.intro j2 (And.intro j3 j4)))
  have d4 := d.2.2.2.2
  have d3 := d.2.2.2.1
  simp only [Nat.zero_add] at d3 d4
  have h0 : ¬ (e : Int) = 0 := by omega
  have HH := Lib.hid (And.intro hb (And.intro hL (And.intro hk (And.intro hT hkl))))
  clear hb d hn hf hfl hL hk hT hkl he he2 he1 j1 j2 j3 j4
  go_enter Tryd.func27, Tryd.ntmps27
  go_wp2_with (first
    | (with_reducible refine wpList_ranW (o := ⟨some 19, .buildSlice 48 1 _, _, _, _, _⟩) (by with_unfolding_all rfl) (.slice (some ⟨w.heap.size, 0, none⟩) 1 1) (w.alloc (.cells #[.slice B n cb] 34)) (exec_lit60 rfl rfl) ?_
       have hN : Holds (w.alloc (.cells #[.slice B n cb] 34)) w.heap.size 34 [.slice B n cb] := Holds.made w 34 _
       have mN : Mod [] w (w.alloc (.cells #[.slice B n cb] 34)) := Mod.alloc [] w _
       obtain ⟨wn, hwn⟩ : ∃ v, v = w.alloc (.cells #[.slice B n cb] 34) := ⟨_, rfl⟩
       obtain ⟨bn, hbn⟩ : ∃ v, v = w.heap.size := ⟨_, rfl⟩
       rw [← hwn, ← hbn] at hN
       rw [← hwn] at mN
       rw [← hwn, ← hbn]
       replace hbn := Lib.hid hbn
       clear hwn)
    | (with_reducible refine wpList_appendG (f := sl) (size := 1) wn (o := ⟨some 20, _, _, _, _, _⟩) rfl (.tmp 17) (.tmp 19) 48 rfl 34 i0 (.slice none 0 0) 24 Tryd.underlying48 HI.out.1 HI.out.2.1 HI.out.2.2.1 HI.out.2.2.2 (by with_unfolding_all rfl) (by omega) (fun x => by with_unfolding_all rfl) (fun x v hv => by with_unfolding_all (cases List.mem_singleton.1 hv; rfl)) C k ck L rfl HH.out.2.2.1 (HH.out.2.1.keep mN (by simp)) (some ⟨bn, 0, none⟩) 1 1 [(B, n, cb)] rfl (by with_unfolding_all rfl) (by with_unfolding_all exact Cells.of_holds hN) (by have := HH.out.2.2.1; have := HH.out.2.2.2.2; simp only [List.length_cons, List.length_nil]; omega) (by have := HH.out.2.2.1; have := HH.out.2.2.2.2; simp only [List.length_cons, List.length_nil]; unfold maxLen; omega) ?_
       intro C1 k1 wa hO hM hNew
       obtain ⟨kk, hkk⟩ : ∃ x, x = (L ++ [(B, n, cb)]).length := ⟨_, rfl⟩
       rw [← hkk]
       have hb' := (HH.out.1.keep mN (by simp)).keep hM (notin_blk (fun x hx => (HH.out.2.1.keep mN (by simp)).ne (HH.out.1.keep mN (by simp)) HH.out.2.2.2.1 x hx))
       have c3 := (kc_cells (kc_at hb')).2.2.2.1
       have f3 := hb'.free 3
       simp only [Nat.zero_add] at c3
       have HQ := Lib.hid (And.intro hO (And.intro (mN.pre hM) (And.intro (show ∀ x, C1 = some x → x.block ∈ blk C ∨ w.heap.size ≤ x.block from fun x hx => (hNew x hx).imp id (fun h => Nat.le_trans mN.size h)) (And.intro hkk hb'))))
       clear hO hM hNew hkk hb' hN mN))
  obtain ⟨hO, hM, hNew, hkk, hb'⟩ := HQ.out
  have hb1 : Holds (wa.setCell ⟨g, 3, none⟩ (.slice C1 kk k1)) g T (kc t a st (.slice C1 kk k1) (e : Int) ++ z) := hb'.set 3 _
  have ma : Mod [g] wa (wa.setCell ⟨g, 3, none⟩ (.slice C1 kk k1)) := Mod.setCell _ (by simp) _
  have m1 : Mod (g :: blk C) w (wa.setCell ⟨g, 3, none⟩ (.slice C1 kk k1)) := (hM.wk (fun i _ h => by simp [h])).trans ma (fun i _ h => by simp at h; simp [h])
  have hO1 := hO.keep ma (fun x hx => by simpa using hO.ne hb' HH.out.2.2.2.1 x hx)
  clear HQ hM hb' c3 f3 d3 d4 ma hO
  generalize wa.setCell ⟨g, 3, none⟩ (.slice C1 kk k1) = w1 at *
  refine Rg.wp_region_lit1 [Value.pointer (some { block := g, off := 0 }), Value.slice B n cb, undef, undef, Value.pointer (some { block := g, off := 0 }), Value.pointer (some { block := g, off := 0 }), Value.pointer (some { block := g, off := 4 }), Value.int IntKind.i64 ↑e, Value.bool false, undef, undef, undef, undef, Value.pointer (some { block := g, off := 0 }), Value.pointer (some { block := g, off := 0 }), Value.pointer (some { block := g, off := 0 }), Value.pointer (some { block := g, off := 3 }), Value.slice C k ck, Value.slice B n cb, Value.slice (some { block := bn, off := 0 }) 1 1, Value.slice C1 kk k1, Value.pointer (some { block := g, off := 0 }), Value.pointer (some { block := g, off := 3 }), .pointer (some ⟨g, 0, none⟩), .pointer (some ⟨g, 0, none⟩), .pointer (some ⟨g, 4, none⟩), .int .i64 (e : Int), .slice B n cb, .int .i64 (n : Int), .int .i64 (f : Int), .int .i64 (e1 : Int), .pointer (some ⟨g, 0, none⟩), .pointer (some ⟨g, 4, none⟩)] 33 [0, 1, 2, 3, 4, 5, 6, 7, 8, 9, 10, 11, 12, 13, 14, 15, 16, 17, 18, 19, 20, 21, 22]
    (fun lz v => (lz 10 = false → Holds v g T (kc t a st (.slice C1 kk k1) (e : Int) ++ z)) ∧ (lz 10 = true → Holds v g T (kc t a st (.slice C1 kk k1) (e1 : Int) ++ z)) ∧ Mod [g] w1.drew v) []
    (by kernel_rfl) rfl rfl rfl rfl (⟨fun _ => hb1, (fun q => by cases q), Mod.refl _ _⟩) (by kernel_rfl) (by kernel_rfl) ?step ?fin
  case step =>
    intro lz T v j o hj hlj hdep hst hpar hgot hcl Kq hK
    have hjn : j < 11 := (Array.getElem?_eq_some_iff.1 hj).1
    obtain ⟨it3, i3, s3⟩ := i64_info
    obtain rfl | rfl | rfl | rfl | rfl | rfl | rfl | rfl | rfl | rfl | rfl : j = 0 ∨ j = 1 ∨ j = 2 ∨ j = 3 ∨ j = 4 ∨ j = 5 ∨ j = 6 ∨ j = 7 ∨ j = 8 ∨ j = 9 ∨ j = 10 := by omega
    all_goals (have hj' := Option.some.inj (hj : some _ = some o); subst hj'; clear hj)
    · exact Rg.wp_ran rfl (Rg.exec_move rfl (eval_tmp (hpar 0 (by simp)))) (hK _ _ (fun s hs => by cases hs; rfl) hst)
    · exact Rg.wp_ran rfl (Rg.exec_nil rfl (eval_tmp (hgot 0 _ 23 rfl (hdep ⟨0, .data⟩ (by simp) rfl) rfl))) (hK _ _ (fun s hs => by cases hs; rfl) hst)
    · exact Rg.wp_ran rfl (exec_f93_3 rfl (eval_tmp (hgot 1 _ 24 rfl (hdep ⟨1, .data⟩ (by simp) rfl) rfl))) (hK _ _ (fun s hs => by cases hs; rfl) hst)
    · have h10 : lz 10 = false := by
        cases hh : lz 10 with
        | false => rfl
        | true =>
          have h7 := hcl 10 _ rfl hh ⟨7, .data⟩ (by simp) rfl
          have h3 := hcl 7 _ rfl h7 ⟨3, .data⟩ (by simp) rfl
          rw [hlj] at h3
          cases h3
      have hcell := (kc_cells (kc_at (hst.1 h10))).2.2.2.2
      simp only [Nat.zero_add] at hcell
      exact wp_ran rfl (Rg.exec_load rfl (eval_tmp (hgot 2 _ 25 rfl (hdep ⟨2, .data⟩ (by simp) rfl) rfl)) (Rg.run_load1 Tryd.underlying3 rfl hcell)) (hK _ _ (fun s hs => by cases hs; rfl) hst)
    · exact Rg.wp_ran rfl (Rg.exec_move rfl (eval_tmp (hpar 1 (by simp)))) (hK _ _ (fun s hs => by cases hs; rfl) hst)
    · exact wp_ran rfl (Rg.exec_len Tryd.underlying34 rfl (eval_tmp (hgot 4 _ 27 rfl (hdep ⟨4, .data⟩ (by simp) rfl) rfl))) (hK _ _ (fun s hs => by cases hs; rfl) hst)
    · exact Rg.wp_called rfl (Rg.exec_call1 rfl rfl (eval_tmp (hgot 5 _ 28 rfl (hdep ⟨5, .data⟩ (by simp) rfl) rfl)) (enters_of Tryd.func5 (by kernel_rfl) rfl)) ((XS v).mono (fun e v' hh => ⟨_, hh.1, hK _ _ (fun s hs => by cases hs; rfl) (by rw [hh.2]; exact hst)⟩))
    · exact Rg.wp_ran rfl (Rg.exec_add rfl (eval_tmp (hgot 3 _ 26 rfl (hdep ⟨3, .data⟩ (by simp) rfl) rfl)) (eval_tmp (hgot 6 _ 29 rfl (hdep ⟨6, .data⟩ (by simp) rfl) rfl)) (HF.out)) (hK _ _ (fun s hs => by cases hs; rfl) hst)
    · exact Rg.wp_ran rfl (Rg.exec_nil rfl (eval_tmp (hgot 0 _ 23 rfl (hdep ⟨0, .data⟩ (by simp) rfl) rfl))) (hK _ _ (fun s hs => by cases hs; rfl) hst)
    · exact Rg.wp_ran rfl (exec_f93_3 rfl (eval_tmp (hgot 8 _ 31 rfl (hdep ⟨8, .data⟩ (by simp) rfl) rfl))) (hK _ _ (fun s hs => by cases hs; rfl) hst)
    · have hb' := hst.1 hlj
      refine wp_ran_skip rfl (Rg.exec_store1 rfl (eval_tmp (hgot 9 _ 32 rfl (hdep ⟨9, .data⟩ (by simp) rfl) rfl)) (eval_tmp (hgot 7 _ 30 rfl (hdep ⟨7, .data⟩ (by simp) rfl) rfl)) rfl i3 s3 (hb'.cell 4) (hb'.free 4)) (hK _ _ (fun s hs => by cases hs) ⟨(fun q => by cases q), fun _ => hb'.set 4 _, hst.2.2.trans (Mod.setCell _ (by simp) _) (fun _ _ h => h)⟩)
  case fin =>
    intro lz v hl hst
    have hb2 := hst.2.1 (hl 10 (by decide))
    have mv : Mod [g] w1 v := (Mod.drew [g] w1).trans hst.2.2 (fun _ _ h => h)
    have m2 : Mod (g :: blk C) w v := m1.trans mv (fun i _ h => by simp at h; simp [h])
    have hO2 := hO1.keep mv (fun x hx => by simpa using hO1.ne hb1 HH.out.2.2.2.1 x hx)
    clear hl hst
    dsimp only
    go_wp2
    go_end0
    refine ⟨⟨_, rfl⟩, C1, k1, ?_, hO2, m2, hNew⟩
    have : k + 1 = kk := by rw [hkk, List.length_append, HH.out.2.2.1]; rfl
    rw [this]
    exact hb2
set_option maxRecDepth 100000 in
set_option maxHeartbeats 4000000 in
theorem app77_c (c s : List UInt32) (S : St) (g m cc bp bb : Nat) (A : Option Addr) (b t a : Nat) (st : Value) (C : Option Addr) (k ck e : Nat) (br : Bool) (B : Option Addr) (nb cb : Nat) (l : List UInt8) (w : World) (D : DAt w g m A cc S) (H : AddH c s g m A b t a st C k ck e (.pointer (some ⟨g, 0, none⟩)) br B nb cb l w) (hp : Holds w bp 29 [.pointer (some ⟨b, 0, none⟩)]) (hq : Holds w bb 34 [.slice B nb cb]) (ho : S.ops + 5000 ≤ 1099511627776) :
    Calls Tryd.prog 25 #[.pointer (some ⟨bp, 0, none⟩), .pointer (some ⟨bb, 0, none⟩)] w fun r w' => r = .returned (.int .i64 (S.add ((2 + t % 2 * a + e : Nat) : Int) (leavesB c s t (numB k e) l)).1) ∧ ∃ A' c', Twr (S.add ((2 + t % 2 * a + e : Nat) : Int) (leavesB c s t (numB k e) l)).2 g m A w w' A' c' := by
  have XA := fun v (q : Mod [] w v) => add_c c s S g m cc A b t a st C k ck e (.pointer (some ⟨g, 0, none⟩)) br B nb cb l v (D.keep q (by simp) (by simp) (by simp)) (H.keep q) ho
  obtain ⟨ar, har⟩ : ∃ r, r = (S.add ((2 + t % 2 * a + e : Nat) : Int) (leavesB c s t (numB k e) l)).1 := ⟨_, rfl⟩
  obtain ⟨aS, haS⟩ : ∃ r, r = (S.add ((2 + t % 2 * a + e : Nat) : Int) (leavesB c s t (numB k e) l)).2 := ⟨_, rfl⟩
  simp only [← har, ← haS] at XA
  rw [← har, ← haS]
  have HH := Lib.hid (And.intro H (And.intro hp hq))
  clear D H hp hq ho har haS
  go_enter Tryd.func25, Tryd.ntmps25
  go_wp2_with fail
  refine Rg.wp_region_lit1 [Value.pointer (some { block := bp, off := 0 }), Value.pointer (some { block := bb, off := 0 }), .int .i64 ar, .pointer (some ⟨b, 0, none⟩), .pointer (some ⟨b, 0, none⟩), .pointer (some ⟨b, 0, none⟩), .pointer (some ⟨b, 0, none⟩), .pointer (some ⟨b, 0, none⟩), .pointer (some ⟨b, 5, none⟩), .pointer (some ⟨g, 0, none⟩), .slice B nb cb, .int .i64 ar] 12 [0, 1]
    (fun lz v => (lz 8 = false → Mod [] w.drew v ∧ True) ∧ (lz 8 = true → ∃ A' c', Twr aS g m A w v A' c')) []
    (by kernel_rfl) rfl rfl rfl rfl (⟨fun _ => ⟨Mod.refl _ _, trivial⟩, fun q => by cases q⟩) (by kernel_rfl) (by kernel_rfl) ?step ?fin
  case step =>
    intro lz T v j o hj hlj hdep hst hpar hgot hcl Kq hK
    have hjn : j < 10 := (Array.getElem?_eq_some_iff.1 hj).1
    obtain rfl | rfl | rfl | rfl | rfl | rfl | rfl | rfl | rfl | rfl : j = 0 ∨ j = 1 ∨ j = 2 ∨ j = 3 ∨ j = 4 ∨ j = 5 ∨ j = 6 ∨ j = 7 ∨ j = 8 ∨ j = 9 := by omega
    all_goals (have hj' := Option.some.inj (hj : some _ = some o); subst hj'; clear hj)
    · have h16 : lz 8 = false := by
        cases hh8 : lz 8 with
        | false => rfl
        | true =>
          have hh2 := hcl 8 _ rfl hh8 ⟨2, .data⟩ (by simp) rfl
          have hh1 := hcl 2 _ rfl hh2 ⟨1, .data⟩ (by simp) rfl
          have hh0 := hcl 1 _ rfl hh1 ⟨0, .data⟩ (by simp) rfl
          rw [hlj] at hh0
          cases hh0
      obtain ⟨q1, -⟩ := hst.1 h16
      have q0 := (Mod.drew [] w).then q1
      exact Rg.wp_ran rfl (Rg.exec_load rfl (eval_tmp (hpar 0 (by simp))) (Rg.run_load1 Tryd.underlying29 rfl ((HH.out.2.1.keep q0 (by simp)).cell 0))) (hK _ _ (fun s hs => by cases hs; rfl) hst)
    · exact Rg.wp_ran rfl (Rg.exec_nil rfl (eval_tmp (hgot 0 _ 3 rfl (hdep ⟨0, .data⟩ (by simp) rfl) rfl))) (hK _ _ (fun s hs => by cases hs; rfl) hst)
    · exact Rg.wp_ran rfl (exec_f100_0 rfl (eval_tmp (hgot 1 _ 4 rfl (hdep ⟨1, .data⟩ (by simp) rfl) rfl))) (hK _ _ (fun s hs => by cases hs; rfl) hst)
    · have h16 : lz 8 = false := by
        cases hh8 : lz 8 with
        | false => rfl
        | true =>
          have hh6 := hcl 8 _ rfl hh8 ⟨6, .data⟩ (by simp) rfl
          have hh5 := hcl 6 _ rfl hh6 ⟨5, .data⟩ (by simp) rfl
          have hh4 := hcl 5 _ rfl hh5 ⟨4, .data⟩ (by simp) rfl
          have hh3 := hcl 4 _ rfl hh4 ⟨3, .data⟩ (by simp) rfl
          rw [hlj] at hh3
          cases hh3
      obtain ⟨q1, -⟩ := hst.1 h16
      have q0 := (Mod.drew [] w).then q1
      exact Rg.wp_ran rfl (Rg.exec_load rfl (eval_tmp (hpar 0 (by simp))) (Rg.run_load1 Tryd.underlying29 rfl ((HH.out.2.1.keep q0 (by simp)).cell 0))) (hK _ _ (fun s hs => by cases hs; rfl) hst)
    · exact Rg.wp_ran rfl (Rg.exec_nil rfl (eval_tmp (hgot 3 _ 6 rfl (hdep ⟨3, .data⟩ (by simp) rfl) rfl))) (hK _ _ (fun s hs => by cases hs; rfl) hst)
    · exact Rg.wp_ran rfl (exec_f100_1 rfl (eval_tmp (hgot 4 _ 7 rfl (hdep ⟨4, .data⟩ (by simp) rfl) rfl))) (hK _ _ (fun s hs => by cases hs; rfl) hst)
    · have h16 : lz 8 = false := by
        cases hh8 : lz 8 with
        | false => rfl
        | true =>
          have hh6 := hcl 8 _ rfl hh8 ⟨6, .data⟩ (by simp) rfl
          rw [hlj] at hh6
          cases hh6
      obtain ⟨q1, -⟩ := hst.1 h16
      have q0 := (Mod.drew [] w).then q1
      exact Rg.wp_ran rfl (Rg.exec_load rfl (eval_tmp (hgot 5 _ 8 rfl (hdep ⟨5, .data⟩ (by simp) rfl) rfl)) (Rg.run_load1 Tryd.underlying25 rfl (lc_cells (HH.out.1.hb.keep q0 (by simp))).2.2.2.2.2.1)) (hK _ _ (fun s hs => by cases hs; rfl) hst)
    · have h16 : lz 8 = false := by
        cases hh8 : lz 8 with
        | false => rfl
        | true =>
          have hh7 := hcl 8 _ rfl hh8 ⟨7, .data⟩ (by simp) rfl
          rw [hlj] at hh7
          cases hh7
      obtain ⟨q1, -⟩ := hst.1 h16
      have q0 := (Mod.drew [] w).then q1
      exact Rg.wp_ran rfl (Rg.exec_load rfl (eval_tmp (hpar 1 (by simp))) (Rg.run_load1 Tryd.underlying34 rfl ((HH.out.2.2.keep q0 (by simp)).cell 0))) (hK _ _ (fun s hs => by cases hs; rfl) hst)
    · obtain ⟨q1, -⟩ := hst.1 hlj
      have q3 : Mod [] w v := (Mod.drew [] w).then q1
      exact Rg.wp_called rfl (Rg.exec_call3 rfl rfl (eval_tmp (hgot 2 _ 5 rfl (hdep ⟨2, .data⟩ (by simp) rfl) rfl)) (eval_tmp (hgot 6 _ 9 rfl (hdep ⟨6, .data⟩ (by simp) rfl) rfl)) (eval_tmp (hgot 7 _ 10 rfl (hdep ⟨7, .data⟩ (by simp) rfl) rfl)) (enters_of Tryd.func26 (by kernel_rfl) rfl)) ((XA v q3).mono (fun e v' hh => ⟨_, hh.1, hK _ _ (fun s hs => by cases hs; rfl) ⟨(fun q => by cases q), fun _ => by obtain ⟨A', c', u1⟩ := hh.2; exact ⟨A', c', Twr.pre q3 u1.D u1.mm u1.new⟩⟩⟩))
    · exact Rg.wp_ran rfl (Rg.exec_assign rfl (eval_tmp (hgot 8 _ 11 rfl (hdep ⟨8, .data⟩ (by simp) rfl) rfl))) (hK _ _ (fun s hs => by cases hs; rfl) hst)
  case fin =>
    intro lz v hl hst
    have hp := hst.2 (hl 8 (by decide))
    clear hl hst
    go_wp2
    go_ret
    exact ⟨rfl, hp⟩
end
end Go.Proofs.YtcoedhemlghjoaaDoor
