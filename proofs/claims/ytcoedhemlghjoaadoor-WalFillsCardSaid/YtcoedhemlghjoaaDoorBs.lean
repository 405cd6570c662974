/-
  My own texts Wy Wz Weqb, one behind the other.
-/
import Derived.Test.YtcoedhemlghjoaaDoorBx
import Derived.Laws.StructEq
import Derived.Laws.Small
namespace Go.Proofs.YtcoedhemlghjoaaDoor
section
open Go.RowKit
/-- make([]T, 0, n) of one-cell elements, in a walk. -/
theorem wpList_make0 {P : Program} (w : World) {ops : Array Oper} {rest : List Oper} {o : Oper} {a : Act} {Q : Exit → Act → World → Prop}
    (hg : o.guard = none) (l c : Operand) (t : TypeId) (hop : o.op = Op.makeSlice t l c)
    (e : TypeId) (i : TypeInfo) (z : Value) (h1 : P.underlying t = some (.slice e)) (h2 : P.info? e = some i) (h3 : i.zero = some z) (h4 : i.size = 1) (bytes : Nat) (h5 : i.bytes = bytes) (hz : z.cells = #[z])
    (C : Int) (n : Nat) (hl : a.eval l = .int .i64 0) (hc : a.eval c = .int .i64 C) (hC : C = (n : Int)) (b2 : bytes * n ≤ 281474976710656) (b3 : n ≤ maxLen)
    (hK : ∀ v, Holds v w.heap.size e (List.replicate n z) → Mod [] w v → v.heap.size = w.heap.size + 1 → wpList P ops Q rest (a.put o.dst (.slice (some ⟨w.heap.size, 0, none⟩) 0 n)) v) :
    wpList P ops Q (o :: rest) a w := by
  refine wpList_plain hg fun K hK' => ?_
  subst h5
  have hb : (i.bytes : Int) * (n : Int) ≤ 281474976710656 := by
    have h : ((i.bytes * n : Nat) : Int) ≤ 281474976710656 := by omega
    rwa [Int.natCast_mul] at h
  have b3' : (n : Int) ≤ 9223372036854775807 := by unfold maxLen at b3; omega
  have hrun := run_make (P := P) w t e i z h1 h2 h3 .i64 .i64 0 (n : Int) (by omega) (by omega) hb b3'
  subst hC
  simp only [Int.toNat_natCast, h4, Nat.mul_one, hz, made_rep] at hrun
  unfold Oper.wp
  simp [execOp, hop, hl, hc, hrun, Result.andThen]
  exact hK' _ _ (hK _ (Holds.made w e _) (Mod.alloc [] w _) (by simp))
/-- What leaves hold of their entry, one behind the other. -/
def textB (F : List Blk) : List UInt8 := F.flatMap fun x => x.1.drop 16
theorem textB_length (F : List Blk) : (textB F).length = F.length * 48 := by
  induction F with
  | nil => rfl
  | cons x F ih =>
    have hx := x.2
    have : (textB (x :: F)).length = (x.1.drop 16).length + (textB F).length := by simp [textB]
    rw [this, ih, List.length_drop, hx, List.length_cons]
    omega
theorem textB_snoc (F : List Blk) (k : Nat) (h : k < F.length) : textB (F.take (k + 1)) = textB (F.take k) ++ (F[k]).1.drop 16 := by
  rw [List.take_add_one, List.getElem?_eq_getElem h]
  unfold textB
  rw [List.flatMap_append]
  congr 1
  exact List.append_nil _
theorem exec_cut16 {v : World} {o : Oper} {ρ : Operand → Value} {x y : Operand} {g : Nat} (ho : o.op = .slice 73 x (some y) none none) (hx : ρ x = .pointer (some ⟨g, 0, none⟩)) (hy : ρ y = .int .i64 16) : (execOp ρ o).run Tryd.prog v = .ok (.value (.slice (some ⟨g, 16, none⟩) 48 48)) v := Sh.exec_cut (k := 16) Tryd.underlying73 u8_one (by decide) ho hx hy
theorem Owns.of_made {w : World} {y B n : Nat} (h : Holds w y 5 (List.replicate n (.int .u8 0))) (hB : B ≤ y) (hn : n ≤ maxLen) : Owns w B 5 (some ⟨y, 0, none⟩) n [] := by
  refine ⟨by simp, .inr ⟨y, n, _, rfl, hB, h, Nat.zero_le _, hn, by simp, by simp⟩⟩
set_option maxRecDepth 100000 in
set_option maxHeartbeats 4000000 in
theorem textOf_c (F : List Blk) (B : Option Addr) (n cb : Nat) (hn : n = F.length) (w : World) (hl : n ≤ 1000) (hF : Cells w B (F.flatMap bc)) :
    Calls Tryd.prog 49 #[.slice B n cb] w fun r w' => ∃ A c, r = .returned (.slice A (n * 48) c) ∧ Owns w' w.heap.size 5 A c (textB F) ∧ Mod [] w w' := by
  obtain ⟨i0, hi, hz0, hz1, hz2⟩ := info_parts u8_zero
  obtain ⟨q, hq⟩ : ∃ q, q = n * 48 := ⟨_, rfl⟩
  have hq2 : q ≤ 48000 := by omega
  have HQ : Hid (IntKind.i64.wrap (48 * (n : Int)) = (q : Int)) := Lib.hid (by
    have : 48 * (n : Int) = (q : Int) := by omega
    rw [this]
    exact IntWalk.i64_in _ (by omega))
  have HI := Lib.hid (And.intro hi (And.intro hz0 (And.intro hz1 hz2)))
  have HH := Lib.hid (And.intro hn (And.intro hF (And.intro hq hq2)))
  have hlZ : (n : Int) ≤ 1000 := by omega
  rw [← hq]
  clear hn hF hi hz0 hz1 hz2 hq hl hq2
  go_enter Tryd.func49, Tryd.ntmps49
  go_wp2_with (first
    | (with_reducible refine wpList_ranW (o := ⟨some 8, .binOp _ _ _ _ _, _, _, _, _⟩) (by with_unfolding_all rfl) (.int .i64 (q : Int)) w (Rg.exec_mul rfl rfl rfl HQ.out) ?_)
    | (refine wpList_make0 (o := ⟨some 9, .makeSlice _ _ _, _, _, _, _⟩) _ rfl _ _ 34 rfl 5 i0 (.int .u8 0) Tryd.underlying34 HI.out.1 HI.out.2.1 HI.out.2.2.1 1 HI.out.2.2.2 rfl (q : Int) q rfl rfl rfl (by have := HH.out.2.2.2; omega) (by have := HH.out.2.2.2; unfold maxLen; omega) ?_
       intro w1 hw1 hm1 hs1
       replace hs1 := Lib.hid hs1))
  have hO := Owns.of_made (B := w.heap.size) hw1 (Nat.le_refl _) (by have := HH.out.2.2.2; unfold maxLen; omega)
  obtain ⟨Y, hY⟩ : ∃ Y : Option Addr, Y = some ⟨w.heap.size, 0, none⟩ := ⟨_, rfl⟩
  rw [← hY] at hO ⊢
  clear hY hs1 hw1
  go_loopw [12, 3] (fun i x wi => ∃ (k : Nat) (A : Option Addr) (c m : Nat), k ≤ n ∧ i = .int .i64 (k : Int) ∧ x = .slice A m c ∧ m = (textB (F.take k)).length ∧ Owns wi w.heap.size 5 A c (textB (F.take k)) ∧ Mod [] w wi) (fun i _ _ => n - (intOf i).toNat)
  case atStart => exact ⟨0, Y, q, 0, by omega, rfl, rfl, rfl, hO, hm1⟩
  case round =>
    obtain ⟨k, A, c, m, hk, rfl, rfl, hm, hOw, hmi⟩ := hrel
    by_cases hkn : k < n
    · have hkl : k < F.length := by rw [← HH.out.1]; exact hkn
      have hkZ : (k : Int) < (n : Int) := by omega
      obtain ⟨ga, oa, rfl, hce⟩ := HH.out.2.1.elem' bc 64 (by omega) bc_length k hkl
      have hsn := textB_snoc F k hkl
      have hml : m ≤ 48000 := by rw [hm, textB_length, List.length_take]; omega
      obtain ⟨p, hp⟩ : ∃ p, p = F[k] := ⟨_, rfl⟩
      rw [← hp] at hce hsn
      have hci := hce.keep hmi (by simp)
      have hpl : (p.1.drop 16).length = 48 := by rw [List.length_drop, p.2]
      obtain ⟨d, hd⟩ : ∃ d, d = p.1.drop 16 := ⟨_, rfl⟩
      have HP := Lib.hid (And.intro hd (And.intro hsn (And.intro hm (And.intro hOw (And.intro hmi (And.intro hml hpl))))))
      clear hp hce hsn hm hOw hml hpl hd hO hm1
      go_wp2_with (first
        | (with_reducible refine wpList_loads (o := ⟨some 15, .load 73 (.tmp 14), _, _, _, _⟩) rfl 73 (.tmp 14) rfl ga (oa + k * 64) _ rfl hci _ Tryd.underlying73 rfl (by rw [bc_length]; exact size110) (bv p) rfl ?_)
        | (with_reducible refine wpList_allocs (o := ⟨some 5, .alloc 73, _, _, _, _⟩) rfl 73 rfl _ zero110 ?_; intro w2 hb2 m2 z2; replace z2 := Lib.hid z2)
        | (with_reducible refine wpList_storesAll (o := ⟨none, .store 73 (.tmp 5) (.tmp 15), _, _, _, _⟩) rfl 73 (.tmp 5) (.tmp 15) rfl rfl wr.heap.size (bc p) rfl (bv p) rfl rfl 73 _ hb2 (by rw [bc_length, bc_length]) (bc_one p) (by rw [bc_length]; exact size110) ?_
           intro w3 hb3 m3 z3
           have mx : Mod [] wr w3 := ⟨m3.os.trans m2.os, m3.tape.trans m2.tape, m3.output.trans m2.output, Nat.le_trans m2.size m3.size, fun i hi hn => (m3.block i (by have := m2.size; omega) (by simp; omega)).trans (m2.block i hi hn)⟩
           obtain ⟨bx, hbx⟩ : ∃ b, b = wr.heap.size := ⟨_, rfl⟩
           rw [← hbx] at hb3
           rw [← hbx]
           have hR := reads_at hb3 16
           rw [← HP.out.1] at hR
           have O3 := HP.out.2.2.2.1.keep mx (by simp)
           have hdl : d.length = 48 := by rw [HP.out.1]; exact HP.out.2.2.2.2.2.2
           replace z3 := Lib.hid z3
           replace hbx := Lib.hid hbx
           clear hb2 m2 m3)
        | (with_reducible refine wpList_ranW (o := ⟨some 17, .slice _ _ _ _ _, _, _, _, _⟩) (by with_unfolding_all rfl) (.slice (some ⟨bx, 16, none⟩) 48 48) w3 (exec_cut16 rfl rfl rfl) ?_)
        | (refine wpList_appends w3 (o := ⟨some 18, _, _, _, _, _⟩) rfl (.tmp 16) (.tmp 17) 34 rfl 5 i0 (.int .u8 0) 1 Tryd.underlying34 HI.out.1 HI.out.2.1 HI.out.2.2.1 HI.out.2.2.2 rfl w.heap.size (HP.out.2.2.2.2.1.then mx).size A m c (textB (F.take k)) rfl HP.out.2.2.1 O3 (some ⟨bx, 16, none⟩) 48 48 d rfl hdl.symm hR (by rw [← HP.out.2.2.1, hdl]; have := HP.out.2.2.2.2.2.1; omega) (by rw [← HP.out.2.2.1, hdl]; have := HP.out.2.2.2.2.2.1; unfold maxLen; omega) ?_
           intro A' c' w4 hO4 m4 q4))
      refine ⟨⟨k + 1, A', c', _, by omega, by go_num, rfl, by rw [HP.out.2.1, List.length_append, HP.out.2.2.2.2.2.2], by rw [HP.out.2.1, ← HP.out.1]; exact hO4, far_mod (HP.out.2.2.2.2.1.then mx) m4 (fun i hi => ?_)⟩, by simp [intOf]; omega⟩
      obtain ⟨a, ha, rfl⟩ := mem_blk hi
      exact (O3.fits.2.2 a ha).1
    · obtain rfl : n = k := by omega
      have hall : F.take n = F := List.take_of_length_le (by rw [← HH.out.1]; omega)
      rw [hall] at hm hOw
      have hmq : m = q := by rw [hm, textB_length, HH.out.2.2.1, HH.out.1]
      subst hmq
      clear hm hall hO hm1 HQ
      go_wp2
      go_ret
      exact ⟨A, c, rfl, hOw, hmi⟩
end
section
open Go.RowKit
/-- So many sectors are read from z on, till something is refused. -/
def St.reads (S : St) (z : Int) : Nat → List Blk × Int × St
  | 0 => ([], 0, S)
  | n + 1 =>
    if (S.reads z n).2.1 = 0 then
      (if ((S.reads z n).2.2.read (z + n)).2.1 = 0 then ((S.reads z n).1 ++ [((S.reads z n).2.2.read (z + n)).1], 0, ((S.reads z n).2.2.read (z + n)).2.2)
       else ((S.reads z n).1, ((S.reads z n).2.2.read (z + n)).2.1, ((S.reads z n).2.2.read (z + n)).2.2))
    else S.reads z n
theorem reads_stop (S : St) (z : Int) (k : Nat) (h : (S.reads z k).2.1 ≠ 0) : ∀ n, S.reads z (k + n) = S.reads z k := by
  intro n
  induction n with
  | zero => rfl
  | succ n ih =>
    show (if (S.reads z (k + n)).2.1 = 0 then _ else S.reads z (k + n)) = _
    rw [ih, if_neg h]
theorem reads_length (S : St) (z : Int) : ∀ n, (S.reads z n).2.1 = 0 → (S.reads z n).1.length = n := by
  intro n
  induction n with
  | zero => intro _; rfl
  | succ n ih =>
    intro h
    by_cases h0 : (S.reads z n).2.1 = 0
    · have e : S.reads z (n + 1) = _ := rfl
      conv at e => rhs; unfold St.reads
      rw [if_pos h0] at e
      by_cases h1 : ((S.reads z n).2.2.read (z + n)).2.1 = 0
      · rw [if_pos h1] at e
        rw [e, List.length_append, ih h0]
        rfl
      · rw [if_neg h1] at e
        rw [e] at h
        exact absurd h h1
    · rw [reads_stop S z n h0 1] at h
      exact absurd h h0
theorem read_ops1 (S : St) (i : Int) : (S.read i).2.2.ops ≤ S.ops + 1 := ask_ops1 S _ _
theorem reads_ops (S : St) (z : Int) : ∀ n, (S.reads z n).2.2.ops ≤ S.ops + n := by
  intro n
  induction n with
  | zero => exact Nat.le_refl _
  | succ n ih =>
    have h1 := read_ops1 (S.reads z n).2.2 (z + n)
    unfold St.reads
    split
    · split
      · dsimp only; omega
      · dsimp only; omega
    · omega
theorem reads_more (S : St) (z : Int) (k : Nat) (L : List Blk) (T : St) (h : S.reads z k = (L, 0, T)) : S.reads z (k + 1) = (if (T.read (z + k)).2.1 = 0 then (L ++ [(T.read (z + k)).1], 0, (T.read (z + k)).2.2) else (L, (T.read (z + k)).2.1, (T.read (z + k)).2.2)) := by
  conv => lhs; unfold St.reads
  rw [h]
  rfl
theorem blk_parts : (Tryd.prog.info? 73).map (fun i => (i.zero, i.size, i.bytes)) = some (some (bv (fil 0)), 64, 64) := by kernel_rfl
theorem put_blk (cs : List Value) (L : List Blk) (b : Blk) (k a : Nat) (hk : k < a) (hL : L.length = k) (hl : cs.length = a * 64) (ht : cs.take (k * 64) = L.flatMap bc) :
    (cs.take (k * 64) ++ bc b ++ cs.drop (k * 64 + (bc b).length)).length = a * 64 ∧ (cs.take (k * 64) ++ bc b ++ cs.drop (k * 64 + (bc b).length)).take ((k + 1) * 64) = (L ++ [b]).flatMap bc := by
  have h1 := bc_length b
  have h2 : (cs.take (k * 64)).length = k * 64 := by rw [List.length_take]; omega
  constructor
  · rw [List.length_append, List.length_append, h2, h1, List.length_drop]; omega
  · rw [List.take_append_of_le_length (by rw [List.length_append, h2, h1]; omega), List.take_of_length_le (by rw [List.length_append, h2, h1]; omega), ht, List.flatMap_append]
    congr 1
    exact (List.append_nil _).symm
set_option maxRecDepth 100000 in
set_option maxHeartbeats 4000000 in
theorem read68_c (S : St) (g m cc : Nat) (A : Option Addr) (t a : Nat) (ht : t < 4294967296) (ha : a ≤ 1000) (w : World) (D : DAt w g m A cc S) (ho : S.ops + 5000 ≤ 1099511627776) (R : List Blk × Int × St) (hR : R = S.reads ((2 + t % 2 * a : Nat) : Int) a) :
    Calls Tryd.prog 30 #[hv t a, .pointer (some ⟨g, 0, none⟩)] w fun r w' =>
      ((R.2.1 ≠ 0 ∧ r = .returned (.tuple #[.slice none 0 0, .int .i64 R.2.1])) ∨ (R.2.1 = 0 ∧ ∃ x, r = .returned (.tuple #[.slice (some ⟨x, 0, none⟩) a a, .int .i64 0]) ∧ Holds w' x 73 (R.1.flatMap bc) ∧ w.heap.size ≤ x)) ∧ DAt w' g m A cc R.2.2 ∧ Mod [g] w w' := by
  obtain ⟨i0, j1, j2, j3, j4⟩ := info_parts blk_parts
  have HI := Lib.hid (And.intro j1 (And.intro j2 (And.intro j3 j4)))
  have XH := fun v => hstart_c t a ht ha v
  obtain ⟨z, hz⟩ : ∃ z, z = 2 + t % 2 * a := ⟨_, rfl⟩
  have hz6 : z ≤ 1002 := by
    have h1 : t % 2 ≤ 1 := by omega
    have h2 : t % 2 * a ≤ 1 * a := Nat.mul_le_mul_right a h1
    omega
  rw [← hz] at hR XH
  have HH := Lib.hid (And.intro D (And.intro ho (And.intro hR (And.intro hz6 ha))))
  have haZ : (a : Int) ≤ 1000 := by omega
  clear j1 j2 j3 j4 D ho hR hz hz6 ht ha
  go_enter Tryd.func30, Tryd.ntmps30
  go_wp2_with (first
    | (with_reducible refine wpList_boxes (o := ⟨some 2, .box 47 (.tmp 0), _, _, _, _⟩) rfl 47 (.tmp 0) rfl _ rfl (hc t a) rfl ?_
       intro w1 hb1 m1 z1
       obtain ⟨bh, hbh⟩ : ∃ b, b = w.heap.size := ⟨_, rfl⟩
       rw [← hbh] at hb1
       rw [← hbh]
       have HB := Lib.hid (show w.heap.size ≤ bh ∧ bh < w1.heap.size by omega)
       have c1 := hb1.cell 1
       simp only [hc, List.getElem?_cons_succ, List.getElem?_cons_zero] at c1
       clear hbh z1)
    | (refine wpList_makeG (o := ⟨some 11, .makeSlice 66 (.tmp 10) (.tmp 10), _, _, _, _⟩) rfl 66 (.tmp 10) (.tmp 10) rfl 73 i0 _ 64 64 a Tryd.underlying66 HI.out.1 HI.out.2.1 HI.out.2.2.1 HI.out.2.2.2 rfl rfl (by omega) (by omega) ?_
       intro w2 cs hw2 hl2 _ m2 z2
       obtain ⟨bx, hbx⟩ : ∃ b, b = w1.heap.size := ⟨_, rfl⟩
       rw [← hbx] at hw2
       rw [← hbx]
       have HX := Lib.hid (show bh < bx ∧ bx < w2.heap.size by have := HB.out; omega)
       replace hb1 := hb1.keep m2 (by simp)
       have mm : Mod [] w w2 := m1.then m2
       clear hbx z2 m2 m1 c1))
  have D2 := HH.out.1.keep mm (by simp) (by simp) (by simp)
  go_loopw [14] (fun i wi => ∃ (k : Nat) (L : List Blk) (T : St) (cs : List Value), k ≤ a ∧ i = .int .i64 (k : Int) ∧ S.reads (z : Int) k = (L, 0, T) ∧ DAt wi g m A cc T ∧ Mod [g] w wi ∧ Holds wi bx 73 cs ∧ cs.length = a * 64 ∧ cs.take (k * 64) = L.flatMap bc ∧ Holds wi bh 47 (hc t a)) (fun i _ => a - (intOf i).toNat)
  case atStart => exact ⟨0, [], S, cs, by omega, rfl, rfl, D2, mm.wk (fun _ _ h => by cases h), hw2, hl2, by simp, hb1⟩
  case round =>
    obtain ⟨k, L, T, cs, hk, rfl, hrd, DT, hmi, hx, hcl, htk, hbh⟩ := hrel
    by_cases hkn : k < a
    · have hkZ : (k : Int) < (a : Int) := by omega
      have hLl : L.length = k := by have := reads_length S z k (by rw [hrd]); rw [hrd] at this; exact this
      have hop := reads_ops S z k
      rw [hrd] at hop
      have hmo := reads_more S z k L T hrd
      obtain ⟨zk, hzk⟩ : ∃ x, x = z + k := ⟨_, rfl⟩
      have HZ : Hid (IntKind.i64.wrap ((z : Int) + (k : Int)) = (zk : Int)) := Lib.hid (by
        have : (z : Int) + (k : Int) = (zk : Int) := by omega
        rw [this]
        exact IntWalk.i64_in _ (by have := HH.out.2.2.2.1; omega))
      have e0 : (z : Int) + (k : Int) = (zk : Int) := by omega
      rw [e0] at hmo
      have XR := fun v (q : DAt v g m A cc T) => read_c T g m A cc (zk : Int) v q (by have := HH.out.2.1; dsimp only at hop; have := HH.out.2.2.2.2; omega)
      obtain ⟨b, hb⟩ : ∃ b, b = (T.read (zk : Int)).1 := ⟨_, rfl⟩
      obtain ⟨er, her⟩ : ∃ b, b = (T.read (zk : Int)).2.1 := ⟨_, rfl⟩
      obtain ⟨T1, hT1⟩ : ∃ b, b = (T.read (zk : Int)).2.2 := ⟨_, rfl⟩
      rw [← hb, ← her, ← hT1] at XR hmo
      obtain ⟨q1, q2⟩ := put_blk cs L b k a hkn hLl hcl htk
      have HP := Lib.hid (And.intro hmo (And.intro q1 (And.intro q2 (And.intro hx (And.intro hbh (And.intro DT (And.intro hmi hcl)))))))
      clear hrd DT hx hcl htk hLl hop hmo hzk e0 hb her hT1 q1 q2 hw2 hl2 D2 mm hb1 hmi
      go_wp2_with (with_reducible refine wpList_loads (o := ⟨some 21, .load 47 (.tmp 2), _, _, _, _⟩) rfl 47 (.tmp 2) rfl bh 0 _ rfl (Cells.of_holds hbh) _ Tryd.underlying47 rfl (size91_of t a) (hv t a) rfl ?_)
      refine (XH _).mono ?_
      rintro r w3 ⟨rfl, m3⟩
      go_wp2_with (with_reducible refine wpList_ranW (o := ⟨some 24, .binOp _ _ _ _ _, _, _, _, _⟩) (by with_unfolding_all rfl) (.int .i64 (zk : Int)) w3 (Rg.exec_add rfl rfl rfl HZ.out) ?_)
      refine (XR _ (HP.out.2.2.2.2.2.1.keep m3 (by simp) (by simp) (by simp))).mono ?_
      rintro r w4 ⟨rfl, D4, m4⟩
      have hgx : bx ≠ g := (HP.out.2.2.2.1).ne HP.out.2.2.2.2.2.1.blk (by decide)
      have hgh : bh ≠ g := (HP.out.2.2.2.2.1).ne HP.out.2.2.2.2.2.1.blk (by decide)
      have hx4 := (HP.out.2.2.2.1.keep m3 (by simp)).keep m4 (by simpa using hgx)
      have hbh4 := (HP.out.2.2.2.2.1.keep m3 (by simp)).keep m4 (by simpa using hgh)
      have mi4 : Mod [g] w w4 := (HP.out.2.2.2.2.2.2.1.then m3).trans m4 (fun _ _ h => h)
      have hle : k * 64 + (bc b).length ≤ cs.length := by rw [HP.out.2.2.2.2.2.2.2, bc_length]; omega
      have HF := Lib.hid (And.intro D4 (And.intro hbh4 (And.intro mi4 (And.intro hgx hgh))))
      clear D4 hbh4 mi4 m4 m3 XR XH hgx hgh hbh
      have ht1 : (Value.tuple #[bv b, .int .i64 er]) = .tuple #[bv b, .int .i64 er] := rfl
      by_cases h0 : er = 0
      · subst h0
        go_wp2_with (with_reducible refine wpList_stores (o := ⟨none, .store 73 (.tmp 28) (.tmp 26), _, _, _, _⟩) rfl 73 (.tmp 28) (.tmp 26) rfl rfl bx (k * 64) (bc b) rfl (bv b) rfl rfl 73 cs hx4 hle (bc_one b) (by rw [bc_length]; exact size110) ?_; intro w5 hx5 m5 z5; replace z5 := Lib.hid z5)
        obtain ⟨D4, hbh4, mi4, hgx, hgh⟩ := HF.out
        refine ⟨⟨k + 1, L ++ [b], T1, _, by omega, by go_num, by rw [HP.out.1]; simp, ?_, mi4.trans m5 (fun i hi h => by have := HX.out; have := HB.out; simp at h; omega), hx5, HP.out.2.1, HP.out.2.2.1, hbh4.keep m5 (by have := HX.out; simp; omega)⟩, by simp [intOf]; omega⟩
        refine D4.keep m5 (by simpa using hgx.symm) (by simpa using fun e => D4.firm.ne_holds hx4 (by first | exact e | exact e.symm)) (fun z hz => by simpa using D4.loose.ne hx4 (by decide) z hz)
      · have h0' : ¬ (er = 0) := h0
        go_wp2_with (with_reducible refine wpList_stores (o := ⟨none, .store 73 (.tmp 28) (.tmp 26), _, _, _, _⟩) rfl 73 (.tmp 28) (.tmp 26) rfl rfl bx (k * 64) (bc b) rfl (bv b) rfl rfl 73 cs hx4 hle (bc_one b) (by rw [bc_length]; exact size110) ?_; intro w5 hx5 m5 z5; replace z5 := Lib.hid z5)
        go_ret2
        obtain ⟨D4, hbh4, mi4, hgx, hgh⟩ := HF.out
        have hst : R = (L, er, T1) := by
          have e1 := HP.out.1
          rw [if_neg h0] at e1
          have := reads_stop S z (k + 1) (by rw [e1]; exact h0) (a - (k + 1))
          rw [show k + 1 + (a - (k + 1)) = a by omega, e1] at this
          rw [HH.out.2.2.1, this]
        rw [hst]
        refine ⟨.inl ⟨h0, rfl⟩, ?_, mi4.trans m5 (fun i hi h => by have := HX.out; have := HB.out; simp at h; omega)⟩
        refine D4.keep m5 (by simpa using hgx.symm) (by simpa using fun e => D4.firm.ne_holds hx4 (by first | exact e | exact e.symm)) (fun z hz => by simpa using D4.loose.ne hx4 (by decide) z hz)
    · obtain rfl : a = k := by omega
      have hst : R = (L, 0, T) := by rw [HH.out.2.2.1, hrd]
      have hall : cs = L.flatMap bc := by rw [← htk]; exact (List.take_of_length_le (by omega)).symm
      rw [hall] at hx
      have HF := Lib.hid (And.intro hst (And.intro hx (And.intro DT hmi)))
      clear hst hall hx DT hmi hrd htk hcl hw2 hl2 D2 mm hb1 hbh XH
      go_wp2
      go_ret2
      obtain ⟨hst, hx, DT, hmi⟩ := HF.out
      rw [hst]
      exact ⟨.inr ⟨rfl, bx, rfl, hx, by have := HX.out; have := HB.out; omega⟩, DT, hmi⟩
end
section
open Go.RowKit
section
variable {P : Program} {t e : TypeId} {n : Nat} {k : IntKind}
theorem run_eq_items (hd0 : (Program.underlying P e) = some (.int k)) (X Y : List Int) (hXY : X.length = Y.length) (w : World) (d : Nat) : ∀ is : List Nat, (∀ j ∈ is, j < X.length) → (Op.eqItems (d + 1) e 1 (X.map (Value.int k)).toArray (Y.map (Value.int k)).toArray is).run P w = .ok (is.all fun j => X.getD j 0 == Y.getD j 0) w
  | [], _ => by simp [Op.eqItems]
  | j :: is, h => by
    have hj := h j (by simp)
    have ih := run_eq_items hd0 X Y hXY w d is (fun i hi => h i (by simp [hi]))
    have hp : (part e (X.map (Value.int k)).toArray (j * 1)).run P w = .ok (.int k (X.getD j 0)) w := by
      have : (X.map (Value.int k))[j]? = some (.int k (X.getD j 0)) := by simp [List.getD_eq_getElem?_getD, hj]
      simp [part, isAgg, run_underlying hd0, this]
    have hq : (part e (Y.map (Value.int k)).toArray (j * 1)).run P w = .ok (.int k (Y.getD j 0)) w := by
      have : (Y.map (Value.int k))[j]? = some (.int k (Y.getD j 0)) := by simp [List.getD_eq_getElem?_getD, hXY ▸ hj]
      simp [part, isAgg, run_underlying hd0, this]
    generalize (X.map (Value.int k)).toArray = XA at *
    generalize (Y.map (Value.int k)).toArray = YA at *
    simp only [Op.eqItems, Sem.run_bind, hp, hq, Result.andThen_ok, run_equalIn_int w d e k k _ _ hd0, List.all_cons]
    by_cases hx : X.getD j 0 = Y.getD j 0
    · simp only [hx, beq_self_eq_true, Bool.not_true, Bool.false_eq_true, if_false, Bool.true_and]
      exact ih
    · have : (X.getD j 0 == Y.getD j 0) = false := by simpa using hx
      simp only [this, Bool.not_false, if_true, Bool.false_and, Sem.run_pure]
theorem all_range (X Y : List Int) (hX : X.length = n) (hY : Y.length = n) : ((List.range n).all fun j => X.getD j 0 == Y.getD j 0) = decide (X = Y) := by
  rw [Bool.eq_iff_iff]
  simp only [List.all_eq_true, List.mem_range, beq_iff_eq, decide_eq_true_eq]
  constructor
  · intro h
    apply List.ext_getElem (by omega)
    intro i h1 h2
    have := h i (by omega)
    simpa [List.getD_eq_getElem?_getD, h1, h2] using this
  · rintro rfl _ _
    rfl
theorem run_eq_ints (hu : P.underlying t = some (.array n e)) (he : P.underlying e = some (.int k)) (hi : (P.info? e).isSome = true) (hc : P.cellsOf e = 1) (X Y : List Int) (hX : X.length = n) (hY : Y.length = n) (w : World) (d : Nat) :
    (Op.equalIn (d + 2) t (.agg (X.map (Value.int k)).toArray) (.agg (Y.map (Value.int k)).toArray)).run P w = .ok (decide (X = Y)) w := by
  cases hq : P.info? e with
  | none => rw [hq] at hi; cases hi
  | some i =>
    rw [run_equalIn_array w (d + 1) _ _ hu hq, hc, run_eq_items he X Y (by omega) w d _ (fun j hj => by rw [hX]; simpa using hj), all_range X Y hX hY]
theorem exec_nea {v : World} {o : Oper} {ρ : Operand → Value} {x y : Operand} (hu : P.underlying t = some (.array n e)) (he : P.underlying e = some (.int k)) (hi : (P.info? e).isSome = true) (hc : P.cellsOf e = 1) (hg : P.eqGuardType P.depth t = false) (X Y : List Int) (hX : X.length = n) (hY : Y.length = n)
    (ho : o.op = .binOp .neq t x y t) (hx : ρ x = .agg (X.map (Value.int k)).toArray) (hy : ρ y = .agg (Y.map (Value.int k)).toArray) : (execOp ρ o).run P v = .ok (.value (.bool (!decide (X = Y)))) v := by
  have h : (Op.equalIn 10000 t (.agg (X.map (Value.int k)).toArray) (.agg (Y.map (Value.int k)).toArray)).run P v = .ok (decide (X = Y)) v := run_eq_ints hu he hi hc X Y hX hY v 9998
  generalize (X.map (Value.int k)).toArray = XA at *
  generalize (Y.map (Value.int k)).toArray = YA at *
  unfold execOp
  simp [ho, hx, hy, go_sem, run_eqGuard_agg, hg, run_neq_struct, h, Result.andThen]
end
theorem octs_ints (L : List UInt8) : L.map oct = (L.map fun x => (x.toNat : Int)).map (Value.int .u8) := by simp
theorem octs_inj {L M : List UInt8} : (L.map fun x => (x.toNat : Int)) = (M.map fun x => (x.toNat : Int)) ↔ L = M :=
  ⟨fun h => (List.map_inj_right (f := fun x : UInt8 => (x.toNat : Int)) (fun a b hab => UInt8.toNat_inj.1 (by exact_mod_cast hab))).1 h, fun h => by rw [h]⟩
theorem blk_iff (a b : Blk) : a.1 = b.1 ↔ a = b := ⟨Subtype.ext, fun h => by rw [h]⟩
theorem exec_neb {v : World} {o : Oper} {ρ : Operand → Value} {x y : Operand} {a b : Blk} (ho : o.op = .binOp .neq 73 x y 73) (hx : ρ x = bv a) (hy : ρ y = bv b) : (execOp ρ o).run Tryd.prog v = .ok (.value (.bool (!decide (a = b)))) v := by
  unfold bv bc at hx hy
  rw [octs_ints] at hx hy
  have := exec_nea (P := Tryd.prog) (v := v) Tryd.underlying73 Tryd.underlying5 (by kernel_rfl) (by kernel_rfl) (by kernel_rfl) _ _ (by simpa using a.2) (by simpa using b.2) ho hx hy
  simpa only [octs_inj, blk_iff] using this
theorem exec_neb_v {v : World} {o : Oper} {ρ : Operand → Value} {x y : Operand} {a b : Blk} {c : Bool} (ho : o.op = .binOp .neq 73 x y 73) (hx : ρ x = bv a) (hy : ρ y = bv b) (h : (!decide (a = b)) = c) : (execOp ρ o).run Tryd.prog v = .ok (.value (.bool c)) v := by
  subst h
  exact exec_neb ho hx hy
/-- Blocks behind one another. -/
def bs (L : List Blk) : List Value := L.flatMap bc
theorem bs_length (L : List Blk) : (bs L).length = L.length * 64 := flat_length bc 64 bc_length L
theorem bs_part (L : List Blk) (k : Nat) (h : k < L.length) : (bs L).toArray.extract (k * 64) (k * 64 + 64) = (bc L[k]).toArray := by
  apply Array.ext'
  rw [Array.toList_extract]
  apply List.ext_getElem?
  intro i
  simp only [List.extract_eq_take_drop, List.getElem?_take, List.getElem?_drop]
  by_cases hi : i < 64
  · rw [if_pos (by omega)]
    exact flat_at bc 64 bc_length L k i h hi
  · rw [if_neg (by omega), List.getElem?_eq_none (by simp [bc_length]; omega)]
theorem size110_of : ∃ i, Tryd.prog.info? 73 = some i ∧ i.size = 64 := by
  obtain ⟨i, hi⟩ := info_of 73 (by kernel_rfl)
  exact ⟨i, hi, by have := size110; rw [hi] at this; simpa using this⟩
theorem part_bs (L : List Blk) (j : Nat) (hj : j < L.length) (v : World) : (part 73 (bs L).toArray (j * 64)).run Tryd.prog v = .ok (bv L[j]) v := by
  obtain ⟨i, hi, hs⟩ := size110_of
  have hagg : (isAgg 73).run Tryd.prog v = .ok true v := by
    unfold isAgg
    rw [Sem.run_bind, run_underlying Tryd.underlying73 v]
    rfl
  have hp := bs_part L j hj
  generalize bs L = X at *
  unfold part
  simp only [Sem.run_bind, hagg, Result.andThen_ok, if_true, sizeOf, typeInfo, run_program, hi, Sem.run_pure, hs, hp]
  rfl
theorem run_index145 (L : List Blk) (hL : L.length = 2) (k : Nat) (hk : k < L.length) (v : World) : (Instr.index 83 (.agg (bs L).toArray) (.int .i64 (k : Int))).run Tryd.prog v = .ok (bv L[k]) v := by
  obtain ⟨i, hi, hs⟩ := size110_of
  have hp := part_bs L k hk v
  generalize (bs L).toArray = X at *
  unfold Instr.index
  have h2 : ((k : Int)).toNat = k := by simp
  simp [asIntOf, run_underlying Tryd.underlying83, sizeOf, typeInfo, hi, hs, h2, hp]
  intro h
  omega
theorem exec_index145 {v : World} {o : Oper} {ρ : Operand → Value} {x y : Operand} {V : Value} {L : List Blk} {k : Nat} (hL : L.length = 2) (hk : k < L.length) (hV : V = .agg (bs L).toArray) (ho : o.op = .index 83 x y) (hx : ρ x = V) (hy : ρ y = .int .i64 (k : Int)) : (execOp ρ o).run Tryd.prog v = .ok (.value (bv L[k])) v := by
  subst hV
  have := run_index145 L hL k hk v
  unfold execOp
  simp only [ho, hx, hy, Sem.run_bind, this, Result.andThen, Sem.run_pure]
theorem size145 : (Tryd.prog.info? 83).map (·.size) = some 128 := by kernel_rfl
theorem zero145 : ∀ w, (zeroValue 83).run Tryd.prog w = .ok (.agg (bs (List.replicate 2 (fil 0))).toArray) w := (zero_of_info (n := 128) (by kernel_rfl)).1
end
end Go.Proofs.YtcoedhemlghjoaaDoor
