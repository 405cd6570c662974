/-
  My own texts Wcn, one behind the other.
-/
import Derived.Test.YtcoedhemlghjoaaDoorBs
namespace Go.Proofs.YtcoedhemlghjoaaDoor
section
open Go.RowKit
/-- Does the title i hold, on a disk of so many sectors? -/
def okT (c s : List UInt32) (n i : Nat) (x : Blk) : Prop := turnB x % 2 = i ∧ (4 ≤ areaB x ∧ areaB x ≤ 1000 ∧ 2 + 2 * areaB x ≤ n) ∧ titleB c s (turnB x) (areaB x) = x
instance (c s : List UInt32) (n i : Nat) (x : Blk) : Decidable (okT c s n i x) := by unfold okT; infer_instance
/-- The better one of what was found and of what is found. -/
def bestT (o : Option (Nat × Nat)) (p : Nat × Nat) : Option (Nat × Nat) := match o with | none => some p | some q => if q.1 < p.1 then some p else some q
def stepT (c s : List UInt32) (n i : Nat) (o : Option (Nat × Nat)) (x : Blk) : Option (Nat × Nat) := if okT c s n i x then bestT o (turnB x, areaB x) else o
def pickT (c s : List UInt32) (n : Nat) (L : List Blk) : Nat → Option (Nat × Nat)
  | 0 => none
  | k + 1 => match L[k]? with | none => pickT c s n L k | some x => stepT c s n k (pickT c s n L k) x
theorem pickT_succ (c s : List UInt32) (n : Nat) (L : List Blk) (k : Nat) (h : k < L.length) : pickT c s n L (k + 1) = stepT c s n k (pickT c s n L k) L[k] := by
  conv => lhs; unfold pickT
  rw [List.getElem?_eq_getElem h]
/-- What the best one's heading is, and the error. -/
def hO (o : Option (Nat × Nat)) : Nat × Nat := match o with | none => (0, 0) | some p => p
def eO (o : Option (Nat × Nat)) : Int := match o with | none => 140 | some _ => 0
/-- What may be of a heading that was found. -/
def mayT (n : Nat) (o : Option (Nat × Nat)) : Prop := ∀ p, o = some p → p.1 < 4294967296 ∧ 4 ≤ p.2 ∧ p.2 ≤ 1000 ∧ 2 + 2 * p.2 ≤ n
theorem mayT_step (c s : List UInt32) (n i : Nat) (o : Option (Nat × Nat)) (x : Blk) (h : mayT n o) (ht : turnB x < 4294967296) : mayT n (stepT c s n i o x) := by
  unfold stepT
  split
  · rename_i hk
    obtain ⟨h1, ⟨h2, h3, h4⟩, h5⟩ := hk
    unfold bestT
    split
    · rintro p ⟨⟩
      exact ⟨ht, h2, h3, h4⟩
    · split
      · rintro p ⟨⟩
        exact ⟨ht, h2, h3, h4⟩
      · exact h
  · exact h
theorem reading_n (S : St) (i : Int) : (S.read i).2.2.n = S.n := by
  unfold St.read St.ask
  simp only
  split
  · rfl
  · split
    · rfl
    · split
      · rfl
      · split <;> rfl
theorem reads_n (S : St) (z : Int) : ∀ n, (S.reads z n).2.2.n = S.n := by
  intro n
  induction n with
  | zero => rfl
  | succ n ih =>
    have h1 := reading_n (S.reads z n).2.2 (z + n)
    unfold St.reads
    split
    · split
      · dsimp only; omega
      · dsimp only; omega
    · exact ih
theorem Glob.keepN {c s : List UInt32} {w v : World} {ms : List Nat} (h : Glob c s w) (m : Mod ms w v) (hm : ∀ i ∈ ms, 2 ≤ i) : Glob c s v :=
  ⟨h.hc, h.hs, h.G.keep m (fun a ha hh => by cases ha; have := hm _ hh; simp at this), h.G1.keep m (fun a ha hh => by cases ha; have := hm _ hh; simp at this), Nat.le_trans h.two m.size⟩
theorem run_build91z (w : World) : (Instr.build 47 #[]).run Tryd.prog w = .ok (hv 0 0) w := by kernel_rfl
theorem exec_build91z {v : World} {o : Oper} {ρ : Operand → Value} (ho : o.op = .build 47 #[]) : (execOp ρ o).run Tryd.prog v = .ok (.value (hv 0 0)) v := by
  unfold execOp
  simp only [ho, List.map_toArray, List.map_nil, Sem.run_bind, run_build91z, Result.andThen, Sem.run_pure]
theorem exec_nei {P : Program} {v : World} {o : Oper} {ρ : Operand → Value} {t t' : TypeId} {x y : Operand} {k : IntKind} {a b : Int} {c : Bool} (ho : o.op = .binOp .neq t x y t') (hx : ρ x = .int k a) (hy : ρ y = .int k b) (h : decide (a ≠ b) = c) : (execOp ρ o).run P v = .ok (.value (.bool c)) v := by
  subst h
  unfold execOp
  simp [ho, hx, hy, go_sem]
  rfl
theorem exec_not {P : Program} {v : World} {o : Oper} {ρ : Operand → Value} {t : TypeId} {x : Operand} {b c : Bool} (ho : o.op = .unOp .not t x) (hx : ρ x = .bool b) (h : (!b) = c) : (execOp ρ o).run P v = .ok (.value (.bool c)) v := by
  subst h
  unfold execOp
  simp [ho, hx, go_sem]
set_option maxRecDepth 100000 in
set_option maxHeartbeats 4000000 in
theorem counting_c (c s : List UInt32) (S : St) (g m cc : Nat) (A : Option Addr) (w : World) (G : Glob c s w) (D : DAt w g m A cc S) (out : ∀ i ∈ g :: m :: blk A, 2 ≤ i) (ho : S.ops + 5000 ≤ 1099511627776) (R : List Blk × Int × St) (hR : R = S.reads 0 2) (O : Option (Nat × Nat)) (hO' : O = pickT c s S.n R.1 2) :
    Calls Tryd.prog 29 #[.pointer (some ⟨g, 0, none⟩)] w fun r w' =>
      ((R.2.1 ≠ 0 ∧ r = .returned (.tuple #[hv 0 0, .int .i64 R.2.1])) ∨ (R.2.1 = 0 ∧ r = .returned (.tuple #[hv (hO O).1 ((hO O).2 : Int), .int .i64 (eO O)]) ∧ mayT S.n O)) ∧ DAt w' g m A cc R.2.2 ∧ Mod [g] w w' := by
  have HH := Lib.hid (And.intro G (And.intro D (And.intro out (And.intro ho (And.intro hR hO')))))
  clear G D out ho hR hO'
  go_enter Tryd.func29, Tryd.ntmps29
  go_wp2_with (first
    | (with_reducible refine wpList_allocs (o := ⟨some 2, .alloc 47, _, _, _, _⟩) rfl 47 rfl _ zero91 ?_; intro w1 hb1 m1 z1)
    | (with_reducible refine wpList_allocs (o := ⟨some 4, .alloc 83, _, _, _, _⟩) rfl 83 rfl _ zero145 ?_
       intro w2 hb2 m2 z2
       obtain ⟨br, ebr⟩ : ∃ b, b = w.heap.size := ⟨_, rfl⟩
       obtain ⟨bt, ebt⟩ : ∃ b, b = w1.heap.size := ⟨_, rfl⟩
       replace hb1 := hb1.keep m2 (by simp)
       rw [← ebr] at hb1
       rw [← ebt] at hb2
       rw [← ebr, ← ebt]
       have HO := Lib.hid (show w.heap.size ≤ br ∧ br < bt ∧ bt < w2.heap.size by omega)
       have mm : Mod [] w w2 := m1.then m2
       clear ebr ebt z1 z2 m1 m2))
  have D2 := HH.out.2.1.keep mm (by simp) (by simp) (by simp)
  have hl2 : (bs (List.replicate 2 (fil 0))).length = 2 * 64 := by rw [bs_length]; rfl
  go_loopw [12] (fun i wi => ∃ (k : Nat) (L : List Blk) (T : St) (cs : List Value), k ≤ 2 ∧ i = .int .i64 (k : Int) ∧ S.reads 0 k = (L, 0, T) ∧ DAt wi g m A cc T ∧ Mod [g] w wi ∧ Holds wi bt 83 cs ∧ cs.length = 2 * 64 ∧ cs.take (k * 64) = L.flatMap bc ∧ Holds wi br 47 (hc 0 0)) (fun i _ => 2 - (intOf i).toNat)
  case atStart => exact ⟨0, [], S, _, by omega, rfl, rfl, D2, mm.wk (fun _ _ h => by cases h), hb2, hl2, by simp, hb1⟩
  case round =>
    obtain ⟨k, L, T, cs, hk, rfl, hrd, DT, hmi, hx, hcl, htk, hbh⟩ := hrel
    by_cases hkn : k < 2
    · have hkZ : (k : Int) < 2 := by omega
      have hLl : L.length = k := by have := reads_length S 0 k (by rw [hrd]); rw [hrd] at this; exact this
      have hop := reads_ops S 0 k
      rw [hrd] at hop
      have hmo := reads_more S 0 k L T hrd
      rw [Int.zero_add] at hmo
      have XR := fun v (q : DAt v g m A cc T) => read_c T g m A cc (k : Int) v q (by have := HH.out.2.2.2.1; dsimp only at hop; omega)
      obtain ⟨b, hb⟩ : ∃ b, b = (T.read (k : Int)).1 := ⟨_, rfl⟩
      obtain ⟨er, her⟩ : ∃ b, b = (T.read (k : Int)).2.1 := ⟨_, rfl⟩
      obtain ⟨T1, hT1⟩ : ∃ b, b = (T.read (k : Int)).2.2 := ⟨_, rfl⟩
      rw [← hb, ← her, ← hT1] at XR hmo
      obtain ⟨q1, q2⟩ := put_blk cs L b k 2 hkn hLl hcl htk
      have HP := Lib.hid (And.intro hmo (And.intro q1 (And.intro q2 (And.intro hx (And.intro hbh (And.intro DT (And.intro hmi hcl)))))))
      clear hrd DT hx hcl htk hLl hop hmo hb her hT1 q1 q2 hl2 D2 mm hb1 hmi hb2 hbh
      go_wp2_with fail
      refine (XR _ HP.out.2.2.2.2.2.1).mono ?_
      rintro r w4 ⟨rfl, D4, m4⟩
      have hgx : bt ≠ g := (HP.out.2.2.2.1).ne HP.out.2.2.2.2.2.1.blk (by decide)
      have hgh : br ≠ g := (HP.out.2.2.2.2.1).ne HP.out.2.2.2.2.2.1.blk (by decide)
      have hx4 := HP.out.2.2.2.1.keep m4 (by simpa using hgx)
      have hbh4 := HP.out.2.2.2.2.1.keep m4 (by simpa using hgh)
      have mi4 : Mod [g] w w4 := HP.out.2.2.2.2.2.2.1.trans m4 (fun _ _ h => h)
      have hle : k * 64 + (bc b).length ≤ cs.length := by rw [HP.out.2.2.2.2.2.2.2, bc_length]; omega
      have HF := Lib.hid (And.intro D4 (And.intro mi4 (And.intro hgx hgh)))
      clear D4 mi4 m4 XR hgx hgh
      by_cases h0 : er = 0
      · subst h0
        go_wp2_with (with_reducible refine wpList_stores (o := ⟨none, .store 73 (.tmp 22) (.tmp 20), _, _, _, _⟩) rfl 73 (.tmp 22) (.tmp 20) rfl rfl bt (k * 64) (bc b) rfl (bv b) rfl rfl 83 cs hx4 hle (bc_one b) (by rw [bc_length]; exact size110) ?_; intro w5 hx5 m5 z5; replace z5 := Lib.hid z5)
        obtain ⟨D4, mi4, hgx, hgh⟩ := HF.out
        refine ⟨⟨k + 1, L ++ [b], T1, _, by omega, by go_num, by rw [HP.out.1]; simp, ?_, mi4.trans m5 (fun i hi h => by have := HO.out; simp at h; omega), hx5, HP.out.2.1, HP.out.2.2.1, hbh4.keep m5 (by have := HO.out; simp; omega)⟩, by simp [intOf]; omega⟩
        refine D4.keep m5 (by simpa using hgx.symm) (by simpa using fun e => D4.firm.ne_holds hx4 (by first | exact e | exact e.symm)) (fun z hz => by simpa using D4.loose.ne hx4 (by decide) z hz)
      · have h0' : ¬ (er = 0) := h0
        go_wp2_with (first
          | (with_reducible refine wpList_stores (o := ⟨none, .store 73 (.tmp 22) (.tmp 20), _, _, _, _⟩) rfl 73 (.tmp 22) (.tmp 20) rfl rfl bt (k * 64) (bc b) rfl (bv b) rfl rfl 83 cs hx4 hle (bc_one b) (by rw [bc_length]; exact size110) ?_; intro w5 hx5 m5 z5; replace z5 := Lib.hid z5; have hbh5 := hbh4.keep m5 (by have := HO.out; simp; omega))
          | (with_reducible refine wpList_ranW (o := ⟨some 25, .build 47 _, _, _, _, _⟩) (by with_unfolding_all rfl) (hv 0 0) w5 (exec_build91z rfl) ?_)
          | (with_reducible refine wpList_storesAll (o := ⟨none, .store 47 (.tmp 2) (.tmp 25), _, _, _, _⟩) rfl 47 (.tmp 2) (.tmp 25) rfl rfl br (hc 0 0) rfl (hv 0 0) rfl rfl 47 _ hbh5 rfl (hc_one 0 0) (size91_of 0 0) ?_; intro w8 hb8 m8 z8; replace z8 := Lib.hid z8))
        refine bodyPost_ret (results_cell_tmp rfl _ _ br _ (.int .i64 er) _ rfl rfl (Cells.of_holds hb8) Tryd.underlying47 rfl (size91_of 0 0)) rfl ?_
        obtain ⟨D4, mi4, hgx, hgh⟩ := HF.out
        have hst : R = (L, er, T1) := by
          have e1 := HP.out.1
          rw [if_neg h0] at e1
          have := reads_stop S 0 (k + 1) (by rw [e1]; exact h0) (2 - (k + 1))
          rw [show k + 1 + (2 - (k + 1)) = 2 by omega, e1] at this
          rw [HH.out.2.2.2.2.1, this]
        rw [hst]
        have D5 := D4.keep m5 (by simpa using hgx.symm) (by simpa using fun e => D4.firm.ne_holds hx4 (by first | exact e | exact e.symm)) (fun z hz => by simpa using D4.loose.ne hx4 (by decide) z hz)
        refine ⟨.inl ⟨h0, rfl⟩, ?_, (mi4.trans m5 (fun i hi h => by have := HO.out; simp at h; omega)).trans m8 (fun i hi h => by have := HO.out; simp at h; omega)⟩
        refine D5.keep m8 (by simpa using hgh.symm) (by simpa using fun e => D5.firm.ne_holds hbh5 (by first | exact e | exact e.symm)) (fun z hz => by simpa using D5.loose.ne hbh5 (by decide) z hz)
    · obtain rfl : k = 2 := by omega
      have hst : R = (L, 0, T) := by rw [HH.out.2.2.2.2.1, hrd]
      have hLl : L.length = 2 := by have := reads_length S 0 2 (by rw [hrd]); rw [hrd] at this; exact this
      have hall : cs = bs L := by
        unfold bs
        rw [← htk]
        exact (List.take_of_length_le (by omega)).symm
      rw [hall] at hx
      have hn0 : T.n = S.n := by have := reads_n S 0 2; rw [hrd] at this; exact this
      obtain ⟨wv, hwv⟩ : ∃ x, x = wr := ⟨_, rfl⟩
      subst hwv
      have HF := Lib.hid (And.intro hst (And.intro hLl (And.intro hn0 (And.intro DT (And.intro hmi hbh)))))
      have GW := Lib.hid (HH.out.1.keepN hmi (fun i hi => HH.out.2.2.1 i (by simp at hi; simp [hi])))
      clear hst hall DT hmi hrd htk hcl hl2 D2 mm hb1 hbh hb2 hLl hn0
      have hlb : bt < wv.heap.size := hx.lt
      go_wp2_with (first
        | (with_reducible refine wpList_allocs (o := ⟨some 7, .alloc 47, _, _, _, _⟩) rfl 47 rfl _ zero91 ?_
           intro w3 hb3 m3 z3
           obtain ⟨b7, eb7⟩ : ∃ b, b = wv.heap.size := ⟨_, rfl⟩
           rw [← eb7] at hb3
           rw [← eb7]
           have HO7 := Lib.hid (show wv.heap.size ≤ b7 ∧ b7 < w3.heap.size by omega)
           replace hx := hx.keep m3 (by simp)
           clear eb7 z3)
        | (with_reducible refine wpList_loads (o := ⟨some 28, .load 83 (.tmp 4), _, _, _, _⟩) rfl 83 (.tmp 4) rfl bt 0 _ rfl (Cells.of_holds hx) _ Tryd.underlying83 rfl (by rw [bs_length, HF.out.2.1]; exact size145) _ rfl ?_))
      clear hx
      go_loopw [29, 8] (fun i er wi => ∃ k : Nat, k ≤ 2 ∧ i = .int .i64 (k : Int) ∧ er = .int .i64 (eO (pickT c s S.n L k)) ∧ Holds wi b7 47 (hc (hO (pickT c s S.n L k)).1 ((hO (pickT c s S.n L k)).2 : Int)) ∧ mayT S.n (pickT c s S.n L k) ∧ Mod [] wv wi) (fun i _ _ => 2 - (intOf i).toNat)
      case atStart => exact ⟨0, by omega, rfl, rfl, hb3, (fun p hp => by cases hp), m3⟩
      case round =>
        obtain ⟨k, hk, rfl, rfl, h7, hmay, hmw⟩ := hrel
        by_cases hkn : k < 2
        · have hkZ : (k : Int) < 2 := by omega
          have hkl : k < L.length := by rw [HF.out.2.1]; exact hkn
          have hsu := pickT_succ c s S.n L k hkl
          obtain ⟨x, hx⟩ : ∃ x, x = L[k] := ⟨_, rfl⟩
          rw [← hx] at hsu
          have XI := fun (vv : World) (o : Oper) (ρ : Operand → Value) (y z : Operand) (h1 : o.op = .index 83 y z) (h2 : ρ y = .agg (bs L).toArray) (h3 : ρ z = .int .i64 (k : Int)) => exec_index145 (v := vv) HF.out.2.1 hkl rfl h1 h2 h3
          rw [← hx] at XI
          obtain ⟨o, ho⟩ : ∃ o, o = pickT c s S.n L k := ⟨_, rfl⟩
          rw [← ho] at h7 hmay hsu ⊢
          have XH := fun v => headed_c x v
          obtain ⟨q, hq⟩ : ∃ q, q = turnB x % 2 := ⟨_, rfl⟩
          obtain ⟨tx, htx⟩ : ∃ q, q = turnB x := ⟨_, rfl⟩
          obtain ⟨ax, hax⟩ : ∃ q, q = areaB x := ⟨_, rfl⟩
          have hok : okT c s S.n k x ↔ (q = k ∧ (4 ≤ ax ∧ ax ≤ 1000 ∧ 2 + 2 * ax ≤ S.n) ∧ titleB c s tx ax = x) := by rw [hq, htx, hax]; exact Iff.rfl
          unfold stepT at hsu
          rw [← htx, ← hax] at hsu
          rw [← htx] at hq
          rw [← htx, ← hax] at XH
          have hsi := Lib.hid (And.intro hsu (And.intro hok hq))
          clear hsu hok hq hx ho htx hax
          go_wp2_with (first
            | (with_reducible refine wpList_ranW (o := ⟨some 32, .index 83 _ _, _, _, _, _⟩) (by with_unfolding_all rfl) (bv x) wr (XI _ _ _ _ _ rfl rfl rfl) ?_)
            | (with_reducible refine wpList_allocs (o := ⟨some 10, .alloc 73, _, _, _, _⟩) rfl 73 rfl _ zero110 ?_; intro w10 hb10 m10 z10; replace z10 := Lib.hid z10)
            | (with_reducible refine wpList_storesAll (o := ⟨none, .store 73 (.tmp 10) (.tmp 32), _, _, _, _⟩) rfl 73 (.tmp 10) (.tmp 32) rfl rfl wr.heap.size (bc x) rfl (bv x) rfl rfl 73 _ hb10 (by rw [bc_length, bc_length]) (bc_one x) (by rw [bc_length]; exact size110) ?_
               intro w11 hb11 m11 z11
               have mx : Mod [] wr w11 := ⟨m11.os.trans m10.os, m11.tape.trans m10.tape, m11.output.trans m10.output, Nat.le_trans m10.size m11.size, fun i hi hn => (m11.block i (by have := m10.size; omega) (by simp; omega)).trans (m10.block i hi hn)⟩
               obtain ⟨b10, e10⟩ : ∃ b, b = wr.heap.size := ⟨_, rfl⟩
               rw [← e10] at hb11
               rw [← e10]
               replace h7 := h7.keep mx (by simp)
               replace e10 := Lib.hid e10
               replace z11 := Lib.hid z11
               clear m10 m11 hb10)
            | (with_reducible refine wpList_loads (o := ⟨some 33, .load 73 (.tmp 10), _, _, _, _⟩) rfl 73 (.tmp 10) rfl b10 0 _ rfl (Cells.of_holds hb11) _ Tryd.underlying73 rfl (by rw [bc_length]; exact size110) (bv x) rfl ?_))
          refine (XH _).mono ?_
          rintro r w12 ⟨rfl, htl, hal, m12⟩
          clear XH XI
          replace h7 := h7.keep m12 (by simp)
          replace hb11 := hb11.keep m12 (by simp)
          replace mx := mx.then m12
          clear m12
          go_wp2_with (first
            | (with_reducible refine wpList_allocs (o := ⟨some 11, .alloc 47, _, _, _, _⟩) rfl 47 rfl _ zero91 ?_
               intro w13 hb13 m13 z13
               have l1 := h7.lt
               have l2 := hb11.lt
               obtain ⟨b11, e11⟩ : ∃ b, b = w12.heap.size := ⟨_, rfl⟩
               rw [← e11] at hb13
               rw [← e11]
               replace h7 := h7.keep m13 (by simp)
               replace hb11 := hb11.keep m13 (by simp)
               replace mx := mx.then m13
               have hlb11 := Lib.hid (show b7 ≠ b11 ∧ b10 ≠ b11 ∧ wr.heap.size ≤ b11 by have := e10.out; omega)
               clear e11 z13 l1 l2)
            | (with_reducible refine wpList_storesAll (o := ⟨none, .store 47 (.tmp 11) (.tmp 34), _, _, _, _⟩) rfl 47 (.tmp 11) (.tmp 34) rfl rfl b11 (hc tx (ax : Int)) rfl (hv tx (ax : Int)) rfl rfl 47 _ hb13 rfl (hc_one _ _) (size91_of _ _) ?_
               intro w14 hb14 m14 z14
               replace z14 := Lib.hid z14))
          simp only [Act.put, List.setIfInBounds_toArray, List.set_cons_succ, List.set_cons_zero]
          have HB := hlb11.out
          have mw : Mod [] wv w14 := hmw.then (mx.trans m14 (fun i hi h => by simp at h; omega))
          replace h7 := h7.keep m14 (by simpa using HB.1)
          replace hb11 := hb11.keep m14 (by simpa using HB.2.1)
          have hgc := (dc_cells (HF.out.2.2.2.1.keep mw (by simp) (by simp) (by simp)).blk).1
          rw [HF.out.2.2.1] at hgc
          have XP := fun v => place_c tx (ax : Int) htl v
          have XT := fun v (k : Mod [] wv v) => title_c c s tx ax htl hal v (GW.out.keep k)
          have XF := fun v (h : v.cell? ⟨g, 0, none⟩ = some (.int .i64 (S.n : Int))) => fits_c tx g S.n (ax : Int) v h
          rw [← hsi.out.2.2] at XP
          obtain ⟨tb, htb⟩ : ∃ b, b = titleB c s tx ax := ⟨_, rfl⟩
          simp only [← htb] at XT
          have hokk := hsi.out.2.1
          rw [← htb] at hokk
          have hmay2 := mayT_step c s S.n k o x hmay
          unfold stepT at hmay2
          have hsu := hsi.out.1
          have HK := Lib.hid (And.intro h7 (And.intro hmay (And.intro mw (And.intro htl hal))))
          clear hlb11 mx m14 h7 hmay hmw hsi htb htl hal HB hmay2
          by_cases hq : q = k
          · have HQ : Hid (decide ((q : Int) ≠ (k : Int)) = false) := Lib.hid (by simp; omega)
            by_cases hfit : 4 ≤ ax ∧ ax ≤ 1000 ∧ 2 + 2 * ax ≤ S.n
            · have hfi : decide (4 ≤ (ax : Int) ∧ (ax : Int) ≤ 1000 ∧ 2 + 2 * (ax : Int) ≤ (S.n : Int)) = true := by simp; omega
              rw [hfi] at XF
              by_cases htt : tb = x
              · have hd : (!decide (tb = x)) = false := by simp [htt]
                have hnx : pickT c s S.n L (k + 1) = bestT o (tx, ax) := by rw [hsu, if_pos (hokk.2 ⟨hq, hfit, htt⟩)]
                have HN := Lib.hid (And.intro hnx hfit)
                clear hnx hfit hfi hsu hokk htt hq
                go_wp2_with fail
                refine Rg.wp_region_lit1 [Value.pointer (some { block := g, off := 0 }), undef, Value.pointer (some { block := br, off := 0 }), u3, Value.pointer (some { block := bt, off := 0 }), u5, u6, Value.pointer (some { block := b7, off := 0 }), Value.int IntKind.i64 (eO o), Value.int IntKind.i64 ↑k, Value.pointer (some { block := b10, off := 0 }), Value.pointer (some { block := b11, off := 0 }), Value.int IntKind.i64 2, Value.bool false, u14, u15, u16, u17, u18, u19, u20, u21, u22, u23, u24, u25, u26, u27, Value.agg (bs L).toArray, Value.int IntKind.i64 ↑k, Value.bool true, Value.int IntKind.i64 ↑k, bv x, bv x, hv tx ↑ax, hv tx (ax : Int), .int .i64 (q : Int), .int .i64 (k : Int), .bool false, .bool false, hv tx (ax : Int), .pointer (some ⟨g, 0, none⟩), .bool true, .bool false, .bool false, .bool false, hv tx (ax : Int), bv tb, bv x, .bool false, .bool false, u51, u52, u53, u54, u55, u56, u57, u58, u59, u60, u61, undef, undef] 64 [0, 1, 2, 3, 4, 5, 6, 7, 8, 9, 10, 11, 12, 13, 14, 15, 16, 17, 18, 19, 20, 21, 22, 23, 24, 25, 26, 27, 28, 29, 30, 31, 32, 33, 34, 51, 52, 53, 54, 55, 56, 57, 58, 59, 60, 61, 62, 63]
                  (fun lz v => Mod [] w14.drew v) []
                  (by kernel_rfl) rfl rfl rfl rfl (Mod.refl _ _) (by kernel_rfl) (by kernel_rfl) ?step ?fin
                case step =>
                  intro lz T v j o hj hlj hdep hst hpar hgot hcl Kq hK
                  have hjn : j < 16 := (Array.getElem?_eq_some_iff.1 hj).1
                  obtain rfl | rfl | rfl | rfl | rfl | rfl | rfl | rfl | rfl | rfl | rfl | rfl | rfl | rfl | rfl | rfl : j = 0 ∨ j = 1 ∨ j = 2 ∨ j = 3 ∨ j = 4 ∨ j = 5 ∨ j = 6 ∨ j = 7 ∨ j = 8 ∨ j = 9 ∨ j = 10 ∨ j = 11 ∨ j = 12 ∨ j = 13 ∨ j = 14 ∨ j = 15 := by omega
                  all_goals (have hj' := Option.some.inj (hj : some _ = some o); subst hj'; clear hj)
                  · exact Rg.wp_ran rfl (Rg.exec_load rfl (eval_tmp (hpar 11 (by simp))) (run_loads (Cells.of_holds (hb14.keep ((Mod.drew [] w14).then hst) (by simp))) Tryd.underlying47 rfl (size91_of tx (ax : Int)))) (hK _ _ (fun s hs => by cases hs; rfl) hst)
                  · exact Rg.wp_called rfl (Rg.exec_call1 rfl rfl (eval_tmp (hgot 0 _ 35 rfl (hdep ⟨0, .data⟩ (by simp) rfl) rfl)) (enters_of Tryd.func42 (by kernel_rfl) rfl)) ((XP v).mono (fun e v' hh => ⟨_, hh.1, hK _ _ (fun s hs => by cases hs; rfl) (hst.then hh.2)⟩))
                  · exact Rg.wp_ran rfl (Rg.exec_move rfl (eval_tmp (hpar 9 (by simp)))) (hK _ _ (fun s hs => by cases hs; rfl) hst)
                  · exact Rg.wp_ran rfl (exec_nei rfl (eval_tmp (hgot 1 _ 36 rfl (hdep ⟨1, .data⟩ (by simp) rfl) rfl)) (eval_tmp (hgot 2 _ 37 rfl (hdep ⟨2, .data⟩ (by simp) rfl) rfl)) (HQ.out)) (hK _ _ (fun s hs => by cases hs; rfl) hst)
                  · exact Rg.wp_ran rfl (Rg.exec_move rfl (eval_tmp (hgot 3 _ 38 rfl (hdep ⟨3, .data⟩ (by simp) rfl) rfl))) (hK _ _ (fun s hs => by cases hs; rfl) hst)
                  · exact Rg.wp_ranW (Rg.wanted_yes rfl rfl rfl (hgot 4 _ 39 rfl (hdep ⟨4, .guard⟩ (by simp) rfl) rfl)) (Rg.exec_load rfl (eval_tmp (hpar 11 (by simp))) (run_loads (Cells.of_holds (hb14.keep ((Mod.drew [] w14).then hst) (by simp))) Tryd.underlying47 rfl (size91_of tx (ax : Int)))) (hK _ _ (fun s hs => by cases hs; rfl) hst)
                  · exact Rg.wp_ranW (Rg.wanted_yes rfl rfl rfl (hgot 4 _ 39 rfl (hdep ⟨4, .guard⟩ (by simp) rfl) rfl)) (Rg.exec_move rfl (eval_tmp (hpar 0 (by simp)))) (hK _ _ (fun s hs => by cases hs; rfl) hst)
                  · exact Rg.wp_calledW (Rg.wanted_yes rfl rfl rfl (hgot 4 _ 39 rfl (hdep ⟨4, .guard⟩ (by simp) rfl) rfl)) (Rg.exec_call2 rfl rfl (eval_tmp (hgot 5 _ 40 rfl (hdep ⟨5, .data⟩ (by simp) rfl) rfl)) (eval_tmp (hgot 6 _ 41 rfl (hdep ⟨6, .data⟩ (by simp) rfl) rfl)) (enters_of Tryd.func17 (by kernel_rfl) rfl)) ((XF v (((Mod.drew [] w14).then hst).cell (by simp) hgc)).mono (fun e v' hh => ⟨_, hh.1, hK _ _ (fun s hs => by cases hs; rfl) (hst.then hh.2)⟩))
                  · exact Rg.wp_ranW (Rg.wanted_yes rfl rfl rfl (hgot 4 _ 39 rfl (hdep ⟨4, .guard⟩ (by simp) rfl) rfl)) (exec_not rfl (eval_tmp (hgot 7 _ 42 rfl (hdep ⟨7, .data⟩ (by simp) rfl) rfl)) rfl) (hK _ _ (fun s hs => by cases hs; rfl) hst)
                  · exact Rg.wp_ran rfl (Rg.exec_pick rfl (eval_tmp (hgot 4 _ 39 rfl (hdep ⟨4, .data⟩ (by simp) rfl) rfl)) rfl (eval_tmp (hgot 8 _ 43 rfl (hdep ⟨8, .data⟩ (by simp) rfl) rfl)) rfl) (hK _ _ (fun s hs => by cases hs; rfl) hst)
                  · exact Rg.wp_ran rfl (Rg.exec_move rfl (eval_tmp (hgot 9 _ 44 rfl (hdep ⟨9, .data⟩ (by simp) rfl) rfl))) (hK _ _ (fun s hs => by cases hs; rfl) hst)
                  · exact Rg.wp_ranW (Rg.wanted_yes rfl rfl rfl (hgot 10 _ 45 rfl (hdep ⟨10, .guard⟩ (by simp) rfl) rfl)) (Rg.exec_load rfl (eval_tmp (hpar 11 (by simp))) (run_loads (Cells.of_holds (hb14.keep ((Mod.drew [] w14).then hst) (by simp))) Tryd.underlying47 rfl (size91_of tx (ax : Int)))) (hK _ _ (fun s hs => by cases hs; rfl) hst)
                  · exact Rg.wp_calledW (Rg.wanted_yes rfl rfl rfl (hgot 10 _ 45 rfl (hdep ⟨10, .guard⟩ (by simp) rfl) rfl)) (Rg.exec_call1 rfl rfl (eval_tmp (hgot 11 _ 46 rfl (hdep ⟨11, .data⟩ (by simp) rfl) rfl)) (enters_of Tryd.func43 (by kernel_rfl) rfl)) ((XT v (HK.out.2.2.1.then ((Mod.drew [] w14).then hst))).mono (fun e v' hh => ⟨_, hh.1, hK _ _ (fun s hs => by cases hs; rfl) (hst.then hh.2)⟩))
                  · exact Rg.wp_ranW (Rg.wanted_yes rfl rfl rfl (hgot 10 _ 45 rfl (hdep ⟨10, .guard⟩ (by simp) rfl) rfl)) (Rg.exec_load rfl (eval_tmp (hpar 10 (by simp))) (run_loads (Cells.of_holds (hb11.keep ((Mod.drew [] w14).then hst) (by simp))) Tryd.underlying73 rfl (by rw [bc_length]; exact size110))) (hK _ _ (fun s hs => by cases hs; rfl) hst)
                  · exact Rg.wp_ranW (Rg.wanted_yes rfl rfl rfl (hgot 10 _ 45 rfl (hdep ⟨10, .guard⟩ (by simp) rfl) rfl)) (exec_neb_v rfl (eval_tmp (hgot 12 _ 47 rfl (hdep ⟨12, .data⟩ (by simp) rfl) rfl)) (eval_tmp (hgot 13 _ 48 rfl (hdep ⟨13, .data⟩ (by simp) rfl) rfl)) hd) (hK _ _ (fun s hs => by cases hs; rfl) hst)
                  · exact Rg.wp_ran rfl (Rg.exec_pick rfl (eval_tmp (hgot 10 _ 45 rfl (hdep ⟨10, .data⟩ (by simp) rfl) rfl)) rfl (eval_tmp (hgot 14 _ 49 rfl (hdep ⟨14, .data⟩ (by simp) rfl) rfl)) rfl) (hK _ _ (fun s hs => by cases hs; rfl) hst)
                case fin =>
                  intro lz v hl hst
                  clear hl
                  dsimp only
                  have mv : Mod [] w14 v := (Mod.drew [] w14).then hst
                  have h7v := HK.out.1.keep mv (by simp)
                  have b14v := hb14.keep mv (by simp)
                  have c14 := b14v.cell 0
                  simp only [hc, List.getElem?_cons_zero] at c14
                  clear hst hd hgc XP XT XF HQ
                  rcases o with _ | ⟨t0, a0⟩
                  · simp only [eO]
                    go_wp2_with (first
                        | (with_reducible refine wpList_loads (o := ⟨some 60, .load 47 (.tmp 11), _, _, _, _⟩) rfl 47 (.tmp 11) rfl b11 0 _ rfl (Cells.of_holds b14v) _ Tryd.underlying47 rfl (size91_of tx (ax : Int)) (hv tx (ax : Int)) rfl ?_)
                        | (with_reducible refine wpList_storesAll (o := ⟨none, .store 47 (.tmp 7) (.tmp 60), _, _, _, _⟩) rfl 47 (.tmp 7) (.tmp 60) rfl rfl b7 (hc tx (ax : Int)) rfl (hv tx (ax : Int)) rfl rfl 47 _ h7v rfl (hc_one _ _) (size91_of _ _) ?_; intro w20 hb20 m20 z20; replace z20 := Lib.hid z20))
                    obtain ⟨h7, hmay, mw, htl, hal⟩ := HK.out
                    refine ⟨⟨k + 1, by omega, by go_num, by rw [HN.out.1]; simp [bestT, eO], by rw [HN.out.1]; simpa [bestT, hO] using hb20, ?_, (mw.then mv).trans m20 (fun i hi h => by have := HO7.out; simp at h; omega)⟩, by simp [intOf]; omega⟩
                    rw [HN.out.1]
                    unfold bestT
                    dsimp only
                    rintro p ⟨⟩
                    exact ⟨htl, HN.out.2.1, HN.out.2.2.1, HN.out.2.2.2⟩
                  · simp only [eO]
                    have c7 := h7v.cell 0
                    simp only [hO, hc, List.getElem?_cons_zero] at c7
                    by_cases hlt : t0 < tx
                    · have hltZ : (t0 : Int) < (tx : Int) := by omega
                      go_wp2_with (first
                          | (with_reducible refine wpList_loads (o := ⟨some 60, .load 47 (.tmp 11), _, _, _, _⟩) rfl 47 (.tmp 11) rfl b11 0 _ rfl (Cells.of_holds b14v) _ Tryd.underlying47 rfl (size91_of tx (ax : Int)) (hv tx (ax : Int)) rfl ?_)
                          | (with_reducible refine wpList_storesAll (o := ⟨none, .store 47 (.tmp 7) (.tmp 60), _, _, _, _⟩) rfl 47 (.tmp 7) (.tmp 60) rfl rfl b7 (hc tx (ax : Int)) rfl (hv tx (ax : Int)) rfl rfl 47 _ h7v rfl (hc_one _ _) (size91_of _ _) ?_; intro w20 hb20 m20 z20; replace z20 := Lib.hid z20))
                      obtain ⟨h7, hmay, mw, htl, hal⟩ := HK.out
                      refine ⟨⟨k + 1, by omega, by go_num, by rw [HN.out.1]; simp [bestT, eO, hlt], by rw [HN.out.1]; simpa [bestT, hO, hlt] using hb20, ?_, (mw.then mv).trans m20 (fun i hi h => by have := HO7.out; simp at h; omega)⟩, by simp [intOf]; omega⟩
                      rw [HN.out.1]
                      unfold bestT
                      dsimp only
                      rw [if_pos hlt]
                      rintro p ⟨⟩
                      exact ⟨htl, HN.out.2.1, HN.out.2.2.1, HN.out.2.2.2⟩
                    · have hltZ : ¬ ((t0 : Int) < (tx : Int)) := by omega
                      go_wp2_with fail
                      obtain ⟨h7, hmay, mw, htl, hal⟩ := HK.out
                      refine ⟨⟨k + 1, by omega, by go_num, by rw [HN.out.1]; simp [bestT, eO, hlt], by rw [HN.out.1]; simpa [bestT, hO, hlt] using h7v, ?_, mw.then mv⟩, by simp [intOf]; omega⟩
                      rw [HN.out.1]
                      unfold bestT
                      dsimp only
                      rw [if_neg hlt]
                      exact hmay
              · have hd : (!decide (tb = x)) = true := by simp [htt]
                have hnx : pickT c s S.n L (k + 1) = o := by rw [hsu, if_neg (fun h => htt (hokk.1 h).2.2)]
                have HN := Lib.hid hnx
                clear hnx hfit hfi hsu hokk htt hq
                go_wp2_with fail
                refine Rg.wp_region_lit1 [Value.pointer (some { block := g, off := 0 }), undef, Value.pointer (some { block := br, off := 0 }), u3, Value.pointer (some { block := bt, off := 0 }), u5, u6, Value.pointer (some { block := b7, off := 0 }), Value.int IntKind.i64 (eO o), Value.int IntKind.i64 ↑k, Value.pointer (some { block := b10, off := 0 }), Value.pointer (some { block := b11, off := 0 }), Value.int IntKind.i64 2, Value.bool false, u14, u15, u16, u17, u18, u19, u20, u21, u22, u23, u24, u25, u26, u27, Value.agg (bs L).toArray, Value.int IntKind.i64 ↑k, Value.bool true, Value.int IntKind.i64 ↑k, bv x, bv x, hv tx ↑ax, hv tx (ax : Int), .int .i64 (q : Int), .int .i64 (k : Int), .bool false, .bool false, hv tx (ax : Int), .pointer (some ⟨g, 0, none⟩), .bool true, .bool false, .bool false, .bool false, hv tx (ax : Int), bv tb, bv x, .bool true, .bool true, u51, u52, u53, u54, u55, u56, u57, u58, u59, u60, u61, undef, undef] 64 [0, 1, 2, 3, 4, 5, 6, 7, 8, 9, 10, 11, 12, 13, 14, 15, 16, 17, 18, 19, 20, 21, 22, 23, 24, 25, 26, 27, 28, 29, 30, 31, 32, 33, 34, 51, 52, 53, 54, 55, 56, 57, 58, 59, 60, 61, 62, 63]
                  (fun lz v => Mod [] w14.drew v) []
                  (by kernel_rfl) rfl rfl rfl rfl (Mod.refl _ _) (by kernel_rfl) (by kernel_rfl) ?step ?fin
                case step =>
                  intro lz T v j o hj hlj hdep hst hpar hgot hcl Kq hK
                  have hjn : j < 16 := (Array.getElem?_eq_some_iff.1 hj).1
                  obtain rfl | rfl | rfl | rfl | rfl | rfl | rfl | rfl | rfl | rfl | rfl | rfl | rfl | rfl | rfl | rfl : j = 0 ∨ j = 1 ∨ j = 2 ∨ j = 3 ∨ j = 4 ∨ j = 5 ∨ j = 6 ∨ j = 7 ∨ j = 8 ∨ j = 9 ∨ j = 10 ∨ j = 11 ∨ j = 12 ∨ j = 13 ∨ j = 14 ∨ j = 15 := by omega
                  all_goals (have hj' := Option.some.inj (hj : some _ = some o); subst hj'; clear hj)
                  · exact Rg.wp_ran rfl (Rg.exec_load rfl (eval_tmp (hpar 11 (by simp))) (run_loads (Cells.of_holds (hb14.keep ((Mod.drew [] w14).then hst) (by simp))) Tryd.underlying47 rfl (size91_of tx (ax : Int)))) (hK _ _ (fun s hs => by cases hs; rfl) hst)
                  · exact Rg.wp_called rfl (Rg.exec_call1 rfl rfl (eval_tmp (hgot 0 _ 35 rfl (hdep ⟨0, .data⟩ (by simp) rfl) rfl)) (enters_of Tryd.func42 (by kernel_rfl) rfl)) ((XP v).mono (fun e v' hh => ⟨_, hh.1, hK _ _ (fun s hs => by cases hs; rfl) (hst.then hh.2)⟩))
                  · exact Rg.wp_ran rfl (Rg.exec_move rfl (eval_tmp (hpar 9 (by simp)))) (hK _ _ (fun s hs => by cases hs; rfl) hst)
                  · exact Rg.wp_ran rfl (exec_nei rfl (eval_tmp (hgot 1 _ 36 rfl (hdep ⟨1, .data⟩ (by simp) rfl) rfl)) (eval_tmp (hgot 2 _ 37 rfl (hdep ⟨2, .data⟩ (by simp) rfl) rfl)) (HQ.out)) (hK _ _ (fun s hs => by cases hs; rfl) hst)
                  · exact Rg.wp_ran rfl (Rg.exec_move rfl (eval_tmp (hgot 3 _ 38 rfl (hdep ⟨3, .data⟩ (by simp) rfl) rfl))) (hK _ _ (fun s hs => by cases hs; rfl) hst)
                  · exact Rg.wp_ranW (Rg.wanted_yes rfl rfl rfl (hgot 4 _ 39 rfl (hdep ⟨4, .guard⟩ (by simp) rfl) rfl)) (Rg.exec_load rfl (eval_tmp (hpar 11 (by simp))) (run_loads (Cells.of_holds (hb14.keep ((Mod.drew [] w14).then hst) (by simp))) Tryd.underlying47 rfl (size91_of tx (ax : Int)))) (hK _ _ (fun s hs => by cases hs; rfl) hst)
                  · exact Rg.wp_ranW (Rg.wanted_yes rfl rfl rfl (hgot 4 _ 39 rfl (hdep ⟨4, .guard⟩ (by simp) rfl) rfl)) (Rg.exec_move rfl (eval_tmp (hpar 0 (by simp)))) (hK _ _ (fun s hs => by cases hs; rfl) hst)
                  · exact Rg.wp_calledW (Rg.wanted_yes rfl rfl rfl (hgot 4 _ 39 rfl (hdep ⟨4, .guard⟩ (by simp) rfl) rfl)) (Rg.exec_call2 rfl rfl (eval_tmp (hgot 5 _ 40 rfl (hdep ⟨5, .data⟩ (by simp) rfl) rfl)) (eval_tmp (hgot 6 _ 41 rfl (hdep ⟨6, .data⟩ (by simp) rfl) rfl)) (enters_of Tryd.func17 (by kernel_rfl) rfl)) ((XF v (((Mod.drew [] w14).then hst).cell (by simp) hgc)).mono (fun e v' hh => ⟨_, hh.1, hK _ _ (fun s hs => by cases hs; rfl) (hst.then hh.2)⟩))
                  · exact Rg.wp_ranW (Rg.wanted_yes rfl rfl rfl (hgot 4 _ 39 rfl (hdep ⟨4, .guard⟩ (by simp) rfl) rfl)) (exec_not rfl (eval_tmp (hgot 7 _ 42 rfl (hdep ⟨7, .data⟩ (by simp) rfl) rfl)) rfl) (hK _ _ (fun s hs => by cases hs; rfl) hst)
                  · exact Rg.wp_ran rfl (Rg.exec_pick rfl (eval_tmp (hgot 4 _ 39 rfl (hdep ⟨4, .data⟩ (by simp) rfl) rfl)) rfl (eval_tmp (hgot 8 _ 43 rfl (hdep ⟨8, .data⟩ (by simp) rfl) rfl)) rfl) (hK _ _ (fun s hs => by cases hs; rfl) hst)
                  · exact Rg.wp_ran rfl (Rg.exec_move rfl (eval_tmp (hgot 9 _ 44 rfl (hdep ⟨9, .data⟩ (by simp) rfl) rfl))) (hK _ _ (fun s hs => by cases hs; rfl) hst)
                  · exact Rg.wp_ranW (Rg.wanted_yes rfl rfl rfl (hgot 10 _ 45 rfl (hdep ⟨10, .guard⟩ (by simp) rfl) rfl)) (Rg.exec_load rfl (eval_tmp (hpar 11 (by simp))) (run_loads (Cells.of_holds (hb14.keep ((Mod.drew [] w14).then hst) (by simp))) Tryd.underlying47 rfl (size91_of tx (ax : Int)))) (hK _ _ (fun s hs => by cases hs; rfl) hst)
                  · exact Rg.wp_calledW (Rg.wanted_yes rfl rfl rfl (hgot 10 _ 45 rfl (hdep ⟨10, .guard⟩ (by simp) rfl) rfl)) (Rg.exec_call1 rfl rfl (eval_tmp (hgot 11 _ 46 rfl (hdep ⟨11, .data⟩ (by simp) rfl) rfl)) (enters_of Tryd.func43 (by kernel_rfl) rfl)) ((XT v (HK.out.2.2.1.then ((Mod.drew [] w14).then hst))).mono (fun e v' hh => ⟨_, hh.1, hK _ _ (fun s hs => by cases hs; rfl) (hst.then hh.2)⟩))
                  · exact Rg.wp_ranW (Rg.wanted_yes rfl rfl rfl (hgot 10 _ 45 rfl (hdep ⟨10, .guard⟩ (by simp) rfl) rfl)) (Rg.exec_load rfl (eval_tmp (hpar 10 (by simp))) (run_loads (Cells.of_holds (hb11.keep ((Mod.drew [] w14).then hst) (by simp))) Tryd.underlying73 rfl (by rw [bc_length]; exact size110))) (hK _ _ (fun s hs => by cases hs; rfl) hst)
                  · exact Rg.wp_ranW (Rg.wanted_yes rfl rfl rfl (hgot 10 _ 45 rfl (hdep ⟨10, .guard⟩ (by simp) rfl) rfl)) (exec_neb_v rfl (eval_tmp (hgot 12 _ 47 rfl (hdep ⟨12, .data⟩ (by simp) rfl) rfl)) (eval_tmp (hgot 13 _ 48 rfl (hdep ⟨13, .data⟩ (by simp) rfl) rfl)) hd) (hK _ _ (fun s hs => by cases hs; rfl) hst)
                  · exact Rg.wp_ran rfl (Rg.exec_pick rfl (eval_tmp (hgot 10 _ 45 rfl (hdep ⟨10, .data⟩ (by simp) rfl) rfl)) rfl (eval_tmp (hgot 14 _ 49 rfl (hdep ⟨14, .data⟩ (by simp) rfl) rfl)) rfl) (hK _ _ (fun s hs => by cases hs; rfl) hst)
                case fin =>
                  intro lz v hl hst
                  clear hl
                  dsimp only
                  obtain ⟨h7, hmay, mw, -, -⟩ := HK.out
                  have mv : Mod [] w14 v := (Mod.drew [] w14).then hst
                  have h7v := h7.keep mv (by simp)
                  clear hst
                  go_wp2
                  refine ⟨⟨k + 1, by omega, by go_num, by rw [HN.out], by rw [HN.out]; exact h7v, by rw [HN.out]; exact hmay, mw.then mv⟩, by simp [intOf]; omega⟩
            · have hfi : decide (4 ≤ (ax : Int) ∧ (ax : Int) ≤ 1000 ∧ 2 + 2 * (ax : Int) ≤ (S.n : Int)) = false := by simp; omega
              rw [hfi] at XF
              have hnx : pickT c s S.n L (k + 1) = o := by rw [hsu, if_neg (fun h => hfit (hokk.1 h).2.1)]
              have HN := Lib.hid hnx
              clear hnx hfit hfi hsu hokk hq
              go_wp2_with fail
              refine Rg.wp_region_lit1 [Value.pointer (some { block := g, off := 0 }), undef, Value.pointer (some { block := br, off := 0 }), u3, Value.pointer (some { block := bt, off := 0 }), u5, u6, Value.pointer (some { block := b7, off := 0 }), Value.int IntKind.i64 (eO o), Value.int IntKind.i64 ↑k, Value.pointer (some { block := b10, off := 0 }), Value.pointer (some { block := b11, off := 0 }), Value.int IntKind.i64 2, Value.bool false, u14, u15, u16, u17, u18, u19, u20, u21, u22, u23, u24, u25, u26, u27, Value.agg (bs L).toArray, Value.int IntKind.i64 ↑k, Value.bool true, Value.int IntKind.i64 ↑k, bv x, bv x, hv tx ↑ax, hv tx (ax : Int), .int .i64 (q : Int), .int .i64 (k : Int), .bool false, .bool false, hv tx (ax : Int), .pointer (some ⟨g, 0, none⟩), .bool false, .bool true, .bool true, .bool true, undef, undef, undef, undef, .bool true, u51, u52, u53, u54, u55, u56, u57, u58, u59, u60, u61, undef, undef] 64 [0, 1, 2, 3, 4, 5, 6, 7, 8, 9, 10, 11, 12, 13, 14, 15, 16, 17, 18, 19, 20, 21, 22, 23, 24, 25, 26, 27, 28, 29, 30, 31, 32, 33, 34, 51, 52, 53, 54, 55, 56, 57, 58, 59, 60, 61, 62, 63]
                (fun lz v => Mod [] w14.drew v) []
                (by kernel_rfl) rfl rfl rfl rfl (Mod.refl _ _) (by kernel_rfl) (by kernel_rfl) ?step ?fin
              case step =>
                intro lz T v j o hj hlj hdep hst hpar hgot hcl Kq hK
                have hjn : j < 16 := (Array.getElem?_eq_some_iff.1 hj).1
                obtain rfl | rfl | rfl | rfl | rfl | rfl | rfl | rfl | rfl | rfl | rfl | rfl | rfl | rfl | rfl | rfl : j = 0 ∨ j = 1 ∨ j = 2 ∨ j = 3 ∨ j = 4 ∨ j = 5 ∨ j = 6 ∨ j = 7 ∨ j = 8 ∨ j = 9 ∨ j = 10 ∨ j = 11 ∨ j = 12 ∨ j = 13 ∨ j = 14 ∨ j = 15 := by omega
                all_goals (have hj' := Option.some.inj (hj : some _ = some o); subst hj'; clear hj)
                · exact Rg.wp_ran rfl (Rg.exec_load rfl (eval_tmp (hpar 11 (by simp))) (run_loads (Cells.of_holds (hb14.keep ((Mod.drew [] w14).then hst) (by simp))) Tryd.underlying47 rfl (size91_of tx (ax : Int)))) (hK _ _ (fun s hs => by cases hs; rfl) hst)
                · exact Rg.wp_called rfl (Rg.exec_call1 rfl rfl (eval_tmp (hgot 0 _ 35 rfl (hdep ⟨0, .data⟩ (by simp) rfl) rfl)) (enters_of Tryd.func42 (by kernel_rfl) rfl)) ((XP v).mono (fun e v' hh => ⟨_, hh.1, hK _ _ (fun s hs => by cases hs; rfl) (hst.then hh.2)⟩))
                · exact Rg.wp_ran rfl (Rg.exec_move rfl (eval_tmp (hpar 9 (by simp)))) (hK _ _ (fun s hs => by cases hs; rfl) hst)
                · exact Rg.wp_ran rfl (exec_nei rfl (eval_tmp (hgot 1 _ 36 rfl (hdep ⟨1, .data⟩ (by simp) rfl) rfl)) (eval_tmp (hgot 2 _ 37 rfl (hdep ⟨2, .data⟩ (by simp) rfl) rfl)) (HQ.out)) (hK _ _ (fun s hs => by cases hs; rfl) hst)
                · exact Rg.wp_ran rfl (Rg.exec_move rfl (eval_tmp (hgot 3 _ 38 rfl (hdep ⟨3, .data⟩ (by simp) rfl) rfl))) (hK _ _ (fun s hs => by cases hs; rfl) hst)
                · exact Rg.wp_ranW (Rg.wanted_yes rfl rfl rfl (hgot 4 _ 39 rfl (hdep ⟨4, .guard⟩ (by simp) rfl) rfl)) (Rg.exec_load rfl (eval_tmp (hpar 11 (by simp))) (run_loads (Cells.of_holds (hb14.keep ((Mod.drew [] w14).then hst) (by simp))) Tryd.underlying47 rfl (size91_of tx (ax : Int)))) (hK _ _ (fun s hs => by cases hs; rfl) hst)
                · exact Rg.wp_ranW (Rg.wanted_yes rfl rfl rfl (hgot 4 _ 39 rfl (hdep ⟨4, .guard⟩ (by simp) rfl) rfl)) (Rg.exec_move rfl (eval_tmp (hpar 0 (by simp)))) (hK _ _ (fun s hs => by cases hs; rfl) hst)
                · exact Rg.wp_calledW (Rg.wanted_yes rfl rfl rfl (hgot 4 _ 39 rfl (hdep ⟨4, .guard⟩ (by simp) rfl) rfl)) (Rg.exec_call2 rfl rfl (eval_tmp (hgot 5 _ 40 rfl (hdep ⟨5, .data⟩ (by simp) rfl) rfl)) (eval_tmp (hgot 6 _ 41 rfl (hdep ⟨6, .data⟩ (by simp) rfl) rfl)) (enters_of Tryd.func17 (by kernel_rfl) rfl)) ((XF v (((Mod.drew [] w14).then hst).cell (by simp) hgc)).mono (fun e v' hh => ⟨_, hh.1, hK _ _ (fun s hs => by cases hs; rfl) (hst.then hh.2)⟩))
                · exact Rg.wp_ranW (Rg.wanted_yes rfl rfl rfl (hgot 4 _ 39 rfl (hdep ⟨4, .guard⟩ (by simp) rfl) rfl)) (exec_not rfl (eval_tmp (hgot 7 _ 42 rfl (hdep ⟨7, .data⟩ (by simp) rfl) rfl)) rfl) (hK _ _ (fun s hs => by cases hs; rfl) hst)
                · exact Rg.wp_ran rfl (Rg.exec_pick rfl (eval_tmp (hgot 4 _ 39 rfl (hdep ⟨4, .data⟩ (by simp) rfl) rfl)) rfl (eval_tmp (hgot 8 _ 43 rfl (hdep ⟨8, .data⟩ (by simp) rfl) rfl)) rfl) (hK _ _ (fun s hs => by cases hs; rfl) hst)
                · exact Rg.wp_ran rfl (Rg.exec_move rfl (eval_tmp (hgot 9 _ 44 rfl (hdep ⟨9, .data⟩ (by simp) rfl) rfl))) (hK _ _ (fun s hs => by cases hs; rfl) hst)
                · exact Rg.wp_skip (Rg.wanted_no rfl rfl rfl rfl (hgot 10 _ 45 rfl (hdep ⟨10, .guard⟩ (by simp) rfl) rfl)) (hK _ _ (fun s hs => by cases hs; rfl) hst)
                · exact Rg.wp_skip (Rg.wanted_no rfl rfl rfl rfl (hgot 10 _ 45 rfl (hdep ⟨10, .guard⟩ (by simp) rfl) rfl)) (hK _ _ (fun s hs => by cases hs; rfl) hst)
                · exact Rg.wp_skip (Rg.wanted_no rfl rfl rfl rfl (hgot 10 _ 45 rfl (hdep ⟨10, .guard⟩ (by simp) rfl) rfl)) (hK _ _ (fun s hs => by cases hs; rfl) hst)
                · exact Rg.wp_skip (Rg.wanted_no rfl rfl rfl rfl (hgot 10 _ 45 rfl (hdep ⟨10, .guard⟩ (by simp) rfl) rfl)) (hK _ _ (fun s hs => by cases hs; rfl) hst)
                · exact Rg.wp_ran rfl (Rg.exec_pick rfl (eval_tmp (hgot 10 _ 45 rfl (hdep ⟨10, .data⟩ (by simp) rfl) rfl)) rfl (eval_tmp (hgot 14 _ 49 rfl (hdep ⟨14, .data⟩ (by simp) rfl) rfl)) rfl) (hK _ _ (fun s hs => by cases hs; rfl) hst)
              case fin =>
                intro lz v hl hst
                clear hl
                dsimp only
                obtain ⟨h7, hmay, mw, -, -⟩ := HK.out
                have mv : Mod [] w14 v := (Mod.drew [] w14).then hst
                have h7v := h7.keep mv (by simp)
                clear hst
                go_wp2
                refine ⟨⟨k + 1, by omega, by go_num, by rw [HN.out], by rw [HN.out]; exact h7v, by rw [HN.out]; exact hmay, mw.then mv⟩, by simp [intOf]; omega⟩
          · have HQ : Hid (decide ((q : Int) ≠ (k : Int)) = true) := Lib.hid (by simp; omega)
            have hnx : pickT c s S.n L (k + 1) = o := by rw [hsu, if_neg (fun h => hq (hokk.1 h).1)]
            have HN := Lib.hid hnx
            clear hnx hsu hokk hq XF
            go_wp2_with fail
            refine Rg.wp_region_lit1 [Value.pointer (some { block := g, off := 0 }), undef, Value.pointer (some { block := br, off := 0 }), u3, Value.pointer (some { block := bt, off := 0 }), u5, u6, Value.pointer (some { block := b7, off := 0 }), Value.int IntKind.i64 (eO o), Value.int IntKind.i64 ↑k, Value.pointer (some { block := b10, off := 0 }), Value.pointer (some { block := b11, off := 0 }), Value.int IntKind.i64 2, Value.bool false, u14, u15, u16, u17, u18, u19, u20, u21, u22, u23, u24, u25, u26, u27, Value.agg (bs L).toArray, Value.int IntKind.i64 ↑k, Value.bool true, Value.int IntKind.i64 ↑k, bv x, bv x, hv tx ↑ax, hv tx (ax : Int), .int .i64 (q : Int), .int .i64 (k : Int), .bool true, .bool true, undef, undef, undef, undef, .bool true, .bool true, undef, undef, undef, undef, .bool true, u51, u52, u53, u54, u55, u56, u57, u58, u59, u60, u61, undef, undef] 64 [0, 1, 2, 3, 4, 5, 6, 7, 8, 9, 10, 11, 12, 13, 14, 15, 16, 17, 18, 19, 20, 21, 22, 23, 24, 25, 26, 27, 28, 29, 30, 31, 32, 33, 34, 51, 52, 53, 54, 55, 56, 57, 58, 59, 60, 61, 62, 63]
              (fun lz v => Mod [] w14.drew v) []
              (by kernel_rfl) rfl rfl rfl rfl (Mod.refl _ _) (by kernel_rfl) (by kernel_rfl) ?step ?fin
            case step =>
              intro lz T v j o hj hlj hdep hst hpar hgot hcl Kq hK
              have hjn : j < 16 := (Array.getElem?_eq_some_iff.1 hj).1
              obtain rfl | rfl | rfl | rfl | rfl | rfl | rfl | rfl | rfl | rfl | rfl | rfl | rfl | rfl | rfl | rfl : j = 0 ∨ j = 1 ∨ j = 2 ∨ j = 3 ∨ j = 4 ∨ j = 5 ∨ j = 6 ∨ j = 7 ∨ j = 8 ∨ j = 9 ∨ j = 10 ∨ j = 11 ∨ j = 12 ∨ j = 13 ∨ j = 14 ∨ j = 15 := by omega
              all_goals (have hj' := Option.some.inj (hj : some _ = some o); subst hj'; clear hj)
              · exact Rg.wp_ran rfl (Rg.exec_load rfl (eval_tmp (hpar 11 (by simp))) (run_loads (Cells.of_holds (hb14.keep ((Mod.drew [] w14).then hst) (by simp))) Tryd.underlying47 rfl (size91_of tx (ax : Int)))) (hK _ _ (fun s hs => by cases hs; rfl) hst)
              · exact Rg.wp_called rfl (Rg.exec_call1 rfl rfl (eval_tmp (hgot 0 _ 35 rfl (hdep ⟨0, .data⟩ (by simp) rfl) rfl)) (enters_of Tryd.func42 (by kernel_rfl) rfl)) ((XP v).mono (fun e v' hh => ⟨_, hh.1, hK _ _ (fun s hs => by cases hs; rfl) (hst.then hh.2)⟩))
              · exact Rg.wp_ran rfl (Rg.exec_move rfl (eval_tmp (hpar 9 (by simp)))) (hK _ _ (fun s hs => by cases hs; rfl) hst)
              · exact Rg.wp_ran rfl (exec_nei rfl (eval_tmp (hgot 1 _ 36 rfl (hdep ⟨1, .data⟩ (by simp) rfl) rfl)) (eval_tmp (hgot 2 _ 37 rfl (hdep ⟨2, .data⟩ (by simp) rfl) rfl)) (HQ.out)) (hK _ _ (fun s hs => by cases hs; rfl) hst)
              · exact Rg.wp_ran rfl (Rg.exec_move rfl (eval_tmp (hgot 3 _ 38 rfl (hdep ⟨3, .data⟩ (by simp) rfl) rfl))) (hK _ _ (fun s hs => by cases hs; rfl) hst)
              · exact Rg.wp_skip (Rg.wanted_no rfl rfl rfl rfl (hgot 4 _ 39 rfl (hdep ⟨4, .guard⟩ (by simp) rfl) rfl)) (hK _ _ (fun s hs => by cases hs; rfl) hst)
              · exact Rg.wp_skip (Rg.wanted_no rfl rfl rfl rfl (hgot 4 _ 39 rfl (hdep ⟨4, .guard⟩ (by simp) rfl) rfl)) (hK _ _ (fun s hs => by cases hs; rfl) hst)
              · exact Rg.wp_skip (Rg.wanted_no rfl rfl rfl rfl (hgot 4 _ 39 rfl (hdep ⟨4, .guard⟩ (by simp) rfl) rfl)) (hK _ _ (fun s hs => by cases hs; rfl) hst)
              · exact Rg.wp_skip (Rg.wanted_no rfl rfl rfl rfl (hgot 4 _ 39 rfl (hdep ⟨4, .guard⟩ (by simp) rfl) rfl)) (hK _ _ (fun s hs => by cases hs; rfl) hst)
              · exact Rg.wp_ran rfl (Rg.exec_pick rfl (eval_tmp (hgot 4 _ 39 rfl (hdep ⟨4, .data⟩ (by simp) rfl) rfl)) rfl (eval_tmp (hgot 8 _ 43 rfl (hdep ⟨8, .data⟩ (by simp) rfl) rfl)) rfl) (hK _ _ (fun s hs => by cases hs; rfl) hst)
              · exact Rg.wp_ran rfl (Rg.exec_move rfl (eval_tmp (hgot 9 _ 44 rfl (hdep ⟨9, .data⟩ (by simp) rfl) rfl))) (hK _ _ (fun s hs => by cases hs; rfl) hst)
              · exact Rg.wp_skip (Rg.wanted_no rfl rfl rfl rfl (hgot 10 _ 45 rfl (hdep ⟨10, .guard⟩ (by simp) rfl) rfl)) (hK _ _ (fun s hs => by cases hs; rfl) hst)
              · exact Rg.wp_skip (Rg.wanted_no rfl rfl rfl rfl (hgot 10 _ 45 rfl (hdep ⟨10, .guard⟩ (by simp) rfl) rfl)) (hK _ _ (fun s hs => by cases hs; rfl) hst)
              · exact Rg.wp_skip (Rg.wanted_no rfl rfl rfl rfl (hgot 10 _ 45 rfl (hdep ⟨10, .guard⟩ (by simp) rfl) rfl)) (hK _ _ (fun s hs => by cases hs; rfl) hst)
              · exact Rg.wp_skip (Rg.wanted_no rfl rfl rfl rfl (hgot 10 _ 45 rfl (hdep ⟨10, .guard⟩ (by simp) rfl) rfl)) (hK _ _ (fun s hs => by cases hs; rfl) hst)
              · exact Rg.wp_ran rfl (Rg.exec_pick rfl (eval_tmp (hgot 10 _ 45 rfl (hdep ⟨10, .data⟩ (by simp) rfl) rfl)) rfl (eval_tmp (hgot 14 _ 49 rfl (hdep ⟨14, .data⟩ (by simp) rfl) rfl)) rfl) (hK _ _ (fun s hs => by cases hs; rfl) hst)
            case fin =>
              intro lz v hl hst
              clear hl
              dsimp only
              obtain ⟨h7, hmay, mw, -, -⟩ := HK.out
              have mv : Mod [] w14 v := (Mod.drew [] w14).then hst
              have h7v := h7.keep mv (by simp)
              clear hst
              go_wp2
              refine ⟨⟨k + 1, by omega, by go_num, by rw [HN.out], by rw [HN.out]; exact h7v, by rw [HN.out]; exact hmay, mw.then mv⟩, by simp [intOf]; omega⟩
        · obtain rfl : k = 2 := by omega
          have hbr := HF.out.2.2.2.2.2.keep hmw (by simp)
          have HL := Lib.hid (And.intro hmay hmw)
          clear hmay hmw
          go_wp2_with (first
            | (with_reducible refine wpList_loads (o := ⟨some 62, .load 47 (.tmp 7), _, _, _, _⟩) rfl 47 (.tmp 7) rfl b7 0 _ rfl (Cells.of_holds h7) _ Tryd.underlying47 rfl (size91_of _ _) _ rfl ?_)
            | (with_reducible refine wpList_storesAll (o := ⟨none, .store 47 (.tmp 2) (.tmp 62), _, _, _, _⟩) rfl 47 (.tmp 2) (.tmp 62) rfl rfl br (hc (hO (pickT c s S.n L 2)).1 ((hO (pickT c s S.n L 2)).2 : Int)) rfl _ rfl rfl 47 _ hbr rfl (hc_one _ _) (size91_of _ _) ?_; intro w8 hb8 m8 z8; replace z8 := Lib.hid z8))
          refine bodyPost_ret (results_cell_tmp rfl _ _ br _ (.int .i64 (eO (pickT c s S.n L 2))) _ rfl rfl (Cells.of_holds hb8) Tryd.underlying47 rfl (size91_of _ _)) rfl ?_
          obtain ⟨hst, hLl, hn0, DT, hmi, hbh⟩ := HF.out
          have hOO : O = pickT c s S.n L 2 := by rw [HH.out.2.2.2.2.2, hst]
          have D5 := DT.keep HL.out.2 (by simp) (by simp) (by simp)
          have hgh : br ≠ g := hbh.ne DT.blk (by decide)
          rw [hst, hOO]
          refine ⟨.inr ⟨rfl, rfl, HL.out.1⟩, ?_, (hmi.then HL.out.2).trans m8 (fun i hi h => by have := HO.out; simp at h; omega)⟩
          exact D5.keep m8 (by simpa using hgh.symm) (by simpa using fun e => D5.firm.ne_holds hbr (by first | exact e | exact e.symm)) (fun z hz => by simpa using D5.loose.ne hbr (by decide) z hz)
end
end Go.Proofs.YtcoedhemlghjoaaDoor
