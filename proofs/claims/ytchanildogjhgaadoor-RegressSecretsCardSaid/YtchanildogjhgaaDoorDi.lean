/-
  RegressSecrets: the walk. My own work.
-/
import Derived.Test.YtchanildogjhgaaDoorD2
import Derived.Test.YtchanildogjhgaaDoorRh
import Derived.Test.YtchanildogjhgaaDoorC1
namespace Go.Proofs.YtchanildogjhgaaDoor
open Go.RowKit Go.Shelf
set_option linter.unusedVariables false
set_option linter.unusedSimpArgs false
theorem atom_ok {U V : Int} (h1 : 1 ≤ U) (h2 : U ≤ 6) (h3 : 0 ≤ V) (h4 : V ≤ 65535) : (Tm.mk 2 U V ⟨#[]⟩ []).ok = true := by
  simp [Tm.ok, Tm.one, Tm.may, Tm.nk, Tm.okAll, Tm.hasU, Tm.hasT, Tm.hasN, h1, h2, h3, h4]
  rfl
theorem hd_ok {s : ByteArray} (hs : s.size ≤ 64) {t : Tm} (h : t.ok = true) : (hdT s t).ok = true := by
  simp [hdT, Tm.ok, Tm.one, Tm.may, Tm.nk, Tm.okAll, Tm.hasU, Tm.hasT, Tm.hasN, h, hs]
  rfl
theorem hd_depth (s : ByteArray) (t : Tm) (ht : 1 ≤ t.depth) : (hdT s t).depth = t.depth + 2 := by
  simp [hdT, Tm.depth, Tm.depthAll]
  omega
theorem hd_count (s : ByteArray) (t : Tm) : (hdT s t).count = t.count + 3 := by
  simp [hdT, Tm.count, Tm.countAll]
  omega
theorem iter_succ (f : Tm → Tm) (k : Nat) (t : Tm) : iter f (k + 1) t = f (iter f k t) := by rw [iter]
theorem iter_fine {U V : Int} (h : (Tm.mk 2 U V ⟨#[]⟩ []).ok = true) : ∀ k, (iter stA k (Tm.mk 2 U V ⟨#[]⟩ [])).ok = true ∧ (iter stA k (Tm.mk 2 U V ⟨#[]⟩ [])).depth = 1 + 2 * k ∧ (iter stA k (Tm.mk 2 U V ⟨#[]⟩ [])).count = 1 + 3 * k
  | 0 => ⟨h, by simp [iter, Tm.depth, Tm.depthAll], by simp [iter, Tm.count, Tm.countAll]⟩
  | k + 1 => by
    obtain ⟨h1, h2, h3⟩ := iter_fine h k
    rw [iter_succ]
    exact ⟨hd_ok (s := wState) (by decide) h1, (hd_depth wState _ (by omega)).trans (by omega), (hd_count wState _).trans (by omega)⟩
theorem right_of {t : Tm} (h1 : t.ok = true) (h2 : t.depth ≤ 60) (h3 : t.count ≤ 1200) : t.right = true := by
  unfold Tm.right
  simp [h1, h2, h3]
/-- The state of an epoch, and its key. -/
abbrev stE (U V : Int) (m : Nat) : Tm := iter stA (8 - m) (atomT U V)
theorem st_right {U V : Int} (h : (Tm.mk 2 U V ⟨#[]⟩ []).ok = true) (m : Nat) : (stE U V m).right = true ∧ (keyT (stE U V m)).right = true ∧ (stE U V m).count ≤ 30 ∧ (keyT (stE U V m)).count ≤ 33 := by
  obtain ⟨h1, h2, h3⟩ := iter_fine h (8 - m)
  refine ⟨right_of h1 (by show (iter stA (8 - m) (Tm.mk 2 U V ⟨#[]⟩ [])).depth ≤ 60; omega) (by show (iter stA (8 - m) (Tm.mk 2 U V ⟨#[]⟩ [])).count ≤ 1200; omega), right_of (hd_ok (by decide) h1) ?_ ?_, ?_, ?_⟩
  · show (hdT wKey _).depth ≤ 60
    rw [hd_depth _ _ (by show 1 ≤ (iter stA (8 - m) (Tm.mk 2 U V ⟨#[]⟩ [])).depth; omega)]
    show (iter stA (8 - m) (Tm.mk 2 U V ⟨#[]⟩ [])).depth + 2 ≤ 60
    omega
  · show (hdT wKey _).count ≤ 1200
    rw [hd_count]
    show (iter stA (8 - m) (Tm.mk 2 U V ⟨#[]⟩ [])).count + 3 ≤ 1200
    omega
  · show (iter stA (8 - m) (Tm.mk 2 U V ⟨#[]⟩ [])).count ≤ 30
    omega
  · show (hdT wKey _).count ≤ 33
    rw [hd_count]
    show (iter stA (8 - m) (Tm.mk 2 U V ⟨#[]⟩ [])).count + 3 ≤ 33
    omega
theorem st_back {U V : Int} (h : (Tm.mk 2 U V ⟨#[]⟩ []).ok = true) (m : Nat) (h1 : 1 ≤ m) (h2 : m ≤ 8) : backT (Tm.mk 2 U V ⟨#[]⟩ []) 8 (m : Int) = stE U V m ∧ backE (Tm.mk 2 U V ⟨#[]⟩ []) 8 (m : Int) = 0 := by
  have hr : (Tm.mk 2 U V ⟨#[]⟩ []).right = true := right_of h (by simp [Tm.depth, Tm.depthAll]) (by simp [Tm.count, Tm.countAll])
  obtain ⟨a1, a2⟩ := back_in (t := .mk 2 U V ⟨#[]⟩ []) (f := 8) (to := (m : Int)) (n := 8 - m) ⟨rfl, by simp [inE]; omega, by omega⟩ hr (by omega)
  have := (st_right h m).1
  exact ⟨by rw [a1]; unfold orNil; exact if_pos this, by rw [a2]; unfold chk; exact if_pos this⟩
theorem st_key {U V : Int} (h : (Tm.mk 2 U V ⟨#[]⟩ []).ok = true) (m : Nat) : keyR (stE U V m) = keyT (stE U V m) ∧ keyE (stE U V m) = 0 := by
  obtain ⟨h1, h2, _⟩ := st_right h m
  unfold keyR keyE orNil chk
  simp [h1, h2]
theorem rfE_ok {K : List Tm} {t : Tm} (h1 : K.length ≤ 500) (h2 : ∀ x ∈ K, x.right = true) (h3 : t.right = true) : rfE K [t] = 0 := by
  unfold rfE fwE
  rw [if_neg (by omega)]
  have e : K.all Tm.right = true := List.all_eq_true.2 h2
  simp [e, h3]
def CanIs (b : Bool) (K : List Tm) (x : Tm) : Prop := b = true ↔ Tm.Gk K false x
/-- From one epoch's state: this, or not. -/
theorem can_one (g : Nat) (s x : Tm) (cs cx : List Value) (S Sx : Nat → Prop) (b : Bool) (w : World) (hR : RowT w S (some ⟨g, 0, none⟩) [cs] [s]) (hT : TIs w Sx x cx) (hS : ∀ g, S g → g < w.heap.size) (hSx : ∀ g, Sx g → g < w.heap.size) (G : Glob w) (hs : s.right = true) (hx : x.right = true) (hb : CanIs b [s] x) :
    Calls Tryd.prog 36 #[.slice (some ⟨g, 0, none⟩) 1 1, .agg cx.toArray] w fun e w' => e = .returned (.tuple #[.bool b, .int .i64 0]) ∧ Mod [] w w' := by
  have q1 := (right_ok hs).2.2
  have q2 := (right_ok hx).2.2
  refine (can_ok (some ⟨g, 0, none⟩) 1 1 [cs] [s] S cx x Sx w rfl hR hT hS hSx G (rfE_ok (by simp) (by simpa using hs) hx) (by simp [Tm.countAll]; omega)).mono ?_
  rintro e w' ⟨bb, rfl, hbb, m⟩
  have : bb = b := by
    unfold CanIs at hb
    cases bb <;> cases b <;> simp_all
  rw [this]
  exact ⟨rfl, m⟩
theorem exec_rem6 {v : World} {o : Oper} {ρ : Operand → Value} {x y : Operand} {a b : Int} (h0 : 0 ≤ a) (hb : a % 6 = b) (ho : o.op = .binOp .rem 3 x y 3) (hx : ρ x = .int .i64 a) (hy : ρ y = .int .i64 6) : (execOp ρ o).run Tryd.prog v = .ok (.value (.int .i64 b)) v := by
  subst hb
  unfold execOp
  simp [ho, hx, hy, go_sem]
  rw [Int.tmod_eq_emod_of_nonneg h0]
theorem exec_remB {v : World} {o : Oper} {ρ : Operand → Value} {x y : Operand} {a b : Int} (h0 : 0 ≤ a) (hb : a % 65536 = b) (ho : o.op = .binOp .rem 3 x y 3) (hx : ρ x = .int .i64 a) (hy : ρ y = .int .i64 65536) : (execOp ρ o).run Tryd.prog v = .ok (.value (.int .i64 b)) v := by
  subst hb
  unfold execOp
  simp [ho, hx, hy, go_sem]
  rw [Int.tmod_eq_emod_of_nonneg h0]
theorem can_keys (A : Option Addr) (c : Nat) (vs : List (List Value)) (K : List Tm) (x : Tm) (cx : List Value) (S Sx : Nat → Prop) (n : Nat) (w : World) (hn : n = K.length) (hR : RowT w S A vs K) (hT : TIs w Sx x cx) (hS : ∀ g, S g → g < w.heap.size) (hSx : ∀ g, Sx g → g < w.heap.size) (G : Glob w) (hK : ∀ t ∈ K, t.right = true) (hKc : K.length ≤ 500 ∧ Tm.countAll K + x.count ≤ 4000) (hx : x.right = true) (hb : ¬ Tm.Gk K false x) :
    Calls Tryd.prog 36 #[.slice A n c, .agg cx.toArray] w fun e w' => e = .returned (.tuple #[.bool false, .int .i64 0]) ∧ Mod [] w w' := by
  refine (can_ok A n c vs K S cx x Sx w hn hR hT hS hSx G (rfE_ok hKc.1 hK hx) hKc.2).mono ?_
  rintro e w' ⟨bb, rfl, hbb, m⟩
  have : bb = false := by
    cases bb
    · rfl
    · exact absurd (hbb.1 rfl) hb
  rw [this]
  exact ⟨rfl, m⟩
abbrev klE (U V : Int) (j : Nat) : List Tm := (List.range j).map fun i => keyT (stE U V (i + 1))
set_option maxRecDepth 1000000 in
set_option maxHeartbeats 4000000 in
theorem secrets_w (a0 a1 a2 : Int) (W : World) (G : Glob W) : Calls Tryd.prog 12 #[.int .i64 a0, .int .i64 a1, .int .i64 a2] W fun e w' => e = .returned (.bool true) ∧ Mod [] W w' := by
  obtain ⟨w, hw⟩ : ∃ x, x = W := ⟨_, rfl⟩
  rw [← hw] at G ⊢
  clear hw
  have FA := Fm.nil w
  obtain ⟨u0, hu0⟩ : ∃ x, x = max a0 0 % 6 := ⟨_, rfl⟩
  obtain ⟨V, hV⟩ : ∃ x, x = max a1 0 % 65536 := ⟨_, rfl⟩
  obtain ⟨k0, hk0⟩ : ∃ x, x = max a2 0 % 8 := ⟨_, rfl⟩
  obtain ⟨U, hU⟩ : ∃ x, x = u0 + 1 := ⟨_, rfl⟩
  obtain ⟨kn, hkn⟩ : ∃ x : Nat, (x : Int) = k0 + 1 := ⟨(k0 + 1).toNat, by omega⟩
  have hA : 0 ≤ u0 ∧ u0 < 6 := by omega
  have hB : 0 ≤ k0 ∧ k0 < 8 := by omega
  have RA : ∀ (v : World) (ρ : Operand → Value) {o : Oper} {x y : Operand}, o.op = .binOp .rem 3 x y 3 → ρ x = .int .i64 (max a0 0) → ρ y = .int .i64 6 → (execOp ρ o).run Tryd.prog v = .ok (.value (.int .i64 (u0))) v := fun v ρ o x y h1 h2 h3 => exec_rem6 (by omega) hu0.symm h1 h2 h3
  have RB1 : ∀ (v : World) (ρ : Operand → Value) {o : Oper} {x y : Operand}, o.op = .binOp .rem 3 x y 3 → ρ x = .int .i64 (max a1 0) → ρ y = .int .i64 65536 → (execOp ρ o).run Tryd.prog v = .ok (.value (.int .i64 (V))) v := fun v ρ o x y h1 h2 h3 => exec_remB (by omega) hV.symm h1 h2 h3
  have RC : ∀ (v : World) (ρ : Operand → Value) {o : Oper} {x y : Operand}, o.op = .binOp .rem 3 x y 3 → ρ x = .int .i64 (max a2 0) → ρ y = .int .i64 8 → (execOp ρ o).run Tryd.prog v = .ok (.value (.int .i64 (k0))) v := fun v ρ o x y h1 h2 h3 => exec_rem8 (by omega) hk0.symm h1 h2 h3
  have PA : ∀ (v : World) (ρ : Operand → Value) {o : Oper} {x y : Operand}, o.op = .binOp .add 3 x y 3 → ρ x = .int .i64 (u0) → ρ y = .int .i64 1 → (execOp ρ o).run Tryd.prog v = .ok (.value (.int .i64 (U))) v := fun v ρ o x y h1 h2 h3 => exec_inc hA.1 (by omega) hU.symm h1 h2 h3
  have PC : ∀ (v : World) (ρ : Operand → Value) {o : Oper} {x y : Operand}, o.op = .binOp .add 3 x y 3 → ρ x = .int .i64 (k0) → ρ y = .int .i64 1 → (execOp ρ o).run Tryd.prog v = .ok (.value (.int .i64 (kn : Int))) v := fun v ρ o x y h1 h2 h3 => exec_inc hB.1 hB.2 hkn.symm h1 h2 h3
  have hok : (Tm.mk 2 U V ⟨#[]⟩ []).ok = true := atom_ok (by omega) (by omega) (by omega) (by omega)
  have hk1 : 1 ≤ kn ∧ kn ≤ 8 := by omega
  clear hu0 hV hk0 hU hkn hA hB
  have STS : ∀ (v : World) (S : Nat → Prop) {cs : List Value} (h1 : TIs v S (.mk 2 U V ⟨#[]⟩ []) cs) (h2 : ∀ g, S g → g < v.heap.size) (h3 : Glob v) (m : Nat) (q1 : 1 ≤ m) (q2 : m ≤ 8), Calls Tryd.prog 44 #[.agg cs.toArray, .int .i64 (m : Int)] v (Res v (stE U V m) 0) := fun v S cs h1 h2 h3 m q1 q2 => by
    have := state_c _ cs S v h1 h2 h3 (m : Int)
    rw [(st_back hok m q1 q2).1, (st_back hok m q1 q2).2] at this
    exact this
  have KYS : ∀ (v : World) (S : Nat → Prop) {cs : List Value} (m : Nat) (h1 : TIs v S (stE U V m) cs) (h2 : ∀ g, S g → g < v.heap.size) (h3 : Glob v), Calls Tryd.prog 47 #[.agg cs.toArray] v (Res v (keyT (stE U V m)) 0) := fun v S cs m h1 h2 h3 => by
    have := key_c _ cs S v h1 h2 h3
    rw [(st_key hok m).1, (st_key hok m).2] at this
    exact this
  have HOK := Lib.hid hok
  clear hok
  go_enter Tryd.func12, Tryd.ntmps12
  go_wp2_with (first
    | (go_at_call 42; refine (wakes9_c w (FA.glob G)).mono ?_
       rintro e w1 ⟨rfl, m1⟩
       have F1 := FA.call m1
       clear m1 FA)
    | (with_reducible refine wpList_ran (o := ⟨some 26, _, _, _, _, _⟩) rfl (.int .i64 (max a0 0)) (exec_max1 rfl rfl rfl) ?_)
    | (with_reducible refine wpList_ran (o := ⟨some 27, _, _, _, _, _⟩) rfl (.int .i64 (u0)) (RA _ _ rfl rfl rfl) ?_)
    | (with_reducible refine wpList_ran (o := ⟨some 28, _, _, _, _, _⟩) rfl (.int .i64 (U)) (PA _ _ rfl rfl rfl) ?_)
    | (with_reducible refine wpList_ran (o := ⟨some 30, _, _, _, _, _⟩) rfl (.int .i64 (max a1 0)) (exec_max1 rfl rfl rfl) ?_)
    | (with_reducible refine wpList_ran (o := ⟨some 31, _, _, _, _, _⟩) rfl (.int .i64 (V)) (RB1 _ _ rfl rfl rfl) ?_)
    | (go_at_call 18; refine (fresh_c U V w1).mono ?_
       rintro e w2 ⟨c2, rfl, h2, m2⟩
       have hc2 := h2.ones
       have F2 := F1.made m2 h2
       clear h2 m2 F1)
    | (with_reducible refine fm_alloc F2 (o := ⟨some 7, .alloc 24, _, _, _, _⟩) rfl 24 rfl _ zero24 ?_; intro b3 w3 F3; clear F2)
    | (with_reducible refine fm_store F3 0 rfl (o := ⟨none, .store 24 (.tmp 7) (.tmp 32), _, _, _, _⟩) rfl (.tmp 7) (.tmp 32) rfl rfl (c2) rfl rfl hc2.1 (tmc_len _ _ _ _ _ _ _) hc2.2 ?_; intro w4 F4; clear F3)
    | (with_reducible refine wpList_ran (o := ⟨some 34, _, _, _, _, _⟩) rfl (.int .i64 (max a2 0)) (exec_max1 rfl rfl rfl) ?_)
    | (with_reducible refine wpList_ran (o := ⟨some 35, _, _, _, _, _⟩) rfl (.int .i64 (k0)) (RC _ _ rfl rfl rfl) ?_)
    | (with_reducible refine wpList_ran (o := ⟨some 36, _, _, _, _, _⟩) rfl (.int .i64 (kn : Int)) (PC _ _ rfl rfl rfl) ?_)
    | (with_reducible refine fm_load F4 0 rfl (o := ⟨some 38, .load 24 (.tmp 7), _, _, _, _⟩) rfl (.tmp 7) rfl rfl hc2.1 ?_)
    | (go_at_call 44; refine (STS w4 _ (F4.ist (F4.mem 0 rfl)) (F4.ltm (F4.mem 0 rfl)) (F4.glob G) kn (by omega) (by omega)).mono ?_
       rintro e w5 ⟨c5, rfl, h5, m5⟩
       have hc5 := h5.ones
       have F5 := F4.made m5 h5
       clear h5 m5
       clear F4)
    | (with_reducible refine fm_alloc F5 (o := ⟨some 8, .alloc 24, _, _, _, _⟩) rfl 24 rfl _ zero24 ?_; intro b6 w6 F6; clear F5)
    | (with_reducible refine fm_store F6 0 rfl (o := ⟨none, .store 24 (.tmp 8) (.tmp 41), _, _, _, _⟩) rfl (.tmp 8) (.tmp 41) rfl rfl (c5) rfl rfl hc5.1 (tmc_len _ _ _ _ _ _ _) hc5.2 ?_; intro w7 F7; clear F6))
  have HC5 := Lib.hid hc5
  have HC2 := Lib.hid hc2
  have F8 := F7.row0 (Up w.heap.size)
  go_loopw [10, 11] (fun z iv wr => ∃ (m j : Nat) (A : Option Addr) (c : Nat) (xs : List Q5) (Sx : Nat → Prop), iv = .int .i64 (m : Int) ∧ z = .slice A j c ∧ 1 ≤ m ∧ m ≤ 9 ∧ Hid (m = j + 1) ∧ Fm w wr (oR A c xs :: oB b6 24 c5 :: oB b3 24 c2 :: []) (tLs (Up w.heap.size) Sx (klE U V j) xs :: tT (Up w.heap.size) (Btw w4.heap.size w5.heap.size) (stE U V kn) c5 :: tT (Up w.heap.size) (Btw w1.heap.size w2.heap.size) (.mk 2 U V ⟨#[]⟩ []) c2 :: [])) (fun _ iv _ => 9 - (intOf iv).toNat)
  case atStart => exact ⟨1, 0, none, 0, [], fun _ => False, rfl, rfl, by omega, by omega, Lib.hid rfl, F8⟩
  case round =>
  obtain ⟨m, j, A, c, xs, Sx, rfl, rfl, hm1, hm9, hmj, FJ⟩ := hrel
  clear F7 F8
  rcases Nat.lt_or_ge m 9 with hlt | hge
  · have hKL : Hid (j = (klE U V j).length) := Lib.hid (by simp)
    have hj8 : j < 8 := by have := hmj.out; omega
    have HXR : Hid ((stE U V m).right = true) := Lib.hid (st_right HOK.out m).1
    have HKR : Hid ((keyT (stE U V m)).right = true) := Lib.hid (st_right HOK.out m).2.1
    have HSR : Hid ((stE U V kn).right = true) := Lib.hid (st_right HOK.out kn).1
    rcases Nat.lt_or_ge kn m with hkm | hkm
    · have HB1 : Hid (CanIs false [stE U V kn] (stE U V m)) := Lib.hid (by unfold CanIs; rw [state_gk]; simp; omega)
      have HB2 : Hid (CanIs false [stE U V kn] (keyT (stE U V m))) := Lib.hid (by unfold CanIs; rw [keys_gk]; simp; omega)
      go_wp2_with (first
        | (with_reducible refine fm_load FJ 2 rfl (o := ⟨some 50, .load 24 (.tmp 7), _, _, _, _⟩) rfl (.tmp 7) rfl rfl hc2.1 ?_)
        | (go_at_call 44; refine (STS wr _ (FJ.ist (FJ.mem 2 rfl)) (FJ.ltm (FJ.mem 2 rfl)) (FJ.glob G) m (by omega) (by omega)).mono ?_
           rintro e w21 ⟨c21, rfl, h21, m21⟩
           have hc21 := h21.ones
           have F21 := FJ.made m21 h21
           clear h21 m21
           clear FJ)
        | (with_reducible refine fm_alloc F21 (o := ⟨some 12, .alloc 24, _, _, _, _⟩) rfl 24 rfl _ zero24 ?_; intro b22 w22 F22; clear F21)
        | (with_reducible refine fm_store F22 0 rfl (o := ⟨none, .store 24 (.tmp 12) (.tmp 53), _, _, _, _⟩) rfl (.tmp 12) (.tmp 53) rfl rfl (c21) rfl rfl hc21.1 (tmc_len _ _ _ _ _ _ _) hc21.2 ?_; intro w23 F23; clear F22)
        | (with_reducible refine fm_load F23 0 rfl (o := ⟨some 56, .load 24 (.tmp 12), _, _, _, _⟩) rfl (.tmp 12) rfl rfl hc21.1 ?_)
        | (go_at_call 47; refine (KYS w23 _ m (F23.ist (F23.mem 0 rfl)) (F23.ltm (F23.mem 0 rfl)) (F23.glob G)).mono ?_
           rintro e w24 ⟨c24, rfl, h24, m24⟩
           have hc24 := h24.ones
           have F24 := F23.made m24 h24
           clear h24 m24
           clear F23)
        | (with_reducible refine fm_alloc F24 (o := ⟨some 14, .alloc 24, _, _, _, _⟩) rfl 24 rfl _ zero24 ?_; intro b25 w25 F25; clear F24)
        | (with_reducible refine fm_store F25 0 rfl (o := ⟨none, .store 24 (.tmp 14) (.tmp 58), _, _, _, _⟩) rfl (.tmp 14) (.tmp 58) rfl rfl (c24) rfl rfl hc24.1 (tmc_len _ _ _ _ _ _ _) hc24.2 ?_; intro w26 F26; clear F25)
        | (with_reducible refine fm_load F26 0 rfl (o := ⟨some 67, .load 24 (.tmp 14), _, _, _, _⟩) rfl (.tmp 14) rfl rfl hc24.1 ?_)
        | (with_reducible refine fm_row1 F26 (F26.mem 0 rfl) (Up w.heap.size) (fun _ h => h) (fun g hg => hg) rfl (.tmp 67) rfl rfl ?_; intro g27 S27 w27 F27; clear F26)
        | (with_reducible refine fm_append1 F27 2 rfl (F27.mem 3 rfl) (F27.mem 0 rfl) (fun _ h => h) j hKL.out (by omega) (o := ⟨some 69, .call { callee := .builtin .append, args := #[.tmp 66, .tmp 68], argTypes := #[22, 22] }, _, _, _, _⟩) rfl (.tmp 66) (.tmp 68) rfl rfl rfl ?_; intro A28 c28 xs28 S28 w28 F28; clear F27)
        | (with_reducible refine fm_load F28 3 rfl (o := ⟨some 71, .load 24 (.tmp 8), _, _, _, _⟩) rfl (.tmp 8) rfl rfl hc5.1 ?_)
        | (with_reducible refine fm_row1 F28 (F28.mem 5 rfl) (Up w.heap.size) (fun _ h => h) (fun g hg => hg) rfl (.tmp 71) rfl rfl ?_; intro g29 S29 w29 F29; clear F28)
        | (with_reducible refine fm_load F29 1 rfl (o := ⟨some 73, .load 24 (.tmp 12), _, _, _, _⟩) rfl (.tmp 12) rfl rfl hc21.1 ?_)
        | (go_at_call 36; refine (can_one _ _ _ _ _ _ _ false w29 (F29.s 0 rfl).1 (F29.ist (F29.mem 4 rfl)) (F29.slt 0 rfl) (F29.slt 4 rfl) (F29.glob G) HSR.out HXR.out HB1.out).mono ?_
           rintro e w30 ⟨rfl, m30⟩
           have F30 := F29.call m30
           clear m30 F29)
        | (with_reducible refine fm_load F30 3 rfl (o := ⟨some 78, .load 24 (.tmp 8), _, _, _, _⟩) rfl (.tmp 8) rfl rfl hc5.1 ?_)
        | (with_reducible refine fm_row1 F30 (F30.mem 6 rfl) (Up w.heap.size) (fun _ h => h) (fun g hg => hg) rfl (.tmp 78) rfl rfl ?_; intro g31 S31 w31 F31; clear F30)
        | (with_reducible refine fm_load F31 0 rfl (o := ⟨some 80, .load 24 (.tmp 14), _, _, _, _⟩) rfl (.tmp 14) rfl rfl hc24.1 ?_)
        | (go_at_call 36; refine (can_one _ _ _ _ _ _ _ false w31 (F31.s 0 rfl).1 (F31.ist (F31.mem 4 rfl)) (F31.slt 0 rfl) (F31.slt 4 rfl) (F31.glob G) HSR.out HKR.out HB2.out).mono ?_
           rintro e w32 ⟨rfl, m32⟩
           have F32 := F31.call m32
           clear m32 F31))
      have hjj := hmj.out
      have F99 := F32.sub (os' := oR A28 c28 xs28 :: oB b6 24 c5 :: oB b3 24 c2 :: []) (ts' := tLs (Up w.heap.size) S28 (klE U V j ++ [keyT (stE U V m)]) xs28 :: tT (Up w.heap.size) (Btw w4.heap.size w5.heap.size) (stE U V kn) c5 :: tT (Up w.heap.size) (Btw w1.heap.size w2.heap.size) (.mk 2 U V ⟨#[]⟩ []) c2 :: []) ?_ ?_
      · have hkl : klE U V (j + 1) = klE U V j ++ [keyT (stE U V m)] := by
          unfold klE
          rw [List.range_succ, List.map_append, hjj]
          rfl
        rw [← hkl] at F99
        exact ⟨⟨m + 1, j + 1, A28, c28, xs28, S28, by go_num, rfl, by omega, by omega, Lib.hid (by omega), F99⟩, by simp [intOf]; omega⟩
      · exact List.sublist_append_right [_, _] _
      · intro y hy
        simp only [List.mem_cons, List.not_mem_nil, or_false] at hy ⊢
        rcases hy with rfl | rfl | rfl <;> simp
    · have HB1 : Hid (CanIs true [stE U V kn] (stE U V m)) := Lib.hid (by unfold CanIs; rw [state_gk]; simp; omega)
      have HB2 : Hid (CanIs true [stE U V kn] (keyT (stE U V m))) := Lib.hid (by unfold CanIs; rw [keys_gk]; simp; omega)
      go_wp2_with (first
        | (with_reducible refine fm_load FJ 2 rfl (o := ⟨some 50, .load 24 (.tmp 7), _, _, _, _⟩) rfl (.tmp 7) rfl rfl hc2.1 ?_)
        | (go_at_call 44; refine (STS wr _ (FJ.ist (FJ.mem 2 rfl)) (FJ.ltm (FJ.mem 2 rfl)) (FJ.glob G) m (by omega) (by omega)).mono ?_
           rintro e w21 ⟨c21, rfl, h21, m21⟩
           have hc21 := h21.ones
           have F21 := FJ.made m21 h21
           clear h21 m21
           clear FJ)
        | (with_reducible refine fm_alloc F21 (o := ⟨some 12, .alloc 24, _, _, _, _⟩) rfl 24 rfl _ zero24 ?_; intro b22 w22 F22; clear F21)
        | (with_reducible refine fm_store F22 0 rfl (o := ⟨none, .store 24 (.tmp 12) (.tmp 53), _, _, _, _⟩) rfl (.tmp 12) (.tmp 53) rfl rfl (c21) rfl rfl hc21.1 (tmc_len _ _ _ _ _ _ _) hc21.2 ?_; intro w23 F23; clear F22)
        | (with_reducible refine fm_load F23 0 rfl (o := ⟨some 56, .load 24 (.tmp 12), _, _, _, _⟩) rfl (.tmp 12) rfl rfl hc21.1 ?_)
        | (go_at_call 47; refine (KYS w23 _ m (F23.ist (F23.mem 0 rfl)) (F23.ltm (F23.mem 0 rfl)) (F23.glob G)).mono ?_
           rintro e w24 ⟨c24, rfl, h24, m24⟩
           have hc24 := h24.ones
           have F24 := F23.made m24 h24
           clear h24 m24
           clear F23)
        | (with_reducible refine fm_alloc F24 (o := ⟨some 14, .alloc 24, _, _, _, _⟩) rfl 24 rfl _ zero24 ?_; intro b25 w25 F25; clear F24)
        | (with_reducible refine fm_store F25 0 rfl (o := ⟨none, .store 24 (.tmp 14) (.tmp 58), _, _, _, _⟩) rfl (.tmp 14) (.tmp 58) rfl rfl (c24) rfl rfl hc24.1 (tmc_len _ _ _ _ _ _ _) hc24.2 ?_; intro w26 F26; clear F25)
        | (with_reducible refine fm_load F26 0 rfl (o := ⟨some 67, .load 24 (.tmp 14), _, _, _, _⟩) rfl (.tmp 14) rfl rfl hc24.1 ?_)
        | (with_reducible refine fm_row1 F26 (F26.mem 0 rfl) (Up w.heap.size) (fun _ h => h) (fun g hg => hg) rfl (.tmp 67) rfl rfl ?_; intro g27 S27 w27 F27; clear F26)
        | (with_reducible refine fm_append1 F27 2 rfl (F27.mem 3 rfl) (F27.mem 0 rfl) (fun _ h => h) j hKL.out (by omega) (o := ⟨some 69, .call { callee := .builtin .append, args := #[.tmp 66, .tmp 68], argTypes := #[22, 22] }, _, _, _, _⟩) rfl (.tmp 66) (.tmp 68) rfl rfl rfl ?_; intro A28 c28 xs28 S28 w28 F28; clear F27)
        | (with_reducible refine fm_load F28 3 rfl (o := ⟨some 71, .load 24 (.tmp 8), _, _, _, _⟩) rfl (.tmp 8) rfl rfl hc5.1 ?_)
        | (with_reducible refine fm_row1 F28 (F28.mem 5 rfl) (Up w.heap.size) (fun _ h => h) (fun g hg => hg) rfl (.tmp 71) rfl rfl ?_; intro g29 S29 w29 F29; clear F28)
        | (with_reducible refine fm_load F29 1 rfl (o := ⟨some 73, .load 24 (.tmp 12), _, _, _, _⟩) rfl (.tmp 12) rfl rfl hc21.1 ?_)
        | (go_at_call 36; refine (can_one _ _ _ _ _ _ _ true w29 (F29.s 0 rfl).1 (F29.ist (F29.mem 4 rfl)) (F29.slt 0 rfl) (F29.slt 4 rfl) (F29.glob G) HSR.out HXR.out HB1.out).mono ?_
           rintro e w30 ⟨rfl, m30⟩
           have F30 := F29.call m30
           clear m30 F29)
        | (with_reducible refine fm_load F30 3 rfl (o := ⟨some 78, .load 24 (.tmp 8), _, _, _, _⟩) rfl (.tmp 8) rfl rfl hc5.1 ?_)
        | (with_reducible refine fm_row1 F30 (F30.mem 6 rfl) (Up w.heap.size) (fun _ h => h) (fun g hg => hg) rfl (.tmp 78) rfl rfl ?_; intro g31 S31 w31 F31; clear F30)
        | (with_reducible refine fm_load F31 0 rfl (o := ⟨some 80, .load 24 (.tmp 14), _, _, _, _⟩) rfl (.tmp 14) rfl rfl hc24.1 ?_)
        | (go_at_call 36; refine (can_one _ _ _ _ _ _ _ true w31 (F31.s 0 rfl).1 (F31.ist (F31.mem 4 rfl)) (F31.slt 0 rfl) (F31.slt 4 rfl) (F31.glob G) HSR.out HKR.out HB2.out).mono ?_
           rintro e w32 ⟨rfl, m32⟩
           have F32 := F31.call m32
           clear m32 F31))
      have hjj := hmj.out
      have F99 := F32.sub (os' := oR A28 c28 xs28 :: oB b6 24 c5 :: oB b3 24 c2 :: []) (ts' := tLs (Up w.heap.size) S28 (klE U V j ++ [keyT (stE U V m)]) xs28 :: tT (Up w.heap.size) (Btw w4.heap.size w5.heap.size) (stE U V kn) c5 :: tT (Up w.heap.size) (Btw w1.heap.size w2.heap.size) (.mk 2 U V ⟨#[]⟩ []) c2 :: []) ?_ ?_
      · have hkl : klE U V (j + 1) = klE U V j ++ [keyT (stE U V m)] := by
          unfold klE
          rw [List.range_succ, List.map_append, hjj]
          rfl
        rw [← hkl] at F99
        exact ⟨⟨m + 1, j + 1, A28, c28, xs28, S28, by go_num, rfl, by omega, by omega, Lib.hid (by omega), F99⟩, by simp [intOf]; omega⟩
      · exact List.sublist_append_right [_, _] _
      · intro y hy
        simp only [List.mem_cons, List.not_mem_nil, or_false] at hy ⊢
        rcases hy with rfl | rfl | rfl <;> simp
  · obtain rfl : m = 9 := by omega
    obtain rfl : j = 8 := by have := hmj.out; omega
    have HKK : Hid ((∀ t ∈ klE U V 8, t.right = true) ∧ Tm.countAll (klE U V 8) ≤ 300 ∧ ∀ t ∈ klE U V 8, ∃ x, t = keyT x) := Lib.hid ⟨fun t ht => (by
        obtain ⟨q, _, rfl⟩ := List.mem_map.1 ht
        exact (st_right HOK.out _).2.1), (by
        show Tm.countAll [keyT (stE U V 1), keyT (stE U V 2), keyT (stE U V 3), keyT (stE U V 4), keyT (stE U V 5), keyT (stE U V 6), keyT (stE U V 7), keyT (stE U V 8)] ≤ 300
        have q := fun m => (st_right HOK.out m).2.2.2
        have q1 := q 1
        have q2 := q 2
        have q3 := q 3
        have q4 := q 4
        have q5 := q 5
        have q6 := q 6
        have q7 := q 7
        have q8 := q 8
        simp only [Tm.countAll]
        omega), fun t ht => (by
        obtain ⟨q, _, rfl⟩ := List.mem_map.1 ht
        exact ⟨_, rfl⟩)⟩
    go_wp2_with fail
    go_loopw [18] (fun iv wr => ∃ (m : Nat), iv = .int .i64 (m : Int) ∧ 1 ≤ m ∧ m ≤ 9 ∧ Fm w wr (oR A c xs :: oB b6 24 c5 :: oB b3 24 c2 :: []) (tLs (Up w.heap.size) Sx (klE U V 8) xs :: tT (Up w.heap.size) (Btw w4.heap.size w5.heap.size) (stE U V kn) c5 :: tT (Up w.heap.size) (Btw w1.heap.size w2.heap.size) (.mk 2 U V ⟨#[]⟩ []) c2 :: [])) (fun iv _ => 9 - (intOf iv).toNat)
    case atStart => exact ⟨1, rfl, by omega, by omega, FJ⟩
    case round =>
    clear FJ
    obtain ⟨m, rfl, hm1, hm9, FJ⟩ := hrel
    rcases Nat.lt_or_ge m 9 with hlt | hge
    · have HXR : Hid ((stE U V m).right = true ∧ (stE U V m).count ≤ 30) := Lib.hid ⟨(st_right HOK.out m).1, (st_right HOK.out m).2.2.1⟩
      have HNO : Hid (¬ Tm.Gk (klE U V 8) false (stE U V m)) := Lib.hid (keys_none U V HKK.out.2.2 _)
      have CK : ∀ {v : World} {os ts : List Th} {cx : List Value} {S2 L2 : Nat → Prop} (F : Fm w v os ts) (i : Nat) (hi : os[i]? = some (oR A c xs)) (hl : tLs (Up w.heap.size) Sx (klE U V 8) xs ∈ ts) (hx : tT L2 S2 (stE U V m) cx ∈ ts), Calls Tryd.prog 36 #[.slice A 8 c, .agg cx.toArray] v fun e w' => e = .returned (.tuple #[.bool false, .int .i64 0]) ∧ Mod [] v w' := fun {v os ts cx S2 L2} F i hi hl hx =>
        can_keys A c (xs.map (·.1)) (klE U V 8) (stE U V m) cx _ S2 8 v (by simp) (F.asRow hi hl) (F.ist hx) (fun g hg => hg.elim (fun h => F.ltm hl g h) (fun h => (F.k _ (.inl (Fm.webm F hi))).2.2 g h)) (F.ltm hx) (F.glob G) HKK.out.1 ⟨by simp, by have := HKK.out.2.1; have := HXR.out.2; omega⟩ HXR.out.1 HNO.out
      go_wp2_with (first
        | (with_reducible refine fm_load FJ 2 rfl (o := ⟨some 109, .load 24 (.tmp 7), _, _, _, _⟩) rfl (.tmp 7) rfl rfl hc2.1 ?_)
        | (go_at_call 44; refine (STS wr _ (FJ.ist (FJ.mem 2 rfl)) (FJ.ltm (FJ.mem 2 rfl)) (FJ.glob G) m (by omega) (by omega)).mono ?_
           rintro e w61 ⟨c61, rfl, h61, m61⟩
           have hc61 := h61.ones
           have F61 := FJ.made m61 h61
           clear h61 m61
           clear FJ)
        | (with_reducible refine fm_alloc F61 (o := ⟨some 19, .alloc 24, _, _, _, _⟩) rfl 24 rfl _ zero24 ?_; intro b62 w62 F62; clear F61)
        | (with_reducible refine fm_store F62 0 rfl (o := ⟨none, .store 24 (.tmp 19) (.tmp 112), _, _, _, _⟩) rfl (.tmp 19) (.tmp 112) rfl rfl (c61) rfl rfl hc61.1 (tmc_len _ _ _ _ _ _ _) hc61.2 ?_; intro w63 F63; clear F62)
        | (with_reducible refine fm_load F63 0 rfl (o := ⟨some 116, .load 24 (.tmp 19), _, _, _, _⟩) rfl (.tmp 19) rfl rfl hc61.1 ?_)
        | (go_at_call 36; refine (CK F63 1 rfl (F63.mem 1 rfl) (F63.mem 0 rfl)).mono ?_
           rintro e w64 ⟨rfl, m64⟩
           have F64 := F63.call m64
           clear m64 F63))
      have F99 := F64.sub (os' := oR A c xs :: oB b6 24 c5 :: oB b3 24 c2 :: []) (ts' := tLs (Up w.heap.size) Sx (klE U V 8) xs :: tT (Up w.heap.size) (Btw w4.heap.size w5.heap.size) (stE U V kn) c5 :: tT (Up w.heap.size) (Btw w1.heap.size w2.heap.size) (.mk 2 U V ⟨#[]⟩ []) c2 :: []) (List.sublist_append_right [_] _) (fun y hy => List.mem_cons_of_mem _ hy)
      exact ⟨⟨m + 1, by go_num, by omega, by omega, F99⟩, by simp [intOf]; omega⟩
    · obtain rfl : m = 9 := by omega
      go_wp2_with fail
      go_ret
      exact ⟨rfl, FJ.m⟩
end Go.Proofs.YtchanildogjhgaaDoor
