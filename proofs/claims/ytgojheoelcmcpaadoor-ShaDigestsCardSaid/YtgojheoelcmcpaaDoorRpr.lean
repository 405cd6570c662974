/-
  Contracts of the document's own answers for sha: Parse. My own work.
-/
import Derived.Test.YtgojheoelcmcpaaDoorRsg
namespace Go.Proofs.YtgojheoelcmcpaaDoor
open Go.RowKit
/-- The byte that two digits say; 256: none. -/
def two (a b : UInt8) : Nat := if dv a < 16 ∧ dv b < 16 then 16 * dv a + dv b else 256
theorem two_lt (a b : UInt8) : two a b ≤ 256 := by unfold two; split <;> omega
theorem two_at (a b : UInt8) (c : Nat) (hc : c < 256) : (a = dg (c / 16) ∧ b = dg (c % 16)) ↔ two a b = c := by
  rw [dg_eq a _ (by omega), dg_eq b _ (by omega)]
  unfold two
  constructor
  · rintro ⟨h1, h2⟩
    rw [if_pos (by omega)]; omega
  · intro h
    split at h
    · omega
    · omega
theorem two_bad (a b : UInt8) (h : two a b = 256) : ¬ (dv a < 16 ∧ dv b < 16) := by
  intro hh; unfold two at h; rw [if_pos hh] at h; omega
theorem two_good (a b : UInt8) (h : two a b < 256) : dv a < 16 ∧ dv b < 16 ∧ two a b = 16 * dv a + dv b := by
  unfold two at h ⊢
  split at h
  · rename_i hh; rw [if_pos hh]; exact ⟨hh.1, hh.2, rfl⟩
  · omega
theorem pid_two (s : List UInt8) (i : Nat) (hi : i < 32) (h : two (s.getD (2 * i) 0) (s.getD (2 * i + 1) 0) < 256) : (pid s (2 * i)).set i (UInt8.ofNat (two (s.getD (2 * i) 0) (s.getD (2 * i + 1) 0))) = pid s (2 * (i + 1)) := by
  obtain ⟨h1, h2, h3⟩ := two_good _ _ h
  rw [h3]
  have e1 := pid_step s (2 * i) (by omega)
  have e2 := pid_step s (2 * i + 1) (by omega)
  have a1 : ahead s (2 * i + 1) = dv (s.getD (2 * i) 0) := by
    unfold ahead pat
    rw [show (2 * i + 1) / 2 = i by omega, if_neg (by omega), if_pos (by omega)]
  rw [show (2 * i) / 2 = i by omega] at e1
  rw [show (2 * i + 1) / 2 = i by omega, a1] at e2
  rw [show 2 * (i + 1) = 2 * i + 1 + 1 by omega, ← e2, ← e1, List.set_set]
/-- Behind k of the 256 rounds. -/
def midN (s : List UInt8) (i k : Nat) : List UInt8 := if two (s.getD (2 * i) 0) (s.getD (2 * i + 1) 0) < k then (pid s (2 * i)).set i (UInt8.ofNat (two (s.getD (2 * i) 0) (s.getD (2 * i + 1) 0))) else pid s (2 * i)
theorem midN_length (s : List UInt8) (i k : Nat) : (midN s i k).length = 32 := by
  unfold midN; split <;> simp [pid_length]
theorem str_at (s : ByteArray) (l : List UInt8) (hl : l = s.data.toList) (j : Nat) (hj : j < s.size) (W : World) : (Instr.index 9 (.string s) (.int .i64 (j : Int))).run Tryd.prog W = .ok (oct (l.getD j 0)) W := by
  have hb : (0 : Int) ≤ (j : Int) ∧ (j : Int) < (s.size : Int) := by omega
  have := run_index_string (P := Tryd.prog) W 9 s .i64 j Tryd.underlying9
  rw [dif_pos hb] at this
  rw [hl, ← get_of s j hj]
  exact this
set_option maxRecDepth 1000000 in
set_option maxHeartbeats 8000000 in
theorem rparse_c (s : ByteArray) (w : World) :
    Calls Tryd.prog 27 #[.string s] w fun e w' => e = .returned (.tuple #[.agg ((parsed s.data.toList).map oct).toArray, .bool (good s.data.toList)]) ∧ Mod [] w w' := by
  have hsz : s.data.toList.length = s.size := by simp
  obtain ⟨l, hl⟩ : ∃ l, l = s.data.toList := ⟨_, rfl⟩
  rw [← hl] at hsz ⊢
  obtain ⟨pz, hp⟩ : ∃ pz, pz = parsed l := ⟨_, rfl⟩
  obtain ⟨ez, he⟩ : ∃ ez, ez = good l := ⟨_, rfl⟩
  rw [← hp, ← he]
  have HL := Lib.hid (And.intro hl (And.intro hsz (And.intro hp he)))
  clear hl hsz hp he
  by_cases hs : s.size = 64
  case neg =>
    have hb := bad_len (s := l) (by rw [HL.out.2.1]; exact hs)
    have e1 : pz = zid := by rw [HL.out.2.2.1]; unfold parsed; rw [hb]; rfl
    have e2 : ez = false := by rw [HL.out.2.2.2, hb]
    have HE := Lib.hid (And.intro e1 e2)
    have h1 : ((s.size : Int) != 64) = true := by simp; omega
    clear hb e1 e2 hs
    go_enter Tryd.func27, Tryd.ntmps27
    go_wp2_with (first
      | (with_reducible refine wpList_allocs (o := ⟨some 2, .alloc 40, _, _, _, _⟩) rfl 40 rfl _ zero40 ?_; intro w1 hb1 m1 z1; replace z1 := Lib.hid z1)
      | (with_reducible refine wpList_allocs (o := ⟨some 4, .alloc 40, _, _, _, _⟩) rfl 40 rfl _ zero40 ?_; intro w2 hb2 m2 z2; replace z2 := Lib.hid z2)
      | (with_reducible refine wpList_loads (o := ⟨some 11, .load 40 (.tmp 4), _, _, _, _⟩) rfl 40 (.tmp 4) rfl w1.heap.size 0 _ rfl (Cells.of_holds hb2) _ Tryd.underlying40 rfl (size40_of _ rfl) (.agg (zid.map oct).toArray) rfl ?_)
      | (with_reducible refine wpList_storesAll (o := ⟨none, .store 40 (.tmp 2) (.tmp 11), _, _, _, _⟩) rfl 40 (.tmp 2) (.tmp 11) rfl rfl w.heap.size (zid.map oct) rfl (.agg (zid.map oct).toArray) rfl rfl 40 _ (hb1.keep m2 (by simp)) rfl (octs_one _) zid_size ?_; intro w7 hw7 m7 z7))
    refine bodyPost_ret (results_ct rfl _ _ w.heap.size (zid.map oct) _ _ rfl rfl (Cells.of_holds hw7) Tryd.underlying40 rfl (size40_of _ rfl)) rfl ?_
    exact ⟨by rw [HE.out.1, HE.out.2]; rfl, (m1.then m2).trans m7 (by intro i hi h; simp at h; omega)⟩
  have h1 : ((s.size : Int) != 64) = false := by simp; omega
  have HS := Lib.hid hs
  clear hs
  go_enter Tryd.func27, Tryd.ntmps27
  go_wp2_with (first
    | (with_reducible refine wpList_allocs (o := ⟨some 2, .alloc 40, _, _, _, _⟩) rfl 40 rfl _ zero40 ?_; intro w1 hb1 m1 z1; replace z1 := Lib.hid z1)
    | (with_reducible refine wpList_allocs (o := ⟨some 4, .alloc 40, _, _, _, _⟩) rfl 40 rfl _ zero40 ?_; intro w2 hb2 m2 z2; replace z2 := Lib.hid z2))
  obtain ⟨g2, e2⟩ : ∃ b, b = w.heap.size := ⟨_, rfl⟩
  obtain ⟨g4, e4⟩ : ∃ b, b = w1.heap.size := ⟨_, rfl⟩
  have hg : g2 < g4 ∧ w.heap.size ≤ g2 := by have := z1.out; omega
  have h2 : Holds w2 g2 40 (zid.map oct) := by rw [e2]; exact hb1.keep m2 (by simp)
  have h4 : Holds w2 g4 40 ((pid l (2 * 0)).map oct) := by rw [show 2 * 0 = 0 from rfl, pid_zero, e4]; exact hb2
  have mm : Mod [] w w2 := m1.then m2
  rw [← e2, ← e4]
  have HG := Lib.hid hg
  clear e2 e4 hb1 hb2 m1 m2 z1 z2 hg
  go_wp2_with fail
  go_loopw [12] (fun sl wi => ∃ i : Nat, i ≤ 32 ∧ sl = .int .i64 (i : Int) ∧ (∀ j, j < 2 * i → dv (l.getD j 0) < 16) ∧ Holds wi g4 40 ((pid l (2 * i)).map oct) ∧ Holds wi g2 40 (zid.map oct) ∧ Mod [] w wi) (fun sl _ => 32 - (intOf sl).toNat)
  case atStart => exact ⟨0, by omega, rfl, fun j h => by omega, h4, h2, mm⟩
  case round =>
    clear h4 h2 mm
    obtain ⟨i, hi, rfl, hdig, h4, h2, mm⟩ := hrel
    by_cases hlt : i < 32
    · have hltZ : (i : Int) < 32 := by omega
      obtain ⟨a, ha⟩ : ∃ a, a = l.getD (2 * i) 0 := ⟨_, rfl⟩
      obtain ⟨b, hb⟩ : ∃ b, b = l.getD (2 * i + 1) 0 := ⟨_, rfl⟩
      have hsl : s.size = 64 := HS.out
      have hiA : ∀ W : World, (Instr.index 9 (.string s) (.int .i64 (2 * (i : Int)))).run Tryd.prog W = .ok (oct a) W := fun W => by
        have := str_at s l HL.out.1 (2 * i) (by omega) W
        rw [ha, show (2 * (i : Int)) = ((2 * i : Nat) : Int) by omega]; exact this
      have hiB : ∀ W : World, (Instr.index 9 (.string s) (.int .i64 (2 * (i : Int) + 1))).run Tryd.prog W = .ok (oct b) W := fun W => by
        have := str_at s l HL.out.1 (2 * i + 1) (by omega) W
        rw [hb, show (2 * (i : Int) + 1) = ((2 * i + 1 : Nat) : Int) by omega]; exact this
      obtain ⟨Q, hQ⟩ : ∃ Q, Q = two a b := ⟨_, rfl⟩
      have hQl : Q ≤ 256 := by rw [hQ]; exact two_lt a b
      have hmid : ∀ k, midN l i k = if Q < k then (pid l (2 * i)).set i (UInt8.ofNat Q) else pid l (2 * i) := fun k => by unfold midN; rw [← ha, ← hb, ← hQ]
      have hmid0 : midN l i 0 = pid l (2 * i) := by rw [hmid]; rfl
      have h4' : Holds wr g4 40 ((midN l i 0).map oct) := by rw [hmid0]; exact h4
      have h2p := pid_two l i hlt
      rw [← ha, ← hb, ← hQ] at h2p
      have HI := Lib.hid (And.intro hlt (And.intro ha (And.intro hb (And.intro hQ (And.intro hdig (And.intro hmid (And.intro h2p hQl)))))))
      clear hlt hdig ha hb hQ hmid hmid0 h4 h2p hi hsl hQl
      go_wp2_with fail
      go_loopw [6, 15] (fun met c wi => ∃ k : Nat, k ≤ 256 ∧ c = .int .i64 (k : Int) ∧ met = .bool (decide (Q < k)) ∧ Holds wi g4 40 ((midN l i k).map oct) ∧ Holds wi g2 40 (zid.map oct) ∧ Mod [] w wi) (fun _ c _ => 256 - (intOf c).toNat)
      case atStart => exact ⟨0, by omega, rfl, by simp, h4', h2, mm⟩
      case round =>
        clear h4' h2 mm
        obtain ⟨k, hk, rfl, rfl, h4, h2, mm⟩ := hrel
        by_cases hlt : k < 256
        · have hkZ : (k : Int) < 256 := by omega
          obtain ⟨x, hx⟩ : ∃ x, x = k / 16 := ⟨_, rfl⟩
          obtain ⟨y, hy⟩ : ∃ y, y = k % 16 := ⟨_, rfl⟩
          have q1 : (k : Int) / 16 = (x : Int) := by omega
          have q2 : (k : Int) % 16 = (y : Int) := by omega
          have hx16 : (x : Int) < 16 := by omega
          have hy16 : (y : Int) < 16 := by omega
          have s1 := fun v => sign_c x (by omega) v
          have s2 := fun v => sign_c y (by omega) v
          have hta := two_at a b k hlt
          rw [← hx, ← hy, ← HI.out.2.2.2.1] at hta
          by_cases hab : a = dg x ∧ b = dg y
          · have hQk := hta.1 hab
            have HH := Lib.hid (And.intro h4 (And.intro h2 (And.intro mm (And.intro hlt hQk))))
            clear h4 h2 mm hlt hQk hta hx hy hk
            have s1' : ∀ v, Calls Tryd.prog 48 #[.int .u8 (x : Int)] v fun e w' => e = .returned (oct a) ∧ w' = v := fun v => by rw [hab.1]; exact s1 v
            have s2' : ∀ v, Calls Tryd.prog 48 #[.int .u8 (y : Int)] v fun e w' => e = .returned (oct b) ∧ w' = v := fun v => by rw [hab.2]; exact s2 v
            have HQ := Lib.hid (And.intro s1' s2')
            clear s1 s2 s1' s2' hab
            go_wp2_with fail
            go_quiet ((go_at_call 48; first | (with_reducible exact Calls.quiet_of_same (HQ.out.1 _)) | (with_reducible exact Calls.quiet_of_same (HQ.out.2 _))))
            obtain ⟨wa, hwa⟩ : ∃ v, v = wr.drewN nq := ⟨_, rfl⟩
            have mwa : Mod [] wr wa := by rw [hwa]; exact Mod.drewN [] wr nq
            rw [← hwa]
            have HM := Lib.hid (And.intro (HH.out.1.keep mwa (by simp)) (And.intro (HH.out.2.1.keep mwa (by simp)) (HH.out.2.2.1.then mwa)))
            clear hwa mwa nq
            have c4 : wa.cell? ⟨g4, i, none⟩ = some (oct ((midN l i k).getD i 0)) := by
              rw [HM.out.1.cell i, List.getElem?_map, List.getElem?_eq_getElem (by rw [midN_length]; exact HI.out.1), at_getD _ _ (by rw [midN_length]; exact HI.out.1)]; rfl
            have f4 : wa.frozen? ⟨g4, i, none⟩ = false := HM.out.1.free _
            clear hiA hiB
            go_wp2_with fail
            have hk256 : k < 256 := HH.out.2.2.2.1
            have hQk : Q = k := HH.out.2.2.2.2
            have hval : Value.int .u8 (k : Int) = oct (UInt8.ofNat Q) := by rw [hQk]; simp; omega
            have n4 := HM.out.1.set i (oct (UInt8.ofNat Q))
            rw [← List.map_set, HI.out.2.2.2.2.2.1, if_neg (by omega)] at n4
            have hmk : midN l i (k + 1) = (pid l (2 * i)).set i (UInt8.ofNat Q) := by rw [HI.out.2.2.2.2.2.1, if_pos (by omega)]
            rw [← hmk] at n4
            have mc : Mod [g4] wa (wa.setCell ⟨g4, i, none⟩ (oct (UInt8.ofNat Q))) := Mod.setCell wa (p := ⟨g4, i, none⟩) (by simp) _
            rw [hval]
            exact ⟨⟨k + 1, by omega, by go_num, by rw [decide_eq_true (by omega)], n4, HM.out.2.1.keep mc (by have := HG.out; simp; omega), HM.out.2.2.trans mc (by have := HG.out; intro i hi h; simp at h; omega)⟩, by simp [intOf]; omega⟩
          · have hQk : Q ≠ k := fun h => hab (hta.2 h)
            have hd1 : decide (Q < k) = decide (Q < k + 1) := by rw [decide_eq_decide]; omega
            have hm1 : midN l i (k + 1) = midN l i k := by
              rw [HI.out.2.2.2.2.2.1, HI.out.2.2.2.2.2.1]
              by_cases hh : Q < k
              · rw [if_pos (by omega), if_pos hh]
              · rw [if_neg (by omega), if_neg hh]
            have HH := Lib.hid (And.intro h4 (And.intro h2 (And.intro mm (And.intro hlt (And.intro hd1 hm1)))))
            clear h4 h2 mm hlt hQk hta hx hy hk hd1 hm1
            by_cases hax : a = dg x
            · have hby : b ≠ dg y := fun h => hab ⟨hax, h⟩
              clear hab
              have s1' : ∀ v, Calls Tryd.prog 48 #[.int .u8 (x : Int)] v fun e w' => e = .returned (oct a) ∧ w' = v := fun v => by rw [hax]; exact s1 v
              obtain ⟨z, hz⟩ : ∃ z, z = dg y := ⟨_, rfl⟩
              rw [← hz] at s2 hby
              have hne : ((b.toNat : Int) == (z.toNat : Int)) = false := by simp; intro hh; exact hby (UInt8.toNat_inj.1 (by omega))
              have HQ := Lib.hid (And.intro s1' s2)
              clear hz hby hax s1'
              clear s1 s2
              go_wp2_with fail
              go_quiet ((go_at_call 48; first | (with_reducible exact Calls.quiet_of_same (HQ.out.1 _)) | (with_reducible exact Calls.quiet_of_same (HQ.out.2 _))))
              obtain ⟨wa, hwa⟩ : ∃ v, v = wr.drewN nq := ⟨_, rfl⟩
              have mwa : Mod [] wr wa := by rw [hwa]; exact Mod.drewN [] wr nq
              rw [← hwa]
              have HM := Lib.hid (And.intro (HH.out.1.keep mwa (by simp)) (And.intro (HH.out.2.1.keep mwa (by simp)) (HH.out.2.2.1.then mwa)))
              clear hwa mwa nq
              clear hiA hiB
              go_wp2_with fail
              exact ⟨⟨k + 1, by have := HH.out.2.2.2.1; omega, by go_num, by rw [HH.out.2.2.2.2.1], by rw [HH.out.2.2.2.2.2]; exact HM.out.1, HM.out.2.1, HM.out.2.2⟩, by have := HH.out.2.2.2.1; simp [intOf]; omega⟩
            · clear hab
              obtain ⟨z, hz⟩ : ∃ z, z = dg x := ⟨_, rfl⟩
              rw [← hz] at s1 hax
              have hne : ((a.toNat : Int) == (z.toNat : Int)) = false := by simp; intro hh; exact hax (UInt8.toNat_inj.1 (by omega))
              have HQ := Lib.hid (And.intro s1 s2)
              clear hz hax
              clear s1 s2
              go_wp2_with fail
              go_quiet ((go_at_call 48; first | (with_reducible exact Calls.quiet_of_same (HQ.out.1 _)) | (with_reducible exact Calls.quiet_of_same (HQ.out.2 _))))
              obtain ⟨wa, hwa⟩ : ∃ v, v = wr.drewN nq := ⟨_, rfl⟩
              have mwa : Mod [] wr wa := by rw [hwa]; exact Mod.drewN [] wr nq
              rw [← hwa]
              have HM := Lib.hid (And.intro (HH.out.1.keep mwa (by simp)) (And.intro (HH.out.2.1.keep mwa (by simp)) (HH.out.2.2.1.then mwa)))
              clear hwa mwa nq
              clear hiA hiB
              go_wp2_with fail
              exact ⟨⟨k + 1, by have := HH.out.2.2.2.1; omega, by go_num, by rw [HH.out.2.2.2.2.1], by rw [HH.out.2.2.2.2.2]; exact HM.out.1, HM.out.2.1, HM.out.2.2⟩, by have := HH.out.2.2.2.1; simp [intOf]; omega⟩
        · obtain rfl : k = 256 := by omega
          by_cases hq : Q < 256
          · have hdq : decide (Q < 256) = true := decide_eq_true hq
            rw [hdq]
            have hab := two_good a b (by rw [← HI.out.2.2.2.1]; exact hq)
            rw [HI.out.2.2.2.2.2.1, if_pos hq, HI.out.2.2.2.2.2.2.1 hq] at h4
            have HH := Lib.hid (And.intro h4 (And.intro h2 (And.intro mm hab)))
            clear h4 h2 mm hab hq hdq hlt hk hiA hiB
            go_wp2_with fail
            refine ⟨⟨i + 1, by have := HI.out.1; omega, by go_num, fun j hj => ?_, HH.out.1, HH.out.2.1, HH.out.2.2.1⟩, by have := HI.out.1; simp [intOf]; omega⟩
            rcases Nat.lt_or_ge j (2 * i) with h | h
            · exact HI.out.2.2.2.2.1 j h
            · obtain rfl | rfl : j = 2 * i ∨ j = 2 * i + 1 := by omega
              · rw [← HI.out.2.1]; exact HH.out.2.2.2.1
              · rw [← HI.out.2.2.1]; exact HH.out.2.2.2.2.1
          · have hdq : decide (Q < 256) = false := decide_eq_false hq
            rw [hdq]
            have hab := two_bad a b (by rw [← HI.out.2.2.2.1]; have := HI.out.2.2.2.2.2.2.2; omega)
            have hg : good l = false := by
              by_cases hda : dv a < 16
              · exact bad_at (2 * i + 1) (by have := HI.out.1; omega) (by rw [← HI.out.2.2.1]; exact fun h => hab ⟨hda, h⟩)
              · exact bad_at (2 * i) (by have := HI.out.1; omega) (by rw [← HI.out.2.1]; exact hda)
            have e1 : pz = zid := by rw [HL.out.2.2.1]; unfold parsed; rw [hg]; rfl
            have e2 : ez = false := by rw [HL.out.2.2.2, hg]
            have HE := Lib.hid (And.intro e1 e2)
            clear hg e1 e2 hab hq hdq hlt hk hiA hiB h4
            go_wp2_with (first
              | (with_reducible refine wpList_ran (o := ⟨some 46, .build 40 #[], _, _, _, _⟩) rfl (.agg (zid.map oct).toArray) (exec_zid rfl) ?_)
              | (with_reducible refine wpList_storesAll (o := ⟨none, .store 40 (.tmp 2) (.tmp 46), _, _, _, _⟩) rfl 40 (.tmp 2) (.tmp 46) rfl rfl g2 (zid.map oct) rfl (.agg (zid.map oct).toArray) rfl rfl 40 _ h2 rfl (octs_one _) zid_size ?_; intro w7 hw7 m7 z7))
            refine bodyPost_ret (results_ct rfl _ _ g2 (zid.map oct) _ _ rfl rfl (Cells.of_holds hw7) Tryd.underlying40 rfl (size40_of _ rfl)) rfl ?_
            exact ⟨by rw [HE.out.1, HE.out.2]; rfl, mm.trans m7 (by have := HG.out; intro i hi h; simp at h; omega)⟩
    · obtain rfl : i = 32 := by omega
      have hg : good l = true := good_of (by rw [HL.out.2.1]; exact HS.out) hdig
      have e1 : pz = pid l 64 := by rw [HL.out.2.2.1]; unfold parsed; rw [hg]; rfl
      have e2 : ez = true := by rw [HL.out.2.2.2, hg]
      have HE := Lib.hid (And.intro e1 e2)
      have h4' : Holds wr g4 40 ((pid l 64).map oct) := h4
      have sz : (Tryd.prog.info? 40).map (·.size) = some ((pid l 64).map oct).length := size40_of _ (pid_length _ _)
      clear hg e1 e2 hlt hi hdig h4
      go_wp2_with (first
        | (with_reducible refine wpList_loads (o := ⟨some 48, .load 40 (.tmp 4), _, _, _, _⟩) rfl 40 (.tmp 4) rfl g4 0 _ rfl (Cells.of_holds h4') _ Tryd.underlying40 rfl sz (.agg ((pid l 64).map oct).toArray) rfl ?_)
        | (with_reducible refine wpList_storesAll (o := ⟨none, .store 40 (.tmp 2) (.tmp 48), _, _, _, _⟩) rfl 40 (.tmp 2) (.tmp 48) rfl rfl g2 ((pid l 64).map oct) rfl (.agg ((pid l 64).map oct).toArray) rfl rfl 40 _ h2 (by simp [pid_length, zid]) (octs_one _) sz ?_; intro w7 hw7 m7 z7))
      refine bodyPost_ret (results_ct rfl _ _ g2 ((pid l 64).map oct) _ _ rfl rfl (Cells.of_holds hw7) Tryd.underlying40 rfl sz) rfl ?_
      exact ⟨by rw [HE.out.1, HE.out.2]; rfl, mm.trans m7 (by have := HG.out; intro i hi h; simp at h; omega)⟩
end Go.Proofs.YtgojheoelcmcpaaDoor
