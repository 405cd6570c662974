/-
  Package sha's Parse, whatever the text. A contract of mine.
-/
import Derived.Test.YtgojheoelcmcpaaDoorIxr
namespace Go.Proofs.YtgojheoelcmcpaaDoor
open Go.RowKit
set_option maxRecDepth 1000000 in
set_option maxHeartbeats 8000000 in
theorem parse_c (s : ByteArray) (w : World) :
    Calls Tryd.prog 26 #[.string s] w fun e w' => e = .returned (.tuple #[.agg ((parsed s.data.toList).map oct).toArray, .int .i64 (if good s.data.toList = true then 0 else 130)]) ∧ Mod [] w w' := by
  have hsz : s.data.toList.length = s.size := by simp
  by_cases hs : s.size = 64
  case neg =>
    have hb := bad_len (s := s.data.toList) (by omega)
    have e : parsed s.data.toList = zid := by unfold parsed; rw [hb]; rfl
    rw [e, hb]
    exact parse_short s hs w
  have hz1 : ((s.size : Int) != 64) = false := by simp; omega
  obtain ⟨l, hl⟩ : ∃ l, l = s.data.toList := ⟨_, rfl⟩
  have hll : l.length = 64 := by rw [hl]; omega
  rw [← hl]
  obtain ⟨pz, hp⟩ : ∃ pz, pz = parsed l := ⟨_, rfl⟩
  obtain ⟨ez, he⟩ : ∃ ez : Int, ez = if good l = true then 0 else 130 := ⟨_, rfl⟩
  rw [← hp, ← he]
  have HL := Lib.hid (And.intro hl (And.intro hll (And.intro hs (And.intro hp he))))
  clear hl hll hsz hp he
  have HS := Lib.hid hs
  go_enter Tryd.func26, Tryd.ntmps26
  go_wp2_with (with_reducible refine wpList_allocs (o := ⟨some 2, .alloc 40, _, _, _, _⟩) rfl 40 rfl _ zero40 ?_; intro w1 hb1 m1 z1; replace z1 := Lib.hid z1)
  go_step3
  go_wp2_with (with_reducible refine wpList_allocs (o := ⟨some 4, .alloc 40, _, _, _, _⟩) rfl 40 rfl _ zero40 ?_; intro w2 hb2 m2 z2; replace z2 := Lib.hid z2)
  go_step3
  go_wp2_with (with_reducible refine wpList_rangeS (o := ⟨some 14, .range 9 (.tmp 13), _, _, _, _⟩) rfl 9 (.tmp 13) rfl Tryd.underlying9 s rfl ?_; intro w3 hi3 m3 z3; replace z3 := Lib.hid z3)
  obtain ⟨g2, e2⟩ : ∃ b, b = w.heap.size := ⟨_, rfl⟩
  obtain ⟨g4, e4⟩ : ∃ b, b = w1.heap.size := ⟨_, rfl⟩
  obtain ⟨g5, e5⟩ : ∃ b, b = w2.heap.size := ⟨_, rfl⟩
  have hg : g2 < g4 ∧ g4 < g5 ∧ w.heap.size ≤ g2 := by have := z1.out; have := z2.out; omega
  have h2 : Holds w3 g2 40 (zid.map oct) := by rw [e2]; exact (hb1.keep m2 (by simp)).keep m3 (by simp)
  have h4 : Holds w3 g4 40 ((pid l 0).map oct) := by rw [pid_zero, e4]; exact hb2.keep m3 (by simp)
  have mm : Mod [] w w3 := (m1.then m2).then m3
  rw [← e5] at hi3
  rw [← e2, ← e4, ← e5]
  have HG := Lib.hid hg
  clear e2 e4 e5 hb1 hb2 m1 m2 m3 z1 z2 z3 hg hs
  simp only [Act.put, List.setIfInBounds_toArray, List.set_cons_succ, List.set_cons_zero]
  go_loopw [5] (fun rd wi => ∃ k : Nat, k ≤ 64 ∧ rd = .int .i64 (k : Int) ∧ (∀ j, j < k → dv (l.getD j 0) < 16) ∧ StrIt wi g5 s k ∧ Holds wi g4 40 ((pid l k).map oct) ∧ Holds wi g2 40 (zid.map oct) ∧ Mod [] w wi) (fun rd _ => 64 - (intOf rd).toNat)
  case atStart => exact ⟨0, by omega, rfl, fun j h => by omega, hi3, h4, h2, mm⟩
  case round =>
    clear hi3 h4 h2 mm
    obtain ⟨k, hk, rfl, hdig, hi, h4, h2, mm⟩ := hrel
    by_cases hlt : k < 64
    · have hks : k < s.size := by rw [HS.out]; exact hlt
      by_cases hd : dv (l.getD k 0) < 16
      · have hde : Utf8.decode s k = ((l.getD k 0).toNat, 1) := by
          have := decode_digit s k hks (by rw [← HL.out.1]; exact hd)
          rwa [← HL.out.1] at this
        have hlow : (l.getD k 0).toNat < 128 := by
          have hdd := hd
          unfold dv at hdd
          split at hdd
          · omega
          · split at hdd <;> omega
        have X := fun v => ixr_low (l.getD k 0) hlow v
        rw [if_pos hd] at X
        have hstep := pid_step l k hlt
        have hah := ahead_lt l k hdig
        have hold : (pid l k).getD (k / 2) 0 = UInt8.ofNat (ahead l k) := pid_at l k (k / 2) (by omega)
        obtain ⟨a, ha⟩ : ∃ a, a = ahead l k := ⟨_, rfl⟩
        obtain ⟨d, hdv⟩ : ∃ d, d = dv (l.getD k 0) := ⟨_, rfl⟩
        have hor := or_digit a d (by omega) (by omega)
        have ha16 : a < 16 := by omega
        rw [← ha] at hstep hold
        rw [← hdv] at hstep X
        have hd16 : d < 16 := by omega
        obtain ⟨rn, hrn⟩ : ∃ rn, rn = (l.getD k 0).toNat := ⟨_, rfl⟩
        rw [← hrn] at hde X
        have HX := Lib.hid (And.intro X (And.intro hde (And.intro hstep (And.intro hold (And.intro hdig (And.intro hd hk))))))
        clear X hde hstep hold hdig hk hlow hrn hdv ha hah hd
        go_wp2_with (with_reducible refine wpList_nextS (o := ⟨some 15, .next (.tmp 14) true, _, _, _, _⟩) rfl (.tmp 14) rfl g5 k s rfl hi hks rn 1 HX.out.2.1 ?_; intro w5 hi5 m5 z5; replace z5 := Lib.hid z5)
        refine (HX.out.1 _).mono ?_
        rintro e w6 ⟨rfl, rfl⟩
        have h4' : Holds w6 g4 40 ((pid l k).map oct) := h4.keep m5 (by have := HG.out; simp; omega)
        have h2' : Holds w6 g2 40 (zid.map oct) := h2.keep m5 (by have := HG.out; simp; omega)
        have mm' : Mod [] w w6 := mm.trans m5 (by have := HG.out; intro i hi h; simp at h; omega)
        have c4 : w6.cell? ⟨g4, k / 2, none⟩ = some (.int .u8 (a : Int)) := by
          have e := h4'.cell (k / 2)
          rw [e, List.getElem?_map, List.getElem?_eq_getElem (show k / 2 < (pid l k).length by rw [pid_length]; omega), at_getD _ _ (by rw [pid_length]; omega), HX.out.2.2.2.1]
          simp; omega
        have f4 : w6.frozen? ⟨g4, k / 2, none⟩ = false := h4'.free _
        have HK := Lib.hid (And.intro h4' (And.intro h2' (And.intro mm' hi5)))
        clear h4 h2 mm h4' h2' mm' hi hi5 m5 z5
        have hk2 : ((k : Int) / 2).toNat = k / 2 := by omega
        have hk32 : k / 2 < 32 := by omega
        go_wp2_with fail
        have hval : Value.int .u8 (bits BinOp.or IntKind.u8 ((a : Int) * 16) (d : Int)) = oct (UInt8.ofNat (16 * a + d)) := by
          have e : IntKind.u8.wrap ((a : Int) * 16) = (a : Int) * 16 := by show (a : Int) * 16 % 256 = _; omega
          rw [← e, hor]
          simp; omega
        rw [hval]
        clear hval hor c4 f4
        have n4 := HK.out.1.set (k / 2) (oct (UInt8.ofNat (16 * a + d)))
        rw [← List.map_set, HX.out.2.2.1] at n4
        have mc : Mod [g4] w6 (w6.setCell ⟨g4, k / 2, none⟩ (oct (UInt8.ofNat (16 * a + d)))) := Mod.setCell w6 (p := ⟨g4, k / 2, none⟩) (by simp) _
        refine ⟨⟨k + 1, by omega, by go_num, fun j hj => ?_, HK.out.2.2.2.keep mc (by have := HG.out; simp; omega), n4, HK.out.2.1.keep mc (by have := HG.out; simp; omega), HK.out.2.2.1.trans mc (by have := HG.out; intro i hi h; simp at h; omega)⟩, by simp [intOf]; omega⟩
        rcases Nat.lt_or_ge j k with h | h
        · exact HX.out.2.2.2.2.1 j h
        · obtain rfl : j = k := by omega
          exact HX.out.2.2.2.2.2.1
      · have hg : good l = false := bad_at k hlt hd
        have hout := decode_other s k hks (by rw [← HL.out.1]; exact hd)
        obtain ⟨rn, wd', hde⟩ : ∃ rn wd', Utf8.decode s k = (rn, wd') := ⟨_, _, rfl⟩
        rw [hde] at hout
        have X : ∀ v, Calls Tryd.prog 47 #[.string { data := #[48, 49, 50, 51, 52, 53, 54, 55, 56, 57, 97, 98, 99, 100, 101, 102] }, .int .i32 (rn : Int)] v fun e w' => e = .returned (.int .i64 (-1)) ∧ Mod [] v w' := fun v => by
          rcases hout with ⟨h1, h2⟩ | ⟨h1, _⟩
          · have h1' : rn < 128 := h1
            have e : (UInt8.ofNat rn).toNat = rn := by rw [UInt8.toNat_ofNat']; omega
            have := ixr_low (UInt8.ofNat rn) (by rw [e]; exact h1') v
            rw [e, if_neg h2] at this
            refine this.mono ?_
            rintro e w' ⟨rfl, rfl⟩
            exact ⟨rfl, Mod.refl _ _⟩
          · exact ixr_high rn h1 v
        have hpz : pz = zid := by rw [HL.out.2.2.2.1]; unfold parsed; rw [hg]; rfl
        have hez : ez = 130 := by rw [HL.out.2.2.2.2, hg]; rfl
        have HE := Lib.hid (And.intro hpz hez)
        have hk64 : ((k : Int) != 64) = true := by simp; omega
        have HX := Lib.hid (And.intro X hde)
        clear X hde hout hd hdig hk hg hpz hez
        go_wp2_with (with_reducible refine wpList_nextS (o := ⟨some 15, .next (.tmp 14) true, _, _, _, _⟩) rfl (.tmp 14) rfl g5 k s rfl hi hks rn wd' HX.out.2 ?_; intro w5 hi5 m5 z5; replace z5 := Lib.hid z5)
        refine (HX.out.1 _).mono ?_
        rintro e w6 ⟨rfl, m6⟩
        have h2' : Holds w6 g2 40 (zid.map oct) := (h2.keep m5 (by have := HG.out; simp; omega)).keep m6 (by simp)
        have mm' : Mod [] w w6 := (mm.trans m5 (by have := HG.out; intro i hi h; simp at h; omega)).then m6
        clear h2 h4 mm hi hi5 m5 m6 z5
        go_wp2_with (first
          | (with_reducible refine wpList_ran (o := ⟨some 38, .build 40 #[], _, _, _, _⟩) rfl (.agg (zid.map oct).toArray) (exec_zid rfl) ?_)
          | (with_reducible refine wpList_storesAll (o := ⟨none, .store 40 (.tmp 2) (.tmp 38), _, _, _, _⟩) rfl 40 (.tmp 2) (.tmp 38) rfl rfl g2 (zid.map oct) rfl (.agg (zid.map oct).toArray) rfl rfl 40 _ h2' rfl (octs_one _) zid_size ?_; intro w7 hw7 m7 z7))
        rw [Exit.noGoto_ret]
        refine bodyPost_ret (results_ct rfl _ _ g2 (zid.map oct) _ _ rfl rfl (Cells.of_holds hw7) Tryd.underlying40 rfl (size40_of _ rfl)) rfl ?_
        exact ⟨by rw [HE.out.1, HE.out.2]; rfl, mm'.trans m7 (by have := HG.out; intro i hi h; simp at h; omega)⟩
    · obtain rfl : k = 64 := by omega
      have hg : good l = true := good_of HL.out.2.1 hdig
      have hpz : pz = pid l 64 := by rw [HL.out.2.2.2.1]; unfold parsed; rw [hg]; rfl
      have hez : ez = 0 := by rw [HL.out.2.2.2.2, hg]; rfl
      have HE := Lib.hid (And.intro hpz hez)
      clear hpz hez hg hdig
      have hks : ¬ 64 < s.size := by rw [HS.out]; omega
      have sz : (Tryd.prog.info? 40).map (·.size) = some ((pid l 64).map oct).length := size40_of _ (pid_length _ _)
      go_wp2_with (first
        | (with_reducible refine wpList_nextS_end (o := ⟨some 15, .next (.tmp 14) true, _, _, _, _⟩) rfl (.tmp 14) rfl g5 64 s rfl hi hks ?_)
        | (with_reducible refine wpList_loads (o := ⟨some 39, .load 40 (.tmp 4), _, _, _, _⟩) rfl 40 (.tmp 4) rfl g4 0 _ rfl (Cells.of_holds h4) _ Tryd.underlying40 rfl sz (.agg ((pid l 64).map oct).toArray) rfl ?_)
        | (with_reducible refine wpList_storesAll (o := ⟨none, .store 40 (.tmp 2) (.tmp 39), _, _, _, _⟩) rfl 40 (.tmp 2) (.tmp 39) rfl rfl g2 ((pid l 64).map oct) rfl (.agg ((pid l 64).map oct).toArray) rfl rfl 40 _ h2 (by simp [pid_length, zid]) (octs_one _) sz ?_; intro w7 hw7 m7 z7))
      rw [Exit.noGoto_ret]
      refine bodyPost_ret (results_ct rfl _ _ g2 ((pid l 64).map oct) _ _ rfl rfl (Cells.of_holds hw7) Tryd.underlying40 rfl sz) rfl ?_
      exact ⟨by rw [HE.out.1, HE.out.2]; rfl, mm.trans m7 (by have := HG.out; intro i hi h; simp at h; omega)⟩
end Go.Proofs.YtgojheoelcmcpaaDoor
