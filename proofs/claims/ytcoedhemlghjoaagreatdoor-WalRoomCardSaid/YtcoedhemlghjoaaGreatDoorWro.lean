/-
  WalRoom: what has room is taken down, what has none is refused. The walk; my own work.
-/
import Derived.Test.YtcoedhemlghjoaaGreatDoorWtk
namespace Go.Proofs.YtcoedhemlghjoaaGreatDoor
open Go.RowKit
/-- How things stand between the rounds. -/
structure RS (c s : List UInt32) (N g m b : Nat) (w : World) (k : Nat) (L : Lo) (S : St) (ms rs : List Nat) (W : World) : Prop where
  lg : Lg c s g m b L S ms rs W
  calm : Calm S
  fine : Fine c s L S.n S.holds
  br : L.br = false
  a : L.a = N
  t : L.t ≤ k
  ops : S.ops ≤ 3000 + 1000 * k
  mm : Mod [] w W
  ms : ∀ i ∈ ms, w.heap.size ≤ i
  rs : ∀ i ∈ rs, w.heap.size ≤ i
theorem RS.keep {c s : List UInt32} {N g m b : Nat} {w : World} {k : Nat} {L : Lo} {S : St} {ms rs : List Nat} {W V : World} (h : RS c s N g m b w k L S ms rs W) (q : Mod [] W V) : RS c s N g m b w k L S ms rs V :=
  ⟨h.lg.keep0 q, h.calm, h.fine, h.br, h.a, h.t, h.ops, h.mm.then q, h.ms, h.rs⟩
set_option maxRecDepth 1000000 in
set_option maxHeartbeats 4000000 in
theorem room_w (c s : List UInt32) (area : Int) (A : Option Addr) (l : List AkR) (n cap : Nat) (hn : n = l.length) (hn2 : n ≤ maxLen) (w : World) (G : Glob c s w) (HA : Acts w A l) :
    Calls Tryz.prog 8 #[.int .i64 area, .slice A n cap] w fun r w' => r = .returned (.bool true) ∧ Mod [] w w' := by
  have XW := wakes_c c s w G
  have XL := fun v => length_c area v
  obtain ⟨N, hN⟩ : ∃ N, N = lenN area := ⟨_, rfl⟩
  have hN4 : 4 ≤ N ∧ N ≤ 1000 := by
    rw [hN]; unfold lenN
    have := u64_nonneg area
    omega
  rw [← hN] at XL
  have hNZ : (N : Int) ≤ 1000 := by omega
  have hNZ4 : (4 : Int) ≤ (N : Int) := by omega
  have hnZ : (n : Int) ≤ 9223372036854775807 := by unfold maxLen at hn2; omega
  have HH := Lib.hid (And.intro G (And.intro HA (And.intro hn hN4)))
  clear G HA hn hN hN4 hn2
  go_enter Tryz.func8, Tryz.ntmps8
  go_wp2_with fail
  refine XW.mono ?_
  rintro r w1 ⟨rfl, m1⟩
  clear XW
  have HM := Lib.hid m1
  clear m1
  go_wp2_with fail
  refine (XL w1).mono ?_
  rintro r w2 ⟨rfl, rfl⟩
  clear XL
  have XF := fresh_c c s N HH.out.2.2.2 w2 (HH.out.1.keep HM.out)
  go_wp2_with fail
  refine XF.mono ?_
  rintro r w3 ⟨g, m, b, ms, rs, T, rfl, q1, q2, q3, q4, q5, q6, q7, q8, q9⟩
  clear XF
  have h0 : RS c s N g m b w 0 (Lo.made N) T ms rs w3 := ⟨q1, q2, q6, rfl, rfl, Nat.le_refl _, by omega, HM.out.then q7, fun i hi => Nat.le_trans HM.out.size (q8 i hi), fun i hi => Nat.le_trans HM.out.size (q9 i hi)⟩
  replace h0 := Lib.hid h0
  clear q1 q2 q3 q4 q5 q6 q7 q8 q9 HM
  have hN1 : (N : Int) - 1 = ((N - 1 : Nat) : Int) := by omega
  go_wp2_with fail
  go_loopw [30, 8, 9] (fun i x t wr => ∃ (k lft tt : Nat) (L : Lo) (S : St) (ms rs : List Nat), k ≤ n ∧ k ≤ 20 ∧ i = .int .i64 (k : Int) ∧ x = .int .i64 (lft : Int) ∧ t = .int .u32 (tt : Int) ∧ lft = L.a - L.e ∧ tt = L.t ∧ RS c s N g m b w k L S ms rs wr) (fun i _ _ _ => n - (intOf i).toNat)
  case atStart => exact ⟨0, N - 1, 0, Lo.made N, T, ms, rs, Nat.zero_le _, Nat.zero_le _, rfl, rfl, rfl, rfl, rfl, h0.out⟩
  case round =>
    obtain ⟨k, lft, tt, L, S, ms, rs, hk, hk20, rfl, rfl, rfl, hlft, htt, hR⟩ := hrel
    have hltZ : (lft : Int) ≤ 1000 := by have := hR.a; omega
    have httZ : (tt : Int) ≤ 20 := by have := hR.t; omega
    have HL := Lib.hid (And.intro hlft htt)
    clear hlft htt
    clear h0 hN1
    have HR := Lib.hid hR
    clear hR
    by_cases hkn : k < n
    · have hkZ : (k : Int) < (n : Int) := by omega
      obtain ⟨ga, oa, rfl, hcl0⟩ := HH.out.2.1.keep HR.out.mm k (by rw [← HH.out.2.2.1]; exact hkn)
      obtain ⟨R, hRk⟩ : ∃ r, r = l[k]'(by rw [← HH.out.2.2.1]; exact hkn) := ⟨_, rfl⟩
      rw [← hRk] at hcl0
      obtain ⟨a0, ha0⟩ : ∃ a, a = R.a := ⟨_, rfl⟩
      obtain ⟨KK, hKK⟩ : ∃ a, a = R.K := ⟨_, rfl⟩
      obtain ⟨nk, hnk⟩ : ∃ a, a = R.keep.length := ⟨_, rfl⟩
      obtain ⟨ck, hck⟩ : ∃ a, a = R.c := ⟨_, rfl⟩
      rw [← ha0, ← hKK, ← hnk, ← hck] at hcl0
      clear hRk ha0 hKK hnk hck
      have arm : True := trivial
      by_cases hk2 : k = 20
      · subst hk2
        go_wp2_with (first
          | (with_reducible refine wpList_loads (o := ⟨some 34, .load 29 (.tmp 33), _, _, _, _⟩) rfl 29 (.tmp 33) rfl ga (oa + 20 * 4) _ rfl hcl0 _ Tryz.underlying29 rfl (size29 _ _ _ _) (.agg (ac a0 KK nk ck).toArray) rfl ?_)
          | (with_reducible refine wpList_allocs (o := ⟨some 11, .alloc 29, _, _, _, _⟩) rfl 29 rfl _ zero29 ?_; intro v1 hv1 mv1 zv1; replace zv1 := Lib.hid zv1)
          | (with_reducible refine wpList_storesAll (o := ⟨none, .store 29 (.tmp 11) (.tmp 34), _, _, _, _⟩) rfl 29 (.tmp 11) (.tmp 34) rfl rfl wr.heap.size (ac a0 KK nk ck) rfl (.agg (ac a0 KK nk ck).toArray) rfl rfl 29 _ hv1 (by rw [ac_length, ac_length]) (ac_one _ _ _ _) (size29 _ _ _ _) ?_; intro v2 hv2 mv2 zv2; replace zv2 := Lib.hid zv2))
        go_ret
        exact ⟨rfl, (HR.out.mm.then mv1).trans mv2 (fun i hi h => by have := HR.out.mm.size; simp at h; omega)⟩
      · have hk2Z : ¬ (k : Int) = 20 := by omega
        go_wp2_with (first
          | (with_reducible refine wpList_loads (o := ⟨some 34, .load 29 (.tmp 33), _, _, _, _⟩) rfl 29 (.tmp 33) rfl ga (oa + k * 4) _ rfl hcl0 _ Tryz.underlying29 rfl (size29 _ _ _ _) (.agg (ac a0 KK nk ck).toArray) rfl ?_)
          | (with_reducible refine wpList_allocs (o := ⟨some 11, .alloc 29, _, _, _, _⟩) rfl 29 rfl _ zero29 ?_; intro v1 hv1 mv1 zv1; replace zv1 := Lib.hid zv1)
          | (with_reducible refine wpList_storesAll (o := ⟨none, .store 29 (.tmp 11) (.tmp 34), _, _, _, _⟩) rfl 29 (.tmp 11) (.tmp 34) rfl rfl wr.heap.size (ac a0 KK nk ck) rfl (.agg (ac a0 KK nk ck).toArray) rfl rfl 29 _ hv1 (by rw [ac_length, ac_length]) (ac_one _ _ _ _) (size29 _ _ _ _) ?_
             intro v2 hv2 mv2 zv2
             obtain ⟨bt, ebt⟩ : ∃ b, b = wr.heap.size := ⟨_, rfl⟩
             rw [← ebt] at hv2
             rw [← ebt]
             have mr2 : Mod [] wr v2 := mv1.trans mv2 (fun i hi h => by simp at h; omega)
             have hbt := Lib.hid (show w.heap.size ≤ bt ∧ wr.heap.size ≤ bt by have := HR.out.mm.size; omega)
             clear hv1 mv1 mv2 zv1 zv2 ebt)
          | (with_reducible refine wpList_loads (o := ⟨some 37, .load 29 (.tmp 11), _, _, _, _⟩) rfl 29 (.tmp 11) rfl bt 0 _ rfl (Cells.of_holds hv2) _ Tryz.underlying29 rfl (size29 _ _ _ _) (.agg (ac a0 KK nk ck).toArray) rfl ?_))
        refine (taking_c a0 KK nk ck v2).mono ?_
        rintro r w5 ⟨rfl, m5⟩
        obtain ⟨aT, haT⟩ : ∃ a, a = a0.taking := ⟨_, rfl⟩
        rw [← haT]
        have hv5 := hv2.keep m5 (by simp)
        replace mr2 := mr2.then m5
        clear hv2 m5 haT hcl0
        go_wp2_with (first
          | (with_reducible refine wpList_storesAll (o := ⟨none, .store 29 (.tmp 11) (.tmp 38), _, _, _, _⟩) rfl 29 (.tmp 11) (.tmp 38) rfl rfl bt (ac aT KK nk ck) rfl (.agg (ac aT KK nk ck).toArray) rfl rfl 29 _ hv5 (by rw [ac_length, ac_length]) (ac_one _ _ _ _) (size29 _ _ _ _) ?_
             intro w6 hv m6 z6
             have mr6 : Mod [] wr w6 := mr2.trans m6 (fun i hi h => by have := hbt.out; simp at h; omega)
             clear hv5 mr2 m6 z6)
          | (with_reducible refine wpList_loads (o := ⟨some 39, .load 29 (.tmp 11), _, _, _, _⟩) rfl 29 (.tmp 11) rfl bt 0 _ rfl (Cells.of_holds hv) _ Tryz.underlying29 rfl (size29 _ _ _ _) (.agg (ac aT KK nk ck).toArray) rfl ?_))
        refine (bytes_c aT KK nk ck w6).mono ?_
        rintro r w7 ⟨xb, rfl, -, m7, -⟩
        replace hv := hv.keep m7 (by simp)
        replace mr6 := mr6.then m7
        clear m7
        obtain ⟨ln, hln⟩ : ∃ n, n = aT.long := ⟨_, rfl⟩
        have hln4 : (ln : Int) ≤ 40001 := by have := aT.long_le; omega
        rw [← hln]
        have XS := sectors_c ln (by omega) w7
        obtain ⟨f, hf⟩ : ∃ f, f = fills ln := ⟨_, rfl⟩
        have hfZ : (f : Int) ≤ 834 := by have := fills_le ln; omega
        rw [← hf] at XS
        have HT0 := Lib.hid (And.intro hln hf)
        clear hln hf
        go_wp2_with fail
        refine XS.mono ?_
        rintro r w8 ⟨rfl, rfl⟩
        clear XS
        go_wp2_with (with_reducible refine wpList_loads (o := ⟨some 44, .load 29 (.tmp 11), _, _, _, _⟩) rfl 29 (.tmp 11) rfl bt 0 _ rfl (Cells.of_holds hv) _ Tryz.underlying29 rfl (size29 _ _ _ _) (.agg (ac aT KK nk ck).toArray) rfl ?_)
        refine (kind_c aT KK nk ck w8).mono ?_
        rintro r w9 ⟨rfl, m9⟩
        replace hv := hv.keep m9 (by simp)
        replace mr6 := mr6.then m9
        clear m9
        obtain ⟨kd, hkd⟩ : ∃ k, k = aT.kind := ⟨_, rfl⟩
        rw [← hkd]
        have hkdZ : (kd : Int) < 8 := by have := aT.kind_lt; omega
        have HT := Lib.hid (And.intro HT0.out.1 (And.intro HT0.out.2 hkd))
        clear HT0 hkd
        by_cases k3 : kd = 3
        · have k3Z : (kd : Int) = 3 := by omega
          by_cases h1 : 40000 < ln
          · have h1Z : (40000 : Int) < (ln : Int) := by omega
            go_wp2_with (with_reducible refine wpList_loads (o := ⟨some 52, .load 29 (.tmp 11), _, _, _, _⟩) rfl 29 (.tmp 11) rfl bt 0 _ rfl (Cells.of_holds hv) _ Tryz.underlying29 rfl (size29 _ _ _ _) (.agg (ac aT KK nk ck).toArray) rfl ?_)
            refine (bytes_c aT KK nk ck w9).mono ?_
            rintro r w10 ⟨xb2, rfl, -, m10, -⟩
            replace hv := hv.keep m10 (by simp)
            replace mr6 := mr6.then m10
            clear m10
            rw [← HT.out.1]
            have hTK : L.take c s S aT = (3, L, S) := tk_long aT (by rw [← HT.out.1]; exact h1)
            have hLf : L.a - L.e = lft := HL.out.1.symm
            have hTt : L.t = tt := HL.out.2.symm
            have hBr : L.br = false := HR.out.br
            have hCalm : Calm S ∧ Fine c s L S.n S.holds ∧ L.br = false ∧ L.a = N ∧ L.t ≤ k + 1 ∧ S.ops ≤ 3000 + 1000 * (k + 1) := ⟨HR.out.calm, HR.out.fine, HR.out.br, HR.out.a, by have := HR.out.t; omega, by have := HR.out.ops; omega⟩
            have HQ := Lib.hid (And.intro hTK (And.intro hLf (And.intro hTt (And.intro hBr hCalm))))
            clear hTK hLf hTt hBr hCalm
            go_wp2_with (with_reducible refine wpList_loads (o := ⟨some 70, .load 29 (.tmp 11), _, _, _, _⟩) rfl 29 (.tmp 11) rfl bt 0 _ rfl (Cells.of_holds hv) _ Tryz.underlying29 rfl (size29 _ _ _ _) (.agg (ac aT KK nk ck).toArray) rfl ?_)
            have hR6 := HR.out.keep mr6
            have XT := take_c (hR6.lg.keep0 (Mod.refl [] _)) aT KK nk ck (by have := hR6.ops; omega)
            rw [HQ.out.1] at XT
            refine XT.mono ?_
            rintro r w12 ⟨rfl, ms2, rs2, L2, mT, nT, rT⟩
            have hms2 : ∀ i ∈ ms2, w.heap.size ≤ i := fun i hi => (nT i hi).elim (HR.out.ms i) (fun q => Nat.le_trans HR.out.mm.size (Nat.le_trans mr6.size q))
            have hrs2 : ∀ i ∈ rs2, w.heap.size ≤ i := fun i hi => (rT i hi).elim (HR.out.rs i) (fun q => Nat.le_trans HR.out.mm.size (Nat.le_trans mr6.size q))
            have mm2 : Mod [] w w12 := (HR.out.mm.then mr6).trans mT (fun i hi h => by have := HR.out.ms i h; omega)
            clear XT mT nT rT hR6
            have XL := lg_left L2
            rw [HQ.out.2.1] at XL
            go_wp2_with fail
            refine XL.mono ?_
            rintro r w13 ⟨rfl, m13⟩
            clear XL
            have L3 := L2.keep0 m13
            replace mm2 := mm2.then m13
            clear L2 m13
            have XU := lg_turn L3
            rw [HQ.out.2.2.1] at XU
            go_wp2_with fail
            refine XU.mono ?_
            rintro r w14 ⟨rfl, rfl⟩
            clear XU
            have XB := lg_broken L3
            rw [HQ.out.2.2.2.1] at XB
            go_wp2_with fail
            refine XB.mono ?_
            rintro r w15 ⟨rfl, rfl⟩
            clear XB
            have HF := Lib.hid (And.intro L3 (And.intro hms2 (And.intro hrs2 (And.intro mm2 (And.intro HQ.out.2.2.2.2 HQ.out.2.1)))))
            have hTt2 := Lib.hid HQ.out.2.2.1
            clear L3 hms2 hrs2 mm2 HQ
            go_wp2_with fail
            refine ⟨⟨k + 1, lft, tt, L, S, ms2, rs2, by omega, by omega, by go_num, rfl, rfl, HF.out.2.2.2.2.2.symm, hTt2.out.symm, ⟨HF.out.1, HF.out.2.2.2.2.1.1, HF.out.2.2.2.2.1.2.1, HF.out.2.2.2.2.1.2.2.1, HF.out.2.2.2.2.1.2.2.2.1, HF.out.2.2.2.2.1.2.2.2.2.1, HF.out.2.2.2.2.1.2.2.2.2.2, HF.out.2.2.2.1, HF.out.2.1, HF.out.2.2.1⟩⟩, by simp [intOf]; omega⟩
          · by_cases h2 : N < f
            · have h1Z : ¬ (40000 : Int) < (ln : Int) := by omega
              have h2Z : (N : Int) < (f : Int) := by omega
              go_wp2_with (with_reducible refine wpList_loads (o := ⟨some 52, .load 29 (.tmp 11), _, _, _, _⟩) rfl 29 (.tmp 11) rfl bt 0 _ rfl (Cells.of_holds hv) _ Tryz.underlying29 rfl (size29 _ _ _ _) (.agg (ac aT KK nk ck).toArray) rfl ?_)
              refine (bytes_c aT KK nk ck w9).mono ?_
              rintro r w10 ⟨xb2, rfl, -, m10, -⟩
              replace hv := hv.keep m10 (by simp)
              replace mr6 := mr6.then m10
              clear m10
              rw [← HT.out.1]
              have hTK : L.take c s S aT = (6, L, S) := tk_full HR.out.br aT (by rw [← HT.out.1]; exact h1) (by unfold Lo.room; rw [if_pos (by rw [← HT.out.2.2]; exact k3), ← HT.out.1, ← HT.out.2.1]; have := HR.out.a; omega)
              have hLf : L.a - L.e = lft := HL.out.1.symm
              have hTt : L.t = tt := HL.out.2.symm
              have hBr : L.br = false := HR.out.br
              have hCalm : Calm S ∧ Fine c s L S.n S.holds ∧ L.br = false ∧ L.a = N ∧ L.t ≤ k + 1 ∧ S.ops ≤ 3000 + 1000 * (k + 1) := ⟨HR.out.calm, HR.out.fine, HR.out.br, HR.out.a, by have := HR.out.t; omega, by have := HR.out.ops; omega⟩
              have HQ := Lib.hid (And.intro hTK (And.intro hLf (And.intro hTt (And.intro hBr hCalm))))
              clear hTK hLf hTt hBr hCalm
              go_wp2_with (with_reducible refine wpList_loads (o := ⟨some 70, .load 29 (.tmp 11), _, _, _, _⟩) rfl 29 (.tmp 11) rfl bt 0 _ rfl (Cells.of_holds hv) _ Tryz.underlying29 rfl (size29 _ _ _ _) (.agg (ac aT KK nk ck).toArray) rfl ?_)
              have hR6 := HR.out.keep mr6
              have XT := take_c (hR6.lg.keep0 (Mod.refl [] _)) aT KK nk ck (by have := hR6.ops; omega)
              rw [HQ.out.1] at XT
              refine XT.mono ?_
              rintro r w12 ⟨rfl, ms2, rs2, L2, mT, nT, rT⟩
              have hms2 : ∀ i ∈ ms2, w.heap.size ≤ i := fun i hi => (nT i hi).elim (HR.out.ms i) (fun q => Nat.le_trans HR.out.mm.size (Nat.le_trans mr6.size q))
              have hrs2 : ∀ i ∈ rs2, w.heap.size ≤ i := fun i hi => (rT i hi).elim (HR.out.rs i) (fun q => Nat.le_trans HR.out.mm.size (Nat.le_trans mr6.size q))
              have mm2 : Mod [] w w12 := (HR.out.mm.then mr6).trans mT (fun i hi h => by have := HR.out.ms i h; omega)
              clear XT mT nT rT hR6
              have XL := lg_left L2
              rw [HQ.out.2.1] at XL
              go_wp2_with fail
              refine XL.mono ?_
              rintro r w13 ⟨rfl, m13⟩
              clear XL
              have L3 := L2.keep0 m13
              replace mm2 := mm2.then m13
              clear L2 m13
              have XU := lg_turn L3
              rw [HQ.out.2.2.1] at XU
              go_wp2_with fail
              refine XU.mono ?_
              rintro r w14 ⟨rfl, rfl⟩
              clear XU
              have XB := lg_broken L3
              rw [HQ.out.2.2.2.1] at XB
              go_wp2_with fail
              refine XB.mono ?_
              rintro r w15 ⟨rfl, rfl⟩
              clear XB
              have HF := Lib.hid (And.intro L3 (And.intro hms2 (And.intro hrs2 (And.intro mm2 (And.intro HQ.out.2.2.2.2 HQ.out.2.1)))))
              have hTt2 := Lib.hid HQ.out.2.2.1
              clear L3 hms2 hrs2 mm2 HQ
              go_wp2_with fail
              refine ⟨⟨k + 1, lft, tt, L, S, ms2, rs2, by omega, by omega, by go_num, rfl, rfl, HF.out.2.2.2.2.2.symm, hTt2.out.symm, ⟨HF.out.1, HF.out.2.2.2.2.1.1, HF.out.2.2.2.2.1.2.1, HF.out.2.2.2.2.1.2.2.1, HF.out.2.2.2.2.1.2.2.2.1, HF.out.2.2.2.2.1.2.2.2.2.1, HF.out.2.2.2.2.1.2.2.2.2.2, HF.out.2.2.2.1, HF.out.2.1, HF.out.2.2.1⟩⟩, by simp [intOf]; omega⟩
            · have h1Z : ¬ (40000 : Int) < (ln : Int) := by omega
              have h2Z : ¬ (N : Int) < (f : Int) := by omega
              go_wp2_with (with_reducible refine wpList_loads (o := ⟨some 52, .load 29 (.tmp 11), _, _, _, _⟩) rfl 29 (.tmp 11) rfl bt 0 _ rfl (Cells.of_holds hv) _ Tryz.underlying29 rfl (size29 _ _ _ _) (.agg (ac aT KK nk ck).toArray) rfl ?_)
              refine (bytes_c aT KK nk ck w9).mono ?_
              rintro r w10 ⟨xb2, rfl, -, m10, -⟩
              replace hv := hv.keep m10 (by simp)
              replace mr6 := mr6.then m10
              clear m10
              rw [← HT.out.1]
              obtain ⟨T2, hTK, hT2, -, hF2, hB2⟩ := HR.out.calm.take (c := c) (s := s) HR.out.fine HR.out.br (by have := HR.out.t; omega) aT (by rw [← HT.out.1]; exact h1) (by unfold Lo.room; rw [if_pos (by rw [← HT.out.2.2]; exact k3), ← HT.out.1, ← HT.out.2.1]; have := HR.out.a; omega)
              obtain ⟨lv, hlv⟩ : ∃ x, x = (L.behind aT).a - (L.behind aT).e := ⟨_, rfl⟩
              obtain ⟨tv, htv⟩ : ∃ x, x = (L.behind aT).t := ⟨_, rfl⟩
              have hLf := hlv.symm
              have hTt := htv.symm
              have hBr := hB2
              have hlv2 := hlv
              rw [behind_a, behind_e, if_pos (by rw [← HT.out.2.2]; exact k3), ← HT.out.1, ← HT.out.2.1] at hlv2
              have htv2 := htv
              rw [behind_t, if_pos (by rw [← HT.out.2.2]; exact k3)] at htv2
              have hCalm : Calm T2 ∧ Fine c s (L.behind aT) T2.n T2.holds ∧ (L.behind aT).br = false ∧ (L.behind aT).a = N ∧ (L.behind aT).t ≤ k + 1 ∧ T2.ops ≤ 3000 + 1000 * (k + 1) := ⟨hT2.calm, by rw [hT2.n]; exact hF2, hB2, by rw [behind_a]; exact HR.out.a, by rw [htv2] at htv; have := HR.out.t; rw [← htv]; omega, by have := HR.out.ops; have := hT2.ops; omega⟩
              have hlvZ : (N : Int) - (f : Int) = (lv : Int) := by have := HR.out.a; have := HL.out.1; omega
              have htvZ : (tt : Int) + 1 = (tv : Int) := by have := HL.out.2; omega
              clear hlv htv hlv2 htv2 hT2 hF2 hB2
              have HQ0 := Lib.hid (And.intro hTK (And.intro hLf (And.intro hTt (And.intro hBr hCalm))))
              clear hTK hLf hTt hBr hCalm
              go_wp2_with (with_reducible refine wpList_loads (o := ⟨some 61, .load 29 (.tmp 11), _, _, _, _⟩) rfl 29 (.tmp 11) rfl bt 0 _ rfl (Cells.of_holds hv) _ Tryz.underlying29 rfl (size29 _ _ _ _) (.agg (ac aT KK nk ck).toArray) rfl ?_)
              refine (kind_c aT KK nk ck w10).mono ?_
              rintro r w11 ⟨rfl, m11⟩
              replace hv := hv.keep m11 (by simp)
              replace mr6 := mr6.then m11
              clear m11
              rw [← HT.out.2.2]
              obtain ⟨hTK, hLf, hTt, hBr, hCalm⟩ := HQ0.out
              clear HQ0
              have HQ := Lib.hid (And.intro hTK (And.intro hLf (And.intro hTt (And.intro hBr hCalm))))
              clear hTK hLf hTt hBr hCalm
              go_wp2_with (with_reducible refine wpList_loads (o := ⟨some 70, .load 29 (.tmp 11), _, _, _, _⟩) rfl 29 (.tmp 11) rfl bt 0 _ rfl (Cells.of_holds hv) _ Tryz.underlying29 rfl (size29 _ _ _ _) (.agg (ac aT KK nk ck).toArray) rfl ?_)
              have hR6 := HR.out.keep mr6
              have XT := take_c (hR6.lg.keep0 (Mod.refl [] _)) aT KK nk ck (by have := hR6.ops; omega)
              rw [HQ.out.1] at XT
              refine XT.mono ?_
              rintro r w12 ⟨rfl, ms2, rs2, L2, mT, nT, rT⟩
              have hms2 : ∀ i ∈ ms2, w.heap.size ≤ i := fun i hi => (nT i hi).elim (HR.out.ms i) (fun q => Nat.le_trans HR.out.mm.size (Nat.le_trans mr6.size q))
              have hrs2 : ∀ i ∈ rs2, w.heap.size ≤ i := fun i hi => (rT i hi).elim (HR.out.rs i) (fun q => Nat.le_trans HR.out.mm.size (Nat.le_trans mr6.size q))
              have mm2 : Mod [] w w12 := (HR.out.mm.then mr6).trans mT (fun i hi h => by have := HR.out.ms i h; omega)
              clear XT mT nT rT hR6
              have XL := lg_left L2
              rw [HQ.out.2.1] at XL
              go_wp2_with fail
              refine XL.mono ?_
              rintro r w13 ⟨rfl, m13⟩
              clear XL
              have L3 := L2.keep0 m13
              replace mm2 := mm2.then m13
              clear L2 m13
              have XU := lg_turn L3
              rw [HQ.out.2.2.1] at XU
              go_wp2_with fail
              refine XU.mono ?_
              rintro r w14 ⟨rfl, rfl⟩
              clear XU
              have XB := lg_broken L3
              rw [HQ.out.2.2.2.1] at XB
              go_wp2_with fail
              refine XB.mono ?_
              rintro r w15 ⟨rfl, rfl⟩
              clear XB
              have HF := Lib.hid (And.intro L3 (And.intro hms2 (And.intro hrs2 (And.intro mm2 (And.intro HQ.out.2.2.2.2 HQ.out.2.1)))))
              have hTt2 := Lib.hid HQ.out.2.2.1
              clear L3 hms2 hrs2 mm2 HQ
              go_wp2_with fail
              refine ⟨⟨k + 1, lv, tv, L.behind aT, T2, ms2, rs2, by omega, by omega, by go_num, rfl, rfl, HF.out.2.2.2.2.2.symm, hTt2.out.symm, ⟨HF.out.1, HF.out.2.2.2.2.1.1, HF.out.2.2.2.2.1.2.1, HF.out.2.2.2.2.1.2.2.1, HF.out.2.2.2.2.1.2.2.2.1, HF.out.2.2.2.2.1.2.2.2.2.1, HF.out.2.2.2.2.1.2.2.2.2.2, HF.out.2.2.2.1, HF.out.2.1, HF.out.2.2.1⟩⟩, by simp [intOf]; omega⟩
        · have k3Z : ¬ (kd : Int) = 3 := by omega
          by_cases h1 : 40000 < ln
          · have h1Z : (40000 : Int) < (ln : Int) := by omega
            go_wp2_with (with_reducible refine wpList_loads (o := ⟨some 52, .load 29 (.tmp 11), _, _, _, _⟩) rfl 29 (.tmp 11) rfl bt 0 _ rfl (Cells.of_holds hv) _ Tryz.underlying29 rfl (size29 _ _ _ _) (.agg (ac aT KK nk ck).toArray) rfl ?_)
            refine (bytes_c aT KK nk ck w9).mono ?_
            rintro r w10 ⟨xb2, rfl, -, m10, -⟩
            replace hv := hv.keep m10 (by simp)
            replace mr6 := mr6.then m10
            clear m10
            rw [← HT.out.1]
            have hTK : L.take c s S aT = (3, L, S) := tk_long aT (by rw [← HT.out.1]; exact h1)
            have hLf : L.a - L.e = lft := HL.out.1.symm
            have hTt : L.t = tt := HL.out.2.symm
            have hBr : L.br = false := HR.out.br
            have hCalm : Calm S ∧ Fine c s L S.n S.holds ∧ L.br = false ∧ L.a = N ∧ L.t ≤ k + 1 ∧ S.ops ≤ 3000 + 1000 * (k + 1) := ⟨HR.out.calm, HR.out.fine, HR.out.br, HR.out.a, by have := HR.out.t; omega, by have := HR.out.ops; omega⟩
            have HQ := Lib.hid (And.intro hTK (And.intro hLf (And.intro hTt (And.intro hBr hCalm))))
            clear hTK hLf hTt hBr hCalm
            go_wp2_with (with_reducible refine wpList_loads (o := ⟨some 70, .load 29 (.tmp 11), _, _, _, _⟩) rfl 29 (.tmp 11) rfl bt 0 _ rfl (Cells.of_holds hv) _ Tryz.underlying29 rfl (size29 _ _ _ _) (.agg (ac aT KK nk ck).toArray) rfl ?_)
            have hR6 := HR.out.keep mr6
            have XT := take_c (hR6.lg.keep0 (Mod.refl [] _)) aT KK nk ck (by have := hR6.ops; omega)
            rw [HQ.out.1] at XT
            refine XT.mono ?_
            rintro r w12 ⟨rfl, ms2, rs2, L2, mT, nT, rT⟩
            have hms2 : ∀ i ∈ ms2, w.heap.size ≤ i := fun i hi => (nT i hi).elim (HR.out.ms i) (fun q => Nat.le_trans HR.out.mm.size (Nat.le_trans mr6.size q))
            have hrs2 : ∀ i ∈ rs2, w.heap.size ≤ i := fun i hi => (rT i hi).elim (HR.out.rs i) (fun q => Nat.le_trans HR.out.mm.size (Nat.le_trans mr6.size q))
            have mm2 : Mod [] w w12 := (HR.out.mm.then mr6).trans mT (fun i hi h => by have := HR.out.ms i h; omega)
            clear XT mT nT rT hR6
            have XL := lg_left L2
            rw [HQ.out.2.1] at XL
            go_wp2_with fail
            refine XL.mono ?_
            rintro r w13 ⟨rfl, m13⟩
            clear XL
            have L3 := L2.keep0 m13
            replace mm2 := mm2.then m13
            clear L2 m13
            have XU := lg_turn L3
            rw [HQ.out.2.2.1] at XU
            go_wp2_with fail
            refine XU.mono ?_
            rintro r w14 ⟨rfl, rfl⟩
            clear XU
            have XB := lg_broken L3
            rw [HQ.out.2.2.2.1] at XB
            go_wp2_with fail
            refine XB.mono ?_
            rintro r w15 ⟨rfl, rfl⟩
            clear XB
            have HF := Lib.hid (And.intro L3 (And.intro hms2 (And.intro hrs2 (And.intro mm2 (And.intro HQ.out.2.2.2.2 HQ.out.2.1)))))
            have hTt2 := Lib.hid HQ.out.2.2.1
            clear L3 hms2 hrs2 mm2 HQ
            go_wp2_with fail
            refine ⟨⟨k + 1, lft, tt, L, S, ms2, rs2, by omega, by omega, by go_num, rfl, rfl, HF.out.2.2.2.2.2.symm, hTt2.out.symm, ⟨HF.out.1, HF.out.2.2.2.2.1.1, HF.out.2.2.2.2.1.2.1, HF.out.2.2.2.2.1.2.2.1, HF.out.2.2.2.2.1.2.2.2.1, HF.out.2.2.2.2.1.2.2.2.2.1, HF.out.2.2.2.2.1.2.2.2.2.2, HF.out.2.2.2.1, HF.out.2.1, HF.out.2.2.1⟩⟩, by simp [intOf]; omega⟩
          · by_cases h2 : lft < f
            · have h1Z : ¬ (40000 : Int) < (ln : Int) := by omega
              have h2Z : (lft : Int) < (f : Int) := by omega
              go_wp2_with (with_reducible refine wpList_loads (o := ⟨some 52, .load 29 (.tmp 11), _, _, _, _⟩) rfl 29 (.tmp 11) rfl bt 0 _ rfl (Cells.of_holds hv) _ Tryz.underlying29 rfl (size29 _ _ _ _) (.agg (ac aT KK nk ck).toArray) rfl ?_)
              refine (bytes_c aT KK nk ck w9).mono ?_
              rintro r w10 ⟨xb2, rfl, -, m10, -⟩
              replace hv := hv.keep m10 (by simp)
              replace mr6 := mr6.then m10
              clear m10
              rw [← HT.out.1]
              have hTK : L.take c s S aT = (6, L, S) := tk_full HR.out.br aT (by rw [← HT.out.1]; exact h1) (by unfold Lo.room; rw [if_neg (by rw [← HT.out.2.2]; exact k3), ← HT.out.1, ← HT.out.2.1]; rw [← HL.out.1]; exact h2)
              have hLf : L.a - L.e = lft := HL.out.1.symm
              have hTt : L.t = tt := HL.out.2.symm
              have hBr : L.br = false := HR.out.br
              have hCalm : Calm S ∧ Fine c s L S.n S.holds ∧ L.br = false ∧ L.a = N ∧ L.t ≤ k + 1 ∧ S.ops ≤ 3000 + 1000 * (k + 1) := ⟨HR.out.calm, HR.out.fine, HR.out.br, HR.out.a, by have := HR.out.t; omega, by have := HR.out.ops; omega⟩
              have HQ := Lib.hid (And.intro hTK (And.intro hLf (And.intro hTt (And.intro hBr hCalm))))
              clear hTK hLf hTt hBr hCalm
              go_wp2_with (with_reducible refine wpList_loads (o := ⟨some 70, .load 29 (.tmp 11), _, _, _, _⟩) rfl 29 (.tmp 11) rfl bt 0 _ rfl (Cells.of_holds hv) _ Tryz.underlying29 rfl (size29 _ _ _ _) (.agg (ac aT KK nk ck).toArray) rfl ?_)
              have hR6 := HR.out.keep mr6
              have XT := take_c (hR6.lg.keep0 (Mod.refl [] _)) aT KK nk ck (by have := hR6.ops; omega)
              rw [HQ.out.1] at XT
              refine XT.mono ?_
              rintro r w12 ⟨rfl, ms2, rs2, L2, mT, nT, rT⟩
              have hms2 : ∀ i ∈ ms2, w.heap.size ≤ i := fun i hi => (nT i hi).elim (HR.out.ms i) (fun q => Nat.le_trans HR.out.mm.size (Nat.le_trans mr6.size q))
              have hrs2 : ∀ i ∈ rs2, w.heap.size ≤ i := fun i hi => (rT i hi).elim (HR.out.rs i) (fun q => Nat.le_trans HR.out.mm.size (Nat.le_trans mr6.size q))
              have mm2 : Mod [] w w12 := (HR.out.mm.then mr6).trans mT (fun i hi h => by have := HR.out.ms i h; omega)
              clear XT mT nT rT hR6
              have XL := lg_left L2
              rw [HQ.out.2.1] at XL
              go_wp2_with fail
              refine XL.mono ?_
              rintro r w13 ⟨rfl, m13⟩
              clear XL
              have L3 := L2.keep0 m13
              replace mm2 := mm2.then m13
              clear L2 m13
              have XU := lg_turn L3
              rw [HQ.out.2.2.1] at XU
              go_wp2_with fail
              refine XU.mono ?_
              rintro r w14 ⟨rfl, rfl⟩
              clear XU
              have XB := lg_broken L3
              rw [HQ.out.2.2.2.1] at XB
              go_wp2_with fail
              refine XB.mono ?_
              rintro r w15 ⟨rfl, rfl⟩
              clear XB
              have HF := Lib.hid (And.intro L3 (And.intro hms2 (And.intro hrs2 (And.intro mm2 (And.intro HQ.out.2.2.2.2 HQ.out.2.1)))))
              have hTt2 := Lib.hid HQ.out.2.2.1
              clear L3 hms2 hrs2 mm2 HQ
              go_wp2_with fail
              refine ⟨⟨k + 1, lft, tt, L, S, ms2, rs2, by omega, by omega, by go_num, rfl, rfl, HF.out.2.2.2.2.2.symm, hTt2.out.symm, ⟨HF.out.1, HF.out.2.2.2.2.1.1, HF.out.2.2.2.2.1.2.1, HF.out.2.2.2.2.1.2.2.1, HF.out.2.2.2.2.1.2.2.2.1, HF.out.2.2.2.2.1.2.2.2.2.1, HF.out.2.2.2.2.1.2.2.2.2.2, HF.out.2.2.2.1, HF.out.2.1, HF.out.2.2.1⟩⟩, by simp [intOf]; omega⟩
            · have h1Z : ¬ (40000 : Int) < (ln : Int) := by omega
              have h2Z : ¬ (lft : Int) < (f : Int) := by omega
              go_wp2_with (with_reducible refine wpList_loads (o := ⟨some 52, .load 29 (.tmp 11), _, _, _, _⟩) rfl 29 (.tmp 11) rfl bt 0 _ rfl (Cells.of_holds hv) _ Tryz.underlying29 rfl (size29 _ _ _ _) (.agg (ac aT KK nk ck).toArray) rfl ?_)
              refine (bytes_c aT KK nk ck w9).mono ?_
              rintro r w10 ⟨xb2, rfl, -, m10, -⟩
              replace hv := hv.keep m10 (by simp)
              replace mr6 := mr6.then m10
              clear m10
              rw [← HT.out.1]
              obtain ⟨T2, hTK, hT2, -, hF2, hB2⟩ := HR.out.calm.take (c := c) (s := s) HR.out.fine HR.out.br (by have := HR.out.t; omega) aT (by rw [← HT.out.1]; exact h1) (by unfold Lo.room; rw [if_neg (by rw [← HT.out.2.2]; exact k3), ← HT.out.1, ← HT.out.2.1]; rw [← HL.out.1]; exact h2)
              obtain ⟨lv, hlv⟩ : ∃ x, x = (L.behind aT).a - (L.behind aT).e := ⟨_, rfl⟩
              obtain ⟨tv, htv⟩ : ∃ x, x = (L.behind aT).t := ⟨_, rfl⟩
              have hLf := hlv.symm
              have hTt := htv.symm
              have hBr := hB2
              have hlv2 := hlv
              rw [behind_a, behind_e, if_neg (by rw [← HT.out.2.2]; exact k3), ← HT.out.1, ← HT.out.2.1] at hlv2
              have htv2 := htv
              rw [behind_t, if_neg (by rw [← HT.out.2.2]; exact k3)] at htv2
              have hCalm : Calm T2 ∧ Fine c s (L.behind aT) T2.n T2.holds ∧ (L.behind aT).br = false ∧ (L.behind aT).a = N ∧ (L.behind aT).t ≤ k + 1 ∧ T2.ops ≤ 3000 + 1000 * (k + 1) := ⟨hT2.calm, by rw [hT2.n]; exact hF2, hB2, by rw [behind_a]; exact HR.out.a, by rw [htv2] at htv; have := HR.out.t; rw [← htv]; omega, by have := HR.out.ops; have := hT2.ops; omega⟩
              have hlvZ : (lft : Int) - (f : Int) = (lv : Int) := by have := HR.out.a; have := HL.out.1; omega
              have htvE : tv = tt := by have := HL.out.2; omega
              subst htvE
              clear hlv htv hlv2 htv2 hT2 hF2 hB2
              have HQ0 := Lib.hid (And.intro hTK (And.intro hLf (And.intro hTt (And.intro hBr hCalm))))
              clear hTK hLf hTt hBr hCalm
              go_wp2_with (with_reducible refine wpList_loads (o := ⟨some 61, .load 29 (.tmp 11), _, _, _, _⟩) rfl 29 (.tmp 11) rfl bt 0 _ rfl (Cells.of_holds hv) _ Tryz.underlying29 rfl (size29 _ _ _ _) (.agg (ac aT KK nk ck).toArray) rfl ?_)
              refine (kind_c aT KK nk ck w10).mono ?_
              rintro r w11 ⟨rfl, m11⟩
              replace hv := hv.keep m11 (by simp)
              replace mr6 := mr6.then m11
              clear m11
              rw [← HT.out.2.2]
              obtain ⟨hTK, hLf, hTt, hBr, hCalm⟩ := HQ0.out
              clear HQ0
              have HQ := Lib.hid (And.intro hTK (And.intro hLf (And.intro hTt (And.intro hBr hCalm))))
              clear hTK hLf hTt hBr hCalm
              go_wp2_with (with_reducible refine wpList_loads (o := ⟨some 70, .load 29 (.tmp 11), _, _, _, _⟩) rfl 29 (.tmp 11) rfl bt 0 _ rfl (Cells.of_holds hv) _ Tryz.underlying29 rfl (size29 _ _ _ _) (.agg (ac aT KK nk ck).toArray) rfl ?_)
              have hR6 := HR.out.keep mr6
              have XT := take_c (hR6.lg.keep0 (Mod.refl [] _)) aT KK nk ck (by have := hR6.ops; omega)
              rw [HQ.out.1] at XT
              refine XT.mono ?_
              rintro r w12 ⟨rfl, ms2, rs2, L2, mT, nT, rT⟩
              have hms2 : ∀ i ∈ ms2, w.heap.size ≤ i := fun i hi => (nT i hi).elim (HR.out.ms i) (fun q => Nat.le_trans HR.out.mm.size (Nat.le_trans mr6.size q))
              have hrs2 : ∀ i ∈ rs2, w.heap.size ≤ i := fun i hi => (rT i hi).elim (HR.out.rs i) (fun q => Nat.le_trans HR.out.mm.size (Nat.le_trans mr6.size q))
              have mm2 : Mod [] w w12 := (HR.out.mm.then mr6).trans mT (fun i hi h => by have := HR.out.ms i h; omega)
              clear XT mT nT rT hR6
              have XL := lg_left L2
              rw [HQ.out.2.1] at XL
              go_wp2_with fail
              refine XL.mono ?_
              rintro r w13 ⟨rfl, m13⟩
              clear XL
              have L3 := L2.keep0 m13
              replace mm2 := mm2.then m13
              clear L2 m13
              have XU := lg_turn L3
              rw [HQ.out.2.2.1] at XU
              go_wp2_with fail
              refine XU.mono ?_
              rintro r w14 ⟨rfl, rfl⟩
              clear XU
              have XB := lg_broken L3
              rw [HQ.out.2.2.2.1] at XB
              go_wp2_with fail
              refine XB.mono ?_
              rintro r w15 ⟨rfl, rfl⟩
              clear XB
              have HF := Lib.hid (And.intro L3 (And.intro hms2 (And.intro hrs2 (And.intro mm2 (And.intro HQ.out.2.2.2.2 HQ.out.2.1)))))
              have hTt2 := Lib.hid HQ.out.2.2.1
              clear L3 hms2 hrs2 mm2 HQ
              go_wp2_with fail
              refine ⟨⟨k + 1, lv, tv, L.behind aT, T2, ms2, rs2, by omega, by omega, by go_num, rfl, rfl, HF.out.2.2.2.2.2.symm, hTt2.out.symm, ⟨HF.out.1, HF.out.2.2.2.2.1.1, HF.out.2.2.2.2.1.2.1, HF.out.2.2.2.2.1.2.2.1, HF.out.2.2.2.2.1.2.2.2.1, HF.out.2.2.2.2.1.2.2.2.2.1, HF.out.2.2.2.2.1.2.2.2.2.2, HF.out.2.2.2.1, HF.out.2.1, HF.out.2.2.1⟩⟩, by simp [intOf]; omega⟩
    · obtain rfl : n = k := by omega
      go_wp2_with fail
      go_ret
      exact ⟨rfl, HR.out.mm⟩
end Go.Proofs.YtcoedhemlghjoaaGreatDoor
