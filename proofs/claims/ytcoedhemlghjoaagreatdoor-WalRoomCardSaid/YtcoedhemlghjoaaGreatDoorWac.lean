/-
  The statements' own helpers over acts: kind, bytes, taking, take, length, fresh. Contracts of mine.
-/
import Derived.Test.YtcoedhemlghjoaaGreatDoorBv
namespace Go.Proofs.YtcoedhemlghjoaaGreatDoor
open Go.RowKit
/-- An act, but for which loose writes stay. -/
structure Ak where
  k : Int
  n : Int
  f : UInt8
def Ak.kind (a : Ak) : Nat := ((IntKind.u64.wrap a.k) % 8).toNat
def Ak.long (a : Ak) : Nat := let n := ((IntKind.u64.wrap a.n) % 1300).toNat; if 1298 ≤ n then 40000 + n - 1298 else n
def Ak.bytes (a : Ak) : List UInt8 := (List.range a.long).map fun i => a.f + UInt8.ofNat i
def Ak.taking (a : Ak) : Ak := { k := (a.kind % 4 : Nat), n := if a.n < 0 then 0 else a.n, f := a.f }
/-- The cells of an act. -/
def ac (a : Ak) (K : Option Addr) (nk ck : Nat) : List Value := [.int .i64 a.k, .int .i64 a.n, oct a.f, .slice K nk ck]
theorem ac_length (a : Ak) (K : Option Addr) (nk ck : Nat) : (ac a K nk ck).length = 4 := rfl
theorem ac_one (a : Ak) (K : Option Addr) (nk ck : Nat) : ∀ v ∈ ac a K nk ck, v.oneCell' = true := by
  intro v hv
  simp only [ac, List.mem_cons, List.not_mem_nil, or_false] at hv
  rcases hv with rfl | rfl | rfl | rfl <;> rfl
theorem size29 (a : Ak) (K : Option Addr) (nk ck : Nat) : (Tryz.prog.info? 29).map (·.size) = some (ac a K nk ck).length := by kernel_rfl
theorem zero29 : ∀ w, (zeroValue 29).run Tryz.prog w = .ok (.agg (ac ⟨0, 0, 0⟩ none 0 0).toArray) w := (zero_of_info (n := 4) (by kernel_rfl)).1
theorem u64_nonneg (x : Int) : 0 ≤ IntKind.u64.wrap x := by
  show 0 ≤ x % 2 ^ 64
  exact Int.emod_nonneg _ (by decide)
theorem Ak.kind_lt (a : Ak) : a.kind < 8 := by unfold Ak.kind; omega
theorem Ak.long_le (a : Ak) : a.long ≤ 40001 := by
  have hu := u64_nonneg a.n
  unfold Ak.long
  simp only
  split <;> omega
theorem Ak.bytes_length (a : Ak) : a.bytes.length = a.long := by simp [Ak.bytes]
theorem rem_u64 (x : Int) (m : Int) (hm : 0 < m) (hm2 : m ≤ 100000) : wrap64 ((IntKind.u64.wrap x).tmod m) = ((((IntKind.u64.wrap x) % m).toNat : Nat) : Int) := by
  have hu := u64_nonneg x
  rw [Int.tmod_eq_emod_of_nonneg hu]
  generalize IntKind.u64.wrap x = u at *
  have h1 : 0 ≤ u % m := Int.emod_nonneg _ (by omega)
  have h2 : u % m < m := Int.emod_lt_of_pos _ hm
  simp only [wrap64]
  omega
theorem kind_c (a : Ak) (K : Option Addr) (nk ck : Nat) (w : World) : Calls Tryz.prog 46 #[.agg (ac a K nk ck).toArray] w fun e w' => e = .returned (.int .i64 (a.kind : Int)) ∧ Mod [] w w' := by
  go_enter Tryz.func46, Tryz.ntmps46
  go_wp2_with (with_reducible refine wpList_boxes (o := ⟨some 1, .box 29 (.tmp 0), _, _, _, _⟩) rfl 29 (.tmp 0) rfl _ rfl (ac a K nk ck) rfl ?_; intro w1 hb1 m1 z1; have a0 := hb1.cell 0; simp only [ac, List.getElem?_cons_zero] at a0)
  go_ret
  refine ⟨?_, m1⟩
  show Ending.returned (Value.int .i64 (wrap64 ((IntKind.u64.wrap a.k).tmod 8))) = _
  rw [rem_u64 a.k 8 (by decide) (by decide)]
  rfl
def lenN (n : Int) : Nat := 4 + ((IntKind.u64.wrap n) % 20).toNat
theorem length_c (n : Int) (w : World) : Calls Tryz.prog 44 #[.int .i64 n] w fun e w' => e = .returned (.int .i64 (lenN n : Int)) ∧ w' = w := by
  have hr := rem_u64 n 20 (by decide) (by decide)
  obtain ⟨q, hq⟩ : ∃ q, q = ((IntKind.u64.wrap n) % 20).toNat := ⟨_, rfl⟩
  have hq20 : q < 20 := by rw [hq]; omega
  have hl : lenN n = 4 + q := by unfold lenN; rw [hq]
  rw [← hq] at hr
  rw [hl]
  have hqZ : (q : Int) < 20 := by omega
  clear hq hl
  go_enter Tryz.func44, Tryz.ntmps44
  go_wp2_with fail
  go_ret
  refine ⟨?_, rfl⟩
  first
    | (simp only [hr]; rfl)
    | (rw [hr]; simp)
theorem take_range_succ (g : Nat → UInt8) (N k : Nat) (h : k < N) : (((List.range N).map fun i => if i < k then g i else 0).set k (g k)) = (List.range N).map fun i => if i < k + 1 then g i else 0 := by
  apply List.ext_getElem?
  intro i
  rw [List.getElem?_set]
  by_cases hi : k = i
  · subst hi
    simp [h]
  · rw [if_neg hi]
    simp only [List.getElem?_map]
    by_cases hiN : i < N
    · rw [List.getElem?_range hiN]
      simp only [Option.map_some]
      by_cases h2 : i < k
      · rw [if_pos h2, if_pos (by omega)]
      · rw [if_neg h2, if_neg (by omega)]
    · rw [List.getElem?_eq_none (by simpa using hiN)]
      rfl
set_option maxRecDepth 100000 in
set_option maxHeartbeats 4000000 in
theorem bytes_c (a : Ak) (K : Option Addr) (nk ck : Nat) (w : World) : Calls Tryz.prog 41 #[.agg (ac a K nk ck).toArray] w fun e w' => ∃ x, e = .returned (.slice (some ⟨x, 0, none⟩) a.long a.long) ∧ Holds w' x 5 (a.bytes.map oct) ∧ Mod [] w w' ∧ w.heap.size ≤ x := by
  have hr := rem_u64 a.n 1300 (by decide) (by decide)
  obtain ⟨q, hq⟩ : ∃ q, q = ((IntKind.u64.wrap a.n) % 1300).toNat := ⟨_, rfl⟩
  have hq13 : q < 1300 := by rw [hq]; omega
  obtain ⟨N, hN⟩ : ∃ N, N = a.long := ⟨_, rfl⟩
  have hNq : N = if 1298 ≤ q then 40000 + q - 1298 else q := by rw [hN, hq]; rfl
  obtain ⟨bl, hbl⟩ : ∃ b, b = a.bytes := ⟨_, rfl⟩
  have hNl : N ≤ 40001 := by rw [hN]; exact a.long_le
  rw [← hq] at hr
  rw [← hN, ← hbl]
  have hqZ : (q : Int) < 1300 := by omega
  have HH := Lib.hid (And.intro hq (And.intro hN (And.intro hNq (And.intro hbl hNl))))
  clear hq hN hNq hbl hNl
  obtain ⟨i0, j1, j2, j3, j4⟩ := info_parts u8_zero
  have HI := Lib.hid (And.intro j1 (And.intro j2 (And.intro j3 j4)))
  clear j1 j2 j3 j4
  by_cases h8 : 1298 ≤ q
  · have h8Z : (1298 : Int) ≤ (q : Int) := by omega
    go_enter Tryz.func41, Tryz.ntmps41
    go_wp2_with (first
      | (with_reducible refine wpList_boxes (o := ⟨some 1, .box 29 (.tmp 0), _, _, _, _⟩) rfl 29 (.tmp 0) rfl _ rfl (ac a K nk ck) rfl ?_; intro w1 hb1 m1 z1; have a1 := hb1.cell 1; have a2 := hb1.cell 2; simp only [ac, List.getElem?_cons_succ, List.getElem?_cons_zero] at a1 a2; replace z1 := Lib.hid z1)
      | (refine wpList_makes (o := ⟨some 17, .makeSlice 47 _ _, _, _, _, _⟩) _ rfl _ _ 47 rfl 5 i0 (.int .u8 0) Tryz.underlying47 HI.out.1 HI.out.2.1 HI.out.2.2.1 1 HI.out.2.2.2 rfl .i64 .i64 _ _ N rfl rfl (by have := HH.out.2.2.1; rw [if_pos h8] at this; omega) (by have := HH.out.2.2.1; rw [if_pos h8] at this; omega) (by have := HH.out.2.2.2.2; omega) (by have := HH.out.2.2.2.2; unfold maxLen; omega) ?_
         intro w2 hw2 hm2 hs2
         replace hs2 := Lib.hid hs2))
    obtain ⟨x, ex⟩ : ∃ b, b = w1.heap.size := ⟨_, rfl⟩
    rw [← ex] at hw2
    rw [← ex]
    have hb2 := hb1.keep hm2 (by simp)
    have mm : Mod [] w w2 := m1.then hm2
    have hxb : w.heap.size < x := by have := z1.out; omega
    have HX := Lib.hid (And.intro hb2 (And.intro mm (And.intro hxb hb2.lt)))
    have hwx : Hid (Holds w2 x 5 (((List.range N).map fun i => if i < 0 then a.f + UInt8.ofNat i else 0).map oct)) := Lib.hid (by
      have : ((List.range N).map fun i => if i < 0 then a.f + UInt8.ofNat i else 0) = List.replicate N 0 := by
        apply List.ext_getElem <;> simp
      rw [this, List.map_replicate]
      exact hw2)
    clear hw2 ex z1 hs2 m1 hm2 hb1 hb2 mm hxb a1 a2 hr
    go_loopw [20] (fun i wr => ∃ k : Nat, k ≤ N ∧ i = .int .i64 (k : Int) ∧ Holds wr x 5 (((List.range N).map fun i => if i < k then a.f + UInt8.ofNat i else 0).map oct) ∧ Mod [x] w2 wr) (fun i _ => N - (intOf i).toNat)
    case atStart => exact ⟨0, Nat.zero_le _, rfl, hwx.out, Mod.refl _ _⟩
    case round =>
      obtain ⟨k, hk, rfl, hx, mx⟩ := hrel
      by_cases hkN : k < N
      · have hkZ : (k : Int) < (N : Int) := by omega
        have hkN2 : (k : Int) ≤ 40001 := by have := HH.out.2.2.2.2; omega
        have hbx := HX.out.1.keep mx (by have := HX.out.2.2.1; have := HX.out.2.2.2; have := HX.out.1.lt; simp; intro e; exact HX.out.1.ne hwx.out (by decide) e)
        have a2 := hbx.cell 2
        simp only [ac, List.getElem?_cons_succ, List.getElem?_cons_zero] at a2
        have e1 := hx.cell k
        have e2 := hx.free k
        rw [List.getElem?_map, List.getElem?_map, List.getElem?_range hkN, Option.map_some, Option.map_some] at e1
        have HR := Lib.hid (And.intro hx mx)
        clear hx mx hbx
        go_wp2_with fail
        have hoct : Value.int .u8 (((a.f.toNat : Int) + (k : Int)) % 256) = oct (a.f + UInt8.ofNat k) := by
          unfold oct
          congr 1
          rw [UInt8.toNat_add, UInt8.toNat_ofNat']
          omega
        rw [hoct]
        have hs := HR.out.1.set k (oct (a.f + UInt8.ofNat k))
        rw [← List.map_set, take_range_succ (fun i => a.f + UInt8.ofNat i) N k hkN] at hs
        exact ⟨⟨k + 1, by omega, by go_num, hs, HR.out.2.trans (Mod.setCell _ (by simp) _) (fun _ _ h => h)⟩, by simp [intOf]; omega⟩
      · obtain rfl : N = k := by omega
        have hfin : ((List.range N).map fun i => if i < N then a.f + UInt8.ofNat i else 0) = bl := by
          rw [HH.out.2.2.2.1]
          unfold Ak.bytes
          rw [← HH.out.2.1]
          apply List.map_congr_left
          intro i hi
          rw [if_pos (List.mem_range.1 hi)]
        rw [hfin] at hx
        have HR := Lib.hid (And.intro hx mx)
        clear hx mx hfin
        go_wp2_with fail
        go_ret
        exact ⟨x, rfl, HR.out.1, HX.out.2.1.trans HR.out.2 (fun i hi h => by have := HX.out.2.2.1; simp at h; omega), by have := HX.out.2.2.1; omega⟩
  · have h8Z : (q : Int) < 1298 := by omega
    go_enter Tryz.func41, Tryz.ntmps41
    go_wp2_with (first
      | (with_reducible refine wpList_boxes (o := ⟨some 1, .box 29 (.tmp 0), _, _, _, _⟩) rfl 29 (.tmp 0) rfl _ rfl (ac a K nk ck) rfl ?_; intro w1 hb1 m1 z1; have a1 := hb1.cell 1; have a2 := hb1.cell 2; simp only [ac, List.getElem?_cons_succ, List.getElem?_cons_zero] at a1 a2; replace z1 := Lib.hid z1)
      | (refine wpList_makes (o := ⟨some 17, .makeSlice 47 _ _, _, _, _, _⟩) _ rfl _ _ 47 rfl 5 i0 (.int .u8 0) Tryz.underlying47 HI.out.1 HI.out.2.1 HI.out.2.2.1 1 HI.out.2.2.2 rfl .i64 .i64 _ _ N rfl rfl (by have := HH.out.2.2.1; rw [if_neg h8] at this; omega) (by have := HH.out.2.2.1; rw [if_neg h8] at this; omega) (by have := HH.out.2.2.2.2; omega) (by have := HH.out.2.2.2.2; unfold maxLen; omega) ?_
         intro w2 hw2 hm2 hs2
         replace hs2 := Lib.hid hs2))
    obtain ⟨x, ex⟩ : ∃ b, b = w1.heap.size := ⟨_, rfl⟩
    rw [← ex] at hw2
    rw [← ex]
    have hb2 := hb1.keep hm2 (by simp)
    have mm : Mod [] w w2 := m1.then hm2
    have hxb : w.heap.size < x := by have := z1.out; omega
    have HX := Lib.hid (And.intro hb2 (And.intro mm (And.intro hxb hb2.lt)))
    have hwx : Hid (Holds w2 x 5 (((List.range N).map fun i => if i < 0 then a.f + UInt8.ofNat i else 0).map oct)) := Lib.hid (by
      have : ((List.range N).map fun i => if i < 0 then a.f + UInt8.ofNat i else 0) = List.replicate N 0 := by
        apply List.ext_getElem <;> simp
      rw [this, List.map_replicate]
      exact hw2)
    clear hw2 ex z1 hs2 m1 hm2 hb1 hb2 mm hxb a1 a2 hr
    go_loopw [20] (fun i wr => ∃ k : Nat, k ≤ N ∧ i = .int .i64 (k : Int) ∧ Holds wr x 5 (((List.range N).map fun i => if i < k then a.f + UInt8.ofNat i else 0).map oct) ∧ Mod [x] w2 wr) (fun i _ => N - (intOf i).toNat)
    case atStart => exact ⟨0, Nat.zero_le _, rfl, hwx.out, Mod.refl _ _⟩
    case round =>
      obtain ⟨k, hk, rfl, hx, mx⟩ := hrel
      by_cases hkN : k < N
      · have hkZ : (k : Int) < (N : Int) := by omega
        have hkN2 : (k : Int) ≤ 40001 := by have := HH.out.2.2.2.2; omega
        have hbx := HX.out.1.keep mx (by have := HX.out.2.2.1; have := HX.out.2.2.2; have := HX.out.1.lt; simp; intro e; exact HX.out.1.ne hwx.out (by decide) e)
        have a2 := hbx.cell 2
        simp only [ac, List.getElem?_cons_succ, List.getElem?_cons_zero] at a2
        have e1 := hx.cell k
        have e2 := hx.free k
        rw [List.getElem?_map, List.getElem?_map, List.getElem?_range hkN, Option.map_some, Option.map_some] at e1
        have HR := Lib.hid (And.intro hx mx)
        clear hx mx hbx
        go_wp2_with fail
        have hoct : Value.int .u8 (((a.f.toNat : Int) + (k : Int)) % 256) = oct (a.f + UInt8.ofNat k) := by
          unfold oct
          congr 1
          rw [UInt8.toNat_add, UInt8.toNat_ofNat']
          omega
        rw [hoct]
        have hs := HR.out.1.set k (oct (a.f + UInt8.ofNat k))
        rw [← List.map_set, take_range_succ (fun i => a.f + UInt8.ofNat i) N k hkN] at hs
        exact ⟨⟨k + 1, by omega, by go_num, hs, HR.out.2.trans (Mod.setCell _ (by simp) _) (fun _ _ h => h)⟩, by simp [intOf]; omega⟩
      · obtain rfl : N = k := by omega
        have hfin : ((List.range N).map fun i => if i < N then a.f + UInt8.ofNat i else 0) = bl := by
          rw [HH.out.2.2.2.1]
          unfold Ak.bytes
          rw [← HH.out.2.1]
          apply List.map_congr_left
          intro i hi
          rw [if_pos (List.mem_range.1 hi)]
        rw [hfin] at hx
        have HR := Lib.hid (And.intro hx mx)
        clear hx mx hfin
        go_wp2_with fail
        go_ret
        exact ⟨x, rfl, HR.out.1, HX.out.2.1.trans HR.out.2 (fun i hi h => by have := HX.out.2.2.1; simp at h; omega), by have := HX.out.2.2.1; omega⟩
theorem taking_c (a : Ak) (K : Option Addr) (nk ck : Nat) (w : World) : Calls Tryz.prog 33 #[.agg (ac a K nk ck).toArray] w fun e w' => e = .returned (.agg (ac a.taking K nk ck).toArray) ∧ Mod [] w w' := by
  obtain ⟨aT, haT⟩ : ∃ x, x = a.taking := ⟨_, rfl⟩
  rw [← haT]
  replace haT := Lib.hid haT
  go_enter Tryz.func33, Tryz.ntmps33
  go_wp2_with (first
    | (with_reducible refine wpList_boxes (o := ⟨some 1, .box 29 (.tmp 0), _, _, _, _⟩) rfl 29 (.tmp 0) rfl _ rfl (ac a K nk ck) rfl ?_; intro w1 hb1 m1 z1; replace z1 := Lib.hid z1)
    | (with_reducible refine wpList_allocs (o := ⟨some 2, .alloc 29, _, _, _, _⟩) rfl 29 rfl _ zero29 ?_
       intro w2 hb2 m2 z2
       obtain ⟨b1, e1⟩ : ∃ b, b = w.heap.size := ⟨_, rfl⟩
       obtain ⟨b2, e2⟩ : ∃ b, b = w1.heap.size := ⟨_, rfl⟩
       rw [← e2] at hb2
       rw [← e1] at hb1
       rw [← e1, ← e2]
       have hb1' := hb1.keep m2 (by simp)
       have HB := Lib.hid (And.intro e1 (And.intro e2 (And.intro z1.out (And.intro hb2 (m1.then m2)))))
       clear e1 e2 z1 z2 m1 m2 hb1 hb2)
    | (with_reducible refine wpList_loads (o := ⟨some 3, .load 29 (.tmp 1), _, _, _, _⟩) rfl 29 (.tmp 1) rfl b1 0 _ rfl (Cells.of_holds hb1') _ Tryz.underlying29 rfl (size29 _ _ _ _) (.agg (ac a K nk ck).toArray) rfl ?_))
  have XK := kind_c a K nk ck w2
  refine XK.mono ?_
  rintro r w3 ⟨rfl, m3⟩
  clear XK
  obtain ⟨kd, hkd⟩ : ∃ k, k = a.kind := ⟨_, rfl⟩
  have hkl : (kd : Int) < 8 := by have := a.kind_lt; omega
  rw [← hkd]
  replace hb1' := hb1'.keep m3 (by simp)
  obtain ⟨k4, hk4⟩ : ∃ k, k = kd % 4 := ⟨_, rfl⟩
  have hk4Z : (kd : Int) % 4 = (k4 : Int) := by omega
  have f0 : w3.cell? ⟨b1, 0, none⟩ = some (.int .i64 a.k) := hb1'.cell 0
  have f1 : w3.cell? ⟨b1, 1, none⟩ = some (.int .i64 a.n) := hb1'.cell 1
  have g0 := hb1'.free 0
  have g1 := hb1'.free 1
  have HC := Lib.hid (And.intro hb1' (And.intro (HB.out.2.2.2.2.then m3) (And.intro (HB.out.2.2.2.1.keep m3 (by simp)) (And.intro hkd hk4))))
  have HO := Lib.hid (And.intro HB.out.1 (And.intro HB.out.2.1 HB.out.2.2.1))
  clear hb1' m3 HB hkd hk4
  have key : ∀ v, Holds v b1 29 (ac aT K nk ck) → Mod [b1] w3 v → Mod [] w v ∧ Holds v b2 29 (ac ⟨0, 0, 0⟩ none 0 0) := fun v _ hm => by
    obtain ⟨h1, h2, h3⟩ := HO.out
    exact ⟨HC.out.2.1.trans hm (fun i hi h => by simp at h; omega), HC.out.2.2.1.keep hm (by simp; omega)⟩
  by_cases hn : a.n < 0
  · have hT : aT = ⟨(k4 : Int), 0, a.f⟩ := by rw [haT.out]; unfold Ak.taking; rw [if_pos hn, HC.out.2.2.2.2, HC.out.2.2.2.1]
    subst hT
    have KK := Lib.hid key
    clear key
    go_wp2_with (first
      | (obtain ⟨v4, ev4⟩ : ∃ v, v = (w3.setCell ⟨b1, 0, none⟩ (.int .i64 (k4 : Int))).setCell ⟨b1, 1, none⟩ (.int .i64 0) := ⟨_, rfl⟩
         have h4 : Holds v4 b1 29 (ac ⟨(k4 : Int), 0, a.f⟩ K nk ck) := by rw [ev4]; exact (HC.out.1.set 0 _).set 1 _
         have m4 : Mod [b1] w3 v4 := by rw [ev4]; exact (Mod.setCell _ (by simp) _).trans (Mod.setCell _ (by simp) _) (fun _ _ h => h)
         obtain ⟨k1, k2⟩ := KK.out v4 h4 m4
         rw [← ev4]
         with_reducible refine wpList_loads (o := ⟨some 11, .load 29 (.tmp 1), _, _, _, _⟩) rfl 29 (.tmp 1) rfl b1 0 _ rfl (Cells.of_holds h4) _ Tryz.underlying29 rfl (size29 _ _ _ _) (.agg (ac ⟨(k4 : Int), 0, a.f⟩ K nk ck).toArray) rfl ?_)
      | (with_reducible refine wpList_storesAll (o := ⟨none, .store 29 (.tmp 2) (.tmp 11), _, _, _, _⟩) rfl 29 (.tmp 2) (.tmp 11) rfl rfl b2 (ac ⟨(k4 : Int), 0, a.f⟩ K nk ck) rfl (.agg (ac ⟨(k4 : Int), 0, a.f⟩ K nk ck).toArray) rfl rfl 29 _ k2 (by rw [ac_length, ac_length]) (ac_one _ _ _ _) (size29 _ _ _ _) ?_; intro w7 hb7 m7 z7; replace z7 := Lib.hid z7))
    refine bodyPost_ret (results_cell_row rfl _ _ b2 29 _ (0, 0) _ rfl hb7 Tryz.underlying29 rfl (by rw [List.size_toArray]; exact size29 _ _ _ _)) rfl ?_
    exact ⟨rfl, k1.trans m7 (fun i hi h => by have := HO.out; simp at h; omega)⟩
  · have hT : aT = ⟨(k4 : Int), a.n, a.f⟩ := by rw [haT.out]; unfold Ak.taking; rw [if_neg hn, HC.out.2.2.2.2, HC.out.2.2.2.1]
    subst hT
    have KK := Lib.hid key
    clear key
    go_wp2_with (first
      | (obtain ⟨v4, ev4⟩ : ∃ v, v = w3.setCell ⟨b1, 0, none⟩ (.int .i64 (k4 : Int)) := ⟨_, rfl⟩
         have h4 : Holds v4 b1 29 (ac ⟨(k4 : Int), a.n, a.f⟩ K nk ck) := by rw [ev4]; exact HC.out.1.set 0 _
         have m4 : Mod [b1] w3 v4 := by rw [ev4]; exact Mod.setCell _ (by simp) _
         obtain ⟨k1, k2⟩ := KK.out v4 h4 m4
         rw [← ev4]
         with_reducible refine wpList_loads (o := ⟨some 11, .load 29 (.tmp 1), _, _, _, _⟩) rfl 29 (.tmp 1) rfl b1 0 _ rfl (Cells.of_holds h4) _ Tryz.underlying29 rfl (size29 _ _ _ _) (.agg (ac ⟨(k4 : Int), a.n, a.f⟩ K nk ck).toArray) rfl ?_)
      | (with_reducible refine wpList_storesAll (o := ⟨none, .store 29 (.tmp 2) (.tmp 11), _, _, _, _⟩) rfl 29 (.tmp 2) (.tmp 11) rfl rfl b2 (ac ⟨(k4 : Int), a.n, a.f⟩ K nk ck) rfl (.agg (ac ⟨(k4 : Int), a.n, a.f⟩ K nk ck).toArray) rfl rfl 29 _ k2 (by rw [ac_length, ac_length]) (ac_one _ _ _ _) (size29 _ _ _ _) ?_; intro w7 hb7 m7 z7; replace z7 := Lib.hid z7))
    refine bodyPost_ret (results_cell_row rfl _ _ b2 29 _ (0, 0) _ rfl hb7 Tryz.underlying29 rfl (by rw [List.size_toArray]; exact size29 _ _ _ _)) rfl ?_
    exact ⟨rfl, k1.trans m7 (fun i hi h => by have := HO.out; simp at h; omega)⟩
theorem LgPost.pre {c s : List UInt32} {g m b : Nat} {X : Int × Lo × St} {ms rs : List Nat} {w v : World} {r : Ending} {w' : World} (q : Mod [] w v) (h : LgPost c s g m b X ms rs v r w') : LgPost c s g m b X ms rs w r w' := by
  obtain ⟨h1, ms', rs', h2, h3, h4, h5⟩ := h
  exact ⟨h1, ms', rs', h2, q.pre h3, fun i hi => (h4 i hi).imp id (fun k => Nat.le_trans q.size k), fun i hi => (h5 i hi).imp id (fun k => Nat.le_trans q.size k)⟩
def Lo.take (c s : List UInt32) (L : Lo) (S : St) (a : Ak) : Int × Lo × St := if a.kind = 3 then L.chk c s S a.bytes else L.app c s S a.bytes
set_option maxRecDepth 100000 in
theorem take_c {c s : List UInt32} {g m b : Nat} {L : Lo} {S : St} {ms rs : List Nat} {w : World} (h : Lg c s g m b L S ms rs w) (a : Ak) (K : Option Addr) (nk ck : Nat) (ho : S.ops + 5000 ≤ 1099511627776) :
    Calls Tryz.prog 35 #[.pointer (some ⟨b, 0, none⟩), .agg (ac a K nk ck).toArray] w (LgPost c s g m b (L.take c s S a) ms rs w) := by
  obtain ⟨X, hX⟩ : ∃ X, X = L.take c s S a := ⟨_, rfl⟩
  rw [← hX]
  have HH := Lib.hid (And.intro h (And.intro hX ho))
  clear h hX ho
  go_enter Tryz.func35, Tryz.ntmps35
  go_wp2_with (first
    | (with_reducible refine wpList_boxes (o := ⟨some 3, .box 29 (.tmp 1), _, _, _, _⟩) rfl 29 (.tmp 1) rfl _ rfl (ac a K nk ck) rfl ?_
       intro w1 hb1 m1 z1
       obtain ⟨b1, e1⟩ : ∃ b, b = w.heap.size := ⟨_, rfl⟩
       rw [← e1] at hb1
       rw [← e1]
       clear e1 z1)
    | (with_reducible refine wpList_loads (o := ⟨some 5, .load 29 (.tmp 3), _, _, _, _⟩) rfl 29 (.tmp 3) rfl b1 0 _ rfl (Cells.of_holds hb1) _ Tryz.underlying29 rfl (size29 _ _ _ _) (.agg (ac a K nk ck).toArray) rfl ?_))
  have XK := kind_c a K nk ck w1
  refine XK.mono ?_
  rintro r w2 ⟨rfl, m2⟩
  clear XK
  have hb2 := hb1.keep m2 (by simp)
  have M2 := Lib.hid (m1.then m2)
  clear hb1 m1 m2
  have XB := bytes_c a K nk ck w2
  by_cases h3 : a.kind = 3
  · have h3Z : (a.kind : Int) = 3 := by omega
    have hX := HH.out.2.1
    unfold Lo.take at hX
    rw [if_pos h3] at hX
    replace hX := Lib.hid hX
    clear h3
    go_wp2_with (with_reducible refine wpList_loads (o := ⟨some 9, .load 29 (.tmp 3), _, _, _, _⟩) rfl 29 (.tmp 3) rfl b1 0 _ rfl (Cells.of_holds hb2) _ Tryz.underlying29 rfl (size29 _ _ _ _) (.agg (ac a K nk ck).toArray) rfl ?_)
    refine XB.mono ?_
    rintro r w3 ⟨x, rfl, hx, m3, -⟩
    clear XB
    have XC := lg_check ((HH.out.1.keep0 M2.out).keep0 m3) (some ⟨x, 0, none⟩) a.long a.long a.bytes (Reads.of_holds hx) a.bytes_length.symm (Nat.le_refl _) (by have := a.long_le; omega) (fun z hz => by cases hz; exact ⟨_, hx⟩) HH.out.2.2
    rw [← hX.out] at XC
    have M3 := Lib.hid (M2.out.then m3)
    clear hx m3 M2
    go_wp2_with fail
    refine XC.mono ?_
    rintro r w4 ⟨rfl, hp⟩
    clear XC
    have HP := Lib.hid hp
    clear hp
    go_wp2_with fail
    go_ret
    exact LgPost.pre M3.out ⟨rfl, HP.out⟩
  · have h3Z : ¬ (a.kind : Int) = 3 := by omega
    have hX := HH.out.2.1
    unfold Lo.take at hX
    rw [if_neg h3] at hX
    replace hX := Lib.hid hX
    clear h3
    go_wp2_with (with_reducible refine wpList_loads (o := ⟨some 13, .load 29 (.tmp 3), _, _, _, _⟩) rfl 29 (.tmp 3) rfl b1 0 _ rfl (Cells.of_holds hb2) _ Tryz.underlying29 rfl (size29 _ _ _ _) (.agg (ac a K nk ck).toArray) rfl ?_)
    refine XB.mono ?_
    rintro r w3 ⟨x, rfl, hx, m3, -⟩
    clear XB
    have XC := lg_append ((HH.out.1.keep0 M2.out).keep0 m3) (some ⟨x, 0, none⟩) a.long a.long a.bytes (Reads.of_holds hx) a.bytes_length.symm (Nat.le_refl _) (by have := a.long_le; omega) (fun z hz => by cases hz; exact ⟨_, hx⟩) HH.out.2.2
    rw [← hX.out] at XC
    have M3 := Lib.hid (M2.out.then m3)
    clear hx m3 M2
    go_wp2_with fail
    refine XC.mono ?_
    rintro r w4 ⟨rfl, hp⟩
    clear XC
    have HP := Lib.hid hp
    clear hp
    go_wp2_with fail
    go_ret
    exact LgPost.pre M3.out ⟨rfl, HP.out⟩
/-- A log on a new disk. -/
theorem fresh_c (c s : List UInt32) (n : Nat) (hn : 4 ≤ n ∧ n ≤ 1000) (w : World) (G : Glob c s w) : Calls Tryz.prog 31 #[.int .i64 (n : Int)] w fun r w' =>
    ∃ g m b ms rs T, r = .returned (.tuple #[.pointer (some ⟨g, 0, none⟩), .pointer (some ⟨b, 0, none⟩)]) ∧ Lg c s g m b (Lo.made n) T ms rs w' ∧ Calm T ∧ T.n = 2 * n + 2 ∧ T.ops ≤ 3000 ∧ T.loose = [] ∧ Fine c s (Lo.made n) T.n T.holds ∧ Mod [] w w' ∧ (∀ i ∈ ms, w.heap.size ≤ i) ∧ (∀ i ∈ rs, w.heap.size ≤ i) := by
  have hc : Calm (St.new (2 * n + 2)) := ⟨rfl, by show (-1 : Int) < 0; decide, by show (-1 : Int) < 0; decide⟩
  obtain ⟨T, a1, a2, a3, a4⟩ := hc.format (c := c) G.hs n hn (by show 2 + 2 * n ≤ 2 * n + 2; omega)
  have hf : (St.new (2 * n + 2)).fmtd c s (n : Int) = some (Lo.made n) := by
    unfold St.fmtd
    rw [a1]
    rfl
  have XN := new_good (2 * n + 2) w (by omega) (by omega)
  have XA := fun (v : World) (ms : List Nat) (g m : Nat) (h : Dk c s g m (St.new (2 * n + 2)) ms v) => lg_format h (n : Int) (by show 0 + 20000 ≤ _; decide)
  rw [a1, hf] at XA
  obtain ⟨z, hz⟩ : ∃ z, z = 2 * n + 2 := ⟨_, rfl⟩
  have hnZ : (n : Int) ≤ 1000 := by omega
  have hzZ : 2 * (n : Int) + 2 = (z : Int) := by omega
  rw [← hz] at XN XA a2 a4
  have HH := Lib.hid (And.intro G (And.intro a2 (And.intro a3 (And.intro a4 (And.intro hn hz)))))
  clear G a1 a2 a3 a4 hf hc hz hn
  go_enter Tryz.func31, Tryz.ntmps31
  go_wp2_with fail
  refine XN.mono ?_
  rintro r w1 ⟨g, m, rfl, D1, m1, hg, hm⟩
  have hK : Dk c s g m (St.new z) (g :: m :: blk none) w1 := ⟨none, 0, HH.out.1.keep m1, D1, fun i hi => by
    have := HH.out.1.two
    simp [blk] at hi
    omega, rfl⟩
  have X2 := XA w1 _ g m hK
  clear XA hK D1 XN
  go_wp2_with fail
  refine X2.mono ?_
  rintro r w2 ⟨ms2, m2, n2, -, b, rs2, rfl, hb, L2, r2, -⟩
  clear X2
  have HP := Lib.hid (And.intro L2 (And.intro m1 (And.intro m2 (And.intro n2 (And.intro hg (And.intro hm r2))))))
  clear L2 m1 m2 n2 hg hm r2 hb
  go_wp2_with fail
  go_ret2
  obtain ⟨L2, m1, m2, n2, hg, hm, r2⟩ := HP.out
  obtain ⟨-, a2, a3, a4, hn, hz⟩ := HH.out
  refine ⟨g, m, b, ms2, rs2, T, rfl, L2, a2.calm, by rw [a2.n]; exact hz, by have := a2.ops; have h0 : (St.new z).ops = 0 := rfl; omega, a3, by rw [a2.n]; exact a4, m1.trans m2 (fun i hi h => by simp [blk] at h; omega), fun i hi => ?_, fun i hi => Nat.le_trans m1.size (r2 i hi)⟩
  rcases n2 i hi with q | q
  · simp [blk] at q; omega
  · exact Nat.le_trans m1.size q
end Go.Proofs.YtcoedhemlghjoaaGreatDoor
