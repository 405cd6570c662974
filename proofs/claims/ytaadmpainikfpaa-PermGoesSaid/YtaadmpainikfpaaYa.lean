/-
  groupsOf: a user's groups, told one behind the other. My own work.
-/
import Derived.Test.YtaadmpainikfpaaWu
namespace Go.Proofs.Ytaadmpainikfpaa
open Go.RowKit Go.Shelf
attribute [local go_sem] Oper.semAt_some
set_option linter.unusedVariables false
set_option linter.unusedSimpArgs false
def b2v (x : Int × Int) : List Value := [ci x.1, ci x.2]
theorem b2v_len (x : Int × Int) : (b2v x).length = 2 := rfl
theorem b2v_one (x : Int × Int) : ∀ v ∈ b2v x, v.oneCell' = true := by
  intro v hv
  simp only [b2v, List.mem_cons, List.not_mem_nil, or_false] at hv
  rcases hv with rfl | rfl <;> rfl
/-- Rows that say who is in which group. -/
structure BelR (w : World) (A : Option Addr) (n c : Nat) (m : List (Int × Int)) : Prop where
  len : n = m.length
  cap : n ≤ c
  big : c ≤ 9223372036854775807
  cells : Cells w A (m.flatMap b2v)
  base : ∀ a, A = some a → m ≠ [] → a.block < w.heap.size
theorem BelR.call {w v : World} {A : Option Addr} {n c : Nat} {m : List (Int × Int)} (h : BelR w A n c m) (k : Mod [] w v) : BelR v A n c m :=
  ⟨h.len, h.cap, h.big, h.cells.keep k (fun _ _ => by simp), fun a ha hm => Nat.lt_of_lt_of_le (h.base a ha hm) k.size⟩
theorem BelR.at {w : World} {A : Option Addr} {n c : Nat} {m : List (Int × Int)} (h : BelR w A n c m) (j : Nat) (hj : j < m.length) : ∃ g o, A = some ⟨g, o, none⟩ ∧ Cells w (some ⟨g, o + j * 2, none⟩) (b2v m[j]) := by
  obtain ⟨g, o, e, hc⟩ := Cells.elem' b2v 2 (by omega) b2v_len h.cells j hj
  exact ⟨g, o, e, hc⟩
/-- The groups of a user. -/
def GL (m : List (Int × Int)) (u : Int) : List Int := (m.filter fun x => x.2 == u).map (·.1)
theorem GL_step (m : List (Int × Int)) (u : Int) (j : Nat) (h : j < m.length) : GL (m.take (j + 1)) u = GL (m.take j) u ++ (if (m[j].2 == u) = true then [m[j].1] else []) := by
  rw [GL, List.take_succ_eq_append_getElem h, List.filter_append, List.map_append, GL, List.filter_cons, List.filter_nil]
  split <;> rfl
theorem GL_sub (m : List (Int × Int)) (u : Int) (j : Nat) : ∀ g ∈ GL (m.take j) u, g ∈ GL m u := by
  intro g hg
  obtain ⟨x, hx, rfl⟩ := List.mem_map.1 hg
  obtain ⟨h1, h2⟩ := List.mem_filter.1 hx
  exact List.mem_map.2 ⟨x, List.mem_filter.2 ⟨List.mem_of_mem_take h1, h2⟩, rfl⟩
theorem GL_len (m : List (Int × Int)) (u : Int) (j : Nat) (h : j ≤ m.length) : (GL (m.take j) u).length ≤ j := by
  rw [GL, List.length_map]
  refine Nat.le_trans (List.length_filter_le _ _) ?_
  rw [List.length_take]
  exact Nat.min_le_left _ _
theorem size61 : (Try.prog.info? 61).map (·.size) = some 2 := by kernel_rfl
theorem size61' (x : Int × Int) : (Try.prog.info? 61).map (·.size) = some (b2v x).length := size61
theorem zero61 (w : World) : (zeroValue 61).run Try.prog w = .ok (.agg (b2v (0, 0)).toArray) w := by kernel_rfl
theorem KeepC.cell {ms : List Nat} {w v : World} (m : KeepC ms w v) {g : Nat} {t : TypeId} {cs : List Value} (h : Holds w g t cs) (h2 : g ∉ ms) : Holds v g t cs := m.same g _ h2 h rfl
set_option maxRecDepth 100000 in
set_option maxHeartbeats 4000000 in
theorem groups_in (n : Nat) (hn : 1 ≤ n) (y b3 b2 : Nat) (A : Option Addr) (c : Nat) (m : List (Int × Int)) (u : Int) (J Jx : List Int → World → Prop) (W : World)
    (hJ : ∀ pre v v', J pre v → Mod [] v v' → J pre v') (hJ1 : ∀ pre g v v', J pre v → Mod [g] v v' → W.heap.size ≤ g → J pre v')
    (hY : ∀ pre z V, J pre V → pre.length < m.length → YieldAt Fence.wide (n - 1) Try.prog y #[ci z] V fun r W' => (r = .returned (.bool true) ∧ J (pre ++ [z]) W' ∧ KeepC [] V W') ∨ (r = .returned (.bool false) ∧ Jx (pre ++ [z]) W'))
    (H3 : Holds W b3 37 [.slice A m.length c]) (H2 : Holds W b2 3 [ci u]) (HB : BelR W A m.length c m) (h0 : J [] W) :
    CallsIn Fence.wide n Try.prog 50 #[.func (.yield y) #[] #[], .pointer (some ⟨b3, 0, none⟩), .pointer (some ⟨b2, 0, none⟩)] W fun r W' => (∃ v, r = .returned v) ∧ ((∃ zs, zs = GL m u ∧ J zs W') ∨ ∃ pre, (∀ g ∈ pre, g ∈ GL m u) ∧ Jx pre W') := by
  have hcap := HB.cap
  have hbig := HB.big
  have k3 := H3.cell 0
  simp only [List.getElem?_cons_zero] at k3
  have HW := Lib.hid (And.intro H3 (And.intro H2 HB))
  obtain ⟨N, hN⟩ : ∃ N, N = m.length := ⟨_, rfl⟩
  rw [← hN] at k3 hcap
  have HN := Lib.hid hN
  clear H3 H2 HB hN
  refine callsIn_of_wp Try.func50 rfl trivial ?_ rfl
  simp only [Try.ntmps50, List.size_toArray, List.length_cons, List.length_nil, Nat.reduceAdd, Nat.reduceSub, Array.replicate_succ, Array.replicate_zero, List.push_toArray, List.append_toArray, List.nil_append, List.cons_append]
  gi_wp2
  gi_loopw [8] (fun i wr => ∃ j : Nat, i = .int .i64 j ∧ j ≤ N ∧ J (GL (m.take j) u) wr ∧ Hid (KeepC [] W wr)) (fun i _ => N - (intOf i).toNat)
  case atStart => exact ⟨0, rfl, Nat.zero_le _, by simpa [GL] using h0, Lib.hid (KeepC.refl _ _)⟩
  case round =>
    obtain ⟨j, rfl, hj, hJs, hk⟩ := hrel
    by_cases hlt : j < N
    · have hjm : j < m.length := by rw [← HN.out]; exact hlt
      obtain ⟨g, o, hA, hc⟩ := HW.out.2.2.at j hjm
      subst hA
      have hst := GL_step m u j hjm
      obtain ⟨x, hx⟩ : ∃ x, x = m[j] := ⟨_, rfl⟩
      rw [← hx] at hc hst
      have HC : Hid (Cells wr (some ⟨g, o + j * 2, none⟩) (b2v x)) := Lib.hid (hk.out.cells hc (fun a ha => by simp))
      have HST := Lib.hid hst
      have hlN : (GL (m.take j) u).length < m.length := by have := GL_len m u j (by omega); omega
      have HL := Lib.hid hlN
      have HJS := Lib.hid hJs
      clear hc hst hx hlN hJs h0
      by_cases hxu : x.2 = u
      · have e1 : (x.2 == u) = true := beq_iff_eq.2 hxu
        have HST2 : Hid (GL (m.take (j + 1)) u = GL (m.take j) u ++ [x.1]) := Lib.hid (by rw [HST.out, e1]; rfl)
        clear HST hxu
        gi_wp2_with (first
          | (with_reducible refine wpListIn_ranW (o := ⟨some 10, _, _, _, _, _⟩) (fun _ => trivial) rfl (by with_unfolding_all (intro c hc; cases hc)) (.pointer (some ⟨g, o + j * 2, none⟩)) wr (exec_ixs Try.underlying37 size61 hlt rfl rfl rfl) ?_)
          | (with_reducible refine wpListIn_loads (o := ⟨some 11, .load 61 (.tmp 10), _, _, _, _⟩) rfl 61 (.tmp 10) rfl g (o + j * 2) (b2v x) rfl HC.out _ Try.underlying61 rfl (size61' x) _ rfl ?_)
          | (with_reducible refine wpListIn_allocs (o := ⟨some 5, .alloc 61, _, _, _, _⟩) rfl 61 rfl _ zero61 ?_; intro v1 hv1 mv1 zv1)
          | (with_reducible refine wpListIn_storesAll (o := ⟨none, .store 61 (.tmp 5) (.tmp 11), _, _, _, _⟩) rfl 61 (.tmp 5) (.tmp 11) rfl rfl wr.heap.size (b2v x) rfl _ rfl rfl 61 _ hv1 rfl (b2v_one x) (size61' x) ?_
             intro v2 hv2 mv2 zv2
             have mm : Mod [] wr v2 := mv1.trans mv2 (by intro i hi h; simp at h; omega)
             have c0 : v2.cell? ⟨wr.heap.size, 0, none⟩ = some (ci x.1) := hv2.cell 0
             have c1 : v2.cell? ⟨wr.heap.size, 1, none⟩ = some (ci x.2) := hv2.cell 1
             have c2 : v2.cell? ⟨b2, 0, none⟩ = some (ci u) := ((hk.out.cell HW.out.2.1 (by simp)).keep mm (by simp)).cell 0
             have hJ2 := hJ _ _ _ HJS.out mm
             have hyy := hY _ x.1 v2 hJ2 HL.out
             obtain ⟨fn, tmps, assign, body, hy, hR⟩ := hyy
             have HM := Lib.hid mm
             clear hv1 mv1 zv1 mv2 zv2 hv2 mm hJ2))
        refine hR.mono ?_
        rintro r W3 (⟨rfl, hJ3, hk3⟩ | ⟨rfl, hJx3⟩)
        · gi_wp2
          refine ⟨⟨j + 1, by go_num, by omega, by rw [HST2.out]; exact hJ3, Lib.hid (hk.out.trans (HM.out.keepC.trans hk3))⟩, by simp [intOf]; omega⟩
        · gi_wp2
          refine bodyPost_ret (results_none rfl _ _ _) rfl ?_
          exact ⟨⟨_, rfl⟩, .inr ⟨_, fun g hg => by rw [← HST2.out] at hg; exact GL_sub m u _ g hg, hJx3⟩⟩
      · have e1 : (x.2 == u) = false := beq_eq_false_iff_ne.2 hxu
        have HST2 : Hid (GL (m.take (j + 1)) u = GL (m.take j) u) := Lib.hid (by rw [HST.out, e1]; simp)
        clear HST hxu
        gi_wp2_with (first
          | (with_reducible refine wpListIn_ranW (o := ⟨some 10, _, _, _, _, _⟩) (fun _ => trivial) rfl (by with_unfolding_all (intro c hc; cases hc)) (.pointer (some ⟨g, o + j * 2, none⟩)) wr (exec_ixs Try.underlying37 size61 hlt rfl rfl rfl) ?_)
          | (with_reducible refine wpListIn_loads (o := ⟨some 11, .load 61 (.tmp 10), _, _, _, _⟩) rfl 61 (.tmp 10) rfl g (o + j * 2) (b2v x) rfl HC.out _ Try.underlying61 rfl (size61' x) _ rfl ?_)
          | (with_reducible refine wpListIn_allocs (o := ⟨some 5, .alloc 61, _, _, _, _⟩) rfl 61 rfl _ zero61 ?_; intro v1 hv1 mv1 zv1)
          | (with_reducible refine wpListIn_storesAll (o := ⟨none, .store 61 (.tmp 5) (.tmp 11), _, _, _, _⟩) rfl 61 (.tmp 5) (.tmp 11) rfl rfl wr.heap.size (b2v x) rfl _ rfl rfl 61 _ hv1 rfl (b2v_one x) (size61' x) ?_
             intro v2 hv2 mv2 zv2
             have mm : Mod [] wr v2 := mv1.trans mv2 (by intro i hi h; simp at h; omega)
             have c0 : v2.cell? ⟨wr.heap.size, 0, none⟩ = some (ci x.1) := hv2.cell 0
             have c1 : v2.cell? ⟨wr.heap.size, 1, none⟩ = some (ci x.2) := hv2.cell 1
             have c2 : v2.cell? ⟨b2, 0, none⟩ = some (ci u) := ((hk.out.cell HW.out.2.1 (by simp)).keep mm (by simp)).cell 0
             have hJ2 := hJ _ _ _ HJS.out mm
             have HM := Lib.hid mm
             have HJ2 := Lib.hid hJ2
             clear hv1 mv1 zv1 mv2 zv2 hv2 mm hJ2))
        refine ⟨(fun f hf => (by cases hf)), ?_⟩
        gi_wp2
        refine ⟨⟨j + 1, by go_num, by omega, by rw [HST2.out]; exact HJ2.out, Lib.hid (hk.out.trans HM.out.keepC)⟩, by simp [intOf]; omega⟩
    · obtain rfl : j = N := by omega
      have HJS := Lib.hid hJs
      clear hJs h0
      gi_wp2
      go_end0
      exact ⟨⟨_, rfl⟩, .inl ⟨_, by rw [HN.out, List.take_length], HJS.out⟩⟩
end Go.Proofs.Ytaadmpainikfpaa
