/-
  MayRead: the program's. My own work.
-/
import Derived.Test.YtaadmpainikfpaaYa
namespace Go.Proofs.Ytaadmpainikfpaa
open Go.RowKit Go.Shelf
attribute [local go_sem] Oper.semAt_some
set_option linter.unusedVariables false
set_option linter.unusedSimpArgs false
theorem any_mod {w W W' : World} {row : Option Nat} (h : Mod [] w W) (hg : W.grownBy W' row) (hr : ∀ r, row = some r → w.heap.size ≤ r) : Mod [] w W' :=
  ⟨hg.os.trans h.os, hg.tape.trans h.tape, hg.output.trans h.output, Nat.le_trans h.size hg.size, fun k hk _ => (hg.block k (Nat.lt_of_lt_of_le hk h.size) (fun e => by have := hr k e.symm; omega)).trans (h.block k hk (by simp))⟩
theorem any_holds {W W' : World} {g n : Nat} {t : TypeId} {cs : List Value} {row : Option Nat} (h : Holds W g t cs) (hg : W.grownBy W' row) (hr : ∀ r, row = some r → n ≤ r) (hn : g < n) : Holds W' g t cs :=
  (hg.block g h.lt (fun e => by have := hr g e.symm; omega)).trans h
def Pm.mayR (p : Pm) (u : Int) (m : List (Int × Int)) : Bool := p.rightB && (upTo u 6 && ((u == p.own) || (p.rd.contains u || (GL m u).any fun g => p.gp.contains g)))
theorem groupsOf_c (u : Int) (A : Option Addr) (n c : Nat) (w : World) : Calls Try.prog 37 #[ci u, .slice A n c] w fun e w' => ∃ b3 b2, e = .returned (.func (.func 50) #[] #[.pointer (some ⟨b3, 0, none⟩), .pointer (some ⟨b2, 0, none⟩)]) ∧ Holds w' b3 37 [.slice A n c] ∧ Holds w' b2 3 [ci u] ∧ Mod [] w w' ∧ w.heap.size ≤ b3 ∧ w.heap.size ≤ b2 := by
  have F0 := Fm.nil w
  go_enter Try.func37, Try.ntmps37
  go_wp2_with (first
    | (with_reducible refine fm_box1 F0 (o := ⟨some 2, .box 3 (.tmp 0), _, _, _, _⟩) rfl 3 (.tmp 0) rfl (ci u) rfl rfl ?_; intro b2 w1 F1; clear F0)
    | (with_reducible refine fm_box1 F1 (o := ⟨some 3, .box 37 (.tmp 1), _, _, _, _⟩) rfl 37 (.tmp 1) rfl (.slice A n c) rfl rfl ?_; intro b3 w2 F2; clear F1))
  go_ret
  exact ⟨b3, b2, rfl, F2.blk 0 rfl, F2.blk 1 rfl, F2.m, F2.lo (oB b3 37 [.slice A n c]) (by simp) b3 rfl, F2.lo (oB b2 3 [ci u]) (by simp) b2 rfl⟩
theorem far_mod {w v v' : World} {ms : List Nat} (h : Mod [] w v) (m : Mod ms v v') (hm : ∀ i ∈ ms, w.heap.size ≤ i) : Mod [] w v' := h.trans m (fun i hi hn => by have := hm i hn; omega)
theorem groups_any (n : Nat) (hn : 1 ≤ n) (b3 b2 : Nat) (A : Option Addr) (c : Nat) (m : List (Int × Int)) (u : Int) (w : World) (H3 : Holds w b3 37 [.slice A m.length c]) (H2 : Holds w b2 3 [ci u]) (HB : BelR w A m.length c m) :
    SeqAny Fence.wide n Try.prog 50 #[.pointer (some ⟨b3, 0, none⟩), .pointer (some ⟨b2, 0, none⟩)] (fun (z : Int) => #[ci z]) (fun _ _ _ => True) (KeepC []) (fun zs => zs = GL m u) (fun pre => ∀ g ∈ pre, g ∈ GL m u) m.length w := fun y J Jx W hW hJ hJx hY h0 => by
  have hm : Mod [] w W := Mod.of_below hW []
  exact groups_in n hn y b3 b2 A c m u J Jx W (fun pre v v' h m => hJ.mod h m) (fun pre g v v' h m hg => hJ.mod1 h m hg) (fun pre z V hJ hl => hY pre z V trivial hJ hl) (H3.keep hm (by simp)) (H2.keep hm (by simp)) (HB.call hm) h0
theorem one4 : (Try.prog.info? 4).map (·.size) = some 1 := by kernel_rfl
theorem false4 (w : World) : (zeroValue 4).run Try.prog w = .ok (.bool false) w := by kernel_rfl
theorem results_cell4 {fn : Func} {p : Tmp} (h : fn.results = #[.cell p 4]) (tmps : Array Value) (w : World) (g : Nat) (b : Bool) (hp : tmps.getD p undef = .pointer (some ⟨g, 0, none⟩)) (hc : w.cell? ⟨g, 0, none⟩ = some (.bool b)) :
    (results fn tmps).run Try.prog w = .ok (.bool b) w := by
  have hp' : tmps[p]?.getD undef = .pointer (some ⟨g, 0, none⟩) := by simpa using hp
  simp [results, h, hp', asAddr, run_load1 (P := Try.prog) (ty := 4) Try.underlying4 rfl hc]
set_option maxRecDepth 100000 in
set_option maxHeartbeats 8000000 in
theorem mayR_p {w : World} {S : Nat → Prop} {p : Pm} {cs : List Value} (h : PIs w S p cs) (hS : ∀ g, S g → g < w.heap.size) (u : Int) (A : Option Addr) (c : Nat) (m : List (Int × Int)) (hm : BelR w A m.length c m) (b : Bool) (hb : Hid (p.mayR u m = b)) : Calls Try.prog 20 #[.agg cs.toArray, ci u, .slice A m.length c] w fun r w' => r = .returned (.bool b) ∧ Mod [] w w' := by
  have hr := hb.out
  rw [Pm.mayR] at hr
  clear hb
  have FA := (Fm.nil w).arg (tP S p cs) (keeps_tP _ _ _) h hS
  have h5 := h.len
  obtain ⟨A1, c1, A2, c2, A3, c3, rfl, h⟩ := h
  obtain ⟨o, e, l1, l2, l3⟩ := p
  have H1 := Lib.hid h.rr
  have H3 := Lib.hid h.gg
  simp only [pmc] at FA h5 H1 H3 hr ⊢
  obtain ⟨ds, hds⟩ : ∃ ds, ds = [ci o, ci e, .slice A1 l1.length c1, .slice A2 l2.length c2, .slice A3 l3.length c3] := ⟨_, rfl⟩
  have HD := Lib.hid hds
  rw [← hds] at FA h5 ⊢
  have HM := Lib.hid hm
  obtain ⟨n0, hn0⟩ : ∃ n, n = m.length := ⟨_, rfl⟩
  have HN0 := Lib.hid hn0
  rw [← hn0]
  clear h hds hm hn0
  obtain ⟨b1, hb1⟩ : ∃ x, (Pm.mk o e l1 l2 l3).rightB = x := ⟨_, rfl⟩
  obtain ⟨b2, hb2⟩ : ∃ x, upTo u 6 = x := ⟨_, rfl⟩
  obtain ⟨b4, hb4⟩ : ∃ x, l1.contains u = x := ⟨_, rfl⟩
  rw [hb1, hb2, hb4] at hr
  have B1 := Lib.hid hb1
  have B2 := Lib.hid hb2
  have B4 := Lib.hid hb4
  clear hb1 hb2 hb4
  refine (callsIn_wide (n := 5)).1 ?_
  refine callsIn_of_wp_marks Try.func20 rfl trivial ?_ rfl
  simp only [Try.ntmps20, List.size_toArray, List.length_cons, List.length_nil, Nat.reduceAdd, Nat.reduceSub, Array.replicate_succ, Array.replicate_zero, List.push_toArray, List.append_toArray, List.nil_append, List.cons_append]
  refine wpIn_wide.2 ?_
  cases b1
  case false =>
    obtain rfl : false = b := by rw [← hr]; first | rfl | simp
    clear hr
    go_wp2_with (first
      | (with_reducible refine fm_box FA (o := ⟨some 3, .box 24 (.tmp 0), _, _, _, _⟩) rfl 24 (.tmp 0) rfl ds rfl ?_; intro b3 w1 F1; clear FA)
      | (with_reducible refine fm_alloc1 F1 (o := ⟨some 6, .alloc 4, _, _, _, _⟩) rfl 4 rfl (.bool false) rfl false4 ?_; intro b6 w2 F2; clear F1)
      | (with_reducible refine fm_load F2 1 rfl (o := ⟨some 8, .load 24 (.tmp 3), _, _, _, _⟩) rfl (.tmp 3) rfl rfl h5 ?_)
      | (go_at_call 15; refine (check_p (F2.s 0 rfl) _ B1).mono ?_
         rintro r w3 ⟨rfl, m3⟩
         have F3 := F2.call m3
         obtain ⟨q0, q1, q2, q3, q4⟩ := cells5 (HD.out ▸ F3.blk 1 rfl : Holds w3 b3 24 [ci o, ci e, .slice A1 l1.length c1, .slice A2 l2.length c2, .slice A3 l3.length c3])
         clear F2 m3)
      | (go_at_call 30; refine (isUser_c u _ B2 _).mono ?_; rintro r w' ⟨rfl, hw'⟩; subst hw')
      | (go_at_call 33; refine (contains_c A1 l1.length c1 l1 u _ _ (H1.out.call F3.m) B4).mono ?_; rintro r w' ⟨rfl, hw'⟩; subst hw')
      | (with_reducible refine fm_store1 F3 0 0 rfl (by simp) 4 (.bool false) rfl one4 (o := ⟨none, .store 4 (.tmp 6) (.const (.bool false)), _, _, _, _⟩) rfl (.tmp 6) (.const (.bool false)) rfl rfl rfl rfl ?_; intro w4 F4; clear F3))
    exact ⟨_, results_cell4 rfl _ _ b6 false rfl ((F4.blk 0 rfl).cell 0), rfl, F4.m⟩
  cases b2
  case false =>
    obtain rfl : false = b := by rw [← hr]; first | rfl | simp
    clear hr
    go_wp2_with (first
      | (with_reducible refine fm_box FA (o := ⟨some 3, .box 24 (.tmp 0), _, _, _, _⟩) rfl 24 (.tmp 0) rfl ds rfl ?_; intro b3 w1 F1; clear FA)
      | (with_reducible refine fm_alloc1 F1 (o := ⟨some 6, .alloc 4, _, _, _, _⟩) rfl 4 rfl (.bool false) rfl false4 ?_; intro b6 w2 F2; clear F1)
      | (with_reducible refine fm_load F2 1 rfl (o := ⟨some 8, .load 24 (.tmp 3), _, _, _, _⟩) rfl (.tmp 3) rfl rfl h5 ?_)
      | (go_at_call 15; refine (check_p (F2.s 0 rfl) _ B1).mono ?_
         rintro r w3 ⟨rfl, m3⟩
         have F3 := F2.call m3
         obtain ⟨q0, q1, q2, q3, q4⟩ := cells5 (HD.out ▸ F3.blk 1 rfl : Holds w3 b3 24 [ci o, ci e, .slice A1 l1.length c1, .slice A2 l2.length c2, .slice A3 l3.length c3])
         clear F2 m3)
      | (go_at_call 30; refine (isUser_c u _ B2 _).mono ?_; rintro r w' ⟨rfl, hw'⟩; subst hw')
      | (go_at_call 33; refine (contains_c A1 l1.length c1 l1 u _ _ (H1.out.call F3.m) B4).mono ?_; rintro r w' ⟨rfl, hw'⟩; subst hw')
      | (with_reducible refine fm_store1 F3 0 0 rfl (by simp) 4 (.bool false) rfl one4 (o := ⟨none, .store 4 (.tmp 6) (.const (.bool false)), _, _, _, _⟩) rfl (.tmp 6) (.const (.bool false)) rfl rfl rfl rfl ?_; intro w4 F4; clear F3))
    exact ⟨_, results_cell4 rfl _ _ b6 false rfl ((F4.blk 0 rfl).cell 0), rfl, F4.m⟩
  by_cases g : u = o
  case pos =>
    have e1 : (u == o) = true := beq_iff_eq.2 g
    rw [e1] at hr
    clear g
    obtain rfl : true = b := by rw [← hr]; first | rfl | simp
    clear hr
    go_wp2_with (first
      | (with_reducible refine fm_box FA (o := ⟨some 3, .box 24 (.tmp 0), _, _, _, _⟩) rfl 24 (.tmp 0) rfl ds rfl ?_; intro b3 w1 F1; clear FA)
      | (with_reducible refine fm_alloc1 F1 (o := ⟨some 6, .alloc 4, _, _, _, _⟩) rfl 4 rfl (.bool false) rfl false4 ?_; intro b6 w2 F2; clear F1)
      | (with_reducible refine fm_load F2 1 rfl (o := ⟨some 8, .load 24 (.tmp 3), _, _, _, _⟩) rfl (.tmp 3) rfl rfl h5 ?_)
      | (go_at_call 15; refine (check_p (F2.s 0 rfl) _ B1).mono ?_
         rintro r w3 ⟨rfl, m3⟩
         have F3 := F2.call m3
         obtain ⟨q0, q1, q2, q3, q4⟩ := cells5 (HD.out ▸ F3.blk 1 rfl : Holds w3 b3 24 [ci o, ci e, .slice A1 l1.length c1, .slice A2 l2.length c2, .slice A3 l3.length c3])
         clear F2 m3)
      | (go_at_call 30; refine (isUser_c u _ B2 _).mono ?_; rintro r w' ⟨rfl, hw'⟩; subst hw')
      | (go_at_call 33; refine (contains_c A1 l1.length c1 l1 u _ _ (H1.out.call F3.m) B4).mono ?_; rintro r w' ⟨rfl, hw'⟩; subst hw')
      | (with_reducible refine fm_store1 F3 0 0 rfl (by simp) 4 (.bool true) rfl one4 (o := ⟨none, .store 4 (.tmp 6) (.const (.bool true)), _, _, _, _⟩) rfl (.tmp 6) (.const (.bool true)) rfl rfl rfl rfl ?_; intro w4 F4; clear F3))
    exact ⟨_, results_cell4 rfl _ _ b6 true rfl ((F4.blk 0 rfl).cell 0), rfl, F4.m⟩
  have e1 : (u == o) = false := beq_eq_false_iff_ne.2 g
  rw [e1] at hr
  clear g
  cases b4
  case true =>
    obtain rfl : true = b := by rw [← hr]; first | rfl | simp
    clear hr
    go_wp2_with (first
      | (with_reducible refine fm_box FA (o := ⟨some 3, .box 24 (.tmp 0), _, _, _, _⟩) rfl 24 (.tmp 0) rfl ds rfl ?_; intro b3 w1 F1; clear FA)
      | (with_reducible refine fm_alloc1 F1 (o := ⟨some 6, .alloc 4, _, _, _, _⟩) rfl 4 rfl (.bool false) rfl false4 ?_; intro b6 w2 F2; clear F1)
      | (with_reducible refine fm_load F2 1 rfl (o := ⟨some 8, .load 24 (.tmp 3), _, _, _, _⟩) rfl (.tmp 3) rfl rfl h5 ?_)
      | (go_at_call 15; refine (check_p (F2.s 0 rfl) _ B1).mono ?_
         rintro r w3 ⟨rfl, m3⟩
         have F3 := F2.call m3
         obtain ⟨q0, q1, q2, q3, q4⟩ := cells5 (HD.out ▸ F3.blk 1 rfl : Holds w3 b3 24 [ci o, ci e, .slice A1 l1.length c1, .slice A2 l2.length c2, .slice A3 l3.length c3])
         clear F2 m3)
      | (go_at_call 30; refine (isUser_c u _ B2 _).mono ?_; rintro r w' ⟨rfl, hw'⟩; subst hw')
      | (go_at_call 33; refine (contains_c A1 l1.length c1 l1 u _ _ (H1.out.call F3.m) B4).mono ?_; rintro r w' ⟨rfl, hw'⟩; subst hw')
      | (with_reducible refine fm_store1 F3 0 0 rfl (by simp) 4 (.bool true) rfl one4 (o := ⟨none, .store 4 (.tmp 6) (.const (.bool true)), _, _, _, _⟩) rfl (.tmp 6) (.const (.bool true)) rfl rfl rfl rfl ?_; intro w4 F4; clear F3))
    exact ⟨_, results_cell4 rfl _ _ b6 true rfl ((F4.blk 0 rfl).cell 0), rfl, F4.m⟩
  have hb : ((GL m u).any fun g => l3.contains g) = b := by rw [← hr]; simp
  have HB := Lib.hid hb
  clear hr hb
  go_wp2_with (first
    | (with_reducible refine fm_box FA (o := ⟨some 3, .box 24 (.tmp 0), _, _, _, _⟩) rfl 24 (.tmp 0) rfl ds rfl ?_; intro b3 w1 F1; clear FA)
    | (with_reducible refine fm_alloc1 F1 (o := ⟨some 6, .alloc 4, _, _, _, _⟩) rfl 4 rfl (.bool false) rfl false4 ?_; intro b6 w2 F2; clear F1)
    | (with_reducible refine fm_load F2 1 rfl (o := ⟨some 8, .load 24 (.tmp 3), _, _, _, _⟩) rfl (.tmp 3) rfl rfl h5 ?_)
    | (go_at_call 15; refine (check_p (F2.s 0 rfl) _ B1).mono ?_
       rintro r w3 ⟨rfl, m3⟩
       have F3 := F2.call m3
       obtain ⟨q0, q1, q2, q3, q4⟩ := cells5 (HD.out ▸ F3.blk 1 rfl : Holds w3 b3 24 [ci o, ci e, .slice A1 l1.length c1, .slice A2 l2.length c2, .slice A3 l3.length c3])
       clear F2 m3)
    | (go_at_call 30; refine (isUser_c u _ B2 _).mono ?_; rintro r w' ⟨rfl, hw'⟩; subst hw')
    | (go_at_call 33; refine (contains_c A1 l1.length c1 l1 u _ _ (H1.out.call F3.m) B4).mono ?_; rintro r w' ⟨rfl, hw'⟩; subst hw')
    | (go_at_call 37; refine (groupsOf_c u A n0 c _).mono ?_
       rintro r w5 ⟨c3', c2', rfl, p3, p2, m5, q3', q2'⟩
       have F5 := F3.call m5
       have HBL := HM.out.call F5.m
       clear F3 q0 q1 q2 q3 q4))
  have k6 : Holds w5 b6 4 [.bool false] := F5.blk 0 rfl
  have k3 : Holds w5 b3 24 ds := F5.blk 1 rfl
  have h6l : b6 < w5.heap.size := k6.lt
  have h3l : b3 < w5.heap.size := k3.lt
  have h6o : w.heap.size ≤ b6 := F5.lo (oB b6 4 [.bool false]) (by simp) b6 rfl
  have hne : b3 ≠ b6 := fun hh => F5.apart2 (i := 0) (j := 1) (by omega) rfl rfl b6 rfl hh.symm
  have mm5 : Mod [] w w5 := F5.m
  have HI3 := Lib.hid (H3.out.call mm5)
  rw [HN0.out] at p3 ⊢
  refine (wpIn_wide (n := 5)).1 ?_
  refine wpIn_rangeFunc_any (F := Fence.wide) (n := 5) (α := Int) rfl (by omega) (gf := 50) (lb := #[.pointer (some ⟨c3', 0, none⟩), .pointer (some ⟨c2', 0, none⟩)]) rfl trivial (enters_of Try.func50 (by kernel_rfl) rfl)
    (groups_any 4 (by omega) c3' c2' A c m u w5 p3 p2 HBL)
    (fun h k => h.trans k) (fun W l o o' hl ho h1 _ => KeepC.putObj W l o o' ho h1) (Below.refl _ _) (fun _ => rfl)
    (fun pre W => Holds W b6 4 [.bool false] ∧ Holds W b3 24 ds ∧ Mod [] w W ∧ ∀ g ∈ pre, l3.contains g = false)
    (fun c pre W => c = .ret ∧ Holds W b6 4 [.bool true] ∧ Mod [] w W ∧ ∃ g ∈ pre, l3.contains g = true)
    (fun s A B row hs hg hr => ⟨any_holds hs.1 hg hr h6l, any_holds hs.2.1 hg hr h3l, any_mod hs.2.2.1 hg (fun r e => Nat.le_trans mm5.size (hr r e)), hs.2.2.2⟩)
    (fun c s A B row hs hg hr => ⟨hs.1, any_holds hs.2.1 hg hr h6l, any_mod hs.2.2.1 hg (fun r e => Nat.le_trans mm5.size (hr r e)), hs.2.2.2⟩)
    ⟨k6, k3, mm5, fun g hg => by cases hg⟩
    (fun pre x a' W => a' = { tmps := #[.agg ds.toArray, ci u, .slice A m.length c, .pointer (some ⟨b3, 0, none⟩), undef, undef, .pointer (some ⟨b6, 0, none⟩), ci x, .agg ds.toArray, .int .i64 0, .bool false, .bool false, ci u, .bool true, .bool false, .bool false, ci u, .pointer (some ⟨b3, 0, none⟩), ci o, .bool false, .bool false, .pointer (some ⟨b3, 2, none⟩), .slice A1 l1.length c1, ci u, .bool false, .bool false, ci u, .slice A m.length c, .func (.func 50) #[] #[.pointer (some ⟨c3', 0, none⟩), .pointer (some ⟨c2', 0, none⟩)], ci x, undef, undef, undef, undef], defers := [] })
    (fun pre x a' s A B row hs hg hr => hs) ?assign ?body ?done ?stop
  case assign =>
    rintro l pre x W K hI _ hK
    rw [zip_one]
    simp only [List.setIfInBounds_toArray, List.set_cons_succ, List.set_cons_zero]
    gi_wp2
    exact hK _ _ (KeepsFrom.refl _ _) (KeepC.refl _ _) hI rfl
  case body =>
    rintro l pre x a' W hl _ ⟨i6, i3, iM, iN⟩ rfl _
    obtain ⟨q0, q1, q2, q3, q4⟩ := cells5 (HD.out ▸ i3 : Holds W b3 24 [ci o, ci e, .slice A1 l1.length c1, .slice A2 l2.length c2, .slice A3 l3.length c3])
    obtain ⟨d, hd⟩ : ∃ d, l3.contains x = d := ⟨_, rfl⟩
    have HDX := Lib.hid hd
    have X := contains_c A3 l3.length c3 l3 x d W (H3.out.call iM) HDX
    have HIN := Lib.hid iN
    clear hd iN
    cases d
    · gi_wp2_with (first
        | (refine ⟨trivial, (CallsIn.inRound l (callsIn_wide.2 X)).mono ?_⟩
           rintro r w1 ⟨rfl, hw1⟩
           subst hw1
           clear X))
      exact ⟨KeepsFrom.refl _ _, KeepC.refl _ _, i6, i3, iM, fun g hg => by
        rcases List.mem_append.1 hg with hg | hg
        · exact HIN.out g hg
        · rw [List.mem_singleton] at hg; subst hg; exact HDX.out⟩
    · have k6c : W.cell? ⟨b6, 0, none⟩ = some (.bool false) := i6.cell 0
      have k6f : W.frozen? ⟨b6, 0, none⟩ = false := i6.free 0
      gi_wp2_with (first
        | (refine ⟨trivial, (CallsIn.inRound l (callsIn_wide.2 X)).mono ?_⟩
           rintro r w1 ⟨rfl, hw1⟩
           subst hw1
           clear X))
      have hv2 := i6.set 0 (.bool true)
      have mv2 := Mod.setCell (ms := [b6]) w1 (p := ⟨b6, 0, none⟩) (by simp) (.bool true)
      exact ⟨mv2.keepsFrom1 i6 _, rfl, hv2, far_mod iM mv2 (by simp; omega), x, by simp, HDX.out⟩
  case done =>
    rintro D xs W hD rfl ⟨i6, i3, iM, iN⟩ hK
    have hD6 : D ≠ b6 := by omega
    obtain rfl : false = b := by
      rw [← HB.out]
      symm
      rw [List.any_eq_false]
      intro g hg
      rw [iN g hg]
      simp
    have HV := Lib.hid (And.intro iM (And.intro hK hD6))
    clear iM hK hD6 iN
    have k6c : W.cell? ⟨b6, 0, none⟩ = some (.bool false) := i6.cell 0
    have k6f : W.frozen? ⟨b6, 0, none⟩ = false := i6.free 0
    go_wp2
    obtain ⟨iM, hK, hD6⟩ := HV.out
    have hv2 : Holds (W.setCell ⟨b6, 0, none⟩ (.bool false)) b6 4 [.bool false] := i6.set 0 (.bool false)
    have mv2 := Mod.setCell (ms := [b6]) W (p := ⟨b6, 0, none⟩) (by simp) (.bool false)
    have hK2 : (W.setCell ⟨b6, 0, none⟩ (.bool false)).heap[D]? = some (.deferred (some [])) := (mv2.block D (Array.getElem?_eq_some_iff.1 hK).1 (by simpa using hD6)).trans hK
    have hB2 : Holds ((W.setCell ⟨b6, 0, none⟩ (.bool false)).putObj D (.deferred none)) b6 4 [.bool false] := holds_own hv2 (grownBy_putObj' _ D (.deferred none)) (fun r e => by cases e; exact ⟨_, hK2, rfl⟩)
    have hM2 : Mod [] w ((W.setCell ⟨b6, 0, none⟩ (.bool false)).putObj D (.deferred none)) := mod_own (far_mod iM mv2 (by simp; omega)) (grownBy_putObj' _ D (.deferred none)) (fun r e => by cases e; have := mm5.size; omega)
    refine ⟨by simp, .inl ⟨_, _, rfl, run_takeDeferred hK2, ?_⟩⟩
    exact ⟨_, results_cell4 rfl _ _ b6 false rfl (hB2.cell 0), rfl, hM2⟩
  case stop =>
    rintro D cd pre W hD hsp ⟨rfl, i6, iM, g, hg, hgc⟩ hK
    have hD6 : D ≠ b6 := by omega
    obtain rfl : true = b := by
      rw [← HB.out]
      symm
      rw [List.any_eq_true]
      exact ⟨g, hsp g hg, hgc⟩
    refine wpIn_wide.2 ?_
    go_wp2
    have hB2 : Holds (W.putObj D (.deferred none)) b6 4 [.bool true] := holds_own i6 (grownBy_putObj' _ D (.deferred none)) (fun r e => by cases e; exact ⟨_, hK, rfl⟩)
    have hM2 : Mod [] w (W.putObj D (.deferred none)) := mod_own iM (grownBy_putObj' _ D (.deferred none)) (fun r e => by cases e; have := mm5.size; omega)
    refine ⟨by simp, .inl ⟨_, _, rfl, run_takeDeferred hK, ?_⟩⟩
    exact ⟨_, results_cell4 rfl _ _ b6 true rfl (hB2.cell 0), rfl, hM2⟩
end Go.Proofs.Ytaadmpainikfpaa
