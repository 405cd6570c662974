/-
  Who may change: changedBy and its closure, for each of the four changes. My own work.
-/
import Derived.Test.YtaadmpainikfpaaWo
namespace Go.Proofs.Ytaadmpainikfpaa
open Go.RowKit Go.Shelf
attribute [local go_sem] Oper.semAt_some
set_option linter.unusedVariables false
set_option linter.unusedSimpArgs false
/-- All that stands, for a call within. -/
theorem Fm.anew {w0 w : World} {os ts : List Th} (F : Fm w0 w os ts) : Fm w w [] (os ++ ts) :=
  ⟨Mod.refl _ _, fun x hx => by
    rcases hx with h | h
    · cases h
    · exact F.k x (List.mem_append.1 h), by simp, List.Pairwise.nil, by simp⟩
theorem PIs.mono {w : World} {S T : Nat → Prop} {p : Pm} {cs : List Value} (h : PIs w S p cs) (hs : ∀ g, S g → T g) : PIs w T p cs := by
  obtain ⟨A1, c1, A2, c2, A3, c3, rfl, h⟩ := h
  exact ⟨A1, c1, A2, c2, A3, c3, rfl, h.rr, h.ww, h.gg, fun a ha hl => hs _ (h.s1 a ha hl), fun a ha hl => hs _ (h.s2 a ha hl), fun a ha hl => hs _ (h.s3 a ha hl)⟩
/-- By the owner, and for somebody for whom it can be asked. -/
def owned (by_ : Int) (can : Bool) (f : Pm → Int × Pm) (p : Pm) : Int × Pm := if by_ = p.own then (if can = true then f p else (2, zp)) else (211, zp)
theorem owned_eq (p : Pm) (by_ : Int) (can : Bool) (f : Pm → Int × Pm) : (if p.rightB = true then owned by_ can f p else (210, zp)) = byOwner p by_ can (f p) := by
  unfold owned byOwner
  rfl
/-- Permissions told by a callee, laid in a box of the call's own. -/
theorem Fm.tell {w0 w v : World} {os ts : List Th} (F : Fm w0 w os ts) {r : Int × Pm} {cs : List Value} (hP : PIs v (Btw w.heap.size v.heap.size) r.2 cs) (m : Mod [] w v) : Fm w0 v os (tP (Btw w.heap.size v.heap.size) r.2 cs :: ts) :=
  F.put m _ (keeps_tP _ _ _) hP fun g hg => .inl hg
theorem Fm.ends {w0 w : World} {os ts : List Th} {S : Nat → Prop} {r : Pm} {cs : List Value} (F : Fm w0 w os (tP S r cs :: ts)) (hS : ∀ g, S g → w0.heap.size ≤ g) : PIs w (Btw w0.heap.size w.heap.size) r cs :=
  PIs.mono (F.s 0 rfl : PIs w S r cs) fun g hg => ⟨hS g hg, F.slt 0 rfl g hg⟩

set_option maxHeartbeats 4000000 in
theorem by40_c {w0 w : World} {b ub uc uf x0 x1 : Nat} {p : Pm} {os ts : List Th} (by_ : Int) (can : Bool) (f : Pm → Int × Pm) (h : PO w0 w b p os ts) (hB : oB ub 3 [ci by_] ∈ ts) (hN : oB uc 4 [.bool can] ∈ ts) (hV : oB uf 67 [.func (.func 40) #[] #[.pointer (some ⟨x0, 0, none⟩), .pointer (some ⟨x1, 0, none⟩)]] ∈ ts)
    (hC : ∀ v, PO w0 v b p os ts → Calls Try.prog 40 #[.pointer (some ⟨b, 0, none⟩), .pointer (some ⟨x0, 0, none⟩), .pointer (some ⟨x1, 0, none⟩)] v (ClR (f p) w0 b os ts)) :
    Calls Try.prog 51 #[.pointer (some ⟨b, 0, none⟩), .pointer (some ⟨ub, 0, none⟩), .pointer (some ⟨uc, 0, none⟩), .pointer (some ⟨uf, 0, none⟩)] w (ClR (owned by_ can f p) w0 b os ts) := by
  have HC := Lib.hid hC
  have HN := Lib.hid hN
  have HV := Lib.hid hV
  have k1 : w.cell? ⟨ub, 0, none⟩ = some (ci by_) := (h.box hB).cell 0
  have k2 : w.cell? ⟨b, 0, none⟩ = some (ci p.own) := by
    obtain ⟨A1, c1, A2, c2, A3, c3, F⟩ := h
    exact F.cellO 0 rfl 0 rfl
  have HPO := Lib.hid h
  obtain ⟨r, hr⟩ : ∃ r, owned by_ can f p = r := ⟨_, rfl⟩
  rw [hr]
  have HR := Lib.hid hr
  clear hC hN hV hB h hr
  go_enter Try.func51, Try.ntmps51
  by_cases hby : by_ = p.own
  · have e1 : (by_ == p.own) = true := beq_iff_eq.2 hby
    have e2 : (by_ != p.own) = false := by simp [hby]
    have HBY := Lib.hid hby
    clear hby
    go_wp2_with fail
    go_quiet (fail)
    obtain ⟨wa, hwa⟩ : ∃ v, v = w.drewN nq := ⟨_, rfl⟩
    rw [← hwa]
    have hPO2 : PO w0 wa b p os ts := HPO.out.call (hwa ▸ Mod.drewN [] w nq)
    have k3 : wa.cell? ⟨uc, 0, none⟩ = some (.bool can) := (hPO2.box HN.out).cell 0
    have k4 : wa.cell? ⟨uf, 0, none⟩ = some (.func (.func 40) #[] #[.pointer (some ⟨x0, 0, none⟩), .pointer (some ⟨x1, 0, none⟩)]) := (hPO2.box HV.out).cell 0
    clear hwa k1 k2
    cases can
    · obtain rfl : r = (2, zp) := by rw [← HR.out, owned, if_pos HBY.out]; rfl
      go_wp2_with fail
      go_ret
      exact ⟨rfl, fun h => by simp at h, hPO2.rest⟩
    · obtain rfl : r = f p := by rw [← HR.out, owned, if_pos HBY.out]; rfl
      have CC := HC.out wa hPO2
      clear HC HR
      go_wp2_with (go_at_call 40; refine CC.mono ?_; rintro e w5 ⟨rfl, q1, q2⟩; clear CC)
      go_ret
      exact ⟨rfl, q1, q2⟩
  · have e1 : (by_ == p.own) = false := beq_eq_false_iff_ne.2 hby
    have e2 : (by_ != p.own) = true := by simp [hby]
    obtain rfl : r = (211, zp) := by rw [← HR.out, owned, if_neg hby]
    clear hby
    go_wp2_with fail
    go_quiet (fail)
    go_wp2_with fail
    go_ret
    exact ⟨rfl, fun h => by simp at h, (HPO.out.call (Mod.drewN [] _ _)).rest⟩
set_option maxHeartbeats 4000000 in
theorem changedBy40_c {w : World} {S : Nat → Prop} {p : Pm} {cs : List Value} {ts : List Th} {x0 x1 : Nat} (h : tP S p cs ∈ ts) (F0 : Fm w w [] ts) (by_ : Int) (can : Bool) (f : Pm → Int × Pm)
    (hC : ∀ w0 v b os ts', (∀ y ∈ ts, y ∈ ts') → PO w0 v b p os ts' → p.Right → Calls Try.prog 40 #[.pointer (some ⟨b, 0, none⟩), .pointer (some ⟨x0, 0, none⟩), .pointer (some ⟨x1, 0, none⟩)] v (ClR (f p) w0 b os ts')) (hz : (f p).1 ≠ 0 → (f p).2 = zp) :
    Calls Try.prog 38 #[ci by_, .agg cs.toArray, .bool can, .func (.func 40) #[] #[.pointer (some ⟨x0, 0, none⟩), .pointer (some ⟨x1, 0, none⟩)]] w (ResR (byOwner p by_ can (f p)) w) := by
  rw [← owned_eq]
  have hz2 : (owned by_ can f p).1 ≠ 0 → (owned by_ can f p).2 = zp := by
    unfold owned
    split
    · split
      · exact hz
      · exact fun _ => rfl
    · exact fun _ => rfl
  obtain ⟨V, hV⟩ : ∃ V : Value, V = .func (.func 40) #[] #[.pointer (some ⟨x0, 0, none⟩), .pointer (some ⟨x1, 0, none⟩)] := ⟨_, rfl⟩
  have hV1 : V.cells = [V].toArray := by rw [hV]; rfl
  rw [← hV]
  have HV := Lib.hid hV
  have HC := Lib.hid hC
  have HZ := Lib.hid hz2
  have HP := Lib.hid h
  have h5 := PIs.len (F0.k _ (.inr h)).2.1
  have h1 := PIs.one (F0.k _ (.inr h)).2.1
  have CH : Hid (∀ (v : World) (b4 b5 b6 b7 b8 : Nat), Fm w v [oB b8 24 zpm, oB b7 67 [V], oB b6 4 [.bool can], oB b5 24 cs, oB b4 3 [ci by_]] ts → Calls Try.prog 48 #[.agg cs.toArray, .func (.func 51) #[] #[.pointer (some ⟨b4, 0, none⟩), .pointer (some ⟨b6, 0, none⟩), .pointer (some ⟨b7, 0, none⟩)]] v (ResR (if p.rightB = true then owned by_ can f p else (210, zp)) v)) := Lib.hid fun v b4 b5 b6 b7 b8 F => by
    have F2 := F.anew
    have hin : ∀ y ∈ ts, y ∈ [oB b8 24 zpm, oB b7 67 [V], oB b6 4 [.bool can], oB b5 24 cs, oB b4 3 [ci by_]] ++ ts := fun y hy => List.mem_append_right _ hy
    refine changed51_c (F2.k _ (.inr (hin _ HP.out))).2.1 F2 _ _ _ (owned by_ can f) (fun v2 b os hPO hr => ?_) hz2
    exact by40_c by_ can f hPO (List.mem_append_left _ (by simp)) (List.mem_append_left _ (by simp)) (by rw [← HV.out]; exact List.mem_append_left _ (by simp)) (fun v3 h3 => HC.out v v3 b os _ hin h3 hr)
  obtain ⟨r, hr⟩ : ∃ r, (if p.rightB = true then owned by_ can f p else (210, zp)) = r := ⟨_, rfl⟩
  rw [hr] at CH ⊢
  clear hC hz hz2 h hV hr HC HZ
  go_enter Try.func38, Try.ntmps38
  go_wp2_with (first
    | (with_reducible refine fm_box1 F0 (o := ⟨some 4, .box 3 (.tmp 0), _, _, _, _⟩) rfl 3 (.tmp 0) rfl (ci by_) rfl rfl ?_; intro b4 w1 F1; clear F0)
    | (with_reducible refine fm_box F1 (o := ⟨some 5, .box 24 (.tmp 1), _, _, _, _⟩) rfl 24 (.tmp 1) rfl cs rfl ?_; intro b5 w2 F2; clear F1)
    | (with_reducible refine fm_box1 F2 (o := ⟨some 6, .box 4 (.tmp 2), _, _, _, _⟩) rfl 4 (.tmp 2) rfl (.bool can) rfl rfl ?_; intro b6 w3 F3; clear F2)
    | (with_reducible refine fm_box1 F3 (o := ⟨some 7, .box 67 (.tmp 3), _, _, _, _⟩) rfl 67 (.tmp 3) rfl V hV1 rfl ?_; intro b7 w4 F4; clear F3)
    | (with_reducible refine fm_alloc F4 (o := ⟨some 8, .alloc 24, _, _, _, _⟩) rfl 24 rfl _ zero24 ?_; intro b8 w5 F5; clear F4)
    | (with_reducible refine fm_load F5 3 rfl (o := ⟨some 10, .load 24 (.tmp 5), _, _, _, _⟩) rfl (.tmp 5) rfl rfl h5 ?_)
    | (go_at_call 48; refine (CH.out w5 b4 b5 b6 b7 b8 F5).mono ?_
       rintro e w6 ⟨cs6, rfl, hP6, m6⟩
       have F6 := F5.tell hP6 m6
       have h65 := hP6.len
       have h61 := hP6.one
       have hlo := F5.m.size
       clear F5 m6 hP6 CH)
    | (with_reducible refine fm_store F6 0 rfl (o := ⟨none, .store 24 (.tmp 8) (.tmp 13), _, _, _, _⟩) rfl (.tmp 8) (.tmp 13) rfl rfl cs6 rfl rfl h65 rfl h61 ?_; intro w7 F7; clear F6))
  refine bodyPost_ret (results_ct rfl _ _ b8 _ (.int .i64 r.1) rfl rfl (F7.ret 0 rfl) h65) rfl ?_
  exact ⟨cs6, rfl, F7.ends fun g hg => Nat.le_trans hlo hg.1, F7.m⟩
set_option maxHeartbeats 4000000 in
theorem by42_c {w0 w : World} {b ub uc uf x0 : Nat} {p : Pm} {os ts : List Th} (by_ : Int) (can : Bool) (f : Pm → Int × Pm) (h : PO w0 w b p os ts) (hB : oB ub 3 [ci by_] ∈ ts) (hN : oB uc 4 [.bool can] ∈ ts) (hV : oB uf 67 [.func (.func 42) #[] #[.pointer (some ⟨x0, 0, none⟩)]] ∈ ts)
    (hC : ∀ v, PO w0 v b p os ts → Calls Try.prog 42 #[.pointer (some ⟨b, 0, none⟩), .pointer (some ⟨x0, 0, none⟩)] v (ClR (f p) w0 b os ts)) :
    Calls Try.prog 51 #[.pointer (some ⟨b, 0, none⟩), .pointer (some ⟨ub, 0, none⟩), .pointer (some ⟨uc, 0, none⟩), .pointer (some ⟨uf, 0, none⟩)] w (ClR (owned by_ can f p) w0 b os ts) := by
  have HC := Lib.hid hC
  have HN := Lib.hid hN
  have HV := Lib.hid hV
  have k1 : w.cell? ⟨ub, 0, none⟩ = some (ci by_) := (h.box hB).cell 0
  have k2 : w.cell? ⟨b, 0, none⟩ = some (ci p.own) := by
    obtain ⟨A1, c1, A2, c2, A3, c3, F⟩ := h
    exact F.cellO 0 rfl 0 rfl
  have HPO := Lib.hid h
  obtain ⟨r, hr⟩ : ∃ r, owned by_ can f p = r := ⟨_, rfl⟩
  rw [hr]
  have HR := Lib.hid hr
  clear hC hN hV hB h hr
  go_enter Try.func51, Try.ntmps51
  by_cases hby : by_ = p.own
  · have e1 : (by_ == p.own) = true := beq_iff_eq.2 hby
    have e2 : (by_ != p.own) = false := by simp [hby]
    have HBY := Lib.hid hby
    clear hby
    go_wp2_with fail
    go_quiet (fail)
    obtain ⟨wa, hwa⟩ : ∃ v, v = w.drewN nq := ⟨_, rfl⟩
    rw [← hwa]
    have hPO2 : PO w0 wa b p os ts := HPO.out.call (hwa ▸ Mod.drewN [] w nq)
    have k3 : wa.cell? ⟨uc, 0, none⟩ = some (.bool can) := (hPO2.box HN.out).cell 0
    have k4 : wa.cell? ⟨uf, 0, none⟩ = some (.func (.func 42) #[] #[.pointer (some ⟨x0, 0, none⟩)]) := (hPO2.box HV.out).cell 0
    clear hwa k1 k2
    cases can
    · obtain rfl : r = (2, zp) := by rw [← HR.out, owned, if_pos HBY.out]; rfl
      go_wp2_with fail
      go_ret
      exact ⟨rfl, fun h => by simp at h, hPO2.rest⟩
    · obtain rfl : r = f p := by rw [← HR.out, owned, if_pos HBY.out]; rfl
      have CC := HC.out wa hPO2
      clear HC HR
      go_wp2_with (go_at_call 42; refine CC.mono ?_; rintro e w5 ⟨rfl, q1, q2⟩; clear CC)
      go_ret
      exact ⟨rfl, q1, q2⟩
  · have e1 : (by_ == p.own) = false := beq_eq_false_iff_ne.2 hby
    have e2 : (by_ != p.own) = true := by simp [hby]
    obtain rfl : r = (211, zp) := by rw [← HR.out, owned, if_neg hby]
    clear hby
    go_wp2_with fail
    go_quiet (fail)
    go_wp2_with fail
    go_ret
    exact ⟨rfl, fun h => by simp at h, (HPO.out.call (Mod.drewN [] _ _)).rest⟩
set_option maxHeartbeats 4000000 in
theorem changedBy42_c {w : World} {S : Nat → Prop} {p : Pm} {cs : List Value} {ts : List Th} {x0 : Nat} (h : tP S p cs ∈ ts) (F0 : Fm w w [] ts) (by_ : Int) (can : Bool) (f : Pm → Int × Pm)
    (hC : ∀ w0 v b os ts', (∀ y ∈ ts, y ∈ ts') → PO w0 v b p os ts' → p.Right → Calls Try.prog 42 #[.pointer (some ⟨b, 0, none⟩), .pointer (some ⟨x0, 0, none⟩)] v (ClR (f p) w0 b os ts')) (hz : (f p).1 ≠ 0 → (f p).2 = zp) :
    Calls Try.prog 38 #[ci by_, .agg cs.toArray, .bool can, .func (.func 42) #[] #[.pointer (some ⟨x0, 0, none⟩)]] w (ResR (byOwner p by_ can (f p)) w) := by
  rw [← owned_eq]
  have hz2 : (owned by_ can f p).1 ≠ 0 → (owned by_ can f p).2 = zp := by
    unfold owned
    split
    · split
      · exact hz
      · exact fun _ => rfl
    · exact fun _ => rfl
  obtain ⟨V, hV⟩ : ∃ V : Value, V = .func (.func 42) #[] #[.pointer (some ⟨x0, 0, none⟩)] := ⟨_, rfl⟩
  have hV1 : V.cells = [V].toArray := by rw [hV]; rfl
  rw [← hV]
  have HV := Lib.hid hV
  have HC := Lib.hid hC
  have HZ := Lib.hid hz2
  have HP := Lib.hid h
  have h5 := PIs.len (F0.k _ (.inr h)).2.1
  have h1 := PIs.one (F0.k _ (.inr h)).2.1
  have CH : Hid (∀ (v : World) (b4 b5 b6 b7 b8 : Nat), Fm w v [oB b8 24 zpm, oB b7 67 [V], oB b6 4 [.bool can], oB b5 24 cs, oB b4 3 [ci by_]] ts → Calls Try.prog 48 #[.agg cs.toArray, .func (.func 51) #[] #[.pointer (some ⟨b4, 0, none⟩), .pointer (some ⟨b6, 0, none⟩), .pointer (some ⟨b7, 0, none⟩)]] v (ResR (if p.rightB = true then owned by_ can f p else (210, zp)) v)) := Lib.hid fun v b4 b5 b6 b7 b8 F => by
    have F2 := F.anew
    have hin : ∀ y ∈ ts, y ∈ [oB b8 24 zpm, oB b7 67 [V], oB b6 4 [.bool can], oB b5 24 cs, oB b4 3 [ci by_]] ++ ts := fun y hy => List.mem_append_right _ hy
    refine changed51_c (F2.k _ (.inr (hin _ HP.out))).2.1 F2 _ _ _ (owned by_ can f) (fun v2 b os hPO hr => ?_) hz2
    exact by42_c by_ can f hPO (List.mem_append_left _ (by simp)) (List.mem_append_left _ (by simp)) (by rw [← HV.out]; exact List.mem_append_left _ (by simp)) (fun v3 h3 => HC.out v v3 b os _ hin h3 hr)
  obtain ⟨r, hr⟩ : ∃ r, (if p.rightB = true then owned by_ can f p else (210, zp)) = r := ⟨_, rfl⟩
  rw [hr] at CH ⊢
  clear hC hz hz2 h hV hr HC HZ
  go_enter Try.func38, Try.ntmps38
  go_wp2_with (first
    | (with_reducible refine fm_box1 F0 (o := ⟨some 4, .box 3 (.tmp 0), _, _, _, _⟩) rfl 3 (.tmp 0) rfl (ci by_) rfl rfl ?_; intro b4 w1 F1; clear F0)
    | (with_reducible refine fm_box F1 (o := ⟨some 5, .box 24 (.tmp 1), _, _, _, _⟩) rfl 24 (.tmp 1) rfl cs rfl ?_; intro b5 w2 F2; clear F1)
    | (with_reducible refine fm_box1 F2 (o := ⟨some 6, .box 4 (.tmp 2), _, _, _, _⟩) rfl 4 (.tmp 2) rfl (.bool can) rfl rfl ?_; intro b6 w3 F3; clear F2)
    | (with_reducible refine fm_box1 F3 (o := ⟨some 7, .box 67 (.tmp 3), _, _, _, _⟩) rfl 67 (.tmp 3) rfl V hV1 rfl ?_; intro b7 w4 F4; clear F3)
    | (with_reducible refine fm_alloc F4 (o := ⟨some 8, .alloc 24, _, _, _, _⟩) rfl 24 rfl _ zero24 ?_; intro b8 w5 F5; clear F4)
    | (with_reducible refine fm_load F5 3 rfl (o := ⟨some 10, .load 24 (.tmp 5), _, _, _, _⟩) rfl (.tmp 5) rfl rfl h5 ?_)
    | (go_at_call 48; refine (CH.out w5 b4 b5 b6 b7 b8 F5).mono ?_
       rintro e w6 ⟨cs6, rfl, hP6, m6⟩
       have F6 := F5.tell hP6 m6
       have h65 := hP6.len
       have h61 := hP6.one
       have hlo := F5.m.size
       clear F5 m6 hP6 CH)
    | (with_reducible refine fm_store F6 0 rfl (o := ⟨none, .store 24 (.tmp 8) (.tmp 13), _, _, _, _⟩) rfl (.tmp 8) (.tmp 13) rfl rfl cs6 rfl rfl h65 rfl h61 ?_; intro w7 F7; clear F6))
  refine bodyPost_ret (results_ct rfl _ _ b8 _ (.int .i64 r.1) rfl rfl (F7.ret 0 rfl) h65) rfl ?_
  exact ⟨cs6, rfl, F7.ends fun g hg => Nat.le_trans hlo hg.1, F7.m⟩
set_option maxHeartbeats 4000000 in
theorem by46_c {w0 w : World} {b ub uc uf x0 : Nat} {p : Pm} {os ts : List Th} (by_ : Int) (can : Bool) (f : Pm → Int × Pm) (h : PO w0 w b p os ts) (hB : oB ub 3 [ci by_] ∈ ts) (hN : oB uc 4 [.bool can] ∈ ts) (hV : oB uf 67 [.func (.func 46) #[] #[.pointer (some ⟨x0, 0, none⟩)]] ∈ ts)
    (hC : ∀ v, PO w0 v b p os ts → Calls Try.prog 46 #[.pointer (some ⟨b, 0, none⟩), .pointer (some ⟨x0, 0, none⟩)] v (ClR (f p) w0 b os ts)) :
    Calls Try.prog 51 #[.pointer (some ⟨b, 0, none⟩), .pointer (some ⟨ub, 0, none⟩), .pointer (some ⟨uc, 0, none⟩), .pointer (some ⟨uf, 0, none⟩)] w (ClR (owned by_ can f p) w0 b os ts) := by
  have HC := Lib.hid hC
  have HN := Lib.hid hN
  have HV := Lib.hid hV
  have k1 : w.cell? ⟨ub, 0, none⟩ = some (ci by_) := (h.box hB).cell 0
  have k2 : w.cell? ⟨b, 0, none⟩ = some (ci p.own) := by
    obtain ⟨A1, c1, A2, c2, A3, c3, F⟩ := h
    exact F.cellO 0 rfl 0 rfl
  have HPO := Lib.hid h
  obtain ⟨r, hr⟩ : ∃ r, owned by_ can f p = r := ⟨_, rfl⟩
  rw [hr]
  have HR := Lib.hid hr
  clear hC hN hV hB h hr
  go_enter Try.func51, Try.ntmps51
  by_cases hby : by_ = p.own
  · have e1 : (by_ == p.own) = true := beq_iff_eq.2 hby
    have e2 : (by_ != p.own) = false := by simp [hby]
    have HBY := Lib.hid hby
    clear hby
    go_wp2_with fail
    go_quiet (fail)
    obtain ⟨wa, hwa⟩ : ∃ v, v = w.drewN nq := ⟨_, rfl⟩
    rw [← hwa]
    have hPO2 : PO w0 wa b p os ts := HPO.out.call (hwa ▸ Mod.drewN [] w nq)
    have k3 : wa.cell? ⟨uc, 0, none⟩ = some (.bool can) := (hPO2.box HN.out).cell 0
    have k4 : wa.cell? ⟨uf, 0, none⟩ = some (.func (.func 46) #[] #[.pointer (some ⟨x0, 0, none⟩)]) := (hPO2.box HV.out).cell 0
    clear hwa k1 k2
    cases can
    · obtain rfl : r = (2, zp) := by rw [← HR.out, owned, if_pos HBY.out]; rfl
      go_wp2_with fail
      go_ret
      exact ⟨rfl, fun h => by simp at h, hPO2.rest⟩
    · obtain rfl : r = f p := by rw [← HR.out, owned, if_pos HBY.out]; rfl
      have CC := HC.out wa hPO2
      clear HC HR
      go_wp2_with (go_at_call 46; refine CC.mono ?_; rintro e w5 ⟨rfl, q1, q2⟩; clear CC)
      go_ret
      exact ⟨rfl, q1, q2⟩
  · have e1 : (by_ == p.own) = false := beq_eq_false_iff_ne.2 hby
    have e2 : (by_ != p.own) = true := by simp [hby]
    obtain rfl : r = (211, zp) := by rw [← HR.out, owned, if_neg hby]
    clear hby
    go_wp2_with fail
    go_quiet (fail)
    go_wp2_with fail
    go_ret
    exact ⟨rfl, fun h => by simp at h, (HPO.out.call (Mod.drewN [] _ _)).rest⟩
set_option maxHeartbeats 4000000 in
theorem changedBy46_c {w : World} {S : Nat → Prop} {p : Pm} {cs : List Value} {ts : List Th} {x0 : Nat} (h : tP S p cs ∈ ts) (F0 : Fm w w [] ts) (by_ : Int) (can : Bool) (f : Pm → Int × Pm)
    (hC : ∀ w0 v b os ts', (∀ y ∈ ts, y ∈ ts') → PO w0 v b p os ts' → p.Right → Calls Try.prog 46 #[.pointer (some ⟨b, 0, none⟩), .pointer (some ⟨x0, 0, none⟩)] v (ClR (f p) w0 b os ts')) (hz : (f p).1 ≠ 0 → (f p).2 = zp) :
    Calls Try.prog 38 #[ci by_, .agg cs.toArray, .bool can, .func (.func 46) #[] #[.pointer (some ⟨x0, 0, none⟩)]] w (ResR (byOwner p by_ can (f p)) w) := by
  rw [← owned_eq]
  have hz2 : (owned by_ can f p).1 ≠ 0 → (owned by_ can f p).2 = zp := by
    unfold owned
    split
    · split
      · exact hz
      · exact fun _ => rfl
    · exact fun _ => rfl
  obtain ⟨V, hV⟩ : ∃ V : Value, V = .func (.func 46) #[] #[.pointer (some ⟨x0, 0, none⟩)] := ⟨_, rfl⟩
  have hV1 : V.cells = [V].toArray := by rw [hV]; rfl
  rw [← hV]
  have HV := Lib.hid hV
  have HC := Lib.hid hC
  have HZ := Lib.hid hz2
  have HP := Lib.hid h
  have h5 := PIs.len (F0.k _ (.inr h)).2.1
  have h1 := PIs.one (F0.k _ (.inr h)).2.1
  have CH : Hid (∀ (v : World) (b4 b5 b6 b7 b8 : Nat), Fm w v [oB b8 24 zpm, oB b7 67 [V], oB b6 4 [.bool can], oB b5 24 cs, oB b4 3 [ci by_]] ts → Calls Try.prog 48 #[.agg cs.toArray, .func (.func 51) #[] #[.pointer (some ⟨b4, 0, none⟩), .pointer (some ⟨b6, 0, none⟩), .pointer (some ⟨b7, 0, none⟩)]] v (ResR (if p.rightB = true then owned by_ can f p else (210, zp)) v)) := Lib.hid fun v b4 b5 b6 b7 b8 F => by
    have F2 := F.anew
    have hin : ∀ y ∈ ts, y ∈ [oB b8 24 zpm, oB b7 67 [V], oB b6 4 [.bool can], oB b5 24 cs, oB b4 3 [ci by_]] ++ ts := fun y hy => List.mem_append_right _ hy
    refine changed51_c (F2.k _ (.inr (hin _ HP.out))).2.1 F2 _ _ _ (owned by_ can f) (fun v2 b os hPO hr => ?_) hz2
    exact by46_c by_ can f hPO (List.mem_append_left _ (by simp)) (List.mem_append_left _ (by simp)) (by rw [← HV.out]; exact List.mem_append_left _ (by simp)) (fun v3 h3 => HC.out v v3 b os _ hin h3 hr)
  obtain ⟨r, hr⟩ : ∃ r, (if p.rightB = true then owned by_ can f p else (210, zp)) = r := ⟨_, rfl⟩
  rw [hr] at CH ⊢
  clear hC hz hz2 h hV hr HC HZ
  go_enter Try.func38, Try.ntmps38
  go_wp2_with (first
    | (with_reducible refine fm_box1 F0 (o := ⟨some 4, .box 3 (.tmp 0), _, _, _, _⟩) rfl 3 (.tmp 0) rfl (ci by_) rfl rfl ?_; intro b4 w1 F1; clear F0)
    | (with_reducible refine fm_box F1 (o := ⟨some 5, .box 24 (.tmp 1), _, _, _, _⟩) rfl 24 (.tmp 1) rfl cs rfl ?_; intro b5 w2 F2; clear F1)
    | (with_reducible refine fm_box1 F2 (o := ⟨some 6, .box 4 (.tmp 2), _, _, _, _⟩) rfl 4 (.tmp 2) rfl (.bool can) rfl rfl ?_; intro b6 w3 F3; clear F2)
    | (with_reducible refine fm_box1 F3 (o := ⟨some 7, .box 67 (.tmp 3), _, _, _, _⟩) rfl 67 (.tmp 3) rfl V hV1 rfl ?_; intro b7 w4 F4; clear F3)
    | (with_reducible refine fm_alloc F4 (o := ⟨some 8, .alloc 24, _, _, _, _⟩) rfl 24 rfl _ zero24 ?_; intro b8 w5 F5; clear F4)
    | (with_reducible refine fm_load F5 3 rfl (o := ⟨some 10, .load 24 (.tmp 5), _, _, _, _⟩) rfl (.tmp 5) rfl rfl h5 ?_)
    | (go_at_call 48; refine (CH.out w5 b4 b5 b6 b7 b8 F5).mono ?_
       rintro e w6 ⟨cs6, rfl, hP6, m6⟩
       have F6 := F5.tell hP6 m6
       have h65 := hP6.len
       have h61 := hP6.one
       have hlo := F5.m.size
       clear F5 m6 hP6 CH)
    | (with_reducible refine fm_store F6 0 rfl (o := ⟨none, .store 24 (.tmp 8) (.tmp 13), _, _, _, _⟩) rfl (.tmp 8) (.tmp 13) rfl rfl cs6 rfl rfl h65 rfl h61 ?_; intro w7 F7; clear F6))
  refine bodyPost_ret (results_ct rfl _ _ b8 _ (.int .i64 r.1) rfl rfl (F7.ret 0 rfl) h65) rfl ?_
  exact ⟨cs6, rfl, F7.ends fun g hg => Nat.le_trans hlo hg.1, F7.m⟩
set_option maxHeartbeats 4000000 in
theorem by47_c {w0 w : World} {b ub uc uf x0 : Nat} {p : Pm} {os ts : List Th} (by_ : Int) (can : Bool) (f : Pm → Int × Pm) (h : PO w0 w b p os ts) (hB : oB ub 3 [ci by_] ∈ ts) (hN : oB uc 4 [.bool can] ∈ ts) (hV : oB uf 67 [.func (.func 47) #[] #[.pointer (some ⟨x0, 0, none⟩)]] ∈ ts)
    (hC : ∀ v, PO w0 v b p os ts → Calls Try.prog 47 #[.pointer (some ⟨b, 0, none⟩), .pointer (some ⟨x0, 0, none⟩)] v (ClR (f p) w0 b os ts)) :
    Calls Try.prog 51 #[.pointer (some ⟨b, 0, none⟩), .pointer (some ⟨ub, 0, none⟩), .pointer (some ⟨uc, 0, none⟩), .pointer (some ⟨uf, 0, none⟩)] w (ClR (owned by_ can f p) w0 b os ts) := by
  have HC := Lib.hid hC
  have HN := Lib.hid hN
  have HV := Lib.hid hV
  have k1 : w.cell? ⟨ub, 0, none⟩ = some (ci by_) := (h.box hB).cell 0
  have k2 : w.cell? ⟨b, 0, none⟩ = some (ci p.own) := by
    obtain ⟨A1, c1, A2, c2, A3, c3, F⟩ := h
    exact F.cellO 0 rfl 0 rfl
  have HPO := Lib.hid h
  obtain ⟨r, hr⟩ : ∃ r, owned by_ can f p = r := ⟨_, rfl⟩
  rw [hr]
  have HR := Lib.hid hr
  clear hC hN hV hB h hr
  go_enter Try.func51, Try.ntmps51
  by_cases hby : by_ = p.own
  · have e1 : (by_ == p.own) = true := beq_iff_eq.2 hby
    have e2 : (by_ != p.own) = false := by simp [hby]
    have HBY := Lib.hid hby
    clear hby
    go_wp2_with fail
    go_quiet (fail)
    obtain ⟨wa, hwa⟩ : ∃ v, v = w.drewN nq := ⟨_, rfl⟩
    rw [← hwa]
    have hPO2 : PO w0 wa b p os ts := HPO.out.call (hwa ▸ Mod.drewN [] w nq)
    have k3 : wa.cell? ⟨uc, 0, none⟩ = some (.bool can) := (hPO2.box HN.out).cell 0
    have k4 : wa.cell? ⟨uf, 0, none⟩ = some (.func (.func 47) #[] #[.pointer (some ⟨x0, 0, none⟩)]) := (hPO2.box HV.out).cell 0
    clear hwa k1 k2
    cases can
    · obtain rfl : r = (2, zp) := by rw [← HR.out, owned, if_pos HBY.out]; rfl
      go_wp2_with fail
      go_ret
      exact ⟨rfl, fun h => by simp at h, hPO2.rest⟩
    · obtain rfl : r = f p := by rw [← HR.out, owned, if_pos HBY.out]; rfl
      have CC := HC.out wa hPO2
      clear HC HR
      go_wp2_with (go_at_call 47; refine CC.mono ?_; rintro e w5 ⟨rfl, q1, q2⟩; clear CC)
      go_ret
      exact ⟨rfl, q1, q2⟩
  · have e1 : (by_ == p.own) = false := beq_eq_false_iff_ne.2 hby
    have e2 : (by_ != p.own) = true := by simp [hby]
    obtain rfl : r = (211, zp) := by rw [← HR.out, owned, if_neg hby]
    clear hby
    go_wp2_with fail
    go_quiet (fail)
    go_wp2_with fail
    go_ret
    exact ⟨rfl, fun h => by simp at h, (HPO.out.call (Mod.drewN [] _ _)).rest⟩
set_option maxHeartbeats 4000000 in
theorem changedBy47_c {w : World} {S : Nat → Prop} {p : Pm} {cs : List Value} {ts : List Th} {x0 : Nat} (h : tP S p cs ∈ ts) (F0 : Fm w w [] ts) (by_ : Int) (can : Bool) (f : Pm → Int × Pm)
    (hC : ∀ w0 v b os ts', (∀ y ∈ ts, y ∈ ts') → PO w0 v b p os ts' → p.Right → Calls Try.prog 47 #[.pointer (some ⟨b, 0, none⟩), .pointer (some ⟨x0, 0, none⟩)] v (ClR (f p) w0 b os ts')) (hz : (f p).1 ≠ 0 → (f p).2 = zp) :
    Calls Try.prog 38 #[ci by_, .agg cs.toArray, .bool can, .func (.func 47) #[] #[.pointer (some ⟨x0, 0, none⟩)]] w (ResR (byOwner p by_ can (f p)) w) := by
  rw [← owned_eq]
  have hz2 : (owned by_ can f p).1 ≠ 0 → (owned by_ can f p).2 = zp := by
    unfold owned
    split
    · split
      · exact hz
      · exact fun _ => rfl
    · exact fun _ => rfl
  obtain ⟨V, hV⟩ : ∃ V : Value, V = .func (.func 47) #[] #[.pointer (some ⟨x0, 0, none⟩)] := ⟨_, rfl⟩
  have hV1 : V.cells = [V].toArray := by rw [hV]; rfl
  rw [← hV]
  have HV := Lib.hid hV
  have HC := Lib.hid hC
  have HZ := Lib.hid hz2
  have HP := Lib.hid h
  have h5 := PIs.len (F0.k _ (.inr h)).2.1
  have h1 := PIs.one (F0.k _ (.inr h)).2.1
  have CH : Hid (∀ (v : World) (b4 b5 b6 b7 b8 : Nat), Fm w v [oB b8 24 zpm, oB b7 67 [V], oB b6 4 [.bool can], oB b5 24 cs, oB b4 3 [ci by_]] ts → Calls Try.prog 48 #[.agg cs.toArray, .func (.func 51) #[] #[.pointer (some ⟨b4, 0, none⟩), .pointer (some ⟨b6, 0, none⟩), .pointer (some ⟨b7, 0, none⟩)]] v (ResR (if p.rightB = true then owned by_ can f p else (210, zp)) v)) := Lib.hid fun v b4 b5 b6 b7 b8 F => by
    have F2 := F.anew
    have hin : ∀ y ∈ ts, y ∈ [oB b8 24 zpm, oB b7 67 [V], oB b6 4 [.bool can], oB b5 24 cs, oB b4 3 [ci by_]] ++ ts := fun y hy => List.mem_append_right _ hy
    refine changed51_c (F2.k _ (.inr (hin _ HP.out))).2.1 F2 _ _ _ (owned by_ can f) (fun v2 b os hPO hr => ?_) hz2
    exact by47_c by_ can f hPO (List.mem_append_left _ (by simp)) (List.mem_append_left _ (by simp)) (by rw [← HV.out]; exact List.mem_append_left _ (by simp)) (fun v3 h3 => HC.out v v3 b os _ hin h3 hr)
  obtain ⟨r, hr⟩ : ∃ r, (if p.rightB = true then owned by_ can f p else (210, zp)) = r := ⟨_, rfl⟩
  rw [hr] at CH ⊢
  clear hC hz hz2 h hV hr HC HZ
  go_enter Try.func38, Try.ntmps38
  go_wp2_with (first
    | (with_reducible refine fm_box1 F0 (o := ⟨some 4, .box 3 (.tmp 0), _, _, _, _⟩) rfl 3 (.tmp 0) rfl (ci by_) rfl rfl ?_; intro b4 w1 F1; clear F0)
    | (with_reducible refine fm_box F1 (o := ⟨some 5, .box 24 (.tmp 1), _, _, _, _⟩) rfl 24 (.tmp 1) rfl cs rfl ?_; intro b5 w2 F2; clear F1)
    | (with_reducible refine fm_box1 F2 (o := ⟨some 6, .box 4 (.tmp 2), _, _, _, _⟩) rfl 4 (.tmp 2) rfl (.bool can) rfl rfl ?_; intro b6 w3 F3; clear F2)
    | (with_reducible refine fm_box1 F3 (o := ⟨some 7, .box 67 (.tmp 3), _, _, _, _⟩) rfl 67 (.tmp 3) rfl V hV1 rfl ?_; intro b7 w4 F4; clear F3)
    | (with_reducible refine fm_alloc F4 (o := ⟨some 8, .alloc 24, _, _, _, _⟩) rfl 24 rfl _ zero24 ?_; intro b8 w5 F5; clear F4)
    | (with_reducible refine fm_load F5 3 rfl (o := ⟨some 10, .load 24 (.tmp 5), _, _, _, _⟩) rfl (.tmp 5) rfl rfl h5 ?_)
    | (go_at_call 48; refine (CH.out w5 b4 b5 b6 b7 b8 F5).mono ?_
       rintro e w6 ⟨cs6, rfl, hP6, m6⟩
       have F6 := F5.tell hP6 m6
       have h65 := hP6.len
       have h61 := hP6.one
       have hlo := F5.m.size
       clear F5 m6 hP6 CH)
    | (with_reducible refine fm_store F6 0 rfl (o := ⟨none, .store 24 (.tmp 8) (.tmp 13), _, _, _, _⟩) rfl (.tmp 8) (.tmp 13) rfl rfl cs6 rfl rfl h65 rfl h61 ?_; intro w7 F7; clear F6))
  refine bodyPost_ret (results_ct rfl _ _ b8 _ (.int .i64 r.1) rfl rfl (F7.ret 0 rfl) h65) rfl ?_
  exact ⟨cs6, rfl, F7.ends fun g hg => Nat.le_trans hlo hg.1, F7.m⟩
end Go.Proofs.Ytaadmpainikfpaa
