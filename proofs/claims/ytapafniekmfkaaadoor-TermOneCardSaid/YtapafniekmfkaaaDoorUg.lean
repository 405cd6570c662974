/-
  TermOne: unlike terms have unlike bytes, and one order. My own work.
-/
import Derived.Test.YtapafniekmfkaaaDoorUf
namespace Go.Proofs.YtapafniekmfkaaaDoor
open Go.RowKit Go.Shelf
set_option linter.unusedVariables false
set_option linter.unusedSimpArgs false
theorem one_bytes {a b : Tm} {s : Bool} (ra : a.right = true) (rb : b.right = true) (h : Tm.same a b = s) : decide (a.bytes = b.bytes) = s := by
  simp only [Tm.right, Bool.and_eq_true, decide_eq_true_eq] at ra rb
  rw [← h, Bool.eq_iff_iff, Tm.same_iff, decide_eq_true_eq]
  exact ⟨fun e => (Tm.bytes_inj ra.1.1 rb.1.1 ra.1.2 rb.1.2 ra.2 rb.2 (r := []) (q := []) (by rw [e])).1, fun e => by rw [e]⟩
theorem one_front {a b : Tm} (ra : a.right = true) (rb : b.right = true) (h : Tm.same a b = false) : decide (a.bytes = b.bytes.take a.bytes.length) = false := by
  simp only [Tm.right, Bool.and_eq_true, decide_eq_true_eq] at ra rb
  rw [decide_eq_false_iff_not]
  intro e
  have h2 : a.bytes ++ b.bytes.drop a.bytes.length = b.bytes ++ [] := by
    rw [List.append_nil]
    conv => lhs; lhs; rw [e]
    exact List.take_append_drop _ _
  have := (Tm.bytes_inj ra.1.1 rb.1.1 ra.1.2 rb.1.2 ra.2 rb.2 h2).1
  rw [(Tm.same_iff a b).2 this] at h
  cases h
set_option maxRecDepth 1000000 in
set_option maxHeartbeats 2000000 in
theorem one_n1 (a b d : Tm) (ca cb cd : List Value) (w : World) (hA : TIs w (Btw 0 w.heap.size) a ca) (hB : TIs w (Btw 0 w.heap.size) b cb) (hD : TIs w (Btw 0 w.heap.size) d cd) (G : Glob w) (ra : a.right = false) :
    Calls Tryd.prog 7 #[.agg ca.toArray, .agg cb.toArray, .agg cd.toArray] w fun e w' => e = .returned (.bool true) ∧ Mod [] w w' := by
  have hca := hA.len
  have hcb := hB.len
  have hcd := hD.len
  have WK := fun v (mv : Mod [] w v) => wakes_c v (G.then mv)
  have OVA := fun v (mv : Mod [] w v) => over_c a ca w.heap.size v (hA.keep mv (by simp)) mv.size
  have OVB := fun v (mv : Mod [] w v) => over_c b cb w.heap.size v (hB.keep mv (by simp)) mv.size
  have OVD := fun v (mv : Mod [] w v) => over_c d cd w.heap.size v (hD.keep mv (by simp)) mv.size
  have CA := fun v (mv : Mod [] w v) => check_c a ca _ v (hA.keep mv (by simp)) (G.then mv)
  rw [show chk a = 150 by unfold chk; rw [ra]; rfl] at CA
  clear hA hB hD G
  go_enter Tryd.func7, Tryd.ntmps7
  go_wp2_with (first
    | (with_reducible refine wpList_boxes (o := ⟨some 3, .box 24 (.tmp 0), _, _, _, _⟩) rfl 24 (.tmp 0) rfl _ rfl ca rfl ?_; intro w1 hb1 mz zz
       obtain ⟨b1, hq⟩ : ∃ b, b = w.heap.size := ⟨_, rfl⟩
       rw [← hq] at hb1 ⊢
       have mm1 : Mod [] w w1 := mz
       clear hq zz mz)
    | (with_reducible refine wpList_boxes (o := ⟨some 4, .box 24 (.tmp 1), _, _, _, _⟩) rfl 24 (.tmp 1) rfl _ rfl cb rfl ?_; intro w2 hb2 mz zz
       obtain ⟨b2, hq⟩ : ∃ b, b = w1.heap.size := ⟨_, rfl⟩
       rw [← hq] at hb2 ⊢
       replace hb1 := hb1.keep mz (by simp)
       have mm2 : Mod [] w w2 := mm1.then mz
       clear hq zz mz mm1)
    | (with_reducible refine wpList_boxes (o := ⟨some 5, .box 24 (.tmp 2), _, _, _, _⟩) rfl 24 (.tmp 2) rfl _ rfl cd rfl ?_; intro w3 hb3 mz zz
       obtain ⟨b3, hq⟩ : ∃ b, b = w2.heap.size := ⟨_, rfl⟩
       rw [← hq] at hb3 ⊢
       replace hb1 := hb1.keep mz (by simp)
       replace hb2 := hb2.keep mz (by simp)
       have mm : Mod [] w w3 := mm2.then mz
       clear hq zz mz mm2)
    | (go_at_call 13; refine (WK _ mm).mono ?_
       rintro e wz ⟨rfl, mz⟩
       replace hb1 := hb1.keep mz (by simp)
       replace hb2 := hb2.keep mz (by simp)
       replace hb3 := hb3.keep mz (by simp)
       replace mm := mm.then mz
       clear mz WK)
    | (with_reducible refine wpList_loads (o := ⟨some 14, .load 24 (.tmp 3), _, _, _, _⟩) rfl 24 (.tmp 3) rfl b1 (0) (ca) rfl (Cells.of_holds hb1) _ Tryd.underlying24 rfl (size24' hca) (.agg (ca).toArray) rfl ?_))
  refine (OVA _ mm).mono ?_
  rintro e wz ⟨ov, rfl, mz⟩
  clear OVA
  replace hb1 := hb1.keep mz (by simp)
  replace hb2 := hb2.keep mz (by simp)
  replace hb3 := hb3.keep mz (by simp)
  replace mm := mm.then mz
  clear mz
  cases ov with
  | true =>
    go_wp2_with fail
    go_ret
    exact ⟨rfl, mm⟩
  | false =>
  go_wp2_with (first
    | (with_reducible refine wpList_loadsW (o := ⟨some 17, .load 24 (.tmp 4), _, _, _, _⟩) ?_ 24 (.tmp 4) rfl b2 0 (cb) rfl (Cells.of_holds hb2) _ Tryd.underlying24 rfl (size24' hcb) (.agg (cb).toArray) rfl ?_
       · exact wanted_yes rfl rfl rfl rfl))
  refine (OVB _ mm).mono ?_
  rintro e wz ⟨ov, rfl, mz⟩
  clear OVB
  replace hb1 := hb1.keep mz (by simp)
  replace hb2 := hb2.keep mz (by simp)
  replace hb3 := hb3.keep mz (by simp)
  replace mm := mm.then mz
  clear mz
  cases ov with
  | true =>
    go_wp2_with fail
    go_ret
    exact ⟨rfl, mm⟩
  | false =>
  go_wp2_with (first
    | (with_reducible refine wpList_loadsW (o := ⟨some 21, .load 24 (.tmp 5), _, _, _, _⟩) ?_ 24 (.tmp 5) rfl b3 0 (cd) rfl (Cells.of_holds hb3) _ Tryd.underlying24 rfl (size24' hcd) (.agg (cd).toArray) rfl ?_
       · exact wanted_yes rfl rfl rfl rfl))
  refine (OVD _ mm).mono ?_
  rintro e wz ⟨ov, rfl, mz⟩
  clear OVD
  replace hb1 := hb1.keep mz (by simp)
  replace hb2 := hb2.keep mz (by simp)
  replace hb3 := hb3.keep mz (by simp)
  replace mm := mm.then mz
  clear mz
  cases ov with
  | true =>
    go_wp2_with fail
    go_ret
    exact ⟨rfl, mm⟩
  | false =>
  go_wp2_with (first
    | (with_reducible refine wpList_loadsW (o := ⟨some 25, .load 24 (.tmp 3), _, _, _, _⟩) ?_ 24 (.tmp 3) rfl b1 0 (ca) rfl (Cells.of_holds hb1) _ Tryd.underlying24 rfl (size24' hca) (.agg (ca).toArray) rfl ?_
       · exact wanted_yes rfl rfl rfl rfl)
    | (go_at_call 17; with_reducible refine Calls.mono (CA _ mm) ?_
       rintro e wz ⟨rfl, mz⟩
       replace hb1 := hb1.keep mz (by simp)
       replace hb2 := hb2.keep mz (by simp)
       replace hb3 := hb3.keep mz (by simp)
       replace mm := mm.then mz
       clear mz))
  go_ret
  exact ⟨rfl, mm⟩
set_option maxRecDepth 1000000 in
set_option maxHeartbeats 2000000 in
theorem one_n2 (a b d : Tm) (ca cb cd : List Value) (w : World) (hA : TIs w (Btw 0 w.heap.size) a ca) (hB : TIs w (Btw 0 w.heap.size) b cb) (hD : TIs w (Btw 0 w.heap.size) d cd) (G : Glob w) (ra : a.right = true) (rb : b.right = false) :
    Calls Tryd.prog 7 #[.agg ca.toArray, .agg cb.toArray, .agg cd.toArray] w fun e w' => e = .returned (.bool true) ∧ Mod [] w w' := by
  have hca := hA.len
  have hcb := hB.len
  have hcd := hD.len
  have WK := fun v (mv : Mod [] w v) => wakes_c v (G.then mv)
  have OVA := fun v (mv : Mod [] w v) => over_c a ca w.heap.size v (hA.keep mv (by simp)) mv.size
  have OVB := fun v (mv : Mod [] w v) => over_c b cb w.heap.size v (hB.keep mv (by simp)) mv.size
  have OVD := fun v (mv : Mod [] w v) => over_c d cd w.heap.size v (hD.keep mv (by simp)) mv.size
  have CA := fun v (mv : Mod [] w v) => check_c a ca _ v (hA.keep mv (by simp)) (G.then mv)
  rw [show chk a = 0 by unfold chk; rw [ra]; rfl] at CA
  have CB := fun v (mv : Mod [] w v) => check_c b cb _ v (hB.keep mv (by simp)) (G.then mv)
  rw [show chk b = 150 by unfold chk; rw [rb]; rfl] at CB
  clear hA hB hD G
  go_enter Tryd.func7, Tryd.ntmps7
  go_wp2_with (first
    | (with_reducible refine wpList_boxes (o := ⟨some 3, .box 24 (.tmp 0), _, _, _, _⟩) rfl 24 (.tmp 0) rfl _ rfl ca rfl ?_; intro w1 hb1 mz zz
       obtain ⟨b1, hq⟩ : ∃ b, b = w.heap.size := ⟨_, rfl⟩
       rw [← hq] at hb1 ⊢
       have mm1 : Mod [] w w1 := mz
       clear hq zz mz)
    | (with_reducible refine wpList_boxes (o := ⟨some 4, .box 24 (.tmp 1), _, _, _, _⟩) rfl 24 (.tmp 1) rfl _ rfl cb rfl ?_; intro w2 hb2 mz zz
       obtain ⟨b2, hq⟩ : ∃ b, b = w1.heap.size := ⟨_, rfl⟩
       rw [← hq] at hb2 ⊢
       replace hb1 := hb1.keep mz (by simp)
       have mm2 : Mod [] w w2 := mm1.then mz
       clear hq zz mz mm1)
    | (with_reducible refine wpList_boxes (o := ⟨some 5, .box 24 (.tmp 2), _, _, _, _⟩) rfl 24 (.tmp 2) rfl _ rfl cd rfl ?_; intro w3 hb3 mz zz
       obtain ⟨b3, hq⟩ : ∃ b, b = w2.heap.size := ⟨_, rfl⟩
       rw [← hq] at hb3 ⊢
       replace hb1 := hb1.keep mz (by simp)
       replace hb2 := hb2.keep mz (by simp)
       have mm : Mod [] w w3 := mm2.then mz
       clear hq zz mz mm2)
    | (go_at_call 13; refine (WK _ mm).mono ?_
       rintro e wz ⟨rfl, mz⟩
       replace hb1 := hb1.keep mz (by simp)
       replace hb2 := hb2.keep mz (by simp)
       replace hb3 := hb3.keep mz (by simp)
       replace mm := mm.then mz
       clear mz WK)
    | (with_reducible refine wpList_loads (o := ⟨some 14, .load 24 (.tmp 3), _, _, _, _⟩) rfl 24 (.tmp 3) rfl b1 (0) (ca) rfl (Cells.of_holds hb1) _ Tryd.underlying24 rfl (size24' hca) (.agg (ca).toArray) rfl ?_))
  refine (OVA _ mm).mono ?_
  rintro e wz ⟨ov, rfl, mz⟩
  clear OVA
  replace hb1 := hb1.keep mz (by simp)
  replace hb2 := hb2.keep mz (by simp)
  replace hb3 := hb3.keep mz (by simp)
  replace mm := mm.then mz
  clear mz
  cases ov with
  | true =>
    go_wp2_with fail
    go_ret
    exact ⟨rfl, mm⟩
  | false =>
  go_wp2_with (first
    | (with_reducible refine wpList_loadsW (o := ⟨some 17, .load 24 (.tmp 4), _, _, _, _⟩) ?_ 24 (.tmp 4) rfl b2 0 (cb) rfl (Cells.of_holds hb2) _ Tryd.underlying24 rfl (size24' hcb) (.agg (cb).toArray) rfl ?_
       · exact wanted_yes rfl rfl rfl rfl))
  refine (OVB _ mm).mono ?_
  rintro e wz ⟨ov, rfl, mz⟩
  clear OVB
  replace hb1 := hb1.keep mz (by simp)
  replace hb2 := hb2.keep mz (by simp)
  replace hb3 := hb3.keep mz (by simp)
  replace mm := mm.then mz
  clear mz
  cases ov with
  | true =>
    go_wp2_with fail
    go_ret
    exact ⟨rfl, mm⟩
  | false =>
  go_wp2_with (first
    | (with_reducible refine wpList_loadsW (o := ⟨some 21, .load 24 (.tmp 5), _, _, _, _⟩) ?_ 24 (.tmp 5) rfl b3 0 (cd) rfl (Cells.of_holds hb3) _ Tryd.underlying24 rfl (size24' hcd) (.agg (cd).toArray) rfl ?_
       · exact wanted_yes rfl rfl rfl rfl))
  refine (OVD _ mm).mono ?_
  rintro e wz ⟨ov, rfl, mz⟩
  clear OVD
  replace hb1 := hb1.keep mz (by simp)
  replace hb2 := hb2.keep mz (by simp)
  replace hb3 := hb3.keep mz (by simp)
  replace mm := mm.then mz
  clear mz
  cases ov with
  | true =>
    go_wp2_with fail
    go_ret
    exact ⟨rfl, mm⟩
  | false =>
  go_wp2_with (first
    | (with_reducible refine wpList_loadsW (o := ⟨some 25, .load 24 (.tmp 3), _, _, _, _⟩) ?_ 24 (.tmp 3) rfl b1 0 (ca) rfl (Cells.of_holds hb1) _ Tryd.underlying24 rfl (size24' hca) (.agg (ca).toArray) rfl ?_
       · exact wanted_yes rfl rfl rfl rfl)
    | (go_at_call 17; with_reducible refine Calls.mono (CA _ mm) ?_
       rintro e wz ⟨rfl, mz⟩
       replace hb1 := hb1.keep mz (by simp)
       replace hb2 := hb2.keep mz (by simp)
       replace hb3 := hb3.keep mz (by simp)
       replace mm := mm.then mz
       clear mz)
    | (with_reducible refine wpList_loadsW (o := ⟨some 30, .load 24 (.tmp 4), _, _, _, _⟩) ?_ 24 (.tmp 4) rfl b2 0 (cb) rfl (Cells.of_holds hb2) _ Tryd.underlying24 rfl (size24' hcb) (.agg (cb).toArray) rfl ?_
       · exact wanted_yes rfl rfl rfl rfl)
    | (go_at_call 17; with_reducible refine Calls.mono (CB _ mm) ?_
       rintro e wz ⟨rfl, mz⟩
       replace hb1 := hb1.keep mz (by simp)
       replace hb2 := hb2.keep mz (by simp)
       replace hb3 := hb3.keep mz (by simp)
       replace mm := mm.then mz
       clear mz))
  go_ret
  exact ⟨rfl, mm⟩
set_option maxRecDepth 1000000 in
set_option maxHeartbeats 2000000 in
theorem one_n3 (a b d : Tm) (ca cb cd : List Value) (w : World) (hA : TIs w (Btw 0 w.heap.size) a ca) (hB : TIs w (Btw 0 w.heap.size) b cb) (hD : TIs w (Btw 0 w.heap.size) d cd) (G : Glob w) (ra : a.right = true) (rb : b.right = true) (rd : d.right = false) :
    Calls Tryd.prog 7 #[.agg ca.toArray, .agg cb.toArray, .agg cd.toArray] w fun e w' => e = .returned (.bool true) ∧ Mod [] w w' := by
  have hca := hA.len
  have hcb := hB.len
  have hcd := hD.len
  have WK := fun v (mv : Mod [] w v) => wakes_c v (G.then mv)
  have OVA := fun v (mv : Mod [] w v) => over_c a ca w.heap.size v (hA.keep mv (by simp)) mv.size
  have OVB := fun v (mv : Mod [] w v) => over_c b cb w.heap.size v (hB.keep mv (by simp)) mv.size
  have OVD := fun v (mv : Mod [] w v) => over_c d cd w.heap.size v (hD.keep mv (by simp)) mv.size
  have CA := fun v (mv : Mod [] w v) => check_c a ca _ v (hA.keep mv (by simp)) (G.then mv)
  rw [show chk a = 0 by unfold chk; rw [ra]; rfl] at CA
  have CB := fun v (mv : Mod [] w v) => check_c b cb _ v (hB.keep mv (by simp)) (G.then mv)
  rw [show chk b = 0 by unfold chk; rw [rb]; rfl] at CB
  have CD := fun v (mv : Mod [] w v) => check_c d cd _ v (hD.keep mv (by simp)) (G.then mv)
  rw [show chk d = 150 by unfold chk; rw [rd]; rfl] at CD
  clear hA hB hD G
  go_enter Tryd.func7, Tryd.ntmps7
  go_wp2_with (first
    | (with_reducible refine wpList_boxes (o := ⟨some 3, .box 24 (.tmp 0), _, _, _, _⟩) rfl 24 (.tmp 0) rfl _ rfl ca rfl ?_; intro w1 hb1 mz zz
       obtain ⟨b1, hq⟩ : ∃ b, b = w.heap.size := ⟨_, rfl⟩
       rw [← hq] at hb1 ⊢
       have mm1 : Mod [] w w1 := mz
       clear hq zz mz)
    | (with_reducible refine wpList_boxes (o := ⟨some 4, .box 24 (.tmp 1), _, _, _, _⟩) rfl 24 (.tmp 1) rfl _ rfl cb rfl ?_; intro w2 hb2 mz zz
       obtain ⟨b2, hq⟩ : ∃ b, b = w1.heap.size := ⟨_, rfl⟩
       rw [← hq] at hb2 ⊢
       replace hb1 := hb1.keep mz (by simp)
       have mm2 : Mod [] w w2 := mm1.then mz
       clear hq zz mz mm1)
    | (with_reducible refine wpList_boxes (o := ⟨some 5, .box 24 (.tmp 2), _, _, _, _⟩) rfl 24 (.tmp 2) rfl _ rfl cd rfl ?_; intro w3 hb3 mz zz
       obtain ⟨b3, hq⟩ : ∃ b, b = w2.heap.size := ⟨_, rfl⟩
       rw [← hq] at hb3 ⊢
       replace hb1 := hb1.keep mz (by simp)
       replace hb2 := hb2.keep mz (by simp)
       have mm : Mod [] w w3 := mm2.then mz
       clear hq zz mz mm2)
    | (go_at_call 13; refine (WK _ mm).mono ?_
       rintro e wz ⟨rfl, mz⟩
       replace hb1 := hb1.keep mz (by simp)
       replace hb2 := hb2.keep mz (by simp)
       replace hb3 := hb3.keep mz (by simp)
       replace mm := mm.then mz
       clear mz WK)
    | (with_reducible refine wpList_loads (o := ⟨some 14, .load 24 (.tmp 3), _, _, _, _⟩) rfl 24 (.tmp 3) rfl b1 (0) (ca) rfl (Cells.of_holds hb1) _ Tryd.underlying24 rfl (size24' hca) (.agg (ca).toArray) rfl ?_))
  refine (OVA _ mm).mono ?_
  rintro e wz ⟨ov, rfl, mz⟩
  clear OVA
  replace hb1 := hb1.keep mz (by simp)
  replace hb2 := hb2.keep mz (by simp)
  replace hb3 := hb3.keep mz (by simp)
  replace mm := mm.then mz
  clear mz
  cases ov with
  | true =>
    go_wp2_with fail
    go_ret
    exact ⟨rfl, mm⟩
  | false =>
  go_wp2_with (first
    | (with_reducible refine wpList_loadsW (o := ⟨some 17, .load 24 (.tmp 4), _, _, _, _⟩) ?_ 24 (.tmp 4) rfl b2 0 (cb) rfl (Cells.of_holds hb2) _ Tryd.underlying24 rfl (size24' hcb) (.agg (cb).toArray) rfl ?_
       · exact wanted_yes rfl rfl rfl rfl))
  refine (OVB _ mm).mono ?_
  rintro e wz ⟨ov, rfl, mz⟩
  clear OVB
  replace hb1 := hb1.keep mz (by simp)
  replace hb2 := hb2.keep mz (by simp)
  replace hb3 := hb3.keep mz (by simp)
  replace mm := mm.then mz
  clear mz
  cases ov with
  | true =>
    go_wp2_with fail
    go_ret
    exact ⟨rfl, mm⟩
  | false =>
  go_wp2_with (first
    | (with_reducible refine wpList_loadsW (o := ⟨some 21, .load 24 (.tmp 5), _, _, _, _⟩) ?_ 24 (.tmp 5) rfl b3 0 (cd) rfl (Cells.of_holds hb3) _ Tryd.underlying24 rfl (size24' hcd) (.agg (cd).toArray) rfl ?_
       · exact wanted_yes rfl rfl rfl rfl))
  refine (OVD _ mm).mono ?_
  rintro e wz ⟨ov, rfl, mz⟩
  clear OVD
  replace hb1 := hb1.keep mz (by simp)
  replace hb2 := hb2.keep mz (by simp)
  replace hb3 := hb3.keep mz (by simp)
  replace mm := mm.then mz
  clear mz
  cases ov with
  | true =>
    go_wp2_with fail
    go_ret
    exact ⟨rfl, mm⟩
  | false =>
  go_wp2_with (first
    | (with_reducible refine wpList_loadsW (o := ⟨some 25, .load 24 (.tmp 3), _, _, _, _⟩) ?_ 24 (.tmp 3) rfl b1 0 (ca) rfl (Cells.of_holds hb1) _ Tryd.underlying24 rfl (size24' hca) (.agg (ca).toArray) rfl ?_
       · exact wanted_yes rfl rfl rfl rfl)
    | (go_at_call 17; with_reducible refine Calls.mono (CA _ mm) ?_
       rintro e wz ⟨rfl, mz⟩
       replace hb1 := hb1.keep mz (by simp)
       replace hb2 := hb2.keep mz (by simp)
       replace hb3 := hb3.keep mz (by simp)
       replace mm := mm.then mz
       clear mz)
    | (with_reducible refine wpList_loadsW (o := ⟨some 30, .load 24 (.tmp 4), _, _, _, _⟩) ?_ 24 (.tmp 4) rfl b2 0 (cb) rfl (Cells.of_holds hb2) _ Tryd.underlying24 rfl (size24' hcb) (.agg (cb).toArray) rfl ?_
       · exact wanted_yes rfl rfl rfl rfl)
    | (go_at_call 17; with_reducible refine Calls.mono (CB _ mm) ?_
       rintro e wz ⟨rfl, mz⟩
       replace hb1 := hb1.keep mz (by simp)
       replace hb2 := hb2.keep mz (by simp)
       replace hb3 := hb3.keep mz (by simp)
       replace mm := mm.then mz
       clear mz)
    | (with_reducible refine wpList_loadsW (o := ⟨some 35, .load 24 (.tmp 5), _, _, _, _⟩) ?_ 24 (.tmp 5) rfl b3 0 (cd) rfl (Cells.of_holds hb3) _ Tryd.underlying24 rfl (size24' hcd) (.agg (cd).toArray) rfl ?_
       · exact wanted_yes rfl rfl rfl rfl)
    | (go_at_call 17; with_reducible refine Calls.mono (CD _ mm) ?_
       rintro e wz ⟨rfl, mz⟩
       replace hb1 := hb1.keep mz (by simp)
       replace hb2 := hb2.keep mz (by simp)
       replace hb3 := hb3.keep mz (by simp)
       replace mm := mm.then mz
       clear mz))
  go_ret
  exact ⟨rfl, mm⟩
set_option maxRecDepth 1000000 in
set_option maxHeartbeats 2000000 in
theorem one_s (a b d : Tm) (ca cb cd : List Value) (w : World) (hA : TIs w (Btw 0 w.heap.size) a ca) (hB : TIs w (Btw 0 w.heap.size) b cb) (hD : TIs w (Btw 0 w.heap.size) d cd) (G : Glob w) (ra : a.right = true) (rb : b.right = true) (rd : d.right = true) (hsm : Tm.same a b = true) (hab : Tm.lessB a.bytes b.bytes = false) (hba : Tm.lessB b.bytes a.bytes = false) :
    Calls Tryd.prog 7 #[.agg ca.toArray, .agg cb.toArray, .agg cd.toArray] w fun e w' => e = .returned (.bool true) ∧ Mod [] w w' := by
  have hca := hA.len
  have hcb := hB.len
  have hcd := hD.len
  have WK := fun v (mv : Mod [] w v) => wakes_c v (G.then mv)
  have OVA := fun v (mv : Mod [] w v) => over_c a ca w.heap.size v (hA.keep mv (by simp)) mv.size
  have OVB := fun v (mv : Mod [] w v) => over_c b cb w.heap.size v (hB.keep mv (by simp)) mv.size
  have OVD := fun v (mv : Mod [] w v) => over_c d cd w.heap.size v (hD.keep mv (by simp)) mv.size
  have CA := fun v (mv : Mod [] w v) => check_c a ca _ v (hA.keep mv (by simp)) (G.then mv)
  rw [show chk a = 0 by unfold chk; rw [ra]; rfl] at CA
  have CB := fun v (mv : Mod [] w v) => check_c b cb _ v (hB.keep mv (by simp)) (G.then mv)
  rw [show chk b = 0 by unfold chk; rw [rb]; rfl] at CB
  have CD := fun v (mv : Mod [] w v) => check_c d cd _ v (hD.keep mv (by simp)) (G.then mv)
  rw [show chk d = 0 by unfold chk; rw [rd]; rfl] at CD
  have EA := fun v (mv : Mod [] w v) => encode_yes a ca _ v (hA.keep mv (by simp)) (fun g hg => Nat.lt_of_lt_of_le hg.2 mv.size) (G.then mv) ra
  have EB := fun v (mv : Mod [] w v) => encode_yes b cb _ v (hB.keep mv (by simp)) (fun g hg => Nat.lt_of_lt_of_le hg.2 mv.size) (G.then mv) rb
  have LAB := fun v (mv : Mod [] w v) => less_yes a b ca cb _ _ v (hA.keep mv (by simp)) (hB.keep mv (by simp)) (fun g hg => Nat.lt_of_lt_of_le hg.2 mv.size) (fun g hg => Nat.lt_of_lt_of_le hg.2 mv.size) (G.then mv) ra rb
  have LBA := fun v (mv : Mod [] w v) => less_yes b a cb ca _ _ v (hB.keep mv (by simp)) (hA.keep mv (by simp)) (fun g hg => Nat.lt_of_lt_of_le hg.2 mv.size) (fun g hg => Nat.lt_of_lt_of_le hg.2 mv.size) (G.then mv) rb ra
  have SM := fun v (mv : Mod [] w v) => psame_all _ a b ca cb _ _ v (Nat.le_refl _) (hA.keep mv (by simp)) (hB.keep mv (by simp))
  rw [hab] at LAB
  rw [hba] at LBA
  rw [hsm] at SM
  have hbb : decide (a.bytes = b.bytes) = true := one_bytes ra rb hsm
  have EQ := fun v A1 A2 c1 c2 (r1 : Reads v A1 a.bytes) (r2 : Reads v A2 b.bytes) => equal_c A1 A2 a.bytes b.bytes c1 c2 v r1 r2
  rw [hbb] at EQ
  clear hsm hab hba hbb ra rb rd
  clear hA hB hD G
  go_enter Tryd.func7, Tryd.ntmps7
  go_wp2_with (first
    | (with_reducible refine wpList_boxes (o := ⟨some 3, .box 24 (.tmp 0), _, _, _, _⟩) rfl 24 (.tmp 0) rfl _ rfl ca rfl ?_; intro w1 hb1 mz zz
       obtain ⟨b1, hq⟩ : ∃ b, b = w.heap.size := ⟨_, rfl⟩
       rw [← hq] at hb1 ⊢
       have mm1 : Mod [] w w1 := mz
       clear hq zz mz)
    | (with_reducible refine wpList_boxes (o := ⟨some 4, .box 24 (.tmp 1), _, _, _, _⟩) rfl 24 (.tmp 1) rfl _ rfl cb rfl ?_; intro w2 hb2 mz zz
       obtain ⟨b2, hq⟩ : ∃ b, b = w1.heap.size := ⟨_, rfl⟩
       rw [← hq] at hb2 ⊢
       replace hb1 := hb1.keep mz (by simp)
       have mm2 : Mod [] w w2 := mm1.then mz
       clear hq zz mz mm1)
    | (with_reducible refine wpList_boxes (o := ⟨some 5, .box 24 (.tmp 2), _, _, _, _⟩) rfl 24 (.tmp 2) rfl _ rfl cd rfl ?_; intro w3 hb3 mz zz
       obtain ⟨b3, hq⟩ : ∃ b, b = w2.heap.size := ⟨_, rfl⟩
       rw [← hq] at hb3 ⊢
       replace hb1 := hb1.keep mz (by simp)
       replace hb2 := hb2.keep mz (by simp)
       have mm : Mod [] w w3 := mm2.then mz
       clear hq zz mz mm2)
    | (go_at_call 13; refine (WK _ mm).mono ?_
       rintro e wz ⟨rfl, mz⟩
       replace hb1 := hb1.keep mz (by simp)
       replace hb2 := hb2.keep mz (by simp)
       replace hb3 := hb3.keep mz (by simp)
       replace mm := mm.then mz
       clear mz WK)
    | (with_reducible refine wpList_loads (o := ⟨some 14, .load 24 (.tmp 3), _, _, _, _⟩) rfl 24 (.tmp 3) rfl b1 (0) (ca) rfl (Cells.of_holds hb1) _ Tryd.underlying24 rfl (size24' hca) (.agg (ca).toArray) rfl ?_))
  refine (OVA _ mm).mono ?_
  rintro e wz ⟨ov, rfl, mz⟩
  clear OVA
  replace hb1 := hb1.keep mz (by simp)
  replace hb2 := hb2.keep mz (by simp)
  replace hb3 := hb3.keep mz (by simp)
  replace mm := mm.then mz
  clear mz
  cases ov with
  | true =>
    go_wp2_with fail
    go_ret
    exact ⟨rfl, mm⟩
  | false =>
  go_wp2_with (first
    | (with_reducible refine wpList_loadsW (o := ⟨some 17, .load 24 (.tmp 4), _, _, _, _⟩) ?_ 24 (.tmp 4) rfl b2 0 (cb) rfl (Cells.of_holds hb2) _ Tryd.underlying24 rfl (size24' hcb) (.agg (cb).toArray) rfl ?_
       · exact wanted_yes rfl rfl rfl rfl))
  refine (OVB _ mm).mono ?_
  rintro e wz ⟨ov, rfl, mz⟩
  clear OVB
  replace hb1 := hb1.keep mz (by simp)
  replace hb2 := hb2.keep mz (by simp)
  replace hb3 := hb3.keep mz (by simp)
  replace mm := mm.then mz
  clear mz
  cases ov with
  | true =>
    go_wp2_with fail
    go_ret
    exact ⟨rfl, mm⟩
  | false =>
  go_wp2_with (first
    | (with_reducible refine wpList_loadsW (o := ⟨some 21, .load 24 (.tmp 5), _, _, _, _⟩) ?_ 24 (.tmp 5) rfl b3 0 (cd) rfl (Cells.of_holds hb3) _ Tryd.underlying24 rfl (size24' hcd) (.agg (cd).toArray) rfl ?_
       · exact wanted_yes rfl rfl rfl rfl))
  refine (OVD _ mm).mono ?_
  rintro e wz ⟨ov, rfl, mz⟩
  clear OVD
  replace hb1 := hb1.keep mz (by simp)
  replace hb2 := hb2.keep mz (by simp)
  replace hb3 := hb3.keep mz (by simp)
  replace mm := mm.then mz
  clear mz
  cases ov with
  | true =>
    go_wp2_with fail
    go_ret
    exact ⟨rfl, mm⟩
  | false =>
  go_wp2_with (first
    | (with_reducible refine wpList_loadsW (o := ⟨some 25, .load 24 (.tmp 3), _, _, _, _⟩) ?_ 24 (.tmp 3) rfl b1 0 (ca) rfl (Cells.of_holds hb1) _ Tryd.underlying24 rfl (size24' hca) (.agg (ca).toArray) rfl ?_
       · exact wanted_yes rfl rfl rfl rfl)
    | (go_at_call 17; with_reducible refine Calls.mono (CA _ mm) ?_
       rintro e wz ⟨rfl, mz⟩
       replace hb1 := hb1.keep mz (by simp)
       replace hb2 := hb2.keep mz (by simp)
       replace hb3 := hb3.keep mz (by simp)
       replace mm := mm.then mz
       clear mz)
    | (with_reducible refine wpList_loadsW (o := ⟨some 30, .load 24 (.tmp 4), _, _, _, _⟩) ?_ 24 (.tmp 4) rfl b2 0 (cb) rfl (Cells.of_holds hb2) _ Tryd.underlying24 rfl (size24' hcb) (.agg (cb).toArray) rfl ?_
       · exact wanted_yes rfl rfl rfl rfl)
    | (go_at_call 17; with_reducible refine Calls.mono (CB _ mm) ?_
       rintro e wz ⟨rfl, mz⟩
       replace hb1 := hb1.keep mz (by simp)
       replace hb2 := hb2.keep mz (by simp)
       replace hb3 := hb3.keep mz (by simp)
       replace mm := mm.then mz
       clear mz)
    | (with_reducible refine wpList_loadsW (o := ⟨some 35, .load 24 (.tmp 5), _, _, _, _⟩) ?_ 24 (.tmp 5) rfl b3 0 (cd) rfl (Cells.of_holds hb3) _ Tryd.underlying24 rfl (size24' hcd) (.agg (cd).toArray) rfl ?_
       · exact wanted_yes rfl rfl rfl rfl)
    | (go_at_call 17; with_reducible refine Calls.mono (CD _ mm) ?_
       rintro e wz ⟨rfl, mz⟩
       replace hb1 := hb1.keep mz (by simp)
       replace hb2 := hb2.keep mz (by simp)
       replace hb3 := hb3.keep mz (by simp)
       replace mm := mm.then mz
       clear mz)
    | (with_reducible refine wpList_loads (o := ⟨some 40, .load 24 (.tmp 3), _, _, _, _⟩) rfl 24 (.tmp 3) rfl b1 (0) (ca) rfl (Cells.of_holds hb1) _ Tryd.underlying24 rfl (size24' hca) (.agg (ca).toArray) rfl ?_)
    | (go_at_call 15; with_reducible refine Calls.mono (EA _ mm) ?_
       rintro e wz ⟨A1, c1, rfl, o1, mz, f1⟩
       have r1 := o1.reads
       replace hb1 := hb1.keep mz (by simp)
       replace hb2 := hb2.keep mz (by simp)
       replace hb3 := hb3.keep mz (by simp)
       replace mm := mm.then mz
       clear mz EA o1 f1)
    | (with_reducible refine wpList_loads (o := ⟨some 45, .load 24 (.tmp 4), _, _, _, _⟩) rfl 24 (.tmp 4) rfl b2 (0) (cb) rfl (Cells.of_holds hb2) _ Tryd.underlying24 rfl (size24' hcb) (.agg (cb).toArray) rfl ?_)
    | (go_at_call 15; with_reducible refine Calls.mono (EB _ mm) ?_
       rintro e wz ⟨A2, c2, rfl, o2, mz, f2⟩
       replace r1 := r1.keep mz (fun _ _ => by simp)
       have r2 := o2.reads
       have k2 := o2.fits.1
       obtain ⟨g2, q2, rfl, x2⟩ := r2 0 (Tm.bytes_pos b)
       replace hb1 := hb1.keep mz (by simp)
       replace hb2 := hb2.keep mz (by simp)
       replace hb3 := hb3.keep mz (by simp)
       replace mm := mm.then mz
       clear mz EB o2 f2 x2)
    | (with_reducible refine wpList_loads (o := ⟨some 49, .load 24 (.tmp 3), _, _, _, _⟩) rfl 24 (.tmp 3) rfl b1 (0) (ca) rfl (Cells.of_holds hb1) _ Tryd.underlying24 rfl (size24' hca) (.agg (ca).toArray) rfl ?_)
    | (with_reducible refine wpList_loads (o := ⟨some 50, .load 24 (.tmp 4), _, _, _, _⟩) rfl 24 (.tmp 4) rfl b2 (0) (cb) rfl (Cells.of_holds hb2) _ Tryd.underlying24 rfl (size24' hcb) (.agg (cb).toArray) rfl ?_)
    | (go_at_call 21; with_reducible refine Calls.mono (SM _ mm) ?_
       rintro e wz ⟨rfl, mz⟩
       replace hb1 := hb1.keep mz (by simp)
       replace hb2 := hb2.keep mz (by simp)
       replace hb3 := hb3.keep mz (by simp)
       replace mm := mm.then mz
       replace r1 := r1.keep mz (fun _ _ => by simp)
       replace r2 := r2.keep mz (fun _ _ => by simp)
       clear mz)
    | (go_at_call 43; with_reducible refine Calls.mono (EQ _ A1 (some ⟨g2, q2, none⟩) c1 c2 r1 r2) ?_
       rintro e wz ⟨rfl, rfl⟩
       clear EQ)
    | (with_reducible refine wpList_loadsW (o := ⟨some 58, .load 24 (.tmp 3), _, _, _, _⟩) ?_ 24 (.tmp 3) rfl b1 0 (ca) rfl (Cells.of_holds hb1) _ Tryd.underlying24 rfl (size24' hca) (.agg (ca).toArray) rfl ?_
       · exact wanted_yes rfl rfl rfl rfl)
    | (with_reducible refine wpList_loadsW (o := ⟨some 59, .load 24 (.tmp 4), _, _, _, _⟩) ?_ 24 (.tmp 4) rfl b2 0 (cb) rfl (Cells.of_holds hb2) _ Tryd.underlying24 rfl (size24' hcb) (.agg (cb).toArray) rfl ?_
       · exact wanted_yes rfl rfl rfl rfl)
    | (with_reducible refine wpList_loadsW (o := ⟨some 62, .load 24 (.tmp 4), _, _, _, _⟩) ?_ 24 (.tmp 4) rfl b2 0 (cb) rfl (Cells.of_holds hb2) _ Tryd.underlying24 rfl (size24' hcb) (.agg (cb).toArray) rfl ?_
       · exact wanted_yes rfl rfl rfl rfl)
    | (with_reducible refine wpList_loadsW (o := ⟨some 63, .load 24 (.tmp 3), _, _, _, _⟩) ?_ 24 (.tmp 3) rfl b1 0 (ca) rfl (Cells.of_holds hb1) _ Tryd.underlying24 rfl (size24' hca) (.agg (ca).toArray) rfl ?_
       · exact wanted_yes rfl rfl rfl rfl)
    | (with_reducible refine wpList_loadsW (o := ⟨some 70, .load 24 (.tmp 3), _, _, _, _⟩) ?_ 24 (.tmp 3) rfl b1 0 (ca) rfl (Cells.of_holds hb1) _ Tryd.underlying24 rfl (size24' hca) (.agg (ca).toArray) rfl ?_
       · exact wanted_yes rfl rfl rfl rfl)
    | (with_reducible refine wpList_loadsW (o := ⟨some 71, .load 24 (.tmp 4), _, _, _, _⟩) ?_ 24 (.tmp 4) rfl b2 0 (cb) rfl (Cells.of_holds hb2) _ Tryd.underlying24 rfl (size24' hcb) (.agg (cb).toArray) rfl ?_
       · exact wanted_yes rfl rfl rfl rfl)
    | (with_reducible refine wpList_loadsW (o := ⟨some 74, .load 24 (.tmp 4), _, _, _, _⟩) ?_ 24 (.tmp 4) rfl b2 0 (cb) rfl (Cells.of_holds hb2) _ Tryd.underlying24 rfl (size24' hcb) (.agg (cb).toArray) rfl ?_
       · exact wanted_yes rfl rfl rfl rfl)
    | (with_reducible refine wpList_loadsW (o := ⟨some 75, .load 24 (.tmp 3), _, _, _, _⟩) ?_ 24 (.tmp 3) rfl b1 0 (ca) rfl (Cells.of_holds hb1) _ Tryd.underlying24 rfl (size24' hca) (.agg (ca).toArray) rfl ?_
       · exact wanted_yes rfl rfl rfl rfl)
    | (go_at_call 25; with_reducible refine Calls.mono (LAB _ mm) ?_
       rintro e wz ⟨rfl, mz⟩
       replace hb1 := hb1.keep mz (by simp)
       replace hb2 := hb2.keep mz (by simp)
       replace hb3 := hb3.keep mz (by simp)
       replace mm := mm.then mz
       replace r1 := r1.keep mz (fun _ _ => by simp)
       replace r2 := r2.keep mz (fun _ _ => by simp)
       clear mz)
    | (go_at_call 25; with_reducible refine Calls.mono (LBA _ mm) ?_
       rintro e wz ⟨rfl, mz⟩
       replace hb1 := hb1.keep mz (by simp)
       replace hb2 := hb2.keep mz (by simp)
       replace hb3 := hb3.keep mz (by simp)
       replace mm := mm.then mz
       replace r1 := r1.keep mz (fun _ _ => by simp)
       replace r2 := r2.keep mz (fun _ _ => by simp)
       clear mz)
    | (with_reducible refine wpList_loads (o := ⟨some 96, .load 24 (.tmp 3), _, _, _, _⟩) rfl 24 (.tmp 3) rfl b1 (0) (ca) rfl (Cells.of_holds hb1) _ Tryd.underlying24 rfl (size24' hca) (.agg (ca).toArray) rfl ?_)
    | (with_reducible refine wpList_loads (o := ⟨some 97, .load 24 (.tmp 4), _, _, _, _⟩) rfl 24 (.tmp 4) rfl b2 (0) (cb) rfl (Cells.of_holds hb2) _ Tryd.underlying24 rfl (size24' hcb) (.agg (cb).toArray) rfl ?_))
  go_ret
  exact ⟨rfl, mm⟩
set_option maxRecDepth 1000000 in
set_option maxHeartbeats 2000000 in
theorem one_dgy (a b d : Tm) (ca cb cd : List Value) (w : World) (hA : TIs w (Btw 0 w.heap.size) a ca) (hB : TIs w (Btw 0 w.heap.size) b cb) (hD : TIs w (Btw 0 w.heap.size) d cd) (G : Glob w) (ra : a.right = true) (rb : b.right = true) (rd : d.right = true) (hsm : Tm.same a b = false) (hab : Tm.lessB a.bytes b.bytes = false) (hba : Tm.lessB b.bytes a.bytes = true) (hle : a.bytes.length ≤ b.bytes.length) :
    Calls Tryd.prog 7 #[.agg ca.toArray, .agg cb.toArray, .agg cd.toArray] w fun e w' => e = .returned (.bool true) ∧ Mod [] w w' := by
  have hca := hA.len
  have hcb := hB.len
  have hcd := hD.len
  have WK := fun v (mv : Mod [] w v) => wakes_c v (G.then mv)
  have OVA := fun v (mv : Mod [] w v) => over_c a ca w.heap.size v (hA.keep mv (by simp)) mv.size
  have OVB := fun v (mv : Mod [] w v) => over_c b cb w.heap.size v (hB.keep mv (by simp)) mv.size
  have OVD := fun v (mv : Mod [] w v) => over_c d cd w.heap.size v (hD.keep mv (by simp)) mv.size
  have CA := fun v (mv : Mod [] w v) => check_c a ca _ v (hA.keep mv (by simp)) (G.then mv)
  rw [show chk a = 0 by unfold chk; rw [ra]; rfl] at CA
  have CB := fun v (mv : Mod [] w v) => check_c b cb _ v (hB.keep mv (by simp)) (G.then mv)
  rw [show chk b = 0 by unfold chk; rw [rb]; rfl] at CB
  have CD := fun v (mv : Mod [] w v) => check_c d cd _ v (hD.keep mv (by simp)) (G.then mv)
  rw [show chk d = 0 by unfold chk; rw [rd]; rfl] at CD
  have EA := fun v (mv : Mod [] w v) => encode_yes a ca _ v (hA.keep mv (by simp)) (fun g hg => Nat.lt_of_lt_of_le hg.2 mv.size) (G.then mv) ra
  have EB := fun v (mv : Mod [] w v) => encode_yes b cb _ v (hB.keep mv (by simp)) (fun g hg => Nat.lt_of_lt_of_le hg.2 mv.size) (G.then mv) rb
  have LAB := fun v (mv : Mod [] w v) => less_yes a b ca cb _ _ v (hA.keep mv (by simp)) (hB.keep mv (by simp)) (fun g hg => Nat.lt_of_lt_of_le hg.2 mv.size) (fun g hg => Nat.lt_of_lt_of_le hg.2 mv.size) (G.then mv) ra rb
  have LBA := fun v (mv : Mod [] w v) => less_yes b a cb ca _ _ v (hB.keep mv (by simp)) (hA.keep mv (by simp)) (fun g hg => Nat.lt_of_lt_of_le hg.2 mv.size) (fun g hg => Nat.lt_of_lt_of_le hg.2 mv.size) (G.then mv) rb ra
  have SM := fun v (mv : Mod [] w v) => psame_all _ a b ca cb _ _ v (Nat.le_refl _) (hA.keep mv (by simp)) (hB.keep mv (by simp))
  rw [hab] at LAB
  rw [hba] at LBA
  rw [hsm] at SM
  have hbb : decide (a.bytes = b.bytes) = false := one_bytes ra rb hsm
  have EQ := fun v A1 A2 c1 c2 (r1 : Reads v A1 a.bytes) (r2 : Reads v A2 b.bytes) => equal_c A1 A2 a.bytes b.bytes c1 c2 v r1 r2
  rw [hbb] at EQ
  obtain ⟨na, hna⟩ : ∃ n, n = a.bytes.length := ⟨_, rfl⟩
  obtain ⟨nb, hnb⟩ : ∃ n, n = b.bytes.length := ⟨_, rfl⟩
  have EP := fun v A1 A2 c1 c2 (r1 : Reads v A1 a.bytes) (r2 : Reads v A2 b.bytes) => equal_n A1 A2 a.bytes (b.bytes.take na) na na c1 c2 v hna (by simp; omega) r1 (r2.firsts na)
  have hpp : decide (a.bytes = b.bytes.take na) = false := by rw [hna]; exact one_front ra rb hsm
  rw [hpp] at EP
  have HN := Lib.hid (And.intro hna hnb)
  have EQ := fun v A1 A2 c1 c2 r1 r2 => (equal_n A1 A2 a.bytes b.bytes na nb c1 c2 v hna hnb r1 r2)
  rw [hbb] at EQ
  rw [← hna] at EA hle
  rw [← hnb] at EB hle
  clear hna hnb hpp
  clear hsm hab hba hbb ra rb rd
  clear hA hB hD G
  go_enter Tryd.func7, Tryd.ntmps7
  go_wp2_with (first
    | (with_reducible refine wpList_boxes (o := ⟨some 3, .box 24 (.tmp 0), _, _, _, _⟩) rfl 24 (.tmp 0) rfl _ rfl ca rfl ?_; intro w1 hb1 mz zz
       obtain ⟨b1, hq⟩ : ∃ b, b = w.heap.size := ⟨_, rfl⟩
       rw [← hq] at hb1 ⊢
       have mm1 : Mod [] w w1 := mz
       clear hq zz mz)
    | (with_reducible refine wpList_boxes (o := ⟨some 4, .box 24 (.tmp 1), _, _, _, _⟩) rfl 24 (.tmp 1) rfl _ rfl cb rfl ?_; intro w2 hb2 mz zz
       obtain ⟨b2, hq⟩ : ∃ b, b = w1.heap.size := ⟨_, rfl⟩
       rw [← hq] at hb2 ⊢
       replace hb1 := hb1.keep mz (by simp)
       have mm2 : Mod [] w w2 := mm1.then mz
       clear hq zz mz mm1)
    | (with_reducible refine wpList_boxes (o := ⟨some 5, .box 24 (.tmp 2), _, _, _, _⟩) rfl 24 (.tmp 2) rfl _ rfl cd rfl ?_; intro w3 hb3 mz zz
       obtain ⟨b3, hq⟩ : ∃ b, b = w2.heap.size := ⟨_, rfl⟩
       rw [← hq] at hb3 ⊢
       replace hb1 := hb1.keep mz (by simp)
       replace hb2 := hb2.keep mz (by simp)
       have mm : Mod [] w w3 := mm2.then mz
       clear hq zz mz mm2)
    | (go_at_call 13; refine (WK _ mm).mono ?_
       rintro e wz ⟨rfl, mz⟩
       replace hb1 := hb1.keep mz (by simp)
       replace hb2 := hb2.keep mz (by simp)
       replace hb3 := hb3.keep mz (by simp)
       replace mm := mm.then mz
       clear mz WK)
    | (with_reducible refine wpList_loads (o := ⟨some 14, .load 24 (.tmp 3), _, _, _, _⟩) rfl 24 (.tmp 3) rfl b1 (0) (ca) rfl (Cells.of_holds hb1) _ Tryd.underlying24 rfl (size24' hca) (.agg (ca).toArray) rfl ?_))
  refine (OVA _ mm).mono ?_
  rintro e wz ⟨ov, rfl, mz⟩
  clear OVA
  replace hb1 := hb1.keep mz (by simp)
  replace hb2 := hb2.keep mz (by simp)
  replace hb3 := hb3.keep mz (by simp)
  replace mm := mm.then mz
  clear mz
  cases ov with
  | true =>
    go_wp2_with fail
    go_ret
    exact ⟨rfl, mm⟩
  | false =>
  go_wp2_with (first
    | (with_reducible refine wpList_loadsW (o := ⟨some 17, .load 24 (.tmp 4), _, _, _, _⟩) ?_ 24 (.tmp 4) rfl b2 0 (cb) rfl (Cells.of_holds hb2) _ Tryd.underlying24 rfl (size24' hcb) (.agg (cb).toArray) rfl ?_
       · exact wanted_yes rfl rfl rfl rfl))
  refine (OVB _ mm).mono ?_
  rintro e wz ⟨ov, rfl, mz⟩
  clear OVB
  replace hb1 := hb1.keep mz (by simp)
  replace hb2 := hb2.keep mz (by simp)
  replace hb3 := hb3.keep mz (by simp)
  replace mm := mm.then mz
  clear mz
  cases ov with
  | true =>
    go_wp2_with fail
    go_ret
    exact ⟨rfl, mm⟩
  | false =>
  go_wp2_with (first
    | (with_reducible refine wpList_loadsW (o := ⟨some 21, .load 24 (.tmp 5), _, _, _, _⟩) ?_ 24 (.tmp 5) rfl b3 0 (cd) rfl (Cells.of_holds hb3) _ Tryd.underlying24 rfl (size24' hcd) (.agg (cd).toArray) rfl ?_
       · exact wanted_yes rfl rfl rfl rfl))
  refine (OVD _ mm).mono ?_
  rintro e wz ⟨ov, rfl, mz⟩
  clear OVD
  replace hb1 := hb1.keep mz (by simp)
  replace hb2 := hb2.keep mz (by simp)
  replace hb3 := hb3.keep mz (by simp)
  replace mm := mm.then mz
  clear mz
  cases ov with
  | true =>
    go_wp2_with fail
    go_ret
    exact ⟨rfl, mm⟩
  | false =>
  go_wp2_with (first
    | (with_reducible refine wpList_loadsW (o := ⟨some 25, .load 24 (.tmp 3), _, _, _, _⟩) ?_ 24 (.tmp 3) rfl b1 0 (ca) rfl (Cells.of_holds hb1) _ Tryd.underlying24 rfl (size24' hca) (.agg (ca).toArray) rfl ?_
       · exact wanted_yes rfl rfl rfl rfl)
    | (go_at_call 17; with_reducible refine Calls.mono (CA _ mm) ?_
       rintro e wz ⟨rfl, mz⟩
       replace hb1 := hb1.keep mz (by simp)
       replace hb2 := hb2.keep mz (by simp)
       replace hb3 := hb3.keep mz (by simp)
       replace mm := mm.then mz
       clear mz)
    | (with_reducible refine wpList_loadsW (o := ⟨some 30, .load 24 (.tmp 4), _, _, _, _⟩) ?_ 24 (.tmp 4) rfl b2 0 (cb) rfl (Cells.of_holds hb2) _ Tryd.underlying24 rfl (size24' hcb) (.agg (cb).toArray) rfl ?_
       · exact wanted_yes rfl rfl rfl rfl)
    | (go_at_call 17; with_reducible refine Calls.mono (CB _ mm) ?_
       rintro e wz ⟨rfl, mz⟩
       replace hb1 := hb1.keep mz (by simp)
       replace hb2 := hb2.keep mz (by simp)
       replace hb3 := hb3.keep mz (by simp)
       replace mm := mm.then mz
       clear mz)
    | (with_reducible refine wpList_loadsW (o := ⟨some 35, .load 24 (.tmp 5), _, _, _, _⟩) ?_ 24 (.tmp 5) rfl b3 0 (cd) rfl (Cells.of_holds hb3) _ Tryd.underlying24 rfl (size24' hcd) (.agg (cd).toArray) rfl ?_
       · exact wanted_yes rfl rfl rfl rfl)
    | (go_at_call 17; with_reducible refine Calls.mono (CD _ mm) ?_
       rintro e wz ⟨rfl, mz⟩
       replace hb1 := hb1.keep mz (by simp)
       replace hb2 := hb2.keep mz (by simp)
       replace hb3 := hb3.keep mz (by simp)
       replace mm := mm.then mz
       clear mz)
    | (with_reducible refine wpList_loads (o := ⟨some 40, .load 24 (.tmp 3), _, _, _, _⟩) rfl 24 (.tmp 3) rfl b1 (0) (ca) rfl (Cells.of_holds hb1) _ Tryd.underlying24 rfl (size24' hca) (.agg (ca).toArray) rfl ?_)
    | (go_at_call 15; with_reducible refine Calls.mono (EA _ mm) ?_
       rintro e wz ⟨A1, c1, rfl, o1, mz, f1⟩
       have r1 := o1.reads
       replace hb1 := hb1.keep mz (by simp)
       replace hb2 := hb2.keep mz (by simp)
       replace hb3 := hb3.keep mz (by simp)
       replace mm := mm.then mz
       clear mz EA o1 f1)
    | (with_reducible refine wpList_loads (o := ⟨some 45, .load 24 (.tmp 4), _, _, _, _⟩) rfl 24 (.tmp 4) rfl b2 (0) (cb) rfl (Cells.of_holds hb2) _ Tryd.underlying24 rfl (size24' hcb) (.agg (cb).toArray) rfl ?_)
    | (go_at_call 15; with_reducible refine Calls.mono (EB _ mm) ?_
       rintro e wz ⟨A2, c2, rfl, o2, mz, f2⟩
       replace r1 := r1.keep mz (fun _ _ => by simp)
       have r2 := o2.reads
       have k2 := o2.fits.1
       obtain ⟨g2, q2, rfl, x2⟩ := r2 0 (Tm.bytes_pos b)
       replace hb1 := hb1.keep mz (by simp)
       replace hb2 := hb2.keep mz (by simp)
       replace hb3 := hb3.keep mz (by simp)
       replace mm := mm.then mz
       rw [← HN.out.2] at k2
       clear mz EB o2 f2 x2)
    | (with_reducible refine wpList_loads (o := ⟨some 49, .load 24 (.tmp 3), _, _, _, _⟩) rfl 24 (.tmp 3) rfl b1 (0) (ca) rfl (Cells.of_holds hb1) _ Tryd.underlying24 rfl (size24' hca) (.agg (ca).toArray) rfl ?_)
    | (with_reducible refine wpList_loads (o := ⟨some 50, .load 24 (.tmp 4), _, _, _, _⟩) rfl 24 (.tmp 4) rfl b2 (0) (cb) rfl (Cells.of_holds hb2) _ Tryd.underlying24 rfl (size24' hcb) (.agg (cb).toArray) rfl ?_)
    | (go_at_call 21; with_reducible refine Calls.mono (SM _ mm) ?_
       rintro e wz ⟨rfl, mz⟩
       replace hb1 := hb1.keep mz (by simp)
       replace hb2 := hb2.keep mz (by simp)
       replace hb3 := hb3.keep mz (by simp)
       replace mm := mm.then mz
       replace r1 := r1.keep mz (fun _ _ => by simp)
       replace r2 := r2.keep mz (fun _ _ => by simp)
       clear mz)
    | (go_at_call 43; with_reducible refine Calls.mono (EQ _ A1 (some ⟨g2, q2, none⟩) c1 c2 r1 r2) ?_
       rintro e wz ⟨rfl, rfl⟩
       clear EQ)
    | (with_reducible refine wpList_loadsW (o := ⟨some 58, .load 24 (.tmp 3), _, _, _, _⟩) ?_ 24 (.tmp 3) rfl b1 0 (ca) rfl (Cells.of_holds hb1) _ Tryd.underlying24 rfl (size24' hca) (.agg (ca).toArray) rfl ?_
       · exact wanted_yes rfl rfl rfl rfl)
    | (with_reducible refine wpList_loadsW (o := ⟨some 59, .load 24 (.tmp 4), _, _, _, _⟩) ?_ 24 (.tmp 4) rfl b2 0 (cb) rfl (Cells.of_holds hb2) _ Tryd.underlying24 rfl (size24' hcb) (.agg (cb).toArray) rfl ?_
       · exact wanted_yes rfl rfl rfl rfl)
    | (with_reducible refine wpList_loadsW (o := ⟨some 62, .load 24 (.tmp 4), _, _, _, _⟩) ?_ 24 (.tmp 4) rfl b2 0 (cb) rfl (Cells.of_holds hb2) _ Tryd.underlying24 rfl (size24' hcb) (.agg (cb).toArray) rfl ?_
       · exact wanted_yes rfl rfl rfl rfl)
    | (with_reducible refine wpList_loadsW (o := ⟨some 63, .load 24 (.tmp 3), _, _, _, _⟩) ?_ 24 (.tmp 3) rfl b1 0 (ca) rfl (Cells.of_holds hb1) _ Tryd.underlying24 rfl (size24' hca) (.agg (ca).toArray) rfl ?_
       · exact wanted_yes rfl rfl rfl rfl)
    | (with_reducible refine wpList_loadsW (o := ⟨some 70, .load 24 (.tmp 3), _, _, _, _⟩) ?_ 24 (.tmp 3) rfl b1 0 (ca) rfl (Cells.of_holds hb1) _ Tryd.underlying24 rfl (size24' hca) (.agg (ca).toArray) rfl ?_
       · exact wanted_yes rfl rfl rfl rfl)
    | (with_reducible refine wpList_loadsW (o := ⟨some 71, .load 24 (.tmp 4), _, _, _, _⟩) ?_ 24 (.tmp 4) rfl b2 0 (cb) rfl (Cells.of_holds hb2) _ Tryd.underlying24 rfl (size24' hcb) (.agg (cb).toArray) rfl ?_
       · exact wanted_yes rfl rfl rfl rfl)
    | (with_reducible refine wpList_loadsW (o := ⟨some 74, .load 24 (.tmp 4), _, _, _, _⟩) ?_ 24 (.tmp 4) rfl b2 0 (cb) rfl (Cells.of_holds hb2) _ Tryd.underlying24 rfl (size24' hcb) (.agg (cb).toArray) rfl ?_
       · exact wanted_yes rfl rfl rfl rfl)
    | (with_reducible refine wpList_loadsW (o := ⟨some 75, .load 24 (.tmp 3), _, _, _, _⟩) ?_ 24 (.tmp 3) rfl b1 0 (ca) rfl (Cells.of_holds hb1) _ Tryd.underlying24 rfl (size24' hca) (.agg (ca).toArray) rfl ?_
       · exact wanted_yes rfl rfl rfl rfl)
    | (go_at_call 25; with_reducible refine Calls.mono (LAB _ mm) ?_
       rintro e wz ⟨rfl, mz⟩
       replace hb1 := hb1.keep mz (by simp)
       replace hb2 := hb2.keep mz (by simp)
       replace hb3 := hb3.keep mz (by simp)
       replace mm := mm.then mz
       replace r1 := r1.keep mz (fun _ _ => by simp)
       replace r2 := r2.keep mz (fun _ _ => by simp)
       clear mz)
    | (go_at_call 25; with_reducible refine Calls.mono (LBA _ mm) ?_
       rintro e wz ⟨rfl, mz⟩
       replace hb1 := hb1.keep mz (by simp)
       replace hb2 := hb2.keep mz (by simp)
       replace hb3 := hb3.keep mz (by simp)
       replace mm := mm.then mz
       replace r1 := r1.keep mz (fun _ _ => by simp)
       replace r2 := r2.keep mz (fun _ _ => by simp)
       clear mz)
    | (go_at_call 43; with_reducible refine Calls.mono (EP _ A1 (some ⟨g2, q2, none⟩) c1 c2 r1 r2) ?_
       rintro e wz ⟨rfl, rfl⟩
       clear EP)
    | (with_reducible refine wpList_loads (o := ⟨some 96, .load 24 (.tmp 3), _, _, _, _⟩) rfl 24 (.tmp 3) rfl b1 (0) (ca) rfl (Cells.of_holds hb1) _ Tryd.underlying24 rfl (size24' hca) (.agg (ca).toArray) rfl ?_)
    | (with_reducible refine wpList_loads (o := ⟨some 97, .load 24 (.tmp 4), _, _, _, _⟩) rfl 24 (.tmp 4) rfl b2 (0) (cb) rfl (Cells.of_holds hb2) _ Tryd.underlying24 rfl (size24' hcb) (.agg (cb).toArray) rfl ?_))
  go_ret
  exact ⟨rfl, mm⟩
set_option maxRecDepth 1000000 in
set_option maxHeartbeats 2000000 in
theorem one_dgn (a b d : Tm) (ca cb cd : List Value) (w : World) (hA : TIs w (Btw 0 w.heap.size) a ca) (hB : TIs w (Btw 0 w.heap.size) b cb) (hD : TIs w (Btw 0 w.heap.size) d cd) (G : Glob w) (ra : a.right = true) (rb : b.right = true) (rd : d.right = true) (hsm : Tm.same a b = false) (hab : Tm.lessB a.bytes b.bytes = false) (hba : Tm.lessB b.bytes a.bytes = true) (hle : ¬ a.bytes.length ≤ b.bytes.length) :
    Calls Tryd.prog 7 #[.agg ca.toArray, .agg cb.toArray, .agg cd.toArray] w fun e w' => e = .returned (.bool true) ∧ Mod [] w w' := by
  have hca := hA.len
  have hcb := hB.len
  have hcd := hD.len
  have WK := fun v (mv : Mod [] w v) => wakes_c v (G.then mv)
  have OVA := fun v (mv : Mod [] w v) => over_c a ca w.heap.size v (hA.keep mv (by simp)) mv.size
  have OVB := fun v (mv : Mod [] w v) => over_c b cb w.heap.size v (hB.keep mv (by simp)) mv.size
  have OVD := fun v (mv : Mod [] w v) => over_c d cd w.heap.size v (hD.keep mv (by simp)) mv.size
  have CA := fun v (mv : Mod [] w v) => check_c a ca _ v (hA.keep mv (by simp)) (G.then mv)
  rw [show chk a = 0 by unfold chk; rw [ra]; rfl] at CA
  have CB := fun v (mv : Mod [] w v) => check_c b cb _ v (hB.keep mv (by simp)) (G.then mv)
  rw [show chk b = 0 by unfold chk; rw [rb]; rfl] at CB
  have CD := fun v (mv : Mod [] w v) => check_c d cd _ v (hD.keep mv (by simp)) (G.then mv)
  rw [show chk d = 0 by unfold chk; rw [rd]; rfl] at CD
  have EA := fun v (mv : Mod [] w v) => encode_yes a ca _ v (hA.keep mv (by simp)) (fun g hg => Nat.lt_of_lt_of_le hg.2 mv.size) (G.then mv) ra
  have EB := fun v (mv : Mod [] w v) => encode_yes b cb _ v (hB.keep mv (by simp)) (fun g hg => Nat.lt_of_lt_of_le hg.2 mv.size) (G.then mv) rb
  have LAB := fun v (mv : Mod [] w v) => less_yes a b ca cb _ _ v (hA.keep mv (by simp)) (hB.keep mv (by simp)) (fun g hg => Nat.lt_of_lt_of_le hg.2 mv.size) (fun g hg => Nat.lt_of_lt_of_le hg.2 mv.size) (G.then mv) ra rb
  have LBA := fun v (mv : Mod [] w v) => less_yes b a cb ca _ _ v (hB.keep mv (by simp)) (hA.keep mv (by simp)) (fun g hg => Nat.lt_of_lt_of_le hg.2 mv.size) (fun g hg => Nat.lt_of_lt_of_le hg.2 mv.size) (G.then mv) rb ra
  have SM := fun v (mv : Mod [] w v) => psame_all _ a b ca cb _ _ v (Nat.le_refl _) (hA.keep mv (by simp)) (hB.keep mv (by simp))
  rw [hab] at LAB
  rw [hba] at LBA
  rw [hsm] at SM
  have hbb : decide (a.bytes = b.bytes) = false := one_bytes ra rb hsm
  have EQ := fun v A1 A2 c1 c2 (r1 : Reads v A1 a.bytes) (r2 : Reads v A2 b.bytes) => equal_c A1 A2 a.bytes b.bytes c1 c2 v r1 r2
  rw [hbb] at EQ
  obtain ⟨na, hna⟩ : ∃ n, n = a.bytes.length := ⟨_, rfl⟩
  obtain ⟨nb, hnb⟩ : ∃ n, n = b.bytes.length := ⟨_, rfl⟩
  have HN := Lib.hid (And.intro hna hnb)
  have EQ := fun v A1 A2 c1 c2 r1 r2 => (equal_n A1 A2 a.bytes b.bytes na nb c1 c2 v hna hnb r1 r2)
  rw [hbb] at EQ
  rw [← hna] at EA hle
  rw [← hnb] at EB hle
  clear hna hnb
  clear hsm hab hba hbb ra rb rd
  clear hA hB hD G
  go_enter Tryd.func7, Tryd.ntmps7
  go_wp2_with (first
    | (with_reducible refine wpList_boxes (o := ⟨some 3, .box 24 (.tmp 0), _, _, _, _⟩) rfl 24 (.tmp 0) rfl _ rfl ca rfl ?_; intro w1 hb1 mz zz
       obtain ⟨b1, hq⟩ : ∃ b, b = w.heap.size := ⟨_, rfl⟩
       rw [← hq] at hb1 ⊢
       have mm1 : Mod [] w w1 := mz
       clear hq zz mz)
    | (with_reducible refine wpList_boxes (o := ⟨some 4, .box 24 (.tmp 1), _, _, _, _⟩) rfl 24 (.tmp 1) rfl _ rfl cb rfl ?_; intro w2 hb2 mz zz
       obtain ⟨b2, hq⟩ : ∃ b, b = w1.heap.size := ⟨_, rfl⟩
       rw [← hq] at hb2 ⊢
       replace hb1 := hb1.keep mz (by simp)
       have mm2 : Mod [] w w2 := mm1.then mz
       clear hq zz mz mm1)
    | (with_reducible refine wpList_boxes (o := ⟨some 5, .box 24 (.tmp 2), _, _, _, _⟩) rfl 24 (.tmp 2) rfl _ rfl cd rfl ?_; intro w3 hb3 mz zz
       obtain ⟨b3, hq⟩ : ∃ b, b = w2.heap.size := ⟨_, rfl⟩
       rw [← hq] at hb3 ⊢
       replace hb1 := hb1.keep mz (by simp)
       replace hb2 := hb2.keep mz (by simp)
       have mm : Mod [] w w3 := mm2.then mz
       clear hq zz mz mm2)
    | (go_at_call 13; refine (WK _ mm).mono ?_
       rintro e wz ⟨rfl, mz⟩
       replace hb1 := hb1.keep mz (by simp)
       replace hb2 := hb2.keep mz (by simp)
       replace hb3 := hb3.keep mz (by simp)
       replace mm := mm.then mz
       clear mz WK)
    | (with_reducible refine wpList_loads (o := ⟨some 14, .load 24 (.tmp 3), _, _, _, _⟩) rfl 24 (.tmp 3) rfl b1 (0) (ca) rfl (Cells.of_holds hb1) _ Tryd.underlying24 rfl (size24' hca) (.agg (ca).toArray) rfl ?_))
  refine (OVA _ mm).mono ?_
  rintro e wz ⟨ov, rfl, mz⟩
  clear OVA
  replace hb1 := hb1.keep mz (by simp)
  replace hb2 := hb2.keep mz (by simp)
  replace hb3 := hb3.keep mz (by simp)
  replace mm := mm.then mz
  clear mz
  cases ov with
  | true =>
    go_wp2_with fail
    go_ret
    exact ⟨rfl, mm⟩
  | false =>
  go_wp2_with (first
    | (with_reducible refine wpList_loadsW (o := ⟨some 17, .load 24 (.tmp 4), _, _, _, _⟩) ?_ 24 (.tmp 4) rfl b2 0 (cb) rfl (Cells.of_holds hb2) _ Tryd.underlying24 rfl (size24' hcb) (.agg (cb).toArray) rfl ?_
       · exact wanted_yes rfl rfl rfl rfl))
  refine (OVB _ mm).mono ?_
  rintro e wz ⟨ov, rfl, mz⟩
  clear OVB
  replace hb1 := hb1.keep mz (by simp)
  replace hb2 := hb2.keep mz (by simp)
  replace hb3 := hb3.keep mz (by simp)
  replace mm := mm.then mz
  clear mz
  cases ov with
  | true =>
    go_wp2_with fail
    go_ret
    exact ⟨rfl, mm⟩
  | false =>
  go_wp2_with (first
    | (with_reducible refine wpList_loadsW (o := ⟨some 21, .load 24 (.tmp 5), _, _, _, _⟩) ?_ 24 (.tmp 5) rfl b3 0 (cd) rfl (Cells.of_holds hb3) _ Tryd.underlying24 rfl (size24' hcd) (.agg (cd).toArray) rfl ?_
       · exact wanted_yes rfl rfl rfl rfl))
  refine (OVD _ mm).mono ?_
  rintro e wz ⟨ov, rfl, mz⟩
  clear OVD
  replace hb1 := hb1.keep mz (by simp)
  replace hb2 := hb2.keep mz (by simp)
  replace hb3 := hb3.keep mz (by simp)
  replace mm := mm.then mz
  clear mz
  cases ov with
  | true =>
    go_wp2_with fail
    go_ret
    exact ⟨rfl, mm⟩
  | false =>
  go_wp2_with (first
    | (with_reducible refine wpList_loadsW (o := ⟨some 25, .load 24 (.tmp 3), _, _, _, _⟩) ?_ 24 (.tmp 3) rfl b1 0 (ca) rfl (Cells.of_holds hb1) _ Tryd.underlying24 rfl (size24' hca) (.agg (ca).toArray) rfl ?_
       · exact wanted_yes rfl rfl rfl rfl)
    | (go_at_call 17; with_reducible refine Calls.mono (CA _ mm) ?_
       rintro e wz ⟨rfl, mz⟩
       replace hb1 := hb1.keep mz (by simp)
       replace hb2 := hb2.keep mz (by simp)
       replace hb3 := hb3.keep mz (by simp)
       replace mm := mm.then mz
       clear mz)
    | (with_reducible refine wpList_loadsW (o := ⟨some 30, .load 24 (.tmp 4), _, _, _, _⟩) ?_ 24 (.tmp 4) rfl b2 0 (cb) rfl (Cells.of_holds hb2) _ Tryd.underlying24 rfl (size24' hcb) (.agg (cb).toArray) rfl ?_
       · exact wanted_yes rfl rfl rfl rfl)
    | (go_at_call 17; with_reducible refine Calls.mono (CB _ mm) ?_
       rintro e wz ⟨rfl, mz⟩
       replace hb1 := hb1.keep mz (by simp)
       replace hb2 := hb2.keep mz (by simp)
       replace hb3 := hb3.keep mz (by simp)
       replace mm := mm.then mz
       clear mz)
    | (with_reducible refine wpList_loadsW (o := ⟨some 35, .load 24 (.tmp 5), _, _, _, _⟩) ?_ 24 (.tmp 5) rfl b3 0 (cd) rfl (Cells.of_holds hb3) _ Tryd.underlying24 rfl (size24' hcd) (.agg (cd).toArray) rfl ?_
       · exact wanted_yes rfl rfl rfl rfl)
    | (go_at_call 17; with_reducible refine Calls.mono (CD _ mm) ?_
       rintro e wz ⟨rfl, mz⟩
       replace hb1 := hb1.keep mz (by simp)
       replace hb2 := hb2.keep mz (by simp)
       replace hb3 := hb3.keep mz (by simp)
       replace mm := mm.then mz
       clear mz)
    | (with_reducible refine wpList_loads (o := ⟨some 40, .load 24 (.tmp 3), _, _, _, _⟩) rfl 24 (.tmp 3) rfl b1 (0) (ca) rfl (Cells.of_holds hb1) _ Tryd.underlying24 rfl (size24' hca) (.agg (ca).toArray) rfl ?_)
    | (go_at_call 15; with_reducible refine Calls.mono (EA _ mm) ?_
       rintro e wz ⟨A1, c1, rfl, o1, mz, f1⟩
       have r1 := o1.reads
       replace hb1 := hb1.keep mz (by simp)
       replace hb2 := hb2.keep mz (by simp)
       replace hb3 := hb3.keep mz (by simp)
       replace mm := mm.then mz
       clear mz EA o1 f1)
    | (with_reducible refine wpList_loads (o := ⟨some 45, .load 24 (.tmp 4), _, _, _, _⟩) rfl 24 (.tmp 4) rfl b2 (0) (cb) rfl (Cells.of_holds hb2) _ Tryd.underlying24 rfl (size24' hcb) (.agg (cb).toArray) rfl ?_)
    | (go_at_call 15; with_reducible refine Calls.mono (EB _ mm) ?_
       rintro e wz ⟨A2, c2, rfl, o2, mz, f2⟩
       replace r1 := r1.keep mz (fun _ _ => by simp)
       have r2 := o2.reads
       have k2 := o2.fits.1
       obtain ⟨g2, q2, rfl, x2⟩ := r2 0 (Tm.bytes_pos b)
       replace hb1 := hb1.keep mz (by simp)
       replace hb2 := hb2.keep mz (by simp)
       replace hb3 := hb3.keep mz (by simp)
       replace mm := mm.then mz
       rw [← HN.out.2] at k2
       clear mz EB o2 f2 x2)
    | (with_reducible refine wpList_loads (o := ⟨some 49, .load 24 (.tmp 3), _, _, _, _⟩) rfl 24 (.tmp 3) rfl b1 (0) (ca) rfl (Cells.of_holds hb1) _ Tryd.underlying24 rfl (size24' hca) (.agg (ca).toArray) rfl ?_)
    | (with_reducible refine wpList_loads (o := ⟨some 50, .load 24 (.tmp 4), _, _, _, _⟩) rfl 24 (.tmp 4) rfl b2 (0) (cb) rfl (Cells.of_holds hb2) _ Tryd.underlying24 rfl (size24' hcb) (.agg (cb).toArray) rfl ?_)
    | (go_at_call 21; with_reducible refine Calls.mono (SM _ mm) ?_
       rintro e wz ⟨rfl, mz⟩
       replace hb1 := hb1.keep mz (by simp)
       replace hb2 := hb2.keep mz (by simp)
       replace hb3 := hb3.keep mz (by simp)
       replace mm := mm.then mz
       replace r1 := r1.keep mz (fun _ _ => by simp)
       replace r2 := r2.keep mz (fun _ _ => by simp)
       clear mz)
    | (go_at_call 43; with_reducible refine Calls.mono (EQ _ A1 (some ⟨g2, q2, none⟩) c1 c2 r1 r2) ?_
       rintro e wz ⟨rfl, rfl⟩
       clear EQ)
    | (with_reducible refine wpList_loadsW (o := ⟨some 58, .load 24 (.tmp 3), _, _, _, _⟩) ?_ 24 (.tmp 3) rfl b1 0 (ca) rfl (Cells.of_holds hb1) _ Tryd.underlying24 rfl (size24' hca) (.agg (ca).toArray) rfl ?_
       · exact wanted_yes rfl rfl rfl rfl)
    | (with_reducible refine wpList_loadsW (o := ⟨some 59, .load 24 (.tmp 4), _, _, _, _⟩) ?_ 24 (.tmp 4) rfl b2 0 (cb) rfl (Cells.of_holds hb2) _ Tryd.underlying24 rfl (size24' hcb) (.agg (cb).toArray) rfl ?_
       · exact wanted_yes rfl rfl rfl rfl)
    | (with_reducible refine wpList_loadsW (o := ⟨some 62, .load 24 (.tmp 4), _, _, _, _⟩) ?_ 24 (.tmp 4) rfl b2 0 (cb) rfl (Cells.of_holds hb2) _ Tryd.underlying24 rfl (size24' hcb) (.agg (cb).toArray) rfl ?_
       · exact wanted_yes rfl rfl rfl rfl)
    | (with_reducible refine wpList_loadsW (o := ⟨some 63, .load 24 (.tmp 3), _, _, _, _⟩) ?_ 24 (.tmp 3) rfl b1 0 (ca) rfl (Cells.of_holds hb1) _ Tryd.underlying24 rfl (size24' hca) (.agg (ca).toArray) rfl ?_
       · exact wanted_yes rfl rfl rfl rfl)
    | (with_reducible refine wpList_loadsW (o := ⟨some 70, .load 24 (.tmp 3), _, _, _, _⟩) ?_ 24 (.tmp 3) rfl b1 0 (ca) rfl (Cells.of_holds hb1) _ Tryd.underlying24 rfl (size24' hca) (.agg (ca).toArray) rfl ?_
       · exact wanted_yes rfl rfl rfl rfl)
    | (with_reducible refine wpList_loadsW (o := ⟨some 71, .load 24 (.tmp 4), _, _, _, _⟩) ?_ 24 (.tmp 4) rfl b2 0 (cb) rfl (Cells.of_holds hb2) _ Tryd.underlying24 rfl (size24' hcb) (.agg (cb).toArray) rfl ?_
       · exact wanted_yes rfl rfl rfl rfl)
    | (with_reducible refine wpList_loadsW (o := ⟨some 74, .load 24 (.tmp 4), _, _, _, _⟩) ?_ 24 (.tmp 4) rfl b2 0 (cb) rfl (Cells.of_holds hb2) _ Tryd.underlying24 rfl (size24' hcb) (.agg (cb).toArray) rfl ?_
       · exact wanted_yes rfl rfl rfl rfl)
    | (with_reducible refine wpList_loadsW (o := ⟨some 75, .load 24 (.tmp 3), _, _, _, _⟩) ?_ 24 (.tmp 3) rfl b1 0 (ca) rfl (Cells.of_holds hb1) _ Tryd.underlying24 rfl (size24' hca) (.agg (ca).toArray) rfl ?_
       · exact wanted_yes rfl rfl rfl rfl)
    | (go_at_call 25; with_reducible refine Calls.mono (LAB _ mm) ?_
       rintro e wz ⟨rfl, mz⟩
       replace hb1 := hb1.keep mz (by simp)
       replace hb2 := hb2.keep mz (by simp)
       replace hb3 := hb3.keep mz (by simp)
       replace mm := mm.then mz
       replace r1 := r1.keep mz (fun _ _ => by simp)
       replace r2 := r2.keep mz (fun _ _ => by simp)
       clear mz)
    | (go_at_call 25; with_reducible refine Calls.mono (LBA _ mm) ?_
       rintro e wz ⟨rfl, mz⟩
       replace hb1 := hb1.keep mz (by simp)
       replace hb2 := hb2.keep mz (by simp)
       replace hb3 := hb3.keep mz (by simp)
       replace mm := mm.then mz
       replace r1 := r1.keep mz (fun _ _ => by simp)
       replace r2 := r2.keep mz (fun _ _ => by simp)
       clear mz)
    | (with_reducible refine wpList_loads (o := ⟨some 96, .load 24 (.tmp 3), _, _, _, _⟩) rfl 24 (.tmp 3) rfl b1 (0) (ca) rfl (Cells.of_holds hb1) _ Tryd.underlying24 rfl (size24' hca) (.agg (ca).toArray) rfl ?_)
    | (with_reducible refine wpList_loads (o := ⟨some 97, .load 24 (.tmp 4), _, _, _, _⟩) rfl 24 (.tmp 4) rfl b2 (0) (cb) rfl (Cells.of_holds hb2) _ Tryd.underlying24 rfl (size24' hcb) (.agg (cb).toArray) rfl ?_))
  go_ret
  exact ⟨rfl, mm⟩
end Go.Proofs.YtapafniekmfkaaaDoor
