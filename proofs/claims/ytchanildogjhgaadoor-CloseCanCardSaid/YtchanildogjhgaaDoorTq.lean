/-
  A reader of terms: need, whole. My own work.
-/
import Derived.Test.YtchanildogjhgaaDoorA6
import Derived.Test.YtchanildogjhgaaDoorOct
import Derived.StillTailTactics
import Derived.WalkSmall
namespace Go.Proofs.YtchanildogjhgaaDoor
open Go.RowKit Go.Shelf
set_option linter.unusedVariables false
set_option linter.unusedSimpArgs false
/-- What leaves with an error's number. -/
abbrev boom (e : Int) : Ending := .panicked [{ v := .iface 43 (.int .i64 e), recovered := false }]
theorem need_yes (e : Int) (w : World) : Calls Tryd.prog 112 #[.bool true, .int .i64 e] w fun r w' => r = .returned (.tuple #[]) ∧ w = w' := by
  go_enter Tryd.func112, Tryd.ntmps112
  go_wp2_with fail
  go_end0
  exact ⟨rfl, rfl⟩
theorem need_no (e : Int) (w : World) : Calls Tryd.prog 112 #[.bool false, .int .i64 e] w fun r w' => r = boom e ∧ w = w' := by
  go_enter Tryd.func112, Tryd.ntmps112
  go_wp2_with fail
  exact ⟨rfl, rfl, rfl⟩
/-- A reader of terms at q, its reader of bytes at g, these in b; so many terms were counted. -/
structure RdT (w : World) (q g b : Nat) (l : List UInt8) (er : Int) (sz : Int) : Prop where
  hq : Holds w q 98 [.pointer (some ⟨g, 0, none⟩), .int .i64 sz]
  hr : Rdr w g b l er
  nb : b ≠ q
  ng : g ≠ q
set_option maxRecDepth 1000000 in
theorem whole_yes (q g b : Nat) (l : List UInt8) (sz : Int) (w : World) (h : RdT w q g b l 0 sz) : Calls Tryd.prog 115 #[.pointer (some ⟨q, 0, none⟩)] w fun r w' => r = .returned (.tuple #[]) ∧ w' = w.drew := by
  have hc := (h.hq.keep (Mod.drew [] w) (by simp)).cell 0
  simp only [List.getElem?_cons_zero] at hc
  have hrd : Rdr w.drew g b l 0 := h.hr.keep (Mod.drew [] w) (by simp) (by simp)
  have EC : Calls Tryd.prog 122 #[.pointer (some ⟨g, 0, none⟩)] w.drew fun e w' => e = .returned (.int .i64 0) ∧ w' = w.drew := (err_c g b l 0 w.drew hrd).mono fun _ _ hh => ⟨hh.1, hh.2.symm⟩
  clear h hrd
  go_enter Tryd.func115, Tryd.ntmps115
  refine wp_region_still_tail 11 (by kernel_rfl) (by kernel_rfl) ?_
  simp only [List.take_succ_cons, List.take_zero, List.drop_succ_cons, List.drop_zero]
  change wpStill _ _ w.drew (fun a' => wpList _ _ _ _ a' w.drew) _ _
  generalize w.drew = wd at *
  repeat still_step
  still_call EC
  repeat still_step
  still_call EC
  try refine wpStill_nil ?_
  go_wp2_with (go_at_call 112; refine (need_yes _ _).mono ?_; rintro r wx ⟨rfl, rfl⟩)
  go_end0
  exact ⟨rfl, rfl⟩
set_option maxRecDepth 1000000 in
theorem whole_no (q g b : Nat) (l : List UInt8) (er : Int) (sz : Int) (w : World) (h : RdT w q g b l er sz) (he : (er == 0) = false) : Calls Tryd.prog 115 #[.pointer (some ⟨q, 0, none⟩)] w fun r w' => r = boom er ∧ w' = w.drew := by
  have hc := (h.hq.keep (Mod.drew [] w) (by simp)).cell 0
  simp only [List.getElem?_cons_zero] at hc
  have hrd : Rdr w.drew g b l er := h.hr.keep (Mod.drew [] w) (by simp) (by simp)
  have EC : Calls Tryd.prog 122 #[.pointer (some ⟨g, 0, none⟩)] w.drew fun e w' => e = .returned (.int .i64 er) ∧ w' = w.drew := (err_c g b l er w.drew hrd).mono fun _ _ hh => ⟨hh.1, hh.2.symm⟩
  clear h hrd
  go_enter Tryd.func115, Tryd.ntmps115
  refine wp_region_still_tail 11 (by kernel_rfl) (by kernel_rfl) ?_
  simp only [List.take_succ_cons, List.take_zero, List.drop_succ_cons, List.drop_zero]
  change wpStill _ _ w.drew (fun a' => wpList _ _ _ _ a' w.drew) _ _
  generalize w.drew = wd at *
  repeat still_step
  still_call EC
  repeat still_step
  still_call EC
  try refine wpStill_nil ?_
  go_wp2_with (go_at_call 112; refine (need_no _ _).mono ?_; rintro r wx ⟨rfl, rfl⟩)
  exact ⟨rfl, rfl, rfl⟩
theorem u8_yes (g b : Nat) (x : UInt8) (r : List UInt8) (w : World) (h : Rdr w g b (x :: r) 0) : Calls Tryd.prog 119 #[.pointer (some ⟨g, 0, none⟩)] w fun e w' => e = .returned (.int .u8 (x.toNat : Int)) ∧ Rdr w' g b r 0 ∧ Mod [g] w w' := by
  refine (u8_c g b (x :: r) 0 w h).mono fun e w' hh => ?_
  obtain ⟨h1, h2, h3⟩ := hh
  have e1 : offNum (x :: r) 0 1 = x.toNat := by simp [offNum, be]
  have e2 : offRest (x :: r) 0 (1 : Nat) = r := by unfold offRest; rw [if_pos ⟨rfl, by omega, by simp; omega⟩]; rfl
  have e3 : offErr (x :: r) 0 (1 : Nat) = 0 := by unfold offErr; rw [if_pos rfl, if_neg (by omega), if_neg (by simp; omega)]
  rw [e1] at h1
  rw [e2, e3] at h2
  exact ⟨h1, h2, h3⟩
theorem u8_no (g b : Nat) (w : World) (h : Rdr w g b [] 0) : Calls Tryd.prog 119 #[.pointer (some ⟨g, 0, none⟩)] w fun e w' => e = .returned (.int .u8 0) ∧ Rdr w' g b [] 7 ∧ Mod [g] w w' := by
  refine (u8_c g b [] 0 w h).mono fun e w' hh => ?_
  obtain ⟨h1, h2, h3⟩ := hh
  have e1 : offNum [] 0 1 = 0 := by simp [offNum]
  have e2 : offRest [] 0 (1 : Nat) = [] := by unfold offRest; split <;> rfl
  have e3 : offErr [] 0 (1 : Nat) = 7 := by unfold offErr; rw [if_pos rfl, if_neg (by omega), if_pos (by simp)]
  rw [e1] at h1
  rw [e2, e3] at h2
  exact ⟨h1, h2, h3⟩
theorem u16_yes (g b : Nat) (x y : UInt8) (r : List UInt8) (w : World) (h : Rdr w g b (x :: y :: r) 0) : Calls Tryd.prog 114 #[.pointer (some ⟨g, 0, none⟩)] w fun e w' => e = .returned (.int .u16 ((x.toNat * 256 + y.toNat : Nat) : Int)) ∧ Rdr w' g b r 0 ∧ Mod [g] w w' := by
  refine (u16_c g b (x :: y :: r) 0 w h).mono fun e w' hh => ?_
  obtain ⟨h1, h2, h3⟩ := hh
  have e1 : offNum (x :: y :: r) 0 2 = x.toNat * 256 + y.toNat := by simp [offNum, be]
  have e2 : offRest (x :: y :: r) 0 (2 : Nat) = r := by unfold offRest; rw [if_pos ⟨rfl, by omega, by simp; omega⟩]; rfl
  have e3 : offErr (x :: y :: r) 0 (2 : Nat) = 0 := by unfold offErr; rw [if_pos rfl, if_neg (by omega), if_neg (by simp; omega)]
  rw [e1] at h1
  rw [e2, e3] at h2
  exact ⟨h1, h2, h3⟩
theorem u16_no (g b : Nat) (l : List UInt8) (w : World) (h : Rdr w g b l 0) (hl : l.length < 2) : Calls Tryd.prog 114 #[.pointer (some ⟨g, 0, none⟩)] w fun e w' => e = .returned (.int .u16 0) ∧ Rdr w' g b l 7 ∧ Mod [g] w w' := by
  refine (u16_c g b l 0 w h).mono fun e w' hh => ?_
  obtain ⟨h1, h2, h3⟩ := hh
  have e1 : offNum l 0 2 = 0 := by unfold offNum; rw [if_pos rfl, if_neg (by omega)]
  have e2 : offRest l 0 (2 : Nat) = l := by unfold offRest; rw [if_neg (by omega)]
  have e3 : offErr l 0 (2 : Nat) = 7 := by unfold offErr; rw [if_pos rfl, if_neg (by omega), if_pos (by omega)]
  rw [e1] at h1
  rw [e2, e3] at h2
  exact ⟨h1, h2, h3⟩
theorem raw_yes (g b : Nat) (l : List UInt8) (n : Nat) (w : World) (h : Rdr w g b l 0) (hn : n ≤ l.length) : Calls Tryd.prog 120 #[.pointer (some ⟨g, 0, none⟩), .int .i64 (n : Int)] w fun e w' => ∃ A c, e = .returned (.slice A n c) ∧ Reads w' A (l.take n) ∧ Rdr w' g b (l.drop n) 0 ∧ Mod [g] w w' := by
  refine (raw_c g b l 0 n w h).mono fun e w' hh => ?_
  obtain ⟨A, c, h1, _, _, _, h2, h3, h4⟩ := hh
  have e0 : offGot l 0 n = l.take n := by unfold offGot; rw [if_pos ⟨rfl, by omega, by omega⟩]; rfl
  have e2 : offRest l 0 n = l.drop n := by unfold offRest; rw [if_pos ⟨rfl, by omega, by omega⟩]; rfl
  have e3 : offErr l 0 n = 0 := by unfold offErr; rw [if_pos rfl, if_neg (by omega), if_neg (by omega)]
  rw [e0] at h1 h2
  rw [e2, e3] at h3
  rw [show (l.take n).length = n by rw [List.length_take]; omega] at h1
  exact ⟨A, c, h1, h2, h3, h4⟩
theorem raw_no (g b : Nat) (l : List UInt8) (n : Nat) (w : World) (h : Rdr w g b l 0) (hn : l.length < n) : Calls Tryd.prog 120 #[.pointer (some ⟨g, 0, none⟩), .int .i64 (n : Int)] w fun e w' => ∃ A m c, e = .returned (.slice A m c) ∧ Rdr w' g b l 7 ∧ Mod [g] w w' := by
  refine (raw_c g b l 0 n w h).mono fun e w' hh => ?_
  obtain ⟨A, c, h1, _, _, _, h2, h3, h4⟩ := hh
  have e2 : offRest l 0 n = l := by unfold offRest; rw [if_neg (by omega)]
  have e3 : offErr l 0 n = 7 := by unfold offErr; rw [if_pos rfl, if_neg (by omega), if_pos (by omega)]
  rw [e2, e3] at h3
  exact ⟨A, _, c, h1, h3, h4⟩
theorem RdT.read {w v : World} {q g b : Nat} {l l' : List UInt8} {er er' sz : Int} (h : RdT w q g b l er sz) (hr : Rdr v g b l' er') (m : Mod [g] w v) : RdT v q g b l' er' sz := ⟨h.hq.keep m (by simpa using fun e : q = g => h.ng e.symm), hr, h.nb, h.ng⟩
theorem RdT.keep {w v : World} {q g b : Nat} {l : List UInt8} {er sz : Int} {ms : List Nat} (h : RdT w q g b l er sz) (m : Mod ms w v) (h1 : q ∉ ms) (h2 : g ∉ ms) (h3 : b ∉ ms) : RdT v q g b l er sz := ⟨h.hq.keep m h1, h.hr.keep m h2 h3, h.nb, h.ng⟩
theorem RdT.lt {w : World} {q g b : Nat} {l : List UInt8} {er sz : Int} (h : RdT w q g b l er sz) : q < w.heap.size ∧ g < w.heap.size ∧ b < w.heap.size := ⟨h.hq.lt, h.hr.lt.1, h.hr.lt.2.1⟩
/-- What a step of a reader hands back, and what it leaves. -/
def Step (w : World) (q g b : Nat) (l : List UInt8) (sz : Int) (V : Value) (e : Ending) (w' : World) : Prop := e = .returned V ∧ RdT w' q g b l 0 sz ∧ Mod [g] w w'
def Boom (w : World) (g : Nat) (er : Int) (e : Ending) (w' : World) : Prop := e = boom er ∧ Mod [g] w w'
set_option maxRecDepth 1000000 in
theorem small_yes (q g b : Nat) (x : UInt8) (r : List UInt8) (sz : Int) (w : World) (h : RdT w q g b (x :: r) 0 sz) : Calls Tryd.prog 111 #[.pointer (some ⟨q, 0, none⟩)] w (Step w q g b r sz (.int .i64 (x.toNat : Int))) := by
  have hc := h.hq.cell 0
  simp only [List.getElem?_cons_zero] at hc
  go_enter Tryd.func111, Tryd.ntmps111
  go_wp2_with (first
    | (go_at_call 119; refine (u8_yes g b x r w h.hr).mono ?_
       rintro e w1 ⟨rfl, h1, m1⟩
       have hx := Tm.u8_le x
       have h2 := h.read h1 m1
       clear hc)
    | (go_at_call 115; refine (whole_yes q g b r sz w1 h2).mono ?_
       rintro e w2 ⟨rfl, rfl⟩))
  go_ret
  exact ⟨rfl, h2.keep (Mod.drew [] w1) (by simp) (by simp) (by simp), m1.then (Mod.drew [] w1)⟩
set_option maxRecDepth 1000000 in
theorem small_no (q g b : Nat) (sz : Int) (w : World) (h : RdT w q g b [] 0 sz) : Calls Tryd.prog 111 #[.pointer (some ⟨q, 0, none⟩)] w (Boom w g 7) := by
  have hc := h.hq.cell 0
  simp only [List.getElem?_cons_zero] at hc
  go_enter Tryd.func111, Tryd.ntmps111
  go_wp2_with (first
    | (go_at_call 119; refine (u8_no g b w h.hr).mono ?_
       rintro e w1 ⟨rfl, h1, m1⟩
       have h2 := h.read h1 m1
       clear hc)
    | (go_at_call 115; refine (whole_no q g b [] 7 sz w1 h2 rfl).mono ?_
       rintro e w2 ⟨rfl, rfl⟩))
  exact ⟨rfl, rfl, m1.then (Mod.drew [] w1)⟩
set_option maxRecDepth 1000000 in
theorem text_no7 (q g b : Nat) (sz : Int) (w : World) (h : RdT w q g b [] 0 sz) : Calls Tryd.prog 113 #[.pointer (some ⟨q, 0, none⟩)] w (Boom w g 7) := by
  have hc := h.hq.cell 0
  simp only [List.getElem?_cons_zero] at hc
  go_enter Tryd.func113, Tryd.ntmps113
  go_wp2_with (first
    | (go_at_call 111; refine (small_no q g b sz w h).mono ?_
       rintro e w1 ⟨rfl, m1⟩))
  exact ⟨rfl, rfl, m1⟩
set_option maxRecDepth 1000000 in
theorem text_no150 (q g b : Nat) (x : UInt8) (r : List UInt8) (sz : Int) (w : World) (h : RdT w q g b (x :: r) 0 sz) (hn : 64 < x.toNat) : Calls Tryd.prog 113 #[.pointer (some ⟨q, 0, none⟩)] w (Boom w g 150) := by
  have hc := h.hq.cell 0
  simp only [List.getElem?_cons_zero] at hc
  have hd : decide ((x.toNat : Int) ≤ 64) = false := by simp; omega
  go_enter Tryd.func113, Tryd.ntmps113
  go_wp2_with (first
    | (go_at_call 111; refine (small_yes q g b x r sz w h).mono ?_
       rintro e w1 ⟨rfl, h1, m1⟩
       have hx := Tm.u8_le x
       have hc1 := h1.hq.cell 0
       simp only [List.getElem?_cons_zero] at hc1
       clear hc)
    | (go_at_call 112; refine (need_no _ _).mono ?_; rintro e w2 ⟨rfl, rfl⟩))
  exact ⟨rfl, rfl, m1⟩
set_option maxRecDepth 1000000 in
theorem text_no7b (q g b : Nat) (x : UInt8) (r : List UInt8) (sz : Int) (w : World) (h : RdT w q g b (x :: r) 0 sz) (hn : x.toNat ≤ 64) (hl : r.length < x.toNat) : Calls Tryd.prog 113 #[.pointer (some ⟨q, 0, none⟩)] w (Boom w g 7) := by
  have hc := h.hq.cell 0
  simp only [List.getElem?_cons_zero] at hc
  have hd : decide ((x.toNat : Int) ≤ 64) = true := by simp; omega
  go_enter Tryd.func113, Tryd.ntmps113
  go_wp2_with (first
    | (go_at_call 111; refine (small_yes q g b x r sz w h).mono ?_
       rintro e w1 ⟨rfl, h1, m1⟩
       have hx := Tm.u8_le x
       have hc1 := h1.hq.cell 0
       simp only [List.getElem?_cons_zero] at hc1
       clear hc)
    | (go_at_call 112; refine (need_yes _ _).mono ?_; rintro e w2 ⟨rfl, rfl⟩)
    | (go_at_call 120; refine (raw_no g b r x.toNat w1 h1.hr hl).mono ?_
       rintro e w3 ⟨A, m, c, rfl, h3, m3⟩
       have h4 := h1.read h3 m3
       clear hc1)
    | (go_at_call 115; refine (whole_no q g b r 7 sz w3 h4 rfl).mono ?_
       rintro e w4 ⟨rfl, rfl⟩))
  exact ⟨rfl, rfl, (m1.trans m3 (by simp)).then (Mod.drew [] w3)⟩
theorem exec_str {v : World} {o : Oper} {ρ : Operand → Value} {x : Operand} {A : Option Addr} {n c : Nat} {l : List UInt8} (ho : o.op = .convert 62 9 x) (hx : ρ x = .slice A n c) (hn : n = l.length) (hr : Reads v A l) : (execOp ρ o).run Tryd.prog v = .ok (.value (.string ⟨l.toArray⟩)) v := by
  subst hn
  have h := conv_reads (P := Tryd.prog) v 62 9 5 A c l Tryd.underlying62 Tryd.underlying5 Tryd.underlying9 hr
  unfold execOp
  simp [ho, hx, h, Result.andThen, Sem.run_bind]
set_option maxRecDepth 1000000 in
theorem text_yes (q g b : Nat) (x : UInt8) (r : List UInt8) (sz : Int) (w : World) (h : RdT w q g b (x :: r) 0 sz) (hn : x.toNat ≤ 64) (hl : x.toNat ≤ r.length) : Calls Tryd.prog 113 #[.pointer (some ⟨q, 0, none⟩)] w (Step w q g b (r.drop x.toNat) sz (.string ⟨(r.take x.toNat).toArray⟩)) := by
  have hc := h.hq.cell 0
  simp only [List.getElem?_cons_zero] at hc
  have hd : decide ((x.toNat : Int) ≤ 64) = true := by simp; omega
  have hlen : (r.take x.toNat).length = x.toNat := by rw [List.length_take]; omega
  go_enter Tryd.func113, Tryd.ntmps113
  go_wp2_with (first
    | (go_at_call 111; refine (small_yes q g b x r sz w h).mono ?_
       rintro e w1 ⟨rfl, h1, m1⟩
       have hx := Tm.u8_le x
       have hc1 := h1.hq.cell 0
       simp only [List.getElem?_cons_zero] at hc1
       clear hc)
    | (go_at_call 112; refine (need_yes _ _).mono ?_; rintro e w2 ⟨rfl, rfl⟩)
    | (go_at_call 120; refine (raw_yes g b r x.toNat w1 h1.hr hl).mono ?_
       rintro e w3 ⟨A, c, rfl, hr3, h3, m3⟩
       have h4 := h1.read h3 m3
       have mm := (m1.trans m3 (by simp)).then (Mod.drew [] w3)
       have hr4 := hr3.keep (Mod.drew [] w3) (by simp)
       clear hc1)
    | (go_at_call 115; refine (whole_yes q g b _ sz w3 h4).mono ?_
       rintro e w4 ⟨rfl, rfl⟩)
    | (with_reducible refine wpList_ran (o := ⟨some 19, .convert 62 9 (.tmp 18), _, _, _, _⟩) rfl (.string ⟨(r.take x.toNat).toArray⟩) ?_ ?_
       · exact exec_str rfl rfl hlen.symm hr4))
  go_ret
  exact ⟨rfl, h4.keep (Mod.drew [] w3) (by simp) (by simp) (by simp), mm⟩
end Go.Proofs.YtchanildogjhgaaDoor

