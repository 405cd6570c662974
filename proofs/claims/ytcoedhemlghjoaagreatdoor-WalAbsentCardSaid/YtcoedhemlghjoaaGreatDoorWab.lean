/-
  WalAbsent: without a disk, and of a log that is not there. The walk; my own work.
-/
import Derived.Test.YtcoedhemlghjoaaGreatDoorBv
namespace Go.Proofs.YtcoedhemlghjoaaGreatDoor
open Go.RowKit Go.Shelf
attribute [local go_sem] Oper.semAt_some
theorem format_nil (a : Int) (w : World) : Calls Tryz.prog 17 #[.pointer none, .int .i64 a] w fun r w' => r = .returned (.tuple #[.pointer none, .int .i64 1]) ∧ w' = w := by
  go_enter Tryz.func17, Tryz.ntmps17
  go_wp2_with fail
  go_ret2
  exact ⟨rfl, rfl⟩
theorem open_nil (w : World) : Calls Tryz.prog 22 #[.pointer none] w fun r w' => r = .returned (.tuple #[.pointer none, .int .i64 1]) ∧ w' = w := by
  go_enter Tryz.func22, Tryz.ntmps22
  go_wp2_with fail
  go_ret2
  exact ⟨rfl, rfl⟩
theorem zero4 : ∀ w, (zeroValue 4).run Tryz.prog w = .ok (.bool false) w := (zero_of_info (n := 1) (by kernel_rfl)).1
/-- A range over what tells nothing. -/
theorem none_stops (w : World) : SeqStopsK Fence.wide 4 Tryz.prog 71 #[] (fun _ : Unit => #[.int .i64 0, .slice none 0 0]) (KeepL [] 0) (fun xs => xs = []) (fun _ => False) 0 w := fun y J Jx W _ _ _ _ h0 => by
  refine (callsIn_wide.2 (all71_c (.func (.yield y) #[] #[]) W)).mono ?_
  rintro r W' ⟨h1, rfl⟩
  exact ⟨h1, .inl ⟨[], rfl, h0⟩⟩
set_option maxRecDepth 1000000 in
set_option maxHeartbeats 4000000 in
theorem absent_w (c s : List UInt32) (B : Option Addr) (nb cb : Nat) (area : Int) (w : World) (G : Glob c s w) : Calls Tryz.prog 5 #[.slice B nb cb, .int .i64 area] w fun r w' => r = .returned (.bool true) ∧ Mod [] w w' := by
  refine (callsIn_wide (n := 5)).1 ?_
  refine callsIn_of_wp_marks Tryz.func5 rfl trivial ?_ rfl
  simp only [Tryz.ntmps5, List.size_toArray, List.length_cons, List.length_nil, Nat.reduceAdd, Nat.reduceSub, Array.replicate_succ, Array.replicate_zero, List.push_toArray, List.append_toArray, List.nil_append, List.cons_append]
  refine wpIn_wide.2 ?_
  go_wp2_with (refine wpList_alloc1 (o := ⟨some 4, .alloc 4, _, _, _, _⟩) rfl 4 rfl (.bool false) rfl zero4 ?_; intro w1 hb1 m1 z1; replace z1 := Lib.hid z1)
  obtain ⟨b, eb⟩ : ∃ b, b = w.heap.size := ⟨_, rfl⟩
  rw [← eb] at hb1
  rw [← eb]
  have X1 := wakes_c c s w1 (G.keep m1)
  replace eb := Lib.hid eb
  refine X1.mono ?_
  rintro r w2 ⟨rfl, m2⟩
  replace hb1 := hb1.keep m2 (by simp)
  replace m1 := m1.then m2
  clear X1 m2 z1
  go_wp2_with fail
  refine (format_nil area w2).mono ?_
  rintro r w3 ⟨rfl, rfl⟩
  go_wp2_with fail
  refine (open_nil w3).mono ?_
  rintro r w4 ⟨rfl, rfl⟩
  go_wp2_with fail
  refine (all23_nil w4).mono ?_
  rintro r w5 ⟨rfl, rfl⟩
  go_wp2_with fail
  refine (wpIn_wide (n := 5)).1 ?_
  refine wpIn_rangeFunc_ownH (F := Fence.wide) (n := 5) rfl (by omega) (gf := 71) (lb := #[]) rfl trivial (enters_of Tryz.func71 (by kernel_rfl) rfl)
    (none_stops w5) (fun h k => h.trans k) (fun W l o o' hl ho h1 h2 => ?hKb) (Below.refl _ _) (fun _ => rfl)
    (fun _ W => Holds W b 4 [.bool false] ∧ Mod [] w5 W) (fun _ _ _ => False)
    (fun s A B row hs hg hr => ?hI) (fun cd s A B row hs hg hr => hs.elim) ⟨hb1, Mod.refl _ _⟩
    (fun _ _ _ => True) (fun q a' s A B row hs hg hr => trivial) ?assign ?body ?done ?stop
  case hKb => exact ⟨by simp [World.putObj], fun k hk _ _ => by omega⟩
  case hI => exact ⟨holds_own hs.1 hg (fun r e => (hr r e).2), modl_own hs.2 hg (fun r e => (hr r e).1)⟩
  case assign =>
    intro l pre q W K hI hK
    exact wpIn_skip (hK _ _ (KeepsFrom.refl _ _) (KeepL.refl _ _ _) hI trivial)
  case body =>
    intro l pre q a' W hl _ hI _ hlt
    exact absurd hlt (Nat.not_lt_zero _)
  case stop =>
    intro D cd pre W hD hS
    exact hS.elim
  case done =>
    rintro D xs W hD rfl ⟨h1, m5⟩ hK
    have hbD : b ≠ D := by have := hb1.lt; omega
    have HV := Lib.hid (And.intro h1 (And.intro (m1.then m5) (And.intro hK hbD)))
    clear h1 m5 hK hbD
    go_wp2_with fail
    refine (append_nil B nb cb W).mono ?_
    rintro r w6 ⟨rfl, m6⟩
    go_wp2_with fail
    refine (ck_nil B nb cb w6).mono ?_
    rintro r w7 ⟨rfl, m7⟩
    have h7 := HV.out.1.keep (m6.then m7) (by simp)
    have M7 := HV.out.2.1.then (m6.then m7)
    have K7 : w7.heap[D]? = some (.deferred (some [])) := ((m6.then m7).block D (Array.getElem?_eq_some_iff.1 HV.out.2.2.1).1 (by simp)).trans HV.out.2.2.1
    have hbD := HV.out.2.2.2
    clear m6 m7 HV
    go_wp2_with fail
    refine (snap26_nil w7).mono ?_
    rintro r w8 ⟨rfl, rfl⟩
    go_wp2_with fail
    refine (len27_nil w8).mono ?_
    rintro r w9 ⟨rfl, rfl⟩
    go_wp2_with fail
    refine (left28_nil w9).mono ?_
    rintro r w10 ⟨rfl, rfl⟩
    go_wp2_with fail
    refine (turn29_nil w10).mono ?_
    rintro r w11 ⟨rfl, rfl⟩
    go_wp2_with fail
    refine (broken30_nil w11).mono ?_
    rintro r w12 ⟨rfl, rfl⟩
    go_wp2_with fail
    refine (disk21_nil w12).mono ?_
    rintro r w13 ⟨rfl, rfl⟩
    have e2 : w13.cell? ⟨b, 0, none⟩ = some (.bool false) := h7.cell 0
    have e3 : w13.frozen? ⟨b, 0, none⟩ = false := h7.free 0
    have HV := Lib.hid (And.intro h7 (And.intro M7 (And.intro K7 hbD)))
    clear h7 M7 K7 hbD
    go_wp2_with fail
    obtain ⟨h7, M7, K7, hbD⟩ := HV.out
    have m2 : Mod [b] w13 (w13.setCell ⟨b, 0, none⟩ (.bool true)) := Mod.setCell _ (by simp) _
    have h8 := h7.set 0 (.bool true)
    have K8 : (w13.setCell ⟨b, 0, none⟩ (.bool true)).heap[D]? = some (.deferred (some [])) := (m2.block D (Array.getElem?_eq_some_iff.1 K7).1 (by simp; exact fun e => hbD e.symm)).trans K7
    have M8 : Mod [] w (w13.setCell ⟨b, 0, none⟩ (.bool true)) := M7.trans m2 (fun i hi h => by have := eb.out; simp at h; omega)
    generalize w13.setCell ⟨b, 0, none⟩ (.bool true) = v2 at *
    have hM : Marks [D] v2 := ⟨by simp, fun E hE => by simp at hE; subst hE; exact K8⟩
    refine leaves_marks [D] v2 hM (fun w8 m8 hs8 => ?_)
    have hb8 := h8.keep m8 (hM.not_cells h8)
    refine ⟨_, results_cell_one rfl _ _ b 4 (0, 0) _ rfl hb8 Tryz.underlying4 rfl, rfl, ?_⟩
    refine M8.trans m8 (fun i hi h => ?_)
    simp at h
    subst h
    have := hb1.lt
    have := m1.size
    omega
end Go.Proofs.YtcoedhemlghjoaaGreatDoor
