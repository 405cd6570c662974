/-
  lay, whatever the term; Encode. My own work.
-/
import Derived.Test.YtchanildogjhgaaDoorTl
namespace Go.Proofs.YtchanildogjhgaaDoor
open Go.RowKit Go.Shelf
set_option linter.unusedVariables false
theorem head_len {k u n : Int} {s : ByteArray} {c : Nat} (h : Tm.one k u n s.size c = true) : (Tm.head k u n s).length ≤ 69 := by
  obtain ⟨_, ⟨hs, _, _⟩, _⟩ := Tm.one_iff.1 h
  unfold Tm.head
  cases hT : Tm.hasT k <;> cases hU : Tm.hasU k <;> cases hN : Tm.hasN k <;> rw [hT] at hs <;> simp at hs ⊢ <;> omega
mutual
theorem bytes_len : ∀ t : Tm, t.ok = true → t.bytes.length ≤ 69 * t.count
  | .mk k u n s l, h => by
    rw [ok_mk, Bool.and_eq_true] at h
    have h1 := head_len h.1
    have h2 := bytesAll_len l h.2
    rw [Tm.bytes, Tm.count, List.length_append]
    omega
theorem bytesAll_len : ∀ l : List Tm, Tm.okAll l = true → (Tm.bytesAll l).length ≤ 69 * Tm.countAll l
  | [], _ => by simp [Tm.bytesAll]
  | t :: l, h => by
    rw [Tm.okAll, Bool.and_eq_true] at h
    have h1 := bytes_len t h.1
    have h2 := bytesAll_len l h.2
    rw [Tm.bytesAll, Tm.countAll, List.length_append]
    omega
end
theorem lay_all : ∀ m, LayAll m
  | 0, t, _, _, _, _, _, _, h, _, _, _, _, _, _, _ => by have := Tm.depth_pos t; omega
  | m + 1, .mk k u n s l, cs, S, A, c, l0, w, h, hok, hT, hS, G, h0, hO, hL => by
    obtain ⟨K, cc, vs, rfl, hr, hlc, hcm, hlm, hs⟩ := hT.row
    rw [Tm.depth] at h
    rw [ok_mk, Bool.and_eq_true] at hok
    obtain ⟨hk, ⟨hsz, hu, hn⟩, hnk⟩ := Tm.one_iff.1 hok.1
    have hd : ∀ t ∈ l, t.depth ≤ m ∧ t.ok = true := fun t ht => ⟨by have := Tm.mem_depth ht; omega, Tm.mem_ok ht hok.2⟩
    have hLL : (l0 ++ Tm.bytes (.mk k u n s l)).length ≤ 1000000000 := by rw [List.length_append]; exact hL
    have hL0 : l0.length ≤ 1000000000 := by omega
    rw [Tm.bytes_mk] at hLL ⊢
    rcases kind_cases hk with rfl | rfl | rfl | rfl | rfl | rfl | rfl | rfl
    · exact lay_T m (lay_all m) 1 u n s K l.length cc l vs S A c l0 w rfl hlm hr hd hS G h0 hO hL0 (by decide) (by decide) (by simpa [Tm.hasT] using hsz) (by decide) (by decide) (by decide) _ (by simp [Tm.hasT, Tm.hasU, Tm.hasN]) hLL
    · exact lay_UN m (lay_all m) 2 u n s K l.length cc l vs S A c l0 w rfl hlm hr hd hS G h0 hO hL0 (by decide) (by decide) (by have := hu.1; simp [Tm.hasU] at this; omega) (by have := hu.2; simp [Tm.hasU] at this; omega) hn.1 (by simpa [Tm.hasN] using hn.2) (by decide) (by decide) (by decide) _ (by simp [Tm.hasT, Tm.hasU, Tm.hasN]) hLL
    · exact lay_U m (lay_all m) 3 u n s K l.length cc l vs S A c l0 w rfl hlm hr hd hS G h0 hO hL0 (by decide) (by decide) (by have := hu.1; simp [Tm.hasU] at this; omega) (by have := hu.2; simp [Tm.hasU] at this; omega) (by decide) (by decide) (by decide) _ (by simp [Tm.hasT, Tm.hasU, Tm.hasN]) hLL
    · exact lay_O m (lay_all m) 4 u n s K l.length cc l vs S A c l0 w rfl hlm hr hd hS G h0 hO hL0 (by decide) (by decide) (by decide) (by decide) (by decide) _ (by simp [Tm.hasT, Tm.hasU, Tm.hasN]) hLL
    · exact lay_O m (lay_all m) 5 u n s K l.length cc l vs S A c l0 w rfl hlm hr hd hS G h0 hO hL0 (by decide) (by decide) (by decide) (by decide) (by decide) _ (by simp [Tm.hasT, Tm.hasU, Tm.hasN]) hLL
    · exact lay_O m (lay_all m) 6 u n s K l.length cc l vs S A c l0 w rfl hlm hr hd hS G h0 hO hL0 (by decide) (by decide) (by decide) (by decide) (by decide) _ (by simp [Tm.hasT, Tm.hasU, Tm.hasN]) hLL
    · exact lay_U m (lay_all m) 7 u n s K l.length cc l vs S A c l0 w rfl hlm hr hd hS G h0 hO hL0 (by decide) (by decide) (by have := hu.1; simp [Tm.hasU] at this; omega) (by have := hu.2; simp [Tm.hasU] at this; omega) (by decide) (by decide) (by decide) _ (by simp [Tm.hasT, Tm.hasU, Tm.hasN]) hLL
    · exact lay_UN m (lay_all m) 8 u n s K l.length cc l vs S A c l0 w rfl hlm hr hd hS G h0 hO hL0 (by decide) (by decide) (by have := hu.1; simp [Tm.hasU] at this; omega) (by have := hu.2; simp [Tm.hasU] at this; omega) hn.1 (by simpa [Tm.hasN] using hn.2) (by decide) (by decide) (by decide) _ (by simp [Tm.hasT, Tm.hasU, Tm.hasN]) hLL
/-- Bytes of the call's own, made since. -/
def Made (w : World) (A : Option Addr) (c : Nat) (l : List UInt8) (w' : World) : Prop := Owns w' 0 5 A c l ∧ Mod [] w w' ∧ (∀ a, A = some a → w.heap.size ≤ a.block)
set_option maxRecDepth 1000000 in
set_option maxHeartbeats 4000000 in
theorem encode_no (t : Tm) (cs : List Value) (S : Nat → Prop) (w : World) (hT : TIs w S t cs) (G : Glob w) (hr : t.right = false) : Calls Tryd.prog 50 #[.agg cs.toArray] w fun e w' => e = .returned (.tuple #[.slice none 0 0, .int .i64 150]) ∧ Mod [] w w' := by
  have hcs := hT.len
  have hone := hT.one
  have CC := fun v (mv : Mod [] w v) => check_c t cs S v (hT.keep mv (by simp)) (G.then mv)
  have hc : chk t = 150 := by unfold chk; rw [hr]; rfl
  rw [hc] at CC
  clear hT G hr hc
  go_enter Tryd.func50, Tryd.ntmps50
  go_wp2_with (first
    | (with_reducible refine wpList_boxes (o := ⟨some 1, .box 24 (.tmp 0), _, _, _, _⟩) rfl 24 (.tmp 0) rfl _ rfl (cs) rfl ?_; intro w1 hb1 m1 z1; replace z1 := Lib.hid z1
       obtain ⟨b1, hq1⟩ : ∃ b, b = w.heap.size := ⟨_, rfl⟩
       rw [← hq1] at hb1 ⊢
       clear z1 hq1)
    | (with_reducible refine wpList_loads (o := ⟨some 5, .load 24 (.tmp 1), _, _, _, _⟩) rfl 24 (.tmp 1) rfl b1 (0) (cs) rfl (Cells.of_holds hb1) _ Tryd.underlying24 rfl (size24' hcs) (.agg (cs).toArray) rfl ?_)
    | (go_at_call 32
       refine (CC w1 m1).mono ?_
       rintro e w5 ⟨rfl, m5⟩
       have m6 := m1.then m5
       replace hb1 := hb1.keep m5 (by simp)
       clear m1 m5))
  go_ret2
  exact ⟨rfl, m6⟩
set_option maxRecDepth 1000000 in
set_option maxHeartbeats 4000000 in
theorem encode_yes (t : Tm) (cs : List Value) (S : Nat → Prop) (w : World) (hT : TIs w S t cs) (hS : ∀ g, S g → g < w.heap.size) (G : Glob w) (hr : t.right = true) : Calls Tryd.prog 50 #[.agg cs.toArray] w fun e w' => ∃ A c, e = .returned (.tuple #[.slice A t.bytes.length c, .int .i64 0]) ∧ Made w A c t.bytes w' := by
  have hcs := hT.len
  have hone := hT.one
  have CC := fun v (mv : Mod [] w v) => check_c t cs S v (hT.keep mv (by simp)) (G.then mv)
  have hc : chk t = 0 := by unfold chk; rw [hr]; rfl
  have hlen : t.bytes.length ≤ 1000000000 := by
    unfold Tm.right at hr
    simp only [Bool.and_eq_true, decide_eq_true_eq] at hr
    have := bytes_len t hr.1.1
    omega
  have hok : t.ok = true := by
    unfold Tm.right at hr
    simp only [Bool.and_eq_true] at hr
    exact hr.1.1
  have LC := fun v (mv : Mod [] w v) => lay_all _ t cs S none 0 [] v (Nat.le_refl _) hok (hT.keep mv (by simp)) (fun g hg => ⟨Nat.lt_of_lt_of_le (hS g hg) mv.size, by simp [blk]⟩) (G.then mv) (by simp [blk]) (Owns.nil _ _ _) (by simpa using hlen)
  rw [hc] at CC
  simp only [List.nil_append, List.length_nil] at LC
  clear hT G hr hc hS hlen hok
  go_enter Tryd.func50, Tryd.ntmps50
  go_wp2_with (first
    | (with_reducible refine wpList_boxes (o := ⟨some 1, .box 24 (.tmp 0), _, _, _, _⟩) rfl 24 (.tmp 0) rfl _ rfl (cs) rfl ?_; intro w1 hb1 m1 z1; replace z1 := Lib.hid z1
       obtain ⟨b1, hq1⟩ : ∃ b, b = w.heap.size := ⟨_, rfl⟩
       rw [← hq1] at hb1 ⊢
       clear z1 hq1)
    | (with_reducible refine wpList_loads (o := ⟨some 5, .load 24 (.tmp 1), _, _, _, _⟩) rfl 24 (.tmp 1) rfl b1 (0) (cs) rfl (Cells.of_holds hb1) _ Tryd.underlying24 rfl (size24' hcs) (.agg (cs).toArray) rfl ?_)
    | (with_reducible refine wpList_loads (o := ⟨some 10, .load 24 (.tmp 1), _, _, _, _⟩) rfl 24 (.tmp 1) rfl b1 (0) (cs) rfl (Cells.of_holds hb1) _ Tryd.underlying24 rfl (size24' hcs) (.agg (cs).toArray) rfl ?_)
    | (go_at_call 32
       refine (CC w1 m1).mono ?_
       rintro e w5 ⟨rfl, m5⟩
       have m6 := m1.then m5
       replace hb1 := hb1.keep m5 (by simp)
       clear m1 m5)
    | (go_at_call 75
       refine (LC _ m6).mono ?_
       rintro e w7 ⟨A', c', rfl, o7, m7, f7⟩))
  go_ret2
  exact ⟨A', c', rfl, o7, m6.trans m7 (by simp [blk]), fun a ha => by
    rcases f7 a ha with h | h
    · simp [blk] at h
    · exact Nat.le_trans m6.size h⟩
end Go.Proofs.YtchanildogjhgaaDoor
