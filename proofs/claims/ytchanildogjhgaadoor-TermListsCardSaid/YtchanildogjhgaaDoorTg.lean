/-
  size_all, Size, Check; a row of bytes that grows. My own work.
-/
import Derived.Test.YtchanildogjhgaaDoorTf
import Derived.Test.YtchanildogjhgaaDoorOct
import Derived.Lib.AppendStr
namespace Go.Proofs.YtchanildogjhgaaDoor
open Go.RowKit Go.Shelf
set_option linter.unusedVariables false
theorem ok_mk (k u n : Int) (s : ByteArray) (l : List Tm) : Tm.ok (.mk k u n s l) = (Tm.one k u n s.size l.length && Tm.okAll l) := by rw [Tm.ok]
theorem sz_mk {k u n : Int} {s : ByteArray} {l : List Tm} {deep room : Int} (h : Tm.one k u n s.size l.length = true) (hd : deep ≤ 60) (hr : 1 ≤ room) :
    Tm.sz (.mk k u n s l) deep room = (if Tm.okAll l = true ∧ deep + Tm.depthAll l ≤ 60 ∧ 1 + (Tm.countAll l : Int) ≤ room then 1 + (Tm.countAll l : Int) else 0) := by
  unfold Tm.sz
  rw [ok_mk, h, Tm.depth, Tm.count]
  simp only [Bool.true_and]
  have e : (Tm.okAll l = true ∧ deep + ((1 + Tm.depthAll l : Nat) : Int) ≤ 61 ∧ ((1 + Tm.countAll l : Nat) : Int) ≤ room) ↔ (Tm.okAll l = true ∧ deep + (Tm.depthAll l : Int) ≤ 60 ∧ 1 + (Tm.countAll l : Int) ≤ room) := by
    constructor <;> rintro ⟨a, b, c⟩ <;> exact ⟨a, by omega, by omega⟩
  by_cases hc : Tm.okAll l = true ∧ deep + (Tm.depthAll l : Int) ≤ 60 ∧ 1 + (Tm.countAll l : Int) ≤ room
  · rw [if_pos hc, if_pos (e.2 hc)]; omega
  · rw [if_neg hc, if_neg (fun h => hc (e.1 h))]
theorem sz_not {t : Tm} {deep room : Int} (h : t.ok = false ∨ 60 < deep ∨ room < 1) : Tm.sz t deep room = 0 := by
  unfold Tm.sz
  refine if_neg ?_
  rintro ⟨a, b, c⟩
  have := Tm.depth_pos t
  have := Tm.count_pos t
  rcases h with h | h | h
  · rw [h] at a; cases a
  · omega
  · omega
theorem size_all : ∀ m, SizeAll m
  | 0, t, _, _, _, _, _, h, _, _, _, _, _, _ => by have := Tm.depth_pos t; omega
  | m + 1, .mk k u n s l, cs, S, deep, room, w, h, hT, G, d0, d1, r0, r1 => by
    obtain ⟨A, c, vs, rfl, hr, hlc, hcm, hlm, hs⟩ := hT.row
    rw [Tm.depth] at h
    have hone : Tm.one k u n s.size l.length = (!(flds k == 0) && Tm.may k u n s.size && !(!((l.length : Int) == (Tm.nk k : Int)))) := by
      unfold Tm.one
      rw [flds_zero, Bool.not_not, Bool.not_not]
      congr 1
      rw [Bool.eq_iff_iff, beq_iff_eq, beq_iff_eq]
      omega
    cases h1 : (flds k == 0) with
    | true =>
      rw [h1] at hone
      rw [sz_not (.inl (by rw [ok_mk, hone]; rfl))]
      exact size_1 k u n s A l.length c deep room w G h1
    | false =>
    cases h2 : Tm.may k u n s.size with
    | false =>
      rw [h1, h2] at hone
      rw [sz_not (.inl (by rw [ok_mk, hone]; rfl))]
      exact size_2 k u n s A l.length c deep room w G h1 h2
    | true =>
    cases h3 : (!((l.length : Int) == (Tm.nk k : Int))) with
    | true =>
      rw [h1, h2, h3] at hone
      rw [sz_not (.inl (by rw [ok_mk, hone]; rfl))]
      exact size_3 k u n s A l.length c deep room w G h1 h2 h3
    | false =>
    rw [h1, h2, h3] at hone
    by_cases h4 : 60 < deep
    · rw [sz_not (.inr (.inl h4))]
      exact size_4 k u n s A l.length c deep room w G h1 h2 h3 (decide_eq_true h4)
    by_cases h5 : room < 1
    · rw [sz_not (.inr (.inr h5))]
      exact size_5 k u n s A l.length c deep room w G h1 h2 h3 (decide_eq_false h4) (decide_eq_true h5)
    rw [sz_mk hone (by omega) (by omega)]
    exact size_6 m (size_all m) k u n s A l.length c l vs S deep room w G rfl hr (fun t ht => by have := Tm.mem_depth ht; omega) d0 (by omega) (by omega) r1 hlm h1 h2 h3 (decide_eq_false h4) (decide_eq_false h5)
set_option maxRecDepth 1000000 in
set_option maxHeartbeats 4000000 in
theorem Size_c (t : Tm) (cs : List Value) (S : Nat → Prop) (w : World) (hT : TIs w S t cs) (G : Glob w) : Calls Tryd.prog 49 #[.agg cs.toArray] w fun e w' => e = .returned (.int .i64 (t.sz 1 1200)) ∧ Mod [] w w' := by
  have hcs := hT.len
  have hone := hT.one
  have IH := fun v (mv : Mod [] w v) => size_all _ t cs S 1 1200 v (Nat.le_refl _) (hT.keep mv (by simp)) (G.then mv) (by omega) (by omega) (by omega) (by omega)
  obtain ⟨r, hr⟩ : ∃ r, r = t.sz 1 1200 := ⟨_, rfl⟩
  rw [← hr] at IH ⊢
  clear hT G hr
  go_enter Tryd.func49, Tryd.ntmps49
  go_wp2_with (first
    | (with_reducible refine wpList_boxes (o := ⟨some 1, .box 24 (.tmp 0), _, _, _, _⟩) rfl 24 (.tmp 0) rfl _ rfl (cs) rfl ?_; intro w1 hb1 m1 z1; replace z1 := Lib.hid z1
       obtain ⟨b1, hq1⟩ : ∃ b, b = w.heap.size := ⟨_, rfl⟩
       rw [← hq1] at hb1 ⊢
       clear z1 hq1)
    | (with_reducible refine wpList_loads (o := ⟨some 3, .load 24 (.tmp 1), _, _, _, _⟩) rfl 24 (.tmp 1) rfl b1 (0) (cs) rfl (Cells.of_holds hb1) _ Tryd.underlying24 rfl (size24' hcs) (.agg (cs).toArray) rfl ?_)
    | (go_at_call 74
       refine (IH w1 m1).mono ?_
       rintro e w5 ⟨rfl, m5⟩
       replace m5 := m1.then m5))
  go_ret
  exact ⟨rfl, m5⟩
theorem sz_right (t : Tm) : (t.sz 1 1200 == 0) = !t.right := by
  unfold Tm.sz Tm.right
  have := Tm.count_pos t
  by_cases h : t.ok = true ∧ (1 : Int) + t.depth ≤ 61 ∧ (t.count : Int) ≤ 1200
  · rw [if_pos h, h.1]
    have e1 : ((t.count : Int) == 0) = false := by simp; omega
    have e2 : t.depth ≤ 60 := by omega
    have e3 : t.count ≤ 1200 := by omega
    simp [e1, e2, e3]
  · rw [if_neg h]
    simp only [beq_self_eq_true, Bool.true_eq, Bool.not_eq_true', Bool.and_eq_false_iff, decide_eq_false_iff_not]
    by_cases h1 : t.ok = true
    · by_cases h2 : t.depth ≤ 60
      · right; intro h3; exact h ⟨h1, by omega, by omega⟩
      · left; right; exact h2
    · left; left; simpa using h1
/-- Right or wrong, by the number of the error. -/
def chk (t : Tm) : Int := if t.right = true then 0 else 150
set_option maxRecDepth 1000000 in
set_option maxHeartbeats 4000000 in
theorem check_c (t : Tm) (cs : List Value) (S : Nat → Prop) (w : World) (hT : TIs w S t cs) (G : Glob w) : Calls Tryd.prog 32 #[.agg cs.toArray] w fun e w' => e = .returned (.int .i64 (chk t)) ∧ Mod [] w w' := by
  have hcs := hT.len
  have hone := hT.one
  have IH := fun v (mv : Mod [] w v) => Size_c t cs S v (hT.keep mv (by simp)) (G.then mv)
  have hz := sz_right t
  unfold chk
  obtain ⟨r, hr⟩ : ∃ r, r = t.sz 1 1200 := ⟨_, rfl⟩
  rw [← hr] at IH hz
  clear hT G hr
  cases hb : t.right with
  | true =>
    rw [hb] at hz
    have hz' : (r == 0) = false := hz
    rw [if_pos rfl]
    clear hz hb
    go_enter Tryd.func32, Tryd.ntmps32
    go_wp2_with (first
    | (with_reducible refine wpList_boxes (o := ⟨some 1, .box 24 (.tmp 0), _, _, _, _⟩) rfl 24 (.tmp 0) rfl _ rfl (cs) rfl ?_; intro w1 hb1 m1 z1; replace z1 := Lib.hid z1
       obtain ⟨b1, hq1⟩ : ∃ b, b = w.heap.size := ⟨_, rfl⟩
       rw [← hq1] at hb1 ⊢
       clear z1 hq1)
    | (with_reducible refine wpList_loads (o := ⟨some 3, .load 24 (.tmp 1), _, _, _, _⟩) rfl 24 (.tmp 1) rfl b1 (0) (cs) rfl (Cells.of_holds hb1) _ Tryd.underlying24 rfl (size24' hcs) (.agg (cs).toArray) rfl ?_)
    | (go_at_call 49
       refine (IH w1 m1).mono ?_
       rintro e w5 ⟨rfl, m5⟩
       replace m5 := m1.then m5))
    go_ret
    exact ⟨rfl, m5⟩
  | false =>
    rw [hb] at hz
    obtain rfl : r = 0 := by simpa using hz
    rw [if_neg (by simp)]
    clear hz hb
    go_enter Tryd.func32, Tryd.ntmps32
    go_wp2_with (first
    | (with_reducible refine wpList_boxes (o := ⟨some 1, .box 24 (.tmp 0), _, _, _, _⟩) rfl 24 (.tmp 0) rfl _ rfl (cs) rfl ?_; intro w1 hb1 m1 z1; replace z1 := Lib.hid z1
       obtain ⟨b1, hq1⟩ : ∃ b, b = w.heap.size := ⟨_, rfl⟩
       rw [← hq1] at hb1 ⊢
       clear z1 hq1)
    | (with_reducible refine wpList_loads (o := ⟨some 3, .load 24 (.tmp 1), _, _, _, _⟩) rfl 24 (.tmp 1) rfl b1 (0) (cs) rfl (Cells.of_holds hb1) _ Tryd.underlying24 rfl (size24' hcs) (.agg (cs).toArray) rfl ?_)
    | (go_at_call 49
       refine (IH w1 m1).mono ?_
       rintro e w5 ⟨rfl, m5⟩
       replace m5 := m1.then m5))
    go_ret
    exact ⟨rfl, m5⟩
theorem info5 : ∃ i : TypeInfo, Tryd.prog.info? 5 = some i ∧ i.zero = some (.int .u8 0) ∧ i.size = 1 ∧ i.bytes = 1 := info_parts u8_zero
theorem Owns.ne {w : World} {B : Nat} {e : TypeId} {A : Option Addr} {c g : Nat} {l : List UInt8} {t : TypeId} {cs : List Value} (h : Owns w B e A c l) (h' : Holds w g t cs) (ht : e ≠ t) : ∀ a, A = some a → a.block ≠ g := by
  rcases h.2 with ⟨hv, hn⟩ | ⟨k, cap, cur, hv, hb, hg, h1, h2, _⟩
  · injection hv with h1 h2 h3
    subst h1
    simp
  · injection hv with h3 h4 h5
    subst h3
    rintro _ ⟨⟩ rfl
    unfold Holds at h'
    rw [hg] at h'
    injection h' with h'
    injection h' with _ hh
    exact ht hh
theorem mem_blk {A : Option Addr} {i : Nat} (h : i ∈ blk A) : ∃ a, A = some a ∧ a.block = i := by
  cases A with
  | none => simp [blk] at h
  | some a => exact ⟨a, rfl, by have h1 : i = a.block := by simpa [blk] using h
                                exact h1.symm⟩
theorem blk_of {a : Addr} : a.block ∈ blk (some a) := by simp [blk]
theorem Owns.nblk {w : World} {B : Nat} {e : TypeId} {A : Option Addr} {c g : Nat} {l : List UInt8} {t : TypeId} {cs : List Value} (h : Owns w B e A c l) (h' : Holds w g t cs) (ht : e ≠ t) : g ∉ blk A := fun hm => by
  obtain ⟨a, ha, rfl⟩ := mem_blk hm
  exact h.ne h' ht a ha rfl
theorem appendS (w : World) (ty : TypeId) (A : Option Addr) (c : Nat) (l : List UInt8) (hown : Owns w 0 5 A c l) (s : ByteArray) (hl : l.length + s.size ≤ 140737488355328) :
    ∃ A' c' v, (Builtin.append_ #[62, 9] ty #[.slice A l.length c, .string s]).run Tryd.prog w = .ok (.slice A' (l ++ s.data.toList).length c') v ∧ Owns v 0 5 A' c' (l ++ s.data.toList) ∧ Mod (blk A) w v ∧ (∀ a, A' = some a → a.block ∈ blk A ∨ w.heap.size ≤ a.block) := by
  obtain ⟨i, hi, hz, hs, hb⟩ := info5
  have h63 : l.length + s.size ≤ maxLen := by unfold maxLen; omega
  have hsl : s.data.toList.length = s.size := by simp
  have key : ∀ B, B ≤ w.heap.size → w.ownsRow B 5 1 (.slice A l.length c) l.length (l.map oct) → ∃ A' c' v, (Builtin.append_ #[62, 9] ty #[.slice A l.length c, .string s]).run Tryd.prog w = .ok (.slice A' (l ++ s.data.toList).length c') v ∧ Owns v B 5 A' c' (l ++ s.data.toList) ∧ Mod (blk A) w v := by
    intro B hB ho
    obtain ⟨v', w', hr, h2, h3, _⟩ := Lib.run_append_own_string (P := Tryd.prog) w B 62 9 ty 5 i Tryd.underlying62 Tryd.underlying9 hi hz hs hb _ _ _ ho s h63 hl hB
    have e : l.map oct ++ Lib.strCells s = (l ++ s.data.toList).map oct := by rw [List.map_append]; rfl
    have en : l.length + s.size = (l ++ s.data.toList).length := by rw [List.length_append, hsl]
    rw [e, en] at h2
    have hv : ∃ A' c', v' = .slice A' (l ++ s.data.toList).length c' := by
      rcases h2.2 with ⟨hv, hn⟩ | ⟨g, cap, cur, hv, _⟩
      · exact ⟨none, 0, by rw [hv, hn]⟩
      · exact ⟨_, _, hv⟩
    obtain ⟨A', c', rfl⟩ := hv
    refine ⟨A', c', w', hr, h2, h3.os, h3.tape, h3.output, h3.size, fun j hj hn => h3.block j hj ?_⟩
    intro hh
    cases A with
    | none => simp [Value.ownBlock] at hh
    | some a => simp [Value.ownBlock] at hh; exact hn (by rw [hh]; exact blk_of)
  obtain ⟨A', c', v, hr, ho, hm⟩ := key 0 (Nat.zero_le _) hown
  refine ⟨A', c', v, hr, ho, hm, ?_⟩
  have hown2 := hown.2
  rcases hown2 with ⟨hv, hn⟩ | ⟨g, cap, cur, hv, hb0, hg, hnc, hcm, hcs, htake⟩
  · injection hv with h1 h2 h3
    subst h1 h3
    have hl0 : l = [] := List.eq_nil_of_length_eq_zero hn
    subst hl0
    obtain ⟨A2, c2, v2, hr2, ho2, _⟩ := key w.heap.size (Nat.le_refl _) (World.ownsRow_nil w w.heap.size 5 1)
    rw [hr] at hr2
    injection hr2 with e1 e2
    injection e1 with e1 _ _
    subst e1
    intro a ha
    exact .inr ((ho2.fits.2.2 a ha).1)
  · injection hv with h1 h2 h3
    subst h1 h3
    by_cases hroom : l.length + s.size ≤ c
    · have hcz : cur.size = c := by simpa using hcs
      have hr2 := Lib.run_append_room_string (P := Tryd.prog) w 62 9 ty 5 i Tryd.underlying62 Tryd.underlying9 hi hs g l.length c cur hg s hroom (by omega)
      rw [hr] at hr2
      injection hr2 with e1 e2
      injection e1 with e1 _ _
      subst e1
      rintro a ⟨⟩
      exact .inl (by simp [blk])
    · have holds : ∀ j u, (l.map oct)[j]? = some u → w.cell? ((⟨g, 0, none⟩ : Addr).add j) = some u := World.ownsRow.cells (g := g) hown rfl
      have hr2 := Lib.run_append_grow_string (P := Tryd.prog) w 62 9 ty 5 i (.int .u8 0) Tryd.underlying62 Tryd.underlying9 hi hz ⟨g, 0, none⟩ l.length c (l.map oct) (by rw [hs]; simp) holds s (by omega) (by omega) (by rw [hb]; exact growslice_fits (by omega) (by omega))
      rw [hr] at hr2
      injection hr2 with e1 e2
      injection e1 with e1 _ _
      subst e1
      rintro a ⟨⟩
      exact .inr (Nat.le_refl _)
end Go.Proofs.YtchanildogjhgaaDoor
