/-
  My own texts Tg Th Tl Tj, one behind the other.
-/
import Derived.Test.YtchanildogjhgaaDoorTf
import Derived.Test.YtchanildogjhgaaDoorOct
import Derived.Lib.AppendStr
namespace Go.Proofs.YtchanildogjhgaaDoor
section
open Go.RowKit Go.Shelf
set_option linter.unusedVariables false
theorem ok_mk (k u n : Int) (s : ByteArray) (l : List Tm) : Tm.ok (.mk k u n s l) = (Tm.one k u n s.size l.length && Tm.okAll l) := by rw [Tm.ok]
theorem sz_mk {k u n : Int} {s : ByteArray} {l : List Tm} {deep room : Int} (h : Tm.one k u n s.size l.length = true) (hd : deep ≤ 60) (hr : 1 ≤ room) :
    Tm.sz (.mk k u n s l) deep room = (if Tm.okAll l = true ∧ deep + Tm.depthAll l ≤ 60 ∧ 1 + (Tm.countAll l : Int) ≤ room then 1 + (Tm.countAll l : Int) else 0) := by
  unfold Tm.sz
  rw [ok_mk, h, Tm.depth, Tm.count]
  simp only [Bool.true_and]
  have e : (Tm.okAll l = true ∧ deep + ((1 + Tm.depthAll l : Nat) : Int) ≤ 61 ∧ ((1 + Tm.countAll l : Nat) : Int) ≤ room) ↔ (Tm.okAll l = true ∧ deep + (Tm.depthAll l : Int) ≤ 60 ∧ 1 + (Tm.countAll l : Int) ≤ room) := by
    constructor <;> rintro ⟨a, b, c⟩ <;> exact ⟨a, by omega, by omega⟩
  by_cases hc : Tm.okAll l = true ∧ deep + (Tm.depthAll l : Int) ≤ 60 ∧ 1 + (Tm.countAll l : Int) ≤ room
  · rw [if_pos hc, if_pos (e.2 hc)]; omega
  · rw [if_neg hc, if_neg (fun h => hc (e.1 h))]
theorem sz_not {t : Tm} {deep room : Int} (h : t.ok = false ∨ 60 < deep ∨ room < 1) : Tm.sz t deep room = 0 := by
  unfold Tm.sz
  refine if_neg ?_
  rintro ⟨a, b, c⟩
  have := Tm.depth_pos t
  have := Tm.count_pos t
  rcases h with h | h | h
  · rw [h] at a; cases a
  · omega
  · omega
theorem size_all : ∀ m, SizeAll m
  | 0, t, _, _, _, _, _, h, _, _, _, _, _, _ => by have := Tm.depth_pos t; omega
  | m + 1, .mk k u n s l, cs, S, deep, room, w, h, hT, G, d0, d1, r0, r1 => by
    obtain ⟨A, c, vs, rfl, hr, hlc, hcm, hlm, hs⟩ := hT.row
    rw [Tm.depth] at h
    have hone : Tm.one k u n s.size l.length = (!(flds k == 0) && Tm.may k u n s.size && !(!((l.length : Int) == (Tm.nk k : Int)))) := by
      unfold Tm.one
      rw [flds_zero, Bool.not_not, Bool.not_not]
      congr 1
      rw [Bool.eq_iff_iff, beq_iff_eq, beq_iff_eq]
      omega
    cases h1 : (flds k == 0) with
    | true =>
      rw [h1] at hone
      rw [sz_not (.inl (by rw [ok_mk, hone]; rfl))]
      exact size_1 k u n s A l.length c deep room w G h1
    | false =>
    cases h2 : Tm.may k u n s.size with
    | false =>
      rw [h1, h2] at hone
      rw [sz_not (.inl (by rw [ok_mk, hone]; rfl))]
      exact size_2 k u n s A l.length c deep room w G h1 h2
    | true =>
    cases h3 : (!((l.length : Int) == (Tm.nk k : Int))) with
    | true =>
      rw [h1, h2, h3] at hone
      rw [sz_not (.inl (by rw [ok_mk, hone]; rfl))]
      exact size_3 k u n s A l.length c deep room w G h1 h2 h3
    | false =>
    rw [h1, h2, h3] at hone
    by_cases h4 : 60 < deep
    · rw [sz_not (.inr (.inl h4))]
      exact size_4 k u n s A l.length c deep room w G h1 h2 h3 (decide_eq_true h4)
    by_cases h5 : room < 1
    · rw [sz_not (.inr (.inr h5))]
      exact size_5 k u n s A l.length c deep room w G h1 h2 h3 (decide_eq_false h4) (decide_eq_true h5)
    rw [sz_mk hone (by omega) (by omega)]
    exact size_6 m (size_all m) k u n s A l.length c l vs S deep room w G rfl hr (fun t ht => by have := Tm.mem_depth ht; omega) d0 (by omega) (by omega) r1 hlm h1 h2 h3 (decide_eq_false h4) (decide_eq_false h5)
set_option maxRecDepth 1000000 in
set_option maxHeartbeats 4000000 in
theorem Size_c (t : Tm) (cs : List Value) (S : Nat → Prop) (w : World) (hT : TIs w S t cs) (G : Glob w) : Calls Tryd.prog 49 #[.agg cs.toArray] w fun e w' => e = .returned (.int .i64 (t.sz 1 1200)) ∧ Mod [] w w' := by
  have hcs := hT.len
  have hone := hT.one
  have IH := fun v (mv : Mod [] w v) => size_all _ t cs S 1 1200 v (Nat.le_refl _) (hT.keep mv (by simp)) (G.then mv) (by omega) (by omega) (by omega) (by omega)
  obtain ⟨r, hr⟩ : ∃ r, r = t.sz 1 1200 := ⟨_, rfl⟩
  rw [← hr] at IH ⊢
  clear hT G hr
  go_enter Tryd.func49, Tryd.ntmps49
  go_wp2_with (first
    | (with_reducible refine wpList_boxes (o := ⟨some 1, .box 24 (.tmp 0), _, _, _, _⟩) rfl 24 (.tmp 0) rfl _ rfl (cs) rfl ?_; intro w1 hb1 m1 z1; replace z1 := Lib.hid z1
       obtain ⟨b1, hq1⟩ : ∃ b, b = w.heap.size := ⟨_, rfl⟩
       rw [← hq1] at hb1 ⊢
       clear z1 hq1)
    | (with_reducible refine wpList_loads (o := ⟨some 3, .load 24 (.tmp 1), _, _, _, _⟩) rfl 24 (.tmp 1) rfl b1 (0) (cs) rfl (Cells.of_holds hb1) _ Tryd.underlying24 rfl (size24' hcs) (.agg (cs).toArray) rfl ?_)
    | (go_at_call 74
       refine (IH w1 m1).mono ?_
       rintro e w5 ⟨rfl, m5⟩
       replace m5 := m1.then m5))
  go_ret
  exact ⟨rfl, m5⟩
theorem sz_right (t : Tm) : (t.sz 1 1200 == 0) = !t.right := by
  unfold Tm.sz Tm.right
  have := Tm.count_pos t
  by_cases h : t.ok = true ∧ (1 : Int) + t.depth ≤ 61 ∧ (t.count : Int) ≤ 1200
  · rw [if_pos h, h.1]
    have e1 : ((t.count : Int) == 0) = false := by simp; omega
    have e2 : t.depth ≤ 60 := by omega
    have e3 : t.count ≤ 1200 := by omega
    simp [e1, e2, e3]
  · rw [if_neg h]
    simp only [beq_self_eq_true, Bool.true_eq, Bool.not_eq_true', Bool.and_eq_false_iff, decide_eq_false_iff_not]
    by_cases h1 : t.ok = true
    · by_cases h2 : t.depth ≤ 60
      · right; intro h3; exact h ⟨h1, by omega, by omega⟩
      · left; right; exact h2
    · left; left; simpa using h1
/-- Right or wrong, by the number of the error. -/
def chk (t : Tm) : Int := if t.right = true then 0 else 150
set_option maxRecDepth 1000000 in
set_option maxHeartbeats 4000000 in
theorem check_c (t : Tm) (cs : List Value) (S : Nat → Prop) (w : World) (hT : TIs w S t cs) (G : Glob w) : Calls Tryd.prog 32 #[.agg cs.toArray] w fun e w' => e = .returned (.int .i64 (chk t)) ∧ Mod [] w w' := by
  have hcs := hT.len
  have hone := hT.one
  have IH := fun v (mv : Mod [] w v) => Size_c t cs S v (hT.keep mv (by simp)) (G.then mv)
  have hz := sz_right t
  unfold chk
  obtain ⟨r, hr⟩ : ∃ r, r = t.sz 1 1200 := ⟨_, rfl⟩
  rw [← hr] at IH hz
  clear hT G hr
  cases hb : t.right with
  | true =>
    rw [hb] at hz
    have hz' : (r == 0) = false := hz
    rw [if_pos rfl]
    clear hz hb
    go_enter Tryd.func32, Tryd.ntmps32
    go_wp2_with (first
    | (with_reducible refine wpList_boxes (o := ⟨some 1, .box 24 (.tmp 0), _, _, _, _⟩) rfl 24 (.tmp 0) rfl _ rfl (cs) rfl ?_; intro w1 hb1 m1 z1; replace z1 := Lib.hid z1
       obtain ⟨b1, hq1⟩ : ∃ b, b = w.heap.size := ⟨_, rfl⟩
       rw [← hq1] at hb1 ⊢
       clear z1 hq1)
    | (with_reducible refine wpList_loads (o := ⟨some 3, .load 24 (.tmp 1), _, _, _, _⟩) rfl 24 (.tmp 1) rfl b1 (0) (cs) rfl (Cells.of_holds hb1) _ Tryd.underlying24 rfl (size24' hcs) (.agg (cs).toArray) rfl ?_)
    | (go_at_call 49
       refine (IH w1 m1).mono ?_
       rintro e w5 ⟨rfl, m5⟩
       replace m5 := m1.then m5))
    go_ret
    exact ⟨rfl, m5⟩
  | false =>
    rw [hb] at hz
    obtain rfl : r = 0 := by simpa using hz
    rw [if_neg (by simp)]
    clear hz hb
    go_enter Tryd.func32, Tryd.ntmps32
    go_wp2_with (first
    | (with_reducible refine wpList_boxes (o := ⟨some 1, .box 24 (.tmp 0), _, _, _, _⟩) rfl 24 (.tmp 0) rfl _ rfl (cs) rfl ?_; intro w1 hb1 m1 z1; replace z1 := Lib.hid z1
       obtain ⟨b1, hq1⟩ : ∃ b, b = w.heap.size := ⟨_, rfl⟩
       rw [← hq1] at hb1 ⊢
       clear z1 hq1)
    | (with_reducible refine wpList_loads (o := ⟨some 3, .load 24 (.tmp 1), _, _, _, _⟩) rfl 24 (.tmp 1) rfl b1 (0) (cs) rfl (Cells.of_holds hb1) _ Tryd.underlying24 rfl (size24' hcs) (.agg (cs).toArray) rfl ?_)
    | (go_at_call 49
       refine (IH w1 m1).mono ?_
       rintro e w5 ⟨rfl, m5⟩
       replace m5 := m1.then m5))
    go_ret
    exact ⟨rfl, m5⟩
theorem info5 : ∃ i : TypeInfo, Tryd.prog.info? 5 = some i ∧ i.zero = some (.int .u8 0) ∧ i.size = 1 ∧ i.bytes = 1 := info_parts u8_zero
theorem Owns.ne {w : World} {B : Nat} {e : TypeId} {A : Option Addr} {c g : Nat} {l : List UInt8} {t : TypeId} {cs : List Value} (h : Owns w B e A c l) (h' : Holds w g t cs) (ht : e ≠ t) : ∀ a, A = some a → a.block ≠ g := by
  rcases h.2 with ⟨hv, hn⟩ | ⟨k, cap, cur, hv, hb, hg, h1, h2, _⟩
  · injection hv with h1 h2 h3
    subst h1
    simp
  · injection hv with h3 h4 h5
    subst h3
    rintro _ ⟨⟩ rfl
    unfold Holds at h'
    rw [hg] at h'
    injection h' with h'
    injection h' with _ hh
    exact ht hh
theorem mem_blk {A : Option Addr} {i : Nat} (h : i ∈ blk A) : ∃ a, A = some a ∧ a.block = i := by
  cases A with
  | none => simp [blk] at h
  | some a => exact ⟨a, rfl, by have h1 : i = a.block := by simpa [blk] using h
                                exact h1.symm⟩
theorem blk_of {a : Addr} : a.block ∈ blk (some a) := by simp [blk]
theorem Owns.nblk {w : World} {B : Nat} {e : TypeId} {A : Option Addr} {c g : Nat} {l : List UInt8} {t : TypeId} {cs : List Value} (h : Owns w B e A c l) (h' : Holds w g t cs) (ht : e ≠ t) : g ∉ blk A := fun hm => by
  obtain ⟨a, ha, rfl⟩ := mem_blk hm
  exact h.ne h' ht a ha rfl
theorem appendS (w : World) (ty : TypeId) (A : Option Addr) (c : Nat) (l : List UInt8) (hown : Owns w 0 5 A c l) (s : ByteArray) (hl : l.length + s.size ≤ 140737488355328) :
    ∃ A' c' v, (Builtin.append_ #[62, 9] ty #[.slice A l.length c, .string s]).run Tryd.prog w = .ok (.slice A' (l ++ s.data.toList).length c') v ∧ Owns v 0 5 A' c' (l ++ s.data.toList) ∧ Mod (blk A) w v ∧ (∀ a, A' = some a → a.block ∈ blk A ∨ w.heap.size ≤ a.block) := by
  obtain ⟨i, hi, hz, hs, hb⟩ := info5
  have h63 : l.length + s.size ≤ maxLen := by unfold maxLen; omega
  have hsl : s.data.toList.length = s.size := by simp
  have key : ∀ B, B ≤ w.heap.size → w.ownsRow B 5 1 (.slice A l.length c) l.length (l.map oct) → ∃ A' c' v, (Builtin.append_ #[62, 9] ty #[.slice A l.length c, .string s]).run Tryd.prog w = .ok (.slice A' (l ++ s.data.toList).length c') v ∧ Owns v B 5 A' c' (l ++ s.data.toList) ∧ Mod (blk A) w v := by
    intro B hB ho
    obtain ⟨v', w', hr, h2, h3, _⟩ := Lib.run_append_own_string (P := Tryd.prog) w B 62 9 ty 5 i Tryd.underlying62 Tryd.underlying9 hi hz hs hb _ _ _ ho s h63 hl hB
    have e : l.map oct ++ Lib.strCells s = (l ++ s.data.toList).map oct := by rw [List.map_append]; rfl
    have en : l.length + s.size = (l ++ s.data.toList).length := by rw [List.length_append, hsl]
    rw [e, en] at h2
    have hv : ∃ A' c', v' = .slice A' (l ++ s.data.toList).length c' := by
      rcases h2.2 with ⟨hv, hn⟩ | ⟨g, cap, cur, hv, _⟩
      · exact ⟨none, 0, by rw [hv, hn]⟩
      · exact ⟨_, _, hv⟩
    obtain ⟨A', c', rfl⟩ := hv
    refine ⟨A', c', w', hr, h2, h3.os, h3.tape, h3.output, h3.size, fun j hj hn => h3.block j hj ?_⟩
    intro hh
    cases A with
    | none => simp [Value.ownBlock] at hh
    | some a => simp [Value.ownBlock] at hh; exact hn (by rw [hh]; exact blk_of)
  obtain ⟨A', c', v, hr, ho, hm⟩ := key 0 (Nat.zero_le _) hown
  refine ⟨A', c', v, hr, ho, hm, ?_⟩
  have hown2 := hown.2
  rcases hown2 with ⟨hv, hn⟩ | ⟨g, cap, cur, hv, hb0, hg, hnc, hcm, hcs, htake⟩
  · injection hv with h1 h2 h3
    subst h1 h3
    have hl0 : l = [] := List.eq_nil_of_length_eq_zero hn
    subst hl0
    obtain ⟨A2, c2, v2, hr2, ho2, _⟩ := key w.heap.size (Nat.le_refl _) (World.ownsRow_nil w w.heap.size 5 1)
    rw [hr] at hr2
    injection hr2 with e1 e2
    injection e1 with e1 _ _
    subst e1
    intro a ha
    exact .inr ((ho2.fits.2.2 a ha).1)
  · injection hv with h1 h2 h3
    subst h1 h3
    by_cases hroom : l.length + s.size ≤ c
    · have hcz : cur.size = c := by simpa using hcs
      have hr2 := Lib.run_append_room_string (P := Tryd.prog) w 62 9 ty 5 i Tryd.underlying62 Tryd.underlying9 hi hs g l.length c cur hg s hroom (by omega)
      rw [hr] at hr2
      injection hr2 with e1 e2
      injection e1 with e1 _ _
      subst e1
      rintro a ⟨⟩
      exact .inl (by simp [blk])
    · have holds : ∀ j u, (l.map oct)[j]? = some u → w.cell? ((⟨g, 0, none⟩ : Addr).add j) = some u := World.ownsRow.cells (g := g) hown rfl
      have hr2 := Lib.run_append_grow_string (P := Tryd.prog) w 62 9 ty 5 i (.int .u8 0) Tryd.underlying62 Tryd.underlying9 hi hz ⟨g, 0, none⟩ l.length c (l.map oct) (by rw [hs]; simp) holds s (by omega) (by omega) (by rw [hb]; exact growslice_fits (by omega) (by omega))
      rw [hr] at hr2
      injection hr2 with e1 e2
      injection e1 with e1 _ _
      subst e1
      rintro a ⟨⟩
      exact .inr (Nat.le_refl _)
end
section
open Go.RowKit Go.Shelf
set_option linter.unusedVariables false
/-- A row that has grown since: its own, and nothing else was written. -/
structure Grow (w0 : World) (A0 : Option Addr) (w : World) (A : Option Addr) (c : Nat) (l : List UInt8) : Prop where
  own : Owns w 0 5 A c l
  mod : Mod (blk A0) w0 w
  fresh : ∀ a, A = some a → a.block ∈ blk A0 ∨ w0.heap.size ≤ a.block
theorem Grow.refl {w : World} {A : Option Addr} {c : Nat} {l : List UInt8} (h : Owns w 0 5 A c l) : Grow w A w A c l := ⟨h, Mod.refl _ _, fun a ha => .inl (by rw [ha]; exact blk_of)⟩
theorem Grow.then {w0 w v : World} {A0 A : Option Addr} {c : Nat} {l : List UInt8} (h : Grow w0 A0 w A c l) (m : Mod [] w v) : Grow w0 A0 v A c l := ⟨h.own.keep m (by simp), h.mod.then m, h.fresh⟩
theorem Grow.trans {w0 w v : World} {A0 A A' : Option Addr} {c c' : Nat} {l l' : List UInt8} (h : Grow w0 A0 w A c l) (k : Grow w A v A' c' l') : Grow w0 A0 v A' c' l' := by
  refine ⟨k.own, h.mod.trans k.mod fun i hi hm => ?_, fun a ha => ?_⟩
  · obtain ⟨a, ha, rfl⟩ := mem_blk hm
    rcases h.fresh a ha with h1 | h1
    · exact h1
    · omega
  · rcases k.fresh a ha with h1 | h1
    · obtain ⟨b, hb, e⟩ := mem_blk h1
      rw [← e]
      exact h.fresh b hb
    · exact .inr (Nat.le_trans h.mod.size h1)
theorem Grow.out {w0 w : World} {A0 A : Option Addr} {c : Nat} {l : List UInt8} (h : Grow w0 A0 w A c l) {S : Nat → Prop} (hS : ∀ g, S g → g < w0.heap.size ∧ g ∉ blk A0) : ∀ g, S g → g < w.heap.size ∧ g ∉ blk A := fun g hg => by
  obtain ⟨h1, h2⟩ := hS g hg
  refine ⟨Nat.lt_of_lt_of_le h1 h.mod.size, fun hm => ?_⟩
  obtain ⟨a, ha, rfl⟩ := mem_blk hm
  rcases h.fresh a ha with h3 | h3
  · exact h2 h3
  · omega
theorem Grow.glob {w0 w : World} {A0 A : Option Addr} {c : Nat} {l : List UInt8} (h : Grow w0 A0 w A c l) (G : Glob w0) (h0 : 0 ∉ blk A0) : Glob w ∧ 0 ∉ blk A := by
  have hlt : 0 < w0.heap.size := by
    have h1 := G.at 0 (by decide)
    rcases Nat.eq_zero_or_pos w0.heap.size with e | e
    · simp [World.cell?, Array.getElem?_eq_none (show w0.heap.size ≤ 0 by omega)] at h1
    · exact e
  refine ⟨G.mod h.mod h0, fun hm => ?_⟩
  obtain ⟨a, ha, e⟩ := mem_blk hm
  rcases h.fresh a ha with h3 | h3
  · rw [e] at h3; exact h0 h3
  · omega
theorem exec_c8 {v : World} {o : Oper} {ρ : Operand → Value} {x : Operand} {a : Int} (h0 : 0 ≤ a) (h1 : a < 256) (ho : o.op = .convert 3 5 x) (hx : ρ x = .int .i64 a) : (execOp ρ o).run Tryd.prog v = .ok (.value (oct (Tm.b8 a))) v := by
  have e : ((Tm.b8 a).toNat : Int) = a := Tm.b8_toNat h0 h1
  unfold execOp oct
  rw [e]
  have hw : IntKind.u8.wrap a = a := by simp [IntKind.wrap, IntKind.signed, IntKind.bits]; omega
  simp [ho, hx, go_sem, convert, run_underlying Tryd.underlying3, run_underlying Tryd.underlying5, hw]
theorem exec_c16 {v : World} {o : Oper} {ρ : Operand → Value} {x : Operand} {a : Int} (h0 : 0 ≤ a) (h1 : a < 65536) (ho : o.op = .convert 3 127 x) (hx : ρ x = .int .i64 a) : (execOp ρ o).run Tryd.prog v = .ok (.value (.int .u16 (a.toNat : Int))) v := by
  have e : (a.toNat : Int) = a := by omega
  unfold execOp
  rw [e]
  have hw : IntKind.u16.wrap a = a := by simp [IntKind.wrap, IntKind.signed, IntKind.bits]; omega
  simp [ho, hx, go_sem, convert, run_underlying Tryd.underlying3, run_underlying Tryd.underlying127, hw]
theorem run_lit27 (b : UInt8) (w : World) : (Instr.buildSlice 62 1 #[(0, oct b)]).run Tryd.prog w = .ok (.slice (some ⟨w.heap.size, 0, none⟩) 1 1) (w.alloc (.cells [oct b].toArray 5)) := by
  obtain ⟨i, hi, hz, hs, hb⟩ := info5
  exact run_lit1 (Z := .int .u8 0) (s := 1) w Tryd.underlying62 hi hs (by decide) (by decide) (fun w => by unfold zeroValue; simp [Sem.run_bind, typeInfo, hi, hz]) rfl rfl
theorem hi2 {n : Int} (h0 : 0 ≤ n) (h1 : n ≤ 65535) : hi n.toNat 2 = [Tm.b8 (n / 256), Tm.b8 (n % 256)] := by
  have e1 : (n / 256).toNat = n.toNat / 256 := by omega
  have e2 : (n % 256).toNat = n.toNat % 256 := by omega
  unfold hi Tm.b8
  simp only [List.range_succ, List.range_zero, List.nil_append, List.map_cons, List.map_nil, List.cons_append, e1, e2]
  simp only [Nat.reduceSub, Nat.pow_one, Nat.pow_zero, Nat.div_one, List.cons.injEq, and_true, true_and]
  rw [← UInt8.toNat_inj]
  simp
theorem put16n_c (n : Int) (w : World) (h0 : 0 ≤ n) (h1 : n ≤ 65535) :
    Calls Tryd.prog 95 #[.slice none 0 0, .int .u16 n] w fun e w' => e = .returned (.slice (some ⟨w.heap.size, 0, none⟩) 2 2) ∧ Holds w' w.heap.size 5 ([Tm.b8 (n / 256), Tm.b8 (n % 256)].map oct) ∧ Mod [] w w' := by
  have h := put16_c none [] 0 n.toNat w (by simp) (Reads.nil _ _) (by omega)
  rw [List.nil_append, hi2 h0 h1, show (n.toNat : Int) = n by omega] at h
  exact h
/-- What lay makes of a row. -/
def LayP (w : World) (A : Option Addr) (L : List UInt8) (e : Ending) (w' : World) : Prop := ∃ A' c', e = .returned (.slice A' L.length c') ∧ Grow w A w' A' c' L
def LayAll (m : Nat) : Prop := ∀ (t : Tm) (cs : List Value) (S : Nat → Prop) (A : Option Addr) (c : Nat) (l0 : List UInt8) (w : World), t.depth ≤ m → t.ok = true → TIs w S t cs → (∀ g, S g → g < w.heap.size ∧ g ∉ blk A) → Glob w → 0 ∉ blk A → Owns w 0 5 A c l0 → l0.length + t.bytes.length ≤ 1000000000 →
  Calls Tryd.prog 75 #[.slice A l0.length c, .agg cs.toArray] w (LayP w A (l0 ++ t.bytes))
theorem len_ok {l k : List UInt8} (h : l.length + k.length ≤ 2000000000) : (l.length + k.length) * 1 ≤ 140737488355328 ∧ l.length + k.length ≤ maxLen := ⟨by omega, by unfold maxLen; omega⟩
theorem wpList_appendS {w : World} {ops : Array Oper} {rest : List Oper} {o : Oper} {a : Act} {Q : Exit → Act → World → Prop} (hgd : o.guard = none) (s x : Operand) (ho : o.op = .call { callee := .builtin .append, args := #[s, x], argTypes := #[62, 9] })
    (A : Option Addr) (n c : Nat) (l : List UInt8) (hs : a.eval s = .slice A n c) (hn : n = l.length) (hown : Owns w 0 5 A c l) (S : ByteArray) (hx : a.eval x = .string S) (hl : l.length + S.size ≤ 140737488355328)
    (h : ∀ A' c' v, Owns v 0 5 A' c' (l ++ S.data.toList) → Mod (blk A) w v → (∀ a, A' = some a → a.block ∈ blk A ∨ w.heap.size ≤ a.block) → wpList Tryd.prog ops Q rest (a.put o.dst (.slice A' (l ++ S.data.toList).length c')) v) : wpList Tryd.prog ops Q (o :: rest) a w := by
  subst hn
  obtain ⟨A', c', v, hr, h1, h2, h3⟩ := appendS w o.type A c l hown S hl
  refine wpList_plain hgd fun K hK => ?_
  unfold Oper.wp execOp
  simp only [ho, resolve, invoke, builtin, Sem.run_bind, Sem.run_pure, Result.andThen_ok, List.map_toArray, List.map_cons, List.map_nil, hs, hx, hr]
  exact hK _ _ (h A' c' v h1 h2 h3)
theorem Reads.one {w : World} {g : Nat} {b : UInt8} (h : Holds w g 5 [oct b]) : Reads w (some ⟨g, 0, none⟩) [b] := Reads.of_holds (l := [b]) h
end
section
section
open Go.RowKit Go.Shelf
set_option linter.unusedSimpArgs false
set_option linter.unusedVariables false
set_option maxRecDepth 1000000 in
set_option maxHeartbeats 4000000 in
theorem lay_T (m : Nat) (ih : LayAll m) (k u n : Int) (s : ByteArray) (K : Option Addr) (len cc : Nat) (l : List Tm) (vs : List (List Value)) (S : Nat → Prop) (A : Option Addr) (c : Nat) (l0 : List UInt8) (w : World) (hlen : len = l.length) (hlm : len ≤ 2199023255552) (hr : RowT w S K vs l) (hd : ∀ t ∈ l, t.depth ≤ m ∧ t.ok = true)
    (hS : ∀ g, S g → g < w.heap.size ∧ g ∉ blk A) (G : Glob w) (h0 : 0 ∉ blk A) (hO : Owns w 0 5 A c l0) (hL : l0.length ≤ 1000000000) (k0 : 0 ≤ k) (k1 : k < 256) (hs : s.size ≤ 64) (hT : hasB (flds k) 1 = true) (hU : hasB (flds k) 2 = false) (hN : hasB (flds k) 4 = false)
    (LT : List UInt8) (hLT : (((l0 ++ [Tm.b8 k]) ++ [Tm.b8 (s.size : Int)]) ++ s.data.toList) ++ Tm.bytesAll l = LT) (hLL : LT.length ≤ 1000000000) :
    Calls Tryd.prog 75 #[.slice A l0.length c, .agg (tmc k u n s K len cc).toArray] w (LayP w A LT) := by
  obtain ⟨F, hF⟩ : ∃ F, F = flds k := ⟨_, rfl⟩
  have FC := fun v (g : Glob v) => fieldsOf_c k v g
  rw [← hF] at hT hU hN FC
  have BT := has_b F 1 true hT
  have BU := has_b F 2 false hU
  have BN := has_b F 4 false hN
  obtain ⟨i0, i1, i2, i3, i4⟩ := info5
  have HI := Lib.hid (And.intro i1 (And.intro i2 (And.intro i3 i4)))
  have HO := Lib.hid (And.intro hO (And.intro G h0))
  have HR := Lib.hid (And.intro hlen (And.intro hr (And.intro hd (And.intro ih hS))))
  have HLT := Lib.hid (And.intro hLT hLL)
  have H1 := Lib.hid (len_ok (l := l0) (k := [Tm.b8 k]) (by simp only [List.length_cons, List.length_nil]; omega))
  have hs3 : ∀ {L : List UInt8}, L.length ≤ 1000000300 → L.length + s.size ≤ 140737488355328 := fun {L} h => by omega
  have s0 : (0 : Int) ≤ (s.size : Int) := by omega
  have s1 : (s.size : Int) < 256 := by omega
  clear hF hT hU hN i1 i2 i3 i4 hO G h0 hlen hr hd ih hS hLT hLL
  go_enter Tryd.func75, Tryd.ntmps75
  go_wp2_with (first
    | (with_reducible refine wpList_boxes (o := ⟨some 3, .box 24 (.tmp 1), _, _, _, _⟩) rfl 24 (.tmp 1) rfl _ rfl (tmc k u n s K len cc) rfl ?_; intro w1 hb1 m1 z1; replace z1 := Lib.hid z1
       have g1 : Grow w A w1 A c l0 := (Grow.refl HO.out.1).then m1
       obtain ⟨b1, hq1⟩ : ∃ b, b = w.heap.size := ⟨_, rfl⟩
       rw [← hq1] at hb1 ⊢
       have hb := hb1
       have hG1 := (g1.glob HO.out.2.1 HO.out.2.2).1
       clear hb1 z1 hq1 m1
       have e0 := hb.cell 0
       simp only [tmc, List.getElem?_cons_succ, List.getElem?_cons_zero] at e0)
    | (go_at_call 91; refine (FC w1 hG1).mono ?_; rintro e w2 ⟨rfl, rfl⟩; clear hG1 FC)
    | (with_reducible refine wpList_ranW (o := ⟨some 14, .convert 3 5 (.tmp 13), _, _, _, _⟩) (by with_unfolding_all rfl) (oct (Tm.b8 k)) _ (exec_c8 k0 k1 rfl rfl) ?_)
    | (with_reducible refine wpList_lits (o := ⟨some 15, .buildSlice 62 1 _, _, _, _, _⟩) rfl 62 5 1 _ rfl [oct (Tm.b8 k)] ?_ ?_
       · with_unfolding_all exact run_lit27 _ _
       intro x1 hx1 mx1 zx1
       clear zx1
       replace g1 := g1.then mx1
       replace hb := hb.keep mx1 (by simp)
       have rx1 := Reads.one hx1
       clear hx1 mx1 e0)
    | (with_reducible refine wpList_appends x1 (o := ⟨some 16, _, _, _, _, _⟩) rfl (.tmp 11) (.tmp 15) 62 rfl 5 i0 (.int .u8 0) 1 Tryd.underlying62 HI.out.1 HI.out.2.1 HI.out.2.2.1 HI.out.2.2.2 (by with_unfolding_all rfl) 0 (Nat.zero_le _) A _ c (l0) rfl rfl g1.own _ 1 1 [Tm.b8 k] rfl rfl rx1 (H1.out).1 (H1.out).2 ?_
       intro A2 c2 v2 o2 mo2 f2
       have hn2 := g1.own.nblk hb (by decide)
       have g2 := g1.trans ⟨o2, mo2, f2⟩
       replace hb := hb.keep mo2 hn2
       clear g1 rx1 o2 mo2 f2 hn2
       have e3 := hb.cell 3
       simp only [tmc, List.getElem?_cons_succ, List.getElem?_cons_zero] at e3
       obtain ⟨L2, hL2⟩ : ∃ L, L = l0 ++ [Tm.b8 k] := ⟨_, rfl⟩
       rw [← hL2] at g2 ⊢
       have hm2 : L2.length ≤ 1000000200 := by rw [hL2]; simp only [List.length_append, List.length_cons, List.length_nil]; omega
       have HE2 := Lib.hid hL2
       have HL2 := Lib.hid (len_ok (l := L2) (k := [Tm.b8 (s.size : Int)]) (by simp only [List.length_cons, List.length_nil]; omega))
       clear hL2)
    | (go_at_call 94; first | ((with_reducible refine Calls.mono (BT _) ?_); rintro e wz ⟨rfl, rfl⟩) | ((with_reducible refine Calls.mono (BU _) ?_); rintro e wz ⟨rfl, rfl⟩) | ((with_reducible refine Calls.mono (BN _) ?_); rintro e wz ⟨rfl, rfl⟩))
    | (with_reducible refine wpList_ranW (o := ⟨some 23, .convert 3 5 (.tmp 22), _, _, _, _⟩) (by with_unfolding_all rfl) (oct (Tm.b8 (s.size : Int))) _ (exec_c8 s0 s1 rfl rfl) ?_)
    | (with_reducible refine wpList_lits (o := ⟨some 24, .buildSlice 62 1 _, _, _, _, _⟩) rfl 62 5 1 _ rfl [oct (Tm.b8 (s.size : Int))] ?_ ?_
       · with_unfolding_all exact run_lit27 _ _
       intro x2 hx2 mx2 zx2
       clear zx2
       replace g2 := g2.then mx2
       replace hb := hb.keep mx2 (by simp)
       have rx2 := Reads.one hx2
       clear hx2 mx2 e3)
    | (with_reducible refine wpList_appends x2 (o := ⟨some 25, _, _, _, _, _⟩) rfl (.tmp 19) (.tmp 24) 62 rfl 5 i0 (.int .u8 0) 1 Tryd.underlying62 HI.out.1 HI.out.2.1 HI.out.2.2.1 HI.out.2.2.2 (by with_unfolding_all rfl) 0 (Nat.zero_le _) A2 _ c2 (L2) rfl rfl g2.own _ 1 1 [Tm.b8 (s.size : Int)] rfl rfl rx2 (HL2.out).1 (HL2.out).2 ?_
       intro A3 c3 v3 o3 mo3 f3
       have hn3 := g2.own.nblk hb (by decide)
       have g3 := g2.trans ⟨o3, mo3, f3⟩
       replace hb := hb.keep mo3 hn3
       clear g2 rx2 o3 mo3 f3 hn3
       have e3 := hb.cell 3
       simp only [tmc, List.getElem?_cons_succ, List.getElem?_cons_zero] at e3
       obtain ⟨L3, hL3⟩ : ∃ L, L = L2 ++ [Tm.b8 (s.size : Int)] := ⟨_, rfl⟩
       rw [← hL3] at g3 ⊢
       have hm3 : L3.length ≤ 1000000300 := by rw [hL3]; simp only [List.length_append, List.length_cons, List.length_nil]; omega
       have HE3 := Lib.hid hL3
       clear hL3)
    | (with_reducible refine wpList_appendS (o := ⟨some 29, _, _, _, _, _⟩) rfl (.tmp 26) (.tmp 28) rfl A3 _ c3 L3 rfl rfl g3.own s rfl (hs3 hm3) ?_
       intro A4 c4 v4 o4 mo4 f4
       have hn4 := g3.own.nblk hb (by decide)
       have g4 := g3.trans ⟨o4, mo4, f4⟩
       replace hb := hb.keep mo4 hn4
       obtain ⟨L4, hL4⟩ : ∃ L, L = L3 ++ s.data.toList := ⟨_, rfl⟩
       rw [← hL4] at g4 ⊢
       have HE4 := Lib.hid hL4
       clear g3 o4 mo4 f4 hn4 e3 hL4
       have e4 := hb.cell 4
       simp only [tmc, List.getElem?_cons_succ, List.getElem?_cons_zero] at e4))
  obtain ⟨LF, hLF⟩ : ∃ L : List UInt8, L = L4 := ⟨_, rfl⟩
  have HLF := Lib.hid (And.intro (show LF ++ Tm.bytesAll l = LT by rw [hLF, HE4.out, HE3.out, HE2.out]; exact HLT.out.1) HLT.out.2)
  rw [← hLF] at g4 ⊢
  clear hLF hb e4 BT BU BN
  go_loopw [0, 49] (fun r i wr => ∃ (j : Nat) (B : Option Addr) (d nn : Nat), i = .int .i64 j ∧ j ≤ len ∧ r = .slice B nn d ∧ nn = (LF ++ Tm.bytesAll (l.take j)).length ∧ Grow w A wr B d (LF ++ Tm.bytesAll (l.take j))) (fun _ i _ => len - (intOf i).toNat)
  case atStart => exact ⟨0, A4, c4, _, rfl, by omega, rfl, by simp [Tm.bytesAll], by simpa [Tm.bytesAll] using g4⟩
  case round =>
  obtain ⟨j, B, d, nn, rfl, hj, rfl, hnn, gr⟩ := hrel
  have HN := Lib.hid hnn
  clear hnn
  by_cases hjl : j < len
  case neg =>
    obtain rfl : len = j := by omega
    have gr' := gr
    rw [HR.out.1, List.take_length, HLF.out.1] at gr'
    have hn' : nn = LT.length := by rw [HN.out, HR.out.1, List.take_length, HLF.out.1]
    have HG := Lib.hid (And.intro gr' hn')
    clear gr gr' hn' HN
    go_wp2_with fail
    go_ret
    exact ⟨B, d, congrArg (fun z => Ending.returned (Value.slice B z d)) HG.out.2, HG.out.1⟩
  have hjl' : j < l.length := by rw [← HR.out.1]; exact hjl
  obtain ⟨g, q, cs, rfl, hcE, hT, hcs, hSg⟩ := HR.out.2.1.elem j hjl'
  have hSo := HR.out.2.2.2.2
  replace hcE := hcE.keep gr.mod (by rintro _ ⟨⟩; exact (hSo g hSg).2)
  have hone := hT.one
  have hst := take_next' l j hjl'
  have hbl : (LF ++ Tm.bytesAll (l.take j)).length + l[j].bytes.length ≤ 1000000000 := by
    have e1 : LF ++ Tm.bytesAll l = LF ++ Tm.bytesAll (l.take (j + 1)) ++ Tm.bytesAll (l.drop (j + 1)) := by rw [List.append_assoc, ← Tm.bytesAll_append, List.take_append_drop]
    have e2 := HLF.out.2
    rw [← HLF.out.1, e1, hst, Tm.bytesAll_append, Tm.bytesAll, Tm.bytesAll] at e2
    simp only [List.length_append, List.length_nil] at e2 ⊢
    omega
  have IHC := fun v (gv : Grow w A v B d (LF ++ Tm.bytesAll (l.take j))) => HR.out.2.2.2.1 l[j] cs S B d (LF ++ Tm.bytesAll (l.take j)) v (HR.out.2.2.1 _ (List.getElem_mem _)).1 (HR.out.2.2.1 _ (List.getElem_mem _)).2 (hT.keep gv.mod (fun i hi => (hSo i hi).2)) (gv.out hSo) (gv.glob HO.out.2.1 HO.out.2.2).1 (gv.glob HO.out.2.1 HO.out.2.2).2 gv.own hbl
  rw [← HN.out] at IHC
  have HNX : Hid (LF ++ Tm.bytesAll (l.take j) ++ l[j].bytes = LF ++ Tm.bytesAll (l.take (j + 1))) := Lib.hid (by rw [hst, Tm.bytesAll_append, Tm.bytesAll, Tm.bytesAll, List.append_nil, List.append_assoc])
  clear hT hSg hSo hst hbl
  go_wp2_with (first
    | (with_reducible refine wpList_loads (o := ⟨some 52, .load 24 (.tmp 51), _, _, _, _⟩) rfl 24 (.tmp 51) rfl g (q + j * 5) (cs) rfl (hcE) _ Tryd.underlying24 rfl (size24' hcs) (.agg (cs).toArray) rfl ?_)
    | (with_reducible refine wpList_allocs (o := ⟨some 7, .alloc 24, _, _, _, _⟩) rfl 24 rfl _ zero24 ?_; intro y7 hy7 my7 zy7; replace zy7 := Lib.hid zy7)
    | (with_reducible refine wpList_storesAll (o := ⟨none, .store 24 (.tmp 7) (.tmp 52), _, _, _, _⟩) rfl 24 (.tmp 7) (.tmp 52) rfl rfl wr.heap.size (cs) rfl (.agg (cs).toArray) rfl rfl 24 _ hy7 (zlen hcs) (hone) (size24' hcs) ?_
       intro u8 hu8 mu8 zu8
       clear zu8
       have g8 := gr.then (my7.trans mu8 (by intro i hi h; simp at h; omega))
       obtain ⟨b8, hb8⟩ : ∃ b, b = wr.heap.size := ⟨_, rfl⟩
       rw [← hb8] at hu8 ⊢
       clear hy7 my7 zy7 mu8 hb8)
    | (with_reducible refine wpList_loads (o := ⟨some 54, .load 24 (.tmp 7), _, _, _, _⟩) rfl 24 (.tmp 7) rfl b8 (0) (cs) rfl (Cells.of_holds hu8) _ Tryd.underlying24 rfl (size24' hcs) (.agg (cs).toArray) rfl ?_)
    | (go_at_call 75
       refine (IHC u8 g8).mono ?_
       rintro e w9 ⟨B', d', rfl, g9⟩
       replace g9 := g8.trans g9
       rw [HNX.out] at g9 ⊢
       clear g8 hu8 IHC gr))
  exact ⟨⟨j + 1, B', d', _, by go_num, by omega, rfl, by simp only [List.length_append], g9⟩, by simp [intOf]; omega⟩
end
section
open Go.RowKit Go.Shelf
set_option linter.unusedSimpArgs false
set_option linter.unusedVariables false
set_option maxRecDepth 1000000 in
set_option maxHeartbeats 4000000 in
theorem lay_UN (m : Nat) (ih : LayAll m) (k u n : Int) (s : ByteArray) (K : Option Addr) (len cc : Nat) (l : List Tm) (vs : List (List Value)) (S : Nat → Prop) (A : Option Addr) (c : Nat) (l0 : List UInt8) (w : World) (hlen : len = l.length) (hlm : len ≤ 2199023255552) (hr : RowT w S K vs l) (hd : ∀ t ∈ l, t.depth ≤ m ∧ t.ok = true)
    (hS : ∀ g, S g → g < w.heap.size ∧ g ∉ blk A) (G : Glob w) (h0 : 0 ∉ blk A) (hO : Owns w 0 5 A c l0) (hL : l0.length ≤ 1000000000) (k0 : 0 ≤ k) (k1 : k < 256) (u0 : 0 ≤ u) (u1 : u < 256) (n0 : 0 ≤ n) (n3 : n ≤ 65535) (hT : hasB (flds k) 1 = false) (hU : hasB (flds k) 2 = true) (hN : hasB (flds k) 4 = true)
    (LT : List UInt8) (hLT : (((l0 ++ [Tm.b8 k]) ++ [Tm.b8 u]) ++ [Tm.b8 (n / 256), Tm.b8 (n % 256)]) ++ Tm.bytesAll l = LT) (hLL : LT.length ≤ 1000000000) :
    Calls Tryd.prog 75 #[.slice A l0.length c, .agg (tmc k u n s K len cc).toArray] w (LayP w A LT) := by
  obtain ⟨F, hF⟩ : ∃ F, F = flds k := ⟨_, rfl⟩
  have FC := fun v (g : Glob v) => fieldsOf_c k v g
  rw [← hF] at hT hU hN FC
  have BT := has_b F 1 false hT
  have BU := has_b F 2 true hU
  have BN := has_b F 4 true hN
  obtain ⟨i0, i1, i2, i3, i4⟩ := info5
  have HI := Lib.hid (And.intro i1 (And.intro i2 (And.intro i3 i4)))
  have HO := Lib.hid (And.intro hO (And.intro G h0))
  have HR := Lib.hid (And.intro hlen (And.intro hr (And.intro hd (And.intro ih hS))))
  have HLT := Lib.hid (And.intro hLT hLL)
  have H1 := Lib.hid (len_ok (l := l0) (k := [Tm.b8 k]) (by simp only [List.length_cons, List.length_nil]; omega))
  have n1 : n < 65536 := by omega
  have n2 : n.toNat < 65536 := by omega
  clear hF hT hU hN i1 i2 i3 i4 hO G h0 hlen hr hd ih hS hLT hLL
  go_enter Tryd.func75, Tryd.ntmps75
  go_wp2_with (first
    | (with_reducible refine wpList_boxes (o := ⟨some 3, .box 24 (.tmp 1), _, _, _, _⟩) rfl 24 (.tmp 1) rfl _ rfl (tmc k u n s K len cc) rfl ?_; intro w1 hb1 m1 z1; replace z1 := Lib.hid z1
       have g1 : Grow w A w1 A c l0 := (Grow.refl HO.out.1).then m1
       obtain ⟨b1, hq1⟩ : ∃ b, b = w.heap.size := ⟨_, rfl⟩
       rw [← hq1] at hb1 ⊢
       have hb := hb1
       have hG1 := (g1.glob HO.out.2.1 HO.out.2.2).1
       clear hb1 z1 hq1 m1
       have e0 := hb.cell 0
       simp only [tmc, List.getElem?_cons_succ, List.getElem?_cons_zero] at e0)
    | (go_at_call 91; refine (FC w1 hG1).mono ?_; rintro e w2 ⟨rfl, rfl⟩; clear hG1 FC)
    | (with_reducible refine wpList_ranW (o := ⟨some 14, .convert 3 5 (.tmp 13), _, _, _, _⟩) (by with_unfolding_all rfl) (oct (Tm.b8 k)) _ (exec_c8 k0 k1 rfl rfl) ?_)
    | (with_reducible refine wpList_lits (o := ⟨some 15, .buildSlice 62 1 _, _, _, _, _⟩) rfl 62 5 1 _ rfl [oct (Tm.b8 k)] ?_ ?_
       · with_unfolding_all exact run_lit27 _ _
       intro x1 hx1 mx1 zx1
       clear zx1
       replace g1 := g1.then mx1
       replace hb := hb.keep mx1 (by simp)
       have rx1 := Reads.one hx1
       clear hx1 mx1 e0)
    | (with_reducible refine wpList_appends x1 (o := ⟨some 16, _, _, _, _, _⟩) rfl (.tmp 11) (.tmp 15) 62 rfl 5 i0 (.int .u8 0) 1 Tryd.underlying62 HI.out.1 HI.out.2.1 HI.out.2.2.1 HI.out.2.2.2 (by with_unfolding_all rfl) 0 (Nat.zero_le _) A _ c (l0) rfl rfl g1.own _ 1 1 [Tm.b8 k] rfl rfl rx1 (H1.out).1 (H1.out).2 ?_
       intro A2 c2 v2 o2 mo2 f2
       have hn2 := g1.own.nblk hb (by decide)
       have g2 := g1.trans ⟨o2, mo2, f2⟩
       replace hb := hb.keep mo2 hn2
       clear g1 rx1 o2 mo2 f2 hn2
       have e1 := hb.cell 1
       simp only [tmc, List.getElem?_cons_succ, List.getElem?_cons_zero] at e1
       obtain ⟨L2, hL2⟩ : ∃ L, L = l0 ++ [Tm.b8 k] := ⟨_, rfl⟩
       rw [← hL2] at g2 ⊢
       have hm2 : L2.length ≤ 1000000200 := by rw [hL2]; simp only [List.length_append, List.length_cons, List.length_nil]; omega
       have HE2 := Lib.hid hL2
       have HL2 := Lib.hid (len_ok (l := L2) (k := [Tm.b8 u]) (by simp only [List.length_cons, List.length_nil]; omega))
       clear hL2)
    | (go_at_call 94; first | ((with_reducible refine Calls.mono (BT _) ?_); rintro e wz ⟨rfl, rfl⟩) | ((with_reducible refine Calls.mono (BU _) ?_); rintro e wz ⟨rfl, rfl⟩) | ((with_reducible refine Calls.mono (BN _) ?_); rintro e wz ⟨rfl, rfl⟩))
    | (with_reducible refine wpList_ranW (o := ⟨some 35, .convert 3 5 (.tmp 34), _, _, _, _⟩) (by with_unfolding_all rfl) (oct (Tm.b8 u)) _ (exec_c8 u0 u1 rfl rfl) ?_)
    | (with_reducible refine wpList_lits (o := ⟨some 36, .buildSlice 62 1 _, _, _, _, _⟩) rfl 62 5 1 _ rfl [oct (Tm.b8 u)] ?_ ?_
       · with_unfolding_all exact run_lit27 _ _
       intro x2 hx2 mx2 zx2
       clear zx2
       replace g2 := g2.then mx2
       replace hb := hb.keep mx2 (by simp)
       have rx2 := Reads.one hx2
       clear hx2 mx2 e1)
    | (with_reducible refine wpList_appends x2 (o := ⟨some 37, _, _, _, _, _⟩) rfl (.tmp 32) (.tmp 36) 62 rfl 5 i0 (.int .u8 0) 1 Tryd.underlying62 HI.out.1 HI.out.2.1 HI.out.2.2.1 HI.out.2.2.2 (by with_unfolding_all rfl) 0 (Nat.zero_le _) A2 _ c2 (L2) rfl rfl g2.own _ 1 1 [Tm.b8 u] rfl rfl rx2 (HL2.out).1 (HL2.out).2 ?_
       intro A3 c3 v3 o3 mo3 f3
       have hn3 := g2.own.nblk hb (by decide)
       have g3 := g2.trans ⟨o3, mo3, f3⟩
       replace hb := hb.keep mo3 hn3
       clear g2 rx2 o3 mo3 f3 hn3
       have e2 := hb.cell 2
       simp only [tmc, List.getElem?_cons_succ, List.getElem?_cons_zero] at e2
       obtain ⟨L3, hL3⟩ : ∃ L, L = L2 ++ [Tm.b8 u] := ⟨_, rfl⟩
       rw [← hL3] at g3 ⊢
       have hm3 : L3.length ≤ 1000000300 := by rw [hL3]; simp only [List.length_append, List.length_cons, List.length_nil]; omega
       have HE3 := Lib.hid hL3
       have HL3 := Lib.hid (len_ok (l := L3) (k := [Tm.b8 (n / 256), Tm.b8 (n % 256)]) (by simp only [List.length_cons, List.length_nil]; omega))
       clear hL3)
    | (with_reducible refine wpList_ranW (o := ⟨some 43, .convert 3 127 (.tmp 42), _, _, _, _⟩) (by with_unfolding_all rfl) (.int .u16 n) _ (exec_c16 n0 n1 rfl rfl) ?_)
    | (go_at_call 95; refine (put16n_c n _ n0 n3).mono ?_; rintro e x9 ⟨rfl, hx9, mx9⟩
       replace g3 := g3.then mx9
       replace hb := hb.keep mx9 (by simp)
       have rx9 := Reads.of_holds hx9
       clear hx9 mx9 e2)
    | (with_reducible refine wpList_appends x9 (o := ⟨some 45, _, _, _, _, _⟩) rfl (.tmp 40) (.tmp 44) 62 rfl 5 i0 (.int .u8 0) 1 Tryd.underlying62 HI.out.1 HI.out.2.1 HI.out.2.2.1 HI.out.2.2.2 (by with_unfolding_all rfl) 0 (Nat.zero_le _) A3 _ c3 L3 rfl rfl g3.own _ 2 2 [Tm.b8 (n / 256), Tm.b8 (n % 256)] rfl rfl rx9 HL3.out.1 HL3.out.2 ?_
       intro A4 c4 v4 o4 mo4 f4
       have hn4 := g3.own.nblk hb (by decide)
       have g4 := g3.trans ⟨o4, mo4, f4⟩
       replace hb := hb.keep mo4 hn4
       clear g3 rx9 o4 mo4 f4 hn4
       have e4 := hb.cell 4
       simp only [tmc, List.getElem?_cons_succ, List.getElem?_cons_zero] at e4
       obtain ⟨L4, hL4⟩ : ∃ L, L = L3 ++ [Tm.b8 (n / 256), Tm.b8 (n % 256)] := ⟨_, rfl⟩
       rw [← hL4] at g4 ⊢
       have hm4 : L4.length ≤ 1000000400 := by rw [hL4]; simp only [List.length_append, List.length_cons, List.length_nil]; omega
       have HE4 := Lib.hid hL4
       clear hL4))
  obtain ⟨LF, hLF⟩ : ∃ L : List UInt8, L = L4 := ⟨_, rfl⟩
  have HLF := Lib.hid (And.intro (show LF ++ Tm.bytesAll l = LT by rw [hLF, HE4.out, HE3.out, HE2.out]; exact HLT.out.1) HLT.out.2)
  rw [← hLF] at g4 ⊢
  clear hLF hb e4 BT BU BN
  go_loopw [0, 49] (fun r i wr => ∃ (j : Nat) (B : Option Addr) (d nn : Nat), i = .int .i64 j ∧ j ≤ len ∧ r = .slice B nn d ∧ nn = (LF ++ Tm.bytesAll (l.take j)).length ∧ Grow w A wr B d (LF ++ Tm.bytesAll (l.take j))) (fun _ i _ => len - (intOf i).toNat)
  case atStart => exact ⟨0, A4, c4, _, rfl, by omega, rfl, by simp [Tm.bytesAll], by simpa [Tm.bytesAll] using g4⟩
  case round =>
  obtain ⟨j, B, d, nn, rfl, hj, rfl, hnn, gr⟩ := hrel
  have HN := Lib.hid hnn
  clear hnn
  by_cases hjl : j < len
  case neg =>
    obtain rfl : len = j := by omega
    have gr' := gr
    rw [HR.out.1, List.take_length, HLF.out.1] at gr'
    have hn' : nn = LT.length := by rw [HN.out, HR.out.1, List.take_length, HLF.out.1]
    have HG := Lib.hid (And.intro gr' hn')
    clear gr gr' hn' HN
    go_wp2_with fail
    go_ret
    exact ⟨B, d, congrArg (fun z => Ending.returned (Value.slice B z d)) HG.out.2, HG.out.1⟩
  have hjl' : j < l.length := by rw [← HR.out.1]; exact hjl
  obtain ⟨g, q, cs, rfl, hcE, hT, hcs, hSg⟩ := HR.out.2.1.elem j hjl'
  have hSo := HR.out.2.2.2.2
  replace hcE := hcE.keep gr.mod (by rintro _ ⟨⟩; exact (hSo g hSg).2)
  have hone := hT.one
  have hst := take_next' l j hjl'
  have hbl : (LF ++ Tm.bytesAll (l.take j)).length + l[j].bytes.length ≤ 1000000000 := by
    have e1 : LF ++ Tm.bytesAll l = LF ++ Tm.bytesAll (l.take (j + 1)) ++ Tm.bytesAll (l.drop (j + 1)) := by rw [List.append_assoc, ← Tm.bytesAll_append, List.take_append_drop]
    have e2 := HLF.out.2
    rw [← HLF.out.1, e1, hst, Tm.bytesAll_append, Tm.bytesAll, Tm.bytesAll] at e2
    simp only [List.length_append, List.length_nil] at e2 ⊢
    omega
  have IHC := fun v (gv : Grow w A v B d (LF ++ Tm.bytesAll (l.take j))) => HR.out.2.2.2.1 l[j] cs S B d (LF ++ Tm.bytesAll (l.take j)) v (HR.out.2.2.1 _ (List.getElem_mem _)).1 (HR.out.2.2.1 _ (List.getElem_mem _)).2 (hT.keep gv.mod (fun i hi => (hSo i hi).2)) (gv.out hSo) (gv.glob HO.out.2.1 HO.out.2.2).1 (gv.glob HO.out.2.1 HO.out.2.2).2 gv.own hbl
  rw [← HN.out] at IHC
  have HNX : Hid (LF ++ Tm.bytesAll (l.take j) ++ l[j].bytes = LF ++ Tm.bytesAll (l.take (j + 1))) := Lib.hid (by rw [hst, Tm.bytesAll_append, Tm.bytesAll, Tm.bytesAll, List.append_nil, List.append_assoc])
  clear hT hSg hSo hst hbl
  go_wp2_with (first
    | (with_reducible refine wpList_loads (o := ⟨some 52, .load 24 (.tmp 51), _, _, _, _⟩) rfl 24 (.tmp 51) rfl g (q + j * 5) (cs) rfl (hcE) _ Tryd.underlying24 rfl (size24' hcs) (.agg (cs).toArray) rfl ?_)
    | (with_reducible refine wpList_allocs (o := ⟨some 7, .alloc 24, _, _, _, _⟩) rfl 24 rfl _ zero24 ?_; intro y7 hy7 my7 zy7; replace zy7 := Lib.hid zy7)
    | (with_reducible refine wpList_storesAll (o := ⟨none, .store 24 (.tmp 7) (.tmp 52), _, _, _, _⟩) rfl 24 (.tmp 7) (.tmp 52) rfl rfl wr.heap.size (cs) rfl (.agg (cs).toArray) rfl rfl 24 _ hy7 (zlen hcs) (hone) (size24' hcs) ?_
       intro u8 hu8 mu8 zu8
       clear zu8
       have g8 := gr.then (my7.trans mu8 (by intro i hi h; simp at h; omega))
       obtain ⟨b8, hb8⟩ : ∃ b, b = wr.heap.size := ⟨_, rfl⟩
       rw [← hb8] at hu8 ⊢
       clear hy7 my7 zy7 mu8 hb8)
    | (with_reducible refine wpList_loads (o := ⟨some 54, .load 24 (.tmp 7), _, _, _, _⟩) rfl 24 (.tmp 7) rfl b8 (0) (cs) rfl (Cells.of_holds hu8) _ Tryd.underlying24 rfl (size24' hcs) (.agg (cs).toArray) rfl ?_)
    | (go_at_call 75
       refine (IHC u8 g8).mono ?_
       rintro e w9 ⟨B', d', rfl, g9⟩
       replace g9 := g8.trans g9
       rw [HNX.out] at g9 ⊢
       clear g8 hu8 IHC gr))
  exact ⟨⟨j + 1, B', d', _, by go_num, by omega, rfl, by simp only [List.length_append], g9⟩, by simp [intOf]; omega⟩
end
section
open Go.RowKit Go.Shelf
set_option linter.unusedSimpArgs false
set_option linter.unusedVariables false
set_option maxRecDepth 1000000 in
set_option maxHeartbeats 4000000 in
theorem lay_U (m : Nat) (ih : LayAll m) (k u n : Int) (s : ByteArray) (K : Option Addr) (len cc : Nat) (l : List Tm) (vs : List (List Value)) (S : Nat → Prop) (A : Option Addr) (c : Nat) (l0 : List UInt8) (w : World) (hlen : len = l.length) (hlm : len ≤ 2199023255552) (hr : RowT w S K vs l) (hd : ∀ t ∈ l, t.depth ≤ m ∧ t.ok = true)
    (hS : ∀ g, S g → g < w.heap.size ∧ g ∉ blk A) (G : Glob w) (h0 : 0 ∉ blk A) (hO : Owns w 0 5 A c l0) (hL : l0.length ≤ 1000000000) (k0 : 0 ≤ k) (k1 : k < 256) (u0 : 0 ≤ u) (u1 : u < 256) (hT : hasB (flds k) 1 = false) (hU : hasB (flds k) 2 = true) (hN : hasB (flds k) 4 = false)
    (LT : List UInt8) (hLT : ((l0 ++ [Tm.b8 k]) ++ [Tm.b8 u]) ++ Tm.bytesAll l = LT) (hLL : LT.length ≤ 1000000000) :
    Calls Tryd.prog 75 #[.slice A l0.length c, .agg (tmc k u n s K len cc).toArray] w (LayP w A LT) := by
  obtain ⟨F, hF⟩ : ∃ F, F = flds k := ⟨_, rfl⟩
  have FC := fun v (g : Glob v) => fieldsOf_c k v g
  rw [← hF] at hT hU hN FC
  have BT := has_b F 1 false hT
  have BU := has_b F 2 true hU
  have BN := has_b F 4 false hN
  obtain ⟨i0, i1, i2, i3, i4⟩ := info5
  have HI := Lib.hid (And.intro i1 (And.intro i2 (And.intro i3 i4)))
  have HO := Lib.hid (And.intro hO (And.intro G h0))
  have HR := Lib.hid (And.intro hlen (And.intro hr (And.intro hd (And.intro ih hS))))
  have HLT := Lib.hid (And.intro hLT hLL)
  have H1 := Lib.hid (len_ok (l := l0) (k := [Tm.b8 k]) (by simp only [List.length_cons, List.length_nil]; omega))
  clear hF hT hU hN i1 i2 i3 i4 hO G h0 hlen hr hd ih hS hLT hLL
  go_enter Tryd.func75, Tryd.ntmps75
  go_wp2_with (first
    | (with_reducible refine wpList_boxes (o := ⟨some 3, .box 24 (.tmp 1), _, _, _, _⟩) rfl 24 (.tmp 1) rfl _ rfl (tmc k u n s K len cc) rfl ?_; intro w1 hb1 m1 z1; replace z1 := Lib.hid z1
       have g1 : Grow w A w1 A c l0 := (Grow.refl HO.out.1).then m1
       obtain ⟨b1, hq1⟩ : ∃ b, b = w.heap.size := ⟨_, rfl⟩
       rw [← hq1] at hb1 ⊢
       have hb := hb1
       have hG1 := (g1.glob HO.out.2.1 HO.out.2.2).1
       clear hb1 z1 hq1 m1
       have e0 := hb.cell 0
       simp only [tmc, List.getElem?_cons_succ, List.getElem?_cons_zero] at e0)
    | (go_at_call 91; refine (FC w1 hG1).mono ?_; rintro e w2 ⟨rfl, rfl⟩; clear hG1 FC)
    | (with_reducible refine wpList_ranW (o := ⟨some 14, .convert 3 5 (.tmp 13), _, _, _, _⟩) (by with_unfolding_all rfl) (oct (Tm.b8 k)) _ (exec_c8 k0 k1 rfl rfl) ?_)
    | (with_reducible refine wpList_lits (o := ⟨some 15, .buildSlice 62 1 _, _, _, _, _⟩) rfl 62 5 1 _ rfl [oct (Tm.b8 k)] ?_ ?_
       · with_unfolding_all exact run_lit27 _ _
       intro x1 hx1 mx1 zx1
       clear zx1
       replace g1 := g1.then mx1
       replace hb := hb.keep mx1 (by simp)
       have rx1 := Reads.one hx1
       clear hx1 mx1 e0)
    | (with_reducible refine wpList_appends x1 (o := ⟨some 16, _, _, _, _, _⟩) rfl (.tmp 11) (.tmp 15) 62 rfl 5 i0 (.int .u8 0) 1 Tryd.underlying62 HI.out.1 HI.out.2.1 HI.out.2.2.1 HI.out.2.2.2 (by with_unfolding_all rfl) 0 (Nat.zero_le _) A _ c (l0) rfl rfl g1.own _ 1 1 [Tm.b8 k] rfl rfl rx1 (H1.out).1 (H1.out).2 ?_
       intro A2 c2 v2 o2 mo2 f2
       have hn2 := g1.own.nblk hb (by decide)
       have g2 := g1.trans ⟨o2, mo2, f2⟩
       replace hb := hb.keep mo2 hn2
       clear g1 rx1 o2 mo2 f2 hn2
       have e1 := hb.cell 1
       simp only [tmc, List.getElem?_cons_succ, List.getElem?_cons_zero] at e1
       obtain ⟨L2, hL2⟩ : ∃ L, L = l0 ++ [Tm.b8 k] := ⟨_, rfl⟩
       rw [← hL2] at g2 ⊢
       have hm2 : L2.length ≤ 1000000200 := by rw [hL2]; simp only [List.length_append, List.length_cons, List.length_nil]; omega
       have HE2 := Lib.hid hL2
       have HL2 := Lib.hid (len_ok (l := L2) (k := [Tm.b8 u]) (by simp only [List.length_cons, List.length_nil]; omega))
       clear hL2)
    | (go_at_call 94; first | ((with_reducible refine Calls.mono (BT _) ?_); rintro e wz ⟨rfl, rfl⟩) | ((with_reducible refine Calls.mono (BU _) ?_); rintro e wz ⟨rfl, rfl⟩) | ((with_reducible refine Calls.mono (BN _) ?_); rintro e wz ⟨rfl, rfl⟩))
    | (with_reducible refine wpList_ranW (o := ⟨some 35, .convert 3 5 (.tmp 34), _, _, _, _⟩) (by with_unfolding_all rfl) (oct (Tm.b8 u)) _ (exec_c8 u0 u1 rfl rfl) ?_)
    | (with_reducible refine wpList_lits (o := ⟨some 36, .buildSlice 62 1 _, _, _, _, _⟩) rfl 62 5 1 _ rfl [oct (Tm.b8 u)] ?_ ?_
       · with_unfolding_all exact run_lit27 _ _
       intro x2 hx2 mx2 zx2
       clear zx2
       replace g2 := g2.then mx2
       replace hb := hb.keep mx2 (by simp)
       have rx2 := Reads.one hx2
       clear hx2 mx2 e1)
    | (with_reducible refine wpList_appends x2 (o := ⟨some 37, _, _, _, _, _⟩) rfl (.tmp 32) (.tmp 36) 62 rfl 5 i0 (.int .u8 0) 1 Tryd.underlying62 HI.out.1 HI.out.2.1 HI.out.2.2.1 HI.out.2.2.2 (by with_unfolding_all rfl) 0 (Nat.zero_le _) A2 _ c2 (L2) rfl rfl g2.own _ 1 1 [Tm.b8 u] rfl rfl rx2 (HL2.out).1 (HL2.out).2 ?_
       intro A3 c3 v3 o3 mo3 f3
       have hn3 := g2.own.nblk hb (by decide)
       have g3 := g2.trans ⟨o3, mo3, f3⟩
       replace hb := hb.keep mo3 hn3
       clear g2 rx2 o3 mo3 f3 hn3
       have e4 := hb.cell 4
       simp only [tmc, List.getElem?_cons_succ, List.getElem?_cons_zero] at e4
       obtain ⟨L3, hL3⟩ : ∃ L, L = L2 ++ [Tm.b8 u] := ⟨_, rfl⟩
       rw [← hL3] at g3 ⊢
       have hm3 : L3.length ≤ 1000000300 := by rw [hL3]; simp only [List.length_append, List.length_cons, List.length_nil]; omega
       have HE3 := Lib.hid hL3
       clear hL3))
  obtain ⟨LF, hLF⟩ : ∃ L : List UInt8, L = L3 := ⟨_, rfl⟩
  have HLF := Lib.hid (And.intro (show LF ++ Tm.bytesAll l = LT by rw [hLF, HE3.out, HE2.out]; exact HLT.out.1) HLT.out.2)
  rw [← hLF] at g3 ⊢
  clear hLF hb e4 BT BU BN
  go_loopw [0, 49] (fun r i wr => ∃ (j : Nat) (B : Option Addr) (d nn : Nat), i = .int .i64 j ∧ j ≤ len ∧ r = .slice B nn d ∧ nn = (LF ++ Tm.bytesAll (l.take j)).length ∧ Grow w A wr B d (LF ++ Tm.bytesAll (l.take j))) (fun _ i _ => len - (intOf i).toNat)
  case atStart => exact ⟨0, A3, c3, _, rfl, by omega, rfl, by simp [Tm.bytesAll], by simpa [Tm.bytesAll] using g3⟩
  case round =>
  obtain ⟨j, B, d, nn, rfl, hj, rfl, hnn, gr⟩ := hrel
  have HN := Lib.hid hnn
  clear hnn
  by_cases hjl : j < len
  case neg =>
    obtain rfl : len = j := by omega
    have gr' := gr
    rw [HR.out.1, List.take_length, HLF.out.1] at gr'
    have hn' : nn = LT.length := by rw [HN.out, HR.out.1, List.take_length, HLF.out.1]
    have HG := Lib.hid (And.intro gr' hn')
    clear gr gr' hn' HN
    go_wp2_with fail
    go_ret
    exact ⟨B, d, congrArg (fun z => Ending.returned (Value.slice B z d)) HG.out.2, HG.out.1⟩
  have hjl' : j < l.length := by rw [← HR.out.1]; exact hjl
  obtain ⟨g, q, cs, rfl, hcE, hT, hcs, hSg⟩ := HR.out.2.1.elem j hjl'
  have hSo := HR.out.2.2.2.2
  replace hcE := hcE.keep gr.mod (by rintro _ ⟨⟩; exact (hSo g hSg).2)
  have hone := hT.one
  have hst := take_next' l j hjl'
  have hbl : (LF ++ Tm.bytesAll (l.take j)).length + l[j].bytes.length ≤ 1000000000 := by
    have e1 : LF ++ Tm.bytesAll l = LF ++ Tm.bytesAll (l.take (j + 1)) ++ Tm.bytesAll (l.drop (j + 1)) := by rw [List.append_assoc, ← Tm.bytesAll_append, List.take_append_drop]
    have e2 := HLF.out.2
    rw [← HLF.out.1, e1, hst, Tm.bytesAll_append, Tm.bytesAll, Tm.bytesAll] at e2
    simp only [List.length_append, List.length_nil] at e2 ⊢
    omega
  have IHC := fun v (gv : Grow w A v B d (LF ++ Tm.bytesAll (l.take j))) => HR.out.2.2.2.1 l[j] cs S B d (LF ++ Tm.bytesAll (l.take j)) v (HR.out.2.2.1 _ (List.getElem_mem _)).1 (HR.out.2.2.1 _ (List.getElem_mem _)).2 (hT.keep gv.mod (fun i hi => (hSo i hi).2)) (gv.out hSo) (gv.glob HO.out.2.1 HO.out.2.2).1 (gv.glob HO.out.2.1 HO.out.2.2).2 gv.own hbl
  rw [← HN.out] at IHC
  have HNX : Hid (LF ++ Tm.bytesAll (l.take j) ++ l[j].bytes = LF ++ Tm.bytesAll (l.take (j + 1))) := Lib.hid (by rw [hst, Tm.bytesAll_append, Tm.bytesAll, Tm.bytesAll, List.append_nil, List.append_assoc])
  clear hT hSg hSo hst hbl
  go_wp2_with (first
    | (with_reducible refine wpList_loads (o := ⟨some 52, .load 24 (.tmp 51), _, _, _, _⟩) rfl 24 (.tmp 51) rfl g (q + j * 5) (cs) rfl (hcE) _ Tryd.underlying24 rfl (size24' hcs) (.agg (cs).toArray) rfl ?_)
    | (with_reducible refine wpList_allocs (o := ⟨some 7, .alloc 24, _, _, _, _⟩) rfl 24 rfl _ zero24 ?_; intro y7 hy7 my7 zy7; replace zy7 := Lib.hid zy7)
    | (with_reducible refine wpList_storesAll (o := ⟨none, .store 24 (.tmp 7) (.tmp 52), _, _, _, _⟩) rfl 24 (.tmp 7) (.tmp 52) rfl rfl wr.heap.size (cs) rfl (.agg (cs).toArray) rfl rfl 24 _ hy7 (zlen hcs) (hone) (size24' hcs) ?_
       intro u8 hu8 mu8 zu8
       clear zu8
       have g8 := gr.then (my7.trans mu8 (by intro i hi h; simp at h; omega))
       obtain ⟨b8, hb8⟩ : ∃ b, b = wr.heap.size := ⟨_, rfl⟩
       rw [← hb8] at hu8 ⊢
       clear hy7 my7 zy7 mu8 hb8)
    | (with_reducible refine wpList_loads (o := ⟨some 54, .load 24 (.tmp 7), _, _, _, _⟩) rfl 24 (.tmp 7) rfl b8 (0) (cs) rfl (Cells.of_holds hu8) _ Tryd.underlying24 rfl (size24' hcs) (.agg (cs).toArray) rfl ?_)
    | (go_at_call 75
       refine (IHC u8 g8).mono ?_
       rintro e w9 ⟨B', d', rfl, g9⟩
       replace g9 := g8.trans g9
       rw [HNX.out] at g9 ⊢
       clear g8 hu8 IHC gr))
  exact ⟨⟨j + 1, B', d', _, by go_num, by omega, rfl, by simp only [List.length_append], g9⟩, by simp [intOf]; omega⟩
end
section
open Go.RowKit Go.Shelf
set_option linter.unusedSimpArgs false
set_option linter.unusedVariables false
set_option maxRecDepth 1000000 in
set_option maxHeartbeats 4000000 in
theorem lay_O (m : Nat) (ih : LayAll m) (k u n : Int) (s : ByteArray) (K : Option Addr) (len cc : Nat) (l : List Tm) (vs : List (List Value)) (S : Nat → Prop) (A : Option Addr) (c : Nat) (l0 : List UInt8) (w : World) (hlen : len = l.length) (hlm : len ≤ 2199023255552) (hr : RowT w S K vs l) (hd : ∀ t ∈ l, t.depth ≤ m ∧ t.ok = true)
    (hS : ∀ g, S g → g < w.heap.size ∧ g ∉ blk A) (G : Glob w) (h0 : 0 ∉ blk A) (hO : Owns w 0 5 A c l0) (hL : l0.length ≤ 1000000000) (k0 : 0 ≤ k) (k1 : k < 256) (hT : hasB (flds k) 1 = false) (hU : hasB (flds k) 2 = false) (hN : hasB (flds k) 4 = false)
    (LT : List UInt8) (hLT : (l0 ++ [Tm.b8 k]) ++ Tm.bytesAll l = LT) (hLL : LT.length ≤ 1000000000) :
    Calls Tryd.prog 75 #[.slice A l0.length c, .agg (tmc k u n s K len cc).toArray] w (LayP w A LT) := by
  obtain ⟨F, hF⟩ : ∃ F, F = flds k := ⟨_, rfl⟩
  have FC := fun v (g : Glob v) => fieldsOf_c k v g
  rw [← hF] at hT hU hN FC
  have BT := has_b F 1 false hT
  have BU := has_b F 2 false hU
  have BN := has_b F 4 false hN
  obtain ⟨i0, i1, i2, i3, i4⟩ := info5
  have HI := Lib.hid (And.intro i1 (And.intro i2 (And.intro i3 i4)))
  have HO := Lib.hid (And.intro hO (And.intro G h0))
  have HR := Lib.hid (And.intro hlen (And.intro hr (And.intro hd (And.intro ih hS))))
  have HLT := Lib.hid (And.intro hLT hLL)
  have H1 := Lib.hid (len_ok (l := l0) (k := [Tm.b8 k]) (by simp only [List.length_cons, List.length_nil]; omega))
  clear hF hT hU hN i1 i2 i3 i4 hO G h0 hlen hr hd ih hS hLT hLL
  go_enter Tryd.func75, Tryd.ntmps75
  go_wp2_with (first
    | (with_reducible refine wpList_boxes (o := ⟨some 3, .box 24 (.tmp 1), _, _, _, _⟩) rfl 24 (.tmp 1) rfl _ rfl (tmc k u n s K len cc) rfl ?_; intro w1 hb1 m1 z1; replace z1 := Lib.hid z1
       have g1 : Grow w A w1 A c l0 := (Grow.refl HO.out.1).then m1
       obtain ⟨b1, hq1⟩ : ∃ b, b = w.heap.size := ⟨_, rfl⟩
       rw [← hq1] at hb1 ⊢
       have hb := hb1
       have hG1 := (g1.glob HO.out.2.1 HO.out.2.2).1
       clear hb1 z1 hq1 m1
       have e0 := hb.cell 0
       simp only [tmc, List.getElem?_cons_succ, List.getElem?_cons_zero] at e0)
    | (go_at_call 91; refine (FC w1 hG1).mono ?_; rintro e w2 ⟨rfl, rfl⟩; clear hG1 FC)
    | (with_reducible refine wpList_ranW (o := ⟨some 14, .convert 3 5 (.tmp 13), _, _, _, _⟩) (by with_unfolding_all rfl) (oct (Tm.b8 k)) _ (exec_c8 k0 k1 rfl rfl) ?_)
    | (with_reducible refine wpList_lits (o := ⟨some 15, .buildSlice 62 1 _, _, _, _, _⟩) rfl 62 5 1 _ rfl [oct (Tm.b8 k)] ?_ ?_
       · with_unfolding_all exact run_lit27 _ _
       intro x1 hx1 mx1 zx1
       clear zx1
       replace g1 := g1.then mx1
       replace hb := hb.keep mx1 (by simp)
       have rx1 := Reads.one hx1
       clear hx1 mx1 e0)
    | (with_reducible refine wpList_appends x1 (o := ⟨some 16, _, _, _, _, _⟩) rfl (.tmp 11) (.tmp 15) 62 rfl 5 i0 (.int .u8 0) 1 Tryd.underlying62 HI.out.1 HI.out.2.1 HI.out.2.2.1 HI.out.2.2.2 (by with_unfolding_all rfl) 0 (Nat.zero_le _) A _ c (l0) rfl rfl g1.own _ 1 1 [Tm.b8 k] rfl rfl rx1 (H1.out).1 (H1.out).2 ?_
       intro A2 c2 v2 o2 mo2 f2
       have hn2 := g1.own.nblk hb (by decide)
       have g2 := g1.trans ⟨o2, mo2, f2⟩
       replace hb := hb.keep mo2 hn2
       clear g1 rx1 o2 mo2 f2 hn2
       have e4 := hb.cell 4
       simp only [tmc, List.getElem?_cons_succ, List.getElem?_cons_zero] at e4
       obtain ⟨L2, hL2⟩ : ∃ L, L = l0 ++ [Tm.b8 k] := ⟨_, rfl⟩
       rw [← hL2] at g2 ⊢
       have hm2 : L2.length ≤ 1000000200 := by rw [hL2]; simp only [List.length_append, List.length_cons, List.length_nil]; omega
       have HE2 := Lib.hid hL2
       clear hL2)
    | (go_at_call 94; first | ((with_reducible refine Calls.mono (BT _) ?_); rintro e wz ⟨rfl, rfl⟩) | ((with_reducible refine Calls.mono (BU _) ?_); rintro e wz ⟨rfl, rfl⟩) | ((with_reducible refine Calls.mono (BN _) ?_); rintro e wz ⟨rfl, rfl⟩)))
  obtain ⟨LF, hLF⟩ : ∃ L : List UInt8, L = L2 := ⟨_, rfl⟩
  have HLF := Lib.hid (And.intro (show LF ++ Tm.bytesAll l = LT by rw [hLF, HE2.out]; exact HLT.out.1) HLT.out.2)
  rw [← hLF] at g2 ⊢
  clear hLF hb e4 BT BU BN
  go_loopw [0, 49] (fun r i wr => ∃ (j : Nat) (B : Option Addr) (d nn : Nat), i = .int .i64 j ∧ j ≤ len ∧ r = .slice B nn d ∧ nn = (LF ++ Tm.bytesAll (l.take j)).length ∧ Grow w A wr B d (LF ++ Tm.bytesAll (l.take j))) (fun _ i _ => len - (intOf i).toNat)
  case atStart => exact ⟨0, A2, c2, _, rfl, by omega, rfl, by simp [Tm.bytesAll], by simpa [Tm.bytesAll] using g2⟩
  case round =>
  obtain ⟨j, B, d, nn, rfl, hj, rfl, hnn, gr⟩ := hrel
  have HN := Lib.hid hnn
  clear hnn
  by_cases hjl : j < len
  case neg =>
    obtain rfl : len = j := by omega
    have gr' := gr
    rw [HR.out.1, List.take_length, HLF.out.1] at gr'
    have hn' : nn = LT.length := by rw [HN.out, HR.out.1, List.take_length, HLF.out.1]
    have HG := Lib.hid (And.intro gr' hn')
    clear gr gr' hn' HN
    go_wp2_with fail
    go_ret
    exact ⟨B, d, congrArg (fun z => Ending.returned (Value.slice B z d)) HG.out.2, HG.out.1⟩
  have hjl' : j < l.length := by rw [← HR.out.1]; exact hjl
  obtain ⟨g, q, cs, rfl, hcE, hT, hcs, hSg⟩ := HR.out.2.1.elem j hjl'
  have hSo := HR.out.2.2.2.2
  replace hcE := hcE.keep gr.mod (by rintro _ ⟨⟩; exact (hSo g hSg).2)
  have hone := hT.one
  have hst := take_next' l j hjl'
  have hbl : (LF ++ Tm.bytesAll (l.take j)).length + l[j].bytes.length ≤ 1000000000 := by
    have e1 : LF ++ Tm.bytesAll l = LF ++ Tm.bytesAll (l.take (j + 1)) ++ Tm.bytesAll (l.drop (j + 1)) := by rw [List.append_assoc, ← Tm.bytesAll_append, List.take_append_drop]
    have e2 := HLF.out.2
    rw [← HLF.out.1, e1, hst, Tm.bytesAll_append, Tm.bytesAll, Tm.bytesAll] at e2
    simp only [List.length_append, List.length_nil] at e2 ⊢
    omega
  have IHC := fun v (gv : Grow w A v B d (LF ++ Tm.bytesAll (l.take j))) => HR.out.2.2.2.1 l[j] cs S B d (LF ++ Tm.bytesAll (l.take j)) v (HR.out.2.2.1 _ (List.getElem_mem _)).1 (HR.out.2.2.1 _ (List.getElem_mem _)).2 (hT.keep gv.mod (fun i hi => (hSo i hi).2)) (gv.out hSo) (gv.glob HO.out.2.1 HO.out.2.2).1 (gv.glob HO.out.2.1 HO.out.2.2).2 gv.own hbl
  rw [← HN.out] at IHC
  have HNX : Hid (LF ++ Tm.bytesAll (l.take j) ++ l[j].bytes = LF ++ Tm.bytesAll (l.take (j + 1))) := Lib.hid (by rw [hst, Tm.bytesAll_append, Tm.bytesAll, Tm.bytesAll, List.append_nil, List.append_assoc])
  clear hT hSg hSo hst hbl
  go_wp2_with (first
    | (with_reducible refine wpList_loads (o := ⟨some 52, .load 24 (.tmp 51), _, _, _, _⟩) rfl 24 (.tmp 51) rfl g (q + j * 5) (cs) rfl (hcE) _ Tryd.underlying24 rfl (size24' hcs) (.agg (cs).toArray) rfl ?_)
    | (with_reducible refine wpList_allocs (o := ⟨some 7, .alloc 24, _, _, _, _⟩) rfl 24 rfl _ zero24 ?_; intro y7 hy7 my7 zy7; replace zy7 := Lib.hid zy7)
    | (with_reducible refine wpList_storesAll (o := ⟨none, .store 24 (.tmp 7) (.tmp 52), _, _, _, _⟩) rfl 24 (.tmp 7) (.tmp 52) rfl rfl wr.heap.size (cs) rfl (.agg (cs).toArray) rfl rfl 24 _ hy7 (zlen hcs) (hone) (size24' hcs) ?_
       intro u8 hu8 mu8 zu8
       clear zu8
       have g8 := gr.then (my7.trans mu8 (by intro i hi h; simp at h; omega))
       obtain ⟨b8, hb8⟩ : ∃ b, b = wr.heap.size := ⟨_, rfl⟩
       rw [← hb8] at hu8 ⊢
       clear hy7 my7 zy7 mu8 hb8)
    | (with_reducible refine wpList_loads (o := ⟨some 54, .load 24 (.tmp 7), _, _, _, _⟩) rfl 24 (.tmp 7) rfl b8 (0) (cs) rfl (Cells.of_holds hu8) _ Tryd.underlying24 rfl (size24' hcs) (.agg (cs).toArray) rfl ?_)
    | (go_at_call 75
       refine (IHC u8 g8).mono ?_
       rintro e w9 ⟨B', d', rfl, g9⟩
       replace g9 := g8.trans g9
       rw [HNX.out] at g9 ⊢
       clear g8 hu8 IHC gr))
  exact ⟨⟨j + 1, B', d', _, by go_num, by omega, rfl, by simp only [List.length_append], g9⟩, by simp [intOf]; omega⟩
end
end
section
open Go.RowKit Go.Shelf
set_option linter.unusedVariables false
theorem head_len {k u n : Int} {s : ByteArray} {c : Nat} (h : Tm.one k u n s.size c = true) : (Tm.head k u n s).length ≤ 69 := by
  obtain ⟨_, ⟨hs, _, _⟩, _⟩ := Tm.one_iff.1 h
  unfold Tm.head
  cases hT : Tm.hasT k <;> cases hU : Tm.hasU k <;> cases hN : Tm.hasN k <;> rw [hT] at hs <;> simp at hs ⊢ <;> omega
mutual
theorem bytes_len : ∀ t : Tm, t.ok = true → t.bytes.length ≤ 69 * t.count
  | .mk k u n s l, h => by
    rw [ok_mk, Bool.and_eq_true] at h
    have h1 := head_len h.1
    have h2 := bytesAll_len l h.2
    rw [Tm.bytes, Tm.count, List.length_append]
    omega
theorem bytesAll_len : ∀ l : List Tm, Tm.okAll l = true → (Tm.bytesAll l).length ≤ 69 * Tm.countAll l
  | [], _ => by simp [Tm.bytesAll]
  | t :: l, h => by
    rw [Tm.okAll, Bool.and_eq_true] at h
    have h1 := bytes_len t h.1
    have h2 := bytesAll_len l h.2
    rw [Tm.bytesAll, Tm.countAll, List.length_append]
    omega
end
theorem lay_all : ∀ m, LayAll m
  | 0, t, _, _, _, _, _, _, h, _, _, _, _, _, _, _ => by have := Tm.depth_pos t; omega
  | m + 1, .mk k u n s l, cs, S, A, c, l0, w, h, hok, hT, hS, G, h0, hO, hL => by
    obtain ⟨K, cc, vs, rfl, hr, hlc, hcm, hlm, hs⟩ := hT.row
    rw [Tm.depth] at h
    rw [ok_mk, Bool.and_eq_true] at hok
    obtain ⟨hk, ⟨hsz, hu, hn⟩, hnk⟩ := Tm.one_iff.1 hok.1
    have hd : ∀ t ∈ l, t.depth ≤ m ∧ t.ok = true := fun t ht => ⟨by have := Tm.mem_depth ht; omega, Tm.mem_ok ht hok.2⟩
    have hLL : (l0 ++ Tm.bytes (.mk k u n s l)).length ≤ 1000000000 := by rw [List.length_append]; exact hL
    have hL0 : l0.length ≤ 1000000000 := by omega
    rw [Tm.bytes_mk] at hLL ⊢
    rcases kind_cases hk with rfl | rfl | rfl | rfl | rfl | rfl | rfl | rfl
    · exact lay_T m (lay_all m) 1 u n s K l.length cc l vs S A c l0 w rfl hlm hr hd hS G h0 hO hL0 (by decide) (by decide) (by simpa [Tm.hasT] using hsz) (by decide) (by decide) (by decide) _ (by simp [Tm.hasT, Tm.hasU, Tm.hasN]) hLL
    · exact lay_UN m (lay_all m) 2 u n s K l.length cc l vs S A c l0 w rfl hlm hr hd hS G h0 hO hL0 (by decide) (by decide) (by have := hu.1; simp [Tm.hasU] at this; omega) (by have := hu.2; simp [Tm.hasU] at this; omega) hn.1 (by simpa [Tm.hasN] using hn.2) (by decide) (by decide) (by decide) _ (by simp [Tm.hasT, Tm.hasU, Tm.hasN]) hLL
    · exact lay_U m (lay_all m) 3 u n s K l.length cc l vs S A c l0 w rfl hlm hr hd hS G h0 hO hL0 (by decide) (by decide) (by have := hu.1; simp [Tm.hasU] at this; omega) (by have := hu.2; simp [Tm.hasU] at this; omega) (by decide) (by decide) (by decide) _ (by simp [Tm.hasT, Tm.hasU, Tm.hasN]) hLL
    · exact lay_O m (lay_all m) 4 u n s K l.length cc l vs S A c l0 w rfl hlm hr hd hS G h0 hO hL0 (by decide) (by decide) (by decide) (by decide) (by decide) _ (by simp [Tm.hasT, Tm.hasU, Tm.hasN]) hLL
    · exact lay_O m (lay_all m) 5 u n s K l.length cc l vs S A c l0 w rfl hlm hr hd hS G h0 hO hL0 (by decide) (by decide) (by decide) (by decide) (by decide) _ (by simp [Tm.hasT, Tm.hasU, Tm.hasN]) hLL
    · exact lay_O m (lay_all m) 6 u n s K l.length cc l vs S A c l0 w rfl hlm hr hd hS G h0 hO hL0 (by decide) (by decide) (by decide) (by decide) (by decide) _ (by simp [Tm.hasT, Tm.hasU, Tm.hasN]) hLL
    · exact lay_U m (lay_all m) 7 u n s K l.length cc l vs S A c l0 w rfl hlm hr hd hS G h0 hO hL0 (by decide) (by decide) (by have := hu.1; simp [Tm.hasU] at this; omega) (by have := hu.2; simp [Tm.hasU] at this; omega) (by decide) (by decide) (by decide) _ (by simp [Tm.hasT, Tm.hasU, Tm.hasN]) hLL
    · exact lay_UN m (lay_all m) 8 u n s K l.length cc l vs S A c l0 w rfl hlm hr hd hS G h0 hO hL0 (by decide) (by decide) (by have := hu.1; simp [Tm.hasU] at this; omega) (by have := hu.2; simp [Tm.hasU] at this; omega) hn.1 (by simpa [Tm.hasN] using hn.2) (by decide) (by decide) (by decide) _ (by simp [Tm.hasT, Tm.hasU, Tm.hasN]) hLL
/-- Bytes of the call's own, made since. -/
def Made (w : World) (A : Option Addr) (c : Nat) (l : List UInt8) (w' : World) : Prop := Owns w' 0 5 A c l ∧ Mod [] w w' ∧ (∀ a, A = some a → w.heap.size ≤ a.block)
set_option maxRecDepth 1000000 in
set_option maxHeartbeats 4000000 in
theorem encode_yes (t : Tm) (cs : List Value) (S : Nat → Prop) (w : World) (hT : TIs w S t cs) (hS : ∀ g, S g → g < w.heap.size) (G : Glob w) (hr : t.right = true) : Calls Tryd.prog 50 #[.agg cs.toArray] w fun e w' => ∃ A c, e = .returned (.tuple #[.slice A t.bytes.length c, .int .i64 0]) ∧ Made w A c t.bytes w' := by
  have hcs := hT.len
  have hone := hT.one
  have CC := fun v (mv : Mod [] w v) => check_c t cs S v (hT.keep mv (by simp)) (G.then mv)
  have hc : chk t = 0 := by unfold chk; rw [hr]; rfl
  have hlen : t.bytes.length ≤ 1000000000 := by
    unfold Tm.right at hr
    simp only [Bool.and_eq_true, decide_eq_true_eq] at hr
    have := bytes_len t hr.1.1
    omega
  have hok : t.ok = true := by
    unfold Tm.right at hr
    simp only [Bool.and_eq_true] at hr
    exact hr.1.1
  have LC := fun v (mv : Mod [] w v) => lay_all _ t cs S none 0 [] v (Nat.le_refl _) hok (hT.keep mv (by simp)) (fun g hg => ⟨Nat.lt_of_lt_of_le (hS g hg) mv.size, by simp [blk]⟩) (G.then mv) (by simp [blk]) (Owns.nil _ _ _) (by simpa using hlen)
  rw [hc] at CC
  simp only [List.nil_append, List.length_nil] at LC
  clear hT G hr hc hS hlen hok
  go_enter Tryd.func50, Tryd.ntmps50
  go_wp2_with (first
    | (with_reducible refine wpList_boxes (o := ⟨some 1, .box 24 (.tmp 0), _, _, _, _⟩) rfl 24 (.tmp 0) rfl _ rfl (cs) rfl ?_; intro w1 hb1 m1 z1; replace z1 := Lib.hid z1
       obtain ⟨b1, hq1⟩ : ∃ b, b = w.heap.size := ⟨_, rfl⟩
       rw [← hq1] at hb1 ⊢
       clear z1 hq1)
    | (with_reducible refine wpList_loads (o := ⟨some 5, .load 24 (.tmp 1), _, _, _, _⟩) rfl 24 (.tmp 1) rfl b1 (0) (cs) rfl (Cells.of_holds hb1) _ Tryd.underlying24 rfl (size24' hcs) (.agg (cs).toArray) rfl ?_)
    | (with_reducible refine wpList_loads (o := ⟨some 10, .load 24 (.tmp 1), _, _, _, _⟩) rfl 24 (.tmp 1) rfl b1 (0) (cs) rfl (Cells.of_holds hb1) _ Tryd.underlying24 rfl (size24' hcs) (.agg (cs).toArray) rfl ?_)
    | (go_at_call 32
       refine (CC w1 m1).mono ?_
       rintro e w5 ⟨rfl, m5⟩
       have m6 := m1.then m5
       replace hb1 := hb1.keep m5 (by simp)
       clear m1 m5)
    | (go_at_call 75
       refine (LC _ m6).mono ?_
       rintro e w7 ⟨A', c', rfl, o7, m7, f7⟩))
  go_ret2
  exact ⟨A', c', rfl, o7, m6.trans m7 (by simp [blk]), fun a ha => by
    rcases f7 a ha with h | h
    · simp [blk] at h
    · exact Nat.le_trans m6.size h⟩
end
end Go.Proofs.YtchanildogjhgaaDoor

