/-
  My own texts Wf Wg Wi Wj, one behind the other.
-/
import Derived.Test.YtcoedhemlghjoaaDoorBl
import Derived.Test.YtcoedhemlghjoaaDoorBf
import Derived.Test.YtcoedhemlghjoaaDoorBe
namespace Go.Proofs.YtcoedhemlghjoaaDoor
section
open Go.RowKit Go.Shelf
attribute [local go_sem] Oper.semAt_some
/-- What the iterator reads. -/
structure Lf (c s : List UInt32) (ms : List Nat) (n0 b1 b2 b3 : Nat) (A : Option Addr) (e : List UInt8) (cap t m : Nat) (W : World) : Prop where
  glob : Glob c s W
  c1 : Cells W (some ⟨b1, 0, none⟩) [.slice A e.length cap]
  c2 : Cells W (some ⟨b2, 0, none⟩) [.int .u32 (t : Int)]
  c3 : Cells W (some ⟨b3, 0, none⟩) [.int .i64 (m : Int)]
  rd : Reads W A e
  k1 : b1 < n0 ∧ b1 ∉ ms
  k2 : b2 < n0 ∧ b2 ∉ ms
  k3 : b3 < n0 ∧ b3 ∉ ms
  kA : ∀ a, A = some a → a.block < n0 ∧ a.block ∉ ms
  two : 2 ≤ n0
  kc : e.length ≤ cap
  out : ∀ i ∈ ms, 2 ≤ i
theorem Lf.keep {c s : List UInt32} {ms : List Nat} {n0 b1 b2 b3 : Nat} {A : Option Addr} {e : List UInt8} {cap t m : Nat} {W V : World} (h : Lf c s ms n0 b1 b2 b3 A e cap t m W) (k : KeepL ms n0 W V) : Lf c s ms n0 b1 b2 b3 A e cap t m V :=
  ⟨k.glob h.glob h.two h.out, k.cells h.c1 (fun a ha => by cases ha; exact h.k1), k.cells h.c2 (fun a ha => by cases ha; exact h.k2), k.cells h.c3 (fun a ha => by cases ha; exact h.k3), k.reads h.rd h.kA, h.k1, h.k2, h.k3, h.kA, h.two, h.kc, h.out⟩
theorem Lf.mod {c s : List UInt32} {ms : List Nat} {n0 b1 b2 b3 : Nat} {A : Option Addr} {e : List UInt8} {cap t m : Nat} {W V : World} (h : Lf c s ms n0 b1 b2 b3 A e cap t m W) (k : Mod [] W V) : Lf c s ms n0 b1 b2 b3 A e cap t m V := h.keep (k.keepL n0 (fun _ h => by cases h))
theorem Cells.one {w : World} {g : Nat} {v : Value} (h : Cells w (some ⟨g, 0, none⟩) [v]) : w.cell? ⟨g, 0, none⟩ = some v := by
  have := h.at 0 (by simp)
  simpa using this
theorem reads_take {w : World} {A : Option Addr} {l : List UInt8} (h : Reads w A l) (k : Nat) : Reads w A (l.take k) := fun i hi => by
  have hi' : i < l.length := by simp at hi; omega
  obtain ⟨g, o, hA, hx⟩ := h i hi'
  exact ⟨g, o, hA, by rw [hx]; simp⟩
theorem bound12 (t m L q z : Nat) (e : List UInt8) : ((hi t 4 ++ hi m 4 ++ hi L 2 ++ hi q 2).length + ((e.drop z).take 48).length) * 1 ≤ 140737488355328 ∧ (hi t 4 ++ hi m 4 ++ hi L 2 ++ hi q 2).length + ((e.drop z).take 48).length ≤ maxLen := by
  have h1 : (hi t 4 ++ hi m 4 ++ hi L 2 ++ hi q 2).length = 12 := by simp [hi_length]
  have h2 : ((e.drop z).take 48).length ≤ 48 := by rw [List.length_take]; omega
  have h3 : (60 : Nat) ≤ maxLen := by decide
  rw [h1]
  omega
theorem own12 {w : World} {g : Nat} {l : List UInt8} {n : Nat} (h : Holds w g 5 (l.map oct)) (hl : l.length = n) (hn : n ≤ 1000) : Owns w 0 5 (some ⟨g, 0, none⟩) n l := by
  subst hl
  exact Owns.of_holds h (Nat.zero_le _) (Nat.le_trans hn (by decide))
set_option maxRecDepth 100000 in
set_option maxHeartbeats 4000000 in
theorem leaves_in (c s : List UInt32) (n : Nat) (hn : 1 ≤ n) (y b1 b2 b3 n0 cap : Nat) (ms : List Nat) (A : Option Addr) (e : List UInt8) (t m : Nat) (ht : t < 4294967296) (hm : m < 4294967296) (he : e.length ≤ 9223372036854775807) (J Jx : List Blk → World → Prop)
    (hJ : ∀ pre v v', J pre v → Mod [] v v' → J pre v')
    (hY : ∀ pre x W, J pre W → pre.length < fills e.length → YieldAt Fence.wide (n - 1) Tryd.prog y #[bv x] W fun r W' => (r = .returned (.bool true) ∧ J (pre ++ [x]) W' ∧ KeepL ms n0 W W') ∨ (r = .returned (.bool false) ∧ Jx (pre ++ [x]) W'))
    (W : World) (H : Lf c s ms n0 b1 b2 b3 A e cap t m W) (h0 : J [] W) :
    CallsIn Fence.wide n Tryd.prog 57 #[.func (.yield y) #[] #[], .pointer (some ⟨b1, 0, none⟩), .pointer (some ⟨b2, 0, none⟩), .pointer (some ⟨b3, 0, none⟩)] W fun r W' => (∃ v, r = .returned v) ∧ (J (leavesB c s t m e) W' ∨ ∃ pre, (∃ u, leavesB c s t m e = pre ++ u) ∧ Jx pre W') := by
  have XS := fun v => sectors_c e.length he v
  obtain ⟨L, hL⟩ : ∃ L, L = e.length := ⟨_, rfl⟩
  obtain ⟨N, hN⟩ : ∃ N, N = fills L := ⟨_, rfl⟩
  have hN834 : N ≤ 834 := by rw [hN]; exact fills_le L
  rw [← hL] at he
  simp only [← hL, ← hN] at XS
  have X1 := fun v => put32_none t ht v
  have X2 := fun v p h => put32_at (hi t 4) 4 p m (by rw [hi_length]) (by omega) hm v h
  obtain ⟨Z, hZ⟩ : ∃ Z, Z = leavesB c s t m e := ⟨_, rfl⟩
  have hZl : Z.length = N := by rw [hZ, leavesB_length, hN, hL]
  have hZk : ∀ k, k < N → Z.take (k + 1) = Z.take k ++ [leafB c s t m e k] := fun k hk => by
    rw [List.take_add_one]
    congr 1
    rw [hZ]
    simp [leavesB, ← hL, ← hN, hk]
  have X3 := fun (L2 : Nat) (h2 : L2 < 65536) v p h => put16_at (hi t 4 ++ hi m 4) 8 p L2 (by simp [hi_length]) (by omega) h2 v h
  rw [← hZ]
  have HW := Lib.hid (And.intro hL (And.intro hN (And.intro H (And.intro hZ (And.intro hZl hZk)))))
  have d1 := H.c1.one
  rw [← hL] at d1
  have HT := Lib.hid (And.intro ht hm)
  obtain ⟨i0, j1, j2, j3, j4⟩ := u8_info
  have HI := Lib.hid (And.intro j1 (And.intro j2 (And.intro j3 j4)))
  clear j1 j2 j3 j4
  have hNZ : (N : Int) ≤ 834 := by omega
  have hLZ : (L : Int) ≤ 9223372036854775807 := by omega
  rw [← hL, ← hN] at hY
  clear hL hN H hZ hZl hZk ht hm he hN834
  refine callsIn_of_wp Tryd.func57 rfl trivial ?_ rfl
  simp only [Tryd.ntmps57, List.size_toArray, List.length_cons, List.length_nil, Nat.reduceAdd, Nat.reduceSub, Array.replicate_succ, Array.replicate_zero, List.push_toArray, List.append_toArray, List.nil_append, List.cons_append]
  gi_wp2_with (first | (refine ⟨trivial, (callsIn_wide.2 (XS _)).mono ?_⟩; rintro r W1 ⟨rfl, rfl⟩))
  gi_loopw [11] (fun i wr => ∃ k : Nat, k ≤ N ∧ i = .int .i64 (k : Int) ∧ J (Z.take k) wr ∧ KeepL ms n0 W1 wr) (fun i _ => ((N : Int) - intOf i).toNat)
  case atStart => exact ⟨0, Nat.zero_le _, rfl, by simpa using h0, KeepL.refl _ _ _⟩
  case round =>
    obtain ⟨k, hk, rfl, hJs, hnx⟩ := hrel
    by_cases hlt : k < N
    · have hlf := HW.out.2.2.1.keep hnx
      obtain ⟨z, hz⟩ : ∃ z, z = 48 * k := ⟨_, rfl⟩
      have hzL : z ≤ L ∧ L ≤ 40000 := by
        have := fills_in L k (by have := HW.out.2.1; omega)
        omega
      obtain ⟨q, hq⟩ : ∃ q, q = L - z := ⟨_, rfl⟩
      obtain ⟨x, hx⟩ : ∃ x, x = min q 48 := ⟨_, rfl⟩
      have e1 := hlf.c1.one
      have e2 := hlf.c2.one
      have e3 := hlf.c3.one
      rw [← HW.out.1] at e1
      have hzZ : (48 : Int) * (k : Int) = (z : Int) := by omega
      have hLZ2 : (L : Int) ≤ 40000 := by omega
      have hzq : z ≤ L := hzL.1
      have HQ := Lib.hid (And.intro hz (And.intro hzL (And.intro hq (And.intro hx (And.intro hlf hnx)))))
      clear hz hzL hlf hnx d1 hLZ hzq hq hx
      have HZ := Lib.hid (And.intro (hi_length t 4) (hi_length m 4))
      gi_wp2_with (first
        | (refine wpListIn_ranW (o := ⟨some 17, .slice 34 _ _ _ _, _, _, _, _⟩) (fun _ => trivial) rfl (by intro c hc; cases hc) (.slice (Sh.frm A z cap) q (cap - z)) wr (by rw [HQ.out.2.2.1]; exact Sh.exec_from (k := z) Tryd.underlying34 u8_one HQ.out.2.1.1 rfl rfl rfl) ?_)
        | (refine ⟨trivial, (callsIn_wide.2 (X1 _)).mono ?_⟩
           rintro r w1 ⟨rfl, hp1, m1⟩
           obtain ⟨p1, ep⟩ : ∃ b, b = wr.heap.size := ⟨_, rfl⟩
           have HP1 := Lib.hid (show W1.heap.size ≤ p1 by rw [ep]; exact HQ.out.2.2.2.2.2.size)
           rw [← ep] at hp1 ⊢
           have e2 := (HQ.out.2.2.2.2.1.mod m1).c3.one
           have hx2 := X2 w1 p1 hp1
           clear ep X1 X2)
        | (refine wpListIn_ranW (o := ⟨some 22, .convert _ _ _, _, _, _, _⟩) (fun _ => trivial) rfl (by intro c hc; cases hc) (.int .u32 (m : Int)) w1 (Sh.exec_convi rfl rfl (conv_u32 m HT.out.2 w1)) ?_)
        | (refine ⟨trivial, (callsIn_wide.2 hx2).mono ?_⟩
           rintro r w2 ⟨rfl, hp2, m2⟩
           obtain ⟨p2, ep⟩ : ∃ b, b = w1.heap.size := ⟨_, rfl⟩
           have HP2 := Lib.hid (show W1.heap.size ≤ p2 by rw [ep]; have := HP1.out; have := HQ.out.2.2.2.2.2.size; have := m1.size; omega)
           rw [← ep] at hp2 ⊢
           have mm : Mod [] wr w2 := m1.then m2
           have e1 := (HQ.out.2.2.2.2.1.mod mm).c1.one
           rw [← HW.out.1] at e1
           have hx3 := X3 L (by have := HQ.out.2.1; omega) w2 p2 hp2
           clear ep hx2 hp1 m1 m2)
        | (refine wpListIn_ranW (o := ⟨some 27, .convert _ _ _, _, _, _, _⟩) (fun _ => trivial) rfl (by intro c hc; cases hc) (.int .u16 (L : Int)) w2 (Sh.exec_convi rfl rfl (conv_u16 L (by have := HQ.out.2.1; omega) w2)) ?_)
        | (refine ⟨trivial, (callsIn_wide.2 hx3).mono ?_⟩
           rintro r w3 ⟨rfl, hp3, m3⟩
           obtain ⟨p3, ep⟩ : ∃ b, b = w2.heap.size := ⟨_, rfl⟩
           have HP3 := Lib.hid (show W1.heap.size ≤ p3 by rw [ep]; have := HQ.out.2.2.2.2.2.size; have := mm.size; omega)
           rw [← ep] at hp3 ⊢
           replace mm := mm.then m3
           have hx4 := put16_at (hi t 4 ++ hi m 4 ++ hi L 2) 10 p3 q (by simp [hi_length]) (by omega) (by have := HQ.out.2.1; have := HQ.out.2.2.1; omega) w3 hp3
           clear ep hx3 hp2 m3 X3)
        | (refine wpListIn_ranW (o := ⟨some 32, .convert _ _ _, _, _, _, _⟩) (fun _ => trivial) rfl (by intro c hc; cases hc) (.int .u16 (q : Int)) w3 (Sh.exec_convi rfl rfl (conv_u16 q (by have := HQ.out.2.1; have := HQ.out.2.2.1; omega) w3)) ?_)
        | (refine ⟨trivial, (callsIn_wide.2 hx4).mono ?_⟩
           rintro r w4 ⟨rfl, hp4, m4⟩
           obtain ⟨p4, ep⟩ : ∃ b, b = w3.heap.size := ⟨_, rfl⟩
           have HP4 := Lib.hid (show wr.heap.size ≤ p4 by rw [ep]; have := mm.size; omega)
           rw [← ep] at hp4 ⊢
           replace mm := mm.then m4
           clear ep hx4 hp3 m4)
        | (refine wpListIn_ranW (o := ⟨some 38, .call _, _, _, _, _⟩) (fun _ => trivial) rfl (by intro c hc; cases hc) (.int .i64 (x : Int)) w4 (by rw [show ((x : Nat) : Int) = min (q : Int) 48 by have := HQ.out.2.2.2.1; omega]; exact exec_min1 rfl rfl rfl) ?_)
        | (refine wpListIn_ranW (o := ⟨some 39, .slice 34 _ _ _ _, _, _, _, _⟩) (fun _ => trivial) rfl (by intro c hc; cases hc) (.slice (Sh.frm A z cap) x (cap - z)) w4 (Sh.exec_upto (k := x) Tryd.underlying34 u8_one (by have := HQ.out.2.2.2.1; have := HQ.out.2.2.1; have := HQ.out.2.2.2.2.1.kc; have := HW.out.1; omega) rfl rfl rfl) ?_)
        | (refine wpListIn_appends (o := ⟨some 40, _, _, _, _, _⟩) (fun _ => trivial) w4 rfl (.tmp 34) (.tmp 39) 34 rfl 5 i0 (.int .u8 0) 1 Tryd.underlying34 HI.out.1 HI.out.2.1 HI.out.2.2.1 HI.out.2.2.2 rfl 0 (Nat.zero_le _) (some ⟨p4, 0, none⟩) 12 12 (hi t 4 ++ hi m 4 ++ hi L 2 ++ hi q 2) rfl (by simp [hi_length]) (own12 hp4 (by simp [hi_length]) (by omega)) (Sh.frm A z cap) x (cap - z) ((e.drop z).take 48) rfl (by rw [List.length_take, List.length_drop]; have := HQ.out.2.2.2.1; have := HQ.out.2.2.1; have := HW.out.1; omega) (reads_take ((HQ.out.2.2.2.2.1.mod mm).rd.from z cap HQ.out.2.2.2.2.1.kc) 48) (bound12 t m L q z e).1 (bound12 t m L q z e).2 ?_
           intro A' c' w5 hO hM _
           obtain ⟨nn, hnn⟩ : ∃ b, b = (hi t 4 ++ hi m 4 ++ hi L 2 ++ hi q 2 ++ (e.drop z).take 48).length := ⟨_, rfl⟩
           have hrd5 : Reads w5 A' (leafL t m L q ((e.drop z).take 48)) := hO.reads
           have hB5 : sealB c s (leafL t m L q ((e.drop z).take 48)) = leafB c s t m e k := by
             unfold leafB
             rw [← HQ.out.1, ← HW.out.1, ← HQ.out.2.2.1]
           replace mm := mm.trans hM (fun i hi h => by have := HP4.out; simp [blk] at h; omega)
           have hsc := sealed_c c s A' (leafL t m L q ((e.drop z).take 48)) nn c' hnn (by rw [leafL_length]; omega) (by rw [leafL_length, List.length_take]; omega) w5 (HQ.out.2.2.2.2.1.mod mm).glob hrd5
           rw [hB5] at hsc
           rw [← hnn]
           clear hB5 hrd5 hnn hO hM hp4)
        | (refine ⟨trivial, (callsIn_wide.2 hsc).mono ?_⟩
           rintro r w6 ⟨rfl, m6⟩
           replace mm := mm.then m6
           obtain ⟨fn, tmps, assign, body, hy, hR⟩ := hY (Z.take k) (leafB c s t m e k) w6 (hJ _ _ _ hJs mm) (by rw [List.length_take]; omega)
           clear hsc m6))
      refine hR.mono ?_
      rintro r W3 (⟨rfl, hJ3, hk3⟩ | ⟨rfl, hJx3⟩)
      · gi_wp2
        refine ⟨⟨k + 1, by omega, by simp, by rw [HW.out.2.2.2.2.2 k hlt]; exact hJ3, HQ.out.2.2.2.2.2.trans ((mm.keepL n0 (fun _ h => by cases h)).trans hk3)⟩, by simp [intOf]; omega⟩
      · gi_wp2
        refine bodyPost_ret (results_none rfl _ _ _) rfl ?_
        exact ⟨⟨_, rfl⟩, .inr ⟨_, ⟨Z.drop (k + 1), by rw [← HW.out.2.2.2.2.2 k hlt, List.take_append_drop]⟩, hJx3⟩⟩
    · obtain rfl : N = k := by omega
      have hall : Z.take N = Z := List.take_of_length_le (by rw [HW.out.2.2.2.2.1]; exact Nat.le_refl _)
      rw [hall] at hJs
      clear hall hnx d1
      gi_wp2
      go_end0
      exact ⟨⟨_, rfl⟩, .inl hJs⟩
/-- The leaves of an entry: for every loop's body that keeps what they are made of. -/
theorem leaves_stops (c s : List UInt32) (n : Nat) (hn : 1 ≤ n) (b1 b2 b3 n0 cap : Nat) (ms : List Nat) (A : Option Addr) (e : List UInt8) (t m : Nat) (ht : t < 4294967296) (hm : m < 4294967296) (he : e.length ≤ 9223372036854775807) (w : World) (H : Lf c s ms n0 b1 b2 b3 A e cap t m w) (_ : n0 ≤ w.heap.size) :
    SeqStopsK Fence.wide n Tryd.prog 57 #[.pointer (some ⟨b1, 0, none⟩), .pointer (some ⟨b2, 0, none⟩), .pointer (some ⟨b3, 0, none⟩)] (fun x => #[bv x]) (KeepL ms n0) (fun xs => xs = leavesB c s t m e) (fun pre => ∃ u, leavesB c s t m e = pre ++ u) (fills e.length) w := fun y J Jx W hW hJ _ hY h0 => by
  have hk : KeepL ms n0 w W := ⟨hW.size, fun k h1 _ _ => hW.block k (by omega)⟩
  refine (leaves_in c s n hn y b1 b2 b3 n0 cap ms A e t m ht hm he J Jx (fun pre v v' h k => hJ pre v v' none h ⟨k.os, k.tape, k.output, k.size, fun i hi _ => k.block i hi (by simp)⟩ (fun r h => by cases h)) hY W (H.keep hk) h0).mono ?_
  rintro r W' ⟨h1, h2 | h2⟩
  · exact ⟨h1, .inl ⟨_, rfl, h2⟩⟩
  · exact ⟨h1, .inr h2⟩
end
section
open Go.RowKit Go.Shelf
theorem leaves_c (t m : Nat) (A : Option Addr) (L cap : Nat) (w : World) : Calls Tryd.prog 40 #[.int .u32 (t : Int), .int .i64 (m : Int), .slice A L cap] w fun e w' =>
    e = .returned (.func (.func 57) #[] #[.pointer (some ⟨w.heap.size + 2, 0, none⟩), .pointer (some ⟨w.heap.size, 0, none⟩), .pointer (some ⟨w.heap.size + 1, 0, none⟩)]) ∧
    Holds w' w.heap.size 36 [.int .u32 (t : Int)] ∧ Holds w' (w.heap.size + 1) 3 [.int .i64 (m : Int)] ∧ Holds w' (w.heap.size + 2) 34 [.slice A L cap] ∧ Mod [] w w' ∧ w'.heap.size = w.heap.size + 3 := by
  go_enter Tryd.func40, Tryd.ntmps40
  go_wp2_with (first
    | (with_reducible refine wpList_boxes (o := ⟨some 3, .box 36 (.tmp 0), _, _, _, _⟩) rfl 36 (.tmp 0) rfl _ rfl [.int .u32 (t : Int)] rfl ?_; intro w1 hb1 m1 z1; replace z1 := Lib.hid z1)
    | (with_reducible refine wpList_boxes (o := ⟨some 4, .box 3 (.tmp 1), _, _, _, _⟩) rfl 3 (.tmp 1) rfl _ rfl [.int .i64 (m : Int)] rfl ?_; intro w2 hb2 m2 z2; replace z2 := Lib.hid z2)
    | (with_reducible refine wpList_boxes (o := ⟨some 5, .box 34 (.tmp 2), _, _, _, _⟩) rfl 34 (.tmp 2) rfl _ rfl [.slice A L cap] rfl ?_; intro w3 hb3 m3 z3; replace z3 := Lib.hid z3))
  go_ret
  have h1 := z1.out
  have h2 := z2.out
  have h3 := z3.out
  rw [h1] at hb2
  rw [h2, h1] at hb3
  refine ⟨by rw [h2, h1]; rfl, (hb1.keep m2 (by simp)).keep m3 (by simp), hb2.keep m3 (by simp), hb3, (m1.then m2).then m3, by omega⟩
/-- Blocks are written one behind the other, till one is refused. -/
def St.writes (S : St) (i : Int) : List Blk → Int × St
  | [] => (0, S)
  | b :: bs => if (S.write i b).1 = 0 then St.writes (S.write i b).2 (i + 1) bs else S.write i b
theorem writes_snoc (x : Blk) : ∀ (l : List Blk) (S : St) (i : Int), (S.writes i l).1 = 0 → S.writes i (l ++ [x]) = (S.writes i l).2.write (i + l.length) x := by
  intro l
  induction l with
  | nil =>
    intro S i _
    simp only [List.nil_append, St.writes, List.length_nil, Int.natCast_zero, Int.add_zero]
    split
    · rename_i h; rw [← h]
    · rfl
  | cons b l ih =>
    intro S i h
    simp only [List.cons_append, St.writes] at h ⊢
    split at h
    · rename_i h1
      rw [if_pos h1, if_pos h1, ih _ _ h]
      congr 1
      simp only [List.length_cons, Int.natCast_add]
      omega
    · rename_i h1; exact absurd h h1
theorem writes_stop (u : List Blk) : ∀ (l : List Blk) (S : St) (i : Int), (S.writes i l).1 ≠ 0 → S.writes i (l ++ u) = S.writes i l := by
  intro l
  induction l with
  | nil => intro S i h; exact absurd rfl h
  | cons b l ih =>
    intro S i h
    simp only [List.cons_append, St.writes] at h ⊢
    split at h
    · rename_i h1
      rw [if_pos h1, if_pos h1, ih _ _ h]
    · rename_i h1
      rw [if_neg h1, if_neg h1]
theorem ask_ops1 (S : St) (a b : Bool) : (S.ask a b).2.ops ≤ S.ops + 1 := by
  unfold St.ask
  split
  · exact Nat.le_succ _
  · split
    · exact Nat.le_succ _
    · split
      · exact Nat.le_succ _
      · split
        · exact Nat.le_succ _
        · exact Nat.le_refl _
theorem write_ops1 (S : St) (i : Int) (b : Blk) : (S.write i b).2.ops ≤ S.ops + 1 := by
  unfold St.write
  simp only
  split
  · exact ask_ops1 S _ _
  · exact ask_ops1 S _ _
theorem writes_ops : ∀ (l : List Blk) (S : St) (i : Int), (S.writes i l).2.ops ≤ S.ops + l.length := by
  intro l
  induction l with
  | nil => intro S i; exact Nat.le_refl _
  | cons b l ih =>
    intro S i
    have h1 := write_ops1 S i b
    simp only [St.writes]
    split
    · have := ih (S.write i b).2 (i + 1)
      simp only [List.length_cons]
      omega
    · simp only [List.length_cons]; omega
end
section
open Go.RowKit
theorem copied73_c (A : Option Addr) (l : List UInt8) (n c : Nat) (hn : n = l.length) (w : World) (hl : n ≤ 140737488355328) (h : Reads w A l) :
    Calls Tryd.prog 28 #[.slice A n c] w fun e w' => e = .returned (.slice (some ⟨w.heap.size, 0, none⟩) n n) ∧ Holds w' w.heap.size 5 (l.map oct) ∧ Mod [] w w' ∧ w'.heap.size = w.heap.size + 1 := by
  subst hn
  obtain ⟨i0, hi, hz0, hz1, hz2⟩ := info_parts u8_zero
  go_enter Tryd.func28, Tryd.ntmps28
  go_wp2_with (first
    | (at_make; go_loud (refine wpList_makes _ rfl _ _ 34 rfl 5 i0 (.int .u8 0) Tryd.underlying34 hi hz0 hz1 1 hz2 rfl .i64 .i64 _ _ l.length rfl rfl rfl rfl (by omega) (by unfold maxLen; omega) ?_); intro w1 hw1 hm1 hs1)
    | (with_reducible refine wpList_copies (o := ⟨some 9, _, _, _, _, _⟩) rfl (.tmp 7) (.tmp 8) 34 34 rfl 5 Tryd.underlying34 u8_one _ _ _ _ l _ _ rfl rfl rfl _ _ hw1 (h.keep hm1 (fun _ _ => by simp)) (by simp) (by omega) ?_; intro w2 hw2 hm2 hs2))
  go_ret
  exact ⟨rfl, by simpa using hw2, hm1.trans hm2 (by simp; omega), by omega⟩
/-- The cells of a book. -/
def kc (t : Nat) (a : Int) (st cm : Value) (e : Int) : List Value := [.int .u32 (t : Int), .int .i64 a, st, cm, .int .i64 e]
abbrev kv (t : Nat) (a : Int) (st cm : Value) (e : Int) : Value := .agg (kc t a st cm e).toArray
theorem kc_length (t : Nat) (a : Int) (st cm : Value) (e : Int) : (kc t a st cm e).length = 5 := rfl
theorem size93 : (Tryd.prog.info? 50).map (·.size) = some 5 := by kernel_rfl
theorem zero93 : ∀ w, (zeroValue 50).run Tryd.prog w = .ok (kv 0 0 (.slice none 0 0) (.slice none 0 0) 0) w := (zero_of_info (n := 5) (by kernel_rfl)).1
theorem kc_one (t : Nat) (a : Int) (A C : Option Addr) (n c m d : Nat) (e : Int) : ∀ v ∈ kc t a (.slice A n c) (.slice C m d) e, v.oneCell' = true := by
  intro v hv
  simp only [kc, List.mem_cons, List.not_mem_nil, or_false] at hv
  rcases hv with rfl | rfl | rfl | rfl | rfl <;> rfl
theorem kc_cells {w : World} {g f t : Nat} {a e : Int} {st cm : Value} (h : Cells w (some ⟨g, f, none⟩) (kc t a st cm e)) :
    w.cell? ⟨g, f, none⟩ = some (.int .u32 (t : Int)) ∧ w.cell? ⟨g, f + 1, none⟩ = some (.int .i64 a) ∧ w.cell? ⟨g, f + 2, none⟩ = some st ∧ w.cell? ⟨g, f + 3, none⟩ = some cm ∧ w.cell? ⟨g, f + 4, none⟩ = some (.int .i64 e) := by
  refine ⟨?_, ?_, ?_, ?_, ?_⟩
  · simpa [kc] using h.at 0 (by simp [kc])
  · simpa [kc] using h.at 1 (by simp [kc])
  · simpa [kc] using h.at 2 (by simp [kc])
  · simpa [kc] using h.at 3 (by simp [kc])
  · simpa [kc] using h.at 4 (by simp [kc])
theorem number105_c (g t : Nat) (a : Int) (st : Value) (C : Option Addr) (n c e : Nat) (w : World) (h : Cells w (some ⟨g, 0, none⟩) (kc t a st (.slice C n c) (e : Int))) (hn : n ≤ 1000000) (he : e ≤ 1000000) :
    Calls Tryd.prog 45 #[.pointer (some ⟨g, 0, none⟩)] w fun r w' => r = .returned (.int .i64 ((if e = 0 then 0 else 1 + n : Nat) : Int)) ∧ w' = w := by
  obtain ⟨-, -, -, d3, d4⟩ := kc_cells h
  simp only [Nat.zero_add] at d3 d4
  have hnZ : (n : Int) ≤ 1000000 := by omega
  have heZ : (e : Int) ≤ 1000000 := by omega
  clear h hn he
  by_cases h0 : e = 0
  · subst h0
    rw [if_pos rfl]
    go_enter Tryd.func45, Tryd.ntmps45
    go_wp2_with fail
    go_ret
    exact ⟨rfl, rfl⟩
  · rw [if_neg h0]
    have h1 : ¬ (e : Int) = 0 := by omega
    go_enter Tryd.func45, Tryd.ntmps45
    go_wp2_with fail
    go_ret
    exact ⟨by simp, rfl⟩
theorem left75_c (g t a : Nat) (st cm : Value) (e : Nat) (w : World) (h : Cells w (some ⟨g, 0, none⟩) (kc t (a : Int) st cm (e : Int))) (ha : a ≤ 1000) (he : e ≤ a) :
    Calls Tryd.prog 22 #[.pointer (some ⟨g, 0, none⟩)] w fun r w' => r = .returned (.int .i64 ((a - e : Nat) : Int)) ∧ Mod [] w w' := by
  obtain ⟨d0, d1, -, -, d4⟩ := kc_cells h
  simp only [Nat.zero_add] at d1 d4
  have haZ : (a : Int) ≤ 1000 := by omega
  have heZ : (e : Int) ≤ (a : Int) := by omega
  have hx : (a : Int) - (e : Int) = ((a - e : Nat) : Int) := by omega
  obtain ⟨x, hxx⟩ : ∃ x, x = a - e := ⟨_, rfl⟩
  rw [← hxx] at hx ⊢
  clear h ha he hxx
  go_enter Tryd.func22, Tryd.ntmps22
  go_wp2_with fail
  go_quiet (fail)
  go_wp2
  go_ret
  refine ⟨by simp, Mod.drewN [] w nq⟩
end
section
open Go.RowKit
/-- The cell of a slice. -/
def sl (x : Option Addr × Nat × Nat) : List Value := [.slice x.1 x.2.1 x.2.2]
theorem kc_at {w : World} {g T t : Nat} {a e : Int} {st cm : Value} {z : List Value} (h : Holds w g T (kc t a st cm e ++ z)) : Cells w (some ⟨g, 0, none⟩) (kc t a st cm e) := (Cells.of_holds h).part 0 (fun i hi => by rw [Nat.zero_add, List.getElem?_append_left hi, List.getElem?_eq_getElem hi])
theorem i64_info : ∃ it, Tryd.prog.info? 3 = some it ∧ it.size = 1 := by
  obtain ⟨it, hq⟩ := info_of 3 (by kernel_rfl)
  have h2 : (Tryd.prog.info? 3).map (·.size) = some 1 := by kernel_rfl
  rw [hq] at h2
  exact ⟨it, hq, by simpa using h2⟩
set_option maxRecDepth 100000 in
set_option maxHeartbeats 4000000 in
theorem take0_c (g T t : Nat) (a : Int) (st cm : Value) (B : Option Addr) (n cb : Nat) (z : List Value) (w : World) (hb : Holds w g T (kc t a st cm 0 ++ z)) (hn : n ≤ 140737488355328) :
    Calls Tryd.prog 27 #[.pointer (some ⟨g, 0, none⟩), .slice B n cb] w fun r w' => (∃ v, r = .returned v) ∧ Holds w' g T (kc t a (.slice B n cb) cm (fills n : Int) ++ z) ∧ Mod [g] w w' := by
  obtain ⟨-, -, -, -, d4⟩ := kc_cells (kc_at hb)
  simp only [Nat.zero_add] at d4
  have XS := fun v => sectors_c n (by omega) v
  obtain ⟨f, hf⟩ : ∃ f, f = fills n := ⟨_, rfl⟩
  have hfl : f ≤ 834 := by rw [hf]; exact fills_le n
  rw [← hf] at XS ⊢
  have d2 := kc_cells (kc_at hb)
  have f2 := hb.free 2
  have HF : Hid (IntKind.i64.wrap ((0 : Int) + (f : Int)) = (f : Int)) := Lib.hid (by rw [Int.zero_add]; exact IntWalk.i64_in _ (by omega))
  have hb1 : Holds (w.setCell ⟨g, 2, none⟩ (.slice B n cb)) g T (kc t a (.slice B n cb) cm 0 ++ z) := hb.set 2 _
  have m1 : Mod [g] w (w.setCell ⟨g, 2, none⟩ (.slice B n cb)) := Mod.setCell _ (by simp) _
  have c2 : w.cell? ⟨g, 2, none⟩ = some st := by simpa using d2.2.2.1
  have H1 := Lib.hid (And.intro hb1 m1)
  clear hb d2 hn hf hfl hb1 m1
  go_enter Tryd.func27, Tryd.ntmps27
  go_wp2_with fail
  obtain ⟨hb1, m1⟩ := H1.out
  clear H1 d4 f2 c2
  generalize w.setCell ⟨g, 2, none⟩ (.slice B n cb) = w1 at *
  refine Rg.wp_region_lit1 [Value.pointer (some { block := g, off := 0 }), Value.slice B n cb, undef, undef, Value.pointer (some { block := g, off := 0 }), Value.pointer (some { block := g, off := 0 }), Value.pointer (some { block := g, off := 4 }), Value.int IntKind.i64 0, Value.bool true, Value.pointer (some { block := g, off := 0 }), Value.slice B n cb, Value.pointer (some { block := g, off := 0 }), Value.pointer (some { block := g, off := 2 }), undef, undef, undef, undef, undef, undef, undef, undef, undef, undef, .pointer (some ⟨g, 0, none⟩), .pointer (some ⟨g, 0, none⟩), .pointer (some ⟨g, 4, none⟩), .int .i64 0, .slice B n cb, .int .i64 (n : Int), .int .i64 (f : Int), .int .i64 (f : Int), .pointer (some ⟨g, 0, none⟩), .pointer (some ⟨g, 4, none⟩)] 33 [0, 1, 2, 3, 4, 5, 6, 7, 8, 9, 10, 11, 12, 13, 14, 15, 16, 17, 18, 19, 20, 21, 22]
    (fun lz v => (lz 10 = false → Holds v g T (kc t a (.slice B n cb) cm 0 ++ z)) ∧ (lz 10 = true → Holds v g T (kc t a (.slice B n cb) cm (f : Int) ++ z)) ∧ Mod [g] w1.drew v) []
    (by kernel_rfl) rfl rfl rfl rfl (⟨fun _ => hb1, (fun q => by cases q), Mod.refl _ _⟩) (by kernel_rfl) (by kernel_rfl) ?step ?fin
  case step =>
    intro lz T v j o hj hlj hdep hst hpar hgot hcl Kq hK
    have hjn : j < 11 := (Array.getElem?_eq_some_iff.1 hj).1
    obtain ⟨it3, i3, s3⟩ := i64_info
    obtain rfl | rfl | rfl | rfl | rfl | rfl | rfl | rfl | rfl | rfl | rfl : j = 0 ∨ j = 1 ∨ j = 2 ∨ j = 3 ∨ j = 4 ∨ j = 5 ∨ j = 6 ∨ j = 7 ∨ j = 8 ∨ j = 9 ∨ j = 10 := by omega
    all_goals (have hj' := Option.some.inj (hj : some _ = some o); subst hj'; clear hj)
    · exact Rg.wp_ran rfl (Rg.exec_move rfl (eval_tmp (hpar 0 (by simp)))) (hK _ _ (fun s hs => by cases hs; rfl) hst)
    · exact Rg.wp_ran rfl (Rg.exec_nil rfl (eval_tmp (hgot 0 _ 23 rfl (hdep ⟨0, .data⟩ (by simp) rfl) rfl))) (hK _ _ (fun s hs => by cases hs; rfl) hst)
    · exact Rg.wp_ran rfl (exec_f93_3 rfl (eval_tmp (hgot 1 _ 24 rfl (hdep ⟨1, .data⟩ (by simp) rfl) rfl))) (hK _ _ (fun s hs => by cases hs; rfl) hst)
    · have h10 : lz 10 = false := by
        cases hh : lz 10 with
        | false => rfl
        | true =>
          have h7 := hcl 10 _ rfl hh ⟨7, .data⟩ (by simp) rfl
          have h3 := hcl 7 _ rfl h7 ⟨3, .data⟩ (by simp) rfl
          rw [hlj] at h3
          cases h3
      have hcell := (kc_cells (kc_at (hst.1 h10))).2.2.2.2
      simp only [Nat.zero_add] at hcell
      exact wp_ran rfl (Rg.exec_load rfl (eval_tmp (hgot 2 _ 25 rfl (hdep ⟨2, .data⟩ (by simp) rfl) rfl)) (Rg.run_load1 Tryd.underlying3 rfl hcell)) (hK _ _ (fun s hs => by cases hs; rfl) hst)
    · exact Rg.wp_ran rfl (Rg.exec_move rfl (eval_tmp (hpar 1 (by simp)))) (hK _ _ (fun s hs => by cases hs; rfl) hst)
    · exact wp_ran rfl (Rg.exec_len Tryd.underlying34 rfl (eval_tmp (hgot 4 _ 27 rfl (hdep ⟨4, .data⟩ (by simp) rfl) rfl))) (hK _ _ (fun s hs => by cases hs; rfl) hst)
    · exact Rg.wp_called rfl (Rg.exec_call1 rfl rfl (eval_tmp (hgot 5 _ 28 rfl (hdep ⟨5, .data⟩ (by simp) rfl) rfl)) (enters_of Tryd.func5 (by kernel_rfl) rfl)) ((XS v).mono (fun e v' hh => ⟨_, hh.1, hK _ _ (fun s hs => by cases hs; rfl) (by rw [hh.2]; exact hst)⟩))
    · exact Rg.wp_ran rfl (Rg.exec_add rfl (eval_tmp (hgot 3 _ 26 rfl (hdep ⟨3, .data⟩ (by simp) rfl) rfl)) (eval_tmp (hgot 6 _ 29 rfl (hdep ⟨6, .data⟩ (by simp) rfl) rfl)) (HF.out)) (hK _ _ (fun s hs => by cases hs; rfl) hst)
    · exact Rg.wp_ran rfl (Rg.exec_nil rfl (eval_tmp (hgot 0 _ 23 rfl (hdep ⟨0, .data⟩ (by simp) rfl) rfl))) (hK _ _ (fun s hs => by cases hs; rfl) hst)
    · exact Rg.wp_ran rfl (exec_f93_3 rfl (eval_tmp (hgot 8 _ 31 rfl (hdep ⟨8, .data⟩ (by simp) rfl) rfl))) (hK _ _ (fun s hs => by cases hs; rfl) hst)
    · have hb' := hst.1 hlj
      refine wp_ran_skip rfl (Rg.exec_store1 rfl (eval_tmp (hgot 9 _ 32 rfl (hdep ⟨9, .data⟩ (by simp) rfl) rfl)) (eval_tmp (hgot 7 _ 30 rfl (hdep ⟨7, .data⟩ (by simp) rfl) rfl)) rfl i3 s3 (hb'.cell 4) (hb'.free 4)) (hK _ _ (fun s hs => by cases hs) ⟨(fun q => by cases q), fun _ => hb'.set 4 _, hst.2.2.trans (Mod.setCell _ (by simp) _) (fun _ _ h => h)⟩)
  case fin =>
    intro lz v hl hst
    have hb2 := hst.2.1 (hl 10 (by decide))
    have m2 : Mod [g] w v := (m1.then (Mod.drew [] w1)).trans hst.2.2 (fun _ _ h => h)
    go_wp2
    go_end0
    exact ⟨⟨_, rfl⟩, hb2, m2⟩
end
end Go.Proofs.YtcoedhemlghjoaaDoor
