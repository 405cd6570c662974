/-
  Contracts of the document's own answers for octet, third part: a number's bytes, and what is taken off. My own work.
-/
import Derived.Test.YtheebmehapemnaaRefA
import Derived.Test.YtheebmehapemnaaSplits
import Derived.Test.YtheebmehapemnaaLays
import Derived.Deep.RegionHeld3
namespace Go.Proofs.Ytheebmehapemnaa
open Go.RowKit

set_option maxHeartbeats 1000000 in
theorem num_c : ∀ (n : Nat) (A : Option Addr) (l : List UInt8) (c : Nat) (w : World), l.length = n → n ≤ 8 → n ≤ c → c ≤ maxLen → Reads w A l →
    Calls Try.prog 38 #[.slice A n c] w fun e w' => e = .returned (.int .u64 (be l : Int)) ∧ ∃ k, w' = w.drewN k
  | 0, A, l, c, w, hl, h8, hc, hcm, h => by
    have : l = [] := List.eq_nil_of_length_eq_zero hl
    subst this
    go_enter Try.func38, Try.ntmps38
    go_wp2_with fail
    go_ret
    exact ⟨rfl, 0, rfl⟩
  | n + 1, A, l, c, w, hl, h8, hc, hcm, h => by
    unfold maxLen at hcm
    obtain ⟨g, o, rfl, hcell⟩ := h n (by omega)
    have hr : Reads w (some ⟨g, o, none⟩) (l.take n) := fun i hi => by
      simp at hi
      exact ⟨g, o, rfl, by rw [h.at i (by omega)]; simp⟩
    have hb := be_lt (l.take n)
    have hb2 : 256 ^ (l.take n).length ≤ 256 ^ 7 := Nat.pow_le_pow_right (by omega) (by simp; omega)
    have hfin : be l = be (l.take n) * 256 + (l[n]'(by omega)).toNat := by
      rw [← be_snoc, ← take_next l n (by omega), List.take_of_length_le (by omega)]
    have hlt := (l[n]'(by omega)).toNat_lt
    have ih := num_c n (some ⟨g, o, none⟩) (l.take n) c
    generalize l[n]'(by omega) = y at *
    have HF := Lib.hid hfin
    have hb3 : be (l.take n) < 72057594037927936 := by omega
    have hlt3 : (l.take n).length = n := by simp; omega
    have IH := Lib.hid ih
    have HL := Lib.hid (And.intro hl hlt3)
    have hln : (n : Int) ≤ 7 := by omega
    clear hfin ih hl hb2 hb hlt3
    generalize be (l.take n) = z at *
    go_enter Try.func38, Try.ntmps38
    go_wp2_with fail
    have b0 : (0 : Int) ≤ (n : Int) := by omega
    have b1 : (n : Int) < (n : Int) + 1 := by omega
    have b2 : (n : Int) ≤ (c : Int) := by omega
    have b3 : 0 ≤ IntKind.u64.wrap (256 * (z : Int)) := wrap_u64_nonneg _
    have b4 : IntKind.u64.wrap (256 * (z : Int)) = 256 * (z : Int) := by rw [IntKind.wrap_u64]; omega
    have b5 : IntKind.u64.wrap (256 * (z : Int) + (y.toNat : Int)) = 256 * (z : Int) + (y.toNat : Int) := by rw [IntKind.wrap_u64]; omega
    go_quiet ((go_at_call 38; exact Calls.quiet_of (IH.out _ HL.out.2 (by omega) (by omega) (by unfold maxLen; omega) (by exact hr))))
    go_wp2
    go_ret
    exact ⟨by rw [HF.out, Int.natCast_add, Int.natCast_mul, Int.mul_comm]; rfl, nq, rfl⟩

/-- An address in the block of another one. -/
def Within (A A1 : Option Addr) : Prop := ∀ a, A1 = some a → ∃ a0, A = some a0 ∧ a.block = a0.block
theorem Within.refl (A : Option Addr) : Within A A := fun a h => ⟨a, h, rfl⟩
theorem Within.none (A : Option Addr) : Within A none := fun _ h => by cases h
theorem Within.trans {A B C : Option Addr} (h : Within A B) (k : Within B C) : Within A C := fun a e => by
  obtain ⟨b, e1, e2⟩ := k a e
  obtain ⟨c, e3, e4⟩ := h b e1
  exact ⟨c, e3, e2.trans e4⟩

/-- What the document's answer says is left, and was taken. -/
def Offed (A : Option Addr) (l : List UInt8) (er n : Int) (w : World) (e : Ending) (w' : World) : Prop :=
  ∃ A1 c1 A2 c2, e = .returned (.tuple #[.agg #[.slice A1 (offRest l er n).length c1, .int .i64 (offErr l er n)], .slice A2 (offGot l er n).length c2]) ∧
    Reads w' A1 (offRest l er n) ∧ (offRest l er n).length ≤ c1 ∧ c1 ≤ maxLen ∧ Reads w' A2 (offGot l er n) ∧ (offGot l er n).length ≤ c2 ∧ c2 ≤ maxLen ∧ Mod [] w w' ∧ Within A A1 ∧ Within A A2

theorem offed_no {l : List UInt8} {er n er' : Int} {w w' : World} {e : Ending} {A : Option Addr} {c : Nat} (hlc : l.length ≤ c) (hcm : c ≤ maxLen) (h : Reads w A l) (m : Mod [] w w') (h1 : offGot l er n = []) (h2 : offRest l er n = l) (h3 : offErr l er n = er')
    (he : e = .returned (.tuple #[.agg #[.slice A l.length c, .int .i64 er'], .slice none 0 0])) : Offed A l er n w e w' := by
  subst he
  unfold Offed
  rw [h1, h2, h3]
  exact ⟨A, c, Option.none, 0, rfl, h.keep m (by simp), hlc, hcm, Reads.nil _ _, by simp, by simp, m, Within.refl A, Within.none A⟩

theorem offs_err (A : Option Addr) (l : List UInt8) (c : Nat) (er n : Int) (w : World) (hlc : l.length ≤ c) (hcm : c ≤ maxLen) (h : Reads w A l) (he : (er != 0) = true) :
    Calls Try.prog 37 #[.agg #[.slice A l.length c, .int .i64 er], .int .i64 n] w (Offed A l er n w) := by
  have he' : er ≠ 0 := by simpa using he
  go_enter Try.func37, Try.ntmps37
  go_wp2
  refine bodyPost_ret (v := .tuple #[.agg #[.slice A l.length c, .int .i64 er], .slice none 0 0]) (by simp [results, Try.results37, go_sem]) rfl ?_
  exact offed_no hlc hcm h ((Mod.alloc [] w _).then (Mod.alloc [] _ _)) (by unfold offGot; rw [if_neg (by omega)]) (by unfold offRest; rw [if_neg (by omega)]) (by unfold offErr; rw [if_neg he']) rfl

theorem offs_neg (A : Option Addr) (l : List UInt8) (c : Nat) (n : Int) (w : World) (hlc : l.length ≤ c) (hcm : c ≤ maxLen) (h : Reads w A l) (hn : n < 0) :
    Calls Try.prog 37 #[.agg #[.slice A l.length c, .int .i64 0], .int .i64 n] w (Offed A l 0 n w) := by
  go_enter Try.func37, Try.ntmps37
  go_wp2
  refine bodyPost_ret (v := .tuple #[.agg #[.slice A l.length c, .int .i64 2], .slice none 0 0]) (by simp [results, Try.results37, go_sem]) rfl ?_
  exact offed_no hlc hcm h ((Mod.alloc [] w _).then (Mod.alloc [] _ _)) (by unfold offGot; rw [if_neg (by omega)]) (by unfold offRest; rw [if_neg (by omega)]) (by unfold offErr; rw [if_pos rfl, if_pos hn]) rfl

theorem offs_long (A : Option Addr) (l : List UInt8) (c : Nat) (n : Int) (w : World) (hlc : l.length ≤ c) (hcm : c ≤ maxLen) (h : Reads w A l) (hn : (l.length : Int) < n) :
    Calls Try.prog 37 #[.agg #[.slice A l.length c, .int .i64 0], .int .i64 n] w (Offed A l 0 n w) := by
  have hn0 : ¬ n < 0 := by omega
  go_enter Try.func37, Try.ntmps37
  go_wp2
  refine bodyPost_ret (v := .tuple #[.agg #[.slice A l.length c, .int .i64 7], .slice none 0 0]) (by simp [results, Try.results37, go_sem]) rfl ?_
  exact offed_no hlc hcm h ((Mod.alloc [] w _).then (Mod.alloc [] _ _)) (by unfold offGot; rw [if_neg (by omega)]) (by unfold offRest; rw [if_neg (by omega)]) (by unfold offErr; rw [if_pos rfl, if_neg (by omega), if_pos hn]) rfl

theorem offs_ok (A : Option Addr) (l : List UInt8) (c : Nat) (k : Nat) (w : World) (hlc : l.length ≤ c) (hcm : c ≤ maxLen) (h : Reads w A l) (hk : k ≤ l.length) :
    Calls Try.prog 37 #[.agg #[.slice A l.length c, .int .i64 0], .int .i64 (k : Int)] w (Offed A l 0 (k : Int) w) := by
  have hcm' := hcm
  unfold maxLen at hcm'
  have b1 : (k : Int) ≤ (l.length : Int) := by omega
  have b2 : (k : Int) ≤ (c : Int) := by omega
  have b3 : k ≤ c := by omega
  go_enter Try.func37, Try.ntmps37
  go_wp2
  go_region
  have hcut : Reads w (if c = k then A else Option.map (fun x => x.add k) A) (l.drop k) := fun i hi => by
    simp at hi
    obtain ⟨g, o, rfl, _⟩ := h 0 (by omega)
    have := h.at (k + i) (by omega)
    rw [if_neg (by omega)]
    refine ⟨g, o + k, by simp [addr_add], ?_⟩
    rw [Nat.add_assoc, this]
    simp
  have hwi : Within A (if c = k then A else Option.map (fun x => x.add k) A) := fun a ha => by
    split at ha
    · exact ⟨a, ha, rfl⟩
    · rcases A with _ | a0
      · cases ha
      · simp at ha
        exact ⟨a0, rfl, by rw [← ha]; unfold Addr.add; split <;> rfl⟩
  generalize (if c = k then A else Option.map (fun x => x.add k) A) = A1 at *
  go_wp2
  refine bodyPost_ret (v := .tuple #[.agg #[.slice A1 (l.length - k) (c - k), .int .i64 0], .slice A k c]) (by simp [results, Try.results37, go_sem]) rfl ?_
  have m : Mod [] w ((w.alloc (.cells #[.slice A l.length c, .int .i64 0] 43)).alloc (.cells #[.slice A1 (l.length - k) (c - k), .int .i64 0] 43)).drew := ((Mod.alloc [] w _).then (Mod.alloc [] _ _)).then (Mod.drew [] _)
  have e1 : offRest l 0 (k : Int) = l.drop k := by unfold offRest; rw [if_pos ⟨rfl, by omega, by omega⟩]; simp
  have e2 : offErr l 0 (k : Int) = 0 := by unfold offErr; rw [if_pos rfl, if_neg (by omega), if_neg (by omega)]
  have e3 : offGot l 0 (k : Int) = l.take k := by unfold offGot; rw [if_pos ⟨rfl, by omega, by omega⟩]; simp
  unfold Offed
  rw [e1, e2, e3]
  refine ⟨A1, c - k, A, c, by simp; omega, hcut.keep m (by simp), by simp; omega, by omega, ?_, by simp; omega, hcm, m, hwi, Within.refl A⟩
  refine Reads.keep (fun i hi => ?_) m (by simp)
  simp at hi
  obtain ⟨g, o, e, hh⟩ := h i (by omega)
  exact ⟨g, o, e, by rw [hh]; simp⟩

theorem offs_c (A : Option Addr) (l : List UInt8) (c : Nat) (er n : Int) (w : World) (hlc : l.length ≤ c) (hcm : c ≤ maxLen) (h : Reads w A l) :
    Calls Try.prog 37 #[.agg #[.slice A l.length c, .int .i64 er], .int .i64 n] w (Offed A l er n w) := by
  by_cases he : er = 0
  · subst he
    by_cases h1 : n < 0
    · exact offs_neg A l c n w hlc hcm h h1
    · by_cases h2 : (l.length : Int) < n
      · exact offs_long A l c n w hlc hcm h h2
      · obtain ⟨k, rfl⟩ := Int.eq_ofNat_of_zero_le (by omega : 0 ≤ n)
        exact offs_ok A l c k w hlc hcm h (by omega)
  · exact offs_err A l c er n w hlc hcm h (by simpa using he)
theorem offNum_got (l : List UInt8) (er : Int) (k : Nat) : offNum l er k = be (offGot l er (k : Int)) := by
  unfold offNum offGot
  by_cases he : er = 0
  · rw [if_pos he]
    by_cases hk : k ≤ l.length
    · rw [if_pos hk, if_pos ⟨he, by omega, by omega⟩]; simp
    · rw [if_neg hk, if_neg (by omega)]; rfl
  · rw [if_neg he, if_neg (by omega)]; rfl
theorem offGot_len (l : List UInt8) (er : Int) (k : Nat) : (offGot l er (k : Int)).length ≤ k := by
  unfold offGot
  split
  · simp; omega
  · simp

/-- The same, of names for what is left, its error, and what was taken. -/
def OffIs (A : Option Addr) (L2 : List UInt8) (e2 : Int) (T : List UInt8) (w : World) (e : Ending) (w' : World) : Prop :=
  ∃ A1 c1 A2 c2, e = .returned (.tuple #[.agg #[.slice A1 L2.length c1, .int .i64 e2], .slice A2 T.length c2]) ∧
    Reads w' A1 L2 ∧ L2.length ≤ c1 ∧ c1 ≤ maxLen ∧ Reads w' A2 T ∧ T.length ≤ c2 ∧ c2 ≤ maxLen ∧ Mod [] w w' ∧ Within A A1 ∧ Within A A2
theorem offs_at (A : Option Addr) (l : List UInt8) (c : Nat) (er n : Int) (L2 : List UInt8) (e2 : Int) (T : List UInt8) (w : World) (hlc : l.length ≤ c) (hcm : c ≤ maxLen) (E : offRest l er n = L2 ∧ offErr l er n = e2 ∧ offGot l er n = T) (h : Reads w A l) :
    Calls Try.prog 37 #[.agg #[.slice A l.length c, .int .i64 er], .int .i64 n] w (OffIs A L2 e2 T w) := by
  obtain ⟨rfl, rfl, rfl⟩ := E
  exact offs_c A l c er n w hlc hcm h

/-- What a number of things that is taken turns out to be, for whatever n. -/
def RawAny (g b : Nat) (l : List UInt8) (er n : Int) (w : World) (e : Ending) (w' : World) : Prop :=
  ∃ A c, e = .returned (.slice A (offGot l er n).length c) ∧ ((offGot l er n).length = 0 ∨ ∃ d, A = some ⟨d, 0, none⟩ ∧ w.heap.size ≤ d ∧ Holds w' d 5 ((offGot l er n).map oct)) ∧ Reads w' A (offGot l er n) ∧
    Rdr w' g b (offRest l er n) (offErr l er n) ∧ Mod [g] w w'
theorem raw_any (g b : Nat) (l : List UInt8) (er n : Int) (w : World) (h : Rdr w g b l er) : Calls Try.prog 24 #[.pointer (some ⟨g, 0, none⟩), .int .i64 n] w (RawAny g b l er n w) := by
  by_cases hc : er = 0 ∧ 0 ≤ n ∧ n ≤ (l.length : Int)
  · obtain ⟨rfl, h0, h1⟩ := hc
    obtain ⟨k, rfl⟩ := Int.eq_ofNat_of_zero_le h0
    have hk : k ≤ l.length := by omega
    refine (raw_yes g b l k w h hk _ _ rfl rfl).mono ?_
    rintro e w1 ⟨d, rfl, hd, hh, hR, hm⟩
    have e1 : offRest l 0 (k : Int) = l.drop k := by unfold offRest; rw [if_pos ⟨rfl, by omega, by omega⟩]; simp
    have e2 : offErr l 0 (k : Int) = 0 := by unfold offErr; rw [if_pos rfl, if_neg (by omega), if_neg (by omega)]
    have e3 : offGot l 0 (k : Int) = l.take k := by unfold offGot; rw [if_pos ⟨rfl, by omega, by omega⟩]; simp
    unfold RawAny
    rw [e1, e2, e3]
    exact ⟨some ⟨d, 0, none⟩, k, by rw [List.length_take, Nat.min_eq_left hk], .inr ⟨d, rfl, hd, hh⟩, Reads.of_holds hh, hR, hm⟩
  · refine (raw_c g b l er n w h).mono ?_
    rintro e w1 ⟨A, c, rfl, _, _, _, hr, hR, hm⟩
    have e3 : offGot l er n = [] := by unfold offGot; rw [if_neg hc]
    exact ⟨A, c, rfl, .inl (by rw [e3]; rfl), hr, hR, hm⟩

theorem cell_new {w : World} {o : Obj} {p : Addr} {u : Value} (h : w.cell? p = some u) : (w.alloc o).cell? p = some u := Mod.cell (Mod.alloc [] w o) (by simp) h
theorem cell_drew {w : World} {p : Addr} {u : Value} (h : w.cell? p = some u) : w.drew.cell? p = some u := h
theorem cell_put {w : World} {p q : Addr} {u v : Value} (hne : q.block ≠ p.block) (h : w.cell? q = some u) : (w.setCell p v).cell? q = some u := Mod.cell (Mod.setCell (ms := [p.block]) w (by simp) v) (by simpa using hne) h

/-- What one taking comes to, in the document's words. -/
def TakeIs (A : Option Addr) (g b : Nat) (l : List UInt8) (er n : Int) (w : World) (e : Ending) (w' : World) : Prop :=
  ∃ A1 c1, e = .returned (.tuple #[.agg #[.slice A1 (offRest l er n).length c1, .int .i64 (offErr l er n)], .bool true]) ∧
    Reads w' A1 (offRest l er n) ∧ (offRest l er n).length ≤ c1 ∧ c1 ≤ maxLen ∧ Rdr w' g b (offRest l er n) (offErr l er n) ∧ Mod [g] w w' ∧ Within A A1

set_option maxRecDepth 1000000 in
set_option maxHeartbeats 4000000 in
theorem takes_0 (g b : Nat) (l : List UInt8) (er : Int) (A : Option Addr) (c : Nat) (how n : Int) (w : World) (hs : (IntKind.u64.wrap how).tmod 5 = 0) (hlc : l.length ≤ c) (hcm : c ≤ maxLen) (h : Reads w A l) (hA : ∀ a, A = some a → a.block ≠ g ∧ a.block < w.heap.size) (hR : Rdr w g b l er) :
    Calls Try.prog 21 #[.pointer (some ⟨g, 0, none⟩), .agg #[.slice A l.length c, .int .i64 er], .agg #[.int .i64 how, .int .i64 n]] w (TakeIs A g b l er ((1 : Nat) : Int) w) := by
  obtain ⟨z1, z2, z3⟩ := hR.lt
  have hz := offNum_lt l er 1
  obtain ⟨z, hzz⟩ : ∃ z, offNum l er 1 = z := ⟨_, rfl⟩
  rw [hzz] at hz
  have HZ := Lib.hid hzz
  clear hzz
  obtain ⟨T, hT⟩ : ∃ T, offGot l er ((1 : Nat) : Int) = T := ⟨_, rfl⟩
  have hTn : T.length ≤ 1 := by rw [← hT]; exact offGot_len l er 1
  have hbz : be T = z := by rw [← HZ.out, offNum_got, hT]
  obtain ⟨L2, hL2⟩ : ∃ L2, offRest l er ((1 : Nat) : Int) = L2 := ⟨_, rfl⟩
  obtain ⟨e2, he2⟩ : ∃ e2, offErr l er ((1 : Nat) : Int) = e2 := ⟨_, rfl⟩
  have HH := Lib.hid (And.intro hL2 (And.intro he2 (And.intro hT hbz)))
  clear hT hbz hL2 he2
  go_enter Try.func21, Try.ntmps21
  go_wp2_with fail
  refine (u8_c g b l er _ (((hR.keep (Mod.alloc [] w _) (by simp) (by simp)).keep (Mod.alloc [] _ _) (by simp) (by simp)).keep (Mod.alloc [] _ _) (by simp) (by simp))).mono ?_
  rintro e w1 ⟨rfl, hR1, m2⟩
  rw [HZ.out]
  rw [HH.out.1, HH.out.2.1] at hR1
  have hB4 : Holds w1 w.heap.size 43 [.slice A l.length c, .int .i64 er] := (((Holds.made w 43 [.slice A l.length c, .int .i64 er]).keep (Mod.alloc [] _ (.cells #[.int .i64 how, .int .i64 n] 45)) (by simp)).keep (Mod.alloc [] _ (.cells #[.slice none 0 0, .int .i64 0] 43)) (by simp)).keep m2 (by simp; omega)
  have hB6 : Holds w1 (w.heap.size + 1 + 1) 43 [.slice none 0 0, .int .i64 0] := by
    have := (Holds.made ((w.alloc (.cells #[.slice A l.length c, .int .i64 er] 43)).alloc (.cells #[.int .i64 how, .int .i64 n] 45)) 43 [.slice none 0 0, .int .i64 0]).keep m2 (by simp; omega)
    simpa using this
  have m1 : Mod [g] w w1 := (((Mod.alloc [] w (.cells #[.slice A l.length c, .int .i64 er] 43)).then (Mod.alloc [] _ (.cells #[.int .i64 how, .int .i64 n] 45))).then (Mod.alloc [] _ (.cells #[.slice none 0 0, .int .i64 0] 43))).pre m2
  have hA1 : Reads w1 A l := h.keep m1 (fun a e => by simpa using (hA a e).1)
  clear m2 hR
  have c40 := hB4.cell 0
  have c41 := hB4.cell 1
  simp at c40 c41
  obtain ⟨b6, hb6⟩ : ∃ x, x = w.heap.size + 1 + 1 := ⟨_, rfl⟩
  have y1 : w.heap.size < b6 := by omega
  go_wp2_with fail
  rw [← hb6] at hB6 ⊢
  clear hb6
  have y2 := hB6.lt
  have y3 := hB4.lt
  have m2 : Mod [] w1 w1 := Mod.refl _ _
  go_region_held3 (fun w' => w'.cell? ⟨w.heap.size, 0, none⟩ = some (.slice A l.length c) ∧ w'.cell? ⟨w.heap.size, 1, none⟩ = some (.int .i64 er)) ((refine ⟨?_, ?_⟩ <;> (repeat (first | exact c40 | exact c41 | exact q0 | exact q1 | refine cell_new ?_ | refine cell_drew ?_ | refine cell_put (by simp; omega) ?_))))
    (first | (go_at_call 37; refine (offs_at A l c er ((1 : Nat) : Int) L2 e2 T _ hlc hcm ⟨HH.out.1, HH.out.2.1, HH.out.2.2.1⟩ (by first | exact hA1 | exact hA1.keep (Mod.drew [] _) (by simp) | exact (hA1.keep (Mod.alloc [] _ _) (by simp)).keep (Mod.drew [] _) (by simp))).mono ?_; rintro e w2 ⟨A1, c1, A2, c2, rfl, hRa, ha1, ha2, hRb, hb1, hb2, m3, hv1, hv2⟩; have q0 := m3.cell (p := ⟨w.heap.size, 0, none⟩) (by simp) (by first | exact c40 | exact cell_new c40 | exact cell_drew (cell_new c40)); have q1 := m3.cell (p := ⟨w.heap.size, 1, none⟩) (by simp) (by first | exact c41 | exact cell_new c41 | exact cell_drew (cell_new c41)); first | (have hq := Holds.keep (Holds.keep (Holds.made w1 43 [.slice none 0 0, .int .i64 0]) (Mod.drew [] _) (by simp)) m3 (by simp); have q2 := hq.cell 0; have q3 := hq.cell 1; have q4 := hq.free 0; have q5 := hq.free 1; simp at q2 q3) | skip))
  · have hn : Holds (w2.alloc (.cells #[.slice A1 L2.length c1, .int .i64 e2] 43)) w2.heap.size 43 [.slice A1 L2.length c1, .int .i64 e2] := Holds.made _ _ [.slice A1 L2.length c1, .int .i64 e2]
    have mA : Mod [] w1 w2 := (Mod.drew [] w1).then m3
    have y4 := mA.size
    have y5 := m1.size
    obtain ⟨nb, hnb⟩ : ∃ nb, nb = w2.heap.size := ⟨_, rfl⟩
    have y6 : b6 < nb := by omega
    have mB : Mod [nb] w2 (w2.alloc (.cells #[.slice A1 L2.length c1, .int .i64 e2] 43)) := Mod.alloc _ _ _
    have y7 : w1.heap.size ≤ nb := by omega
    rw [← hnb] at hn ⊢
    clear hnb q0 q1
    generalize w2.alloc (.cells #[.slice A1 L2.length c1, .int .i64 e2] 43) = w3 at *
    replace hB6 := (hB6.keep mA (by simp)).keep mB (by simp; omega)
    have mC : Mod [g] w w3 := (m1.then mA).trans (mB.wk (ns := [nb]) (fun _ _ h => h)) (by simp; omega)
    have hR3 : Rdr w3 g b L2 e2 := (hR1.keep mA (by simp) (by simp)).keep mB (by simp; omega) (by simp; omega)
    have hin : ∀ X : Option Addr, Within A X → ∀ a, X = some a → a.block ≠ nb := fun X hX a ha => by
      obtain ⟨a0, e1, e2⟩ := hX a ha
      have := (hA a0 e1).2
      omega
    have hRa3 : Reads w3 A1 L2 := hRa.keep mB (fun a ha => by simpa using hin A1 hv1 a ha)
    have hRb3 : Reads w3 A2 T := hRb.keep mB (fun a ha => by simpa using hin A2 hv2 a ha)
    have hin6 : ∀ a, A1 = some a → a.block ≠ b6 := fun a ha => by
      obtain ⟨a0, e1, e2⟩ := hv1 a ha
      have := (hA a0 e1).2
      omega
    clear hRa hRb hR1 mA mB m1 m3 m2 hin hA1 y3 y4 hB4 c40 c41
    have c50 := hn.cell 0
    have c51 := hn.cell 1
    have c60 := hB6.cell 0
    have c61 := hB6.cell 1
    have c62 := hB6.free 0
    have c63 := hB6.free 1
    simp at c50 c51 c60 c61
    go_wp2_with fail
    go_region_held3 (fun w' => w'.cell? ⟨nb, 0, none⟩ = some (.slice A1 L2.length c1) ∧ w'.cell? ⟨nb, 1, none⟩ = some (.int .i64 e2)) ((refine ⟨?_, ?_⟩ <;> (repeat (first | exact c50 | exact c51 | refine cell_put (by simp; omega) ?_))))
      (first | (go_at_call 38; refine (num_c T.length A2 T c2 _ rfl (by omega) hb1 hb2 (by first | exact hRb3 | exact hRb3.keep (Mod.drew [] _) (by simp))).mono ?_; rintro e w4 ⟨rfl, kk, rfl⟩))
    all_goals
      rw [show ((z : Int) == ((be T : Nat) : Int)) = true by rw [HH.out.2.2.2]; simp]
      go_wp2_with fail
      have hD : Mod [b6] w3 (((w3.drewN (1 + kk)).setCell ⟨b6, 0, none⟩ (.slice A1 L2.length c1)).setCell ⟨b6, 1, none⟩ (.int .i64 e2)) := ((Mod.drewN [b6] w3 _).trans (Mod.setCell (ms := [b6]) _ (by simp) _) (fun _ _ h => h)).trans (Mod.setCell (ms := [b6]) _ (by simp) _) (fun _ _ h => h)
      have hF := ((hB6.keep (Mod.drewN [] _ (1 + kk)) (by simp)).set 0 (.slice A1 L2.length c1)).set 1 (.int .i64 e2)
      simp only [List.set_cons_zero, List.set_cons_succ] at hF
      generalize ((w3.drewN (1 + kk)).setCell ⟨b6, 0, none⟩ (.slice A1 L2.length c1)).setCell ⟨b6, 1, none⟩ (.int .i64 e2) = w5 at *
      have d0 := hF.cell 0
      have d1 := hF.cell 1
      simp at d0 d1
      refine bodyPost_ret (v := .tuple #[.agg #[.slice A1 L2.length c1, .int .i64 e2], .bool true]) (by simp [results, Try.results21, go_sem, d0, d1]) rfl ?_
      unfold TakeIs
      rw [HH.out.1, HH.out.2.1]
      exact ⟨A1, c1, rfl, hRa3.keep hD (fun a ha => by simpa using hin6 a ha), ha1, ha2, hR3.keep hD (by simp; omega) (by simp; omega), mC.trans hD (by simp; omega), hv1⟩
  · have hn := (hq.set 0 (.slice A1 L2.length c1)).set 1 (.int .i64 e2)
    simp only [List.set_cons_zero, List.set_cons_succ] at hn
    have mA : Mod [] w1 w2 := ((Mod.alloc [] w1 _).then (Mod.drew [] _)).then m3
    have y4 := mA.size
    have y5 := m1.size
    obtain ⟨nb, hnb⟩ : ∃ nb, nb = w1.heap.size := ⟨_, rfl⟩
    have y6 : b6 < nb := by omega
    have y7 : w1.heap.size ≤ nb := by omega
    rw [← hnb] at hn q2 q3 q4 q5 ⊢
    have mB : Mod [nb] w2 ((w2.setCell ⟨nb, 0, none⟩ (.slice A1 L2.length c1)).setCell ⟨nb, 1, none⟩ (.int .i64 e2)) := (Mod.setCell (ms := [nb]) w2 (by simp) _).trans (Mod.setCell (ms := [nb]) _ (by simp) _) (fun _ _ h => h)
    clear hnb q0 q1 q2 q3 q4 q5 hq
    generalize (w2.setCell ⟨nb, 0, none⟩ (.slice A1 L2.length c1)).setCell ⟨nb, 1, none⟩ (.int .i64 e2) = w3 at *
    replace hB6 := (hB6.keep mA (by simp)).keep mB (by simp; omega)
    have mC : Mod [g] w w3 := (m1.then mA).trans (mB.wk (ns := [nb]) (fun _ _ h => h)) (by simp; omega)
    have hR3 : Rdr w3 g b L2 e2 := (hR1.keep mA (by simp) (by simp)).keep mB (by simp; omega) (by simp; omega)
    have hin : ∀ X : Option Addr, Within A X → ∀ a, X = some a → a.block ≠ nb := fun X hX a ha => by
      obtain ⟨a0, e1, e2⟩ := hX a ha
      have := (hA a0 e1).2
      omega
    have hRa3 : Reads w3 A1 L2 := hRa.keep mB (fun a ha => by simpa using hin A1 hv1 a ha)
    have hRb3 : Reads w3 A2 T := hRb.keep mB (fun a ha => by simpa using hin A2 hv2 a ha)
    have hin6 : ∀ a, A1 = some a → a.block ≠ b6 := fun a ha => by
      obtain ⟨a0, e1, e2⟩ := hv1 a ha
      have := (hA a0 e1).2
      omega
    clear hRa hRb hR1 mA mB m1 m3 m2 hin hA1 y3 y4 hB4 c40 c41
    have c50 := hn.cell 0
    have c51 := hn.cell 1
    have c60 := hB6.cell 0
    have c61 := hB6.cell 1
    have c62 := hB6.free 0
    have c63 := hB6.free 1
    simp at c50 c51 c60 c61
    go_wp2_with fail
    go_region_held3 (fun w' => w'.cell? ⟨nb, 0, none⟩ = some (.slice A1 L2.length c1) ∧ w'.cell? ⟨nb, 1, none⟩ = some (.int .i64 e2)) ((refine ⟨?_, ?_⟩ <;> (repeat (first | exact c50 | exact c51 | refine cell_put (by simp; omega) ?_))))
      (first | (go_at_call 38; refine (num_c T.length A2 T c2 _ rfl (by omega) hb1 hb2 (by first | exact hRb3 | exact hRb3.keep (Mod.drew [] _) (by simp))).mono ?_; rintro e w4 ⟨rfl, kk, rfl⟩))
    all_goals
      rw [show ((z : Int) == ((be T : Nat) : Int)) = true by rw [HH.out.2.2.2]; simp]
      go_wp2_with fail
      have hD : Mod [b6] w3 (((w3.drewN (1 + kk)).setCell ⟨b6, 0, none⟩ (.slice A1 L2.length c1)).setCell ⟨b6, 1, none⟩ (.int .i64 e2)) := ((Mod.drewN [b6] w3 _).trans (Mod.setCell (ms := [b6]) _ (by simp) _) (fun _ _ h => h)).trans (Mod.setCell (ms := [b6]) _ (by simp) _) (fun _ _ h => h)
      have hF := ((hB6.keep (Mod.drewN [] _ (1 + kk)) (by simp)).set 0 (.slice A1 L2.length c1)).set 1 (.int .i64 e2)
      simp only [List.set_cons_zero, List.set_cons_succ] at hF
      generalize ((w3.drewN (1 + kk)).setCell ⟨b6, 0, none⟩ (.slice A1 L2.length c1)).setCell ⟨b6, 1, none⟩ (.int .i64 e2) = w5 at *
      have d0 := hF.cell 0
      have d1 := hF.cell 1
      simp at d0 d1
      refine bodyPost_ret (v := .tuple #[.agg #[.slice A1 L2.length c1, .int .i64 e2], .bool true]) (by simp [results, Try.results21, go_sem, d0, d1]) rfl ?_
      unfold TakeIs
      rw [HH.out.1, HH.out.2.1]
      exact ⟨A1, c1, rfl, hRa3.keep hD (fun a ha => by simpa using hin6 a ha), ha1, ha2, hR3.keep hD (by simp; omega) (by simp; omega), mC.trans hD (by simp; omega), hv1⟩
set_option maxRecDepth 1000000 in
set_option maxHeartbeats 4000000 in
theorem takes_1 (g b : Nat) (l : List UInt8) (er : Int) (A : Option Addr) (c : Nat) (how n : Int) (w : World) (hs : (IntKind.u64.wrap how).tmod 5 = 1) (hlc : l.length ≤ c) (hcm : c ≤ maxLen) (h : Reads w A l) (hA : ∀ a, A = some a → a.block ≠ g ∧ a.block < w.heap.size) (hR : Rdr w g b l er) :
    Calls Try.prog 21 #[.pointer (some ⟨g, 0, none⟩), .agg #[.slice A l.length c, .int .i64 er], .agg #[.int .i64 how, .int .i64 n]] w (TakeIs A g b l er ((2 : Nat) : Int) w) := by
  obtain ⟨z1, z2, z3⟩ := hR.lt
  have hz := offNum_lt l er 2
  obtain ⟨z, hzz⟩ : ∃ z, offNum l er 2 = z := ⟨_, rfl⟩
  rw [hzz] at hz
  have HZ := Lib.hid hzz
  clear hzz
  obtain ⟨T, hT⟩ : ∃ T, offGot l er ((2 : Nat) : Int) = T := ⟨_, rfl⟩
  have hTn : T.length ≤ 2 := by rw [← hT]; exact offGot_len l er 2
  have hbz : be T = z := by rw [← HZ.out, offNum_got, hT]
  obtain ⟨L2, hL2⟩ : ∃ L2, offRest l er ((2 : Nat) : Int) = L2 := ⟨_, rfl⟩
  obtain ⟨e2, he2⟩ : ∃ e2, offErr l er ((2 : Nat) : Int) = e2 := ⟨_, rfl⟩
  have HH := Lib.hid (And.intro hL2 (And.intro he2 (And.intro hT hbz)))
  clear hT hbz hL2 he2
  go_enter Try.func21, Try.ntmps21
  go_wp2_with fail
  refine (u16_c g b l er _ (((hR.keep (Mod.alloc [] w _) (by simp) (by simp)).keep (Mod.alloc [] _ _) (by simp) (by simp)).keep (Mod.alloc [] _ _) (by simp) (by simp))).mono ?_
  rintro e w1 ⟨rfl, hR1, m2⟩
  rw [HZ.out]
  rw [HH.out.1, HH.out.2.1] at hR1
  have hB4 : Holds w1 w.heap.size 43 [.slice A l.length c, .int .i64 er] := (((Holds.made w 43 [.slice A l.length c, .int .i64 er]).keep (Mod.alloc [] _ (.cells #[.int .i64 how, .int .i64 n] 45)) (by simp)).keep (Mod.alloc [] _ (.cells #[.slice none 0 0, .int .i64 0] 43)) (by simp)).keep m2 (by simp; omega)
  have hB6 : Holds w1 (w.heap.size + 1 + 1) 43 [.slice none 0 0, .int .i64 0] := by
    have := (Holds.made ((w.alloc (.cells #[.slice A l.length c, .int .i64 er] 43)).alloc (.cells #[.int .i64 how, .int .i64 n] 45)) 43 [.slice none 0 0, .int .i64 0]).keep m2 (by simp; omega)
    simpa using this
  have m1 : Mod [g] w w1 := (((Mod.alloc [] w (.cells #[.slice A l.length c, .int .i64 er] 43)).then (Mod.alloc [] _ (.cells #[.int .i64 how, .int .i64 n] 45))).then (Mod.alloc [] _ (.cells #[.slice none 0 0, .int .i64 0] 43))).pre m2
  have hA1 : Reads w1 A l := h.keep m1 (fun a e => by simpa using (hA a e).1)
  clear m2 hR
  have c40 := hB4.cell 0
  have c41 := hB4.cell 1
  simp at c40 c41
  obtain ⟨b6, hb6⟩ : ∃ x, x = w.heap.size + 1 + 1 := ⟨_, rfl⟩
  have y1 : w.heap.size < b6 := by omega
  go_wp2_with fail
  rw [← hb6] at hB6 ⊢
  clear hb6
  have y2 := hB6.lt
  have y3 := hB4.lt
  have m2 : Mod [] w1 w1 := Mod.refl _ _
  go_region_held3 (fun w' => w'.cell? ⟨w.heap.size, 0, none⟩ = some (.slice A l.length c) ∧ w'.cell? ⟨w.heap.size, 1, none⟩ = some (.int .i64 er)) ((refine ⟨?_, ?_⟩ <;> (repeat (first | exact c40 | exact c41 | exact q0 | exact q1 | refine cell_new ?_ | refine cell_drew ?_ | refine cell_put (by simp; omega) ?_))))
    (first | (go_at_call 37; refine (offs_at A l c er ((2 : Nat) : Int) L2 e2 T _ hlc hcm ⟨HH.out.1, HH.out.2.1, HH.out.2.2.1⟩ (by first | exact hA1 | exact hA1.keep (Mod.drew [] _) (by simp) | exact (hA1.keep (Mod.alloc [] _ _) (by simp)).keep (Mod.drew [] _) (by simp))).mono ?_; rintro e w2 ⟨A1, c1, A2, c2, rfl, hRa, ha1, ha2, hRb, hb1, hb2, m3, hv1, hv2⟩; have q0 := m3.cell (p := ⟨w.heap.size, 0, none⟩) (by simp) (by first | exact c40 | exact cell_new c40 | exact cell_drew (cell_new c40)); have q1 := m3.cell (p := ⟨w.heap.size, 1, none⟩) (by simp) (by first | exact c41 | exact cell_new c41 | exact cell_drew (cell_new c41)); first | (have hq := Holds.keep (Holds.keep (Holds.made w1 43 [.slice none 0 0, .int .i64 0]) (Mod.drew [] _) (by simp)) m3 (by simp); have q2 := hq.cell 0; have q3 := hq.cell 1; have q4 := hq.free 0; have q5 := hq.free 1; simp at q2 q3) | skip))
  · have hn : Holds (w2.alloc (.cells #[.slice A1 L2.length c1, .int .i64 e2] 43)) w2.heap.size 43 [.slice A1 L2.length c1, .int .i64 e2] := Holds.made _ _ [.slice A1 L2.length c1, .int .i64 e2]
    have mA : Mod [] w1 w2 := (Mod.drew [] w1).then m3
    have y4 := mA.size
    have y5 := m1.size
    obtain ⟨nb, hnb⟩ : ∃ nb, nb = w2.heap.size := ⟨_, rfl⟩
    have y6 : b6 < nb := by omega
    have mB : Mod [nb] w2 (w2.alloc (.cells #[.slice A1 L2.length c1, .int .i64 e2] 43)) := Mod.alloc _ _ _
    have y7 : w1.heap.size ≤ nb := by omega
    rw [← hnb] at hn ⊢
    clear hnb q0 q1
    generalize w2.alloc (.cells #[.slice A1 L2.length c1, .int .i64 e2] 43) = w3 at *
    replace hB6 := (hB6.keep mA (by simp)).keep mB (by simp; omega)
    have mC : Mod [g] w w3 := (m1.then mA).trans (mB.wk (ns := [nb]) (fun _ _ h => h)) (by simp; omega)
    have hR3 : Rdr w3 g b L2 e2 := (hR1.keep mA (by simp) (by simp)).keep mB (by simp; omega) (by simp; omega)
    have hin : ∀ X : Option Addr, Within A X → ∀ a, X = some a → a.block ≠ nb := fun X hX a ha => by
      obtain ⟨a0, e1, e2⟩ := hX a ha
      have := (hA a0 e1).2
      omega
    have hRa3 : Reads w3 A1 L2 := hRa.keep mB (fun a ha => by simpa using hin A1 hv1 a ha)
    have hRb3 : Reads w3 A2 T := hRb.keep mB (fun a ha => by simpa using hin A2 hv2 a ha)
    have hin6 : ∀ a, A1 = some a → a.block ≠ b6 := fun a ha => by
      obtain ⟨a0, e1, e2⟩ := hv1 a ha
      have := (hA a0 e1).2
      omega
    clear hRa hRb hR1 mA mB m1 m3 m2 hin hA1 y3 y4 hB4 c40 c41
    have c50 := hn.cell 0
    have c51 := hn.cell 1
    have c60 := hB6.cell 0
    have c61 := hB6.cell 1
    have c62 := hB6.free 0
    have c63 := hB6.free 1
    simp at c50 c51 c60 c61
    go_wp2_with fail
    go_region_held3 (fun w' => w'.cell? ⟨nb, 0, none⟩ = some (.slice A1 L2.length c1) ∧ w'.cell? ⟨nb, 1, none⟩ = some (.int .i64 e2)) ((refine ⟨?_, ?_⟩ <;> (repeat (first | exact c50 | exact c51 | refine cell_put (by simp; omega) ?_))))
      (first | (go_at_call 38; refine (num_c T.length A2 T c2 _ rfl (by omega) hb1 hb2 (by first | exact hRb3 | exact hRb3.keep (Mod.drew [] _) (by simp))).mono ?_; rintro e w4 ⟨rfl, kk, rfl⟩))
    all_goals
      rw [show ((z : Int) == ((be T : Nat) : Int)) = true by rw [HH.out.2.2.2]; simp]
      go_wp2_with fail
      have hD : Mod [b6] w3 (((w3.drewN (1 + kk)).setCell ⟨b6, 0, none⟩ (.slice A1 L2.length c1)).setCell ⟨b6, 1, none⟩ (.int .i64 e2)) := ((Mod.drewN [b6] w3 _).trans (Mod.setCell (ms := [b6]) _ (by simp) _) (fun _ _ h => h)).trans (Mod.setCell (ms := [b6]) _ (by simp) _) (fun _ _ h => h)
      have hF := ((hB6.keep (Mod.drewN [] _ (1 + kk)) (by simp)).set 0 (.slice A1 L2.length c1)).set 1 (.int .i64 e2)
      simp only [List.set_cons_zero, List.set_cons_succ] at hF
      generalize ((w3.drewN (1 + kk)).setCell ⟨b6, 0, none⟩ (.slice A1 L2.length c1)).setCell ⟨b6, 1, none⟩ (.int .i64 e2) = w5 at *
      have d0 := hF.cell 0
      have d1 := hF.cell 1
      simp at d0 d1
      refine bodyPost_ret (v := .tuple #[.agg #[.slice A1 L2.length c1, .int .i64 e2], .bool true]) (by simp [results, Try.results21, go_sem, d0, d1]) rfl ?_
      unfold TakeIs
      rw [HH.out.1, HH.out.2.1]
      exact ⟨A1, c1, rfl, hRa3.keep hD (fun a ha => by simpa using hin6 a ha), ha1, ha2, hR3.keep hD (by simp; omega) (by simp; omega), mC.trans hD (by simp; omega), hv1⟩
  · have hn := (hq.set 0 (.slice A1 L2.length c1)).set 1 (.int .i64 e2)
    simp only [List.set_cons_zero, List.set_cons_succ] at hn
    have mA : Mod [] w1 w2 := ((Mod.alloc [] w1 _).then (Mod.drew [] _)).then m3
    have y4 := mA.size
    have y5 := m1.size
    obtain ⟨nb, hnb⟩ : ∃ nb, nb = w1.heap.size := ⟨_, rfl⟩
    have y6 : b6 < nb := by omega
    have y7 : w1.heap.size ≤ nb := by omega
    rw [← hnb] at hn q2 q3 q4 q5 ⊢
    have mB : Mod [nb] w2 ((w2.setCell ⟨nb, 0, none⟩ (.slice A1 L2.length c1)).setCell ⟨nb, 1, none⟩ (.int .i64 e2)) := (Mod.setCell (ms := [nb]) w2 (by simp) _).trans (Mod.setCell (ms := [nb]) _ (by simp) _) (fun _ _ h => h)
    clear hnb q0 q1 q2 q3 q4 q5 hq
    generalize (w2.setCell ⟨nb, 0, none⟩ (.slice A1 L2.length c1)).setCell ⟨nb, 1, none⟩ (.int .i64 e2) = w3 at *
    replace hB6 := (hB6.keep mA (by simp)).keep mB (by simp; omega)
    have mC : Mod [g] w w3 := (m1.then mA).trans (mB.wk (ns := [nb]) (fun _ _ h => h)) (by simp; omega)
    have hR3 : Rdr w3 g b L2 e2 := (hR1.keep mA (by simp) (by simp)).keep mB (by simp; omega) (by simp; omega)
    have hin : ∀ X : Option Addr, Within A X → ∀ a, X = some a → a.block ≠ nb := fun X hX a ha => by
      obtain ⟨a0, e1, e2⟩ := hX a ha
      have := (hA a0 e1).2
      omega
    have hRa3 : Reads w3 A1 L2 := hRa.keep mB (fun a ha => by simpa using hin A1 hv1 a ha)
    have hRb3 : Reads w3 A2 T := hRb.keep mB (fun a ha => by simpa using hin A2 hv2 a ha)
    have hin6 : ∀ a, A1 = some a → a.block ≠ b6 := fun a ha => by
      obtain ⟨a0, e1, e2⟩ := hv1 a ha
      have := (hA a0 e1).2
      omega
    clear hRa hRb hR1 mA mB m1 m3 m2 hin hA1 y3 y4 hB4 c40 c41
    have c50 := hn.cell 0
    have c51 := hn.cell 1
    have c60 := hB6.cell 0
    have c61 := hB6.cell 1
    have c62 := hB6.free 0
    have c63 := hB6.free 1
    simp at c50 c51 c60 c61
    go_wp2_with fail
    go_region_held3 (fun w' => w'.cell? ⟨nb, 0, none⟩ = some (.slice A1 L2.length c1) ∧ w'.cell? ⟨nb, 1, none⟩ = some (.int .i64 e2)) ((refine ⟨?_, ?_⟩ <;> (repeat (first | exact c50 | exact c51 | refine cell_put (by simp; omega) ?_))))
      (first | (go_at_call 38; refine (num_c T.length A2 T c2 _ rfl (by omega) hb1 hb2 (by first | exact hRb3 | exact hRb3.keep (Mod.drew [] _) (by simp))).mono ?_; rintro e w4 ⟨rfl, kk, rfl⟩))
    all_goals
      rw [show ((z : Int) == ((be T : Nat) : Int)) = true by rw [HH.out.2.2.2]; simp]
      go_wp2_with fail
      have hD : Mod [b6] w3 (((w3.drewN (1 + kk)).setCell ⟨b6, 0, none⟩ (.slice A1 L2.length c1)).setCell ⟨b6, 1, none⟩ (.int .i64 e2)) := ((Mod.drewN [b6] w3 _).trans (Mod.setCell (ms := [b6]) _ (by simp) _) (fun _ _ h => h)).trans (Mod.setCell (ms := [b6]) _ (by simp) _) (fun _ _ h => h)
      have hF := ((hB6.keep (Mod.drewN [] _ (1 + kk)) (by simp)).set 0 (.slice A1 L2.length c1)).set 1 (.int .i64 e2)
      simp only [List.set_cons_zero, List.set_cons_succ] at hF
      generalize ((w3.drewN (1 + kk)).setCell ⟨b6, 0, none⟩ (.slice A1 L2.length c1)).setCell ⟨b6, 1, none⟩ (.int .i64 e2) = w5 at *
      have d0 := hF.cell 0
      have d1 := hF.cell 1
      simp at d0 d1
      refine bodyPost_ret (v := .tuple #[.agg #[.slice A1 L2.length c1, .int .i64 e2], .bool true]) (by simp [results, Try.results21, go_sem, d0, d1]) rfl ?_
      unfold TakeIs
      rw [HH.out.1, HH.out.2.1]
      exact ⟨A1, c1, rfl, hRa3.keep hD (fun a ha => by simpa using hin6 a ha), ha1, ha2, hR3.keep hD (by simp; omega) (by simp; omega), mC.trans hD (by simp; omega), hv1⟩
set_option maxRecDepth 1000000 in
set_option maxHeartbeats 4000000 in
theorem takes_2 (g b : Nat) (l : List UInt8) (er : Int) (A : Option Addr) (c : Nat) (how n : Int) (w : World) (hs : (IntKind.u64.wrap how).tmod 5 = 2) (hlc : l.length ≤ c) (hcm : c ≤ maxLen) (h : Reads w A l) (hA : ∀ a, A = some a → a.block ≠ g ∧ a.block < w.heap.size) (hR : Rdr w g b l er) :
    Calls Try.prog 21 #[.pointer (some ⟨g, 0, none⟩), .agg #[.slice A l.length c, .int .i64 er], .agg #[.int .i64 how, .int .i64 n]] w (TakeIs A g b l er ((4 : Nat) : Int) w) := by
  obtain ⟨z1, z2, z3⟩ := hR.lt
  have hz := offNum_lt l er 4
  obtain ⟨z, hzz⟩ : ∃ z, offNum l er 4 = z := ⟨_, rfl⟩
  rw [hzz] at hz
  have HZ := Lib.hid hzz
  clear hzz
  obtain ⟨T, hT⟩ : ∃ T, offGot l er ((4 : Nat) : Int) = T := ⟨_, rfl⟩
  have hTn : T.length ≤ 4 := by rw [← hT]; exact offGot_len l er 4
  have hbz : be T = z := by rw [← HZ.out, offNum_got, hT]
  obtain ⟨L2, hL2⟩ : ∃ L2, offRest l er ((4 : Nat) : Int) = L2 := ⟨_, rfl⟩
  obtain ⟨e2, he2⟩ : ∃ e2, offErr l er ((4 : Nat) : Int) = e2 := ⟨_, rfl⟩
  have HH := Lib.hid (And.intro hL2 (And.intro he2 (And.intro hT hbz)))
  clear hT hbz hL2 he2
  go_enter Try.func21, Try.ntmps21
  go_wp2_with fail
  refine (u32_c g b l er _ (((hR.keep (Mod.alloc [] w _) (by simp) (by simp)).keep (Mod.alloc [] _ _) (by simp) (by simp)).keep (Mod.alloc [] _ _) (by simp) (by simp))).mono ?_
  rintro e w1 ⟨rfl, hR1, m2⟩
  rw [HZ.out]
  rw [HH.out.1, HH.out.2.1] at hR1
  have hB4 : Holds w1 w.heap.size 43 [.slice A l.length c, .int .i64 er] := (((Holds.made w 43 [.slice A l.length c, .int .i64 er]).keep (Mod.alloc [] _ (.cells #[.int .i64 how, .int .i64 n] 45)) (by simp)).keep (Mod.alloc [] _ (.cells #[.slice none 0 0, .int .i64 0] 43)) (by simp)).keep m2 (by simp; omega)
  have hB6 : Holds w1 (w.heap.size + 1 + 1) 43 [.slice none 0 0, .int .i64 0] := by
    have := (Holds.made ((w.alloc (.cells #[.slice A l.length c, .int .i64 er] 43)).alloc (.cells #[.int .i64 how, .int .i64 n] 45)) 43 [.slice none 0 0, .int .i64 0]).keep m2 (by simp; omega)
    simpa using this
  have m1 : Mod [g] w w1 := (((Mod.alloc [] w (.cells #[.slice A l.length c, .int .i64 er] 43)).then (Mod.alloc [] _ (.cells #[.int .i64 how, .int .i64 n] 45))).then (Mod.alloc [] _ (.cells #[.slice none 0 0, .int .i64 0] 43))).pre m2
  have hA1 : Reads w1 A l := h.keep m1 (fun a e => by simpa using (hA a e).1)
  clear m2 hR
  have c40 := hB4.cell 0
  have c41 := hB4.cell 1
  simp at c40 c41
  obtain ⟨b6, hb6⟩ : ∃ x, x = w.heap.size + 1 + 1 := ⟨_, rfl⟩
  have y1 : w.heap.size < b6 := by omega
  go_wp2_with fail
  rw [← hb6] at hB6 ⊢
  clear hb6
  have y2 := hB6.lt
  have y3 := hB4.lt
  have m2 : Mod [] w1 w1 := Mod.refl _ _
  go_region_held3 (fun w' => w'.cell? ⟨w.heap.size, 0, none⟩ = some (.slice A l.length c) ∧ w'.cell? ⟨w.heap.size, 1, none⟩ = some (.int .i64 er)) ((refine ⟨?_, ?_⟩ <;> (repeat (first | exact c40 | exact c41 | exact q0 | exact q1 | refine cell_new ?_ | refine cell_drew ?_ | refine cell_put (by simp; omega) ?_))))
    (first | (go_at_call 37; refine (offs_at A l c er ((4 : Nat) : Int) L2 e2 T _ hlc hcm ⟨HH.out.1, HH.out.2.1, HH.out.2.2.1⟩ (by first | exact hA1 | exact hA1.keep (Mod.drew [] _) (by simp) | exact (hA1.keep (Mod.alloc [] _ _) (by simp)).keep (Mod.drew [] _) (by simp))).mono ?_; rintro e w2 ⟨A1, c1, A2, c2, rfl, hRa, ha1, ha2, hRb, hb1, hb2, m3, hv1, hv2⟩; have q0 := m3.cell (p := ⟨w.heap.size, 0, none⟩) (by simp) (by first | exact c40 | exact cell_new c40 | exact cell_drew (cell_new c40)); have q1 := m3.cell (p := ⟨w.heap.size, 1, none⟩) (by simp) (by first | exact c41 | exact cell_new c41 | exact cell_drew (cell_new c41)); first | (have hq := Holds.keep (Holds.keep (Holds.made w1 43 [.slice none 0 0, .int .i64 0]) (Mod.drew [] _) (by simp)) m3 (by simp); have q2 := hq.cell 0; have q3 := hq.cell 1; have q4 := hq.free 0; have q5 := hq.free 1; simp at q2 q3) | skip))
  · have hn : Holds (w2.alloc (.cells #[.slice A1 L2.length c1, .int .i64 e2] 43)) w2.heap.size 43 [.slice A1 L2.length c1, .int .i64 e2] := Holds.made _ _ [.slice A1 L2.length c1, .int .i64 e2]
    have mA : Mod [] w1 w2 := (Mod.drew [] w1).then m3
    have y4 := mA.size
    have y5 := m1.size
    obtain ⟨nb, hnb⟩ : ∃ nb, nb = w2.heap.size := ⟨_, rfl⟩
    have y6 : b6 < nb := by omega
    have mB : Mod [nb] w2 (w2.alloc (.cells #[.slice A1 L2.length c1, .int .i64 e2] 43)) := Mod.alloc _ _ _
    have y7 : w1.heap.size ≤ nb := by omega
    rw [← hnb] at hn ⊢
    clear hnb q0 q1
    generalize w2.alloc (.cells #[.slice A1 L2.length c1, .int .i64 e2] 43) = w3 at *
    replace hB6 := (hB6.keep mA (by simp)).keep mB (by simp; omega)
    have mC : Mod [g] w w3 := (m1.then mA).trans (mB.wk (ns := [nb]) (fun _ _ h => h)) (by simp; omega)
    have hR3 : Rdr w3 g b L2 e2 := (hR1.keep mA (by simp) (by simp)).keep mB (by simp; omega) (by simp; omega)
    have hin : ∀ X : Option Addr, Within A X → ∀ a, X = some a → a.block ≠ nb := fun X hX a ha => by
      obtain ⟨a0, e1, e2⟩ := hX a ha
      have := (hA a0 e1).2
      omega
    have hRa3 : Reads w3 A1 L2 := hRa.keep mB (fun a ha => by simpa using hin A1 hv1 a ha)
    have hRb3 : Reads w3 A2 T := hRb.keep mB (fun a ha => by simpa using hin A2 hv2 a ha)
    have hin6 : ∀ a, A1 = some a → a.block ≠ b6 := fun a ha => by
      obtain ⟨a0, e1, e2⟩ := hv1 a ha
      have := (hA a0 e1).2
      omega
    clear hRa hRb hR1 mA mB m1 m3 m2 hin hA1 y3 y4 hB4 c40 c41
    have c50 := hn.cell 0
    have c51 := hn.cell 1
    have c60 := hB6.cell 0
    have c61 := hB6.cell 1
    have c62 := hB6.free 0
    have c63 := hB6.free 1
    simp at c50 c51 c60 c61
    go_wp2_with fail
    go_region_held3 (fun w' => w'.cell? ⟨nb, 0, none⟩ = some (.slice A1 L2.length c1) ∧ w'.cell? ⟨nb, 1, none⟩ = some (.int .i64 e2)) ((refine ⟨?_, ?_⟩ <;> (repeat (first | exact c50 | exact c51 | refine cell_put (by simp; omega) ?_))))
      (first | (go_at_call 38; refine (num_c T.length A2 T c2 _ rfl (by omega) hb1 hb2 (by first | exact hRb3 | exact hRb3.keep (Mod.drew [] _) (by simp))).mono ?_; rintro e w4 ⟨rfl, kk, rfl⟩))
    all_goals
      rw [show ((z : Int) == ((be T : Nat) : Int)) = true by rw [HH.out.2.2.2]; simp]
      go_wp2_with fail
      have hD : Mod [b6] w3 (((w3.drewN (1 + kk)).setCell ⟨b6, 0, none⟩ (.slice A1 L2.length c1)).setCell ⟨b6, 1, none⟩ (.int .i64 e2)) := ((Mod.drewN [b6] w3 _).trans (Mod.setCell (ms := [b6]) _ (by simp) _) (fun _ _ h => h)).trans (Mod.setCell (ms := [b6]) _ (by simp) _) (fun _ _ h => h)
      have hF := ((hB6.keep (Mod.drewN [] _ (1 + kk)) (by simp)).set 0 (.slice A1 L2.length c1)).set 1 (.int .i64 e2)
      simp only [List.set_cons_zero, List.set_cons_succ] at hF
      generalize ((w3.drewN (1 + kk)).setCell ⟨b6, 0, none⟩ (.slice A1 L2.length c1)).setCell ⟨b6, 1, none⟩ (.int .i64 e2) = w5 at *
      have d0 := hF.cell 0
      have d1 := hF.cell 1
      simp at d0 d1
      refine bodyPost_ret (v := .tuple #[.agg #[.slice A1 L2.length c1, .int .i64 e2], .bool true]) (by simp [results, Try.results21, go_sem, d0, d1]) rfl ?_
      unfold TakeIs
      rw [HH.out.1, HH.out.2.1]
      exact ⟨A1, c1, rfl, hRa3.keep hD (fun a ha => by simpa using hin6 a ha), ha1, ha2, hR3.keep hD (by simp; omega) (by simp; omega), mC.trans hD (by simp; omega), hv1⟩
  · have hn := (hq.set 0 (.slice A1 L2.length c1)).set 1 (.int .i64 e2)
    simp only [List.set_cons_zero, List.set_cons_succ] at hn
    have mA : Mod [] w1 w2 := ((Mod.alloc [] w1 _).then (Mod.drew [] _)).then m3
    have y4 := mA.size
    have y5 := m1.size
    obtain ⟨nb, hnb⟩ : ∃ nb, nb = w1.heap.size := ⟨_, rfl⟩
    have y6 : b6 < nb := by omega
    have y7 : w1.heap.size ≤ nb := by omega
    rw [← hnb] at hn q2 q3 q4 q5 ⊢
    have mB : Mod [nb] w2 ((w2.setCell ⟨nb, 0, none⟩ (.slice A1 L2.length c1)).setCell ⟨nb, 1, none⟩ (.int .i64 e2)) := (Mod.setCell (ms := [nb]) w2 (by simp) _).trans (Mod.setCell (ms := [nb]) _ (by simp) _) (fun _ _ h => h)
    clear hnb q0 q1 q2 q3 q4 q5 hq
    generalize (w2.setCell ⟨nb, 0, none⟩ (.slice A1 L2.length c1)).setCell ⟨nb, 1, none⟩ (.int .i64 e2) = w3 at *
    replace hB6 := (hB6.keep mA (by simp)).keep mB (by simp; omega)
    have mC : Mod [g] w w3 := (m1.then mA).trans (mB.wk (ns := [nb]) (fun _ _ h => h)) (by simp; omega)
    have hR3 : Rdr w3 g b L2 e2 := (hR1.keep mA (by simp) (by simp)).keep mB (by simp; omega) (by simp; omega)
    have hin : ∀ X : Option Addr, Within A X → ∀ a, X = some a → a.block ≠ nb := fun X hX a ha => by
      obtain ⟨a0, e1, e2⟩ := hX a ha
      have := (hA a0 e1).2
      omega
    have hRa3 : Reads w3 A1 L2 := hRa.keep mB (fun a ha => by simpa using hin A1 hv1 a ha)
    have hRb3 : Reads w3 A2 T := hRb.keep mB (fun a ha => by simpa using hin A2 hv2 a ha)
    have hin6 : ∀ a, A1 = some a → a.block ≠ b6 := fun a ha => by
      obtain ⟨a0, e1, e2⟩ := hv1 a ha
      have := (hA a0 e1).2
      omega
    clear hRa hRb hR1 mA mB m1 m3 m2 hin hA1 y3 y4 hB4 c40 c41
    have c50 := hn.cell 0
    have c51 := hn.cell 1
    have c60 := hB6.cell 0
    have c61 := hB6.cell 1
    have c62 := hB6.free 0
    have c63 := hB6.free 1
    simp at c50 c51 c60 c61
    go_wp2_with fail
    go_region_held3 (fun w' => w'.cell? ⟨nb, 0, none⟩ = some (.slice A1 L2.length c1) ∧ w'.cell? ⟨nb, 1, none⟩ = some (.int .i64 e2)) ((refine ⟨?_, ?_⟩ <;> (repeat (first | exact c50 | exact c51 | refine cell_put (by simp; omega) ?_))))
      (first | (go_at_call 38; refine (num_c T.length A2 T c2 _ rfl (by omega) hb1 hb2 (by first | exact hRb3 | exact hRb3.keep (Mod.drew [] _) (by simp))).mono ?_; rintro e w4 ⟨rfl, kk, rfl⟩))
    all_goals
      rw [show ((z : Int) == ((be T : Nat) : Int)) = true by rw [HH.out.2.2.2]; simp]
      go_wp2_with fail
      have hD : Mod [b6] w3 (((w3.drewN (1 + kk)).setCell ⟨b6, 0, none⟩ (.slice A1 L2.length c1)).setCell ⟨b6, 1, none⟩ (.int .i64 e2)) := ((Mod.drewN [b6] w3 _).trans (Mod.setCell (ms := [b6]) _ (by simp) _) (fun _ _ h => h)).trans (Mod.setCell (ms := [b6]) _ (by simp) _) (fun _ _ h => h)
      have hF := ((hB6.keep (Mod.drewN [] _ (1 + kk)) (by simp)).set 0 (.slice A1 L2.length c1)).set 1 (.int .i64 e2)
      simp only [List.set_cons_zero, List.set_cons_succ] at hF
      generalize ((w3.drewN (1 + kk)).setCell ⟨b6, 0, none⟩ (.slice A1 L2.length c1)).setCell ⟨b6, 1, none⟩ (.int .i64 e2) = w5 at *
      have d0 := hF.cell 0
      have d1 := hF.cell 1
      simp at d0 d1
      refine bodyPost_ret (v := .tuple #[.agg #[.slice A1 L2.length c1, .int .i64 e2], .bool true]) (by simp [results, Try.results21, go_sem, d0, d1]) rfl ?_
      unfold TakeIs
      rw [HH.out.1, HH.out.2.1]
      exact ⟨A1, c1, rfl, hRa3.keep hD (fun a ha => by simpa using hin6 a ha), ha1, ha2, hR3.keep hD (by simp; omega) (by simp; omega), mC.trans hD (by simp; omega), hv1⟩
set_option maxRecDepth 1000000 in
set_option maxHeartbeats 4000000 in
theorem takes_3 (g b : Nat) (l : List UInt8) (er : Int) (A : Option Addr) (c : Nat) (how n : Int) (w : World) (hs : (IntKind.u64.wrap how).tmod 5 = 3) (hlc : l.length ≤ c) (hcm : c ≤ maxLen) (h : Reads w A l) (hA : ∀ a, A = some a → a.block ≠ g ∧ a.block < w.heap.size) (hR : Rdr w g b l er) :
    Calls Try.prog 21 #[.pointer (some ⟨g, 0, none⟩), .agg #[.slice A l.length c, .int .i64 er], .agg #[.int .i64 how, .int .i64 n]] w (TakeIs A g b l er ((8 : Nat) : Int) w) := by
  obtain ⟨z1, z2, z3⟩ := hR.lt
  have hz := offNum_lt l er 8
  obtain ⟨z, hzz⟩ : ∃ z, offNum l er 8 = z := ⟨_, rfl⟩
  rw [hzz] at hz
  have HZ := Lib.hid hzz
  clear hzz
  obtain ⟨T, hT⟩ : ∃ T, offGot l er ((8 : Nat) : Int) = T := ⟨_, rfl⟩
  have hTn : T.length ≤ 8 := by rw [← hT]; exact offGot_len l er 8
  have hbz : be T = z := by rw [← HZ.out, offNum_got, hT]
  obtain ⟨L2, hL2⟩ : ∃ L2, offRest l er ((8 : Nat) : Int) = L2 := ⟨_, rfl⟩
  obtain ⟨e2, he2⟩ : ∃ e2, offErr l er ((8 : Nat) : Int) = e2 := ⟨_, rfl⟩
  have HH := Lib.hid (And.intro hL2 (And.intro he2 (And.intro hT hbz)))
  clear hT hbz hL2 he2
  go_enter Try.func21, Try.ntmps21
  go_wp2_with fail
  refine (u64_c g b l er _ (((hR.keep (Mod.alloc [] w _) (by simp) (by simp)).keep (Mod.alloc [] _ _) (by simp) (by simp)).keep (Mod.alloc [] _ _) (by simp) (by simp))).mono ?_
  rintro e w1 ⟨rfl, hR1, m2⟩
  rw [HZ.out]
  rw [HH.out.1, HH.out.2.1] at hR1
  have hB4 : Holds w1 w.heap.size 43 [.slice A l.length c, .int .i64 er] := (((Holds.made w 43 [.slice A l.length c, .int .i64 er]).keep (Mod.alloc [] _ (.cells #[.int .i64 how, .int .i64 n] 45)) (by simp)).keep (Mod.alloc [] _ (.cells #[.slice none 0 0, .int .i64 0] 43)) (by simp)).keep m2 (by simp; omega)
  have hB6 : Holds w1 (w.heap.size + 1 + 1) 43 [.slice none 0 0, .int .i64 0] := by
    have := (Holds.made ((w.alloc (.cells #[.slice A l.length c, .int .i64 er] 43)).alloc (.cells #[.int .i64 how, .int .i64 n] 45)) 43 [.slice none 0 0, .int .i64 0]).keep m2 (by simp; omega)
    simpa using this
  have m1 : Mod [g] w w1 := (((Mod.alloc [] w (.cells #[.slice A l.length c, .int .i64 er] 43)).then (Mod.alloc [] _ (.cells #[.int .i64 how, .int .i64 n] 45))).then (Mod.alloc [] _ (.cells #[.slice none 0 0, .int .i64 0] 43))).pre m2
  have hA1 : Reads w1 A l := h.keep m1 (fun a e => by simpa using (hA a e).1)
  clear m2 hR
  have c40 := hB4.cell 0
  have c41 := hB4.cell 1
  simp at c40 c41
  obtain ⟨b6, hb6⟩ : ∃ x, x = w.heap.size + 1 + 1 := ⟨_, rfl⟩
  have y1 : w.heap.size < b6 := by omega
  go_wp2_with fail
  rw [← hb6] at hB6 ⊢
  clear hb6
  have y2 := hB6.lt
  have y3 := hB4.lt
  have m2 : Mod [] w1 w1 := Mod.refl _ _
  go_region_held3 (fun w' => w'.cell? ⟨w.heap.size, 0, none⟩ = some (.slice A l.length c) ∧ w'.cell? ⟨w.heap.size, 1, none⟩ = some (.int .i64 er)) ((refine ⟨?_, ?_⟩ <;> (repeat (first | exact c40 | exact c41 | exact q0 | exact q1 | refine cell_new ?_ | refine cell_drew ?_ | refine cell_put (by simp; omega) ?_))))
    (first | (go_at_call 37; refine (offs_at A l c er ((8 : Nat) : Int) L2 e2 T _ hlc hcm ⟨HH.out.1, HH.out.2.1, HH.out.2.2.1⟩ (by first | exact hA1 | exact hA1.keep (Mod.drew [] _) (by simp) | exact (hA1.keep (Mod.alloc [] _ _) (by simp)).keep (Mod.drew [] _) (by simp))).mono ?_; rintro e w2 ⟨A1, c1, A2, c2, rfl, hRa, ha1, ha2, hRb, hb1, hb2, m3, hv1, hv2⟩; have q0 := m3.cell (p := ⟨w.heap.size, 0, none⟩) (by simp) (by first | exact c40 | exact cell_new c40 | exact cell_drew (cell_new c40)); have q1 := m3.cell (p := ⟨w.heap.size, 1, none⟩) (by simp) (by first | exact c41 | exact cell_new c41 | exact cell_drew (cell_new c41)); first | (have hq := Holds.keep (Holds.keep (Holds.made w1 43 [.slice none 0 0, .int .i64 0]) (Mod.drew [] _) (by simp)) m3 (by simp); have q2 := hq.cell 0; have q3 := hq.cell 1; have q4 := hq.free 0; have q5 := hq.free 1; simp at q2 q3) | skip))
  · have hn : Holds (w2.alloc (.cells #[.slice A1 L2.length c1, .int .i64 e2] 43)) w2.heap.size 43 [.slice A1 L2.length c1, .int .i64 e2] := Holds.made _ _ [.slice A1 L2.length c1, .int .i64 e2]
    have mA : Mod [] w1 w2 := (Mod.drew [] w1).then m3
    have y4 := mA.size
    have y5 := m1.size
    obtain ⟨nb, hnb⟩ : ∃ nb, nb = w2.heap.size := ⟨_, rfl⟩
    have y6 : b6 < nb := by omega
    have mB : Mod [nb] w2 (w2.alloc (.cells #[.slice A1 L2.length c1, .int .i64 e2] 43)) := Mod.alloc _ _ _
    have y7 : w1.heap.size ≤ nb := by omega
    rw [← hnb] at hn ⊢
    clear hnb q0 q1
    generalize w2.alloc (.cells #[.slice A1 L2.length c1, .int .i64 e2] 43) = w3 at *
    replace hB6 := (hB6.keep mA (by simp)).keep mB (by simp; omega)
    have mC : Mod [g] w w3 := (m1.then mA).trans (mB.wk (ns := [nb]) (fun _ _ h => h)) (by simp; omega)
    have hR3 : Rdr w3 g b L2 e2 := (hR1.keep mA (by simp) (by simp)).keep mB (by simp; omega) (by simp; omega)
    have hin : ∀ X : Option Addr, Within A X → ∀ a, X = some a → a.block ≠ nb := fun X hX a ha => by
      obtain ⟨a0, e1, e2⟩ := hX a ha
      have := (hA a0 e1).2
      omega
    have hRa3 : Reads w3 A1 L2 := hRa.keep mB (fun a ha => by simpa using hin A1 hv1 a ha)
    have hRb3 : Reads w3 A2 T := hRb.keep mB (fun a ha => by simpa using hin A2 hv2 a ha)
    have hin6 : ∀ a, A1 = some a → a.block ≠ b6 := fun a ha => by
      obtain ⟨a0, e1, e2⟩ := hv1 a ha
      have := (hA a0 e1).2
      omega
    clear hRa hRb hR1 mA mB m1 m3 m2 hin hA1 y3 y4 hB4 c40 c41
    have c50 := hn.cell 0
    have c51 := hn.cell 1
    have c60 := hB6.cell 0
    have c61 := hB6.cell 1
    have c62 := hB6.free 0
    have c63 := hB6.free 1
    simp at c50 c51 c60 c61
    go_wp2_with fail
    go_region_held3 (fun w' => w'.cell? ⟨nb, 0, none⟩ = some (.slice A1 L2.length c1) ∧ w'.cell? ⟨nb, 1, none⟩ = some (.int .i64 e2)) ((refine ⟨?_, ?_⟩ <;> (repeat (first | exact c50 | exact c51 | refine cell_put (by simp; omega) ?_))))
      (first | (go_at_call 38; refine (num_c T.length A2 T c2 _ rfl (by omega) hb1 hb2 (by first | exact hRb3 | exact hRb3.keep (Mod.drew [] _) (by simp))).mono ?_; rintro e w4 ⟨rfl, kk, rfl⟩))
    all_goals
      rw [show ((z : Int) == ((be T : Nat) : Int)) = true by rw [HH.out.2.2.2]; simp]
      go_wp2_with fail
      have hD : Mod [b6] w3 (((w3.drewN (1 + kk)).setCell ⟨b6, 0, none⟩ (.slice A1 L2.length c1)).setCell ⟨b6, 1, none⟩ (.int .i64 e2)) := ((Mod.drewN [b6] w3 _).trans (Mod.setCell (ms := [b6]) _ (by simp) _) (fun _ _ h => h)).trans (Mod.setCell (ms := [b6]) _ (by simp) _) (fun _ _ h => h)
      have hF := ((hB6.keep (Mod.drewN [] _ (1 + kk)) (by simp)).set 0 (.slice A1 L2.length c1)).set 1 (.int .i64 e2)
      simp only [List.set_cons_zero, List.set_cons_succ] at hF
      generalize ((w3.drewN (1 + kk)).setCell ⟨b6, 0, none⟩ (.slice A1 L2.length c1)).setCell ⟨b6, 1, none⟩ (.int .i64 e2) = w5 at *
      have d0 := hF.cell 0
      have d1 := hF.cell 1
      simp at d0 d1
      refine bodyPost_ret (v := .tuple #[.agg #[.slice A1 L2.length c1, .int .i64 e2], .bool true]) (by simp [results, Try.results21, go_sem, d0, d1]) rfl ?_
      unfold TakeIs
      rw [HH.out.1, HH.out.2.1]
      exact ⟨A1, c1, rfl, hRa3.keep hD (fun a ha => by simpa using hin6 a ha), ha1, ha2, hR3.keep hD (by simp; omega) (by simp; omega), mC.trans hD (by simp; omega), hv1⟩
  · have hn := (hq.set 0 (.slice A1 L2.length c1)).set 1 (.int .i64 e2)
    simp only [List.set_cons_zero, List.set_cons_succ] at hn
    have mA : Mod [] w1 w2 := ((Mod.alloc [] w1 _).then (Mod.drew [] _)).then m3
    have y4 := mA.size
    have y5 := m1.size
    obtain ⟨nb, hnb⟩ : ∃ nb, nb = w1.heap.size := ⟨_, rfl⟩
    have y6 : b6 < nb := by omega
    have y7 : w1.heap.size ≤ nb := by omega
    rw [← hnb] at hn q2 q3 q4 q5 ⊢
    have mB : Mod [nb] w2 ((w2.setCell ⟨nb, 0, none⟩ (.slice A1 L2.length c1)).setCell ⟨nb, 1, none⟩ (.int .i64 e2)) := (Mod.setCell (ms := [nb]) w2 (by simp) _).trans (Mod.setCell (ms := [nb]) _ (by simp) _) (fun _ _ h => h)
    clear hnb q0 q1 q2 q3 q4 q5 hq
    generalize (w2.setCell ⟨nb, 0, none⟩ (.slice A1 L2.length c1)).setCell ⟨nb, 1, none⟩ (.int .i64 e2) = w3 at *
    replace hB6 := (hB6.keep mA (by simp)).keep mB (by simp; omega)
    have mC : Mod [g] w w3 := (m1.then mA).trans (mB.wk (ns := [nb]) (fun _ _ h => h)) (by simp; omega)
    have hR3 : Rdr w3 g b L2 e2 := (hR1.keep mA (by simp) (by simp)).keep mB (by simp; omega) (by simp; omega)
    have hin : ∀ X : Option Addr, Within A X → ∀ a, X = some a → a.block ≠ nb := fun X hX a ha => by
      obtain ⟨a0, e1, e2⟩ := hX a ha
      have := (hA a0 e1).2
      omega
    have hRa3 : Reads w3 A1 L2 := hRa.keep mB (fun a ha => by simpa using hin A1 hv1 a ha)
    have hRb3 : Reads w3 A2 T := hRb.keep mB (fun a ha => by simpa using hin A2 hv2 a ha)
    have hin6 : ∀ a, A1 = some a → a.block ≠ b6 := fun a ha => by
      obtain ⟨a0, e1, e2⟩ := hv1 a ha
      have := (hA a0 e1).2
      omega
    clear hRa hRb hR1 mA mB m1 m3 m2 hin hA1 y3 y4 hB4 c40 c41
    have c50 := hn.cell 0
    have c51 := hn.cell 1
    have c60 := hB6.cell 0
    have c61 := hB6.cell 1
    have c62 := hB6.free 0
    have c63 := hB6.free 1
    simp at c50 c51 c60 c61
    go_wp2_with fail
    go_region_held3 (fun w' => w'.cell? ⟨nb, 0, none⟩ = some (.slice A1 L2.length c1) ∧ w'.cell? ⟨nb, 1, none⟩ = some (.int .i64 e2)) ((refine ⟨?_, ?_⟩ <;> (repeat (first | exact c50 | exact c51 | refine cell_put (by simp; omega) ?_))))
      (first | (go_at_call 38; refine (num_c T.length A2 T c2 _ rfl (by omega) hb1 hb2 (by first | exact hRb3 | exact hRb3.keep (Mod.drew [] _) (by simp))).mono ?_; rintro e w4 ⟨rfl, kk, rfl⟩))
    all_goals
      rw [show ((z : Int) == ((be T : Nat) : Int)) = true by rw [HH.out.2.2.2]; simp]
      go_wp2_with fail
      have hD : Mod [b6] w3 (((w3.drewN (1 + kk)).setCell ⟨b6, 0, none⟩ (.slice A1 L2.length c1)).setCell ⟨b6, 1, none⟩ (.int .i64 e2)) := ((Mod.drewN [b6] w3 _).trans (Mod.setCell (ms := [b6]) _ (by simp) _) (fun _ _ h => h)).trans (Mod.setCell (ms := [b6]) _ (by simp) _) (fun _ _ h => h)
      have hF := ((hB6.keep (Mod.drewN [] _ (1 + kk)) (by simp)).set 0 (.slice A1 L2.length c1)).set 1 (.int .i64 e2)
      simp only [List.set_cons_zero, List.set_cons_succ] at hF
      generalize ((w3.drewN (1 + kk)).setCell ⟨b6, 0, none⟩ (.slice A1 L2.length c1)).setCell ⟨b6, 1, none⟩ (.int .i64 e2) = w5 at *
      have d0 := hF.cell 0
      have d1 := hF.cell 1
      simp at d0 d1
      refine bodyPost_ret (v := .tuple #[.agg #[.slice A1 L2.length c1, .int .i64 e2], .bool true]) (by simp [results, Try.results21, go_sem, d0, d1]) rfl ?_
      unfold TakeIs
      rw [HH.out.1, HH.out.2.1]
      exact ⟨A1, c1, rfl, hRa3.keep hD (fun a ha => by simpa using hin6 a ha), ha1, ha2, hR3.keep hD (by simp; omega) (by simp; omega), mC.trans hD (by simp; omega), hv1⟩
set_option maxRecDepth 1000000 in
set_option maxHeartbeats 4000000 in
theorem takes_4 (g b : Nat) (l : List UInt8) (er : Int) (A : Option Addr) (c : Nat) (how n : Int) (w : World) (hs : (IntKind.u64.wrap how).tmod 5 = 4) (hlc : l.length ≤ c) (hcm : c ≤ maxLen) (h : Reads w A l) (hA : ∀ a, A = some a → a.block ≠ g ∧ a.block < w.heap.size) (hR : Rdr w g b l er) :
    Calls Try.prog 21 #[.pointer (some ⟨g, 0, none⟩), .agg #[.slice A l.length c, .int .i64 er], .agg #[.int .i64 how, .int .i64 n]] w (TakeIs A g b l er n w) := by
  obtain ⟨z1, z2, z3⟩ := hR.lt
  obtain ⟨T, hT⟩ : ∃ T, offGot l er n = T := ⟨_, rfl⟩
  obtain ⟨L2, hL2⟩ : ∃ L2, offRest l er n = L2 := ⟨_, rfl⟩
  obtain ⟨e2, he2⟩ : ∃ e2, offErr l er n = e2 := ⟨_, rfl⟩
  have HH := Lib.hid (And.intro hL2 (And.intro he2 hT))
  clear hT hL2 he2
  go_enter Try.func21, Try.ntmps21
  go_wp2_with fail
  refine (raw_any g b l er n _ (((hR.keep (Mod.alloc [] w _) (by simp) (by simp)).keep (Mod.alloc [] _ _) (by simp) (by simp)).keep (Mod.alloc [] _ _) (by simp) (by simp))).mono ?_
  rintro e w1 ⟨AR, cR, rfl, hsh, hrr, hR1, m2⟩
  simp only [World.size_alloc] at hsh
  rw [HH.out.1, HH.out.2.1] at hR1
  rw [HH.out.2.2] at hsh hrr ⊢
  have hB4 : Holds w1 w.heap.size 43 [.slice A l.length c, .int .i64 er] := (((Holds.made w 43 [.slice A l.length c, .int .i64 er]).keep (Mod.alloc [] _ (.cells #[.int .i64 how, .int .i64 n] 45)) (by simp)).keep (Mod.alloc [] _ (.cells #[.slice none 0 0, .int .i64 0] 43)) (by simp)).keep m2 (by simp; omega)
  have hB5 : Holds w1 (w.heap.size + 1) 45 [.int .i64 how, .int .i64 n] := by
    have := ((Holds.made (w.alloc (.cells #[.slice A l.length c, .int .i64 er] 43)) 45 [.int .i64 how, .int .i64 n]).keep (Mod.alloc [] _ (.cells #[.slice none 0 0, .int .i64 0] 43)) (by simp)).keep m2 (by simp; omega)
    simpa using this
  have hB6 : Holds w1 (w.heap.size + 1 + 1) 43 [.slice none 0 0, .int .i64 0] := by
    have := (Holds.made ((w.alloc (.cells #[.slice A l.length c, .int .i64 er] 43)).alloc (.cells #[.int .i64 how, .int .i64 n] 45)) 43 [.slice none 0 0, .int .i64 0]).keep m2 (by simp; omega)
    simpa using this
  have m1 : Mod [g] w w1 := (((Mod.alloc [] w (.cells #[.slice A l.length c, .int .i64 er] 43)).then (Mod.alloc [] _ (.cells #[.int .i64 how, .int .i64 n] 45))).then (Mod.alloc [] _ (.cells #[.slice none 0 0, .int .i64 0] 43))).pre m2
  have hA1 : Reads w1 A l := h.keep m1 (fun a e => by simpa using (hA a e).1)
  clear m2 hR
  have c40 := hB4.cell 0
  have c41 := hB4.cell 1
  have c51 := hB5.cell 1
  simp at c40 c41 c51
  go_wp2_with fail
  refine (offs_at A l c er n L2 e2 T _ hlc hcm ⟨HH.out.1, HH.out.2.1, HH.out.2.2⟩ hA1).mono ?_
  rintro e w2 ⟨A1, c1, A2, c2, rfl, hRa, ha1, ha2, hRb, hb1, hb2, m3, hv1, hv2⟩
  have hRr2 := hrr.keep m3 (by simp)
  have hR2 := hR1.keep m3 (by simp) (by simp)
  replace hB6 := hB6.keep m3 (by simp)
  replace m1 := m1.then m3
  have y1 := hB6.lt
  obtain ⟨d0, hd0, hd1, hd2⟩ : ∃ d0, w.heap.size + 3 ≤ d0 ∧ d0 ≠ w2.heap.size ∧ (T.length = 0 ∨ AR = some ⟨d0, 0, none⟩ ∧ Holds w2 d0 5 (T.map oct)) := by
    rcases hsh with h0 | ⟨d, h1, h2, h3⟩
    · exact ⟨w2.heap.size + 7, by omega, by omega, .inl h0⟩
    · have := (h3.keep m3 (by simp)).lt
      exact ⟨d, by omega, by omega, .inr ⟨h1, h3.keep m3 (by simp)⟩⟩
  clear hsh hrr hR1 m3 c40 c41 c51 hB4 hB5 hA1
  obtain ⟨b6, hb6⟩ : ∃ x, x = w.heap.size + 1 + 1 := ⟨_, rfl⟩
  have y2 : w.heap.size < b6 := by omega
  have y3 : b6 < d0 := by omega
  go_wp2_with fail
  rw [← hb6] at hB6 y1 ⊢
  clear hb6 hd0
  have hnb : Holds (w2.alloc (.cells #[.slice A1 L2.length c1, .int .i64 e2] 43)) w2.heap.size 43 [.slice A1 L2.length c1, .int .i64 e2] := Holds.made _ _ [.slice A1 L2.length c1, .int .i64 e2]
  have mB : Mod [] w2 (w2.alloc (.cells #[.slice A1 L2.length c1, .int .i64 e2] 43)) := Mod.alloc _ _ _
  obtain ⟨nb, hnn⟩ : ∃ nb, nb = w2.heap.size := ⟨_, rfl⟩
  rw [← hnn] at hnb hd1 y1 ⊢
  have y4 := m1.size
  rw [← hnn] at y4
  clear hnn
  generalize w2.alloc (.cells #[.slice A1 L2.length c1, .int .i64 e2] 43) = w3 at *
  refine (same_n AR A2 T T T.length T.length cR c2 _ rfl rfl (Nat.le_trans hb1 hb2) (Nat.le_trans hb1 hb2) (hRr2.keep mB (by simp)) (hRb.keep mB (by simp))).mono ?_
  rintro e w4 ⟨rfl, m4⟩
  rw [decide_eq_true rfl]
  replace hnb := hnb.keep m4 (by simp)
  replace mB := mB.then m4
  clear m4
  have hRa3 := hRa.keep mB (by simp)
  replace hR2 := hR2.keep mB (by simp) (by simp)
  replace hB6 := hB6.keep mB (by simp)
  replace m1 := m1.then mB
  have hd3 : T.length = 0 ∨ AR = some ⟨d0, 0, none⟩ ∧ Holds w4 d0 5 (T.map oct) := hd2.imp id (fun h => ⟨h.1, h.2.keep mB (by simp)⟩)
  have hinA : ∀ a, A1 = some a → a.block < w.heap.size := fun a ha => by
    obtain ⟨a0, e1, e2⟩ := hv1 a ha
    have := (hA a0 e1).2
    omega
  have hT0 : T.length ≤ 9223372036854775807 := by unfold maxLen at hb2; omega
  clear hd2 hRr2 hRb hRa mB hA
  clear w2 w3
  have hQ' : ∃ cs : List UInt8, cs.length = T.length ∧ (T.length = 0 ∨ AR = some ⟨d0, 0, none⟩ ∧ Holds w4 d0 5 (cs.map oct)) := ⟨T, rfl, hd3⟩
  clear hd3
  obtain ⟨N, hN⟩ : ∃ N, N = T.length := ⟨_, rfl⟩
  rw [← hN] at hQ' hT0 ⊢
  clear hN hb1
  have HK := Lib.hid (And.intro hnb (And.intro hR2 (And.intro hB6 (And.intro m1 hRa3))))
  clear hnb hR2 hB6 m1 hRa3
  go_wp2_with fail
  obtain ⟨wo, hwo⟩ : ∃ wo : World, wo = w4 := ⟨_, rfl⟩
  have HW := Lib.hid hwo
  clear hwo
  go_loopw [72] (fun i wi => ∃ j : Nat, j ≤ N ∧ i = .int .i64 (j : Int) ∧ Mod [d0] wo wi ∧ ∃ cs : List UInt8, cs.length = N ∧ (N = 0 ∨ AR = some ⟨d0, 0, none⟩ ∧ Holds wi d0 5 (cs.map oct))) (fun i _ => N - (intOf i).toNat)
  case atStart => exact ⟨0, by omega, rfl, by rw [HW.out]; exact Mod.refl _ _, hQ'⟩
  case round =>
    clear hQ'
    obtain ⟨j, hj, rfl, hmi, cs, hcs, hhi⟩ := hrel
    by_cases hjl : j < N
    · have hx := hhi.resolve_left (by omega)
      clear hhi
      obtain ⟨rfl, hhi⟩ := hx
      have hcc := hhi.cell j
      have hff := hhi.free j
      have hjc : j < cs.length := by omega
      rw [List.getElem?_map, List.getElem?_eq_getElem hjc, Option.map_some] at hcc
      generalize cs[j] = y at hcc
      clear hjc
      have hup := Lib.hid (oct_up y)
      have hh2 := hhi.set j (oct (y + 1))
      rw [← List.map_set] at hh2
      have hm2 : Mod [d0] wo (World.setCell _ ⟨d0, j, none⟩ (oct (y + 1))) := hmi.trans (Mod.setCell (ms := [d0]) _ (by simp) _) (fun _ _ h => h)
      have hcs2 : (cs.set j (y + 1)).length = N := by simpa using hcs
      have HZ := Lib.hid (And.intro hh2 (And.intro hm2 hcs2))
      clear hh2 hm2 hcs2 hcs hhi hmi
      go_wp2
      rw [hup.out]
      exact ⟨⟨j + 1, by omega, by go_num, HZ.out.2.1, _, HZ.out.2.2, .inr ⟨by first | trivial | rfl, HZ.out.1⟩⟩, by simp [intOf]; omega⟩
    · obtain rfl : j = N := by omega
      obtain ⟨hnb, hR2, hB6, m1, hRa3⟩ := HK.out
      rw [HW.out] at hmi
      have y6 := hB6.lt
      have y7 := hnb.lt
      replace hnb := hnb.keep hmi (by simp; omega)
      replace hB6 := hB6.keep hmi (by simp; omega)
      replace hR2 := hR2.keep hmi (by simp; omega) (by simp; omega)
      replace hRa3 := hRa3.keep hmi (fun a ha => by have := hinA a ha; simp; omega)
      replace m1 := m1.trans (hmi.wk (ns := [d0]) (fun _ _ h => h)) (by simp; omega)
      clear hmi HK HW hhi hcs
      have c50 := hnb.cell 0
      have c51 := hnb.cell 1
      have c60 := hB6.cell 0
      have c61 := hB6.cell 1
      have c62 := hB6.free 0
      have c63 := hB6.free 1
      simp at c50 c51 c60 c61
      have hF := (hB6.set 0 (.slice A1 L2.length c1)).set 1 (.int .i64 e2)
      simp only [List.set_cons_zero, List.set_cons_succ] at hF
      have d0' := hF.cell 0
      have d1' := hF.cell 1
      simp at d0' d1'
      have hD : Mod [b6] wr ((wr.setCell ⟨b6, 0, none⟩ (.slice A1 L2.length c1)).setCell ⟨b6, 1, none⟩ (.int .i64 e2)) := (Mod.setCell (ms := [b6]) _ (by simp) _).trans (Mod.setCell (ms := [b6]) _ (by simp) _) (fun _ _ h => h)
      have HL := Lib.hid hD
      clear hD
      go_wp2_with fail
      have hD := HL.out
      generalize (wr.setCell ⟨b6, 0, none⟩ (.slice A1 L2.length c1)).setCell ⟨b6, 1, none⟩ (.int .i64 e2) = w5 at *
      refine bodyPost_ret (v := .tuple #[.agg #[.slice A1 L2.length c1, .int .i64 e2], .bool true]) (by simp [results, Try.results21, go_sem, d0', d1']) rfl ?_
      unfold TakeIs
      rw [HH.out.1, HH.out.2.1]
      exact ⟨A1, c1, rfl, hRa3.keep hD (fun a ha => by have := hinA a ha; simp; omega), ha1, ha2, hR2.keep hD (by simp; omega) (by simp; omega), m1.trans hD (by simp; omega), hv1⟩

/-- Whatever way of taking: what is left stands in the reader and behind the slice alike. -/
def TakeAny (A : Option Addr) (g b : Nat) (w : World) (e : Ending) (w' : World) : Prop :=
  ∃ L2 e2 A1 c1, e = .returned (.tuple #[.agg #[.slice A1 (L2 : List UInt8).length c1, .int .i64 e2], .bool true]) ∧
    Reads w' A1 L2 ∧ L2.length ≤ c1 ∧ c1 ≤ maxLen ∧ Rdr w' g b L2 e2 ∧ Mod [g] w w' ∧ Within A A1
theorem TakeIs.any {A : Option Addr} {g b : Nat} {l : List UInt8} {er n : Int} {w : World} {e : Ending} {w' : World} (h : TakeIs A g b l er n w e w') : TakeAny A g b w e w' := by
  obtain ⟨A1, c1, h⟩ := h
  exact ⟨_, _, A1, c1, h⟩
theorem sel_of (how : Int) : (IntKind.u64.wrap how).tmod 5 = 0 ∨ (IntKind.u64.wrap how).tmod 5 = 1 ∨ (IntKind.u64.wrap how).tmod 5 = 2 ∨ (IntKind.u64.wrap how).tmod 5 = 3 ∨ (IntKind.u64.wrap how).tmod 5 = 4 := by
  have h0 : 0 ≤ IntKind.u64.wrap how := by rw [IntKind.wrap_u64]; omega
  rw [Int.tmod_eq_emod_of_nonneg h0]
  omega
theorem takes_c (g b : Nat) (l : List UInt8) (er : Int) (A : Option Addr) (c : Nat) (how n : Int) (w : World) (hlc : l.length ≤ c) (hcm : c ≤ maxLen) (h : Reads w A l) (hA : ∀ a, A = some a → a.block ≠ g ∧ a.block < w.heap.size) (hR : Rdr w g b l er) :
    Calls Try.prog 21 #[.pointer (some ⟨g, 0, none⟩), .agg #[.slice A l.length c, .int .i64 er], .agg #[.int .i64 how, .int .i64 n]] w (TakeAny A g b w) := by
  rcases sel_of how with hs | hs | hs | hs | hs
  · exact (takes_0 g b l er A c how n w hs hlc hcm h hA hR).mono fun _ _ => TakeIs.any
  · exact (takes_1 g b l er A c how n w hs hlc hcm h hA hR).mono fun _ _ => TakeIs.any
  · exact (takes_2 g b l er A c how n w hs hlc hcm h hA hR).mono fun _ _ => TakeIs.any
  · exact (takes_3 g b l er A c how n w hs hlc hcm h hA hR).mono fun _ _ => TakeIs.any
  · exact (takes_4 g b l er A c how n w hs hlc hcm h hA hR).mono fun _ _ => TakeIs.any
end Go.Proofs.Ytheebmehapemnaa
