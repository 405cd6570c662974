/-
  My own texts OctA OctB OctC OctD ShaE Blk, one behind the other.
-/
import Derived.Test.YtbacmeaeehhhfaaDoorRows
import Derived.Test.YtbacmeaeehhhfaaDoorB1
import Derived.Lib.Hide
import Derived.Laws.IdiomStrings
import Derived.Test.YtbacmeaeehhhfaaDoorB2
namespace Go.Proofs.YtbacmeaeehhhfaaDoor
section
open Go.RowKit

theorem u8_zero : (Tryd.prog.info? 5).map (fun i => (i.zero, i.size, i.bytes)) = some (some (.int .u8 0), 1, 1) := by kernel_rfl
theorem u8_one : (Tryd.prog.info? 5).map (·.size) = some 1 := by kernel_rfl

theorem copied_c (A : Option Addr) (l : List UInt8) (c : Nat) (w : World) (hl : l.length ≤ 140737488355328) (h : Reads w A l) :
    Calls Tryd.prog 87 #[.slice A l.length c] w fun e w' => e = .returned (.slice (some ⟨w.heap.size, 0, none⟩) l.length l.length) ∧ Holds w' w.heap.size 5 (l.map oct) ∧ Mod [] w w' := by
  obtain ⟨i0, hi, hz0, hz1, hz2⟩ := info_parts u8_zero
  go_enter Tryd.func87, Tryd.ntmps87
  go_wp2_with (first
    | (at_make; go_loud (refine wpList_makes _ rfl _ _ 64 rfl 5 i0 (.int .u8 0) Tryd.underlying64 hi hz0 hz1 1 hz2 rfl .i64 .i64 _ _ l.length rfl rfl rfl rfl (by omega) (by unfold maxLen; omega) ?_); intro w1 hw1 hm1 hs1)
    | (with_reducible refine wpList_copies (o := ⟨some 9, _, _, _, _, _⟩) rfl (.tmp 7) (.tmp 8) 64 64 rfl 5 Tryd.underlying64 u8_one _ _ _ _ l _ _ rfl rfl rfl _ _ hw1 (h.keep hm1 (fun _ _ => by simp)) (by simp) (by omega) ?_; intro w2 hw2 hm2 hs2))
  go_ret
  exact ⟨rfl, by simpa using hw2, hm1.trans hm2 (by simp; omega)⟩

/-- A reader at block g, its bytes in block b. -/
def Rdr (w : World) (g b : Nat) (l : List UInt8) (e : Int) : Prop :=
  (b ≠ g ∧ b < w.heap.size) ∧ ∃ o c, l.length ≤ c ∧ c ≤ 140737488355328 ∧ Holds w g 141 [.slice (some ⟨b, o, none⟩) l.length c, .int .i64 e] ∧ Reads w (some ⟨b, o, none⟩) l

theorem Rdr.keep {w v : World} {g b : Nat} {l : List UInt8} {e : Int} {ms : List Nat} (h : Rdr w g b l e) (m : Mod ms w v) (hg : g ∉ ms) (hb : b ∉ ms) : Rdr v g b l e := by
  obtain ⟨hne, o, c, h1, h2, h3, h4⟩ := h
  exact ⟨⟨hne.1, Nat.lt_of_lt_of_le hne.2 m.size⟩, o, c, h1, h2, h3.keep m hg, h4.keep m (by rintro _ ⟨⟩; exact hb)⟩

theorem read_c (A : Option Addr) (l : List UInt8) (c : Nat) (w : World) (hl : l.length ≤ 140737488355328) (h : Reads w A l) :
    Calls Tryd.prog 77 #[.slice A l.length c] w fun e w' => ∃ g b, e = .returned (.pointer (some ⟨g, 0, none⟩)) ∧ w.heap.size ≤ g ∧ w.heap.size ≤ b ∧ Rdr w' g b l 0 ∧ Mod [] w w' := by
  go_enter Tryd.func77, Tryd.ntmps77
  go_wp2_with (go_at_call 87; refine (copied_c A l c _ hl h).mono ?_; rintro e w1 ⟨rfl, hw1, hm1⟩)
  go_ret
  refine ⟨w1.heap.size, w.heap.size, rfl, hm1.size, Nat.le_refl _, ?_, hm1.then (Mod.alloc _ _ _)⟩
  have hlt := hw1.lt
  refine ⟨⟨by omega, by simp; omega⟩, 0, l.length, Nat.le_refl _, hl, Holds.made _ _ _, ?_⟩
  exact Reads.of_holds (hw1.keep (Mod.alloc [] w1 _) (by simp))

theorem Rdr.lt {w : World} {g b : Nat} {l : List UInt8} {er : Int} (h : Rdr w g b l er) : g < w.heap.size ∧ b < w.heap.size ∧ b ≠ g := by
  obtain ⟨⟨h1, h2⟩, _, _, _, _, h3, _⟩ := h
  exact ⟨h3.lt, h2, h1⟩

theorem take_neg (g b : Nat) (l : List UInt8) (er n : Int) (w : World) (h : Rdr w g b l er) (hn : n < 0) :
    Calls Tryd.prog 94 #[.pointer (some ⟨g, 0, none⟩), .int .i64 n] w fun e w' => e = .returned (.tuple #[.slice none 0 0, .int .i64 2]) ∧ w = w' := by
  obtain ⟨hne, o, c, h1, h2, h3, h4⟩ := h
  go_enter Tryd.func94, Tryd.ntmps94
  go_wp2
  go_ret2
  exact ⟨rfl, rfl⟩

theorem take_long (g b : Nat) (l : List UInt8) (er n : Int) (w : World) (h : Rdr w g b l er) (hn : (l.length : Int) < n) :
    Calls Tryd.prog 94 #[.pointer (some ⟨g, 0, none⟩), .int .i64 n] w fun e w' => e = .returned (.tuple #[.slice none 0 0, .int .i64 7]) ∧ w = w' := by
  obtain ⟨hne, o, c, h1, h2, h3, h4⟩ := h
  have hc := h3.cell 0
  simp at hc
  have h0 : ¬ n < 0 := by omega
  go_enter Tryd.func94, Tryd.ntmps94
  go_wp2
  go_ret2
  exact ⟨rfl, rfl⟩

/-- k bytes were taken off the reader at g. -/
def Took (g b : Nat) (l : List UInt8) (er : Int) (k : Nat) (w : World) (e : Ending) (w' : World) : Prop :=
  ∃ o c, e = .returned (.tuple #[.slice (some ⟨b, o, none⟩) k c, .int .i64 0]) ∧ Reads w' (some ⟨b, o, none⟩) (l.take k) ∧ Rdr w' g b (l.drop k) er ∧ Mod [g] w w'

theorem took_of {g b : Nat} {l : List UInt8} {er : Int} {k : Nat} {w : World} {o c o' c' : Nat} {e : Ending} (hne : b ≠ g ∧ b < w.heap.size) (hk : k ≤ l.length) (h2 : c ≤ 140737488355328)
    (h3 : Holds w g 141 [.slice (some ⟨b, o, none⟩) l.length c, .int .i64 er]) (h4 : Reads w (some ⟨b, o, none⟩) l) (hc : l.length - k ≤ c') (hc' : c' ≤ c) (ho : k < l.length → o' = o + k)
    (he : e = .returned (.tuple #[.slice (some ⟨b, o, none⟩) k c, .int .i64 0])) :
    Took g b l er k w e (w.setCell ⟨g, 0, none⟩ (.slice (some ⟨b, o', none⟩) (l.length - k) c')) := by
  have m : Mod [g] w (w.setCell ⟨g, 0, none⟩ (.slice (some ⟨b, o', none⟩) (l.length - k) c')) := Mod.setCell w (by simp) _
  have h4' := h4.keep m (by rintro _ ⟨⟩; simpa using hne.1)
  refine ⟨o, c, he, fun i hi => ⟨b, o, rfl, ?_⟩, ⟨⟨hne.1, by simpa [World.setCell] using hne.2⟩, o', c', by simpa using hc, by omega, by simpa using h3.set 0 _, fun i hi => ⟨b, o', rfl, ?_⟩⟩, m⟩
  · simp at hi
    have := h4'.at i (by omega)
    simpa using this
  · simp at hi
    have := h4'.at (k + i) (by omega)
    obtain rfl := ho (by omega)
    simpa [Nat.add_assoc] using this

theorem take_ok (g b : Nat) (l : List UInt8) (er : Int) (k : Nat) (w : World) (h : Rdr w g b l er) (hk : k ≤ l.length) :
    Calls Tryd.prog 94 #[.pointer (some ⟨g, 0, none⟩), .int .i64 (k : Int)] w (Took g b l er k w) := by
  obtain ⟨hne, o, c, h1, h2, h3, h4⟩ := h
  have hc := h3.cell 0
  simp at hc
  have hf := h3.free 0
  go_enter Tryd.func94, Tryd.ntmps94
  go_wp2
  · subst_vars
    go_ret2
    exact took_of hne hk h2 h3 h4 (by omega) (by omega) (by omega) rfl
  · go_ret2
    exact took_of hne hk h2 h3 h4 (by omega) (by omega) (by omega) rfl

/-- Err is not OK: nothing is done. -/
theorem off_err (g b : Nat) (l : List UInt8) (er n : Int) (f : Value) (w : World) (h : Rdr w g b l er) (he : (er == 0) = false) :
    Calls Tryd.prog 92 #[.pointer (some ⟨g, 0, none⟩), .int .i64 n, f] w fun e w' => e = .returned (.tuple #[]) ∧ w = w' := by
  obtain ⟨hne, o, c, h1, h2, h3, h4⟩ := h
  have hc := h3.cell 1
  simp at hc
  have he' : (er != 0) = true := by simpa using he
  go_enter Tryd.func92, Tryd.ntmps92
  go_wp2
  refine bodyPost_ret (results_none rfl _ _ _) rfl ?_
  exact ⟨rfl, rfl⟩

theorem off_nil (n : Int) (f : Value) (w : World) :
    Calls Tryd.prog 92 #[.pointer none, .int .i64 n, f] w fun e w' => e = .returned (.tuple #[]) ∧ w = w' := by
  go_enter Tryd.func92, Tryd.ntmps92
  go_wp2
  refine bodyPost_ret (results_none rfl _ _ _) rfl ?_
  exact ⟨rfl, rfl⟩

theorem Rdr.fails {w : World} {g b : Nat} {l : List UInt8} {er : Int} (h : Rdr w g b l er) (e' : Int) : Rdr (w.setCell ⟨g, 1, none⟩ (.int .i64 e')) g b l e' := by
  obtain ⟨hne, o, c, h1, h2, h3, h4⟩ := h
  exact ⟨⟨hne.1, by simpa [World.setCell] using hne.2⟩, o, c, h1, h2, by simpa using h3.set 1 (.int .i64 e'), h4.keep (ms := [g]) (Mod.setCell w (by simp) _) (by rintro _ ⟨⟩; simpa using hne.1)⟩

theorem off_neg (g b : Nat) (l : List UInt8) (n : Int) (f : Value) (w : World) (h : Rdr w g b l 0) (hn : n < 0) :
    Calls Tryd.prog 92 #[.pointer (some ⟨g, 0, none⟩), .int .i64 n, f] w fun e w' => e = .returned (.tuple #[]) ∧ Rdr w' g b l 2 ∧ Mod [g] w w' := by
  have h' := h
  obtain ⟨hne, o, c, h1, h2, h3, h4⟩ := h'
  have hc := h3.cell 1
  simp at hc
  have hf := h3.free 1
  go_enter Tryd.func92, Tryd.ntmps92
  go_wp2_with (go_at_call 94; refine (take_neg g b l 0 n _ h hn).mono ?_; rintro e w1 ⟨rfl, rfl⟩)
  go_end0
  exact ⟨rfl, h.fails 2, Mod.setCell w (by simp) _⟩

theorem off_long (g b : Nat) (l : List UInt8) (n : Int) (f : Value) (w : World) (h : Rdr w g b l 0) (hn : (l.length : Int) < n) :
    Calls Tryd.prog 92 #[.pointer (some ⟨g, 0, none⟩), .int .i64 n, f] w fun e w' => e = .returned (.tuple #[]) ∧ Rdr w' g b l 7 ∧ Mod [g] w w' := by
  have h' := h
  obtain ⟨hne, o, c, h1, h2, h3, h4⟩ := h'
  have hc := h3.cell 1
  simp at hc
  have hf := h3.free 1
  go_enter Tryd.func92, Tryd.ntmps92
  go_wp2_with (go_at_call 94; refine (take_long g b l 0 n _ h hn).mono ?_; rintro e w1 ⟨rfl, rfl⟩)
  go_end0
  exact ⟨rfl, h.fails 7, Mod.setCell w (by simp) _⟩

theorem Rdr.still {w : World} {g b : Nat} {l : List UInt8} {er : Int} (h : Rdr w g b l er) : Rdr (w.setCell ⟨g, 1, none⟩ (.int .i64 er)) g b l er := h.fails er

/-- What is taken goes to the function that is handed in. -/
theorem off_ok (g b : Nat) (l : List UInt8) (k : Nat) (F : FuncId) (a : Addr) (w : World) (h : Rdr w g b l 0) (hk : k ≤ l.length) (R : World → World → Prop)
    (hcall : ∀ args v, (callFunc F args).run Tryd.prog v = .ok (.enter F args) v)
    (hF : ∀ v o c, Reads v (some ⟨b, o, none⟩) (l.take k) → Rdr v g b (l.drop k) 0 → Mod [g] w v → Calls Tryd.prog F #[.slice (some ⟨b, o, none⟩) k c, .pointer (some a)] v fun e v' => e = .returned (.tuple #[]) ∧ R v v') :
    Calls Tryd.prog 92 #[.pointer (some ⟨g, 0, none⟩), .int .i64 (k : Int), .func (.func F) #[] #[.pointer (some a)]] w fun e w' => e = .returned (.tuple #[]) ∧ ∃ v, Rdr v g b (l.drop k) 0 ∧ Mod [g] w v ∧ R v w' := by
  have h' := h
  obtain ⟨hne, o, c, h1, h2, h3, h4⟩ := h'
  have hc := h3.cell 1
  simp at hc
  go_enter Tryd.func92, Tryd.ntmps92
  go_wp2_with fail
  refine (take_ok g b l 0 k _ h hk).mono ?_
  rintro e w1 ⟨o1, c1, rfl, hr1, hR1, hm1⟩
  have hR1' := hR1
  obtain ⟨_, o2, c2, _, _, h13, _⟩ := hR1'
  have hc1 := h13.cell 1
  simp at hc1
  have hf1 := h13.free 1
  go_wp2_with fail
  refine (hF _ o1 c1 (hr1.keep (ms := [g]) (Mod.setCell w1 (by simp) _) (by rintro _ ⟨⟩; simpa using hne.1)) hR1.still (hm1.trans (Mod.setCell (ms := [g]) w1 (by simp) _) (by simp))).mono ?_
  rintro e w2 ⟨rfl, hR2⟩
  go_wp2
  go_end0
  exact ⟨rfl, _, hR1.still, hm1.trans (Mod.setCell (ms := [g]) w1 (by simp) _) (by simp), hR2⟩

theorem call44 (args : Array Value) (v : World) : (callFunc 93 args).run Tryd.prog v = .ok (.enter 93 args) v := by
  go_simp
end
section
open Go.RowKit

/-- The number whose bytes these are, the highest first. -/
def be (l : List UInt8) : Nat := l.foldl (fun n x => n * 256 + x.toNat) 0

theorem be_snoc (l : List UInt8) (x : UInt8) : be (l ++ [x]) = be l * 256 + x.toNat := by simp [be]
theorem be_lt (l : List UInt8) : be l < 256 ^ l.length := by
  have key : ∀ (l : List UInt8) (n : Nat), l.foldl (fun n x => n * 256 + x.toNat) n < (n + 1) * 256 ^ l.length := by
    intro l
    induction l with
    | nil => intro n; simp
    | cons x l ih =>
      intro n
      have h1 := ih (n * 256 + x.toNat)
      have h2 := x.toNat_lt
      have h3 : (n * 256 + x.toNat + 1) * 256 ^ l.length ≤ ((n + 1) * 256) * 256 ^ l.length := Nat.mul_le_mul_right _ (by omega)
      rw [List.foldl_cons, List.length_cons, Nat.pow_succ, Nat.mul_comm (256 ^ l.length), ← Nat.mul_assoc]
      omega
  simpa [be] using key l 0
theorem or_bytes (x b : Nat) (hx : x < 72057594037927936) (hb : b < 256) : bits .or .u64 (IntKind.u64.wrap ((x : Int) * 256)) (IntKind.u64.wrap (b : Int)) = ((x * 256 + b : Nat) : Int) := by
  rw [IntKind.wrap_u64, IntKind.wrap_u64, show ((x : Int) * 256) % 18446744073709551616 = ((256 * x : Nat) : Int) from by omega, show ((b : Int)) % 18446744073709551616 = ((b : Nat) : Int) from by omega, u64_or_nat _ _ (by omega) (by omega)]
  have := Nat.two_pow_add_eq_or_of_lt (i := 8) (b := b) (by omega) x
  rw [show 256 * x = 2 ^ 8 * x from rfl, ← this]
  omega
theorem take_next (l : List UInt8) (j : Nat) (h : j < l.length) : l.take (j + 1) = l.take j ++ [l[j]] := by
  rw [List.take_succ_eq_append_getElem h]
theorem be_next (l : List UInt8) (j : Nat) (h : j < l.length) (h8 : l.length ≤ 8) :
    bits .or .u64 (IntKind.u64.wrap ((be (l.take j) : Int) * 256)) (IntKind.u64.wrap (l[j].toNat : Int)) = (be (l.take (j + 1)) : Int) := by
  have h1 := be_lt (l.take j)
  have h2 : 256 ^ (l.take j).length ≤ 256 ^ 7 := Nat.pow_le_pow_right (by omega) (by simp; omega)
  rw [or_bytes _ _ (by omega) (l[j].toNat_lt), take_next l j h, be_snoc]

theorem num1_c (b o k c a : Nat) (l : List UInt8) (w : World) (hk : k = l.length) (hl : l.length ≤ 8) (hr : Reads w (some ⟨b, o, none⟩) l) (hba : b ≠ a) (ha : Holds w a 114 [.int .u64 0]) :
    Calls Tryd.prog 93 #[.slice (some ⟨b, o, none⟩) k c, .pointer (some ⟨a, 0, none⟩)] w fun e w' => e = .returned (.tuple #[]) ∧ Holds w' a 114 [.int .u64 (be l : Int)] ∧ Mod [a] w w' := by
  subst hk
  go_enter Tryd.func93, Tryd.ntmps93
  go_wp2
  go_loopw [7] (fun i wr => ∃ j : Nat, j ≤ l.length ∧ i = .int .i64 j ∧ Holds wr a 114 [.int .u64 (be (l.take j) : Int)] ∧ Mod [a] w wr) (fun i _ => l.length - (intOf i).toNat)
  case atStart => exact ⟨0, by omega, rfl, by simpa [be] using ha, Mod.refl _ _⟩
  case round =>
    obtain ⟨j, hj, rfl, hh, hm⟩ := hrel
    have hc := hh.cell 0
    simp at hc
    have hf := hh.free 0
    by_cases hlt : j < l.length
    · have hcb := (hr.keep hm (by rintro _ ⟨⟩; simpa using hba)).at j hlt
      have hm' := hm.trans (Mod.setCell (ms := [a]) wr (p := ⟨a, 0, none⟩) (by simp) (.int .u64 (be (l.take (j + 1)) : Int))) (by simp)
      have hh' := hh.set 0 (.int .u64 (be (l.take (j + 1)) : Int))
      have HE := Lib.hid (be_next l j hlt hl)
      go_wp2
      rw [HE.out]
      exact ⟨⟨j + 1, by omega, by go_num, by simpa using hh', hm'⟩, by simp [intOf]; omega⟩
    · go_wp2
      obtain rfl : j = l.length := by omega
      go_end0
      exact ⟨rfl, by simpa using hh, hm⟩

/-- What a reader tells that takes k bytes off: how many of them it has, what is left, and its error behind that. -/
def offNum (l : List UInt8) (er : Int) (k : Nat) : Nat := if er = 0 then (if k ≤ l.length then be (l.take k) else 0) else 0
def offRest (l : List UInt8) (er : Int) (n : Int) : List UInt8 := if er = 0 ∧ 0 ≤ n ∧ n ≤ (l.length : Int) then l.drop n.toNat else l
def offErr (l : List UInt8) (er : Int) (n : Int) : Int := if er = 0 then (if n < 0 then 2 else if (l.length : Int) < n then 7 else 0) else er
def offGot (l : List UInt8) (er : Int) (n : Int) : List UInt8 := if er = 0 ∧ 0 ≤ n ∧ n ≤ (l.length : Int) then l.take n.toNat else []

def Numbered (g b : Nat) (l : List UInt8) (er : Int) (k : Nat) (w : World) (e : Ending) (w' : World) : Prop :=
  e = .returned (.int .u64 (offNum l er k : Int)) ∧ Rdr w' g b (offRest l er k) (offErr l er k) ∧ Mod [g] w w'

theorem number_c (g b : Nat) (l : List UInt8) (er : Int) (k : Nat) (w : World) (h : Rdr w g b l er) (hk : k ≤ 8) :
    Calls Tryd.prog 88 #[.pointer (some ⟨g, 0, none⟩), .int .i64 (k : Int)] w (Numbered g b l er k w) := by
  obtain ⟨hg, hb, hne⟩ := h.lt
  have ho : offNum l er k = offNum l er k := rfl
  by_cases he : er = 0
  · subst he
    by_cases hkl : k ≤ l.length
    · go_enter Tryd.func88, Tryd.ntmps88
      go_wp2_with fail
      have hw0 : Holds (w.alloc (.cells #[.int .u64 0] 114)) w.heap.size 114 [.int .u64 0] := Holds.made _ _ _
      have hr0 := h.keep (Mod.alloc [] w (.cells #[.int .u64 0] 114)) (by simp) (by simp)
      refine (off_ok g b l k 93 _ _ hr0 hkl (fun v v' => Holds v' w.heap.size 114 [.int .u64 (be (l.take k) : Int)] ∧ Mod [w.heap.size] v v') call44 ?_).mono ?_
      · intro v o c hr hR hm
        exact num1_c b o k c w.heap.size (l.take k) v (by simp; omega) (by simp; omega) hr (by omega) (hw0.keep hm (by simp; omega))
      · rintro e w2 ⟨rfl, v, hR, hm, hh, hm2⟩
        have hc := hh.cell 0
        simp at hc
        go_wp2
        go_ret
        refine ⟨?_, ?_, ?_⟩
        · simp [offNum, hkl]
        · have : offRest l 0 (k : Int) = l.drop k := by unfold offRest; rw [if_pos ⟨rfl, by omega, by omega⟩]; simp
          rw [this, show offErr l 0 (k : Int) = 0 from by unfold offErr; rw [if_pos rfl, if_neg (by omega), if_neg (by omega)]]
          exact hR.keep hm2 (by simp; omega) (by simp; omega)
        · exact (Mod.pre (Mod.alloc [] w _) hm).trans hm2 (by simp; omega)
    · have hlt : (l.length : Int) < k := by omega
      go_enter Tryd.func88, Tryd.ntmps88
      go_wp2_with fail
      have hw0 : Holds (w.alloc (.cells #[.int .u64 0] 114)) w.heap.size 114 [.int .u64 0] := Holds.made _ _ _
      have hr0 := h.keep (Mod.alloc [] w (.cells #[.int .u64 0] 114)) (by simp) (by simp)
      refine (off_long g b l k _ _ hr0 hlt).mono ?_
      rintro e w2 ⟨rfl, hR, hm⟩
      have hc := (hw0.keep hm (by simp; omega)).cell 0
      simp at hc
      go_wp2
      go_ret
      refine ⟨by simp [offNum, hkl], ?_, Mod.pre (Mod.alloc [] w _) hm⟩
      rw [show offRest l 0 (k : Int) = l from by unfold offRest; rw [if_neg (by omega)], show offErr l 0 (k : Int) = 7 from by unfold offErr; rw [if_pos rfl, if_neg (by omega), if_pos hlt]]
      exact hR
  · go_enter Tryd.func88, Tryd.ntmps88
    go_wp2_with fail
    have hw0 : Holds (w.alloc (.cells #[.int .u64 0] 114)) w.heap.size 114 [.int .u64 0] := Holds.made _ _ _
    have hr0 := h.keep (Mod.alloc [] w (.cells #[.int .u64 0] 114)) (by simp) (by simp)
    refine (off_err g b l er k _ _ hr0 (by simpa using he)).mono ?_
    rintro e w2 ⟨rfl, rfl⟩
    have hc := hw0.cell 0
    simp at hc
    go_wp2
    go_ret
    refine ⟨by simp [offNum, he], ?_, Mod.alloc _ w _⟩
    rw [show offRest l er (k : Int) = l from by unfold offRest; rw [if_neg (by omega)], show offErr l er (k : Int) = er from by unfold offErr; rw [if_neg he]]
    exact hr0

theorem offNum_lt (l : List UInt8) (er : Int) (k : Nat) : offNum l er k < 256 ^ k := by
  have hp : 0 < 256 ^ k := Nat.pow_pos (by omega)
  unfold offNum
  split
  · split
    · have := be_lt (l.take k)
      rwa [List.length_take, Nat.min_eq_left (by assumption)] at this
    · exact hp
  · exact hp

/-- A number of kind q was taken, of k bytes. -/
def Took_ (q : IntKind) (g b : Nat) (l : List UInt8) (er : Int) (k : Nat) (w : World) (e : Ending) (w' : World) : Prop :=
  e = .returned (.int q (offNum l er k : Int)) ∧ Rdr w' g b (offRest l er k) (offErr l er k) ∧ Mod [g] w w'

theorem u32_c (g b : Nat) (l : List UInt8) (er : Int) (w : World) (h : Rdr w g b l er) : Calls Tryd.prog 78 #[.pointer (some ⟨g, 0, none⟩)] w (Took_ .u32 g b l er 4 w) := by
  have hb := offNum_lt l er 4
  generalize hn : offNum l er 4 = n at *
  have H := Lib.hid hn
  clear hn
  go_enter Tryd.func78, Tryd.ntmps78
  go_wp2_with (go_at_call 88; refine (number_c g b l er 4 _ h (by omega)).mono ?_; rintro e w1 ⟨rfl, h1, h2⟩; rw [H.out])
  go_ret
  refine ⟨?_, h1, h2⟩
  rw [H.out]
  rfl

/-- Bytes were taken: they lie in new memory. -/
def Rawed (g b : Nat) (l : List UInt8) (er n : Int) (w : World) (e : Ending) (w' : World) : Prop :=
  ∃ A c, e = .returned (.slice A (offGot l er n).length c) ∧ (offGot l er n).length ≤ c ∧ c ≤ 140737488355328 ∧ (∀ a, A = some a → w.heap.size ≤ a.block) ∧ Reads w' A (offGot l er n) ∧ Rdr w' g b (offRest l er n) (offErr l er n) ∧ Mod [g] w w'

theorem number_nil (k : Int) (w : World) : Calls Tryd.prog 88 #[.pointer none, .int .i64 k] w fun e w' => e = .returned (.int .u64 0) ∧ Mod [] w w' := by
  go_enter Tryd.func88, Tryd.ntmps88
  go_wp2_with (go_at_call 92; refine (off_nil _ _ _).mono ?_; rintro e w1 ⟨rfl, rfl⟩)
  go_ret
  exact ⟨rfl, Mod.alloc _ w _⟩
theorem u32_nil (w : World) : Calls Tryd.prog 78 #[.pointer none] w fun e w' => e = .returned (.int .u32 0) ∧ Mod [] w w' := by
  go_enter Tryd.func78, Tryd.ntmps78
  go_wp2_with (go_at_call 88; refine (number_nil _ _).mono ?_; rintro e w1 ⟨rfl, h1⟩)
  go_ret
  exact ⟨rfl, h1⟩
end
section
open Go.RowKit

/-- x in w bytes, the highest first. -/
def hi (x w : Nat) : List UInt8 := (List.range w).map fun k => UInt8.ofNat (x / 256 ^ (w - 1 - k))

theorem hi_length (x w : Nat) : (hi x w).length = w := by simp [hi]
theorem hi_at (x w j : Nat) (h : j < (hi x w).length) : (hi x w)[j] = UInt8.ofNat (x / 256 ^ (w - 1 - j)) := by simp [hi]
theorem hi_cell (x wd j W : Nat) (h : j < wd) (hx : x < 2 ^ W) : (Value.int .u8 ((x : Int) / 2 ^ min (8 * (wd - 1 - j)) W % 256)) = oct ((hi x wd)[j]'(by rw [hi_length]; exact h)) := by
  rw [hi_at]
  have h1 : (256 : Nat) ^ (wd - 1 - j) = 2 ^ (8 * (wd - 1 - j)) := by rw [Nat.pow_mul]
  have h2 : ((2 : Int) ^ min (8 * (wd - 1 - j)) W) = ((2 ^ min (8 * (wd - 1 - j)) W : Nat) : Int) := by simp
  have h3 : x / 2 ^ min (8 * (wd - 1 - j)) W = x / 2 ^ (8 * (wd - 1 - j)) := by
    rcases Nat.le_total (8 * (wd - 1 - j)) W with hle | hle
    · rw [Nat.min_eq_left hle]
    · rw [Nat.min_eq_right hle, Nat.div_eq_of_lt hx, Nat.div_eq_of_lt (Nat.lt_of_lt_of_le hx (Nat.pow_le_pow_right (by omega) hle))]
  have h4 : (UInt8.ofNat (x / 2 ^ (8 * (wd - 1 - j)))).toNat = x / 2 ^ (8 * (wd - 1 - j)) % 256 := UInt8.toNat_ofNat'
  rw [h1, h2]
  show Value.int .u8 _ = Value.int .u8 _
  rw [h4, ← h3]
  rfl
theorem hi_cell64 (x wd j : Nat) (h : j < wd) (hwd : wd ≤ 8) (hx : x < 2 ^ 64) : (Value.int .u8 ((x : Int) / 2 ^ (8 * (wd - 1 - j)) % 256)) = oct ((hi x wd)[j]'(by rw [hi_length]; exact h)) := by
  have := hi_cell x wd j 64 h hx
  rwa [Nat.min_eq_left (by omega)] at this
theorem set_at {α : Type} (X : List α) (n k : Nat) (z v : α) (hk : X.length = k) (hn : 0 < n) : (X ++ List.replicate n z).set k v = (X ++ [v]) ++ List.replicate (n - 1) z := by
  subst hk
  obtain ⟨m, rfl⟩ : ∃ m, n = m + 1 := ⟨n - 1, by omega⟩
  rw [List.set_append_right _ _ (Nat.le_refl _), Nat.sub_self, List.replicate_succ]
  simp
theorem hi_next (l : List UInt8) (x wd j : Nat) (h : j < wd) : (l ++ (hi x wd).take (j + 1)).map oct = (l ++ (hi x wd).take j).map oct ++ [oct ((hi x wd)[j]'(by rw [hi_length]; exact h))] := by
  rw [take_next _ _ (by rw [hi_length]; exact h)]
  simp only [List.map_append, List.append_assoc, List.map_cons, List.map_nil]

theorem put4_c (A : Option Addr) (l : List UInt8) (c : Nat) (x : Nat) (wd : Nat) (w : World) (hl : l.length ≤ 140737488355000) (h : Reads w A l) (hwd : wd ≤ 8) (hx : x < 4294967296) :
    Calls Tryd.prog 69 #[.slice A l.length c, .int .u32 (x : Int), .int .i64 (wd : Int)] w fun e w' => e = .returned (.slice (some ⟨w.heap.size, 0, none⟩) (l.length + wd) (l.length + wd)) ∧ Holds w' w.heap.size 5 ((l ++ hi x wd).map oct) ∧ Mod [] w w' := by
  obtain ⟨i0, hi0, hz0, hz1, hz2⟩ := info_parts u8_zero
  go_enter Tryd.func69, Tryd.ntmps69
  go_wp2_with (first
    | (at_make; refine wpList_makes _ rfl _ _ 64 rfl 5 i0 (.int .u8 0) Tryd.underlying64 hi0 hz0 hz1 1 hz2 rfl .i64 .i64 _ _ (l.length + wd) rfl rfl (by omega) (by omega) (by omega) (by unfold maxLen; omega) ?_; intro w1 hw1 hm1 hs1)
    | (with_reducible refine wpList_copies (o := ⟨some 16, _, _, _, _, _⟩) rfl (.tmp 14) (.tmp 15) 64 64 rfl 5 Tryd.underlying64 u8_one _ _ _ _ l _ _ rfl rfl rfl _ _ hw1 (h.keep hm1 (fun _ _ => by simp)) (by simp) (by omega) ?_; intro w2 hw2 hm2 hs2))
  go_loopw [18] (fun i wr => ∃ j : Nat, j ≤ wd ∧ i = .int .i64 j ∧ Holds wr w.heap.size 5 ((l ++ (hi x wd).take j).map oct ++ List.replicate (wd - j) (.int .u8 0)) ∧ Mod [] w wr) (fun i _ => wd - (intOf i).toNat)
  case atStart => exact ⟨0, by omega, rfl, by simpa using hw2, hm1.trans hm2 (by simp; omega)⟩
  case round =>
    obtain ⟨j, hj, rfl, hh, hm⟩ := hrel
    have hl' : ((l ++ (hi x wd).take j).map oct).length = l.length + j := by simp [hi_length]; omega
    by_cases hlt : j < wd
    · have hf := hh.free (l.length + j)
      have hc := hh.cell (l.length + j)
      rw [List.getElem?_append_right (by omega), hl', Nat.sub_self, List.getElem?_replicate, if_pos (by omega)] at hc
      have c1 : (0 : Int) ≤ 8 * ((wd : Int) - 1 - (j : Int)) := by omega
      have c2 : 8 * ((wd : Int) - 1 - (j : Int)) ≤ 56 := by omega
      have HE := Lib.hid (hi_cell x wd j 32 hlt hx)
      have hh' := hh.set (l.length + j) (oct ((hi x wd)[j]'(by rw [hi_length]; exact hlt)))
      rw [set_at _ _ _ _ _ hl' (by omega), ← hi_next l x wd j hlt] at hh'
      have hm' : Mod [] w (wr.setCell ⟨w.heap.size, l.length + j, none⟩ (oct ((hi x wd)[j]'(by rw [hi_length]; exact hlt)))) := hm.trans (Mod.setCell (ms := [w.heap.size]) wr (by simp) _) (by simp; omega)
      go_wp2
      rw [HE.out]
      exact ⟨⟨j + 1, by omega, by go_num, hh', hm'⟩, by simp [intOf]; omega⟩
    · obtain rfl : j = wd := by omega
      go_wp2
      go_ret
      rw [List.take_of_length_le (by rw [hi_length]; omega)] at hh
      exact ⟨rfl, by simpa using hh, hm⟩

theorem put8_c (A : Option Addr) (l : List UInt8) (c : Nat) (x : Nat) (wd : Nat) (w : World) (hl : l.length ≤ 140737488355000) (h : Reads w A l) (hwd : wd ≤ 8) (hx : x < 18446744073709551616) :
    Calls Tryd.prog 76 #[.slice A l.length c, .int .u64 (x : Int), .int .i64 (wd : Int)] w fun e w' => e = .returned (.slice (some ⟨w.heap.size, 0, none⟩) (l.length + wd) (l.length + wd)) ∧ Holds w' w.heap.size 5 ((l ++ hi x wd).map oct) ∧ Mod [] w w' := by
  obtain ⟨i0, hi0, hz0, hz1, hz2⟩ := info_parts u8_zero
  go_enter Tryd.func76, Tryd.ntmps76
  go_wp2_with (first
    | (at_make; refine wpList_makes _ rfl _ _ 64 rfl 5 i0 (.int .u8 0) Tryd.underlying64 hi0 hz0 hz1 1 hz2 rfl .i64 .i64 _ _ (l.length + wd) rfl rfl (by omega) (by omega) (by omega) (by unfold maxLen; omega) ?_; intro w1 hw1 hm1 hs1)
    | (with_reducible refine wpList_copies (o := ⟨some 16, _, _, _, _, _⟩) rfl (.tmp 14) (.tmp 15) 64 64 rfl 5 Tryd.underlying64 u8_one _ _ _ _ l _ _ rfl rfl rfl _ _ hw1 (h.keep hm1 (fun _ _ => by simp)) (by simp) (by omega) ?_; intro w2 hw2 hm2 hs2))
  go_loopw [18] (fun i wr => ∃ j : Nat, j ≤ wd ∧ i = .int .i64 j ∧ Holds wr w.heap.size 5 ((l ++ (hi x wd).take j).map oct ++ List.replicate (wd - j) (.int .u8 0)) ∧ Mod [] w wr) (fun i _ => wd - (intOf i).toNat)
  case atStart => exact ⟨0, by omega, rfl, by simpa using hw2, hm1.trans hm2 (by simp; omega)⟩
  case round =>
    obtain ⟨j, hj, rfl, hh, hm⟩ := hrel
    have hl' : ((l ++ (hi x wd).take j).map oct).length = l.length + j := by simp [hi_length]; omega
    by_cases hlt : j < wd
    · have hf := hh.free (l.length + j)
      have hc := hh.cell (l.length + j)
      rw [List.getElem?_append_right (by omega), hl', Nat.sub_self, List.getElem?_replicate, if_pos (by omega)] at hc
      have c1 : (0 : Int) ≤ 8 * ((wd : Int) - 1 - (j : Int)) := by omega
      have c2 : 8 * ((wd : Int) - 1 - (j : Int)) ≤ 56 := by omega
      have HE := Lib.hid (hi_cell64 x wd j hlt hwd hx)
      have hh' := hh.set (l.length + j) (oct ((hi x wd)[j]'(by rw [hi_length]; exact hlt)))
      rw [set_at _ _ _ _ _ hl' (by omega), ← hi_next l x wd j hlt] at hh'
      have hm' : Mod [] w (wr.setCell ⟨w.heap.size, l.length + j, none⟩ (oct ((hi x wd)[j]'(by rw [hi_length]; exact hlt)))) := hm.trans (Mod.setCell (ms := [w.heap.size]) wr (by simp) _) (by simp; omega)
      go_wp2
      rw [HE.out]
      exact ⟨⟨j + 1, by omega, by go_num, hh', hm'⟩, by simp [intOf]; omega⟩
    · obtain rfl : j = wd := by omega
      go_wp2
      go_ret
      rw [List.take_of_length_le (by rw [hi_length]; omega)] at hh
      exact ⟨rfl, by simpa using hh, hm⟩

theorem put32_c (A : Option Addr) (l : List UInt8) (c : Nat) (x : Nat) (w : World) (hl : l.length ≤ 140737488355000) (h : Reads w A l) (hx : x < 4294967296) :
    Calls Tryd.prog 58 #[.slice A l.length c, .int .u32 (x : Int)] w fun e w' => e = .returned (.slice (some ⟨w.heap.size, 0, none⟩) (l.length + 4) (l.length + 4)) ∧ Holds w' w.heap.size 5 ((l ++ hi x 4).map oct) ∧ Mod [] w w' := by
  go_enter Tryd.func58, Tryd.ntmps58
  go_wp2_with (go_at_call 69; refine (put4_c A l c x 4 _ hl h (by omega) hx).mono ?_; rintro e w1 ⟨rfl, h1, h2⟩)
  go_ret
  exact ⟨rfl, h1, h2⟩

theorem put64_c (A : Option Addr) (l : List UInt8) (c : Nat) (x : Nat) (w : World) (hl : l.length ≤ 140737488355000) (h : Reads w A l) (hx : x < 18446744073709551616) :
    Calls Tryd.prog 68 #[.slice A l.length c, .int .u64 (x : Int)] w fun e w' => e = .returned (.slice (some ⟨w.heap.size, 0, none⟩) (l.length + 8) (l.length + 8)) ∧ Holds w' w.heap.size 5 ((l ++ hi x 8).map oct) ∧ Mod [] w w' := by
  go_enter Tryd.func68, Tryd.ntmps68
  go_wp2_with (go_at_call 76; refine (put8_c A l c x 8 _ hl h (by omega) hx).mono ?_; rintro e w1 ⟨rfl, h1, h2⟩)
  go_ret
  exact ⟨rfl, h1, h2⟩
end
section
open Go.RowKit

theorem addr_add (g o i : Nat) : (Addr.add ⟨g, o, none⟩ i) = ⟨g, o + i, none⟩ := by
  unfold Addr.add
  split
  · rename_i h; subst h; rfl
  · rfl

/-- string(b): the bytes as a text. -/
theorem conv_reads {P : Program} (w : World) (src dst e : TypeId) (A : Option Addr) (c : Nat) (l : List UInt8) (hs : P.underlying src = some (.slice e)) (he : P.underlying e = some (.int .u8)) (hd : P.underlying dst = some .string)
    (h : Reads w A l) : (convert src dst (.slice A l.length c)).run P w = .ok (.string ⟨l.toArray⟩) w := by
  rcases A with _ | ⟨g, o, s⟩
  · have : l = [] := by
      rcases l with _ | ⟨x, l⟩
      · rfl
      · obtain ⟨g, o, hh, _⟩ := h 0 (by simp); cases hh
    subst this
    rw [run_convert_bytes_string w src dst e _ _ c hs he hd]
    simp [Conv.bytesToString, Sem.run_pure]
    rfl
  · refine run_convert_bytes_back w src dst e _ c l hs he hd (fun j hj => ?_)
    obtain ⟨g', o', hh, hc⟩ := h j hj
    injection hh with hh
    rw [hh, addr_add, hc]

theorem read_n (A : Option Addr) (l : List UInt8) (n c : Nat) (w : World) (hn : n = l.length) (hl : l.length ≤ 140737488355328) (h : Reads w A l) :
    Calls Tryd.prog 77 #[.slice A n c] w fun e w' => ∃ g b, e = .returned (.pointer (some ⟨g, 0, none⟩)) ∧ w.heap.size ≤ g ∧ w.heap.size ≤ b ∧ Rdr w' g b l 0 ∧ Mod [] w w' := by
  subst hn
  exact read_c A l c w hl h

/-- No byte but 0. -/
def allNought (l : List UInt8) : Bool := l.all (fun x => x.toNat == 0)
theorem noughts_next (l : List UInt8) (j : Nat) (h : j < l.length) : allNought (l.take (j + 1)) = (allNought (l.take j) && (l[j].toNat == 0)) := by
  unfold allNought; rw [take_next l j h, List.all_append]; simp only [List.all_cons, List.all_nil, Bool.and_true]
theorem noughts_no (l : List UInt8) (j : Nat) (h : j < l.length) (hx : l[j].toNat ≠ 0) : allNought l = false := by
  rw [allNought, List.all_eq_false]
  exact ⟨l[j], List.getElem_mem h, by simpa using hx⟩

/-- A new slice of bytes that are written out. -/
theorem Reads.lit {w : World} {g : Nat} {t : TypeId} (l : List UInt8) (cs : List Value) (h : Holds w g t cs) (e : cs = l.map oct) : Reads w (some ⟨g, 0, none⟩) l := Reads.of_holds (e ▸ h)
end
section
open Go.RowKit
/-- The t-th word of these bytes. -/
def wordAt (b : List UInt8) (t : Nat) : UInt32 := UInt32.ofNat (be ((b.drop (4 * t)).take 4))
def first16 (b : List UInt8) : List UInt32 := (List.range 16).map (wordAt b)
theorem first16_length (b : List UInt8) : (first16 b).length = 16 := by simp [first16]
theorem size76 : (Tryd.prog.info? 112).map (·.size) = some 64 := by kernel_rfl
theorem size82 : (Tryd.prog.info? 120).map (·.size) = some 16 := by kernel_rfl
theorem size80 : (Tryd.prog.info? 118).map (·.size) = some 8 := by kernel_rfl
theorem size68 : (Tryd.prog.info? 98).map (·.size) = some 8 := by kernel_rfl
theorem zero82 : ∀ w, (zeroValue 120).run Tryd.prog w = .ok (.agg ((List.replicate 16 (0 : UInt32)).map wd).toArray) w := (zero_of_info (n := 16) (by kernel_rfl)).1
theorem zero80 : ∀ w, (zeroValue 118).run Tryd.prog w = .ok (.agg ((List.replicate 8 (0 : UInt32)).map wd).toArray) w := (zero_of_info (n := 8) (by kernel_rfl)).1
theorem zero68 : ∀ w, (zeroValue 98).run Tryd.prog w = .ok (.agg ((List.replicate 8 (0 : UInt32)).map wd).toArray) w := (zero_of_info (n := 8) (by kernel_rfl)).1
theorem size58_of (L : List UInt32) (h : L.length = 16) : (Tryd.prog.info? 120).map (·.size) = some (L.map wd).length := by rw [List.length_map, h]; exact size82
theorem size26_of (L : List UInt32) (h : L.length = 8) : (Tryd.prog.info? 98).map (·.size) = some (L.map wd).length := by rw [List.length_map, h]; exact size68
theorem size56_of (L : List UInt32) (h : L.length = 8) : (Tryd.prog.info? 118).map (·.size) = some (L.map wd).length := by rw [List.length_map, h]; exact size80
theorem wordAt_val (b : List UInt8) (t : Nat) : (wordAt b t).toNat = be ((b.drop (4 * t)).take 4) := by
  unfold wordAt
  rw [UInt32.toNat_ofNat', Nat.mod_eq_of_lt]
  have h1 := be_lt ((b.drop (4 * t)).take 4)
  have h2 : 256 ^ ((b.drop (4 * t)).take 4).length ≤ 256 ^ 4 := Nat.pow_le_pow_right (by omega) (by simp; omega)
  omega
theorem tookw (b : List UInt8) (t : Nat) (hb : b.length = 64) (ht : t < 16) : offNum (b.drop (4 * t)) 0 4 = (wordAt b t).toNat := by
  rw [wordAt_val]
  unfold offNum
  rw [if_pos rfl, if_pos (by simp; omega)]
theorem tookr (b : List UInt8) (t : Nat) (hb : b.length = 64) (ht : t < 16) : offRest (b.drop (4 * t)) 0 ((4 : Nat) : Int) = b.drop (4 * (t + 1)) := by
  unfold offRest
  rw [if_pos ⟨rfl, by omega, by simp; omega⟩, List.drop_drop]
  congr 1
theorem tooke (b : List UInt8) (t : Nat) (hb : b.length = 64) (ht : t < 16) : offErr (b.drop (4 * t)) 0 ((4 : Nat) : Int) = 0 := by
  unfold offErr
  rw [if_pos rfl, if_neg (by omega), if_neg (by simp; omega)]
def upto (b : List UInt8) (t : Nat) : List UInt32 := (List.range t).map (wordAt b) ++ List.replicate (16 - t) 0
theorem upto_length (b : List UInt8) (t : Nat) (ht : t ≤ 16) : (upto b t).length = 16 := by simp [upto]; omega
theorem upto_next (b : List UInt8) (t : Nat) (ht : t < 16) : (upto b t).set t (wordAt b t) = upto b (t + 1) := by
  unfold upto
  rw [set_at _ _ _ _ _ (by simp) (by omega), List.range_succ, List.map_append]
  rfl
set_option maxRecDepth 1000000 in
set_option maxHeartbeats 4000000 in
theorem first_c (b : List UInt8) (hb : b.length = 64) (w : World) :
    Calls Tryd.prog 73 #[.agg (b.map oct).toArray] w fun e w' => e = .returned (.agg ((first16 b).map wd).toArray) ∧ Mod [] w w' := by
  have HB := Lib.hid hb
  clear hb
  go_enter Tryd.func73, Tryd.ntmps73
  go_wp2_with (first
    | (with_reducible refine wpList_boxes (o := ⟨some 1, .box 112 (.tmp 0), _, _, _, _⟩) rfl 112 (.tmp 0) rfl _ rfl (b.map oct) rfl ?_; intro w1 hb1 m1 z1; replace z1 := Lib.hid z1)
    | (with_reducible refine wpList_allocs (o := ⟨some 2, .alloc 120, _, _, _, _⟩) rfl 120 rfl _ zero82 ?_; intro w2 hb2 m2 z2; replace z2 := Lib.hid z2)
    | (with_reducible refine wpList_allocs (o := ⟨some 3, .alloc 120, _, _, _, _⟩) rfl 120 rfl _ zero82 ?_; intro w3 hb3 m3 z3; replace z3 := Lib.hid z3))
  refine (read_n _ b _ _ _ HB.out.symm (by rw [HB.out]; omega) (Reads.of_holds ((hb1.keep m2 (by simp)).keep m3 (by simp)))).mono ?_
  rintro e w4 ⟨gr, br, rfl, o1, o2, R4, m4⟩
  have h2 := (hb2.keep m3 (by simp)).keep m4 (by simp)
  have h3 := hb3.keep m4 (by simp)
  have mm : Mod [] w w4 := ((m1.then m2).then m3).then m4
  obtain ⟨b2, e2⟩ : ∃ b, b = w1.heap.size := ⟨_, rfl⟩
  obtain ⟨b3, e3⟩ : ∃ b, b = w2.heap.size := ⟨_, rfl⟩
  have q1 : w.heap.size < b2 := by have := z1.out; omega
  have q2 : b2 < b3 := by have := z2.out; omega
  have q3 : b3 < gr := by have := z3.out; omega
  have q4 : b3 < br := by have := z3.out; omega
  rw [← e2] at h2
  rw [← e3] at h3
  rw [← e2, ← e3]
  have h3' : Holds w4 b3 120 ((upto b 0).map wd) := h3
  clear e2 e3 hb1 hb2 hb3 m1 m2 m3 m4 z1 z2 z3 o1 o2 h3
  go_wp2_with fail
  go_loopw [8] (fun i wi => ∃ t : Nat, t ≤ 16 ∧ i = .int .i64 (t : Int) ∧ Rdr wi gr br (b.drop (4 * t)) 0 ∧ Holds wi b3 120 ((upto b t).map wd) ∧ Holds wi b2 120 ((List.replicate 16 (0 : UInt32)).map wd) ∧ Mod [] w wi) (fun i _ => 16 - (intOf i).toNat)
  case atStart => exact ⟨0, by omega, rfl, R4, h3', h2, mm⟩
  case round =>
    clear R4 h2 h3' mm
    obtain ⟨t, ht, rfl, Rt, h3, h2, mm⟩ := hrel
    by_cases hlt : t < 16
    · have X := u32_c gr br (b.drop (4 * t)) 0 _ Rt
      unfold Took_ at X
      rw [tookw b t HB.out hlt, tookr b t HB.out hlt, tooke b t HB.out hlt] at X
      have hz : (t : Int) < 16 := by omega
      go_wp2_with fail
      refine X.mono ?_
      clear X
      rintro e w5 ⟨rfl, R5, m5⟩
      have h35 := h3.keep m5 (by simp; omega)
      have h25 := h2.keep m5 (by simp; omega)
      have hcell := word_cell h35 (i := t) (by rw [upto_length b t ht]; exact hlt)
      have hfree := h35.free t
      have hset := word_set h35 t (wordAt b t)
      rw [upto_next b t hlt] at hset
      rw [Nat.zero_add] at hcell hset
      clear h3 h2 Rt
      have m6 : Mod [b3] w5 (w5.setCell ⟨b3, t, none⟩ (wd (wordAt b t))) := Mod.setCell w5 (by simp) _
      have m7 : Mod [] w (w5.setCell ⟨b3, t, none⟩ (wd (wordAt b t))) := ⟨m6.os.trans (m5.os.trans mm.os), m6.tape.trans (m5.tape.trans mm.tape), m6.output.trans (m5.output.trans mm.output), Nat.le_trans mm.size (Nat.le_trans m5.size m6.size), fun k hk _ => by
        rw [m6.block k (by have := mm.size; have := m5.size; omega) (by simp; omega), m5.block k (by have := mm.size; omega) (by simp; omega), mm.block k hk (by simp)]⟩
      have R7 := R5.keep m6 (by simp; omega) (by simp; omega)
      have h27 := h25.keep m6 (by simp; omega)
      clear m5 m6 mm R5 h25 h35
      go_wp2_with fail
      exact ⟨⟨t + 1, by omega, by go_num, R7, hset, h27, m7⟩, by simp [intOf]; omega⟩
    · obtain rfl : t = 16 := by omega
      have hu : upto b 16 = first16 b := by simp [upto, first16]
      rw [hu] at h3
      have hl := first16_length b
      have HL := Lib.hid hl
      clear hl hu Rt
      go_wp2_with (first
        | (with_reducible refine wpList_loads (o := ⟨some 16, .load 120 (.tmp 3), _, _, _, _⟩) rfl 120 (.tmp 3) rfl b3 0 _ rfl (Cells.of_holds h3) _ Tryd.underlying120 rfl (size58_of _ HL.out) (.agg ((first16 b).map wd).toArray) rfl ?_)
        | (with_reducible refine wpList_storesAll (o := ⟨none, .store 120 (.tmp 2) (.tmp 16), _, _, _, _⟩) rfl 120 (.tmp 2) (.tmp 16) rfl rfl b2 ((first16 b).map wd) rfl (.agg ((first16 b).map wd).toArray) rfl rfl 120 _ h2 (by rw [List.length_map, List.length_map, HL.out, List.length_replicate]) (words_one _) (size58_of _ HL.out) ?_; intro w7 hw7 m7 z7))
      refine bodyPost_ret (results_cell_row rfl _ _ b2 120 _ (0, 0) _ rfl hw7 Tryd.underlying120 rfl (by rw [List.size_toArray]; exact size58_of _ HL.out)) rfl ?_
      exact ⟨rfl, ⟨m7.os.trans mm.os, m7.tape.trans mm.tape, m7.output.trans mm.output, Nat.le_trans mm.size m7.size, fun k hk _ => by rw [m7.block k (by have := mm.size; omega) (by simp; omega), mm.block k hk (by simp)]⟩⟩
end
section
open Go.RowKit
theorem exec_stores {P : Program} {v : World} {o : Oper} {ρ : Operand → Value} {ty : TypeId} {x y : Operand} {g : Nat} {t : TypeId} {V : Value} {cs old : List Value} (ho : o.op = .store ty x y) (hx : ρ x = .pointer (some ⟨g, 0, none⟩)) (hy : ρ y = V) (hV : V = .agg cs.toArray) (hh : Holds v g t old) (hf : cs.length = old.length) (h1 : ∀ u ∈ cs, u.oneCell' = true) (hi : (P.info? ty).map (·.size) = some cs.length) :
    ∃ v', (execOp ρ o).run P v = .ok .skip v' ∧ Holds v' g t cs ∧ Mod [g] v v' ∧ v'.heap.size = v.heap.size := by
  subst hV
  obtain ⟨v', hrun, h2, h3, h4⟩ := run_stores (P := P) (ty := ty) (f := 0) hh (by omega) h1 hi
  refine ⟨v', ?_, by simpa [hf] using h2, h3, h4⟩
  unfold execOp
  simp only [ho, hx, hy, Instr.storeAt, Instr.sureAddr, Sem.run_bind, Sem.run_pure, Result.andThen_ok, hrun]
theorem wp_stored {P : Program} {v : World} {o : Oper} {ops : Array Oper} {T : Act} {Kq : Act → World → Prop} {Q : Exit → Act → World → Prop} {E : Prop} {ty : TypeId} {x y : Operand} {g : Nat} {t : TypeId} {V : Value} {cs old : List Value} (hg : o.guard = none) (ho : o.op = .store ty x y) (hx : T.eval x = .pointer (some ⟨g, 0, none⟩)) (hy : T.eval y = V) (hV : V = .agg cs.toArray) (hh : Holds v g t old) (hf : cs.length = old.length) (h1 : ∀ u ∈ cs, u.oneCell' = true) (hi : (P.info? ty).map (·.size) = some cs.length)
    (hK : ∀ v', Holds v' g t cs → Mod [g] v v' → Kq (T.put o.dst undef) v') : if Region.wanted o (yielded ops T.tmps) = true then o.wp P T v Kq Q else E := by
  obtain ⟨v', hr, q1, q2, _⟩ := exec_stores ho hx hy hV hh hf h1 hi
  exact wp_ran_skip hg hr (hK v' q1 q2)
/-- A variable is made, in a region that draws its order. -/
theorem wp_alloced {P : Program} {v : World} {o : Oper} {ops : Array Oper} {T : Act} {Kq : Act → World → Prop} {Q : Exit → Act → World → Prop} {E : Prop} {ty : TypeId} {cs : List Value} (hg : o.guard = none) (ho : o.op = .alloc ty) (hz : ∀ w, (zeroValue ty).run P w = .ok (.agg cs.toArray) w)
    (hK : ∀ v', Holds v' v.heap.size ty cs → Mod [] v v' → Kq (T.put o.dst (.pointer (some ⟨v.heap.size, 0, none⟩))) v') : if Region.wanted o (yielded ops T.tmps) = true then o.wp P T v Kq Q else E := by
  have hrun : (Instr.alloc ty true (.tuple #[])).run P v = .ok (.pointer (some ⟨v.heap.size, 0, none⟩)) (v.alloc (.cells cs.toArray ty)) := by
    simp [Instr.alloc, hz, newVar, newRow, Value.cells, go_sem]
  refine wp_ran (v' := v.alloc (.cells cs.toArray ty)) hg ?_ (hK _ (Holds.made v ty cs) (Mod.alloc [] v _))
  unfold execOp
  simp only [ho, Sem.run_bind, hrun, Result.andThen, Sem.run_pure]
theorem Cells.lt {w : World} {g o : Nat} {cs : List Value} (h : Cells w (some ⟨g, o, none⟩) cs) (hp : 0 < cs.length) : g < w.heap.size := by
  have h0 := h.at 0 hp
  rcases Nat.lt_or_ge g w.heap.size with hlt | hge
  · exact hlt
  · simp [World.cell?, Array.getElem?_eq_none hge] at h0
def BlkSt (h f : List UInt32) (z : Nat) (W : World) (x : Nat × Nat) (l3 l4 l5 l6 : Bool) (v : World) : Prop :=
  Mod [] W v ∧ (l3 = true → z ≤ x.1 ∧ Holds v x.1 118 ((if l5 = true then h else List.replicate 8 0).map wd)) ∧ (l4 = true → z ≤ x.2 ∧ Holds v x.2 120 ((if l6 = true then f else List.replicate 16 0).map wd))
section
variable {h f : List UInt32} {z : Nat} {W v v' : World} {x : Nat × Nat} {l3 l4 l5 l6 : Bool}
theorem BlkSt.start : BlkSt h f z W x false false false false W := ⟨Mod.refl _ _, (fun h => by cases h), (fun h => by cases h)⟩
theorem BlkSt.keep (s : BlkSt h f z W x l3 l4 l5 l6 v) (m : Mod [] v v') : BlkSt h f z W x l3 l4 l5 l6 v' :=
  ⟨s.1.then m, fun h => ⟨(s.2.1 h).1, (s.2.1 h).2.keep m (by simp)⟩, fun h => ⟨(s.2.2 h).1, (s.2.2 h).2.keep m (by simp)⟩⟩
theorem BlkSt.new1 (s : BlkSt h f z W x false l4 l5 l6 v) (h5 : l5 = false) (hz : z ≤ W.heap.size) (q : Holds v' v.heap.size 118 ((List.replicate 8 (0 : UInt32)).map wd)) (m : Mod [] v v') : BlkSt h f z W (v.heap.size, x.2) true l4 l5 l6 v' := by
  subst h5
  exact ⟨s.1.then m, fun _ => ⟨Nat.le_trans hz s.1.size, q⟩, fun h => ⟨(s.2.2 h).1, (s.2.2 h).2.keep m (by simp)⟩⟩
theorem BlkSt.new2 (s : BlkSt h f z W x l3 false l5 l6 v) (h6 : l6 = false) (hz : z ≤ W.heap.size) (q : Holds v' v.heap.size 120 ((List.replicate 16 (0 : UInt32)).map wd)) (m : Mod [] v v') : BlkSt h f z W (x.1, v.heap.size) l3 true l5 l6 v' := by
  subst h6
  exact ⟨s.1.then m, fun h => ⟨(s.2.1 h).1, (s.2.1 h).2.keep m (by simp)⟩, fun _ => ⟨Nat.le_trans hz s.1.size, q⟩⟩
theorem BlkSt.put1 (s : BlkSt h f z W x true l4 l5 l6 v) (hz : W.heap.size ≤ z) (q : Holds v' x.1 118 (h.map wd)) (m : Mod [x.1] v v') : BlkSt h f z W x true l4 true l6 v' := by
  have h1 := s.2.1 rfl
  refine ⟨s.1.trans m (by intro i hi hm; simp at hm; omega), fun _ => ⟨h1.1, q⟩, fun h => ⟨(s.2.2 h).1, (s.2.2 h).2.keep m ?_⟩⟩
  simpa using (h1.2.ne (s.2.2 h).2 (by decide)).symm
theorem BlkSt.put2 (s : BlkSt h f z W x l3 true l5 l6 v) (hz : W.heap.size ≤ z) (q : Holds v' x.2 120 (f.map wd)) (m : Mod [x.2] v v') : BlkSt h f z W x l3 true l5 true v' := by
  have h1 := s.2.2 rfl
  refine ⟨s.1.trans m (by intro i hi hm; simp at hm; omega), fun h => ⟨(s.2.1 h).1, (s.2.1 h).2.keep m ?_⟩, fun _ => ⟨h1.1, q⟩⟩
  simpa using (h1.2.ne (s.2.1 h).2 (by decide)).symm
end
def RndSt (g5 g6 : Nat) (R R' L L' : List UInt32) (W : World) (l5 l7 : Bool) (v : World) : Prop := Holds v g6 120 ((if l5 = true then R' else R).map wd) ∧ Holds v g5 118 ((if l7 = true then L' else L).map wd) ∧ Mod [g6, g5] W v
section
variable {g5 g6 : Nat} {R R' L L' : List UInt32} {W v v' : World} {l5 l7 : Bool}
theorem RndSt.put5 (s : RndSt g5 g6 R R' L L' W l5 l7 v) (q : Holds v' g6 120 (R'.map wd)) (m : Mod [g6] v v') : RndSt g5 g6 R R' L L' W true l7 v' :=
  ⟨q, s.2.1.keep m (by simpa using s.2.1.ne s.1 (by decide)), s.2.2.trans (m.wk (ns := [g6, g5]) (fun i _ h => by simp at h; simp [h])) (fun _ _ h => h)⟩
theorem RndSt.put7 (s : RndSt g5 g6 R R' L L' W l5 l7 v) (q : Holds v' g5 118 (L'.map wd)) (m : Mod [g5] v v') : RndSt g5 g6 R R' L L' W l5 true v' :=
  ⟨s.1.keep m (by simpa using (s.2.1.ne s.1 (by decide)).symm), q, s.2.2.trans (m.wk (ns := [g6, g5]) (fun i _ h => by simp at h; simp [h])) (fun _ _ h => h)⟩
end
end
end Go.Proofs.YtbacmeaeehhhfaaDoor
