/-
  My own texts OctA OctB OctC OctD, one behind the other.
-/
import Derived.Test.YtchanildogjhgaaDoorRows
import Derived.Test.YtchanildogjhgaaDoorA1
import Derived.Lib.Hide
import Derived.Laws.IdiomStrings
namespace Go.Proofs.YtchanildogjhgaaDoor
section
open Go.RowKit

theorem u8_zero : (Tryd.prog.info? 5).map (fun i => (i.zero, i.size, i.bytes)) = some (some (.int .u8 0), 1, 1) := by kernel_rfl
theorem u8_one : (Tryd.prog.info? 5).map (·.size) = some 1 := by kernel_rfl

theorem copied_c (A : Option Addr) (l : List UInt8) (c : Nat) (w : World) (hl : l.length ≤ 140737488355328) (h : Reads w A l) :
    Calls Tryd.prog 96 #[.slice A l.length c] w fun e w' => e = .returned (.slice (some ⟨w.heap.size, 0, none⟩) l.length l.length) ∧ Holds w' w.heap.size 5 (l.map oct) ∧ Mod [] w w' := by
  obtain ⟨i0, hi, hz0, hz1, hz2⟩ := info_parts u8_zero
  go_enter Tryd.func96, Tryd.ntmps96
  go_wp2_with (first
    | (at_make; go_loud (refine wpList_makes _ rfl _ _ 62 rfl 5 i0 (.int .u8 0) Tryd.underlying62 hi hz0 hz1 1 hz2 rfl .i64 .i64 _ _ l.length rfl rfl rfl rfl (by omega) (by unfold maxLen; omega) ?_); intro w1 hw1 hm1 hs1)
    | (with_reducible refine wpList_copies (o := ⟨some 9, _, _, _, _, _⟩) rfl (.tmp 7) (.tmp 8) 62 62 rfl 5 Tryd.underlying62 u8_one _ _ _ _ l _ _ rfl rfl rfl _ _ hw1 (h.keep hm1 (fun _ _ => by simp)) (by simp) (by omega) ?_; intro w2 hw2 hm2 hs2))
  go_ret
  exact ⟨rfl, by simpa using hw2, hm1.trans hm2 (by simp; omega)⟩

/-- A reader at block g, its bytes in block b. -/
def Rdr (w : World) (g b : Nat) (l : List UInt8) (e : Int) : Prop :=
  (b ≠ g ∧ b < w.heap.size) ∧ ∃ o c, l.length ≤ c ∧ c ≤ 140737488355328 ∧ Holds w g 131 [.slice (some ⟨b, o, none⟩) l.length c, .int .i64 e] ∧ Reads w (some ⟨b, o, none⟩) l

theorem Rdr.keep {w v : World} {g b : Nat} {l : List UInt8} {e : Int} {ms : List Nat} (h : Rdr w g b l e) (m : Mod ms w v) (hg : g ∉ ms) (hb : b ∉ ms) : Rdr v g b l e := by
  obtain ⟨hne, o, c, h1, h2, h3, h4⟩ := h
  exact ⟨⟨hne.1, Nat.lt_of_lt_of_le hne.2 m.size⟩, o, c, h1, h2, h3.keep m hg, h4.keep m (by rintro _ ⟨⟩; exact hb)⟩

theorem read_c (A : Option Addr) (l : List UInt8) (c : Nat) (w : World) (hl : l.length ≤ 140737488355328) (h : Reads w A l) :
    Calls Tryd.prog 76 #[.slice A l.length c] w fun e w' => ∃ g b, e = .returned (.pointer (some ⟨g, 0, none⟩)) ∧ w.heap.size ≤ g ∧ w.heap.size ≤ b ∧ Rdr w' g b l 0 ∧ Mod [] w w' := by
  go_enter Tryd.func76, Tryd.ntmps76
  go_wp2_with (go_at_call 96; refine (copied_c A l c _ hl h).mono ?_; rintro e w1 ⟨rfl, hw1, hm1⟩)
  go_ret
  refine ⟨w1.heap.size, w.heap.size, rfl, hm1.size, Nat.le_refl _, ?_, hm1.then (Mod.alloc _ _ _)⟩
  have hlt := hw1.lt
  refine ⟨⟨by omega, by simp; omega⟩, 0, l.length, Nat.le_refl _, hl, Holds.made _ _ _, ?_⟩
  exact Reads.of_holds (hw1.keep (Mod.alloc [] w1 _) (by simp))

theorem Rdr.lt {w : World} {g b : Nat} {l : List UInt8} {er : Int} (h : Rdr w g b l er) : g < w.heap.size ∧ b < w.heap.size ∧ b ≠ g := by
  obtain ⟨⟨h1, h2⟩, _, _, _, _, h3, _⟩ := h
  exact ⟨h3.lt, h2, h1⟩

theorem left_c (g b : Nat) (l : List UInt8) (er : Int) (w : World) (h : Rdr w g b l er) :
    Calls Tryd.prog 78 #[.pointer (some ⟨g, 0, none⟩)] w fun e w' => e = .returned (.int .i64 (l.length : Int)) ∧ w = w' := by
  obtain ⟨hne, o, c, h1, h2, h3, h4⟩ := h
  have hc := h3.cell 0
  simp at hc
  go_enter Tryd.func78, Tryd.ntmps78
  go_wp2
  go_ret
  exact ⟨rfl, rfl⟩

theorem err_c (g b : Nat) (l : List UInt8) (er : Int) (w : World) (h : Rdr w g b l er) :
    Calls Tryd.prog 122 #[.pointer (some ⟨g, 0, none⟩)] w fun e w' => e = .returned (.int .i64 er) ∧ w = w' := by
  obtain ⟨hne, o, c, h1, h2, h3, h4⟩ := h
  have hc := h3.cell 1
  simp at hc
  go_enter Tryd.func122, Tryd.ntmps122
  go_wp2
  go_ret
  exact ⟨rfl, rfl⟩

theorem take_neg (g b : Nat) (l : List UInt8) (er n : Int) (w : World) (h : Rdr w g b l er) (hn : n < 0) :
    Calls Tryd.prog 141 #[.pointer (some ⟨g, 0, none⟩), .int .i64 n] w fun e w' => e = .returned (.tuple #[.slice none 0 0, .int .i64 2]) ∧ w = w' := by
  obtain ⟨hne, o, c, h1, h2, h3, h4⟩ := h
  go_enter Tryd.func141, Tryd.ntmps141
  go_wp2
  go_ret2
  exact ⟨rfl, rfl⟩

theorem take_long (g b : Nat) (l : List UInt8) (er n : Int) (w : World) (h : Rdr w g b l er) (hn : (l.length : Int) < n) :
    Calls Tryd.prog 141 #[.pointer (some ⟨g, 0, none⟩), .int .i64 n] w fun e w' => e = .returned (.tuple #[.slice none 0 0, .int .i64 7]) ∧ w = w' := by
  obtain ⟨hne, o, c, h1, h2, h3, h4⟩ := h
  have hc := h3.cell 0
  simp at hc
  have h0 : ¬ n < 0 := by omega
  go_enter Tryd.func141, Tryd.ntmps141
  go_wp2
  go_ret2
  exact ⟨rfl, rfl⟩

/-- k bytes were taken off the reader at g. -/
def Took (g b : Nat) (l : List UInt8) (er : Int) (k : Nat) (w : World) (e : Ending) (w' : World) : Prop :=
  ∃ o c, e = .returned (.tuple #[.slice (some ⟨b, o, none⟩) k c, .int .i64 0]) ∧ Reads w' (some ⟨b, o, none⟩) (l.take k) ∧ Rdr w' g b (l.drop k) er ∧ Mod [g] w w'

theorem took_of {g b : Nat} {l : List UInt8} {er : Int} {k : Nat} {w : World} {o c o' c' : Nat} {e : Ending} (hne : b ≠ g ∧ b < w.heap.size) (hk : k ≤ l.length) (h2 : c ≤ 140737488355328)
    (h3 : Holds w g 131 [.slice (some ⟨b, o, none⟩) l.length c, .int .i64 er]) (h4 : Reads w (some ⟨b, o, none⟩) l) (hc : l.length - k ≤ c') (hc' : c' ≤ c) (ho : k < l.length → o' = o + k)
    (he : e = .returned (.tuple #[.slice (some ⟨b, o, none⟩) k c, .int .i64 0])) :
    Took g b l er k w e (w.setCell ⟨g, 0, none⟩ (.slice (some ⟨b, o', none⟩) (l.length - k) c')) := by
  have m : Mod [g] w (w.setCell ⟨g, 0, none⟩ (.slice (some ⟨b, o', none⟩) (l.length - k) c')) := Mod.setCell w (by simp) _
  have h4' := h4.keep m (by rintro _ ⟨⟩; simpa using hne.1)
  refine ⟨o, c, he, fun i hi => ⟨b, o, rfl, ?_⟩, ⟨⟨hne.1, by simpa [World.setCell] using hne.2⟩, o', c', by simpa using hc, by omega, by simpa using h3.set 0 _, fun i hi => ⟨b, o', rfl, ?_⟩⟩, m⟩
  · simp at hi
    have := h4'.at i (by omega)
    simpa using this
  · simp at hi
    have := h4'.at (k + i) (by omega)
    obtain rfl := ho (by omega)
    simpa [Nat.add_assoc] using this

theorem take_ok (g b : Nat) (l : List UInt8) (er : Int) (k : Nat) (w : World) (h : Rdr w g b l er) (hk : k ≤ l.length) :
    Calls Tryd.prog 141 #[.pointer (some ⟨g, 0, none⟩), .int .i64 (k : Int)] w (Took g b l er k w) := by
  obtain ⟨hne, o, c, h1, h2, h3, h4⟩ := h
  have hc := h3.cell 0
  simp at hc
  have hf := h3.free 0
  go_enter Tryd.func141, Tryd.ntmps141
  go_wp2
  · subst_vars
    go_ret2
    exact took_of hne hk h2 h3 h4 (by omega) (by omega) (by omega) rfl
  · go_ret2
    exact took_of hne hk h2 h3 h4 (by omega) (by omega) (by omega) rfl

theorem raw1_c (b o k c a : Nat) (l : List UInt8) (w : World) (hk : k = l.length) (hl : l.length ≤ 140737488355328) (hr : Reads w (some ⟨b, o, none⟩) l) (old : Value) (ha : Holds w a 62 [old]) :
    Calls Tryd.prog 134 #[.slice (some ⟨b, o, none⟩) k c, .pointer (some ⟨a, 0, none⟩)] w fun e w' => e = .returned (.tuple #[]) ∧ ∃ d, w.heap.size ≤ d ∧ Holds w' a 62 [.slice (some ⟨d, 0, none⟩) l.length l.length] ∧ Holds w' d 5 (l.map oct) ∧ Mod [a] w w' := by
  subst hk
  have hlt := ha.lt
  go_enter Tryd.func134, Tryd.ntmps134
  go_wp2_with fail
  refine (copied_c _ l c _ hl hr).mono ?_
  rintro e w1 ⟨rfl, hw1, hm1⟩
  have ha1 := ha.keep hm1 (by simp)
  have hc := ha1.cell 0
  simp at hc
  have hf := ha1.free 0
  go_wp2
  go_end0
  exact ⟨rfl, w.heap.size, Nat.le_refl _, by simpa using ha1.set 0 _, hw1.keep (ms := [a]) (Mod.setCell w1 (by simp) _) (by simp; omega), hm1.pre (Mod.setCell w1 (by simp) _)⟩

/-- Err is not OK: nothing is done. -/
theorem off_err (g b : Nat) (l : List UInt8) (er n : Int) (f : Value) (w : World) (h : Rdr w g b l er) (he : (er == 0) = false) :
    Calls Tryd.prog 133 #[.pointer (some ⟨g, 0, none⟩), .int .i64 n, f] w fun e w' => e = .returned (.tuple #[]) ∧ w = w' := by
  obtain ⟨hne, o, c, h1, h2, h3, h4⟩ := h
  have hc := h3.cell 1
  simp at hc
  have he' : (er != 0) = true := by simpa using he
  go_enter Tryd.func133, Tryd.ntmps133
  go_wp2
  refine bodyPost_ret (results_none rfl _ _ _) rfl ?_
  exact ⟨rfl, rfl⟩

theorem Rdr.fails {w : World} {g b : Nat} {l : List UInt8} {er : Int} (h : Rdr w g b l er) (e' : Int) : Rdr (w.setCell ⟨g, 1, none⟩ (.int .i64 e')) g b l e' := by
  obtain ⟨hne, o, c, h1, h2, h3, h4⟩ := h
  exact ⟨⟨hne.1, by simpa [World.setCell] using hne.2⟩, o, c, h1, h2, by simpa using h3.set 1 (.int .i64 e'), h4.keep (ms := [g]) (Mod.setCell w (by simp) _) (by rintro _ ⟨⟩; simpa using hne.1)⟩

theorem off_neg (g b : Nat) (l : List UInt8) (n : Int) (f : Value) (w : World) (h : Rdr w g b l 0) (hn : n < 0) :
    Calls Tryd.prog 133 #[.pointer (some ⟨g, 0, none⟩), .int .i64 n, f] w fun e w' => e = .returned (.tuple #[]) ∧ Rdr w' g b l 2 ∧ Mod [g] w w' := by
  have h' := h
  obtain ⟨hne, o, c, h1, h2, h3, h4⟩ := h'
  have hc := h3.cell 1
  simp at hc
  have hf := h3.free 1
  go_enter Tryd.func133, Tryd.ntmps133
  go_wp2_with (go_at_call 141; refine (take_neg g b l 0 n _ h hn).mono ?_; rintro e w1 ⟨rfl, rfl⟩)
  go_end0
  exact ⟨rfl, h.fails 2, Mod.setCell w (by simp) _⟩

theorem off_long (g b : Nat) (l : List UInt8) (n : Int) (f : Value) (w : World) (h : Rdr w g b l 0) (hn : (l.length : Int) < n) :
    Calls Tryd.prog 133 #[.pointer (some ⟨g, 0, none⟩), .int .i64 n, f] w fun e w' => e = .returned (.tuple #[]) ∧ Rdr w' g b l 7 ∧ Mod [g] w w' := by
  have h' := h
  obtain ⟨hne, o, c, h1, h2, h3, h4⟩ := h'
  have hc := h3.cell 1
  simp at hc
  have hf := h3.free 1
  go_enter Tryd.func133, Tryd.ntmps133
  go_wp2_with (go_at_call 141; refine (take_long g b l 0 n _ h hn).mono ?_; rintro e w1 ⟨rfl, rfl⟩)
  go_end0
  exact ⟨rfl, h.fails 7, Mod.setCell w (by simp) _⟩

theorem Rdr.still {w : World} {g b : Nat} {l : List UInt8} {er : Int} (h : Rdr w g b l er) : Rdr (w.setCell ⟨g, 1, none⟩ (.int .i64 er)) g b l er := h.fails er

/-- What is taken goes to the function that is handed in. -/
theorem off_ok (g b : Nat) (l : List UInt8) (k : Nat) (F : FuncId) (a : Addr) (w : World) (h : Rdr w g b l 0) (hk : k ≤ l.length) (R : World → World → Prop)
    (hcall : ∀ args v, (callFunc F args).run Tryd.prog v = .ok (.enter F args) v)
    (hF : ∀ v o c, Reads v (some ⟨b, o, none⟩) (l.take k) → Rdr v g b (l.drop k) 0 → Mod [g] w v → Calls Tryd.prog F #[.slice (some ⟨b, o, none⟩) k c, .pointer (some a)] v fun e v' => e = .returned (.tuple #[]) ∧ R v v') :
    Calls Tryd.prog 133 #[.pointer (some ⟨g, 0, none⟩), .int .i64 (k : Int), .func (.func F) #[] #[.pointer (some a)]] w fun e w' => e = .returned (.tuple #[]) ∧ ∃ v, Rdr v g b (l.drop k) 0 ∧ Mod [g] w v ∧ R v w' := by
  have h' := h
  obtain ⟨hne, o, c, h1, h2, h3, h4⟩ := h'
  have hc := h3.cell 1
  simp at hc
  go_enter Tryd.func133, Tryd.ntmps133
  go_wp2_with fail
  refine (take_ok g b l 0 k _ h hk).mono ?_
  rintro e w1 ⟨o1, c1, rfl, hr1, hR1, hm1⟩
  have hR1' := hR1
  obtain ⟨_, o2, c2, _, _, h13, _⟩ := hR1'
  have hc1 := h13.cell 1
  simp at hc1
  have hf1 := h13.free 1
  go_wp2_with fail
  refine (hF _ o1 c1 (hr1.keep (ms := [g]) (Mod.setCell w1 (by simp) _) (by rintro _ ⟨⟩; simpa using hne.1)) hR1.still (hm1.trans (Mod.setCell (ms := [g]) w1 (by simp) _) (by simp))).mono ?_
  rintro e w2 ⟨rfl, hR2⟩
  go_wp2
  go_end0
  exact ⟨rfl, _, hR1.still, hm1.trans (Mod.setCell (ms := [g]) w1 (by simp) _) (by simp), hR2⟩

theorem call40 (args : Array Value) (v : World) : (callFunc 134 args).run Tryd.prog v = .ok (.enter 134 args) v := by
  go_simp
theorem call44 (args : Array Value) (v : World) : (callFunc 135 args).run Tryd.prog v = .ok (.enter 135 args) v := by
  go_simp
end
section
open Go.RowKit

/-- The number whose bytes these are, the highest first. -/
def be (l : List UInt8) : Nat := l.foldl (fun n x => n * 256 + x.toNat) 0

theorem be_snoc (l : List UInt8) (x : UInt8) : be (l ++ [x]) = be l * 256 + x.toNat := by simp [be]
theorem be_lt (l : List UInt8) : be l < 256 ^ l.length := by
  have key : ∀ (l : List UInt8) (n : Nat), l.foldl (fun n x => n * 256 + x.toNat) n < (n + 1) * 256 ^ l.length := by
    intro l
    induction l with
    | nil => intro n; simp
    | cons x l ih =>
      intro n
      have h1 := ih (n * 256 + x.toNat)
      have h2 := x.toNat_lt
      have h3 : (n * 256 + x.toNat + 1) * 256 ^ l.length ≤ ((n + 1) * 256) * 256 ^ l.length := Nat.mul_le_mul_right _ (by omega)
      rw [List.foldl_cons, List.length_cons, Nat.pow_succ, Nat.mul_comm (256 ^ l.length), ← Nat.mul_assoc]
      omega
  simpa [be] using key l 0
theorem or_bytes (x b : Nat) (hx : x < 72057594037927936) (hb : b < 256) : bits .or .u64 (IntKind.u64.wrap ((x : Int) * 256)) (IntKind.u64.wrap (b : Int)) = ((x * 256 + b : Nat) : Int) := by
  rw [IntKind.wrap_u64, IntKind.wrap_u64, show ((x : Int) * 256) % 18446744073709551616 = ((256 * x : Nat) : Int) from by omega, show ((b : Int)) % 18446744073709551616 = ((b : Nat) : Int) from by omega, u64_or_nat _ _ (by omega) (by omega)]
  have := Nat.two_pow_add_eq_or_of_lt (i := 8) (b := b) (by omega) x
  rw [show 256 * x = 2 ^ 8 * x from rfl, ← this]
  omega
theorem take_next (l : List UInt8) (j : Nat) (h : j < l.length) : l.take (j + 1) = l.take j ++ [l[j]] := by
  rw [List.take_succ_eq_append_getElem h]
theorem be_next (l : List UInt8) (j : Nat) (h : j < l.length) (h8 : l.length ≤ 8) :
    bits .or .u64 (IntKind.u64.wrap ((be (l.take j) : Int) * 256)) (IntKind.u64.wrap (l[j].toNat : Int)) = (be (l.take (j + 1)) : Int) := by
  have h1 := be_lt (l.take j)
  have h2 : 256 ^ (l.take j).length ≤ 256 ^ 7 := Nat.pow_le_pow_right (by omega) (by simp; omega)
  rw [or_bytes _ _ (by omega) (l[j].toNat_lt), take_next l j h, be_snoc]

theorem num1_c (b o k c a : Nat) (l : List UInt8) (w : World) (hk : k = l.length) (hl : l.length ≤ 8) (hr : Reads w (some ⟨b, o, none⟩) l) (hba : b ≠ a) (ha : Holds w a 153 [.int .u64 0]) :
    Calls Tryd.prog 135 #[.slice (some ⟨b, o, none⟩) k c, .pointer (some ⟨a, 0, none⟩)] w fun e w' => e = .returned (.tuple #[]) ∧ Holds w' a 153 [.int .u64 (be l : Int)] ∧ Mod [a] w w' := by
  subst hk
  go_enter Tryd.func135, Tryd.ntmps135
  go_wp2
  go_loopw [7] (fun i wr => ∃ j : Nat, j ≤ l.length ∧ i = .int .i64 j ∧ Holds wr a 153 [.int .u64 (be (l.take j) : Int)] ∧ Mod [a] w wr) (fun i _ => l.length - (intOf i).toNat)
  case atStart => exact ⟨0, by omega, rfl, by simpa [be] using ha, Mod.refl _ _⟩
  case round =>
    obtain ⟨j, hj, rfl, hh, hm⟩ := hrel
    have hc := hh.cell 0
    simp at hc
    have hf := hh.free 0
    by_cases hlt : j < l.length
    · have hcb := (hr.keep hm (by rintro _ ⟨⟩; simpa using hba)).at j hlt
      have hm' := hm.trans (Mod.setCell (ms := [a]) wr (p := ⟨a, 0, none⟩) (by simp) (.int .u64 (be (l.take (j + 1)) : Int))) (by simp)
      have hh' := hh.set 0 (.int .u64 (be (l.take (j + 1)) : Int))
      have HE := Lib.hid (be_next l j hlt hl)
      go_wp2
      rw [HE.out]
      exact ⟨⟨j + 1, by omega, by go_num, by simpa using hh', hm'⟩, by simp [intOf]; omega⟩
    · go_wp2
      obtain rfl : j = l.length := by omega
      go_end0
      exact ⟨rfl, by simpa using hh, hm⟩

/-- What a reader tells that takes k bytes off: how many of them it has, what is left, and its error behind that. -/
def offNum (l : List UInt8) (er : Int) (k : Nat) : Nat := if er = 0 then (if k ≤ l.length then be (l.take k) else 0) else 0
def offRest (l : List UInt8) (er : Int) (n : Int) : List UInt8 := if er = 0 ∧ 0 ≤ n ∧ n ≤ (l.length : Int) then l.drop n.toNat else l
def offErr (l : List UInt8) (er : Int) (n : Int) : Int := if er = 0 then (if n < 0 then 2 else if (l.length : Int) < n then 7 else 0) else er
def offGot (l : List UInt8) (er : Int) (n : Int) : List UInt8 := if er = 0 ∧ 0 ≤ n ∧ n ≤ (l.length : Int) then l.take n.toNat else []

def Numbered (g b : Nat) (l : List UInt8) (er : Int) (k : Nat) (w : World) (e : Ending) (w' : World) : Prop :=
  e = .returned (.int .u64 (offNum l er k : Int)) ∧ Rdr w' g b (offRest l er k) (offErr l er k) ∧ Mod [g] w w'

theorem number_c (g b : Nat) (l : List UInt8) (er : Int) (k : Nat) (w : World) (h : Rdr w g b l er) (hk : k ≤ 8) :
    Calls Tryd.prog 121 #[.pointer (some ⟨g, 0, none⟩), .int .i64 (k : Int)] w (Numbered g b l er k w) := by
  obtain ⟨hg, hb, hne⟩ := h.lt
  have ho : offNum l er k = offNum l er k := rfl
  by_cases he : er = 0
  · subst he
    by_cases hkl : k ≤ l.length
    · go_enter Tryd.func121, Tryd.ntmps121
      go_wp2_with fail
      have hw0 : Holds (w.alloc (.cells #[.int .u64 0] 153)) w.heap.size 153 [.int .u64 0] := Holds.made _ _ _
      have hr0 := h.keep (Mod.alloc [] w (.cells #[.int .u64 0] 153)) (by simp) (by simp)
      refine (off_ok g b l k 135 _ _ hr0 hkl (fun v v' => Holds v' w.heap.size 153 [.int .u64 (be (l.take k) : Int)] ∧ Mod [w.heap.size] v v') call44 ?_).mono ?_
      · intro v o c hr hR hm
        exact num1_c b o k c w.heap.size (l.take k) v (by simp; omega) (by simp; omega) hr (by omega) (hw0.keep hm (by simp; omega))
      · rintro e w2 ⟨rfl, v, hR, hm, hh, hm2⟩
        have hc := hh.cell 0
        simp at hc
        go_wp2
        go_ret
        refine ⟨?_, ?_, ?_⟩
        · simp [offNum, hkl]
        · have : offRest l 0 (k : Int) = l.drop k := by unfold offRest; rw [if_pos ⟨rfl, by omega, by omega⟩]; simp
          rw [this, show offErr l 0 (k : Int) = 0 from by unfold offErr; rw [if_pos rfl, if_neg (by omega), if_neg (by omega)]]
          exact hR.keep hm2 (by simp; omega) (by simp; omega)
        · exact (Mod.pre (Mod.alloc [] w _) hm).trans hm2 (by simp; omega)
    · have hlt : (l.length : Int) < k := by omega
      go_enter Tryd.func121, Tryd.ntmps121
      go_wp2_with fail
      have hw0 : Holds (w.alloc (.cells #[.int .u64 0] 153)) w.heap.size 153 [.int .u64 0] := Holds.made _ _ _
      have hr0 := h.keep (Mod.alloc [] w (.cells #[.int .u64 0] 153)) (by simp) (by simp)
      refine (off_long g b l k _ _ hr0 hlt).mono ?_
      rintro e w2 ⟨rfl, hR, hm⟩
      have hc := (hw0.keep hm (by simp; omega)).cell 0
      simp at hc
      go_wp2
      go_ret
      refine ⟨by simp [offNum, hkl], ?_, Mod.pre (Mod.alloc [] w _) hm⟩
      rw [show offRest l 0 (k : Int) = l from by unfold offRest; rw [if_neg (by omega)], show offErr l 0 (k : Int) = 7 from by unfold offErr; rw [if_pos rfl, if_neg (by omega), if_pos hlt]]
      exact hR
  · go_enter Tryd.func121, Tryd.ntmps121
    go_wp2_with fail
    have hw0 : Holds (w.alloc (.cells #[.int .u64 0] 153)) w.heap.size 153 [.int .u64 0] := Holds.made _ _ _
    have hr0 := h.keep (Mod.alloc [] w (.cells #[.int .u64 0] 153)) (by simp) (by simp)
    refine (off_err g b l er k _ _ hr0 (by simpa using he)).mono ?_
    rintro e w2 ⟨rfl, rfl⟩
    have hc := hw0.cell 0
    simp at hc
    go_wp2
    go_ret
    refine ⟨by simp [offNum, he], ?_, Mod.alloc _ w _⟩
    rw [show offRest l er (k : Int) = l from by unfold offRest; rw [if_neg (by omega)], show offErr l er (k : Int) = er from by unfold offErr; rw [if_neg he]]
    exact hr0

theorem offNum_lt (l : List UInt8) (er : Int) (k : Nat) : offNum l er k < 256 ^ k := by
  have hp : 0 < 256 ^ k := Nat.pow_pos (by omega)
  unfold offNum
  split
  · split
    · have := be_lt (l.take k)
      rwa [List.length_take, Nat.min_eq_left (by assumption)] at this
    · exact hp
  · exact hp

/-- A number of kind q was taken, of k bytes. -/
def Took_ (q : IntKind) (g b : Nat) (l : List UInt8) (er : Int) (k : Nat) (w : World) (e : Ending) (w' : World) : Prop :=
  e = .returned (.int q (offNum l er k : Int)) ∧ Rdr w' g b (offRest l er k) (offErr l er k) ∧ Mod [g] w w'

theorem u8_c (g b : Nat) (l : List UInt8) (er : Int) (w : World) (h : Rdr w g b l er) : Calls Tryd.prog 119 #[.pointer (some ⟨g, 0, none⟩)] w (Took_ .u8 g b l er 1 w) := by
  have hb := offNum_lt l er 1
  generalize hn : offNum l er 1 = n at *
  have H := Lib.hid hn
  clear hn
  go_enter Tryd.func119, Tryd.ntmps119
  go_wp2_with (go_at_call 121; refine (number_c g b l er 1 _ h (by omega)).mono ?_; rintro e w1 ⟨rfl, h1, h2⟩; rw [H.out])
  go_ret
  refine ⟨?_, h1, h2⟩
  rw [H.out]
  rfl

theorem u16_c (g b : Nat) (l : List UInt8) (er : Int) (w : World) (h : Rdr w g b l er) : Calls Tryd.prog 114 #[.pointer (some ⟨g, 0, none⟩)] w (Took_ .u16 g b l er 2 w) := by
  have hb := offNum_lt l er 2
  generalize hn : offNum l er 2 = n at *
  have H := Lib.hid hn
  clear hn
  go_enter Tryd.func114, Tryd.ntmps114
  go_wp2_with (go_at_call 121; refine (number_c g b l er 2 _ h (by omega)).mono ?_; rintro e w1 ⟨rfl, h1, h2⟩; rw [H.out])
  go_ret
  refine ⟨?_, h1, h2⟩
  rw [H.out]
  rfl

/-- Bytes were taken: they lie in new memory. -/
def Rawed (g b : Nat) (l : List UInt8) (er n : Int) (w : World) (e : Ending) (w' : World) : Prop :=
  ∃ A c, e = .returned (.slice A (offGot l er n).length c) ∧ (offGot l er n).length ≤ c ∧ c ≤ 140737488355328 ∧ (∀ a, A = some a → w.heap.size ≤ a.block) ∧ Reads w' A (offGot l er n) ∧ Rdr w' g b (offRest l er n) (offErr l er n) ∧ Mod [g] w w'

theorem raw_c (g b : Nat) (l : List UInt8) (er : Int) (n : Int) (w : World) (h : Rdr w g b l er) :
    Calls Tryd.prog 120 #[.pointer (some ⟨g, 0, none⟩), .int .i64 n] w (Rawed g b l er n w) := by
  obtain ⟨hg, hb, hne⟩ := h.lt
  have hlen : l.length ≤ 140737488355328 := by obtain ⟨_, o, c, h1, h2, _⟩ := h; omega
  have hw0 : Holds (w.alloc (.cells #[.slice none 0 0] 62)) w.heap.size 62 [.slice none 0 0] := Holds.made _ _ _
  have hr0 := h.keep (Mod.alloc [] w (.cells #[.slice none 0 0] 62)) (by simp) (by simp)
  by_cases he : er = 0
  · subst he
    by_cases hn0 : n < 0
    · go_enter Tryd.func120, Tryd.ntmps120
      go_wp2_with fail
      refine (off_neg g b l n _ _ hr0 hn0).mono ?_
      rintro e w2 ⟨rfl, hR, hm⟩
      have hc := (hw0.keep hm (by simp; omega)).cell 0
      simp at hc
      go_wp2
      go_ret
      have e1 : offGot l 0 n = [] := by unfold offGot; rw [if_neg (by omega)]
      refine ⟨none, 0, by rw [e1]; rfl, by rw [e1]; simp, by omega, by simp, by rw [e1]; exact Reads.nil _ _, ?_, Mod.pre (Mod.alloc [] w _) hm⟩
      rw [show offRest l 0 n = l from by unfold offRest; rw [if_neg (by omega)], show offErr l 0 n = 2 from by unfold offErr; rw [if_pos rfl, if_pos hn0]]
      exact hR
    · by_cases hlt : (l.length : Int) < n
      · go_enter Tryd.func120, Tryd.ntmps120
        go_wp2_with fail
        refine (off_long g b l n _ _ hr0 hlt).mono ?_
        rintro e w2 ⟨rfl, hR, hm⟩
        have hc := (hw0.keep hm (by simp; omega)).cell 0
        simp at hc
        go_wp2
        go_ret
        have e1 : offGot l 0 n = [] := by unfold offGot; rw [if_neg (by omega)]
        refine ⟨none, 0, by rw [e1]; rfl, by rw [e1]; simp, by omega, by simp, by rw [e1]; exact Reads.nil _ _, ?_, Mod.pre (Mod.alloc [] w _) hm⟩
        rw [show offRest l 0 n = l from by unfold offRest; rw [if_neg (by omega)], show offErr l 0 n = 7 from by unfold offErr; rw [if_pos rfl, if_neg (by omega), if_pos hlt]]
        exact hR
      · obtain ⟨k, rfl⟩ := Int.eq_ofNat_of_zero_le (by omega : 0 ≤ n)
        have hkl : k ≤ l.length := by omega
        have e1 : offGot l 0 (k : Int) = l.take k := by unfold offGot; rw [if_pos ⟨rfl, by omega, by omega⟩]; simp
        go_enter Tryd.func120, Tryd.ntmps120
        go_wp2_with fail
        refine (off_ok g b l k 134 _ _ hr0 hkl (fun v v' => ∃ d, v.heap.size ≤ d ∧ Holds v' w.heap.size 62 [.slice (some ⟨d, 0, none⟩) (l.take k).length (l.take k).length] ∧ Holds v' d 5 ((l.take k).map oct) ∧ Mod [w.heap.size] v v') call40 ?_).mono ?_
        · intro v o c hr hR hm
          exact raw1_c b o k c w.heap.size (l.take k) v (by simp; omega) (by simp; omega) hr _ (hw0.keep hm (by simp; omega))
        · rintro e w2 ⟨rfl, v, hR, hm, d, hd, hh, hhd, hm2⟩
          have hc := hh.cell 0
          simp at hc
          go_wp2
          go_ret
          have hs := hm.size
          simp at hs
          refine ⟨some ⟨d, 0, none⟩, (l.take k).length, by rw [e1]; simp; omega, by rw [e1]; omega, by simp; omega, by rintro _ ⟨⟩; simp; omega, by rw [e1]; exact Reads.of_holds hhd, ?_, (Mod.pre (Mod.alloc [] w _) hm).trans hm2 (by simp; omega)⟩
          rw [show offRest l 0 (k : Int) = l.drop k from by unfold offRest; rw [if_pos ⟨rfl, by omega, by omega⟩]; simp, show offErr l 0 (k : Int) = 0 from by unfold offErr; rw [if_pos rfl, if_neg (by omega), if_neg (by omega)]]
          exact hR.keep hm2 (by simp; omega) (by simp; omega)
  · go_enter Tryd.func120, Tryd.ntmps120
    go_wp2_with fail
    refine (off_err g b l er n _ _ hr0 (by simpa using he)).mono ?_
    rintro e w2 ⟨rfl, rfl⟩
    have hc := hw0.cell 0
    simp at hc
    go_wp2
    go_ret
    have e1 : offGot l er n = [] := by unfold offGot; rw [if_neg (by omega)]
    refine ⟨none, 0, by rw [e1]; rfl, by rw [e1]; simp, by omega, by simp, by rw [e1]; exact Reads.nil _ _, ?_, Mod.alloc _ w _⟩
    rw [show offRest l er n = l from by unfold offRest; rw [if_neg (by omega)], show offErr l er n = er from by unfold offErr; rw [if_neg he]]
    exact hr0

end
section
open Go.RowKit

/-- x in w bytes, the highest first. -/
def hi (x w : Nat) : List UInt8 := (List.range w).map fun k => UInt8.ofNat (x / 256 ^ (w - 1 - k))

theorem hi_length (x w : Nat) : (hi x w).length = w := by simp [hi]
theorem hi_at (x w j : Nat) (h : j < (hi x w).length) : (hi x w)[j] = UInt8.ofNat (x / 256 ^ (w - 1 - j)) := by simp [hi]
theorem hi_cell (x wd j W : Nat) (h : j < wd) (hx : x < 2 ^ W) : (Value.int .u8 ((x : Int) / 2 ^ min (8 * (wd - 1 - j)) W % 256)) = oct ((hi x wd)[j]'(by rw [hi_length]; exact h)) := by
  rw [hi_at]
  have h1 : (256 : Nat) ^ (wd - 1 - j) = 2 ^ (8 * (wd - 1 - j)) := by rw [Nat.pow_mul]
  have h2 : ((2 : Int) ^ min (8 * (wd - 1 - j)) W) = ((2 ^ min (8 * (wd - 1 - j)) W : Nat) : Int) := by simp
  have h3 : x / 2 ^ min (8 * (wd - 1 - j)) W = x / 2 ^ (8 * (wd - 1 - j)) := by
    rcases Nat.le_total (8 * (wd - 1 - j)) W with hle | hle
    · rw [Nat.min_eq_left hle]
    · rw [Nat.min_eq_right hle, Nat.div_eq_of_lt hx, Nat.div_eq_of_lt (Nat.lt_of_lt_of_le hx (Nat.pow_le_pow_right (by omega) hle))]
  have h4 : (UInt8.ofNat (x / 2 ^ (8 * (wd - 1 - j)))).toNat = x / 2 ^ (8 * (wd - 1 - j)) % 256 := UInt8.toNat_ofNat'
  rw [h1, h2]
  show Value.int .u8 _ = Value.int .u8 _
  rw [h4, ← h3]
  rfl
theorem set_at {α : Type} (X : List α) (n k : Nat) (z v : α) (hk : X.length = k) (hn : 0 < n) : (X ++ List.replicate n z).set k v = (X ++ [v]) ++ List.replicate (n - 1) z := by
  subst hk
  obtain ⟨m, rfl⟩ : ∃ m, n = m + 1 := ⟨n - 1, by omega⟩
  rw [List.set_append_right _ _ (Nat.le_refl _), Nat.sub_self, List.replicate_succ]
  simp
theorem hi_next (l : List UInt8) (x wd j : Nat) (h : j < wd) : (l ++ (hi x wd).take (j + 1)).map oct = (l ++ (hi x wd).take j).map oct ++ [oct ((hi x wd)[j]'(by rw [hi_length]; exact h))] := by
  rw [take_next _ _ (by rw [hi_length]; exact h)]
  simp only [List.map_append, List.append_assoc, List.map_cons, List.map_nil]

theorem put2_c (A : Option Addr) (l : List UInt8) (c : Nat) (x : Nat) (wd : Nat) (w : World) (hl : l.length ≤ 140737488355000) (h : Reads w A l) (hwd : wd ≤ 8) (hx : x < 65536) :
    Calls Tryd.prog 110 #[.slice A l.length c, .int .u16 (x : Int), .int .i64 (wd : Int)] w fun e w' => e = .returned (.slice (some ⟨w.heap.size, 0, none⟩) (l.length + wd) (l.length + wd)) ∧ Holds w' w.heap.size 5 ((l ++ hi x wd).map oct) ∧ Mod [] w w' := by
  obtain ⟨i0, hi0, hz0, hz1, hz2⟩ := info_parts u8_zero
  go_enter Tryd.func110, Tryd.ntmps110
  go_wp2_with (first
    | (at_make; refine wpList_makes _ rfl _ _ 62 rfl 5 i0 (.int .u8 0) Tryd.underlying62 hi0 hz0 hz1 1 hz2 rfl .i64 .i64 _ _ (l.length + wd) rfl rfl (by omega) (by omega) (by omega) (by unfold maxLen; omega) ?_; intro w1 hw1 hm1 hs1)
    | (with_reducible refine wpList_copies (o := ⟨some 16, _, _, _, _, _⟩) rfl (.tmp 14) (.tmp 15) 62 62 rfl 5 Tryd.underlying62 u8_one _ _ _ _ l _ _ rfl rfl rfl _ _ hw1 (h.keep hm1 (fun _ _ => by simp)) (by simp) (by omega) ?_; intro w2 hw2 hm2 hs2))
  go_loopw [18] (fun i wr => ∃ j : Nat, j ≤ wd ∧ i = .int .i64 j ∧ Holds wr w.heap.size 5 ((l ++ (hi x wd).take j).map oct ++ List.replicate (wd - j) (.int .u8 0)) ∧ Mod [] w wr) (fun i _ => wd - (intOf i).toNat)
  case atStart => exact ⟨0, by omega, rfl, by simpa using hw2, hm1.trans hm2 (by simp; omega)⟩
  case round =>
    obtain ⟨j, hj, rfl, hh, hm⟩ := hrel
    have hl' : ((l ++ (hi x wd).take j).map oct).length = l.length + j := by simp [hi_length]; omega
    by_cases hlt : j < wd
    · have hf := hh.free (l.length + j)
      have hc := hh.cell (l.length + j)
      rw [List.getElem?_append_right (by omega), hl', Nat.sub_self, List.getElem?_replicate, if_pos (by omega)] at hc
      have c1 : (0 : Int) ≤ 8 * ((wd : Int) - 1 - (j : Int)) := by omega
      have c2 : 8 * ((wd : Int) - 1 - (j : Int)) ≤ 56 := by omega
      have HE := Lib.hid (hi_cell x wd j 16 hlt hx)
      have hh' := hh.set (l.length + j) (oct ((hi x wd)[j]'(by rw [hi_length]; exact hlt)))
      rw [set_at _ _ _ _ _ hl' (by omega), ← hi_next l x wd j hlt] at hh'
      have hm' : Mod [] w (wr.setCell ⟨w.heap.size, l.length + j, none⟩ (oct ((hi x wd)[j]'(by rw [hi_length]; exact hlt)))) := hm.trans (Mod.setCell (ms := [w.heap.size]) wr (by simp) _) (by simp; omega)
      go_wp2
      rw [HE.out]
      exact ⟨⟨j + 1, by omega, by go_num, hh', hm'⟩, by simp [intOf]; omega⟩
    · obtain rfl : j = wd := by omega
      go_wp2
      go_ret
      rw [List.take_of_length_le (by rw [hi_length]; omega)] at hh
      exact ⟨rfl, by simpa using hh, hm⟩

theorem put16_c (A : Option Addr) (l : List UInt8) (c : Nat) (x : Nat) (w : World) (hl : l.length ≤ 140737488355000) (h : Reads w A l) (hx : x < 65536) :
    Calls Tryd.prog 95 #[.slice A l.length c, .int .u16 (x : Int)] w fun e w' => e = .returned (.slice (some ⟨w.heap.size, 0, none⟩) (l.length + 2) (l.length + 2)) ∧ Holds w' w.heap.size 5 ((l ++ hi x 2).map oct) ∧ Mod [] w w' := by
  go_enter Tryd.func95, Tryd.ntmps95
  go_wp2_with (go_at_call 110; refine (put2_c A l c x 2 _ hl h (by omega) hx).mono ?_; rintro e w1 ⟨rfl, h1, h2⟩)
  go_ret
  exact ⟨rfl, h1, h2⟩
end
section
open Go.RowKit

theorem addr_add (g o i : Nat) : (Addr.add ⟨g, o, none⟩ i) = ⟨g, o + i, none⟩ := by
  unfold Addr.add
  split
  · rename_i h; subst h; rfl
  · rfl

/-- string(b): the bytes as a text. -/
theorem conv_reads {P : Program} (w : World) (src dst e : TypeId) (A : Option Addr) (c : Nat) (l : List UInt8) (hs : P.underlying src = some (.slice e)) (he : P.underlying e = some (.int .u8)) (hd : P.underlying dst = some .string)
    (h : Reads w A l) : (convert src dst (.slice A l.length c)).run P w = .ok (.string ⟨l.toArray⟩) w := by
  rcases A with _ | ⟨g, o, s⟩
  · have : l = [] := by
      rcases l with _ | ⟨x, l⟩
      · rfl
      · obtain ⟨g, o, hh, _⟩ := h 0 (by simp); cases hh
    subst this
    rw [run_convert_bytes_string w src dst e _ _ c hs he hd]
    simp [Conv.bytesToString, Sem.run_pure]
    rfl
  · refine run_convert_bytes_back w src dst e _ c l hs he hd (fun j hj => ?_)
    obtain ⟨g', o', hh, hc⟩ := h j hj
    injection hh with hh
    rw [hh, addr_add, hc]

theorem read_n (A : Option Addr) (l : List UInt8) (n c : Nat) (w : World) (hn : n = l.length) (hl : l.length ≤ 140737488355328) (h : Reads w A l) :
    Calls Tryd.prog 76 #[.slice A n c] w fun e w' => ∃ g b, e = .returned (.pointer (some ⟨g, 0, none⟩)) ∧ w.heap.size ≤ g ∧ w.heap.size ≤ b ∧ Rdr w' g b l 0 ∧ Mod [] w w' := by
  subst hn
  exact read_c A l c w hl h

/-- A new slice of bytes that are written out. -/
theorem Reads.lit {w : World} {g : Nat} {t : TypeId} (l : List UInt8) (cs : List Value) (h : Holds w g t cs) (e : cs = l.map oct) : Reads w (some ⟨g, 0, none⟩) l := Reads.of_holds (e ▸ h)
end
end Go.Proofs.YtchanildogjhgaaDoor

