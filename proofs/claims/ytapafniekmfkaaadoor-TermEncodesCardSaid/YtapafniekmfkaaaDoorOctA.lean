/-
  Contracts of package octet's functions, first part: copied, Read, Left, Err, taking off. My own work.
-/
import Derived.Test.YtapafniekmfkaaaDoorRows
import Derived.Test.YtapafniekmfkaaaDoorMem
namespace Go.Proofs.YtapafniekmfkaaaDoor
open Go.RowKit

theorem u8_zero : (Tryd.prog.info? 5).map (fun i => (i.zero, i.size, i.bytes)) = some (some (.int .u8 0), 1, 1) := by kernel_rfl
theorem u8_one : (Tryd.prog.info? 5).map (·.size) = some 1 := by kernel_rfl

theorem copied_c (A : Option Addr) (l : List UInt8) (c : Nat) (w : World) (hl : l.length ≤ 140737488355328) (h : Reads w A l) :
    Calls Tryd.prog 88 #[.slice A l.length c] w fun e w' => e = .returned (.slice (some ⟨w.heap.size, 0, none⟩) l.length l.length) ∧ Holds w' w.heap.size 5 (l.map oct) ∧ Mod [] w w' := by
  obtain ⟨i0, hi, hz0, hz1, hz2⟩ := info_parts u8_zero
  go_enter Tryd.func88, Tryd.ntmps88
  go_wp2_with (first
    | (at_make; go_loud (refine wpList_makes _ rfl _ _ 27 rfl 5 i0 (.int .u8 0) Tryd.underlying27 hi hz0 hz1 1 hz2 rfl .i64 .i64 _ _ l.length rfl rfl rfl rfl (by omega) (by unfold maxLen; omega) ?_); intro w1 hw1 hm1 hs1)
    | (with_reducible refine wpList_copies (o := ⟨some 9, _, _, _, _, _⟩) rfl (.tmp 7) (.tmp 8) 27 27 rfl 5 Tryd.underlying27 u8_one _ _ _ _ l _ _ rfl rfl rfl _ _ hw1 (h.keep hm1 (fun _ _ => by simp)) (by simp) (by omega) ?_; intro w2 hw2 hm2 hs2))
  go_ret
  exact ⟨rfl, by simpa using hw2, hm1.trans hm2 (by simp; omega)⟩

/-- A reader at block g, its bytes in block b. -/
def Rdr (w : World) (g b : Nat) (l : List UInt8) (e : Int) : Prop :=
  (b ≠ g ∧ b < w.heap.size) ∧ ∃ o c, l.length ≤ c ∧ c ≤ 140737488355328 ∧ Holds w g 113 [.slice (some ⟨b, o, none⟩) l.length c, .int .i64 e] ∧ Reads w (some ⟨b, o, none⟩) l

theorem Rdr.keep {w v : World} {g b : Nat} {l : List UInt8} {e : Int} {ms : List Nat} (h : Rdr w g b l e) (m : Mod ms w v) (hg : g ∉ ms) (hb : b ∉ ms) : Rdr v g b l e := by
  obtain ⟨hne, o, c, h1, h2, h3, h4⟩ := h
  exact ⟨⟨hne.1, Nat.lt_of_lt_of_le hne.2 m.size⟩, o, c, h1, h2, h3.keep m hg, h4.keep m (by rintro _ ⟨⟩; exact hb)⟩

theorem read_c (A : Option Addr) (l : List UInt8) (c : Nat) (w : World) (hl : l.length ≤ 140737488355328) (h : Reads w A l) :
    Calls Tryd.prog 64 #[.slice A l.length c] w fun e w' => ∃ g b, e = .returned (.pointer (some ⟨g, 0, none⟩)) ∧ w.heap.size ≤ g ∧ w.heap.size ≤ b ∧ Rdr w' g b l 0 ∧ Mod [] w w' := by
  go_enter Tryd.func64, Tryd.ntmps64
  go_wp2_with (go_at_call 88; refine (copied_c A l c _ hl h).mono ?_; rintro e w1 ⟨rfl, hw1, hm1⟩)
  go_ret
  refine ⟨w1.heap.size, w.heap.size, rfl, hm1.size, Nat.le_refl _, ?_, hm1.then (Mod.alloc _ _ _)⟩
  have hlt := hw1.lt
  refine ⟨⟨by omega, by simp; omega⟩, 0, l.length, Nat.le_refl _, hl, Holds.made _ _ _, ?_⟩
  exact Reads.of_holds (hw1.keep (Mod.alloc [] w1 _) (by simp))

theorem Rdr.lt {w : World} {g b : Nat} {l : List UInt8} {er : Int} (h : Rdr w g b l er) : g < w.heap.size ∧ b < w.heap.size ∧ b ≠ g := by
  obtain ⟨⟨h1, h2⟩, _, _, _, _, h3, _⟩ := h
  exact ⟨h3.lt, h2, h1⟩

theorem left_c (g b : Nat) (l : List UInt8) (er : Int) (w : World) (h : Rdr w g b l er) :
    Calls Tryd.prog 66 #[.pointer (some ⟨g, 0, none⟩)] w fun e w' => e = .returned (.int .i64 (l.length : Int)) ∧ w = w' := by
  obtain ⟨hne, o, c, h1, h2, h3, h4⟩ := h
  have hc := h3.cell 0
  simp at hc
  go_enter Tryd.func66, Tryd.ntmps66
  go_wp2
  go_ret
  exact ⟨rfl, rfl⟩

theorem err_c (g b : Nat) (l : List UInt8) (er : Int) (w : World) (h : Rdr w g b l er) :
    Calls Tryd.prog 116 #[.pointer (some ⟨g, 0, none⟩)] w fun e w' => e = .returned (.int .i64 er) ∧ w = w' := by
  obtain ⟨hne, o, c, h1, h2, h3, h4⟩ := h
  have hc := h3.cell 1
  simp at hc
  go_enter Tryd.func116, Tryd.ntmps116
  go_wp2
  go_ret
  exact ⟨rfl, rfl⟩

theorem take_neg (g b : Nat) (l : List UInt8) (er n : Int) (w : World) (h : Rdr w g b l er) (hn : n < 0) :
    Calls Tryd.prog 132 #[.pointer (some ⟨g, 0, none⟩), .int .i64 n] w fun e w' => e = .returned (.tuple #[.slice none 0 0, .int .i64 2]) ∧ w = w' := by
  obtain ⟨hne, o, c, h1, h2, h3, h4⟩ := h
  go_enter Tryd.func132, Tryd.ntmps132
  go_wp2
  go_ret2
  exact ⟨rfl, rfl⟩

theorem take_long (g b : Nat) (l : List UInt8) (er n : Int) (w : World) (h : Rdr w g b l er) (hn : (l.length : Int) < n) :
    Calls Tryd.prog 132 #[.pointer (some ⟨g, 0, none⟩), .int .i64 n] w fun e w' => e = .returned (.tuple #[.slice none 0 0, .int .i64 7]) ∧ w = w' := by
  obtain ⟨hne, o, c, h1, h2, h3, h4⟩ := h
  have hc := h3.cell 0
  simp at hc
  have h0 : ¬ n < 0 := by omega
  go_enter Tryd.func132, Tryd.ntmps132
  go_wp2
  go_ret2
  exact ⟨rfl, rfl⟩

/-- k bytes were taken off the reader at g. -/
def Took (g b : Nat) (l : List UInt8) (er : Int) (k : Nat) (w : World) (e : Ending) (w' : World) : Prop :=
  ∃ o c, e = .returned (.tuple #[.slice (some ⟨b, o, none⟩) k c, .int .i64 0]) ∧ Reads w' (some ⟨b, o, none⟩) (l.take k) ∧ Rdr w' g b (l.drop k) er ∧ Mod [g] w w'

theorem took_of {g b : Nat} {l : List UInt8} {er : Int} {k : Nat} {w : World} {o c o' c' : Nat} {e : Ending} (hne : b ≠ g ∧ b < w.heap.size) (hk : k ≤ l.length) (h2 : c ≤ 140737488355328)
    (h3 : Holds w g 113 [.slice (some ⟨b, o, none⟩) l.length c, .int .i64 er]) (h4 : Reads w (some ⟨b, o, none⟩) l) (hc : l.length - k ≤ c') (hc' : c' ≤ c) (ho : k < l.length → o' = o + k)
    (he : e = .returned (.tuple #[.slice (some ⟨b, o, none⟩) k c, .int .i64 0])) :
    Took g b l er k w e (w.setCell ⟨g, 0, none⟩ (.slice (some ⟨b, o', none⟩) (l.length - k) c')) := by
  have m : Mod [g] w (w.setCell ⟨g, 0, none⟩ (.slice (some ⟨b, o', none⟩) (l.length - k) c')) := Mod.setCell w (by simp) _
  have h4' := h4.keep m (by rintro _ ⟨⟩; simpa using hne.1)
  refine ⟨o, c, he, fun i hi => ⟨b, o, rfl, ?_⟩, ⟨⟨hne.1, by simpa [World.setCell] using hne.2⟩, o', c', by simpa using hc, by omega, by simpa using h3.set 0 _, fun i hi => ⟨b, o', rfl, ?_⟩⟩, m⟩
  · simp at hi
    have := h4'.at i (by omega)
    simpa using this
  · simp at hi
    have := h4'.at (k + i) (by omega)
    obtain rfl := ho (by omega)
    simpa [Nat.add_assoc] using this

theorem take_ok (g b : Nat) (l : List UInt8) (er : Int) (k : Nat) (w : World) (h : Rdr w g b l er) (hk : k ≤ l.length) :
    Calls Tryd.prog 132 #[.pointer (some ⟨g, 0, none⟩), .int .i64 (k : Int)] w (Took g b l er k w) := by
  obtain ⟨hne, o, c, h1, h2, h3, h4⟩ := h
  have hc := h3.cell 0
  simp at hc
  have hf := h3.free 0
  go_enter Tryd.func132, Tryd.ntmps132
  go_wp2
  · subst_vars
    go_ret2
    exact took_of hne hk h2 h3 h4 (by omega) (by omega) (by omega) rfl
  · go_ret2
    exact took_of hne hk h2 h3 h4 (by omega) (by omega) (by omega) rfl

theorem raw1_c (b o k c a : Nat) (l : List UInt8) (w : World) (hk : k = l.length) (hl : l.length ≤ 140737488355328) (hr : Reads w (some ⟨b, o, none⟩) l) (old : Value) (ha : Holds w a 27 [old]) :
    Calls Tryd.prog 120 #[.slice (some ⟨b, o, none⟩) k c, .pointer (some ⟨a, 0, none⟩)] w fun e w' => e = .returned (.tuple #[]) ∧ ∃ d, w.heap.size ≤ d ∧ Holds w' a 27 [.slice (some ⟨d, 0, none⟩) l.length l.length] ∧ Holds w' d 5 (l.map oct) ∧ Mod [a] w w' := by
  subst hk
  have hlt := ha.lt
  go_enter Tryd.func120, Tryd.ntmps120
  go_wp2_with fail
  refine (copied_c _ l c _ hl hr).mono ?_
  rintro e w1 ⟨rfl, hw1, hm1⟩
  have ha1 := ha.keep hm1 (by simp)
  have hc := ha1.cell 0
  simp at hc
  have hf := ha1.free 0
  go_wp2
  go_end0
  exact ⟨rfl, w.heap.size, Nat.le_refl _, by simpa using ha1.set 0 _, hw1.keep (ms := [a]) (Mod.setCell w1 (by simp) _) (by simp; omega), hm1.pre (Mod.setCell w1 (by simp) _)⟩

/-- Err is not OK: nothing is done. -/
theorem off_err (g b : Nat) (l : List UInt8) (er n : Int) (f : Value) (w : World) (h : Rdr w g b l er) (he : (er == 0) = false) :
    Calls Tryd.prog 119 #[.pointer (some ⟨g, 0, none⟩), .int .i64 n, f] w fun e w' => e = .returned (.tuple #[]) ∧ w = w' := by
  obtain ⟨hne, o, c, h1, h2, h3, h4⟩ := h
  have hc := h3.cell 1
  simp at hc
  have he' : (er != 0) = true := by simpa using he
  go_enter Tryd.func119, Tryd.ntmps119
  go_wp2
  refine bodyPost_ret (results_none rfl _ _ _) rfl ?_
  exact ⟨rfl, rfl⟩

theorem off_nil (n : Int) (f : Value) (w : World) :
    Calls Tryd.prog 119 #[.pointer none, .int .i64 n, f] w fun e w' => e = .returned (.tuple #[]) ∧ w = w' := by
  go_enter Tryd.func119, Tryd.ntmps119
  go_wp2
  refine bodyPost_ret (results_none rfl _ _ _) rfl ?_
  exact ⟨rfl, rfl⟩

theorem Rdr.fails {w : World} {g b : Nat} {l : List UInt8} {er : Int} (h : Rdr w g b l er) (e' : Int) : Rdr (w.setCell ⟨g, 1, none⟩ (.int .i64 e')) g b l e' := by
  obtain ⟨hne, o, c, h1, h2, h3, h4⟩ := h
  exact ⟨⟨hne.1, by simpa [World.setCell] using hne.2⟩, o, c, h1, h2, by simpa using h3.set 1 (.int .i64 e'), h4.keep (ms := [g]) (Mod.setCell w (by simp) _) (by rintro _ ⟨⟩; simpa using hne.1)⟩

theorem off_neg (g b : Nat) (l : List UInt8) (n : Int) (f : Value) (w : World) (h : Rdr w g b l 0) (hn : n < 0) :
    Calls Tryd.prog 119 #[.pointer (some ⟨g, 0, none⟩), .int .i64 n, f] w fun e w' => e = .returned (.tuple #[]) ∧ Rdr w' g b l 2 ∧ Mod [g] w w' := by
  have h' := h
  obtain ⟨hne, o, c, h1, h2, h3, h4⟩ := h'
  have hc := h3.cell 1
  simp at hc
  have hf := h3.free 1
  go_enter Tryd.func119, Tryd.ntmps119
  go_wp2_with (go_at_call 132; refine (take_neg g b l 0 n _ h hn).mono ?_; rintro e w1 ⟨rfl, rfl⟩)
  go_end0
  exact ⟨rfl, h.fails 2, Mod.setCell w (by simp) _⟩

theorem off_long (g b : Nat) (l : List UInt8) (n : Int) (f : Value) (w : World) (h : Rdr w g b l 0) (hn : (l.length : Int) < n) :
    Calls Tryd.prog 119 #[.pointer (some ⟨g, 0, none⟩), .int .i64 n, f] w fun e w' => e = .returned (.tuple #[]) ∧ Rdr w' g b l 7 ∧ Mod [g] w w' := by
  have h' := h
  obtain ⟨hne, o, c, h1, h2, h3, h4⟩ := h'
  have hc := h3.cell 1
  simp at hc
  have hf := h3.free 1
  go_enter Tryd.func119, Tryd.ntmps119
  go_wp2_with (go_at_call 132; refine (take_long g b l 0 n _ h hn).mono ?_; rintro e w1 ⟨rfl, rfl⟩)
  go_end0
  exact ⟨rfl, h.fails 7, Mod.setCell w (by simp) _⟩

theorem Rdr.still {w : World} {g b : Nat} {l : List UInt8} {er : Int} (h : Rdr w g b l er) : Rdr (w.setCell ⟨g, 1, none⟩ (.int .i64 er)) g b l er := h.fails er

/-- What is taken goes to the function that is handed in. -/
theorem off_ok (g b : Nat) (l : List UInt8) (k : Nat) (F : FuncId) (a : Addr) (w : World) (h : Rdr w g b l 0) (hk : k ≤ l.length) (R : World → World → Prop)
    (hcall : ∀ args v, (callFunc F args).run Tryd.prog v = .ok (.enter F args) v)
    (hF : ∀ v o c, Reads v (some ⟨b, o, none⟩) (l.take k) → Rdr v g b (l.drop k) 0 → Mod [g] w v → Calls Tryd.prog F #[.slice (some ⟨b, o, none⟩) k c, .pointer (some a)] v fun e v' => e = .returned (.tuple #[]) ∧ R v v') :
    Calls Tryd.prog 119 #[.pointer (some ⟨g, 0, none⟩), .int .i64 (k : Int), .func (.func F) #[] #[.pointer (some a)]] w fun e w' => e = .returned (.tuple #[]) ∧ ∃ v, Rdr v g b (l.drop k) 0 ∧ Mod [g] w v ∧ R v w' := by
  have h' := h
  obtain ⟨hne, o, c, h1, h2, h3, h4⟩ := h'
  have hc := h3.cell 1
  simp at hc
  go_enter Tryd.func119, Tryd.ntmps119
  go_wp2_with fail
  refine (take_ok g b l 0 k _ h hk).mono ?_
  rintro e w1 ⟨o1, c1, rfl, hr1, hR1, hm1⟩
  have hR1' := hR1
  obtain ⟨_, o2, c2, _, _, h13, _⟩ := hR1'
  have hc1 := h13.cell 1
  simp at hc1
  have hf1 := h13.free 1
  go_wp2_with fail
  refine (hF _ o1 c1 (hr1.keep (ms := [g]) (Mod.setCell w1 (by simp) _) (by rintro _ ⟨⟩; simpa using hne.1)) hR1.still (hm1.trans (Mod.setCell (ms := [g]) w1 (by simp) _) (by simp))).mono ?_
  rintro e w2 ⟨rfl, hR2⟩
  go_wp2
  go_end0
  exact ⟨rfl, _, hR1.still, hm1.trans (Mod.setCell (ms := [g]) w1 (by simp) _) (by simp), hR2⟩

theorem call40 (args : Array Value) (v : World) : (callFunc 120 args).run Tryd.prog v = .ok (.enter 120 args) v := by
  go_simp
theorem call44 (args : Array Value) (v : World) : (callFunc 121 args).run Tryd.prog v = .ok (.enter 121 args) v := by
  go_simp

end Go.Proofs.YtapafniekmfkaaaDoor
