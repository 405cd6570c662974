/-
  Contracts of package octet's functions, fourth part: rows that are the same, noughts, and that the layer wakes. My own work.
-/
import Derived.Test.YtheebmehapemnaaOctC
import Derived.Laws.IdiomStrings
namespace Go.Proofs.Ytheebmehapemnaa
open Go.RowKit

theorem addr_add (g o i : Nat) : (Addr.add ⟨g, o, none⟩ i) = ⟨g, o + i, none⟩ := by
  unfold Addr.add
  split
  · rename_i h; subst h; rfl
  · rfl

/-- string(b): the bytes as a text. -/
theorem conv_reads {P : Program} (w : World) (src dst e : TypeId) (A : Option Addr) (c : Nat) (l : List UInt8) (hs : P.underlying src = some (.slice e)) (he : P.underlying e = some (.int .u8)) (hd : P.underlying dst = some .string)
    (h : Reads w A l) : (convert src dst (.slice A l.length c)).run P w = .ok (.string ⟨l.toArray⟩) w := by
  rcases A with _ | ⟨g, o, s⟩
  · have : l = [] := by
      rcases l with _ | ⟨x, l⟩
      · rfl
      · obtain ⟨g, o, hh, _⟩ := h 0 (by simp); cases hh
    subst this
    rw [run_convert_bytes_string w src dst e _ _ c hs he hd]
    simp [Conv.bytesToString, Sem.run_pure]
    rfl
  · refine run_convert_bytes_back w src dst e _ c l hs he hd (fun j hj => ?_)
    obtain ⟨g', o', hh, hc⟩ := h j hj
    injection hh with hh
    rw [hh, addr_add, hc]

theorem beq_c (A B : Option Addr) (l k : List UInt8) (c d : Nat) (w : World) (h : Reads w A l) (h' : Reads w B k) :
    Calls Try.prog 29 #[.slice A l.length c, .slice B k.length d] w fun e w' => e = .returned (.bool (decide (l = k))) ∧ w = w' := by
  have c1 := conv_reads (P := Try.prog) w 22 9 5 A c l Try.underlying22 Try.underlying5 Try.underlying9 h
  have c2 := conv_reads (P := Try.prog) w 22 9 5 B d k Try.underlying22 Try.underlying5 Try.underlying9 h'
  by_cases hlk : l = k
  · subst hlk
    go_enter Try.func29, Try.ntmps29
    go_wp2
    go_ret
    exact ⟨by simp, rfl⟩
  · have hd : decide (l = k) = false := by simpa using hlk
    rw [hd]
    clear hd
    go_enter Try.func29, Try.ntmps29
    go_wp2
    go_ret
    exact ⟨by simp [hlk], rfl⟩
theorem equal_c (A B : Option Addr) (l k : List UInt8) (c d : Nat) (w : World) (h : Reads w A l) (h' : Reads w B k) :
    Calls Try.prog 18 #[.slice A l.length c, .slice B k.length d] w fun e w' => e = .returned (.bool (decide (l = k))) ∧ w = w' := by
  go_enter Try.func18, Try.ntmps18
  go_wp2_with (go_at_call 29; refine (beq_c A B l k c d w h h').mono ?_; rintro e w1 ⟨rfl, rfl⟩)
  go_ret
  exact ⟨rfl, rfl⟩

theorem equal_n (A B : Option Addr) (l k : List UInt8) (n m c d : Nat) (w : World) (hn : n = l.length) (hm : m = k.length) (h : Reads w A l) (h' : Reads w B k) :
    Calls Try.prog 18 #[.slice A n c, .slice B m d] w fun e w' => e = .returned (.bool (decide (l = k))) ∧ w = w' := by
  subst hn hm
  exact equal_c A B l k c d w h h'
theorem beq_n (A B : Option Addr) (l k : List UInt8) (n m c d : Nat) (w : World) (hn : n = l.length) (hm : m = k.length) (h : Reads w A l) (h' : Reads w B k) :
    Calls Try.prog 29 #[.slice A n c, .slice B m d] w fun e w' => e = .returned (.bool (decide (l = k))) ∧ w = w' := by
  subst hn hm
  exact beq_c A B l k c d w h h'
theorem read_n (A : Option Addr) (l : List UInt8) (n c : Nat) (w : World) (hn : n = l.length) (hl : l.length ≤ 140737488355328) (h : Reads w A l) :
    Calls Try.prog 20 #[.slice A n c] w fun e w' => ∃ g b, e = .returned (.pointer (some ⟨g, 0, none⟩)) ∧ w.heap.size ≤ g ∧ w.heap.size ≤ b ∧ Rdr w' g b l 0 ∧ Mod [] w w' := by
  subst hn
  exact read_c A l c w hl h

/-- No byte but 0. -/
def allNought (l : List UInt8) : Bool := l.all (fun x => x.toNat == 0)
theorem noughts_next (l : List UInt8) (j : Nat) (h : j < l.length) : allNought (l.take (j + 1)) = (allNought (l.take j) && (l[j].toNat == 0)) := by
  unfold allNought; rw [take_next l j h, List.all_append]; simp only [List.all_cons, List.all_nil, Bool.and_true]
theorem noughts_no (l : List UInt8) (j : Nat) (h : j < l.length) (hx : l[j].toNat ≠ 0) : allNought l = false := by
  rw [allNought, List.all_eq_false]
  exact ⟨l[j], List.getElem_mem h, by simpa using hx⟩

theorem zero_c (A : Option Addr) (l : List UInt8) (c : Nat) (w : World) (hl : l.length ≤ 140737488355328) (h : Reads w A l) :
    Calls Try.prog 19 #[.slice A l.length c] w fun e w' => e = .returned (.bool (allNought l)) ∧ w = w' := by
  go_enter Try.func19, Try.ntmps19
  go_wp2
  go_loop [7] (fun i => ∃ j : Nat, j ≤ l.length ∧ i = .int .i64 j ∧ Hid (allNought (l.take j) = true)) (fun i => l.length - (intOf i).toNat)
  case atStart => exact ⟨0, by omega, rfl, rfl⟩
  case round =>
    obtain ⟨j, hj, rfl, hz⟩ := hrel
    by_cases hlt : j < l.length
    · obtain ⟨g, o, rfl, hc⟩ := h j hlt
      by_cases hx : l[j].toNat = 0
      · have hz' : Hid (allNought (l.take (j + 1)) = true) := by
          show allNought (l.take (j + 1)) = true
          rw [noughts_next l j hlt, hz.out]; simp [hx]
        have hb : (((l[j].toNat : Nat) : Int) != 0) = false := by simp [hx]
        go_wp2
        exact ⟨⟨j + 1, by omega, by go_num, hz'⟩, by simp [intOf]; omega⟩
      · have hb : (((l[j].toNat : Nat) : Int) != 0) = true := by simp [hx]
        have hn := Lib.hid (noughts_no l j hlt hx)
        go_wp2
        go_ret
        exact ⟨by rw [hn.out]; rfl, rfl⟩
    · obtain rfl : j = l.length := by omega
      rw [List.take_of_length_le (Nat.le_refl _)] at hz
      go_wp2
      go_ret
      exact ⟨by rw [hz.out]; rfl, rfl⟩

/-- A new slice of bytes that are written out. -/
theorem Reads.lit {w : World} {g : Nat} {t : TypeId} (l : List UInt8) (cs : List Value) (h : Holds w g t cs) (e : cs = l.map oct) : Reads w (some ⟨g, 0, none⟩) l := Reads.of_holds (e ▸ h)

theorem wakes_c (w : World) : Calls Try.prog 10 #[] w fun e w' => e = .returned (.bool true) ∧ Mod [] w w' := by
  go_enter Try.func10, Try.ntmps10
  go_wp2_with fail
  have hh : Holds (w.alloc (.cells #[.int .u8 0, .int .u8 1, .int .u8 2, .int .u8 3, .int .u8 4] 5)) w.heap.size 5 _ := Holds.made _ _ [.int .u8 0, .int .u8 1, .int .u8 2, .int .u8 3, .int .u8 4]
  refine (read_c _ [0, 1, 2, 3, 4] _ _ (by simp) (Reads.lit _ _ hh rfl)).mono ?_
  rintro e w1 ⟨g, b, rfl, hg, hb, hR, hm⟩
  have hm' := (Mod.alloc [] w _).trans hm (by simp)
  simp at hg hb
  clear hm hh
  have v1 : offNum [0, 1, 2, 3, 4] 0 1 = 0 := by decide
  have v2 : offNum [1, 2, 3, 4] 0 4 = 16909060 := by decide
  have v3 : offNum [] 0 1 = 0 := by decide
  go_wp2_with fail
  refine (u8_c g b _ 0 _ hR).mono ?_
  rintro e w2 ⟨rfl, hR2, hm2⟩
  have hM2 := hm'.trans (hm2.wk (ns := [g]) (by simp)) (by simp; omega)
  change Rdr w2 g b [1, 2, 3, 4] 0 at hR2
  rw [v1]
  clear hR hm' hm2
  go_wp2_with fail
  refine (u32_c g b _ 0 _ hR2).mono ?_
  rintro e w3 ⟨rfl, hR3, hm3⟩
  have hM3 := hM2.trans (hm3.wk (ns := [g]) (by simp)) (by simp; omega)
  change Rdr w3 g b [] 0 at hR3
  rw [v2]
  clear hR2 hM2 hm3
  go_wp2_with fail
  refine (left_c g b _ 0 _ hR3).mono ?_
  rintro e w4 ⟨rfl, rfl⟩
  go_wp2_with fail
  refine (err_c g b _ 0 _ hR3).mono ?_
  rintro e w4 ⟨rfl, rfl⟩
  go_wp2_with fail
  refine (u8_c g b _ 0 _ hR3).mono ?_
  rintro e w5 ⟨rfl, hR5, hm5⟩
  have hM5 := hM3.trans (hm5.wk (ns := [g]) (by simp)) (by simp; omega)
  change Rdr w5 g b [] 7 at hR5
  rw [v3]
  clear hR3 hM3 hm5
  go_wp2_with fail
  refine (err_c g b _ 7 _ hR5).mono ?_
  rintro e w6 ⟨rfl, rfl⟩
  clear hR5
  go_wp2_with fail
  have h1 : Holds (w5.alloc (.cells #[.int .u8 9] 5)) w5.heap.size 5 _ := Holds.made _ _ [.int .u8 9]
  refine (put32_c _ [9] 1 1 _ (by simp) (Reads.lit _ _ h1 rfl) (by omega)).mono ?_
  rintro e w6 ⟨rfl, h2, hm6⟩
  have hM6 := (hM5.then (Mod.alloc [] w5 (.cells #[.int .u8 9] 5))).then hm6
  clear hM5 hm6 h1
  simp only [World.size_alloc] at h2
  go_wp2_with fail
  have h3 : Holds (w6.alloc (.cells #[.int .u8 9, .int .u8 0, .int .u8 0, .int .u8 0, .int .u8 1] 5)) w6.heap.size 5 _ := Holds.made _ _ [.int .u8 9, .int .u8 0, .int .u8 0, .int .u8 0, .int .u8 1]
  refine (equal_c _ _ [9, 0, 0, 0, 1] [9, 0, 0, 0, 1] 5 5 _ (Reads.lit _ _ (h2.keep (Mod.alloc [] w6 _) (by simp)) (congrArg (List.map oct) (show [9] ++ hi 1 4 = [9, 0, 0, 0, 1] from by decide))) (Reads.lit _ _ h3 rfl)).mono ?_
  rintro e w7 ⟨rfl, rfl⟩
  have hM7 := hM6.then (Mod.alloc [] w6 (.cells #[.int .u8 9, .int .u8 0, .int .u8 0, .int .u8 0, .int .u8 1] 5))
  clear h2 h3 hM6
  generalize w6.alloc (.cells #[.int .u8 9, .int .u8 0, .int .u8 0, .int .u8 0, .int .u8 1] 5) = w7 at *
  go_wp2_with fail
  have h4 : Holds (w7.alloc (.cells #[.int .u8 0] 5)) w7.heap.size 5 _ := Holds.made _ _ [.int .u8 0]
  refine (equal_c _ _ [0] [] 1 0 _ (Reads.lit _ _ h4 rfl) (Reads.nil _ _)).mono ?_
  rintro e w8 ⟨rfl, rfl⟩
  have hM8 := hM7.then (Mod.alloc [] w7 (.cells #[.int .u8 0] 5))
  clear h4 hM7
  generalize w7.alloc (.cells #[.int .u8 0] 5) = w8 at *
  go_wp2_with fail
  have h5 : Holds (w8.alloc (.cells #[.int .u8 0, .int .u8 1] 5)) w8.heap.size 5 _ := Holds.made _ _ [.int .u8 0, .int .u8 1]
  refine (zero_c _ [0, 1] 2 _ (by simp) (Reads.lit _ _ h5 rfl)).mono ?_
  rintro e w9 ⟨rfl, rfl⟩
  have hM9 := hM8.then (Mod.alloc [] w8 (.cells #[.int .u8 0, .int .u8 1] 5))
  clear h5 hM8
  generalize w8.alloc (.cells #[.int .u8 0, .int .u8 1] 5) = w9 at *
  rw [show allNought [0, 1] = false from by decide]
  go_wp2_with fail
  refine (zero_c none [] 0 _ (by simp) (Reads.nil _ _)).mono ?_
  rintro e w10 ⟨rfl, rfl⟩
  rw [show allNought [] = true from by decide]
  go_wp2_with fail
  go_ret
  exact ⟨rfl, hM9⟩

end Go.Proofs.Ytheebmehapemnaa
