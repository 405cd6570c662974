/-
  Terms in memory: what the cells of a term are, rows of terms, terms that came in. My own work.
-/
import Derived.Test.YtchanildogjhgaaDoorTm
import Derived.Test.YtchanildogjhgaaDoorOpen
import Derived.Test.YtchanildogjhgaaDoorCel
import Derived.Deep.Slices
namespace Go.Proofs.YtchanildogjhgaaDoor
open Go.RowKit
/-- The cells of a term. -/
def tmc (k u n : Int) (s : ByteArray) (A : Option Addr) (len c : Nat) : List Value := [.int .i64 k, .int .i64 u, .int .i64 n, .string s, .slice A len c]
/-- These cells are that term, all that is beneath it in blocks of S. -/
inductive TIs (w : World) (S : Nat → Prop) : Tm → List Value → Prop
  | mk (k u n : Int) (s : ByteArray) (l : List Tm) (A : Option Addr) (c : Nat) (vs : List (List Value)) (hs : s.size ≤ 140737488355328) (hl : l.length ≤ c) (hc : l.length ≤ 2199023255552) (hcm : c ≤ maxLen)
      (hA : ∀ a, A = some a → l ≠ [] → S a.block) (hv : vs.length = l.length) (hz : ∀ v ∈ vs, v.length = 5) (hC : Cells w A (vs.flatMap id)) (hk : ∀ i (h : i < l.length) (h' : i < vs.length), TIs w S l[i] vs[i]) :
      TIs w S (.mk k u n s l) (tmc k u n s A l.length c)
/-- A row of terms. -/
structure RowT (w : World) (S : Nat → Prop) (A : Option Addr) (vs : List (List Value)) (l : List Tm) : Prop where
  hA : ∀ a, A = some a → l ≠ [] → S a.block
  hv : vs.length = l.length
  hz : ∀ v ∈ vs, v.length = 5
  hC : Cells w A (vs.flatMap id)
  hk : ∀ i (h : i < l.length) (h' : i < vs.length), TIs w S l[i] vs[i]
theorem TIs.row {w : World} {S : Nat → Prop} {k u n : Int} {s : ByteArray} {l : List Tm} {cs : List Value} (h : TIs w S (.mk k u n s l) cs) :
    ∃ A c vs, cs = tmc k u n s A l.length c ∧ RowT w S A vs l ∧ l.length ≤ c ∧ c ≤ maxLen ∧ l.length ≤ 2199023255552 ∧ s.size ≤ 140737488355328 := by
  cases h with
  | mk _ _ _ _ _ A c vs hs hl hc hcm hA hv hz hC hk => exact ⟨A, c, vs, rfl, ⟨hA, hv, hz, hC, hk⟩, hl, hcm, hc, hs⟩
theorem RowT.tis {w : World} {S : Nat → Prop} {A : Option Addr} {vs : List (List Value)} {l : List Tm} (h : RowT w S A vs l) (k u n : Int) (s : ByteArray) (c : Nat) (hs : s.size ≤ 140737488355328) (hl : l.length ≤ c) (hcm : c ≤ maxLen) (hc : l.length ≤ 2199023255552) :
    TIs w S (.mk k u n s l) (tmc k u n s A l.length c) := .mk k u n s l A c vs hs hl hc hcm h.hA h.hv h.hz h.hC h.hk
theorem TIs.len {w : World} {S : Nat → Prop} {t : Tm} {cs : List Value} (h : TIs w S t cs) : cs.length = 5 := by cases h; rfl
theorem TIs.one {w : World} {S : Nat → Prop} {t : Tm} {cs : List Value} (h : TIs w S t cs) : ∀ v ∈ cs, v.oneCell' = true := by
  cases h
  intro v hv
  simp only [tmc, List.mem_cons, List.not_mem_nil, or_false] at hv
  rcases hv with rfl | rfl | rfl | rfl | rfl <;> rfl
theorem cells_keep {w v : World} {A : Option Addr} {vs : List (List Value)} {l : List Tm} {ms : List Nat} (hv : vs.length = l.length) (h : Cells w A (vs.flatMap id)) (m : Mod ms w v) (hS : ∀ a, A = some a → l ≠ [] → a.block ∉ ms) : Cells v A (vs.flatMap id) := by
  cases l with
  | nil =>
    obtain rfl : vs = [] := List.eq_nil_of_length_eq_zero hv
    exact Cells.nil _ _
  | cons t l => exact h.keep m fun a ha => hS a ha (by simp)
theorem TIs.keep {w v : World} {S : Nat → Prop} {ms : List Nat} (m : Mod ms w v) (hS : ∀ g, S g → g ∉ ms) {t : Tm} {cs : List Value} (h : TIs w S t cs) : TIs v S t cs := by
  induction h with
  | mk k u n s l A c vs hs hl hc hcm hA hv hz hC hk ih => exact .mk k u n s l A c vs hs hl hc hcm hA hv hz (cells_keep hv hC m fun a ha hl => hS _ (hA a ha hl)) ih
theorem TIs.mono {w : World} {S S' : Nat → Prop} (hS : ∀ g, S g → S' g) {t : Tm} {cs : List Value} (h : TIs w S t cs) : TIs w S' t cs := by
  induction h with
  | mk k u n s l A c vs hs hl hc hcm hA hv hz hC hk ih => exact .mk k u n s l A c vs hs hl hc hcm (fun a ha hl => hS _ (hA a ha hl)) hv hz hC ih
theorem RowT.keep {w v : World} {S : Nat → Prop} {A : Option Addr} {vs : List (List Value)} {l : List Tm} {ms : List Nat} (h : RowT w S A vs l) (m : Mod ms w v) (hS : ∀ g, S g → g ∉ ms) : RowT v S A vs l :=
  ⟨h.hA, h.hv, h.hz, cells_keep h.hv h.hC m fun a ha hl => hS _ (h.hA a ha hl), fun i h1 h2 => (h.hk i h1 h2).keep m hS⟩
theorem RowT.mono {w : World} {S S' : Nat → Prop} {A : Option Addr} {vs : List (List Value)} {l : List Tm} (hS : ∀ g, S g → S' g) (h : RowT w S A vs l) : RowT w S' A vs l :=
  ⟨fun a ha hl => hS _ (h.hA a ha hl), h.hv, h.hz, h.hC, fun i h1 h2 => (h.hk i h1 h2).mono hS⟩
theorem flat5 : ∀ (vs : List (List Value)), (∀ v ∈ vs, v.length = 5) → ∀ (k i : Nat) (hk : k < vs.length), i < 5 → (vs.flatMap id)[k * 5 + i]? = vs[k][i]?
  | x :: l, hz, 0, i, _, hi => by
    have := hz x (by simp)
    rw [List.flatMap_cons, List.getElem?_append_left (by simp [this]; omega)]
    simp
  | x :: l, hz, k + 1, i, hk, hi => by
    have h5 := hz x (by simp)
    have := flat5 l (fun v hv => hz v (by simp [hv])) k i (by simpa using hk) hi
    rw [List.flatMap_cons, List.getElem?_append_right (by simp [h5]; omega)]
    simp only [id, h5]
    rw [show (k + 1) * 5 + i - 5 = k * 5 + i by omega, this]
    simp
theorem flat5_len (vs : List (List Value)) (hz : ∀ v ∈ vs, v.length = 5) : (vs.flatMap id).length = vs.length * 5 := by
  induction vs with
  | nil => rfl
  | cons x l ih =>
    rw [List.flatMap_cons, List.length_append, ih (fun v hv => hz v (by simp [hv])), List.length_cons, Nat.add_mul]
    have := hz x (by simp)
    simp [this]; omega
/-- The k-th of a row. -/
theorem RowT.elem {w : World} {S : Nat → Prop} {A : Option Addr} {vs : List (List Value)} {l : List Tm} (h : RowT w S A vs l) (k : Nat) (hk : k < l.length) : ∃ g o cs, A = some ⟨g, o, none⟩ ∧ Cells w (some ⟨g, o + k * 5, none⟩) cs ∧ TIs w S l[k] cs ∧ cs.length = 5 ∧ S g := by
  have hk' : k < vs.length := by rw [h.hv]; exact hk
  have h5 := h.hz _ (List.getElem_mem hk')
  have hfl := flat5_len vs h.hz
  obtain ⟨g, o, rfl, _⟩ := h.hC 0 (by omega)
  refine ⟨g, o, vs[k], rfl, h.hC.part (k * 5) fun i hi => ?_, h.hk k hk hk', h5, h.hA _ rfl (by rintro rfl; simp at hk)⟩
  rw [flat5 vs h.hz k i hk' (by omega), List.getElem?_eq_getElem hi]
/-- The blocks made between two worlds. -/
def Btw (lo hi : Nat) (g : Nat) : Prop := lo ≤ g ∧ g < hi
section
open Go.ChangeShapes Go.WideShapes Go.ChangeAt
variable {H : Type} {enc : TypeId × Value → H} {W : World}
theorem weights_all {H : Type} {P : Program} {e : TypeId} {n : Nat} {d : DataW H} : ∀ {l : List (DataW H)}, d ∈ l → n ∈ d.weights P e → n ∈ DataW.weightsAll P e l
  | [], h, _ => by cases h
  | x :: l, h, hn => by
    rw [DataW.weightsAll]
    rcases List.mem_cons.1 h with rfl | h
    · exact List.mem_append_left _ hn
    · exact List.mem_append_right _ (weights_all h hn)
set_option maxRecDepth 100000 in
theorem terms_of {n : Nat} (ih : ∀ cs x, DataW.trod enc Tryd.prog W 0 (fun _ => true) true n 24 cs = some x → (∀ b ∈ x.1.weights Tryd.prog 24, b ≤ reachBytes) → ∃ t, TIs W (Btw 0 W.heap.size) t cs)
    {cs : List Value} {x : DataW H × List MemPlace} (h : DataW.trod enc Tryd.prog W 0 (fun _ => true) true (n + 1) 22 cs = some x) (hw : ∀ b ∈ x.1.weights Tryd.prog 22, b ≤ reachBytes) :
    ∃ A c vs l, cs = [.slice A l.length c] ∧ RowT W (Btw 0 W.heap.size) A vs l ∧ l.length ≤ c ∧ c ≤ maxLen ∧ l.length ≤ 2199023255552 := by
  have h5 : Tryd.prog.cellsOf 24 = 5 := by kernel_rfl
  have hb : Tryd.prog.bytesOf 24 = 64 := by kernel_rfl
  rcases DataW.trod_slice Tryd.underlying22 h with ⟨rfl, _⟩ | ⟨a, len, cap, elems, rest, m, hm, rfl, rfl, _, hl, hcm, hlen, hel, _, _⟩
  · exact ⟨none, 0, [], [], rfl, ⟨by simp, rfl, by simp, Cells.nil _ _, fun i h => by simp at h⟩, Nat.le_refl _, by simp, by simp⟩
  · obtain rfl : n = m := by omega
    have hw1 : len * 64 ≤ 140737488355328 := by
      have := hw ((elems.length + rest.length) * 64) (by simp [DataW.weights, Tryd.underlying22, hb])
      have := reachBytes_lt
      omega
    rw [h5] at hel
    have key : ∀ i, i < len → ∃ p : List Value × Tm, W.cells? 0 (a.add (i * 5)) 5 = some p.1 ∧ TIs W (Btw 0 W.heap.size) p.2 p.1 := by
      intro i hi
      have h1 := hel i hi
      rw [List.getElem?_eq_getElem (by omega)] at h1
      obtain ⟨cs', c1, c2⟩ := Option.bind_eq_some_iff.1 h1
      obtain ⟨t, ht⟩ := ih cs' _ c2 fun b hb' => hw b (by
        simp only [DataW.weights, Tryd.underlying22]
        exact List.mem_cons_of_mem _ (List.mem_append_left _ (weights_all (d := elems[i].1) (List.mem_map.2 ⟨elems[i], List.getElem_mem _, rfl⟩) hb')))
      exact ⟨(cs', t), c1, ht⟩
    have : Inhabited (List Value × Tm) := ⟨([], .mk 0 0 0 ⟨#[]⟩ [])⟩
    obtain ⟨q, hq⟩ := Deep.choose_lt key
    obtain ⟨b, o, s⟩ := a
    have cell : ∀ i, i < len → ∀ j (hj : j < (q i).1.length), W.cell? ((⟨b, o, s⟩ : Addr).add (i * 5 + j)) = some (q i).1[j] := fun i hi j hj => by
      obtain ⟨_, hlen', hcell⟩ := World.cells?_some (hq i hi).1
      have := hcell j (by omega)
      rw [Deep.add_add] at this
      rw [this]
      exact List.getElem?_eq_getElem hj
    have len5 : ∀ i, i < len → (q i).1.length = 5 := fun i hi => (hq i hi).2.len
    have hs : 0 < len → s = none := fun h0 => by
      have := World.cell?_spot (cell 0 h0 0 (by rw [len5 0 h0]; decide))
      simpa [Addr.add] using this
    have hlt : 0 < len → b < W.heap.size := fun h0 => by
      have h1 := cell 0 h0 0 (by rw [len5 0 h0]; decide)
      rcases Nat.lt_or_ge b W.heap.size with hlt | hge
      · exact hlt
      · simp [Addr.add, World.cell?, Array.getElem?_eq_none hge] at h1
    rcases Nat.eq_zero_or_pos len with h0 | h0
    · subst h0
      exact ⟨some ⟨b, o, s⟩, cap, [], [], rfl, ⟨fun a _ h => absurd rfl h, rfl, by simp, Cells.nil _ _, fun i h => by simp at h⟩, Nat.zero_le _, hcm, by simp⟩
    · obtain rfl := hs h0
      refine ⟨some ⟨b, o, none⟩, cap, (List.range len).map fun i => (q i).1, (List.range len).map fun i => (q i).2, by simp, ⟨?_, by simp, ?_, ?_, ?_⟩, by simpa using hl, hcm, by simp; omega⟩
      · rintro _ ⟨⟩ _
        exact ⟨Nat.zero_le _, hlt h0⟩
      · intro v hv
        obtain ⟨i, hi, rfl⟩ := List.mem_map.1 hv
        exact len5 i (by simpa using hi)
      · have hz : ∀ v ∈ (List.range len).map fun i => (q i).1, v.length = 5 := fun v hv => by
          obtain ⟨i, hi, rfl⟩ := List.mem_map.1 hv
          exact len5 i (by simpa using hi)
        have hfl := flat5_len _ hz
        simp only [List.length_map, List.length_range] at hfl
        refine Cells.of_cells fun i hi => ?_
        have hi5 : i / 5 < len := by omega
        have h2 := flat5 _ hz (i / 5) (i % 5) (by simpa using hi5) (Nat.mod_lt _ (by decide))
        have hj : i % 5 < (q (i / 5)).1.length := by rw [len5 _ hi5]; exact Nat.mod_lt _ (by decide)
        have e : i / 5 * 5 + i % 5 = i := by omega
        have h3 := cell (i / 5) hi5 (i % 5) hj
        rw [e] at h2 h3
        rw [add_plain] at h3
        rw [h3, ← List.getElem?_eq_getElem hj, ← List.getElem?_eq_getElem hi, h2]
        simp
      · intro i h1 h2
        simp only [List.length_map, List.length_range] at h1
        simpa using (hq i h1).2
set_option maxRecDepth 100000 in
theorem term_in : ∀ (fuel : Nat) (cs : List Value) (x : DataW H × List MemPlace), DataW.trod enc Tryd.prog W 0 (fun _ => true) true fuel 24 cs = some x → (∀ b ∈ x.1.weights Tryd.prog 24, b ≤ reachBytes) → ∃ t, TIs W (Btw 0 W.heap.size) t cs := by
  intro fuel
  induction fuel using Nat.strongRecOn with
  | ind fuel ih =>
    intro cs x h hw
    obtain ⟨xs, n, hn, hx, hlen, hxl, hf⟩ := DataW.trod_struct Tryd.underlying24 h
    have h5 : Tryd.prog.cellsOf 24 = 5 := by kernel_rfl
    have c3 : Tryd.prog.cellsOf 3 = 1 := by kernel_rfl
    have c9 : Tryd.prog.cellsOf 9 = 1 := by kernel_rfl
    have c22 : Tryd.prog.cellsOf 22 = 1 := by kernel_rfl
    rw [h5] at hlen
    match cs, hlen, xs, hxl with
    | [v0, v1, v2, v3, v4], _, [y0, y1, y2, y3, y4], _ =>
      have g0 : DataW.trod enc Tryd.prog W 0 (fun _ => true) true n 3 [v0] = some y0 := by have := hf 0 _ rfl; simpa [c3] using this
      have g1 : DataW.trod enc Tryd.prog W 0 (fun _ => true) true n 3 [v1] = some y1 := by have := hf 1 _ rfl; simpa [c3] using this
      have g2 : DataW.trod enc Tryd.prog W 0 (fun _ => true) true n 3 [v2] = some y2 := by have := hf 2 _ rfl; simpa [c3] using this
      have g3 : DataW.trod enc Tryd.prog W 0 (fun _ => true) true n 9 [v3] = some y3 := by have := hf 3 _ rfl; simpa [c9] using this
      have g4 : DataW.trod enc Tryd.prog W 0 (fun _ => true) true n 22 [v4] = some y4 := by have := hf 4 _ rfl; simpa [c22] using this
      obtain ⟨a0, e0, _, _⟩ := DataW.trod_int Tryd.underlying3 g0
      obtain ⟨a1, e1, _, _⟩ := DataW.trod_int Tryd.underlying3 g1
      obtain ⟨a2, e2, _, _⟩ := DataW.trod_int Tryd.underlying3 g2
      obtain ⟨s, e3, q3, _⟩ := DataW.trod_string Tryd.underlying9 g3
      rw [hx] at hw
      have hs : s.size ≤ 140737488355328 := by
        have := hw s.size (by simp [DataW.weights, Tryd.underlying24, DataW.weightsEach, q3])
        have := reachBytes_lt
        omega
      match n, hn, g4 with
      | 0, _, g4 => simp [DataW.trod] at g4
      | n + 1, hn, g4 =>
        obtain ⟨A, c, vs, l, e4, hr, hl, hcm, hc⟩ := terms_of (ih n (by omega)) g4 fun b hb => hw b (by simp [DataW.weights, Tryd.underlying24, DataW.weightsEach, hb])
        simp only [List.cons.injEq, and_true] at e0 e1 e2 e3 e4
        subst e0 e1 e2 e3 e4
        exact ⟨_, hr.tis a0 a1 a2 s c hs hl hcm hc⟩
set_option maxRecDepth 100000 in
theorem terms_in {fuel : Nat} {cs : List Value} {x : DataW H × List MemPlace} (h : DataW.trod enc Tryd.prog W 0 (fun _ => true) true fuel 22 cs = some x) (hw : ∀ b ∈ x.1.weights Tryd.prog 22, b ≤ reachBytes) :
    ∃ A c vs l, cs = [.slice A l.length c] ∧ RowT W (Btw 0 W.heap.size) A vs l ∧ l.length ≤ c ∧ c ≤ maxLen ∧ l.length ≤ 2199023255552 := by
  match fuel, h with
  | 0, h => simp [DataW.trod] at h
  | n + 1, h => exact terms_of (fun cs x => term_in n cs x) h hw
end
end Go.Proofs.YtchanildogjhgaaDoor
