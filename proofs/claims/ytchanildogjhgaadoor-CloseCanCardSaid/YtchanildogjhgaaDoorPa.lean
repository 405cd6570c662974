/-
  bytes.Compare; rows of bytes sorted. My own work.
-/
import Derived.Test.YtchanildogjhgaaDoorFn
import Derived.Test.YtchanildogjhgaaDoorSrt
import Derived.Lib.Bytealg
import Derived.Shelf.SlSortCmp.Whole1
namespace Go.Proofs.YtchanildogjhgaaDoor
section
open Go.RowKit Go.Shelf
set_option linter.unusedVariables false
set_option linter.unusedSimpArgs false
theorem run_loadBytes {P : Program} {w : World} {g : Nat} : ∀ (l : List UInt8) (o : Nat) (acc : ByteArray), (∀ i (h : i < l.length), w.cell? ⟨g, o + i, none⟩ = some (oct l[i])) → (Extern.Bytes.loadBytes ⟨g, o, none⟩ l.length acc).run P w = .ok ⟨(acc.data.toList ++ l).toArray⟩ w
  | [], o, acc, _ => by simp [Extern.Bytes.loadBytes, Sem.run_pure]
  | x :: l, o, acc, h => by
    have h0 := h 0 (by simp)
    have ih := run_loadBytes (P := P) (w := w) (g := g) l (o + 1) (acc.push x) (fun i hi => by
      have := h (i + 1) (by simpa using hi)
      rw [show o + 1 + i = o + (i + 1) by omega]
      simpa using this)
    simp only [Nat.add_zero, List.getElem_cons_zero] at h0
    have hx : ((x.toNat : Int)).toNat.toUInt8 = x := by simp
    simp only [List.length_cons, Extern.Bytes.loadBytes, Sem.run_bind, add_plain]
    rw [show (load ⟨g, o, none⟩).run P w = .ok (oct x) w from by simp [h0, go_sem]]
    simp only [Result.andThen, hx]
    rw [ih]
    simp
theorem run_bytesOf {P : Program} {w : World} {A : Option Addr} {l : List UInt8} (h : Reads w A l) (c : Nat) : (Extern.Bytes.bytesOf (.slice A l.length c)).run P w = .ok ⟨l.toArray⟩ w := by
  rcases l with _ | ⟨x, l⟩
  · rcases A with _ | ⟨g, o, s⟩
    · rfl
    · rfl
  · obtain ⟨g, o, rfl, _⟩ := h 0 (by simp)
    have := run_loadBytes (P := P) (w := w) (g := g) (x :: l) o .empty (fun i hi => h.at i hi)
    simpa [Extern.Bytes.bytesOf] using this
theorem run_compareBytes {P : Program} {w : World} {A B : Option Addr} {l k : List UInt8} (h : Reads w A l) (h' : Reads w B k) (c d : Nat) :
    (Extern.BytealgCompare.compare #[.slice A l.length c, .slice B k.length d]).run P w = .ok (.int .i64 (Lib.compareBytes l k)) w := by
  change Sem.run P (do pure (goInt (Extern.BytealgCompare.cmp (← Extern.Bytes.bytesOf (.slice A l.length c)) (← Extern.Bytes.bytesOf (.slice B k.length d))))) w = _
  simp only [Sem.run_bind, run_bytesOf h, run_bytesOf h', Sem.run_pure, Result.andThen]
  rw [Lib.cmp_eq]
  rfl
set_option maxRecDepth 100000 in
theorem compare_c (A B : Option Addr) (l k : List UInt8) (c d : Nat) (w : World) (h : Reads w A l) (h' : Reads w B k) :
    Calls Tryd.prog 108 #[.slice A l.length c, .slice B k.length d] w fun e w' => e = .returned (.int .i64 (Lib.compareBytes l k)) ∧ w' = w := by
  have hr := run_compareBytes (P := Tryd.prog) h h' c d
  have H := Lib.hid (And.intro h h')
  clear h h'
  go_enter Tryd.func108, Tryd.ntmps108
  go_wp2
  rw [run_callFunc_extern Tryd.func118 (by kernel_rfl) (by kernel_rfl) (by kernel_rfl) (e := Extern.BytealgCompare.compare) (by kernel_rfl), hr]
  simp only [Result.andThen]
  rw [Oper.upon_value]
  go_wp2
  go_ret
  exact ⟨rfl, rfl⟩
theorem compare_lessB : ∀ l k : List UInt8, decide (Lib.compareBytes l k < 0) = Tm.lessB l k
  | [], [] => by simp [Lib.compareBytes, Tm.lessB]
  | [], _ :: _ => by simp [Lib.compareBytes, Tm.lessB]
  | _ :: _, [] => by simp [Lib.compareBytes, Tm.lessB]
  | a :: l, b :: k => by
    have ih := compare_lessB l k
    unfold Lib.compareBytes Tm.lessB
    by_cases h1 : a < b
    · have : a.toNat < b.toNat := UInt8.lt_iff_toNat_lt.1 h1
      simp [h1, this]
    · by_cases h2 : b < a
      · have h3 : b.toNat < a.toNat := UInt8.lt_iff_toNat_lt.1 h2
        have h4 : ¬ a.toNat < b.toNat := by omega
        have h5 : ¬ a = b := by rintro rfl; omega
        simp [h1, h2, h4, h5]
      · have h3 : ¬ a.toNat < b.toNat := fun h => h1 (UInt8.lt_iff_toNat_lt.2 h)
        have h4 : ¬ b.toNat < a.toNat := fun h => h2 (UInt8.lt_iff_toNat_lt.2 h)
        have h5 : a = b := UInt8.toNat_inj.1 (by omega)
        simp [h1, h2, h3, h5, ih]
/-- A slice of bytes in a row. -/
structure RB where
  A : Option Addr
  c : Nat
  l : List UInt8
def rbv (x : RB) : Value := .slice x.A x.l.length x.c
def StandB (w : World) (rb : Nat) (x : RB) : Prop := Reads w x.A x.l ∧ ∀ a, x.A = some a → a.block ≠ rb ∧ a.block < w.heap.size
abbrev RBs (w : World) (rb : Nat) := {x : RB // StandB w rb x}
instance (w : World) (rb : Nat) : Inhabited (RBs w rb) := ⟨⟨⟨none, 0, []⟩, Reads.nil _ _, fun _ h => by cases h⟩⟩
def rbe {w : World} {rb : Nat} (x : RBs w rb) : Value := rbv x.1
def rbc {w : World} {rb : Nat} (x y : RBs w rb) : Int := Lib.compareBytes x.1.l y.1.l
theorem rbc_lt {w : World} {rb : Nat} (x y : RBs w rb) : ltOf rbc x y = Tm.lessB x.1.l y.1.l := compare_lessB _ _
theorem lessB_ntrans (x y z : List UInt8) (h1 : Tm.lessB x y = false) (h2 : Tm.lessB y z = false) : Tm.lessB x z = false := by
  cases h : Tm.lessB x z with
  | false => rfl
  | true =>
    cases h3 : Tm.lessB y x with
    | true => rw [Tm.lessB_trans y x z h3 h] at h2; cases h2
    | false =>
      have e := Tm.lessB_total x y h1 h3
      rw [e, h2] at h; cases h
theorem rbc_swo (w : World) (rb : Nat) : Sort.SWO (ltOf (rbc : RBs w rb → RBs w rb → Int)) where
  irrefl x := by rw [rbc_lt]; exact Tm.lessB_irrefl _
  trans x y z h1 h2 := by rw [rbc_lt] at *; exact Tm.lessB_trans _ _ _ h1 h2
  ntrans x y z h1 h2 := by rw [rbc_lt] at *; exact lessB_ntrans _ _ _ h1 h2
theorem sortWorld_mod {w : World} {rb : Nat} (m : Nat) (dk : Array (RBs w rb)) (os : Array Obj) : Mod [rb] w (sortWorld rbe w rb 0 m dk os) := by
  refine ⟨rfl, rfl, rfl, ?_, fun k hk hn => ?_⟩
  · simp [sortWorld, Sort.grow, Sort.putRow, Sort.mapBlock, Sort.ahead]
  · simp only [List.mem_cons, List.not_mem_nil, or_false] at hn
    simp only [sortWorld, Sort.grow, Sort.putRow, Sort.mapBlock, Sort.ahead]
    rw [Array.getElem?_append_left (by simpa using hk), Array.getElem?_modify, if_neg (fun h => hn h.symm)]
theorem sortWorld_holds {w : World} {rb : Nat} {t : TypeId} {cs : List Value} (hH : Holds w rb t cs) (m : Nat) (dk : Array (RBs w rb)) (os : Array Obj) (hl : dk.size = cs.length) : Holds (sortWorld rbe w rb 0 m dk os) rb t (dk.toList.map rbe) := by
  have hlt : rb < w.heap.size := (Array.getElem?_eq_some_iff.1 hH).1
  unfold Holds at *
  simp only [sortWorld, Sort.grow, Sort.putRow, Sort.mapBlock, Sort.ahead]
  rw [Array.getElem?_append_left (by simpa using hlt), Array.getElem?_modify, if_pos rfl, hH]
  simp only [Option.map_some, Sort.onCells, Option.some.injEq, Obj.cells.injEq, and_true]
  apply Array.ext_getElem?
  intro k
  simp only [Sort.putCells, Array.getElem?_mapIdx, List.getElem?_toArray, List.getElem?_map, Array.getElem?_toList]
  by_cases hk : k < cs.length
  · rw [List.getElem?_eq_getElem hk, Array.getElem?_eq_getElem (by omega)]
    simp only [Option.map_some, Nat.zero_le, true_and, Nat.zero_add, Nat.sub_zero]
    rw [if_pos (by omega), getElem!_pos dk k (by omega)]
  · rw [List.getElem?_eq_none (by omega), Array.getElem?_eq_none (by omega)]
    rfl
def UpB (l : List RB) : Prop := l.Pairwise fun a b => Tm.lessB b.l a.l = false
set_option maxRecDepth 1000000 in
set_option maxHeartbeats 1500000 in
theorem sortB_c (rb n c : Nat) (t : TypeId) (xs : List RB) (w : World) (hn : n = xs.length) (hb : n ≤ 1000000) (hH : Holds w rb t (xs.map rbv)) (hS : ∀ x ∈ xs, StandB w rb x) :
    Calls Tryd.prog 107 #[.slice (some ⟨rb, 0, none⟩) n c, .func (.func 108) #[] #[]] w fun e w' => e = .returned (.tuple #[]) ∧ ∃ ys : List RB, ys.Perm xs ∧ UpB ys ∧ Holds w' rb t (ys.map rbv) ∧ Mod [rb] w w' := by
  have hlt : rb < w.heap.size := (Array.getElem?_eq_some_iff.1 hH).1
  let d : Array (RBs w rb) := xs.attach.toArray.map fun x => ⟨x.1, hS x.1 x.2⟩
  have hd : d.size = n := by simp [d, hn]
  have hdl : d.toList.map (fun x => x.1) = xs := by simp [d]
  have hde : d.toList.map rbe = xs.map rbv := by
    have : d.toList.map rbe = (d.toList.map (fun x => x.1)).map rbv := by rw [List.map_map]; rfl
    rw [this, hdl]
  have hcmp : CmpReads Tryd.prog 108 #[] (rbe : RBs w rb → Value) rbc rb 0 d.size w := by
    intro m os dk hs x y
    have md := sortWorld_mod m dk os
    refine (compare_c x.1.A y.1.A x.1.l y.1.l x.1.c y.1.c _ (x.2.1.keep md fun a ha => by simpa using (x.2.2 a ha).1) (y.2.1.keep md fun a ha => by simpa using (y.2.2 a ha).1)).mono ?_
    rintro e w' ⟨rfl, rfl⟩
    exact ⟨rfl, 0, rfl⟩
  have hH' : Sort.Holds (rbe : RBs w rb → Value) w rb 0 d := by
    intro j hj
    have hc := hH.cell (i := 0 + j)
    rw [Nat.zero_add] at hc ⊢
    refine ⟨?_, ?_⟩
    · rw [hc, ← hde, List.getElem?_map, Array.getElem?_toList, Array.getElem?_eq_getElem hj, getElem!_pos d j hj]; rfl
    · exact hH.free _
  have h := Any.slices_SortFunc Tryd.sortRows (rbe : RBs w rb → Value) (fun _ => rfl) rbc (rbc_swo w rb) 108 #[] rb 0 c d w (enters_of Tryd.func108 (by kernel_rfl) rfl) hcmp.lays hH' hlt (by omega)
  rw [hd] at h
  refine h.mono ?_
  rintro e w' ⟨rfl, d', m, os, hp, hs, rfl⟩
  obtain ⟨p1, p2, p3⟩ := hp
  refine ⟨rfl, d'.toList.map (fun x => x.1), ?_, ?_, ?_, sortWorld_mod m d' os⟩
  · have e1 : d'.extract 0 n = d' := by rw [← hd, ← p1]; simp
    have e2 : d.extract 0 n = d := by rw [← hd]; simp
    rw [e1, e2] at p3
    have := p3.map (fun x : RBs w rb => x.1)
    rwa [hdl] at this
  · unfold UpB
    rw [List.pairwise_iff_getElem]
    intro i j hi hj hij
    simp only [List.length_map, Array.length_toList] at hi hj
    have := hs i j (Nat.zero_le _) hij (by omega)
    rw [rbc_lt, getElem!_pos d' j hj, getElem!_pos d' i hi] at this
    simpa using this
  · have := sortWorld_holds hH m d' os (by simp [p1, hd, hn])
    rw [List.map_map]
    exact this
end
end Go.Proofs.YtchanildogjhgaaDoor

