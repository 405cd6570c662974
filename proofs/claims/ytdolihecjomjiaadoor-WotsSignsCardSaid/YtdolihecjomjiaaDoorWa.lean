/-
  Digests as values of 32 cells; what a digest of digests is. Contracts of package wots. My own work.
-/
import Derived.Test.YtdolihecjomjiaaDoorRk
import Derived.Test.YtdolihecjomjiaaDoorKn
namespace Go.Proofs.YtdolihecjomjiaaDoor
open Go.RowKit Go.Shelf
/-- A digest: 32 bytes. -/
abbrev Idv := { l : List UInt8 // l.length = 32 }
def ic (x : Idv) : List Value := x.1.map oct
def iv (x : Idv) : Value := .agg (ic x).toArray
theorem ic_length (x : Idv) : (ic x).length = 32 := by simp [ic, x.2]
theorem ic_one (x : Idv) : ∀ v ∈ ic x, v.oneCell' = true := octs_one x.1
def digI (bb : List UInt8) : Idv := ⟨dig bb, dig_length bb⟩
def zeroI : Idv := ⟨List.replicate 32 0, rfl⟩
theorem zeroI_25 : ∀ w, (zeroValue 25).run Tryd.prog w = .ok (.agg (ic zeroI).toArray) w := zero25
/-- What sha's own variables hold. -/
structure Glob (w : World) : Prop where
  G : Cells w (some ⟨1, 0, none⟩) (Kc.map wd)
  G1 : Cells w (some ⟨0, 0, none⟩) (Sc.map wd)
  two : 2 ≤ w.heap.size
theorem Glob.keep {w v : World} {ms : List Nat} (h : Glob w) (m : Mod ms w v) (hm : ∀ i ∈ ms, 2 ≤ i) : Glob v :=
  ⟨h.G.keep m (by rintro _ ⟨⟩ h; have := hm _ h; simp at this), h.G1.keep m (by rintro _ ⟨⟩ h; have := hm _ h; simp at this), Nat.le_trans h.two m.size⟩
theorem Glob.then {w v : World} (h : Glob w) (m : Mod [] w v) : Glob v := h.keep m (by simp)
theorem Glob.of {w : World} (G : Cells w (some ⟨1, 0, none⟩) (Kc.map wd)) (G1 : Cells w (some ⟨0, 0, none⟩) (Sc.map wd)) : Glob w :=
  ⟨G, G1, by
    have h := G.at 0 (by simp [Kc_length])
    have := block_lt_of_cell h
    exact this⟩
theorem sumI (Ad : Option Addr) (bb : List UInt8) (n cap : Nat) (hn : n = bb.length) (hcap : n ≤ cap) (hb : n ≤ 1000000) (w : World) (G : Glob w) (R : Reads w Ad bb) :
    Calls Tryd.prog 32 #[.slice Ad n cap] w fun e w' => e = .returned (iv (digI bb)) ∧ Mod [] w w' :=
  sum_c Kc Sc Kc_length Sc_length Ad bb n cap hn (by omega) (by omega) w G.G G.G1 R
theorem mem_blk {A : Option Addr} {k : Nat} (h : k ∈ blk A) : ∃ a, A = some a ∧ a.block = k := by
  cases A with
  | none => simp [blk] at h
  | some a => exact ⟨a, rfl, by simp [blk] at h; exact h.symm⟩
theorem far_mod {w v v' : World} {ms : List Nat} (h : Mod [] w v) (k : Mod ms v v') (hm : ∀ i ∈ ms, w.heap.size ≤ i) : Mod [] w v' := h.trans k (fun i hi h => by have := hm i h; omega)
theorem Owns.of_made {w : World} {y B n : Nat} (h : Holds w y 5 (List.replicate n (.int .u8 0))) (hB : B ≤ y) (hn : n ≤ maxLen) : Owns w B 5 (some ⟨y, 0, none⟩) n [] := by
  refine ⟨by simp, .inr ⟨y, n, _, rfl, hB, h, Nat.zero_le _, hn, by simp, by simp⟩⟩
/-- make([]T, 0, n) of one-cell elements, in a walk. -/
theorem wpList_make0 {P : Program} (w : World) {ops : Array Oper} {rest : List Oper} {o : Oper} {a : Act} {Q : Exit → Act → World → Prop}
    (hg : o.guard = none) (l c : Operand) (t : TypeId) (hop : o.op = Op.makeSlice t l c)
    (e : TypeId) (i : TypeInfo) (z : Value) (h1 : P.underlying t = some (.slice e)) (h2 : P.info? e = some i) (h3 : i.zero = some z) (h4 : i.size = 1) (bytes : Nat) (h5 : i.bytes = bytes) (hz : z.cells = #[z])
    (C : Int) (n : Nat) (hl : a.eval l = .int .i64 0) (hc : a.eval c = .int .i64 C) (hC : C = (n : Int)) (b2 : bytes * n ≤ 281474976710656) (b3 : n ≤ maxLen)
    (hK : ∀ v, Holds v w.heap.size e (List.replicate n z) → Mod [] w v → v.heap.size = w.heap.size + 1 → wpList P ops Q rest (a.put o.dst (.slice (some ⟨w.heap.size, 0, none⟩) 0 n)) v) :
    wpList P ops Q (o :: rest) a w := by
  refine wpList_plain hg fun K hK' => ?_
  subst h5
  have hb : (i.bytes : Int) * (n : Int) ≤ 281474976710656 := by
    have h : ((i.bytes * n : Nat) : Int) ≤ 281474976710656 := by omega
    rwa [Int.natCast_mul] at h
  have b3' : (n : Int) ≤ 9223372036854775807 := by unfold maxLen at b3; omega
  have hrun := run_make (P := P) w t e i z h1 h2 h3 .i64 .i64 0 (n : Int) (by omega) (by omega) hb b3'
  subst hC
  simp only [Int.toNat_natCast, h4, Nat.mul_one, hz, made_rep] at hrun
  unfold Oper.wp
  simp [execOp, hop, hl, hc, hrun, Result.andThen]
  exact hK' _ _ (hK _ (Holds.made w e _) (Mod.alloc [] w _) (by simp))
/-- Digests one behind the other. -/
def flatI (l : List Idv) : List UInt8 := l.flatMap (·.1)
theorem flatI_length (l : List Idv) : (flatI l).length = l.length * 32 := by
  induction l with
  | nil => rfl
  | cons x l ih => simp only [flatI, List.flatMap_cons, List.length_append, List.length_cons] at ih ⊢; rw [ih, x.2]; omega
theorem flatI_snoc (l : List Idv) (k : Nat) (h : k < l.length) : flatI (l.take (k + 1)) = flatI (l.take k) ++ l[k].1 := by
  rw [List.take_succ_eq_append_getElem h, flatI, List.flatMap_append]
  simp [flatI]
end Go.Proofs.YtdolihecjomjiaaDoor
