/-
  Less: bytes compared. My own work.
-/
import Derived.Test.YtapafniekmfkaaaDoorUd
import Derived.Lib.Bytealg
namespace Go.Proofs.YtapafniekmfkaaaDoor
open Go.RowKit Go.Shelf
set_option linter.unusedVariables false
set_option linter.unusedSimpArgs false
theorem run_loadBytes {P : Program} {w : World} {g : Nat} : ∀ (l : List UInt8) (o : Nat) (acc : ByteArray), (∀ i (h : i < l.length), w.cell? ⟨g, o + i, none⟩ = some (oct l[i])) → (Extern.Bytes.loadBytes ⟨g, o, none⟩ l.length acc).run P w = .ok ⟨(acc.data.toList ++ l).toArray⟩ w
  | [], o, acc, _ => by simp [Extern.Bytes.loadBytes, Sem.run_pure]
  | x :: l, o, acc, h => by
    have h0 := h 0 (by simp)
    have ih := run_loadBytes (P := P) (w := w) (g := g) l (o + 1) (acc.push x) (fun i hi => by
      have := h (i + 1) (by simpa using hi)
      rw [show o + 1 + i = o + (i + 1) by omega]
      simpa using this)
    simp only [Nat.add_zero, List.getElem_cons_zero] at h0
    have hx : ((x.toNat : Int)).toNat.toUInt8 = x := by simp
    simp only [List.length_cons, Extern.Bytes.loadBytes, Sem.run_bind, add_plain]
    rw [show (load ⟨g, o, none⟩).run P w = .ok (oct x) w from by simp [h0, go_sem]]
    simp only [Result.andThen, hx]
    rw [ih]
    simp
theorem run_bytesOf {P : Program} {w : World} {A : Option Addr} {l : List UInt8} (h : Reads w A l) (c : Nat) : (Extern.Bytes.bytesOf (.slice A l.length c)).run P w = .ok ⟨l.toArray⟩ w := by
  rcases l with _ | ⟨x, l⟩
  · rcases A with _ | ⟨g, o, s⟩
    · rfl
    · rfl
  · obtain ⟨g, o, rfl, _⟩ := h 0 (by simp)
    have := run_loadBytes (P := P) (w := w) (g := g) (x :: l) o .empty (fun i hi => h.at i hi)
    simpa [Extern.Bytes.bytesOf] using this
theorem run_compareBytes {P : Program} {w : World} {A B : Option Addr} {l k : List UInt8} (h : Reads w A l) (h' : Reads w B k) (c d : Nat) :
    (Extern.BytealgCompare.compare #[.slice A l.length c, .slice B k.length d]).run P w = .ok (.int .i64 (Lib.compareBytes l k)) w := by
  change Sem.run P (do pure (goInt (Extern.BytealgCompare.cmp (← Extern.Bytes.bytesOf (.slice A l.length c)) (← Extern.Bytes.bytesOf (.slice B k.length d))))) w = _
  simp only [Sem.run_bind, run_bytesOf h, run_bytesOf h', Sem.run_pure, Result.andThen]
  rw [Lib.cmp_eq]
  rfl
set_option maxRecDepth 100000 in
theorem compare_c (A B : Option Addr) (l k : List UInt8) (c d : Nat) (w : World) (h : Reads w A l) (h' : Reads w B k) :
    Calls Tryd.prog 60 #[.slice A l.length c, .slice B k.length d] w fun e w' => e = .returned (.int .i64 (Lib.compareBytes l k)) ∧ w' = w := by
  have hr := run_compareBytes (P := Tryd.prog) h h' c d
  have H := Lib.hid (And.intro h h')
  clear h h'
  go_enter Tryd.func60, Tryd.ntmps60
  go_wp2
  rw [run_callFunc_extern Tryd.func86 (by kernel_rfl) (by kernel_rfl) (by kernel_rfl) (e := Extern.BytealgCompare.compare) (by kernel_rfl), hr]
  simp only [Result.andThen]
  rw [Oper.upon_value]
  go_wp2
  go_ret
  exact ⟨rfl, rfl⟩
theorem compare_n (A B : Option Addr) (l k : List UInt8) (n m c d : Nat) (z : Int) (w : World) (hn : n = l.length) (hm : m = k.length) (hz : z = Lib.compareBytes l k) (h : Reads w A l) (h' : Reads w B k) :
    Calls Tryd.prog 60 #[.slice A n c, .slice B m d] w fun e w' => e = .returned (.int .i64 z) ∧ w' = w := by
  subst hn hm hz
  exact compare_c A B l k c d w h h'
theorem compare_lessB : ∀ l k : List UInt8, decide (Lib.compareBytes l k < 0) = Tm.lessB l k
  | [], [] => by simp [Lib.compareBytes, Tm.lessB]
  | [], _ :: _ => by simp [Lib.compareBytes, Tm.lessB]
  | _ :: _, [] => by simp [Lib.compareBytes, Tm.lessB]
  | a :: l, b :: k => by
    have ih := compare_lessB l k
    unfold Lib.compareBytes Tm.lessB
    by_cases h1 : a < b
    · have : a.toNat < b.toNat := UInt8.lt_iff_toNat_lt.1 h1
      simp [h1, this]
    · by_cases h2 : b < a
      · have h3 : b.toNat < a.toNat := UInt8.lt_iff_toNat_lt.1 h2
        have h4 : ¬ a.toNat < b.toNat := by omega
        have h5 : ¬ a = b := by rintro rfl; omega
        simp [h1, h2, h4, h5]
      · have h3 : ¬ a.toNat < b.toNat := fun h => h1 (UInt8.lt_iff_toNat_lt.2 h)
        have h4 : ¬ b.toNat < a.toNat := fun h => h2 (UInt8.lt_iff_toNat_lt.2 h)
        have h5 : a = b := UInt8.toNat_inj.1 (by omega)
        simp [h1, h2, h3, h5, ih]
set_option maxRecDepth 1000000 in
set_option maxHeartbeats 1500000 in
theorem less_yes (a b : Tm) (ca cb : List Value) (Sa Sb : Nat → Prop) (w : World) (hA : TIs w Sa a ca) (hB : TIs w Sb b cb) (hSa : ∀ g, Sa g → g < w.heap.size) (hSb : ∀ g, Sb g → g < w.heap.size) (G : Glob w) (ra : a.right = true) (rb : b.right = true) :
    Calls Tryd.prog 25 #[.agg ca.toArray, .agg cb.toArray] w fun e w' => e = .returned (.bool (Tm.lessB a.bytes b.bytes)) ∧ Mod [] w w' := by
  have hca := hA.len
  have hcb := hB.len
  have EA := fun v (mv : Mod [] w v) => encode_yes a ca _ v (hA.keep mv (by simp)) (fun g hg => Nat.lt_of_lt_of_le (hSa g hg) mv.size) (G.then mv) ra
  have EB := fun v (mv : Mod [] w v) => encode_yes b cb _ v (hB.keep mv (by simp)) (fun g hg => Nat.lt_of_lt_of_le (hSb g hg) mv.size) (G.then mv) rb
  obtain ⟨na, hna⟩ : ∃ n, n = a.bytes.length := ⟨_, rfl⟩
  obtain ⟨nb, hnb⟩ : ∃ n, n = b.bytes.length := ⟨_, rfl⟩
  rw [← hna] at EA
  rw [← hnb] at EB
  obtain ⟨z, hz⟩ : ∃ z, z = Lib.compareBytes a.bytes b.bytes := ⟨_, rfl⟩
  have hlt : decide (z < 0) = Tm.lessB a.bytes b.bytes := by rw [hz]; exact compare_lessB _ _
  obtain ⟨L, hL⟩ : ∃ L, L = Tm.lessB a.bytes b.bytes := ⟨_, rfl⟩
  rw [← hL] at hlt ⊢
  have HN := Lib.hid (And.intro hna (And.intro hnb hz))
  clear hA hB hSa hSb G ra rb hna hnb hz hL
  go_enter Tryd.func25, Tryd.ntmps25
  go_wp2_with (first
    | (with_reducible refine wpList_boxes (o := ⟨some 2, .box 24 (.tmp 0), _, _, _, _⟩) rfl 24 (.tmp 0) rfl _ rfl ca rfl ?_; intro w1 hb1 m1 z1
       obtain ⟨b1, hq1⟩ : ∃ b, b = w.heap.size := ⟨_, rfl⟩
       rw [← hq1] at hb1 ⊢
       clear hq1 z1)
    | (with_reducible refine wpList_boxes (o := ⟨some 3, .box 24 (.tmp 1), _, _, _, _⟩) rfl 24 (.tmp 1) rfl _ rfl cb rfl ?_; intro w2 hb2 m2 z2
       obtain ⟨b2, hq2⟩ : ∃ b, b = w1.heap.size := ⟨_, rfl⟩
       rw [← hq2] at hb2 ⊢
       replace hb1 := hb1.keep m2 (by simp)
       replace m2 := m1.then m2
       clear hq2 z2 m1)
    | (with_reducible refine wpList_loads (o := ⟨some 9, .load 24 (.tmp 2), _, _, _, _⟩) rfl 24 (.tmp 2) rfl b1 (0) (ca) rfl (Cells.of_holds hb1) _ Tryd.underlying24 rfl (size24' hca) (.agg (ca).toArray) rfl ?_)
    | (go_at_call 15; refine (EA w2 m2).mono ?_
       rintro e w3 ⟨A1, c1, rfl, o1, mA, f1⟩
       replace hb2 := hb2.keep mA (by simp)
       have m3 := m2.then mA
       clear EA m2 mA hb1 f1)
    | (with_reducible refine wpList_loads (o := ⟨some 16, .load 24 (.tmp 3), _, _, _, _⟩) rfl 24 (.tmp 3) rfl b2 (0) (cb) rfl (Cells.of_holds hb2) _ Tryd.underlying24 rfl (size24' hcb) (.agg (cb).toArray) rfl ?_)
    | (go_at_call 15; refine (EB w3 m3).mono ?_
       rintro e w6 ⟨A2, c2, rfl, o2, mB, f2⟩
       have r1 := o1.reads.keep mB (fun _ _ => by simp)
       have r2 := o2.reads
       have m6 := m3.then mB
       clear EB m3 mB hb2 f2 o1)
    | (go_at_call 60; refine (compare_n A1 A2 a.bytes b.bytes na nb c1 c2 z w6 HN.out.1 HN.out.2.1 HN.out.2.2 r1 r2).mono ?_
       rintro e w7 ⟨rfl, rfl⟩))
  go_ret
  exact ⟨rfl, m6⟩
end Go.Proofs.YtapafniekmfkaaaDoor
