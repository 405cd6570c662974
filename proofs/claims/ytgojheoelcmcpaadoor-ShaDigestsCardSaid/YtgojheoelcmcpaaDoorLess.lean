/-
  Contracts: bytes.Compare, and package sha's Less. My own work.
-/
import Derived.Test.YtgojheoelcmcpaaDoorTxt
import Derived.Lib.Bytealg
namespace Go.Proofs.YtgojheoelcmcpaaDoor
open Go.RowKit
theorem run_loadBytes {P : Program} {w : World} {g : Nat} : ∀ (l : List UInt8) (o : Nat) (acc : ByteArray), (∀ i (h : i < l.length), w.cell? ⟨g, o + i, none⟩ = some (oct l[i])) → (Extern.Bytes.loadBytes ⟨g, o, none⟩ l.length acc).run P w = .ok ⟨(acc.data.toList ++ l).toArray⟩ w
  | [], o, acc, _ => by simp [Extern.Bytes.loadBytes, Sem.run_pure]
  | x :: l, o, acc, h => by
    have h0 := h 0 (by simp)
    have ih := run_loadBytes (P := P) (w := w) (g := g) l (o + 1) (acc.push x) (fun i hi => by
      have := h (i + 1) (by simpa using hi)
      rw [show o + 1 + i = o + (i + 1) by omega]
      simpa using this)
    simp only [Nat.add_zero, List.getElem_cons_zero] at h0
    have hx : ((x.toNat : Int)).toNat.toUInt8 = x := by simp
    simp only [List.length_cons, Extern.Bytes.loadBytes, Sem.run_bind, add_plain]
    rw [show (load ⟨g, o, none⟩).run P w = .ok (oct x) w from by simp [h0, go_sem]]
    simp only [Result.andThen, hx]
    rw [ih]
    simp
theorem run_bytesOf {P : Program} {w : World} {A : Option Addr} {l : List UInt8} (h : Reads w A l) (c : Nat) : (Extern.Bytes.bytesOf (.slice A l.length c)).run P w = .ok ⟨l.toArray⟩ w := by
  rcases l with _ | ⟨x, l⟩
  · rcases A with _ | ⟨g, o, s⟩
    · rfl
    · rfl
  · obtain ⟨g, o, rfl, _⟩ := h 0 (by simp)
    have := run_loadBytes (P := P) (w := w) (g := g) (x :: l) o .empty (fun i hi => h.at i hi)
    simpa [Extern.Bytes.bytesOf] using this
theorem run_compareBytes {P : Program} {w : World} {A B : Option Addr} {l k : List UInt8} (h : Reads w A l) (h' : Reads w B k) (c d : Nat) :
    (Extern.BytealgCompare.compare #[.slice A l.length c, .slice B k.length d]).run P w = .ok (.int .i64 (Lib.compareBytes l k)) w := by
  change Sem.run P (do pure (goInt (Extern.BytealgCompare.cmp (← Extern.Bytes.bytesOf (.slice A l.length c)) (← Extern.Bytes.bytesOf (.slice B k.length d))))) w = _
  simp only [Sem.run_bind, run_bytesOf h, run_bytesOf h', Sem.run_pure, Result.andThen]
  rw [Lib.cmp_eq]
  rfl
theorem compare_c (A B : Option Addr) (l k : List UInt8) (c d : Nat) (w : World) (h : Reads w A l) (h' : Reads w B k) :
    Calls Tryd.prog 49 #[.slice A l.length c, .slice B k.length d] w fun e w' => e = .returned (.int .i64 (Lib.compareBytes l k)) ∧ w' = w := by
  have hr := run_compareBytes (P := Tryd.prog) h h' c d
  have H := Lib.hid (And.intro h h')
  clear h h'
  go_enter Tryd.func49, Tryd.ntmps49
  go_wp2
  rw [run_callFunc_extern Tryd.func69 (by kernel_rfl) (by kernel_rfl) (by kernel_rfl) (e := Extern.BytealgCompare.compare) (by kernel_rfl), hr]
  simp only [Result.andThen]
  rw [Oper.upon_value]
  go_wp2
  go_ret
  exact ⟨rfl, rfl⟩
theorem exec_whole {P : Program} {v : World} {o : Oper} {ρ : Operand → Value} {t e : TypeId} {x : Operand} {g m : Nat} (hu : P.underlying t = some (.array m e)) (he : (P.info? e).map (·.size) = some 1) (ho : o.op = .slice t x none none none) (hx : ρ x = .pointer (some ⟨g, 0, none⟩)) :
    (execOp ρ o).run P v = .ok (.value (.slice (some ⟨g, 0, none⟩) m m)) v := by
  unfold execOp
  cases hq : P.info? e with
  | none => rw [hq] at he; cases he
  | some it => simp [ho, hx, Instr.sliceAt, Instr.sliceBounds, Sem.run_bind, run_underlying hu, go_sem, sizeOf, typeInfo, hq]
theorem exec_lss {P : Program} {v : World} {o : Oper} {ρ : Operand → Value} {t t' : TypeId} {x y : Operand} {k : IntKind} {a b : Int} (ho : o.op = .binOp .lss t x y t') (hx : ρ x = .int k a) (hy : ρ y = .int k b) : (execOp ρ o).run P v = .ok (.value (.bool (decide (a < b)))) v := by
  unfold execOp
  simp [ho, hx, hy, go_sem]
def lessN (a b : List UInt8) : Bool := decide (Lib.compareBytes a b < 0)
set_option maxRecDepth 100000 in
set_option maxHeartbeats 1000000 in
theorem less_c (a b : List UInt8) (ha : a.length = 32) (hb : b.length = 32) (w : World) :
    Calls Tryd.prog 30 #[.agg (a.map oct).toArray, .agg (b.map oct).toArray] w fun e w' => e = .returned (.bool (lessN a b)) ∧ Mod [] w w' := by
  have HB := Lib.hid (And.intro ha hb)
  clear ha hb
  go_enter Tryd.func30, Tryd.ntmps30
  go_wp2_with (first
    | (with_reducible refine wpList_boxes (o := ⟨some 2, .box 40 (.tmp 0), _, _, _, _⟩) rfl 40 (.tmp 0) rfl _ rfl (a.map oct) rfl ?_; intro w1 hb1 m1 z1; replace z1 := Lib.hid z1)
    | (with_reducible refine wpList_boxes (o := ⟨some 3, .box 40 (.tmp 1), _, _, _, _⟩) rfl 40 (.tmp 1) rfl _ rfl (b.map oct) rfl ?_; intro w2 hb2 m2 z2; replace z2 := Lib.hid z2))
  obtain ⟨g2, e1⟩ : ∃ b, b = w.heap.size := ⟨_, rfl⟩
  obtain ⟨g3, e3⟩ : ∃ b, b = w1.heap.size := ⟨_, rfl⟩
  have mm := m1.then m2
  replace hb1 := hb1.keep m2 (by simp)
  rw [← e1] at hb1
  rw [← e3] at hb2
  rw [← e1, ← e3]
  clear e1 e3 m1 m2 z1 z2
  refine wp_region_lit1 [.agg (a.map oct).toArray, .agg (b.map oct).toArray, .pointer (some ⟨g2, 0, none⟩), .pointer (some ⟨g3, 0, none⟩), .bool (lessN a b), .slice (some ⟨g2, 0, none⟩) 32 32, .slice (some ⟨g3, 0, none⟩) 32 32, .int .i64 (Lib.compareBytes a b), .bool (lessN a b)] 9 [0, 1, 2, 3]
    (fun _ v => Mod [] w2.drew v) []
    (by kernel_rfl) rfl rfl rfl rfl (Mod.refl _ _) (by kernel_rfl) (by kernel_rfl) ?step ?fin
  case step =>
    intro lz T v j o hj hlj hdep hst hpar hgot hcl K hK
    have hjn : j < 5 := (Array.getElem?_eq_some_iff.1 hj).1
    obtain rfl | rfl | rfl | rfl | rfl : j = 0 ∨ j = 1 ∨ j = 2 ∨ j = 3 ∨ j = 4 := by omega
    all_goals (have hj' := Option.some.inj (hj : some _ = some o); subst hj'; clear hj)
    · exact wp_ran rfl (exec_whole Tryd.underlying40 u8_one rfl (eval_tmp (hpar 2 (by simp)))) (hK _ _ (fun s hs => by cases hs; rfl) hst)
    · exact wp_ran rfl (exec_whole Tryd.underlying40 u8_one rfl (eval_tmp (hpar 3 (by simp)))) (hK _ _ (fun s hs => by cases hs; rfl) hst)
    · have C := compare_c (some ⟨g2, 0, none⟩) (some ⟨g3, 0, none⟩) a b 32 32 v (Reads.of_holds (Holds.keep (w := w2.drew) hb1 hst (by simp))) (Reads.of_holds (Holds.keep (w := w2.drew) hb2 hst (by simp)))
      rw [HB.out.1, HB.out.2] at C
      exact wp_called rfl (exec_call2 rfl rfl (eval_tmp (hgot 0 _ 5 rfl (hdep ⟨0, .data⟩ (by simp) rfl) rfl)) (eval_tmp (hgot 1 _ 6 rfl (hdep ⟨1, .data⟩ (by simp) rfl) rfl)) (enters_of Tryd.func49 (by kernel_rfl) rfl)) (C.mono (fun e v' hh => ⟨_, hh.1, hK _ _ (fun s hs => by cases hs; rfl) (by rw [hh.2]; exact hst)⟩))
    · exact wp_ran rfl (exec_lss rfl (eval_tmp (hgot 2 _ 7 rfl (hdep ⟨2, .data⟩ (by simp) rfl) rfl)) rfl) (hK _ _ (fun s hs => by cases hs; rfl) hst)
    · exact wp_ran rfl (exec_assign rfl (eval_tmp (hgot 3 _ 8 rfl (hdep ⟨3, .data⟩ (by simp) rfl) rfl))) (hK _ _ (fun s hs => by cases hs; rfl) hst)
  case fin =>
    intro lz v hl hst
    have mn := mm.then hst.drewed
    clear hst hl
    try dsimp only
    go_wp2_with fail
    go_ret
    exact ⟨rfl, mn⟩
end Go.Proofs.YtgojheoelcmcpaaDoor
