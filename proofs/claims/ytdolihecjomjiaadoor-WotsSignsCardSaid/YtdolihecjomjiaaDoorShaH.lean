/-
  Contracts of package sha: filledUp, Pad, Start, Constants. My own work.
-/
import Derived.Test.YtdolihecjomjiaaDoorShaG
namespace Go.Proofs.YtdolihecjomjiaaDoor
open Go.RowKit
set_option maxRecDepth 100000 in
theorem wp_copied {P : Program} {v : World} {o : Oper} {ops : Array Oper} {T : Act} {Kq : Act → World → Prop} {Q : Exit → Act → World → Prop} {E : Prop} {t s e : TypeId} {x y : Operand} {g f n c n' c' : Nat} {ad : Addr} {T' : TypeId} {old : List Value} {l : List UInt8} (hg : o.guard = none) (hu : P.underlying t = some (.slice e)) (he : (P.info? e).map (·.size) = some 1) (ho : o.op = .call { callee := .builtin .copy, args := #[x, y], argTypes := #[t, s] }) (hx : T.eval x = .slice (some ⟨g, f, none⟩) n c) (hy : T.eval y = .slice (some ad) n' c') (hh : Holds v g T' old) (hn : l.length = n') (hn' : l.length ≤ n) (hr : Reads v (some ad) l) (hp : 0 < l.length) (hfit : f + l.length ≤ old.length)
    (hK : ∀ v', Holds v' g T' (old.take f ++ (l.map oct ++ old.drop (f + l.length))) → Mod [g] v v' → Kq (T.put o.dst (.int .i64 (l.length : Int))) v') : if Region.wanted o (yielded ops T.tmps) = true then o.wp P T v Kq Q else E := by
  obtain ⟨v', hr', q1, q2⟩ := exec_copy hu he ho hx hy hh hn hn' hr hp hfit
  exact wp_ran hg hr' (hK v' q1 q2)
set_option maxRecDepth 100000 in
theorem frm_at (g o k c : Nat) (h : c ≠ k) : frm (some ⟨g, o, none⟩) k c = some ⟨g, o + k, none⟩ := by
  unfold frm
  rw [if_neg h, Option.map_some, add_plain]
/-- How many bytes, filled up. -/
def fillM (n : Nat) : Nat := (n + 72) / 64 * 64
/-- How many bits, as a number of 64 bits. -/
def len8 (len : Nat) : Nat := 8 * len % 18446744073709551616
set_option maxRecDepth 100000 in
theorem len8_lt (len : Nat) : len8 len < 18446744073709551616 := Nat.mod_lt _ (by decide)
/-- The end of a row of len bytes, filled up. -/
def fillN (bb : List UInt8) (len : Nat) : List UInt8 := bb ++ [128] ++ List.replicate (fillM bb.length - bb.length - 9) 0 ++ hi (len8 len) 8
set_option maxRecDepth 100000 in
theorem fillM_le (n : Nat) : n + 9 ≤ fillM n ∧ fillM n ≤ n + 72 := by unfold fillM; omega
set_option maxRecDepth 100000 in
theorem fillN_length (bb : List UInt8) (len : Nat) : (fillN bb len).length = fillM bb.length := by
  have := fillM_le bb.length
  simp [fillN, hi_length]; omega
/-- Something is made, once it is. -/
def Mk (z : Nat) (ty : TypeId) (cs : List Value) (x : Nat) (d : Bool) (v : World) : Prop := d = true → z ≤ x ∧ Holds v x ty cs
set_option maxRecDepth 100000 in
theorem Mk.not {z : Nat} {ty : TypeId} {cs : List Value} {x : Nat} {v : World} : Mk z ty cs x false v := fun h => by cases h
set_option maxRecDepth 100000 in
theorem Mk.keep {z : Nat} {ty : TypeId} {cs : List Value} {x : Nat} {d : Bool} {v v' : World} (h : Mk z ty cs x d v) (m : Mod [] v v') : Mk z ty cs x d v' := fun e => ⟨(h e).1, (h e).2.keep m (by simp)⟩
set_option maxRecDepth 100000 in
theorem Sto.keep2 {n j : Nat} {A B : World → Prop} {lz : Nat → Bool} (h : lz n = false) (hj : j < n) {v' : World} (h' : A v') : Sto n A B (fun i => if i = j then true else lz i) v' := by
  refine .inl ⟨?_, h'⟩
  show (if n = j then true else lz n) = false
  rw [if_neg (by omega)]; exact h
set_option maxRecDepth 100000 in
theorem sub_big (n k : Nat) (hk : k ≤ n) (hn : n ≤ 9223372036854775807) : IntKind.i64.wrap ((n : Int) - (k : Int)) = ((n - k : Nat) : Int) := by
  simp [IntKind.wrap, IntKind.bits, IntKind.signed]; omega
set_option maxRecDepth 100000 in
theorem conv_len (n : Nat) (hn : n ≤ 9223372036854775807) (w : World) : (convert 3 78 (.int .i64 (n : Int))).run Tryd.prog w = .ok (.int .u64 (n : Int)) w := by
  have h : (convert 3 78 (.int .i64 (n : Int))).run Tryd.prog w = .ok (.int .u64 (IntKind.u64.wrap (n : Int))) w := by go_simp
  rw [h, IntKind.wrap_u64]
  congr 2
  omega
set_option maxRecDepth 100000 in
theorem mul_u64 (a b : Nat) : IntKind.u64.wrap ((a : Int) * (b : Int)) = ((a * b % 18446744073709551616 : Nat) : Int) := by
  rw [IntKind.wrap_u64, ← Int.natCast_mul]
  generalize a * b = z
  omega
set_option maxRecDepth 100000 in
theorem fill_end (bb : List UInt8) (len : Nat) : ((bb ++ [128] ++ List.replicate (fillM bb.length - bb.length - 1) 0).take (fillM bb.length - 8)).map oct ++ ((hi (len8 len) 8).map oct ++ ((bb ++ [128] ++ List.replicate (fillM bb.length - bb.length - 1) 0).drop (fillM bb.length - 8 + 8)).map oct) = (fillN bb len).map oct := by
  have := fillM_le bb.length
  rw [List.drop_eq_nil_of_le (by simp; omega)]
  rw [List.take_append, List.take_of_length_le (by simp; omega)]
  simp only [List.map_nil, List.append_nil, ← List.map_append]
  congr 1
  unfold fillN
  congr 1
  rw [List.take_replicate]
  congr 1
  simp; congr 1; omega
set_option maxRecDepth 100000 in
theorem fill_facts (bb : List UInt8) (M : Nat) (w w1 w2 : World) (hM : bb.length + 9 ≤ M) (hw2 : Holds w2 w.heap.size 5 (List.map oct bb ++ List.drop bb.length (List.replicate M (oct 0)))) (hm1 : Mod [] w w1) (hm2 : Mod [w.heap.size] w1 w2) :
    Holds w2 w.heap.size 5 ((bb ++ List.replicate (M - bb.length) 0).map oct) ∧ w2.cell? ⟨w.heap.size, bb.length, none⟩ = some (oct 0) ∧ w2.frozen? ⟨w.heap.size, bb.length, none⟩ = false ∧
      Holds (w2.setCell ⟨w.heap.size, bb.length, none⟩ (oct 128)) w.heap.size 5 ((bb ++ [128] ++ List.replicate (M - bb.length - 1) 0).map oct) ∧ Mod [] w (w2.setCell ⟨w.heap.size, bb.length, none⟩ (oct 128)) := by
  have e2 : List.map oct bb ++ List.drop bb.length (List.replicate M (oct 0)) = (bb ++ List.replicate (M - bb.length) 0).map oct := by
    simp [List.drop_replicate]
  rw [e2] at hw2
  have hcell := hw2.cell bb.length
  rw [List.getElem?_map, List.getElem?_append_right (Nat.le_refl _), Nat.sub_self, List.getElem?_replicate, if_pos (by omega)] at hcell
  have hset := hw2.set bb.length (oct 128)
  rw [List.map_append, List.map_replicate, set_at _ _ _ _ _ (by simp) (by omega)] at hset
  have e3 : List.map oct bb ++ [oct 128] ++ List.replicate (M - bb.length - 1) (oct 0) = (bb ++ [128] ++ List.replicate (M - bb.length - 1) 0).map oct := by simp
  rw [e3] at hset
  have mm : Mod [] w w2 := hm1.trans hm2 (by intro i hi hm; simp at hm; omega)
  exact ⟨hw2, hcell, hw2.free _, hset, mm.trans (Mod.setCell (ms := [w.heap.size]) w2 (by simp) _) (by intro i hi hm; simp at hm; omega)⟩
set_option maxRecDepth 1000000 in
set_option maxHeartbeats 8000000 in
theorem fill_c (Ad : Option Addr) (bb : List UInt8) (n cap len : Nat) (hn : n = bb.length) (hb : bb.length ≤ 140737488355000) (hlen : len ≤ 9223372036854775807) (w : World) (R : Reads w Ad bb) :
    Calls Tryd.prog 40 #[.slice Ad n cap, .int .i64 (len : Int)] w fun e w' => ∃ g, e = .returned (.slice (some ⟨g, 0, none⟩) (fillM bb.length) (fillM bb.length)) ∧ w.heap.size ≤ g ∧ Holds w' g 5 ((fillN bb len).map oct) ∧ Mod [] w w' := by
  subst hn
  have hM := fillM_le bb.length
  obtain ⟨M, hMe⟩ : ∃ M, M = fillM bb.length := ⟨_, rfl⟩
  have hM1 : (((bb.length : Int) + 9 + 64 - 1) / 64 * 64) = (M : Int) := by rw [hMe]; unfold fillM; omega
  have hfe := fill_end bb len
  have hfl := fillN_length bb len
  rw [← hMe] at hM hfe hfl ⊢
  obtain ⟨L8, hL8⟩ : ∃ z, z = len8 len := ⟨_, rfl⟩
  have hL9 := len8_lt len
  rw [← hL8] at hfe hL9
  have HH := Lib.hid (And.intro hfe (And.intro hfl (And.intro hlen (And.intro hL8 hL9))))
  clear hMe hfe hfl hL8 hL9
  obtain ⟨i0, hi0, hz0, hz1, hz2⟩ := info_parts u8_zero
  have hi0' := Lib.hid (And.intro hi0 (And.intro hz0 (And.intro hz1 hz2)))
  clear hi0 hz0 hz1 hz2
  go_enter Tryd.func40, Tryd.ntmps40
  go_wp2_with (first
    | (at_make; go_loud (refine wpList_makes _ rfl _ _ 58 rfl 5 i0 (.int .u8 0) Tryd.underlying58 hi0'.out.1 hi0'.out.2.1 hi0'.out.2.2.1 1 hi0'.out.2.2.2 rfl .i64 .i64 _ _ M rfl rfl rfl rfl (by omega) (by unfold maxLen; omega) ?_); intro w1 hw1 hm1 hs1; replace hs1 := Lib.hid hs1)
    | (with_reducible refine wpList_copies (o := ⟨some 18, _, _, _, _, _⟩) rfl (.tmp 16) (.tmp 17) 58 58 rfl 5 Tryd.underlying58 u8_one _ _ _ _ bb _ _ rfl rfl rfl _ _ hw1 (R.keep hm1 (fun _ _ => by simp)) (by simp; omega) (by omega) ?_; intro w2 hw2 hm2 hs2; replace hs2 := Lib.hid hs2
       obtain ⟨hw2, hcell, hfree, hset, ms⟩ := fill_facts bb M w w1 w2 hM.1 hw2 hm1 hm2
       clear hw1 hm1 hm2 hs1 hs2))
  have hs3 : Holds (w2.setCell ⟨w.heap.size, bb.length, none⟩ (.int .u8 128)) w.heap.size 5 ((bb ++ [128] ++ List.replicate (M - bb.length - 1) 0).map oct) := hset
  have ms3 : Mod [] w (w2.setCell ⟨w.heap.size, bb.length, none⟩ (.int .u8 128)) := ms
  clear hset ms hcell hfree hw2 hM1


  generalize w2.setCell ⟨w.heap.size, bb.length, none⟩ (.int .u8 128) = w3 at hs3 ms3 ⊢
  obtain ⟨g, e1⟩ : ∃ b, b = w.heap.size := ⟨_, rfl⟩
  have hgz : w.heap.size ≤ g := by omega
  rw [← e1] at hs3 ⊢
  clear e1
  have hq8 : M - (M - 8) = 8 := by omega
  have HM := Lib.hid (And.intro hM (And.intro hb (And.intro hlen hq8)))
  clear hM hb hlen hq8
  refine wp_region_lit (X := Nat) 0 (fun x => [.slice Ad bb.length cap, .int .i64 (len : Int), undef, undef, .slice none 0 0, .int .i64 (((bb.length : Int) + 9 + 64 - 1) / 64), .slice (some ⟨g, 0, none⟩) M M, .slice Ad bb.length cap, .int .i64 (bb.length : Int), .int .i64 ((bb.length : Int) + 9), .int .i64 ((bb.length : Int) + 9 + 64), .int .i64 ((bb.length : Int) + 9 + 64 - 1), .int .i64 (((bb.length : Int) + 9 + 64 - 1) / 64), .int .i64 (((bb.length : Int) + 9 + 64 - 1) / 64), .int .i64 (M : Int), .slice (some ⟨g, 0, none⟩) M M, .slice (some ⟨g, 0, none⟩) M M, .slice Ad bb.length cap, .int .i64 (bb.length : Int), .slice (some ⟨g, 0, none⟩) M M, .slice Ad bb.length cap, .int .i64 (bb.length : Int), .pointer (some ⟨g, bb.length, none⟩), .slice (some ⟨g, 0, none⟩) M M, .slice (some ⟨g, 0, none⟩) M M, .int .i64 (M : Int), .int .i64 ((M - 8 : Nat) : Int), .slice (frm (some ⟨g, 0, none⟩) (M - 8) M) (M - (M - 8)) (M - (M - 8)), .int .i64 (len : Int), .int .u64 (len : Int), .int .u64 (L8 : Int), .slice (some ⟨x, 0, none⟩) 8 8, .int .i64 8, undef]) 34 [0, 1, 2, 3, 4, 5, 6, 7, 8, 9, 10, 11, 12, 13, 14, 15, 16, 17, 18, 19, 20, 21, 22, 33]
    (fun x lz v => Sto 9 (fun v => Mk w3.drew.heap.size 5 ((hi L8 8).map oct) x (lz 8) v ∧ Mod [] w3.drew v) (fun v => Holds v g 5 ((fillN bb len).map oct) ∧ Mod [g] w3.drew v) lz v) []
    (by kernel_rfl) (fun _ => rfl) rfl rfl rfl (fun _ => by simp only [List.map_cons, List.map_nil, List.getD_cons_zero, List.getD_cons_succ]) (Sto.start ⟨Mk.not, Mod.refl _ _⟩) (by kernel_rfl) (by kernel_rfl) ?step ?fin
  case step =>
    intro x lz T v j o hj hlj hdep hst hpar hgot hcl K hK
    have hjn : j < 10 := (Array.getElem?_eq_some_iff.1 hj).1
    have hq := fun h => Sto.now (j := j) hst hlj h
    obtain rfl | rfl | rfl | rfl | rfl | rfl | rfl | rfl | rfl | rfl : j = 0 ∨ j = 1 ∨ j = 2 ∨ j = 3 ∨ j = 4 ∨ j = 5 ∨ j = 6 ∨ j = 7 ∨ j = 8 ∨ j = 9 := by omega
    all_goals (have hj' := Option.some.inj (hj : some _ = some o); subst hj'; clear hj)
    · exact wp_ran rfl (exec_move rfl (eval_tmp (hpar 6 (by simp)))) (hK x _ _ (fun _ _ _ _ _ _ => rfl) (fun s hs => by cases hs; rfl) (Sto.keep2 (hq (by decide)).1 (by decide) (hq (by decide)).2))
    · exact wp_ran rfl (exec_move rfl (eval_tmp (hpar 6 (by simp)))) (hK x _ _ (fun _ _ _ _ _ _ => rfl) (fun s hs => by cases hs; rfl) (Sto.keep2 (hq (by decide)).1 (by decide) (hq (by decide)).2))
    · exact wp_ran rfl (exec_len Tryd.underlying58 rfl (eval_tmp (hgot 1 _ 24 rfl (hdep ⟨1, .data⟩ (by simp) rfl) rfl))) (hK x _ _ (fun _ _ _ _ _ _ => rfl) (fun s hs => by cases hs; rfl) (Sto.keep2 (hq (by decide)).1 (by decide) (hq (by decide)).2))
    · exact wp_ran rfl (exec_sub rfl (eval_tmp (hgot 2 _ 25 rfl (hdep ⟨2, .data⟩ (by simp) rfl) rfl)) rfl (sub_big M 8 (by have := HM.out; omega) (by have := HM.out; omega))) (hK x _ _ (fun _ _ _ _ _ _ => rfl) (fun s hs => by cases hs; rfl) (Sto.keep2 (hq (by decide)).1 (by decide) (hq (by decide)).2))
    · exact wp_ran rfl (exec_from Tryd.underlying58 u8_one (by omega) rfl (eval_tmp (hgot 0 _ 23 rfl (hdep ⟨0, .data⟩ (by simp) rfl) rfl)) (eval_tmp (hgot 3 _ 26 rfl (hdep ⟨3, .data⟩ (by simp) rfl) rfl))) (hK x _ _ (fun _ _ _ _ _ _ => rfl) (fun s hs => by cases hs; rfl) (Sto.keep2 (hq (by decide)).1 (by decide) (hq (by decide)).2))
    · exact wp_ran rfl (exec_move rfl (eval_tmp (hpar 1 (by simp)))) (hK x _ _ (fun _ _ _ _ _ _ => rfl) (fun s hs => by cases hs; rfl) (Sto.keep2 (hq (by decide)).1 (by decide) (hq (by decide)).2))
    · exact wp_ran rfl (exec_convi rfl (eval_tmp (hgot 5 _ 28 rfl (hdep ⟨5, .data⟩ (by simp) rfl) rfl)) (conv_len len HM.out.2.2.1 _)) (hK x _ _ (fun _ _ _ _ _ _ => rfl) (fun s hs => by cases hs; rfl) (Sto.keep2 (hq (by decide)).1 (by decide) (hq (by decide)).2))
    · exact wp_ran rfl (exec_mul rfl rfl (eval_tmp (hgot 6 _ 29 rfl (hdep ⟨6, .data⟩ (by simp) rfl) rfl)) (show IntKind.u64.wrap ((8 : Int) * (len : Int)) = (L8 : Int) by rw [HH.out.2.2.2.1]; exact mul_u64 8 len)) (hK x _ _ (fun _ _ _ _ _ _ => rfl) (fun s hs => by cases hs; rfl) (Sto.keep2 (hq (by decide)).1 (by decide) (hq (by decide)).2))
    · have hh0 : lz 8 = false := hlj
      exact wp_called rfl (exec_call2 rfl rfl rfl (eval_tmp (hgot 7 _ 30 rfl (hdep ⟨7, .data⟩ (by simp) rfl) rfl)) (enters_of Tryd.func45 (by kernel_rfl) rfl)) ((put64_c none [] 0 L8 v (by simp) (Reads.nil _ _) HH.out.2.2.2.2).mono (fun e v' hh => ⟨_, hh.1, hK v.heap.size _ _ (fun j' o' s' h1 h2 h3 => by
              clear hst hpar hgot hdep hcl hK
              have h4 : j' < 10 := (Array.getElem?_eq_some_iff.1 h1).1
              obtain rfl | rfl | rfl | rfl | rfl | rfl | rfl | rfl | rfl | rfl : j' = 0 ∨ j' = 1 ∨ j' = 2 ∨ j' = 3 ∨ j' = 4 ∨ j' = 5 ∨ j' = 6 ∨ j' = 7 ∨ j' = 8 ∨ j' = 9 := by omega
              all_goals (cases h1; cases h3 <;> first | rfl | (rw [hlj] at h2; cases h2))) (fun s hs => by cases hs; rfl) (Sto.keep2 (hq (by decide)).1 (by decide) ⟨fun _ => ⟨(hq (by decide)).2.2.size, hh.2.1⟩, (hq (by decide)).2.2.then hh.2.2⟩)⟩))
    · have h8 : lz 8 = true := hdep ⟨8, .data⟩ (by simp) rfl
      have hA := (hq (by decide)).2
      have hx := hA.1 h8
      have hD : Holds v g 5 ((bb ++ [128] ++ List.replicate (M - bb.length - 1) 0).map oct) := Holds.keep (w := w3.drew) hs3 hA.2 (by simp)
      have hE : T.eval (.tmp 27) = .slice (some ⟨g, 0 + (M - 8), none⟩) 8 8 := (show T.eval (.tmp 27) = .slice (frm (some ⟨g, 0, none⟩) (M - 8) M) (M - (M - 8)) (M - (M - 8)) from (eval_tmp (hgot 4 _ 27 rfl (hdep ⟨4, .data⟩ (by simp) rfl) rfl))).trans (by rw [frm_at _ _ _ _ (by have := HM.out; omega), HM.out.2.2.2])
      refine wp_copied (l := hi L8 8) rfl Tryd.underlying58 u8_one rfl hE (eval_tmp (hgot 8 _ 31 rfl (hdep ⟨8, .data⟩ (by simp) rfl) rfl)) hD (by rw [hi_length]) (by rw [hi_length]; omega) (Reads.of_holds hx.2) (by rw [hi_length]; omega) (by rw [hi_length]; have := HM.out; simp; omega) (fun v' n1 n2 => ?_)
      rw [hi_length] at n1
      rw [Nat.zero_add, ← List.map_take, ← List.map_drop, HH.out.1] at n1
      exact hK x _ v' (fun _ _ _ _ _ _ => rfl) (fun s hs => by cases hs; rw [hi_length]; rfl) (Sto.done (reach_all (by kernel_rfl) hcl rfl hdep) ⟨n1, hA.2.pre n2⟩)
  case fin =>
    intro x lz v hl hst
    obtain ⟨n1, nm⟩ := Sto.fin hst hl (by decide)
    have mn : Mod [] w v := ⟨nm.os.trans ms3.os, nm.tape.trans ms3.tape, nm.output.trans ms3.output, Nat.le_trans ms3.size nm.size, fun i hi _ => by
      rw [nm.block i (Nat.lt_of_lt_of_le hi ms3.size) (by simp; omega), show w3.drew.heap[i]? = w3.heap[i]? from rfl, ms3.block i hi (by simp)]⟩
    clear hst hl nm hs3 ms3
    try dsimp only
    go_wp2_with fail
    go_ret
    exact ⟨g, rfl, hgz, n1, mn⟩
end Go.Proofs.YtdolihecjomjiaaDoor
