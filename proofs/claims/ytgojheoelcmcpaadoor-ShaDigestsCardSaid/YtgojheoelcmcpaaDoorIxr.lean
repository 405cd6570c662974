/-
  strings.IndexRune over the sixteen digits, whatever the rune. Contracts of mine.
-/
import Derived.Test.YtgojheoelcmcpaaDoorStr
import Derived.Laws.Runes
namespace Go.Proofs.YtgojheoelcmcpaaDoor
open Go.RowKit
theorem ixs_c (s : ByteArray) (c : Int) (w : World) : Calls Tryd.prog 76 #[.string s, .int .u8 c] w fun e w' => e = .returned (.int .i64 (Lib.indexByte s.data.toList c.toNat.toUInt8)) ∧ w' = w := by
  have hr := Lib.run_indexByteString (P := Tryd.prog) s c w
  go_enter Tryd.func76, Tryd.ntmps76
  go_wp2
  rw [run_callFunc_extern Tryd.func79 (by kernel_rfl) (by kernel_rfl) (by kernel_rfl) (e := Extern.BytealgIndexByte.indexByte) (by kernel_rfl), hr]
  simp only [Result.andThen]
  rw [Oper.upon_value]
  go_wp2
  go_ret
  exact ⟨rfl, rfl⟩
theorem ixb_c (s : ByteArray) (c : Int) (w : World) : Calls Tryd.prog 65 #[.string s, .int .u8 c] w fun e w' => e = .returned (.int .i64 (Lib.indexByte s.data.toList c.toNat.toUInt8)) ∧ w' = w := by
  go_enter Tryd.func65, Tryd.ntmps65
  go_wp2_with fail
  refine (ixs_c s c _).mono ?_
  rintro e w1 ⟨rfl, rfl⟩
  go_wp2
  go_ret
  exact ⟨rfl, rfl⟩
theorem vrune_c (r : Nat) (w : World) : Calls Tryd.prog 66 #[.int .i32 (r : Int)] w fun e w' => e = .returned (.bool (Utf8.valid (r : Int))) ∧ w' = w := by
  rw [validRune_eq]
  by_cases h1 : r < 55296
  · have hz : (r : Int) < 55296 := by omega
    have hv : validRune (r : Int) = true := decide_eq_true (by omega)
    rw [hv]
    clear hv h1
    go_enter Tryd.func66, Tryd.ntmps66
    go_wp2
    go_ret
    exact ⟨rfl, rfl⟩
  · have hz : ¬ (r : Int) < 55296 := by omega
    by_cases h2 : 57343 < r
    · have hz2 : (57343 : Int) < (r : Int) := by omega
      have hv : validRune (r : Int) = decide ((r : Int) ≤ 1114111) := by
        unfold validRune; by_cases h3 : (r : Int) ≤ 1114111
        · rw [decide_eq_true h3]; exact decide_eq_true (by omega)
        · rw [decide_eq_false h3]; exact decide_eq_false (by omega)
      rw [hv]
      clear hv h1 h2
      by_cases h3 : (r : Int) ≤ 1114111
      · go_enter Tryd.func66, Tryd.ntmps66
        go_wp2
        go_ret
        first | exact ⟨rfl, rfl⟩ | exact ⟨by simp [h3], rfl⟩
      · go_enter Tryd.func66, Tryd.ntmps66
        go_wp2
        go_ret
        first | exact ⟨rfl, rfl⟩ | exact ⟨by simp [h3], rfl⟩
    · have hz2 : ¬ (57343 : Int) < (r : Int) := by omega
      have hv : validRune (r : Int) = false := decide_eq_false (by omega)
      rw [hv]
      clear hv h1 h2
      go_enter Tryd.func66, Tryd.ntmps66
      go_wp2
      go_ret
      exact ⟨rfl, rfl⟩
set_option maxRecDepth 100000 in
set_option maxHeartbeats 4000000 in
theorem ixr_low (b : UInt8) (hb : b.toNat < 128) (w : World) : Calls Tryd.prog 47 #[.string { data := #[48, 49, 50, 51, 52, 53, 54, 55, 56, 57, 97, 98, 99, 100, 101, 102] }, .int .i32 (b.toNat : Int)] w fun e w' => e = .returned (.int .i64 (if dv b < 16 then (dv b : Int) else -1)) ∧ w' = w := by
  have hz : (b.toNat : Int) < 128 := by omega
  have hI := index_dgs b
  have hc := fun v => ixb_c { data := #[48, 49, 50, 51, 52, 53, 54, 55, 56, 57, 97, 98, 99, 100, 101, 102] } (b.toNat : Int) v
  have e1 : ((b.toNat : Int)).toNat.toUInt8 = b := by simp
  rw [e1] at hc
  have hc' : ∀ v, Calls Tryd.prog 65 #[.string { data := #[48, 49, 50, 51, 52, 53, 54, 55, 56, 57, 97, 98, 99, 100, 101, 102] }, .int .u8 (b.toNat : Int)] v fun e w' => e = .returned (.int .i64 (if dv b < 16 then (dv b : Int) else -1)) ∧ w' = v := fun v => by
    rw [← hI]; exact hc v
  obtain ⟨z, hzz⟩ : ∃ z : Int, z = (if dv b < 16 then (dv b : Int) else -1) := ⟨_, rfl⟩
  rw [← hzz] at hc' ⊢
  have HC := Lib.hid hc'
  clear hc hc' hI e1 hb hzz
  go_enter Tryd.func47, Tryd.ntmps47
  go_wp2_with fail
  refine (HC.out _).mono ?_
  rintro e w1 ⟨rfl, rfl⟩
  go_wp2
  go_ret
  exact ⟨rfl, rfl⟩
theorem dgs_ascii : ∀ b ∈ dgs.data.toList, b.toNat < 128 := by decide
theorem dgs_size : dgs.size = 16 := rfl
theorem index_none (l : List UInt8) (c : UInt8) (hl : ∀ b ∈ l, b.toNat < 128) (hc : 128 ≤ c.toNat) : Lib.indexByte l c = -1 := by
  have h := Lib.firstIdx_eq ⟨l.toArray⟩ c
  have h2 := firstIdx_none ⟨l.toArray⟩ c (fun b hb hbc => by have := hl b (by simpa using hb); rw [hbc] at this; omega)
  rw [h2] at h
  simpa using h.symm
set_option maxRecDepth 100000 in
set_option maxHeartbeats 4000000 in
theorem ixr_bad (w : World) : Calls Tryd.prog 47 #[.string { data := #[48, 49, 50, 51, 52, 53, 54, 55, 56, 57, 97, 98, 99, 100, 101, 102] }, .int .i32 65533] w fun e w' => e = .returned (.int .i64 (-1)) ∧ Mod [] w w' := by
  go_enter Tryd.func47, Tryd.ntmps47
  go_wp2_with (with_reducible refine wpList_rangeS (o := ⟨some 175, .range 9 (.tmp 174), _, _, _, _⟩) rfl 9 (.tmp 174) rfl Tryd.underlying9 dgs rfl ?_; intro w3 hi3 m3 z3; replace z3 := Lib.hid z3)
  simp only [Act.put, List.setIfInBounds_toArray, List.set_cons_succ, List.set_cons_zero]
  go_loopw [] (fun wi => ∃ k : Nat, k ≤ 16 ∧ StrIt wi w.heap.size dgs k ∧ Mod [] w wi) (fun wi => 16 - wi.iterPos w.heap.size)
  case atStart => exact ⟨0, by omega, hi3, m3⟩
  case round =>
    obtain ⟨k, hk, hi, mm⟩ := hrel
    clear hi3 m3
    by_cases hlt : k < 16
    · have ha : (dgs[k]'hlt).toNat < 128 := dgs_ascii _ (by rw [get_of dgs k hlt, ← at_getD _ k (by exact hlt)]; exact List.getElem_mem _)
      have hlt' : k < dgs.size := hlt
      have hde := decode_ascii dgs k hlt ha
      generalize (dgs[k]'hlt).toNat = rn at ha hde
      have hz : ((rn : Int) == 65533) = false := by simp; omega
      go_wp2_with (with_reducible refine wpList_nextS (o := ⟨some 176, .next (.tmp 175) true, _, _, _, _⟩) rfl (.tmp 175) rfl w.heap.size k dgs rfl hi hlt' rn 1 hde ?_; intro w5 hi5 m5 z5; replace z5 := Lib.hid z5)
      have m6 : Mod [] w w5 := mm.trans m5 (by intro i hi h; simp at h; omega)
      have hmi : w5.iterPos w.heap.size = k + 1 := by unfold World.iterPos; unfold StrIt at hi5; rw [hi5]
      have hmr : wr.iterPos w.heap.size = k := by unfold World.iterPos; unfold StrIt at hi; rw [hi]
      exact ⟨⟨k + 1, hlt, hi5, m6⟩, by rw [hmi, hmr]; omega⟩
    · have hlt' : ¬ k < dgs.size := hlt
      go_wp2_with (with_reducible refine wpList_nextS_end (o := ⟨some 176, .next (.tmp 175) true, _, _, _, _⟩) rfl (.tmp 175) rfl w.heap.size k dgs rfl hi hlt' ?_)
      go_ret
      exact ⟨rfl, mm⟩
set_option maxRecDepth 1000000 in
set_option maxHeartbeats 4000000 in
theorem ixr_high (r : Nat) (h1 : 128 ≤ r) (w : World) : Calls Tryd.prog 47 #[.string { data := #[48, 49, 50, 51, 52, 53, 54, 55, 56, 57, 97, 98, 99, 100, 101, 102] }, .int .i32 (r : Int)] w fun e w' => e = .returned (.int .i64 (-1)) ∧ Mod [] w w' := by
  by_cases h2 : r = 65533
  · subst h2
    exact ixr_bad w
  have hz1 : ¬ (r : Int) < 128 := by omega
  have hz2 : ((r : Int) == 65533) = false := by simp; omega
  have hv := fun v => vrune_c r v
  cases hvv : Utf8.valid (r : Int) with
  | false =>
    rw [hvv] at hv
    have HV := Lib.hid hv
    clear hv hvv h1 h2
    go_enter Tryd.func47, Tryd.ntmps47
    go_wp2_with fail
    refine (HV.out _).mono ?_
    rintro e w1 ⟨rfl, rfl⟩
    go_wp2_with fail
    go_ret
    exact ⟨rfl, Mod.refl _ _⟩
  | true =>
    rw [hvv] at hv
    obtain ⟨e1, e2, e3⟩ := encode_facts (r : Int) hvv (by omega)
    have HV := Lib.hid hv
    obtain ⟨E, hE⟩ : ∃ E, E = Utf8.encode (r : Int) := ⟨_, rfl⟩
    rw [← hE] at e1 e2 e3
    have HE := Lib.hid hE
    clear hv hvv h1 h2 hE
    obtain ⟨n, hn⟩ : ∃ n, E.size = n + 1 := ⟨E.size - 1, by omega⟩
    have hn3 : n ≤ 3 := by omega
    have e4 : 128 ≤ (E[n]'(by omega)).toNat := by
      have := e3 (by omega)
      simpa [hn] using this
    clear e3
    obtain ⟨c, hc⟩ : ∃ c, c = E[n]'(by omega) := ⟨_, rfl⟩
    have HC := Lib.hid hc
    rw [← hc] at e4
    clear hc
    go_enter Tryd.func47, Tryd.ntmps47
    go_wp2_with fail
    refine (HV.out _).mono ?_
    rintro e w1 ⟨rfl, rfl⟩
    have hEE : Utf8.encode (r : Int) = E := HE.out.symm
    go_wp2_with fail
    go_step3
    go_wp2_with fail
    have hx : ∀ (a e : Nat) (v : World), Calls Tryd.prog 65 #[.string (ByteArray.extract { data := #[48, 49, 50, 51, 52, 53, 54, 55, 56, 57, 97, 98, 99, 100, 101, 102] } a e), .int .u8 (c.toNat : Int)] v fun e w' => e = .returned (.int .i64 (-1)) ∧ w' = v := fun a e v => by
      have := ixb_c (ByteArray.extract dgs a e) (c.toNat : Int) v
      rw [show ((c.toNat : Int)).toNat.toUInt8 = c by simp, index_none _ _ (fun b hb => dgs_ascii b (mem_extract hb)) e4] at this
      exact this
    have HX := Lib.hid hx
    have hi2 : ∀ W : World, (Instr.index 9 (.string E) (.int .i64 (n : Int))).run Tryd.prog W = .ok (oct c) W := fun W => by
      have hb : (0 : Int) ≤ (n : Int) ∧ (n : Int) < (E.size : Int) := by omega
      rw [run_index_string W 9 E .i64 n Tryd.underlying9, dif_pos hb, HC.out]
      rfl
    clear hx
    go_loopw [9] (fun i v => i = .int .i64 (n : Int) ∧ v = w1) (fun _ _ => 0)
    case atStart => exact ⟨rfl, rfl⟩
    case round =>
      obtain ⟨rfl, rfl⟩ := hrel
      have hn1 : 1 ≤ n := by omega
      obtain ⟨d, hd⟩ : ∃ d, d = dgs.data.toList.getD n 0 := ⟨_, rfl⟩
      have hd1 : d.toNat < 128 := by
        rw [hd, ← get_of dgs n (by rw [dgs_size]; omega)]; exact dgs_ascii _ (Array.getElem_mem_toList _)
      have hi1 : ∀ W : World, (Instr.index 9 (.string { data := #[48, 49, 50, 51, 52, 53, 54, 55, 56, 57, 97, 98, 99, 100, 101, 102] }) (.int .i64 (n : Int))).run Tryd.prog W = .ok (oct d) W := fun W => by
        have hb : (0 : Int) ≤ (n : Int) ∧ (n : Int) < (dgs.size : Int) := by rw [dgs_size]; omega
        have := run_index_string (P := Tryd.prog) W 9 dgs .i64 n Tryd.underlying9
        rw [dif_pos hb] at this
        rw [hd, ← get_of dgs n (by rw [dgs_size]; omega)]
        exact this
      clear hd
      have hn16 : (n : Int) < 16 := by omega
      have hne : ((d.toNat : Int) != (c.toNat : Int)) = true := by simp; omega
      go_wp2_with fail
      go_step3
      go_wp2_with fail
      go_quiet (fail)
      have mq := Mod.drewN [] wr nq
      obtain ⟨wa, hwa⟩ : ∃ v, v = wr.drewN nq := ⟨_, rfl⟩
      rw [← hwa] at mq ⊢
      clear hwa nq
      go_wp2_with fail
      go_quiet ((go_at_call 65; exact Calls.quiet_of_same (HX.out _ _ _)))
      have mq2 := mq.then (Mod.drewN [] wa nq)
      obtain ⟨wb, hwb⟩ : ∃ v, v = wa.drewN nq := ⟨_, rfl⟩
      rw [← hwb] at mq2 ⊢
      clear hwb nq mq
      clear hi1 hi2 HX hne hn16 hd1 e4 hn1 HC
      go_wp2_with fail
      simp +zetaDelta only [Exit.noGoto, Exit.inBlock, Exit.then]
      go_ret
      exact ⟨rfl, mq2⟩
end Go.Proofs.YtgojheoelcmcpaaDoor
