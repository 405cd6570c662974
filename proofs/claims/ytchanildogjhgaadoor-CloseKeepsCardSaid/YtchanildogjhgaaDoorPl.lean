/-
  CloseKeeps: occurs, and what an atom that occurs nowhere tells. My own work.
-/
import Derived.Test.YtchanildogjhgaaDoorPj
namespace Go.Proofs.YtchanildogjhgaaDoor
section
set_option linter.unusedVariables false
set_option linter.unusedSimpArgs false
/-- Does a term occur in another? -/
inductive Occ (a : Tm) : Tm → Prop
  | here : Occ a a
  | kid {t m} : m ∈ t.kids → Occ a m → Occ a t
theorem occ_sec {u n : Int} {s : ByteArray} {l : List Tm} {v : Int} (h : Occ (.mk 2 u n s l) (Tm.sec v)) : False := by
  cases h with
  | kid hm _ => simp [Tm.sec, Tm.kids] at hm
theorem part_occ {a : Tm} {K : List Tm} (hK : ∀ t ∈ K, ¬ Occ a t) : ∀ {b t}, Tm.Gk K b t → b = true → ¬ Occ a t := by
  intro b t h
  induction h with
  | known ht => intro _; exact hK _ ht
  | opened h1 h2 hm ih1 ih2 => intro _ ho; exact ih1 rfl (.kid (inside_kid hm) ho)
  | weak h1 ih => intro h; cases h
  | make _ _ _ => intro h; cases h
/-- What is opened of T takes what K does not give. -/
theorem gk_shut {u n : Int} {s : ByteArray} {l : List Tm} {K : List Tm} {T : Tm} (hK : ∀ t ∈ K, ¬ Occ (.mk 2 u n s l) t) (hT : Occ (.mk 2 u n s l) T) (hs : Tm.inside T = [] ∨ ∃ k ∈ Tm.keysT T, ¬ Occ (.mk 2 u n s l) k ∧ ¬ Tm.Gk K false k) :
    ∀ {b t}, Tm.Gk (K ++ [T]) b t → (b = true → t = T ∨ Tm.Gk K true t) ∧ (¬ Occ (.mk 2 u n s l) t → Tm.Gk K false t) := by
  intro b t h
  induction h with
  | known ht =>
    rcases List.mem_append.1 ht with h | h
    · exact ⟨fun _ => .inr (.known h), fun _ => .weak (.known h)⟩
    · simp only [List.mem_singleton] at h
      subst h
      exact ⟨fun _ => .inl rfl, fun h => absurd hT h⟩
  | @opened t m h1 h2 hm ih1 ih2 =>
    rcases ih1.1 rfl with e | e
    · subst e
      rcases hs with h | ⟨k, hk, h3, h4⟩
      · rw [h] at hm; cases hm
      · exact absurd ((ih2 k hk).2 h3) h4
    · have ht := part_occ hK e rfl
      have hkeys : ∀ k ∈ Tm.keysT t, Tm.Gk K false k := fun k hk => (ih2 k hk).2 fun ho => by
        unfold Tm.keysT at hk
        split at hk
        · exact ht (.kid (List.mem_of_mem_take hk) ho)
        · split at hk
          · simp only [List.mem_singleton] at hk
            subst hk
            exact occ_sec ho
          · cases hk
      exact ⟨fun _ => .inr (.opened e hkeys hm), fun _ => .weak (.opened e hkeys hm)⟩
  | weak h1 ih =>
    refine ⟨fun h => (by cases h), fun h => ?_⟩
    rcases ih.1 rfl with e | e
    · subst e; exact absurd hT h
    · exact .weak e
  | @make t ha hn ih =>
    refine ⟨fun h => (by cases h), fun h => .make ha fun k hk => (ih k hk).2 fun ho => ?_⟩
    unfold Tm.needs at hk
    split at hk
    · rcases List.mem_cons.1 hk with e | e
      · subst e; exact occ_sec ho
      · exact h (.kid e ho)
    · exact h (.kid hk ho)
/-- So the atom is told just if it is opened. -/
theorem gk_keeps {u n : Int} {s : ByteArray} {l : List Tm} {K : List Tm} {T : Tm} (hK : ∀ t ∈ K, ¬ Occ (.mk 2 u n s l) t) (hT : Occ (.mk 2 u n s l) T) (h2 : T.kind ≠ 2) (hs : Tm.inside T = [] ∨ ∃ k ∈ Tm.keysT T, ¬ Occ (.mk 2 u n s l) k ∧ ¬ Tm.Gk K false k) : ¬ Tm.Gk (K ++ [T]) false (.mk 2 u n s l) := by
  intro h
  have hp := atom_part (t := .mk 2 u n s l) rfl h
  rcases (gk_shut hK hT hs hp).1 rfl with e | e
  · rw [← e] at h2; exact h2 rfl
  · exact part_occ hK e rfl .here
/-- A lock, a seal, a digest. -/
theorem keeps_lock {u n : Int} {s : ByteArray} {l : List Tm} {K : List Tm} {key : Tm} (hK : ∀ t ∈ K, ¬ Occ (.mk 2 u n s l) t) (hk : ¬ Occ (.mk 2 u n s l) key) : Tm.Gk (K ++ [.mk 6 0 0 ⟨#[]⟩ [key, .mk 2 u n s l]]) false (.mk 2 u n s l) ↔ Tm.Gk K false key := by
  constructor
  · intro h
    by_cases hg : Tm.Gk K false key
    · exact hg
    · exact absurd h (gk_keeps hK (.kid (m := .mk 2 u n s l) (by simp [Tm.kids]) .here) (by simp [Tm.kind]) (.inr ⟨key, by simp [Tm.keysT, Tm.kind, Tm.kids], hk, hg⟩))
  · intro h
    refine .weak (.opened (t := .mk 6 0 0 ⟨#[]⟩ [key, .mk 2 u n s l]) (.known (by simp)) (fun k hk => ?_) (by simp [Tm.inside, Tm.kind, Tm.kids]))
    have : k = key := by simpa [Tm.keysT, Tm.kind, Tm.kids] using hk
    subst this
    exact gk_mono (fun x hx => List.mem_append_left _ hx) h
theorem keeps_seal {u n v : Int} {s : ByteArray} {l : List Tm} {K : List Tm} (hK : ∀ t ∈ K, ¬ Occ (.mk 2 u n s l) t) : Tm.Gk (K ++ [.mk 7 v 0 ⟨#[]⟩ [.mk 2 u n s l]]) false (.mk 2 u n s l) ↔ Tm.Gk K false (Tm.sec v) := by
  constructor
  · intro h
    by_cases hg : Tm.Gk K false (Tm.sec v)
    · exact hg
    · exact absurd h (gk_keeps hK (.kid (m := .mk 2 u n s l) (by simp [Tm.kids]) .here) (by simp [Tm.kind]) (.inr ⟨Tm.sec v, by simp [Tm.keysT, Tm.kind, Tm.user], occ_sec, hg⟩))
  · intro h
    refine .weak (.opened (t := .mk 7 v 0 ⟨#[]⟩ [.mk 2 u n s l]) (.known (by simp)) (fun k hk => ?_) (by simp [Tm.inside, Tm.kind, Tm.kids]))
    have : k = Tm.sec v := by simpa [Tm.keysT, Tm.kind, Tm.user] using hk
    subst this
    exact gk_mono (fun x hx => List.mem_append_left _ hx) h
theorem keeps_hash {u n : Int} {s : ByteArray} {l : List Tm} {K : List Tm} (hK : ∀ t ∈ K, ¬ Occ (.mk 2 u n s l) t) : ¬ Tm.Gk (K ++ [.mk 5 0 0 ⟨#[]⟩ [.mk 2 u n s l]]) false (.mk 2 u n s l) :=
  gk_keeps hK (.kid (m := .mk 2 u n s l) (by simp [Tm.kids]) .here) (by simp [Tm.kind]) (.inl (by simp [Tm.inside, Tm.kind]))
end
section
open Go.RowKit Go.Shelf
attribute [local go_sem] Oper.semAt_some
set_option linter.unusedVariables false
set_option linter.unusedSimpArgs false
/-- What occurs says: if it says no, it occurs nowhere. -/
def OccR (w : World) (a t : Tm) (e : Ending) (w' : World) : Prop := ∃ b, e = .returned (.bool b) ∧ (b = false → ¬ Occ a t) ∧ Mod [] w w'
def OccAll (f : Nat) : Prop := ∀ (a t : Tm) (ca cs : List Value) (Sa S : Nat → Prop) (w : World), t.depth ≤ f → TIs w Sa a ca → TIs w S t cs → (∀ g, Sa g → g < w.heap.size) → (∀ g, S g → g < w.heap.size) →
  Calls Tryd.prog 41 #[.agg ca.toArray, .agg cs.toArray] w (OccR w a t)
set_option maxRecDepth 1000000 in
set_option maxHeartbeats 4000000 in
theorem occurs_fit (f : Nat) (ih : OccAll f) (a : Tm) (k u n : Int) (s : ByteArray) (A : Option Addr) (len c : Nat) (l : List Tm) (ca : List Value) (Sa S : Nat → Prop) (w : World) (hlen : len = l.length) (hlb : len ≤ 2199023255552) (hd : ∀ t ∈ l, t.depth ≤ f) (hTa : TIs w Sa a ca) (hT : TIs w S (.mk k u n s l) (tmc k u n s A len c)) (hSa : ∀ g, Sa g → g < w.heap.size) (hS : ∀ g, S g → g < w.heap.size) :
    Calls Tryd.prog 41 #[.agg ca.toArray, .agg (tmc k u n s A len c).toArray] w (OccR w a (.mk k u n s l)) := by
  have F0 := ((Fm.nil w).argT hT hS).argT hTa hSa
  have hca := hTa.ones
  have HL := Lib.hid (And.intro hlen (And.intro hd ih))
  obtain ⟨sb, hsb⟩ : ∃ b, b = Tm.same a (.mk k u n s l) := ⟨_, rfl⟩
  have PS := fun (w5 : World) (T1 : TIs w5 Sa a ca) (T2 : TIs w5 S (.mk k u n s l) (tmc k u n s A len c)) => psame7_c a (.mk k u n s l) ca (tmc k u n s A len c) Sa S sb w5 hsb.symm T1 T2
  have HSB := Lib.hid hsb
  clear hlen hd ih hTa hT hSa hS hsb
  go_enter Tryd.func41, Tryd.ntmps41
  go_wp2_with (first
    | (with_reducible refine fm_box F0 (o := ⟨some 2, .box 24 (.tmp 0), _, _, _, _⟩) rfl 24 (.tmp 0) rfl ca rfl ?_; intro b1 w1 F1; clear F0)
    | (with_reducible refine fm_box F1 (o := ⟨some 3, .box 24 (.tmp 1), _, _, _, _⟩) rfl 24 (.tmp 1) rfl (tmc k u n s A len c) rfl ?_; intro b2 w2 F2; clear F1)
    | (with_reducible refine fm_load F2 1 rfl (o := ⟨some 7, .load 24 (.tmp 2), _, _, _, _⟩) rfl (.tmp 2) rfl rfl hca.1 ?_)
    | (with_reducible refine fm_load F2 0 rfl (o := ⟨some 8, .load 24 (.tmp 3), _, _, _, _⟩) rfl (.tmp 3) rfl rfl (tmc_len _ _ _ _ _ _ _) ?_)
    | (go_at_call 33; refine (PS w2 (F2.s 0 rfl).1 (F2.s 1 rfl).1).mono ?_
       rintro e w3 ⟨rfl, m3⟩
       have F3 := F2.call m3
       clear PS F2 m3
       cases sb)
    | (with_reducible refine fm_load1 F3 0 4 rfl (.slice A len c) rfl (o := ⟨some 11, _, _, _, _, _⟩) rfl 22 (.tmp 10) rfl rfl (fun h => run_load1 Tryd.underlying22 rfl h) ?_))
  rotate_left
  · go_ret
    exact ⟨true, rfl, fun h => (by cases h), F3.m⟩
  have hne : a ≠ .mk k u n s l := fun h => by
    have := (Tm.same_iff a (.mk k u n s l)).2 h
    rw [← HSB.out] at this; cases this
  have HNE := Lib.hid hne
  clear hne
  go_loopw [13] (fun iv wr => ∃ (j : Nat), iv = .int .i64 j ∧ j ≤ len ∧ Hid (∀ x ∈ l.take j, ¬ Occ a x) ∧ Fm w wr [oB b2 24 (tmc k u n s A len c), oB b1 24 ca] [tT Any Sa a ca, tT Any S (.mk k u n s l) (tmc k u n s A len c)]) (fun iv _ => len - (intOf iv).toNat)
  case atStart => exact ⟨0, rfl, by omega, Lib.hid (by simp), F3⟩
  case round =>
  clear F3
  obtain ⟨j, rfl, hj, hq, FJ⟩ := hrel
  by_cases hjl : j < len
  case neg =>
    obtain rfl : len = j := by omega
    go_wp2_with fail
    go_ret
    have hc := hq.out
    rw [HL.out.1, List.take_length] at hc
    refine ⟨false, rfl, fun _ ho => ?_, FJ.m⟩
    cases ho with
    | here => exact HNE.out rfl
    | kid hm h => exact hc _ hm h
  have hjq : j < l.length := by rw [← HL.out.1]; exact hjl
  obtain ⟨g, o, cx, rfl, hx5, hx1, F1⟩ := FJ.elem (FJ.mem 1 rfl) j hjq
  replace F1 := F1.eT (F1.mem 0 rfl)
  clear FJ
  have HTK : Hid (l.take (j + 1) = l.take j ++ [l[j]'hjq]) := Lib.hid (List.take_succ_eq_append_getElem hjq)
  have OC := fun (w5 : World) (T1 : TIs w5 Sa a ca) (T2 : TIs w5 S l[j] cx) (s1 : ∀ g, Sa g → g < w5.heap.size) (s2 : ∀ g, S g → g < w5.heap.size) => HL.out.2.2 a l[j] ca cx Sa S w5 (HL.out.2.1 _ (List.getElem_mem hjq)) T1 T2 s1 s2
  go_wp2_with (first
    | (with_reducible refine wpList_ran (o := ⟨some 15, _, _, _, _, _⟩) rfl (.pointer (some ⟨g, o + j * 5, none⟩)) (exec_ixs Tryd.underlying22 size24 hjl rfl rfl rfl) ?_)
    | (with_reducible refine fm_loadE F1 (F1.mem 1 rfl) (o := ⟨some 16, .load 24 (.tmp 15), _, _, _, _⟩) rfl (.tmp 15) rfl rfl hx5 ?_)
    | (with_reducible refine fm_alloc F1 (o := ⟨some 6, .alloc 24, _, _, _, _⟩) rfl 24 rfl _ zero24 ?_; intro b3 w2' F2; clear F1)
    | (with_reducible refine fm_store F2 0 rfl (o := ⟨none, .store 24 (.tmp 6) (.tmp 16), _, _, _, _⟩) rfl (.tmp 6) (.tmp 16) rfl rfl cx rfl rfl hx5 (tmc_len _ _ _ _ _ _ _) hx1 ?_; intro w3' F3; clear F2)
    | (with_reducible refine fm_load F3 2 rfl (o := ⟨some 17, .load 24 (.tmp 2), _, _, _, _⟩) rfl (.tmp 2) rfl rfl hca.1 ?_)
    | (with_reducible refine fm_load F3 0 rfl (o := ⟨some 18, .load 24 (.tmp 6), _, _, _, _⟩) rfl (.tmp 6) rfl rfl hx5 ?_)
    | (go_at_call 41; refine (OC w3' (F3.s 2 rfl).1 (F3.s 0 rfl).1 (F3.slt 2 rfl) (F3.slt 0 rfl)).mono ?_
       rintro e w4' ⟨bb, rfl, hbb, m4⟩
       have F4 := F3.call m4
       replace hbb := Lib.hid hbb
       clear F3 OC m4
       cases bb))
  · refine ⟨⟨j + 1, by go_num, by omega, Lib.hid (fun x hx => ?_), F4.sub (List.sublist_cons_self _ _) (fun y hy => ?_)⟩, by simp [intOf]; omega⟩
    · rw [HTK.out] at hx
      rcases List.mem_append.1 hx with h | h
      · exact hq.out x h
      · simp only [List.mem_singleton] at h
        subst h
        exact hbb.out (by simp)
    · simp only [List.mem_cons, List.not_mem_nil, or_false] at hy
      rcases hy with h | h <;> simp [h]
  · go_ret
    exact ⟨true, rfl, fun h => (by cases h), F4.m⟩
theorem occurs_all : ∀ f, OccAll f
  | f, a, .mk k u n s l, ca, cs, Sa, S, w, hd, hTa, hT, hSa, hS => by
    obtain ⟨A, c, vs, rfl, hr, hlc, hcm, hlm, hs⟩ := hT.row
    rw [Tm.depth] at hd
    match f, hd with
    | 0, hd => omega
    | f + 1, hd => exact occurs_fit f (occurs_all f) a k u n s A l.length c l ca Sa S w rfl hlm (fun t ht => by have := Tm.mem_depth ht; omega) hTa hT hSa hS
end
end Go.Proofs.YtchanildogjhgaaDoor
