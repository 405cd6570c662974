/-
  A row of acts of the call's own, beside disks. Words of mine.
-/
import Derived.Test.YtpdpahkhfilmpaaChs
import Derived.Test.YtpdpahkhfilmpaaRg
namespace Go.Proofs.Ytpdpahkhfilmpaa
open Go.RowKit
abbrev Q5 := Int × Ac × Option Addr × Nat
def qv (q : Q5) : List Value := dv q.1 q.2.1 q.2.2.1 q.2.2.2
theorem qv_length (q : Q5) : (qv q).length = 5 := rfl
theorem qv_one (q : Q5) : ∀ v ∈ qv q, v.oneCell' = true := dv_one _ _ _ _
abbrev OwnQ (w : World) (R : Option Addr) (c : Nat) (l : List Q5) : Prop := OwnG qv 49 5 w R c l
theorem OwnG.ne_own {α β : Type} {f : α → List Value} {f' : β → List Value} {e e' size size' : Nat} {w : World} {A A' : Option Addr} {c c' : Nat} {l : List α} {l' : List β} (h : OwnG f e size w A c l) (h' : OwnG f' e' size' w A' c' l') (ht : e ≠ e') : ∀ a a', A = some a → A' = some a' → a.block ≠ a'.block := by
  rcases h'.2 with ⟨hv, hn⟩ | ⟨k, cap, cur, hv, hb, hg, _⟩
  · injection hv with h1 h2 h3
    subst h1
    intro a a' _ h
    cases h
  · injection hv with h3 h4 h5
    subst h3
    rintro a _ ha ⟨⟩
    exact h.ne (g := k) (t := e') (cs := cur.toList) (by unfold Holds; rw [hg]) ht a ha
section
variable {w v v' : World} {g m c g' m' c' cr : Nat} {A A' R : Option Addr} {S S' : St} {l : List Q5}
theorem OwnG.did (h : OwnQ v R cr l) (D : DAt v g m A c S) (k : Did v v' g m A A') : OwnQ v' R cr l :=
  OwnG.keep h k.mod (fun a ha => by
    simp only [List.mem_cons, not_or]
    exact ⟨h.ne D.blk (by decide) a ha, h.ne_firm D.firm a ha, notin_blk (fun a2 ha2 => (h.ne_own D.loose (by decide) a a2 ha ha2).symm)⟩)
theorem dat_row (D : DAt v g m A c S) (h : OwnQ v R cr l) (k : Mod (blk R) v v') : DAt v' g m A c S :=
  D.keep k (notin_blk (h.ne D.blk (by decide))) (notin_blk (h.ne_firm D.firm)) (fun a ha => notin_blk (fun a2 ha2 => h.ne_own D.loose (by decide) a2 a ha2 ha))
theorem Far.row (F : Far w v g m A c S) (h : OwnQ v R cr l) (k : Mod (blk R) v v') (hR : ∀ a, R = some a → w.heap.size ≤ a.block) : Far w v' g m A c S :=
  ⟨dat_row F.D h k, far_mod F.mm k (fun i hi => by obtain ⟨a, ha, rfl⟩ := mem_blk hi; exact hR a ha), F.g, F.m, F.A⟩
theorem Two.row (T : Two w v g m A c S g' m' A' c' S') (h : OwnQ v R cr l) (k : Mod (blk R) v v') (hR : ∀ a, R = some a → w.heap.size ≤ a.block) : Two w v' g m A c S g' m' A' c' S' :=
  ⟨T.L.row h k hR, T.R.row h k hR, T.ng, T.nm, T.nA⟩
end
def zq : Value := .agg #[.int .i64 0, .int .i64 0, .int .i64 0, .int .u8 0, .slice none 0 0]
theorem info49 : ∃ it, Try.prog.info? 49 = some it ∧ it.zero = some zq ∧ it.size = 5 ∧ it.bytes = 56 := by
  obtain ⟨it, hq⟩ := info_of 49 (by kernel_rfl)
  have h1 : (Try.prog.info? 49).bind (·.zero) = some zq := by kernel_rfl
  have h2 : (Try.prog.info? 49).map (·.size) = some 5 := by kernel_rfl
  have h3 : (Try.prog.info? 49).map (·.bytes) = some 56 := by kernel_rfl
  rw [hq] at h1 h2 h3
  exact ⟨it, hq, h1, by simpa using h2, by simpa using h3⟩
theorem run_lit22 (q : Q5) (w : World) : (Instr.buildSlice 22 1 #[(0, .agg (qv q).toArray)]).run Try.prog w = .ok (.slice (some ⟨w.heap.size, 0, none⟩) 1 1) (w.alloc (.cells (qv q).toArray 49)) := by
  obtain ⟨it, hq, _, hs, _⟩ := info49
  exact run_lit1 w Try.underlying22 hq hs (by decide) (by decide) zero49 rfl rfl
end Go.Proofs.Ytpdpahkhfilmpaa
