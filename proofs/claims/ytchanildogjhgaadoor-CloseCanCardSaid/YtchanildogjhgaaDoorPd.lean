/-
  partsThat. My own work.
-/
import Derived.Test.YtchanildogjhgaaDoorD2
import Derived.Test.YtchanildogjhgaaDoorPc
namespace Go.Proofs.YtchanildogjhgaaDoor
section
open Go.RowKit Go.Shelf
set_option linter.unusedVariables false
set_option linter.unusedSimpArgs false
theorem kid_right {t x : Tm} (h : t.right = true) (hx : x ∈ t.kids) : x.right = true := by
  have hk := ok_kid (right_ok h).1 hx
  obtain ⟨h1, h2, h3⟩ := right_ok h
  have h4 : x.depth ≤ 60 ∧ x.count ≤ 1200 := by
    obtain ⟨a, b, c, d, l⟩ := t
    have h5 : x ∈ l := hx
    have := Tm.mem_depth h5
    have := Tm.mem_count h5
    rw [Tm.depth] at h2
    rw [Tm.count] at h3
    omega
  unfold Tm.right
  simp [hk, h4.1, h4.2]
theorem inside_kid {t x : Tm} (hx : x ∈ Tm.inside t) : x ∈ t.kids := by
  unfold Tm.inside at hx
  split at hx
  · exact List.mem_of_mem_drop hx
  · split at hx
    · exact hx
    · cases hx
theorem part_right {K : List Tm} (hK : ∀ t ∈ K, t.right = true) : ∀ {b t}, Tm.Gk K b t → b = true → t.right = true := by
  intro b t h
  induction h with
  | known ht => intro _; exact hK _ ht
  | opened h1 h2 hm ih1 ih2 => intro _; exact kid_right (ih1 rfl) (inside_kid hm)
  | weak h1 ih => intro h; cases h
  | make _ _ _ => intro h; cases h
def tmN (ns : List NdC) (i : Nat) : Tm := (ns[i]?.map (·.t)).getD (.mk 0 0 0 ⟨#[]⟩ [])
def pickL (ns : List NdC) (hd : Nat → Nat) (P : Tm → Bool) (j : Nat) : List Tm := ((List.range j).filter fun i => hd i == 2 && P (tmN ns i)).map (tmN ns)
theorem pickL_succ (ns : List NdC) (hd : Nat → Nat) (P : Tm → Bool) (j : Nat) : pickL ns hd P (j + 1) = pickL ns hd P j ++ if hd j == 2 && P (tmN ns j) then [tmN ns j] else [] := by
  unfold pickL
  rw [List.range_succ, List.filter_append, List.map_append]
  congr 1
  simp only [List.filter_cons, List.filter_nil]
  split <;> rfl
theorem tmN_at {ns : List NdC} {i : Nat} (h : i < ns.length) : tmN ns i = ns[i].t := by unfold tmN; rw [List.getElem?_eq_getElem h]; rfl
theorem pickL_mem {K : List Tm} {ns : List NdC} {kn : List Nat} {hd : Nat → Nat} {P : Tm → Bool} (G : Good ns) (hk : numOf (grN ns) kn K) (R : Run K (grN ns) kn hd []) (t : Tm) : t ∈ pickL ns hd P ns.length ↔ Tm.Gk K true t ∧ P t = true := by
  unfold pickL
  simp only [List.mem_map, List.mem_filter, List.mem_range, Bool.and_eq_true, beq_iff_eq]
  constructor
  · rintro ⟨i, ⟨h1, h2, h3⟩, rfl⟩
    refine ⟨?_, h3⟩
    obtain ⟨_, t, ht, hg⟩ := R.had i (by omega)
    rw [tmAt_gr h1] at ht
    cases ht
    rw [tmN_at h1]
    rw [h2] at hg
    exact hg
  · rintro ⟨h1, h2⟩
    obtain ⟨i, hi⟩ := part_in G.wok hk h1 rfl
    have h3 := R.all G.wok hk h1 i hi
    obtain ⟨h4, h5⟩ := tmAt_some hi
    have h6 : i < ns.length := by simpa using h4
    have h7 : tmN ns i = t := by
      rw [tmN_at h6]
      rw [tmAt_gr h6] at hi
      exact Option.some.inj hi
    simp only [if_true] at h3
    obtain ⟨h8, _⟩ := R.had i (by omega)
    exact ⟨i, ⟨h6, by omega, by rw [h7]; exact h2⟩, h7⟩
theorem pickL_nodup {ns : List NdC} (G : Good ns) (hd : Nat → Nat) (P : Tm → Bool) : (pickL ns hd P ns.length).Nodup := by
  unfold pickL List.Nodup
  rw [List.pairwise_map]
  refine List.Pairwise.imp_of_mem ?_ ((List.nodup_range (n := ns.length)).filter _)
  intro i j hi hj hne e
  have h1 := List.mem_range.1 (List.mem_filter.1 hi).1
  have h2 := List.mem_range.1 (List.mem_filter.1 hj).1
  rw [tmN_at h1, tmN_at h2] at e
  exact hne (G.wok.inj i j ns[i].t (tmAt_gr h1) (by rw [e]; exact tmAt_gr h2))
theorem node_term {w : World} {b : Nat} {x : NdC} (h : Holds w b 111 (ndv x)) : Cells w (some ⟨b, 0, none⟩) x.c := by
  intro i hi
  refine ⟨b, 0, rfl, ?_⟩
  rw [Nat.zero_add, h.cell]
  unfold ndv
  rw [List.getElem?_append_left hi, List.getElem?_eq_getElem hi]
theorem Fm.nodeT {w0 w : World} {os ts : List Th} {T : Nat → Prop} {ns : List NdC} (F : Fm w0 w os ts) (hN : tN Any T ns ∈ ts) (x : NdC) (hx : x ∈ ns) : Fm w0 w os (tT Any T x.t x.c :: ts) :=
  F.also _ (keeps_tT _ _ _ _) ⟨((F.k _ (.inr hN)).2.1.1 x hx).t, fun _ _ => trivial⟩ fun g hg => ⟨_, hN, hg⟩
end
end Go.Proofs.YtchanildogjhgaaDoor

