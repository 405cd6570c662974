/-
  Terms laid in order. My own work.
-/
import Derived.Test.YtchanildogjhgaaDoorC1
import Derived.Test.YtchanildogjhgaaDoorPa
namespace Go.Proofs.YtchanildogjhgaaDoor
section
open Go.RowKit Go.Shelf
set_option linter.unusedVariables false
set_option linter.unusedSimpArgs false
theorem Owns.blt {w : World} {B : Nat} {e : TypeId} {A : Option Addr} {c : Nat} {l : List UInt8} (h : Owns w B e A c l) : ∀ a, A = some a → a.block < w.heap.size := by
  intro a ha
  subst ha
  rcases h.2 with ⟨hv, hn⟩ | ⟨g, cap, cur, hv, hb, hg, _⟩
  · injection hv with h3
    cases h3
  · injection hv with h3
    cases h3
    exact (Array.getElem?_eq_some_iff.1 hg).1
/-- Rows of bytes that stand. -/
def tBs (L : Nat → Prop) (xs : List RB) : Th := (fun g => ∃ x ∈ xs, ∃ a, x.A = some a ∧ a.block = g, fun w => (∀ x ∈ xs, Reads w x.A x.l) ∧ ∀ g, (∃ x ∈ xs, ∃ a, x.A = some a ∧ a.block = g) → L g)
theorem keeps_tBs (L : Nat → Prop) (xs : List RB) : keeps (tBs L xs) := fun w v ms m h hw => ⟨fun x hx => (hw.1 x hx).keep m fun a ha => h _ ⟨x, hx, a, ha, rfl⟩, hw.2⟩
theorem Fm.moreB {w0 w v : World} {os ts : List Th} (F : Fm w0 w os ts) {xs : List RB} (hm : tBs Any xs ∈ ts) {A : Option Addr} {c : Nat} {l : List UInt8} (hM : Made w A c l v) : Fm w0 v os (tBs Any (xs ++ [⟨A, c, l⟩]) :: ts) := by
  obtain ⟨hO, m, hlo⟩ := hM
  have F1 := F.call m
  refine F.put m _ (keeps_tBs _ _) ⟨fun x hx => ?_, fun _ _ => trivial⟩ ?_
  · rcases List.mem_append.1 hx with h | h
    · exact (F1.k _ (.inr hm)).2.1.1 x h
    · simp only [List.mem_cons, List.not_mem_nil, or_false] at h
      subst h
      exact hO.reads
  · rintro g ⟨x, hx, a, ha, rfl⟩
    rcases List.mem_append.1 hx with h | h
    · exact .inr ⟨_, hm, x, h, a, ha, rfl⟩
    · simp only [List.mem_cons, List.not_mem_nil, or_false] at h
      subst h
      exact .inl ⟨hlo a ha, hO.blt a ha⟩
theorem fm_makeS {w0 w : World} {os ts : List Th} {ops : Array Oper} {rest : List Oper} {o : Oper} {a : Act} {Q : Exit → Act → World → Prop} (F : Fm w0 w os ts) (hgd : o.guard = none) (t : TypeId) (x y : Operand) (ho : o.op = .makeSlice t x y) (e : TypeId) (i : TypeInfo) (z : Value) (size bytes n : Nat) (ht : Tryd.prog.underlying t = some (.slice e)) (hi : Tryd.prog.info? e = some i) (hz : i.zero = some z) (hs : i.size = size) (hb : i.bytes = bytes)
    (hx : a.eval x = .int .i64 (n : Int)) (hy : a.eval y = .int .i64 (n : Int)) (h63 : bytes * n ≤ 281474976710656) (h64 : n ≤ 9223372036854775807)
    (h : ∀ b v cs, cs.length = n * size → Fm w0 v (oB b e cs :: os) ts → wpList Tryd.prog ops Q rest (a.put o.dst (.slice (some ⟨b, 0, none⟩) n n)) v) : wpList Tryd.prog ops Q (o :: rest) a w :=
  wpList_makeG hgd t x y ho e i z size bytes n ht hi hz hs hb hx hy h63 h64 fun v cs hv hl _ m zz => h _ v cs hl (F.own m _ (keeps_oB _ _ _) hv (hv.new_keeps rfl))
/-- A term into a row of the call's own. -/
theorem fm_storeAt {w0 w : World} {os ts : List Th} {ops : Array Oper} {rest : List Oper} {o : Oper} {a : Act} {Q : Exit → Act → World → Prop} (F : Fm w0 w os ts) (i f : Nat) {b : Nat} {old : List Value} (hi : os[i]? = some (oB b 24 old)) (hf : f + 5 ≤ old.length) (hgd : o.guard = none) (x y : Operand) (ho : o.op = .store 24 x y) (hdst : o.dst = none) (cs : List Value) (hx : a.eval x = .pointer (some ⟨b, f, none⟩)) (hy : a.eval y = .agg cs.toArray)
    (h5 : cs.length = 5) (h1 : ∀ v ∈ cs, v.oneCell' = true)
    (h : ∀ v, Fm w0 v (os.set i (oB b 24 (old.take f ++ cs ++ old.drop (f + 5)))) ts → wpList Tryd.prog ops Q rest a v) : wpList Tryd.prog ops Q (o :: rest) a w :=
  wpList_stores hgd 24 x y ho hdst b f cs hx _ hy rfl 24 old (F.blk i hi) (by omega) h1 (size24' h5) fun v hv m z => h v (F.turn m i hi (fun g hg => List.mem_singleton.1 hg) _ (keeps_oB _ _ _) (by rw [h5] at hv; exact hv) fun g hg => ⟨.inl hg, by have : g = b := hg; have := hv.lt; omega⟩)
theorem info62 : ∃ i : TypeInfo, Tryd.prog.info? 62 = some i ∧ i.zero = some (.slice none 0 0) ∧ i.size = 1 ∧ i.bytes = 24 := by
  have h : (Tryd.prog.info? 62).map (fun i => (i.zero, i.size, i.bytes)) = some (some (.slice none 0 0), 1, 24) := by kernel_rfl
  exact info_parts h
theorem size62 : (Tryd.prog.info? 62).map (·.size) = some 1 := by kernel_rfl
def decT (l : List UInt8) : Tm := match Tm.dec 60 l 0 with | .ok (t, _, _) => t | .error _ => .mk 0 0 0 ⟨#[]⟩ []
theorem decT_bytes {t : Tm} (h : t.right = true) : decT t.bytes = t := by
  have := (back_again h []).1
  rw [List.append_nil] at this
  unfold decT
  rw [this]
def UpT (l : List Tm) : Prop := l.Pairwise fun a b => Tm.lessB b.bytes a.bytes = false
/-- What the rows say when they lie in order. -/
theorem ordered {L : List Tm} {xs ys : List RB} (hr : ∀ t ∈ L, t.right = true) (hx : xs.map (·.l) = L.map Tm.bytes) (hp : ys.Perm xs) (hu : UpB ys) : ∃ l, l.Perm L ∧ UpT l ∧ ys.map (·.l) = l.map Tm.bytes := by
  have hys : ∀ y ∈ ys, ∃ t ∈ L, t.bytes = y.l := by
    intro y hy
    have : y.l ∈ xs.map (·.l) := List.mem_map.2 ⟨y, hp.mem_iff.1 hy, rfl⟩
    rw [hx] at this
    exact List.mem_map.1 this
  have hb : ∀ y ∈ ys, (decT y.l).bytes = y.l := by
    intro y hy
    obtain ⟨t, ht, e⟩ := hys y hy
    rw [← e, decT_bytes (hr t ht)]
  refine ⟨ys.map fun y => decT y.l, ?_, ?_, ?_⟩
  · have h1 := hp.map fun y : RB => decT y.l
    have h2 : xs.map (fun y => decT y.l) = L := by
      have : xs.map (fun y => decT y.l) = (xs.map (·.l)).map decT := by rw [List.map_map]; rfl
      rw [this, hx, List.map_map]
      exact (List.map_congr_left fun t ht => decT_bytes (hr t ht)).trans (List.map_id L)
    rwa [h2] at h1
  · unfold UpT
    rw [List.pairwise_map]
    refine List.Pairwise.imp_of_mem ?_ hu
    intro a b ha hb' h
    rw [hb a ha, hb b hb']
    exact h
  · rw [List.map_map]
    exact (List.map_congr_left fun y hy => (hb y hy).symm)
theorem set_next {α : Type} {d : List α} {r : List α} {v : α} {k n : Nat} (hd : d.length = k) (hr : r.length = n - k) (hk : k < n) : (d ++ r).set k v = (d ++ [v]) ++ r.drop 1 ∧ (r.drop 1).length = n - (k + 1) := by
  subst hd
  cases r with
  | nil => simp at hr; omega
  | cons x r => exact ⟨by simp, by simp at hr ⊢; omega⟩
theorem store_next {d : List Q5} {r cs : List Value} {k n : Nat} (hd : d.length = k) (hr : r.length = (n - k) * 5) (hk : k < n) (q : Q5) (hq : q.1 = cs) : (d.flatMap f5 ++ r).take (k * 5) ++ cs ++ (d.flatMap f5 ++ r).drop (k * 5 + 5) = (d ++ [q]).flatMap f5 ++ r.drop 5 ∧ (r.drop 5).length = (n - (k + 1)) * 5 := by
  have hf : (d.flatMap f5).length = k * 5 := by
    subst hd
    clear hr hk
    induction d with
    | nil => rfl
    | cons x d ih => rw [List.flatMap_cons, List.length_append, ih, f5_len, List.length_cons]; omega
  refine ⟨?_, ?_⟩
  · rw [List.take_left' hf, List.drop_append, hf, show k * 5 + 5 - k * 5 = 5 by omega, List.drop_eq_nil_of_le (by omega), List.nil_append]
    simp [f5, hq]
  · rw [List.length_drop, hr]
    have : n - k = (n - (k + 1)) + 1 := by omega
    rw [this, Nat.add_mul]; omega
end
end Go.Proofs.YtchanildogjhgaaDoor

