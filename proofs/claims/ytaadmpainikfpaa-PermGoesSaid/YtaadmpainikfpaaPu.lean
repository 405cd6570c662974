/-
  Permissions as plain data, what is changed in them, and what follows. My own work.
-/
namespace Go.Proofs.Ytaadmpainikfpaa
set_option linter.unusedVariables false
/-- Permissions: owner, epoch, readers, writers, groups. -/
structure Pm where
  own : Int
  ep : Int
  rd : List Int
  wr : List Int
  gp : List Int
def zp : Pm := ⟨0, 0, [], [], []⟩
/-- May number j stand where it stands? -/
def riseAt (l : List Int) (most : Int) (j : Nat) : Bool := decide (1 ≤ l.getD j 0) && decide (l.getD j 0 ≤ most) && (j == 0 || decide (l.getD (j - 1) 0 < l.getD j 0))
def riseB (l : List Int) (most : Int) : Bool := (List.range l.length).all (riseAt l most)
def Pm.rightB (p : Pm) : Bool := decide (1 ≤ p.own) && decide (p.own ≤ 6) && decide (1 ≤ p.ep) && decide (p.ep ≤ 8) && riseB p.rd 6 && riseB p.wr 6 && riseB p.gp 3 && !p.rd.contains p.own && p.wr.all fun x => p.rd.contains x
/-- The document's own way. -/
def riseN (l : List Int) (most no : Int) : Bool := (List.range l.length).all fun j => riseAt l most j && !(l.getD j 0 == no)
def Pm.rightR (p : Pm) : Bool := decide (1 ≤ p.own) && decide (p.own ≤ 6) && decide (1 ≤ p.ep) && decide (p.ep ≤ 8) && riseN p.rd 6 p.own && riseN p.wr 6 p.own && riseN p.gp 3 0 && p.wr.all fun x => p.rd.contains x
theorem gd {l : List Int} {j : Nat} (h : j < l.length) : l.getD j 0 = l[j] := by rw [List.getD_eq_getElem?_getD, List.getElem?_eq_getElem h]; rfl
structure Rises (l : List Int) (most : Int) : Prop where
  up : l.Pairwise (· < ·)
  within : ∀ x ∈ l, 1 ≤ x ∧ x ≤ most
theorem riseB_iff (l : List Int) (most : Int) : riseB l most = true ↔ Rises l most := by
  have key : riseB l most = true ↔ ∀ j (h : j < l.length), 1 ≤ l[j] ∧ l[j] ≤ most ∧ (j = 0 ∨ l.getD (j - 1) 0 < l[j]) := by
    simp only [riseB, List.all_eq_true, List.mem_range, riseAt, Bool.and_eq_true, decide_eq_true_eq, Bool.or_eq_true, beq_iff_eq]
    constructor
    · intro h j hj
      have := h j hj
      rw [gd (hj)] at this
      exact ⟨this.1.1, this.1.2, this.2⟩
    · intro h j hj
      have := h j hj
      rw [gd (hj)]
      exact ⟨⟨this.1, this.2.1⟩, this.2.2⟩
  rw [key]
  constructor
  · intro h
    refine ⟨?_, ?_⟩
    · rw [List.pairwise_iff_getElem]
      intro i j hi hj hij
      obtain ⟨d, rfl⟩ : ∃ d, j = i + 1 + d := ⟨j - (i + 1), by omega⟩
      clear hij
      induction d with
      | zero =>
        have := (h (i + 1) hj).2.2
        rcases this with h0 | h0
        · omega
        · have e : i + 1 - 1 = i := by omega
          rw [e, gd (hi)] at h0
          exact h0
      | succ d ih =>
        have h1 := ih (by omega)
        have h0 := (h (i + 1 + (d + 1)) hj).2.2
        rcases h0 with h0 | h0
        · omega
        · have e : i + 1 + (d + 1) - 1 = i + 1 + d := by omega
          rw [e, gd (by omega)] at h0
          exact Int.lt_trans h1 h0
    · intro x hx
      obtain ⟨j, hj, rfl⟩ := List.getElem_of_mem hx
      have := h j hj
      exact ⟨this.1, this.2.1⟩
  · intro h j hj
    have h1 := h.within l[j] (List.getElem_mem hj)
    refine ⟨h1.1, h1.2, ?_⟩
    rcases Nat.eq_zero_or_pos j with h0 | h0
    · exact .inl h0
    · right
      rw [gd (by omega)]
      exact List.pairwise_iff_getElem.1 h.up (j - 1) j (by omega) hj (by omega)
theorem riseN_eq (l : List Int) (most no : Int) : riseN l most no = (riseB l most && !l.contains no) := by
  rw [Bool.eq_iff_iff]
  simp only [riseN, riseB, List.all_eq_true, List.mem_range, Bool.and_eq_true, Bool.not_eq_true', beq_eq_false_iff_ne, List.contains_eq_mem, decide_eq_false_iff_not]
  constructor
  · intro h
    refine ⟨fun j hj => (h j hj).1, fun hm => ?_⟩
    obtain ⟨j, hj, e⟩ := List.getElem_of_mem hm
    have := (h j hj).2
    rw [gd (hj)] at this
    exact this e
  · intro h j hj
    refine ⟨h.1 j hj, ?_⟩
    rw [gd (hj)]
    exact fun e => h.2 (e ▸ List.getElem_mem hj)
/-- What right permissions are. -/
structure Pm.Right (p : Pm) : Prop where
  o1 : 1 ≤ p.own
  o6 : p.own ≤ 6
  e1 : 1 ≤ p.ep
  e8 : p.ep ≤ 8
  r : Rises p.rd 6
  w : Rises p.wr 6
  g : Rises p.gp 3
  no : p.own ∉ p.rd
  sub : ∀ x ∈ p.wr, x ∈ p.rd
theorem Pm.right_iff (p : Pm) : p.rightB = true ↔ p.Right := by
  simp only [Pm.rightB, Bool.and_eq_true, decide_eq_true_eq, riseB_iff, Bool.not_eq_true', List.contains_eq_mem, decide_eq_false_iff_not, List.all_eq_true]
  constructor
  · rintro ⟨⟨⟨⟨⟨⟨⟨⟨h1, h2⟩, h3⟩, h4⟩, h5⟩, h6⟩, h7⟩, h8⟩, h9⟩
    exact ⟨h1, h2, h3, h4, h5, h6, h7, h8, h9⟩
  · intro h
    exact ⟨⟨⟨⟨⟨⟨⟨⟨h.o1, h.o6⟩, h.e1⟩, h.e8⟩, h.r⟩, h.w⟩, h.g⟩, h.no⟩, h.sub⟩
theorem Pm.rightR_eq (p : Pm) : p.rightR = p.rightB := by
  rw [Bool.eq_iff_iff, Pm.right_iff]
  simp only [Pm.rightR, riseN_eq, Bool.and_eq_true, decide_eq_true_eq, riseB_iff, Bool.not_eq_true', List.contains_eq_mem, decide_eq_false_iff_not, List.all_eq_true]
  constructor
  · rintro ⟨⟨⟨⟨⟨⟨⟨h1, h2⟩, h3⟩, h4⟩, h5, h5'⟩, h6, h6'⟩, h7, h7'⟩, h9⟩
    exact ⟨h1, h2, h3, h4, h5, h6, h7, h5', h9⟩
  · intro h
    exact ⟨⟨⟨⟨⟨⟨⟨h.o1, h.o6⟩, h.e1⟩, h.e8⟩, h.r, h.no⟩, h.w, fun hm => h.no (h.sub _ hm)⟩, h.g, fun hm => by have := (h.g.within 0 hm).1; omega⟩, h.sub⟩
/-- Lists that rise and have the same members are one list. -/
theorem up_ext : ∀ {l k : List Int}, l.Pairwise (· < ·) → k.Pairwise (· < ·) → (∀ x, x ∈ l ↔ x ∈ k) → l = k
  | [], [], _, _, _ => rfl
  | [], b :: k, _, _, h => by have := (h b).2 (List.mem_cons_self ..); cases this
  | a :: l, [], _, _, h => by have := (h a).1 (List.mem_cons_self ..); cases this
  | a :: l, b :: k, hl, hk, h => by
    rw [List.pairwise_cons] at hl hk
    have hab : a = b := by
      have h1 := (h a).1 (List.mem_cons_self ..)
      have h2 := (h b).2 (List.mem_cons_self ..)
      rcases List.mem_cons.1 h1 with h1 | h1
      · exact h1
      · rcases List.mem_cons.1 h2 with h2 | h2
        · exact h2.symm
        · have := hk.1 a h1
          have := hl.1 b h2
          omega
    subst hab
    congr 1
    refine up_ext hl.2 hk.2 fun x => ?_
    have hx := h x
    rw [List.mem_cons, List.mem_cons] at hx
    constructor
    · intro hm
      rcases hx.1 (.inr hm) with e | e
      · subst e; have := hl.1 x hm; omega
      · exact e
    · intro hm
      rcases hx.2 (.inr hm) with e | e
      · subst e; have := hk.1 x hm; omega
      · exact e
/-- How many stand ahead of x. -/
def ahead (l : List Int) (x : Int) : Nat := l.countP (· < x)
def ins (l : List Int) (x : Int) : List Int := if l.contains x then l else l.take (ahead l x) ++ x :: l.drop (ahead l x)
def del (l : List Int) (x : Int) : List Int := if l.contains x then l.take (ahead l x) ++ l.drop (ahead l x + 1) else l
theorem ahead_le (l : List Int) (x : Int) : ahead l x ≤ l.length := List.countP_le_length
theorem ahead_zero {l : List Int} {x : Int} (h : ∀ y ∈ l, x ≤ y) : ahead l x = 0 := by
  rw [ahead, List.countP_eq_zero]
  intro y hy
  have := h y hy
  simp only [decide_eq_true_eq]
  omega
theorem ins_up : ∀ {l : List Int} {x : Int}, l.Pairwise (· < ·) → x ∉ l → (l.take (ahead l x) ++ x :: l.drop (ahead l x)).Pairwise (· < ·) ∧ ∀ y, y ∈ l.take (ahead l x) ++ x :: l.drop (ahead l x) ↔ y = x ∨ y ∈ l
  | [], x, _, _ => by simp [ahead]
  | a :: l, x, h, hx => by
    have h' := List.pairwise_cons.1 h
    by_cases hax : a < x
    · have e : ahead (a :: l) x = ahead l x + 1 := by simp [ahead, hax]
      have ih := ins_up (x := x) h'.2 (fun hm => hx (List.mem_cons_of_mem _ hm))
      rw [e, List.take_succ_cons, List.drop_succ_cons, List.cons_append]
      refine ⟨List.pairwise_cons.2 ⟨fun y hy => ?_, ih.1⟩, fun y => ?_⟩
      · rcases (ih.2 y).1 hy with rfl | hy
        · exact hax
        · exact h'.1 y hy
      · rw [List.mem_cons, List.mem_cons, ih.2]
        constructor
        · rintro (h | h | h)
          · exact .inr (.inl h)
          · exact .inl h
          · exact .inr (.inr h)
        · rintro (h | h | h)
          · exact .inr (.inl h)
          · exact .inl h
          · exact .inr (.inr h)
    · have hne : a ≠ x := fun e => hx (e ▸ List.mem_cons_self ..)
      have e : ahead (a :: l) x = 0 := ahead_zero fun y hy => by
        rcases List.mem_cons.1 hy with rfl | hy
        · omega
        · have := h'.1 y hy; omega
      rw [e]
      refine ⟨List.pairwise_cons.2 ⟨fun y hy => ?_, h⟩, fun y => by simp⟩
      rcases List.mem_cons.1 hy with rfl | hy
      · omega
      · have := h'.1 y hy; omega
theorem del_up : ∀ {l : List Int} {x : Int}, l.Pairwise (· < ·) → x ∈ l → ahead l x < l.length ∧ (l.take (ahead l x) ++ l.drop (ahead l x + 1)).Pairwise (· < ·) ∧ ∀ y, y ∈ l.take (ahead l x) ++ l.drop (ahead l x + 1) ↔ y ∈ l ∧ y ≠ x
  | [], x, _, hx => by cases hx
  | a :: l, x, h, hx => by
    have h' := List.pairwise_cons.1 h
    by_cases hax : a < x
    · have e : ahead (a :: l) x = ahead l x + 1 := by simp [ahead, hax]
      have hxl : x ∈ l := by
        rcases List.mem_cons.1 hx with rfl | hx
        · omega
        · exact hx
      have ih := del_up (x := x) h'.2 hxl
      rw [e, List.take_succ_cons, List.drop_succ_cons, List.cons_append]
      refine ⟨by rw [List.length_cons]; omega, List.pairwise_cons.2 ⟨fun y hy => h'.1 y ((ih.2.2 y).1 hy).1, ih.2.1⟩, fun y => ?_⟩
      rw [List.mem_cons, List.mem_cons, ih.2.2]
      constructor
      · rintro (rfl | h)
        · exact ⟨.inl rfl, by omega⟩
        · exact ⟨.inr h.1, h.2⟩
      · rintro ⟨rfl | h, h2⟩
        · exact .inl rfl
        · exact .inr ⟨h, h2⟩
    · have hxa : a = x := by
        rcases List.mem_cons.1 hx with h1 | h1
        · exact h1.symm
        · have := h'.1 x h1; omega
      subst hxa
      have e : ahead (a :: l) a = 0 := ahead_zero fun y hy => by
        rcases List.mem_cons.1 hy with rfl | hy
        · omega
        · have := h'.1 y hy; omega
      rw [e]
      refine ⟨by simp, by simpa using h'.2, fun y => ?_⟩
      simp only [List.take_zero, List.nil_append, Nat.zero_add, List.drop_succ_cons, List.drop_zero, List.mem_cons]
      constructor
      · intro hy
        have := h'.1 y hy
        exact ⟨.inr hy, by omega⟩
      · rintro ⟨rfl | hy, h2⟩
        · exact absurd rfl h2
        · exact hy
theorem ins_rises {l : List Int} {x most : Int} (h : Rises l most) (h1 : 1 ≤ x) (h2 : x ≤ most) : Rises (ins l x) most ∧ ∀ y, y ∈ ins l x ↔ y = x ∨ y ∈ l := by
  unfold ins
  by_cases hc : x ∈ l
  · rw [if_pos (by simpa using hc)]
    exact ⟨h, fun y => ⟨.inr, fun h => h.elim (fun e => e ▸ hc) id⟩⟩
  · rw [if_neg (by simpa using hc)]
    have := ins_up h.up hc
    refine ⟨⟨this.1, fun y hy => ?_⟩, this.2⟩
    rcases (this.2 y).1 hy with rfl | hy
    · exact ⟨h1, h2⟩
    · exact h.within y hy
theorem del_rises {l : List Int} {x most : Int} (h : Rises l most) : Rises (del l x) most ∧ ∀ y, y ∈ del l x ↔ y ∈ l ∧ y ≠ x := by
  unfold del
  by_cases hc : x ∈ l
  · rw [if_pos (by simpa using hc)]
    have := del_up h.up hc
    exact ⟨⟨this.2.1, fun y hy => h.within y ((this.2.2 y).1 hy).1⟩, this.2.2⟩
  · rw [if_neg (by simpa using hc)]
    exact ⟨h, fun y => ⟨fun hy => ⟨hy, fun e => hc (e ▸ hy)⟩, fun h => h.1⟩⟩
/-- The document's set. -/
def setL (l : List Int) (n : Int) (is : Bool) : List Int := [1, 2, 3, 4, 5, 6].filter fun k => if k == n then is else l.contains k
theorem setL_mem (l : List Int) (n : Int) (is : Bool) (y : Int) : y ∈ setL l n is ↔ (1 ≤ y ∧ y ≤ 6) ∧ (if y = n then is = true else y ∈ l) := by
  unfold setL
  rw [List.mem_filter]
  have : y ∈ [(1 : Int), 2, 3, 4, 5, 6] ↔ 1 ≤ y ∧ y ≤ 6 := by
    simp only [List.mem_cons, List.not_mem_nil, or_false]
    omega
  rw [this]
  by_cases h : y = n
  · simp [h]
  · simp [h]
theorem setL_up (l : List Int) (n : Int) (is : Bool) : (setL l n is).Pairwise (· < ·) := (show [(1 : Int), 2, 3, 4, 5, 6].Pairwise (· < ·) by decide).filter _
theorem setL_ins {l : List Int} {x most : Int} (h : Rises l most) (hm : most ≤ 6) (h1 : 1 ≤ x) (h2 : x ≤ most) : setL l x true = ins l x := by
  have hi := ins_rises h h1 h2
  refine up_ext (setL_up _ _ _) hi.1.up fun y => ?_
  rw [setL_mem, hi.2]
  by_cases hy : y = x
  · subst hy; simp only [if_true, true_or, and_true, iff_true]; omega
  · rw [if_neg hy]
    constructor
    · exact fun h => .inr h.2
    · rintro (h' | h')
      · exact absurd h' hy
      · have := h.within y h'; exact ⟨by omega, h'⟩
theorem setL_del {l : List Int} {x most : Int} (h : Rises l most) (hm : most ≤ 6) : setL l x false = del l x := by
  have hi := del_rises (x := x) h
  refine up_ext (setL_up _ _ _) hi.1.up fun y => ?_
  rw [setL_mem, hi.2]
  by_cases hy : y = x
  · subst hy; simp
  · rw [if_neg hy]
    constructor
    · exact fun h => ⟨h.2, hy⟩
    · rintro ⟨h', _⟩
      have := h.within y h'; exact ⟨by omega, h'⟩
/-- What is changed: the error, and the permissions behind it. -/
def begun (p : Pm) : Int × Pm := if p.ep = 8 then (212, zp) else (0, { p with ep := p.ep + 1 })
def Pm.other (p : Pm) (u : Int) : Bool := decide (1 ≤ u) && decide (u ≤ 6) && !(u == p.own)
def grp (g : Int) : Bool := decide (1 ≤ g) && decide (g ≤ 3)
def shared (p : Pm) (u : Int) (wr : Bool) : Int × Pm :=
  if p.rd.contains u && (!wr || p.wr.contains u) then (5, zp) else (0, { p with rd := ins p.rd u, wr := if wr then ins p.wr u else p.wr })
def backed (p : Pm) (u : Int) : Int × Pm :=
  if p.rd.contains u then begun { p with rd := del p.rd u, wr := del p.wr u } else (4, zp)
def sharedG (p : Pm) (g : Int) : Int × Pm := if p.gp.contains g then (5, zp) else (0, { p with gp := ins p.gp g })
def backedG (p : Pm) (g : Int) : Int × Pm := if p.gp.contains g then begun { p with gp := del p.gp g } else (4, zp)
/-- By the owner alone, and for somebody for whom it can be asked. -/
def byOwner (p : Pm) (by_ : Int) (can : Bool) (r : Int × Pm) : Int × Pm := if p.rightB then (if by_ = p.own then (if can then r else (2, zp)) else (211, zp)) else (210, zp)
/-- 0, 1 Share, 2 Back, 3 ShareGroup, 4 BackGroup, else Next. -/
def chg (k : Int) (p : Pm) (by_ who : Int) : Int × Pm :=
  if k = 0 ∨ k = 1 then byOwner p by_ (p.other who) (shared p who (k == 1))
  else if k = 2 then byOwner p by_ (p.other who) (backed p who)
  else if k = 3 then byOwner p by_ (grp who) (sharedG p who)
  else if k = 4 then byOwner p by_ (grp who) (backedG p who)
  else if p.rightB then begun p else (210, zp)
end Go.Proofs.Ytaadmpainikfpaa
