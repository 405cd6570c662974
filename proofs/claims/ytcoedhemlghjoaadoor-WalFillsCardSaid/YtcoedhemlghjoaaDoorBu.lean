/-
  My own texts Wrt Wop Wlg Wlh, one behind the other.
-/
import Derived.Test.YtcoedhemlghjoaaDoorBt
import Derived.Test.YtcoedhemlghjoaaDoorBw
import Derived.Test.YtcoedhemlghjoaaDoorBx
namespace Go.Proofs.YtcoedhemlghjoaaDoor
section
open Go.RowKit
theorem hi_cons1 (x n : Nat) : hi x (n + 1) = UInt8.ofNat (x / 256 ^ n) :: hi x n := by
  unfold hi
  rw [List.range_succ_eq_map, List.map_cons, List.map_map]
  congr 1
  apply List.map_congr_left
  intro k hk
  simp only [Function.comp, List.mem_range] at hk ⊢
  congr 3
  omega
theorem obe_hi (x : Nat) : ∀ n, obe (hi x n) = x % 256 ^ n
  | 0 => by simp [hi, obe, Nat.mod_one]
  | n + 1 => by
    have key : ∀ (l : List UInt8) (a : Nat), l.foldl (fun n x => n * 256 + x.toNat) a = a * 256 ^ l.length + obe l := by
      intro l
      induction l with
      | nil => intro a; simp [obe]
      | cons y l ih =>
        intro a
        have h1 := ih (a * 256 + y.toNat)
        have h2 : obe (y :: l) = (0 * 256 + y.toNat) * 256 ^ l.length + obe l := ih (0 * 256 + y.toNat)
        rw [List.foldl_cons, h1, List.length_cons, h2, Nat.pow_succ]
        simp only [Nat.zero_mul, Nat.zero_add]
        rw [Nat.add_mul, Nat.mul_assoc, Nat.mul_comm 256, Nat.add_assoc]
    have h1 : obe (hi x (n + 1)) = (0 * 256 + (UInt8.ofNat (x / 256 ^ n)).toNat) * 256 ^ (hi x n).length + obe (hi x n) := by
      rw [hi_cons1]; exact key (hi x n) (0 * 256 + (UInt8.ofNat (x / 256 ^ n)).toNat)
    have h2 : x % 256 ^ (n + 1) = x % 256 ^ n + 256 ^ n * (x / 256 ^ n % 256) := by rw [Nat.pow_succ, Nat.mod_mul]
    rw [h1, hi_length, obe_hi x n, UInt8.toNat_ofNat', h2, show (2 : Nat) ^ 8 = 256 from rfl]
    simp only [Nat.zero_mul, Nat.zero_add]
    rw [Nat.mul_comm, Nat.add_comm]
/-- The bytes of a sealed block from the fourth one on. -/
theorem sealB_drop (c s : List UInt32) (l : List UInt8) (hs : s.length = 8) (h : l.length ≤ 60) : (sealB c s l).1.drop 4 = pad60 l := by
  have h1 := sealL_length c s l hs h
  unfold sealB
  rw [dif_pos h1]
  show (sealL c s l).drop 4 = pad60 l
  unfold sealL
  rw [List.drop_append_of_le_length (by rw [List.length_drop, dig_length c s _ hs]; decide), List.drop_of_length_le (by rw [List.length_drop, dig_length c s _ hs]; decide)]
  rfl
theorem drop_at (b : Blk) (n : Nat) : b.1.drop (4 + n) = (b.1.drop 4).drop n := by rw [List.drop_drop]
theorem leafB_val (c s : List UInt32) (t n : Nat) (e : List UInt8) (k : Nat) (hs : s.length = 8) : (leafB c s t n e k).1.drop 4 = pad60 (leafL t n e.length (e.length - 48 * k) ((e.drop (48 * k)).take 48)) :=
  sealB_drop c s _ hs (by rw [leafL_length, List.length_take]; omega)
theorem lenB_leaf (c s : List UInt32) (t n : Nat) (e : List UInt8) (k : Nat) (hs : s.length = 8) (he : e.length ≤ 40000) : lenB (leafB c s t n e k) = e.length := by
  unfold lenB
  rw [drop_at _ 8, leafB_val c s t n e k hs]
  unfold pad60 leafL
  have h8 : (hi t 4 ++ hi n 4).length = 8 := by simp [hi_length]
  simp only [List.append_assoc]
  rw [← List.append_assoc (hi t 4), List.drop_append_of_le_length (by rw [h8]; exact Nat.le_refl _), List.drop_of_length_le (by rw [h8]; exact Nat.le_refl _), List.nil_append, List.take_append_of_le_length (by rw [hi_length]; exact Nat.le_refl _), List.take_of_length_le (by rw [hi_length]; exact Nat.le_refl _), obe_hi]
  omega
/-- What a leaf bears of its entry. -/
theorem leafB_text (c s : List UInt32) (t n : Nat) (e : List UInt8) (k : Nat) (hs : s.length = 8) : (leafB c s t n e k).1.drop 16 = (e.drop (48 * k)).take 48 ++ List.replicate (48 - ((e.drop (48 * k)).take 48).length) 0 := by
  rw [drop_at _ 12, leafB_val c s t n e k hs]
  unfold pad60
  have h12 : (hi t 4 ++ hi n 4 ++ hi e.length 2 ++ hi (e.length - 48 * k) 2).length = 12 := by simp [hi_length]
  rw [leafL_length]
  unfold leafL
  rw [List.append_assoc, List.drop_append_of_le_length (by rw [h12]; exact Nat.le_refl _), List.drop_of_length_le (by rw [h12]; exact Nat.le_refl _), List.nil_append]
  congr 2
  omega
theorem text_full (c s : List UInt32) (t n : Nat) (e : List UInt8) (hs : s.length = 8) : ∀ k, 48 * k ≤ e.length → textB ((List.range k).map (leafB c s t n e)) = e.take (48 * k) := by
  intro k
  induction k with
  | zero => intro _; simp [textB]
  | succ k ih =>
    intro hk
    have h1 := ih (by omega)
    rw [List.range_succ, List.map_append]
    unfold textB at h1 ⊢
    rw [List.flatMap_append, h1]
    simp only [List.map_cons, List.map_nil, List.flatMap_cons, List.flatMap_nil, List.append_nil]
    rw [leafB_text c s t n e k hs]
    have h2 : ((e.drop (48 * k)).take 48).length = 48 := by rw [List.length_take, List.length_drop]; omega
    rw [h2]
    simp only [Nat.sub_self, List.replicate_zero, List.append_nil]
    rw [show 48 * (k + 1) = 48 * k + 48 by omega, List.take_add]
/-- The text of an entry's leaves begins with the entry. -/
theorem text_leaves (c s : List UInt32) (t n : Nat) (e : List UInt8) (hs : s.length = 8) (he : e.length ≤ 40000) : (textB (leavesB c s t n e)).take e.length = e := by
  unfold leavesB
  obtain ⟨f, hf⟩ : ∃ f, f = fills e.length := ⟨_, rfl⟩
  have hf1 : 1 ≤ f := by rw [hf]; exact fills_pos _ he
  have hf2 : 48 * (f - 1) ≤ e.length ∧ e.length ≤ 48 * f := by
    rw [hf]; unfold fills; rw [if_pos he]; omega
  rw [← hf, show f = (f - 1) + 1 by omega, List.range_succ, List.map_append]
  have h1 := text_full c s t n e hs (f - 1) hf2.1
  unfold textB at h1 ⊢
  rw [List.flatMap_append, h1]
  simp only [List.map_cons, List.map_nil, List.flatMap_cons, List.flatMap_nil, List.append_nil]
  rw [leafB_text c s t n e (f - 1) hs, List.take_of_length_le (l := e.drop (48 * (f - 1))) (by rw [List.length_drop]; omega), ← List.append_assoc, List.take_append_drop]
  rw [List.take_append_of_le_length (Nat.le_refl _), List.take_of_length_le (Nat.le_refl _)]
/-- An entry whose leaves stand there is found. -/
theorem stands_leaves (c s : List UInt32) (t num : Nat) (F : List Blk) (e : Nat) (x : List UInt8) (hs : s.length = 8) (hx : x.length ≤ 40000) (h : (F.drop e).take (fills x.length) = leavesB c s t num x) : standsB c s t num F e = some x := by
  have hl := congrArg List.length h
  rw [leavesB_length, List.length_take, List.length_drop] at hl
  have hp := fills_pos _ hx
  have he : e < F.length := by omega
  have h0 : F[e] = leafB c s t num x 0 := by
    have h1 : ((F.drop e).take (fills x.length))[0]? = (leavesB c s t num x)[0]? := by rw [h]
    rw [List.getElem?_take_of_lt (by omega), List.getElem?_drop, Nat.add_zero, List.getElem?_eq_getElem he] at h1
    unfold leavesB at h1
    rw [List.getElem?_map, List.getElem?_range (by omega)] at h1
    simpa using h1
  unfold standsB
  rw [List.getElem?_eq_getElem he]
  simp only
  rw [h0, lenB_leaf c s t num x 0 hs hx, if_neg (by omega), h, text_leaves c s t num x hs hx, if_pos rfl]
/-- An entry that is found is the one whose leaves stand there. -/
theorem titleB_drop (c s : List UInt32) (t a : Nat) (hs : s.length = 8) : (titleB c s t a).1.drop 4 = pad60 (titleL t a) := sealB_drop c s _ hs (by rw [titleL_length]; omega)
theorem areaB_title (c s : List UInt32) (t a : Nat) (hs : s.length = 8) (ha : a < 4294967296) : areaB (titleB c s t a) = a := by
  unfold areaB
  rw [titleB_drop c s t a hs]
  unfold pad60 titleL
  simp only [List.append_assoc]
  rw [List.take_append_of_le_length (by rw [hi_length]; exact Nat.le_refl _), List.take_of_length_le (by rw [hi_length]; exact Nat.le_refl _), obe_hi]
  omega
theorem turnB_title (c s : List UInt32) (t a : Nat) (hs : s.length = 8) (ht : t < 4294967296) : turnB (titleB c s t a) = t := by
  unfold turnB
  rw [drop_at _ 4, titleB_drop c s t a hs]
  unfold pad60 titleL
  simp only [List.append_assoc]
  rw [List.drop_append_of_le_length (by rw [hi_length]; exact Nat.le_refl _), List.drop_of_length_le (by rw [hi_length]; exact Nat.le_refl _), List.nil_append, List.take_append_of_le_length (by rw [hi_length]; exact Nat.le_refl _), List.take_of_length_le (by rw [hi_length]; exact Nat.le_refl _), obe_hi]
  omega
/-- A title that belongs there holds. -/
theorem okT_title (c s : List UInt32) (n i t a : Nat) (hs : s.length = 8) (ht : t < 4294967296) (ha : 4 ≤ a ∧ a ≤ 1000 ∧ 2 + 2 * a ≤ n) (hi : t % 2 = i) : okT c s n i (titleB c s t a) := by
  unfold okT
  rw [turnB_title c s t a hs ht, areaB_title c s t a hs (by omega)]
  exact ⟨hi, ha, rfl⟩
theorem okT_nought (c s : List UInt32) (n i : Nat) : ¬ okT c s n i (fil 0) := by
  intro h
  have h1 : areaB (fil 0) = 0 := by decide
  have h2 := h.2.1.1
  omega
end
section
open Go.RowKit
theorem saidN_le (c s : List UInt32) (t : Nat) (F : List Blk) : ∀ (n : Nat) (ents : List (List UInt8)) (e : Nat), e ≤ F.length → (saidN c s t F n ents e).2 ≤ F.length := by
  intro n
  induction n with
  | zero => intro ents e h; exact h
  | succ n ih =>
    intro ents e h
    unfold saidN
    split
    · exact h
    · rename_i x hx
      exact ih _ _ (standsB_some hx).2.2.2.1
theorem saidN_pos (c s : List UInt32) (t : Nat) (F : List Blk) : ∀ (n : Nat) (ents : List (List UInt8)) (e : Nat), (ents = [] ↔ e = 0) → ((saidN c s t F n ents e).1 = [] ↔ (saidN c s t F n ents e).2 = 0) := by
  intro n
  induction n with
  | zero => intro ents e h; exact h
  | succ n ih =>
    intro ents e h
    unfold saidN
    split
    · exact h
    · rename_i x hx
      refine ih _ _ ⟨fun q => by simp at q, fun q => ?_⟩
      have := (standsB_some hx).2.2.1
      omega
theorem saidB_le (c s : List UInt32) (t : Nat) (F : List Blk) : (saidB c s t F).2 ≤ F.length := saidN_le c s t F _ _ _ (Nat.zero_le _)
theorem saidB_pos (c s : List UInt32) (t : Nat) (F : List Blk) : (saidB c s t F).1 = [] ↔ (saidB c s t F).2 = 0 := saidN_pos c s t F _ _ _ ⟨fun _ => rfl, fun _ => rfl⟩
/-- What an opening tells, what the disk is then, and the book. -/
def St.opens (c s : List UInt32) (S : St) : Int × St × Option (Nat × Nat × List (List UInt8) × Nat) :=
  if (S.reads 0 2).2.1 ≠ 0 then ((S.reads 0 2).2.1, (S.reads 0 2).2.2, none)
  else match pickT c s S.n (S.reads 0 2).1 2 with
    | none => (140, (S.reads 0 2).2.2, none)
    | some p =>
      if ((S.reads 0 2).2.2.reads ((2 + p.1 % 2 * p.2 : Nat) : Int) p.2).2.1 ≠ 0 then (((S.reads 0 2).2.2.reads ((2 + p.1 % 2 * p.2 : Nat) : Int) p.2).2.1, ((S.reads 0 2).2.2.reads ((2 + p.1 % 2 * p.2 : Nat) : Int) p.2).2.2, none)
      else if (saidB c s p.1 ((S.reads 0 2).2.2.reads ((2 + p.1 % 2 * p.2 : Nat) : Int) p.2).1).2 = 0 then (140, ((S.reads 0 2).2.2.reads ((2 + p.1 % 2 * p.2 : Nat) : Int) p.2).2.2, none)
      else if (((S.reads 0 2).2.2.reads ((2 + p.1 % 2 * p.2 : Nat) : Int) p.2).2.2.settle (2 + p.1 % 2 * p.2) ((S.reads 0 2).2.2.reads ((2 + p.1 % 2 * p.2 : Nat) : Int) p.2).1 (saidB c s p.1 ((S.reads 0 2).2.2.reads ((2 + p.1 % 2 * p.2 : Nat) : Int) p.2).1).2).1 ≠ 0 then
        ((((S.reads 0 2).2.2.reads ((2 + p.1 % 2 * p.2 : Nat) : Int) p.2).2.2.settle (2 + p.1 % 2 * p.2) ((S.reads 0 2).2.2.reads ((2 + p.1 % 2 * p.2 : Nat) : Int) p.2).1 (saidB c s p.1 ((S.reads 0 2).2.2.reads ((2 + p.1 % 2 * p.2 : Nat) : Int) p.2).1).2).1, (((S.reads 0 2).2.2.reads ((2 + p.1 % 2 * p.2 : Nat) : Int) p.2).2.2.settle (2 + p.1 % 2 * p.2) ((S.reads 0 2).2.2.reads ((2 + p.1 % 2 * p.2 : Nat) : Int) p.2).1 (saidB c s p.1 ((S.reads 0 2).2.2.reads ((2 + p.1 % 2 * p.2 : Nat) : Int) p.2).1).2).2, none)
      else (0, (((S.reads 0 2).2.2.reads ((2 + p.1 % 2 * p.2 : Nat) : Int) p.2).2.2.settle (2 + p.1 % 2 * p.2) ((S.reads 0 2).2.2.reads ((2 + p.1 % 2 * p.2 : Nat) : Int) p.2).1 (saidB c s p.1 ((S.reads 0 2).2.2.reads ((2 + p.1 % 2 * p.2 : Nat) : Int) p.2).1).2).2, some (p.1, p.2, saidB c s p.1 ((S.reads 0 2).2.2.reads ((2 + p.1 % 2 * p.2 : Nat) : Int) p.2).1))
theorem opens_of {c s : List UInt32} {S : St} {L : List Blk} {T : St} (h : S.reads 0 2 = (L, 0, T)) : S.opens c s = (match pickT c s S.n L 2 with
    | none => (140, T, none)
    | some p =>
      if (T.reads ((2 + p.1 % 2 * p.2 : Nat) : Int) p.2).2.1 ≠ 0 then ((T.reads ((2 + p.1 % 2 * p.2 : Nat) : Int) p.2).2.1, (T.reads ((2 + p.1 % 2 * p.2 : Nat) : Int) p.2).2.2, none)
      else if (saidB c s p.1 (T.reads ((2 + p.1 % 2 * p.2 : Nat) : Int) p.2).1).2 = 0 then (140, (T.reads ((2 + p.1 % 2 * p.2 : Nat) : Int) p.2).2.2, none)
      else if ((T.reads ((2 + p.1 % 2 * p.2 : Nat) : Int) p.2).2.2.settle (2 + p.1 % 2 * p.2) (T.reads ((2 + p.1 % 2 * p.2 : Nat) : Int) p.2).1 (saidB c s p.1 (T.reads ((2 + p.1 % 2 * p.2 : Nat) : Int) p.2).1).2).1 ≠ 0 then
        (((T.reads ((2 + p.1 % 2 * p.2 : Nat) : Int) p.2).2.2.settle (2 + p.1 % 2 * p.2) (T.reads ((2 + p.1 % 2 * p.2 : Nat) : Int) p.2).1 (saidB c s p.1 (T.reads ((2 + p.1 % 2 * p.2 : Nat) : Int) p.2).1).2).1, ((T.reads ((2 + p.1 % 2 * p.2 : Nat) : Int) p.2).2.2.settle (2 + p.1 % 2 * p.2) (T.reads ((2 + p.1 % 2 * p.2 : Nat) : Int) p.2).1 (saidB c s p.1 (T.reads ((2 + p.1 % 2 * p.2 : Nat) : Int) p.2).1).2).2, none)
      else (0, ((T.reads ((2 + p.1 % 2 * p.2 : Nat) : Int) p.2).2.2.settle (2 + p.1 % 2 * p.2) (T.reads ((2 + p.1 % 2 * p.2 : Nat) : Int) p.2).1 (saidB c s p.1 (T.reads ((2 + p.1 % 2 * p.2 : Nat) : Int) p.2).1).2).2, some (p.1, p.2, saidB c s p.1 (T.reads ((2 + p.1 % 2 * p.2 : Nat) : Int) p.2).1))) := by
  unfold St.opens
  rw [h, if_neg (by simp)]
/-- What stands in memory behind an opening. -/
def OpnPost (P : Int × St × Option (Nat × Nat × List (List UInt8) × Nat)) (g m : Nat) (A : Option Addr) (w : World) (r : Ending) (w' : World) : Prop :=
  ∃ p, r = .returned (.tuple #[.pointer p, .int .i64 P.1]) ∧ (∃ A' c', Twr P.2.1 g m A w w' A' c') ∧
    match P.2.2 with
    | none => p = none ∧ P.1 ≠ 0
    | some q => P.1 = 0 ∧ q.1 < 4294967296 ∧ 4 ≤ q.2.1 ∧ q.2.1 ≤ 1000 ∧ q.2.2.2 ≤ q.2.1 ∧ (q.2.2.1 ≠ [] ∧ 0 < q.2.2.2) ∧ ∃ b st cm, p = some ⟨b, 0, none⟩ ∧ w.heap.size ≤ b ∧ Holds w' b 58 (lc q.1 (q.2.1 : Int) st cm (q.2.2.2 : Int) (.pointer (some ⟨g, 0, none⟩)) false) ∧ SaidAt w.heap.size w' st cm q.2.2.1
theorem Twr.ofmod {T : St} {g m c : Nat} {A : Option Addr} {w v : World} (D : DAt v g m A c T) (m1 : Mod [g] w v) : Twr T g m A w v A c :=
  ⟨D, m1.wk (fun i _ h => by simp at h; simp [h]), fun a ha => .inl (by unfold blk; simp [ha])⟩
set_option maxRecDepth 100000 in
set_option maxHeartbeats 4000000 in
theorem open_c (c s : List UInt32) (S : St) (g m cc : Nat) (A : Option Addr) (w : World) (G : Glob c s w) (D : DAt w g m A cc S) (out : ∀ i ∈ g :: m :: blk A, 2 ≤ i) (ho : S.ops + 20000 ≤ 1099511627776) :
    Calls Tryd.prog 11 #[.pointer (some ⟨g, 0, none⟩)] w (OpnPost (S.opens c s) g m A w) := by
  obtain ⟨PP, hPP⟩ : ∃ P, P = S.opens c s := ⟨_, rfl⟩
  rw [← hPP]
  obtain ⟨R, hR⟩ : ∃ R, R = S.reads 0 2 := ⟨_, rfl⟩
  obtain ⟨O, hO⟩ : ∃ O, O = pickT c s S.n R.1 2 := ⟨_, rfl⟩
  have X1 := counting_c c s S g m cc A w G D out (by omega) R hR O hO
  have HH := Lib.hid (And.intro hPP (And.intro hR (And.intro hO (And.intro G (And.intro D (And.intro out ho))))))
  clear hPP hR hO G D out ho
  go_enter Tryd.func11, Tryd.ntmps11
  go_wp2_with fail
  refine X1.mono ?_
  rintro r w1 ⟨hcase, D1, m1⟩
  clear X1
  have hcase' : (∃ er, er ≠ 0 ∧ r = .returned (.tuple #[hv 0 0, .int .i64 er]) ∧ PP = (er, R.2.2, none)) ∨ (∃ t a : Nat, r = .returned (.tuple #[hv t (a : Int), .int .i64 0]) ∧ R.2.1 = 0 ∧ O = some (t, a) ∧ t < 4294967296 ∧ 4 ≤ a ∧ a ≤ 1000 ∧ 2 + 2 * a ≤ S.n) := by
    obtain ⟨h1, h2, h3, -⟩ := HH.out
    rcases hcase with ⟨q1, q2⟩ | ⟨q1, q2, q3⟩
    · exact .inl ⟨_, q1, q2, by rw [h1]; unfold St.opens; rw [← h2, if_pos q1]⟩
    · cases O with
      | none => exact .inl ⟨140, by decide, q2, by rw [h1]; unfold St.opens; rw [← h2, if_neg (by rw [q1]; simp), ← h3]⟩
      | some p => exact .inr ⟨p.1, p.2, q2, q1, rfl, q3 p rfl⟩
  clear hcase
  rcases hcase' with ⟨er, her, rfl, hP⟩ | ⟨t, a, rfl, hR0, hOs, ht, ha4, ha, han⟩
  · have HP := Lib.hid (And.intro hP her)
    clear hP
    go_wp2_with (first
      | (with_reducible refine wpList_allocs (o := ⟨some 4, .alloc 47, _, _, _, _⟩) rfl 47 rfl _ zero91 ?_; intro w2 hb2 m2 z2; replace z2 := Lib.hid z2)
      | (with_reducible refine wpList_storesAll (o := ⟨none, .store 47 (.tmp 4) (.tmp 14), _, _, _, _⟩) rfl 47 (.tmp 4) (.tmp 14) rfl rfl w1.heap.size (hc 0 0) rfl (hv 0 0) rfl rfl 47 _ hb2 rfl (hc_one _ _) (size91_of _ _) ?_; intro w3 hb3 m3 z3; replace z3 := Lib.hid z3))
    go_ret2
    have mm : Mod [] w1 w3 := m2.trans m3 (fun i hi h => by simp at h; omega)
    obtain ⟨hP, hne⟩ := HP.out
    subst hP
    exact ⟨none, rfl, ⟨A, cc, (Twr.ofmod D1 m1).mod mm⟩, rfl, hne⟩
  · have hR2 : S.reads 0 2 = (R.1, 0, R.2.2) := by rw [← HH.out.2.1, ← hR0]
    have hP := HH.out.1
    rw [opens_of hR2, ← HH.out.2.2.1, hOs] at hP
    obtain ⟨z, hz⟩ : ∃ z, z = 2 + t % 2 * a := ⟨_, rfl⟩
    obtain ⟨Q, hQ⟩ : ∃ Q, Q = R.2.2.reads ((2 + t % 2 * a : Nat) : Int) a := ⟨_, rfl⟩
    simp only [← hQ] at hP
    have hops : R.2.2.ops ≤ S.ops + 2 := by rw [HH.out.2.1]; exact reads_ops S 0 2
    have hops2 : Q.2.2.ops ≤ S.ops + 1002 := by
      have := reads_ops R.2.2 ((2 + t % 2 * a : Nat) : Int) a
      rw [← hQ] at this
      omega
    have ho := HH.out.2.2.2.2.2.2
    have HP := Lib.hid (And.intro hP (And.intro ht (And.intro ha4 (And.intro ha (And.intro hops (And.intro hops2 hQ))))))
    clear hP hR2 hR0 hOs han hops hops2 hQ hz z
    go_wp2_with (first
      | (with_reducible refine wpList_allocs (o := ⟨some 4, .alloc 47, _, _, _, _⟩) rfl 47 rfl _ zero91 ?_; intro w2 hb2 m2 z2; replace z2 := Lib.hid z2)
      | (with_reducible refine wpList_storesAll (o := ⟨none, .store 47 (.tmp 4) (.tmp 14), _, _, _, _⟩) rfl 47 (.tmp 4) (.tmp 14) rfl rfl w1.heap.size (hc t (a : Int)) rfl (hv t (a : Int)) rfl rfl 47 _ hb2 rfl (hc_one _ _) (size91_of _ _) ?_
         intro w3 hb3 m3 z3
         obtain ⟨b4, eb4⟩ : ∃ b, b = w1.heap.size := ⟨_, rfl⟩
         rw [← eb4] at hb3
         rw [← eb4]
         have m13 : Mod [] w1 w3 := m2.trans m3 (fun i hi h => by simp at h; omega)
         have D3 := D1.keep m13 (by simp) (by simp) (by simp)
         have X2 := read68_c R.2.2 g m cc A t a ht ha w3 D3 (by have := HP.out.2.2.2.2.1; omega) Q HP.out.2.2.2.2.2.2
         have HB := Lib.hid (And.intro hb3 (And.intro eb4 (And.intro m13 (And.intro z2.out z3))))
         clear eb4 hb2 m2 m3 z2 z3)
      | (with_reducible refine wpList_loads (o := ⟨some 20, .load 47 (.tmp 4), _, _, _, _⟩) rfl 47 (.tmp 4) rfl b4 0 _ rfl (Cells.of_holds hb3) _ Tryd.underlying47 rfl (size91_of t (a : Int)) (hv t (a : Int)) rfl ?_))
    refine X2.mono ?_
    rintro r w4 ⟨hcase, D4, m4⟩
    clear X2 D3
    have hbk4 : Holds w4 b4 47 (hc t (a : Int)) := hb3.keep m4 (by
      have h1 := hb3.lt
      have h2 := HH.out.2.2.2.2.1.blk.lt
      have h3 := m1.size
      have h4 := HB.out.2.1
      simp
      omega)
    clear hb3
    rcases hcase with ⟨hne, rfl⟩ | ⟨heq, x, rfl, hx, hxw⟩
    · obtain ⟨er, her⟩ : ∃ er, er = Q.2.1 := ⟨_, rfl⟩
      rw [← her] at hne ⊢
      have hP := HP.out.1
      rw [← her, if_pos hne] at hP
      have hE := Lib.hid (And.intro hP hne)
      clear her hP
      go_wp2_with fail
      go_ret2
      obtain ⟨hP, hne⟩ := hE.out
      subst hP
      exact ⟨none, rfl, ⟨A, cc, ((Twr.ofmod D1 m1).mod HB.out.2.2.1).trans (Twr.ofmod D4 m4)⟩, rfl, hne⟩
    · have hQl : Q.1.length = a := by rw [HP.out.2.2.2.2.2.2]; exact reads_length _ _ _ (by rw [← HP.out.2.2.2.2.2.2]; exact heq)
      have hGw : Glob c s w4 := (((HH.out.2.2.2.1.keepN m1 (fun i hi => HH.out.2.2.2.2.2.1 i (by simp at hi; simp [hi]))).keep HB.out.2.2.1).keepN m4 (fun i hi => HH.out.2.2.2.2.2.1 i (by simp at hi; simp [hi])))
      have X3 := said_c c s t a x Q.1 w4 hGw ht ha hQl hx
      obtain ⟨B, hB⟩ : ∃ B, B = saidB c s t Q.1 := ⟨_, rfl⟩
      have hBle := saidB_le c s t Q.1
      have hBp := saidB_pos c s t Q.1
      rw [← hB] at hBle hBp X3
      rw [hQl] at hBle
      have hP := HP.out.1
      simp only [← hB] at hP
      rw [if_neg (by simp [heq])] at hP
      have HC := Lib.hid (And.intro hP (And.intro hQl (And.intro hB (And.intro hBle (And.intro hBp (And.intro hx hxw))))))
      clear hP hQl hB hBle hBp heq hGw hx hxw
      go_wp2_with (with_reducible refine wpList_loads (o := ⟨some 28, .load 47 (.tmp 4), _, _, _, _⟩) rfl 47 (.tmp 4) rfl b4 0 _ rfl (Cells.of_holds hbk4) _ Tryd.underlying47 rfl (size91_of t (a : Int)) (hv t (a : Int)) rfl ?_)
      refine X3.mono ?_
      rintro r w5 ⟨st, cm, rfl, hsa, m5⟩
      clear X3
      obtain ⟨B2, hB2⟩ : ∃ e, e = B.2 := ⟨_, rfl⟩
      have hst : ∃ A1 n1 c1, st = .slice A1 n1 c1 := by
        cases hb1 : B.1 with
        | nil => rw [hb1] at hsa; exact ⟨_, _, _, hsa.1⟩
        | cons y ys => rw [hb1] at hsa; obtain ⟨p, C, ck, k, L, h1, _⟩ := hsa; exact ⟨_, _, _, h1⟩
      have hcm : ∃ A1 n1 c1, cm = .slice A1 n1 c1 := by
        cases hb1 : B.1 with
        | nil => rw [hb1] at hsa; exact ⟨_, _, _, hsa.2⟩
        | cons y ys => rw [hb1] at hsa; obtain ⟨p, C, ck, k, L, h1, h2, h3, _⟩ := hsa; exact ⟨_, _, _, h3⟩
      obtain ⟨A1, n1, c1, rfl⟩ := hst
      obtain ⟨A2, n2, c2, rfl⟩ := hcm
      rw [← hB2]
      have D5 := D4.keep m5 (by simp) (by simp) (by simp)
      have hx5 := HC.out.2.2.2.2.2.1.keep m5 (by simp)
      have HS := Lib.hid (And.intro hsa (And.intro D5 (And.intro hx5 (And.intro m5 hB2))))
      clear hsa D5 hx5 m5 hB2 hbk4
      by_cases hB0 : B2 = 0
      · subst hB0
        have hP := HC.out.1
        rw [if_pos (HS.out.2.2.2.2.symm)] at hP
        have hE := Lib.hid hP
        clear hP
        go_wp2_with (first
          | (with_reducible refine wpList_allocs (o := ⟨some 7, .alloc 50, _, _, _, _⟩) rfl 50 rfl _ zero93 ?_; intro w6 hb6 m6 z6; replace z6 := Lib.hid z6)
          | (with_reducible refine wpList_storesAll (o := ⟨none, .store 50 (.tmp 7) (.tmp 30), _, _, _, _⟩) rfl 50 (.tmp 7) (.tmp 30) rfl rfl w5.heap.size (kc t (a : Int) (.slice A1 n1 c1) (.slice A2 n2 c2) ((0 : Nat) : Int)) rfl (kv t (a : Int) (.slice A1 n1 c1) (.slice A2 n2 c2) ((0 : Nat) : Int)) rfl rfl 50 _ hb6 (by rw [kc_length, kc_length]) (kc_one _ _ _ _ _ _ _ _ _) (size93_of _ _ _ _ _) ?_
             intro w7 hb7 m7 z7
             have c7 : w7.cell? ⟨w5.heap.size, 4, none⟩ = some (.int .i64 0) := by simpa using (kc_cells (Cells.of_holds hb7)).2.2.2.2
             replace z7 := Lib.hid z7))
        go_ret2
        have m57 : Mod [] w5 w7 := m6.trans m7 (fun i hi h => by simp at h; omega)
        have hP := hE.out
        subst hP
        exact ⟨none, rfl, ⟨A, cc, (((Twr.ofmod D1 m1).mod HB.out.2.2.1).trans (Twr.ofmod D4 m4)).mod (HS.out.2.2.2.1.then m57)⟩, rfl, by show (140 : Int) ≠ 0; decide⟩
      · have hB0Z : ¬ (B2 : Int) = 0 := by omega
        go_wp2_with (first
          | (with_reducible refine wpList_allocs (o := ⟨some 7, .alloc 50, _, _, _, _⟩) rfl 50 rfl _ zero93 ?_; intro w6 hb6 m6 z6; replace z6 := Lib.hid z6)
          | (with_reducible refine wpList_storesAll (o := ⟨none, .store 50 (.tmp 7) (.tmp 30), _, _, _, _⟩) rfl 50 (.tmp 7) (.tmp 30) rfl rfl w5.heap.size (kc t (a : Int) (.slice A1 n1 c1) (.slice A2 n2 c2) (B2 : Int)) rfl (kv t (a : Int) (.slice A1 n1 c1) (.slice A2 n2 c2) (B2 : Int)) rfl rfl 50 _ hb6 (by rw [kc_length, kc_length]) (kc_one _ _ _ _ _ _ _ _ _) (size93_of _ _ _ _ _) ?_
             intro w7 hb7 m7 z7
             obtain ⟨b7, eb7⟩ : ∃ b, b = w5.heap.size := ⟨_, rfl⟩
             rw [← eb7] at hb7
             rw [← eb7]
             have c7 : w7.cell? ⟨b7, 4, none⟩ = some (.int .i64 (B2 : Int)) := by simpa using (kc_cells (Cells.of_holds hb7)).2.2.2.2
             have HB7 := Lib.hid (And.intro hb7 (And.intro (show Mod [] w5 w7 from m6.trans m7 (fun i hi h => by simp at h; omega)) eb7))
             clear hb6 m6 m7 z6 z7 eb7 hb7))
        have D7 := HS.out.2.1.keep HB7.out.2.1 (by simp) (by simp) (by simp)
        have X4 := settle_c Q.2.2 g m cc A b7 t a (.slice A1 n1 c1) (.slice A2 n2 c2) B2 Q.1 (some ⟨x, 0, none⟩) a w7 D7 HB7.out.1 (Cells.of_holds (HS.out.2.2.1.keep HB7.out.2.1 (by simp))) ha ht HC.out.2.1 (by have := HC.out.2.2.2.1; have := HS.out.2.2.2.2; omega) (by have := HP.out.2.2.2.2.2.1; omega)
        obtain ⟨Z, hZ⟩ : ∃ Z, Z = Q.2.2.settle (2 + t % 2 * a) Q.1 B2 := ⟨_, rfl⟩
        rw [← hZ] at X4
        refine X4.mono ?_
        rintro r w8 ⟨rfl, A8, c8, T8⟩
        clear X4
        have hP := HC.out.1
        rw [← HS.out.2.2.2.2, if_neg hB0, ← hZ] at hP
        obtain ⟨er, her⟩ : ∃ er, er = Z.1 := ⟨_, rfl⟩
        rw [← her] at hP ⊢
        have hb8 := T8.holds D7 HB7.out.1 (by decide) (by decide)
        by_cases he0 : er = 0
        · subst he0
          rw [if_neg (by simp)] at hP
          have hE := Lib.hid (And.intro hP (And.intro T8 her))
          have D7' := Lib.hid D7
          clear hP T8 her hZ D7 c7
          go_wp2_with (first
            | (with_reducible refine wpList_loads (o := ⟨some 40, .load 50 (.tmp 7), _, _, _, _⟩) rfl 50 (.tmp 7) rfl b7 0 _ rfl (Cells.of_holds hb8) _ Tryd.underlying50 rfl (size93_of _ _ _ _ _) (kv t (a : Int) (.slice A1 n1 c1) (.slice A2 n2 c2) (B2 : Int)) rfl ?_)
            | (with_reducible refine wpList_ranW (o := ⟨some 42, .build 58 _, _, _, _, _⟩) (by with_unfolding_all rfl) (lv t (a : Int) (.slice A1 n1 c1) (.slice A2 n2 c2) (B2 : Int) (.pointer (some ⟨g, 0, none⟩)) false) w8 (exec_build100 rfl rfl rfl) ?_)
            | (with_reducible refine wpList_boxes (o := ⟨some 43, .box 58 (.tmp 42), _, _, _, _⟩) rfl 58 (.tmp 42) rfl _ rfl (lc t (a : Int) (.slice A1 n1 c1) (.slice A2 n2 c2) (B2 : Int) (.pointer (some ⟨g, 0, none⟩)) false) rfl ?_; intro w9 hb9 m9 z9; replace z9 := Lib.hid z9))
          go_ret2
          obtain ⟨hP, T8, her⟩ := hE.out
          subst hP
          have hw8 := T8.mm.size
          have h1 := HB7.out.2.1.size
          have h2 := HS.out.2.2.2.1.size
          have h3 := HC.out.2.2.2.2.2.2
          have h4 := HB.out.2.2.1.size
          have h5 := m1.size
          have h6 : w3.heap.size ≤ w4.heap.size := m4.size
          have hB2 := HS.out.2.2.2.2
          have hBp := HC.out.2.2.2.2.1
          have m79 : Mod (g :: m :: blk A) w7 w9 := T8.mm.then m9
          refine ⟨some ⟨w8.heap.size, 0, none⟩, rfl, ⟨A8, c8, (((((Twr.ofmod D1 m1).mod HB.out.2.2.1).trans (Twr.ofmod D4 m4)).mod (HS.out.2.2.2.1.then HB7.out.2.1)).trans T8).mod m9⟩, rfl, ht, ha4, ha, ?_, ?_, w8.heap.size, .slice A1 n1 c1, .slice A2 n2 c2, rfl, by omega, ?_, ?_⟩
          · show B.2 ≤ a
            exact HC.out.2.2.2.1
          · show B.1 ≠ [] ∧ 0 < B.2
            exact ⟨fun q => hB0 (hB2.trans (hBp.1 q)), by omega⟩
          · show Holds w9 _ 58 (lc t (a : Int) _ _ (B.2 : Int) _ false)
            rw [← hB2]
            exact hb9
          · show SaidAt w.heap.size w9 _ _ B.1
            have hsa := HS.out.1.keep HB7.out.2.1
            have hk5 : ∀ k cs, Holds w7 k 5 cs → k ∉ g :: m :: blk A := fun k cs hk => notin3 D7'.out hk (by decide) (by decide)
            cases hb1 : B.1 with
            | nil => rw [hb1] at hsa; exact hsa
            | cons y ys =>
              rw [hb1] at hsa
              obtain ⟨p, C, ck, k, L, q1, q2, q3, q4, q5, q6, q7⟩ := hsa
              have hlow : w.heap.size ≤ w4.heap.size := by omega
              exact ⟨p, C, ck, k, L, q1, (q2.keep m79 (fun z cs _ hz => hk5 _ cs hz)).lower hlow, q3, q4, q5.keep m79 (fun z hz => own_off D7'.out q5 (by decide) (by decide) z hz), (q6.keep m79 (fun k cs hk => hk5 k cs hk)).lower hlow, fun z hz => Nat.le_trans hlow (q7 z hz)⟩
        · rw [if_pos he0] at hP
          have hE := Lib.hid (And.intro hP (And.intro T8 he0))
          clear hP T8 her hZ D7 c7
          go_wp2_with fail
          go_ret2
          obtain ⟨hP, T8, he0⟩ := hE.out
          subst hP
          exact ⟨none, rfl, ⟨A8, c8, ((((Twr.ofmod D1 m1).mod HB.out.2.2.1).trans (Twr.ofmod D4 m4)).mod (HS.out.2.2.2.1.then HB7.out.2.1)).trans T8⟩, rfl, he0⟩
end
section
open Go.RowKit
/-- A log, whatever memory it lies in: how things stood, what came, the end of the field. -/
structure Lo where
  t : Nat
  a : Nat
  x0 : List UInt8
  xs : List (List UInt8)
  e : Nat
  br : Bool
def Lo.app (c s : List UInt32) (L : Lo) (S : St) (l : List UInt8) : Int × Lo × St :=
  if 40000 < l.length then (3, L, S) else if L.br = true then (8, L, S) else if L.a - L.e < fills l.length then (6, L, S)
  else if (S.add ((2 + L.t % 2 * L.a + L.e : Nat) : Int) (leavesB c s L.t (1 + L.xs.length) l)).1 = 0 then (0, { L with xs := L.xs ++ [l], e := L.e + fills l.length }, (S.add ((2 + L.t % 2 * L.a + L.e : Nat) : Int) (leavesB c s L.t (1 + L.xs.length) l)).2)
  else ((S.add ((2 + L.t % 2 * L.a + L.e : Nat) : Int) (leavesB c s L.t (1 + L.xs.length) l)).1, { L with br := true }, (S.add ((2 + L.t % 2 * L.a + L.e : Nat) : Int) (leavesB c s L.t (1 + L.xs.length) l)).2)
def Lo.lay (c s : List UInt32) (L : Lo) (S : St) (l : List UInt8) : Int × St := S.layN ((2 + (L.t + 1) % 2 * L.a : Nat) : Int) (((L.t + 1) % 2 : Nat) : Int) (leavesB c s (L.t + 1) 0 l) (titleB c s (L.t + 1) L.a) 4
def Lo.chk (c s : List UInt32) (L : Lo) (S : St) (l : List UInt8) : Int × Lo × St :=
  if 40000 < l.length then (3, L, S) else if L.br = true then (8, L, S) else if L.a < fills l.length ∨ L.t = 4294967295 then (6, L, S)
  else if (L.lay c s S l).1 = 0 then (0, { t := L.t + 1, a := L.a, x0 := l, xs := [], e := fills l.length, br := false }, (L.lay c s S l).2)
  else ((L.lay c s S l).1, { L with br := true }, (L.lay c s S l).2)
def blkE (L : List (Option Addr × Nat × Nat)) : List Nat := L.flatMap fun p => blk p.1
structure LgX (c s : List UInt32) (g m : Nat) (A : Option Addr) (cc b : Nat) (p : Option Addr × Nat × Nat) (C : Option Addr) (ck k : Nat) (LL : List (Option Addr × Nat × Nat)) (L : Lo) (S : St) (w : World) : Prop where
  G : Glob c s w
  D : DAt w g m A cc S
  out : ∀ i ∈ g :: m :: blk A, 2 ≤ i
  hb : Holds w b 58 (lc L.t (L.a : Int) (.slice p.1 p.2.1 p.2.2) (.slice C k ck) (L.e : Int) (.pointer (some ⟨g, 0, none⟩)) L.br)
  ht : L.t < 4294967296
  ha : L.a ≤ 1000
  he : 0 < L.e ∧ L.e ≤ L.a
  hx : L.xs.length < L.e
  hp : Ent 2 w p L.x0
  hk : k = LL.length
  hO : OwnG sl 34 1 w C ck LL
  hE : Ents 2 w LL L.xs
  b2 : 2 ≤ b
  C2 : ∀ z, C = some z → 2 ≤ z.block
def Lg (c s : List UInt32) (g m b : Nat) (L : Lo) (S : St) (ms rs : List Nat) (w : World) : Prop :=
  ∃ (A : Option Addr) (cc : Nat) (p : Option Addr × Nat × Nat) (C : Option Addr) (ck k : Nat) (LL : List (Option Addr × Nat × Nat)), LgX c s g m A cc b p C ck k LL L S w ∧ ms = b :: g :: m :: (blk A ++ blk C) ∧ rs = blkE (p :: LL)
theorem Ents.keep2 {B : Nat} {w v : World} {ms : List Nat} {L : List (Option Addr × Nat × Nat)} {ls : List (List UInt8)} (h : Ents B w L ls) (m : Mod ms w v) (hm : ∀ i ∈ blkE L, i ∉ ms) : Ents B v L ls := by
  induction h with
  | nil => exact .nil
  | cons h _ ih =>
    refine .cons (h.keep m (fun x cs hx _ => hm _ ?_)) (ih (fun i hi => hm i ?_))
    · simp [blkE, blk, hx]
    · simp only [blkE, List.flatMap_cons, List.mem_append]
      exact .inr hi
theorem blkE_cons (p : Option Addr × Nat × Nat) (L : List (Option Addr × Nat × Nat)) : blkE (p :: L) = blk p.1 ++ blkE L := by simp [blkE]
theorem blkE_append (K L : List (Option Addr × Nat × Nat)) : blkE (K ++ L) = blkE K ++ blkE L := by simp [blkE]
theorem LgX.keep {c s : List UInt32} {g m : Nat} {A : Option Addr} {cc b : Nat} {p : Option Addr × Nat × Nat} {C : Option Addr} {ck k : Nat} {LL : List (Option Addr × Nat × Nat)} {L : Lo} {S : St} {w v : World} {ns : List Nat} (h : LgX c s g m A cc b p C ck k LL L S w) (q : Mod ns w v) (h1 : ∀ i ∈ b :: g :: m :: (blk A ++ blk C), i ∉ ns) (h2 : ∀ i ∈ blkE (p :: LL), i ∉ ns) (h3 : ∀ i ∈ ns, 2 ≤ i) : LgX c s g m A cc b p C ck k LL L S v := by
  refine ⟨h.G.keepN q h3, h.D.keep q (h1 g (by simp)) (h1 m (by simp)) (fun a ha => h1 _ (by simp [blk, ha])), h.out, h.hb.keep q (h1 b (by simp)), h.ht, h.ha, h.he, h.hx, h.hp.keep q (fun x cs hx _ => h2 _ (by rw [blkE_cons]; simp [blk, hx])), h.hk, h.hO.keep q (fun z hz => h1 _ (by simp [blk, hz])), h.hE.keep2 q (fun i hi => h2 i (by rw [blkE_cons]; simp [hi])), h.b2, h.C2⟩
theorem Lg.keep {c s : List UInt32} {g m b : Nat} {L : Lo} {S : St} {ms rs ns : List Nat} {w v : World} (h : Lg c s g m b L S ms rs w) (q : Mod ns w v) (h1 : ∀ i ∈ ms, i ∉ ns) (h2 : ∀ i ∈ rs, i ∉ ns) (h3 : ∀ i ∈ ns, 2 ≤ i) : Lg c s g m b L S ms rs v := by
  obtain ⟨A, cc, p, C, ck, k, LL, hX, rfl, rfl⟩ := h
  exact ⟨A, cc, p, C, ck, k, LL, hX.keep q h1 h2 h3, rfl, rfl⟩
theorem Lg.keep0 {c s : List UInt32} {g m b : Nat} {L : Lo} {S : St} {ms rs : List Nat} {w v : World} (h : Lg c s g m b L S ms rs w) (q : Mod [] w v) : Lg c s g m b L S ms rs v := h.keep q (by simp) (by simp) (by simp)
/-- What is done with a log leaves it so. -/
def LgPost (c s : List UInt32) (g m b : Nat) (X : Int × Lo × St) (ms rs : List Nat) (w : World) (r : Ending) (w' : World) : Prop :=
  r = .returned (.int .i64 X.1) ∧ ∃ ms' rs', Lg c s g m b X.2.1 X.2.2 ms' rs' w' ∧ Mod ms w w' ∧ (∀ i ∈ ms', i ∈ ms ∨ w.heap.size ≤ i) ∧ (∀ i ∈ rs', i ∈ rs ∨ w.heap.size ≤ i)
theorem LgPost.still {c s : List UInt32} {g m b : Nat} {L : Lo} {S : St} {ms rs : List Nat} {w w' : World} {er : Int} {r : Ending} (h : Lg c s g m b L S ms rs w) (hr : r = .returned (.int .i64 er)) (q : Mod [] w w') : LgPost c s g m b (er, L, S) ms rs w r w' :=
  ⟨hr, ms, rs, h.keep0 q, q.wk (fun _ _ h => by cases h), fun _ h => .inl h, fun _ h => .inl h⟩
section
variable {c s : List UInt32} {g m b : Nat} {L : Lo} {S : St} {ms rs : List Nat} {w : World}
theorem LgX.addH {A : Option Addr} {cc : Nat} {p : Option Addr × Nat × Nat} {C : Option Addr} {ck k : Nat} {LL : List (Option Addr × Nat × Nat)} (h : LgX c s g m A cc b p C ck k LL L S w) (B : Option Addr) (nb cb : Nat) (l : List UInt8) (hr : Reads w B l) (hn : nb = l.length) (hc : nb ≤ cb) (hl : nb ≤ 140737488355328) (hB : ∀ x, B = some x → ∃ cs, Holds w x.block 5 cs) :
    AddH c s g m A b L.t L.a (.slice p.1 p.2.1 p.2.2) C k ck L.e (.pointer (some ⟨g, 0, none⟩)) L.br B nb cb l w :=
  ⟨h.G, h.hb, hr, h.ht, h.ha, hn, hc, hl, fun x hx => by obtain ⟨cs, hcs⟩ := hB x hx; exact ⟨hcs.lt, notin3 h.D hcs (by decide) (by decide)⟩, h.out, by have := h.hE.length; have := h.hk; have := h.hx; have := h.he; have := h.ha; omega, by have := h.he; have := h.ha; omega⟩
/-- The entries' blocks, behind what a log may turn. -/
theorem LgX.apart {A : Option Addr} {cc : Nat} {p : Option Addr × Nat × Nat} {C : Option Addr} {ck k : Nat} {LL : List (Option Addr × Nat × Nat)} (h : LgX c s g m A cc b p C ck k LL L S w) : ∀ i cs, Holds w i 5 cs → i ∉ b :: g :: m :: (blk A ++ blk C) := fun i cs hi => by
  have h1 := notin3 h.D hi (by decide) (by decide)
  simp only [List.mem_cons, List.mem_append, not_or] at h1 ⊢
  exact ⟨hi.ne h.hb (by decide), h1.1, h1.2.1, h1.2.2, notin_blk (h.hO.ne hi (by decide))⟩
theorem LgX.bC {A : Option Addr} {cc : Nat} {p : Option Addr × Nat × Nat} {C : Option Addr} {ck k : Nat} {LL : List (Option Addr × Nat × Nat)} (h : LgX c s g m A cc b p C ck k LL L S w) : ∀ z, C = some z → z.block ∉ b :: g :: m :: blk A := row_apart h.D h.hb h.hO
theorem mem_wide {i b g m : Nat} {A C : List Nat} (h : i ∈ b :: g :: m :: A) : i ∈ b :: g :: m :: (A ++ C) := by
  simp only [List.mem_cons, List.mem_append] at h ⊢
  rcases h with h | h | h | h <;> simp [h]
theorem LgX.broke {A : Option Addr} {cc : Nat} {p : Option Addr × Nat × Nat} {C : Option Addr} {ck k : Nat} {LL : List (Option Addr × Nat × Nat)} (h : LgX c s g m A cc b p C ck k LL L S w) {T : St} {w' : World} {A' : Option Addr} {c' : Nat} (W : Wtr T b g m A w w' A' c') (q1 : Holds w' b 58 (lc L.t (L.a : Int) (.slice p.1 p.2.1 p.2.2) (.slice C k ck) (L.e : Int) (.pointer (some ⟨g, 0, none⟩)) true)) :
    ∃ ms' rs', Lg c s g m b { L with br := true } T ms' rs' w' ∧ Mod (b :: g :: m :: (blk A ++ blk C)) w w' ∧ (∀ i ∈ ms', i ∈ b :: g :: m :: (blk A ++ blk C) ∨ w.heap.size ≤ i) ∧ (∀ i ∈ rs', i ∈ blkE (p :: LL) ∨ w.heap.size ≤ i) := by
  have hn : ∀ i cs, Holds w i 5 cs → i ∉ b :: g :: m :: blk A := fun i cs hi hh => h.apart i cs hi (mem_wide hh)
  refine ⟨b :: g :: m :: (blk A' ++ blk C), blkE (p :: LL), ⟨A', c', p, C, ck, k, LL, ⟨h.G.keepN W.mm (fun i hi => ?_), W.D, fun i hi => ?_, q1, h.ht, h.ha, h.he, h.hx, h.hp.keep W.mm (fun x cs _ hx => hn _ cs hx), h.hk, h.hO.keep W.mm h.bC, h.hE.keep W.mm (fun i cs hi => hn i cs hi), h.b2, h.C2⟩, rfl, rfl⟩, W.mm.wk (fun i _ hi => mem_wide hi), ?_, fun i hi => .inl hi⟩
  · simp only [List.mem_cons] at hi
    rcases hi with rfl | hi
    · exact h.b2
    · exact h.out i (by simpa using hi)
  · simp only [List.mem_cons] at hi
    rcases hi with rfl | rfl | hi
    · exact h.out _ (by simp)
    · exact h.out _ (by simp)
    · obtain ⟨z, hz, rfl⟩ := mem_blk hi
      rcases W.new z hz with q | q
      · exact h.out _ (by simp [q])
      · exact Nat.le_trans h.G.two q
  · intro i hi
    simp only [List.mem_cons, List.mem_append] at hi ⊢
    rcases hi with rfl | rfl | rfl | hi | hi
    · simp
    · simp
    · simp
    · obtain ⟨z, hz, rfl⟩ := mem_blk hi
      rcases W.new z hz with q | q
      · exact .inl (.inr (.inr (.inr (.inl q))))
      · exact .inr q
    · exact .inl (.inr (.inr (.inr (.inr hi))))
theorem lg_append (h : Lg c s g m b L S ms rs w) (B : Option Addr) (nb cb : Nat) (l : List UInt8) (hr : Reads w B l) (hn : nb = l.length) (hc : nb ≤ cb) (hl : nb ≤ 140737488355328) (hB : ∀ x, B = some x → ∃ cs, Holds w x.block 5 cs) (ho : S.ops + 5000 ≤ 1099511627776) :
    Calls Tryd.prog 10 #[.pointer (some ⟨b, 0, none⟩), .slice B nb cb] w (LgPost c s g m b (L.app c s S l) ms rs w) := by
  have hL := h
  obtain ⟨A, cc, p, C, ck, k, LL, hX, rfl, rfl⟩ := h
  have H := hX.addH B nb cb l hr hn hc hl hB
  unfold Lo.app
  by_cases h1 : 40000 < l.length
  · rw [if_pos h1]
    exact (append_ref c s S g m cc A b L.t L.a _ C k ck L.e L.br B nb cb l w hX.D H hX.he.2 3 (by rw [if_pos (show 40000 < nb by omega)]) (by decide)).mono (fun r w' hh => LgPost.still hL hh.1 hh.2)
  rw [if_neg h1]
  by_cases h2 : L.br = true
  · rw [if_pos h2]
    exact (append_ref c s S g m cc A b L.t L.a _ C k ck L.e L.br B nb cb l w hX.D H hX.he.2 8 (by rw [if_neg (show ¬ 40000 < nb by omega), if_pos h2]) (by decide)).mono (fun r w' hh => LgPost.still hL hh.1 hh.2)
  rw [if_neg h2]
  have hbr : L.br = false := by simpa using h2
  by_cases h3 : L.a - L.e < fills l.length
  · rw [if_pos h3]
    exact (append_full c s S g m cc A b L.t L.a _ C k ck L.e L.br B nb cb l w hX.D H hX.he.2 (by omega) hbr (by rw [hn]; exact h3)).mono (fun r w' hh => LgPost.still hL hh.1 hh.2)
  rw [if_neg h3]
  have hnum : numB k L.e = 1 + L.xs.length := by unfold numB; rw [if_neg (by have := hX.he; omega), hX.hk, hX.hE.length]
  obtain ⟨X, hXX⟩ : ∃ X, X = S.add ((2 + L.t % 2 * L.a + L.e : Nat) : Int) (leavesB c s L.t (1 + L.xs.length) l) := ⟨_, rfl⟩
  rw [← hXX]
  by_cases h4 : X.1 = 0
  · rw [if_pos h4]
    refine (append_ok c s S g m cc A b L.t L.a _ C k ck L.e L.br B nb cb l w hX.D H hX.he.2 (by omega) hbr (by rw [hn]; omega) ho X.2 (by rw [hnum, ← hXX, ← h4]) LL hX.hO hX.hk (by have := hX.hE.length; have := hX.hx; have := hX.he; have := hX.ha; have := hX.hk; omega) hX.he.1 (fun x hx => by obtain ⟨cs, hcs⟩ := hB x hx; exact hcs.ne hX.hb (by decide))).mono ?_
    rintro r w' ⟨rfl, y, C', ck', A', c', q1, q2, q3, q4, q5, q6, q7, q8⟩
    have h5 : ∀ i ∈ blkE (p :: LL), i ∉ b :: g :: m :: (blk A ++ blk C) → True := fun _ _ _ => trivial
    refine ⟨rfl, b :: g :: m :: (blk A' ++ blk C'), blkE (p :: (LL ++ [(some ⟨y, 0, none⟩, nb, nb)])), ⟨A', c', p, C', ck', k + 1, LL ++ [(some ⟨y, 0, none⟩, nb, nb)], ?_, rfl, rfl⟩, q6, ?_, ?_⟩
    · refine ⟨hX.G.keepN q6 (fun i hi => ?_), q5, fun i hi => ?_, by rw [show fills nb = fills l.length by rw [hn]] at q1; rw [hbr]; exact q1, hX.ht, hX.ha, ⟨by have := hX.he; show 0 < L.e + _; omega, by have := hX.he; show L.e + fills l.length ≤ L.a; omega⟩, ?_, hX.hp.keep q6 (fun x cs _ hx => hX.apart _ cs hx), by simp [hX.hk], q2, ?_, hX.b2, fun z hz => ?_⟩
      · simp only [List.mem_cons, List.mem_append] at hi
        rcases hi with rfl | rfl | rfl | hi | hi
        · exact hX.b2
        · exact hX.out _ (by simp)
        · exact hX.out _ (by simp)
        · exact hX.out _ (by simp [hi])
        · obtain ⟨z, hz, rfl⟩ := mem_blk hi
          exact hX.C2 z hz
      · simp only [List.mem_cons] at hi
        rcases hi with rfl | rfl | hi
        · exact hX.out _ (by simp)
        · exact hX.out _ (by simp)
        · obtain ⟨z, hz, rfl⟩ := mem_blk hi
          rcases q7 z hz with q | q
          · exact hX.out _ (by simp [q])
          · exact Nat.le_trans hX.G.two q
      · show (L.xs ++ [l]).length < L.e + fills l.length
        have := fills_pos l.length (by omega)
        have := hX.hx
        rw [List.length_append]
        simp
        omega
      · refine (hX.hE.keep q6 (fun i cs hi => hX.apart i cs hi)).snoc ⟨hn, hn, by omega, Reads.of_holds q3, fun x hx => ?_⟩
        cases hx
        exact ⟨Nat.le_trans hX.G.two q4, _, q3⟩
      · rcases q8 z hz with q | q
        · obtain ⟨z', hz', e⟩ := mem_blk q
          rw [← e]
          exact hX.C2 z' hz'
        · exact Nat.le_trans hX.G.two q
    · intro i hi
      simp only [List.mem_cons, List.mem_append] at hi ⊢
      rcases hi with rfl | rfl | rfl | hi | hi
      · simp
      · simp
      · simp
      · obtain ⟨z, hz, rfl⟩ := mem_blk hi
        rcases q7 z hz with q | q
        · exact .inl (.inr (.inr (.inr (.inl q))))
        · exact .inr q
      · obtain ⟨z, hz, rfl⟩ := mem_blk hi
        rcases q8 z hz with q | q
        · exact .inl (.inr (.inr (.inr (.inr q))))
        · exact .inr q
    · intro i hi
      rw [blkE_cons, blkE_append] at hi
      rw [blkE_cons]
      simp only [List.mem_append] at hi ⊢
      rcases hi with hi | hi | hi
      · exact .inl (.inl hi)
      · exact .inl (.inr hi)
      · simp [blkE, blk] at hi
        subst hi
        exact .inr q4
  · rw [if_neg h4]
    refine (append_err c s S g m cc A b L.t L.a _ C k ck L.e L.br B nb cb l w hX.D H hX.he.2 (by omega) hbr (by rw [hn]; omega) ho X.1 X.2 (by rw [hnum, ← hXX]) h4).mono ?_
    rintro r w' ⟨rfl, q1, A', c', W⟩
    exact ⟨rfl, hX.broke W q1⟩
theorem lg_check (h : Lg c s g m b L S ms rs w) (B : Option Addr) (nb cb : Nat) (l : List UInt8) (hr : Reads w B l) (hn : nb = l.length) (hc : nb ≤ cb) (hl : nb ≤ 140737488355328) (hB : ∀ x, B = some x → ∃ cs, Holds w x.block 5 cs) (ho : S.ops + 5000 ≤ 1099511627776) :
    Calls Tryd.prog 13 #[.pointer (some ⟨b, 0, none⟩), .slice B nb cb] w (LgPost c s g m b (L.chk c s S l) ms rs w) := by
  have hL := h
  obtain ⟨A, cc, p, C, ck, k, LL, hX, rfl, rfl⟩ := h
  have H := hX.addH B nb cb l hr hn hc hl hB
  unfold Lo.chk
  by_cases h1 : 40000 < l.length
  · rw [if_pos h1]
    exact (ck_ref c s S g m cc A b L.t L.a _ C k ck L.e L.br B nb cb l w hX.D H 3 (by rw [if_pos (show 40000 < nb by omega)]) (by decide)).mono (fun r w' hh => LgPost.still hL hh.1 hh.2)
  rw [if_neg h1]
  by_cases h2 : L.br = true
  · rw [if_pos h2]
    exact (ck_ref c s S g m cc A b L.t L.a _ C k ck L.e L.br B nb cb l w hX.D H 8 (by rw [if_neg (show ¬ 40000 < nb by omega), if_pos h2]) (by decide)).mono (fun r w' hh => LgPost.still hL hh.1 hh.2)
  rw [if_neg h2]
  have hbr : L.br = false := by simpa using h2
  by_cases h3 : L.a < fills l.length ∨ L.t = 4294967295
  · rw [if_pos h3]
    by_cases h5 : L.a < fills l.length
    · exact (ck_full1 c s S g m cc A b L.t L.a _ C k ck L.e L.br B nb cb l w hX.D H (by omega) hbr (by rw [hn]; exact h5)).mono (fun r w' hh => LgPost.still hL hh.1 hh.2)
    · have h6 : L.t = 4294967295 := by rcases h3 with q | q; exact absurd q h5; exact q
      exact (ck_full2 c s S g m cc A b L.t L.a _ C k ck L.e L.br B nb cb l w hX.D H (by omega) hbr (by rw [hn]; omega) h6).mono (fun r w' hh => LgPost.still hL hh.1 hh.2)
  rw [if_neg h3]
  obtain ⟨X, hXX⟩ : ∃ X, X = L.lay c s S l := ⟨_, rfl⟩
  rw [← hXX]
  unfold Lo.lay at hXX
  by_cases h4 : X.1 = 0
  · rw [if_pos h4]
    refine (ck_ok c s S g m cc A b L.t L.a _ C k ck L.e L.br B nb cb l w hX.D H (by omega) hbr (by rw [hn]; omega) (by omega) ho X.2 (by rw [← hXX, ← h4])).mono ?_
    rintro r w' ⟨rfl, y, A', c', q1, q2, q3, W⟩
    have hf := fills_pos l.length (by omega)
    refine ⟨rfl, b :: g :: m :: (blk A' ++ blk none), blkE [(some ⟨y, 0, none⟩, nb, nb)], ⟨A', c', (some ⟨y, 0, none⟩, nb, nb), none, 0, 0, [], ?_, rfl, rfl⟩, ?_, ?_, ?_⟩
    · refine ⟨hX.G.keepN W.mm (fun i hi => ?_), W.D, fun i hi => ?_, by rw [show fills nb = fills l.length by rw [hn]] at q1; exact q1, by have := hX.ht; show L.t + 1 < _; omega, hX.ha, ⟨hf, by show fills l.length ≤ L.a; omega⟩, hf, ⟨hn, hn, by show l.length ≤ 40000; omega, Reads.of_holds q2, fun x hx => ?_⟩, rfl, OwnG.nil _ _ _ _, .nil, hX.b2, by simp⟩
      · simp only [List.mem_cons] at hi
        rcases hi with rfl | hi
        · exact hX.b2
        · exact hX.out i (by simpa using hi)
      · simp only [List.mem_cons] at hi
        rcases hi with rfl | rfl | hi
        · exact hX.out _ (by simp)
        · exact hX.out _ (by simp)
        · obtain ⟨z, hz, rfl⟩ := mem_blk hi
          rcases W.new z hz with q | q
          · exact hX.out _ (by simp [q])
          · exact Nat.le_trans hX.G.two q
      · cases hx
        exact ⟨Nat.le_trans hX.G.two q3, _, q2⟩
    · exact W.mm.wk (fun i _ hi => mem_wide hi)
    · intro i hi
      simp only [List.mem_cons, List.mem_append] at hi ⊢
      rcases hi with rfl | rfl | rfl | hi | hi
      · simp
      · simp
      · simp
      · obtain ⟨z, hz, rfl⟩ := mem_blk hi
        rcases W.new z hz with q | q
        · exact .inl (.inr (.inr (.inr (.inl q))))
        · exact .inr q
      · simp [blk] at hi
    · intro i hi
      simp [blkE, blk] at hi
      subst hi
      exact .inr q3
  · rw [if_neg h4]
    refine (ck_err c s S g m cc A b L.t L.a _ C k ck L.e L.br B nb cb l w hX.D H (by omega) hbr (by rw [hn]; omega) (by omega) ho X.1 X.2 (by rw [← hXX]) h4).mono ?_
    rintro r w' ⟨rfl, q1, A', c', W⟩
    exact ⟨rfl, hX.broke W q1⟩
end
end
section
open Go.RowKit
/-- A disk, and which blocks it may turn. -/
def Dk (c s : List UInt32) (g m : Nat) (S : St) (ms : List Nat) (w : World) : Prop :=
  ∃ (A : Option Addr) (cc : Nat), Glob c s w ∧ DAt w g m A cc S ∧ (∀ i ∈ g :: m :: blk A, 2 ≤ i) ∧ ms = g :: m :: blk A
theorem Lg.dk {c s : List UInt32} {g m b : Nat} {L : Lo} {S : St} {ms rs : List Nat} {w : World} (h : Lg c s g m b L S ms rs w) : ∃ ms0, Dk c s g m S ms0 w ∧ ∀ i ∈ ms0, i ∈ ms := by
  obtain ⟨A, cc, p, C, ck, k, LL, hX, rfl, rfl⟩ := h
  exact ⟨g :: m :: blk A, ⟨A, cc, hX.G, hX.D, hX.out, rfl⟩, fun i hi => by
    simp only [List.mem_cons, List.mem_append] at hi ⊢
    rcases hi with h | h | h <;> simp [h]⟩
theorem Twr.dk {c s : List UInt32} {S T : St} {g m cc c' : Nat} {A A' : Option Addr} {w w' : World} (h : Twr T g m A w w' A' c') (G : Glob c s w) (_ : DAt w g m A cc S) (out : ∀ i ∈ g :: m :: blk A, 2 ≤ i) : Dk c s g m T (g :: m :: blk A') w' ∧ Mod (g :: m :: blk A) w w' ∧ (∀ i ∈ g :: m :: blk A', i ∈ g :: m :: blk A ∨ w.heap.size ≤ i) ∧ (∀ i ∈ g :: m :: blk A', 2 ≤ i) := by
  have h1 : ∀ i ∈ g :: m :: blk A', i ∈ g :: m :: blk A ∨ w.heap.size ≤ i := fun i hi => by
    simp only [List.mem_cons] at hi ⊢
    rcases hi with rfl | rfl | hi
    · simp
    · simp
    · obtain ⟨z, hz, rfl⟩ := mem_blk hi
      rcases h.new z hz with q | q
      · exact .inl (.inr (.inr q))
      · exact .inr q
  have h2 : ∀ i ∈ g :: m :: blk A', 2 ≤ i := fun i hi => (h1 i hi).elim (out i) (fun q => Nat.le_trans G.two q)
  exact ⟨⟨A', c', G.keepN h.mm out, h.D, h2, rfl⟩, h.mm, h1, h2⟩
/-- What a making comes to. -/
def MadePost (c s : List UInt32) (g m : Nat) (er : Int) (T : St) (q : Option Lo) (ms : List Nat) (w : World) (r : Ending) (w' : World) : Prop :=
  ∃ ms', Mod ms w w' ∧ (∀ i ∈ ms', i ∈ ms ∨ w.heap.size ≤ i) ∧ match q with
    | none => er ≠ 0 ∧ r = .returned (.tuple #[.pointer none, .int .i64 er]) ∧ Dk c s g m T ms' w'
    | some L => er = 0 ∧ ∃ b rs, r = .returned (.tuple #[.pointer (some ⟨b, 0, none⟩), .int .i64 er]) ∧ w.heap.size ≤ b ∧ Lg c s g m b L T ms' rs w' ∧ (∀ i ∈ rs, w.heap.size ≤ i) ∧ L.br = false
def Lo.made (a : Nat) : Lo := { t := 0, a := a, x0 := [], xs := [], e := 1, br := false }
def St.fmtd (c s : List UInt32) (S : St) (a : Int) : Option Lo := if (S.format c s a).1 = 0 then some (Lo.made a.toNat) else none
theorem format_range {c s : List UInt32} {S : St} {a : Int} (h : (S.format c s a).1 = 0) : 4 ≤ a ∧ a ≤ 1000 := by
  unfold St.format at h
  split at h
  · omega
  · cases h
section
variable {c s : List UInt32} {g m : Nat} {S : St} {ms : List Nat} {w : World}
theorem lg_format (h : Dk c s g m S ms w) (a : Int) (ho : S.ops + 20000 ≤ 1099511627776) : Calls Tryd.prog 8 #[.pointer (some ⟨g, 0, none⟩), .int .i64 a] w (MadePost c s g m (S.format c s a).1 (S.format c s a).2 (S.fmtd c s a) ms w) := by
  obtain ⟨A, cc, hG, hD, hout, rfl⟩ := h
  refine (format_c c s S g m cc A a w hG hD hout ho).mono ?_
  rintro r w' ⟨p, rfl, ⟨A', c', T⟩, hcase⟩
  obtain ⟨k1, k2, k3, k4⟩ := T.dk hG hD hout
  rcases hcase with ⟨q1, rfl⟩ | ⟨q1, b, x, rfl, q2, q3, q4, q5⟩
  · refine ⟨_, k2, k3, ?_⟩
    unfold St.fmtd
    rw [if_neg q1]
    exact ⟨q1, rfl, k1⟩
  · have hr := format_range q1
    obtain ⟨k, hk⟩ : ∃ k : Nat, a = (k : Int) := ⟨a.toNat, by omega⟩
    refine ⟨b :: g :: m :: (blk A' ++ blk none), k2, ?_, ?_⟩
    · intro i hi
      simp only [List.mem_cons, List.mem_append] at hi
      rcases hi with rfl | hi | hi | hi | hi
      · exact .inr q2
      · exact k3 i (by simp [hi])
      · exact k3 i (by simp [hi])
      · exact k3 i (by simp [hi])
      · simp [blk] at hi
    · unfold St.fmtd
      rw [if_pos q1]
      refine ⟨q1, b, blkE [(some ⟨x, 0, none⟩, 0, 0)], rfl, q2, ⟨A', c', (some ⟨x, 0, none⟩, 0, 0), none, 0, 0, [], ⟨hG.keepN T.mm hout, T.D, k4, ?_, by show 0 < 4294967296; decide, by show a.toNat ≤ 1000; omega, ⟨by show 0 < 1; decide, by show 1 ≤ a.toNat; omega⟩, by show 0 < 1; decide, ⟨rfl, rfl, by show 0 ≤ 40000; decide, Reads.nil _ _, fun y hy => ?_⟩, rfl, OwnG.nil _ _ _ _, .nil, Nat.le_trans hG.two q2, by simp⟩, rfl, rfl⟩, fun i hi => ?_, rfl⟩
      · show Holds w' b 58 (lc 0 (a.toNat : Int) _ _ _ _ false)
        rw [show (a.toNat : Int) = a by omega]
        exact q5
      · cases hy
        exact ⟨Nat.le_trans hG.two q3, _, q4⟩
      · simp [blkE, blk] at hi
        omega
theorem ents_above {B : Nat} {w : World} {L : List (Option Addr × Nat × Nat)} {ls : List (List UInt8)} (h : Ents B w L ls) : ∀ i ∈ blkE L, B ≤ i := by
  induction h with
  | nil => intro i hi; simp [blkE] at hi
  | cons h _ ih =>
    intro i hi
    rw [blkE_cons] at hi
    simp only [List.mem_append] at hi
    rcases hi with hi | hi
    · obtain ⟨z, hz, rfl⟩ := mem_blk hi
      exact (h.b z hz).1
    · exact ih i hi
/-- The log that an opening makes. -/
def St.opened (c s : List UInt32) (S : St) : Option Lo := match (S.opens c s).2.2 with
  | none => none
  | some q => match q.2.2.1 with
    | [] => none
    | x :: xs => some { t := q.1, a := q.2.1, x0 := x, xs := xs, e := q.2.2.2, br := false }
theorem ents_long {c s : List UInt32} {t : Nat} {F : List Blk} : ∀ (n : Nat) (ents : List (List UInt8)) (e : Nat), ents.length ≤ e → (saidN c s t F n ents e).1.length ≤ (saidN c s t F n ents e).2 := by
  intro n
  induction n with
  | zero => intro ents e h; exact h
  | succ n ih =>
    intro ents e h
    unfold saidN
    split
    · exact h
    · rename_i x hx
      refine ih _ _ ?_
      have := (standsB_some hx).2.2.1
      rw [List.length_append]
      simp
      omega
theorem opens_long {c s : List UInt32} {S : St} {q : Nat × Nat × List (List UInt8) × Nat} (h : (S.opens c s).2.2 = some q) : q.2.2.1.length ≤ q.2.2.2 := by
  unfold St.opens at h
  split at h
  · cases h
  · split at h
    · cases h
    · split at h
      · cases h
      · split at h
        · cases h
        · split at h
          · cases h
          · cases h
            exact ents_long _ [] 0 (Nat.le_refl _)
theorem lg_open (h : Dk c s g m S ms w) (ho : S.ops + 20000 ≤ 1099511627776) : Calls Tryd.prog 11 #[.pointer (some ⟨g, 0, none⟩)] w (MadePost c s g m (S.opens c s).1 (S.opens c s).2.1 (S.opened c s) ms w) := by
  obtain ⟨A, cc, hG, hD, hout, rfl⟩ := h
  refine (open_c c s S g m cc A w hG hD hout ho).mono ?_
  rintro r w' ⟨p, rfl, ⟨A', c', T⟩, hcase⟩
  obtain ⟨k1, k2, k3, k4⟩ := T.dk hG hD hout
  cases hq : (S.opens c s).2.2 with
  | none =>
    rw [hq] at hcase
    obtain ⟨rfl, q1⟩ := hcase
    refine ⟨_, k2, k3, ?_⟩
    unfold St.opened
    rw [hq]
    exact ⟨q1, rfl, k1⟩
  | some q =>
    have hlong := opens_long hq
    rw [hq] at hcase
    obtain ⟨q0, q1, q2, q3, q4, ⟨q5, q6⟩, b, st, cm, rfl, q7, q8, q9⟩ := hcase
    cases hx : q.2.2.1 with
    | nil => exact absurd hx q5
    | cons x xs =>
      rw [hx] at q9 hlong
      obtain ⟨pp, C, ck, k, LL, rfl, r2, rfl, r4, r5, r6, r7⟩ := q9
      have hO : S.opened c s = some { t := q.1, a := q.2.1, x0 := x, xs := xs, e := q.2.2.2, br := false } := by
        unfold St.opened
        rw [hq]
        simp only
        rw [hx]
      rw [hO]
      have h2 := hG.two
      refine ⟨b :: g :: m :: (blk A' ++ blk C), k2, ?_, q0, b, blkE (pp :: LL), rfl, q7, ⟨A', c', pp, C, ck, k, LL, ⟨hG.keepN T.mm hout, T.D, k4, q8, q1, q3, ⟨q6, q4⟩, by simp at hlong; exact hlong, r2.lower h2, r4, r5, r6.lower h2, Nat.le_trans h2 q7, fun z hz => Nat.le_trans h2 (r7 z hz)⟩, rfl, rfl⟩, ?_, rfl⟩
      · intro i hi
        simp only [List.mem_cons, List.mem_append] at hi
        rcases hi with rfl | hi | hi | hi | hi
        · exact .inr q7
        · exact k3 i (by simp [hi])
        · exact k3 i (by simp [hi])
        · exact k3 i (by simp [hi])
        · obtain ⟨z, hz, rfl⟩ := mem_blk hi
          exact .inr (r7 z hz)
      · intro i hi
        rw [blkE_cons] at hi
        simp only [List.mem_append] at hi
        rcases hi with hi | hi
        · obtain ⟨z, hz, rfl⟩ := mem_blk hi
          exact (r2.b z hz).1
        · exact ents_above r6 i hi
end
/-! What is told. -/
section
variable {c s : List UInt32} {g m b : Nat} {L : Lo} {S : St} {ms rs : List Nat} {w : World}
theorem lg_len (h : Lg c s g m b L S ms rs w) : Calls Tryd.prog 12 #[.pointer (some ⟨b, 0, none⟩)] w fun r w' => r = .returned (.int .i64 (L.xs.length : Int)) ∧ w' = w := by
  obtain ⟨A, cc, p, C, ck, k, LL, hX, rfl, rfl⟩ := h
  have hk : k = L.xs.length := by rw [hX.hk, hX.hE.length]
  rw [← hk]
  exact len27_c C k ck w hX.hb
theorem lg_left (h : Lg c s g m b L S ms rs w) : Calls Tryd.prog 9 #[.pointer (some ⟨b, 0, none⟩)] w fun r w' => r = .returned (.int .i64 ((L.a - L.e : Nat) : Int)) ∧ Mod [] w w' := by
  obtain ⟨A, cc, p, C, ck, k, LL, hX, rfl, rfl⟩ := h
  exact left28_c L.a L.e w hX.hb hX.ha hX.he.2
theorem lg_turn (h : Lg c s g m b L S ms rs w) : Calls Tryd.prog 14 #[.pointer (some ⟨b, 0, none⟩)] w fun r w' => r = .returned (.int .u32 (L.t : Int)) ∧ w' = w := by
  obtain ⟨A, cc, p, C, ck, k, LL, hX, rfl, rfl⟩ := h
  exact turn29_c w hX.hb
theorem lg_snap (h : Lg c s g m b L S ms rs w) : Calls Tryd.prog 15 #[.pointer (some ⟨b, 0, none⟩)] w fun r w' => ∃ x, r = .returned (.slice (some ⟨x, 0, none⟩) L.x0.length L.x0.length) ∧ Holds w' x 5 (L.x0.map oct) ∧ Mod [] w w' ∧ w.heap.size ≤ x := by
  obtain ⟨A, cc, p, C, ck, k, LL, hX, rfl, rfl⟩ := h
  have hp := hX.hp
  have := snap26_c (e := (L.e : Int)) (D := .pointer (some ⟨g, 0, none⟩)) (br := L.br) (cm := .slice C k ck) (t := L.t) (a := (L.a : Int)) (b := b) p.1 L.x0 p.2.1 p.2.2 hp.n w (by have := hp.le; have := hp.n; omega) hp.r hX.hb
  rwa [hp.n] at this
end
end
end Go.Proofs.YtcoedhemlghjoaaDoor
