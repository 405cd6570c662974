/-
  My own texts Tm Open Ti, one behind the other.
-/
import Derived.WalkKit
import Derived.Test.YtchanildogjhgaaDoorA1
import Derived.ProofKit
import Derived.OpenShut
import Derived.ShutString
import Derived.ChangeOld
import Derived.SizedLaws
import Derived.Deep.SlicePairs
import Derived.Deep.Slices
namespace Go.Proofs.YtchanildogjhgaaDoor
section
/-- A term: its fields, and its Kids. -/
inductive Tm where
  | mk (kind user num : Int) (text : ByteArray) (kids : List Tm)
namespace Tm
def kind : Tm → Int | .mk k _ _ _ _ => k
def user : Tm → Int | .mk _ u _ _ _ => u
def num : Tm → Int | .mk _ _ n _ _ => n
def text : Tm → ByteArray | .mk _ _ _ s _ => s
def kids : Tm → List Tm | .mk _ _ _ _ l => l
mutual
def count : Tm → Nat | .mk _ _ _ _ l => 1 + countAll l
def countAll : List Tm → Nat | [] => 0 | t :: l => count t + countAll l
end
mutual
def depth : Tm → Nat | .mk _ _ _ _ l => 1 + depthAll l
def depthAll : List Tm → Nat | [] => 0 | t :: l => max (depth t) (depthAll l)
end
def hasT (k : Int) : Bool := k == 1
def hasU (k : Int) : Bool := k == 2 || k == 3 || k == 7 || k == 8
def hasN (k : Int) : Bool := k == 2 || k == 8
def nk (k : Int) : Nat := if k == 4 || k == 6 then 2 else if k == 5 || k == 7 || k == 8 then 1 else 0
/-- May the fields be, but for the Kids? -/
def may (k u n : Int) (s : Nat) : Bool :=
  decide (s ≤ if hasT k then 64 else 0) && decide ((if hasU k then 1 else 0) ≤ u ∧ u ≤ if hasU k then 6 else 0) && decide (0 ≤ n ∧ n ≤ if hasN k then 65535 else 0)
def one (k u n : Int) (s c : Nat) : Bool := decide (1 ≤ k ∧ k ≤ 8) && may k u n s && c == nk k
mutual
def ok : Tm → Bool | .mk k u n s l => one k u n s.size l.length && okAll l
def okAll : List Tm → Bool | [] => true | t :: l => ok t && okAll l
end
/-- How many terms it is, if it may stand so deep and there is room; else 0. -/
def sz (t : Tm) (deep room : Int) : Int := if t.ok = true ∧ deep + t.depth ≤ 61 ∧ (t.count : Int) ≤ room then t.count else 0
def right (t : Tm) : Bool := t.ok && decide (t.depth ≤ 60) && decide (t.count ≤ 1200)
def b8 (z : Int) : UInt8 := UInt8.ofNat z.toNat
def head (k u n : Int) (s : ByteArray) : List UInt8 :=
  b8 k :: ((if hasT k then b8 s.size :: s.data.toList else []) ++ ((if hasU k then [b8 u] else []) ++ (if hasN k then [b8 (n / 256), b8 (n % 256)] else [])))
mutual
def bytes : Tm → List UInt8 | .mk k u n s l => head k u n s ++ bytesAll l
def bytesAll : List Tm → List UInt8 | [] => [] | t :: l => bytes t ++ bytesAll l
end
mutual
def same : Tm → Tm → Bool | .mk k u n s l, .mk k' u' n' s' l' => k == k' && u == u' && n == n' && decide (s = s') && sameAll l l'
def sameAll : List Tm → List Tm → Bool | [], [] => true | t :: l, t' :: l' => same t t' && sameAll l l' | _, _ => false
end
mutual
theorem same_iff : ∀ a b : Tm, same a b = true ↔ a = b
  | .mk k u n s l, .mk k' u' n' s' l' => by
    have := sameAll_iff l l'
    simp [same, this, and_assoc]
theorem sameAll_iff : ∀ a b : List Tm, sameAll a b = true ↔ a = b
  | [], [] => by simp [sameAll]
  | t :: l, t' :: l' => by
    have h1 := same_iff t t'
    have h2 := sameAll_iff l l'
    simp [sameAll, h1, h2]
  | [], _ :: _ => by simp [sameAll]
  | _ :: _, [] => by simp [sameAll]
end
theorem count_pos (t : Tm) : 1 ≤ t.count := by cases t; simp [count]
theorem depth_pos (t : Tm) : 1 ≤ t.depth := by cases t; simp [depth]
theorem countAll_append (l m : List Tm) : countAll (l ++ m) = countAll l + countAll m := by
  induction l with
  | nil => simp [countAll]
  | cons t l ih => simp [countAll, ih, Nat.add_assoc]
theorem bytesAll_append (l m : List Tm) : bytesAll (l ++ m) = bytesAll l ++ bytesAll m := by
  induction l with
  | nil => simp [bytesAll]
  | cons t l ih => simp [bytesAll, ih]
theorem okAll_append (l m : List Tm) : okAll (l ++ m) = (okAll l && okAll m) := by
  induction l with
  | nil => simp [okAll]
  | cons t l ih => simp [okAll, ih, Bool.and_assoc]
theorem depthAll_append (l m : List Tm) : depthAll (l ++ m) = max (depthAll l) (depthAll m) := by
  induction l with
  | nil => simp [depthAll]
  | cons t l ih => simp [depthAll, ih, Nat.max_assoc]
theorem mem_count {t : Tm} {l : List Tm} (h : t ∈ l) : count t ≤ countAll l := by
  induction l with
  | nil => cases h
  | cons x l ih =>
    have e : countAll (x :: l) = count x + countAll l := by rw [countAll]
    rcases List.mem_cons.1 h with rfl | h
    · omega
    · have := ih h; omega
theorem mem_depth {t : Tm} {l : List Tm} (h : t ∈ l) : depth t ≤ depthAll l := by
  induction l with
  | nil => cases h
  | cons x l ih =>
    have e : depthAll (x :: l) = max (depth x) (depthAll l) := by rw [depthAll]
    rcases List.mem_cons.1 h with rfl | h
    · omega
    · have := ih h; omega
theorem mem_ok {t : Tm} {l : List Tm} (h : t ∈ l) (ha : okAll l = true) : ok t = true := by
  induction l with
  | nil => cases h
  | cons x l ih =>
    simp [okAll] at ha
    rcases List.mem_cons.1 h with rfl | h
    · exact ha.1
    · exact ih h ha.2
theorem sz_pos {t : Tm} {deep room : Int} (h : sz t deep room ≠ 0) : t.ok = true ∧ deep + t.depth ≤ 61 ∧ (t.count : Int) ≤ room ∧ sz t deep room = t.count := by
  unfold sz at h ⊢
  split at h
  · rename_i h1; rw [if_pos h1]; exact ⟨h1.1, h1.2.1, h1.2.2, rfl⟩
  · exact absurd rfl h
theorem sz_zero {t : Tm} {deep room : Int} (h : sz t deep room = 0) : ¬ (t.ok = true ∧ deep + t.depth ≤ 61 ∧ (t.count : Int) ≤ room) := by
  intro h1
  unfold sz at h
  rw [if_pos h1] at h
  have := count_pos t
  omega
end Tm
namespace Tm
def dText (k : Int) (r : List UInt8) : Except Int (List UInt8 × List UInt8) :=
  if hasT k then (match r with | [] => .error 7 | n :: r' => if 64 < n.toNat then .error 150 else if r'.length < n.toNat then .error 7 else .ok (r'.take n.toNat, r'.drop n.toNat)) else .ok ([], r)
def dUser (k : Int) (r : List UInt8) : Except Int (Int × List UInt8) :=
  if hasU k then (match r with | [] => .error 7 | u :: r' => if 1 ≤ u.toNat ∧ u.toNat ≤ 6 then .ok ((u.toNat : Int), r') else .error 150) else .ok (0, r)
def dNum (k : Int) (r : List UInt8) : Except Int (Int × List UInt8) :=
  if hasN k then (match r with | a :: b :: r' => .ok ((a.toNat * 256 + b.toNat : Nat), r') | _ => .error 7) else .ok (0, r)
def decs (g : List UInt8 → Nat → Except Int (Tm × List UInt8 × Nat)) : Nat → List UInt8 → Nat → Except Int (List Tm × List UInt8 × Nat)
  | 0, l, s => .ok ([], l, s)
  | n + 1, l, s => match g l s with
    | .error e => .error e
    | .ok (t, l', s') => match decs g n l' s' with
      | .error e => .error e
      | .ok (ts, l'', s'') => .ok (t :: ts, l'', s'')
/-- The term with which bytes begin, what stands behind it, and how many terms were counted; else what is wrong. -/
def dec : Nat → List UInt8 → Nat → Except Int (Tm × List UInt8 × Nat)
  | _, [], _ => .error 7
  | 0, _ :: _, _ => .error 150
  | m + 1, b :: r, s =>
    if ¬ (1 ≤ b.toNat ∧ b.toNat ≤ 8 ∧ s + 1 ≤ 1200) then .error 150 else
    match dText b.toNat r with
    | .error e => .error e
    | .ok (tx, r1) => match dUser b.toNat r1 with
      | .error e => .error e
      | .ok (u, r2) => match dNum b.toNat r2 with
        | .error e => .error e
        | .ok (n, r3) => match decs (dec m) (nk b.toNat) r3 (s + 1) with
          | .error e => .error e
          | .ok (l, r4, s') => .ok (.mk b.toNat u n ⟨tx.toArray⟩ l, r4, s')

theorem u8_le (b : UInt8) : b.toNat < 256 := b.toNat_lt
theorem b8_toNat {z : Int} (h0 : 0 ≤ z) (h1 : z < 256) : ((b8 z).toNat : Int) = z := by
  unfold b8
  rw [UInt8.toNat_ofNat']
  omega
theorem b8_of (b : UInt8) : b8 (b.toNat : Int) = b := by
  unfold b8
  simp

theorem may_iff {k u n : Int} {s : Nat} : may k u n s = true ↔ s ≤ (if hasT k then 64 else 0) ∧ ((if hasU k then 1 else 0) ≤ u ∧ u ≤ if hasU k then 6 else 0) ∧ (0 ≤ n ∧ n ≤ if hasN k then 65535 else 0) := by
  unfold may; simp [and_assoc]

theorem dText_enc {k : Int} {s : ByteArray} (h : s.size ≤ if hasT k then 64 else 0) (r : List UInt8) :
    dText k ((if hasT k then b8 s.size :: s.data.toList else []) ++ r) = .ok (s.data.toList, r) := by
  unfold dText
  split
  · rename_i hk
    rw [if_pos hk] at h
    have hn : (b8 (s.size : Int)).toNat = s.size := by have := b8_toNat (z := (s.size : Int)) (by omega) (by omega); omega
    have hl : s.data.toList.length = s.size := by simp
    simp only [List.cons_append, hn]
    rw [if_neg (by omega), if_neg (by rw [List.length_append, hl]; omega)]
    rw [List.take_append_of_le_length (by omega), List.drop_append_of_le_length (by omega), ← hl, List.take_length, List.drop_length]
    rfl
  · rename_i hk
    rw [if_neg hk] at h
    have hl : s.data.toList.length = s.size := by simp
    have : s.data.toList = [] := List.eq_nil_of_length_eq_zero (by omega)
    rw [this]; rfl
theorem dUser_enc {k u : Int} (h : (if hasU k then 1 else 0) ≤ u ∧ u ≤ if hasU k then 6 else 0) (r : List UInt8) : dUser k ((if hasU k then [b8 u] else []) ++ r) = .ok (u, r) := by
  unfold dUser
  split
  · rename_i hk
    rw [if_pos hk, if_pos hk] at h
    have := b8_toNat (z := u) (by omega) (by omega)
    simp only [List.cons_append, List.nil_append]
    rw [if_pos (by omega), this]
  · rename_i hk
    rw [if_neg hk, if_neg hk] at h
    have : u = 0 := by omega
    rw [this]; rfl
theorem dNum_enc {k n : Int} (h : 0 ≤ n ∧ n ≤ if hasN k then 65535 else 0) (r : List UInt8) : dNum k ((if hasN k then [b8 (n / 256), b8 (n % 256)] else []) ++ r) = .ok (n, r) := by
  unfold dNum
  split
  · rename_i hk
    rw [if_pos hk] at h
    have h1 := b8_toNat (z := n / 256) (by omega) (by omega)
    have h2 := b8_toNat (z := n % 256) (by omega) (by omega)
    simp only [List.cons_append, List.nil_append]
    congr 2
    omega
  · rename_i hk
    rw [if_neg hk] at h
    have : n = 0 := by omega
    rw [this]; rfl
theorem one_iff {k u n : Int} {s c : Nat} : one k u n s c = true ↔ (1 ≤ k ∧ k ≤ 8) ∧ (s ≤ (if hasT k then 64 else 0) ∧ ((if hasU k then 1 else 0) ≤ u ∧ u ≤ if hasU k then 6 else 0) ∧ (0 ≤ n ∧ n ≤ if hasN k then 65535 else 0)) ∧ c = nk k := by
  unfold one; simp [may_iff, and_assoc]
theorem bytes_mk (k u n : Int) (s : ByteArray) (l : List Tm) : bytes (.mk k u n s l) = b8 k :: ((if hasT k then b8 s.size :: s.data.toList else []) ++ ((if hasU k then [b8 u] else []) ++ ((if hasN k then [b8 (n / 256), b8 (n % 256)] else []) ++ bytesAll l))) := by
  rw [bytes, head]; simp
theorem dec_cons (m : Nat) (b : UInt8) (r : List UInt8) (s : Nat) (h : 1 ≤ b.toNat ∧ b.toNat ≤ 8 ∧ s + 1 ≤ 1200) : dec (m + 1) (b :: r) s = match dText b.toNat r with
    | .error e => .error e
    | .ok (tx, r1) => match dUser b.toNat r1 with
      | .error e => .error e
      | .ok (u, r2) => match dNum b.toNat r2 with
        | .error e => .error e
        | .ok (n, r3) => match decs (dec m) (nk b.toNat) r3 (s + 1) with
          | .error e => .error e
          | .ok (l, r4, s') => .ok (.mk b.toNat u n ⟨tx.toArray⟩ l, r4, s') := by
  rw [dec, if_neg (by simpa using h)]
theorem decs_enc {m : Nat} (ih : ∀ (t : Tm) (s : Nat) (r : List UInt8), t.ok = true → t.depth ≤ m → s + t.count ≤ 1200 → dec m (t.bytes ++ r) s = .ok (t, r, s + t.count)) :
    ∀ (l : List Tm) (s : Nat) (r : List UInt8), okAll l = true → depthAll l ≤ m → s + countAll l ≤ 1200 → decs (dec m) l.length (bytesAll l ++ r) s = .ok (l, r, s + countAll l)
  | [], s, r, _, _, _ => by simp [decs, bytesAll, countAll]
  | t :: l, s, r, h1, h2, h3 => by
    simp [okAll] at h1
    rw [depthAll] at h2
    rw [countAll] at h3
    simp only [List.length_cons, decs, bytesAll, List.append_assoc]
    rw [ih t s _ h1.1 (by omega) (by omega)]
    simp only []
    rw [decs_enc ih l _ r h1.2 (by omega) (by omega), countAll]
    simp only [Nat.add_assoc]
theorem arr_toList (s : ByteArray) : (⟨s.data.toList.toArray⟩ : ByteArray) = s := by cases s; simp
theorem dec_enc : ∀ (m : Nat) (t : Tm) (s : Nat) (r : List UInt8), t.ok = true → t.depth ≤ m → s + t.count ≤ 1200 → dec m (t.bytes ++ r) s = .ok (t, r, s + t.count)
  | 0, t, s, r, _, h2, _ => by have := depth_pos t; omega
  | m + 1, .mk k u n x l, s, r, h1, h2, h3 => by
    simp [ok, one_iff] at h1
    obtain ⟨⟨hk, ⟨hs, hu, hn⟩, hl⟩, ha⟩ := h1
    rw [depth] at h2
    rw [count] at h3
    have hb := b8_toNat (z := k) (by omega) (by omega)
    rw [bytes_mk, List.cons_append, dec_cons _ _ _ _ (by omega), hb]
    simp only [List.append_assoc]
    rw [dText_enc (by simpa using hs)]
    simp only []
    rw [dUser_enc (by simpa using hu)]
    simp only []
    rw [dNum_enc (by simpa using hn)]
    simp only []
    rw [← hl, decs_enc (dec_enc m) l (s + 1) r ha (by omega) (by omega)]
    simp only [arr_toList, count, Nat.add_assoc]
theorem dText_back {k : Int} {r tx r1 : List UInt8} (h : dText k r = .ok (tx, r1)) : r = (if hasT k then b8 tx.length :: tx else []) ++ r1 ∧ tx.length ≤ if hasT k then 64 else 0 := by
  unfold dText at h
  split at h
  · rename_i hk
    rw [if_pos hk, if_pos hk]
    cases r with
    | nil => cases h
    | cons n r' =>
      simp only [] at h
      split at h
      · cases h
      split at h
      · cases h
      rename_i h1 h2
      obtain ⟨rfl, rfl⟩ : List.take n.toNat r' = tx ∧ List.drop n.toNat r' = r1 := by simpa using h
      have hl : (List.take n.toNat r').length = n.toNat := by rw [List.length_take]; omega
      rw [hl, b8_of]
      exact ⟨by simp, by omega⟩
  · rename_i hk
    obtain ⟨rfl, rfl⟩ : [] = tx ∧ r = r1 := by simpa using h
    rw [if_neg hk, if_neg hk]
    exact ⟨rfl, Nat.le_refl _⟩
theorem dUser_back {k u : Int} {r r1 : List UInt8} (h : dUser k r = .ok (u, r1)) : r = (if hasU k then [b8 u] else []) ++ r1 ∧ ((if hasU k then 1 else 0) ≤ u ∧ u ≤ if hasU k then 6 else 0) := by
  unfold dUser at h
  split at h
  · rename_i hk
    rw [if_pos hk, if_pos hk, if_pos hk]
    cases r with
    | nil => cases h
    | cons n r' =>
      simp only [] at h
      split at h
      · rename_i h1
        obtain ⟨rfl, rfl⟩ : ((n.toNat : Int) = u) ∧ r' = r1 := by simpa using h
        rw [b8_of]
        exact ⟨rfl, by omega, by omega⟩
      · cases h
  · rename_i hk
    obtain ⟨rfl, rfl⟩ : 0 = u ∧ r = r1 := by simpa using h
    rw [if_neg hk, if_neg hk, if_neg hk]
    exact ⟨rfl, Int.le_refl _, Int.le_refl _⟩
theorem dNum_back {k n : Int} {r r1 : List UInt8} (h : dNum k r = .ok (n, r1)) : r = (if hasN k then [b8 (n / 256), b8 (n % 256)] else []) ++ r1 ∧ (0 ≤ n ∧ n ≤ if hasN k then 65535 else 0) := by
  unfold dNum at h
  split at h
  · rename_i hk
    rw [if_pos hk, if_pos hk]
    rcases r with _ | ⟨a, _ | ⟨b, r'⟩⟩
    · cases h
    · cases h
    · obtain ⟨rfl, rfl⟩ : (((a.toNat * 256 + b.toNat : Nat) : Int) = n) ∧ r' = r1 := by simpa using h
      have ha := u8_le a
      have hb := u8_le b
      rw [show ((a.toNat * 256 + b.toNat : Nat) : Int) / 256 = a.toNat by omega, show ((a.toNat * 256 + b.toNat : Nat) : Int) % 256 = b.toNat by omega, b8_of, b8_of]
      exact ⟨rfl, by omega, by omega⟩
  · rename_i hk
    obtain ⟨rfl, rfl⟩ : 0 = n ∧ r = r1 := by simpa using h
    rw [if_neg hk, if_neg hk]
    exact ⟨rfl, Int.le_refl _, Int.le_refl _⟩
def Back (m : Nat) (l : List UInt8) (s : Nat) (t : Tm) (r : List UInt8) (s' : Nat) : Prop := l = t.bytes ++ r ∧ t.ok = true ∧ t.depth ≤ m ∧ s' = s + t.count ∧ s' ≤ 1200
theorem decs_back {m : Nat} (ih : ∀ l s t r s', dec m l s = .ok (t, r, s') → Back m l s t r s') : ∀ (n : Nat) (l : List UInt8) (s : Nat) (ts : List Tm) (r : List UInt8) (s' : Nat), s ≤ 1200 → decs (dec m) n l s = .ok (ts, r, s') →
    l = bytesAll ts ++ r ∧ okAll ts = true ∧ depthAll ts ≤ m ∧ s' = s + countAll ts ∧ s' ≤ 1200 ∧ ts.length = n
  | 0, l, s, ts, r, s', h0, h => by
    obtain ⟨rfl, rfl, rfl⟩ : [] = ts ∧ l = r ∧ s = s' := by simpa [decs] using h
    simp [bytesAll, okAll, depthAll, countAll, h0]
  | n + 1, l, s, ts, r, s', h0, h => by
    rw [decs] at h
    split at h
    · cases h
    rename_i t l1 s1 h1
    obtain ⟨e1, e2, e3, e4, e5⟩ := ih _ _ _ _ _ h1
    split at h
    · cases h
    rename_i ts' l2 s2 h2
    obtain ⟨f1, f2, f3, f4, f5, f6⟩ := decs_back ih n _ _ _ _ _ e5 h2
    obtain ⟨rfl, rfl, rfl⟩ : t :: ts' = ts ∧ l2 = r ∧ s2 = s' := by simpa using h
    refine ⟨by rw [e1, f1, bytesAll, List.append_assoc], by rw [okAll, e2, f2]; rfl, by rw [depthAll]; omega, by rw [countAll]; omega, f5, by rw [List.length_cons, f6]⟩
theorem dec_back : ∀ (m : Nat) (l : List UInt8) (s : Nat) (t : Tm) (r : List UInt8) (s' : Nat), dec m l s = .ok (t, r, s') → Back m l s t r s'
  | 0, l, s, t, r, s', h => by cases l <;> cases h
  | m + 1, [], s, t, r, s', h => by cases h
  | m + 1, b :: q, s, t, r, s', h => by
    by_cases hb : 1 ≤ b.toNat ∧ b.toNat ≤ 8 ∧ s + 1 ≤ 1200
    · rw [dec_cons _ _ _ _ hb] at h
      split at h
      · cases h
      rename_i tx r1 h1
      obtain ⟨e1, e2⟩ := dText_back h1
      split at h
      · cases h
      rename_i u r2 h2
      obtain ⟨f1, f2⟩ := dUser_back h2
      split at h
      · cases h
      rename_i n r3 h3
      obtain ⟨g1, g2⟩ := dNum_back h3
      split at h
      · cases h
      rename_i l r4 s4 h4
      obtain ⟨k1, k2, k3, k4, k5, k6⟩ := decs_back (dec_back m) _ _ _ _ _ _ hb.2.2 h4
      obtain ⟨rfl, rfl, rfl⟩ : Tm.mk (b.toNat : Int) u n ⟨tx.toArray⟩ l = t ∧ r4 = r ∧ s4 = s' := by simpa using h
      refine ⟨?_, ?_, by rw [depth]; omega, by rw [count]; omega, k5⟩
      · rw [bytes_mk, b8_of, e1, f1, g1, k1]
        simp [ByteArray.size]
      · rw [ok, one_iff.2 ⟨by omega, ⟨by simpa [ByteArray.size] using e2, f2, g2⟩, k6⟩, k2]; rfl
    · rw [dec, if_pos hb] at h
      cases h
/-- What bytes begin with, cut short. -/
def Cut (p q : List UInt8) : Prop := ∃ c, c ≠ [] ∧ q = p ++ c
end Tm
namespace Tm
theorem cut_append {p A B : List UInt8} (h : Cut p (A ++ B)) : Cut p A ∨ ∃ p', p = A ++ p' ∧ Cut p' B := by
  obtain ⟨c, hc, h⟩ := h
  rcases List.append_eq_append_iff.1 h with ⟨a, h1, h2⟩ | ⟨a, h1, h2⟩
  · exact .inr ⟨a, h1, c, hc, h2⟩
  · rcases a with _ | ⟨x, a⟩
    · refine .inr ⟨[], by simpa using h1.symm, c, hc, by simpa using h2.symm⟩
    · exact .inl ⟨x :: a, by simp, h1⟩
theorem cut_nil {p : List UInt8} (h : Cut p []) : False := by
  obtain ⟨c, hc, h⟩ := h
  simp at h
  exact hc h.2
theorem cut_one {p : List UInt8} {b : UInt8} (h : Cut p [b]) : p = [] := by
  obtain ⟨c, hc, h⟩ := h
  rcases p with _ | ⟨x, p⟩
  · rfl
  · simp at h
    exact absurd h.2.2 hc
theorem cut_len {p q : List UInt8} (h : Cut p q) : p.length < q.length := by
  obtain ⟨c, hc, h⟩ := h
  have := List.length_pos_iff.2 hc
  rw [h, List.length_append]
  omega
theorem dText_short {k : Int} {s : ByteArray} {p : List UInt8} (hs : s.size ≤ if hasT k then 64 else 0) (h : Cut p (if hasT k then b8 s.size :: s.data.toList else [])) : dText k p = .error 7 := by
  unfold dText
  split at h
  · rename_i hk
    rw [if_pos hk]
    rw [if_pos hk] at hs
    have hn : (b8 (s.size : Int)).toNat = s.size := by have := b8_toNat (z := (s.size : Int)) (by omega) (by omega); omega
    have hl : s.data.toList.length = s.size := by simp
    rcases p with _ | ⟨x, p⟩
    · rfl
    · have hlen := cut_len h
      obtain ⟨c, hc, h⟩ := h
      simp only [List.cons_append, List.cons.injEq] at h
      obtain ⟨rfl, _⟩ := h
      simp only [List.length_cons] at hlen
      simp only []
      rw [hn, if_neg (by omega), if_pos (by omega)]
  · exact (cut_nil h).elim
theorem dUser_short {k u : Int} {p : List UInt8} (h : Cut p (if hasU k then [b8 u] else [])) : dUser k p = .error 7 := by
  unfold dUser
  split at h
  · rename_i hk
    rw [if_pos hk, cut_one h]
  · exact (cut_nil h).elim
theorem dNum_short {k n : Int} {p : List UInt8} (h : Cut p (if hasN k then [b8 (n / 256), b8 (n % 256)] else [])) : dNum k p = .error 7 := by
  unfold dNum
  split at h
  · rename_i hk
    rw [if_pos hk]
    have := cut_len h
    rcases p with _ | ⟨x, _ | ⟨y, p⟩⟩
    · rfl
    · rfl
    · simp at this; omega
  · exact (cut_nil h).elim
theorem decs_short {m : Nat} (ih : ∀ (t : Tm) (s : Nat) (p : List UInt8), t.ok = true → t.depth ≤ m → s + t.count ≤ 1200 → Cut p t.bytes → dec m p s = .error 7) :
    ∀ (l : List Tm) (s : Nat) (p : List UInt8), okAll l = true → depthAll l ≤ m → s + countAll l ≤ 1200 → Cut p (bytesAll l) → decs (dec m) l.length p s = .error 7
  | [], s, p, _, _, _, h => (cut_nil h).elim
  | t :: l, s, p, h1, h2, h3, h => by
    simp [okAll] at h1
    rw [depthAll] at h2
    rw [countAll] at h3
    rw [bytesAll] at h
    simp only [List.length_cons, decs]
    rcases cut_append h with h5 | ⟨p', rfl, h5⟩
    · rw [ih t s p h1.1 (by omega) (by omega) h5]
    · rw [dec_enc m t s p' h1.1 (by omega) (by omega)]
      simp only []
      rw [decs_short ih l (s + t.count) p' h1.2 (by omega) (by omega) h5]
theorem dec_short : ∀ (m : Nat) (t : Tm) (s : Nat) (p : List UInt8), t.ok = true → t.depth ≤ m → s + t.count ≤ 1200 → Cut p t.bytes → dec m p s = .error 7
  | 0, t, s, r, _, h2, _, _ => by have := depth_pos t; omega
  | m + 1, .mk k u n x l, s, p, h1, h2, h3, h => by
    simp [ok, one_iff] at h1
    obtain ⟨⟨hk, ⟨hs, hu, hn⟩, hl⟩, ha⟩ := h1
    rw [depth] at h2
    rw [count] at h3
    have hd : depthAll l ≤ m := by omega
    have hc : s + 1 + countAll l ≤ 1200 := by omega
    clear h2 h3
    have hb := b8_toNat (z := k) (by omega) (by omega)
    rw [bytes_mk] at h
    rcases p with _ | ⟨y, p⟩
    · rw [dec]
    · obtain ⟨rfl, h0⟩ : y = b8 k ∧ Cut p ((if hasT k then b8 x.size :: x.data.toList else []) ++ ((if hasU k then [b8 u] else []) ++ ((if hasN k then [b8 (n / 256), b8 (n % 256)] else []) ++ bytesAll l))) := by
        obtain ⟨c, hc, h⟩ := h
        simp only [List.cons_append, List.cons.injEq] at h
        exact ⟨h.1.symm, c, hc, h.2⟩
      rw [dec_cons _ _ _ _ (by omega), hb]
      clear h
      rcases cut_append h0 with h1 | ⟨p1, rfl, h1⟩
      · rw [dText_short (by simpa using hs) h1]
      rw [dText_enc (by simpa using hs)]
      simp only []
      rcases cut_append h1 with h2 | ⟨p2, rfl, h2⟩
      · rw [dUser_short h2]
      rw [dUser_enc (by simpa using hu)]
      simp only []
      rcases cut_append h2 with h3 | ⟨p3, rfl, h3⟩
      · rw [dNum_short h3]
      rw [dNum_enc (by simpa using hn)]
      simp only []
      rw [← hl, decs_short (dec_short m) l (s + 1) p3 ha hd hc h3]
/-- Unlike terms have unlike bytes, and none's begin with another one's. -/
theorem bytes_inj {a b : Tm} (ha : a.ok = true) (hb : b.ok = true) (da : a.depth ≤ 60) (db : b.depth ≤ 60) (ca : a.count ≤ 1200) (cb : b.count ≤ 1200) {r q : List UInt8} (h : a.bytes ++ r = b.bytes ++ q) : a = b ∧ r = q := by
  have h1 := dec_enc 60 a 0 r ha da (by omega)
  have h2 := dec_enc 60 b 0 q hb db (by omega)
  rw [h, h2] at h1
  injection h1 with h1
  simp at h1
  exact ⟨h1.1.symm, h1.2.1.symm⟩
/-- The order of bytes. -/
def lessB : List UInt8 → List UInt8 → Bool
  | _, [] => false
  | [], _ :: _ => true
  | a :: x, b :: y => decide (a.toNat < b.toNat) || (a == b && lessB x y)
theorem lessB_irrefl : ∀ x, lessB x x = false
  | [] => rfl
  | a :: x => by simp [lessB, lessB_irrefl x]
theorem lessB_total : ∀ x y, lessB x y = false → lessB y x = false → x = y
  | [], [], _, _ => rfl
  | [], _ :: _, h, _ => by simp [lessB] at h
  | _ :: _, [], _, h => by simp [lessB] at h
  | a :: x, b :: y, h1, h2 => by
    simp [lessB] at h1 h2
    have e : a = b := UInt8.toNat_inj.1 (by omega)
    subst e
    rw [lessB_total x y (h1.2 rfl) (h2.2 rfl)]
theorem lessB_trans : ∀ x y z, lessB x y = true → lessB y z = true → lessB x z = true
  | _, [], _, h, _ => by cases ‹List UInt8› <;> simp [lessB] at h
  | _, _ :: _, [], _, h => by simp [lessB] at h
  | [], _ :: _, _ :: _, _, _ => rfl
  | a :: x, b :: y, c :: z, h1, h2 => by
    simp [lessB] at h1 h2 ⊢
    rcases h1 with h1 | ⟨rfl, h1⟩
    · rcases h2 with h2 | ⟨rfl, h2⟩ <;> left <;> omega
    · rcases h2 with h2 | ⟨rfl, h2⟩
      · exact .inl h2
      · exact .inr ⟨rfl, lessB_trans x y z h1 h2⟩
end Tm
end
section
open Go.ChangeShapes Go.WideShapes Go.ChangeAt Go.RowKit

/-- From address A on (if there is one) lie these pairs of numbers. -/
def Pairs (w : World) (k0 k1 : IntKind) (A : Option Addr) (l : List (Int × Int)) : Prop :=
  ∀ i (h : i < l.length), ∃ g o, A = some ⟨g, o, none⟩ ∧ w.cell? ⟨g, o + i * 2, none⟩ = some (.int k0 l[i].1) ∧ w.cell? ⟨g, o + i * 2 + 1, none⟩ = some (.int k1 l[i].2) ∧ (Lit.int k0 l[i].1).wf = true ∧ (Lit.int k1 l[i].2).wf = true

theorem Pairs.keep {w v : World} {k0 k1 : IntKind} {A : Option Addr} {l : List (Int × Int)} {ms : List Nat} (h : Pairs w k0 k1 A l) (m : Mod ms w v) (hn : ∀ a, A = some a → a.block ∉ ms) : Pairs v k0 k1 A l := by
  intro i hi
  obtain ⟨g, o, rfl, hc, hd, hw⟩ := h i hi
  exact ⟨g, o, rfl, m.cell (p := ⟨g, o + i * 2, none⟩) (hn ⟨g, o, none⟩ rfl) hc, m.cell (p := ⟨g, o + i * 2 + 1, none⟩) (hn ⟨g, o, none⟩ rfl) hd, hw⟩

end
section
open Go.RowKit
/-- The cells of a term. -/
def tmc (k u n : Int) (s : ByteArray) (A : Option Addr) (len c : Nat) : List Value := [.int .i64 k, .int .i64 u, .int .i64 n, .string s, .slice A len c]
/-- These cells are that term, all that is beneath it in blocks of S. -/
inductive TIs (w : World) (S : Nat → Prop) : Tm → List Value → Prop
  | mk (k u n : Int) (s : ByteArray) (l : List Tm) (A : Option Addr) (c : Nat) (vs : List (List Value)) (hs : s.size ≤ 140737488355328) (hl : l.length ≤ c) (hc : l.length ≤ 2199023255552) (hcm : c ≤ maxLen)
      (hA : ∀ a, A = some a → l ≠ [] → S a.block) (hv : vs.length = l.length) (hz : ∀ v ∈ vs, v.length = 5) (hC : Cells w A (vs.flatMap id)) (hk : ∀ i (h : i < l.length) (h' : i < vs.length), TIs w S l[i] vs[i]) :
      TIs w S (.mk k u n s l) (tmc k u n s A l.length c)
/-- A row of terms. -/
structure RowT (w : World) (S : Nat → Prop) (A : Option Addr) (vs : List (List Value)) (l : List Tm) : Prop where
  hA : ∀ a, A = some a → l ≠ [] → S a.block
  hv : vs.length = l.length
  hz : ∀ v ∈ vs, v.length = 5
  hC : Cells w A (vs.flatMap id)
  hk : ∀ i (h : i < l.length) (h' : i < vs.length), TIs w S l[i] vs[i]
theorem TIs.row {w : World} {S : Nat → Prop} {k u n : Int} {s : ByteArray} {l : List Tm} {cs : List Value} (h : TIs w S (.mk k u n s l) cs) :
    ∃ A c vs, cs = tmc k u n s A l.length c ∧ RowT w S A vs l ∧ l.length ≤ c ∧ c ≤ maxLen ∧ l.length ≤ 2199023255552 ∧ s.size ≤ 140737488355328 := by
  cases h with
  | mk _ _ _ _ _ A c vs hs hl hc hcm hA hv hz hC hk => exact ⟨A, c, vs, rfl, ⟨hA, hv, hz, hC, hk⟩, hl, hcm, hc, hs⟩
theorem RowT.tis {w : World} {S : Nat → Prop} {A : Option Addr} {vs : List (List Value)} {l : List Tm} (h : RowT w S A vs l) (k u n : Int) (s : ByteArray) (c : Nat) (hs : s.size ≤ 140737488355328) (hl : l.length ≤ c) (hcm : c ≤ maxLen) (hc : l.length ≤ 2199023255552) :
    TIs w S (.mk k u n s l) (tmc k u n s A l.length c) := .mk k u n s l A c vs hs hl hc hcm h.hA h.hv h.hz h.hC h.hk
theorem TIs.len {w : World} {S : Nat → Prop} {t : Tm} {cs : List Value} (h : TIs w S t cs) : cs.length = 5 := by cases h; rfl
theorem TIs.one {w : World} {S : Nat → Prop} {t : Tm} {cs : List Value} (h : TIs w S t cs) : ∀ v ∈ cs, v.oneCell' = true := by
  cases h
  intro v hv
  simp only [tmc, List.mem_cons, List.not_mem_nil, or_false] at hv
  rcases hv with rfl | rfl | rfl | rfl | rfl <;> rfl
theorem cells_keep {w v : World} {A : Option Addr} {vs : List (List Value)} {l : List Tm} {ms : List Nat} (hv : vs.length = l.length) (h : Cells w A (vs.flatMap id)) (m : Mod ms w v) (hS : ∀ a, A = some a → l ≠ [] → a.block ∉ ms) : Cells v A (vs.flatMap id) := by
  cases l with
  | nil =>
    obtain rfl : vs = [] := List.eq_nil_of_length_eq_zero hv
    exact Cells.nil _ _
  | cons t l => exact h.keep m fun a ha => hS a ha (by simp)
theorem TIs.keep {w v : World} {S : Nat → Prop} {ms : List Nat} (m : Mod ms w v) (hS : ∀ g, S g → g ∉ ms) {t : Tm} {cs : List Value} (h : TIs w S t cs) : TIs v S t cs := by
  induction h with
  | mk k u n s l A c vs hs hl hc hcm hA hv hz hC hk ih => exact .mk k u n s l A c vs hs hl hc hcm hA hv hz (cells_keep hv hC m fun a ha hl => hS _ (hA a ha hl)) ih
theorem TIs.mono {w : World} {S S' : Nat → Prop} (hS : ∀ g, S g → S' g) {t : Tm} {cs : List Value} (h : TIs w S t cs) : TIs w S' t cs := by
  induction h with
  | mk k u n s l A c vs hs hl hc hcm hA hv hz hC hk ih => exact .mk k u n s l A c vs hs hl hc hcm (fun a ha hl => hS _ (hA a ha hl)) hv hz hC ih
theorem RowT.keep {w v : World} {S : Nat → Prop} {A : Option Addr} {vs : List (List Value)} {l : List Tm} {ms : List Nat} (h : RowT w S A vs l) (m : Mod ms w v) (hS : ∀ g, S g → g ∉ ms) : RowT v S A vs l :=
  ⟨h.hA, h.hv, h.hz, cells_keep h.hv h.hC m fun a ha hl => hS _ (h.hA a ha hl), fun i h1 h2 => (h.hk i h1 h2).keep m hS⟩
theorem RowT.mono {w : World} {S S' : Nat → Prop} {A : Option Addr} {vs : List (List Value)} {l : List Tm} (hS : ∀ g, S g → S' g) (h : RowT w S A vs l) : RowT w S' A vs l :=
  ⟨fun a ha hl => hS _ (h.hA a ha hl), h.hv, h.hz, h.hC, fun i h1 h2 => (h.hk i h1 h2).mono hS⟩
theorem flat5 : ∀ (vs : List (List Value)), (∀ v ∈ vs, v.length = 5) → ∀ (k i : Nat) (hk : k < vs.length), i < 5 → (vs.flatMap id)[k * 5 + i]? = vs[k][i]?
  | x :: l, hz, 0, i, _, hi => by
    have := hz x (by simp)
    rw [List.flatMap_cons, List.getElem?_append_left (by simp [this]; omega)]
    simp
  | x :: l, hz, k + 1, i, hk, hi => by
    have h5 := hz x (by simp)
    have := flat5 l (fun v hv => hz v (by simp [hv])) k i (by simpa using hk) hi
    rw [List.flatMap_cons, List.getElem?_append_right (by simp [h5]; omega)]
    simp only [id, h5]
    rw [show (k + 1) * 5 + i - 5 = k * 5 + i by omega, this]
    simp
theorem flat5_len (vs : List (List Value)) (hz : ∀ v ∈ vs, v.length = 5) : (vs.flatMap id).length = vs.length * 5 := by
  induction vs with
  | nil => rfl
  | cons x l ih =>
    rw [List.flatMap_cons, List.length_append, ih (fun v hv => hz v (by simp [hv])), List.length_cons, Nat.add_mul]
    have := hz x (by simp)
    simp [this]; omega
/-- The k-th of a row. -/
theorem RowT.elem {w : World} {S : Nat → Prop} {A : Option Addr} {vs : List (List Value)} {l : List Tm} (h : RowT w S A vs l) (k : Nat) (hk : k < l.length) : ∃ g o cs, A = some ⟨g, o, none⟩ ∧ Cells w (some ⟨g, o + k * 5, none⟩) cs ∧ TIs w S l[k] cs ∧ cs.length = 5 ∧ S g := by
  have hk' : k < vs.length := by rw [h.hv]; exact hk
  have h5 := h.hz _ (List.getElem_mem hk')
  have hfl := flat5_len vs h.hz
  obtain ⟨g, o, rfl, _⟩ := h.hC 0 (by omega)
  refine ⟨g, o, vs[k], rfl, h.hC.part (k * 5) fun i hi => ?_, h.hk k hk hk', h5, h.hA _ rfl (by rintro rfl; simp at hk)⟩
  rw [flat5 vs h.hz k i hk' (by omega), List.getElem?_eq_getElem hi]
/-- The blocks made between two worlds. -/
def Btw (lo hi : Nat) (g : Nat) : Prop := lo ≤ g ∧ g < hi
section
open Go.ChangeShapes Go.WideShapes Go.ChangeAt
variable {H : Type} {enc : TypeId × Value → H} {W : World}
theorem weights_all {H : Type} {P : Program} {e : TypeId} {n : Nat} {d : DataW H} : ∀ {l : List (DataW H)}, d ∈ l → n ∈ d.weights P e → n ∈ DataW.weightsAll P e l
  | [], h, _ => by cases h
  | x :: l, h, hn => by
    rw [DataW.weightsAll]
    rcases List.mem_cons.1 h with rfl | h
    · exact List.mem_append_left _ hn
    · exact List.mem_append_right _ (weights_all h hn)
set_option maxRecDepth 100000 in
theorem terms_of {n : Nat} (ih : ∀ cs x, DataW.trod enc Tryd.prog W 0 (fun _ => true) true n 24 cs = some x → (∀ b ∈ x.1.weights Tryd.prog 24, b ≤ reachBytes) → ∃ t, TIs W (Btw 0 W.heap.size) t cs)
    {cs : List Value} {x : DataW H × List MemPlace} (h : DataW.trod enc Tryd.prog W 0 (fun _ => true) true (n + 1) 22 cs = some x) (hw : ∀ b ∈ x.1.weights Tryd.prog 22, b ≤ reachBytes) :
    ∃ A c vs l, cs = [.slice A l.length c] ∧ RowT W (Btw 0 W.heap.size) A vs l ∧ l.length ≤ c ∧ c ≤ maxLen ∧ l.length ≤ 2199023255552 := by
  have h5 : Tryd.prog.cellsOf 24 = 5 := by kernel_rfl
  have hb : Tryd.prog.bytesOf 24 = 64 := by kernel_rfl
  rcases DataW.trod_slice Tryd.underlying22 h with ⟨rfl, _⟩ | ⟨a, len, cap, elems, rest, m, hm, rfl, rfl, _, hl, hcm, hlen, hel, _, _⟩
  · exact ⟨none, 0, [], [], rfl, ⟨by simp, rfl, by simp, Cells.nil _ _, fun i h => by simp at h⟩, Nat.le_refl _, by simp, by simp⟩
  · obtain rfl : n = m := by omega
    have hw1 : len * 64 ≤ 140737488355328 := by
      have := hw ((elems.length + rest.length) * 64) (by simp [DataW.weights, Tryd.underlying22, hb])
      have := reachBytes_lt
      omega
    rw [h5] at hel
    have key : ∀ i, i < len → ∃ p : List Value × Tm, W.cells? 0 (a.add (i * 5)) 5 = some p.1 ∧ TIs W (Btw 0 W.heap.size) p.2 p.1 := by
      intro i hi
      have h1 := hel i hi
      rw [List.getElem?_eq_getElem (by omega)] at h1
      obtain ⟨cs', c1, c2⟩ := Option.bind_eq_some_iff.1 h1
      obtain ⟨t, ht⟩ := ih cs' _ c2 fun b hb' => hw b (by
        simp only [DataW.weights, Tryd.underlying22]
        exact List.mem_cons_of_mem _ (List.mem_append_left _ (weights_all (d := elems[i].1) (List.mem_map.2 ⟨elems[i], List.getElem_mem _, rfl⟩) hb')))
      exact ⟨(cs', t), c1, ht⟩
    have : Inhabited (List Value × Tm) := ⟨([], .mk 0 0 0 ⟨#[]⟩ [])⟩
    obtain ⟨q, hq⟩ := Deep.choose_lt key
    obtain ⟨b, o, s⟩ := a
    have cell : ∀ i, i < len → ∀ j (hj : j < (q i).1.length), W.cell? ((⟨b, o, s⟩ : Addr).add (i * 5 + j)) = some (q i).1[j] := fun i hi j hj => by
      obtain ⟨_, hlen', hcell⟩ := World.cells?_some (hq i hi).1
      have := hcell j (by omega)
      rw [Deep.add_add] at this
      rw [this]
      exact List.getElem?_eq_getElem hj
    have len5 : ∀ i, i < len → (q i).1.length = 5 := fun i hi => (hq i hi).2.len
    have hs : 0 < len → s = none := fun h0 => by
      have := World.cell?_spot (cell 0 h0 0 (by rw [len5 0 h0]; decide))
      simpa [Addr.add] using this
    have hlt : 0 < len → b < W.heap.size := fun h0 => by
      have h1 := cell 0 h0 0 (by rw [len5 0 h0]; decide)
      rcases Nat.lt_or_ge b W.heap.size with hlt | hge
      · exact hlt
      · simp [Addr.add, World.cell?, Array.getElem?_eq_none hge] at h1
    rcases Nat.eq_zero_or_pos len with h0 | h0
    · subst h0
      exact ⟨some ⟨b, o, s⟩, cap, [], [], rfl, ⟨fun a _ h => absurd rfl h, rfl, by simp, Cells.nil _ _, fun i h => by simp at h⟩, Nat.zero_le _, hcm, by simp⟩
    · obtain rfl := hs h0
      refine ⟨some ⟨b, o, none⟩, cap, (List.range len).map fun i => (q i).1, (List.range len).map fun i => (q i).2, by simp, ⟨?_, by simp, ?_, ?_, ?_⟩, by simpa using hl, hcm, by simp; omega⟩
      · rintro _ ⟨⟩ _
        exact ⟨Nat.zero_le _, hlt h0⟩
      · intro v hv
        obtain ⟨i, hi, rfl⟩ := List.mem_map.1 hv
        exact len5 i (by simpa using hi)
      · have hz : ∀ v ∈ (List.range len).map fun i => (q i).1, v.length = 5 := fun v hv => by
          obtain ⟨i, hi, rfl⟩ := List.mem_map.1 hv
          exact len5 i (by simpa using hi)
        have hfl := flat5_len _ hz
        simp only [List.length_map, List.length_range] at hfl
        refine Cells.of_cells fun i hi => ?_
        have hi5 : i / 5 < len := by omega
        have h2 := flat5 _ hz (i / 5) (i % 5) (by simpa using hi5) (Nat.mod_lt _ (by decide))
        have hj : i % 5 < (q (i / 5)).1.length := by rw [len5 _ hi5]; exact Nat.mod_lt _ (by decide)
        have e : i / 5 * 5 + i % 5 = i := by omega
        have h3 := cell (i / 5) hi5 (i % 5) hj
        rw [e] at h2 h3
        rw [add_plain] at h3
        rw [h3, ← List.getElem?_eq_getElem hj, ← List.getElem?_eq_getElem hi, h2]
        simp
      · intro i h1 h2
        simp only [List.length_map, List.length_range] at h1
        simpa using (hq i h1).2
set_option maxRecDepth 100000 in
theorem term_in : ∀ (fuel : Nat) (cs : List Value) (x : DataW H × List MemPlace), DataW.trod enc Tryd.prog W 0 (fun _ => true) true fuel 24 cs = some x → (∀ b ∈ x.1.weights Tryd.prog 24, b ≤ reachBytes) → ∃ t, TIs W (Btw 0 W.heap.size) t cs := by
  intro fuel
  induction fuel using Nat.strongRecOn with
  | ind fuel ih =>
    intro cs x h hw
    obtain ⟨xs, n, hn, hx, hlen, hxl, hf⟩ := DataW.trod_struct Tryd.underlying24 h
    have h5 : Tryd.prog.cellsOf 24 = 5 := by kernel_rfl
    have c3 : Tryd.prog.cellsOf 3 = 1 := by kernel_rfl
    have c9 : Tryd.prog.cellsOf 9 = 1 := by kernel_rfl
    have c22 : Tryd.prog.cellsOf 22 = 1 := by kernel_rfl
    rw [h5] at hlen
    match cs, hlen, xs, hxl with
    | [v0, v1, v2, v3, v4], _, [y0, y1, y2, y3, y4], _ =>
      have g0 : DataW.trod enc Tryd.prog W 0 (fun _ => true) true n 3 [v0] = some y0 := by have := hf 0 _ rfl; simpa [c3] using this
      have g1 : DataW.trod enc Tryd.prog W 0 (fun _ => true) true n 3 [v1] = some y1 := by have := hf 1 _ rfl; simpa [c3] using this
      have g2 : DataW.trod enc Tryd.prog W 0 (fun _ => true) true n 3 [v2] = some y2 := by have := hf 2 _ rfl; simpa [c3] using this
      have g3 : DataW.trod enc Tryd.prog W 0 (fun _ => true) true n 9 [v3] = some y3 := by have := hf 3 _ rfl; simpa [c9] using this
      have g4 : DataW.trod enc Tryd.prog W 0 (fun _ => true) true n 22 [v4] = some y4 := by have := hf 4 _ rfl; simpa [c22] using this
      obtain ⟨a0, e0, _, _⟩ := DataW.trod_int Tryd.underlying3 g0
      obtain ⟨a1, e1, _, _⟩ := DataW.trod_int Tryd.underlying3 g1
      obtain ⟨a2, e2, _, _⟩ := DataW.trod_int Tryd.underlying3 g2
      obtain ⟨s, e3, q3, _⟩ := DataW.trod_string Tryd.underlying9 g3
      rw [hx] at hw
      have hs : s.size ≤ 140737488355328 := by
        have := hw s.size (by simp [DataW.weights, Tryd.underlying24, DataW.weightsEach, q3])
        have := reachBytes_lt
        omega
      match n, hn, g4 with
      | 0, _, g4 => simp [DataW.trod] at g4
      | n + 1, hn, g4 =>
        obtain ⟨A, c, vs, l, e4, hr, hl, hcm, hc⟩ := terms_of (ih n (by omega)) g4 fun b hb => hw b (by simp [DataW.weights, Tryd.underlying24, DataW.weightsEach, hb])
        simp only [List.cons.injEq, and_true] at e0 e1 e2 e3 e4
        subst e0 e1 e2 e3 e4
        exact ⟨_, hr.tis a0 a1 a2 s c hs hl hcm hc⟩
set_option maxRecDepth 100000 in
theorem terms_in {fuel : Nat} {cs : List Value} {x : DataW H × List MemPlace} (h : DataW.trod enc Tryd.prog W 0 (fun _ => true) true fuel 22 cs = some x) (hw : ∀ b ∈ x.1.weights Tryd.prog 22, b ≤ reachBytes) :
    ∃ A c vs l, cs = [.slice A l.length c] ∧ RowT W (Btw 0 W.heap.size) A vs l ∧ l.length ≤ c ∧ c ≤ maxLen ∧ l.length ≤ 2199023255552 := by
  match fuel, h with
  | 0, h => simp [DataW.trod] at h
  | n + 1, h => exact terms_of (fun cs x => term_in n cs x) h hw
end
end
end Go.Proofs.YtchanildogjhgaaDoor

