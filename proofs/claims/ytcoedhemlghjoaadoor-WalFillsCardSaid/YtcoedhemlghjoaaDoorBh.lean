/-
  My own texts ShNum ShDrx ShShaA ShDry ShShaB ShSto, one behind the other.
-/
import Derived.WalkKit
import Derived.Test.YtcoedhemlghjoaaDoorBa
import Derived.RegionTactic
import Derived.StillTailTactics
import Derived.Deep.QuietTactic
import Derived.BigQuiet
import Derived.Lib.Hide
import Derived.Shelf.Abstract
namespace Go.Proofs.YtcoedhemlghjoaaDoor
section
namespace Sh
open Go.RowKit
/-- A word's value. -/
abbrev wd (x : UInt32) : Value := .int .u32 (x.toNat : Int)
def rotN (n x : Nat) : Nat := x / 2 ^ n + (x % 2 ^ n) * 2 ^ (32 - n)
def rot (n : Nat) (x : UInt32) : UInt32 := UInt32.ofNat (rotN n x.toNat)
def psh (n : Nat) (x : UInt32) : UInt32 := UInt32.ofNat (x.toNat / 2 ^ n)
def sm0 (x : UInt32) : UInt32 := rot 7 x ^^^ rot 18 x ^^^ psh 3 x
def sm1 (x : UInt32) : UInt32 := rot 17 x ^^^ rot 19 x ^^^ psh 10 x
def bg0 (x : UInt32) : UInt32 := rot 2 x ^^^ rot 13 x ^^^ rot 22 x
def bg1 (x : UInt32) : UInt32 := rot 6 x ^^^ rot 11 x ^^^ rot 25 x
def pck (e f g : UInt32) : UInt32 := (e &&& f) ||| (~~~e &&& g)
def mst (a b c : UInt32) : UInt32 := ((a &&& b) ||| (a &&& c)) ||| (b &&& c)

theorem u32_lt (x : UInt32) : x.toNat < 4294967296 := UInt32.toNat_lt x
theorem rotN_lt (n x : Nat) (hn : n ≤ 32) (hx : x < 2 ^ 32) : rotN n x < 2 ^ 32 := by
  unfold rotN
  have e : (2 : Nat) ^ 32 = 2 ^ n * 2 ^ (32 - n) := by rw [← Nat.pow_add]; congr 1; omega
  have h1 : x / 2 ^ n < 2 ^ (32 - n) := by
    rw [Nat.div_lt_iff_lt_mul (Nat.two_pow_pos n), Nat.mul_comm, ← e]; exact hx
  have h2 : x % 2 ^ n < 2 ^ n := Nat.mod_lt _ (Nat.two_pow_pos n)
  have h3 : (x % 2 ^ n) * 2 ^ (32 - n) + 2 ^ (32 - n) ≤ 2 ^ n * 2 ^ (32 - n) := by
    rw [← Nat.succ_mul]; exact Nat.mul_le_mul_right _ h2
  rw [e]; omega
theorem rot_toNat (n : Nat) (hn : n ≤ 32) (x : UInt32) : (rot n x).toNat = rotN n x.toNat := by
  unfold rot
  rw [UInt32.toNat_ofNat', Nat.mod_eq_of_lt (rotN_lt n _ hn (u32_lt x))]
theorem psh_toNat (n : Nat) (x : UInt32) : (psh n x).toNat = x.toNat / 2 ^ n := by
  unfold psh
  rw [UInt32.toNat_ofNat', Nat.mod_eq_of_lt]
  exact Nat.lt_of_le_of_lt (Nat.div_le_self _ _) (u32_lt x)

/-! What the model's operations give. -/
theorem wrap32 (n : Nat) : IntKind.u32.wrap (n : Int) = ((n % 4294967296 : Nat) : Int) := by
  simp [IntKind.wrap, IntKind.bits, IntKind.signed]
theorem add_wd (x y : UInt32) : IntKind.u32.wrap ((x.toNat : Int) + (y.toNat : Int)) = (((x + y).toNat : Nat) : Int) := by
  rw [← Int.natCast_add, wrap32, UInt32.toNat_add]
theorem ofInt_nat (k : Nat) (n : Nat) : BitVec.ofInt k (n : Int) = BitVec.ofNat k n := BitVec.ofInt_natCast k n
theorem and_wd (x y : UInt32) : bits .and .u32 (x.toNat : Int) (y.toNat : Int) = ((x &&& y).toNat : Int) := by
  have hx := u32_lt x
  have hy := u32_lt y
  show IntKind.u32.wrap ((BitVec.ofInt 32 (x.toNat : Int) &&& BitVec.ofInt 32 (y.toNat : Int)).toNat : Int) = _
  rw [ofInt_nat, ofInt_nat, BitVec.toNat_and, BitVec.toNat_ofNat, BitVec.toNat_ofNat, Nat.mod_eq_of_lt hx, Nat.mod_eq_of_lt hy, wrap32, UInt32.toNat_and, Nat.mod_eq_of_lt (Nat.and_lt_two_pow _ (n := 32) hy)]
theorem or_wd (x y : UInt32) : bits .or .u32 (x.toNat : Int) (y.toNat : Int) = ((x ||| y).toNat : Int) := by
  have hx := u32_lt x
  have hy := u32_lt y
  show IntKind.u32.wrap ((BitVec.ofInt 32 (x.toNat : Int) ||| BitVec.ofInt 32 (y.toNat : Int)).toNat : Int) = _
  rw [ofInt_nat, ofInt_nat, BitVec.toNat_or, BitVec.toNat_ofNat, BitVec.toNat_ofNat, Nat.mod_eq_of_lt hx, Nat.mod_eq_of_lt hy, wrap32, UInt32.toNat_or, Nat.mod_eq_of_lt (Nat.or_lt_two_pow (n := 32) hx hy)]
theorem xor_wd (x y : UInt32) : bits .xor .u32 (x.toNat : Int) (y.toNat : Int) = ((x ^^^ y).toNat : Int) := by
  have hx := u32_lt x
  have hy := u32_lt y
  show IntKind.u32.wrap ((BitVec.ofInt 32 (x.toNat : Int) ^^^ BitVec.ofInt 32 (y.toNat : Int)).toNat : Int) = _
  rw [ofInt_nat, ofInt_nat, BitVec.toNat_xor, BitVec.toNat_ofNat, BitVec.toNat_ofNat, Nat.mod_eq_of_lt hx, Nat.mod_eq_of_lt hy, wrap32, UInt32.toNat_xor, Nat.mod_eq_of_lt (Nat.xor_lt_two_pow (n := 32) hx hy)]
/-- Turning to the left by 32 - n, as the library does it. -/
theorem rol_wd (n : Nat) (hn : 0 < n) (hn' : n < 32) (x : UInt32) : bits .or .u32 (IntKind.u32.wrap ((x.toNat : Int) * 2 ^ (32 - n))) ((x.toNat : Int) / 2 ^ n) = ((rot n x).toNat : Int) := by
  have hx : x.toNat < 2 ^ 32 := u32_lt x
  have e : (2 : Nat) ^ 32 = 2 ^ n * 2 ^ (32 - n) := by rw [← Nat.pow_add]; congr 1; omega
  have h1 : IntKind.u32.wrap ((x.toNat : Int) * 2 ^ (32 - n)) = (((x.toNat % 2 ^ n) * 2 ^ (32 - n) : Nat) : Int) := by
    have : ((x.toNat : Int) * 2 ^ (32 - n)) = ((x.toNat * 2 ^ (32 - n) : Nat) : Int) := by simp
    rw [this, wrap32]
    congr 1
    rw [show (4294967296 : Nat) = 2 ^ n * 2 ^ (32 - n) from e, Nat.mul_mod_mul_right]
  have h2 : ((x.toNat : Int) / 2 ^ n) = ((x.toNat / 2 ^ n : Nat) : Int) := by simp
  have h3 : x.toNat / 2 ^ n < 2 ^ (32 - n) := by
    rw [Nat.div_lt_iff_lt_mul (Nat.two_pow_pos n), Nat.mul_comm, ← e]; exact hx
  have h4 := rotN_lt n x.toNat (by omega) hx
  have h5 : (x.toNat % 2 ^ n) * 2 ^ (32 - n) < 2 ^ 32 := by unfold rotN at h4; exact Nat.lt_of_le_of_lt (Nat.le_add_left _ _) h4
  have h6 : x.toNat / 2 ^ n < 2 ^ 32 := Nat.lt_of_le_of_lt (Nat.div_le_self _ _) hx
  rw [h1, h2, rot_toNat n (by omega)]
  show IntKind.u32.wrap ((BitVec.ofInt 32 (((x.toNat % 2 ^ n) * 2 ^ (32 - n) : Nat) : Int) ||| BitVec.ofInt 32 ((x.toNat / 2 ^ n : Nat) : Int)).toNat : Int) = _
  rw [ofInt_nat, ofInt_nat, BitVec.toNat_or, BitVec.toNat_ofNat, BitVec.toNat_ofNat, Nat.mod_eq_of_lt h5, Nat.mod_eq_of_lt h6, wrap32]
  have h7 : (x.toNat % 2 ^ n) * 2 ^ (32 - n) ||| x.toNat / 2 ^ n = rotN n x.toNat := by
    rw [Nat.mul_comm, ← Nat.two_pow_add_eq_or_of_lt h3]
    unfold rotN
    rw [Nat.mul_comm]; omega
  rw [h7, Nat.mod_eq_of_lt h4]
theorem psh_wd (n : Nat) (x : UInt32) : ((x.toNat : Int) / 2 ^ n) = ((psh n x).toNat : Int) := by
  rw [psh_toNat]; simp
/-! The numbers behind a block. -/
def g0 (l : List UInt32) (k : Nat) : UInt32 := l.getD k 0
/-- The next word behind these. -/
def nxt (l : List UInt32) : UInt32 := sm1 (g0 l (l.length - 2)) + g0 l (l.length - 7) + sm0 (g0 l (l.length - 15)) + g0 l (l.length - 16)
/-- So many words more. -/
def more (f : List UInt32) : Nat → List UInt32
  | 0 => f
  | n + 1 => more f n ++ [nxt (more f n)]
/-- Eight numbers behind a step, x being the constant and the word. -/
def step1 (r : List UInt32) (x : UInt32) : List UInt32 :=
  let s := g0 r 7 + bg1 (g0 r 4) + pck (g0 r 4) (g0 r 5) (g0 r 6) + x
  [s + bg0 (g0 r 0) + mst (g0 r 0) (g0 r 1) (g0 r 2), g0 r 0, g0 r 1, g0 r 2, g0 r 3 + s, g0 r 4, g0 r 5, g0 r 6]
/-- Behind so many steps, of these sums. -/
def steps (r : List UInt32) : List UInt32 → List UInt32
  | [] => r
  | x :: xs => steps (step1 r x) xs
/-- The constants, each with its word. -/
def sums (c f : List UInt32) : List UInt32 := List.zipWith (· + ·) c (more f 48)
def blkN (c : List UInt32) (h f : List UInt32) : List UInt32 := List.zipWith (· + ·) h (steps h (sums c f))

theorem more_length (f : List UInt32) (n : Nat) : (more f n).length = f.length + n := by
  induction n with
  | zero => rfl
  | succ n ih => simp [more, ih]; omega
theorem more_keep (f : List UInt32) (n k i : Nat) (hi : i < f.length + n) : (more f (n + k))[i]? = (more f n)[i]? := by
  induction k with
  | zero => rfl
  | succ k ih =>
    rw [← Nat.add_assoc]
    simp only [more]
    rw [List.getElem?_append_left (by rw [more_length]; omega), ih]
theorem steps_length (r : List UInt32) (xs : List UInt32) (hr : r.length = 8) : (steps r xs).length = 8 := by
  induction xs generalizing r with
  | nil => exact hr
  | cons x xs ih => exact ih _ rfl
theorem steps_snoc (r : List UInt32) (xs : List UInt32) (x : UInt32) : steps r (xs ++ [x]) = step1 (steps r xs) x := by
  induction xs generalizing r with
  | nil => rfl
  | cons y ys ih => exact ih _
end Sh
end
section
namespace Sh
open Go.RowKit
section
variable {P : Program} {ops : Array Oper} {Q : Exit → Act → World → Prop}
theorem count_set : ∀ (l : List Bool) (i : Nat), l[i]? = some false → (l.set i true).countP (fun b => !b) + 1 = l.countP (fun b => !b)
  | [], i, h => by simp at h
  | b :: l, 0, h => by simp at h; subst h; simp
  | b :: l, i + 1, h => by
    have := count_set l i (by simpa using h)
    simp only [List.set_cons_succ, List.countP_cons]
    omega
theorem count_zero : ∀ (l : List Bool), l.countP (fun b => !b) = 0 → ∀ j, j < l.length → l[j]? = some true
  | [], _, j, h => by simp at h
  | b :: l, h, 0, _ => by
    rw [List.countP_cons] at h
    cases b
    · simp at h
    · rfl
  | b :: l, h, j + 1, hj => by
    rw [List.countP_cons] at h
    simpa using count_zero l (by omega) j (by simpa using hj)
/-- The slots hold what was reckoned; the world stands as it does behind what was done. -/
structure Drawn (ops : Array Oper) (nt : Nat) (E : Nat → Value) (ps : List Nat) (st : (Nat → Bool) → World → Prop) (ds : List Deferred) (listed : Array Bool) (a : Act) (w : World) : Prop where
  size : listed.size = ops.size
  tsize : a.tmps.size = nt
  defs : a.defers = ds
  par : ∀ s ∈ ps, a.tmps[s]? = some (E s)
  got : ∀ (j : Nat) (o : Oper) (s : Nat), ops[j]? = some o → listed.getD j false = true → o.dst = some s → a.tmps[s]? = some (E s)
  wor : st (fun j => listed.getD j false) w
theorem getD_set (l : Array Bool) (i j : Nat) (hi : i < l.size) : (l.setIfInBounds i true).getD j false = (if j = i then true else l.getD j false) := by
  simp only [Array.getD_eq_getD_getElem?, Array.getElem?_setIfInBounds]
  by_cases hj : j = i
  · subst hj
    simp [hi]
  · simp [hj, Ne.symm hj]
/-- What holds ahead of each step, whatever was done by then, holds when all is done. -/
theorem wpAny_inv2 (I : Array Bool → Act → World → Prop) (hs : ∀ listed a w, I listed a w → listed.size = ops.size)
    (hstep : ∀ listed a w i o, I listed a w → ops[i]? = some o → listed.getD i true = false → (∀ e ∈ o.after, Region.binds .any e = true → listed.getD e.on false = true) →
      ∀ K : Act → World → Prop, (∀ a' w', I (listed.setIfInBounds i true) a' w' → K a' w') → if Region.wanted o (yielded ops a.tmps) = true then o.wp P a w K Q else K (a.put o.dst undef) w)
    (hend : ∀ listed a w, I listed a w → (∀ j, j < ops.size → listed.getD j false = true) → Q .normal a w)
    (hlt : ∀ (i : Nat) (o : Oper), ops[i]? = some o → ∀ e ∈ o.after, Region.binds .any e = true → e.on < i) :
    ∀ (fuel : Nat) (listed : Array Bool) (a : Act) (w : World), listed.toList.countP (fun b => !b) ≤ fuel → I listed a w → wpAny P .any ops Q fuel listed a w := by
  have hall : ∀ listed : Array Bool, listed.size = ops.size → Region.ready .any ops listed = [] → ∀ n j, j < n → j < ops.size → listed.getD j false = true := by
    intro listed hsz hr n
    induction n with
    | zero => intro j h; omega
    | succ n ih =>
      intro j hj hjo
      by_cases hjn : j < n
      · exact ih j hjn hjo
      · obtain rfl : j = n := by omega
        rcases hb : listed.getD j false with _ | _
        · exfalso
          have hlj : j < listed.size := by omega
          have hmem : j ∈ Region.ready .any ops listed := by
            unfold Region.ready
            rw [List.mem_filter]
            refine ⟨by simpa using hjo, ?_⟩
            have h1 : listed.getD j true = false := by
              simp only [Array.getD, hlj, dite_true] at hb ⊢
              exact hb
            rw [h1, Array.getElem?_eq_getElem hjo]
            simp only [Bool.not_false, Bool.true_and, Option.map_some, Option.getD_some]
            rw [Array.all_eq_true_iff_forall_mem]
            intro e he
            cases hbe : Region.binds .any e with
            | false => rfl
            | true =>
              have := hlt j ops[j] (Array.getElem?_eq_getElem hjo) e he hbe
              rw [ih e.on this (by omega)]
              rfl
          rw [hr] at hmem
          cases hmem
        · rfl
  intro fuel
  induction fuel with
  | zero =>
    intro listed a w hc hI
    have hsz := hs _ _ _ hI
    have hl : ∀ j, j < ops.size → listed.getD j false = true := fun j hj => by
      have hh := count_zero listed.toList (by omega) j (by simp; omega)
      have hj' : j < listed.size := by omega
      simp only [Array.getD, hj', dite_true]
      simpa [hj'] using hh
    refine ⟨?_, hend _ _ _ hI hl⟩
    unfold Region.ready
    rw [List.filter_eq_nil_iff]
    intro j hj
    have hj' : j < listed.size := by have := List.mem_range.1 hj; omega
    have := hl j (List.mem_range.1 hj)
    have h1 : listed.getD j true = true := by
      simp only [Array.getD, hj', dite_true] at this ⊢
      exact this
    simp [h1]
  | succ fuel ih =>
    intro listed a w hc hI
    have hsz := hs _ _ _ hI
    refine ⟨fun hr => hend _ _ _ hI (fun j hj => hall listed hsz hr (j + 1) j (by omega) hj), fun i hi => ?_⟩
    unfold Region.ready at hi
    rw [List.mem_filter] at hi
    obtain ⟨hi1, hi2⟩ := hi
    have hio : i < ops.size := List.mem_range.1 hi1
    rw [Array.getElem?_eq_getElem hio] at hi2
    simp only [Bool.and_eq_true, Bool.not_eq_true', Option.map_some, Option.getD_some] at hi2
    obtain ⟨h1, h2⟩ := hi2
    rw [Array.all_eq_true_iff_forall_mem] at h2
    have hil : i < listed.size := by omega
    have hcs : (listed.setIfInBounds i true).toList.countP (fun b => !b) ≤ fuel := by
      have := count_set listed.toList i (by
        simp only [Array.getD, hil, dite_true] at h1
        simpa [hil] using h1)
      rw [Array.toList_setIfInBounds]
      omega
    refine wpOp_step (Array.getElem?_eq_getElem hio) (fun K' hK => ?_)
    exact hstep listed a w i _ hI (Array.getElem?_eq_getElem hio) h1 (fun e he hb => by
      have := h2 e he
      rw [hb] at this
      simpa using this) K' (fun a' w' hI' => hK _ _ (ih _ _ _ hcs hI'))
/-- A region that draws its order, each of whose steps yields the same whenever it may come, but for what x says (the places of what is made). -/
theorem wp_region_detx {X : Type} {id : Nat} {a : Act} {w : World} (x0 : X) (nt : Nat) (E : X → Nat → Value) (ps : List Nat) (st : X → (Nat → Bool) → World → Prop) (ds : List Deferred) (hm : P.follows .mixedOrders = true)
    (ht : a.tmps.size = nt) (hd : a.defers = ds) (hp : ∀ s ∈ ps, a.tmps[s]? = some (E x0 s)) (h0 : st x0 (fun _ => false) w.drew)
    (hlt : ∀ (i : Nat) (o : Oper), ops[i]? = some o → ∀ e ∈ o.after, Region.binds .any e = true → e.on < i) (hdst : ∀ (i : Nat) (o : Oper) (s : Nat), ops[i]? = some o → o.dst = some s → s < nt)
    (hstep : ∀ (x : X) (l : Nat → Bool) (T : Act) (v : World) (i : Nat) (o : Oper), ops[i]? = some o → l i = false → (∀ e ∈ o.after, Region.binds .any e = true → l e.on = true) → st x l v →
      (∀ s ∈ ps, T.tmps[s]? = some (E x s)) → (∀ (j : Nat) (o' : Oper) (s : Nat), ops[j]? = some o' → l j = true → o'.dst = some s → T.tmps[s]? = some (E x s)) →
      ∀ K : Act → World → Prop, (∀ x' u v', (∀ s ∈ ps, E x' s = E x s) → (∀ (j : Nat) (o' : Oper) (s : Nat), ops[j]? = some o' → l j = true → o'.dst = some s → E x' s = E x s) → (∀ s, o.dst = some s → u = E x' s) → st x' (fun j => if j = i then true else l j) v' → K (T.put o.dst u) v') →
        if Region.wanted o (yielded ops T.tmps) = true then o.wp P T v K Q else K (T.put o.dst undef) v)
    (hend : ∀ (x : X) (l : Nat → Bool) (T : Act) (v : World), (∀ j, j < ops.size → l j = true) → st x l v → T.tmps.size = nt → T.defers = ds → (∀ s ∈ ps, T.tmps[s]? = some (E x s)) →
      (∀ (j : Nat) (o' : Oper) (s : Nat), ops[j]? = some o' → o'.dst = some s → T.tmps[s]? = some (E x s)) → Q .normal T v) :
    (Code.region id ops true).wp P Q a w := by
  refine wp_region_any hm ?_
  refine wpAny_inv2 (fun listed T v => ∃ x, Drawn ops nt (E x) ps (st x) ds listed T v) (fun _ _ _ ⟨_, h⟩ => h.size) ?_ ?_ hlt ops.size _ a _ ?_ ?_
  · rintro listed T v i o ⟨x, hI⟩ ho hi hdep K hK
    have hio : i < ops.size := (Array.getElem?_eq_some_iff.1 ho).1
    have hil : i < listed.size := by rw [hI.size]; exact hio
    have hi' : listed.getD i false = false := by
      simp only [Array.getD, hil, dite_true] at hi ⊢
      exact hi
    refine hstep x (fun j => listed.getD j false) T v i o ho hi' hdep hI.wor hI.par hI.got K (fun x' u v' hps hold hu hv' => hK _ _ ⟨x', ?_⟩)
    have hput : ∀ s y, T.tmps[s]? = some y → (o.dst = some s → y = u) → (T.put o.dst u).tmps[s]? = some y := by
      intro s y hx hsx
      unfold Act.put
      cases hds : o.dst with
      | none => exact hx
      | some d =>
        show (T.tmps.setIfInBounds d u)[s]? = some y
        rw [Array.getElem?_setIfInBounds]
        by_cases hd' : d = s
        · subst hd'
          have hlt' : d < T.tmps.size := (Array.getElem?_eq_some_iff.1 hx).1
          simp [hlt', hsx hds]
        · simp [hd', hx]
    refine ⟨by simpa using hI.size, ?_, ?_, fun s hs' => hput s _ (by rw [hps s hs']; exact hI.par s hs') (fun h => (hu s h).symm), ?_, ?_⟩
    · unfold Act.put
      split <;> simp [hI.tsize]
    · unfold Act.put
      split <;> exact hI.defs
    · intro j o' s hj hl hs'
      rw [getD_set _ _ _ hil] at hl
      by_cases hji : j = i
      · subst hji
        rw [ho] at hj
        cases hj
        unfold Act.put
        rw [hs']
        show (T.tmps.setIfInBounds s u)[s]? = _
        have hsl : s < T.tmps.size := by rw [hI.tsize]; exact hdst _ _ _ ho hs'
        simp [hsl, hu s hs']
      · rw [if_neg hji] at hl
        exact hput s _ (by rw [hold j o' s hj hl hs']; exact hI.got j o' s hj hl hs') (fun h => (hu s h).symm)
    · have : (fun j => (listed.setIfInBounds i true).getD j false) = (fun j => if j = i then true else listed.getD j false) := funext fun j => getD_set _ _ _ hil
      rw [this]
      exact hv'
  · rintro listed T v ⟨x, hI⟩ hl
    exact hend x _ T v hl hI.wor hI.tsize hI.defs hI.par (fun j o' s hj hs' => hI.got j o' s hj (hl j (Array.getElem?_eq_some_iff.1 hj).1) hs')
  · have : ∀ n : Nat, (List.replicate n false).countP (fun b => !b) ≤ n := fun n => Nat.le_trans List.countP_le_length (by simp)
    simpa using this ops.size
  · refine ⟨x0, by simp, ht, hd, hp, fun j o s _ hl _ => ?_, ?_⟩
    · simp [Array.getD] at hl
    · have : (fun j => (Array.replicate ops.size false).getD j false) = (fun _ => false) := by
        funext j
        simp [Array.getD]
      rw [this]
      exact h0
end
/-- What is asked of the region's text alone. -/
def drawn2B (ops : Array Oper) (nt : Nat) : Bool := (List.range ops.size).all fun j => ((ops[j]?).map fun o => o.after.all (fun e => !Region.binds .any e || decide (e.on < j)) && (o.dst.map fun s => decide (s < nt)).getD true).getD true
theorem drawn2B_lt {ops : Array Oper} {nt : Nat} (h : drawn2B ops nt = true) (i : Nat) (o : Oper) (ho : ops[i]? = some o) : ∀ e ∈ o.after, Region.binds .any e = true → e.on < i := by
  intro e he hb
  have hi := (Array.getElem?_eq_some_iff.1 ho).1
  have := List.all_eq_true.1 h i (List.mem_range.2 hi)
  rw [ho] at this
  simp only [Option.map_some, Option.getD_some, Bool.and_eq_true] at this
  have h1 := Array.all_eq_true_iff_forall_mem.1 this.1 e he
  rw [hb] at h1
  simpa using h1
theorem drawn2B_dst {ops : Array Oper} {nt : Nat} (h : drawn2B ops nt = true) (i : Nat) (o : Oper) (s : Nat) (ho : ops[i]? = some o) (hs : o.dst = some s) : s < nt := by
  have hi := (Array.getElem?_eq_some_iff.1 ho).1
  have := List.all_eq_true.1 h i (List.mem_range.2 hi)
  rw [ho] at this
  simp only [Option.map_some, Option.getD_some, Bool.and_eq_true, hs] at this
  simpa using this.2
theorem eval_tmp {T : Act} {s : Nat} {x : Value} (h : T.tmps[s]? = some x) : T.eval (.tmp s) = x := by
  show T.tmps.getD s undef = x
  simp [Array.getD_eq_getD_getElem?, h]
theorem wp_ran {P : Program} {o : Oper} {ops : Array Oper} {T : Act} {v v' : World} {u : Value} {K : Act → World → Prop} {Q : Exit → Act → World → Prop} {E : Prop} (hg : o.guard = none) (h : (execOp T.eval o).run P v = .ok (.value u) v') (hK : K (T.put o.dst u) v') :
    if Region.wanted o (yielded ops T.tmps) = true then o.wp P T v K Q else E := by
  have hw : Region.wanted o (yielded ops T.tmps) = true := by unfold Region.wanted; rw [hg]
  rw [if_pos hw]
  unfold Oper.wp
  rw [h]
  exact hK
theorem wp_ran_skip {P : Program} {o : Oper} {ops : Array Oper} {T : Act} {v v' : World} {K : Act → World → Prop} {Q : Exit → Act → World → Prop} {E : Prop} (hg : o.guard = none) (h : (execOp T.eval o).run P v = .ok .skip v') (hK : K (T.put o.dst undef) v') :
    if Region.wanted o (yielded ops T.tmps) = true then o.wp P T v K Q else E := by
  have hw : Region.wanted o (yielded ops T.tmps) = true := by unfold Region.wanted; rw [hg]
  rw [if_pos hw]
  unfold Oper.wp
  rw [h]
  exact hK
section
variable {v : World} {o : Oper} {ρ : Operand → Value}
theorem exec_load {P : Program} {ty : TypeId} {x : Operand} {A : Addr} {u : Value} (ho : o.op = .load ty x) (hx : ρ x = .pointer (some A)) (h : (loadVar ty A).run P v = .ok u v) : (execOp ρ o).run P v = .ok (.value u) v := by
  unfold execOp
  simp only [ho, hx, Instr.loadAt, Instr.sureAddr, Sem.run_bind, Sem.run_pure, Result.andThen_ok, h]
theorem run_load1 {P : Program} {ty : TypeId} {A : Addr} {u : Value} {d : TypeDesc} (hu : P.underlying ty = some d) (hd : (match d with | .struct _ | .array _ _ => true | _ => false) = false) (h : v.cell? A = some u) : (loadVar ty A).run P v = .ok u v := by
  have hagg : (isAgg ty).run P v = .ok false v := by
    unfold isAgg
    rw [Sem.run_bind, run_underlying hu v]
    cases d <;> simp_all
  simp [loadVar, Sem.run_bind, hagg, h]
theorem exec_nil {P : Program} {x : Operand} {A : Addr} (ho : o.op = .nilCheck x) (hx : ρ x = .pointer (some A)) : (execOp ρ o).run P v = .ok (.value (.pointer (some A))) v := by
  unfold execOp
  simp [ho, hx, go_sem]
theorem exec_append {P : Program} {s x : Operand} {t : TypeId} {V U Z : Value} {v' : World} (ho : o.op = .call { callee := .builtin .append, args := #[s, x], argTypes := #[t, t] }) (hs : ρ s = V) (hx : ρ x = U) (h : (Builtin.append_ #[t, t] o.type #[V, U]).run P v = .ok Z v') : (execOp ρ o).run P v = .ok (.value Z) v' := by
  unfold execOp
  simp only [ho, resolve, invoke, builtin, Sem.run_bind, Sem.run_pure, Result.andThen_ok, List.map_toArray, List.map_cons, List.map_nil, hs, hx, h]
theorem exec_store1 {P : Program} {x y : Operand} {A : Addr} {ty : TypeId} {u old : Value} {it : TypeInfo} (ho : o.op = .store ty x y) (hx : ρ x = .pointer (some A)) (hy : ρ y = u) (h1 : u.oneCell' = true) (hi : P.info? ty = some it) (hs : it.size = 1) (hc : v.cell? A = some old) (hf : v.frozen? A = false) : (execOp ρ o).run P v = .ok .skip (v.setCell A u) := by
  have hcs : u.cells = #[u] := by cases u <;> simp_all [Value.oneCell', Value.cells]
  have h0 : A.add 0 = A := rfl
  unfold execOp
  simp [ho, hx, hy, Instr.storeAt, Instr.sureAddr, storeVar, sizeOf, typeInfo, hi, hcs, hs, storeCells, h0, run_store P v A u _ h1, hc, hf]
end
theorem wp_called {P : Program} {o : Oper} {ops : Array Oper} {T : Act} {v : World} {K : Act → World → Prop} {Q : Exit → Act → World → Prop} {E : Prop} {f : FuncId} {args : Array Value} (hg : o.guard = none) (h : (execOp T.eval o).run P v = .ok (.enter f args) v)
    (hc : Calls P f args v fun e v' => ∃ u, e = .returned u ∧ K (T.put o.dst u) v') :
    if Region.wanted o (yielded ops T.tmps) = true then o.wp P T v K Q else E := by
  have hw : Region.wanted o (yielded ops T.tmps) = true := by unfold Region.wanted; rw [hg]
  rw [if_pos hw]
  unfold Oper.wp
  rw [h]
  refine hc.mono ?_
  rintro e v' ⟨u, rfl, hK⟩
  exact hK
section
variable {v : World} {o : Oper} {ρ : Operand → Value} {P : Program} {f : FuncId}
theorem exec_call1 {x : Operand} {X : Value} {ts : Array TypeId} (ho : o.op = .call { callee := .value (.func f), args := #[x], argTypes := ts }) (hf : ρ (.func f) = .func (.func f) #[] #[]) (hx : ρ x = X) (he : ∀ args w, (callFunc f args).run P w = .ok (.enter f args) w) : (execOp ρ o).run P v = .ok (.enter f #[X]) v := by
  unfold execOp
  simp [ho, resolve, invoke, go_sem, hf, hx, he]
theorem exec_call2 {x y : Operand} {X Y : Value} {ts : Array TypeId} (ho : o.op = .call { callee := .value (.func f), args := #[x, y], argTypes := ts }) (hf : ρ (.func f) = .func (.func f) #[] #[]) (hx : ρ x = X) (hy : ρ y = Y) (he : ∀ args w, (callFunc f args).run P w = .ok (.enter f args) w) : (execOp ρ o).run P v = .ok (.enter f #[X, Y]) v := by
  unfold execOp
  simp [ho, resolve, invoke, go_sem, hf, hx, hy, he]
theorem exec_call3 {x y z : Operand} {X Y Z : Value} {ts : Array TypeId} (ho : o.op = .call { callee := .value (.func f), args := #[x, y, z], argTypes := ts }) (hf : ρ (.func f) = .func (.func f) #[] #[]) (hx : ρ x = X) (hy : ρ y = Y) (hz : ρ z = Z) (he : ∀ args w, (callFunc f args).run P w = .ok (.enter f args) w) : (execOp ρ o).run P v = .ok (.enter f #[X, Y, Z]) v := by
  unfold execOp
  simp [ho, resolve, invoke, go_sem, hf, hx, hy, hz, he]
theorem exec_move {x : Operand} {X : Value} (ho : o.op = .move x) (hx : ρ x = X) : (execOp ρ o).run P v = .ok (.value X) v := by
  unfold execOp
  simp [ho, hx, go_sem]

end
end Sh
end
section
namespace Sh
open Go.RowKit
theorem left_n (n : Nat) (hn : 0 < n) (hn' : n < 32) : bits .and .u64 (IntKind.u64.wrap (-(n : Int))) 31 = ((32 - n : Nat) : Int) := by
  have e : IntKind.u64.wrap (-(n : Int)) = ((18446744073709551616 - n : Nat) : Int) := by
    simp [IntKind.wrap, IntKind.bits, IntKind.signed]; omega
  rw [e]
  show IntKind.u64.wrap ((BitVec.ofInt 64 ((18446744073709551616 - n : Nat) : Int) &&& BitVec.ofInt 64 ((31 : Nat) : Int)).toNat : Int) = _
  rw [ofInt_nat, ofInt_nat, BitVec.toNat_and, BitVec.toNat_ofNat, BitVec.toNat_ofNat]
  have h1 : (18446744073709551616 - n) % 2 ^ 64 = 18446744073709551616 - n := Nat.mod_eq_of_lt (by omega)
  have h2 : (31 : Nat) % 2 ^ 64 = 2 ^ 5 - 1 := rfl
  rw [h1, h2, Nat.and_two_pow_sub_one_eq_mod]
  have h3 : (18446744073709551616 - n) % 2 ^ 5 = 32 - n := by omega
  rw [h3]
  simp [IntKind.wrap, IntKind.bits, IntKind.signed]; omega

theorem ret_int {k : IntKind} {a b : Int} (h : a = b) : Ending.returned (.int k a) = .returned (.int k b) := by rw [h]
theorem rol_walk (n : Nat) (hn : 0 < n) (hn' : n < 32) (x : UInt32) : bits .or .u32 ((x.toNat : Int) * 2 ^ (32 - n) % 4294967296) ((x.toNat : Int) / 2 ^ (32 - (32 - n))) = ((rot n x).toNat : Int) := by
  have h := rol_wd n hn hn' x
  rw [show 32 - (32 - n) = n by omega, ← h]
  congr 1
theorem rotl_c (x : UInt32) (n : Nat) (hn : 0 < n) (hn' : n < 32) (w : World) :
    Calls Tryd.prog 96 #[wd x, .int .i64 (-(n : Int))] w fun e w' => e = .returned (wd (rot n x)) ∧ w' = w := by
  have h1 := left_n n hn hn'
  have h2 := Lib.hid (rol_walk n hn hn' x)
  go_enter Tryd.func96, Tryd.ntmps96
  go_wp2
  go_ret
  exact ⟨ret_int h2.out, rfl⟩
theorem turn_c (x : UInt32) (n : Nat) (hn : 0 < n) (hn' : n < 32) (w : World) :
    Calls Tryd.prog 95 #[wd x, .int .i64 (n : Int)] w fun e w' => e = .returned (wd (rot n x)) ∧ w' = w := by
  go_enter Tryd.func95, Tryd.ntmps95
  go_wp2_with (go_at_call 96; refine (rotl_c x n hn hn' _).mono ?_; rintro e w' ⟨rfl, rfl⟩)
  go_ret
  exact ⟨rfl, rfl⟩
theorem push_c (x : UInt32) (n : Nat) (hn' : n < 32) (w : World) :
    Calls Tryd.prog 97 #[wd x, .int .i64 (n : Int)] w fun e w' => e = .returned (wd (psh n x)) ∧ w' = w := by
  have h2 := Lib.hid (psh_wd n x)
  go_enter Tryd.func97, Tryd.ntmps97
  go_wp2
  go_ret
  exact ⟨ret_int h2.out, rfl⟩
theorem pck_walk (x y z : UInt32) : bits .or .u32 (bits .and .u32 (x.toNat : Int) (y.toNat : Int)) (bits .and .u32 (bits .xor .u32 IntKind.u32.max (x.toNat : Int)) (z.toNat : Int)) = ((pck x y z).toNat : Int) := by
  have h : bits .xor .u32 IntKind.u32.max (x.toNat : Int) = ((~~~x).toNat : Int) := by
    rw [show IntKind.u32.max = (((4294967295 : UInt32).toNat : Nat) : Int) by decide, xor_wd]
    congr 2
  rw [and_wd, h, and_wd, or_wd]; rfl
theorem mst_walk (x y z : UInt32) : bits .or .u32 (bits .or .u32 (bits .and .u32 (x.toNat : Int) (y.toNat : Int)) (bits .and .u32 (x.toNat : Int) (z.toNat : Int))) (bits .and .u32 (y.toNat : Int) (z.toNat : Int)) = ((mst x y z).toNat : Int) := by
  rw [and_wd, and_wd, and_wd, or_wd, or_wd]; rfl
theorem pick_c (x y z : UInt32) (w : World) :
    Calls Tryd.prog 90 #[wd x, wd y, wd z] w fun e w' => e = .returned (wd (pck x y z)) ∧ w' = w := by
  have h2 := Lib.hid (pck_walk x y z)
  go_enter Tryd.func90, Tryd.ntmps90
  go_wp2
  go_ret
  exact ⟨ret_int h2.out, rfl⟩
theorem most_c (x y z : UInt32) (w : World) :
    Calls Tryd.prog 92 #[wd x, wd y, wd z] w fun e w' => e = .returned (wd (mst x y z)) ∧ w' = w := by
  have h2 := Lib.hid (mst_walk x y z)
  go_enter Tryd.func92, Tryd.ntmps92
  go_wp2
  go_ret
  exact ⟨ret_int h2.out, rfl⟩
/-- The place of the k-th of eight, behind t steps. -/
def plc (k t : Nat) : Nat := (k + 7 * t) % 8
theorem plc_walk (k t : Nat) (hk : k < 8) (ht : t < 64) : bits .and .i64 ((k : Int) - (t : Int)) 7 = (plc k t : Int) := by
  obtain ⟨m, hm⟩ : ∃ m : Nat, 18446744073709551616 + (k : Int) - (t : Int) = (m : Int) := ⟨18446744073709551616 + k - t, by omega⟩
  have e : BitVec.ofInt 64 ((k : Int) - (t : Int)) = BitVec.ofNat 64 m := by
    rw [← ofInt_nat, ← hm]
    apply BitVec.eq_of_toInt_eq
    simp only [BitVec.toInt_ofInt]
    rw [show 18446744073709551616 + (k : Int) - (t : Int) = ((k : Int) - (t : Int)) + ((2 ^ 64 : Nat) : Int) by omega, Int.add_bmod_right]
  show IntKind.i64.wrap ((BitVec.ofInt 64 ((k : Int) - (t : Int)) &&& BitVec.ofInt 64 ((7 : Nat) : Int)).toNat : Int) = _
  rw [e, ofInt_nat, BitVec.toNat_and, BitVec.toNat_ofNat, BitVec.toNat_ofNat]
  rw [show (7 : Nat) % 2 ^ 64 = 2 ^ 3 - 1 from rfl, Nat.and_two_pow_sub_one_eq_mod]
  have h3 : m % 2 ^ 64 % 2 ^ 3 = plc k t := by unfold plc; omega
  have h4 : plc k t < 8 := by unfold plc; omega
  rw [h3]
  simp [IntKind.wrap, IntKind.bits, IntKind.signed]; omega
theorem place_c (k t : Nat) (hk : k < 8) (ht : t < 64) (w : World) :
    Calls Tryd.prog 87 #[.int .i64 (k : Int), .int .i64 (t : Int)] w fun e w' => e = .returned (.int .i64 (plc k t : Int)) ∧ w' = w := by
  have h2 := Lib.hid (plc_walk k t hk ht)
  go_enter Tryd.func87, Tryd.ntmps87
  go_wp2
  go_ret
  exact ⟨ret_int h2.out, rfl⟩
end Sh
end
section
namespace Sh
open Go.RowKit
theorem exec_call0 {P : Program} {v : World} {o : Oper} {ρ : Operand → Value} {f : FuncId} {ts : Array TypeId} (ho : o.op = .call { callee := .value (.func f), args := #[], argTypes := ts }) (hf : ρ (.func f) = .func (.func f) #[] #[]) (he : ∀ args w, (callFunc f args).run P w = .ok (.enter f args) w) : (execOp ρ o).run P v = .ok (.enter f #[]) v := by
  unfold execOp
  simp [ho, resolve, invoke, go_sem, hf, he]
/-- Each slot either stands as it did or is written. -/
def coverB (ops : Array Oper) (nt : Nat) (ps : List Nat) : Bool := (List.range nt).all fun s => ps.contains s || (List.range ops.size).any fun j => ((ops[j]?).map fun (o : Oper) => o.dst == some s).getD false
theorem coverB_or {ops : Array Oper} {nt : Nat} {ps : List Nat} (h : coverB ops nt ps = true) (s : Nat) (hs : s < nt) : s ∈ ps ∨ ∃ (j : Nat) (o : Oper), ops[j]? = some o ∧ o.dst = some s := by
  have := List.all_eq_true.1 h s (List.mem_range.2 hs)
  rw [Bool.or_eq_true] at this
  rcases this with h1 | h1
  · left; simpa using h1
  · right
    obtain ⟨j, _, hj⟩ := List.any_eq_true.1 h1
    cases ho : ops[j]? with
    | none => rw [ho] at hj; cases hj
    | some o =>
      rw [ho] at hj
      exact ⟨j, o, ho, by simpa using hj⟩
theorem map_mem {α β : Type} {f g : α → β} {l : List α} (h : l.map f = l.map g) : ∀ s ∈ l, f s = g s := by
  induction l with
  | nil => intro s hs; cases hs
  | cons x l ih =>
    simp only [List.map_cons, List.cons.injEq] at h
    intro s hs
    rcases List.mem_cons.1 hs with rfl | hs
    · exact h.1
    · exact ih h.2 s hs
/-- What is done had what it waits for. -/
def Closed (ops : Array Oper) (l : Nat → Bool) : Prop := ∀ (j : Nat) (o : Oper), ops[j]? = some o → l j = true → ∀ e ∈ o.after, Region.binds .any e = true → l e.on = true
theorem Closed.add {ops : Array Oper} {l : Nat → Bool} (h : Closed ops l) {i : Nat} {o : Oper} (ho : ops[i]? = some o) (hdep : ∀ e ∈ o.after, Region.binds .any e = true → l e.on = true) : Closed ops (fun j => if j = i then true else l j) := by
  intro j o' hj hl e he hb
  show (if e.on = i then true else l e.on) = true
  by_cases hei : e.on = i
  · rw [if_pos hei]
  · rw [if_neg hei]
    by_cases hji : j = i
    · subst hji
      rw [ho] at hj
      cases hj
      exact hdep e he hb
    · exact h j o' hj (by simpa [hji] using hl) e he hb
def reachB (ops : Array Oper) (n : Nat) : Bool := (List.range n).all fun k => (List.range (n + 1)).any fun j => decide (k < j) && ((ops[j]?).map fun (o : Oper) => o.after.toList.any fun e => e.on == k && Region.binds .any e).getD false
theorem reach_all {ops : Array Oper} {n : Nat} {o : Oper} {l : Nat → Bool} (h : reachB ops n = true) (hc : Closed ops l) (ho : ops[n]? = some o) (hdep : ∀ e ∈ o.after, Region.binds .any e = true → l e.on = true) : ∀ k, k < n → l k = true := by
  have key : ∀ m k, n ≤ m + k → k < n → l k = true := by
    intro m
    induction m with
    | zero => intro k h1 h2; omega
    | succ m ih =>
      intro k h1 h2
      have := List.all_eq_true.1 h k (List.mem_range.2 h2)
      obtain ⟨j, hj, hj2⟩ := List.any_eq_true.1 this
      have hjn : j < n + 1 := List.mem_range.1 hj
      rw [Bool.and_eq_true] at hj2
      have hkj : k < j := by simpa using hj2.1
      cases hoj : ops[j]? with
      | none => rw [hoj] at hj2; cases hj2.2
      | some oj =>
        rw [hoj] at hj2
        obtain ⟨e, he, h3⟩ := List.any_eq_true.1 (show (oj.after.toList.any fun e => e.on == k && Region.binds .any e) = true from hj2.2)
        rw [Bool.and_eq_true] at h3
        have hek : e.on = k := by simpa using h3.1
        by_cases hjn' : j = n
        · subst hjn'
          rw [ho] at hoj
          cases hoj
          have := hdep e (by simpa using he) h3.2
          rwa [hek] at this
        · have := hc j oj hoj (ih j (by omega) (by omega)) e (by simpa using he) h3.2
          rwa [hek] at this
  exact fun k hk => key n k (by omega) hk
section
variable {P : Program} {ops : Array Oper} {Q : Exit → Act → World → Prop}
/-- The same, to a literal frame. -/
theorem wp_region_lit {X : Type} {id : Nat} {a : Act} {w : World} (x0 : X) (F : X → List Value) (nt : Nat) (ps : List Nat) (st : X → (Nat → Bool) → World → Prop) (ds : List Deferred) (hm : P.follows .mixedOrders = true)
    (hF : ∀ x, (F x).length = nt) (ht : a.tmps.size = nt) (hd : a.defers = ds) (hp : ps.map (fun s => a.tmps[s]?) = ps.map (fun s => some ((F x0).getD s undef))) (hx : ∀ x, ps.map (fun s => (F x).getD s undef) = ps.map (fun s => (F x0).getD s undef)) (h0 : st x0 (fun _ => false) w.drew)
    (hB : drawn2B ops nt = true) (hC : coverB ops nt ps = true)
    (hstep : ∀ (x : X) (l : Nat → Bool) (T : Act) (v : World) (i : Nat) (o : Oper), ops[i]? = some o → l i = false → (∀ e ∈ o.after, Region.binds .any e = true → l e.on = true) → st x l v →
      (∀ s, s ∈ ps → T.tmps[s]? = some ((F x).getD s undef)) → (∀ (j : Nat) (o' : Oper) (s : Nat), ops[j]? = some o' → l j = true → o'.dst = some s → T.tmps[s]? = some ((F x).getD s undef)) → Closed ops l →
      ∀ K : Act → World → Prop, (∀ x' u v', (∀ (j : Nat) (o' : Oper) (s : Nat), ops[j]? = some o' → l j = true → o'.dst = some s → (F x').getD s undef = (F x).getD s undef) → (∀ s, o.dst = some s → u = (F x').getD s undef) → st x' (fun j => if j = i then true else l j) v' → K (T.put o.dst u) v') →
        if Region.wanted o (yielded ops T.tmps) = true then o.wp P T v K Q else K (T.put o.dst undef) v)
    (hend : ∀ (x : X) (l : Nat → Bool) (v : World), (∀ j, j < ops.size → l j = true) → st x l v → Q .normal ⟨(F x).toArray, ds⟩ v) :
    (Code.region id ops true).wp P Q a w := by
  refine wp_region_detx x0 nt (fun x s => (F x).getD s undef) ps (fun x l v => st x l v ∧ Closed ops l) ds hm ht hd (map_mem hp) ⟨h0, fun _ _ _ h => by cases h⟩ (drawn2B_lt hB) (drawn2B_dst hB) ?_ ?_
  · intro x l T v i o ho hl hdep hst hpar hgot K hK
    exact hstep x l T v i o ho hl hdep hst.1 hpar hgot hst.2 K (fun x' u v' h1 h2 h3 => hK x' u v' (fun s hs => by
      have e1 := map_mem (hx x') s hs
      have e2 := map_mem (hx x) s hs
      exact e1.trans e2.symm) h1 h2 ⟨h3, hst.2.add ho hdep⟩)
  · intro x l T v hl hst hts hds hpar hgot
    have hall : ∀ s, s < nt → T.tmps[s]? = some ((F x).getD s undef) := fun s hs => by
      rcases coverB_or hC s hs with h | ⟨j, o, hj, ho⟩
      · exact hpar s h
      · exact hgot j o s hj ho
    have hT : T = ⟨(F x).toArray, ds⟩ := by
      obtain ⟨tm, df⟩ := T
      have h1 : tm = (F x).toArray := by
        apply Array.ext_getElem?
        intro s
        by_cases hs : s < nt
        · rw [show tm[s]? = _ from hall s hs]
          have hl' : s < (F x).length := by rw [hF]; exact hs
          simp [List.getD_eq_getElem?_getD, hl']
        · rw [Array.getElem?_eq_none (by rw [show tm.size = nt from hts]; omega), Array.getElem?_eq_none (by simp [hF]; omega)]
      rw [h1, show df = ds from hds]
    rw [hT]
    exact hend x l v hl hst.1
/-- Where nothing is made whose place hangs on the order. -/
theorem wp_region_lit1 {id : Nat} {a : Act} {w : World} (F : List Value) (nt : Nat) (ps : List Nat) (st : (Nat → Bool) → World → Prop) (ds : List Deferred) (hm : P.follows .mixedOrders = true)
    (hF : F.length = nt) (ht : a.tmps.size = nt) (hd : a.defers = ds) (hp : ps.map (fun s => a.tmps[s]?) = ps.map (fun s => some (F.getD s undef))) (h0 : st (fun _ => false) w.drew)
    (hB : drawn2B ops nt = true) (hC : coverB ops nt ps = true)
    (hstep : ∀ (l : Nat → Bool) (T : Act) (v : World) (i : Nat) (o : Oper), ops[i]? = some o → l i = false → (∀ e ∈ o.after, Region.binds .any e = true → l e.on = true) → st l v →
      (∀ s, s ∈ ps → T.tmps[s]? = some (F.getD s undef)) → (∀ (j : Nat) (o' : Oper) (s : Nat), ops[j]? = some o' → l j = true → o'.dst = some s → T.tmps[s]? = some (F.getD s undef)) → Closed ops l →
      ∀ K : Act → World → Prop, (∀ u v', (∀ s, o.dst = some s → u = F.getD s undef) → st (fun j => if j = i then true else l j) v' → K (T.put o.dst u) v') →
        if Region.wanted o (yielded ops T.tmps) = true then o.wp P T v K Q else K (T.put o.dst undef) v)
    (hend : ∀ (l : Nat → Bool) (v : World), (∀ j, j < ops.size → l j = true) → st l v → Q .normal ⟨F.toArray, ds⟩ v) :
    (Code.region id ops true).wp P Q a w :=
  wp_region_lit (X := Unit) () (fun _ => F) nt ps (fun _ => st) ds hm (fun _ => hF) ht hd hp (fun _ => rfl) h0 hB hC
    (fun _ l T v i o ho hl hdep hst hpar hgot hcl K hK => hstep l T v i o ho hl hdep hst hpar hgot hcl K (fun u v' h1 h2 => hK () u v' (fun _ _ _ _ _ _ => rfl) h1 h2))
    (fun _ l v hl hst => hend l v hl hst)
end
section
variable {P : Program} {v : World} {o : Oper} {ρ : Operand → Value}
theorem exec_assign {x : Operand} {X : Value} (ho : o.op = .assign x) (hx : ρ x = X) : (execOp ρ o).run P v = .ok (.value X) v := by
  unfold execOp
  simp [ho, hx, go_sem]
theorem exec_add {t t' : TypeId} {x y : Operand} {k : IntKind} {a b c : Int} (ho : o.op = .binOp .add t x y t') (hx : ρ x = .int k a) (hy : ρ y = .int k b) (h : k.wrap (a + b) = c) : (execOp ρ o).run P v = .ok (.value (.int k c)) v := by
  subst h
  unfold execOp
  simp [ho, hx, hy, go_sem]
theorem exec_sub {t t' : TypeId} {x y : Operand} {k : IntKind} {a b c : Int} (ho : o.op = .binOp .sub t x y t') (hx : ρ x = .int k a) (hy : ρ y = .int k b) (h : k.wrap (a - b) = c) : (execOp ρ o).run P v = .ok (.value (.int k c)) v := by
  subst h
  unfold execOp
  simp [ho, hx, hy, go_sem]
theorem exec_mul {t t' : TypeId} {x y : Operand} {k : IntKind} {a b c : Int} (ho : o.op = .binOp .mul t x y t') (hx : ρ x = .int k a) (hy : ρ y = .int k b) (h : k.wrap (a * b) = c) : (execOp ρ o).run P v = .ok (.value (.int k c)) v := by
  subst h
  unfold execOp
  simp [ho, hx, hy, go_sem]
theorem exec_and {t t' : TypeId} {x y : Operand} {k : IntKind} {a b c : Int} (ho : o.op = .binOp .and t x y t') (hx : ρ x = .int k a) (hy : ρ y = .int k b) (h : bits .and k a b = c) : (execOp ρ o).run P v = .ok (.value (.int k c)) v := by
  subst h
  unfold execOp
  simp [ho, hx, hy, go_sem]
theorem exec_len {t e : TypeId} {x : Operand} {A : Option Addr} {n c : Nat} (hu : P.underlying t = some (.slice e)) (ho : o.op = .call { callee := .builtin .len, args := #[x], argTypes := #[t] }) (hx : ρ x = .slice A n c) : (execOp ρ o).run P v = .ok (.value (.int .i64 (n : Int))) v := by
  unfold execOp
  simp [ho, hx, resolve, invoke, builtin, go_sem, Builtin.len_, run_underlying hu]
/-- The address of an array's element, of one cell. -/
theorem exec_at {t e : TypeId} {n g f : Nat} {x y : Operand} {i : Nat} (hu : P.underlying t = some (.array n e)) (he : (P.info? e).map (·.size) = some 1) (hi : i < n) (ho : o.op = .indexAddr t x y) (hx : ρ x = .pointer (some ⟨g, f, none⟩)) (hy : ρ y = .int .i64 (i : Int)) :
    (execOp ρ o).run P v = .ok (.value (.pointer (some ⟨g, f + i, none⟩))) v := by
  unfold execOp
  cases hq : P.info? e with
  | none => rw [hq] at he; cases he
  | some it =>
    have hs : it.size = 1 := by rw [hq] at he; simpa using he
    simp [ho, hx, hy, Instr.indexAt, Sem.run_bind, run_underlying hu, go_sem, sizeOf, typeInfo, hq, hs, hi, add_plain]

end
end Sh
end
section
namespace Sh
open Go.RowKit
/-- A mix's cells. -/
def mixC (a b : Nat) (f : FuncId) (c : Nat) : List Value := [.int .i64 (a : Int), .int .i64 (b : Int), .func (.func f) #[] #[], .int .i64 (c : Int)]
def mixZ : List Value := [.int .i64 0, .int .i64 0, .nilFunc, .int .i64 0]
theorem size217 : (Tryd.prog.info? 142).map (·.size) = some 4 := by kernel_rfl
theorem zero217 : ∀ w, (zeroValue 142).run Tryd.prog w = .ok (.agg mixZ.toArray) w := (zero_of_info (n := 4) (by kernel_rfl)).1
theorem run_mix (a b : Nat) (f : FuncId) (c : Nat) (w : World) : (Instr.build 142 #[(0, .int .i64 (a : Int)), (1, .int .i64 (b : Int)), (2, .func (.func f) #[] #[]), (3, .int .i64 (c : Int))]).run Tryd.prog w = .ok (.agg (mixC a b f c).toArray) w := by
  refine run_build w _ _ _ ?_
  kernel_rfl
theorem mixC_one (a b : Nat) (f : FuncId) (c : Nat) : ∀ v ∈ mixC a b f c, v.oneCell' = true := by
  intro v hv
  simp [mixC] at hv
  rcases hv with rfl | rfl | rfl | rfl <;> rfl
theorem mix_len (a b : Nat) (f : FuncId) (c : Nat) : (mixC a b f c).length = mixZ.length := rfl
theorem mix_size (a b : Nat) (f : FuncId) (c : Nat) : (Tryd.prog.info? 142).map (·.size) = some (mixC a b f c).length := size217
theorem exec_mix {v : World} {o : Oper} {ρ : Operand → Value} {x y z u : Operand} {a b c : Nat} {f : FuncId} (ho : o.op = .build 142 #[(0, x), (1, y), (2, z), (3, u)]) (hx : ρ x = .int .i64 (a : Int)) (hy : ρ y = .int .i64 (b : Int)) (hz : ρ z = .func (.func f) #[] #[]) (hu : ρ u = .int .i64 (c : Int)) :
    (execOp ρ o).run Tryd.prog v = .ok (.value (.agg (mixC a b f c).toArray)) v := by
  unfold execOp
  simp only [ho, List.map_toArray, List.map_cons, List.map_nil, hx, hy, hz, hu, Sem.run_bind, run_mix, Result.andThen, Sem.run_pure]
/-- An operation that yields a value. -/
theorem wpList_ran {P : Program} {w : World} {ops : Array Oper} {rest : List Oper} {o : Oper} {a : Act} {Q : Exit → Act → World → Prop} (hg : o.guard = none) (V : Value) (hrun : (execOp a.eval o).run P w = .ok (.value V) w) (h : wpList P ops Q rest (a.put o.dst V) w) : wpList P ops Q (o :: rest) a w := by
  refine wpList_plain hg fun K hK => ?_
  unfold Oper.wp
  rw [hrun]
  exact hK _ _ h
set_option maxRecDepth 100000 in
theorem big1_c (w : World) : Calls Tryd.prog 88 #[] w fun e w' => e = .returned (.agg (mixC 6 11 95 25).toArray) ∧ Mod [] w w' := by
  go_enter Tryd.func88, Tryd.ntmps88
  go_wp2_with (first
    | (with_reducible refine wpList_allocs (o := ⟨some 0, .alloc 142, _, _, _, _⟩) rfl 142 rfl _ zero217 ?_; intro w1 hb1 m1 z1; replace z1 := Lib.hid z1)
    | (with_reducible refine wpList_ran (o := ⟨some 1, .build 142 _, _, _, _, _⟩) rfl (.agg (mixC 6 11 95 25).toArray) (exec_mix rfl rfl rfl rfl rfl) ?_)
    | (with_reducible refine wpList_storesAll (o := ⟨none, .store 142 (.tmp 0) (.tmp 1), _, _, _, _⟩) rfl 142 (.tmp 0) (.tmp 1) rfl rfl w.heap.size (mixC 6 11 95 25) rfl (.agg (mixC 6 11 95 25).toArray) rfl rfl 142 _ hb1 (mix_len _ _ _ _) (mixC_one _ _ _ _) (mix_size _ _ _ _) ?_; intro w2 hb2 m2 z2; replace z2 := Lib.hid z2))
  refine bodyPost_ret (results_cell_row rfl _ _ w.heap.size 142 _ (0, 0) _ rfl hb2 Tryd.underlying142 rfl size217) rfl ?_
  exact ⟨rfl, m1.trans m2 (by intro i hi h; simp at h; omega)⟩
set_option maxRecDepth 100000 in
theorem big0_c (w : World) : Calls Tryd.prog 91 #[] w fun e w' => e = .returned (.agg (mixC 2 13 95 22).toArray) ∧ Mod [] w w' := by
  go_enter Tryd.func91, Tryd.ntmps91
  go_wp2_with (first
    | (with_reducible refine wpList_allocs (o := ⟨some 0, .alloc 142, _, _, _, _⟩) rfl 142 rfl _ zero217 ?_; intro w1 hb1 m1 z1; replace z1 := Lib.hid z1)
    | (with_reducible refine wpList_ran (o := ⟨some 1, .build 142 _, _, _, _, _⟩) rfl (.agg (mixC 2 13 95 22).toArray) (exec_mix rfl rfl rfl rfl rfl) ?_)
    | (with_reducible refine wpList_storesAll (o := ⟨none, .store 142 (.tmp 0) (.tmp 1), _, _, _, _⟩) rfl 142 (.tmp 0) (.tmp 1) rfl rfl w.heap.size (mixC 2 13 95 22) rfl (.agg (mixC 2 13 95 22).toArray) rfl rfl 142 _ hb1 (mix_len _ _ _ _) (mixC_one _ _ _ _) (mix_size _ _ _ _) ?_; intro w2 hb2 m2 z2; replace z2 := Lib.hid z2))
  refine bodyPost_ret (results_cell_row rfl _ _ w.heap.size 142 _ (0, 0) _ rfl hb2 Tryd.underlying142 rfl size217) rfl ?_
  exact ⟨rfl, m1.trans m2 (by intro i hi h; simp at h; omega)⟩
set_option maxRecDepth 100000 in
theorem small1_c (w : World) : Calls Tryd.prog 93 #[] w fun e w' => e = .returned (.agg (mixC 17 19 97 10).toArray) ∧ Mod [] w w' := by
  go_enter Tryd.func93, Tryd.ntmps93
  go_wp2_with (first
    | (with_reducible refine wpList_allocs (o := ⟨some 0, .alloc 142, _, _, _, _⟩) rfl 142 rfl _ zero217 ?_; intro w1 hb1 m1 z1; replace z1 := Lib.hid z1)
    | (with_reducible refine wpList_ran (o := ⟨some 1, .build 142 _, _, _, _, _⟩) rfl (.agg (mixC 17 19 97 10).toArray) (exec_mix rfl rfl rfl rfl rfl) ?_)
    | (with_reducible refine wpList_storesAll (o := ⟨none, .store 142 (.tmp 0) (.tmp 1), _, _, _, _⟩) rfl 142 (.tmp 0) (.tmp 1) rfl rfl w.heap.size (mixC 17 19 97 10) rfl (.agg (mixC 17 19 97 10).toArray) rfl rfl 142 _ hb1 (mix_len _ _ _ _) (mixC_one _ _ _ _) (mix_size _ _ _ _) ?_; intro w2 hb2 m2 z2; replace z2 := Lib.hid z2))
  refine bodyPost_ret (results_cell_row rfl _ _ w.heap.size 142 _ (0, 0) _ rfl hb2 Tryd.underlying142 rfl size217) rfl ?_
  exact ⟨rfl, m1.trans m2 (by intro i hi h; simp at h; omega)⟩
set_option maxRecDepth 100000 in
theorem small0_c (w : World) : Calls Tryd.prog 94 #[] w fun e w' => e = .returned (.agg (mixC 7 18 97 3).toArray) ∧ Mod [] w w' := by
  go_enter Tryd.func94, Tryd.ntmps94
  go_wp2_with (first
    | (with_reducible refine wpList_allocs (o := ⟨some 0, .alloc 142, _, _, _, _⟩) rfl 142 rfl _ zero217 ?_; intro w1 hb1 m1 z1; replace z1 := Lib.hid z1)
    | (with_reducible refine wpList_ran (o := ⟨some 1, .build 142 _, _, _, _, _⟩) rfl (.agg (mixC 7 18 97 3).toArray) (exec_mix rfl rfl rfl rfl rfl) ?_)
    | (with_reducible refine wpList_storesAll (o := ⟨none, .store 142 (.tmp 0) (.tmp 1), _, _, _, _⟩) rfl 142 (.tmp 0) (.tmp 1) rfl rfl w.heap.size (mixC 7 18 97 3) rfl (.agg (mixC 7 18 97 3).toArray) rfl rfl 142 _ hb1 (mix_len _ _ _ _) (mixC_one _ _ _ _) (mix_size _ _ _ _) ?_; intro w2 hb2 m2 z2; replace z2 := Lib.hid z2))
  refine bodyPost_ret (results_cell_row rfl _ _ w.heap.size 142 _ (0, 0) _ rfl hb2 Tryd.underlying142 rfl size217) rfl ?_
  exact ⟨rfl, m1.trans m2 (by intro i hi h; simp at h; omega)⟩
set_option maxRecDepth 100000 in
set_option maxHeartbeats 400000 in
theorem of_rot (x : UInt32) (a b c : Nat) (ha : 0 < a) (ha' : a < 32) (hb : 0 < b) (hb' : b < 32) (hc : 0 < c) (hc' : c < 32) (w : World) :
    Calls Tryd.prog 89 #[.agg (mixC a b 95 c).toArray, wd x] w fun e w' => e = .returned (wd (rot a x ^^^ rot b x ^^^ rot c x)) ∧ Mod [] w w' := by
  have hx := Lib.hid (show bits .xor .u32 (bits .xor .u32 ((rot a x).toNat : Int) ((rot b x).toNat : Int)) ((rot c x).toNat : Int) = ((rot a x ^^^ rot b x ^^^ rot c x).toNat : Int) from by rw [xor_wd, xor_wd])
  go_enter Tryd.func89, Tryd.ntmps89
  go_wp2_with (with_reducible refine wpList_boxes (o := ⟨some 2, .box 142 (.tmp 0), _, _, _, _⟩) rfl 142 (.tmp 0) rfl _ rfl (mixC a b 95 c) rfl ?_; intro w1 hb1 m1 z1; replace z1 := Lib.hid z1)
  have k0 := hb1.cell 0
  have k1 := hb1.cell 1
  have k2 := hb1.cell 2
  have k3 := hb1.cell 3
  simp only [mixC, List.getElem?_cons_succ, List.getElem?_cons_zero] at k0 k1 k2 k3
  clear hb1
  go_quiet ((first | (go_at_call 96; exact Calls.quiet_of_same (rotl_c x _ (by omega) (by omega) _)) | (go_at_call 95; exact Calls.quiet_of_same (turn_c x _ (by omega) (by omega) _))))
  go_wp2
  go_ret
  exact ⟨ret_int hx.out, m1.then (Mod.drewN [] _ _)⟩
set_option maxRecDepth 100000 in
set_option maxHeartbeats 400000 in
theorem of_psh (x : UInt32) (a b c : Nat) (ha : 0 < a) (ha' : a < 32) (hb : 0 < b) (hb' : b < 32) (hc' : c < 32) (w : World) :
    Calls Tryd.prog 89 #[.agg (mixC a b 97 c).toArray, wd x] w fun e w' => e = .returned (wd (rot a x ^^^ rot b x ^^^ psh c x)) ∧ Mod [] w w' := by
  have hx := Lib.hid (show bits .xor .u32 (bits .xor .u32 ((rot a x).toNat : Int) ((rot b x).toNat : Int)) ((psh c x).toNat : Int) = ((rot a x ^^^ rot b x ^^^ psh c x).toNat : Int) from by rw [xor_wd, xor_wd])
  go_enter Tryd.func89, Tryd.ntmps89
  go_wp2_with (with_reducible refine wpList_boxes (o := ⟨some 2, .box 142 (.tmp 0), _, _, _, _⟩) rfl 142 (.tmp 0) rfl _ rfl (mixC a b 97 c) rfl ?_; intro w1 hb1 m1 z1; replace z1 := Lib.hid z1)
  have k0 := hb1.cell 0
  have k1 := hb1.cell 1
  have k2 := hb1.cell 2
  have k3 := hb1.cell 3
  simp only [mixC, List.getElem?_cons_succ, List.getElem?_cons_zero] at k0 k1 k2 k3
  clear hb1
  go_quiet ((first | (go_at_call 96; exact Calls.quiet_of_same (rotl_c x _ (by omega) (by omega) _)) | (go_at_call 97; exact Calls.quiet_of_same (push_c x _ (by omega) _))))
  go_wp2
  go_ret
  exact ⟨ret_int hx.out, m1.then (Mod.drewN [] _ _)⟩
/-- What the four mixes give. -/
theorem big1_of (x : UInt32) (w : World) : Calls Tryd.prog 89 #[.agg (mixC 6 11 95 25).toArray, wd x] w fun e w' => e = .returned (wd (bg1 x)) ∧ Mod [] w w' := of_rot x 6 11 25 (by decide) (by decide) (by decide) (by decide) (by decide) (by decide) w
theorem big0_of (x : UInt32) (w : World) : Calls Tryd.prog 89 #[.agg (mixC 2 13 95 22).toArray, wd x] w fun e w' => e = .returned (wd (bg0 x)) ∧ Mod [] w w' := of_rot x 2 13 22 (by decide) (by decide) (by decide) (by decide) (by decide) (by decide) w
theorem small1_of (x : UInt32) (w : World) : Calls Tryd.prog 89 #[.agg (mixC 17 19 97 10).toArray, wd x] w fun e w' => e = .returned (wd (sm1 x)) ∧ Mod [] w w' := of_psh x 17 19 10 (by decide) (by decide) (by decide) (by decide) (by decide) w
theorem small0_of (x : UInt32) (w : World) : Calls Tryd.prog 89 #[.agg (mixC 7 18 97 3).toArray, wd x] w fun e w' => e = .returned (wd (sm0 x)) ∧ Mod [] w w' := of_psh x 7 18 3 (by decide) (by decide) (by decide) (by decide) (by decide) w
end Sh
end
section
namespace Sh
open Go.RowKit
/-- Ahead of step n there holds A; behind it B, and all is done. -/
def Sto (n : Nat) (A B : World → Prop) (l : Nat → Bool) (v : World) : Prop := (l n = false ∧ A v) ∨ (l n = true ∧ (∀ j, j < n → l j = true) ∧ B v)
theorem Sto.start {n : Nat} {A B : World → Prop} {v : World} (h : A v) : Sto n A B (fun _ => false) v := .inl ⟨rfl, h⟩
theorem Sto.now {n j : Nat} {A B : World → Prop} {l : Nat → Bool} {v : World} (h : Sto n A B l v) (hl : l j = false) (hj : j ≤ n) : l n = false ∧ A v := by
  rcases h with h | ⟨h1, h2, _⟩
  · exact h
  · exfalso
    rcases Nat.lt_or_ge j n with hlt | hge
    · rw [h2 j hlt] at hl; cases hl
    · obtain rfl : j = n := by omega
      rw [h1] at hl; cases hl
theorem Sto.keep {n j : Nat} {A B : World → Prop} {l : Nat → Bool} {v : World} (h : l n = false ∧ A v) (hj : j < n) {v' : World} (h' : A v') : Sto n A B (fun i => if i = j then true else l i) v' := by
  refine .inl ⟨?_, h'⟩
  show (if n = j then true else l n) = false
  rw [if_neg (by omega)]; exact h.1
theorem Sto.done {n : Nat} {A B : World → Prop} {l : Nat → Bool} (h : ∀ j, j < n → l j = true) {v' : World} (h' : B v') : Sto n A B (fun i => if i = n then true else l i) v' :=
  .inr ⟨by simp, fun j hj => by show (if j = n then true else l j) = true; rw [if_neg (by omega)]; exact h j hj, h'⟩
theorem Sto.fin {n m : Nat} {A B : World → Prop} {l : Nat → Bool} {v : World} (h : Sto n A B l v) (hl : ∀ j, j < m → l j = true) (hn : n < m) : B v := by
  rcases h with ⟨h, _⟩ | ⟨_, _, h⟩
  · rw [hl n hn] at h; cases h
  · exact h
/-! Rows of words. -/
theorem word_cell {v : World} {g : Nat} {t : TypeId} {L : List UInt32} (h : Holds v g t (L.map wd)) {i : Nat} (hi : i < L.length) : v.cell? ⟨g, 0 + i, none⟩ = some (wd (g0 L i)) := by
  rw [Nat.zero_add, h.cell i]
  simp [g0, hi]
theorem word_load {v : World} {g : Nat} {t : TypeId} {L : List UInt32} (h : Holds v g t (L.map wd)) {i : Nat} (hi : i < L.length) : (loadVar 36 ⟨g, 0 + i, none⟩).run Tryd.prog v = .ok (wd (g0 L i)) v :=
  run_load1 Tryd.underlying36 rfl (word_cell h hi)
theorem word_set {v : World} {g : Nat} {t : TypeId} {L : List UInt32} (h : Holds v g t (L.map wd)) (i : Nat) (y : UInt32) : Holds (v.setCell ⟨g, 0 + i, none⟩ (wd y)) g t ((L.set i y).map wd) := by
  have := h.set i (wd y)
  rw [Nat.zero_add, List.map_set]
  exact this
theorem g0_set (L : List UInt32) (i : Nat) (y : UInt32) (hi : i < L.length) : g0 (L.set i y) i = y := by simp [g0, hi]
theorem words_one (L : List UInt32) : ∀ v ∈ L.map wd, v.oneCell' = true := by
  intro v hv
  obtain ⟨x, _, rfl⟩ := List.mem_map.1 hv
  rfl
theorem info55 : (Tryd.prog.info? 36).map (·.size) = some 1 := by kernel_rfl
theorem it55 : ∃ it, Tryd.prog.info? 36 = some it ∧ it.size = 1 := by
  have h := info55
  cases hq : Tryd.prog.info? 36 with
  | none => rw [hq] at h; cases h
  | some it => exact ⟨it, rfl, by rw [hq] at h; simpa using h⟩
theorem exec_word {v : World} {o : Oper} {ρ : Operand → Value} {x y : Operand} {g i : Nat} {t : TypeId} {L : List UInt32} {z : UInt32} (ho : o.op = .store 36 x y) (hx : ρ x = .pointer (some ⟨g, 0 + i, none⟩)) (hy : ρ y = wd z) (h : Holds v g t (L.map wd)) (hi : i < L.length) :
    (execOp ρ o).run Tryd.prog v = .ok .skip (v.setCell ⟨g, 0 + i, none⟩ (wd z)) := by
  obtain ⟨it, h1, h2⟩ := it55
  exact exec_store1 ho hx hy rfl h1 h2 (word_cell h hi) (by rw [Nat.zero_add]; exact h.free i)
theorem and15 (n : Nat) (hn : n < 4294967296) : bits .and .i64 (n : Int) 15 = ((n % 16 : Nat) : Int) := by
  show IntKind.i64.wrap ((BitVec.ofInt 64 (n : Int) &&& BitVec.ofInt 64 ((15 : Nat) : Int)).toNat : Int) = _
  rw [ofInt_nat, ofInt_nat, BitVec.toNat_and, BitVec.toNat_ofNat, BitVec.toNat_ofNat, Nat.mod_eq_of_lt (by omega : n < 2 ^ 64)]
  rw [show (15 : Nat) % 2 ^ 64 = 2 ^ 4 - 1 from rfl, Nat.and_two_pow_sub_one_eq_mod]
  simp [IntKind.wrap, IntKind.bits, IntKind.signed]; omega
theorem sub_n (n k : Nat) (hk : k ≤ n) (hn : n < 4294967296) : IntKind.i64.wrap ((n : Int) - (k : Int)) = ((n - k : Nat) : Int) := by
  simp [IntKind.wrap, IntKind.bits, IntKind.signed]; omega
theorem _root_.Go.Proofs.YtcoedhemlghjoaaDoor.Mod.drewed {ms : List Nat} {w v : World} (h : Mod ms w.drew v) : Mod ms w v := ⟨h.os, h.tape, h.output, h.size, h.block⟩
end Sh
end
end Go.Proofs.YtcoedhemlghjoaaDoor
