/-
  SHA-256 over rows of Nats, in a form that the kernel runs quickly, and that it is the digest. My own work.
-/
import Derived.Test.YtbacmeaeehhhfaaDoorB4
namespace Go.Proofs.YtbacmeaeehhhfaaDoor
open Go.RowKit
def Kc : List UInt32 := [1116352408, 1899447441, 3049323471, 3921009573, 961987163, 1508970993, 2453635748, 2870763221, 3624381080, 310598401, 607225278, 1426881987, 1925078388, 2162078206, 2614888103, 3248222580, 3835390401, 4022224774, 264347078, 604807628, 770255983, 1249150122, 1555081692, 1996064986, 2554220882, 2821834349, 2952996808, 3210313671, 3336571891, 3584528711, 113926993, 338241895, 666307205, 773529912, 1294757372, 1396182291, 1695183700, 1986661051, 2177026350, 2456956037, 2730485921, 2820302411, 3259730800, 3345764771, 3516065817, 3600352804, 4094571909, 275423344, 430227734, 506948616, 659060556, 883997877, 958139571, 1322822218, 1537002063, 1747873779, 1955562222, 2024104815, 2227730452, 2361852424, 2428436474, 2756734187, 3204031479, 3329325298]
def Sc : List UInt32 := [1779033703, 3144134277, 1013904242, 2773480762, 1359893119, 2600822924, 528734635, 1541459225]
theorem Kc_length : Kc.length = 64 := rfl
theorem Sc_length : Sc.length = 8 := rfl
/-! What the kernel runs: SHA-256 over rows of Nats. -/
noncomputable section
/-- Strict: x is reckoned before k goes on. -/
def force {α : Type} (x : Nat) (k : Nat → α) : α := Nat.rec (motive := fun _ => α) (k 0) (fun m _ => k m) (Nat.add x 1)
def kS0 (x : Nat) : Nat := (fun y => Nat.mod (Nat.xor (Nat.xor (Nat.shiftRight y 2) (Nat.shiftRight y 13)) (Nat.shiftRight y 22)) 4294967296) (Nat.mul x 4294967297)
def kS1 (x : Nat) : Nat := (fun y => Nat.mod (Nat.xor (Nat.xor (Nat.shiftRight y 6) (Nat.shiftRight y 11)) (Nat.shiftRight y 25)) 4294967296) (Nat.mul x 4294967297)
def ks0 (x : Nat) : Nat := (fun y => Nat.mod (Nat.xor (Nat.xor (Nat.shiftRight y 7) (Nat.shiftRight y 18)) (Nat.shiftRight x 3)) 4294967296) (Nat.mul x 4294967297)
def ks1 (x : Nat) : Nat := (fun y => Nat.mod (Nat.xor (Nat.xor (Nat.shiftRight y 17) (Nat.shiftRight y 19)) (Nat.shiftRight x 10)) 4294967296) (Nat.mul x 4294967297)
def kch (e f g : Nat) : Nat := Nat.xor g (Nat.land e (Nat.xor f g))
def kmj (a b c : Nat) : Nat := Nat.lor (Nat.land a b) (Nat.land c (Nat.lor a b))
def kgo {α : Type} (k : Nat → Nat → Nat → Nat → Nat → Nat → Nat → Nat → α) (l : List Nat) : Nat → Nat → Nat → Nat → Nat → Nat → Nat → Nat → Nat → Nat → Nat → Nat → Nat → Nat → Nat → Nat → Nat → Nat → Nat → Nat → Nat → Nat → Nat → Nat → α :=
  List.rec (motive := fun _ => Nat → Nat → Nat → Nat → Nat → Nat → Nat → Nat → Nat → Nat → Nat → Nat → Nat → Nat → Nat → Nat → Nat → Nat → Nat → Nat → Nat → Nat → Nat → Nat → α)
    (fun a b c d e f g h _ _ _ _ _ _ _ _ _ _ _ _ _ _ _ _ => k a b c d e f g h)
    (fun kc _ ih => fun a b c d e f g h w0 w1 w2 w3 w4 w5 w6 w7 w8 w9 w10 w11 w12 w13 w14 w15 =>
      force (Nat.add (Nat.add h (kS1 e)) (Nat.add (kch e f g) (Nat.add kc w0))) fun t =>
      force (Nat.mod (Nat.add (Nat.add t (kS0 a)) (kmj a b c)) 4294967296) fun a' =>
      force (Nat.mod (Nat.add d t) 4294967296) fun e' =>
      ih a' a b c e' e f g w1 w2 w3 w4 w5 w6 w7 w8 w9 w10 w11 w12 w13 w14 w15 (Nat.mod (Nat.add (Nat.add (ks1 w14) w9) (Nat.add (ks0 w1) w0)) 4294967296)) l
def Kn : List Nat := [1116352408, 1899447441, 3049323471, 3921009573, 961987163, 1508970993, 2453635748, 2870763221, 3624381080, 310598401, 607225278, 1426881987, 1925078388, 2162078206, 2614888103, 3248222580, 3835390401, 4022224774, 264347078, 604807628, 770255983, 1249150122, 1555081692, 1996064986, 2554220882, 2821834349, 2952996808, 3210313671, 3336571891, 3584528711, 113926993, 338241895, 666307205, 773529912, 1294757372, 1396182291, 1695183700, 1986661051, 2177026350, 2456956037, 2730485921, 2820302411, 3259730800, 3345764771, 3516065817, 3600352804, 4094571909, 275423344, 430227734, 506948616, 659060556, 883997877, 958139571, 1322822218, 1537002063, 1747873779, 1955562222, 2024104815, 2227730452, 2361852424, 2428436474, 2756734187, 3204031479, 3329325298]
def Sn : List Nat := [1779033703, 3144134277, 1013904242, 2773480762, 1359893119, 2600822924, 528734635, 1541459225]
/-- Eight numbers behind a block. -/
def kblk : List Nat → List Nat → List Nat
  | [h0, h1, h2, h3, h4, h5, h6, h7], [w0, w1, w2, w3, w4, w5, w6, w7, w8, w9, w10, w11, w12, w13, w14, w15] =>
    kgo (fun a b c d e f g h =>
      force (Nat.mod (Nat.add h0 a) 4294967296) fun a => force (Nat.mod (Nat.add h1 b) 4294967296) fun b => force (Nat.mod (Nat.add h2 c) 4294967296) fun c => force (Nat.mod (Nat.add h3 d) 4294967296) fun d =>
      force (Nat.mod (Nat.add h4 e) 4294967296) fun e => force (Nat.mod (Nat.add h5 f) 4294967296) fun f => force (Nat.mod (Nat.add h6 g) 4294967296) fun g => force (Nat.mod (Nat.add h7 h) 4294967296) fun h => [a, b, c, d, e, f, g, h]) Kn
      h0 h1 h2 h3 h4 h5 h6 h7 w0 w1 w2 w3 w4 w5 w6 w7 w8 w9 w10 w11 w12 w13 w14 w15
  | h, _ => h
def kwords : Nat → List Nat → List Nat
  | 0, _ => []
  | n + 1, l => match l with
    | a :: b :: c :: d :: r => (((a * 256 + b) * 256 + c) * 256 + d) :: kwords n r
    | _ => []
def kbeh : Nat → List Nat → List Nat → List Nat
  | 0, h, _ => h
  | n + 1, h, l => kbeh n (kblk h (kwords 16 l)) (l.drop 64)
def khi (x w : Nat) : List Nat := (List.range w).map fun k => x / 256 ^ (w - 1 - k) % 256
def kpad (l : List Nat) : List Nat := l ++ 128 :: (List.replicate ((l.length % 64 + 72) / 64 * 64 - l.length % 64 - 9) 0 ++ khi (8 * l.length) 8)
def kfour (x : Nat) : List Nat := [x / 16777216 % 256, x / 65536 % 256, x / 256 % 256, x % 256]
def kdig (l : List Nat) : List Nat := (kbeh ((kpad l).length / 64) Sn (kpad l)).flatMap kfour
def kstep (i n : Nat) (x : List Nat) : List Nat := kdig (67 :: i :: n :: x)
def kwalk (i : Nat) : Nat → Nat → List Nat → List Nat
  | 0, _, x => x
  | k + 1, n, x => kwalk i k (n + 1) (kstep i n x)
def kend (i : Nat) (s : List Nat) : List Nat := kwalk i 15 0 (kdig (83 :: i :: s))
def kends (s : List Nat) : Nat → Nat → List Nat
  | 0, _ => []
  | n + 1, i => kend i s ++ kends s n (i + 1)
def kkey (s : List Nat) : List Nat := kdig (75 :: kends s 67 0)
end
/-! It is the digest. -/
theorem force_eq {α : Type} (x : Nat) (k : Nat → α) : force x k = k x := rfl
theorem dbl (x n : Nat) (hn : n ≤ 32) : Nat.mod (Nat.shiftRight (Nat.mul x 4294967297) n) 4294967296 = rotN n x % 4294967296 := by
  have e : (4294967296 : Nat) = 2 ^ n * 2 ^ (32 - n) := by rw [← Nat.pow_add, show n + (32 - n) = 32 by omega]
  show ((x * 4294967297) >>> n) % 4294967296 = _
  rw [Nat.shiftRight_eq_div_pow]
  have h1 : x * 4294967297 = x + 2 ^ n * (2 ^ (32 - n) * x) := by rw [← Nat.mul_assoc, ← e]; omega
  rw [h1, Nat.add_mul_div_left _ _ (Nat.two_pow_pos n)]
  unfold rotN
  have h2 : 2 ^ (32 - n) * x = x % 2 ^ n * 2 ^ (32 - n) + 4294967296 * (x / 2 ^ n) := by
    conv => lhs; rw [← Nat.mod_add_div x (2 ^ n)]
    rw [Nat.mul_add, Nat.mul_comm (2 ^ (32 - n)) (x % 2 ^ n), e]
    congr 1
    rw [← Nat.mul_assoc, Nat.mul_comm (2 ^ (32 - n))]
  rw [h2, ← Nat.add_assoc, Nat.add_mul_mod_self_left]
theorem dbl_rot (x : UInt32) (n : Nat) (hn : n ≤ 32) : Nat.mod (Nat.shiftRight (Nat.mul x.toNat 4294967297) n) 4294967296 = (rot n x).toNat := by
  rw [dbl _ _ hn, rot_toNat n hn, Nat.mod_eq_of_lt (rotN_lt n _ hn (u32_lt x))]
theorem xor3 (a b c : Nat) : Nat.mod (Nat.xor (Nat.xor a b) c) 4294967296 = ((Nat.mod a 4294967296) ^^^ (Nat.mod b 4294967296)) ^^^ (Nat.mod c 4294967296) := by
  show ((a ^^^ b) ^^^ c) % 2 ^ 32 = _
  rw [Nat.xor_mod_two_pow, Nat.xor_mod_two_pow]; rfl
theorem kS0_eq (x : UInt32) : kS0 x.toNat = (bg0 x).toNat := by
  unfold kS0 bg0
  dsimp only
  rw [xor3, dbl_rot _ _ (by decide), dbl_rot _ _ (by decide), dbl_rot _ _ (by decide), UInt32.toNat_xor, UInt32.toNat_xor]
theorem kS1_eq (x : UInt32) : kS1 x.toNat = (bg1 x).toNat := by
  unfold kS1 bg1
  dsimp only
  rw [xor3, dbl_rot _ _ (by decide), dbl_rot _ _ (by decide), dbl_rot _ _ (by decide), UInt32.toNat_xor, UInt32.toNat_xor]
theorem psh_eq (x : UInt32) (n : Nat) : Nat.mod (Nat.shiftRight x.toNat n) 4294967296 = (psh n x).toNat := by
  show (x.toNat >>> n) % 4294967296 = _
  rw [psh_toNat, Nat.shiftRight_eq_div_pow, Nat.mod_eq_of_lt]
  exact Nat.lt_of_le_of_lt (Nat.div_le_self _ _) (u32_lt x)
theorem ks0_eq (x : UInt32) : ks0 x.toNat = (sm0 x).toNat := by
  unfold ks0 sm0
  dsimp only
  rw [xor3, dbl_rot _ _ (by decide), dbl_rot _ _ (by decide), psh_eq, UInt32.toNat_xor, UInt32.toNat_xor]
theorem ks1_eq (x : UInt32) : ks1 x.toNat = (sm1 x).toNat := by
  unfold ks1 sm1
  dsimp only
  rw [xor3, dbl_rot _ _ (by decide), dbl_rot _ _ (by decide), psh_eq, UInt32.toNat_xor, UInt32.toNat_xor]
theorem pck_other (e f g : UInt32) : pck e f g = g ^^^ (e &&& (f ^^^ g)) := by
  unfold pck
  apply UInt32.toBitVec_inj.1
  simp only [UInt32.toBitVec_or, UInt32.toBitVec_and, UInt32.toBitVec_xor, UInt32.toBitVec_not]
  ext i hi
  simp only [BitVec.getElem_or, BitVec.getElem_and, BitVec.getElem_xor, BitVec.getElem_not]
  cases e.toBitVec[i] <;> cases f.toBitVec[i] <;> cases g.toBitVec[i] <;> rfl
theorem mst_k (a b c : UInt32) : mst a b c = (a &&& b) ||| (c &&& (a ||| b)) := by
  unfold mst
  apply UInt32.toBitVec_inj.1
  simp only [UInt32.toBitVec_or, UInt32.toBitVec_and]
  ext i hi
  simp only [BitVec.getElem_or, BitVec.getElem_and]
  cases a.toBitVec[i] <;> cases b.toBitVec[i] <;> cases c.toBitVec[i] <;> rfl
theorem kch_eq (e f g : UInt32) : kch e.toNat f.toNat g.toNat = (pck e f g).toNat := by
  rw [pck_other, UInt32.toNat_xor, UInt32.toNat_and, UInt32.toNat_xor]; rfl
theorem kmj_eq (a b c : UInt32) : kmj a.toNat b.toNat c.toNat = (mst a b c).toNat := by
  rw [mst_k, UInt32.toNat_or, UInt32.toNat_and, UInt32.toNat_and, UInt32.toNat_or]; rfl
/-- The same with words. -/
def rgo : List UInt32 → List UInt32 → List UInt32 → List UInt32
  | [], r, _ => r
  | c :: cs, r, v => rgo cs (step1 r (c + g0 v 0)) (v.tail ++ [nxt v])
theorem kgo_cons {α : Type} (k : Nat → Nat → Nat → Nat → Nat → Nat → Nat → Nat → α) (kc : Nat) (cs : List Nat) (a b c d e f g h w0 w1 w2 w3 w4 w5 w6 w7 w8 w9 w10 w11 w12 w13 w14 w15 : Nat) :
    kgo k (kc :: cs) a b c d e f g h w0 w1 w2 w3 w4 w5 w6 w7 w8 w9 w10 w11 w12 w13 w14 w15 =
      force (Nat.add (Nat.add h (kS1 e)) (Nat.add (kch e f g) (Nat.add kc w0))) fun t =>
      force (Nat.mod (Nat.add (Nat.add t (kS0 a)) (kmj a b c)) 4294967296) fun a' =>
      force (Nat.mod (Nat.add d t) 4294967296) fun e' =>
      kgo k cs a' a b c e' e f g w1 w2 w3 w4 w5 w6 w7 w8 w9 w10 w11 w12 w13 w14 w15 (Nat.mod (Nat.add (Nat.add (ks1 w14) w9) (Nat.add (ks0 w1) w0)) 4294967296) := rfl
theorem kgo_eq {α : Type} (k : Nat → Nat → Nat → Nat → Nat → Nat → Nat → Nat → α) (K : List UInt32 → α)
    (hk : ∀ a b c d e f g h : UInt32, k a.toNat b.toNat c.toNat d.toNat e.toNat f.toNat g.toNat h.toNat = K [a, b, c, d, e, f, g, h]) (cs : List UInt32) :
    ∀ a b c d e f g h w0 w1 w2 w3 w4 w5 w6 w7 w8 w9 w10 w11 w12 w13 w14 w15 : UInt32,
    kgo k (cs.map UInt32.toNat) a.toNat b.toNat c.toNat d.toNat e.toNat f.toNat g.toNat h.toNat w0.toNat w1.toNat w2.toNat w3.toNat w4.toNat w5.toNat w6.toNat w7.toNat w8.toNat w9.toNat w10.toNat w11.toNat w12.toNat w13.toNat w14.toNat w15.toNat
      = K (rgo cs [a, b, c, d, e, f, g, h] [w0, w1, w2, w3, w4, w5, w6, w7, w8, w9, w10, w11, w12, w13, w14, w15]) := by
  induction cs with
  | nil => intros; exact hk _ _ _ _ _ _ _ _
  | cons kc cs ih =>
    intro a b c d e f g h w0 w1 w2 w3 w4 w5 w6 w7 w8 w9 w10 w11 w12 w13 w14 w15
    obtain ⟨s, hs⟩ : ∃ s : UInt32, s = h + bg1 e + pck e f g + (kc + w0) := ⟨_, rfl⟩
    have e1 : Nat.mod (Nat.add (Nat.add (Nat.add (Nat.add h.toNat (kS1 e.toNat)) (Nat.add (kch e.toNat f.toNat g.toNat) (Nat.add kc.toNat w0.toNat))) (kS0 a.toNat)) (kmj a.toNat b.toNat c.toNat)) 4294967296 = (s + bg0 a + mst a b c).toNat := by
      rw [kS1_eq, kch_eq, kS0_eq, kmj_eq, hs]
      simp only [UInt32.toNat_add]
      show (_ + _) % 4294967296 = _
      simp only [Nat.add_eq]
      omega
    have e2 : Nat.mod (Nat.add d.toNat (Nat.add (Nat.add h.toNat (kS1 e.toNat)) (Nat.add (kch e.toNat f.toNat g.toNat) (Nat.add kc.toNat w0.toNat)))) 4294967296 = (d + s).toNat := by
      rw [kS1_eq, kch_eq, hs]
      simp only [UInt32.toNat_add]
      show (_ + _) % 4294967296 = _
      simp only [Nat.add_eq]
      omega
    have e3 : Nat.mod (Nat.add (Nat.add (ks1 w14.toNat) w9.toNat) (Nat.add (ks0 w1.toNat) w0.toNat)) 4294967296 = (sm1 w14 + w9 + sm0 w1 + w0).toNat := by
      rw [ks1_eq, ks0_eq]
      simp only [UInt32.toNat_add]
      show (_ + _) % 4294967296 = _
      simp only [Nat.add_eq]
      omega
    rw [List.map_cons, kgo_cons, force_eq, force_eq, force_eq, e1, e2, e3, ih]
    congr 1
    subst hs
    simp only [rgo, step1, g0, nxt, List.length_cons, List.length_nil, List.getD_cons_zero, List.getD_cons_succ, List.tail_cons, List.cons_append, List.nil_append]
    rfl
theorem g0_drop (l : List UInt32) (t i : Nat) : g0 (l.drop t) i = g0 l (t + i) := by simp [g0, List.getD_eq_getElem?_getD]
theorem nxt_drop (l : List UInt32) (t : Nat) (h : 16 + t ≤ l.length) : nxt (l.drop t) = nxt l := by
  unfold nxt
  rw [List.length_drop, g0_drop, g0_drop, g0_drop, g0_drop, show t + (l.length - t - 2) = l.length - 2 by omega, show t + (l.length - t - 7) = l.length - 7 by omega, show t + (l.length - t - 15) = l.length - 15 by omega, show t + (l.length - t - 16) = l.length - 16 by omega]
theorem rgo_eq (f : List UInt32) (hf : f.length = 16) (cs : List UInt32) : ∀ (r : List UInt32) (t : Nat), rgo cs r ((more f t).drop t) = steps r (List.zipWith (· + ·) cs ((more f (t + cs.length)).drop t)) := by
  induction cs with
  | nil => intros; rfl
  | cons c cs ih =>
    intro r t
    have hl : (more f t).length = 16 + t := by rw [more_length, hf]
    have e1 : ((more f t).drop t).tail ++ [nxt ((more f t).drop t)] = (more f (t + 1)).drop (t + 1) := by
      simp only [more]
      rw [nxt_drop _ _ (by omega), List.tail_drop, List.drop_append_of_le_length (by omega)]
    have hlen : t < (more f (t + (c :: cs).length)).length := by rw [more_length, hf]; omega
    have e2 : (more f (t + (c :: cs).length)).drop t = g0 ((more f t).drop t) 0 :: (more f (t + 1 + cs.length)).drop (t + 1) := by
      rw [List.drop_eq_getElem_cons hlen]
      congr 1
      · rw [g0_drop]
        have := more_keep f t (c :: cs).length t (by omega)
        rw [List.getElem?_eq_getElem hlen] at this
        simp only [g0, List.getD_eq_getElem?_getD, Nat.add_zero, ← this, Option.getD_some]
      · rw [List.length_cons, show t + (cs.length + 1) = t + 1 + cs.length by omega]
    rw [e2]
    simp only [rgo, List.zipWith_cons_cons, steps]
    rw [e1, ih]
theorem sums_64 (c f : List UInt32) (hc : c.length = 64) (hf : f.length = 16) : List.zipWith (· + ·) c ((more f (0 + c.length)).drop 0) = sums c f := by
  unfold sums
  rw [List.drop_zero, hc]
  apply List.ext_getElem?
  intro i
  rw [List.getElem?_zipWith, List.getElem?_zipWith]
  by_cases hi : i < 64
  · rw [more_keep f 48 16 i (by omega)]
  · rw [List.getElem?_eq_none (by omega)]
theorem Kn_eq : Kn = Kc.map UInt32.toNat := by decide +kernel
theorem Sn_eq : Sn = Sc.map UInt32.toNat := by decide +kernel
theorem kblk_eq (h f : List UInt32) (hh : h.length = 8) (hf : f.length = 16) : kblk (h.map UInt32.toNat) (f.map UInt32.toNat) = (blkN Kc h f).map UInt32.toNat := by
  have R := rgo_eq f hf Kc h 0
  rw [sums_64 Kc f Kc_length hf] at R
  unfold blkN
  rw [← R]
  clear R
  rw [List.drop_zero, more]
  match h, hh, f, hf with
  | [h0, h1, h2, h3, h4, h5, h6, h7], _, [w0, w1, w2, w3, w4, w5, w6, w7, w8, w9, w10, w11, w12, w13, w14, w15], _ =>
    have := kgo_eq (fun a b c d e f g h =>
      force (Nat.mod (Nat.add h0.toNat a) 4294967296) fun a => force (Nat.mod (Nat.add h1.toNat b) 4294967296) fun b => force (Nat.mod (Nat.add h2.toNat c) 4294967296) fun c => force (Nat.mod (Nat.add h3.toNat d) 4294967296) fun d =>
      force (Nat.mod (Nat.add h4.toNat e) 4294967296) fun e => force (Nat.mod (Nat.add h5.toNat f) 4294967296) fun f => force (Nat.mod (Nat.add h6.toNat g) 4294967296) fun g => force (Nat.mod (Nat.add h7.toNat h) 4294967296) fun h => [a, b, c, d, e, f, g, h])
      (fun l => (List.zipWith (· + ·) [h0, h1, h2, h3, h4, h5, h6, h7] l).map UInt32.toNat)
      (fun a b c d e f g h => by
        simp only [force_eq, List.zipWith_cons_cons, List.zipWith_nil_left, List.map_cons, List.map_nil, UInt32.toNat_add]
        rfl) Kc h0 h1 h2 h3 h4 h5 h6 h7 w0 w1 w2 w3 w4 w5 w6 w7 w8 w9 w10 w11 w12 w13 w14 w15
    rw [← Kn_eq] at this
    exact this
theorem wordAt_succ (l : List UInt8) (t : Nat) : wordAt l (t + 1) = wordAt (l.drop 4) t := by
  unfold wordAt
  rw [List.drop_drop, show 4 * (t + 1) = 4 + 4 * t by omega]
theorem kwords_eq (n : Nat) : ∀ (l : List UInt8), 4 * n ≤ l.length → kwords n (l.map UInt8.toNat) = ((List.range n).map (wordAt l)).map UInt32.toNat := by
  induction n with
  | zero => intros; rfl
  | succ n ih =>
    intro l hl
    match l, hl with
    | a :: b :: c :: d :: r, hl =>
      rw [List.range_succ_eq_map]
      simp only [List.map_cons, kwords, List.map_map]
      rw [ih r (by simp at hl; omega)]
      congr 1
      · show _ = (wordAt (a :: b :: c :: d :: r) 0).toNat
        have hb := be_lt [a, b, c, d]
        have e : be [a, b, c, d] = ((a.toNat * 256 + b.toNat) * 256 + c.toNat) * 256 + d.toNat := by simp [be]
        unfold wordAt
        rw [show ((a :: b :: c :: d :: r).drop (4 * 0)).take 4 = [a, b, c, d] from rfl, UInt32.toNat_ofNat', Nat.mod_eq_of_lt (by simpa using hb), e]
      · rw [List.map_map]
        apply List.map_congr_left
        intro t _
        show _ = (wordAt (a :: b :: c :: d :: r) (t + 1)).toNat
        rw [wordAt_succ]; rfl
    | [], hl => simp at hl
    | [_], hl => simp at hl; omega
    | [_, _], hl => simp at hl; omega
    | [_, _, _], hl => simp at hl; omega
theorem first16_take (l : List UInt8) : first16 (l.take 64) = (List.range 16).map (wordAt l) := by
  unfold first16
  apply List.map_congr_left
  intro t ht
  have ht := List.mem_range.1 ht
  unfold wordAt
  rw [List.drop_take, List.take_take, Nat.min_eq_left (by omega)]
theorem kfirst_eq (l : List UInt8) (h : 64 ≤ l.length) : kwords 16 (l.map UInt8.toNat) = (first16 (l.take 64)).map UInt32.toNat := by
  rw [kwords_eq 16 l (by omega), first16_take]
theorem beh_front (c h : List UInt32) (l : List UInt8) (k : Nat) : beh c h l (k + 1) = beh c (blkN c h (first16 (l.take 64))) (l.drop 64) k := by
  induction k with
  | zero => simp [beh]
  | succ k ih =>
    rw [beh, ih]
    conv => rhs; rw [beh]
    rw [List.drop_drop, show (k + 1) * 64 = 64 + k * 64 by omega]
theorem kbeh_eq (k : Nat) : ∀ (h : List UInt32) (l : List UInt8), h.length = 8 → k * 64 ≤ l.length → kbeh k (h.map UInt32.toNat) (l.map UInt8.toNat) = (beh Kc h l k).map UInt32.toNat := by
  induction k with
  | zero => intros; rfl
  | succ k ih =>
    intro h l hh hl
    rw [kbeh, kfirst_eq l (by omega), kblk_eq h _ hh (first16_length _), ← List.map_drop, ih _ _ (blkN_length _ _ _ hh) (by rw [List.length_drop]; omega), beh_front]
theorem beh_more (c h : List UInt32) (l r : List UInt8) (k : Nat) (hl : k * 64 ≤ l.length) : beh c h (l ++ r) k = beh c h l k := by
  induction k with
  | zero => rfl
  | succ k ih =>
    rw [beh, beh, ih (by omega), List.drop_append_of_le_length (by omega), List.take_append_of_le_length (by rw [List.length_drop]; omega)]
theorem beh_then (c h : List UInt32) (l : List UInt8) (j k : Nat) : beh c h l (j + k) = beh c (beh c h l j) (l.drop (j * 64)) k := by
  induction k with
  | zero => rfl
  | succ k ih => rw [← Nat.add_assoc, beh, beh, ih, List.drop_drop, show (j + k) * 64 = j * 64 + k * 64 by omega]
/-- All bytes of a digest, filled up. -/
def padB (bb : List UInt8) : List UInt8 := bb.take (wholeN bb.length) ++ tailN bb
theorem sum2_all (c s : List UInt32) (bb : List UInt8) : sum2 c s bb = beh c s (padB bb) ((padB bb).length / 64) := by
  have hw : wholeN bb.length ≤ bb.length := by unfold wholeN; omega
  have ht : (bb.take (wholeN bb.length)).length = bb.length / 64 * 64 := by rw [List.length_take, Nat.min_eq_left hw]; rfl
  have hl : (padB bb).length / 64 = bb.length / 64 + (tailN bb).length / 64 := by
    unfold padB
    rw [List.length_append, ht]; omega
  rw [hl, beh_then]
  unfold sum2 sum1
  rw [ht, Nat.mul_div_cancel _ (by decide)]
  congr 1
  · unfold padB
    rw [beh_more _ _ _ _ _ (by omega)]
  · unfold padB
    rw [List.drop_append, List.drop_eq_nil_of_le (by omega), ht, Nat.sub_self]; rfl
theorem khi_eq (x w : Nat) : khi x w = (hi x w).map UInt8.toNat := by
  unfold khi hi
  rw [List.map_map]
  apply List.map_congr_left
  intro k _
  show _ = (UInt8.ofNat _).toNat
  rw [UInt8.toNat_ofNat']
theorem kpad_eq (bb : List UInt8) (hb : 8 * bb.length < 18446744073709551616) : kpad (bb.map UInt8.toNat) = (padB bb).map UInt8.toNat := by
  have hw : wholeN bb.length ≤ bb.length := by unfold wholeN; omega
  unfold padB tailN fillN kpad len8
  rw [Nat.mod_eq_of_lt hb, khi_eq, List.length_map, List.length_drop, ← List.append_assoc, ← List.append_assoc, ← List.append_assoc, List.take_append_drop]
  simp only [List.map_append, List.append_assoc, List.map_cons, List.map_replicate, List.cons_append, List.nil_append]
  have e : bb.length - wholeN bb.length = bb.length % 64 := by unfold wholeN; omega
  rw [e]
  rfl
theorem kfour_eq (x : UInt32) : kfour x.toNat = (hi x.toNat 4).map UInt8.toNat := by
  unfold kfour hi
  simp only [List.range_succ, List.range_zero, List.nil_append, List.cons_append, List.map_cons, List.map_nil, UInt8.toNat_ofNat']
  simp
/-- The digest of bytes. -/
def dig (bb : List UInt8) : List UInt8 := octs (sum2 Kc Sc bb)
theorem dig_length (bb : List UInt8) : (dig bb).length = 32 := by
  unfold dig
  rw [octs_length, sum2_all, beh_length _ _ _ Sc_length]
theorem kdig_eq (bb : List UInt8) (hb : 8 * bb.length < 18446744073709551616) : kdig (bb.map UInt8.toNat) = (dig bb).map UInt8.toNat := by
  unfold kdig dig
  rw [kpad_eq bb hb, List.length_map, Sn_eq, kbeh_eq _ _ _ Sc_length (Nat.div_mul_le_self _ _), sum2_all]
  unfold octs
  rw [List.flatMap_map, List.map_flatMap]
  congr 1
  funext x
  exact kfour_eq x
end Go.Proofs.YtbacmeaeehhhfaaDoor
