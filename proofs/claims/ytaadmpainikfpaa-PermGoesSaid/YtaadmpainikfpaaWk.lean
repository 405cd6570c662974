/-
  put, take, begin: what is turned in permissions of the call's own. My own work.
-/
import Derived.Test.YtaadmpainikfpaaWi
namespace Go.Proofs.Ytaadmpainikfpaa
open Go.RowKit Go.Shelf
attribute [local go_sem] Oper.semAt_some
set_option linter.unusedVariables false
set_option linter.unusedSimpArgs false
theorem Fm.perm {w0 w : World} {os os' ts : List Th} (F : Fm w0 w os ts) (h : os.Perm os') : Fm w0 w os' ts :=
  ⟨F.m, fun x hx => F.k x (hx.imp (fun hh => h.mem_iff.2 hh) id), fun x hx => F.lo x (h.mem_iff.2 hx), (h.pairwise_iff (fun {a b} hab g hg hg' => hab g hg' hg)).1 F.d, fun x hx => F.e x (h.mem_iff.2 hx)⟩
/-- A row of numbers of the call's own. -/
def oI (A : Option Addr) (c : Nat) (l : List Int) : Th := ((· ∈ blk A), fun w => OI w A c l)
theorem keeps_oI (A : Option Addr) (c : Nat) (l : List Int) : keeps (oI A c l) := fun w v ms m h hw => OwnG.keep hw m (fun a ha => h _ (by rw [ha]; exact blk_of))
theorem Fm.row {w0 w : World} {os ts : List Th} (F : Fm w0 w os ts) (j : Nat) {A : Option Addr} {c : Nat} {l : List Int} (hj : os[j]? = some (oI A c l)) : OI w A c l := F.o j hj
/-- A row that was turned, or laid anew. -/
theorem fm_rowTurn {w0 w v : World} {os ts : List Th} (F : Fm w0 w os ts) (j : Nat) {A A' : Option Addr} {c c' : Nat} {l l' : List Int} (hj : os[j]? = some (oI A c l)) (m : Mod (blk A) w v) (hO : OI v A' c' l') (hb : ∀ a, A' = some a → a.block ∈ blk A ∨ w.heap.size ≤ a.block) : Fm w0 v (os.set j (oI A' c' l')) ts :=
  F.turn m j hj (fun g hg => hg) _ (keeps_oI _ _ _) hO fun g hg => by
    obtain ⟨a, ha, hae⟩ := mem_blk hg
    subst hae
    exact ⟨hb a ha, hO.lt a ha⟩
theorem Fm.apart2 {w0 w : World} {os ts : List Th} (F : Fm w0 w os ts) {i j : Nat} (hij : i ≠ j) {x y : Th} (hi : os[i]? = some x) (hj : os[j]? = some y) : ∀ g, x.1 g → ¬ y.1 g := by
  obtain ⟨h1, e1⟩ := List.getElem?_eq_some_iff.1 hi
  obtain ⟨h2, e2⟩ := List.getElem?_eq_some_iff.1 hj
  intro g hg hg'
  rcases Nat.lt_or_gt_of_ne hij with h | h
  · exact List.pairwise_iff_getElem.1 F.d i j h1 h2 h g (e1 ▸ hg) (e2 ▸ hg')
  · exact List.pairwise_iff_getElem.1 F.d j i h2 h1 h g (e2 ▸ hg') (e1 ▸ hg)
theorem one3 : (Try.prog.info? 3).map (·.size) = some 1 := by kernel_rfl
theorem one22 : (Try.prog.info? 22).map (·.size) = some 1 := by kernel_rfl
def PutR (F0 : World) (os ts : List Th) (i j k b : Nat) (cs : List Value) (l' : List Int) (r : Bool) (e : Ending) (w' : World) : Prop :=
  e = .returned (.bool r) ∧ ∃ A' c', Fm F0 w' ((os.set j (oI A' c' l')).set i (oB b 24 (cs.set k (.slice A' l'.length c')))) ts
set_option maxHeartbeats 4000000 in
theorem put_c {w0 w : World} {os ts : List Th} (F : Fm w0 w os ts) (i j k b : Nat) (A : Option Addr) (c n : Nat) (l : List Int) (x : Int) (cs : List Value) (hij : i ≠ j) (hi : os[i]? = some (oB b 24 cs)) (hj : os[j]? = some (oI A c l)) (hk : cs[k]? = some (.slice A n c)) (hn : n = l.length) (hb : n ≤ 900) (hu : l.Pairwise (· < ·)) (u : Bool) (hu2 : Hid (l.contains x = u)) :
    Calls Try.prog 41 #[.pointer (some ⟨b, k, none⟩), ci x] w (PutR w0 os ts i j k b cs (ins l x) (!u)) := by
  have hO := F.row j hj
  have hB : Holds w b 24 cs := F.blk i hi
  have hri := hO.ri n hn
  obtain ⟨p, hp⟩ : ∃ p, ahead l x = p := ⟨_, rfl⟩
  have hpl := ahead_le l x
  rw [hp] at hpl
  have HP := Lib.hid hp
  have HI := Lib.hid hi
  have HJ := Lib.hid hj
  have HN := Lib.hid hn
  have HU := Lib.hid hu
  have HKS := Lib.hid hk
  have hkl : k < cs.length := (List.getElem?_eq_some_iff.1 hk).1
  have k0 : w.cell? ⟨b, k, none⟩ = some (.slice A n c) := (hB.cell k).trans hk
  have hbA : b ∉ blk A := fun h => F.apart2 hij hi hj b rfl h
  have HBA := Lib.hid hbA
  have hpn : p ≤ n := by omega
  have hlt : b < w.heap.size := hB.lt
  have HR := Lib.hid hri
  have HBH := Lib.hid hB
  clear hp hi hj hn hu hpl hbA hri hB hk
  cases u
  · go_enter Try.func41, Try.ntmps41
    go_wp2_with (first
      | (go_at_call 52; refine (bsearch_c A n c l x _ p _ HR.out HU.out (by omega) hu2 HP).mono ?_
         rintro e w1 ⟨rfl, q, hq⟩
         have m1 : Mod [] w w1 := hq ▸ Mod.drewN [] w q
         have F1 := F.call m1
         have k1 : w1.cell? ⟨b, k, none⟩ = some (.slice A n c) := ((F1.blk i HI.out).cell k).trans HKS.out
         clear hq k0)
      | (with_reducible refine wpList_ran_w (o := ⟨some 23, .buildSlice 22 1 #[(0, .tmp 22)], _, _, _, _⟩) rfl _ (exec_litI rfl rfl) ?_
         have m2 : Mod [] w1 (w1.alloc (.cells [ci x].toArray 3)) := Mod.alloc [] w1 _
         have F2 := F1.call m2
         have hne : w1.heap.size ∉ blk A := fun h => by
           obtain ⟨a, ha, hae⟩ := mem_blk h
           have := (F1.row j HJ.out).lt a ha
           omega
         have INS := insert_c A c n p l x w1.heap.size _ (F2.row j HJ.out) HN.out hpn (by omega) (Holds.made w1 3 [ci x]) hne
         clear m2 hne)
      | (go_at_call 53; refine INS.mono ?_
         rintro e w3 ⟨A', c', rfl, hO3, m3, hb3⟩
         have F3 := fm_rowTurn F2 j HJ.out m3 hO3 hb3
         have hi3 : (os.set j (oI A' c' (l.take p ++ x :: l.drop p)))[i]? = some (oB b 24 cs) := by rw [List.getElem?_set_ne (fun h => hij h.symm)]; exact HI.out
         have HI3 := Lib.hid hi3
         clear INS m3 hO3 hb3 F2 hi3)
      | (with_reducible refine fm_store1 F3 i k HI3.out hkl 22 (.slice A' (n + 1) c') rfl one22 (o := ⟨none, .store 22 (.tmp 25) (.tmp 24), _, _, _, _⟩) rfl (.tmp 25) (.tmp 24) rfl rfl rfl rfl ?_; intro w4 F4; clear F3))
    go_ret
    refine ⟨rfl, A', c', ?_⟩
    have e1 : ins l x = l.take p ++ x :: l.drop p := by rw [ins, if_neg (by rw [hu2.out]; simp), HP.out]
    have e2 : (ins l x).length = n + 1 := by
      rw [e1, List.length_append, List.length_cons, List.length_take, List.length_drop]
      have := HN.out
      omega
    rw [e2, e1]
    exact F4
  · go_enter Try.func41, Try.ntmps41
    go_wp2_with (go_at_call 52; refine (bsearch_c A n c l x _ p _ HR.out HU.out (by omega) hu2 HP).mono ?_
                 rintro e w1 ⟨rfl, q, hq⟩
                 have m1 : Mod [] w w1 := hq ▸ Mod.drewN [] w q
                 have F1 := F.call m1
                 clear hq k0)
    go_ret
    refine ⟨rfl, A, c, ?_⟩
    have e1 : ins l x = l := by rw [ins, if_pos hu2.out]
    have e3 : cs.set k (.slice A l.length c) = cs := by
      rw [← HN.out]
      obtain ⟨h1, h2⟩ := List.getElem?_eq_some_iff.1 HKS.out
      rw [← h2, List.set_getElem_self]
    have e4 : os.set j (oI A c l) = os := by
      obtain ⟨h1, h2⟩ := List.getElem?_eq_some_iff.1 HJ.out
      rw [← h2, List.set_getElem_self]
    have e5 : os.set i (oB b 24 cs) = os := by
      obtain ⟨h1, h2⟩ := List.getElem?_eq_some_iff.1 HI.out
      rw [← h2, List.set_getElem_self]
    rw [e1, e3, e4, e5]
    exact F1
end Go.Proofs.Ytaadmpainikfpaa
