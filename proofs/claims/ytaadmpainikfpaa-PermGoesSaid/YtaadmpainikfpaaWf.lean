/-
  Permissions as they are read; Check, the document's Right. My own work.
-/
import Derived.Test.YtaadmpainikfpaaWe
namespace Go.Proofs.Ytaadmpainikfpaa
open Go.RowKit Go.Shelf
attribute [local go_sem] Oper.semAt_some
set_option linter.unusedVariables false
set_option linter.unusedSimpArgs false

theorem upTo_and (x m : Int) : (decide (1 ≤ x) && decide (x ≤ m)) = upTo x m := rfl
theorem right_split (o e : Int) (l1 l2 l3 : List Int) : (Pm.mk o e l1 l2 l3).rightB = (upTo o 6 && (upTo e 8 && (riseB l1 6 && (riseB l2 6 && (riseB l3 3 && (!l1.contains o && (l2.all fun x => l1.contains x))))))) := by
  simp only [Pm.rightB, upTo, Bool.and_assoc]
set_option maxHeartbeats 4000000 in
theorem check_c (o e : Int) (A1 A2 A3 : Option Addr) (n1 c1 n2 c2 n3 c3 : Nat) (l1 l2 l3 : List Int) (b : Bool) (w : World) (h1 : RI w A1 n1 c1 l1) (h2 : RI w A2 n2 c2 l2) (h3 : RI w A3 n3 c3 l3) (hb : Hid ((Pm.mk o e l1 l2 l3).rightB = b)) :
    Calls Try.prog 15 #[.agg #[ci o, ci e, .slice A1 n1 c1, .slice A2 n2 c2, .slice A3 n3 c3]] w fun r w' => r = .returned (.int .i64 (if b = true then 0 else 210)) ∧ Mod [] w w' := by
  have hr := hb.out
  rw [right_split] at hr
  clear hb
  have H1 := Lib.hid h1
  have H2 := Lib.hid h2
  have H3 := Lib.hid h3
  clear h1 h2 h3
  obtain ⟨b1, hb1⟩ : ∃ x, upTo o 6 = x := ⟨_, rfl⟩
  obtain ⟨b2, hb2⟩ : ∃ x, upTo e 8 = x := ⟨_, rfl⟩
  obtain ⟨b3, hb3⟩ : ∃ x, riseB l1 6 = x := ⟨_, rfl⟩
  obtain ⟨b4, hb4⟩ : ∃ x, riseB l2 6 = x := ⟨_, rfl⟩
  obtain ⟨b5, hb5⟩ : ∃ x, riseB l3 3 = x := ⟨_, rfl⟩
  obtain ⟨b6, hb6⟩ : ∃ x, l1.contains o = x := ⟨_, rfl⟩
  obtain ⟨b7, hb7⟩ : ∃ x, (l2.all fun x => l1.contains x) = x := ⟨_, rfl⟩
  rw [hb1, hb2, hb3, hb4, hb5, hb6, hb7] at hr
  have B1 := Lib.hid hb1
  have B2 := Lib.hid hb2
  have B3 := Lib.hid hb3
  have B4 := Lib.hid hb4
  have B5 := Lib.hid hb5
  have B6 := Lib.hid hb6
  have B7 := Lib.hid hb7
  clear hb1 hb2 hb3 hb4 hb5 hb6 hb7
  cases b1
  case false =>
    obtain rfl : false = b := by rw [← hr]; rfl
    clear hr
    go_enter Try.func15, Try.ntmps15
    go_wp2_with (first
      | (go_at_call 30; refine (isUser_c o _ B1 _).mono ?_; rintro r w' ⟨rfl, rfl⟩)
      | (go_at_call 31; refine (isUpTo_c e 8 _ B2 _).mono ?_; rintro r w' ⟨rfl, rfl⟩)
      | (go_at_call 32; with_reducible refine (rise_c A1 n1 c1 l1 6 _ _ (H1.out.call (Mod.alloc [] w _)) B3).mono ?_; rintro r w' ⟨rfl, rfl⟩)
      | (go_at_call 32; with_reducible refine (rise_c A2 n2 c2 l2 6 _ _ (H2.out.call (Mod.alloc [] w _)) B4).mono ?_; rintro r w' ⟨rfl, rfl⟩)
      | (go_at_call 32; with_reducible refine (rise_c A3 n3 c3 l3 3 _ _ (H3.out.call (Mod.alloc [] w _)) B5).mono ?_; rintro r w' ⟨rfl, rfl⟩)
      | (go_at_call 33; refine (contains_c A1 n1 c1 l1 o _ _ (H1.out.call (Mod.alloc [] w _)) B6).mono ?_; rintro r w' ⟨rfl, rfl⟩)
      | (go_at_call 34; refine (hasAll_c A1 A2 n1 c1 n2 c2 l1 l2 _ _ (H1.out.call (Mod.alloc [] w _)) (H2.out.call (Mod.alloc [] w _)) B7).mono ?_; rintro r w' ⟨rfl, rfl⟩))
    go_ret
    exact ⟨rfl, Mod.alloc [] w _⟩
  case true =>
  cases b2
  case false =>
    obtain rfl : false = b := by rw [← hr]; rfl
    clear hr
    go_enter Try.func15, Try.ntmps15
    go_wp2_with (first
      | (go_at_call 30; refine (isUser_c o _ B1 _).mono ?_; rintro r w' ⟨rfl, rfl⟩)
      | (go_at_call 31; refine (isUpTo_c e 8 _ B2 _).mono ?_; rintro r w' ⟨rfl, rfl⟩)
      | (go_at_call 32; with_reducible refine (rise_c A1 n1 c1 l1 6 _ _ (H1.out.call (Mod.alloc [] w _)) B3).mono ?_; rintro r w' ⟨rfl, rfl⟩)
      | (go_at_call 32; with_reducible refine (rise_c A2 n2 c2 l2 6 _ _ (H2.out.call (Mod.alloc [] w _)) B4).mono ?_; rintro r w' ⟨rfl, rfl⟩)
      | (go_at_call 32; with_reducible refine (rise_c A3 n3 c3 l3 3 _ _ (H3.out.call (Mod.alloc [] w _)) B5).mono ?_; rintro r w' ⟨rfl, rfl⟩)
      | (go_at_call 33; refine (contains_c A1 n1 c1 l1 o _ _ (H1.out.call (Mod.alloc [] w _)) B6).mono ?_; rintro r w' ⟨rfl, rfl⟩)
      | (go_at_call 34; refine (hasAll_c A1 A2 n1 c1 n2 c2 l1 l2 _ _ (H1.out.call (Mod.alloc [] w _)) (H2.out.call (Mod.alloc [] w _)) B7).mono ?_; rintro r w' ⟨rfl, rfl⟩))
    go_ret
    exact ⟨rfl, Mod.alloc [] w _⟩
  case true =>
  cases b3
  case false =>
    obtain rfl : false = b := by rw [← hr]; rfl
    clear hr
    go_enter Try.func15, Try.ntmps15
    go_wp2_with (first
      | (go_at_call 30; refine (isUser_c o _ B1 _).mono ?_; rintro r w' ⟨rfl, rfl⟩)
      | (go_at_call 31; refine (isUpTo_c e 8 _ B2 _).mono ?_; rintro r w' ⟨rfl, rfl⟩)
      | (go_at_call 32; with_reducible refine (rise_c A1 n1 c1 l1 6 _ _ (H1.out.call (Mod.alloc [] w _)) B3).mono ?_; rintro r w' ⟨rfl, rfl⟩)
      | (go_at_call 32; with_reducible refine (rise_c A2 n2 c2 l2 6 _ _ (H2.out.call (Mod.alloc [] w _)) B4).mono ?_; rintro r w' ⟨rfl, rfl⟩)
      | (go_at_call 32; with_reducible refine (rise_c A3 n3 c3 l3 3 _ _ (H3.out.call (Mod.alloc [] w _)) B5).mono ?_; rintro r w' ⟨rfl, rfl⟩)
      | (go_at_call 33; refine (contains_c A1 n1 c1 l1 o _ _ (H1.out.call (Mod.alloc [] w _)) B6).mono ?_; rintro r w' ⟨rfl, rfl⟩)
      | (go_at_call 34; refine (hasAll_c A1 A2 n1 c1 n2 c2 l1 l2 _ _ (H1.out.call (Mod.alloc [] w _)) (H2.out.call (Mod.alloc [] w _)) B7).mono ?_; rintro r w' ⟨rfl, rfl⟩))
    go_ret
    exact ⟨rfl, Mod.alloc [] w _⟩
  case true =>
  cases b4
  case false =>
    obtain rfl : false = b := by rw [← hr]; rfl
    clear hr
    go_enter Try.func15, Try.ntmps15
    go_wp2_with (first
      | (go_at_call 30; refine (isUser_c o _ B1 _).mono ?_; rintro r w' ⟨rfl, rfl⟩)
      | (go_at_call 31; refine (isUpTo_c e 8 _ B2 _).mono ?_; rintro r w' ⟨rfl, rfl⟩)
      | (go_at_call 32; with_reducible refine (rise_c A1 n1 c1 l1 6 _ _ (H1.out.call (Mod.alloc [] w _)) B3).mono ?_; rintro r w' ⟨rfl, rfl⟩)
      | (go_at_call 32; with_reducible refine (rise_c A2 n2 c2 l2 6 _ _ (H2.out.call (Mod.alloc [] w _)) B4).mono ?_; rintro r w' ⟨rfl, rfl⟩)
      | (go_at_call 32; with_reducible refine (rise_c A3 n3 c3 l3 3 _ _ (H3.out.call (Mod.alloc [] w _)) B5).mono ?_; rintro r w' ⟨rfl, rfl⟩)
      | (go_at_call 33; refine (contains_c A1 n1 c1 l1 o _ _ (H1.out.call (Mod.alloc [] w _)) B6).mono ?_; rintro r w' ⟨rfl, rfl⟩)
      | (go_at_call 34; refine (hasAll_c A1 A2 n1 c1 n2 c2 l1 l2 _ _ (H1.out.call (Mod.alloc [] w _)) (H2.out.call (Mod.alloc [] w _)) B7).mono ?_; rintro r w' ⟨rfl, rfl⟩))
    go_ret
    exact ⟨rfl, Mod.alloc [] w _⟩
  case true =>
  cases b5
  case false =>
    obtain rfl : false = b := by rw [← hr]; rfl
    clear hr
    go_enter Try.func15, Try.ntmps15
    go_wp2_with (first
      | (go_at_call 30; refine (isUser_c o _ B1 _).mono ?_; rintro r w' ⟨rfl, rfl⟩)
      | (go_at_call 31; refine (isUpTo_c e 8 _ B2 _).mono ?_; rintro r w' ⟨rfl, rfl⟩)
      | (go_at_call 32; with_reducible refine (rise_c A1 n1 c1 l1 6 _ _ (H1.out.call (Mod.alloc [] w _)) B3).mono ?_; rintro r w' ⟨rfl, rfl⟩)
      | (go_at_call 32; with_reducible refine (rise_c A2 n2 c2 l2 6 _ _ (H2.out.call (Mod.alloc [] w _)) B4).mono ?_; rintro r w' ⟨rfl, rfl⟩)
      | (go_at_call 32; with_reducible refine (rise_c A3 n3 c3 l3 3 _ _ (H3.out.call (Mod.alloc [] w _)) B5).mono ?_; rintro r w' ⟨rfl, rfl⟩)
      | (go_at_call 33; refine (contains_c A1 n1 c1 l1 o _ _ (H1.out.call (Mod.alloc [] w _)) B6).mono ?_; rintro r w' ⟨rfl, rfl⟩)
      | (go_at_call 34; refine (hasAll_c A1 A2 n1 c1 n2 c2 l1 l2 _ _ (H1.out.call (Mod.alloc [] w _)) (H2.out.call (Mod.alloc [] w _)) B7).mono ?_; rintro r w' ⟨rfl, rfl⟩))
    go_ret
    exact ⟨rfl, Mod.alloc [] w _⟩
  case true =>
  cases b6
  case true =>
    obtain rfl : false = b := by rw [← hr]; rfl
    clear hr
    go_enter Try.func15, Try.ntmps15
    go_wp2_with (first
      | (go_at_call 30; refine (isUser_c o _ B1 _).mono ?_; rintro r w' ⟨rfl, rfl⟩)
      | (go_at_call 31; refine (isUpTo_c e 8 _ B2 _).mono ?_; rintro r w' ⟨rfl, rfl⟩)
      | (go_at_call 32; with_reducible refine (rise_c A1 n1 c1 l1 6 _ _ (H1.out.call (Mod.alloc [] w _)) B3).mono ?_; rintro r w' ⟨rfl, rfl⟩)
      | (go_at_call 32; with_reducible refine (rise_c A2 n2 c2 l2 6 _ _ (H2.out.call (Mod.alloc [] w _)) B4).mono ?_; rintro r w' ⟨rfl, rfl⟩)
      | (go_at_call 32; with_reducible refine (rise_c A3 n3 c3 l3 3 _ _ (H3.out.call (Mod.alloc [] w _)) B5).mono ?_; rintro r w' ⟨rfl, rfl⟩)
      | (go_at_call 33; refine (contains_c A1 n1 c1 l1 o _ _ (H1.out.call (Mod.alloc [] w _)) B6).mono ?_; rintro r w' ⟨rfl, rfl⟩)
      | (go_at_call 34; refine (hasAll_c A1 A2 n1 c1 n2 c2 l1 l2 _ _ (H1.out.call (Mod.alloc [] w _)) (H2.out.call (Mod.alloc [] w _)) B7).mono ?_; rintro r w' ⟨rfl, rfl⟩))
    go_ret
    exact ⟨rfl, Mod.alloc [] w _⟩
  case false =>
  cases b7
  case false =>
    obtain rfl : false = b := by rw [← hr]; rfl
    clear hr
    go_enter Try.func15, Try.ntmps15
    go_wp2_with (first
      | (go_at_call 30; refine (isUser_c o _ B1 _).mono ?_; rintro r w' ⟨rfl, rfl⟩)
      | (go_at_call 31; refine (isUpTo_c e 8 _ B2 _).mono ?_; rintro r w' ⟨rfl, rfl⟩)
      | (go_at_call 32; with_reducible refine (rise_c A1 n1 c1 l1 6 _ _ (H1.out.call (Mod.alloc [] w _)) B3).mono ?_; rintro r w' ⟨rfl, rfl⟩)
      | (go_at_call 32; with_reducible refine (rise_c A2 n2 c2 l2 6 _ _ (H2.out.call (Mod.alloc [] w _)) B4).mono ?_; rintro r w' ⟨rfl, rfl⟩)
      | (go_at_call 32; with_reducible refine (rise_c A3 n3 c3 l3 3 _ _ (H3.out.call (Mod.alloc [] w _)) B5).mono ?_; rintro r w' ⟨rfl, rfl⟩)
      | (go_at_call 33; refine (contains_c A1 n1 c1 l1 o _ _ (H1.out.call (Mod.alloc [] w _)) B6).mono ?_; rintro r w' ⟨rfl, rfl⟩)
      | (go_at_call 34; refine (hasAll_c A1 A2 n1 c1 n2 c2 l1 l2 _ _ (H1.out.call (Mod.alloc [] w _)) (H2.out.call (Mod.alloc [] w _)) B7).mono ?_; rintro r w' ⟨rfl, rfl⟩))
    go_ret
    exact ⟨rfl, Mod.alloc [] w _⟩
  case true =>
  obtain rfl : true = b := by rw [← hr]; rfl
  clear hr
  go_enter Try.func15, Try.ntmps15
  go_wp2_with (first
    | (go_at_call 30; refine (isUser_c o _ B1 _).mono ?_; rintro r w' ⟨rfl, rfl⟩)
    | (go_at_call 31; refine (isUpTo_c e 8 _ B2 _).mono ?_; rintro r w' ⟨rfl, rfl⟩)
    | (go_at_call 32; with_reducible refine (rise_c A1 n1 c1 l1 6 _ _ (H1.out.call (Mod.alloc [] w _)) B3).mono ?_; rintro r w' ⟨rfl, rfl⟩)
    | (go_at_call 32; with_reducible refine (rise_c A2 n2 c2 l2 6 _ _ (H2.out.call (Mod.alloc [] w _)) B4).mono ?_; rintro r w' ⟨rfl, rfl⟩)
    | (go_at_call 32; with_reducible refine (rise_c A3 n3 c3 l3 3 _ _ (H3.out.call (Mod.alloc [] w _)) B5).mono ?_; rintro r w' ⟨rfl, rfl⟩)
    | (go_at_call 33; refine (contains_c A1 n1 c1 l1 o _ _ (H1.out.call (Mod.alloc [] w _)) B6).mono ?_; rintro r w' ⟨rfl, rfl⟩)
    | (go_at_call 34; refine (hasAll_c A1 A2 n1 c1 n2 c2 l1 l2 _ _ (H1.out.call (Mod.alloc [] w _)) (H2.out.call (Mod.alloc [] w _)) B7).mono ?_; rintro r w' ⟨rfl, rfl⟩))
  go_ret
  exact ⟨rfl, Mod.alloc [] w _⟩
theorem rightR_split (o e : Int) (l1 l2 l3 : List Int) : (Pm.mk o e l1 l2 l3).rightR = (upTo o 6 && (upTo e 8 && (riseN l1 6 o && (riseN l2 6 o && (riseN l3 3 0 && (l2.all fun x => l1.contains x)))))) := by
  simp only [Pm.rightR, upTo, Bool.and_assoc]
end Go.Proofs.Ytaadmpainikfpaa
