/-
  PermGoes: the walk, whole. My own work.
-/
import Derived.Test.YtaadmpainikfpaaGka
import Derived.Test.YtaadmpainikfpaaGkb
import Derived.Test.YtaadmpainikfpaaGkc
import Derived.Test.YtaadmpainikfpaaGkd
namespace Go.Proofs.Ytaadmpainikfpaa
open Go.RowKit Go.Shelf
theorem permGoes_w {W : World} {A B : Option Addr} {n c nb cb : Nat} {m : List (Int × Int)} (hA : ActR W A n ∧ n ≤ c ∧ c ≤ maxLen) (hm : BelR W B nb cb m) (own0 : Int) : Calls Try.prog 5 #[ci own0, .slice A n c, .slice B nb cb] W fun e w' => e = .returned (.bool true) ∧ Mod [] W w' :=
  goesP.all ⟨goes_k2⟩ ⟨goes_k4⟩ ⟨goes_k5⟩ ⟨goes_no⟩ W own0 A n c hA.1 hA.2.1 hA.2.2 B nb cb m hm
end Go.Proofs.Ytaadmpainikfpaa
