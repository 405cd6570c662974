/-
  MerkleClimbs: the walk, from the arguments as they come in. My own work.
-/
import Derived.Test.YtbacmeaeehhhfaaDoorNh
namespace Go.Proofs.YtbacmeaeehhhfaaDoor
open Go.RowKit Go.Shelf
theorem climbs_w (A : Option Addr) (c : Nat) (ps : List Prf) (L1 L2 : List UInt8) (h1 : L1.length = 32) (h2 : L2.length = 32) (w : World) (RA : Cells w A (ps.flatMap pfc) ∧ ∀ r ∈ ps, r.ok w) (Gl : Glob w) :
    Calls Tryd.prog 4 #[.slice A ps.length c, .agg (L1.map oct).toArray, .agg (L2.map oct).toArray] w fun r w' => r = .returned (.bool true) ∧ Mod [] w w' :=
  climbs_c ⟨L1, h1⟩ ⟨L2, h2⟩ A c _ ps rfl w Gl RA.1 RA.2
end Go.Proofs.YtbacmeaeehhhfaaDoor
