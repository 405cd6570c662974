/-
  Two keys of the tree of the seed 1, reckoned by the kernel. My own work.
-/
import Derived.Test.YtbacmeaeehhhfaaDoorMk
namespace Go.Proofs.YtbacmeaeehhhfaaDoor
set_option maxRecDepth 1000000 in
theorem mkey2 : kkey (klseed 2) = mK2 := by decide +kernel
set_option maxRecDepth 1000000 in
theorem mkey3 : kkey (klseed 3) = mK3 := by decide +kernel
end Go.Proofs.YtbacmeaeehhhfaaDoor
