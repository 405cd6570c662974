/-
  Two keys of the tree of the seed 1, reckoned by the kernel. My own work.
-/
import Derived.Test.YtbacmeaeehhhfaaDoorMk
namespace Go.Proofs.YtbacmeaeehhhfaaDoor
set_option maxRecDepth 1000000 in
theorem mkey4 : kkey (klseed 4) = mK4 := by decide +kernel
set_option maxRecDepth 1000000 in
theorem mkey5 : kkey (klseed 5) = mK5 := by decide +kernel
end Go.Proofs.YtbacmeaeehhhfaaDoor
