/-
  Two keys of the tree of the seed 1, reckoned by the kernel. My own work.
-/
import Derived.Test.YtbacmeaeehhhfaaDoorMk
namespace Go.Proofs.YtbacmeaeehhhfaaDoor
set_option maxRecDepth 1000000 in
theorem mkey6 : kkey (klseed 6) = mK6 := by decide +kernel
set_option maxRecDepth 1000000 in
theorem mkey7 : kkey (klseed 7) = mK7 := by decide +kernel
end Go.Proofs.YtbacmeaeehhhfaaDoor
