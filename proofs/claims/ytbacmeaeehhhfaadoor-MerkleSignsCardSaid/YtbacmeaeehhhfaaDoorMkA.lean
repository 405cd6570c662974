/-
  Two keys of the tree of the seed 1, reckoned by the kernel. My own work.
-/
import Derived.Test.YtbacmeaeehhhfaaDoorMk
namespace Go.Proofs.YtbacmeaeehhhfaaDoor
set_option maxRecDepth 1000000 in
theorem mkey0 : kkey (klseed 0) = mK0 := by decide +kernel
set_option maxRecDepth 1000000 in
theorem mkey1 : kkey (klseed 1) = mK1 := by decide +kernel
end Go.Proofs.YtbacmeaeehhhfaaDoor
