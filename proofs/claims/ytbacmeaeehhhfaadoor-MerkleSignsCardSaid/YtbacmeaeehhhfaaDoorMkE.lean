/-
  What another digest leads to, reckoned by the kernel: not the root. My own work.
-/
import Derived.Test.YtbacmeaeehhhfaaDoorMk
namespace Go.Proofs.YtbacmeaeehhhfaaDoor
set_option maxRecDepth 1000000 in
theorem mrec : krec (klseed 5) mD2 mD3 = mR := by decide +kernel
set_option maxRecDepth 1000000 in
theorem mroot_ne : kjoin (kjoin (kjoin mK0 mK1) (kjoin mK2 mK3)) (kjoin (kjoin mK4 mR) (kjoin mK6 mK7)) ≠ kjoin (kjoin (kjoin mK0 mK1) (kjoin mK2 mK3)) (kjoin (kjoin mK4 mK5) (kjoin mK6 mK7)) := by decide +kernel
end Go.Proofs.YtbacmeaeehhhfaaDoor
