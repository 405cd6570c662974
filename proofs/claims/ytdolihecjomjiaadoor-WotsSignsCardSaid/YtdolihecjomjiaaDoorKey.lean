/-
  The keys of the seeds 1 and 3, reckoned by the kernel: they differ. My own work.
-/
import Derived.Test.YtdolihecjomjiaaDoorKn
namespace Go.Proofs.YtdolihecjomjiaaDoor
set_option maxRecDepth 1000000 in
theorem kkey_ne : kkey (1 :: List.replicate 31 0) ≠ kkey (3 :: List.replicate 31 0) := by decide +kernel
end Go.Proofs.YtdolihecjomjiaaDoor
