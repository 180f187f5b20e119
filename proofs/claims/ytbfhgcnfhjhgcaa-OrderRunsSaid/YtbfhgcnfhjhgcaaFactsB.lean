/-
  Two closed facts of the program, which the kernel reckons once for all rows: that nothing is lifted.
-/
import Derived.Test.YtbfhgcnfhjhgcaaRows
import Derived.ProofKit
namespace Go.Proofs.Ytbfhgcnfhjhgcaa
set_option linter.unusedVariables false
set_option linter.unusedSimpArgs false
theorem lifts_ok : Try.prog.liftsFinal = false := by kernel_rfl
end Go.Proofs.Ytbfhgcnfhjhgcaa
