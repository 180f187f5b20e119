/-
  Two closed facts of the program, which the kernel reckons once for all rows: whether it may be entered.
-/
import Derived.Test.YtbfhgcnfhjhgcaaRows
import Derived.ProofKit
namespace Go.Proofs.Ytbfhgcnfhjhgcaa
set_option linter.unusedVariables false
set_option linter.unusedSimpArgs false
theorem mayEnter_ok : Try.prog.mayEnter = true := by kernel_rfl
end Go.Proofs.Ytbfhgcnfhjhgcaa
