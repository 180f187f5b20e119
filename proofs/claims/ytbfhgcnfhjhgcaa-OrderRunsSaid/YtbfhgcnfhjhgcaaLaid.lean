/-
  A closed fact of the program, which the kernel reckons once for all rows: how its types are laid out.
-/
import Derived.Test.YtbfhgcnfhjhgcaaRows
import Derived.ProofKit
import Derived.OpenShut
import Derived.ChangeOld
import Derived.Below
namespace Go.Proofs.Ytbfhgcnfhjhgcaa
set_option linter.unusedVariables false
set_option linter.unusedSimpArgs false
theorem laidOut : laidOutB Try.prog = true := by kernel_rfl
end Go.Proofs.Ytbfhgcnfhjhgcaa
