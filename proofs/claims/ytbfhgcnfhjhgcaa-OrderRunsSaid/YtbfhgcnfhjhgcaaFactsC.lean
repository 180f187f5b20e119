/-
  Two closed facts of the program, which the kernel reckons once for all rows: how it was made.
-/
import Derived.Test.YtbfhgcnfhjhgcaaRows
import Derived.ProofKit
namespace Go.Proofs.Ytbfhgcnfhjhgcaa
set_option linter.unusedVariables false
set_option linter.unusedSimpArgs false
theorem make_ok : Try.prog.make = some Rows.orderWordsRow.make := by kernel_rfl
end Go.Proofs.Ytbfhgcnfhjhgcaa
