/-
  Two closed facts of the program, which the kernel reckons once for all rows: how it was made.
-/
import Derived.Test.YtlocdkjnefmiaaaRows
import Derived.ProofKit
namespace Go.Proofs.Ytlocdkjnefmiaaa
set_option linter.unusedVariables false
set_option linter.unusedSimpArgs false
theorem make_ok : Try.prog.make = some Rows.lineNamesRow.make := by kernel_rfl
end Go.Proofs.Ytlocdkjnefmiaaa
