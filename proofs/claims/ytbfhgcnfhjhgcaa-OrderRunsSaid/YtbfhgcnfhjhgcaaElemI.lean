/-
  Slices of numbers: their elements.
-/
import Derived.Test.YtbfhgcnfhjhgcaaGInts
import Derived.Test.YtbfhgcnfhjhgcaaGSep
namespace Go.Proofs.Ytbfhgcnfhjhgcaa
open Go.RowKit
theorem elemI : ElemOk Try.prog 35 3 1 8 := by
  obtain ⟨i, h1, h2, h3, h4⟩ := info_parts infoI
  exact ⟨Try.underlying35, i, _, h1, h2, h3, h4, rfl, by decide⟩
end Go.Proofs.Ytbfhgcnfhjhgcaa
