/-
  The document's example, reckoned: the program P with its tape, run to its end.
-/
import Derived.Test.YtbfhgcnfhjhgcaaMach
import Derived.ProofKit
namespace Go.Proofs.Ytbfhgcnfhjhgcaa
set_option linter.unusedVariables false
set_option linter.unusedSimpArgs false
def stE : List Int := [12583560, 0, 0, 0, 0, 0, 0, 0, 10569226, 0, 4278016, 0, 14909453, 0, 0]
def sA : St := ⟨stE ++ List.replicate 113 0, [3, 4, 16777215], 0, [], 0, 0, 0, 0⟩
def sB : St := St.run 100 sA
def tC : List Stp := St.trace 3 sA
theorem sB_len : sB.store.length = 128 := by kernel_rfl
theorem sB_tape : sB.tape.length = 3 := by kernel_rfl
theorem sB_prn : sB.printed = [7] := by kernel_rfl
theorem sB_taken : sB.taken = 3 := by kernel_rfl
theorem sB_time : sB.time = 141 := by kernel_rfl
theorem sB_at : sB.at_ = 13 := by kernel_rfl
theorem sB_done : sB.done = 9 := by kernel_rfl
theorem sB_why : sB.why = 1 := by kernel_rfl
theorem sB_14 : sB.store[14]?.getD 0 = 7 := by kernel_rfl
theorem sB_5 : sB.store[5]?.getD 0 = 16777215 := by kernel_rfl
theorem tC_til : tC.map (·.til) = [8, 26, 48] := by kernel_rfl
theorem sA_ok : SOk sA := by
  refine ⟨⟨by kernel_rfl, by decide, by decide⟩, ?_, ?_, ?_, ?_, by decide⟩
  · intro x hx
    have : (sA.store.all fun x => decide (0 ≤ x ∧ x ≤ 16777215)) = true := by kernel_rfl
    have := List.all_eq_true.1 this x hx
    simpa using this
  · intro x hx
    have : (sA.tape.all fun x => decide (0 ≤ x ∧ x ≤ 16777215)) = true := by kernel_rfl
    have := List.all_eq_true.1 this x hx
    simpa using this
  · intro x hx; cases hx
  · decide
end Go.Proofs.Ytbfhgcnfhjhgcaa
