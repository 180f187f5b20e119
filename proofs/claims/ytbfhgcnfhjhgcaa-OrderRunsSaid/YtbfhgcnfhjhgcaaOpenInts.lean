/-
  A slice of numbers among the arguments of a law, opened.
-/
import Derived.Test.YtbfhgcnfhjhgcaaWords
import Derived.Test.YtbfhgcnfhjhgcaaGInts
import Derived.ProofKit
import Derived.OpenShut
import Derived.ChangeOld
import Derived.Below
import Derived.SizedLaws
namespace Go.Proofs.Ytbfhgcnfhjhgcaa
open Go.ChangeShapes Go.WideShapes Go.ChangeAt Go.RowKit
set_option linter.unusedVariables false
set_option linter.unusedSimpArgs false

theorem cells_int : Try.prog.cellsOf 3 = 1 := by kernel_rfl
theorem bytes_int : Try.prog.bytesOf 3 = 8 := by kernel_rfl
set_option maxRecDepth 100000 in
theorem open_intsl {H : Type} {enc : TypeId × Value → H} {W : World} {b0 : Nat} {r : Reach} {spare : Nat → Bool} {held : Bool} {v : Value} {d : DataW H} {p : List MemPlace}
    (hv : Value.okWide Try.prog W r b0 35 v) (h : DataW.Trod enc Try.prog W 0 spare held 35 v d p) :
    ∃ a cap ws, v = .slice a ws.length cap ∧ IntsAt W a ws ∧ (ws.length = 0 ∨ ∃ rest, d = .slice (lits .i64 ws) rest) := by
  obtain ⟨a0, len, cap, rfl⟩ := okWide_slice Try.underlying35 hv
  obtain ⟨fuel, hf⟩ := h
  rcases open_ints Try.underlying35 Try.underlying3 cells_int hf with ⟨hcs, hx⟩ | ⟨a, len', cap', zs, hcs, _, hl, hm, hz, hx, hcell, hwz⟩
  · simp [Value.cells] at hcs
    obtain ⟨rfl, rfl, rfl⟩ := hcs
    exact ⟨none, 0, [], rfl, fun j hj => by simp at hj, .inl rfl⟩
  · simp [Value.cells] at hcs
    obtain ⟨rfl, rfl, rfl⟩ := hcs
    simp only [Prod.mk.injEq] at hx
    obtain ⟨rfl, rfl⟩ := hx
    have hlz : len ≤ zs.length := by rw [hz]; split <;> omega
    have e : (zs.take len).length = len := by simp; omega
    refine ⟨some a, cap, zs.take len, by rw [e], fun j hj => ?_, .inr ⟨_, rfl⟩⟩
    rw [e] at hj
    obtain ⟨b, off, rfl, hc⟩ := ints_at hcell (by omega)
    refine ⟨b, off, rfl, (hc j (by omega)).trans ?_⟩
    rw [List.getElem?_take_of_lt hj, List.getD_eq_getElem?_getD]
theorem lits_length {H : Type} (k : IntKind) (xs : List Int) : (lits (H := H) k xs).length = xs.length := by simp [lits]
set_option maxRecDepth 100000 in
theorem open_intsl_len {H : Type} {ts : List TypeId} {ds : List (DataW H)} {d : DataW H} {ws : List Int} {j : Nat} (hsz : (DataW.weightsEach Try.prog ts ds).all (· ≤ reachBytes) = true) (ht : ts[j]? = some 35) (hd : ds[j]? = some d)
    (h : ws.length = 0 ∨ ∃ rest, d = .slice (lits .i64 ws) rest) : Len ws.length := by
  rcases h with h | ⟨rest, rfl⟩
  · omega
  · have := sized_slice hsz (j := j) (t := 35) (e := 3) ht hd Try.underlying35
    rw [bytes_int, lits_length] at this
    simp only [reachBytes] at this
    omega
end Go.Proofs.Ytbfhgcnfhjhgcaa
