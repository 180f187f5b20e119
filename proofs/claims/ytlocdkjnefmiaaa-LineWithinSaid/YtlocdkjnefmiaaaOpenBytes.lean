/-
  A slice of bytes among the arguments of a law, opened.
-/
import Derived.Test.YtlocdkjnefmiaaaFile
import Derived.Test.YtlocdkjnefmiaaaGOpen
import Derived.SizedLaws
namespace Go.Proofs.Ytlocdkjnefmiaaa
open Go.ChangeShapes Go.WideShapes Go.ChangeAt Go.RowKit
set_option linter.unusedVariables false
set_option linter.unusedSimpArgs false

theorem cells_byte : Try.prog.cellsOf 5 = 1 := by kernel_rfl
theorem bytes_byte : Try.prog.bytesOf 5 = 1 := by kernel_rfl
set_option maxRecDepth 100000 in
theorem open_bytesl {H : Type} {enc : TypeId × Value → H} {W : World} {b0 : Nat} {r : Go.Reach} {spare : Nat → Bool} {held : Bool} {v : Value} {d : DataW H} {p : List MemPlace}
    (hv : Value.okWide Try.prog W r b0 56 v) (h : DataW.Trod enc Try.prog W 0 spare held 56 v d p) :
    ∃ a cap ws, v = .slice a ws.length cap ∧ BytesAt W a ws ∧ bytesOk ws ∧ (ws.length = 0 ∨ ∃ rest, d = .slice (lits .u8 ws) rest) := by
  obtain ⟨a0, len, cap, rfl⟩ := okWide_slice Try.underlying56 hv
  obtain ⟨fuel, hf⟩ := h
  rcases open_ints Try.underlying56 Try.underlying5 cells_byte hf with ⟨hcs, hx⟩ | ⟨a, len', cap', zs, hcs, _, hl, hm, hz, hx, hcell, hwz⟩
  · simp [Value.cells] at hcs
    obtain ⟨rfl, rfl, rfl⟩ := hcs
    exact ⟨none, 0, [], rfl, fun j hj => by simp at hj, fun x hx => by simp at hx, .inl rfl⟩
  · simp [Value.cells] at hcs
    obtain ⟨rfl, rfl, rfl⟩ := hcs
    simp only [Prod.mk.injEq] at hx
    obtain ⟨rfl, rfl⟩ := hx
    have hlz : len ≤ zs.length := by rw [hz]; split <;> omega
    have e : (zs.take len).length = len := by simp; omega
    refine ⟨some a, cap, zs.take len, by rw [e], fun j hj => ?_, fun x hx => bounds_u8 (hwz x (List.mem_of_mem_take hx)), .inr ⟨_, rfl⟩⟩
    rw [e] at hj
    obtain ⟨b, off, rfl, hc⟩ := ints_at hcell (by omega)
    refine ⟨b, off, rfl, (hc j (by omega)).trans ?_⟩
    rw [List.getElem?_take_of_lt hj, List.getD_eq_getElem?_getD]
set_option maxRecDepth 100000 in
theorem open_bytesl_len {H : Type} {ts : List TypeId} {ds : List (DataW H)} {d : DataW H} {ws : List Int} {j : Nat} (hsz : (DataW.weightsEach Try.prog ts ds).all (· ≤ reachBytes) = true) (ht : ts[j]? = some 56) (hd : ds[j]? = some d)
    (h : ws.length = 0 ∨ ∃ rest, d = .slice (lits .u8 ws) rest) : ws.length ≤ 140737488351232 := by
  rcases h with h | ⟨rest, rfl⟩
  · omega
  · have := sized_slice hsz (j := j) (t := 56) (e := 5) ht hd Try.underlying56
    rw [bytes_byte, show (lits (H := H) .u8 ws).length = ws.length by simp [lits]] at this
    simp only [reachBytes] at this
    omega
end Go.Proofs.Ytlocdkjnefmiaaa
