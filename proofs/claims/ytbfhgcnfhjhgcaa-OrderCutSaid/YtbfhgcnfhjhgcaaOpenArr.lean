/-
  Small arrays of numbers among the arguments of a law, opened.
-/
import Derived.Test.YtbfhgcnfhjhgcaaOpenInts
namespace Go.Proofs.Ytbfhgcnfhjhgcaa
open Go.ChangeShapes Go.WideShapes Go.ChangeAt Go.RowKit
set_option linter.unusedVariables false
set_option linter.unusedSimpArgs false
section
variable {H : Type} {enc : TypeId × Value → H} {w : World} {base b0 : Nat} {r : Go.Reach} {spare : Nat → Bool} {held : Bool} {v : Value} {d : DataW H} {p : List MemPlace}
theorem cells_u8 : Try.prog.cellsOf 5 = 1 := by kernel_rfl
theorem cells_u16 : Try.prog.cellsOf 54 = 1 := by kernel_rfl
theorem cells_arr3 : Try.prog.cellsOf 59 = 3 := by kernel_rfl
theorem cells_arr2 : Try.prog.cellsOf 55 = 2 := by kernel_rfl
theorem okWide_array {P : Program} {n : Nat} {e t : TypeId} (ht : P.underlying t = some (.array n e)) (h : Value.okWide P w r b0 t v) : ∃ cs, v = .agg cs ∧ cs.size = P.cellsOf t := by
  simp only [Value.okWide, ht] at h
  obtain ⟨cs, h1, h2, _⟩ := h
  exact ⟨cs, h1, h2⟩
set_option maxRecDepth 100000 in
set_option maxRecDepth 100000 in
theorem open_arr3 (hv : Value.okWide Try.prog w r b0 59 v) (h : DataW.Trod enc Try.prog w base spare held 59 v d p) : ∃ a b c : Int, v = .agg #[.int .u8 a, .int .u8 b, .int .u8 c] ∧ (0 ≤ a ∧ a ≤ 255) ∧ (0 ≤ b ∧ b ≤ 255) ∧ 0 ≤ c ∧ c ≤ 255 := by
  obtain ⟨cs, rfl, hsz⟩ := okWide_array Try.underlying59 hv
  rw [cells_arr3] at hsz
  obtain ⟨fuel, hf⟩ := h
  obtain ⟨xs, n, _, hx, hl, hlen, hfs⟩ := DataW.trod_array Try.underlying59 hf
  have f0 := hfs 0 (by omega)
  have f1 := hfs 1 (by omega)
  have f2 := hfs 2 (by omega)
  clear hfs hx hf
  obtain ⟨cs⟩ := cs
  match cs, hsz, xs, hlen, f0, f1, f2 with
  | [v0, v1, v2], _, [x0, x1, x2], _, f0, f1, f2 =>
    simp [Value.cells, cells_u8] at f0 f1 f2
    obtain ⟨a0, e0, _, g0⟩ := DataW.trod_int Try.underlying5 f0
    obtain ⟨a1, e1, _, g1⟩ := DataW.trod_int Try.underlying5 f1
    obtain ⟨a2, e2, _, g2⟩ := DataW.trod_int Try.underlying5 f2
    simp at e0 e1 e2
    exact ⟨a0, a1, a2, by rw [e0, e1, e2], bounds_u8 g0, bounds_u8 g1, bounds_u8 g2⟩
set_option maxRecDepth 100000 in
theorem open_arr2 (hv : Value.okWide Try.prog w r b0 55 v) (h : DataW.Trod enc Try.prog w base spare held 55 v d p) : ∃ a b : Int, v = .agg #[.int .u16 a, .int .u16 b] ∧ (0 ≤ a ∧ a ≤ 65535) ∧ 0 ≤ b ∧ b ≤ 65535 := by
  obtain ⟨cs, rfl, hsz⟩ := okWide_array Try.underlying55 hv
  rw [cells_arr2] at hsz
  obtain ⟨fuel, hf⟩ := h
  obtain ⟨xs, n, _, hx, hl, hlen, hfs⟩ := DataW.trod_array Try.underlying55 hf
  have f0 := hfs 0 (by omega)
  have f1 := hfs 1 (by omega)
  clear hfs hx hf
  obtain ⟨cs⟩ := cs
  match cs, hsz, xs, hlen, f0, f1 with
  | [v0, v1], _, [x0, x1], _, f0, f1 =>
    simp [Value.cells, cells_u16] at f0 f1
    obtain ⟨a0, e0, _, g0⟩ := DataW.trod_int Try.underlying54 f0
    obtain ⟨a1, e1, _, g1⟩ := DataW.trod_int Try.underlying54 f1
    simp at e0 e1
    exact ⟨a0, a1, by rw [e0, e1], bounds_u16 g0, bounds_u16 g1⟩
end
end Go.Proofs.Ytbfhgcnfhjhgcaa
