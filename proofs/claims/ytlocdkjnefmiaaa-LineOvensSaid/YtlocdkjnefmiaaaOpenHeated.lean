/-
  What LineOven, LineLonger and LineOvens are given: an oven, a span, whether it heats, minutes; three bytes. Opened; and how they lie.
-/
import Derived.Test.YtlocdkjnefmiaaaGOpen
import Derived.Test.YtlocdkjnefmiaaaOvenMain
namespace Go.Proofs.Ytlocdkjnefmiaaa
open Go.ChangeShapes Go.WideShapes Go.ChangeAt Go.RowKit
set_option linter.unusedVariables false
set_option linter.unusedSimpArgs false

abbrev heatV (o : Ov) (s : Int × Int) (h : Bool) (m : Int) : Value := .agg #[.int .i64 o.lo, .int .i64 o.hi, .int .i64 o.warm.1, .int .i64 o.warm.2, .int .i64 o.cool.1, .int .i64 o.cool.2, .int .i64 s.1, .int .i64 s.2, .bool h, .int .i64 m]
abbrev heatO (o : Ov) (s : Int × Int) (h : Bool) (m : Int) : Obj := .cells #[.int .i64 o.lo, .int .i64 o.hi, .int .i64 o.warm.1, .int .i64 o.warm.2, .int .i64 o.cool.1, .int .i64 o.cool.2, .int .i64 s.1, .int .i64 s.2, .bool h, .int .i64 m] 52
/-- It lies in block b, and may be written. -/
structure HeatAt (W : World) (b : Nat) (o : Ov) (s : Int × Int) (h : Bool) (m : Int) : Prop where
  c0 : Cel W b 0 (.int .i64 o.lo)
  c1 : Cel W b 1 (.int .i64 o.hi)
  c2 : Cel W b 2 (.int .i64 o.warm.1)
  c3 : Cel W b 3 (.int .i64 o.warm.2)
  c4 : Cel W b 4 (.int .i64 o.cool.1)
  c5 : Cel W b 5 (.int .i64 o.cool.2)
  c6 : Cel W b 6 (.int .i64 s.1)
  c7 : Cel W b 7 (.int .i64 s.2)
  c8 : Cel W b 8 (.bool h)
  c9 : Cel W b 9 (.int .i64 m)
theorem HeatAt.new (W : World) (o : Ov) (s : Int × Int) (h : Bool) (m : Int) : HeatAt (W.alloc (heatO o s h m)) W.heap.size o s h m :=
  ⟨Cel.new _ _ _ 0 _ rfl, Cel.new _ _ _ 1 _ rfl, Cel.new _ _ _ 2 _ rfl, Cel.new _ _ _ 3 _ rfl, Cel.new _ _ _ 4 _ rfl, Cel.new _ _ _ 5 _ rfl, Cel.new _ _ _ 6 _ rfl, Cel.new _ _ _ 7 _ rfl, Cel.new _ _ _ 8 _ rfl, Cel.new _ _ _ 9 _ rfl⟩
theorem HeatAt.call {W W' : World} {b : Nat} {o : Ov} {s : Int × Int} {h : Bool} {m : Int} (g : HeatAt W b o s h m) (hb : Below W.heap.size W W') : HeatAt W' b o s h m :=
  ⟨g.c0.call hb, g.c1.call hb, g.c2.call hb, g.c3.call hb, g.c4.call hb, g.c5.call hb, g.c6.call hb, g.c7.call hb, g.c8.call hb, g.c9.call hb⟩
theorem HeatAt.lt {W : World} {b : Nat} {o : Ov} {s : Int × Int} {h : Bool} {m : Int} (g : HeatAt W b o s h m) : b < W.heap.size := g.c0.lt

section
variable {H : Type} {enc : TypeId × Value → H} {w : World} {base b0 : Nat} {r : Go.Reach} {spare : Nat → Bool} {held : Bool} {v : Value} {d : DataW H} {p : List MemPlace}
theorem cells_span : Try.prog.cellsOf 31 = 2 := by kernel_rfl
theorem cells_bool : Try.prog.cellsOf 4 = 1 := by kernel_rfl
theorem cells_oven : Try.prog.cellsOf 50 = 6 := by kernel_rfl
theorem cells_heat : Try.prog.cellsOf 52 = 10 := by kernel_rfl
theorem cells_i : Try.prog.cellsOf 3 = 1 := by kernel_rfl
theorem cells_u8 : Try.prog.cellsOf 5 = 1 := by kernel_rfl
theorem cells_arr3 : Try.prog.cellsOf 72 = 3 := by kernel_rfl
theorem open_span {fuel : Nat} {v0 v1 : Value} {x : DataW H × List MemPlace} (h : DataW.trod enc Try.prog w base spare held fuel 31 [v0, v1] = some x) : ∃ a b : Int, v0 = .int .i64 a ∧ v1 = .int .i64 b := by
  obtain ⟨xs, n, _, hx, hl, hlen, hfs⟩ := DataW.trod_struct Try.underlying31 h
  have f0 := hfs 0 _ rfl
  have f1 := hfs 1 _ rfl
  clear hfs hx h
  match xs, hlen, f0, f1 with
  | [x0, x1], _, f0, f1 =>
    simp [cells_i] at f0 f1
    obtain ⟨a0, e0, _, _⟩ := DataW.trod_int Try.underlying3 f0
    obtain ⟨a1, e1, _, _⟩ := DataW.trod_int Try.underlying3 f1
    simp at e0 e1
    exact ⟨a0, a1, e0, e1⟩
theorem open_oven {fuel : Nat} {v0 v1 v2 v3 v4 v5 : Value} {x : DataW H × List MemPlace} (h : DataW.trod enc Try.prog w base spare held fuel 50 [v0, v1, v2, v3, v4, v5] = some x) :
    ∃ o : Ov, [v0, v1, v2, v3, v4, v5] = [.int .i64 o.lo, .int .i64 o.hi, .int .i64 o.warm.1, .int .i64 o.warm.2, .int .i64 o.cool.1, .int .i64 o.cool.2] := by
  obtain ⟨xs, n, _, hx, hl, hlen, hfs⟩ := DataW.trod_struct Try.underlying50 h
  have f0 := hfs 0 _ rfl
  have f1 := hfs 1 _ rfl
  have f2 := hfs 2 _ rfl
  have f3 := hfs 3 _ rfl
  clear hfs hx h
  match xs, hlen, f0, f1, f2, f3 with
  | [x0, x1, x2, x3], _, f0, f1, f2, f3 =>
    simp [cells_i, cells_span] at f0 f1 f2 f3
    obtain ⟨a0, e0, _, _⟩ := DataW.trod_int Try.underlying3 f0
    obtain ⟨a1, e1, _, _⟩ := DataW.trod_int Try.underlying3 f1
    obtain ⟨a2, a3, e2, e3⟩ := open_span f2
    obtain ⟨a4, a5, e4, e5⟩ := open_span f3
    simp at e0 e1
    exact ⟨⟨a0, a1, (a2, a3), (a4, a5)⟩, by rw [e0, e1, e2, e3, e4, e5]⟩
set_option maxRecDepth 100000 in
theorem open_heated (hv : Value.okWide Try.prog w r b0 52 v) (h : DataW.Trod enc Try.prog w base spare held 52 v d p) : ∃ (o : Ov) (s : Int × Int) (hh : Bool) (m : Int), v = heatV o s hh m := by
  obtain ⟨cs, rfl, hsz⟩ := okWide_struct Try.underlying52 hv
  rw [cells_heat] at hsz
  obtain ⟨fuel, hf⟩ := h
  obtain ⟨xs, n, _, hx, hl, hlen, hfs⟩ := DataW.trod_struct Try.underlying52 hf
  have f0 := hfs 0 _ rfl
  have f1 := hfs 1 _ rfl
  have f2 := hfs 2 _ rfl
  have f3 := hfs 3 _ rfl
  clear hfs hx hf
  obtain ⟨cs⟩ := cs
  match cs, hsz, xs, hlen, f0, f1, f2, f3 with
  | [v0, v1, v2, v3, v4, v5, v6, v7, v8, v9], _, [x0, x1, x2, x3], _, f0, f1, f2, f3 =>
    simp [Value.cells, cells_i, cells_span, cells_oven, cells_bool] at f0 f1 f2 f3
    obtain ⟨o, e0⟩ := open_oven f0
    obtain ⟨a6, a7, e6, e7⟩ := open_span f1
    obtain ⟨b8, e8, _⟩ := DataW.trod_bool Try.underlying4 f2
    obtain ⟨a9, e9, _, _⟩ := DataW.trod_int Try.underlying3 f3
    simp at e0 e8 e9
    obtain ⟨g0, g1, g2, g3, g4, g5⟩ := e0
    exact ⟨o, (a6, a7), b8, a9, by rw [g0, g1, g2, g3, g4, g5, e6, e7, e8, e9]⟩
theorem okWide_array {P : Program} {n : Nat} {e t : TypeId} (ht : P.underlying t = some (.array n e)) (h : Value.okWide P w r b0 t v) : ∃ cs, v = .agg cs ∧ cs.size = P.cellsOf t := by
  simp only [Value.okWide, ht] at h
  obtain ⟨cs, h1, h2, _⟩ := h
  exact ⟨cs, h1, h2⟩
set_option maxRecDepth 100000 in
theorem open_arr3 (hv : Value.okWide Try.prog w r b0 72 v) (h : DataW.Trod enc Try.prog w base spare held 72 v d p) : ∃ a b c : Int, v = .agg #[.int .u8 a, .int .u8 b, .int .u8 c] ∧ (0 ≤ a ∧ a ≤ 255) ∧ (0 ≤ b ∧ b ≤ 255) ∧ 0 ≤ c ∧ c ≤ 255 := by
  obtain ⟨cs, rfl, hsz⟩ := okWide_array Try.underlying72 hv
  rw [cells_arr3] at hsz
  obtain ⟨fuel, hf⟩ := h
  obtain ⟨xs, n, _, hx, hl, hlen, hfs⟩ := DataW.trod_array Try.underlying72 hf
  have f0 := hfs 0 (by omega)
  have f1 := hfs 1 (by omega)
  have f2 := hfs 2 (by omega)
  clear hfs hx hf
  obtain ⟨cs⟩ := cs
  match cs, hsz, xs, hlen, f0, f1, f2 with
  | [v0, v1, v2], _, [x0, x1, x2], _, f0, f1, f2 =>
    simp [Value.cells, cells_u8] at f0 f1 f2
    obtain ⟨a0, e0, _, g0⟩ := DataW.trod_int Try.underlying5 f0
    obtain ⟨a1, e1, _, g1⟩ := DataW.trod_int Try.underlying5 f1
    obtain ⟨a2, e2, _, g2⟩ := DataW.trod_int Try.underlying5 f2
    simp at e0 e1 e2
    exact ⟨a0, a1, a2, by rw [e0, e1, e2], bounds_u8 g0, bounds_u8 g1, bounds_u8 g2⟩
end
end Go.Proofs.Ytlocdkjnefmiaaa
