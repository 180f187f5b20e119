/-
  Small slices that a statement builds: their numbers.
-/
import Derived.Test.YtggkhddficmnfaaWords
import Derived.Test.YtggkhddficmnfaaCan
import Derived.Test.YtggkhddficmnfaaPassOut
namespace Go.Proofs.Ytggkhddficmnfaa
open Go.RowKit
set_option linter.unusedVariables false
set_option linter.unusedSimpArgs false

theorem ints1 (W : World) (x : Int) : IntsAt (W.alloc (.cells #[.int .i64 x] 3)) (some ⟨W.heap.size, 0, none⟩) [x] := fun j hj => by
  match j, hj with
  | 0, _ => exact ⟨_, 0, rfl, (Cel.new W #[.int .i64 x] 3 0 _ rfl).1⟩
theorem ints2 (W : World) (x y : Int) : IntsAt (W.alloc (.cells #[.int .i64 x, .int .i64 y] 3)) (some ⟨W.heap.size, 0, none⟩) [x, y] := fun j hj => by
  match j, hj with
  | 0, _ => exact ⟨_, 0, rfl, (Cel.new W #[.int .i64 x, .int .i64 y] 3 0 _ rfl).1⟩
  | 1, _ => exact ⟨_, 0, rfl, (Cel.new W #[.int .i64 x, .int .i64 y] 3 1 _ rfl).1⟩
theorem ints4 (W : World) (x y z u : Int) : IntsAt (W.alloc (.cells #[.int .i64 x, .int .i64 y, .int .i64 z, .int .i64 u] 3)) (some ⟨W.heap.size, 0, none⟩) [x, y, z, u] := fun j hj => by
  match j, hj with
  | 0, _ => exact ⟨_, 0, rfl, (Cel.new W #[.int .i64 x, .int .i64 y, .int .i64 z, .int .i64 u] 3 0 _ rfl).1⟩
  | 1, _ => exact ⟨_, 0, rfl, (Cel.new W #[.int .i64 x, .int .i64 y, .int .i64 z, .int .i64 u] 3 1 _ rfl).1⟩
  | 2, _ => exact ⟨_, 0, rfl, (Cel.new W #[.int .i64 x, .int .i64 y, .int .i64 z, .int .i64 u] 3 2 _ rfl).1⟩
  | 3, _ => exact ⟨_, 0, rfl, (Cel.new W #[.int .i64 x, .int .i64 y, .int .i64 z, .int .i64 u] 3 3 _ rfl).1⟩
theorem spans1 (W : World) (x y : Int) : SpansAt (W.alloc (.cells #[.int .i64 x, .int .i64 y] 31)) (some ⟨W.heap.size, 0, none⟩) [(x, y)] := fun j hj => by
  match j, hj with
  | 0, _ => exact ⟨_, 0, rfl, (Cel.new W #[.int .i64 x, .int .i64 y] 31 0 _ rfl).1, (Cel.new W #[.int .i64 x, .int .i64 y] 31 1 _ rfl).1⟩
theorem ints1' (W : World) (x : Int) (n : Nat) (h : n = W.heap.size) : IntsAt (W.alloc (.cells #[.int .i64 x] 3)) (some ⟨n, 0, none⟩) [x] := by subst h; exact ints1 W x
theorem ints2' (W : World) (x y : Int) (n : Nat) (h : n = W.heap.size) : IntsAt (W.alloc (.cells #[.int .i64 x, .int .i64 y] 3)) (some ⟨n, 0, none⟩) [x, y] := by subst h; exact ints2 W x y
theorem ints4' (W : World) (x y z u : Int) (n : Nat) (h : n = W.heap.size) : IntsAt (W.alloc (.cells #[.int .i64 x, .int .i64 y, .int .i64 z, .int .i64 u] 3)) (some ⟨n, 0, none⟩) [x, y, z, u] := by subst h; exact ints4 W x y z u
theorem spans1' (W : World) (x y : Int) (n : Nat) (h : n = W.heap.size) : SpansAt (W.alloc (.cells #[.int .i64 x, .int .i64 y] 31)) (some ⟨n, 0, none⟩) [(x, y)] := by subst h; exact spans1 W x y
theorem lnAt_set {b g o : Nat} {l : Ln} {W : World} {v : Value} (h : LnAt b l W) (hne : g ≠ b) : LnAt b l (W.setCell ⟨g, o, none⟩ v) := by
  have c : ∀ k, (W.setCell ⟨g, o, none⟩ v).cell? ⟨b, k, none⟩ = W.cell? ⟨b, k, none⟩ := fun k => World.cell?_setCell_far _ _ _ _ hne
  unfold LnAt at *
  simp only [c]
  exact h
theorem lnAt_lt {b : Nat} {l : Ln} {W : World} (h : LnAt b l W) : b < W.heap.size := World.block_lt_of_cell? W _ h.1
/-- A slice of zeros that has just been made, the first number set. -/
theorem one_row {W : World} {base g m : Nat} (hm : 1 ≤ m) (h : W.ownsRow base 3 1 (.slice (some ⟨g, 0, none⟩) m m) m (madeCells (Value.int .i64 0).cells (m * 1)).toList) :
    W.cell? ⟨g, 0, none⟩ = some (.int .i64 0) ∧ W.frozen? ⟨g, 0, none⟩ = false ∧ IntsAt (W.setCell ⟨g, 0, none⟩ (.int .i64 1)) (some ⟨g, 0, none⟩) (1 :: List.replicate (m - 1) 0) := by
  have e : (madeCells (Value.int .i64 0).cells (m * 1)).toList = List.replicate m (.int .i64 0) := by
    rw [Nat.mul_one, show (Value.int .i64 0).cells = #[Value.int .i64 0] from rfl, toList_madeCells_one]
  rw [e] at h
  have c0 := h.cellAt 0 (by omega)
  refine ⟨c0.trans (by simp [List.getElem?_replicate]; omega), h.frozenAt 0, ?_⟩
  have st := (h.stored 0 (.int .i64 1)).1
  have hl : (List.replicate m (Value.int .i64 0)).set 0 (.int .i64 1) = (1 :: List.replicate (m - 1) (0 : Int)).map (Value.int .i64) := by
    obtain ⟨k, rfl⟩ : ∃ k, m = k + 1 := ⟨m - 1, by omega⟩
    simp [List.replicate_succ]
  rw [hl] at st
  exact intsOfRow st
end Go.Proofs.Ytggkhddficmnfaa
