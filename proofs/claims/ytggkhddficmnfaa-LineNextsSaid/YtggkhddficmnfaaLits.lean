/-
  Small slices that a statement builds: their numbers.
-/
import Derived.Test.YtggkhddficmnfaaWords
import Derived.Test.YtggkhddficmnfaaCan
import Derived.Test.YtggkhddficmnfaaPassOut
namespace Go.Proofs.Ytggkhddficmnfaa
open Go.RowKit
set_option linter.unusedVariables false
set_option linter.unusedSimpArgs false

theorem ints1 (W : World) (x : Int) : IntsAt (W.alloc (.cells #[.int .i64 x] 3)) (some ⟨W.heap.size, 0, none⟩) [x] := fun j hj => by
  match j, hj with
  | 0, _ => exact ⟨_, 0, rfl, (Cel.new W #[.int .i64 x] 3 0 _ rfl).1⟩
theorem ints2 (W : World) (x y : Int) : IntsAt (W.alloc (.cells #[.int .i64 x, .int .i64 y] 3)) (some ⟨W.heap.size, 0, none⟩) [x, y] := fun j hj => by
  match j, hj with
  | 0, _ => exact ⟨_, 0, rfl, (Cel.new W #[.int .i64 x, .int .i64 y] 3 0 _ rfl).1⟩
  | 1, _ => exact ⟨_, 0, rfl, (Cel.new W #[.int .i64 x, .int .i64 y] 3 1 _ rfl).1⟩
theorem ints4 (W : World) (x y z u : Int) : IntsAt (W.alloc (.cells #[.int .i64 x, .int .i64 y, .int .i64 z, .int .i64 u] 3)) (some ⟨W.heap.size, 0, none⟩) [x, y, z, u] := fun j hj => by
  match j, hj with
  | 0, _ => exact ⟨_, 0, rfl, (Cel.new W #[.int .i64 x, .int .i64 y, .int .i64 z, .int .i64 u] 3 0 _ rfl).1⟩
  | 1, _ => exact ⟨_, 0, rfl, (Cel.new W #[.int .i64 x, .int .i64 y, .int .i64 z, .int .i64 u] 3 1 _ rfl).1⟩
  | 2, _ => exact ⟨_, 0, rfl, (Cel.new W #[.int .i64 x, .int .i64 y, .int .i64 z, .int .i64 u] 3 2 _ rfl).1⟩
  | 3, _ => exact ⟨_, 0, rfl, (Cel.new W #[.int .i64 x, .int .i64 y, .int .i64 z, .int .i64 u] 3 3 _ rfl).1⟩
theorem spans1 (W : World) (x y : Int) : SpansAt (W.alloc (.cells #[.int .i64 x, .int .i64 y] 31)) (some ⟨W.heap.size, 0, none⟩) [(x, y)] := fun j hj => by
  match j, hj with
  | 0, _ => exact ⟨_, 0, rfl, (Cel.new W #[.int .i64 x, .int .i64 y] 31 0 _ rfl).1, (Cel.new W #[.int .i64 x, .int .i64 y] 31 1 _ rfl).1⟩
theorem ints1' (W : World) (x : Int) (n : Nat) (h : n = W.heap.size) : IntsAt (W.alloc (.cells #[.int .i64 x] 3)) (some ⟨n, 0, none⟩) [x] := by subst h; exact ints1 W x
theorem ints2' (W : World) (x y : Int) (n : Nat) (h : n = W.heap.size) : IntsAt (W.alloc (.cells #[.int .i64 x, .int .i64 y] 3)) (some ⟨n, 0, none⟩) [x, y] := by subst h; exact ints2 W x y
theorem ints4' (W : World) (x y z u : Int) (n : Nat) (h : n = W.heap.size) : IntsAt (W.alloc (.cells #[.int .i64 x, .int .i64 y, .int .i64 z, .int .i64 u] 3)) (some ⟨n, 0, none⟩) [x, y, z, u] := by subst h; exact ints4 W x y z u
theorem spans1' (W : World) (x y : Int) (n : Nat) (h : n = W.heap.size) : SpansAt (W.alloc (.cells #[.int .i64 x, .int .i64 y] 31)) (some ⟨n, 0, none⟩) [(x, y)] := by subst h; exact spans1 W x y
end Go.Proofs.Ytggkhddficmnfaa
