/-
  The document's examples, call by call.
-/
import Derived.Test.YtggkhddficmnfaaAwake
import Derived.Test.YtggkhddficmnfaaPassOut
import Derived.Test.YtggkhddficmnfaaKeepsMain
import Derived.Test.YtggkhddficmnfaaStab
namespace Go.Proofs.Ytggkhddficmnfaa
open Go.RowKit
set_option linter.unusedVariables false
set_option linter.unusedSimpArgs false

theorem spans2 (W : World) (x y z u : Int) : SpansAt (W.alloc (.cells #[.int .i64 x, .int .i64 y, .int .i64 z, .int .i64 u] 31)) (some ⟨W.heap.size, 0, none⟩) [(x, y), (z, u)] := fun j hj => by
  match j, hj with
  | 0, _ => exact ⟨_, 0, rfl, (Cel.new W #[.int .i64 x, .int .i64 y, .int .i64 z, .int .i64 u] 31 0 _ rfl).1, (Cel.new W #[.int .i64 x, .int .i64 y, .int .i64 z, .int .i64 u] 31 1 _ rfl).1⟩
  | 1, _ => exact ⟨_, 0, rfl, (Cel.new W #[.int .i64 x, .int .i64 y, .int .i64 z, .int .i64 u] 31 2 _ rfl).1, (Cel.new W #[.int .i64 x, .int .i64 y, .int .i64 z, .int .i64 u] 31 3 _ rfl).1⟩
theorem spans2' (W : World) (x y z u : Int) (n : Nat) (h : n = W.heap.size) : SpansAt (W.alloc (.cells #[.int .i64 x, .int .i64 y, .int .i64 z, .int .i64 u] 31)) (some ⟨n, 0, none⟩) [(x, y), (z, u)] := by subst h; exact spans2 W x y z u
theorem ints3' (W : World) (x y z : Int) (n : Nat) (h : n = W.heap.size) : IntsAt (W.alloc (.cells #[.int .i64 x, .int .i64 y, .int .i64 z] 3)) (some ⟨n, 0, none⟩) [x, y, z] := fun j hj => by
  subst h
  match j, hj with
  | 0, _ => exact ⟨_, 0, rfl, (Cel.new W #[.int .i64 x, .int .i64 y, .int .i64 z] 3 0 _ rfl).1⟩
  | 1, _ => exact ⟨_, 0, rfl, (Cel.new W #[.int .i64 x, .int .i64 y, .int .i64 z] 3 1 _ rfl).1⟩
  | 2, _ => exact ⟨_, 0, rfl, (Cel.new W #[.int .i64 x, .int .i64 y, .int .i64 z] 3 2 _ rfl).1⟩
def ovB : Ov := ⟨-2, 0, (1, 1), (1, 1)⟩
def ovC : Ov := ⟨-2, 0, (1, 1), (2, 2)⟩
theorem kShift (w : World) : Calls Try.prog 23 #[lnA.val, .int .i64 3] w (Ret w (.tuple #[.int .i64 0, .bool false, .int .i64 0])) := by
  have h := Shift_any lnA 3 w
  rw [show lnA.shiftV 3 = .tuple #[.int .i64 0, .bool false, .int .i64 0] from by kernel_rfl] at h
  exact h
theorem kLost (w : World) : Calls Try.prog 23 #[lnA.val, .int .i64 5] w (Ret w (.tuple #[.int .i64 0, .bool true, .int .i64 0])) := by
  have h := Shift_any lnA 5 w
  rw [show lnA.shiftV 5 = .tuple #[.int .i64 0, .bool true, .int .i64 0] from by kernel_rfl] at h
  exact h
theorem kSafe (w : World) : Calls Try.prog 27 #[lnA.val] w (Ret w (.tuple #[.agg #[.int .i64 (-3), .int .i64 3], .int .i64 0])) := by
  have h := Safe_any lnA w
  rw [show lnA.safeV = .tuple #[.agg #[.int .i64 (-3), .int .i64 3], .int .i64 0] from by kernel_rfl] at h
  exact h
theorem kPass1 (a b : Option Addr) (ca cb : Nat) (w : World) (hx : IntsAt w a [1, 128, 0, 255]) (hy : IntsAt w b [8, -8]) : Calls Try.prog 29 #[lnA.val, .slice a 4 ca, .slice b 2 cb] w (RetL w [1, 128, 0, 255] (-1) 0) := by
  have h := Pass_law lnA a b ca cb [1, 128, 0, 255] [8, -8] (by decide) w hx hy
  rw [show passXs lnA [1, 128, 0, 255] [8, -8] = [1, 128, 0, 255] from by kernel_rfl, show passAt lnA [1, 128, 0, 255] [8, -8] = -1 from by kernel_rfl, show passErr lnA [1, 128, 0, 255] [8, -8] = 0 from by kernel_rfl] at h
  exact h
theorem kPass2 (a b : Option Addr) (ca cb : Nat) (w : World) (hx : IntsAt w a [1, 128, 0, 255]) (hy : IntsAt w b [2, 5, 8]) : Calls Try.prog 29 #[lnA.val, .slice a 4 ca, .slice b 3 cb] w (RetL w [0, 0, 0, 0] 1 0) := by
  have h := Pass_law lnA a b ca cb [1, 128, 0, 255] [2, 5, 8] (by decide) w hx hy
  rw [show passXs lnA [1, 128, 0, 255] [2, 5, 8] = [0, 0, 0, 0] from by kernel_rfl, show passAt lnA [1, 128, 0, 255] [2, 5, 8] = 1 from by kernel_rfl, show passErr lnA [1, 128, 0, 255] [2, 5, 8] = 0 from by kernel_rfl] at h
  exact h
theorem kNext (w : World) : Calls Try.prog 34 #[lnA.val, .int .i64 2, .int .i64 15] w (Ret w (.tuple #[.int .i64 16, .int .i64 0])) := by
  have h := Next_any lnA 2 15 w
  rw [show nextV lnA 2 15 = .tuple #[.int .i64 16, .int .i64 0] from by kernel_rfl] at h
  exact h
theorem kOven (w : World) : Calls Try.prog 36 #[ovA.val, spanV (25, 25), .bool false, .int .i64 200] w (Ret w (.tuple #[.agg #[.int .i64 17, .int .i64 34], .int .i64 0])) := by
  have h := Oven_ok ovA (25, 25) false 200 (by decide) w
  rw [show ovEnds ovA (25, 25) false 200 = (17, 34, true) from by kernel_rfl] at h
  exact h
theorem kKeeps1 (w : World) : Calls Try.prog 38 #[lnA.val, ovB.val, spanV (0, 0), .bool false, .int .i64 200] w (Ret w (.tuple #[.int .i64 (-1), .int .i64 0])) := by
  have h := Keeps_any lnA ovB (0, 0) false 200 w
  rw [show keepsErr lnA ovB (0, 0) 200 = 0 from by kernel_rfl, if_pos rfl, show keepsOf lnA ovB (0, 0) false 200 = -1 from by kernel_rfl] at h
  exact h
theorem kKeeps2 (w : World) : Calls Try.prog 38 #[lnA.val, ovC.val, spanV (0, 0), .bool false, .int .i64 200] w (Ret w (.tuple #[.int .i64 2, .int .i64 0])) := by
  have h := Keeps_any lnA ovC (0, 0) false 200 w
  rw [show keepsErr lnA ovC (0, 0) 200 = 0 from by kernel_rfl, if_pos rfl, show keepsOf lnA ovC (0, 0) false 200 = 2 from by kernel_rfl] at h
  exact h
theorem one_of {ns : List Nat} (h : ns.Pairwise (· < ·)) (hm : ∀ n, n ∈ ns ↔ n = 1) : ns = [1] := by
  rcases ns with _ | ⟨a, _ | ⟨b, r⟩⟩
  · have := (hm 1).2 rfl; simp at this
  · have := (hm a).1 (by simp); subst this; rfl
  · have ha := (hm a).1 (by simp); have hb := (hm b).1 (by simp); simp at h; omega
theorem kCan (a : Option Addr) (ca : Nat) (w : World) (hx : SpansAt w a [(0, 3), (7, 8)]) : Calls Try.prog 32 #[lnA.val, .slice a 2 ca] w fun e w' => ∃ b c, e = .returned (.tuple #[.agg #[.slice b 1 c, .bool false], .int .i64 0]) ∧ IntsAt w' b [1] ∧ Below w.heap.size w w' := by
  have h := Can_ok lnA lnA_ok 32 rfl a ca [(0, 3), (7, 8)] (by decide) (by decide) w hx
  refine h.mono ?_
  rintro e w' ⟨v, ns, rfl, hrow, hmem, hsort, hb⟩
  have hw : ∀ (lo : Int) (k : Nat), (lo, k) = (0, 4) ∨ (lo, k) = (7, 2) → ∀ s : Nat, within' lnA lo k (s : Int) false = true ↔ s = (if lo = 0 then 0 else 1) := by
    intro lo k hlk s
    constructor
    · intro h1
      have h2 := within'_bd lnA_ok h1
      have h3 : s < 32 := by have := h2.2; unfold lnA at this; simp at this; omega
      revert h1
      have : ∀ s : Nat, s < 32 → (within' lnA 0 4 (s : Int) false = true → s = 0) ∧ (within' lnA 7 2 (s : Int) false = true → s = 1) := by decide
      rcases hlk with e | e <;> cases e
      · exact (this s h3).1
      · exact (this s h3).2
    · rcases hlk with e | e <;> cases e <;> (rintro rfl; kernel_rfl)
  have hns : ns = [1] := one_of hsort fun n => by
    rw [hmem n]
    show (∃ s m : Nat, within' lnA 7 (spanN (7, 8)) s false = true ∧ (∃ s' m' : Nat, within' lnA 0 (spanN (0, 3)) s' false = true ∧ m' = 0 ∧ m = (m' + s') % 32) ∧ n = (m + s) % 32) ↔ _
    rw [show spanN (7, 8) = 2 from rfl, show spanN (0, 3) = 4 from rfl]
    constructor
    · rintro ⟨s, m, h1, ⟨s', m', h2, rfl, rfl⟩, rfl⟩
      have e1 := (hw 7 2 (.inr rfl) s).1 h1
      have e2 := (hw 0 4 (.inl rfl) s').1 h2
      simp at e1 e2
      subst e1 e2
      rfl
    · rintro rfl
      exact ⟨1, 0, (hw 7 2 (.inr rfl) 1).2 rfl, ⟨0, 0, (hw 0 4 (.inl rfl) 0).2 rfl, rfl, rfl⟩, rfl⟩
  subst hns
  obtain ⟨b, c, rfl, hi, _⟩ := rowInts hrow
  exact ⟨b, c, by kernel_rfl, hi, hb⟩
end Go.Proofs.Ytggkhddficmnfaa
