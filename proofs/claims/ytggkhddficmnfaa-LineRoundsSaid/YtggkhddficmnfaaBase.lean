/-
  Contracts of layer 1's small functions: numbers and lines alone.
-/
import Derived.Test.YtggkhddficmnfaaRows
import Derived.Test.YtggkhddficmnfaaPure
import Derived.WalkKit
import Derived.WalkSpells
import Derived.WalkLawsBesides
import Derived.Deep.RegionHeld3
import Derived.Deep.QuietTactic
import Derived.BigQuiet
namespace Go.Proofs.Ytggkhddficmnfaa
open Go.RowKit
set_option linter.unusedVariables false
set_option linter.unusedSimpArgs false

theorem hid {p : Prop} (h : p) : Hid p := h
theorem bcell {W w1 : World} (hb : Below W.heap.size W w1) : (∀ b o, b < W.heap.size → w1.cell? ⟨b, o, none⟩ = W.cell? ⟨b, o, none⟩) ∧ (∀ b o, b < W.heap.size → w1.frozen? ⟨b, o, none⟩ = W.frozen? ⟨b, o, none⟩) :=
  ⟨fun b o h => hb.cell (p := ⟨b, o, none⟩) h, fun b o h => hb.frozen (p := ⟨b, o, none⟩) h⟩
theorem b_alloc {w W : World} (h : Below w.heap.size w W) (o : Obj) : Below w.heap.size w (W.alloc o) := h.alloc h.size o
theorem b_drewN {B : Nat} {w W : World} (h : Below B w W) (n : Nat) : Below B w (W.drewN n) := ⟨h.os, h.tape, h.output, h.size, h.block⟩
theorem b_call {w W w' : World} (hb : Below W.heap.size W w') (h : Below w.heap.size w W) : Below w.heap.size w w' := h.trans (hb.mono h.size)
/-- A cell that may be read and written. -/
def Cel (W : World) (b o : Nat) (v : Value) : Prop := W.cell? ⟨b, o, none⟩ = some v ∧ W.frozen? ⟨b, o, none⟩ = false
theorem Cel.lt {W : World} {b o : Nat} {v : Value} (h : Cel W b o v) : b < W.heap.size := World.block_lt_of_cell? W _ h.1
theorem Cel.alloc {W : World} {b o : Nat} {v : Value} (h : Cel W b o v) (x : Obj) : Cel (W.alloc x) b o v :=
  ⟨(World.cell?_alloc_past x b o h.lt).trans h.1, (World.frozen?_alloc_old W x ⟨b, o, none⟩ (Nat.ne_of_lt h.lt)).trans h.2⟩
theorem Cel.call {W W' : World} {b o : Nat} {v : Value} (h : Cel W b o v) (hb : Below W.heap.size W W') : Cel W' b o v :=
  ⟨(hb.cell (p := ⟨b, o, none⟩) h.lt).trans h.1, (hb.frozen (p := ⟨b, o, none⟩) h.lt).trans h.2⟩
theorem Cel.below {B : Nat} {W W' : World} {b o : Nat} {v : Value} (h : Cel W b o v) (hb : Below B W W') (hB : b < B) : Cel W' b o v :=
  ⟨(hb.cell (p := ⟨b, o, none⟩) hB).trans h.1, (hb.frozen (p := ⟨b, o, none⟩) hB).trans h.2⟩
theorem Cel.new (W : World) (cs : Array Value) (t : TypeId) (o : Nat) (v : Value) (h : cs[o]? = some v) : Cel (W.alloc (.cells cs t)) W.heap.size o v :=
  ⟨by simp [go_sem, h], by simp [go_sem]⟩
/-- The call returns v; whatever lay before it lies as it lay. -/
def Ret (w : World) (v : Value) (e : Ending) (w' : World) : Prop := e = .returned v ∧ Below w.heap.size w w'
theorem Ret.mk {w w' : World} {v : Value} {e : Ending} (h : e = .returned v) (hb : Below w.heap.size w w') : Ret w v e w' := ⟨h, hb⟩
abbrev Ln.val (l : Ln) : Value := .agg #[.int .i64 l.W, .int .i64 l.B, .int .i64 l.P, .int .i64 l.D, .int .i64 l.S, .int .i64 l.N]
theorem ret_bool {a b : Bool} (h : a = b) : Ending.returned (.bool a) = .returned (.bool b) := by rw [h]
theorem ret_int {k : IntKind} {a b : Int} (h : a = b) : Ending.returned (.int k a) = .returned (.int k b) := by rw [h]

set_option maxHeartbeats 400000 in
theorem within_any (n lo hi : Int) (w : World) :
    Calls Try.prog 53 #[.int .i64 n, .int .i64 lo, .int .i64 hi] w fun e w' => e = .returned (.bool (decide (lo ≤ n ∧ n ≤ hi))) ∧ w = w' := by
  go_enter Try.func53, Try.ntmps53
  go_wp2
  all_goals (go_ret; exact ⟨ret_bool (by simp [*] <;> omega), rfl⟩)
set_option maxHeartbeats 400000 in
theorem in_any (n lo hi : Int) (w : World) :
    Calls Try.prog 56 #[.int .i64 n, .int .i64 lo, .int .i64 hi] w fun e w' => e = .returned (.bool (decide (lo ≤ n ∧ n ≤ hi))) ∧ w = w' := by
  go_enter Try.func56, Try.ntmps56
  go_wp2
  all_goals (go_ret; exact ⟨ret_bool (by simp [*] <;> omega), rfl⟩)
set_option maxHeartbeats 400000 in
theorem isTemp_any (n : Int) (w : World) :
    Calls Try.prog 57 #[.int .i64 n] w fun e w' => e = .returned (.bool (decide (-500 ≤ n ∧ n ≤ 1000))) ∧ w = w' := by
  go_enter Try.func57, Try.ntmps57
  go_wp2_with (go_at_call 53; refine (within_any _ _ _ _).mono ?_; rintro e w' ⟨rfl, rfl⟩)
  go_ret
  exact ⟨ret_bool (by simp), rfl⟩
set_option maxHeartbeats 400000 in
theorem Temp_any (n : Int) (w : World) :
    Calls Try.prog 47 #[.int .i64 n] w fun e w' => e = .returned (.bool (decide (-500 ≤ n ∧ n ≤ 1000))) ∧ w = w' := by
  go_enter Try.func47, Try.ntmps47
  go_wp2_with (go_at_call 56; refine (in_any _ _ _ _).mono ?_; rintro e w' ⟨rfl, rfl⟩)
  go_ret
  exact ⟨ret_bool (by simp), rfl⟩
set_option maxHeartbeats 400000 in
theorem modulo_any (n m : Int) (w : World) (hm : 1 ≤ m) (hm' : m ≤ 1000000000000) :
    Calls Try.prog 77 #[.int .i64 n, .int .i64 m] w fun e w' => e = .returned (.int .i64 (n % m)) ∧ w = w' := by
  have hb := tmod_bd n m hm
  go_enter Try.func77, Try.ntmps77
  go_wp2
  go_ret
  exact ⟨ret_int (by rw [← tmod_fix n m hm]; exact (Int.tmod_eq_emod_of_nonneg (by omega)).symm), rfl⟩
set_option maxHeartbeats 400000 in
theorem beats_any (l : Ln) (hl : l.Ok) (w : World) :
    Calls Try.prog 71 #[l.val] w (Ret w (.int .i64 (l.W * l.B))) := by
  have hb := hl.beats
  go_enter Try.func71, Try.ntmps71
  go_wp2
  go_ret
  exact ⟨rfl, (Below.refl _ _).alloc (Nat.le_refl _) _⟩
set_option maxHeartbeats 400000 in
theorem bytesOf_any (b : Int) (hb : 1 ≤ b ∧ b ≤ 40) (w : World) :
    Calls Try.prog 85 #[.int .i64 b] w fun e w' => e = .returned (.int .i64 ((b + 7) / 8)) ∧ w = w' := by
  go_enter Try.func85, Try.ntmps85
  go_wp2
  go_ret
  exact ⟨rfl, rfl⟩

def errno (p : Prop) [Decidable p] : Int := if p then 0 else 7

theorem win_fix (p : Int) (h : 2 ≤ p ∧ p ≤ 100000) : wrap64 ((wrap64 (p - 1)).tdiv 2) = (p - 1) / 2 := by
  unfold wrap64; rw [Int.tdiv_eq_ediv_of_nonneg (by omega)]; omega

theorem errno_yes {p : Prop} [Decidable p] (h : p) : 0 = errno p := by simp [errno, h]
theorem errno_no {p : Prop} [Decidable p] (h : ¬ p) : 7 = errno p := by simp [errno, h]

set_option maxHeartbeats 1000000 in
theorem Check_any (l : Ln) (w : World) :
    Calls Try.prog 25 #[l.val] w (Ret w (.int .i64 (errno l.Ok))) := by
  go_enter Try.func25, Try.ntmps25
  go_wp2_with (go_at_call 53; refine (within_any _ _ _ _).mono ?_; rintro e w' ⟨rfl, rfl⟩)
  all_goals (go_ret; refine ⟨ret_int ?_, (Below.refl _ _).alloc (Nat.le_refl _) _⟩)
  all_goals first
    | exact errno_no (by unfold Ln.Ok; simp at *; omega)
    | exact errno_yes (by unfold Ln.Ok; simp at *; omega)

set_option maxHeartbeats 1000000 in
theorem refCheck_any (l : Ln) (w : World) :
    Calls Try.prog 26 #[l.val] w (Ret w (.int .i64 (errno l.Ok))) := by
  go_enter Try.func26, Try.ntmps26
  go_wp2_with (go_at_call 56; refine (in_any _ _ _ _).mono ?_; rintro e w' ⟨rfl, rfl⟩)
  all_goals (go_ret; refine ⟨ret_int ?_, (Below.refl _ _).alloc (Nat.le_refl _) _⟩)
  all_goals first
    | exact errno_no (by unfold Ln.Ok; simp at *; omega)
    | exact errno_yes (by unfold Ln.Ok; simp at *; omega)

/-! ### roundAt, Shift -/
def Ln.round (l : Ln) (t : Int) : Value := match l.shift t with
  | none => .agg #[.int .i64 0, .bool true]
  | some s => .agg #[.int .i64 s, .bool false]
/-- The line lies in block b. -/
abbrev LnAt (b : Nat) (l : Ln) (w : World) : Prop := w.cell? ⟨b, 0, none⟩ = some (.int .i64 l.W) ∧ w.cell? ⟨b, 1, none⟩ = some (.int .i64 l.B) ∧ w.cell? ⟨b, 2, none⟩ = some (.int .i64 l.P) ∧ w.cell? ⟨b, 3, none⟩ = some (.int .i64 l.D) ∧ w.cell? ⟨b, 4, none⟩ = some (.int .i64 l.S) ∧ w.cell? ⟨b, 5, none⟩ = some (.int .i64 l.N)
set_option maxHeartbeats 1000000 in
theorem roundAt_any (l : Ln) (hl : l.Ok) (t : Int) (ht : -500 ≤ t ∧ t ≤ 1000) (w : World) :
    Calls Try.prog 58 #[l.val, .int .i64 t] w (Ret w (l.round t)) := by
  have b1 := hl.slope ht.1 ht.2
  have b2 := hl.all
  have b3 := hl.beats
  have b4 := hl.late_bd ht.1 ht.2
  obtain ⟨h1, h2, h3, h4, h5, h6⟩ := id hl
  have w1 : IntKind.i64.wrap (l.S * t) = l.S * t := IntWalk.i64_in _ (by omega)
  have w2 : IntKind.i64.wrap (l.D + l.S * t) = l.D + l.S * t := IntWalk.i64_in _ (by omega)
  have w3 : IntKind.i64.wrap (l.W * l.B * l.P) = l.W * l.B * l.P := IntWalk.i64_in _ (by omega)
  have w4 : IntKind.i64.wrap (l.D + l.S * t - l.W * l.B * l.P) = l.late t := IntWalk.i64_in _ (by omega)
  have m1 := Int.emod_nonneg (l.late t + l.N) (show l.P ≠ 0 by omega)
  have m2 := Int.emod_lt_of_pos (l.late t + l.N) (show 0 < l.P by omega)
  rcases (by omega : 2 * l.N < (l.late t + l.N) % l.P ∨ (l.late t + l.N) % l.P ≤ 2 * l.N) with hc | hc
  all_goals
    go_enter Try.func58, Try.ntmps58
    go_wp2_with fail
    go_region_held3 (fun w' => w'.cell? ⟨w.heap.size, 0, none⟩ = some (.int .i64 l.W) ∧ w'.cell? ⟨w.heap.size, 1, none⟩ = some (.int .i64 l.B) ∧ w'.cell? ⟨w.heap.size, 2, none⟩ = some (.int .i64 l.P) ∧ w'.cell? ⟨w.heap.size, 3, none⟩ = some (.int .i64 l.D) ∧ w'.cell? ⟨w.heap.size, 4, none⟩ = some (.int .i64 l.S) ∧ w'.cell? ⟨w.heap.size, 5, none⟩ = some (.int .i64 l.N))
      (first
        | go_keep
        | (go_split_ands; refine ⟨?_, ?_, ?_, ?_, ?_, ?_⟩ <;> exact cell_later hb (by assumption)))
      (first | (go_at_call 71; refine (beats_any l hl _).mono ?_; rintro e w' ⟨rfl, hb⟩; have hB := hb; obtain ⟨hc1, hf1⟩ := bcell hb))
    clear w1 w2 w3 w4
    go_wp2_with (go_at_call 77; refine (modulo_any _ _ _ (by omega) (by omega)).mono ?_; rintro e w' ⟨rfl, rfl⟩)
  · refine bodyPost_ret (v := .agg #[.int .i64 0, .bool true]) (by simp [results, Try.results58, go_sem, hc1]) rfl ⟨by simp [Ln.round, Ln.shift, hc], ?_⟩
    (repeat (first | assumption | exact Below.refl _ _ | refine b_alloc ?_ _ | refine Below.drew ?_ | refine b_drewN ?_ _ | refine Below.setCell ?_ (by first | omega | (simp; done) | (simp; omega)) _ | refine b_call (by assumption) ?_))
  · refine bodyPost_ret (v := .agg #[.int .i64 ((l.late t + l.N) / l.P), .bool false]) (by simp [results, Try.results58, go_sem, hc1, sub_mod_div (l.late t + l.N) l.P (by omega)]) rfl ⟨by simp [Ln.round, Ln.shift, Int.not_lt.2 hc], ?_⟩
    (repeat (first | assumption | exact Below.refl _ _ | refine b_alloc ?_ _ | refine Below.drew ?_ | refine b_drewN ?_ _ | refine Below.setCell ?_ (by first | omega | (simp; done) | (simp; omega)) _ | refine b_call (by assumption) ?_))
end Go.Proofs.Ytggkhddficmnfaa
