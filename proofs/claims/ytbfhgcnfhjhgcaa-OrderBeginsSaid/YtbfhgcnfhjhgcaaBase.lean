/-
  Contracts of layer 4's small functions: numbers alone.
-/
import Derived.Test.YtbfhgcnfhjhgcaaRows
import Derived.Test.YtbfhgcnfhjhgcaaPure
import Derived.WalkKit
import Derived.WalkSpells
import Derived.WalkLawsBesides
import Derived.Deep.RegionHeld3
import Derived.Deep.RegionWith
import Derived.Deep.QuietTactic
import Derived.BigQuiet
namespace Go.Proofs.Ytbfhgcnfhjhgcaa
open Go.RowKit
set_option linter.unusedVariables false
set_option linter.unusedSimpArgs false

theorem hid {p : Prop} (h : p) : Hid p := h
theorem bcell {W w1 : World} (hb : Below W.heap.size W w1) : (∀ b o, b < W.heap.size → w1.cell? ⟨b, o, none⟩ = W.cell? ⟨b, o, none⟩) ∧ (∀ b o, b < W.heap.size → w1.frozen? ⟨b, o, none⟩ = W.frozen? ⟨b, o, none⟩) :=
  ⟨fun b o h => hb.cell (p := ⟨b, o, none⟩) h, fun b o h => hb.frozen (p := ⟨b, o, none⟩) h⟩
theorem b_alloc {w W : World} (h : Below w.heap.size w W) (o : Obj) : Below w.heap.size w (W.alloc o) := h.alloc h.size o
theorem b_drewN {B : Nat} {w W : World} (h : Below B w W) (n : Nat) : Below B w (W.drewN n) := ⟨h.os, h.tape, h.output, h.size, h.block⟩
theorem b_call {w W w' : World} (hb : Below W.heap.size W w') (h : Below w.heap.size w W) : Below w.heap.size w w' := h.trans (hb.mono h.size)
/-- A cell that may be read and written. -/
def Cel (W : World) (b o : Nat) (v : Value) : Prop := W.cell? ⟨b, o, none⟩ = some v ∧ W.frozen? ⟨b, o, none⟩ = false
theorem Cel.lt {W : World} {b o : Nat} {v : Value} (h : Cel W b o v) : b < W.heap.size := World.block_lt_of_cell? W _ h.1
theorem Cel.alloc {W : World} {b o : Nat} {v : Value} (h : Cel W b o v) (x : Obj) : Cel (W.alloc x) b o v :=
  ⟨(World.cell?_alloc_past x b o h.lt).trans h.1, (World.frozen?_alloc_old W x ⟨b, o, none⟩ (Nat.ne_of_lt h.lt)).trans h.2⟩
theorem Cel.call {W W' : World} {b o : Nat} {v : Value} (h : Cel W b o v) (hb : Below W.heap.size W W') : Cel W' b o v :=
  ⟨(hb.cell (p := ⟨b, o, none⟩) h.lt).trans h.1, (hb.frozen (p := ⟨b, o, none⟩) h.lt).trans h.2⟩
theorem Cel.below {B : Nat} {W W' : World} {b o : Nat} {v : Value} (h : Cel W b o v) (hb : Below B W W') (hB : b < B) : Cel W' b o v :=
  ⟨(hb.cell (p := ⟨b, o, none⟩) hB).trans h.1, (hb.frozen (p := ⟨b, o, none⟩) hB).trans h.2⟩
theorem Cel.new (W : World) (cs : Array Value) (t : TypeId) (o : Nat) (v : Value) (h : cs[o]? = some v) : Cel (W.alloc (.cells cs t)) W.heap.size o v :=
  ⟨by simp [go_sem, h], by simp [go_sem]⟩
/-- The call returns v; whatever lay before it lies as it lay. -/
def Ret (w : World) (v : Value) (e : Ending) (w' : World) : Prop := e = .returned v ∧ Below w.heap.size w w'
theorem Ret.mk {w w' : World} {v : Value} {e : Ending} (h : e = .returned v) (hb : Below w.heap.size w w') : Ret w v e w' := ⟨h, hb⟩
theorem ret_bool {a b : Bool} (h : a = b) : Ending.returned (.bool a) = .returned (.bool b) := by rw [h]
theorem ret_int {k : IntKind} {a b : Int} (h : a = b) : Ending.returned (.int k a) = .returned (.int k b) := by rw [h]
abbrev Od.val (o : Od) : Value := .agg #[.int .i64 o.op, .int .i64 o.fr, .int .i64 o.to, .int .i64 o.nx]

/-! ### places -/
set_option maxHeartbeats 400000 in
theorem place_any (n : Int) (hn : 0 ≤ n) (w : World) :
    Calls Try.prog 54 #[.int .i64 n] w fun e w' => e = .returned (.int .i64 (n % 16)) ∧ w = w' := by
  have h1 : n.tmod 16 = n % 16 := Int.tmod_eq_emod_of_nonneg hn
  go_enter Try.func54, Try.ntmps54
  go_wp2
  go_ret
  exact ⟨ret_int (by first | rfl | (simp [h1]; done) | omega), rfl⟩
set_option maxHeartbeats 400000 in
theorem notBefore_any (c a : Int) (hc : 0 ≤ c ∧ c ≤ 1000000000000) (ha : 0 ≤ a ∧ a ≤ 1000000000000) (w : World) :
    Calls Try.prog 59 #[.int .i64 c, .int .i64 a] w fun e w' => e = .returned (.int .i64 (nb c a)) ∧ w = w' := by
  have h1 := Int.emod_nonneg c (show (16 : Int) ≠ 0 by omega)
  have h2 := Int.emod_lt_of_pos c (show (0 : Int) < 16 by omega)
  go_enter Try.func59, Try.ntmps59
  go_wp2_with (go_at_call 54; refine (place_any _ (by omega) _).mono ?_; rintro e w' ⟨rfl, rfl⟩)
  go_ret
  exact ⟨ret_int (by unfold nb; first | rfl | omega), rfl⟩
set_option maxHeartbeats 400000 in
theorem after_any (c a : Int) (hc : 0 ≤ c ∧ c ≤ 100000000000) (ha : 0 ≤ a ∧ a ≤ 1000000000000) (w : World) :
    Calls Try.prog 78 #[.int .i64 c, .int .i64 a] w fun e w' => e = .returned (.int .i64 (aft c a)) ∧ w = w' := by
  go_enter Try.func78, Try.ntmps78
  go_wp2_with (go_at_call 59; refine (notBefore_any _ _ (by omega) (by omega) _).mono ?_; rintro e w' ⟨rfl, rfl⟩)
  go_ret
  exact ⟨rfl, rfl⟩

/-! ### words -/
set_option maxHeartbeats 400000 in
theorem signed_any (x : Int) (hx : -1000000000000 ≤ x ∧ x ≤ 1000000000000) (w : World) :
    Calls Try.prog 46 #[.int .i64 x] w fun e w' => e = .returned (.int .i64 (sgn x)) ∧ w = w' := by
  go_enter Try.func46, Try.ntmps46
  go_wp2
  all_goals (go_ret; exact ⟨ret_int (by unfold sgn; split <;> first | rfl | omega), rfl⟩)
set_option maxHeartbeats 400000 in
theorem Sign_any (x : Int) (hx : -1000000000000 ≤ x ∧ x ≤ 1000000000000) (w : World) :
    Calls Try.prog 47 #[.int .i64 x] w fun e w' => e = .returned (.int .i64 (sgn x)) ∧ w = w' := by
  go_enter Try.func47, Try.ntmps47
  go_wp2
  all_goals (go_ret; exact ⟨ret_int (by unfold sgn; split <;> first | rfl | omega), rfl⟩)
set_option maxHeartbeats 400000 in
theorem parted_any (x : Int) (b : Nat) (hb : b = 7 ∨ b = 24) (w : World) :
    Calls Try.prog 65 #[.int .i64 x, .int .i64 (b : Int)] w fun e w' => e = .returned (.tuple #[.int .i64 (x / 2 ^ b), .int .i64 (x % 2 ^ b)]) ∧ ∃ n, w' = w.drewN n := by
  have h1 := and_mask x b (by omega)
  rcases hb with rfl | rfl
  · simp at h1
    go_enter Try.func65, Try.ntmps65
    go_wp2
    go_quiet (fail)
    go_wp2
    go_ret2
    exact ⟨by simp [h1], _, rfl⟩
  · simp at h1
    go_enter Try.func65, Try.ntmps65
    go_wp2
    go_quiet (fail)
    go_wp2
    go_ret2
    exact ⟨by simp [h1], _, rfl⟩
set_option maxHeartbeats 400000 in
theorem joined_any (h l : Int) (hh : 0 ≤ h ∧ h ≤ 1000000000) (hl : 0 ≤ l ∧ l ≤ 127) (w : World) :
    Calls Try.prog 41 #[.int .i64 h, .int .i64 l, .int .i64 7] w fun e w' => e = .returned (.int .i64 (h * 128 + l)) ∧ w = w' := by
  obtain ⟨n, rfl⟩ : ∃ n : Nat, h = (n : Int) := ⟨h.toNat, by omega⟩
  obtain ⟨m, rfl⟩ : ∃ m : Nat, l = (m : Int) := ⟨l.toNat, by omega⟩
  have h1 := or_join n m 7 (by omega) (by omega) (by omega)
  simp at h1
  have h2 : IntKind.i64.wrap ((n : Int) * 128) = (n : Int) * 128 := IntWalk.i64_in _ (by omega)
  go_enter Try.func41, Try.ntmps41
  go_wp2
  go_ret
  exact ⟨by simp [h1, h2], rfl⟩
end Go.Proofs.Ytbfhgcnfhjhgcaa
