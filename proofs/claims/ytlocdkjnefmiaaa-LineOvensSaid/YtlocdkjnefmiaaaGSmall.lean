/-
  Plain mathematics of layer 1: lines, shifts. No Go in sight.
  Contracts of layer 1's small functions: numbers and lines alone.
  Contracts of Shift and of the reference's shift, Shift and safe.
  Contracts of Next and of the reference's Next.
  Contracts of the errors of words: wordsError, the reference's Words and Power; equal lists.
  Contracts of pulsesOf, wordsOf, turn: pulses as bools.
  Contract of turn: pulses come later by some beats.
  Contract of wordsOf: pulses are put together to words.
-/
import Init
import Derived.Test.YtlocdkjnefmiaaaRows
import Derived.WalkKit
import Derived.WalkSpells
import Derived.WalkLawsBesides
import Derived.Deep.RegionHeld3
import Derived.Deep.QuietTactic
import Derived.BigQuiet
import Derived.Laws.CopyOwn
import Derived.Deep.RegionLaw
import Derived.StillTailTactics
namespace Go.Proofs.Ytlocdkjnefmiaaa
set_option linter.unusedVariables false
set_option linter.unusedSimpArgs false

/-- A line, as plain numbers. -/
structure Ln where
  W : Int
  B : Int
  P : Int
  D : Int
  S : Int
  N : Int

/-- The line is as stated. -/
def Ln.Ok (l : Ln) : Prop := (1 ≤ l.W ∧ l.W ≤ 64) ∧ (1 ≤ l.B ∧ l.B ≤ 40) ∧ (2 ≤ l.P ∧ l.P ≤ 100000) ∧ (0 ≤ l.D ∧ l.D ≤ 1000000000) ∧ (-100000 ≤ l.S ∧ l.S ≤ 100000) ∧ (0 ≤ l.N ∧ l.N ≤ (l.P - 1) / 2)
instance (l : Ln) : Decidable l.Ok := by unfold Ln.Ok; infer_instance

def Ln.late (l : Ln) (t : Int) : Int := l.D + l.S * t - l.W * l.B * l.P

/-- The shift at a temperature; none: pulses are lost. -/
def Ln.shift (l : Ln) (t : Int) : Option Int :=
  if 2 * l.N < (l.late t + l.N) % l.P then none else some ((l.late t + l.N) / l.P)

theorem mul_le_mul_bd {a b A B : Int} (h0 : 0 ≤ a) (h1 : a ≤ A) (h2 : 0 ≤ b) (h3 : b ≤ B) : 0 ≤ a * b ∧ a * b ≤ A * B :=
  ⟨Int.mul_nonneg h0 h2, Int.mul_le_mul h1 h3 h2 (Int.le_trans h0 h1)⟩

theorem mul_abs_bd {a b A B : Int} (h0 : -A ≤ a) (h1 : a ≤ A) (h2 : -B ≤ b) (h3 : b ≤ B) : -(A * B) ≤ a * b ∧ a * b ≤ A * B := by
  have hA : 0 ≤ A := by omega
  have hB : 0 ≤ B := by omega
  have e : (a * b).natAbs = a.natAbs * b.natAbs := Int.natAbs_mul a b
  have h4 : a.natAbs ≤ A.natAbs := by omega
  have h5 : b.natAbs ≤ B.natAbs := by omega
  have h6 := Nat.mul_le_mul h4 h5
  have h7 : ((A.natAbs * B.natAbs : Nat) : Int) = A * B := by
    rw [Int.natCast_mul]; rw [Int.natAbs_of_nonneg hA, Int.natAbs_of_nonneg hB]
  omega

theorem Ln.Ok.beats {l : Ln} (h : l.Ok) : 0 ≤ l.W * l.B ∧ l.W * l.B ≤ 2560 := mul_le_mul_bd (by have := h.1; omega) h.1.2 (by have := h.2.1; omega) h.2.1.2
theorem Ln.Ok.beats1 {l : Ln} (h : l.Ok) : 1 ≤ l.W * l.B := by
  have h1 := h.1.1; have h2 := h.2.1.1
  have := Int.mul_le_mul h1 h2 (by omega) (by omega); simpa using this
theorem Ln.Ok.all {l : Ln} (h : l.Ok) : 0 ≤ l.W * l.B * l.P ∧ l.W * l.B * l.P ≤ 256000000 := mul_le_mul_bd h.beats.1 h.beats.2 (by have := h.2.2.1; omega) h.2.2.1.2
theorem Ln.Ok.slope {l : Ln} (h : l.Ok) {t : Int} (h0 : -500 ≤ t) (h1 : t ≤ 1000) : -100000000 ≤ l.S * t ∧ l.S * t ≤ 100000000 := by
  obtain ⟨_, _, _, _, h5, _⟩ := h
  have := mul_abs_bd (A := 100000) (B := 1000) h5.1 h5.2 (by omega : -1000 ≤ t) h1
  omega
theorem Ln.Ok.late_bd {l : Ln} (h : l.Ok) {t : Int} (h0 : -500 ≤ t) (h1 : t ≤ 1000) : -356000000 ≤ l.late t ∧ l.late t ≤ 1100000000 := by
  have a := h.all; have b := h.slope h0 h1
  obtain ⟨_, _, _, h4, _, _⟩ := h
  unfold Ln.late; omega

/-- modulo, as the code has it. -/
theorem tmod_fix (n m : Int) (hm : 1 ≤ m) : (n.tmod m + m).tmod m = n % m := by
  have hpos : 0 ≤ n.tmod m + m := by
    have := Int.lt_tmod_of_pos n (show 0 < m by omega); omega
  rw [Int.tmod_eq_emod_of_nonneg hpos]
  rw [Int.add_emod_right]
  exact Int.emod_emod_of_dvd _ (Int.dvd_refl m) ▸ by
    rw [Int.tmod_eq_emod]
    split
    · simp
    · rw [Int.sub_emod, show ((m.natAbs : Int)) = m by omega]; simp
theorem tmod_bd (n m : Int) (hm : 1 ≤ m) : -m < n.tmod m ∧ n.tmod m < m := by
  have h1 := Int.lt_tmod_of_pos n (show 0 < m by omega)
  have h2 := Int.tmod_lt_of_pos n (show 0 < m by omega)
  omega

theorem sub_mod_div (x m : Int) (hm : 1 ≤ m) : (x - x % m).tdiv m = x / m := by
  have e := Int.mul_ediv_add_emod x m
  have h : x - x % m = m * (x / m) := by omega
  rw [h, Int.mul_tdiv_cancel_left _ (by omega)]
theorem div_bd (x m B : Int) (hm : 1 ≤ m) (h : -B ≤ x ∧ x ≤ B) (hB : 0 ≤ B ∧ B ≤ 9000000000000000000) : -9223372036854775808 ≤ x / m ∧ x / m ≤ 9223372036854775807 := by
  have e := Int.mul_ediv_add_emod x m
  have h0 := Int.emod_nonneg x (show m ≠ 0 by omega)
  have h1 := Int.emod_lt_of_pos x (show 0 < m by omega)
  constructor
  · by_cases g : 0 ≤ x / m
    · omega
    · have := Int.mul_le_mul_of_nonneg_right hm (show 0 ≤ -(x / m) by omega)
      have e2 : m * -(x / m) = -(m * (x / m)) := Int.mul_neg _ _
      have : -(x / m) ≤ B + m := by omega
      have h3 : x / m ≥ -B := by
        have : -B / m ≤ x / m := Int.ediv_le_ediv (by omega) (by omega)
        have h4 : -B ≤ -B / m := by
          rw [Int.le_ediv_iff_mul_le (by omega)]
          have := Int.mul_le_mul_of_nonneg_left hm hB.1
          have e3 : -B * m = -(B * m) := Int.neg_mul _ _
          omega
        omega
      omega
  · have h4 : x / m ≤ B := by
      have h5 : x / m ≤ B / m := Int.ediv_le_ediv (by omega) h.2
      have h6 : B / m ≤ B := Int.ediv_le_self _ hB.1
      omega
    omega
theorem tdiv_near {x m q : Int} (hm : 1 ≤ m) (e : x.tdiv m = q) : x - m < q * m ∧ q * m < x + m := by
  have h := Int.mul_tdiv_add_tmod x m
  have b := tmod_bd x m hm
  rw [e, Int.mul_comm] at h
  omega
theorem tdiv_bd {x m q B : Int} (hm : 1 ≤ m) (e : x.tdiv m = q) (h : -B ≤ x ∧ x ≤ B) : -B - 1 ≤ q ∧ q ≤ B + 1 := by
  have b := tdiv_near hm e
  constructor
  · by_cases g : 0 ≤ q
    · omega
    · have h1 := Int.mul_le_mul_of_nonneg_left hm (show 0 ≤ -q by omega)
      have e1 : -q * m = -(q * m) := Int.neg_mul _ _
      by_cases g2 : -B - 1 ≤ q
      · exact g2
      · have h2 := Int.mul_le_mul_of_nonneg_right (show B + 2 ≤ -q by omega) (show 0 ≤ m by omega)
        have h3 : (B + 2) * m = B * m + 2 * m := Int.add_mul _ _ _
        have hB : 0 ≤ B := by omega
        have h4 := Int.mul_le_mul_of_nonneg_left hm hB
        omega
  · by_cases g : q ≤ 0
    · omega
    · by_cases g2 : q ≤ B + 1
      · exact g2
      · have h2 := Int.mul_le_mul_of_nonneg_right (show B + 2 ≤ q by omega) (show 0 ≤ m by omega)
        have h3 : (B + 2) * m = B * m + 2 * m := Int.add_mul _ _ _
        have hB : 0 ≤ B := by omega
        have h4 := Int.mul_le_mul_of_nonneg_left hm hB
        omega
/-- s is the shift at x nanoseconds late. -/
def Ln.at (l : Ln) (x s : Int) : Prop := -l.N ≤ x - s * l.P ∧ x - s * l.P ≤ l.N
theorem near_mul {x m q s : Int} (hm : 1 ≤ m) (e : x.tdiv m = q) (h1 : q - 1 ≤ s) (h2 : s ≤ q + 1) : x - 2 * m ≤ s * m ∧ s * m ≤ x + 2 * m := by
  have b := tdiv_near hm e
  rcases (by omega : s = q - 1 ∨ s = q ∨ s = q + 1) with rfl | rfl | rfl
  · rw [Int.sub_mul]; omega
  · omega
  · rw [Int.add_mul]; omega
/-- The shift that the reference looks for. -/
theorem shift_unique {l : Ln} (h : l.Ok) {x s : Int} (h1 : -l.N ≤ x - s * l.P) (h2 : x - s * l.P ≤ l.N) : (x + l.N) / l.P = s ∧ (x + l.N) % l.P ≤ 2 * l.N := by
  obtain ⟨_, _, h3, _, _, h6⟩ := h
  have hp : 0 < l.P := by omega
  have e : x + l.N = (x + l.N - s * l.P) + l.P * s := by rw [Int.mul_comm l.P s]; omega
  have r0 : 0 ≤ x + l.N - s * l.P := by omega
  have r1 : x + l.N - s * l.P < l.P := by omega
  constructor
  · rw [e, Int.add_mul_ediv_left _ _ (by omega), Int.ediv_eq_zero_of_lt r0 r1]; omega
  · rw [e, Int.add_mul_emod_self_left, Int.emod_eq_of_lt r0 r1]; omega
theorem shift_found {l : Ln} (h : l.Ok) {x : Int} (h1 : (x + l.N) % l.P ≤ 2 * l.N) : -l.N ≤ x - (x + l.N) / l.P * l.P ∧ x - (x + l.N) / l.P * l.P ≤ l.N := by
  have h3 := h.2.2.1
  have e := Int.mul_ediv_add_emod (x + l.N) l.P
  have p := Int.emod_nonneg (x + l.N) (show l.P ≠ 0 by omega)
  rw [Int.mul_comm] at e
  omega
/-- The shift lies next to the quotient towards 0. -/
theorem shift_near {l : Ln} (h : l.Ok) {x s : Int} (h1 : -l.N ≤ x - s * l.P) (h2 : x - s * l.P ≤ l.N) : x.tdiv l.P - 1 ≤ s ∧ s ≤ x.tdiv l.P + 1 := by
  obtain ⟨_, _, h3, _, _, h6⟩ := h
  have e := Int.mul_tdiv_add_tmod x l.P
  have b := tmod_bd x l.P (by omega)
  rw [Int.mul_comm] at e
  generalize x.tdiv l.P = q at *
  generalize x.tmod l.P = r at *
  -- x = q P + r, |r| < P, |x - s P| ≤ N < P/2
  constructor
  · by_cases g : q - 1 ≤ s
    · exact g
    · have : s + 2 ≤ q := by omega
      have := Int.mul_le_mul_of_nonneg_right this (show 0 ≤ l.P by omega)
      rw [Int.add_mul] at this
      omega
  · by_cases g : s ≤ q + 1
    · exact g
    · have : q + 2 ≤ s := by omega
      have := Int.mul_le_mul_of_nonneg_right this (show 0 ≤ l.P by omega)
      rw [Int.add_mul] at this
      omega
/-- What the search comes to. -/
theorem shift_hit {l : Ln} (h : l.Ok) {t x s : Int} (hx : l.D + l.S * t - l.W * l.B * l.P = x) (hs : l.at x s) : l.shift t = some s := by
  have u := shift_unique h hs.1 hs.2
  unfold Ln.shift
  rw [show l.late t = x from hx, if_neg (by omega), u.1]
theorem shift_miss {l : Ln} (h : l.Ok) {t x q : Int} (hx : l.D + l.S * t - l.W * l.B * l.P = x) (hq : x.tdiv l.P = q) (hno : ∀ s, q - 1 ≤ s → s < q + 2 → ¬ l.at x s) : l.shift t = none := by
  unfold Ln.shift
  rw [show l.late t = x from hx]
  split
  · rfl
  · rename_i g
    have f := shift_found (x := x) h (by omega)
    have n := shift_near h f.1 f.2
    rw [hq] at n
    exact absurd f (hno _ (by omega) (by omega))
end Go.Proofs.Ytlocdkjnefmiaaa
namespace Go.Proofs.Ytlocdkjnefmiaaa
open Go.RowKit
set_option linter.unusedVariables false
set_option linter.unusedSimpArgs false

theorem hid {p : Prop} (h : p) : Hid p := h
theorem bcell {W w1 : World} (hb : Below W.heap.size W w1) : (∀ b o, b < W.heap.size → w1.cell? ⟨b, o, none⟩ = W.cell? ⟨b, o, none⟩) ∧ (∀ b o, b < W.heap.size → w1.frozen? ⟨b, o, none⟩ = W.frozen? ⟨b, o, none⟩) :=
  ⟨fun b o h => hb.cell (p := ⟨b, o, none⟩) h, fun b o h => hb.frozen (p := ⟨b, o, none⟩) h⟩
theorem b_alloc {w W : World} (h : Below w.heap.size w W) (o : Obj) : Below w.heap.size w (W.alloc o) := h.alloc h.size o
theorem b_drewN {B : Nat} {w W : World} (h : Below B w W) (n : Nat) : Below B w (W.drewN n) := ⟨h.os, h.tape, h.output, h.size, h.block⟩
theorem b_call {w W w' : World} (hb : Below W.heap.size W w') (h : Below w.heap.size w W) : Below w.heap.size w w' := h.trans (hb.mono h.size)
/-- A cell that may be read and written. -/
def Cel (W : World) (b o : Nat) (v : Value) : Prop := W.cell? ⟨b, o, none⟩ = some v ∧ W.frozen? ⟨b, o, none⟩ = false
theorem Cel.lt {W : World} {b o : Nat} {v : Value} (h : Cel W b o v) : b < W.heap.size := World.block_lt_of_cell? W _ h.1
theorem Cel.alloc {W : World} {b o : Nat} {v : Value} (h : Cel W b o v) (x : Obj) : Cel (W.alloc x) b o v :=
  ⟨(World.cell?_alloc_past x b o h.lt).trans h.1, (World.frozen?_alloc_old W x ⟨b, o, none⟩ (Nat.ne_of_lt h.lt)).trans h.2⟩
theorem Cel.call {W W' : World} {b o : Nat} {v : Value} (h : Cel W b o v) (hb : Below W.heap.size W W') : Cel W' b o v :=
  ⟨(hb.cell (p := ⟨b, o, none⟩) h.lt).trans h.1, (hb.frozen (p := ⟨b, o, none⟩) h.lt).trans h.2⟩
theorem Cel.below {B : Nat} {W W' : World} {b o : Nat} {v : Value} (h : Cel W b o v) (hb : Below B W W') (hB : b < B) : Cel W' b o v :=
  ⟨(hb.cell (p := ⟨b, o, none⟩) hB).trans h.1, (hb.frozen (p := ⟨b, o, none⟩) hB).trans h.2⟩
theorem Cel.new (W : World) (cs : Array Value) (t : TypeId) (o : Nat) (v : Value) (h : cs[o]? = some v) : Cel (W.alloc (.cells cs t)) W.heap.size o v :=
  ⟨by simp [go_sem, h], by simp [go_sem]⟩
/-- The call returns v; whatever lay before it lies as it lay. -/
def Ret (w : World) (v : Value) (e : Ending) (w' : World) : Prop := e = .returned v ∧ Below w.heap.size w w'
theorem Ret.mk {w w' : World} {v : Value} {e : Ending} (h : e = .returned v) (hb : Below w.heap.size w w') : Ret w v e w' := ⟨h, hb⟩
abbrev Ln.val (l : Ln) : Value := .agg #[.int .i64 l.W, .int .i64 l.B, .int .i64 l.P, .int .i64 l.D, .int .i64 l.S, .int .i64 l.N]
theorem ret_bool {a b : Bool} (h : a = b) : Ending.returned (.bool a) = .returned (.bool b) := by rw [h]
theorem ret_int {k : IntKind} {a b : Int} (h : a = b) : Ending.returned (.int k a) = .returned (.int k b) := by rw [h]

set_option maxHeartbeats 400000 in
theorem within_any (n lo hi : Int) (w : World) :
    Calls Try.prog 53 #[.int .i64 n, .int .i64 lo, .int .i64 hi] w fun e w' => e = .returned (.bool (decide (lo ≤ n ∧ n ≤ hi))) ∧ w = w' := by
  go_enter Try.func53, Try.ntmps53
  go_wp2
  all_goals (go_ret; exact ⟨ret_bool (by simp [*] <;> omega), rfl⟩)
set_option maxHeartbeats 400000 in
theorem in_any (n lo hi : Int) (w : World) :
    Calls Try.prog 56 #[.int .i64 n, .int .i64 lo, .int .i64 hi] w fun e w' => e = .returned (.bool (decide (lo ≤ n ∧ n ≤ hi))) ∧ w = w' := by
  go_enter Try.func56, Try.ntmps56
  go_wp2
  all_goals (go_ret; exact ⟨ret_bool (by simp [*] <;> omega), rfl⟩)
set_option maxHeartbeats 400000 in
theorem isTemp_any (n : Int) (w : World) :
    Calls Try.prog 57 #[.int .i64 n] w fun e w' => e = .returned (.bool (decide (-500 ≤ n ∧ n ≤ 1000))) ∧ w = w' := by
  go_enter Try.func57, Try.ntmps57
  go_wp2_with (go_at_call 53; refine (within_any _ _ _ _).mono ?_; rintro e w' ⟨rfl, rfl⟩)
  go_ret
  exact ⟨ret_bool (by simp), rfl⟩
set_option maxHeartbeats 400000 in
theorem Temp_any (n : Int) (w : World) :
    Calls Try.prog 47 #[.int .i64 n] w fun e w' => e = .returned (.bool (decide (-500 ≤ n ∧ n ≤ 1000))) ∧ w = w' := by
  go_enter Try.func47, Try.ntmps47
  go_wp2_with (go_at_call 56; refine (in_any _ _ _ _).mono ?_; rintro e w' ⟨rfl, rfl⟩)
  go_ret
  exact ⟨ret_bool (by simp), rfl⟩
set_option maxHeartbeats 400000 in
theorem modulo_any (n m : Int) (w : World) (hm : 1 ≤ m) (hm' : m ≤ 1000000000000) :
    Calls Try.prog 77 #[.int .i64 n, .int .i64 m] w fun e w' => e = .returned (.int .i64 (n % m)) ∧ w = w' := by
  have hb := tmod_bd n m hm
  go_enter Try.func77, Try.ntmps77
  go_wp2
  go_ret
  exact ⟨ret_int (by rw [← tmod_fix n m hm]; exact (Int.tmod_eq_emod_of_nonneg (by omega)).symm), rfl⟩
set_option maxHeartbeats 400000 in
theorem beats_any (l : Ln) (hl : l.Ok) (w : World) :
    Calls Try.prog 71 #[l.val] w (Ret w (.int .i64 (l.W * l.B))) := by
  have hb := hl.beats
  go_enter Try.func71, Try.ntmps71
  go_wp2
  go_ret
  exact ⟨rfl, (Below.refl _ _).alloc (Nat.le_refl _) _⟩
set_option maxHeartbeats 400000 in
theorem bytesOf_any (b : Int) (hb : 1 ≤ b ∧ b ≤ 40) (w : World) :
    Calls Try.prog 85 #[.int .i64 b] w fun e w' => e = .returned (.int .i64 ((b + 7) / 8)) ∧ w = w' := by
  go_enter Try.func85, Try.ntmps85
  go_wp2
  go_ret
  exact ⟨rfl, rfl⟩

def errno (p : Prop) [Decidable p] : Int := if p then 0 else 7

theorem win_fix (p : Int) (h : 2 ≤ p ∧ p ≤ 100000) : wrap64 ((wrap64 (p - 1)).tdiv 2) = (p - 1) / 2 := by
  unfold wrap64; rw [Int.tdiv_eq_ediv_of_nonneg (by omega)]; omega

theorem errno_yes {p : Prop} [Decidable p] (h : p) : 0 = errno p := by simp [errno, h]
theorem errno_no {p : Prop} [Decidable p] (h : ¬ p) : 7 = errno p := by simp [errno, h]

set_option maxHeartbeats 1000000 in
theorem Check_any (l : Ln) (w : World) :
    Calls Try.prog 25 #[l.val] w (Ret w (.int .i64 (errno l.Ok))) := by
  go_enter Try.func25, Try.ntmps25
  go_wp2_with (go_at_call 53; refine (within_any _ _ _ _).mono ?_; rintro e w' ⟨rfl, rfl⟩)
  all_goals (go_ret; refine ⟨ret_int ?_, (Below.refl _ _).alloc (Nat.le_refl _) _⟩)
  all_goals first
    | exact errno_no (by unfold Ln.Ok; simp at *; omega)
    | exact errno_yes (by unfold Ln.Ok; simp at *; omega)

set_option maxHeartbeats 1000000 in
theorem refCheck_any (l : Ln) (w : World) :
    Calls Try.prog 26 #[l.val] w (Ret w (.int .i64 (errno l.Ok))) := by
  go_enter Try.func26, Try.ntmps26
  go_wp2_with (go_at_call 56; refine (in_any _ _ _ _).mono ?_; rintro e w' ⟨rfl, rfl⟩)
  all_goals (go_ret; refine ⟨ret_int ?_, (Below.refl _ _).alloc (Nat.le_refl _) _⟩)
  all_goals first
    | exact errno_no (by unfold Ln.Ok; simp at *; omega)
    | exact errno_yes (by unfold Ln.Ok; simp at *; omega)

/-! ### roundAt, Shift -/
def Ln.round (l : Ln) (t : Int) : Value := match l.shift t with
  | none => .agg #[.int .i64 0, .bool true]
  | some s => .agg #[.int .i64 s, .bool false]
/-- The line lies in block b. -/
abbrev LnAt (b : Nat) (l : Ln) (w : World) : Prop := w.cell? ⟨b, 0, none⟩ = some (.int .i64 l.W) ∧ w.cell? ⟨b, 1, none⟩ = some (.int .i64 l.B) ∧ w.cell? ⟨b, 2, none⟩ = some (.int .i64 l.P) ∧ w.cell? ⟨b, 3, none⟩ = some (.int .i64 l.D) ∧ w.cell? ⟨b, 4, none⟩ = some (.int .i64 l.S) ∧ w.cell? ⟨b, 5, none⟩ = some (.int .i64 l.N)
set_option maxHeartbeats 1000000 in
theorem roundAt_any (l : Ln) (hl : l.Ok) (t : Int) (ht : -500 ≤ t ∧ t ≤ 1000) (w : World) :
    Calls Try.prog 58 #[l.val, .int .i64 t] w (Ret w (l.round t)) := by
  have b1 := hl.slope ht.1 ht.2
  have b2 := hl.all
  have b3 := hl.beats
  have b4 := hl.late_bd ht.1 ht.2
  obtain ⟨h1, h2, h3, h4, h5, h6⟩ := id hl
  have w1 : IntKind.i64.wrap (l.S * t) = l.S * t := IntWalk.i64_in _ (by omega)
  have w2 : IntKind.i64.wrap (l.D + l.S * t) = l.D + l.S * t := IntWalk.i64_in _ (by omega)
  have w3 : IntKind.i64.wrap (l.W * l.B * l.P) = l.W * l.B * l.P := IntWalk.i64_in _ (by omega)
  have w4 : IntKind.i64.wrap (l.D + l.S * t - l.W * l.B * l.P) = l.late t := IntWalk.i64_in _ (by omega)
  have m1 := Int.emod_nonneg (l.late t + l.N) (show l.P ≠ 0 by omega)
  have m2 := Int.emod_lt_of_pos (l.late t + l.N) (show 0 < l.P by omega)
  rcases (by omega : 2 * l.N < (l.late t + l.N) % l.P ∨ (l.late t + l.N) % l.P ≤ 2 * l.N) with hc | hc
  all_goals
    go_enter Try.func58, Try.ntmps58
    go_wp2_with fail
    go_region_held3 (fun w' => w'.cell? ⟨w.heap.size, 0, none⟩ = some (.int .i64 l.W) ∧ w'.cell? ⟨w.heap.size, 1, none⟩ = some (.int .i64 l.B) ∧ w'.cell? ⟨w.heap.size, 2, none⟩ = some (.int .i64 l.P) ∧ w'.cell? ⟨w.heap.size, 3, none⟩ = some (.int .i64 l.D) ∧ w'.cell? ⟨w.heap.size, 4, none⟩ = some (.int .i64 l.S) ∧ w'.cell? ⟨w.heap.size, 5, none⟩ = some (.int .i64 l.N))
      (first
        | go_keep
        | (go_split_ands; refine ⟨?_, ?_, ?_, ?_, ?_, ?_⟩ <;> exact cell_later hb (by assumption)))
      (first | (go_at_call 71; refine (beats_any l hl _).mono ?_; rintro e w' ⟨rfl, hb⟩; have hB := hb; obtain ⟨hc1, hf1⟩ := bcell hb))
    clear w1 w2 w3 w4
    go_wp2_with (go_at_call 77; refine (modulo_any _ _ _ (by omega) (by omega)).mono ?_; rintro e w' ⟨rfl, rfl⟩)
  · refine bodyPost_ret (v := .agg #[.int .i64 0, .bool true]) (by simp [results, Try.results58, go_sem, hc1]) rfl ⟨by simp [Ln.round, Ln.shift, hc], ?_⟩
    (repeat (first | assumption | exact Below.refl _ _ | refine b_alloc ?_ _ | refine Below.drew ?_ | refine b_drewN ?_ _ | refine Below.setCell ?_ (by first | omega | (simp; done) | (simp; omega)) _ | refine b_call (by assumption) ?_))
  · refine bodyPost_ret (v := .agg #[.int .i64 ((l.late t + l.N) / l.P), .bool false]) (by simp [results, Try.results58, go_sem, hc1, sub_mod_div (l.late t + l.N) l.P (by omega)]) rfl ⟨by simp [Ln.round, Ln.shift, Int.not_lt.2 hc], ?_⟩
    (repeat (first | assumption | exact Below.refl _ _ | refine b_alloc ?_ _ | refine Below.drew ?_ | refine b_drewN ?_ _ | refine Below.setCell ?_ (by first | omega | (simp; done) | (simp; omega)) _ | refine b_call (by assumption) ?_))
end Go.Proofs.Ytlocdkjnefmiaaa

namespace Go.Proofs.Ytlocdkjnefmiaaa
open Go.RowKit
set_option linter.unusedVariables false
set_option linter.unusedSimpArgs false

theorem Check_ok (l : Ln) (h : l.Ok) (w : World) : Calls Try.prog 25 #[l.val] w (Ret w (.int .i64 0)) := by
  have := Check_any l w; rwa [show errno l.Ok = 0 from (errno_yes h).symm] at this
theorem Check_no (l : Ln) (h : ¬ l.Ok) (w : World) : Calls Try.prog 25 #[l.val] w (Ret w (.int .i64 7)) := by
  have := Check_any l w; rwa [show errno l.Ok = 7 from (errno_no h).symm] at this
theorem refCheck_ok (l : Ln) (h : l.Ok) (w : World) : Calls Try.prog 26 #[l.val] w (Ret w (.int .i64 0)) := by
  have := refCheck_any l w; rwa [show errno l.Ok = 0 from (errno_yes h).symm] at this
theorem refCheck_no (l : Ln) (h : ¬ l.Ok) (w : World) : Calls Try.prog 26 #[l.val] w (Ret w (.int .i64 7)) := by
  have := refCheck_any l w; rwa [show errno l.Ok = 7 from (errno_no h).symm] at this

abbrev Temp (t : Int) : Prop := -500 ≤ t ∧ t ≤ 1000
abbrev val3 (n : Int) (b : Bool) (e : Int) : Value := .tuple #[.int .i64 n, .bool b, .int .i64 e]

set_option maxHeartbeats 1000000 in
theorem Shift_no (l : Ln) (h : ¬ l.Ok) (t : Int) (w : World) : Calls Try.prog 23 #[l.val, .int .i64 t] w (Ret w (val3 0 false 7)) := by
  go_enter Try.func23, Try.ntmps23
  go_wp2_with (go_at_call 25; refine (Check_no l h _).mono ?_; rintro e w1 ⟨rfl, hb1⟩; obtain ⟨hc1, hf1⟩ := bcell hb1)
  go_ret3
  exact ⟨rfl, by (repeat (first | assumption | exact Below.refl _ _ | refine b_alloc ?_ _ | refine Below.drew ?_ | refine b_drewN ?_ _ | refine Below.setCell ?_ (by first | omega | (simp; done) | (simp; omega)) _ | refine b_call (by assumption) ?_))⟩
set_option maxHeartbeats 1000000 in
theorem Shift_temp (l : Ln) (h : l.Ok) (t : Int) (ht : ¬ Temp t) (w : World) : Calls Try.prog 23 #[l.val, .int .i64 t] w (Ret w (val3 0 false 7)) := by
  have hd : decide (-500 ≤ t ∧ t ≤ 1000) = false := by simpa using ht
  go_enter Try.func23, Try.ntmps23
  go_wp2_with (first | (go_at_call 25; refine (Check_ok l h _).mono ?_; rintro e w1 ⟨rfl, hb1⟩; obtain ⟨hc1, hf1⟩ := bcell hb1) | (go_at_call 57; refine (isTemp_any _ _).mono ?_; rintro e w1 ⟨rfl, rfl⟩))
  go_ret3
  exact ⟨rfl, by (repeat (first | assumption | exact Below.refl _ _ | refine b_alloc ?_ _ | refine Below.drew ?_ | refine b_drewN ?_ _ | refine Below.setCell ?_ (by first | omega | (simp; done) | (simp; omega)) _ | refine b_call (by assumption) ?_))⟩
set_option maxHeartbeats 1000000 in
theorem Shift_lost (l : Ln) (h : l.Ok) (t : Int) (ht : Temp t) (hs : l.shift t = none) (w : World) : Calls Try.prog 23 #[l.val, .int .i64 t] w (Ret w (val3 0 true 0)) := by
  have hd : decide (-500 ≤ t ∧ t ≤ 1000) = true := by simpa using ht
  have hr : l.round t = .agg #[.int .i64 0, .bool true] := by simp [Ln.round, hs]
  go_enter Try.func23, Try.ntmps23
  go_wp2_with (first | (go_at_call 25; refine (Check_ok l h _).mono ?_; rintro e w1 ⟨rfl, hb1⟩; obtain ⟨hc1, hf1⟩ := bcell hb1) | (go_at_call 57; refine (isTemp_any _ _).mono ?_; rintro e w1 ⟨rfl, rfl⟩) | (go_at_call 58; refine (roundAt_any l h t ht _).mono ?_; rintro e w1 ⟨rfl, hb1⟩; obtain ⟨hc1, hf1⟩ := bcell hb1))
  go_quiet (fail)
  go_wp2
  go_ret3
  exact ⟨rfl, by (repeat (first | assumption | exact Below.refl _ _ | refine b_alloc ?_ _ | refine Below.drew ?_ | refine b_drewN ?_ _ | refine Below.setCell ?_ (by first | omega | (simp; done) | (simp; omega)) _ | refine b_call (by assumption) ?_))⟩
set_option maxHeartbeats 1000000 in
theorem Shift_is (l : Ln) (h : l.Ok) (t : Int) (ht : Temp t) (s : Int) (hs : l.shift t = some s) (w : World) : Calls Try.prog 23 #[l.val, .int .i64 t] w (Ret w (val3 s false 0)) := by
  have hd : decide (-500 ≤ t ∧ t ≤ 1000) = true := by simpa using ht
  have hr : l.round t = .agg #[.int .i64 s, .bool false] := by simp [Ln.round, hs]
  go_enter Try.func23, Try.ntmps23
  go_wp2_with (first | (go_at_call 25; refine (Check_ok l h _).mono ?_; rintro e w1 ⟨rfl, hb1⟩; obtain ⟨hc1, hf1⟩ := bcell hb1) | (go_at_call 57; refine (isTemp_any _ _).mono ?_; rintro e w1 ⟨rfl, rfl⟩) | (go_at_call 58; refine (roundAt_any l h t ht _).mono ?_; rintro e w1 ⟨rfl, hb1⟩; obtain ⟨hc1, hf1⟩ := bcell hb1))
  go_quiet (fail)
  go_wp2
  go_ret3
  exact ⟨rfl, by (repeat (first | assumption | exact Below.refl _ _ | refine b_alloc ?_ _ | refine Below.drew ?_ | refine b_drewN ?_ _ | refine Below.setCell ?_ (by first | omega | (simp; done) | (simp; omega)) _ | refine b_call (by assumption) ?_))⟩

/-! ### the reference's -/
set_option maxHeartbeats 1000000 in
theorem refshift_any (l : Ln) (h : l.Ok) (t : Int) (ht : Temp t) (w : World) : Calls Try.prog 59 #[l.val, .int .i64 t] w (Ret w (.tuple #[.int .i64 ((l.shift t).getD 0), .bool (l.shift t).isSome])) := by
  have b1 := h.slope ht.1 ht.2
  have b2 := h.all
  have b3 := h.beats
  have b4 := h.late_bd ht.1 ht.2
  obtain ⟨h1, h2, h3, h4, h5, h6⟩ := id h
  obtain ⟨x, hx⟩ : ∃ x, l.D + l.S * t - l.W * l.B * l.P = x := ⟨_, rfl⟩
  obtain ⟨q, hq⟩ : ∃ q, x.tdiv l.P = q := ⟨_, rfl⟩
  have b5 : -356000000 ≤ x ∧ x ≤ 1100000000 := by unfold Ln.late at b4; omega
  have b6 := tdiv_bd (B := 1100000000) (by omega) hq (by omega)
  go_enter Try.func59, Try.ntmps59
  go_wp2
  have HX := hid hx
  have HQ := hid hq
  clear hx hq
  go_loop [8] (fun i => ∃ s : Int, q - 1 ≤ s ∧ s ≤ q + 2 ∧ i = .int .i64 s ∧ ∀ j, q - 1 ≤ j → j < s → ¬ l.at x j) (fun i => (q + 2 - intOf i).toNat)
  case atStart => exact ⟨q - 1, by omega, by omega, rfl, fun j h1 h2 => by omega⟩
  case round =>
    obtain ⟨s, hs1, hs2, rfl, hno⟩ := hrel
    have HN := hid hno
    clear hno
    by_cases hle : s ≤ q + 1
    · have nm := near_mul (by omega) HQ.out hs1 hle
      by_cases hin : -l.N ≤ x - s * l.P ∧ x - s * l.P ≤ l.N
      · have hr := shift_hit h HX.out hin
        go_wp2_with (go_at_call 56; refine (in_any _ _ _ _).mono ?_; rintro e w1 ⟨rfl, rfl⟩)
        go_ret2
        exact ⟨by rw [hr]; rfl, by (repeat (first | assumption | exact Below.refl _ _ | refine b_alloc ?_ _ | refine Below.drew ?_ | refine b_drewN ?_ _ | refine Below.setCell ?_ (by first | omega | (simp; done) | (simp; omega)) _ | refine b_call (by assumption) ?_))⟩
      · go_wp2_with (go_at_call 56; refine (in_any _ _ _ _).mono ?_; rintro e w1 ⟨rfl, rfl⟩)
        go_round
        case rel => exact ⟨s + 1, by omega, by omega, rfl, fun j h1 h2 => if e : j = s then e ▸ hin else HN.out j h1 (by omega)⟩
        case measure => simp [intOf]; omega
    · obtain rfl : s = q + 2 := by omega
      have hr := shift_miss h HX.out HQ.out HN.out
      go_wp2
      go_ret2
      exact ⟨rfl, by (repeat (first | assumption | exact Below.refl _ _ | refine b_alloc ?_ _ | refine Below.drew ?_ | refine b_drewN ?_ _ | refine Below.setCell ?_ (by first | omega | (simp; done) | (simp; omega)) _ | refine b_call (by assumption) ?_))⟩

theorem refshift_lost (l : Ln) (h : l.Ok) (t : Int) (ht : Temp t) (hs : l.shift t = none) (w : World) : Calls Try.prog 59 #[l.val, .int .i64 t] w (Ret w (.tuple #[.int .i64 0, .bool false])) := by
  have := refshift_any l h t ht w; rwa [hs] at this
theorem refshift_is (l : Ln) (h : l.Ok) (t : Int) (ht : Temp t) (s : Int) (hs : l.shift t = some s) (w : World) : Calls Try.prog 59 #[l.val, .int .i64 t] w (Ret w (.tuple #[.int .i64 s, .bool true])) := by
  have := refshift_any l h t ht w; rwa [hs] at this

set_option maxHeartbeats 1000000 in
theorem refShift_no (l : Ln) (h : ¬ l.Ok) (t : Int) (w : World) : Calls Try.prog 24 #[l.val, .int .i64 t] w (Ret w (val3 0 false 7)) := by
  go_enter Try.func24, Try.ntmps24
  go_wp2_with (go_at_call 26; refine (refCheck_no l h _).mono ?_; rintro e w1 ⟨rfl, hb1⟩; obtain ⟨hc1, hf1⟩ := bcell hb1)
  go_ret3
  exact ⟨rfl, by (repeat (first | assumption | exact Below.refl _ _ | refine b_alloc ?_ _ | refine Below.drew ?_ | refine b_drewN ?_ _ | refine Below.setCell ?_ (by first | omega | (simp; done) | (simp; omega)) _ | refine b_call (by assumption) ?_))⟩
set_option maxHeartbeats 1000000 in
theorem refShift_temp (l : Ln) (h : l.Ok) (t : Int) (ht : ¬ Temp t) (w : World) : Calls Try.prog 24 #[l.val, .int .i64 t] w (Ret w (val3 0 false 7)) := by
  have hd : decide (-500 ≤ t ∧ t ≤ 1000) = false := by simpa using ht
  go_enter Try.func24, Try.ntmps24
  go_wp2_with (first | (go_at_call 26; refine (refCheck_ok l h _).mono ?_; rintro e w1 ⟨rfl, hb1⟩; obtain ⟨hc1, hf1⟩ := bcell hb1) | (go_at_call 47; refine (Temp_any _ _).mono ?_; rintro e w1 ⟨rfl, rfl⟩))
  go_ret3
  exact ⟨rfl, by (repeat (first | assumption | exact Below.refl _ _ | refine b_alloc ?_ _ | refine Below.drew ?_ | refine b_drewN ?_ _ | refine Below.setCell ?_ (by first | omega | (simp; done) | (simp; omega)) _ | refine b_call (by assumption) ?_))⟩
set_option maxHeartbeats 1000000 in
theorem refShift_lost (l : Ln) (h : l.Ok) (t : Int) (ht : Temp t) (hs : l.shift t = none) (w : World) : Calls Try.prog 24 #[l.val, .int .i64 t] w (Ret w (val3 0 true 0)) := by
  have hd : decide (-500 ≤ t ∧ t ≤ 1000) = true := by simpa using ht
  go_enter Try.func24, Try.ntmps24
  go_wp2_with (first | (go_at_call 26; refine (refCheck_ok l h _).mono ?_; rintro e w1 ⟨rfl, hb1⟩; obtain ⟨hc1, hf1⟩ := bcell hb1) | (go_at_call 47; refine (Temp_any _ _).mono ?_; rintro e w1 ⟨rfl, rfl⟩) | (go_at_call 59; refine (refshift_lost l h t ht hs _).mono ?_; rintro e w1 ⟨rfl, hb1⟩; obtain ⟨hc1, hf1⟩ := bcell hb1))
  go_ret3
  exact ⟨rfl, by (repeat (first | assumption | exact Below.refl _ _ | refine b_alloc ?_ _ | refine Below.drew ?_ | refine b_drewN ?_ _ | refine Below.setCell ?_ (by first | omega | (simp; done) | (simp; omega)) _ | refine b_call (by assumption) ?_))⟩
set_option maxHeartbeats 1000000 in
theorem refShift_is (l : Ln) (h : l.Ok) (t : Int) (ht : Temp t) (s : Int) (hs : l.shift t = some s) (w : World) : Calls Try.prog 24 #[l.val, .int .i64 t] w (Ret w (val3 s false 0)) := by
  have hd : decide (-500 ≤ t ∧ t ≤ 1000) = true := by simpa using ht
  go_enter Try.func24, Try.ntmps24
  go_wp2_with (first | (go_at_call 26; refine (refCheck_ok l h _).mono ?_; rintro e w1 ⟨rfl, hb1⟩; obtain ⟨hc1, hf1⟩ := bcell hb1) | (go_at_call 47; refine (Temp_any _ _).mono ?_; rintro e w1 ⟨rfl, rfl⟩) | (go_at_call 59; refine (refshift_is l h t ht s hs _).mono ?_; rintro e w1 ⟨rfl, hb1⟩; obtain ⟨hc1, hf1⟩ := bcell hb1))
  go_ret3
  exact ⟨rfl, by (repeat (first | assumption | exact Below.refl _ _ | refine b_alloc ?_ _ | refine Below.drew ?_ | refine b_drewN ?_ _ | refine Below.setCell ?_ (by first | omega | (simp; done) | (simp; omega)) _ | refine b_call (by assumption) ?_))⟩

/-- What Shift returns, of any line and number. -/
def Ln.shiftV (l : Ln) (t : Int) : Value :=
  if l.Ok ∧ Temp t then match l.shift t with | none => val3 0 true 0 | some s => val3 s false 0 else val3 0 false 7
theorem Shift_any (l : Ln) (t : Int) (w : World) : Calls Try.prog 23 #[l.val, .int .i64 t] w (Ret w (l.shiftV t)) := by
  unfold Ln.shiftV
  by_cases h : l.Ok
  · by_cases ht : Temp t
    · rw [if_pos ⟨h, ht⟩]
      cases hs : l.shift t with
      | none => exact Shift_lost l h t ht hs w
      | some s => exact Shift_is l h t ht s hs w
    · rw [if_neg (fun g => ht g.2)]; exact Shift_temp l h t ht w
  · rw [if_neg (fun g => h g.1)]; exact Shift_no l h t w
theorem refShift_any (l : Ln) (t : Int) (w : World) : Calls Try.prog 24 #[l.val, .int .i64 t] w (Ret w (l.shiftV t)) := by
  unfold Ln.shiftV
  by_cases h : l.Ok
  · by_cases ht : Temp t
    · rw [if_pos ⟨h, ht⟩]
      cases hs : l.shift t with
      | none => exact refShift_lost l h t ht hs w
      | some s => exact refShift_is l h t ht s hs w
    · rw [if_neg (fun g => ht g.2)]; exact refShift_temp l h t ht w
  · rw [if_neg (fun g => h g.1)]; exact refShift_no l h t w

/-! ### the reference's safe -/
def Ln.safe (l : Ln) (t : Int) : Prop := l.shift t = some 0
instance (l : Ln) (t : Int) : Decidable (l.safe t) := by unfold Ln.safe; infer_instance
set_option maxHeartbeats 1000000 in
theorem refsafe_any (l : Ln) (h : l.Ok) (t : Int) (ht : Temp t) (w : World) : Calls Try.prog 62 #[l.val, .int .i64 t] w (Ret w (.bool (decide (l.safe t)))) := by
  have hd : decide (-500 ≤ t ∧ t ≤ 1000) = true := by simpa using ht
  have hS : decide (l.safe t) = (l.shift t == some 0) := by
    by_cases g : l.shift t = some 0
    · rw [decide_eq_true (show l.safe t from g)]; simp [g]
    · rw [decide_eq_false (show ¬ l.safe t from g)]; simp [g]
  rw [hS]
  clear hS
  cases hs : l.shift t with
  | none =>
    go_enter Try.func62, Try.ntmps62
    go_wp2_with (first | (go_at_call 47; refine (Temp_any _ _).mono ?_; rintro e w1 ⟨rfl, rfl⟩) | (go_at_call 59; refine (refshift_lost l h t ht hs _).mono ?_; rintro e w1 ⟨rfl, hb1⟩; obtain ⟨hc1, hf1⟩ := bcell hb1))
    go_ret
    exact ⟨rfl, by (repeat (first | assumption | exact Below.refl _ _ | refine b_alloc ?_ _ | refine Below.drew ?_ | refine b_drewN ?_ _ | refine Below.setCell ?_ (by first | omega | (simp; done) | (simp; omega)) _ | refine b_call (by assumption) ?_))⟩
  | some s =>
    go_enter Try.func62, Try.ntmps62
    go_wp2_with (first | (go_at_call 47; refine (Temp_any _ _).mono ?_; rintro e w1 ⟨rfl, rfl⟩) | (go_at_call 59; refine (refshift_is l h t ht s hs _).mono ?_; rintro e w1 ⟨rfl, hb1⟩; obtain ⟨hc1, hf1⟩ := bcell hb1))
    all_goals (go_ret; exact ⟨ret_bool (by simp [*]), by (repeat (first | assumption | exact Below.refl _ _ | refine b_alloc ?_ _ | refine Below.drew ?_ | refine b_drewN ?_ _ | refine Below.setCell ?_ (by first | omega | (simp; done) | (simp; omega)) _ | refine b_call (by assumption) ?_))⟩)
end Go.Proofs.Ytlocdkjnefmiaaa
namespace Go.Proofs.Ytlocdkjnefmiaaa
open Go.RowKit
set_option linter.unusedVariables false
set_option linter.unusedSimpArgs false

def nextOk (l : Ln) (word beat : Int) : Prop := l.Ok ∧ (0 ≤ word ∧ word ≤ l.W - 1) ∧ (0 ≤ beat ∧ beat ≤ 1000000000)
instance (l : Ln) (word beat : Int) : Decidable (nextOk l word beat) := by unfold nextOk; infer_instance
def nextOf (l : Ln) (word beat : Int) : Int := beat + 1 + (word * l.B - (beat + 1)) % (l.W * l.B)
abbrev val2 (n e : Int) : Value := .tuple #[.int .i64 n, .int .i64 e]
def nextV (l : Ln) (word beat : Int) : Value := if nextOk l word beat then val2 (nextOf l word beat) 0 else val2 0 7

theorem lnAt_new' (ln : Ln) (w : World) : LnAt w.heap.size ln (w.alloc (.cells #[.int .i64 ln.W, .int .i64 ln.B, .int .i64 ln.P, .int .i64 ln.D, .int .i64 ln.S, .int .i64 ln.N] 25)) := by
  unfold LnAt; simp [go_sem]
theorem lnAt_call {b : Nat} {ln : Ln} {W W' : World} (h : LnAt b ln W) (hb : Below W.heap.size W W') : LnAt b ln W' :=
  ⟨cell_later hb h.1, cell_later hb h.2.1, cell_later hb h.2.2.1, cell_later hb h.2.2.2.1, cell_later hb h.2.2.2.2.1, cell_later hb h.2.2.2.2.2⟩
theorem word_bd {l : Ln} (h : l.Ok) {word : Int} (hw : 0 ≤ word ∧ word ≤ l.W - 1) : 0 ≤ word * l.B ∧ word * l.B ≤ 2560 ∧ word * l.B < l.W * l.B := by
  obtain ⟨h1, h2, _⟩ := h
  have a := mul_le_mul_bd (A := 64) (B := 40) hw.1 (by omega) (show 0 ≤ l.B by omega) h2.2
  have b := Int.mul_le_mul_of_nonneg_right (show word + 1 ≤ l.W by omega) (show 0 ≤ l.B by omega)
  rw [Int.add_mul] at b
  omega

set_option maxHeartbeats 1000000 in
theorem Next_no (l : Ln) (h : ¬ l.Ok) (word beat : Int) (w : World) : Calls Try.prog 34 #[l.val, .int .i64 word, .int .i64 beat] w (Ret w (val2 0 7)) := by
  go_enter Try.func34, Try.ntmps34
  go_wp2_with (go_at_call 25; refine (Check_no l h _).mono ?_; rintro e w1 ⟨rfl, hb1⟩; obtain ⟨hc1, hf1⟩ := bcell hb1)
  go_ret2
  exact ⟨rfl, by (repeat (first | assumption | exact Below.refl _ _ | refine b_alloc ?_ _ | refine Below.drew ?_ | refine b_drewN ?_ _ | refine Below.setCell ?_ (by first | omega | (simp; done) | (simp; omega)) _ | refine b_call (by assumption) ?_))⟩
set_option maxHeartbeats 2000000 in
theorem Next_ok (l : Ln) (h : l.Ok) (word beat : Int) (w : World) : Calls Try.prog 34 #[l.val, .int .i64 word, .int .i64 beat] w (Ret w (nextV l word beat)) := by
  obtain ⟨b1, b2⟩ := h.beats
  have b3 := h.beats1
  by_cases hw : 0 ≤ word ∧ word ≤ l.W - 1
  · have hwb := word_bd h hw
    obtain ⟨h1, h2, _⟩ := id h
    by_cases hb : 0 ≤ beat ∧ beat ≤ 1000000000
    · have hv : nextV l word beat = val2 (nextOf l word beat) 0 := if_pos ⟨h, hw, hb⟩
      have HV := hid hv
      have m1 := Int.emod_nonneg (word * l.B - (beat + 1)) (show l.W * l.B ≠ 0 by omega)
      have m2 := Int.emod_lt_of_pos (word * l.B - (beat + 1)) (show 0 < l.W * l.B by omega)
      clear hv
      go_enter Try.func34, Try.ntmps34
      have e1 : IntKind.i64.wrap (word * l.B) = word * l.B := IntWalk.i64_in _ (by omega)
      have e2 : IntKind.i64.wrap (word * l.B - (beat + 1)) = word * l.B - (beat + 1) := IntWalk.i64_in _ (by omega)
      have e3 : IntKind.i64.wrap (beat + 1 + (word * l.B - (beat + 1)) % (l.W * l.B)) = beat + 1 + (word * l.B - (beat + 1)) % (l.W * l.B) := IntWalk.i64_in _ (by omega)
      go_wp2_with (first | ((go_at_call 25; refine (Check_ok l h _).mono ?_; rintro e w1 ⟨rfl, hb1⟩; obtain ⟨hc1, hf1⟩ := bcell hb1); obtain ⟨a0, a1, a2, a3, a4, a5⟩ := lnAt_call (lnAt_new' l w) hb1) | (go_at_call 53; refine (within_any _ _ _ _).mono ?_; rintro e w1 ⟨rfl, rfl⟩))
      have hb0 := hb1
      clear hc1 hf1
      go_region_held3 (fun w' => w'.cell? ⟨w.heap.size, 0, none⟩ = some (.int .i64 l.W) ∧ w'.cell? ⟨w.heap.size, 1, none⟩ = some (.int .i64 l.B) ∧ w'.cell? ⟨w.heap.size, 2, none⟩ = some (.int .i64 l.P) ∧ w'.cell? ⟨w.heap.size, 3, none⟩ = some (.int .i64 l.D) ∧ w'.cell? ⟨w.heap.size, 4, none⟩ = some (.int .i64 l.S) ∧ w'.cell? ⟨w.heap.size, 5, none⟩ = some (.int .i64 l.N)) (first | go_keep | (go_split_ands; refine ⟨?_, ?_, ?_, ?_, ?_, ?_⟩ <;> exact cell_later hb1 (by assumption))) (first | (go_at_call 71; refine (beats_any l h _).mono ?_; rintro e w1 ⟨rfl, hb1⟩) | (go_at_call 77; refine (modulo_any _ _ _ (by omega) (by omega)).mono ?_; rintro e w1 ⟨rfl, rfl⟩))
      go_wp2
      go_ret2
      exact ⟨by rw [HV.out]; rfl, by (repeat (first | assumption | exact Below.refl _ _ | refine b_alloc ?_ _ | refine Below.drew ?_ | refine b_drewN ?_ _ | refine Below.setCell ?_ (by first | omega | (simp; done) | (simp; omega)) _ | refine b_call (by assumption) ?_))⟩
    · have hv : nextV l word beat = val2 0 7 := if_neg (fun g => hb g.2.2)
      have hd : decide (0 ≤ beat ∧ beat ≤ 1000000000) = false := by simpa using hb
      have HV := hid hv
      clear hv
      go_enter Try.func34, Try.ntmps34
      go_wp2_with (first | (go_at_call 25; refine (Check_ok l h _).mono ?_; rintro e w1 ⟨rfl, hb1⟩; obtain ⟨hc1, hf1⟩ := bcell hb1) | (go_at_call 53; refine (within_any _ _ _ _).mono ?_; rintro e w1 ⟨rfl, rfl⟩))
      go_ret2
      exact ⟨by rw [HV.out]; rfl, by (repeat (first | assumption | exact Below.refl _ _ | refine b_alloc ?_ _ | refine Below.drew ?_ | refine b_drewN ?_ _ | refine Below.setCell ?_ (by first | omega | (simp; done) | (simp; omega)) _ | refine b_call (by assumption) ?_))⟩
  · have hv : nextV l word beat = val2 0 7 := if_neg (fun g => hw g.2.1)
    have hd : decide (0 ≤ word ∧ word ≤ l.W - 1) = false := by simpa using hw
    have HV := hid hv
    obtain ⟨h1, h2, _⟩ := id h
    clear hv
    go_enter Try.func34, Try.ntmps34
    go_wp2_with (first | (go_at_call 25; refine (Check_ok l h _).mono ?_; rintro e w1 ⟨rfl, hb1⟩; obtain ⟨hc1, hf1⟩ := bcell hb1) | (go_at_call 53; refine (within_any _ _ _ _).mono ?_; rintro e w1 ⟨rfl, rfl⟩))
    all_goals (go_ret2; exact ⟨by rw [HV.out]; rfl, by (repeat (first | assumption | exact Below.refl _ _ | refine b_alloc ?_ _ | refine Below.drew ?_ | refine b_drewN ?_ _ | refine Below.setCell ?_ (by first | omega | (simp; done) | (simp; omega)) _ | refine b_call (by assumption) ?_))⟩)
theorem Next_any (l : Ln) (word beat : Int) (w : World) : Calls Try.prog 34 #[l.val, .int .i64 word, .int .i64 beat] w (Ret w (nextV l word beat)) := by
  by_cases h : l.Ok
  · exact Next_ok l h word beat w
  · rw [show nextV l word beat = val2 0 7 from if_neg (fun g => h g.1)]; exact Next_no l h word beat w

/-! ### the reference's -/
theorem next_hit {M x t : Int} (hM : 1 ≤ M) (ht0 : 0 ≤ t) (ht : t < M) : (x + (t - x) % M) % M = t := by
  rw [Int.add_emod, Int.emod_emod_of_dvd _ (Int.dvd_refl M), ← Int.add_emod, show x + (t - x) = t by omega]
  exact Int.emod_eq_of_lt ht0 ht
theorem next_miss {M x t j : Int} (hM : 1 ≤ M) (h0 : 0 ≤ j) (h1 : j < (t - x) % M) : (x + j) % M ≠ t := by
  intro e
  have hlt := Int.emod_lt_of_pos (t - x) (show 0 < M by omega)
  have h2 : (t - x) % M = j := by
    rw [← e, Int.sub_emod, Int.emod_emod_of_dvd _ (Int.dvd_refl M), ← Int.sub_emod, show x + j - x = j by omega]
    exact Int.emod_eq_of_lt h0 (by omega)
  omega
set_option maxHeartbeats 1000000 in
theorem refNext_no (l : Ln) (h : ¬ l.Ok) (word beat : Int) (w : World) : Calls Try.prog 35 #[l.val, .int .i64 word, .int .i64 beat] w (Ret w (val2 0 7)) := by
  go_enter Try.func35, Try.ntmps35
  go_wp2_with (go_at_call 26; refine (refCheck_no l h _).mono ?_; rintro e w1 ⟨rfl, hb1⟩; obtain ⟨hc1, hf1⟩ := bcell hb1)
  go_ret2
  exact ⟨rfl, by (repeat (first | assumption | exact Below.refl _ _ | refine b_alloc ?_ _ | refine Below.drew ?_ | refine b_drewN ?_ _ | refine Below.setCell ?_ (by first | omega | (simp; done) | (simp; omega)) _ | refine b_call (by assumption) ?_))⟩
set_option maxHeartbeats 2000000 in
theorem refNext_ok (l : Ln) (h : l.Ok) (word beat : Int) (w : World) : Calls Try.prog 35 #[l.val, .int .i64 word, .int .i64 beat] w (Ret w (nextV l word beat)) := by
  obtain ⟨b1, b2⟩ := h.beats
  have b3 := h.beats1
  by_cases hw : 0 ≤ word ∧ word ≤ l.W - 1
  · have hwb := word_bd h hw
    obtain ⟨h1, h2, _⟩ := id h
    by_cases hb : 0 ≤ beat ∧ beat ≤ 1000000000
    · have hv : nextV l word beat = val2 (nextOf l word beat) 0 := if_pos ⟨h, hw, hb⟩
      have HV := hid hv
      clear hv
      obtain ⟨r, hr⟩ : ∃ r, (word * l.B - (beat + 1)) % (l.W * l.B) = r := ⟨_, rfl⟩
      have m1 := Int.emod_nonneg (word * l.B - (beat + 1)) (show l.W * l.B ≠ 0 by omega)
      have m2 := Int.emod_lt_of_pos (word * l.B - (beat + 1)) (show 0 < l.W * l.B by omega)
      rw [hr] at m1 m2
      have HR := hid hr
      clear hr
      go_enter Try.func35, Try.ntmps35
      go_wp2_with (first | ((go_at_call 26; refine (refCheck_ok l h _).mono ?_; rintro e w1 ⟨rfl, hb1⟩; obtain ⟨hc1, hf1⟩ := bcell hb1); obtain ⟨a0, a1, a2, a3, a4, a5⟩ := lnAt_call (lnAt_new' l w) hb1; clear hc1 hf1) | (go_at_call 56; refine (in_any _ _ _ _).mono ?_; rintro e w1 ⟨rfl, rfl⟩))
      have hB0 := hb1
      go_loopw [9] (fun v wr => ∃ j : Int, 0 ≤ j ∧ j ≤ r ∧ v = .int .i64 (beat + 1 + j) ∧ LnAt w.heap.size l wr ∧ Below w.heap.size w wr) (fun v _ => (r + (beat + 1) - intOf v).toNat)
      case atStart => exact ⟨0, by omega, m1, by simp, ⟨a0, a1, a2, a3, a4, a5⟩, by (repeat (first | assumption | exact Below.refl _ _ | refine b_alloc ?_ _ | refine Below.drew ?_ | refine b_drewN ?_ _ | refine Below.setCell ?_ (by first | omega | (simp; done) | (simp; omega)) _ | refine b_call (by assumption) ?_))⟩
      case round =>
        obtain ⟨j, hj0, hj1, rfl, ⟨c0, c1, c2, c3, c4, c5⟩, hbr⟩ := hrel
        clear a0 a1 a2 a3 a4 a5 hb1 hB0
        have e1 : IntKind.i64.wrap (word * l.B) = word * l.B := IntWalk.i64_in _ (by omega)
        have e2 : IntKind.i64.wrap (l.W * l.B) = l.W * l.B := IntWalk.i64_in _ (by omega)
        have e3 : (beat + 1 + j).tmod (l.W * l.B) = (beat + 1 + j) % (l.W * l.B) := Int.tmod_eq_emod_of_nonneg (by omega)
        have e4 : (l.W * l.B == 0) = false := by simp; omega
        by_cases hlt : j < r
        · have hm := next_miss (x := beat + 1) (t := word * l.B) b3 hj0 (by rw [HR.out]; exact hlt)
          have hm2 : ((beat + 1 + j) % (l.W * l.B) == word * l.B) = false := by simpa using hm
          have hm3 : ((beat + 1 + j) % (l.W * l.B) != word * l.B) = true := by simpa using hm
          go_wp2
          go_quiet (fail)
          go_wp2
          go_roundw
          case rel => exact ⟨j + 1, by omega, by omega, by go_num, ⟨c0, c1, c2, c3, c4, c5⟩, by (repeat (first | assumption | exact Below.refl _ _ | refine b_alloc ?_ _ | refine Below.drew ?_ | refine b_drewN ?_ _ | refine Below.setCell ?_ (by first | omega | (simp; done) | (simp; omega)) _ | refine b_call (by assumption) ?_))⟩
          case measure => simp [intOf]; omega
        · obtain rfl : j = r := by omega
          have hm := next_hit (x := beat + 1) b3 hwb.1 hwb.2.2
          rw [HR.out] at hm
          have hm2 : ((beat + 1 + j) % (l.W * l.B) == word * l.B) = true := by simpa using hm
          have hm3 : ((beat + 1 + j) % (l.W * l.B) != word * l.B) = false := by simpa using hm
          clear hm
          go_wp2
          go_quiet (fail)
          go_wp2
          go_ret2
          exact ⟨by rw [HV.out]; unfold nextOf; rw [HR.out]; rfl, by (repeat (first | assumption | exact Below.refl _ _ | refine b_alloc ?_ _ | refine Below.drew ?_ | refine b_drewN ?_ _ | refine Below.setCell ?_ (by first | omega | (simp; done) | (simp; omega)) _ | refine b_call (by assumption) ?_))⟩
    · have hv : nextV l word beat = val2 0 7 := if_neg (fun g => hb g.2.2)
      have hd : decide (0 ≤ beat ∧ beat ≤ 1000000000) = false := by simpa using hb
      have HV := hid hv
      clear hv
      go_enter Try.func35, Try.ntmps35
      go_wp2_with (first | (go_at_call 26; refine (refCheck_ok l h _).mono ?_; rintro e w1 ⟨rfl, hb1⟩; obtain ⟨hc1, hf1⟩ := bcell hb1) | (go_at_call 56; refine (in_any _ _ _ _).mono ?_; rintro e w1 ⟨rfl, rfl⟩))
      go_ret2
      exact ⟨by rw [HV.out]; rfl, by (repeat (first | assumption | exact Below.refl _ _ | refine b_alloc ?_ _ | refine Below.drew ?_ | refine b_drewN ?_ _ | refine Below.setCell ?_ (by first | omega | (simp; done) | (simp; omega)) _ | refine b_call (by assumption) ?_))⟩
  · have hv : nextV l word beat = val2 0 7 := if_neg (fun g => hw g.2.1)
    have hd : decide (0 ≤ word ∧ word ≤ l.W - 1) = false := by simpa using hw
    have HV := hid hv
    obtain ⟨h1, h2, _⟩ := id h
    clear hv
    go_enter Try.func35, Try.ntmps35
    go_wp2_with (first | (go_at_call 26; refine (refCheck_ok l h _).mono ?_; rintro e w1 ⟨rfl, hb1⟩; obtain ⟨hc1, hf1⟩ := bcell hb1) | (go_at_call 56; refine (in_any _ _ _ _).mono ?_; rintro e w1 ⟨rfl, rfl⟩))
    all_goals (go_ret2; exact ⟨by rw [HV.out]; rfl, by (repeat (first | assumption | exact Below.refl _ _ | refine b_alloc ?_ _ | refine Below.drew ?_ | refine b_drewN ?_ _ | refine Below.setCell ?_ (by first | omega | (simp; done) | (simp; omega)) _ | refine b_call (by assumption) ?_))⟩)
theorem refNext_any (l : Ln) (word beat : Int) (w : World) : Calls Try.prog 35 #[l.val, .int .i64 word, .int .i64 beat] w (Ret w (nextV l word beat)) := by
  by_cases h : l.Ok
  · exact refNext_ok l h word beat w
  · rw [show nextV l word beat = val2 0 7 from if_neg (fun g => h g.1)]; exact refNext_no l h word beat w
end Go.Proofs.Ytlocdkjnefmiaaa
namespace Go.Proofs.Ytlocdkjnefmiaaa
open Go.RowKit
set_option linter.unusedVariables false
set_option linter.unusedSimpArgs false

theorem quiet_eq {P : Program} {f : FuncId} {args : Array Value} {w : World} {n : Nat} {v : Value}
    (h : Calls P f args (w.drewN n) fun e w' => e = .returned v ∧ w.drewN n = w') : Calls P f args (w.drewN n) fun e w'' => e = .returned v ∧ ∃ m, w'' = w.drewN m :=
  h.mono fun _ _ ⟨he, hm⟩ => ⟨he, n, hm.symm⟩
/-- The slice that begins at a holds the numbers xs. -/
def IntsAt (W : World) (a : Option Addr) (xs : List Int) : Prop :=
  ∀ j, j < xs.length → ∃ b off, a = some ⟨b, off, none⟩ ∧ W.cell? ⟨b, off + j, none⟩ = some (.int .i64 (xs[j]?.getD 0))
theorem IntsAt.below {W W' : World} {a : Option Addr} {xs : List Int} (h : IntsAt W a xs) (hb : Below W.heap.size W W') : IntsAt W' a xs := fun j hj => by
  obtain ⟨b, off, e, hc⟩ := h j hj
  exact ⟨b, off, e, cell_later hb hc⟩
theorem IntsAt.alloc {W : World} {a : Option Addr} {xs : List Int} (h : IntsAt W a xs) (o : Obj) : IntsAt (W.alloc o) a xs := h.below ((Below.refl _ _).alloc (Nat.le_refl _) _)
/-- A length that no slice goes beyond. -/
abbrev Len (n : Nat) : Prop := n ≤ 17592186044416

def pw (b : Int) : Int := 2 ^ b.toNat
theorem pw_succ {b : Int} (h : 0 ≤ b) : pw (b + 1) = 2 * pw b := by
  unfold pw; rw [show (b + 1).toNat = b.toNat + 1 by omega, Int.pow_succ, Int.mul_comm]
theorem pw_mono {a b : Int} (h : a ≤ b) : pw a ≤ pw b := by
  unfold pw
  have h1 : (2 : Nat) ^ a.toNat ≤ 2 ^ b.toNat := Nat.pow_le_pow_right (by omega) (by omega)
  have e1 : ((2 ^ a.toNat : Nat) : Int) = (2 : Int) ^ a.toNat := by simp
  have e2 : ((2 ^ b.toNat : Nat) : Int) = (2 : Int) ^ b.toNat := by simp
  omega
theorem pw_pos (b : Int) : 1 ≤ pw b := by
  have := pw_mono (show (0 : Int) ≤ if 0 ≤ b then b else 0 by split <;> omega)
  split at this
  · simpa [pw] using this
  · rename_i h; unfold pw; rw [show b.toNat = 0 by omega]; decide
theorem pw_40 : pw 40 = 1099511627776 := by decide
theorem pw_bd {b : Int} (h : b ≤ 40) : 1 ≤ pw b ∧ pw b ≤ 1099511627776 := ⟨pw_pos b, by have := pw_mono h; rwa [pw_40] at this⟩

def wordsOk (b : Int) (ws : List Int) : Prop := ∀ x ∈ ws, 0 ≤ x ∧ x ≤ pw b - 1
instance (b : Int) (ws : List Int) : Decidable (wordsOk b ws) := by unfold wordsOk; infer_instance
def wErr (b : Int) (ws : List Int) : Int := if wordsOk b ws then 0 else 7
def wordsErr (l : Ln) (ws : List Int) : Int := if (ws.length : Int) = l.W then wErr l.B ws else 3
theorem wordsOk_step {b : Int} {ws : List Int} (h : ∀ j, j < ws.length → 0 ≤ ws[j]?.getD 0 ∧ ws[j]?.getD 0 ≤ pw b - 1) : wordsOk b ws := fun x hx => by
  obtain ⟨j, hj, rfl⟩ := List.mem_iff_getElem.1 hx
  have := h j hj
  simpa [hj] using this
theorem wordsOk_not {b : Int} {ws : List Int} {j : Nat} (hj : j < ws.length) (h : ¬ (0 ≤ ws[j]?.getD 0 ∧ ws[j]?.getD 0 ≤ pw b - 1)) : ¬ wordsOk b ws := fun g => by
  apply h
  have := g _ (List.getElem_mem hj)
  simpa [hj] using this

set_option maxHeartbeats 1000000 in
theorem Power_any (n : Int) (h0 : 0 ≤ n) (h1 : n ≤ 60) (w : World) : Calls Try.prog 93 #[.int .i64 n] w fun e w' => e = .returned (.int .i64 (pw n)) ∧ w = w' := by
  go_enter Try.func93, Try.ntmps93
  go_wp2
  go_loop [3, 4] (fun x i => ∃ k : Int, 0 ≤ k ∧ k ≤ n ∧ i = .int .i64 k ∧ x = .int .i64 (pw k)) (fun _ i => (n - intOf i).toNat)
  case atStart => exact ⟨0, by omega, by omega, rfl, rfl⟩
  case round =>
    obtain ⟨k, hk0, hk1, rfl, rfl⟩ := hrel
    have hp : 1 ≤ pw k ∧ pw k ≤ 1152921504606846976 := ⟨pw_pos k, by have := pw_mono (show k ≤ 60 by omega); rwa [show pw 60 = 1152921504606846976 by decide] at this⟩
    by_cases hlt : k < n
    · go_wp2
      go_round
      case rel => exact ⟨k + 1, by omega, by omega, by go_num, by rw [pw_succ hk0]⟩
      case measure => simp [intOf]; omega
    · obtain rfl : k = n := by omega
      go_wp2
      go_ret
      exact ⟨rfl, rfl⟩

set_option maxHeartbeats 1000000 in
theorem wordsError_ok (l : Ln) (h : l.Ok) (a : Option Addr) (cap : Nat) (ws : List Int) (hlen : (ws.length : Int) = l.W) (w : World) (hx : IntsAt w a ws) : Calls Try.prog 84 #[l.val, .slice a ws.length cap] w (Ret w (.int .i64 (wErr l.B ws))) := by
  obtain ⟨h1, h2, _⟩ := id h
  have hp := pw_bd h2.2
  obtain ⟨lw, lb, lp, ld, ls, ln⟩ := l
  simp only at hlen h1 h2 hp
  subst hlen
  have hx1 := hid (hx.alloc (.cells #[.int .i64 ws.length, .int .i64 lb, .int .i64 lp, .int .i64 ld, .int .i64 ls, .int .i64 ln] 25))
  go_enter Try.func84, Try.ntmps84
  go_wp2
  go_loop [6, 14] (fun _ i => ∃ k : Nat, k ≤ ws.length ∧ i = .int .i64 k ∧ ∀ j, j < k → 0 ≤ ws[j]?.getD 0 ∧ ws[j]?.getD 0 ≤ pw lb - 1) (fun _ i => ws.length - (intOf i).toNat)
  case atStart => exact ⟨0, by omega, rfl, fun j hj => by omega⟩
  case round =>
    obtain ⟨k, hk, rfl, hall⟩ := hrel
    have HA := hid hall
    clear hall
    by_cases hlt : k < ws.length
    · obtain ⟨b, off, rfl, hc⟩ := hx1.out k hlt
      have hpw : (2 : Int) ^ lb.toNat = pw lb := rfl
      by_cases hin : 0 ≤ ws[k] ∧ ws[k] ≤ pw lb - 1
      · have hd : decide (0 ≤ ws[k] ∧ ws[k] ≤ pw lb - 1) = true := by simpa using hin
        go_wp2_with (go_at_call 53; refine (within_any _ _ _ _).mono ?_; rintro e w1 ⟨rfl, rfl⟩)
        go_round
        case rel => exact ⟨k + 1, by omega, by go_num, fun j hj => by
          by_cases e : j = k
          · subst e; simpa [hlt] using hin
          · exact HA.out j (by omega)⟩
        case measure => simp [intOf]; omega
      · have hd : decide (0 ≤ ws[k] ∧ ws[k] ≤ pw lb - 1) = false := by simpa using hin
        have hE := hid (show wErr lb ws = 7 from if_neg (wordsOk_not hlt (by simpa [hlt] using hin)))
        go_wp2_with (go_at_call 53; refine (within_any _ _ _ _).mono ?_; rintro e w1 ⟨rfl, rfl⟩)
        go_ret
        exact ⟨by rw [hE.out]; rfl, by (repeat (first | assumption | exact Below.refl _ _ | refine b_alloc ?_ _ | refine Below.drew ?_ | refine b_drewN ?_ _ | refine Below.setCell ?_ (by first | omega | (simp; done) | (simp; omega)) _ | refine b_call (by assumption) ?_))⟩
    · obtain rfl : k = ws.length := by omega
      have hE := hid (show wErr lb ws = 0 from if_pos (wordsOk_step HA.out))
      go_wp2
      go_ret
      exact ⟨by rw [hE.out]; rfl, by (repeat (first | assumption | exact Below.refl _ _ | refine b_alloc ?_ _ | refine Below.drew ?_ | refine b_drewN ?_ _ | refine Below.setCell ?_ (by first | omega | (simp; done) | (simp; omega)) _ | refine b_call (by assumption) ?_))⟩

set_option maxHeartbeats 1000000 in
theorem wordsError_no (l : Ln) (a : Option Addr) (cap : Nat) (ws : List Int) (hlen : (ws.length : Int) ≠ l.W) (w : World) : Calls Try.prog 84 #[l.val, .slice a ws.length cap] w (Ret w (.int .i64 3)) := by
  have hl1 : ((ws.length : Int) != l.W) = true := by simpa using hlen
  go_enter Try.func84, Try.ntmps84
  go_wp2
  go_ret
  exact ⟨rfl, by (repeat (first | assumption | exact Below.refl _ _ | refine b_alloc ?_ _ | refine Below.drew ?_ | refine b_drewN ?_ _ | refine Below.setCell ?_ (by first | omega | (simp; done) | (simp; omega)) _ | refine b_call (by assumption) ?_))⟩
theorem wordsError_any (l : Ln) (h : l.Ok) (a : Option Addr) (cap : Nat) (ws : List Int) (w : World) (hx : IntsAt w a ws) : Calls Try.prog 84 #[l.val, .slice a ws.length cap] w (Ret w (.int .i64 (wordsErr l ws))) := by
  unfold wordsErr
  split
  · rename_i e; exact wordsError_ok l h a cap ws e w hx
  · rename_i e; exact wordsError_no l a cap ws e w

/-! ### the reference's Words -/
set_option maxHeartbeats 1000000 in
theorem refWords_ok (l : Ln) (h : l.Ok) (a : Option Addr) (cap : Nat) (ws : List Int) (hlen : (ws.length : Int) = l.W) (w : World) (hx : IntsAt w a ws) : Calls Try.prog 68 #[l.val, .slice a ws.length cap] w (Ret w (.int .i64 (wErr l.B ws))) := by
  obtain ⟨h1, h2, _⟩ := id h
  have hp := pw_bd h2.2
  obtain ⟨lw, lb, lp, ld, ls, ln⟩ := l
  simp only at hlen h1 h2 hp
  subst hlen
  have hx1 := hid (hx.alloc (.cells #[.int .i64 ws.length, .int .i64 lb, .int .i64 lp, .int .i64 ld, .int .i64 ls, .int .i64 ln] 25))
  go_enter Try.func68, Try.ntmps68
  go_wp2
  go_loopw [5] (fun i wr => ∃ k : Nat, k ≤ ws.length ∧ i = .int .i64 k ∧ (∀ j, j < k → 0 ≤ ws[j]?.getD 0 ∧ ws[j]?.getD 0 ≤ pw lb - 1) ∧ wr.cell? ⟨w.heap.size, 1, none⟩ = some (.int .i64 lb) ∧ IntsAt wr a ws ∧ Below w.heap.size w wr) (fun i _ => ws.length - (intOf i).toNat)
  case atStart => exact ⟨0, by omega, rfl, fun j hj => by omega, by simp [go_sem], hx1.out, by (repeat (first | assumption | exact Below.refl _ _ | refine b_alloc ?_ _ | refine Below.drew ?_ | refine b_drewN ?_ _ | refine Below.setCell ?_ (by first | omega | (simp; done) | (simp; omega)) _ | refine b_call (by assumption) ?_))⟩
  case round =>
    obtain ⟨k, hk, rfl, hall, c1, hx2, hbr⟩ := hrel
    have HA := hid hall
    have HX := hid hx2
    clear hall hx2
    have hpw : (2 : Int) ^ lb.toNat = pw lb := rfl
    have e1 : IntKind.i64.wrap (pw lb - 1) = pw lb - 1 := IntWalk.i64_in _ (by omega)
    by_cases hlt : k < ws.length
    · obtain ⟨b, off, rfl, hc⟩ := HX.out k hlt
      have hi0 : (0 : Int) ≤ (k : Int) := by omega
      have hi1 : (k : Int) < (ws.length : Int) := by omega
      by_cases hin : 0 ≤ ws[k] ∧ ws[k] ≤ pw lb - 1
      · have hd : decide (0 ≤ ws[k] ∧ ws[k] ≤ pw lb - 1) = true := by simpa using hin
        go_wp2
        go_quiet (first | (go_at_call 93; exact quiet_eq (Power_any _ (by omega) (by omega) _)) | (go_at_call 56; exact quiet_eq (in_any _ _ _ _)))
        go_wp2
        go_roundw
        case rel => exact ⟨k + 1, by omega, by go_num, (fun j hj => by
          by_cases e : j = k
          · subst e; simpa [hlt] using hin
          · exact HA.out j (by omega)), c1, HX.out, by (repeat (first | assumption | exact Below.refl _ _ | refine b_alloc ?_ _ | refine Below.drew ?_ | refine b_drewN ?_ _ | refine Below.setCell ?_ (by first | omega | (simp; done) | (simp; omega)) _ | refine b_call (by assumption) ?_))⟩
        case measure => simp [intOf]; omega
      · have hd : decide (0 ≤ ws[k] ∧ ws[k] ≤ pw lb - 1) = false := by simpa using hin
        have hE := hid (show wErr lb ws = 7 from if_neg (wordsOk_not hlt (by simpa [hlt] using hin)))
        go_wp2
        go_quiet (first | (go_at_call 93; exact quiet_eq (Power_any _ (by omega) (by omega) _)) | (go_at_call 56; exact quiet_eq (in_any _ _ _ _)))
        go_wp2
        go_ret
        exact ⟨by rw [hE.out]; rfl, by (repeat (first | assumption | exact Below.refl _ _ | refine b_alloc ?_ _ | refine Below.drew ?_ | refine b_drewN ?_ _ | refine Below.setCell ?_ (by first | omega | (simp; done) | (simp; omega)) _ | refine b_call (by assumption) ?_))⟩
    · obtain rfl : k = ws.length := by omega
      have hE := hid (show wErr lb ws = 0 from if_pos (wordsOk_step HA.out))
      go_wp2
      go_ret
      exact ⟨by rw [hE.out]; rfl, by (repeat (first | assumption | exact Below.refl _ _ | refine b_alloc ?_ _ | refine Below.drew ?_ | refine b_drewN ?_ _ | refine Below.setCell ?_ (by first | omega | (simp; done) | (simp; omega)) _ | refine b_call (by assumption) ?_))⟩
set_option maxHeartbeats 1000000 in
theorem refWords_no (l : Ln) (a : Option Addr) (cap : Nat) (ws : List Int) (hlen : (ws.length : Int) ≠ l.W) (w : World) : Calls Try.prog 68 #[l.val, .slice a ws.length cap] w (Ret w (.int .i64 3)) := by
  have hl1 : ((ws.length : Int) != l.W) = true := by simpa using hlen
  go_enter Try.func68, Try.ntmps68
  go_wp2
  go_ret
  exact ⟨rfl, by (repeat (first | assumption | exact Below.refl _ _ | refine b_alloc ?_ _ | refine Below.drew ?_ | refine b_drewN ?_ _ | refine Below.setCell ?_ (by first | omega | (simp; done) | (simp; omega)) _ | refine b_call (by assumption) ?_))⟩
theorem refWords_any (l : Ln) (h : l.Ok) (a : Option Addr) (cap : Nat) (ws : List Int) (w : World) (hx : IntsAt w a ws) : Calls Try.prog 68 #[l.val, .slice a ws.length cap] w (Ret w (.int .i64 (wordsErr l ws))) := by
  unfold wordsErr
  split
  · rename_i e; exact refWords_ok l h a cap ws e w hx
  · rename_i e; exact refWords_no l a cap ws e w

/-! ### equal lists -/
theorem list_eq_of {xs ys : List Int} (h : xs.length = ys.length) (hall : ∀ j, j < xs.length → xs[j]?.getD 0 = ys[j]?.getD 0) : xs = ys := by
  apply List.ext_getElem h
  intro i h1 h2
  have := hall i h1
  simpa [h1, h2] using this
set_option maxHeartbeats 1000000 in
theorem Ints_any (a b : Option Addr) (ca cb : Nat) (xs ys : List Int) (hn : Len xs.length) (hm : Len ys.length) (w : World) (hx : IntsAt w a xs) (hy : IntsAt w b ys) : Calls Try.prog 31 #[.slice a xs.length ca, .slice b ys.length cb] w (Ret w (.bool (decide (xs = ys)))) := by
  by_cases hl : xs.length = ys.length
  · have hl1 : ((xs.length : Int) != (ys.length : Int)) = false := by simp; omega
    have HL := hid hl
    have HX := hid hx
    have HY := hid hy
    clear hl hx hy
    go_enter Try.func31, Try.ntmps31
    go_wp2
    go_loopw [5] (fun i wr => ∃ k : Nat, k ≤ xs.length ∧ i = .int .i64 k ∧ (∀ j, j < k → xs[j]?.getD 0 = ys[j]?.getD 0) ∧ IntsAt wr a xs ∧ IntsAt wr b ys ∧ Below w.heap.size w wr) (fun i _ => xs.length - (intOf i).toNat)
    case atStart => exact ⟨0, by omega, rfl, fun j hj => by omega, HX.out, HY.out, by (repeat (first | assumption | exact Below.refl _ _ | refine b_alloc ?_ _ | refine Below.drew ?_ | refine b_drewN ?_ _ | refine Below.setCell ?_ (by first | omega | (simp; done) | (simp; omega)) _ | refine b_call (by assumption) ?_))⟩
    case round =>
      obtain ⟨k, hk, rfl, hall, hx2, hy2, hbr⟩ := hrel
      have HA := hid hall
      have HX2 := hid hx2
      have HY2 := hid hy2
      clear hall hx2 hy2
      by_cases hlt : k < xs.length
      · obtain ⟨b1, o1, rfl, c1⟩ := HX2.out k hlt
        have hlt2 : k < ys.length := by rw [← HL.out]; exact hlt
        obtain ⟨b2, o2, rfl, c2⟩ := HY2.out k hlt2
        have hi0 : (0 : Int) ≤ (k : Int) := by omega
        have hi1 : (k : Int) < (xs.length : Int) := by omega
        have hi2 : (k : Int) < (ys.length : Int) := by omega
        by_cases hin : xs[k] = ys[k]
        · have hd : (xs[k] == ys[k]) = true := by simpa using hin
          have hd2 : (xs[k] != ys[k]) = false := by simpa using hin
          have HI := hid hin
          clear hin
          go_wp2
          go_quiet (fail)
          go_wp2
          go_roundw
          case rel => exact ⟨k + 1, by omega, by go_num, (fun j hj => by
            by_cases e : j = k
            · subst e; simpa [hlt, hlt2] using HI.out
            · exact HA.out j (by omega)), HX2.out, HY2.out, by (repeat (first | assumption | exact Below.refl _ _ | refine b_alloc ?_ _ | refine Below.drew ?_ | refine b_drewN ?_ _ | refine Below.setCell ?_ (by first | omega | (simp; done) | (simp; omega)) _ | refine b_call (by assumption) ?_))⟩
          case measure => simp [intOf]; omega
        · have hd : (xs[k] == ys[k]) = false := by simpa using hin
          have hd2 : (xs[k] != ys[k]) = true := by simpa using hin
          have hE := hid (show decide (xs = ys) = false from decide_eq_false (fun e => hin (by subst e; rfl)))
          clear hin
          go_wp2
          go_quiet (fail)
          go_wp2
          go_ret
          exact ⟨by rw [hE.out]; rfl, by (repeat (first | assumption | exact Below.refl _ _ | refine b_alloc ?_ _ | refine Below.drew ?_ | refine b_drewN ?_ _ | refine Below.setCell ?_ (by first | omega | (simp; done) | (simp; omega)) _ | refine b_call (by assumption) ?_))⟩
      · obtain rfl : k = xs.length := by omega
        have hE := hid (show decide (xs = ys) = true from decide_eq_true (list_eq_of HL.out HA.out))
        go_wp2
        go_ret
        exact ⟨by rw [hE.out]; rfl, by (repeat (first | assumption | exact Below.refl _ _ | refine b_alloc ?_ _ | refine Below.drew ?_ | refine b_drewN ?_ _ | refine Below.setCell ?_ (by first | omega | (simp; done) | (simp; omega)) _ | refine b_call (by assumption) ?_))⟩
  · have hl1 : ((xs.length : Int) != (ys.length : Int)) = true := by simp; omega
    have hE := hid (show decide (xs = ys) = false from decide_eq_false (fun e => hl (by rw [e])))
    go_enter Try.func31, Try.ntmps31
    go_wp2
    go_ret
    exact ⟨by rw [hE.out]; rfl, by (repeat (first | assumption | exact Below.refl _ _ | refine b_alloc ?_ _ | refine Below.drew ?_ | refine b_drewN ?_ _ | refine Below.setCell ?_ (by first | omega | (simp; done) | (simp; omega)) _ | refine b_call (by assumption) ?_))⟩
end Go.Proofs.Ytlocdkjnefmiaaa
namespace Go.Proofs.Ytlocdkjnefmiaaa
open Go.RowKit
set_option linter.unusedVariables false
set_option linter.unusedSimpArgs false

theorem infoB : (Try.prog.info? 4).map (fun i => (i.zero, i.size, i.bytes)) = some (some (.bool false), 1, 1) := by kernel_rfl
theorem infoI : (Try.prog.info? 3).map (fun i => (i.zero, i.size, i.bytes)) = some (some (.int .i64 0), 1, 8) := by kernel_rfl

theorem below_of_grown {W W' : World} (h : W.grownBy W' none) : Below W.heap.size W W' := ⟨h.os, h.tape, h.output, h.size, fun k hk => h.block k hk (by simp)⟩
/-- What an append to a row of the call's own leaves of the other cells. -/
theorem Cel.grown {W W' : World} {b o : Nat} {v : Value} {row : Option Nat} (h : Cel W b o v) (hg : W.grownBy W' row) (hne : ∀ r, row = some r → b ≠ r) : Cel W' b o v := by
  have e := hg.block b h.lt (fun e => hne b e.symm rfl)
  exact ⟨(World.cell?_of_block (a := ⟨b, o, none⟩) e).trans h.1, (World.frozen?_of_block (a := ⟨b, o, none⟩) e).trans h.2⟩
theorem IntsAt.grown {B : Nat} {w W W' : World} {a : Option Addr} {xs : List Int} {row : Option Nat} (h : IntsAt w a xs) (hb : Below B w W) (hB : w.heap.size ≤ B) (hg : W.grownBy W' row) (hne : ∀ r, row = some r → B ≤ r) : IntsAt W' a xs := fun j hj => by
  obtain ⟨b, off, e, hc⟩ := h j hj
  have hlt := World.block_lt_of_cell? w _ hc
  have h1 : W.heap[b]? = w.heap[b]? := hb.block b (by simp at hlt; omega)
  have h2 : W'.heap[b]? = W.heap[b]? := hg.block b (by have := hb.size; simp at hlt; omega) (fun e => by have := hne b e.symm; simp at hlt; omega)
  exact ⟨b, off, e, (World.cell?_of_block (a := ⟨b, off + j, none⟩) (h2.trans h1)).trans hc⟩
theorem ownsRow_shape {W : World} {base : Nat} {e : TypeId} {size : Nat} {g : Nat} {n cap k m : Nat} {v v' : Value} {xs : List Value} (hv : v = .slice (some ⟨g, 0, none⟩) n cap) (h : W.ownsRow base e size v' m xs)
    (hn : v' = .slice none 0 0 ↔ v = .slice none 0 0 ∧ k = 0) : ∃ g cap, v' = .slice (some ⟨g, 0, none⟩) m cap := by
  rcases h.2 with ⟨e1, _⟩ | ⟨g, cap, _, e1, _⟩
  · have := (hn.1 e1).1; rw [hv] at this; cases this
  · exact ⟨g, cap, e1⟩
theorem ownsRow_block {W : World} {base : Nat} {e : TypeId} {size : Nat} {v : Value} {n : Nat} {xs : List Value} (h : W.ownsRow base e size v n xs) : ∀ r, v.ownBlock = some r → base ≤ r := fun r hr => (h.lt r hr).1
theorem ownsRow_low {W : World} {base base' : Nat} {e : TypeId} {size : Nat} {v : Value} {n : Nat} {xs : List Value} (h : W.ownsRow base e size v n xs) (hb : base' ≤ base) : W.ownsRow base' e size v n xs :=
  ⟨h.1, h.2.imp id (fun ⟨g, cap, cur, e, hg, r⟩ => ⟨g, cap, cur, e, Nat.le_trans hb hg, r⟩)⟩

/-- The call returns a new slice of these cells, of elements of type t. -/
def RetRow (w : World) (t : TypeId) (vs : List Value) (e : Ending) (w' : World) : Prop :=
  ∃ g cap, e = .returned (.slice (some ⟨g, 0, none⟩) vs.length cap) ∧ w'.ownsRow w.heap.size t 1 (.slice (some ⟨g, 0, none⟩) vs.length cap) vs.length vs ∧ Below w.heap.size w w'

/-- The bit b of a number. -/
def bitOf (x : Int) (b : Nat) : Bool := (x / 2 ^ b) % 2 == 1
def bitsOf (x : Int) (n : Nat) : List Bool := (List.range n).map (bitOf x)
theorem bitsOf_succ (x : Int) (n : Nat) : bitsOf x (n + 1) = bitsOf x n ++ [bitOf x n] := by simp [bitsOf, List.range_succ]
theorem bitsOf_len (x : Int) (n : Nat) : (bitsOf x n).length = n := by simp [bitsOf]
def pulsesFrom (ws : List Int) (n : Nat) : List Bool := (ws.map (bitsOf · n)).flatten
theorem pulsesFrom_snoc (ws : List Int) (x : Int) (n : Nat) : pulsesFrom (ws ++ [x]) n = pulsesFrom ws n ++ bitsOf x n := by simp [pulsesFrom]
theorem pulsesFrom_len (ws : List Int) (n : Nat) : (pulsesFrom ws n).length = ws.length * n := by
  induction ws with
  | nil => simp [pulsesFrom]
  | cons a ws ih => unfold pulsesFrom at *; rw [List.map_cons, List.flatten_cons, List.length_append, ih, bitsOf_len, List.length_cons, Nat.succ_mul]; omega
theorem take_snoc {xs : List Int} {k : Nat} (h : k < xs.length) : xs.take (k + 1) = xs.take k ++ [xs[k]] := by
  rw [List.take_succ_eq_append_getElem h]

theorem word_nonneg {b : Int} {ws : List Int} (h : wordsOk b ws) {k : Nat} {hk : k < ws.length} {x : Int} (e : ws[k] = x) : 0 ≤ x ∧ x ≤ pw b - 1 := e ▸ h _ (List.getElem_mem hk)
theorem word_le {b : Int} {ws : List Int} (h : wordsOk b ws) {k : Nat} {hk : k < ws.length} {x : Int} (e : ws[k] = x) (hb : b ≤ 40) : x ≤ 1099511627776 := by
  have := word_nonneg h e; have := pw_bd hb; omega
theorem and_one_i64 (E : Int) (h0 : 0 ≤ E) (h1 : E ≤ 9223372036854775807) : bits BinOp.and IntKind.i64 E 1 = E % 2 := by
  have h := (bits_nat .i64 63 (by decide) (fun n h0 h1 => IntWalk.i64_in n (by omega)) E.toNat 1 (by omega) (by omega)).1
  rw [Nat.and_one_is_mod, Int.toNat_of_nonneg h0] at h
  have h2 : ((E.toNat % 2 : Nat) : Int) = E % 2 := by omega
  exact h.trans h2

set_option maxRecDepth 100000 in
set_option maxHeartbeats 2000000 in
theorem pulsesOf_any (l : Ln) (h : l.Ok) (a : Option Addr) (cap : Nat) (ws : List Int) (hlen : (ws.length : Int) = l.W) (hok : wordsOk l.B ws) (w : World) (hx : IntsAt w a ws) :
    Calls Try.prog 64 #[l.val, .slice a ws.length cap] w (RetRow w 4 ((pulsesFrom ws l.B.toNat).map Value.bool)) := by
  obtain ⟨iB, hiB, hzB0, hzB1, hzB2⟩ := info_parts infoB
  have hb := h.beats
  obtain ⟨h1, h2, _⟩ := id h
  have hle : ws.length ≤ 64 := by omega
  have HL := hid hlen
  have HX0 := hid hx
  clear hlen hx
  go_enter Try.func64, Try.ntmps64
  go_wp2_with (first
    | (go_at_call 71; refine (beats_any l h _).mono ?_; rintro e w1 ⟨rfl, hb1⟩; have k1 := ((Cel.new _ #[.int .i64 l.W, .int .i64 l.B, .int .i64 l.P, .int .i64 l.D, .int .i64 l.S, .int .i64 l.N] 25 1 _ rfl).call hb1))
    | (refine wpList_make_own _ rfl _ _ 91 rfl (w.heap.size + 1) 4 iB (.bool false) 1 Try.underlying91 hiB hzB0 hzB1 .i64 .i64 (l.W * l.B) (l.W * l.B).toNat rfl rfl (by omega) (by rw [hzB2]; omega) (by unfold maxLen; omega) (by have := hb1.size; simp at this; omega) ?_; intro w2 hown hgrow))
  obtain ⟨n, hn⟩ : ∃ n : Nat, l.B = (n : Int) := ⟨l.B.toNat, by omega⟩
  have hn1 : n ≤ 40 := by omega
  have hw2 := k1.grown hgrow (fun _ e => by cases e)
  have hBel : Below w.heap.size w w2 := b_call (below_of_grown hgrow) (b_call hb1 (b_alloc (Below.refl _ _) _))
  rw [show l.B.toNat = n by omega]
  rw [hn] at hw2
  have HN := hid hn
  clear hn k1 hb1
  go_loopw [5, 14] (fun v i wr => ∃ k : Nat, k ≤ ws.length ∧ i = .int .i64 k ∧ (∃ g cap, v = .slice (some ⟨g, 0, none⟩) (k * n) cap) ∧ wr.ownsRow (w.heap.size + 1) 4 1 v (k * n) ((pulsesFrom (ws.take k) n).map Value.bool) ∧
      Cel wr w.heap.size 1 (.int .i64 (n : Int)) ∧ Below w.heap.size w wr) (fun _ i _ => ws.length - (intOf i).toNat)
  case atStart => exact ⟨0, Nat.zero_le _, rfl, ⟨_, _, by rw [Nat.zero_mul]⟩, by simpa [pulsesFrom] using hown, hw2, hBel⟩
  case round =>
    obtain ⟨k, hk, rfl, ⟨g, c, rfl⟩, hrow, hk1, hbr⟩ := hrel
    clear hown hw2 hBel hgrow
    have HROW := hid hrow
    clear hrow
    by_cases hlt : k < ws.length
    · obtain ⟨b, off, rfl, hc⟩ := (HX0.out.below hbr) k hlt
      obtain ⟨q1, q2⟩ := id hk1
      go_wp2
      obtain ⟨wo, rfl⟩ : ∃ wo : World, wo = wr := ⟨_, rfl⟩
      obtain ⟨x, hxk⟩ : ∃ x, ws[k] = x := ⟨_, rfl⟩
      rw [hxk]
      have HX := hid hxk
      clear hxk hc q1 q2
      go_loopw [5, 20] (fun v i wr => ∃ j : Nat, j ≤ n ∧ i = .int .i64 j ∧ (∃ g cap, v = .slice (some ⟨g, 0, none⟩) (k * n + j) cap) ∧ wr.ownsRow (w.heap.size + 1) 4 1 v (k * n + j) ((pulsesFrom (ws.take k) n ++ bitsOf x j).map Value.bool) ∧
          Cel wr w.heap.size 1 (.int .i64 (n : Int)) ∧ Below w.heap.size w wr) (fun _ i _ => n - (intOf i).toNat)
      case atStart => exact ⟨0, Nat.zero_le _, rfl, ⟨g, c, by rw [Nat.add_zero]⟩, by simpa [bitsOf] using HROW.out, hk1, hbr⟩
      case round =>
        obtain ⟨j, hj, rfl, ⟨g1, c1, rfl⟩, hrow1, hk2, hbr1⟩ := hrel
        have HROW1 := hid hrow1
        clear hrow1
        by_cases hjlt : j < n
        · have hx0 := word_nonneg hok HX.out
          have hq0 : 0 ≤ x / 2 ^ j ∧ x / 2 ^ j ≤ 1099511627776 := ⟨Int.ediv_nonneg hx0.1 (Int.le_of_lt (Int.pow_pos (by omega))), Int.le_trans (Int.ediv_le_self _ hx0.1) (word_le hok HX.out h2.2)⟩
          have hbit := and_one_i64 (x / 2 ^ j) hq0.1 (by omega)
          have hkn : k * n ≤ 64 * 40 := Nat.mul_le_mul (by have := HL.out; omega) hn1
          have hsz := hbr1.size
          go_wp2_with (at_builtin; refine wpList_append_own _ rfl _ _ 91 rfl (w.heap.size + 1) 4 iB (.bool false) 1 1 Try.underlying91 hiB hzB0 hzB1 hzB2 rfl (by decide) _ _ _ rfl (HROW1.out.alloc _) ⟨wr.heap.size, 0, none⟩ 1 1 [.bool (x / 2 ^ j % 2 == 1)] rfl rfl (cell_one_new _ _ _) (by intro u hu; simp at hu; subst hu; rfl) (by unfold maxLen; omega) (by omega) (by simp; have := hk2.lt; omega) ?_; intro v' w3 hown3 hg3 hnil)
          go_roundw
          case rel =>
            have hg1 := ownsRow_block HROW1.out
            refine ⟨j + 1, by omega, by go_num, ownsRow_shape rfl hown3 hnil, ?_, (hk2.alloc _).grown hg3 (fun r e => by have := hg1 r e; omega), (b_alloc hbr1 _).grown hg3 (by simp; omega) (fun r e => by have := hg1 r e; omega)⟩
            rw [bitsOf_succ, ← List.append_assoc, List.map_append]
            exact hown3
          case measure => simp [intOf]; omega
        · obtain rfl : j = n := by omega
          go_wp2
          go_roundw
          case rel =>
            refine ⟨k + 1, by omega, by go_num, ⟨g1, c1, by rw [Nat.succ_mul]⟩, ?_, hk2, hbr1⟩
            have := HROW1.out
            rw [Nat.succ_mul, take_snoc hlt, pulsesFrom_snoc, HX.out]
            exact this
          case measure => simp [intOf]; omega
    · obtain rfl : k = ws.length := by omega
      have hrow1 := HROW.out
      have hp := pulsesFrom_len ws n
      rw [List.take_of_length_le (Nat.le_refl _)] at hrow1
      go_wp2
      go_ret
      rw [show l.B.toNat = n by have := HN.out; omega]
      refine ⟨g, c, ?_, ?_, hbr⟩
      · show Ending.returned (.slice (some ⟨g, 0, none⟩) (ws.length * n) c) = _
        rw [List.length_map, hp]
      · have := ownsRow_low hrow1 (show w.heap.size ≤ w.heap.size + 1 by omega)
        rw [List.length_map, hp]
        exact this
end Go.Proofs.Ytlocdkjnefmiaaa
namespace Go.Proofs.Ytlocdkjnefmiaaa
open Go.RowKit
set_option linter.unusedVariables false
set_option linter.unusedSimpArgs false

/-- Pulses, by p beats later. -/
def rot (ps : List Bool) (p : Nat) : List Bool := ps.drop (ps.length - p) ++ ps.take (ps.length - p)
theorem rot_len (ps : List Bool) (p : Nat) : (rot ps p).length = ps.length := by simp [rot]
/-- The block g holds these cells, from its beginning on. -/
def RowAt (W : World) (g : Nat) (vs : List Value) : Prop := ∀ j, j < vs.length → W.cell? ⟨g, j, none⟩ = vs[j]?
theorem RowAt.below {W W' : World} {g : Nat} {vs : List Value} (h : RowAt W g vs) (hb : Below W.heap.size W W') : RowAt W' g vs := fun j hj => by
  have e := h j hj
  rw [List.getElem?_eq_getElem hj] at e ⊢
  exact cell_later hb e
theorem rowAt_of_owns {W : World} {base t g n cap : Nat} {vs : List Value} (h : W.ownsRow base t 1 (.slice (some ⟨g, 0, none⟩) n cap) n vs) : RowAt W g vs := fun j hj => by
  have := h.1
  exact h.cellAt j (by omega)
theorem heap_of_full {W : World} {base t g n : Nat} {vs : List Value} (h : W.ownsRow base t 1 (.slice (some ⟨g, 0, none⟩) n n) n vs) : W.heap[g]? = some (.cells vs.toArray t (0, 0)) := by
  obtain ⟨hl, h⟩ := h
  rcases h with ⟨e, _⟩ | ⟨g', cap, cur, e, _, hh, _, _, hs, ht⟩
  · cases e
  · cases e
    rw [hh]
    have : cur = vs.toArray := by
      apply Array.toList_inj.1
      rw [← ht, List.take_of_length_le (by simp; omega)]
    rw [this]
theorem owns_of_heap {W : World} {base t g : Nat} {vs : List Value} (hb : base ≤ g) (h : W.heap[g]? = some (.cells vs.toArray t (0, 0))) (hm : vs.length ≤ maxLen) : W.ownsRow base t 1 (.slice (some ⟨g, 0, none⟩) vs.length vs.length) vs.length vs :=
  ⟨by simp, .inr ⟨g, vs.length, vs.toArray, rfl, hb, h, Nat.le_refl _, hm, by simp, by simp⟩⟩

theorem bools_one (ps : List Bool) : ∀ v ∈ ps.map Value.bool, v.oneCell' = true := by
  intro v hv; obtain ⟨b, _, rfl⟩ := List.mem_map.1 hv; rfl
theorem addr_add (g q j : Nat) : (⟨g, q, none⟩ : Addr).add j = ⟨g, q + j, none⟩ := by
  unfold Addr.add; split <;> simp_all
theorem splice_start {W : World} {g t : Nat} {n : Nat} {z : Value} {cs : List Value} (h : W.heap[g]? = some (.cells (splice (List.replicate n z) 0 cs).toArray t (0, 0))) (hl : cs.length ≤ n) :
    W.heap[g]? = some (.cells (cs ++ List.replicate (n - cs.length) z).toArray t (0, 0)) := by
  rw [h]; simp [splice]
theorem szB : (Try.prog.info? 4).map (·.size) = some 1 := by kernel_rfl
set_option maxRecDepth 100000 in
set_option maxHeartbeats 400000 in
theorem turn_any (ps : List Bool) (h1 : 1 ≤ ps.length) (h2 : ps.length ≤ 2560) (g cap : Nat) (hcap : ps.length ≤ cap) (by' : Int) (w : World) (hx : RowAt w g (ps.map Value.bool)) :
    Calls Try.prog 66 #[.slice (some ⟨g, 0, none⟩) ps.length cap, .int .i64 by'] w (RetRow w 4 ((rot ps (by' % ps.length).toNat).map Value.bool)) := by
  obtain ⟨iB, hiB, hzB0, hzB1, hzB2⟩ := info_parts infoB
  have m1 := Int.emod_nonneg by' (show (ps.length : Int) ≠ 0 by omega)
  have m2 := Int.emod_lt_of_pos by' (show (0 : Int) < ps.length by omega)
  obtain ⟨p, hp⟩ : ∃ p : Nat, by' % (ps.length : Int) = (p : Int) := ⟨(by' % (ps.length : Int)).toNat, by omega⟩
  have hpn : p < ps.length := by omega
  rw [hp] at m1 m2 ⊢
  rw [Int.toNat_natCast]
  have HP := hid hp
  have HX := hid hx
  clear hp hx m1 m2
  go_enter Try.func66, Try.ntmps66
  go_wp2_with (first
    | (go_at_call 77; refine (modulo_any _ _ _ (by omega) (by omega)).mono ?_; rintro e w' ⟨rfl, rfl⟩; rw [HP.out])
    | (refine wpList_make_full _ rfl _ _ 91 rfl (w.heap.size) 4 iB (.bool false) 1 Try.underlying91 hiB hzB0 hzB1 .i64 .i64 (ps.length : Int) (ps.length : Int) ps.length rfl rfl rfl rfl (by rw [hzB2]; omega) (by unfold maxLen; omega) (Nat.le_refl _) ?_; intro w2 hown hgrow))
  obtain ⟨q, hq⟩ : ∃ q : Nat, ps.length = q + p := ⟨ps.length - p, by omega⟩
  have hq1 : 1 ≤ q := by omega
  have hheap := heap_of_full hown
  have hBel := below_of_grown hgrow
  have hsrc := hid (HX.out.below hBel)
  have hz : (madeCells (Value.bool false).cells (ps.length * 1)).toList = List.replicate ps.length (.bool false) := by
    rw [Nat.mul_one]; exact toList_madeCells_one _ _
  rw [hz] at hheap
  have HHeap := hid hheap
  have HQ := hid hq
  have heq : (ps.length : Int) - (p : Int) = (q : Int) := by omega
  have hle : q ≤ ps.length := by omega
  have hle2 : (q : Int) ≤ (ps.length : Int) := by omega
  have hle3 : (q : Int) ≤ (cap : Int) := by omega
  have hpl : (p : Int) ≤ (ps.length : Int) := by omega
  clear hown hgrow hheap hz
  rw [heq]
  clear heq hq
  have hnp : ¬ ps.length = p := by omega
  obtain ⟨sp, hsp⟩ : ∃ sp : Option Addr, (if cap = q then some (⟨g, 0, none⟩ : Addr) else some ⟨g, q, none⟩) = sp := ⟨_, rfl⟩
  have A1 := hid (show ((ps.drop q).map Value.bool).length = Nat.min (ps.length - q) p by
    rw [List.length_map, List.length_drop]; exact (Nat.min_eq_left (by have := HQ.out; omega)).symm)
  have A2 := hid (show 0 < ((ps.drop q).map Value.bool).length → some (⟨w.heap.size, 0, none⟩ : Addr) = some ⟨w.heap.size, 0, none⟩ ∧ ∃ ad, sp = some ad ∧ ∀ j v, ((ps.drop q).map Value.bool)[j]? = some v → w2.drew.cell? (ad.add j) = some v from fun h0 => by
    refine ⟨rfl, ⟨g, q, none⟩, by rw [← hsp]; exact if_neg (by simp at h0; omega), fun j v hv => ?_⟩
    have hj : j < ps.length - q := by have := (List.getElem?_eq_some_iff.1 hv).1; simpa using this
    have := hsrc.out (q + j) (by simp; omega)
    rw [addr_add]
    show w2.cell? ⟨g, q + j, none⟩ = some v
    rw [this, ← hv]; simp)
  have A3 : 0 + ((ps.drop q).map Value.bool).length ≤ (List.replicate ps.length (Value.bool false)).length := by simp
  have A4 : ∀ v ∈ (ps.drop q).map Value.bool, v.oneCell' = true := bools_one _
  have HB := hid hBel
  clear hBel
  go_region_law (refine step_copy_splice rfl (.tmp 21) (.tmp 24) 91 91 rfl 4 Try.underlying91 szB (some ⟨w.heap.size, 0, none⟩) sp p p (ps.length - q) (cap - q) (by go_simp) (by go_simp) w.heap.size 0 (List.replicate ps.length (.bool false)) 4 HHeap.out ((ps.drop q).map Value.bool) A1.out A2.out A3 A4 w.heap.size w HB.out.drew (Nat.le_refl _) ?_; intro w4 hg4 hb4)
  have hg5 := hid (splice_start hg4.out (by simp))
  rw [List.length_map, List.length_drop] at hg5
  clear hsp A1 A2 A3 A4 hg4
  go_wp2
  have B1 := hid (show ((ps.take q).map Value.bool).length = Nat.min q (ps.length - p) by
    rw [List.length_map, List.length_take]; have := HQ.out; rw [Nat.min_eq_left (by omega)]; exact (Nat.min_eq_left (by omega)).symm)
  have B2 := hid (show 0 < ((ps.take q).map Value.bool).length → some (⟨w.heap.size, p, none⟩ : Addr) = some ⟨w.heap.size, p, none⟩ ∧ ∃ ad, some (⟨g, 0, none⟩ : Addr) = some ad ∧ ∀ j v, ((ps.take q).map Value.bool)[j]? = some v → w4.drew.cell? (ad.add j) = some v from fun h0 => by
    refine ⟨rfl, ⟨g, 0, none⟩, rfl, fun j v hv => ?_⟩
    have hj : j < ps.length := by have := (List.getElem?_eq_some_iff.1 hv).1; simp at this; omega
    have h5 := (HX.out.below hb4) j (by simpa using hj)
    rw [addr_add, Nat.zero_add]
    show w4.cell? ⟨g, j, none⟩ = some v
    rw [h5, ← hv]
    have hjq : j < q := by have := (List.getElem?_eq_some_iff.1 hv).1; simp at this; omega
    simp [List.getElem?_take, hjq])
  have B3 : p + ((ps.take q).map Value.bool).length ≤ ((ps.drop q).map Value.bool ++ List.replicate (ps.length - (ps.length - q)) (Value.bool false)).length := by
    simp; have := HQ.out; omega
  have B4 : ∀ v ∈ (ps.take q).map Value.bool, v.oneCell' = true := bools_one _
  go_region_law (refine step_copy_splice rfl (.tmp 28) (.tmp 32) 91 91 rfl 4 Try.underlying91 szB (some ⟨w.heap.size, p, none⟩) (some ⟨g, 0, none⟩) (ps.length - p) (ps.length - p) q q (by go_simp) (by go_simp) w.heap.size p ((ps.drop q).map Value.bool ++ List.replicate (ps.length - (ps.length - q)) (Value.bool false)) 4 hg5.out ((ps.take q).map Value.bool) B1.out B2.out B3 B4 w.heap.size w hb4.drew (Nat.le_refl _) ?_; intro w6 hg6 hb6)
  go_wp2
  go_ret
  have hfin := hg6.out
  have hq := HQ.out
  have hs : splice ((ps.drop q).map Value.bool ++ List.replicate (ps.length - (ps.length - q)) (Value.bool false)) p ((ps.take q).map Value.bool) = (rot ps p).map Value.bool := by
    unfold rot splice
    rw [show ps.length - p = q by omega, List.map_append]
    rw [List.take_append_of_le_length (by simp; omega), List.take_of_length_le (by simp; omega)]
    congr 1
    rw [List.drop_eq_nil_of_le (by simp; omega), List.append_nil]
  rw [hs] at hfin
  have hr := rot_len ps p
  refine ⟨w.heap.size, ps.length, ?_, ?_, hb6⟩
  · show Ending.returned (.slice (some ⟨w.heap.size, 0, none⟩) ps.length ps.length) = _
    rw [List.length_map, hr]
  · have := owns_of_heap (Nat.le_refl _) hfin (by rw [List.length_map, hr]; unfold maxLen; omega)
    rw [List.length_map, hr] at this ⊢
    exact this
end Go.Proofs.Ytlocdkjnefmiaaa
namespace Go.Proofs.Ytlocdkjnefmiaaa
open Go.RowKit
set_option linter.unusedVariables false
set_option linter.unusedSimpArgs false

/-- The number whose bits these are, the least one first. -/
def val : List Bool → Int
  | [] => 0
  | b :: bs => (if b then 1 else 0) + 2 * val bs
theorem val_snoc (xs : List Bool) (c : Bool) : val (xs ++ [c]) = val xs + if c then 2 ^ xs.length else 0 := by
  induction xs with
  | nil => simp [val]
  | cons b bs ih =>
    rw [List.cons_append, val, ih, val, List.length_cons]
    cases c
    · simp
    · simp only [if_true]; rw [Int.pow_succ]; omega
theorem val_bd (xs : List Bool) : 0 ≤ val xs ∧ val xs < 2 ^ xs.length := by
  induction xs with
  | nil => simp [val]
  | cons b bs ih =>
    rw [val, List.length_cons, Int.pow_succ]
    cases b <;> simp <;> omega
/-- The word i of the first k beats, at n bits a word. -/
def wordAt (ps : List Bool) (n k i : Nat) : Int := val (((ps.take k).drop (i * n)).take n)
def joined (ps : List Bool) (n m : Nat) : List Int := (List.range m).map fun i => wordAt ps n ps.length i
theorem wordAt_zero (ps : List Bool) (n i : Nat) : wordAt ps n 0 i = 0 := by simp [wordAt, val]
theorem chunk_len {ps : List Bool} {n k i : Nat} (hk : k ≤ ps.length) : (((ps.take k).drop (i * n)).take n).length = min n (k - i * n) := by simp; omega
theorem wordAt_same {ps : List Bool} {n k : Nat} (hn : 1 ≤ n) (hk : k < ps.length) : ((ps.take k).drop (k / n * n)).take n = (ps.take k).drop (k / n * n) := by
  apply List.take_of_length_le
  have := Nat.div_add_mod k n
  have := Nat.mod_lt k (show 0 < n by omega)
  have e : k / n * n = n * (k / n) := Nat.mul_comm _ _
  simp; omega
theorem wordAt_step {ps : List Bool} {n k : Nat} (hn : 1 ≤ n) (hk : k < ps.length) : wordAt ps n (k + 1) (k / n) = wordAt ps n k (k / n) + if ps[k] then 2 ^ (k % n) else 0 := by
  have e := Nat.div_add_mod k n
  have m := Nat.mod_lt k (show 0 < n by omega)
  have e2 : k / n * n = n * (k / n) := Nat.mul_comm _ _
  unfold wordAt
  rw [wordAt_same hn hk, List.take_succ_eq_append_getElem hk, List.drop_append_of_le_length (by simp; omega)]
  have hl : ((ps.take k).drop (k / n * n)).length = k % n := by simp; omega
  rw [List.take_of_length_le (by simp; omega), val_snoc, hl]
theorem wordAt_other {ps : List Bool} {n k i : Nat} (hn : 1 ≤ n) (hk : k < ps.length) (hi : i ≠ k / n) : wordAt ps n (k + 1) i = wordAt ps n k i := by
  have e := Nat.div_add_mod k n
  have m := Nat.mod_lt k (show 0 < n by omega)
  unfold wordAt
  congr 1
  rcases Nat.lt_or_gt_of_ne hi with h | h
  · -- the word is before: its chunk is full already
    have h2 : (i + 1) * n ≤ k / n * n := Nat.mul_le_mul_right n h
    have h3 : (i + 1) * n = i * n + n := Nat.succ_mul i n
    have h4 : k / n * n = n * (k / n) := Nat.mul_comm _ _
    rw [List.take_succ_eq_append_getElem hk, List.drop_append_of_le_length (by simp; omega), List.take_append_of_le_length (by simp; omega)]
  · have h2 : (k / n + 1) * n ≤ i * n := Nat.mul_le_mul_right n h
    have h3 : (k / n + 1) * n = k / n * n + n := Nat.succ_mul _ n
    have h4 : k / n * n = n * (k / n) := Nat.mul_comm _ _
    rw [List.drop_eq_nil_of_le (by simp; omega), List.drop_eq_nil_of_le (by simp; omega)]
theorem wordAt_bd {ps : List Bool} {n k : Nat} (hn : 1 ≤ n) (hk : k < ps.length) : 0 ≤ wordAt ps n k (k / n) ∧ wordAt ps n k (k / n) < 2 ^ (k % n) := by
  have e := Nat.div_add_mod k n
  have m := Nat.mod_lt k (show 0 < n by omega)
  have e2 : k / n * n = n * (k / n) := Nat.mul_comm _ _
  unfold wordAt
  rw [wordAt_same hn hk]
  have hl : ((ps.take k).drop (k / n * n)).length = k % n := by simp; omega
  have := val_bd ((ps.take k).drop (k / n * n))
  rwa [hl] at this
theorem or_pow (x : Int) (b : Nat) (h0 : 0 ≤ x) (h1 : x < 2 ^ b) (hb : b ≤ 40) : bits BinOp.or IntKind.i64 x (2 ^ b) = x + 2 ^ b := by
  obtain ⟨n, rfl⟩ := Int.eq_ofNat_of_zero_le h0
  have hp : (2 : Nat) ^ b ≤ 2 ^ 40 := Nat.pow_le_pow_right (by omega) hb
  have c : ((2 ^ b : Nat) : Int) = (2 : Int) ^ b := by simp
  have hn : n < 2 ^ b := by omega
  have h := (bits_nat .i64 63 (by decide) (fun n h0 h1 => IntWalk.i64_in n (by omega)) n (2 ^ b) (by omega) (by omega)).2
  rw [c] at h
  have h2 := Nat.two_pow_add_eq_or_of_lt hn 1
  rw [Nat.mul_one] at h2
  rw [h, Nat.or_comm, ← h2]
  omega

/-- The call returns a new slice of these numbers. -/
abbrev RetInts (w : World) (xs : List Int) : Ending → World → Prop := RetRow w 3 (xs.map (Value.int .i64))
theorem pow_bd {b : Nat} (h : b ≤ 40) : 1 ≤ (2 : Int) ^ b ∧ (2 : Int) ^ b ≤ 1099511627776 := by
  have h1 : (2 : Nat) ^ b ≤ 2 ^ 40 := Nat.pow_le_pow_right (by omega) h
  have h2 : 1 ≤ (2 : Nat) ^ b := Nat.one_le_two_pow
  have c : ((2 ^ b : Nat) : Int) = (2 : Int) ^ b := by simp
  omega

theorem joined_step {ps : List Bool} {n m k : Nat} (hn : 1 ≤ n) (hk : k < ps.length) (h : wordAt ps n (k + 1) (k / n) = wordAt ps n k (k / n)) :
    ((List.range m).map fun i => Value.int .i64 (wordAt ps n (k + 1) i)) = (List.range m).map fun i => Value.int .i64 (wordAt ps n k i) := by
  apply List.map_congr_left
  intro i _
  by_cases e : i = k / n
  · rw [e, h]
  · rw [wordAt_other hn hk e]
theorem joined_set {ps : List Bool} {n m k i : Nat} {y : Int} (hn : 1 ≤ n) (hk : k < ps.length) (hi : k / n = i) (h : wordAt ps n (k + 1) i = y) :
    ((List.range m).map fun i => Value.int .i64 (wordAt ps n (k + 1) i)) = ((List.range m).map fun i => Value.int .i64 (wordAt ps n k i)).set i (.int .i64 y) := by
  apply List.ext_getElem
  · simp
  · intro j h1 h2
    rw [List.getElem_set]
    split
    · rename_i e; subst e; simp [h]
    · rename_i e; simp; rw [wordAt_other hn hk (by omega)]
theorem Cel.set {W : World} {b o : Nat} {v u : Value} {b' o' : Nat} (h : Cel W b o v) (hne : b ≠ b') : Cel (W.setCell ⟨b', o', none⟩ u) b o v := by
  have e : (W.setCell ⟨b', o', none⟩ u).heap[b]? = W.heap[b]? := Below.heap_setCell W ⟨b', o', none⟩ u b hne
  exact ⟨(World.cell?_of_block (a := ⟨b, o, none⟩) e).trans h.1, (World.frozen?_of_block (a := ⟨b, o, none⟩) e).trans h.2⟩
set_option maxRecDepth 100000 in
set_option maxHeartbeats 1000000 in
theorem wordsOf_any (l : Ln) (h : l.Ok) (m n : Nat) (hm : l.W = (m : Int)) (hn : l.B = (n : Int)) (ps : List Bool) (hlen : ps.length = m * n) (g cap : Nat) (w : World) (hx : RowAt w g (ps.map Value.bool)) :
    Calls Try.prog 67 #[l.val, .slice (some ⟨g, 0, none⟩) ps.length cap] w (RetInts w (joined ps n m)) := by
  obtain ⟨iI, hiI, hzI0, hzI1, hzI2⟩ := info_parts infoI
  obtain ⟨h1, h2, _⟩ := id h
  have hm1 : 1 ≤ m ∧ m ≤ 64 := by omega
  have hn1 : 1 ≤ n ∧ n ≤ 40 := by omega
  have hmn : m * n ≤ 64 * 40 := Nat.mul_le_mul hm1.2 hn1.2
  have hle : ps.length ≤ 2560 := by omega
  have HX := hid hx
  have HL := hid hlen
  clear hx hlen
  obtain ⟨lw, lb, lp, ld, ls, ln⟩ := l
  simp only at hm hn h1 h2
  subst hm hn
  go_enter Try.func67, Try.ntmps67
  go_wp2_with (refine wpList_make_full _ rfl _ _ 35 rfl (w.heap.size + 1) 3 iI (.int .i64 0) 1 Try.underlying35 hiI hzI0 hzI1 .i64 .i64 (m : Int) (m : Int) m rfl rfl rfl rfl (by rw [hzI2]; omega) (by unfold maxLen; omega) (by simp) ?_; intro w2 hown hgrow)
  have hcel := (Cel.new w #[.int .i64 m, .int .i64 n, .int .i64 lp, .int .i64 ld, .int .i64 ls, .int .i64 ln] 25 1 _ rfl).grown hgrow (fun _ e => by cases e)
  have hBel : Below w.heap.size w w2 := b_call (below_of_grown hgrow) (b_alloc (Below.refl _ _) _)
  have hz : (madeCells (Value.int .i64 0).cells (m * 1)).toList = (List.range m).map (fun i => Value.int .i64 (wordAt ps n 0 i)) := by
    rw [Nat.mul_one, show (Value.int .i64 0).cells = #[Value.int .i64 0] from rfl, toList_madeCells_one]
    apply List.ext_getElem
    · simp
    · intro i h1 h2; simp [wordAt_zero]
  rw [hz, World.size_alloc] at hown
  clear hz hgrow
  go_loopw [13] (fun i wr => ∃ k : Nat, k ≤ ps.length ∧ i = .int .i64 k ∧ wr.ownsRow (w.heap.size + 1) 3 1 (.slice (some ⟨w.heap.size + 1, 0, none⟩) m m) m ((List.range m).map fun i => Value.int .i64 (wordAt ps n k i)) ∧
      Cel wr w.heap.size 1 (.int .i64 (n : Int)) ∧ Below w.heap.size w wr) (fun i _ => ps.length - (intOf i).toNat)
  case atStart => exact ⟨0, Nat.zero_le _, rfl, hown, hcel, hBel⟩
  case round =>
    obtain ⟨k, hk, rfl, hrow, hc1, hbr⟩ := hrel
    clear hown hcel hBel
    have HROW := hid hrow
    clear hrow
    by_cases hlt : k < ps.length
    · have hrc := (HX.out.below hbr) k (by simpa using hlt)
      obtain ⟨q1, q2⟩ := id hc1
      obtain ⟨i, hi⟩ : ∃ i, k / n = i := ⟨_, rfl⟩
      obtain ⟨b, hb⟩ : ∃ b, k % n = b := ⟨_, rfl⟩
      have him : i < m := by
        rw [← hi]; exact Nat.div_lt_of_lt_mul (by rw [Nat.mul_comm]; have := HL.out; omega)
      have hbn : b < n := by rw [← hb]; exact Nat.mod_lt _ (by omega)
      have bd := wordAt_bd hn1.1 hlt
      have st := wordAt_step hn1.1 hlt
      rw [hi, hb] at bd st
      have hcell := (HROW.out.cellAt i (by omega)).trans (show _ = some (Value.int .i64 (wordAt ps n k i)) by simp [him])
      have hfr := HROW.out.frozenAt i
      obtain ⟨x, hxw⟩ : ∃ x, wordAt ps n k i = x := ⟨_, rfl⟩
      rw [hxw] at bd st hcell
      have pb := pow_bd (show b ≤ 40 by omega)
      have e1 : (k : Int).tdiv (n : Int) = (i : Int) := by rw [Int.tdiv_eq_ediv_of_nonneg (by omega), ← hi]; simp
      have e2 : (k : Int).tmod (n : Int) = (b : Int) := by rw [Int.tmod_eq_emod_of_nonneg (by omega), ← hb]; simp
      have e3 := or_pow x b bd.1 bd.2 (by omega)
      have e4 : ¬ (n : Int) = 0 := by omega
      have e4' : ¬ n = 0 := by omega
      have f1 : IntKind.i64.wrap (i : Int) = (i : Int) := IntWalk.i64_in _ (by omega)
      have f2 : IntKind.i64.wrap (b : Int) = (b : Int) := IntWalk.i64_in _ (by omega)
      have f3 : IntKind.i64.wrap ((2 : Int) ^ b) = (2 : Int) ^ b := IntWalk.i64_in _ (by omega)
      have e5 : (i : Int) < (m : Int) := by omega
      have e6 : (0 : Int) ≤ (i : Int) := by omega
      have e7 : (b : Int) < 64 := by omega
      have e8 : (0 : Int) ≤ (b : Int) := by omega
      have ST := hid st
      have HI := hid hi
      have HB := hid hb
      have HXW := hid hxw
      clear st hi hb hxw
      cases hpk : ps[k] with
      | false =>
        have hrc2 : wr.cell? ⟨g, k, none⟩ = some (.bool false) := hrc.trans (by simp [hlt, hpk])
        have HPK := hid hpk
        clear hrc hpk
        go_wp2
        go_roundw
        case rel =>
          refine ⟨k + 1, by omega, by go_num, ?_, hc1, hbr⟩
          rw [joined_step hn1.1 hlt]
          · exact HROW.out
          · rw [HI.out, ST.out, HPK.out, HXW.out]; simp
        case measure => simp [intOf]; omega
      | true =>
        have hrc2 : wr.cell? ⟨g, k, none⟩ = some (.bool true) := hrc.trans (by simp [hlt, hpk])
        have HPK := hid hpk
        clear hrc hpk
        go_wp2
        go_still_tail 14, (by kernel_rfl)
        change wpList _ _ _ _ _ wr.drew
        go_wp2
        go_roundw
        case rel =>
          have hst := HROW.out.stored i (.int .i64 (x + 2 ^ b))
          refine ⟨k + 1, by omega, by go_num, ?_, hc1.set (by omega), ?_⟩
          · rw [joined_set hn1.1 hlt HI.out (y := x + 2 ^ b) (by rw [ST.out, HPK.out]; simp)]
            exact hst.1.drew
          · (repeat (first | assumption | exact Below.refl _ _ | refine b_alloc ?_ _ | refine Below.drew ?_ | refine b_drewN ?_ _ | refine Below.setCell ?_ (by first | omega | (simp; done) | (simp; omega)) _ | refine b_call (by assumption) ?_))
        case measure => simp [intOf]; omega
    · obtain rfl : k = ps.length := by omega
      have hrow := HROW.out
      go_wp2
      go_ret
      refine ⟨w.heap.size + 1, m, ?_, ?_, hbr⟩
      · show Ending.returned (.slice (some ⟨w.heap.size + 1, 0, none⟩) m m) = _
        simp [joined]
      · have := ownsRow_low hrow (show w.heap.size ≤ w.heap.size + 1 by omega)
        simpa [joined, Function.comp_def] using this
end Go.Proofs.Ytlocdkjnefmiaaa
