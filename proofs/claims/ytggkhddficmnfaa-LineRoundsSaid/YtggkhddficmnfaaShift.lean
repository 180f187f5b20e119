/-
  Contracts of Shift and of the reference's shift, Shift and safe.
-/
import Derived.Test.YtggkhddficmnfaaBase

namespace Go.Proofs.Ytggkhddficmnfaa
open Go.RowKit
set_option linter.unusedVariables false
set_option linter.unusedSimpArgs false

theorem Check_ok (l : Ln) (h : l.Ok) (w : World) : Calls Try.prog 25 #[l.val] w (Ret w (.int .i64 0)) := by
  have := Check_any l w; rwa [show errno l.Ok = 0 from (errno_yes h).symm] at this
theorem Check_no (l : Ln) (h : ¬ l.Ok) (w : World) : Calls Try.prog 25 #[l.val] w (Ret w (.int .i64 7)) := by
  have := Check_any l w; rwa [show errno l.Ok = 7 from (errno_no h).symm] at this
theorem refCheck_ok (l : Ln) (h : l.Ok) (w : World) : Calls Try.prog 26 #[l.val] w (Ret w (.int .i64 0)) := by
  have := refCheck_any l w; rwa [show errno l.Ok = 0 from (errno_yes h).symm] at this
theorem refCheck_no (l : Ln) (h : ¬ l.Ok) (w : World) : Calls Try.prog 26 #[l.val] w (Ret w (.int .i64 7)) := by
  have := refCheck_any l w; rwa [show errno l.Ok = 7 from (errno_no h).symm] at this

abbrev Temp (t : Int) : Prop := -500 ≤ t ∧ t ≤ 1000
abbrev val3 (n : Int) (b : Bool) (e : Int) : Value := .tuple #[.int .i64 n, .bool b, .int .i64 e]

set_option maxHeartbeats 1000000 in
theorem Shift_no (l : Ln) (h : ¬ l.Ok) (t : Int) (w : World) : Calls Try.prog 23 #[l.val, .int .i64 t] w (Ret w (val3 0 false 7)) := by
  go_enter Try.func23, Try.ntmps23
  go_wp2_with (go_at_call 25; refine (Check_no l h _).mono ?_; rintro e w1 ⟨rfl, hb1⟩; obtain ⟨hc1, hf1⟩ := bcell hb1)
  go_ret3
  exact ⟨rfl, by (repeat (first | assumption | exact Below.refl _ _ | refine b_alloc ?_ _ | refine Below.drew ?_ | refine b_drewN ?_ _ | refine Below.setCell ?_ (by first | omega | (simp; done) | (simp; omega)) _ | refine b_call (by assumption) ?_))⟩
set_option maxHeartbeats 1000000 in
theorem Shift_temp (l : Ln) (h : l.Ok) (t : Int) (ht : ¬ Temp t) (w : World) : Calls Try.prog 23 #[l.val, .int .i64 t] w (Ret w (val3 0 false 7)) := by
  have hd : decide (-500 ≤ t ∧ t ≤ 1000) = false := by simpa using ht
  go_enter Try.func23, Try.ntmps23
  go_wp2_with (first | (go_at_call 25; refine (Check_ok l h _).mono ?_; rintro e w1 ⟨rfl, hb1⟩; obtain ⟨hc1, hf1⟩ := bcell hb1) | (go_at_call 57; refine (isTemp_any _ _).mono ?_; rintro e w1 ⟨rfl, rfl⟩))
  go_ret3
  exact ⟨rfl, by (repeat (first | assumption | exact Below.refl _ _ | refine b_alloc ?_ _ | refine Below.drew ?_ | refine b_drewN ?_ _ | refine Below.setCell ?_ (by first | omega | (simp; done) | (simp; omega)) _ | refine b_call (by assumption) ?_))⟩
set_option maxHeartbeats 1000000 in
theorem Shift_lost (l : Ln) (h : l.Ok) (t : Int) (ht : Temp t) (hs : l.shift t = none) (w : World) : Calls Try.prog 23 #[l.val, .int .i64 t] w (Ret w (val3 0 true 0)) := by
  have hd : decide (-500 ≤ t ∧ t ≤ 1000) = true := by simpa using ht
  have hr : l.round t = .agg #[.int .i64 0, .bool true] := by simp [Ln.round, hs]
  go_enter Try.func23, Try.ntmps23
  go_wp2_with (first | (go_at_call 25; refine (Check_ok l h _).mono ?_; rintro e w1 ⟨rfl, hb1⟩; obtain ⟨hc1, hf1⟩ := bcell hb1) | (go_at_call 57; refine (isTemp_any _ _).mono ?_; rintro e w1 ⟨rfl, rfl⟩) | (go_at_call 58; refine (roundAt_any l h t ht _).mono ?_; rintro e w1 ⟨rfl, hb1⟩; obtain ⟨hc1, hf1⟩ := bcell hb1))
  go_quiet (fail)
  go_wp2
  go_ret3
  exact ⟨rfl, by (repeat (first | assumption | exact Below.refl _ _ | refine b_alloc ?_ _ | refine Below.drew ?_ | refine b_drewN ?_ _ | refine Below.setCell ?_ (by first | omega | (simp; done) | (simp; omega)) _ | refine b_call (by assumption) ?_))⟩
set_option maxHeartbeats 1000000 in
theorem Shift_is (l : Ln) (h : l.Ok) (t : Int) (ht : Temp t) (s : Int) (hs : l.shift t = some s) (w : World) : Calls Try.prog 23 #[l.val, .int .i64 t] w (Ret w (val3 s false 0)) := by
  have hd : decide (-500 ≤ t ∧ t ≤ 1000) = true := by simpa using ht
  have hr : l.round t = .agg #[.int .i64 s, .bool false] := by simp [Ln.round, hs]
  go_enter Try.func23, Try.ntmps23
  go_wp2_with (first | (go_at_call 25; refine (Check_ok l h _).mono ?_; rintro e w1 ⟨rfl, hb1⟩; obtain ⟨hc1, hf1⟩ := bcell hb1) | (go_at_call 57; refine (isTemp_any _ _).mono ?_; rintro e w1 ⟨rfl, rfl⟩) | (go_at_call 58; refine (roundAt_any l h t ht _).mono ?_; rintro e w1 ⟨rfl, hb1⟩; obtain ⟨hc1, hf1⟩ := bcell hb1))
  go_quiet (fail)
  go_wp2
  go_ret3
  exact ⟨rfl, by (repeat (first | assumption | exact Below.refl _ _ | refine b_alloc ?_ _ | refine Below.drew ?_ | refine b_drewN ?_ _ | refine Below.setCell ?_ (by first | omega | (simp; done) | (simp; omega)) _ | refine b_call (by assumption) ?_))⟩

/-! ### the reference's -/
set_option maxHeartbeats 1000000 in
theorem refshift_any (l : Ln) (h : l.Ok) (t : Int) (ht : Temp t) (w : World) : Calls Try.prog 59 #[l.val, .int .i64 t] w (Ret w (.tuple #[.int .i64 ((l.shift t).getD 0), .bool (l.shift t).isSome])) := by
  have b1 := h.slope ht.1 ht.2
  have b2 := h.all
  have b3 := h.beats
  have b4 := h.late_bd ht.1 ht.2
  obtain ⟨h1, h2, h3, h4, h5, h6⟩ := id h
  obtain ⟨x, hx⟩ : ∃ x, l.D + l.S * t - l.W * l.B * l.P = x := ⟨_, rfl⟩
  obtain ⟨q, hq⟩ : ∃ q, x.tdiv l.P = q := ⟨_, rfl⟩
  have b5 : -356000000 ≤ x ∧ x ≤ 1100000000 := by unfold Ln.late at b4; omega
  have b6 := tdiv_bd (B := 1100000000) (by omega) hq (by omega)
  go_enter Try.func59, Try.ntmps59
  go_wp2
  have HX := hid hx
  have HQ := hid hq
  clear hx hq
  go_loop [8] (fun i => ∃ s : Int, q - 1 ≤ s ∧ s ≤ q + 2 ∧ i = .int .i64 s ∧ ∀ j, q - 1 ≤ j → j < s → ¬ l.at x j) (fun i => (q + 2 - intOf i).toNat)
  case atStart => exact ⟨q - 1, by omega, by omega, rfl, fun j h1 h2 => by omega⟩
  case round =>
    obtain ⟨s, hs1, hs2, rfl, hno⟩ := hrel
    have HN := hid hno
    clear hno
    by_cases hle : s ≤ q + 1
    · have nm := near_mul (by omega) HQ.out hs1 hle
      by_cases hin : -l.N ≤ x - s * l.P ∧ x - s * l.P ≤ l.N
      · have hr := shift_hit h HX.out hin
        go_wp2_with (go_at_call 56; refine (in_any _ _ _ _).mono ?_; rintro e w1 ⟨rfl, rfl⟩)
        go_ret2
        exact ⟨by rw [hr]; rfl, by (repeat (first | assumption | exact Below.refl _ _ | refine b_alloc ?_ _ | refine Below.drew ?_ | refine b_drewN ?_ _ | refine Below.setCell ?_ (by first | omega | (simp; done) | (simp; omega)) _ | refine b_call (by assumption) ?_))⟩
      · go_wp2_with (go_at_call 56; refine (in_any _ _ _ _).mono ?_; rintro e w1 ⟨rfl, rfl⟩)
        go_round
        case rel => exact ⟨s + 1, by omega, by omega, rfl, fun j h1 h2 => if e : j = s then e ▸ hin else HN.out j h1 (by omega)⟩
        case measure => simp [intOf]; omega
    · obtain rfl : s = q + 2 := by omega
      have hr := shift_miss h HX.out HQ.out HN.out
      go_wp2
      go_ret2
      exact ⟨rfl, by (repeat (first | assumption | exact Below.refl _ _ | refine b_alloc ?_ _ | refine Below.drew ?_ | refine b_drewN ?_ _ | refine Below.setCell ?_ (by first | omega | (simp; done) | (simp; omega)) _ | refine b_call (by assumption) ?_))⟩

theorem refshift_lost (l : Ln) (h : l.Ok) (t : Int) (ht : Temp t) (hs : l.shift t = none) (w : World) : Calls Try.prog 59 #[l.val, .int .i64 t] w (Ret w (.tuple #[.int .i64 0, .bool false])) := by
  have := refshift_any l h t ht w; rwa [hs] at this
theorem refshift_is (l : Ln) (h : l.Ok) (t : Int) (ht : Temp t) (s : Int) (hs : l.shift t = some s) (w : World) : Calls Try.prog 59 #[l.val, .int .i64 t] w (Ret w (.tuple #[.int .i64 s, .bool true])) := by
  have := refshift_any l h t ht w; rwa [hs] at this

set_option maxHeartbeats 1000000 in
theorem refShift_no (l : Ln) (h : ¬ l.Ok) (t : Int) (w : World) : Calls Try.prog 24 #[l.val, .int .i64 t] w (Ret w (val3 0 false 7)) := by
  go_enter Try.func24, Try.ntmps24
  go_wp2_with (go_at_call 26; refine (refCheck_no l h _).mono ?_; rintro e w1 ⟨rfl, hb1⟩; obtain ⟨hc1, hf1⟩ := bcell hb1)
  go_ret3
  exact ⟨rfl, by (repeat (first | assumption | exact Below.refl _ _ | refine b_alloc ?_ _ | refine Below.drew ?_ | refine b_drewN ?_ _ | refine Below.setCell ?_ (by first | omega | (simp; done) | (simp; omega)) _ | refine b_call (by assumption) ?_))⟩
set_option maxHeartbeats 1000000 in
theorem refShift_temp (l : Ln) (h : l.Ok) (t : Int) (ht : ¬ Temp t) (w : World) : Calls Try.prog 24 #[l.val, .int .i64 t] w (Ret w (val3 0 false 7)) := by
  have hd : decide (-500 ≤ t ∧ t ≤ 1000) = false := by simpa using ht
  go_enter Try.func24, Try.ntmps24
  go_wp2_with (first | (go_at_call 26; refine (refCheck_ok l h _).mono ?_; rintro e w1 ⟨rfl, hb1⟩; obtain ⟨hc1, hf1⟩ := bcell hb1) | (go_at_call 47; refine (Temp_any _ _).mono ?_; rintro e w1 ⟨rfl, rfl⟩))
  go_ret3
  exact ⟨rfl, by (repeat (first | assumption | exact Below.refl _ _ | refine b_alloc ?_ _ | refine Below.drew ?_ | refine b_drewN ?_ _ | refine Below.setCell ?_ (by first | omega | (simp; done) | (simp; omega)) _ | refine b_call (by assumption) ?_))⟩
set_option maxHeartbeats 1000000 in
theorem refShift_lost (l : Ln) (h : l.Ok) (t : Int) (ht : Temp t) (hs : l.shift t = none) (w : World) : Calls Try.prog 24 #[l.val, .int .i64 t] w (Ret w (val3 0 true 0)) := by
  have hd : decide (-500 ≤ t ∧ t ≤ 1000) = true := by simpa using ht
  go_enter Try.func24, Try.ntmps24
  go_wp2_with (first | (go_at_call 26; refine (refCheck_ok l h _).mono ?_; rintro e w1 ⟨rfl, hb1⟩; obtain ⟨hc1, hf1⟩ := bcell hb1) | (go_at_call 47; refine (Temp_any _ _).mono ?_; rintro e w1 ⟨rfl, rfl⟩) | (go_at_call 59; refine (refshift_lost l h t ht hs _).mono ?_; rintro e w1 ⟨rfl, hb1⟩; obtain ⟨hc1, hf1⟩ := bcell hb1))
  go_ret3
  exact ⟨rfl, by (repeat (first | assumption | exact Below.refl _ _ | refine b_alloc ?_ _ | refine Below.drew ?_ | refine b_drewN ?_ _ | refine Below.setCell ?_ (by first | omega | (simp; done) | (simp; omega)) _ | refine b_call (by assumption) ?_))⟩
set_option maxHeartbeats 1000000 in
theorem refShift_is (l : Ln) (h : l.Ok) (t : Int) (ht : Temp t) (s : Int) (hs : l.shift t = some s) (w : World) : Calls Try.prog 24 #[l.val, .int .i64 t] w (Ret w (val3 s false 0)) := by
  have hd : decide (-500 ≤ t ∧ t ≤ 1000) = true := by simpa using ht
  go_enter Try.func24, Try.ntmps24
  go_wp2_with (first | (go_at_call 26; refine (refCheck_ok l h _).mono ?_; rintro e w1 ⟨rfl, hb1⟩; obtain ⟨hc1, hf1⟩ := bcell hb1) | (go_at_call 47; refine (Temp_any _ _).mono ?_; rintro e w1 ⟨rfl, rfl⟩) | (go_at_call 59; refine (refshift_is l h t ht s hs _).mono ?_; rintro e w1 ⟨rfl, hb1⟩; obtain ⟨hc1, hf1⟩ := bcell hb1))
  go_ret3
  exact ⟨rfl, by (repeat (first | assumption | exact Below.refl _ _ | refine b_alloc ?_ _ | refine Below.drew ?_ | refine b_drewN ?_ _ | refine Below.setCell ?_ (by first | omega | (simp; done) | (simp; omega)) _ | refine b_call (by assumption) ?_))⟩

/-- What Shift returns, of any line and number. -/
def Ln.shiftV (l : Ln) (t : Int) : Value :=
  if l.Ok ∧ Temp t then match l.shift t with | none => val3 0 true 0 | some s => val3 s false 0 else val3 0 false 7
theorem Shift_any (l : Ln) (t : Int) (w : World) : Calls Try.prog 23 #[l.val, .int .i64 t] w (Ret w (l.shiftV t)) := by
  unfold Ln.shiftV
  by_cases h : l.Ok
  · by_cases ht : Temp t
    · rw [if_pos ⟨h, ht⟩]
      cases hs : l.shift t with
      | none => exact Shift_lost l h t ht hs w
      | some s => exact Shift_is l h t ht s hs w
    · rw [if_neg (fun g => ht g.2)]; exact Shift_temp l h t ht w
  · rw [if_neg (fun g => h g.1)]; exact Shift_no l h t w
theorem refShift_any (l : Ln) (t : Int) (w : World) : Calls Try.prog 24 #[l.val, .int .i64 t] w (Ret w (l.shiftV t)) := by
  unfold Ln.shiftV
  by_cases h : l.Ok
  · by_cases ht : Temp t
    · rw [if_pos ⟨h, ht⟩]
      cases hs : l.shift t with
      | none => exact refShift_lost l h t ht hs w
      | some s => exact refShift_is l h t ht s hs w
    · rw [if_neg (fun g => ht g.2)]; exact refShift_temp l h t ht w
  · rw [if_neg (fun g => h g.1)]; exact refShift_no l h t w

/-! ### the reference's safe -/
def Ln.safe (l : Ln) (t : Int) : Prop := l.shift t = some 0
instance (l : Ln) (t : Int) : Decidable (l.safe t) := by unfold Ln.safe; infer_instance
set_option maxHeartbeats 1000000 in
theorem refsafe_any (l : Ln) (h : l.Ok) (t : Int) (ht : Temp t) (w : World) : Calls Try.prog 62 #[l.val, .int .i64 t] w (Ret w (.bool (decide (l.safe t)))) := by
  have hd : decide (-500 ≤ t ∧ t ≤ 1000) = true := by simpa using ht
  have hS : decide (l.safe t) = (l.shift t == some 0) := by
    by_cases g : l.shift t = some 0
    · rw [decide_eq_true (show l.safe t from g)]; simp [g]
    · rw [decide_eq_false (show ¬ l.safe t from g)]; simp [g]
  rw [hS]
  clear hS
  cases hs : l.shift t with
  | none =>
    go_enter Try.func62, Try.ntmps62
    go_wp2_with (first | (go_at_call 47; refine (Temp_any _ _).mono ?_; rintro e w1 ⟨rfl, rfl⟩) | (go_at_call 59; refine (refshift_lost l h t ht hs _).mono ?_; rintro e w1 ⟨rfl, hb1⟩; obtain ⟨hc1, hf1⟩ := bcell hb1))
    go_ret
    exact ⟨rfl, by (repeat (first | assumption | exact Below.refl _ _ | refine b_alloc ?_ _ | refine Below.drew ?_ | refine b_drewN ?_ _ | refine Below.setCell ?_ (by first | omega | (simp; done) | (simp; omega)) _ | refine b_call (by assumption) ?_))⟩
  | some s =>
    go_enter Try.func62, Try.ntmps62
    go_wp2_with (first | (go_at_call 47; refine (Temp_any _ _).mono ?_; rintro e w1 ⟨rfl, rfl⟩) | (go_at_call 59; refine (refshift_is l h t ht s hs _).mono ?_; rintro e w1 ⟨rfl, hb1⟩; obtain ⟨hc1, hf1⟩ := bcell hb1))
    all_goals (go_ret; exact ⟨ret_bool (by simp [*]), by (repeat (first | assumption | exact Below.refl _ _ | refine b_alloc ?_ _ | refine Below.drew ?_ | refine b_drewN ?_ _ | refine Below.setCell ?_ (by first | omega | (simp; done) | (simp; omega)) _ | refine b_call (by assumption) ?_))⟩)
end Go.Proofs.Ytggkhddficmnfaa
