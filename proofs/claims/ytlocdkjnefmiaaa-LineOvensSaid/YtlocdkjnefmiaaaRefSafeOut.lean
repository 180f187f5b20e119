/-
  The reference's safe at every temperature that an oven can reach.
-/
import Derived.Test.YtlocdkjnefmiaaaRefOvens
import Derived.Test.YtlocdkjnefmiaaaGKeeps
namespace Go.Proofs.Ytlocdkjnefmiaaa
open Go.RowKit
set_option linter.unusedVariables false
set_option linter.unusedSimpArgs false

set_option maxHeartbeats 1000000 in
theorem refshift_far (l : Ln) (h : l.Ok) (t : Int) (ht : -600 ≤ t ∧ t ≤ 1100) (w : World) : Calls Try.prog 59 #[l.val, .int .i64 t] w (Ret w (.tuple #[.int .i64 ((l.shift t).getD 0), .bool (l.shift t).isSome])) := by
  have b1 : -120000000 ≤ l.S * t ∧ l.S * t ≤ 120000000 := by
    have h5 := h.2.2.2.2.1
    have := mul_abs_bd (A := 100000) (B := 1200) h5.1 h5.2 (by omega : -1200 ≤ t) (by omega)
    omega
  have b2 := h.all
  have b3 := h.beats
  obtain ⟨h1, h2, h3, h4, h5, h6⟩ := id h
  obtain ⟨x, hx⟩ : ∃ x, l.D + l.S * t - l.W * l.B * l.P = x := ⟨_, rfl⟩
  obtain ⟨q, hq⟩ : ∃ q, x.tdiv l.P = q := ⟨_, rfl⟩
  have b5 : -376000000 ≤ x ∧ x ≤ 1120000000 := by omega
  have b6 := tdiv_bd (B := 1120000000) (by omega) hq (by omega)
  go_enter Try.func59, Try.ntmps59
  go_wp2
  have HX := hid hx
  have HQ := hid hq
  clear hx hq
  go_loop [8] (fun i => ∃ s : Int, q - 1 ≤ s ∧ s ≤ q + 2 ∧ i = .int .i64 s ∧ ∀ j, q - 1 ≤ j → j < s → ¬ l.at x j) (fun i => (q + 2 - intOf i).toNat)
  case atStart => exact ⟨q - 1, by omega, by omega, rfl, fun j h1 h2 => by omega⟩
  case round =>
    obtain ⟨s, hs1, hs2, rfl, hno⟩ := hrel
    have HN := hid hno
    clear hno
    by_cases hle : s ≤ q + 1
    · have nm := near_mul (by omega) HQ.out hs1 hle
      by_cases hin : -l.N ≤ x - s * l.P ∧ x - s * l.P ≤ l.N
      · have hr := shift_hit h HX.out hin
        go_wp2_with (go_at_call 56; refine (in_any _ _ _ _).mono ?_; rintro e w1 ⟨rfl, rfl⟩)
        go_ret2
        exact ⟨by rw [hr]; rfl, by (repeat (first | assumption | exact Below.refl _ _ | refine b_alloc ?_ _ | refine Below.drew ?_ | refine b_drewN ?_ _ | refine Below.setCell ?_ (by first | omega | (simp; done) | (simp; omega)) _ | refine b_call (by assumption) ?_))⟩
      · go_wp2_with (go_at_call 56; refine (in_any _ _ _ _).mono ?_; rintro e w1 ⟨rfl, rfl⟩)
        go_round
        case rel => exact ⟨s + 1, by omega, by omega, rfl, fun j h1 h2 => if e : j = s then e ▸ hin else HN.out j h1 (by omega)⟩
        case measure => simp [intOf]; omega
    · obtain rfl : s = q + 2 := by omega
      have hr := shift_miss h HX.out HQ.out HN.out
      go_wp2
      go_ret2
      exact ⟨rfl, by (repeat (first | assumption | exact Below.refl _ _ | refine b_alloc ?_ _ | refine Below.drew ?_ | refine b_drewN ?_ _ | refine Below.setCell ?_ (by first | omega | (simp; done) | (simp; omega)) _ | refine b_call (by assumption) ?_))⟩
set_option maxHeartbeats 1000000 in
theorem refsafe_far (l : Ln) (h : l.Ok) (t : Int) (hb : -600 ≤ t ∧ t ≤ 1100) (ht : ¬ Temp t) (w : World) : Calls Try.prog 62 #[l.val, .int .i64 t] w (Ret w (.bool false)) := by
  have hd : decide (-500 ≤ t ∧ t ≤ 1000) = false := by simpa using ht
  have hS := fun W => refshift_far l h t hb W
  generalize (l.shift t).getD 0 = sv at hS
  generalize (l.shift t).isSome = sb at hS
  have HS := hid hS
  clear hS
  cases sb
  · go_enter Try.func62, Try.ntmps62
    go_wp2_with (first | (go_at_call 47; refine (Temp_any _ _).mono ?_; rintro e w1 ⟨rfl, rfl⟩) | (go_at_call 59; refine (HS.out _).mono ?_; rintro e w1 ⟨rfl, hb1⟩; obtain ⟨hc1, hf1⟩ := bcell hb1))
    all_goals (go_ret; exact ⟨ret_bool (by simp_all), by (repeat (first | assumption | exact Below.refl _ _ | refine b_alloc ?_ _ | refine Below.drew ?_ | refine b_drewN ?_ _ | refine Below.setCell ?_ (by first | omega | (simp; done) | (simp; omega)) _ | refine b_call (by assumption) ?_))⟩)
  · go_enter Try.func62, Try.ntmps62
    go_wp2_with (first | (go_at_call 47; refine (Temp_any _ _).mono ?_; rintro e w1 ⟨rfl, rfl⟩) | (go_at_call 59; refine (HS.out _).mono ?_; rintro e w1 ⟨rfl, hb1⟩; obtain ⟨hc1, hf1⟩ := bcell hb1))
    all_goals (go_ret; exact ⟨ret_bool (by simp_all), by (repeat (first | assumption | exact Below.refl _ _ | refine b_alloc ?_ _ | refine Below.drew ?_ | refine b_drewN ?_ _ | refine Below.setCell ?_ (by first | omega | (simp; done) | (simp; omega)) _ | refine b_call (by assumption) ?_))⟩)
theorem ends_inside (l : Ln) (hf : l.ends.2.2 = true) : -500 ≤ l.ends.1 ∧ l.ends.2.1 ≤ 1000 := by
  obtain ⟨e1, e2⟩ := ends_mem (safeTo l 1501)
  have hM := @mem_safeTo l
  unfold Ln.ends at *
  generalize safeTo l 1501 = xs at *
  obtain ⟨m1, m2, _⟩ := e2 hf
  have a := (hM.1 m1).1
  have b := (hM.1 m2).1
  exact ⟨a.1, b.2⟩
/-- A climate that an oven can reach is safe if and only if it is not bad. -/
theorem refsafe_bad (l : Ln) (h : l.Ok) (t : Int) (hb : -600 ≤ t ∧ t ≤ 1100) (w : World) : Calls Try.prog 62 #[l.val, .int .i64 t] w (Ret w (.bool (!l.bad t))) := by
  by_cases ht : Temp t
  · have h1 := refsafe_any l h t ht w
    have e : (!l.bad t) = decide (l.safe t) := by
      unfold Ln.bad
      rw [Bool.not_not]
      have h2 := safe_span h (t := t) ht
      by_cases g : l.safe t
      · rw [decide_eq_true g]; obtain ⟨x, y, z⟩ := h2.1 g; simp [x, y, z]
      · rw [decide_eq_false g]
        cases e1 : l.ends.2.2
        · simp
        · by_cases e2 : l.ends.1 ≤ t
          · by_cases e3 : t ≤ l.ends.2.1
            · exact absurd (h2.2 ⟨e1, e2, e3⟩) g
            · simp [e3]
          · simp [e2]
    rw [e]; exact h1
  · have h1 := refsafe_far l h t hb ht w
    have e : (!l.bad t) = false := by
      unfold Ln.bad
      rw [Bool.not_not]
      cases e1 : l.ends.2.2
      · simp
      · have := ends_inside l e1
        by_cases e2 : l.ends.1 ≤ t
        · by_cases e3 : t ≤ l.ends.2.1
          · exact absurd ⟨by omega, by omega⟩ ht
          · simp [e3]
        · simp [e2]
    rw [e]; exact h1
end Go.Proofs.Ytlocdkjnefmiaaa
