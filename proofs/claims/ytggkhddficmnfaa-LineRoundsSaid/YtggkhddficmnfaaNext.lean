/-
  Contracts of Next and of the reference's Next.
-/
import Derived.Test.YtggkhddficmnfaaShift
namespace Go.Proofs.Ytggkhddficmnfaa
open Go.RowKit
set_option linter.unusedVariables false
set_option linter.unusedSimpArgs false

def nextOk (l : Ln) (word beat : Int) : Prop := l.Ok ∧ (0 ≤ word ∧ word ≤ l.W - 1) ∧ (0 ≤ beat ∧ beat ≤ 1000000000)
instance (l : Ln) (word beat : Int) : Decidable (nextOk l word beat) := by unfold nextOk; infer_instance
def nextOf (l : Ln) (word beat : Int) : Int := beat + 1 + (word * l.B - (beat + 1)) % (l.W * l.B)
abbrev val2 (n e : Int) : Value := .tuple #[.int .i64 n, .int .i64 e]
def nextV (l : Ln) (word beat : Int) : Value := if nextOk l word beat then val2 (nextOf l word beat) 0 else val2 0 7

theorem lnAt_new' (ln : Ln) (w : World) : LnAt w.heap.size ln (w.alloc (.cells #[.int .i64 ln.W, .int .i64 ln.B, .int .i64 ln.P, .int .i64 ln.D, .int .i64 ln.S, .int .i64 ln.N] 25)) := by
  unfold LnAt; simp [go_sem]
theorem lnAt_call {b : Nat} {ln : Ln} {W W' : World} (h : LnAt b ln W) (hb : Below W.heap.size W W') : LnAt b ln W' :=
  ⟨cell_later hb h.1, cell_later hb h.2.1, cell_later hb h.2.2.1, cell_later hb h.2.2.2.1, cell_later hb h.2.2.2.2.1, cell_later hb h.2.2.2.2.2⟩
theorem word_bd {l : Ln} (h : l.Ok) {word : Int} (hw : 0 ≤ word ∧ word ≤ l.W - 1) : 0 ≤ word * l.B ∧ word * l.B ≤ 2560 ∧ word * l.B < l.W * l.B := by
  obtain ⟨h1, h2, _⟩ := h
  have a := mul_le_mul_bd (A := 64) (B := 40) hw.1 (by omega) (show 0 ≤ l.B by omega) h2.2
  have b := Int.mul_le_mul_of_nonneg_right (show word + 1 ≤ l.W by omega) (show 0 ≤ l.B by omega)
  rw [Int.add_mul] at b
  omega

set_option maxHeartbeats 1000000 in
theorem Next_no (l : Ln) (h : ¬ l.Ok) (word beat : Int) (w : World) : Calls Try.prog 34 #[l.val, .int .i64 word, .int .i64 beat] w (Ret w (val2 0 7)) := by
  go_enter Try.func34, Try.ntmps34
  go_wp2_with (go_at_call 25; refine (Check_no l h _).mono ?_; rintro e w1 ⟨rfl, hb1⟩; obtain ⟨hc1, hf1⟩ := bcell hb1)
  go_ret2
  exact ⟨rfl, by (repeat (first | assumption | exact Below.refl _ _ | refine b_alloc ?_ _ | refine Below.drew ?_ | refine b_drewN ?_ _ | refine Below.setCell ?_ (by first | omega | (simp; done) | (simp; omega)) _ | refine b_call (by assumption) ?_))⟩
set_option maxHeartbeats 2000000 in
theorem Next_ok (l : Ln) (h : l.Ok) (word beat : Int) (w : World) : Calls Try.prog 34 #[l.val, .int .i64 word, .int .i64 beat] w (Ret w (nextV l word beat)) := by
  obtain ⟨b1, b2⟩ := h.beats
  have b3 := h.beats1
  by_cases hw : 0 ≤ word ∧ word ≤ l.W - 1
  · have hwb := word_bd h hw
    obtain ⟨h1, h2, _⟩ := id h
    by_cases hb : 0 ≤ beat ∧ beat ≤ 1000000000
    · have hv : nextV l word beat = val2 (nextOf l word beat) 0 := if_pos ⟨h, hw, hb⟩
      have HV := hid hv
      have m1 := Int.emod_nonneg (word * l.B - (beat + 1)) (show l.W * l.B ≠ 0 by omega)
      have m2 := Int.emod_lt_of_pos (word * l.B - (beat + 1)) (show 0 < l.W * l.B by omega)
      clear hv
      go_enter Try.func34, Try.ntmps34
      have e1 : IntKind.i64.wrap (word * l.B) = word * l.B := IntWalk.i64_in _ (by omega)
      have e2 : IntKind.i64.wrap (word * l.B - (beat + 1)) = word * l.B - (beat + 1) := IntWalk.i64_in _ (by omega)
      have e3 : IntKind.i64.wrap (beat + 1 + (word * l.B - (beat + 1)) % (l.W * l.B)) = beat + 1 + (word * l.B - (beat + 1)) % (l.W * l.B) := IntWalk.i64_in _ (by omega)
      go_wp2_with (first | ((go_at_call 25; refine (Check_ok l h _).mono ?_; rintro e w1 ⟨rfl, hb1⟩; obtain ⟨hc1, hf1⟩ := bcell hb1); obtain ⟨a0, a1, a2, a3, a4, a5⟩ := lnAt_call (lnAt_new' l w) hb1) | (go_at_call 53; refine (within_any _ _ _ _).mono ?_; rintro e w1 ⟨rfl, rfl⟩))
      have hb0 := hb1
      clear hc1 hf1
      go_region_held3 (fun w' => w'.cell? ⟨w.heap.size, 0, none⟩ = some (.int .i64 l.W) ∧ w'.cell? ⟨w.heap.size, 1, none⟩ = some (.int .i64 l.B) ∧ w'.cell? ⟨w.heap.size, 2, none⟩ = some (.int .i64 l.P) ∧ w'.cell? ⟨w.heap.size, 3, none⟩ = some (.int .i64 l.D) ∧ w'.cell? ⟨w.heap.size, 4, none⟩ = some (.int .i64 l.S) ∧ w'.cell? ⟨w.heap.size, 5, none⟩ = some (.int .i64 l.N)) (first | go_keep | (go_split_ands; refine ⟨?_, ?_, ?_, ?_, ?_, ?_⟩ <;> exact cell_later hb1 (by assumption))) (first | (go_at_call 71; refine (beats_any l h _).mono ?_; rintro e w1 ⟨rfl, hb1⟩) | (go_at_call 77; refine (modulo_any _ _ _ (by omega) (by omega)).mono ?_; rintro e w1 ⟨rfl, rfl⟩))
      go_wp2
      go_ret2
      exact ⟨by rw [HV.out]; rfl, by (repeat (first | assumption | exact Below.refl _ _ | refine b_alloc ?_ _ | refine Below.drew ?_ | refine b_drewN ?_ _ | refine Below.setCell ?_ (by first | omega | (simp; done) | (simp; omega)) _ | refine b_call (by assumption) ?_))⟩
    · have hv : nextV l word beat = val2 0 7 := if_neg (fun g => hb g.2.2)
      have hd : decide (0 ≤ beat ∧ beat ≤ 1000000000) = false := by simpa using hb
      have HV := hid hv
      clear hv
      go_enter Try.func34, Try.ntmps34
      go_wp2_with (first | (go_at_call 25; refine (Check_ok l h _).mono ?_; rintro e w1 ⟨rfl, hb1⟩; obtain ⟨hc1, hf1⟩ := bcell hb1) | (go_at_call 53; refine (within_any _ _ _ _).mono ?_; rintro e w1 ⟨rfl, rfl⟩))
      go_ret2
      exact ⟨by rw [HV.out]; rfl, by (repeat (first | assumption | exact Below.refl _ _ | refine b_alloc ?_ _ | refine Below.drew ?_ | refine b_drewN ?_ _ | refine Below.setCell ?_ (by first | omega | (simp; done) | (simp; omega)) _ | refine b_call (by assumption) ?_))⟩
  · have hv : nextV l word beat = val2 0 7 := if_neg (fun g => hw g.2.1)
    have hd : decide (0 ≤ word ∧ word ≤ l.W - 1) = false := by simpa using hw
    have HV := hid hv
    obtain ⟨h1, h2, _⟩ := id h
    clear hv
    go_enter Try.func34, Try.ntmps34
    go_wp2_with (first | (go_at_call 25; refine (Check_ok l h _).mono ?_; rintro e w1 ⟨rfl, hb1⟩; obtain ⟨hc1, hf1⟩ := bcell hb1) | (go_at_call 53; refine (within_any _ _ _ _).mono ?_; rintro e w1 ⟨rfl, rfl⟩))
    all_goals (go_ret2; exact ⟨by rw [HV.out]; rfl, by (repeat (first | assumption | exact Below.refl _ _ | refine b_alloc ?_ _ | refine Below.drew ?_ | refine b_drewN ?_ _ | refine Below.setCell ?_ (by first | omega | (simp; done) | (simp; omega)) _ | refine b_call (by assumption) ?_))⟩)
theorem Next_any (l : Ln) (word beat : Int) (w : World) : Calls Try.prog 34 #[l.val, .int .i64 word, .int .i64 beat] w (Ret w (nextV l word beat)) := by
  by_cases h : l.Ok
  · exact Next_ok l h word beat w
  · rw [show nextV l word beat = val2 0 7 from if_neg (fun g => h g.1)]; exact Next_no l h word beat w

/-! ### the reference's -/
theorem next_hit {M x t : Int} (hM : 1 ≤ M) (ht0 : 0 ≤ t) (ht : t < M) : (x + (t - x) % M) % M = t := by
  rw [Int.add_emod, Int.emod_emod_of_dvd _ (Int.dvd_refl M), ← Int.add_emod, show x + (t - x) = t by omega]
  exact Int.emod_eq_of_lt ht0 ht
theorem next_miss {M x t j : Int} (hM : 1 ≤ M) (h0 : 0 ≤ j) (h1 : j < (t - x) % M) : (x + j) % M ≠ t := by
  intro e
  have hlt := Int.emod_lt_of_pos (t - x) (show 0 < M by omega)
  have h2 : (t - x) % M = j := by
    rw [← e, Int.sub_emod, Int.emod_emod_of_dvd _ (Int.dvd_refl M), ← Int.sub_emod, show x + j - x = j by omega]
    exact Int.emod_eq_of_lt h0 (by omega)
  omega
set_option maxHeartbeats 1000000 in
theorem refNext_no (l : Ln) (h : ¬ l.Ok) (word beat : Int) (w : World) : Calls Try.prog 35 #[l.val, .int .i64 word, .int .i64 beat] w (Ret w (val2 0 7)) := by
  go_enter Try.func35, Try.ntmps35
  go_wp2_with (go_at_call 26; refine (refCheck_no l h _).mono ?_; rintro e w1 ⟨rfl, hb1⟩; obtain ⟨hc1, hf1⟩ := bcell hb1)
  go_ret2
  exact ⟨rfl, by (repeat (first | assumption | exact Below.refl _ _ | refine b_alloc ?_ _ | refine Below.drew ?_ | refine b_drewN ?_ _ | refine Below.setCell ?_ (by first | omega | (simp; done) | (simp; omega)) _ | refine b_call (by assumption) ?_))⟩
set_option maxHeartbeats 2000000 in
theorem refNext_ok (l : Ln) (h : l.Ok) (word beat : Int) (w : World) : Calls Try.prog 35 #[l.val, .int .i64 word, .int .i64 beat] w (Ret w (nextV l word beat)) := by
  obtain ⟨b1, b2⟩ := h.beats
  have b3 := h.beats1
  by_cases hw : 0 ≤ word ∧ word ≤ l.W - 1
  · have hwb := word_bd h hw
    obtain ⟨h1, h2, _⟩ := id h
    by_cases hb : 0 ≤ beat ∧ beat ≤ 1000000000
    · have hv : nextV l word beat = val2 (nextOf l word beat) 0 := if_pos ⟨h, hw, hb⟩
      have HV := hid hv
      clear hv
      obtain ⟨r, hr⟩ : ∃ r, (word * l.B - (beat + 1)) % (l.W * l.B) = r := ⟨_, rfl⟩
      have m1 := Int.emod_nonneg (word * l.B - (beat + 1)) (show l.W * l.B ≠ 0 by omega)
      have m2 := Int.emod_lt_of_pos (word * l.B - (beat + 1)) (show 0 < l.W * l.B by omega)
      rw [hr] at m1 m2
      have HR := hid hr
      clear hr
      go_enter Try.func35, Try.ntmps35
      go_wp2_with (first | ((go_at_call 26; refine (refCheck_ok l h _).mono ?_; rintro e w1 ⟨rfl, hb1⟩; obtain ⟨hc1, hf1⟩ := bcell hb1); obtain ⟨a0, a1, a2, a3, a4, a5⟩ := lnAt_call (lnAt_new' l w) hb1; clear hc1 hf1) | (go_at_call 56; refine (in_any _ _ _ _).mono ?_; rintro e w1 ⟨rfl, rfl⟩))
      have hB0 := hb1
      go_loopw [9] (fun v wr => ∃ j : Int, 0 ≤ j ∧ j ≤ r ∧ v = .int .i64 (beat + 1 + j) ∧ LnAt w.heap.size l wr ∧ Below w.heap.size w wr) (fun v _ => (r + (beat + 1) - intOf v).toNat)
      case atStart => exact ⟨0, by omega, m1, by simp, ⟨a0, a1, a2, a3, a4, a5⟩, by (repeat (first | assumption | exact Below.refl _ _ | refine b_alloc ?_ _ | refine Below.drew ?_ | refine b_drewN ?_ _ | refine Below.setCell ?_ (by first | omega | (simp; done) | (simp; omega)) _ | refine b_call (by assumption) ?_))⟩
      case round =>
        obtain ⟨j, hj0, hj1, rfl, ⟨c0, c1, c2, c3, c4, c5⟩, hbr⟩ := hrel
        clear a0 a1 a2 a3 a4 a5 hb1 hB0
        have e1 : IntKind.i64.wrap (word * l.B) = word * l.B := IntWalk.i64_in _ (by omega)
        have e2 : IntKind.i64.wrap (l.W * l.B) = l.W * l.B := IntWalk.i64_in _ (by omega)
        have e3 : (beat + 1 + j).tmod (l.W * l.B) = (beat + 1 + j) % (l.W * l.B) := Int.tmod_eq_emod_of_nonneg (by omega)
        have e4 : (l.W * l.B == 0) = false := by simp; omega
        by_cases hlt : j < r
        · have hm := next_miss (x := beat + 1) (t := word * l.B) b3 hj0 (by rw [HR.out]; exact hlt)
          have hm2 : ((beat + 1 + j) % (l.W * l.B) == word * l.B) = false := by simpa using hm
          have hm3 : ((beat + 1 + j) % (l.W * l.B) != word * l.B) = true := by simpa using hm
          go_wp2
          go_quiet (fail)
          go_wp2
          go_roundw
          case rel => exact ⟨j + 1, by omega, by omega, by go_num, ⟨c0, c1, c2, c3, c4, c5⟩, by (repeat (first | assumption | exact Below.refl _ _ | refine b_alloc ?_ _ | refine Below.drew ?_ | refine b_drewN ?_ _ | refine Below.setCell ?_ (by first | omega | (simp; done) | (simp; omega)) _ | refine b_call (by assumption) ?_))⟩
          case measure => simp [intOf]; omega
        · obtain rfl : j = r := by omega
          have hm := next_hit (x := beat + 1) b3 hwb.1 hwb.2.2
          rw [HR.out] at hm
          have hm2 : ((beat + 1 + j) % (l.W * l.B) == word * l.B) = true := by simpa using hm
          have hm3 : ((beat + 1 + j) % (l.W * l.B) != word * l.B) = false := by simpa using hm
          clear hm
          go_wp2
          go_quiet (fail)
          go_wp2
          go_ret2
          exact ⟨by rw [HV.out]; unfold nextOf; rw [HR.out]; rfl, by (repeat (first | assumption | exact Below.refl _ _ | refine b_alloc ?_ _ | refine Below.drew ?_ | refine b_drewN ?_ _ | refine Below.setCell ?_ (by first | omega | (simp; done) | (simp; omega)) _ | refine b_call (by assumption) ?_))⟩
    · have hv : nextV l word beat = val2 0 7 := if_neg (fun g => hb g.2.2)
      have hd : decide (0 ≤ beat ∧ beat ≤ 1000000000) = false := by simpa using hb
      have HV := hid hv
      clear hv
      go_enter Try.func35, Try.ntmps35
      go_wp2_with (first | (go_at_call 26; refine (refCheck_ok l h _).mono ?_; rintro e w1 ⟨rfl, hb1⟩; obtain ⟨hc1, hf1⟩ := bcell hb1) | (go_at_call 56; refine (in_any _ _ _ _).mono ?_; rintro e w1 ⟨rfl, rfl⟩))
      go_ret2
      exact ⟨by rw [HV.out]; rfl, by (repeat (first | assumption | exact Below.refl _ _ | refine b_alloc ?_ _ | refine Below.drew ?_ | refine b_drewN ?_ _ | refine Below.setCell ?_ (by first | omega | (simp; done) | (simp; omega)) _ | refine b_call (by assumption) ?_))⟩
  · have hv : nextV l word beat = val2 0 7 := if_neg (fun g => hw g.2.1)
    have hd : decide (0 ≤ word ∧ word ≤ l.W - 1) = false := by simpa using hw
    have HV := hid hv
    obtain ⟨h1, h2, _⟩ := id h
    clear hv
    go_enter Try.func35, Try.ntmps35
    go_wp2_with (first | (go_at_call 26; refine (refCheck_ok l h _).mono ?_; rintro e w1 ⟨rfl, hb1⟩; obtain ⟨hc1, hf1⟩ := bcell hb1) | (go_at_call 56; refine (in_any _ _ _ _).mono ?_; rintro e w1 ⟨rfl, rfl⟩))
    all_goals (go_ret2; exact ⟨by rw [HV.out]; rfl, by (repeat (first | assumption | exact Below.refl _ _ | refine b_alloc ?_ _ | refine Below.drew ?_ | refine b_drewN ?_ _ | refine Below.setCell ?_ (by first | omega | (simp; done) | (simp; omega)) _ | refine b_call (by assumption) ?_))⟩)
theorem refNext_any (l : Ln) (word beat : Int) (w : World) : Calls Try.prog 35 #[l.val, .int .i64 word, .int .i64 beat] w (Ret w (nextV l word beat)) := by
  by_cases h : l.Ok
  · exact refNext_ok l h word beat w
  · rw [show nextV l word beat = val2 0 7 from if_neg (fun g => h g.1)]; exact refNext_no l h word beat w
end Go.Proofs.Ytggkhddficmnfaa
