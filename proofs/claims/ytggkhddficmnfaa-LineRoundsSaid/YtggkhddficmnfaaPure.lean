/-
  Plain mathematics of layer 1: lines, shifts. No Go in sight.
-/
import Init
namespace Go.Proofs.Ytggkhddficmnfaa
set_option linter.unusedVariables false
set_option linter.unusedSimpArgs false

/-- A line, as plain numbers. -/
structure Ln where
  W : Int
  B : Int
  P : Int
  D : Int
  S : Int
  N : Int

/-- The line is as stated. -/
def Ln.Ok (l : Ln) : Prop := (1 ≤ l.W ∧ l.W ≤ 64) ∧ (1 ≤ l.B ∧ l.B ≤ 40) ∧ (2 ≤ l.P ∧ l.P ≤ 100000) ∧ (0 ≤ l.D ∧ l.D ≤ 1000000000) ∧ (-100000 ≤ l.S ∧ l.S ≤ 100000) ∧ (0 ≤ l.N ∧ l.N ≤ (l.P - 1) / 2)
instance (l : Ln) : Decidable l.Ok := by unfold Ln.Ok; infer_instance

def Ln.late (l : Ln) (t : Int) : Int := l.D + l.S * t - l.W * l.B * l.P

/-- The shift at a temperature; none: pulses are lost. -/
def Ln.shift (l : Ln) (t : Int) : Option Int :=
  if 2 * l.N < (l.late t + l.N) % l.P then none else some ((l.late t + l.N) / l.P)

theorem mul_le_mul_bd {a b A B : Int} (h0 : 0 ≤ a) (h1 : a ≤ A) (h2 : 0 ≤ b) (h3 : b ≤ B) : 0 ≤ a * b ∧ a * b ≤ A * B :=
  ⟨Int.mul_nonneg h0 h2, Int.mul_le_mul h1 h3 h2 (Int.le_trans h0 h1)⟩

theorem mul_abs_bd {a b A B : Int} (h0 : -A ≤ a) (h1 : a ≤ A) (h2 : -B ≤ b) (h3 : b ≤ B) : -(A * B) ≤ a * b ∧ a * b ≤ A * B := by
  have hA : 0 ≤ A := by omega
  have hB : 0 ≤ B := by omega
  have e : (a * b).natAbs = a.natAbs * b.natAbs := Int.natAbs_mul a b
  have h4 : a.natAbs ≤ A.natAbs := by omega
  have h5 : b.natAbs ≤ B.natAbs := by omega
  have h6 := Nat.mul_le_mul h4 h5
  have h7 : ((A.natAbs * B.natAbs : Nat) : Int) = A * B := by
    rw [Int.natCast_mul]; rw [Int.natAbs_of_nonneg hA, Int.natAbs_of_nonneg hB]
  omega

theorem Ln.Ok.beats {l : Ln} (h : l.Ok) : 0 ≤ l.W * l.B ∧ l.W * l.B ≤ 2560 := mul_le_mul_bd (by have := h.1; omega) h.1.2 (by have := h.2.1; omega) h.2.1.2
theorem Ln.Ok.beats1 {l : Ln} (h : l.Ok) : 1 ≤ l.W * l.B := by
  have h1 := h.1.1; have h2 := h.2.1.1
  have := Int.mul_le_mul h1 h2 (by omega) (by omega); simpa using this
theorem Ln.Ok.all {l : Ln} (h : l.Ok) : 0 ≤ l.W * l.B * l.P ∧ l.W * l.B * l.P ≤ 256000000 := mul_le_mul_bd h.beats.1 h.beats.2 (by have := h.2.2.1; omega) h.2.2.1.2
theorem Ln.Ok.slope {l : Ln} (h : l.Ok) {t : Int} (h0 : -500 ≤ t) (h1 : t ≤ 1000) : -100000000 ≤ l.S * t ∧ l.S * t ≤ 100000000 := by
  obtain ⟨_, _, _, _, h5, _⟩ := h
  have := mul_abs_bd (A := 100000) (B := 1000) h5.1 h5.2 (by omega : -1000 ≤ t) h1
  omega
theorem Ln.Ok.late_bd {l : Ln} (h : l.Ok) {t : Int} (h0 : -500 ≤ t) (h1 : t ≤ 1000) : -356000000 ≤ l.late t ∧ l.late t ≤ 1100000000 := by
  have a := h.all; have b := h.slope h0 h1
  obtain ⟨_, _, _, h4, _, _⟩ := h
  unfold Ln.late; omega

/-- modulo, as the code has it. -/
theorem tmod_fix (n m : Int) (hm : 1 ≤ m) : (n.tmod m + m).tmod m = n % m := by
  have hpos : 0 ≤ n.tmod m + m := by
    have := Int.lt_tmod_of_pos n (show 0 < m by omega); omega
  rw [Int.tmod_eq_emod_of_nonneg hpos]
  rw [Int.add_emod_right]
  exact Int.emod_emod_of_dvd _ (Int.dvd_refl m) ▸ by
    rw [Int.tmod_eq_emod]
    split
    · simp
    · rw [Int.sub_emod, show ((m.natAbs : Int)) = m by omega]; simp
theorem tmod_bd (n m : Int) (hm : 1 ≤ m) : -m < n.tmod m ∧ n.tmod m < m := by
  have h1 := Int.lt_tmod_of_pos n (show 0 < m by omega)
  have h2 := Int.tmod_lt_of_pos n (show 0 < m by omega)
  omega

theorem sub_mod_div (x m : Int) (hm : 1 ≤ m) : (x - x % m).tdiv m = x / m := by
  have e := Int.mul_ediv_add_emod x m
  have h : x - x % m = m * (x / m) := by omega
  rw [h, Int.mul_tdiv_cancel_left _ (by omega)]
theorem div_bd (x m B : Int) (hm : 1 ≤ m) (h : -B ≤ x ∧ x ≤ B) (hB : 0 ≤ B ∧ B ≤ 9000000000000000000) : -9223372036854775808 ≤ x / m ∧ x / m ≤ 9223372036854775807 := by
  have e := Int.mul_ediv_add_emod x m
  have h0 := Int.emod_nonneg x (show m ≠ 0 by omega)
  have h1 := Int.emod_lt_of_pos x (show 0 < m by omega)
  constructor
  · by_cases g : 0 ≤ x / m
    · omega
    · have := Int.mul_le_mul_of_nonneg_right hm (show 0 ≤ -(x / m) by omega)
      have e2 : m * -(x / m) = -(m * (x / m)) := Int.mul_neg _ _
      have : -(x / m) ≤ B + m := by omega
      have h3 : x / m ≥ -B := by
        have : -B / m ≤ x / m := Int.ediv_le_ediv (by omega) (by omega)
        have h4 : -B ≤ -B / m := by
          rw [Int.le_ediv_iff_mul_le (by omega)]
          have := Int.mul_le_mul_of_nonneg_left hm hB.1
          have e3 : -B * m = -(B * m) := Int.neg_mul _ _
          omega
        omega
      omega
  · have h4 : x / m ≤ B := by
      have h5 : x / m ≤ B / m := Int.ediv_le_ediv (by omega) h.2
      have h6 : B / m ≤ B := Int.ediv_le_self _ hB.1
      omega
    omega
theorem tdiv_near {x m q : Int} (hm : 1 ≤ m) (e : x.tdiv m = q) : x - m < q * m ∧ q * m < x + m := by
  have h := Int.mul_tdiv_add_tmod x m
  have b := tmod_bd x m hm
  rw [e, Int.mul_comm] at h
  omega
theorem tdiv_bd {x m q B : Int} (hm : 1 ≤ m) (e : x.tdiv m = q) (h : -B ≤ x ∧ x ≤ B) : -B - 1 ≤ q ∧ q ≤ B + 1 := by
  have b := tdiv_near hm e
  constructor
  · by_cases g : 0 ≤ q
    · omega
    · have h1 := Int.mul_le_mul_of_nonneg_left hm (show 0 ≤ -q by omega)
      have e1 : -q * m = -(q * m) := Int.neg_mul _ _
      by_cases g2 : -B - 1 ≤ q
      · exact g2
      · have h2 := Int.mul_le_mul_of_nonneg_right (show B + 2 ≤ -q by omega) (show 0 ≤ m by omega)
        have h3 : (B + 2) * m = B * m + 2 * m := Int.add_mul _ _ _
        have hB : 0 ≤ B := by omega
        have h4 := Int.mul_le_mul_of_nonneg_left hm hB
        omega
  · by_cases g : q ≤ 0
    · omega
    · by_cases g2 : q ≤ B + 1
      · exact g2
      · have h2 := Int.mul_le_mul_of_nonneg_right (show B + 2 ≤ q by omega) (show 0 ≤ m by omega)
        have h3 : (B + 2) * m = B * m + 2 * m := Int.add_mul _ _ _
        have hB : 0 ≤ B := by omega
        have h4 := Int.mul_le_mul_of_nonneg_left hm hB
        omega
/-- s is the shift at x nanoseconds late. -/
def Ln.at (l : Ln) (x s : Int) : Prop := -l.N ≤ x - s * l.P ∧ x - s * l.P ≤ l.N
theorem near_mul {x m q s : Int} (hm : 1 ≤ m) (e : x.tdiv m = q) (h1 : q - 1 ≤ s) (h2 : s ≤ q + 1) : x - 2 * m ≤ s * m ∧ s * m ≤ x + 2 * m := by
  have b := tdiv_near hm e
  rcases (by omega : s = q - 1 ∨ s = q ∨ s = q + 1) with rfl | rfl | rfl
  · rw [Int.sub_mul]; omega
  · omega
  · rw [Int.add_mul]; omega
/-- The shift that the reference looks for. -/
theorem shift_unique {l : Ln} (h : l.Ok) {x s : Int} (h1 : -l.N ≤ x - s * l.P) (h2 : x - s * l.P ≤ l.N) : (x + l.N) / l.P = s ∧ (x + l.N) % l.P ≤ 2 * l.N := by
  obtain ⟨_, _, h3, _, _, h6⟩ := h
  have hp : 0 < l.P := by omega
  have e : x + l.N = (x + l.N - s * l.P) + l.P * s := by rw [Int.mul_comm l.P s]; omega
  have r0 : 0 ≤ x + l.N - s * l.P := by omega
  have r1 : x + l.N - s * l.P < l.P := by omega
  constructor
  · rw [e, Int.add_mul_ediv_left _ _ (by omega), Int.ediv_eq_zero_of_lt r0 r1]; omega
  · rw [e, Int.add_mul_emod_self_left, Int.emod_eq_of_lt r0 r1]; omega
theorem shift_found {l : Ln} (h : l.Ok) {x : Int} (h1 : (x + l.N) % l.P ≤ 2 * l.N) : -l.N ≤ x - (x + l.N) / l.P * l.P ∧ x - (x + l.N) / l.P * l.P ≤ l.N := by
  have h3 := h.2.2.1
  have e := Int.mul_ediv_add_emod (x + l.N) l.P
  have p := Int.emod_nonneg (x + l.N) (show l.P ≠ 0 by omega)
  rw [Int.mul_comm] at e
  omega
/-- The shift lies next to the quotient towards 0. -/
theorem shift_near {l : Ln} (h : l.Ok) {x s : Int} (h1 : -l.N ≤ x - s * l.P) (h2 : x - s * l.P ≤ l.N) : x.tdiv l.P - 1 ≤ s ∧ s ≤ x.tdiv l.P + 1 := by
  obtain ⟨_, _, h3, _, _, h6⟩ := h
  have e := Int.mul_tdiv_add_tmod x l.P
  have b := tmod_bd x l.P (by omega)
  rw [Int.mul_comm] at e
  generalize x.tdiv l.P = q at *
  generalize x.tmod l.P = r at *
  -- x = q P + r, |r| < P, |x - s P| ≤ N < P/2
  constructor
  · by_cases g : q - 1 ≤ s
    · exact g
    · have : s + 2 ≤ q := by omega
      have := Int.mul_le_mul_of_nonneg_right this (show 0 ≤ l.P by omega)
      rw [Int.add_mul] at this
      omega
  · by_cases g : s ≤ q + 1
    · exact g
    · have : q + 2 ≤ s := by omega
      have := Int.mul_le_mul_of_nonneg_right this (show 0 ≤ l.P by omega)
      rw [Int.add_mul] at this
      omega
/-- What the search comes to. -/
theorem shift_hit {l : Ln} (h : l.Ok) {t x s : Int} (hx : l.D + l.S * t - l.W * l.B * l.P = x) (hs : l.at x s) : l.shift t = some s := by
  have u := shift_unique h hs.1 hs.2
  unfold Ln.shift
  rw [show l.late t = x from hx, if_neg (by omega), u.1]
theorem shift_miss {l : Ln} (h : l.Ok) {t x q : Int} (hx : l.D + l.S * t - l.W * l.B * l.P = x) (hq : x.tdiv l.P = q) (hno : ∀ s, q - 1 ≤ s → s < q + 2 → ¬ l.at x s) : l.shift t = none := by
  unfold Ln.shift
  rw [show l.late t = x from hx]
  split
  · rfl
  · rename_i g
    have f := shift_found (x := x) h (by omega)
    have n := shift_near h f.1 f.2
    rw [hq] at n
    exact absurd f (hno _ (by omega) (by omega))
end Go.Proofs.Ytggkhddficmnfaa
