/-
  The span of Safe: just the temperatures at which the line is safe.
-/
import Derived.Test.YtggkhddficmnfaaSafe
namespace Go.Proofs.Ytggkhddficmnfaa
set_option linter.unusedVariables false
set_option linter.unusedSimpArgs false

theorem safe_iff {l : Ln} (h : l.Ok) (t : Int) : l.safe t ↔ -l.N ≤ l.late t ∧ l.late t ≤ l.N := by
  obtain ⟨_, _, h3, _, _, h6⟩ := h
  unfold Ln.safe Ln.shift
  have hp : 2 * l.N < l.P := by omega
  constructor
  · intro g
    split at g
    · cases g
    · have e : (l.late t + l.N) / l.P = 0 := by simpa using g
      have := Int.mul_ediv_add_emod (l.late t + l.N) l.P
      rw [e] at this
      have := Int.emod_nonneg (l.late t + l.N) (show l.P ≠ 0 by omega)
      omega
  · intro ⟨a, b⟩
    have e1 : (l.late t + l.N) % l.P = l.late t + l.N := Int.emod_eq_of_lt (by omega) (by omega)
    have e2 : (l.late t + l.N) / l.P = 0 := Int.ediv_eq_zero_of_lt (by omega) (by omega)
    rw [e1, e2, if_neg (by omega)]
theorem late_between {l : Ln} {a t b : Int} (h1 : a ≤ t) (h2 : t ≤ b) : (l.late a ≤ l.late t ∧ l.late t ≤ l.late b) ∨ (l.late b ≤ l.late t ∧ l.late t ≤ l.late a) := by
  unfold Ln.late
  by_cases hs : 0 ≤ l.S
  · have := Int.mul_le_mul_of_nonneg_left h1 hs
    have := Int.mul_le_mul_of_nonneg_left h2 hs
    left; omega
  · have := Int.mul_le_mul_of_nonpos_left (show l.S ≤ 0 by omega) h1
    have := Int.mul_le_mul_of_nonpos_left (show l.S ≤ 0 by omega) h2
    right; omega
theorem safe_between {l : Ln} (h : l.Ok) {a t b : Int} (h1 : a ≤ t) (h2 : t ≤ b) (ha : l.safe a) (hb : l.safe b) : l.safe t := by
  rw [safe_iff h] at *
  rcases late_between (l := l) h1 h2 with h | h <;> omega
theorem ends_mem (xs : List Int) : ((endsOf xs).2.2 = true ↔ xs ≠ []) ∧ ((endsOf xs).2.2 = true → (endsOf xs).1 ∈ xs ∧ (endsOf xs).2.1 ∈ xs ∧ ∀ x ∈ xs, (endsOf xs).1 ≤ x ∧ x ≤ (endsOf xs).2.1) := by
  have : ∀ n, ∀ xs : List Int, xs.length = n → ((endsOf xs).2.2 = true ↔ xs ≠ []) ∧ ((endsOf xs).2.2 = true → (endsOf xs).1 ∈ xs ∧ (endsOf xs).2.1 ∈ xs ∧ ∀ x ∈ xs, (endsOf xs).1 ≤ x ∧ x ≤ (endsOf xs).2.1) := by
    intro n
    induction n with
    | zero => intro xs hx; have : xs = [] := List.length_eq_zero_iff.1 hx
              subst this; exact ⟨by simp [endsOf], fun h => by cases h⟩
    | succ n ih =>
      intro xs hx
      have hne : xs ≠ [] := by intro e; subst e; simp at hx
      rw [← List.dropLast_concat_getLast hne]
      generalize xs.getLast hne = v
      have ih := ih xs.dropLast (by simp; omega)
      generalize xs.dropLast = ys at *
      rw [endsOf_snoc]
      unfold endsStep
      by_cases e : (endsOf ys).2.2 = true
      · obtain ⟨m1, m2, m3⟩ := ih.2 e
        rw [if_pos e]
        refine ⟨by simp, fun _ => ?_⟩
        have g1 := m3 _ m1
        refine ⟨?_, ?_, ?_⟩
        · simp only; split <;> simp [m1]
        · simp only; split <;> simp [m2]
        · intro x hx
          rw [List.mem_append] at hx
          simp only
          rcases hx with hx | hx
          · have := m3 x hx; constructor <;> split <;> omega
          · simp at hx; subst hx; constructor <;> split <;> omega
      · rw [if_neg e]
        have hy : ys = [] := by
          by_cases hy : ys = []
          · exact hy
          · exact absurd (ih.1.2 hy) e
        subst hy
        simp
  exact this _ xs rfl
theorem mem_safeTo {l : Ln} {t : Int} : t ∈ safeTo l 1501 ↔ (-500 ≤ t ∧ t ≤ 1000) ∧ l.safe t := by
  unfold safeTo
  rw [List.mem_filter, List.mem_map]
  constructor
  · rintro ⟨⟨j, hj, rfl⟩, h⟩
    have := List.mem_range.1 hj
    exact ⟨by omega, by simpa using h⟩
  · rintro ⟨h, g⟩
    exact ⟨⟨(t + 500).toNat, List.mem_range.2 (by omega), by omega⟩, by simpa using g⟩
/-- A temperature is in the span of Safe just if the line is safe there. -/
theorem safe_span {l : Ln} (h : l.Ok) {t : Int} (ht : -500 ≤ t ∧ t ≤ 1000) : l.safe t ↔ l.ends.2.2 = true ∧ l.ends.1 ≤ t ∧ t ≤ l.ends.2.1 := by
  obtain ⟨e1, e2⟩ := ends_mem (safeTo l 1501)
  have hM := @mem_safeTo l
  unfold Ln.ends
  generalize safeTo l 1501 = xs at *
  constructor
  · intro g
    have hm := hM.2 ⟨ht, g⟩
    have hf := e1.2 (List.ne_nil_of_mem hm)
    exact ⟨hf, (e2 hf).2.2 t hm⟩
  · rintro ⟨hf, a, b⟩
    obtain ⟨m1, m2, _⟩ := e2 hf
    exact safe_between h a b (hM.1 m1).2 (hM.1 m2).2
end Go.Proofs.Ytggkhddficmnfaa
