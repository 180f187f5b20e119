/-
  Traces, as plain mathematics: as many steps as Done is more; each begins where, and when, the one before ends.
-/
import Derived.Test.YtbfhgcnfhjhgcaaRunMath
namespace Go.Proofs.Ytbfhgcnfhjhgcaa
set_option linter.unusedVariables false
set_option linter.unusedSimpArgs false

theorem trace_len : ∀ (n : Nat) (s : St), ((St.trace n s).length : Int) = (St.run n s).done - s.done
  | 0, s => by simp [St.trace, St.run]
  | n + 1, s => by
    unfold St.trace St.run
    by_cases e : s.ends = 0
    · rw [if_pos e, if_pos e]
      have ih := trace_len n s.step
      have hd : s.step.done = s.done + 1 := rfl
      rw [hd] at ih
      simp only [List.length_cons]
      omega
    · rw [if_neg e, if_neg e]
      have hd : s.stop.done = s.done := rfl
      rw [hd]; simp
/-- Step k of the trace is the step of the state after k orders, which has not ended; the state after it is its step. -/
theorem trace_get : ∀ (n : Nat) (s : St) (k : Nat), k < (St.trace n s).length → SOk s → SOk (St.run k s) ∧ (St.run k s).ends = 0 ∧ (St.trace n s)[k]? = some (St.run k s).stp ∧ St.run (k + 1) s = (St.run k s).step
  | 0, s, k, h, _ => by simp [St.trace] at h
  | n + 1, s, k, h, hs => by
    unfold St.trace at h ⊢
    by_cases e : s.ends = 0
    · rw [if_pos e] at h ⊢
      cases k with
      | zero => exact ⟨hs, e, rfl, by unfold St.run; rw [if_pos e]; rfl⟩
      | succ k =>
        have ih := trace_get n s.step k (by simpa using h) (step_ok hs e)
        have h1 : St.run (k + 1) s = St.run k s.step := by rw [St.run, if_pos e]
        have h2 : St.run (k + 1 + 1) s = St.run (k + 1) s.step := by rw [St.run, if_pos e]
        rw [h1, h2]
        exact ⟨ih.1, ih.2.1, by simpa using ih.2.2.1, ih.2.2.2⟩
    · rw [if_neg e] at h
      simp at h
/-- Where the trace ends, the run's place and time stay. -/
theorem run_past : ∀ (n : Nat) (s : St), SOk s → (St.run (St.trace n s).length s).at_ = (St.run n s).at_ ∧ (St.run (St.trace n s).length s).time = (St.run n s).time
  | 0, s, _ => by simp [St.trace]
  | n + 1, s, hs => by
    unfold St.trace
    by_cases e : s.ends = 0
    · rw [if_pos e]
      simp only [List.length_cons]
      rw [St.run, if_pos e]
      have h1 : St.run (n + 1) s = St.run n s.step := by rw [St.run, if_pos e]
      rw [h1]
      exact run_past n s.step (step_ok hs e)
    · rw [if_neg e]
      have h1 : St.run (n + 1) s = s.stop := by rw [St.run, if_neg e]
      rw [h1]
      exact ⟨rfl, rfl⟩
end Go.Proofs.Ytbfhgcnfhjhgcaa
