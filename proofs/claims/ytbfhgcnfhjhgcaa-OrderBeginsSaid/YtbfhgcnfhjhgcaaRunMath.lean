/-
  Runs, as plain mathematics: what has ended stays; runs can be cut; later by whole major cycles.
-/
import Derived.Test.YtbfhgcnfhjhgcaaSteps
namespace Go.Proofs.Ytbfhgcnfhjhgcaa
set_option linter.unusedVariables false
set_option linter.unusedSimpArgs false

theorem deed_why (s : St) (o : Od) : (s.deed o).why = s.why := by
  unfold St.deed; repeat' split
  all_goals rfl
theorem nxt_time {s : St} (h : SOk s) : s.time < s.nxt.2 := (fol_spec h.od s.time s.neg).2.1
theorem run_grows : ∀ (n : Nat) {s : St}, SOk s → s.done ≤ (St.run n s).done ∧ (St.run n s).done ≤ s.done + n ∧ s.time ≤ (St.run n s).time ∧ ((St.run n s).why = 0 → (St.run n s).done = s.done + n)
  | 0, s, _ => by simp [St.run]
  | n + 1, s, h => by
    unfold St.run
    by_cases e : s.ends = 0
    · rw [if_pos e]
      have ih := run_grows n (step_ok h e)
      have hd : s.step.done = s.done + 1 := rfl
      have ht : s.step.time = s.nxt.2 := rfl
      have := nxt_time h
      rw [hd, ht] at ih
      push_cast
      omega
    · rw [if_neg e]
      have hd : s.stop.done = s.done := rfl
      have ht : s.stop.time = s.time := rfl
      have hw : s.stop.why = s.ends := rfl
      rw [hd, ht, hw]
      push_cast
      omega
theorem ends_why {s : St} (h : s.why ≠ 0) : s.ends = s.why := by unfold St.ends; rw [if_neg h]
theorem stop_why {s : St} (h : s.why ≠ 0) : s.stop = s := by
  unfold St.stop
  rw [ends_why h]
theorem run_stay {s : St} (h : s.why ≠ 0) : ∀ m, St.run m s = s
  | 0 => rfl
  | m + 1 => by unfold St.run; rw [if_neg (by rw [ends_why h]; exact h), stop_why h]
theorem trace_stay {s : St} (h : s.why ≠ 0) : ∀ m, St.trace m s = []
  | 0 => rfl
  | m + 1 => by unfold St.trace; rw [if_neg (by rw [ends_why h]; exact h)]
theorem run_add : ∀ (a b : Nat) (s : St), St.run (a + b) s = St.run b (St.run a s)
  | 0, b, s => by rw [Nat.zero_add]; rfl
  | a + 1, b, s => by
    rw [show a + 1 + b = (a + b) + 1 by omega]
    by_cases e : s.ends = 0
    · rw [St.run, if_pos e, run_add a b s.step, St.run, if_pos e]
    · rw [St.run, if_neg e, St.run, if_neg e]
      exact (run_stay (s := s.stop) e b).symm

/-! ### later -/
/-- The same state, later. -/
def St.sh (s : St) (d : Int) : St := { s with time := s.time + d }
theorem aft_sh (c a k : Int) : aft (c + 16 * k) a = aft c a + 16 * k := by unfold aft nb; omega
theorem fol_sh (o : Od) (t k : Int) (neg : Bool) : folOf o (t + 16 * k) neg = ((folOf o t neg).1, (folOf o t neg).2 + 16 * k) := by
  obtain ⟨op, fr, tt, nx⟩ := o
  have hcs : op = 6 ∨ op = 4 ∨ (op = 5 ∧ neg = true) ∨ (op = 5 ∧ neg = false) ∨ op = 7 ∨ (¬ op = 6 ∧ ¬ op = 4 ∧ ¬ op = 5 ∧ ¬ op = 7) := by
    cases neg <;> simp <;> omega
  rcases hcs with rfl | rfl | ⟨rfl, rfl⟩ | ⟨rfl, rfl⟩ | rfl | ⟨n6, n4, n5, n7⟩
  · simp only [fol6, aft_sh]
  · simp only [fol4, aft_sh]
    rw [show aft (aft t fr) tt + 16 * k + 12 = aft (aft t fr) tt + 12 + 16 * k by omega]
    simp only [aft_sh]
  · simp only [fol5t, aft_sh]
  · simp only [fol5f, aft_sh]
  · simp only [fol7, aft_sh]
  · simp only [folx _ _ _ _ _ _ n6 n4 n5 n7, aft_sh]
theorem nxt_sh (s : St) (k : Int) : (s.sh (16 * k)).nxt = (s.nxt.1, s.nxt.2 + 16 * k) := fol_sh s.od s.time k s.neg
theorem deed_sh (s : St) (o : Od) (d : Int) : (s.sh d).deed o = (s.deed o).sh d := by
  unfold St.deed St.sh
  repeat' split
  all_goals rfl
theorem step_sh (s : St) (k : Int) : (s.sh (16 * k)).step = s.step.sh (16 * k) := by
  unfold St.step
  rw [nxt_sh, show (s.sh (16 * k)).od = s.od from rfl, deed_sh]
  rfl
theorem ends_sh (s : St) (k : Int) (hk : 0 ≤ k) : ((s.sh (16 * k)).ends = s.ends) ∨ (s.sh (16 * k)).ends = 4 := by
  unfold St.ends
  rw [nxt_sh]
  show (if s.why = 0 then (if s.od.op = 0 then 1 else if s.od.op = 6 ∧ s.taken = (s.tape.length : Int) then 2 else if s.od.op = 7 ∧ s.printed.length = 200 then 3 else if 1000000000 < s.nxt.2 + 16 * k then 4 else 0) else s.why : Int) = _ ∨ (if s.why = 0 then (if s.od.op = 0 then 1 else if s.od.op = 6 ∧ s.taken = (s.tape.length : Int) then 2 else if s.od.op = 7 ∧ s.printed.length = 200 then 3 else if 1000000000 < s.nxt.2 + 16 * k then 4 else 0) else s.why : Int) = 4
  repeat' split
  all_goals first | (left; rfl) | (right; rfl) | omega
theorem run_sh (k : Int) (hk : 0 ≤ k) : ∀ (n : Nat) (s : St), (St.run n s).why ≠ 4 → (St.run n (s.sh (16 * k))).why ≠ 4 → St.run n (s.sh (16 * k)) = (St.run n s).sh (16 * k)
  | 0, s, _, _ => rfl
  | n + 1, s, h1, h2 => by
    rw [St.run] at h1 h2
    rw [St.run, St.run]
    rcases ends_sh s k hk with e | e
    · by_cases h0 : s.ends = 0
      · rw [if_pos h0] at h1
        rw [if_pos (e.trans h0), step_sh] at h2
        rw [if_pos (e.trans h0), if_pos h0, step_sh]
        exact run_sh k hk n s.step h1 h2
      · rw [if_neg (by rw [e]; exact h0), if_neg h0]
        unfold St.stop
        rw [e]
        rfl
    · rw [if_neg (by rw [e]; decide)] at h2
      exact absurd e h2
end Go.Proofs.Ytbfhgcnfhjhgcaa
