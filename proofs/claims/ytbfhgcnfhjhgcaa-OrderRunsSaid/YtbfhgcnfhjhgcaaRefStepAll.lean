/-
  The reference's Step, at any state without an error that has not ended.
-/
import Derived.Test.YtbfhgcnfhjhgcaaRefStep
import Derived.Test.YtbfhgcnfhjhgcaaGStepA
import Derived.Test.YtbfhgcnfhjhgcaaGStepB
import Derived.Test.YtbfhgcnfhjhgcaaRefRun
namespace Go.Proofs.Ytbfhgcnfhjhgcaa
open Go.RowKit
set_option linter.unusedVariables false
set_option linter.unusedSimpArgs false

theorem refStep_any : StepDoes := by
  intro q s hok hw W hx
  obtain ⟨l1, l2, l3⟩ := hok.len
  obtain ⟨n1, n2, n3, n4, n5⟩ := hok.num
  have ho := hok.od
  obtain ⟨q1, q2, q3, q4⟩ := id ho
  obtain ⟨b0, off0, e0, _⟩ := hx.1 0 (by omega)
  obtain ⟨qa, qb, qc, ka, kb, kc⟩ := q
  simp only at e0
  subst e0
  have hc : ∀ i : Int, 0 ≤ i ∧ i ≤ 127 → W.cell? ⟨b0, off0 + i.toNat, none⟩ = some (.int .i64 (getI s.store i)) := fun i hi => by
    obtain ⟨b, off, e, h⟩ := hx.1 i.toNat (by omega)
    cases e
    exact h
  have hX := hok.get (i := s.at_) n3
  have hF := hok.get (i := s.od.fr) q2
  have hT := hok.get (i := s.od.to) q3
  have hD := fun W => decode_any (getI s.store s.at_) hX W
  have hS := fun W => Sign_any (getI s.store s.od.fr) (by unfold Wd at hF; omega) W
  have hN := fun W => when_any s.od ho s.time (by unfold Tm at n2; omega) s.neg W
  have eo : dec (getI s.store s.at_) = s.od := rfl
  have en : folOf s.od s.time s.neg = s.nxt := rfl
  have eneg : s.neg = decide (sgn (getI s.store s.od.fr) < 0) := rfl
  rw [eo] at hD
  rw [en] at hN
  rw [eneg] at hN
  have hdn : 0 ≤ s.done ∧ s.done ≤ 1000000000 := by unfold Tm at n2; omega
  unfold St.rst
  have hends : s.ends = (if s.od.op = 0 then 1 else if s.od.op = 6 ∧ s.taken = (s.tape.length : Int) then 2 else if s.od.op = 7 ∧ s.printed.length = 200 then 3 else if 1000000000 < s.nxt.2 then 4 else 0) := by unfold St.ends; rw [if_pos hw]
  have hstep : s.step = { s.deed s.od with at_ := s.nxt.1, time := s.nxt.2, done := s.done + 1 } := rfl
  generalize s.nxt = N at *
  generalize s.od = o at *
  obtain ⟨op, fr, tt, nx⟩ := o
  simp only at q1 q2 q3 q4 hF hT hD hS hN hends
  have stop := refStep_stop qb qc ka kb kc b0 off0 s op fr tt nx (getI s.store s.at_) (getI s.store fr) (getI s.store tt) N.1 N.2
  by_cases he : s.ends = 0
  · rw [if_pos he, hstep]
    rw [he] at hends
    have c0 : op ≠ 0 := fun e => by rw [if_pos e] at hends; simp at hends
    rw [if_neg c0] at hends
    have c6 : ¬ (op = 6 ∧ s.taken = (s.tape.length : Int)) := fun e => by rw [if_pos e] at hends; simp at hends
    rw [if_neg c6] at hends
    have c7 : ¬ (op = 7 ∧ s.printed.length = 200) := fun e => by rw [if_pos e] at hends; simp at hends
    rw [if_neg c7] at hends
    have c8 : N.2 ≤ 1000000000 := by
      by_cases h : 1000000000 < N.2
      · rw [if_pos h] at hends; simp at hends
      · omega
    unfold Wd at hF hT
    unfold St.deed
    simp only
    rcases (by omega : op = 1 ∨ op = 2 ∨ op = 3 ∨ op = 4 ∨ op = 5 ∨ op = 6 ∨ op = 7) with rfl | rfl | rfl | rfl | rfl | rfl | rfl
    · exact refStep_go1 qb qc ka kb kc b0 off0 s fr tt nx _ _ _ N.1 N.2 l1 n3 q2 q3 l2 l3 W hx hc rfl rfl rfl hD hS hN c8 hdn
    · have hV : (getI s.store fr + getI s.store tt).tmod 16777216 = (getI s.store tt + getI s.store fr) % 16777216 := by rw [Int.tmod_eq_emod_of_nonneg (by omega), Int.add_comm]
      exact refStep_go2 qb qc ka kb kc b0 off0 s fr tt nx _ _ _ N.1 N.2 _ l1 n3 q2 q3 l2 l3 W hx hc rfl rfl rfl hD hS hN hF hT hV c8 hdn
    · have hV : (getI s.store tt - getI s.store fr + 16777216).tmod 16777216 = (getI s.store tt - getI s.store fr) % 16777216 := by rw [Int.tmod_eq_emod_of_nonneg (by omega)]; omega
      exact refStep_go3 qb qc ka kb kc b0 off0 s fr tt nx _ _ _ N.1 N.2 _ l1 n3 q2 q3 l2 l3 W hx hc rfl rfl rfl hD hS hN hF hT hV c8 hdn
    · have hP := fun W => refProduct_any (getI s.store fr) (getI s.store tt) (by unfold Wd; exact hF) (by unfold Wd; exact hT) W
      have e : prodOf (getI s.store fr) (getI s.store tt) = prodOf (getI s.store tt) (getI s.store fr) := by unfold prodOf; rw [Int.mul_comm]
      rw [e] at hP
      exact refStep_go4 qb qc ka kb kc b0 off0 s fr tt nx _ _ _ N.1 N.2 _ l1 n3 q2 q3 l2 l3 W hx hc rfl rfl rfl hD hS hN hP c8 hdn
    · exact refStep_go5 qb qc ka kb kc b0 off0 s fr tt nx _ _ _ N.1 N.2 l1 n3 q2 q3 l2 l3 W hx hc rfl rfl rfl hD hS hN c8 hdn
    · have ht : ¬ s.taken = (s.tape.length : Int) := fun e => c6 ⟨rfl, e⟩
      have hta : 0 ≤ s.taken ∧ s.taken < s.tape.length := by omega
      obtain ⟨bt, ot, e1, hcv⟩ := hx.2.1 s.taken.toNat (by omega)
      exact refStep_go6 qb qc ka kb kc b0 off0 s fr tt nx _ _ _ N.1 N.2 _ l1 n3 q2 q3 l2 l3 W hx hc rfl rfl rfl hD hS hN (by simpa using ht) bt ot e1 hta hcv c8 hdn
    · have hp : ¬ s.printed.length = 200 := fun e => c7 ⟨rfl, e⟩
      exact refStep_go7 qb qc ka kb kc b0 off0 s fr tt nx _ _ _ N.1 N.2 l1 n3 q2 q3 l2 l3 W hx hc rfl rfl rfl hD hS hN (by simp; omega) c8 hdn
  · rw [if_neg he]
    have hk : s.stop = { s with why := s.ends } := rfl
    rw [hk]
    refine stop s.ends l1 n3 q2 q3 l2 l3 W hx hc rfl rfl rfl hD hS hN ?_
    by_cases c0 : op = 0
    · rw [if_pos c0] at hends
      exact .inl ⟨c0, hends⟩
    · rw [if_neg c0] at hends
      by_cases c6 : op = 6
      · by_cases ct : s.taken = (s.tape.length : Int)
        · rw [if_pos ⟨c6, ct⟩] at hends
          exact .inr (.inl ⟨c6, by simpa using ct, hends⟩)
        · rw [if_neg (fun e => ct e.2), if_neg (by omega)] at hends
          by_cases h4 : 1000000000 < N.2
          · rw [if_pos h4] at hends
            exact .inr (.inr (.inr (.inr (.inl ⟨c6, by simpa using ct, h4, hends⟩))))
          · rw [if_neg h4] at hends; exact absurd hends he
      · rw [if_neg (fun e => c6 e.1)] at hends
        by_cases c7 : op = 7
        · by_cases ct : s.printed.length = 200
          · rw [if_pos ⟨c7, ct⟩] at hends
            exact .inr (.inr (.inl ⟨c7, by simp; omega, hends⟩))
          · rw [if_neg (fun e => ct e.2)] at hends
            by_cases h4 : 1000000000 < N.2
            · rw [if_pos h4] at hends
              exact .inr (.inr (.inr (.inr (.inr ⟨c7, by simp; omega, h4, hends⟩))))
            · rw [if_neg h4] at hends; exact absurd hends he
        · rw [if_neg (fun e => c7 e.1)] at hends
          by_cases h4 : 1000000000 < N.2
          · rw [if_pos h4] at hends
            exact .inr (.inr (.inr (.inl ⟨by simpa using c0, by simpa using c6, by simpa using c7, h4, hends⟩)))
          · rw [if_neg h4] at hends; exact absurd hends he
end Go.Proofs.Ytbfhgcnfhjhgcaa
