/-
  What the rounds come to, in any order of the temperatures.
-/
import Derived.Test.YtggkhddficmnfaaRotMath
import Derived.Test.YtggkhddficmnfaaOnes
namespace Go.Proofs.Ytggkhddficmnfaa
open Go.RowKit
set_option linter.unusedVariables false
set_option linter.unusedSimpArgs false

/-- The sum of the shifts at the first k temperatures. -/
def sumT (l : Ln) (ts : List Int) (k : Nat) : Int := ((ts.take k).map l.rS).sum
theorem sumT_succ (l : Ln) (ts : List Int) (k : Nat) (hk : k < ts.length) : sumT l ts (k + 1) = sumT l ts k + l.rS (ts[k]?.getD 0) := by
  unfold sumT
  rw [List.take_succ_eq_append_getElem hk, List.map_append, List.sum_append]
  simp [hk]
theorem sumT_bd {l : Ln} (h : l.Ok) {ts : List Int} (ht : tempsOk ts) : ∀ k, k ≤ ts.length → -(2000000000 * (k : Int)) ≤ sumT l ts k ∧ sumT l ts k ≤ 2000000000 * (k : Int)
  | 0, _ => by simp [sumT]
  | k + 1, hk => by
    have ih := sumT_bd h ht k (by omega)
    rw [sumT_succ l ts k (by omega)]
    have := rS_bd h (ht (ts[k]?.getD 0) (by simp [show k < ts.length by omega]))
    rw [Int.natCast_succ]
    omega
theorem sumS_all (l : Ln) (ts : List Int) : sumS l ts (List.range ts.length) = (ts.map l.rS).sum := by
  unfold sumS
  congr 1
  apply List.ext_getElem
  · simp
  · intro i h1 h2
    have : i < ts.length := by simpa using h1
    simp [this]
theorem sumT_all (l : Ln) (ts : List Int) : sumT l ts ts.length = (ts.map l.rS).sum := by
  unfold sumT; rw [List.take_of_length_le (Nat.le_refl _)]
theorem sum_rev : ∀ (xs : List Int), xs.reverse.sum = xs.sum
  | [] => rfl
  | x :: xs => by rw [List.reverse_cons, List.sum_append, sum_rev xs]; simp; omega
theorem rounds_rev (l : Ln) (ts : List Int) (ps : List Bool) (hL : 1 ≤ ps.length) : roundsL l ts.reverse ps (List.range ts.reverse.length) = roundsL l ts ps (List.range ts.length) := by
  have e : sumS l ts.reverse (List.range ts.reverse.length) = sumS l ts (List.range ts.length) := by
    rw [sumS_all, sumS_all, List.map_reverse, sum_rev]
  apply List.ext_getElem?
  intro i
  by_cases hi : i < ps.length
  · rw [rounds_get l _ ps hL _ i hi, rounds_get l _ ps hL _ i hi, e]
  · rw [List.getElem?_eq_none (by rw [roundsL_len]; omega), List.getElem?_eq_none (by rw [roundsL_len]; omega)]
theorem rounds_rot (l : Ln) (ts : List Int) (ps : List Bool) (hL : 1 ≤ ps.length) : roundsL l ts ps (List.range ts.length) = rot ps (sumT l ts ts.length % (ps.length : Int)).toNat := by
  have h0 := Int.emod_nonneg (sumT l ts ts.length) (show (ps.length : Int) ≠ 0 by omega)
  have h1 := Int.emod_lt_of_pos (sumT l ts ts.length) (show (0 : Int) < ps.length by omega)
  apply List.ext_getElem?
  intro i
  by_cases hi : i < ps.length
  · rw [rounds_get l _ ps hL _ i hi, rot_get _ _ _ (by omega) hi, from_mod _ hL i hi, sumS_all, sumT_all]
  · rw [List.getElem?_eq_none (by rw [roundsL_len]; omega), List.getElem?_eq_none (by rw [rot_len]; omega)]
theorem get_rev (ts : List Int) (j : Nat) (hj : j < ts.length) : ts.reverse[j]?.getD 0 = ts[ts.length - 1 - j]?.getD 0 := by
  rw [List.getElem?_reverse hj]
theorem lost_rev (l : Ln) (ts : List Int) : (firstLost l ts.reverse = none) ↔ firstLost l ts = none := by
  have go : ∀ ts : List Int, firstLost l ts = none → firstLost l ts.reverse = none := by
    intro ts h
    have g := firstLost_none h
    unfold firstLost
    rw [List.find?_eq_none]
    intro j hj
    have hj' : j < ts.length := by simpa using hj
    rw [get_rev ts j hj', g _ (by omega)]
    simp
  exact ⟨fun h => by have := go _ h; rwa [List.reverse_reverse] at this, go ts⟩
theorem passErr_ok {l : Ln} {ws ts : List Int} (h : l.Ok) (h1 : (ws.length : Int) = l.W) (h2 : wordsOk l.B ws) (h3 : ts.length ≤ 60) (h4 : tempsOk ts) : passErr l ws ts = 0 := by
  unfold passErr wordsErr wErr tErr
  rw [if_pos h, if_pos h1, if_pos h2, if_pos rfl, if_pos h3, if_pos h4]
theorem tempsOk_rev {ts : List Int} (h : tempsOk ts) : tempsOk ts.reverse := fun t ht => h t (by simpa using ht)
theorem passOut_rev (l : Ln) (ws ts : List Int) (n : Nat) (hn : l.B.toNat = n) (hL : 1 ≤ ws.length * n) : (passOut l ws ts.reverse).1 = (passOut l ws ts).1 := by
  unfold passOut
  have h := lost_rev l ts
  cases hf : firstLost l ts with
  | none => rw [h.2 hf]; simp only; rw [rounds_rev l ts _ (by rw [pulsesFrom_len, hn]; exact hL)]
  | some k =>
    cases hg : firstLost l ts.reverse with
    | none => rw [h.1 hg] at hf; cases hf
    | some j => rfl
end Go.Proofs.Ytggkhddficmnfaa
