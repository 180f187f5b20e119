/-
  The reference's Product.
-/
import Derived.Test.YtbfhgcnfhjhgcaaRefCodes
import Derived.Test.YtbfhgcnfhjhgcaaBegMath
namespace Go.Proofs.Ytbfhgcnfhjhgcaa
open Go.RowKit
set_option linter.unusedVariables false
set_option linter.unusedSimpArgs false

theorem tdiv_parts (P : Int) : ∃ Q R : Int, P.tdiv 8388608 = Q ∧ P.tmod 8388608 = R ∧ P = 8388608 * Q + R ∧ (-8388608 < R ∧ R < 8388608) ∧ (R < 0 → P < 0) ∧ (0 < R → 0 < P) := by
  by_cases h : 0 ≤ P
  · refine ⟨P / 8388608, P % 8388608, Int.tdiv_eq_ediv_of_nonneg h, Int.tmod_eq_emod_of_nonneg h, ?_, ?_, ?_, ?_⟩ <;> omega
  · have e1 : P.tdiv 8388608 = -((-P) / 8388608) := by
      rw [← Int.tdiv_eq_ediv_of_nonneg (by omega : 0 ≤ -P), Int.neg_tdiv, Int.neg_neg]
    have e2 : P.tmod 8388608 = -((-P) % 8388608) := by
      rw [← Int.tmod_eq_emod_of_nonneg (by omega : 0 ≤ -P), Int.neg_tmod, Int.neg_neg]
    refine ⟨-((-P) / 8388608), -((-P) % 8388608), e1, e2, ?_, ?_, ?_, ?_⟩ <;> omega
set_option maxRecDepth 100000 in
set_option maxHeartbeats 2000000 in
theorem refProduct_any (a b : Int) (ha : Wd a) (hb : Wd b) (w : World) : Calls Try.prog 74 #[.int .i64 a, .int .i64 b] w (Ret w (.int .i64 (prodOf a b))) := by
  have b1 := sgn_bd ha
  have b2 := sgn_bd hb
  obtain ⟨b4, _⟩ := prod_law (x := sgn a) (y := sgn b) (by omega) (by omega)
  have hp : prodOf a b = sgn a * sgn b / 8388608 % 16777216 := rfl
  rw [hp]
  have h1 := fun W => Sign_any a (by unfold Wd at ha; omega) W
  have h2 := fun W => Sign_any b (by unfold Wd at hb; omega) W
  have M0 := hid trivial
  generalize sgn a = x at *
  generalize sgn b = y at *
  obtain ⟨Q, R, e1, e2, e3, e4, e5, e6⟩ := tdiv_parts (x * y)
  have H1 := hid h1
  have H2 := hid h2
  have hdp : x * y / 8388608 = if R < 0 then Q - 1 else Q := by split <;> omega
  rw [hdp]
  have q1 : -8388608 ≤ Q ∧ Q ≤ 8388608 := by omega
  clear h1 h2 hp hdp ha hb e3 e5 e6
  by_cases hr : R < 0
  · rw [if_pos hr]
    have ht : (Q - 1 + 16777216).tmod 16777216 = (Q - 1) % 16777216 := by rw [Int.tmod_eq_emod_of_nonneg (by omega)]; omega
    go_enter Try.func74, Try.ntmps74
    go_wp2_with (first
      | (have m := M0; go_at_call 47; refine (H1.out _).mono ?_; rintro e w' ⟨rfl, rfl⟩; clear m M0; have M1 := hid trivial)
      | (have m := M1; go_at_call 47; refine (H2.out _).mono ?_; rintro e w' ⟨rfl, rfl⟩; clear m M1))
    go_ret
    exact ⟨rfl, by have hq := Below.refl w.heap.size w; (repeat (first | assumption | exact Below.refl _ _ | refine b_alloc ?_ _ | refine Below.drew ?_ | refine b_drewN ?_ _ | refine Below.setCell ?_ (by first | omega | (simp; done) | (simp; omega)) _ | refine b_call (by assumption) ?_))⟩
  · rw [if_neg hr]
    have ht : (Q + 16777216).tmod 16777216 = Q % 16777216 := by rw [Int.tmod_eq_emod_of_nonneg (by omega)]; omega
    go_enter Try.func74, Try.ntmps74
    go_wp2_with (first
      | (have m := M0; go_at_call 47; refine (H1.out _).mono ?_; rintro e w' ⟨rfl, rfl⟩; clear m M0; have M1 := hid trivial)
      | (have m := M1; go_at_call 47; refine (H2.out _).mono ?_; rintro e w' ⟨rfl, rfl⟩; clear m M1))
    go_ret
    exact ⟨rfl, by have hq := Below.refl w.heap.size w; (repeat (first | assumption | exact Below.refl _ _ | refine b_alloc ?_ _ | refine Below.drew ?_ | refine b_drewN ?_ _ | refine Below.setCell ?_ (by first | omega | (simp; done) | (simp; omega)) _ | refine b_call (by assumption) ?_))⟩
end Go.Proofs.Ytbfhgcnfhjhgcaa
