/-
  The law LineSafe, walked: given that Awake answers true.
-/
import Derived.Deep.RegionWith
import Derived.Deep.RegionHeld3
import Derived.Test.YtggkhddficmnfaaLits
import Derived.Test.YtggkhddficmnfaaSafeMath
namespace Go.Proofs.Ytggkhddficmnfaa
open Go.RowKit
set_option linter.unusedVariables false
set_option linter.unusedSimpArgs false

set_option maxRecDepth 100000 in
set_option maxHeartbeats 1000000 in
/-- No line, or no temperature. -/
theorem safeLaw_no (hA : ∀ W, Calls Try.prog 22 #[] W (Ret W (.bool true))) (l : Ln) (a : Option Addr) (ca n : Nat) (t er lo hi : Int) (h : (er = 7 ∧ lo = 0 ∧ hi = 0) ∨ ((er = 0 ∨ er = 9) ∧ ¬ Temp t))
    (hS : ∀ W, Calls Try.prog 27 #[l.val] W (Ret W (.tuple #[.agg #[.int .i64 lo, .int .i64 hi], .int .i64 er]))) (w : World) :
    Calls Try.prog 11 #[l.val, .slice a n ca, .int .i64 t] w fun e w' => e = .returned (.bool true) ∧ Below w.heap.size w w' := by
  have HA := hid hA
  have HS := hid hS
  have hL0 := hid (lnAt_new' l w)
  clear hA hS
  rcases h with ⟨rfl, rfl, rfl⟩ | ⟨h1, h⟩
  · go_enter Try.func11, Try.ntmps11
    go_wp2_with (first
      | (go_at_call 27; refine (HS.out _).mono ?_; rintro e w1 ⟨rfl, hb1⟩; have HB1 := hid (show Below w.heap.size w w1 by (repeat (first | assumption | exact Below.refl _ _ | refine b_alloc ?_ _ | refine Below.drew ?_ | refine b_drewN ?_ _ | refine Below.setCell ?_ (by first | omega | (simp; done) | (simp; omega)) _ | refine b_call (by assumption) ?_))); clear hb1)
      | (go_at_call 22; refine (HA.out _).mono ?_; rintro e w3 ⟨rfl, hb3⟩; have HB3 := hid (show Below w.heap.size w w3 from b_call hb3 (by have hq := HB1.out; (repeat (first | assumption | exact Below.refl _ _ | refine b_alloc ?_ _ | refine Below.drew ?_ | refine b_drewN ?_ _ | refine Below.setCell ?_ (by first | omega | (simp; done) | (simp; omega)) _ | refine b_call (by assumption) ?_)))); clear hb3))
    go_ret
    exact ⟨rfl, HB3.out⟩
  · have hT := fun W => Temp_any t W
    rw [decide_eq_false h] at hT
    have HT := hid hT
    clear hT h
    rcases h1 with rfl | rfl
    all_goals
      go_enter Try.func11, Try.ntmps11
      go_wp2_with (first
        | (go_at_call 27; refine (HS.out _).mono ?_; rintro e w1 ⟨rfl, hb1⟩; have HB1 := hid (show Below w.heap.size w w1 by (repeat (first | assumption | exact Below.refl _ _ | refine b_alloc ?_ _ | refine Below.drew ?_ | refine b_drewN ?_ _ | refine Below.setCell ?_ (by first | omega | (simp; done) | (simp; omega)) _ | refine b_call (by assumption) ?_))); clear hb1)
        | (go_at_call 47; refine (HT.out _).mono ?_; rintro e w2 ⟨rfl, rfl⟩)
        | (go_at_call 22; refine (HA.out _).mono ?_; rintro e w3 ⟨rfl, hb3⟩; have HB3 := hid (show Below w.heap.size w w3 from b_call hb3 (by have hq := HB1.out; (repeat (first | assumption | exact Below.refl _ _ | refine b_alloc ?_ _ | refine Below.drew ?_ | refine b_drewN ?_ _ | refine Below.setCell ?_ (by first | omega | (simp; done) | (simp; omega)) _ | refine b_call (by assumption) ?_)))); clear hb3))
      go_ret
      exact ⟨rfl, HB3.out⟩

/-- Pulses after a round at one temperature. -/
theorem one_round (l : Ln) (ws : List Int) (t : Int) : firstLost l [t] = (if l.rL t then some 0 else none) := by
  unfold firstLost
  cases h : l.rL t <;> simp [List.range_succ, h]

theorem safe_cases (er lo hi t n : Int) (b1 b2 lost : Bool) (her : er = 0 ∧ decide (lo ≤ t) = b1 ∧ decide (t ≤ hi) = b2 ∨ er = 9 ∧ b1 = true ∧ b2 = true) (hin : (decide (er = 0) && b1 && b2) = (decide (n = 0) && !lost)) :
    ((er = 0 ∧ t < lo ∧ (lost = true ∨ lost = false ∧ n ≠ 0)) ∨ (er = 0 ∧ lo ≤ t ∧ hi < t ∧ (lost = true ∨ lost = false ∧ n ≠ 0)) ∨ (er = 9 ∧ (lost = true ∨ lost = false ∧ n ≠ 0))) ∨ (er = 0 ∧ lo ≤ t ∧ t ≤ hi ∧ n = 0 ∧ lost = false ∧ b1 = true ∧ b2 = true) := by
  rcases her with ⟨rfl, h1, h2⟩ | ⟨rfl, rfl, rfl⟩
  · cases b1 <;> cases b2 <;> cases lost <;> simp at * <;> omega
  · cases lost <;> simp at * <;> omega

set_option maxRecDepth 100000 in
set_option maxHeartbeats 8000000 in
theorem safeLaw_core (hA : ∀ W, Calls Try.prog 22 #[] W (Ret W (.bool true))) (m : Nat) (lb lp ld ls ln : Int) (h : (Ln.mk m lb lp ld ls ln).Ok) (a : Option Addr) (ca : Nat) (ws : List Int) (hlw : Len ws.length) (t er lo hi n : Int) (ht : Temp t)
    (b1 b2 lost : Bool) (her : er = 0 ∧ decide (lo ≤ t) = b1 ∧ decide (t ≤ hi) = b2 ∨ er = 9 ∧ b1 = true ∧ b2 = true) (hin : (decide (er = 0) && b1 && b2) = (decide (n = 0) && !lost))
    (xs1 xs2 : List Int) (at1 at2 pe : Int) (hl2 : Len xs2.length) (hw1 : er = 0 → b1 = true → b2 = true → pe = 0 → at1 = -1 ∧ xs1 = ws)
    (hS : ∀ W, Calls Try.prog 27 #[Ln.val ⟨m, lb, lp, ld, ls, ln⟩] W (Ret W (.tuple #[.agg #[.int .i64 lo, .int .i64 hi], .int .i64 er])))
    (hH : ∀ W, Calls Try.prog 23 #[Ln.val ⟨m, lb, lp, ld, ls, ln⟩, .int .i64 t] W (Ret W (.tuple #[.int .i64 n, .bool lost, .int .i64 0])))
    (hP1 : ∀ W b cb, IntsAt W a ws → IntsAt W b [t] → Calls Try.prog 29 #[Ln.val ⟨m, lb, lp, ld, ls, ln⟩, .slice a ws.length ca, .slice b 1 cb] W (RetL W xs1 at1 pe))
    (hP2 : ∀ W c cc b cb, IntsAt W c (1 :: List.replicate (m - 1) 0) → IntsAt W b [t] → Calls Try.prog 29 #[Ln.val ⟨m, lb, lp, ld, ls, ln⟩, .slice c m cc, .slice b 1 cb] W (RetL W xs2 at2 0))
    (hx2 : decide (xs2 = 1 :: List.replicate (m - 1) 0) = (!lost && decide (n.tmod (m * lb) = 0))) (hat2 : decide (at2 = 0) = lost) (w : World) (hx : IntsAt w a ws) :
    Calls Try.prog 11 #[Ln.val ⟨m, lb, lp, ld, ls, ln⟩, .slice a ws.length ca, .int .i64 t] w fun e w' => e = .returned (.bool true) ∧ Below w.heap.size w w' := by
  obtain ⟨iI, hiI, hzI0, hzI1, hzI2⟩ := info_parts infoI
  have hT := fun W => Temp_any t W
  rw [decide_eq_true ht] at hT
  have HT := hid hT
  have hint : ∀ W c cc b cb, IntsAt W c xs2 → IntsAt W b (1 :: List.replicate (m - 1) 0) → Calls Try.prog 31 #[.slice c xs2.length cc, .slice b m cb] W (Ret W (.bool (!lost && decide (n.tmod (m * lb) = 0)))) := by
    intro W c cc b cb g1 g2
    have hm1 := h.1.1
    simp only at hm1
    have hI := Ints_any c b cc cb xs2 (1 :: List.replicate (m - 1) 0) hl2 (by simp; have := h.1.2; simp only at this; omega) W g1 g2
    rw [show (1 :: List.replicate (m - 1) (0 : Int)).length = m by simp; omega, hx2] at hI
    exact hI
  have HA := hid hA
  have HS := hid hS
  have HH := hid hH
  have HP1 := hid hP1
  have HP2 := hid hP2
  have HX := hid hx
  have HX2 := hid hx2
  have HA2 := hid hat2
  have hL0 := hid (lnAt_new' ⟨m, lb, lp, ld, ls, ln⟩ w)
  have hbt := h.beats
  have hbt1 := h.beats1
  have hW := h.1
  simp only at hbt hbt1 hW
  have hD := safe_cases er lo hi t n b1 b2 lost her hin
  clear hA hS hH hP1 hP2 hT hx hx2 her hin
  rcases hD with hD | ⟨rfl, q1, q2, rfl, rfl, rfl, rfl⟩
  · obtain ⟨z, hE⟩ : (lost = true ∨ lost = false ∧ n ≠ 0) ∧ ((er = 0 ∧ t < lo) ∨ (er = 0 ∧ lo ≤ t ∧ hi < t) ∨ er = 9) := by
      rcases hD with ⟨h1, h2, h3⟩ | ⟨h1, h2, h3, h4⟩ | ⟨h1, h2⟩
      · exact ⟨h3, .inl ⟨h1, h2⟩⟩
      · exact ⟨h4, .inr (.inl ⟨h1, h2, h3⟩)⟩
      · exact ⟨h2, .inr (.inr h1)⟩
    clear hw1 hD
    rcases z with rfl | ⟨rfl, z⟩
    · have z2 : at2 = 0 := by simpa using hat2
      subst z2
      simp only [Bool.not_true, Bool.false_and] at hint
      have HINT := hid hint
      clear hint hat2
      have M0 := hid trivial
      rcases hE with ⟨rfl, q1⟩ | ⟨rfl, q1, q2⟩ | rfl
      all_goals
        go_enter Try.func11, Try.ntmps11
        go_wp2_with
      (first
        | (go_at_call 27; refine (HS.out _).mono ?_; rintro e w1 ⟨rfl, hb1⟩; have HB1 := hid (show Below w.heap.size w w1 by (repeat (first | assumption | exact Below.refl _ _ | refine b_alloc ?_ _ | refine Below.drew ?_ | refine b_drewN ?_ _ | refine Below.setCell ?_ (by first | omega | (simp; done) | (simp; omega)) _ | refine b_call (by assumption) ?_))); have hL1 := hid (lnAt_call (lnAt_call hL0.out hb1) (b_alloc (Below.refl _ _) (.cells #[.int .i64 lo, .int .i64 hi] 31))); clear hb1; obtain ⟨d0, d1, d2, d3, d4, d5⟩ := hL1.out)
        | (go_at_call 47; refine (HT.out _).mono ?_; rintro e w2 ⟨rfl, rfl⟩)
        | (have mm := M0; go_at_call 29; refine (HP1.out _ _ _ (HX.out.below (show Below w.heap.size w _ from by have hq := HB1.out; (repeat (first | assumption | exact Below.refl _ _ | refine b_alloc ?_ _ | refine Below.drew ?_ | refine b_drewN ?_ _ | refine Below.setCell ?_ (by first | omega | (simp; done) | (simp; omega)) _ | refine b_call (by assumption) ?_)))) (ints1' _ t _ (by simp))).mono ?_; rintro e w3 ⟨c3, k3, rfl, hi3, hb3⟩; have hL3 := hid (lnAt_call hL1.out (b_call hb3 (by (repeat (first | assumption | exact Below.refl _ _ | refine b_alloc ?_ _ | refine Below.drew ?_ | refine b_drewN ?_ _ | refine Below.setCell ?_ (by first | omega | (simp; done) | (simp; omega)) _ | refine b_call (by assumption) ?_))))); have HI3 := hid hi3; have HB3 := hid (show Below w.heap.size w w3 from b_call hb3 (by have hq := HB1.out; (repeat (first | assumption | exact Below.refl _ _ | refine b_alloc ?_ _ | refine Below.drew ?_ | refine b_drewN ?_ _ | refine Below.setCell ?_ (by first | omega | (simp; done) | (simp; omega)) _ | refine b_call (by assumption) ?_)))); clear hb3; clear hi3 mm M0 d0 d1 d2 d3 d4 d5; have M1 := hid trivial; obtain ⟨d0, d1, d2, d3, d4, d5⟩ := hL3.out)
        | (refine wpList_make_full _ rfl _ _ 35 rfl w.heap.size 3 iI (.int .i64 0) 1 Try.underlying35 hiI hzI0 hzI1 .i64 .i64 (m : Int) (m : Int) m rfl rfl rfl rfl (by rw [hzI2]; omega) (by unfold maxLen; omega) HB3.out.size ?_; intro w4 hown hgrow; obtain ⟨r0, r1, r2⟩ := one_row (by omega) hown; have hne := Nat.ne_of_gt (lnAt_lt hL3.out); have HB4 := hid (show Below w.heap.size w (w4.setCell ⟨w3.heap.size, 0, none⟩ (.int .i64 1)) from (b_call (below_of_grown hgrow) HB3.out).setCell HB3.out.size _); have hL4 := hid (lnAt_set (g := w3.heap.size) (o := 0) (v := .int .i64 1) (lnAt_call hL3.out (below_of_grown hgrow)) hne); have HI4 := hid r2; clear r2 hown hgrow hne d0 d1 d2 d3 d4 d5; obtain ⟨d0, d1, d2, d3, d4, d5⟩ := hL4.out)
        | (have mm := M1; go_at_call 29; refine (HP2.out _ _ _ _ _ (HI4.out.below (by (repeat (first | assumption | exact Below.refl _ _ | refine b_alloc ?_ _ | refine Below.drew ?_ | refine b_drewN ?_ _ | refine Below.setCell ?_ (by first | omega | (simp; done) | (simp; omega)) _ | refine b_call (by assumption) ?_)))) (ints1' _ t _ (by simp))).mono ?_; rintro e w5 ⟨c5, k5, rfl, hi5, hb5⟩; have hL5 := hid (lnAt_call hL4.out (b_call hb5 (by (repeat (first | assumption | exact Below.refl _ _ | refine b_alloc ?_ _ | refine Below.drew ?_ | refine b_drewN ?_ _ | refine Below.setCell ?_ (by first | omega | (simp; done) | (simp; omega)) _ | refine b_call (by assumption) ?_))))); have HI5 := hid (HI4.out.below (b_call hb5 (by (repeat (first | assumption | exact Below.refl _ _ | refine b_alloc ?_ _ | refine Below.drew ?_ | refine b_drewN ?_ _ | refine Below.setCell ?_ (by first | omega | (simp; done) | (simp; omega)) _ | refine b_call (by assumption) ?_))))); have HX5 := hid hi5; have HB5 := hid (show Below w.heap.size w w5 from b_call hb5 (by have hq := HB4.out; (repeat (first | assumption | exact Below.refl _ _ | refine b_alloc ?_ _ | refine Below.drew ?_ | refine b_drewN ?_ _ | refine Below.setCell ?_ (by first | omega | (simp; done) | (simp; omega)) _ | refine b_call (by assumption) ?_)))); clear hb5; clear hi5 mm M1 d0 d1 d2 d3 d4 d5; obtain ⟨d0, d1, d2, d3, d4, d5⟩ := hL5.out)
        | (go_at_call 23; refine (HH.out _).mono ?_; rintro e w6 ⟨rfl, hb6⟩; have HI6 := hid (HI5.out.below hb6); have HX6 := hid (HX5.out.below hb6); have HB6 := hid (show Below w.heap.size w w6 from b_call hb6 (by have hq := HB5.out; (repeat (first | assumption | exact Below.refl _ _ | refine b_alloc ?_ _ | refine Below.drew ?_ | refine b_drewN ?_ _ | refine Below.setCell ?_ (by first | omega | (simp; done) | (simp; omega)) _ | refine b_call (by assumption) ?_)))); clear hb6; clear d0 d1 d2 d3 d4 d5)
        | (go_at_call 31; refine (HINT.out _ _ _ _ _ (HX6.out.below (by (repeat (first | assumption | exact Below.refl _ _ | refine b_alloc ?_ _ | refine Below.drew ?_ | refine b_drewN ?_ _ | refine Below.setCell ?_ (by first | omega | (simp; done) | (simp; omega)) _ | refine b_call (by assumption) ?_)))) (HI6.out.below (by (repeat (first | assumption | exact Below.refl _ _ | refine b_alloc ?_ _ | refine Below.drew ?_ | refine b_drewN ?_ _ | refine Below.setCell ?_ (by first | omega | (simp; done) | (simp; omega)) _ | refine b_call (by assumption) ?_))))).mono ?_; rintro e w7 ⟨rfl, hb7⟩; have HB7 := hid (show Below w.heap.size w w7 from b_call hb7 (by have hq := HB6.out; (repeat (first | assumption | exact Below.refl _ _ | refine b_alloc ?_ _ | refine Below.drew ?_ | refine b_drewN ?_ _ | refine Below.setCell ?_ (by first | omega | (simp; done) | (simp; omega)) _ | refine b_call (by assumption) ?_)))); clear hb7)
        | (go_at_call 22; refine (HA.out _).mono ?_; rintro e w8 ⟨rfl, hb8⟩; have HB8 := hid (show Below w.heap.size w w8 from b_call hb8 (by have hq := HB7.out; (repeat (first | assumption | exact Below.refl _ _ | refine b_alloc ?_ _ | refine Below.drew ?_ | refine b_drewN ?_ _ | refine Below.setCell ?_ (by first | omega | (simp; done) | (simp; omega)) _ | refine b_call (by assumption) ?_)))); clear hb8))
        all_goals (go_ret; exact ⟨by first | rfl | exact ret_bool (by simp [z2]), HB8.out⟩)
    · have z2 : ¬ at2 = 0 := by simpa using hat2
      simp only [Bool.not_false, Bool.true_and] at hint
      have HINT := hid hint
      clear hint hat2
      have M0 := hid trivial
      rcases hE with ⟨rfl, q1⟩ | ⟨rfl, q1, q2⟩ | rfl
      all_goals
        go_enter Try.func11, Try.ntmps11
        go_wp2_with
      (first
        | (go_at_call 27; refine (HS.out _).mono ?_; rintro e w1 ⟨rfl, hb1⟩; have HB1 := hid (show Below w.heap.size w w1 by (repeat (first | assumption | exact Below.refl _ _ | refine b_alloc ?_ _ | refine Below.drew ?_ | refine b_drewN ?_ _ | refine Below.setCell ?_ (by first | omega | (simp; done) | (simp; omega)) _ | refine b_call (by assumption) ?_))); have hL1 := hid (lnAt_call (lnAt_call hL0.out hb1) (b_alloc (Below.refl _ _) (.cells #[.int .i64 lo, .int .i64 hi] 31))); clear hb1; obtain ⟨d0, d1, d2, d3, d4, d5⟩ := hL1.out)
        | (go_at_call 47; refine (HT.out _).mono ?_; rintro e w2 ⟨rfl, rfl⟩)
        | (have mm := M0; go_at_call 29; refine (HP1.out _ _ _ (HX.out.below (show Below w.heap.size w _ from by have hq := HB1.out; (repeat (first | assumption | exact Below.refl _ _ | refine b_alloc ?_ _ | refine Below.drew ?_ | refine b_drewN ?_ _ | refine Below.setCell ?_ (by first | omega | (simp; done) | (simp; omega)) _ | refine b_call (by assumption) ?_)))) (ints1' _ t _ (by simp))).mono ?_; rintro e w3 ⟨c3, k3, rfl, hi3, hb3⟩; have hL3 := hid (lnAt_call hL1.out (b_call hb3 (by (repeat (first | assumption | exact Below.refl _ _ | refine b_alloc ?_ _ | refine Below.drew ?_ | refine b_drewN ?_ _ | refine Below.setCell ?_ (by first | omega | (simp; done) | (simp; omega)) _ | refine b_call (by assumption) ?_))))); have HI3 := hid hi3; have HB3 := hid (show Below w.heap.size w w3 from b_call hb3 (by have hq := HB1.out; (repeat (first | assumption | exact Below.refl _ _ | refine b_alloc ?_ _ | refine Below.drew ?_ | refine b_drewN ?_ _ | refine Below.setCell ?_ (by first | omega | (simp; done) | (simp; omega)) _ | refine b_call (by assumption) ?_)))); clear hb3; clear hi3 mm M0 d0 d1 d2 d3 d4 d5; have M1 := hid trivial; obtain ⟨d0, d1, d2, d3, d4, d5⟩ := hL3.out)
        | (refine wpList_make_full _ rfl _ _ 35 rfl w.heap.size 3 iI (.int .i64 0) 1 Try.underlying35 hiI hzI0 hzI1 .i64 .i64 (m : Int) (m : Int) m rfl rfl rfl rfl (by rw [hzI2]; omega) (by unfold maxLen; omega) HB3.out.size ?_; intro w4 hown hgrow; obtain ⟨r0, r1, r2⟩ := one_row (by omega) hown; have hne := Nat.ne_of_gt (lnAt_lt hL3.out); have HB4 := hid (show Below w.heap.size w (w4.setCell ⟨w3.heap.size, 0, none⟩ (.int .i64 1)) from (b_call (below_of_grown hgrow) HB3.out).setCell HB3.out.size _); have hL4 := hid (lnAt_set (g := w3.heap.size) (o := 0) (v := .int .i64 1) (lnAt_call hL3.out (below_of_grown hgrow)) hne); have HI4 := hid r2; clear r2 hown hgrow hne d0 d1 d2 d3 d4 d5; obtain ⟨d0, d1, d2, d3, d4, d5⟩ := hL4.out)
        | (have mm := M1; go_at_call 29; refine (HP2.out _ _ _ _ _ (HI4.out.below (by (repeat (first | assumption | exact Below.refl _ _ | refine b_alloc ?_ _ | refine Below.drew ?_ | refine b_drewN ?_ _ | refine Below.setCell ?_ (by first | omega | (simp; done) | (simp; omega)) _ | refine b_call (by assumption) ?_)))) (ints1' _ t _ (by simp))).mono ?_; rintro e w5 ⟨c5, k5, rfl, hi5, hb5⟩; have hL5 := hid (lnAt_call hL4.out (b_call hb5 (by (repeat (first | assumption | exact Below.refl _ _ | refine b_alloc ?_ _ | refine Below.drew ?_ | refine b_drewN ?_ _ | refine Below.setCell ?_ (by first | omega | (simp; done) | (simp; omega)) _ | refine b_call (by assumption) ?_))))); have HI5 := hid (HI4.out.below (b_call hb5 (by (repeat (first | assumption | exact Below.refl _ _ | refine b_alloc ?_ _ | refine Below.drew ?_ | refine b_drewN ?_ _ | refine Below.setCell ?_ (by first | omega | (simp; done) | (simp; omega)) _ | refine b_call (by assumption) ?_))))); have HX5 := hid hi5; have HB5 := hid (show Below w.heap.size w w5 from b_call hb5 (by have hq := HB4.out; (repeat (first | assumption | exact Below.refl _ _ | refine b_alloc ?_ _ | refine Below.drew ?_ | refine b_drewN ?_ _ | refine Below.setCell ?_ (by first | omega | (simp; done) | (simp; omega)) _ | refine b_call (by assumption) ?_)))); clear hb5; clear hi5 mm M1 d0 d1 d2 d3 d4 d5; obtain ⟨d0, d1, d2, d3, d4, d5⟩ := hL5.out)
        | (go_at_call 23; refine (HH.out _).mono ?_; rintro e w6 ⟨rfl, hb6⟩; have HI6 := hid (HI5.out.below hb6); have HX6 := hid (HX5.out.below hb6); have HB6 := hid (show Below w.heap.size w w6 from b_call hb6 (by have hq := HB5.out; (repeat (first | assumption | exact Below.refl _ _ | refine b_alloc ?_ _ | refine Below.drew ?_ | refine b_drewN ?_ _ | refine Below.setCell ?_ (by first | omega | (simp; done) | (simp; omega)) _ | refine b_call (by assumption) ?_)))); clear hb6; clear d0 d1 d2 d3 d4 d5)
        | (go_at_call 31; refine (HINT.out _ _ _ _ _ (HX6.out.below (by (repeat (first | assumption | exact Below.refl _ _ | refine b_alloc ?_ _ | refine Below.drew ?_ | refine b_drewN ?_ _ | refine Below.setCell ?_ (by first | omega | (simp; done) | (simp; omega)) _ | refine b_call (by assumption) ?_)))) (HI6.out.below (by (repeat (first | assumption | exact Below.refl _ _ | refine b_alloc ?_ _ | refine Below.drew ?_ | refine b_drewN ?_ _ | refine Below.setCell ?_ (by first | omega | (simp; done) | (simp; omega)) _ | refine b_call (by assumption) ?_))))).mono ?_; rintro e w7 ⟨rfl, hb7⟩; have HB7 := hid (show Below w.heap.size w w7 from b_call hb7 (by have hq := HB6.out; (repeat (first | assumption | exact Below.refl _ _ | refine b_alloc ?_ _ | refine Below.drew ?_ | refine b_drewN ?_ _ | refine Below.setCell ?_ (by first | omega | (simp; done) | (simp; omega)) _ | refine b_call (by assumption) ?_)))); clear hb7)
        | (go_at_call 22; refine (HA.out _).mono ?_; rintro e w8 ⟨rfl, hb8⟩; have HB8 := hid (show Below w.heap.size w w8 from b_call hb8 (by have hq := HB7.out; (repeat (first | assumption | exact Below.refl _ _ | refine b_alloc ?_ _ | refine Below.drew ?_ | refine b_drewN ?_ _ | refine Below.setCell ?_ (by first | omega | (simp; done) | (simp; omega)) _ | refine b_call (by assumption) ?_)))); clear hb8))
        all_goals (go_ret; exact ⟨by first | rfl | exact ret_bool (by simp [z2]), HB8.out⟩)
  · have z2 : ¬ at2 = 0 := by simpa using hat2
    have t0 : (0 : Int).tmod (m * lb) = 0 := by simp
    simp only [t0, Bool.not_false, Bool.true_and, decide_true] at hint
    have HINT := hid hint
    clear hint hat2 t0
    have M0 := hid trivial
    by_cases hpe : pe = 0
    · subst hpe
      obtain ⟨rfl, rfl⟩ := hw1 rfl rfl rfl rfl
      have HINT1 := hid (show ∀ W c cc, IntsAt W c xs1 → IntsAt W a xs1 → Calls Try.prog 31 #[.slice c xs1.length cc, .slice a xs1.length ca] W (Ret W (.bool true)) from fun W c cc g1 g2 => by
        have := Ints_any c a cc ca xs1 xs1 hlw hlw W g1 g2
        simpa using this)
      clear hw1
      go_enter Try.func11, Try.ntmps11
      go_wp2_with
      (first
        | (go_at_call 27; refine (HS.out _).mono ?_; rintro e w1 ⟨rfl, hb1⟩; have HB1 := hid (show Below w.heap.size w w1 by (repeat (first | assumption | exact Below.refl _ _ | refine b_alloc ?_ _ | refine Below.drew ?_ | refine b_drewN ?_ _ | refine Below.setCell ?_ (by first | omega | (simp; done) | (simp; omega)) _ | refine b_call (by assumption) ?_))); have hL1 := hid (lnAt_call (lnAt_call hL0.out hb1) (b_alloc (Below.refl _ _) (.cells #[.int .i64 lo, .int .i64 hi] 31))); clear hb1; obtain ⟨d0, d1, d2, d3, d4, d5⟩ := hL1.out)
        | (go_at_call 47; refine (HT.out _).mono ?_; rintro e w2 ⟨rfl, rfl⟩)
        | (have mm := M0; go_at_call 29; refine (HP1.out _ _ _ (HX.out.below (show Below w.heap.size w _ from by have hq := HB1.out; (repeat (first | assumption | exact Below.refl _ _ | refine b_alloc ?_ _ | refine Below.drew ?_ | refine b_drewN ?_ _ | refine Below.setCell ?_ (by first | omega | (simp; done) | (simp; omega)) _ | refine b_call (by assumption) ?_)))) (ints1' _ t _ (by simp))).mono ?_; rintro e w3 ⟨c3, k3, rfl, hi3, hb3⟩; have hL3 := hid (lnAt_call hL1.out (b_call hb3 (by (repeat (first | assumption | exact Below.refl _ _ | refine b_alloc ?_ _ | refine Below.drew ?_ | refine b_drewN ?_ _ | refine Below.setCell ?_ (by first | omega | (simp; done) | (simp; omega)) _ | refine b_call (by assumption) ?_))))); have HI3 := hid hi3; have HB3 := hid (show Below w.heap.size w w3 from b_call hb3 (by have hq := HB1.out; (repeat (first | assumption | exact Below.refl _ _ | refine b_alloc ?_ _ | refine Below.drew ?_ | refine b_drewN ?_ _ | refine Below.setCell ?_ (by first | omega | (simp; done) | (simp; omega)) _ | refine b_call (by assumption) ?_)))); clear hb3; clear hi3 mm M0 d0 d1 d2 d3 d4 d5; have M1 := hid trivial; obtain ⟨d0, d1, d2, d3, d4, d5⟩ := hL3.out)
        | (have mm := M1; go_at_call 31; refine (HINT1.out _ _ _ HI3.out (HX.out.below HB3.out)).mono ?_; rintro e w9 ⟨rfl, hb9⟩; have hL9 := hid (lnAt_call hL3.out hb9); have HB9 := hid (show Below w.heap.size w w9 from b_call hb9 (by have hq := HB3.out; (repeat (first | assumption | exact Below.refl _ _ | refine b_alloc ?_ _ | refine Below.drew ?_ | refine b_drewN ?_ _ | refine Below.setCell ?_ (by first | omega | (simp; done) | (simp; omega)) _ | refine b_call (by assumption) ?_)))); clear hb9; clear mm d0 d1 d2 d3 d4 d5; obtain ⟨d0, d1, d2, d3, d4, d5⟩ := hL9.out)
        | (refine wpList_make_full _ rfl _ _ 35 rfl w.heap.size 3 iI (.int .i64 0) 1 Try.underlying35 hiI hzI0 hzI1 .i64 .i64 (m : Int) (m : Int) m rfl rfl rfl rfl (by rw [hzI2]; omega) (by unfold maxLen; omega) HB9.out.size ?_; intro w4 hown hgrow; obtain ⟨r0, r1, r2⟩ := one_row (by omega) hown; have hne := Nat.ne_of_gt (lnAt_lt hL9.out); have HB4 := hid (show Below w.heap.size w (w4.setCell ⟨w9.heap.size, 0, none⟩ (.int .i64 1)) from (b_call (below_of_grown hgrow) HB9.out).setCell HB9.out.size _); have hL4 := hid (lnAt_set (g := w9.heap.size) (o := 0) (v := .int .i64 1) (lnAt_call hL9.out (below_of_grown hgrow)) hne); have HI4 := hid r2; clear r2 hown hgrow hne d0 d1 d2 d3 d4 d5; obtain ⟨d0, d1, d2, d3, d4, d5⟩ := hL4.out)
        | (have mm := M1; go_at_call 29; refine (HP2.out _ _ _ _ _ (HI4.out.below (by (repeat (first | assumption | exact Below.refl _ _ | refine b_alloc ?_ _ | refine Below.drew ?_ | refine b_drewN ?_ _ | refine Below.setCell ?_ (by first | omega | (simp; done) | (simp; omega)) _ | refine b_call (by assumption) ?_)))) (ints1' _ t _ (by simp))).mono ?_; rintro e w5 ⟨c5, k5, rfl, hi5, hb5⟩; have hL5 := hid (lnAt_call hL4.out (b_call hb5 (by (repeat (first | assumption | exact Below.refl _ _ | refine b_alloc ?_ _ | refine Below.drew ?_ | refine b_drewN ?_ _ | refine Below.setCell ?_ (by first | omega | (simp; done) | (simp; omega)) _ | refine b_call (by assumption) ?_))))); have HI5 := hid (HI4.out.below (b_call hb5 (by (repeat (first | assumption | exact Below.refl _ _ | refine b_alloc ?_ _ | refine Below.drew ?_ | refine b_drewN ?_ _ | refine Below.setCell ?_ (by first | omega | (simp; done) | (simp; omega)) _ | refine b_call (by assumption) ?_))))); have HX5 := hid hi5; have HB5 := hid (show Below w.heap.size w w5 from b_call hb5 (by have hq := HB4.out; (repeat (first | assumption | exact Below.refl _ _ | refine b_alloc ?_ _ | refine Below.drew ?_ | refine b_drewN ?_ _ | refine Below.setCell ?_ (by first | omega | (simp; done) | (simp; omega)) _ | refine b_call (by assumption) ?_)))); clear hb5; clear hi5 mm M1 d0 d1 d2 d3 d4 d5; obtain ⟨d0, d1, d2, d3, d4, d5⟩ := hL5.out)
        | (go_at_call 23; refine (HH.out _).mono ?_; rintro e w6 ⟨rfl, hb6⟩; have HI6 := hid (HI5.out.below hb6); have HX6 := hid (HX5.out.below hb6); have HB6 := hid (show Below w.heap.size w w6 from b_call hb6 (by have hq := HB5.out; (repeat (first | assumption | exact Below.refl _ _ | refine b_alloc ?_ _ | refine Below.drew ?_ | refine b_drewN ?_ _ | refine Below.setCell ?_ (by first | omega | (simp; done) | (simp; omega)) _ | refine b_call (by assumption) ?_)))); clear hb6; clear d0 d1 d2 d3 d4 d5)
        | (go_at_call 31; refine (HINT.out _ _ _ _ _ (HX6.out.below (by (repeat (first | assumption | exact Below.refl _ _ | refine b_alloc ?_ _ | refine Below.drew ?_ | refine b_drewN ?_ _ | refine Below.setCell ?_ (by first | omega | (simp; done) | (simp; omega)) _ | refine b_call (by assumption) ?_)))) (HI6.out.below (by (repeat (first | assumption | exact Below.refl _ _ | refine b_alloc ?_ _ | refine Below.drew ?_ | refine b_drewN ?_ _ | refine Below.setCell ?_ (by first | omega | (simp; done) | (simp; omega)) _ | refine b_call (by assumption) ?_))))).mono ?_; rintro e w7 ⟨rfl, hb7⟩; have HB7 := hid (show Below w.heap.size w w7 from b_call hb7 (by have hq := HB6.out; (repeat (first | assumption | exact Below.refl _ _ | refine b_alloc ?_ _ | refine Below.drew ?_ | refine b_drewN ?_ _ | refine Below.setCell ?_ (by first | omega | (simp; done) | (simp; omega)) _ | refine b_call (by assumption) ?_)))); clear hb7)
        | (go_at_call 22; refine (HA.out _).mono ?_; rintro e w8 ⟨rfl, hb8⟩; have HB8 := hid (show Below w.heap.size w w8 from b_call hb8 (by have hq := HB7.out; (repeat (first | assumption | exact Below.refl _ _ | refine b_alloc ?_ _ | refine Below.drew ?_ | refine b_drewN ?_ _ | refine Below.setCell ?_ (by first | omega | (simp; done) | (simp; omega)) _ | refine b_call (by assumption) ?_)))); clear hb8))
      all_goals (go_ret; exact ⟨by first | rfl | exact ret_bool (by simp [z2]), HB8.out⟩)
    · clear hw1
      go_enter Try.func11, Try.ntmps11
      go_wp2_with
      (first
        | (go_at_call 27; refine (HS.out _).mono ?_; rintro e w1 ⟨rfl, hb1⟩; have HB1 := hid (show Below w.heap.size w w1 by (repeat (first | assumption | exact Below.refl _ _ | refine b_alloc ?_ _ | refine Below.drew ?_ | refine b_drewN ?_ _ | refine Below.setCell ?_ (by first | omega | (simp; done) | (simp; omega)) _ | refine b_call (by assumption) ?_))); have hL1 := hid (lnAt_call (lnAt_call hL0.out hb1) (b_alloc (Below.refl _ _) (.cells #[.int .i64 lo, .int .i64 hi] 31))); clear hb1; obtain ⟨d0, d1, d2, d3, d4, d5⟩ := hL1.out)
        | (go_at_call 47; refine (HT.out _).mono ?_; rintro e w2 ⟨rfl, rfl⟩)
        | (have mm := M0; go_at_call 29; refine (HP1.out _ _ _ (HX.out.below (show Below w.heap.size w _ from by have hq := HB1.out; (repeat (first | assumption | exact Below.refl _ _ | refine b_alloc ?_ _ | refine Below.drew ?_ | refine b_drewN ?_ _ | refine Below.setCell ?_ (by first | omega | (simp; done) | (simp; omega)) _ | refine b_call (by assumption) ?_)))) (ints1' _ t _ (by simp))).mono ?_; rintro e w3 ⟨c3, k3, rfl, hi3, hb3⟩; have hL3 := hid (lnAt_call hL1.out (b_call hb3 (by (repeat (first | assumption | exact Below.refl _ _ | refine b_alloc ?_ _ | refine Below.drew ?_ | refine b_drewN ?_ _ | refine Below.setCell ?_ (by first | omega | (simp; done) | (simp; omega)) _ | refine b_call (by assumption) ?_))))); have HI3 := hid hi3; have HB3 := hid (show Below w.heap.size w w3 from b_call hb3 (by have hq := HB1.out; (repeat (first | assumption | exact Below.refl _ _ | refine b_alloc ?_ _ | refine Below.drew ?_ | refine b_drewN ?_ _ | refine Below.setCell ?_ (by first | omega | (simp; done) | (simp; omega)) _ | refine b_call (by assumption) ?_)))); clear hb3; clear hi3 mm M0 d0 d1 d2 d3 d4 d5; have M1 := hid trivial; obtain ⟨d0, d1, d2, d3, d4, d5⟩ := hL3.out)
        | (refine wpList_make_full _ rfl _ _ 35 rfl w.heap.size 3 iI (.int .i64 0) 1 Try.underlying35 hiI hzI0 hzI1 .i64 .i64 (m : Int) (m : Int) m rfl rfl rfl rfl (by rw [hzI2]; omega) (by unfold maxLen; omega) HB3.out.size ?_; intro w4 hown hgrow; obtain ⟨r0, r1, r2⟩ := one_row (by omega) hown; have hne := Nat.ne_of_gt (lnAt_lt hL3.out); have HB4 := hid (show Below w.heap.size w (w4.setCell ⟨w3.heap.size, 0, none⟩ (.int .i64 1)) from (b_call (below_of_grown hgrow) HB3.out).setCell HB3.out.size _); have hL4 := hid (lnAt_set (g := w3.heap.size) (o := 0) (v := .int .i64 1) (lnAt_call hL3.out (below_of_grown hgrow)) hne); have HI4 := hid r2; clear r2 hown hgrow hne d0 d1 d2 d3 d4 d5; obtain ⟨d0, d1, d2, d3, d4, d5⟩ := hL4.out)
        | (have mm := M1; go_at_call 29; refine (HP2.out _ _ _ _ _ (HI4.out.below (by (repeat (first | assumption | exact Below.refl _ _ | refine b_alloc ?_ _ | refine Below.drew ?_ | refine b_drewN ?_ _ | refine Below.setCell ?_ (by first | omega | (simp; done) | (simp; omega)) _ | refine b_call (by assumption) ?_)))) (ints1' _ t _ (by simp))).mono ?_; rintro e w5 ⟨c5, k5, rfl, hi5, hb5⟩; have hL5 := hid (lnAt_call hL4.out (b_call hb5 (by (repeat (first | assumption | exact Below.refl _ _ | refine b_alloc ?_ _ | refine Below.drew ?_ | refine b_drewN ?_ _ | refine Below.setCell ?_ (by first | omega | (simp; done) | (simp; omega)) _ | refine b_call (by assumption) ?_))))); have HI5 := hid (HI4.out.below (b_call hb5 (by (repeat (first | assumption | exact Below.refl _ _ | refine b_alloc ?_ _ | refine Below.drew ?_ | refine b_drewN ?_ _ | refine Below.setCell ?_ (by first | omega | (simp; done) | (simp; omega)) _ | refine b_call (by assumption) ?_))))); have HX5 := hid hi5; have HB5 := hid (show Below w.heap.size w w5 from b_call hb5 (by have hq := HB4.out; (repeat (first | assumption | exact Below.refl _ _ | refine b_alloc ?_ _ | refine Below.drew ?_ | refine b_drewN ?_ _ | refine Below.setCell ?_ (by first | omega | (simp; done) | (simp; omega)) _ | refine b_call (by assumption) ?_)))); clear hb5; clear hi5 mm M1 d0 d1 d2 d3 d4 d5; obtain ⟨d0, d1, d2, d3, d4, d5⟩ := hL5.out)
        | (go_at_call 23; refine (HH.out _).mono ?_; rintro e w6 ⟨rfl, hb6⟩; have HI6 := hid (HI5.out.below hb6); have HX6 := hid (HX5.out.below hb6); have HB6 := hid (show Below w.heap.size w w6 from b_call hb6 (by have hq := HB5.out; (repeat (first | assumption | exact Below.refl _ _ | refine b_alloc ?_ _ | refine Below.drew ?_ | refine b_drewN ?_ _ | refine Below.setCell ?_ (by first | omega | (simp; done) | (simp; omega)) _ | refine b_call (by assumption) ?_)))); clear hb6; clear d0 d1 d2 d3 d4 d5)
        | (go_at_call 31; refine (HINT.out _ _ _ _ _ (HX6.out.below (by (repeat (first | assumption | exact Below.refl _ _ | refine b_alloc ?_ _ | refine Below.drew ?_ | refine b_drewN ?_ _ | refine Below.setCell ?_ (by first | omega | (simp; done) | (simp; omega)) _ | refine b_call (by assumption) ?_)))) (HI6.out.below (by (repeat (first | assumption | exact Below.refl _ _ | refine b_alloc ?_ _ | refine Below.drew ?_ | refine b_drewN ?_ _ | refine Below.setCell ?_ (by first | omega | (simp; done) | (simp; omega)) _ | refine b_call (by assumption) ?_))))).mono ?_; rintro e w7 ⟨rfl, hb7⟩; have HB7 := hid (show Below w.heap.size w w7 from b_call hb7 (by have hq := HB6.out; (repeat (first | assumption | exact Below.refl _ _ | refine b_alloc ?_ _ | refine Below.drew ?_ | refine b_drewN ?_ _ | refine Below.setCell ?_ (by first | omega | (simp; done) | (simp; omega)) _ | refine b_call (by assumption) ?_)))); clear hb7)
        | (go_at_call 22; refine (HA.out _).mono ?_; rintro e w8 ⟨rfl, hb8⟩; have HB8 := hid (show Below w.heap.size w w8 from b_call hb8 (by have hq := HB7.out; (repeat (first | assumption | exact Below.refl _ _ | refine b_alloc ?_ _ | refine Below.drew ?_ | refine b_drewN ?_ _ | refine Below.setCell ?_ (by first | omega | (simp; done) | (simp; omega)) _ | refine b_call (by assumption) ?_)))); clear hb8))
      all_goals (go_ret; exact ⟨by first | rfl | exact ret_bool (by simp [z2]), HB8.out⟩)
end Go.Proofs.Ytggkhddficmnfaa
