/-
  The reference's error of an oven, its first states.
-/
import Derived.Test.YtlocdkjnefmiaaaOvenMain
import Derived.Test.YtlocdkjnefmiaaaGRefCan
namespace Go.Proofs.Ytlocdkjnefmiaaa
open Go.RowKit
set_option linter.unusedVariables false
set_option linter.unusedSimpArgs false

def rovRes (lo hi wl wh cl ch er : Int) (b1 b2 b3 b4 b5 b6 b8 : Bool) : Int := if b1 = true ∧ b2 = true ∧ (b3 = true ∧ b4 = true) ∧ b5 = true ∧ b6 = true then (if lo ≤ hi ∧ wl ≤ wh ∧ cl ≤ ch then (if er = 0 then (if b8 = true then 0 else 7) else er) else 2) else 7
set_option maxRecDepth 100000 in
set_option maxHeartbeats 4000000 in
theorem refOven_walk (lo hi wl wh cl ch sl sh m er : Int) (b1 b2 b3 b4 b5 b6 b8 : Bool)
    (H1 : ∀ W, Calls Try.prog 47 #[.int .i64 lo] W fun e w' => e = .returned (.bool b1) ∧ W = w') (H2 : ∀ W, Calls Try.prog 47 #[.int .i64 hi] W fun e w' => e = .returned (.bool b2) ∧ W = w')
    (H3 : ∀ W, Calls Try.prog 56 #[.int .i64 wl, .int .i64 0, .int .i64 100] W fun e w' => e = .returned (.bool b3) ∧ W = w') (H4 : ∀ W, Calls Try.prog 56 #[.int .i64 wh, .int .i64 0, .int .i64 100] W fun e w' => e = .returned (.bool b4) ∧ W = w')
    (H5 : ∀ W, Calls Try.prog 56 #[.int .i64 cl, .int .i64 0, .int .i64 100] W fun e w' => e = .returned (.bool b5) ∧ W = w') (H6 : ∀ W, Calls Try.prog 56 #[.int .i64 ch, .int .i64 0, .int .i64 100] W fun e w' => e = .returned (.bool b6) ∧ W = w')
    (H7 : ∀ W, Calls Try.prog 76 #[spanV (sl, sh)] W (Ret W (.int .i64 er))) (H8 : ∀ W, Calls Try.prog 56 #[.int .i64 m, .int .i64 0, .int .i64 200] W fun e w' => e = .returned (.bool b8) ∧ W = w') (w : World) :
    Calls Try.prog 81 #[.agg #[.int .i64 lo, .int .i64 hi, .int .i64 wl, .int .i64 wh, .int .i64 cl, .int .i64 ch], .agg #[.int .i64 sl, .int .i64 sh], .int .i64 m] w
      (Ret w (.int .i64 (rovRes lo hi wl wh cl ch er b1 b2 b3 b4 b5 b6 b8))) := by
  have HH1 := hid H1
  have HH2 := hid H2
  have HH3 := hid H3
  have HH4 := hid H4
  have HH5 := hid H5
  have HH6 := hid H6
  have HH7 := hid H7
  have HH8 := hid H8
  have M0 := hid trivial
  clear H1 H2 H3 H4 H5 H6 H7 H8
  have fin : ∀ {W : World} {v v' : Int}, v = v' → Below w.heap.size w W → Ret w (.int .i64 v') (.returned (.int .i64 v)) W := fun h hb => ⟨by rw [h], hb⟩
  go_enter Try.func81, Try.ntmps81
  cases b1
  · (go_wp2_with (first
    | (have m := M0; go_at_call 47; refine (HH1.out _).mono ?_; rintro e w' ⟨rfl, rfl⟩; clear m M0; have M1 := hid trivial)
    | (have m := M1; go_at_call 47; refine (HH2.out _).mono ?_; rintro e w' ⟨rfl, rfl⟩; clear m M1; have M2 := hid trivial)
    | (have m := M2; go_at_call 56; refine (HH3.out _).mono ?_; rintro e w' ⟨rfl, rfl⟩; clear m M2; have M3 := hid trivial)
    | (have m := M3; go_at_call 56; refine (HH4.out _).mono ?_; rintro e w' ⟨rfl, rfl⟩; clear m M3; have M4 := hid trivial)
    | (have m := M4; go_at_call 56; refine (HH5.out _).mono ?_; rintro e w' ⟨rfl, rfl⟩; clear m M4; have M5 := hid trivial)
    | (have m := M5; go_at_call 56; refine (HH6.out _).mono ?_; rintro e w' ⟨rfl, rfl⟩; clear m M5; have M6 := hid trivial)
    | (have m := M6; go_at_call 76; refine (HH7.out _).mono ?_; rintro e w5 ⟨rfl, hb5⟩; have hB5 := hid (show Below w.heap.size w w5 by (repeat (first | assumption | exact Below.refl _ _ | refine b_alloc ?_ _ | refine Below.drew ?_ | refine b_drewN ?_ _ | refine Below.setCell ?_ (by first | omega | (simp; done) | (simp; omega)) _ | refine b_call (by assumption) ?_))); clear hb5; clear m M6; have M7 := hid trivial)
    | (have m := M7; go_at_call 56; refine (HH8.out _).mono ?_; rintro e w' ⟨rfl, rfl⟩; clear m M7)))
    go_ret; exact fin (by simp [rovRes]) (by (repeat (first | assumption | exact Below.refl _ _ | refine b_alloc ?_ _ | refine Below.drew ?_ | refine b_drewN ?_ _ | refine Below.setCell ?_ (by first | omega | (simp; done) | (simp; omega)) _ | refine b_call (by assumption) ?_)))
  cases b2
  · (go_wp2_with (first
    | (have m := M0; go_at_call 47; refine (HH1.out _).mono ?_; rintro e w' ⟨rfl, rfl⟩; clear m M0; have M1 := hid trivial)
    | (have m := M1; go_at_call 47; refine (HH2.out _).mono ?_; rintro e w' ⟨rfl, rfl⟩; clear m M1; have M2 := hid trivial)
    | (have m := M2; go_at_call 56; refine (HH3.out _).mono ?_; rintro e w' ⟨rfl, rfl⟩; clear m M2; have M3 := hid trivial)
    | (have m := M3; go_at_call 56; refine (HH4.out _).mono ?_; rintro e w' ⟨rfl, rfl⟩; clear m M3; have M4 := hid trivial)
    | (have m := M4; go_at_call 56; refine (HH5.out _).mono ?_; rintro e w' ⟨rfl, rfl⟩; clear m M4; have M5 := hid trivial)
    | (have m := M5; go_at_call 56; refine (HH6.out _).mono ?_; rintro e w' ⟨rfl, rfl⟩; clear m M5; have M6 := hid trivial)
    | (have m := M6; go_at_call 76; refine (HH7.out _).mono ?_; rintro e w5 ⟨rfl, hb5⟩; have hB5 := hid (show Below w.heap.size w w5 by (repeat (first | assumption | exact Below.refl _ _ | refine b_alloc ?_ _ | refine Below.drew ?_ | refine b_drewN ?_ _ | refine Below.setCell ?_ (by first | omega | (simp; done) | (simp; omega)) _ | refine b_call (by assumption) ?_))); clear hb5; clear m M6; have M7 := hid trivial)
    | (have m := M7; go_at_call 56; refine (HH8.out _).mono ?_; rintro e w' ⟨rfl, rfl⟩; clear m M7)))
    go_ret; exact fin (by simp [rovRes]) (by (repeat (first | assumption | exact Below.refl _ _ | refine b_alloc ?_ _ | refine Below.drew ?_ | refine b_drewN ?_ _ | refine Below.setCell ?_ (by first | omega | (simp; done) | (simp; omega)) _ | refine b_call (by assumption) ?_)))
  cases b3
  · (go_wp2_with (first
    | (have m := M0; go_at_call 47; refine (HH1.out _).mono ?_; rintro e w' ⟨rfl, rfl⟩; clear m M0; have M1 := hid trivial)
    | (have m := M1; go_at_call 47; refine (HH2.out _).mono ?_; rintro e w' ⟨rfl, rfl⟩; clear m M1; have M2 := hid trivial)
    | (have m := M2; go_at_call 56; refine (HH3.out _).mono ?_; rintro e w' ⟨rfl, rfl⟩; clear m M2; have M3 := hid trivial)
    | (have m := M3; go_at_call 56; refine (HH4.out _).mono ?_; rintro e w' ⟨rfl, rfl⟩; clear m M3; have M4 := hid trivial)
    | (have m := M4; go_at_call 56; refine (HH5.out _).mono ?_; rintro e w' ⟨rfl, rfl⟩; clear m M4; have M5 := hid trivial)
    | (have m := M5; go_at_call 56; refine (HH6.out _).mono ?_; rintro e w' ⟨rfl, rfl⟩; clear m M5; have M6 := hid trivial)
    | (have m := M6; go_at_call 76; refine (HH7.out _).mono ?_; rintro e w5 ⟨rfl, hb5⟩; have hB5 := hid (show Below w.heap.size w w5 by (repeat (first | assumption | exact Below.refl _ _ | refine b_alloc ?_ _ | refine Below.drew ?_ | refine b_drewN ?_ _ | refine Below.setCell ?_ (by first | omega | (simp; done) | (simp; omega)) _ | refine b_call (by assumption) ?_))); clear hb5; clear m M6; have M7 := hid trivial)
    | (have m := M7; go_at_call 56; refine (HH8.out _).mono ?_; rintro e w' ⟨rfl, rfl⟩; clear m M7)))
    go_ret; exact fin (by simp [rovRes]) (by (repeat (first | assumption | exact Below.refl _ _ | refine b_alloc ?_ _ | refine Below.drew ?_ | refine b_drewN ?_ _ | refine Below.setCell ?_ (by first | omega | (simp; done) | (simp; omega)) _ | refine b_call (by assumption) ?_)))
  cases b4
  · (go_wp2_with (first
    | (have m := M0; go_at_call 47; refine (HH1.out _).mono ?_; rintro e w' ⟨rfl, rfl⟩; clear m M0; have M1 := hid trivial)
    | (have m := M1; go_at_call 47; refine (HH2.out _).mono ?_; rintro e w' ⟨rfl, rfl⟩; clear m M1; have M2 := hid trivial)
    | (have m := M2; go_at_call 56; refine (HH3.out _).mono ?_; rintro e w' ⟨rfl, rfl⟩; clear m M2; have M3 := hid trivial)
    | (have m := M3; go_at_call 56; refine (HH4.out _).mono ?_; rintro e w' ⟨rfl, rfl⟩; clear m M3; have M4 := hid trivial)
    | (have m := M4; go_at_call 56; refine (HH5.out _).mono ?_; rintro e w' ⟨rfl, rfl⟩; clear m M4; have M5 := hid trivial)
    | (have m := M5; go_at_call 56; refine (HH6.out _).mono ?_; rintro e w' ⟨rfl, rfl⟩; clear m M5; have M6 := hid trivial)
    | (have m := M6; go_at_call 76; refine (HH7.out _).mono ?_; rintro e w5 ⟨rfl, hb5⟩; have hB5 := hid (show Below w.heap.size w w5 by (repeat (first | assumption | exact Below.refl _ _ | refine b_alloc ?_ _ | refine Below.drew ?_ | refine b_drewN ?_ _ | refine Below.setCell ?_ (by first | omega | (simp; done) | (simp; omega)) _ | refine b_call (by assumption) ?_))); clear hb5; clear m M6; have M7 := hid trivial)
    | (have m := M7; go_at_call 56; refine (HH8.out _).mono ?_; rintro e w' ⟨rfl, rfl⟩; clear m M7)))
    go_ret; exact fin (by simp [rovRes]) (by (repeat (first | assumption | exact Below.refl _ _ | refine b_alloc ?_ _ | refine Below.drew ?_ | refine b_drewN ?_ _ | refine Below.setCell ?_ (by first | omega | (simp; done) | (simp; omega)) _ | refine b_call (by assumption) ?_)))
  cases b5
  · (go_wp2_with (first
    | (have m := M0; go_at_call 47; refine (HH1.out _).mono ?_; rintro e w' ⟨rfl, rfl⟩; clear m M0; have M1 := hid trivial)
    | (have m := M1; go_at_call 47; refine (HH2.out _).mono ?_; rintro e w' ⟨rfl, rfl⟩; clear m M1; have M2 := hid trivial)
    | (have m := M2; go_at_call 56; refine (HH3.out _).mono ?_; rintro e w' ⟨rfl, rfl⟩; clear m M2; have M3 := hid trivial)
    | (have m := M3; go_at_call 56; refine (HH4.out _).mono ?_; rintro e w' ⟨rfl, rfl⟩; clear m M3; have M4 := hid trivial)
    | (have m := M4; go_at_call 56; refine (HH5.out _).mono ?_; rintro e w' ⟨rfl, rfl⟩; clear m M4; have M5 := hid trivial)
    | (have m := M5; go_at_call 56; refine (HH6.out _).mono ?_; rintro e w' ⟨rfl, rfl⟩; clear m M5; have M6 := hid trivial)
    | (have m := M6; go_at_call 76; refine (HH7.out _).mono ?_; rintro e w5 ⟨rfl, hb5⟩; have hB5 := hid (show Below w.heap.size w w5 by (repeat (first | assumption | exact Below.refl _ _ | refine b_alloc ?_ _ | refine Below.drew ?_ | refine b_drewN ?_ _ | refine Below.setCell ?_ (by first | omega | (simp; done) | (simp; omega)) _ | refine b_call (by assumption) ?_))); clear hb5; clear m M6; have M7 := hid trivial)
    | (have m := M7; go_at_call 56; refine (HH8.out _).mono ?_; rintro e w' ⟨rfl, rfl⟩; clear m M7)))
    go_ret; exact fin (by simp [rovRes]) (by (repeat (first | assumption | exact Below.refl _ _ | refine b_alloc ?_ _ | refine Below.drew ?_ | refine b_drewN ?_ _ | refine Below.setCell ?_ (by first | omega | (simp; done) | (simp; omega)) _ | refine b_call (by assumption) ?_)))
  cases b6
  · (go_wp2_with (first
    | (have m := M0; go_at_call 47; refine (HH1.out _).mono ?_; rintro e w' ⟨rfl, rfl⟩; clear m M0; have M1 := hid trivial)
    | (have m := M1; go_at_call 47; refine (HH2.out _).mono ?_; rintro e w' ⟨rfl, rfl⟩; clear m M1; have M2 := hid trivial)
    | (have m := M2; go_at_call 56; refine (HH3.out _).mono ?_; rintro e w' ⟨rfl, rfl⟩; clear m M2; have M3 := hid trivial)
    | (have m := M3; go_at_call 56; refine (HH4.out _).mono ?_; rintro e w' ⟨rfl, rfl⟩; clear m M3; have M4 := hid trivial)
    | (have m := M4; go_at_call 56; refine (HH5.out _).mono ?_; rintro e w' ⟨rfl, rfl⟩; clear m M4; have M5 := hid trivial)
    | (have m := M5; go_at_call 56; refine (HH6.out _).mono ?_; rintro e w' ⟨rfl, rfl⟩; clear m M5; have M6 := hid trivial)
    | (have m := M6; go_at_call 76; refine (HH7.out _).mono ?_; rintro e w5 ⟨rfl, hb5⟩; have hB5 := hid (show Below w.heap.size w w5 by (repeat (first | assumption | exact Below.refl _ _ | refine b_alloc ?_ _ | refine Below.drew ?_ | refine b_drewN ?_ _ | refine Below.setCell ?_ (by first | omega | (simp; done) | (simp; omega)) _ | refine b_call (by assumption) ?_))); clear hb5; clear m M6; have M7 := hid trivial)
    | (have m := M7; go_at_call 56; refine (HH8.out _).mono ?_; rintro e w' ⟨rfl, rfl⟩; clear m M7)))
    go_ret; exact fin (by simp [rovRes]) (by (repeat (first | assumption | exact Below.refl _ _ | refine b_alloc ?_ _ | refine Below.drew ?_ | refine b_drewN ?_ _ | refine Below.setCell ?_ (by first | omega | (simp; done) | (simp; omega)) _ | refine b_call (by assumption) ?_)))
  by_cases ha : lo ≤ hi
  · by_cases hb : wl ≤ wh
    · by_cases hc : cl ≤ ch
      · by_cases hd : er = 0
        · subst hd
          cases b8
          · (go_wp2_with (first
    | (have m := M0; go_at_call 47; refine (HH1.out _).mono ?_; rintro e w' ⟨rfl, rfl⟩; clear m M0; have M1 := hid trivial)
    | (have m := M1; go_at_call 47; refine (HH2.out _).mono ?_; rintro e w' ⟨rfl, rfl⟩; clear m M1; have M2 := hid trivial)
    | (have m := M2; go_at_call 56; refine (HH3.out _).mono ?_; rintro e w' ⟨rfl, rfl⟩; clear m M2; have M3 := hid trivial)
    | (have m := M3; go_at_call 56; refine (HH4.out _).mono ?_; rintro e w' ⟨rfl, rfl⟩; clear m M3; have M4 := hid trivial)
    | (have m := M4; go_at_call 56; refine (HH5.out _).mono ?_; rintro e w' ⟨rfl, rfl⟩; clear m M4; have M5 := hid trivial)
    | (have m := M5; go_at_call 56; refine (HH6.out _).mono ?_; rintro e w' ⟨rfl, rfl⟩; clear m M5; have M6 := hid trivial)
    | (have m := M6; go_at_call 76; refine (HH7.out _).mono ?_; rintro e w5 ⟨rfl, hb5⟩; have hB5 := hid (show Below w.heap.size w w5 by (repeat (first | assumption | exact Below.refl _ _ | refine b_alloc ?_ _ | refine Below.drew ?_ | refine b_drewN ?_ _ | refine Below.setCell ?_ (by first | omega | (simp; done) | (simp; omega)) _ | refine b_call (by assumption) ?_))); clear hb5; clear m M6; have M7 := hid trivial)
    | (have m := M7; go_at_call 56; refine (HH8.out _).mono ?_; rintro e w' ⟨rfl, rfl⟩; clear m M7)))
            go_ret; exact fin (by simp [rovRes, ha, hb, hc]) hB5.out
          · (go_wp2_with (first
    | (have m := M0; go_at_call 47; refine (HH1.out _).mono ?_; rintro e w' ⟨rfl, rfl⟩; clear m M0; have M1 := hid trivial)
    | (have m := M1; go_at_call 47; refine (HH2.out _).mono ?_; rintro e w' ⟨rfl, rfl⟩; clear m M1; have M2 := hid trivial)
    | (have m := M2; go_at_call 56; refine (HH3.out _).mono ?_; rintro e w' ⟨rfl, rfl⟩; clear m M2; have M3 := hid trivial)
    | (have m := M3; go_at_call 56; refine (HH4.out _).mono ?_; rintro e w' ⟨rfl, rfl⟩; clear m M3; have M4 := hid trivial)
    | (have m := M4; go_at_call 56; refine (HH5.out _).mono ?_; rintro e w' ⟨rfl, rfl⟩; clear m M4; have M5 := hid trivial)
    | (have m := M5; go_at_call 56; refine (HH6.out _).mono ?_; rintro e w' ⟨rfl, rfl⟩; clear m M5; have M6 := hid trivial)
    | (have m := M6; go_at_call 76; refine (HH7.out _).mono ?_; rintro e w5 ⟨rfl, hb5⟩; have hB5 := hid (show Below w.heap.size w w5 by (repeat (first | assumption | exact Below.refl _ _ | refine b_alloc ?_ _ | refine Below.drew ?_ | refine b_drewN ?_ _ | refine Below.setCell ?_ (by first | omega | (simp; done) | (simp; omega)) _ | refine b_call (by assumption) ?_))); clear hb5; clear m M6; have M7 := hid trivial)
    | (have m := M7; go_at_call 56; refine (HH8.out _).mono ?_; rintro e w' ⟨rfl, rfl⟩; clear m M7)))
            go_ret; exact fin (by simp [rovRes, ha, hb, hc]) hB5.out
        · have h0 : (er == 0) = false := by simpa using hd
          (go_wp2_with (first
    | (have m := M0; go_at_call 47; refine (HH1.out _).mono ?_; rintro e w' ⟨rfl, rfl⟩; clear m M0; have M1 := hid trivial)
    | (have m := M1; go_at_call 47; refine (HH2.out _).mono ?_; rintro e w' ⟨rfl, rfl⟩; clear m M1; have M2 := hid trivial)
    | (have m := M2; go_at_call 56; refine (HH3.out _).mono ?_; rintro e w' ⟨rfl, rfl⟩; clear m M2; have M3 := hid trivial)
    | (have m := M3; go_at_call 56; refine (HH4.out _).mono ?_; rintro e w' ⟨rfl, rfl⟩; clear m M3; have M4 := hid trivial)
    | (have m := M4; go_at_call 56; refine (HH5.out _).mono ?_; rintro e w' ⟨rfl, rfl⟩; clear m M4; have M5 := hid trivial)
    | (have m := M5; go_at_call 56; refine (HH6.out _).mono ?_; rintro e w' ⟨rfl, rfl⟩; clear m M5; have M6 := hid trivial)
    | (have m := M6; go_at_call 76; refine (HH7.out _).mono ?_; rintro e w5 ⟨rfl, hb5⟩; have hB5 := hid (show Below w.heap.size w w5 by (repeat (first | assumption | exact Below.refl _ _ | refine b_alloc ?_ _ | refine Below.drew ?_ | refine b_drewN ?_ _ | refine Below.setCell ?_ (by first | omega | (simp; done) | (simp; omega)) _ | refine b_call (by assumption) ?_))); clear hb5; clear m M6; have M7 := hid trivial)
    | (have m := M7; go_at_call 56; refine (HH8.out _).mono ?_; rintro e w' ⟨rfl, rfl⟩; clear m M7)))
          go_ret; exact fin (by simp [rovRes, ha, hb, hc, hd]) hB5.out
      · (go_wp2_with (first
    | (have m := M0; go_at_call 47; refine (HH1.out _).mono ?_; rintro e w' ⟨rfl, rfl⟩; clear m M0; have M1 := hid trivial)
    | (have m := M1; go_at_call 47; refine (HH2.out _).mono ?_; rintro e w' ⟨rfl, rfl⟩; clear m M1; have M2 := hid trivial)
    | (have m := M2; go_at_call 56; refine (HH3.out _).mono ?_; rintro e w' ⟨rfl, rfl⟩; clear m M2; have M3 := hid trivial)
    | (have m := M3; go_at_call 56; refine (HH4.out _).mono ?_; rintro e w' ⟨rfl, rfl⟩; clear m M3; have M4 := hid trivial)
    | (have m := M4; go_at_call 56; refine (HH5.out _).mono ?_; rintro e w' ⟨rfl, rfl⟩; clear m M4; have M5 := hid trivial)
    | (have m := M5; go_at_call 56; refine (HH6.out _).mono ?_; rintro e w' ⟨rfl, rfl⟩; clear m M5; have M6 := hid trivial)
    | (have m := M6; go_at_call 76; refine (HH7.out _).mono ?_; rintro e w5 ⟨rfl, hb5⟩; have hB5 := hid (show Below w.heap.size w w5 by (repeat (first | assumption | exact Below.refl _ _ | refine b_alloc ?_ _ | refine Below.drew ?_ | refine b_drewN ?_ _ | refine Below.setCell ?_ (by first | omega | (simp; done) | (simp; omega)) _ | refine b_call (by assumption) ?_))); clear hb5; clear m M6; have M7 := hid trivial)
    | (have m := M7; go_at_call 56; refine (HH8.out _).mono ?_; rintro e w' ⟨rfl, rfl⟩; clear m M7)))
        go_ret; exact fin (by rw [rovRes, if_pos (by simp), if_neg (by omega)]) (by (repeat (first | assumption | exact Below.refl _ _ | refine b_alloc ?_ _ | refine Below.drew ?_ | refine b_drewN ?_ _ | refine Below.setCell ?_ (by first | omega | (simp; done) | (simp; omega)) _ | refine b_call (by assumption) ?_)))
    · (go_wp2_with (first
    | (have m := M0; go_at_call 47; refine (HH1.out _).mono ?_; rintro e w' ⟨rfl, rfl⟩; clear m M0; have M1 := hid trivial)
    | (have m := M1; go_at_call 47; refine (HH2.out _).mono ?_; rintro e w' ⟨rfl, rfl⟩; clear m M1; have M2 := hid trivial)
    | (have m := M2; go_at_call 56; refine (HH3.out _).mono ?_; rintro e w' ⟨rfl, rfl⟩; clear m M2; have M3 := hid trivial)
    | (have m := M3; go_at_call 56; refine (HH4.out _).mono ?_; rintro e w' ⟨rfl, rfl⟩; clear m M3; have M4 := hid trivial)
    | (have m := M4; go_at_call 56; refine (HH5.out _).mono ?_; rintro e w' ⟨rfl, rfl⟩; clear m M4; have M5 := hid trivial)
    | (have m := M5; go_at_call 56; refine (HH6.out _).mono ?_; rintro e w' ⟨rfl, rfl⟩; clear m M5; have M6 := hid trivial)
    | (have m := M6; go_at_call 76; refine (HH7.out _).mono ?_; rintro e w5 ⟨rfl, hb5⟩; have hB5 := hid (show Below w.heap.size w w5 by (repeat (first | assumption | exact Below.refl _ _ | refine b_alloc ?_ _ | refine Below.drew ?_ | refine b_drewN ?_ _ | refine Below.setCell ?_ (by first | omega | (simp; done) | (simp; omega)) _ | refine b_call (by assumption) ?_))); clear hb5; clear m M6; have M7 := hid trivial)
    | (have m := M7; go_at_call 56; refine (HH8.out _).mono ?_; rintro e w' ⟨rfl, rfl⟩; clear m M7)))
      go_ret; exact fin (by rw [rovRes, if_pos (by simp), if_neg (by omega)]) (by (repeat (first | assumption | exact Below.refl _ _ | refine b_alloc ?_ _ | refine Below.drew ?_ | refine b_drewN ?_ _ | refine Below.setCell ?_ (by first | omega | (simp; done) | (simp; omega)) _ | refine b_call (by assumption) ?_)))
  · (go_wp2_with (first
    | (have m := M0; go_at_call 47; refine (HH1.out _).mono ?_; rintro e w' ⟨rfl, rfl⟩; clear m M0; have M1 := hid trivial)
    | (have m := M1; go_at_call 47; refine (HH2.out _).mono ?_; rintro e w' ⟨rfl, rfl⟩; clear m M1; have M2 := hid trivial)
    | (have m := M2; go_at_call 56; refine (HH3.out _).mono ?_; rintro e w' ⟨rfl, rfl⟩; clear m M2; have M3 := hid trivial)
    | (have m := M3; go_at_call 56; refine (HH4.out _).mono ?_; rintro e w' ⟨rfl, rfl⟩; clear m M3; have M4 := hid trivial)
    | (have m := M4; go_at_call 56; refine (HH5.out _).mono ?_; rintro e w' ⟨rfl, rfl⟩; clear m M4; have M5 := hid trivial)
    | (have m := M5; go_at_call 56; refine (HH6.out _).mono ?_; rintro e w' ⟨rfl, rfl⟩; clear m M5; have M6 := hid trivial)
    | (have m := M6; go_at_call 76; refine (HH7.out _).mono ?_; rintro e w5 ⟨rfl, hb5⟩; have hB5 := hid (show Below w.heap.size w w5 by (repeat (first | assumption | exact Below.refl _ _ | refine b_alloc ?_ _ | refine Below.drew ?_ | refine b_drewN ?_ _ | refine Below.setCell ?_ (by first | omega | (simp; done) | (simp; omega)) _ | refine b_call (by assumption) ?_))); clear hb5; clear m M6; have M7 := hid trivial)
    | (have m := M7; go_at_call 56; refine (HH8.out _).mono ?_; rintro e w' ⟨rfl, rfl⟩; clear m M7)))
    go_ret; exact fin (by rw [rovRes, if_pos (by simp), if_neg (by omega)]) (by (repeat (first | assumption | exact Below.refl _ _ | refine b_alloc ?_ _ | refine Below.drew ?_ | refine b_drewN ?_ _ | refine Below.setCell ?_ (by first | omega | (simp; done) | (simp; omega)) _ | refine b_call (by assumption) ?_)))

theorem refOven_any (o : Ov) (s : Int × Int) (m : Int) (w : World) : Calls Try.prog 81 #[o.val, spanV s, .int .i64 m] w (Ret w (.int .i64 (ovErr o s m))) := by
  have h := refOven_walk o.lo o.hi o.warm.1 o.warm.2 o.cool.1 o.cool.2 s.1 s.2 m (spanErr s) (decide (Temp o.lo)) (decide (Temp o.hi)) (decide (0 ≤ o.warm.1 ∧ o.warm.1 ≤ 100)) (decide (0 ≤ o.warm.2 ∧ o.warm.2 ≤ 100)) (decide (0 ≤ o.cool.1 ∧ o.cool.1 ≤ 100)) (decide (0 ≤ o.cool.2 ∧ o.cool.2 ≤ 100)) (decide (0 ≤ m ∧ m ≤ 200)) (fun W => Temp_any o.lo W) (fun W => Temp_any o.hi W) (fun W => in_any _ _ _ W) (fun W => in_any _ _ _ W) (fun W => in_any _ _ _ W) (fun W => in_any _ _ _ W) (fun W => refSpan_any s W) (fun W => in_any m 0 200 W) w
  have e : rovRes o.lo o.hi o.warm.1 o.warm.2 o.cool.1 o.cool.2 (spanErr s) (decide (Temp o.lo)) (decide (Temp o.hi)) (decide (0 ≤ o.warm.1 ∧ o.warm.1 ≤ 100)) (decide (0 ≤ o.warm.2 ∧ o.warm.2 ≤ 100)) (decide (0 ≤ o.cool.1 ∧ o.cool.1 ≤ 100)) (decide (0 ≤ o.cool.2 ∧ o.cool.2 ≤ 100)) (decide (0 ≤ m ∧ m ≤ 200)) = ovErr o s m := by
    simp only [rovRes, ovErr, decide_eq_true_eq]
  rw [e] at h
  exact h
end Go.Proofs.Ytlocdkjnefmiaaa
