/-
  The law LineKnown, walked: given that Awake answers true.
-/
import Derived.Deep.RegionWith
import Derived.Deep.RegionHeld3
import Derived.Test.YtggkhddficmnfaaKnownCalls
import Derived.Test.YtggkhddficmnfaaLits
namespace Go.Proofs.Ytggkhddficmnfaa
open Go.RowKit
set_option linter.unusedVariables false
set_option linter.unusedSimpArgs false

set_option maxRecDepth 100000 in
set_option maxHeartbeats 8000000 in
theorem known_walk (hA : ∀ W, Calls Try.prog 22 #[] W (Ret W (.bool true))) (w : World) :
    Calls Try.prog 10 #[] w fun e w' => e = .returned (.bool true) ∧ Below w.heap.size w w' := by
  have HA := hid hA
  have ST0 := hid (st_and (st_below w) (st_ints (some ⟨w.heap.size, 0, none⟩) [1, 128, 0, 255]))
  have HF0 := hid (show (fun W => Below w.heap.size w W ∧ IntsAt W (some ⟨w.heap.size, 0, none⟩) [1, 128, 0, 255]) _ from ⟨b_alloc (Below.refl w.heap.size w) (.cells #[.int .i64 1, .int .i64 128, .int .i64 0, .int .i64 255] 3), ints4' w 1 128 0 255 _ rfl⟩)
  clear hA
  have M0 := hid trivial
  go_enter Try.func10, Try.ntmps10
  go_wp2_with (first
    | (have mm := M0; go_at_call 44; refine (Line_any _).mono ?_; rintro e w1 ⟨rfl, hb⟩; have HF1 := hid (ST0.out _ _ HF0.out hb); clear hb mm M0 HF0; have M1 := hid trivial)
    | (have mm := M1; go_at_call 23; refine (kShift _).mono ?_; rintro e w2 ⟨rfl, hb⟩; have HF2 := hid (ST0.out _ _ HF1.out hb); clear hb mm M1 HF1; have M2 := hid trivial)
    | (have mm := M2; go_at_call 44; refine (Line_any _).mono ?_; rintro e w3 ⟨rfl, hb⟩; have HF3 := hid (ST0.out _ _ HF2.out hb); clear hb mm M2 HF2; have M3 := hid trivial)
    | (have mm := M3; go_at_call 23; refine (kLost _).mono ?_; rintro e w4 ⟨rfl, hb⟩; have HF4 := hid (ST0.out _ _ HF3.out hb); clear hb mm M3 HF3; have M4 := hid trivial)
    | (have mm := M4; go_at_call 44; refine (Line_any _).mono ?_; rintro e w5 ⟨rfl, hb⟩; have HF5 := hid (ST0.out _ _ HF4.out hb); clear hb mm M4 HF4; have M5 := hid trivial)
    | (have mm := M5; go_at_call 27; refine (kSafe _).mono ?_; rintro e w6 ⟨rfl, hb⟩; have HF6 := hid (And.intro (ST0.out _ _ HF5.out (b_alloc hb (.cells #[.int .i64 (-3), .int .i64 3] 31))) (And.intro (Cel.new w6 #[.int .i64 (-3), .int .i64 3] 31 0 _ rfl) (Cel.new w6 #[.int .i64 (-3), .int .i64 3] 31 1 _ rfl))); have ST6 := hid (st_and ST0.out (st_and (st_cel w6.heap.size 0 (.int .i64 (-3))) (st_cel w6.heap.size 1 (.int .i64 3)))); clear hb mm M5 HF5; have M6 := hid trivial)
    | (have mm := M6; go_at_call 44; refine (Line_any _).mono ?_; rintro e w7 ⟨rfl, hb⟩; have HF7 := hid (ST6.out _ _ HF6.out hb); clear hb mm M6 HF6; have M7 := hid trivial)
    | (have mm := M7; go_at_call 29; (refine (kPass1 _ _ _ _ _ (HF7.out.1.2.below (by (repeat (first | assumption | exact Below.refl _ _ | refine b_alloc ?_ _ | refine Below.drew ?_ | refine b_drewN ?_ _ | refine Below.setCell ?_ (by first | omega | (simp; done) | (simp; omega)) _ | refine b_call (by assumption) ?_)))) (ints2' _ 8 (-8) _ (by simp))).mono ?_; rintro e w8 ⟨a8, c8, rfl, hi, hb⟩; have HF8 := hid (And.intro (ST6.out _ _ HF7.out (b_call hb (by (repeat (first | assumption | exact Below.refl _ _ | refine b_alloc ?_ _ | refine Below.drew ?_ | refine b_drewN ?_ _ | refine Below.setCell ?_ (by first | omega | (simp; done) | (simp; omega)) _ | refine b_call (by assumption) ?_))))) hi); have ST8 := hid (st_and ST6.out (st_ints a8 [1, 128, 0, 255])); clear hb hi mm M7 HF7; have M8 := hid trivial))
    | (have mm := M8; go_at_call 44; refine (Line_any _).mono ?_; rintro e w9 ⟨rfl, hb⟩; have HF9 := hid (ST8.out _ _ HF8.out hb); clear hb mm M8 HF8; have M9 := hid trivial)
    | (have mm := M9; go_at_call 29; refine (kPass2 _ _ _ _ _ (HF9.out.1.1.2.below (by (repeat (first | assumption | exact Below.refl _ _ | refine b_alloc ?_ _ | refine Below.drew ?_ | refine b_drewN ?_ _ | refine Below.setCell ?_ (by first | omega | (simp; done) | (simp; omega)) _ | refine b_call (by assumption) ?_)))) (ints3' _ 2 5 8 _ (by simp))).mono ?_; rintro e w10 ⟨a10, c10, rfl, hi, hb⟩; have HF10 := hid (And.intro (ST8.out _ _ HF9.out (b_call hb (by (repeat (first | assumption | exact Below.refl _ _ | refine b_alloc ?_ _ | refine Below.drew ?_ | refine b_drewN ?_ _ | refine Below.setCell ?_ (by first | omega | (simp; done) | (simp; omega)) _ | refine b_call (by assumption) ?_))))) hi); have ST10 := hid (st_and ST8.out (st_ints a10 [0, 0, 0, 0])); clear hb hi mm M9 HF9; have M10 := hid trivial)
    | (have mm := M10; go_at_call 44; refine (Line_any _).mono ?_; rintro e w11 ⟨rfl, hb⟩; have HF11 := hid (ST10.out _ _ HF10.out hb); clear hb mm M10 HF10; have M11 := hid trivial)
    | (have mm := M11; go_at_call 45; refine (span_any _ _ _).mono ?_; rintro e w12 ⟨rfl, hb⟩; have HF12 := hid (ST10.out _ _ HF11.out hb); clear hb mm M11 HF11; have M12 := hid trivial)
    | (have mm := M12; go_at_call 45; refine (span_any _ _ _).mono ?_; rintro e w13 ⟨rfl, hb⟩; have HF13 := hid (ST10.out _ _ HF12.out hb); clear hb mm M12 HF12; have M13 := hid trivial)
    | (have mm := M13; go_at_call 32; refine (kCan _ _ _ (spans2' _ 0 3 7 8 _ (by simp))).mono ?_; rintro e w14 ⟨a14, c14, rfl, hi, hb⟩; have HF14 := hid (And.intro (ST10.out _ _ HF13.out (b_alloc (b_call hb (by (repeat (first | assumption | exact Below.refl _ _ | refine b_alloc ?_ _ | refine Below.drew ?_ | refine b_drewN ?_ _ | refine Below.setCell ?_ (by first | omega | (simp; done) | (simp; omega)) _ | refine b_call (by assumption) ?_)))) (.cells #[.slice a14 1 c14, .bool false] 42))) (And.intro (hi.alloc (.cells #[.slice a14 1 c14, .bool false] 42)) (And.intro (Cel.new w14 #[.slice a14 1 c14, .bool false] 42 0 _ rfl) (Cel.new w14 #[.slice a14 1 c14, .bool false] 42 1 _ rfl)))); have ST14 := hid (st_and ST10.out (st_and (st_ints a14 [1]) (st_and (st_cel w14.heap.size 0 (.slice a14 1 c14)) (st_cel w14.heap.size 1 (.bool false))))); clear hb hi mm M13 HF13; have M14 := hid trivial; have s0 := HF14.out.1.1.1.2.1.1; have s1 := HF14.out.1.1.1.2.2.1))
  obtain ⟨g0, g0'⟩ := HF14.out.1.1.1.2.1
  obtain ⟨g1, g1'⟩ := HF14.out.1.1.1.2.2
  obtain ⟨g2, g2'⟩ := HF14.out.2.2.1
  obtain ⟨g3, g3'⟩ := HF14.out.2.2.2
  clear g0' g1' g2' g3' s0 s1
  have hmk : ∀ u : World, (Instr.makeSlice 35 (.int .i64 4) (.int .i64 4)).run Try.prog u = .ok (.slice (some ⟨u.heap.size, 0, none⟩) 4 4) (u.alloc (.cells #[.int .i64 0, .int .i64 0, .int .i64 0, .int .i64 0] 3)) := fun _ => by kernel_rfl
  simp only [List.append]
  go_region_held3 (fun w' => w'.cell? ⟨w6.heap.size, 0, none⟩ = some (.int .i64 (-3)) ∧ w'.cell? ⟨w6.heap.size, 1, none⟩ = some (.int .i64 3) ∧ w'.cell? ⟨w14.heap.size, 0, none⟩ = some (.slice a14 1 c14) ∧ w'.cell? ⟨w14.heap.size, 1, none⟩ = some (.bool false))
    (first | go_keep | (go_split_ands; refine ⟨?_, ?_, ?_, ?_⟩ <;> exact cell_later (by assumption) (by assumption)))
    (first
    | (have mm := M14; go_at_call 45; refine (span_any _ _ _).mono ?_; rintro e w15 ⟨rfl, hb⟩; have HF15 := hid (ST14.out _ _ HF14.out (b_call hb (by (repeat (first | assumption | exact Below.refl _ _ | refine b_alloc ?_ _ | refine Below.drew ?_ | refine b_drewN ?_ _ | refine Below.setCell ?_ (by first | omega | (simp; done) | (simp; omega)) _ | refine b_call (by assumption) ?_))))); clear mm M14 HF14; have M15 := hid trivial)
    | (have mm := M15; go_at_call 31; refine (Ints_any _ _ _ _ [1, 128, 0, 255] [1, 128, 0, 255] (by decide) (by decide) _ (HF15.out.1.1.2) (HF15.out.1.1.1.1.2)).mono ?_; rintro e w16 ⟨rfl, hb⟩; have HF16 := hid (ST14.out _ _ HF15.out hb); clear mm M15 HF15; have M16 := hid trivial)
    | (have mm := M16; go_at_call 31; refine (Ints_any _ _ _ _ [0, 0, 0, 0] [0, 0, 0, 0] (by decide) (by decide) _ (HF16.out.1.2.below (by (repeat (first | assumption | exact Below.refl _ _ | refine b_alloc ?_ _ | refine Below.drew ?_ | refine b_drewN ?_ _ | refine Below.setCell ?_ (by first | omega | (simp; done) | (simp; omega)) _ | refine b_call (by assumption) ?_)))) (ints4' _ 0 0 0 0 _ (by simp))).mono ?_; rintro e w17 ⟨rfl, hb⟩; have HF17 := hid (ST14.out _ _ HF16.out (b_call hb (by (repeat (first | assumption | exact Below.refl _ _ | refine b_alloc ?_ _ | refine Below.drew ?_ | refine b_drewN ?_ _ | refine Below.setCell ?_ (by first | omega | (simp; done) | (simp; omega)) _ | refine b_call (by assumption) ?_))))); clear mm M16 HF16; have M17 := hid trivial)
    | (have mm := M17; go_at_call 31; refine (Ints_any _ _ _ _ [1] [1] (by decide) (by decide) _ (HF17.out.2.1.below (by (repeat (first | assumption | exact Below.refl _ _ | refine b_alloc ?_ _ | refine Below.drew ?_ | refine b_drewN ?_ _ | refine Below.setCell ?_ (by first | omega | (simp; done) | (simp; omega)) _ | refine b_call (by assumption) ?_)))) (ints1' _ 1 _ (by simp))).mono ?_; rintro e w18 ⟨rfl, hb⟩; have HF18 := hid (ST14.out _ _ HF17.out (b_call hb (by (repeat (first | assumption | exact Below.refl _ _ | refine b_alloc ?_ _ | refine Below.drew ?_ | refine b_drewN ?_ _ | refine Below.setCell ?_ (by first | omega | (simp; done) | (simp; omega)) _ | refine b_call (by assumption) ?_))))); clear mm M17 HF17; have M18 := hid trivial))
  have HB18 := hid HF18.out.1.1.1.1.1
  clear HF18 ST14 ST10 ST8 ST6 ST0 hmk
  go_wp2_with (first
    | (have mm := M18; go_at_call 44; refine (Line_any _).mono ?_; rintro e w19 ⟨rfl, hb⟩; have HB19 := hid (show Below w.heap.size w w19 from b_call hb HB18.out); clear hb mm M18 HB18; have M19 := hid trivial)
    | (have mm := M19; go_at_call 34; refine (kNext _).mono ?_; rintro e w20 ⟨rfl, hb⟩; have HB20 := hid (show Below w.heap.size w w20 from b_call hb HB19.out); clear hb mm M19 HB19; have M20 := hid trivial)
    | (have mm := M20; go_at_call 46; refine (lawOven_any _).mono ?_; rintro e w21 ⟨rfl, hb⟩; have HB21 := hid (show Below w.heap.size w w21 from b_call hb HB20.out); clear hb mm M20 HB20; have M21 := hid trivial)
    | (have mm := M21; go_at_call 45; refine (span_any _ _ _).mono ?_; rintro e w22 ⟨rfl, hb⟩; have HB22 := hid (show Below w.heap.size w w22 from b_call hb HB21.out); clear hb mm M21 HB21; have M22 := hid trivial)
    | (have mm := M22; go_at_call 36; refine (kOven _).mono ?_; rintro e w23 ⟨rfl, hb⟩; have HF23 := hid (And.intro (b_alloc (show Below w.heap.size w w23 from b_call hb HB22.out) (.cells #[.int .i64 17, .int .i64 34] 31)) (And.intro (Cel.new w23 #[.int .i64 17, .int .i64 34] 31 0 _ rfl) (Cel.new w23 #[.int .i64 17, .int .i64 34] 31 1 _ rfl))); have ST23 := hid (st_and (st_below w) (st_and (st_cel w23.heap.size 0 (.int .i64 17)) (st_cel w23.heap.size 1 (.int .i64 34)))); clear hb mm M22 HB22; have M23 := hid trivial)
    | (have mm := M23; go_at_call 45; refine (span_any _ _ _).mono ?_; rintro e w24 ⟨rfl, hb⟩; have HF24 := hid (ST23.out _ _ HF23.out hb); clear hb mm M23 HF23; have M24 := hid trivial)
    | (have mm := M24; go_at_call 45; refine (span_any _ _ _).mono ?_; rintro e w25 ⟨rfl, hb⟩; have HS25 := hid (show w.heap.size ≤ w25.heap.size ∧ w23.heap.size < w25.heap.size from ⟨(ST23.out _ _ HF24.out hb).1.size, (ST23.out _ _ HF24.out hb).2.1.lt⟩); have HF25 := hid (ST23.out _ _ HF24.out (b_alloc hb (.cells #[.int .i64 (-2), .int .i64 0, .int .i64 1, .int .i64 1, .int .i64 1, .int .i64 1] 50))); clear hb mm M24 HF24; have M25 := hid trivial))
  have x := fun k v e => Cel.new w25 #[.int .i64 (-2), .int .i64 0, .int .i64 1, .int .i64 1, .int .i64 1, .int .i64 1] 50 k v e
  have stx := hid (st_and ST23.out (st_and (st_and (st_cel w25.heap.size 0 (.int .i64 (-2))) (st_cel w25.heap.size 1 (.int .i64 0))) (st_and (st_and (st_cel w25.heap.size 2 (.int .i64 1)) (st_cel w25.heap.size 3 (.int .i64 1))) (st_and (st_cel w25.heap.size 4 (.int .i64 1)) (st_cel w25.heap.size 5 (.int .i64 1))))))
  have HX25 := hid (And.intro HF25.out (And.intro (And.intro (x 0 _ rfl) (x 1 _ rfl)) (And.intro (And.intro (x 2 _ rfl) (x 3 _ rfl)) (And.intro (x 4 _ rfl) (x 5 _ rfl)))))
  have x0 := (x 0 _ rfl).1
  have x1 := (x 1 _ rfl).1
  have x2 := (x 2 _ rfl).1
  have x3 := (x 3 _ rfl).1
  have x4 := (x 4 _ rfl).1
  have x5 := (x 5 _ rfl).1
  clear x HF25
  go_region_held3 (fun w' => w'.cell? ⟨w25.heap.size, 0, none⟩ = some (.int .i64 (-2)) ∧ w'.cell? ⟨w25.heap.size, 1, none⟩ = some (.int .i64 0) ∧ w'.cell? ⟨w25.heap.size, 2, none⟩ = some (.int .i64 1) ∧ w'.cell? ⟨w25.heap.size, 3, none⟩ = some (.int .i64 1) ∧ w'.cell? ⟨w25.heap.size, 4, none⟩ = some (.int .i64 1) ∧ w'.cell? ⟨w25.heap.size, 5, none⟩ = some (.int .i64 1))
    (first | go_keep | (go_split_ands; refine ⟨?_, ?_, ?_, ?_, ?_, ?_⟩ <;> exact cell_later (by assumption) (by assumption)))
    (first
    | (have mm := M25; go_at_call 44; refine (Line_any _).mono ?_; rintro e w26 ⟨rfl, hb⟩; have HX26 := hid (stx.out _ _ HX25.out (b_call hb (by (repeat (first | assumption | exact Below.refl _ _ | refine b_alloc ?_ _ | refine Below.drew ?_ | refine b_drewN ?_ _ | refine Below.setCell ?_ (by first | omega | (simp; done) | (simp; omega)) _ | refine b_call (by assumption) ?_))))); clear mm M25 HX25; have M26 := hid trivial)
    | (have mm := M26; go_at_call 45; refine (span_any _ _ _).mono ?_; rintro e w27 ⟨rfl, hb⟩; have HX27 := hid (stx.out _ _ HX26.out (b_call hb (by (repeat (first | assumption | exact Below.refl _ _ | refine b_alloc ?_ _ | refine Below.drew ?_ | refine b_drewN ?_ _ | refine Below.setCell ?_ (by first | omega | (simp; done) | (simp; omega)) _ | refine b_call (by assumption) ?_))))); clear mm M26 HX26; have M27 := hid trivial)
    | (have mm := M27; go_at_call 38; refine (kKeeps1 _).mono ?_; rintro e w28 ⟨rfl, hb⟩; have HX28 := hid (stx.out _ _ HX27.out (b_call hb (by (repeat (first | assumption | exact Below.refl _ _ | refine b_alloc ?_ _ | refine Below.drew ?_ | refine b_drewN ?_ _ | refine Below.setCell ?_ (by first | omega | (simp; done) | (simp; omega)) _ | refine b_call (by assumption) ?_))))); clear mm M27 HX27; have M28 := hid trivial))
  go_wp2_with (have mm := M28; go_at_call 45; refine (span_any _ _ _).mono ?_; rintro e w29 ⟨rfl, hb⟩; have HX29 := hid (stx.out _ _ HX28.out hb); clear hb mm M28 HX28; have M29 := hid trivial; have y4 := HX29.out.2.2.2.1.1; have y4' := HX29.out.2.2.2.1.2; have y5 := HX29.out.2.2.2.2.1; have y5' := HX29.out.2.2.2.2.2)
  obtain ⟨q1, q2⟩ := HS25.out
  have z := HX29.out
  have v0 := cel_other (o' := 5) (u := .int .i64 2) (cel_other (o' := 4) (u := .int .i64 2) z.2.1.1 (by decide)) (by decide)
  have v1 := cel_other (o' := 5) (u := .int .i64 2) (cel_other (o' := 4) (u := .int .i64 2) z.2.1.2 (by decide)) (by decide)
  have v2 := cel_other (o' := 5) (u := .int .i64 2) (cel_other (o' := 4) (u := .int .i64 2) z.2.2.1.1 (by decide)) (by decide)
  have v3 := cel_other (o' := 5) (u := .int .i64 2) (cel_other (o' := 4) (u := .int .i64 2) z.2.2.1.2 (by decide)) (by decide)
  have v4 := cel_other (o' := 5) (u := .int .i64 2) (cel_same (.int .i64 2) z.2.2.2.1) (by decide)
  have v5 := cel_same (.int .i64 2) (cel_other (o' := 4) (u := .int .i64 2) z.2.2.2.2 (by decide))
  have u0 := (z.1.2.1.set (b' := w25.heap.size) (o' := 4) (u := .int .i64 2) (by omega)).set (b' := w25.heap.size) (o' := 5) (u := .int .i64 2) (by omega)
  have u1 := (z.1.2.2.set (b' := w25.heap.size) (o' := 4) (u := .int .i64 2) (by omega)).set (b' := w25.heap.size) (o' := 5) (u := .int .i64 2) (by omega)
  have ub := (z.1.1.setCell (p := ⟨w25.heap.size, 4, none⟩) q1 (.int .i64 2)).setCell (p := ⟨w25.heap.size, 5, none⟩) q1 (.int .i64 2)
  generalize World.setCell (World.setCell w29 ⟨w25.heap.size, 4, none⟩ (.int .i64 2)) ⟨w25.heap.size, 5, none⟩ (.int .i64 2) = V at *
  have HV := hid (And.intro ub (And.intro u0 u1))
  have k0 := v0.1
  have k1 := v1.1
  have k2 := v2.1
  have k3 := v3.1
  have k4 := v4.1
  have k5 := v5.1
  clear z v0 v1 v2 v3 v4 v5 u0 u1 ub q1 q2 y4 y4' y5 y5' HX29 x0 x1 x2 x3 x4 x5
  go_region_held3 (fun w' => w'.cell? ⟨w25.heap.size, 0, none⟩ = some (.int .i64 (-2)) ∧ w'.cell? ⟨w25.heap.size, 1, none⟩ = some (.int .i64 0) ∧ w'.cell? ⟨w25.heap.size, 2, none⟩ = some (.int .i64 1) ∧ w'.cell? ⟨w25.heap.size, 3, none⟩ = some (.int .i64 1) ∧ w'.cell? ⟨w25.heap.size, 4, none⟩ = some (.int .i64 2) ∧ w'.cell? ⟨w25.heap.size, 5, none⟩ = some (.int .i64 2))
    (first | go_keep | (go_split_ands; refine ⟨?_, ?_, ?_, ?_, ?_, ?_⟩ <;> exact cell_later (by assumption) (by assumption)))
    (first
    | (have mm := M29; go_at_call 44; refine (Line_any _).mono ?_; rintro e w30 ⟨rfl, hb⟩; have HV30 := hid (ST23.out _ _ HV.out (b_call hb (by (repeat (first | assumption | exact Below.refl _ _ | refine b_alloc ?_ _ | refine Below.drew ?_ | refine b_drewN ?_ _ | refine Below.setCell ?_ (by first | omega | (simp; done) | (simp; omega)) _ | refine b_call (by assumption) ?_))))); clear mm M29 HV; have M30 := hid trivial)
    | (have mm := M30; go_at_call 45; refine (span_any _ _ _).mono ?_; rintro e w31 ⟨rfl, hb⟩; have HV31 := hid (ST23.out _ _ HV30.out (b_call hb (by (repeat (first | assumption | exact Below.refl _ _ | refine b_alloc ?_ _ | refine Below.drew ?_ | refine b_drewN ?_ _ | refine Below.setCell ?_ (by first | omega | (simp; done) | (simp; omega)) _ | refine b_call (by assumption) ?_))))); clear mm M30 HV30; have M31 := hid trivial)
    | (have mm := M31; go_at_call 38; refine (kKeeps2 _).mono ?_; rintro e w32 ⟨rfl, hb⟩; have HV32 := hid (ST23.out _ _ HV31.out (b_call hb (by (repeat (first | assumption | exact Below.refl _ _ | refine b_alloc ?_ _ | refine Below.drew ?_ | refine b_drewN ?_ _ | refine Below.setCell ?_ (by first | omega | (simp; done) | (simp; omega)) _ | refine b_call (by assumption) ?_))))); clear mm M31 HV31; have M32 := hid trivial))
  go_wp2
  have k0 := HV32.out.2.1.1
  have k1 := HV32.out.2.2.1
  go_region_held3 (fun w' => w'.cell? ⟨w23.heap.size, 0, none⟩ = some (.int .i64 17) ∧ w'.cell? ⟨w23.heap.size, 1, none⟩ = some (.int .i64 34))
    (first | go_keep | (go_split_ands; refine ⟨?_, ?_⟩ <;> exact cell_later hb (by assumption)))
    (first
    | (have mm := M32; go_at_call 45; refine (span_any _ _ _).mono ?_; rintro e w33 ⟨rfl, hb⟩; have HB33 := hid (show Below w.heap.size w w33 from b_call hb (by have hq := HV32.out.1; (repeat (first | assumption | exact Below.refl _ _ | refine b_alloc ?_ _ | refine Below.drew ?_ | refine b_drewN ?_ _ | refine Below.setCell ?_ (by first | omega | (simp; done) | (simp; omega)) _ | refine b_call (by assumption) ?_)))); clear mm M32 HV32; have M33 := hid trivial)
    | (have mm := M33; go_at_call 22; refine (HA.out _).mono ?_; rintro e w34 ⟨rfl, hb⟩; have HB34 := hid (show Below w.heap.size w w34 from b_call hb (by have hq := HB33.out; (repeat (first | assumption | exact Below.refl _ _ | refine b_alloc ?_ _ | refine Below.drew ?_ | refine b_drewN ?_ _ | refine Below.setCell ?_ (by first | omega | (simp; done) | (simp; omega)) _ | refine b_call (by assumption) ?_)))); clear mm M33 HB33; have M34 := hid trivial))
  all_goals
    go_wp2
    go_ret
    exact ⟨rfl, HB34.out⟩
end Go.Proofs.Ytggkhddficmnfaa
