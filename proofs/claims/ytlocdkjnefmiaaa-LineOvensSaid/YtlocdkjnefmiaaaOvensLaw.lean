/-
  The law LineOvens, walked, for any line, oven, temperatures and minutes: given that Awake answers true.
-/
import Derived.Test.YtlocdkjnefmiaaaRefOvenMain
import Derived.Test.YtlocdkjnefmiaaaRefKeeps
import Derived.Test.YtlocdkjnefmiaaaOvenLaw
namespace Go.Proofs.Ytlocdkjnefmiaaa
open Go.RowKit
set_option linter.unusedVariables false
set_option linter.unusedSimpArgs false

set_option maxRecDepth 100000 in
set_option maxHeartbeats 4000000 in
theorem ovens_walk (hA : ∀ W, Calls Try.prog 22 #[] W (Ret W (.bool true))) (l : Ln) (o : Ov) (s : Int × Int) (hh : Bool) (m lo1 hi1 e1 kp f1 : Int)
    (hO1 : ∀ W, Calls Try.prog 36 #[o.val, spanV s, .bool hh, .int .i64 m] W (Ret W (.tuple #[.agg #[.int .i64 lo1, .int .i64 hi1], .int .i64 e1])))
    (hO2 : ∀ W, Calls Try.prog 37 #[o.val, spanV s, .bool hh, .int .i64 m] W (Ret W (.tuple #[.agg #[.int .i64 lo1, .int .i64 hi1], .int .i64 e1])))
    (hK1 : ∀ W, Calls Try.prog 38 #[l.val, o.val, spanV s, .bool hh, .int .i64 m] W (Ret W (.tuple #[.int .i64 kp, .int .i64 f1])))
    (hK2 : ∀ W, Calls Try.prog 39 #[l.val, o.val, spanV s, .bool hh, .int .i64 m] W (Ret W (.tuple #[.int .i64 kp, .int .i64 f1]))) (w : World) :
    Calls Try.prog 8 #[l.val, heatV o s hh m] w fun e w' => e = .returned (.bool true) ∧ Below w.heap.size w w' := by
  have HA := hid hA
  have HO1 := hid hO1
  have HO2 := hid hO2
  have HK1 := hid hK1
  have HK2 := hid hK2
  have hL0 := hid (lnAt_call (lnAt_new' l w) (b_alloc (Below.refl _ _) (heatO o s hh m)))
  have hx0 := HeatAt.new (w.alloc (.cells #[.int .i64 l.W, .int .i64 l.B, .int .i64 l.P, .int .i64 l.D, .int .i64 l.S, .int .i64 l.N] 25)) o s hh m
  simp only [World.size_alloc] at hx0
  have hX0 := hid hx0
  clear hA hO1 hO2 hK1 hK2 hx0
  go_enter Try.func8, Try.ntmps8
  go_wp2_with (first
    | (go_at_call 36; refine (HO1.out _).mono ?_; rintro e w1 ⟨rfl, hb1⟩; have HB1 := hid (show Below w.heap.size w w1 by (repeat (first | assumption | exact Below.refl _ _ | refine b_alloc ?_ _ | refine Below.drew ?_ | refine b_drewN ?_ _ | refine Below.setCell ?_ (by first | omega | (simp; done) | (simp; omega)) _ | refine b_call (by assumption) ?_))); have hb := b_alloc hb1 (spanO lo1 hi1); have hL1 := hid (lnAt_call hL0.out hb); have hX1 := hid (hX0.out.call hb); have HC0 := hid (Cel.new w1 #[.int .i64 lo1, .int .i64 hi1] 31 0 _ rfl); have HC1 := hid (Cel.new w1 #[.int .i64 lo1, .int .i64 hi1] 31 1 _ rfl); clear hb hb1; have p0 := hX1.out.c0.1; have p1 := hX1.out.c1.1; have p2 := hX1.out.c2.1; have p3 := hX1.out.c3.1; have p4 := hX1.out.c4.1; have p5 := hX1.out.c5.1; have p6 := hX1.out.c6.1; have p7 := hX1.out.c7.1; have p8 := hX1.out.c8.1; have p9 := hX1.out.c9.1)
    | (go_at_call 37; refine (HO2.out _).mono ?_; rintro e w2 ⟨rfl, hb2⟩; have hb := b_alloc hb2 (spanO lo1 hi1); have hL2 := hid (lnAt_call hL1.out hb); have hX2 := hid (hX1.out.call hb); have g0 := (HC0.out.call hb).1; have g1 := (HC1.out.call hb).1; have HB2 := hid (show Below w.heap.size w w2 from b_call hb2 (by have hq := HB1.out; (repeat (first | assumption | exact Below.refl _ _ | refine b_alloc ?_ _ | refine Below.drew ?_ | refine b_drewN ?_ _ | refine Below.setCell ?_ (by first | omega | (simp; done) | (simp; omega)) _ | refine b_call (by assumption) ?_)))); clear hb2; clear p0 p1 p2 p3 p4 p5 p6 p7 p8 p9; clear hb; obtain ⟨d0, d1, d2, d3, d4, d5⟩ := hL2.out; have p0 := hX2.out.c0.1; have p1 := hX2.out.c1.1; have p2 := hX2.out.c2.1; have p3 := hX2.out.c3.1; have p4 := hX2.out.c4.1; have p5 := hX2.out.c5.1; have p6 := hX2.out.c6.1; have p7 := hX2.out.c7.1; have p8 := hX2.out.c8.1; have p9 := hX2.out.c9.1)
    | (go_at_call 38; refine (HK1.out _).mono ?_; rintro e w3 ⟨rfl, hb3⟩; have hL3 := hid (lnAt_call hL2.out hb3); have hX3 := hid (hX2.out.call hb3); have HB3 := hid (show Below w.heap.size w w3 from b_call hb3 (by have hq := HB2.out; (repeat (first | assumption | exact Below.refl _ _ | refine b_alloc ?_ _ | refine Below.drew ?_ | refine b_drewN ?_ _ | refine Below.setCell ?_ (by first | omega | (simp; done) | (simp; omega)) _ | refine b_call (by assumption) ?_)))); clear hb3; clear d0 d1 d2 d3 d4 d5; clear p0 p1 p2 p3 p4 p5 p6 p7 p8 p9; clear g0 g1; obtain ⟨d0, d1, d2, d3, d4, d5⟩ := hL3.out; have p0 := hX3.out.c0.1; have p1 := hX3.out.c1.1; have p2 := hX3.out.c2.1; have p3 := hX3.out.c3.1; have p4 := hX3.out.c4.1; have p5 := hX3.out.c5.1; have p6 := hX3.out.c6.1; have p7 := hX3.out.c7.1; have p8 := hX3.out.c8.1; have p9 := hX3.out.c9.1)
    | (go_at_call 39; refine (HK2.out _).mono ?_; rintro e w4 ⟨rfl, hb4⟩; have HB4 := hid (show Below w.heap.size w w4 from b_call hb4 (by have hq := HB3.out; (repeat (first | assumption | exact Below.refl _ _ | refine b_alloc ?_ _ | refine Below.drew ?_ | refine b_drewN ?_ _ | refine Below.setCell ?_ (by first | omega | (simp; done) | (simp; omega)) _ | refine b_call (by assumption) ?_)))); clear hb4; clear d0 d1 d2 d3 d4 d5; clear p0 p1 p2 p3 p4 p5 p6 p7 p8 p9)
    | (go_at_call 22; refine (HA.out _).mono ?_; rintro e w8 ⟨rfl, hb8⟩; have HB8 := hid (show Below w.heap.size w w8 from b_call hb8 (by have hq := HB4.out; (repeat (first | assumption | exact Below.refl _ _ | refine b_alloc ?_ _ | refine Below.drew ?_ | refine b_drewN ?_ _ | refine Below.setCell ?_ (by first | omega | (simp; done) | (simp; omega)) _ | refine b_call (by assumption) ?_)))); clear hb8))
  all_goals (go_ret; exact ⟨by first | rfl | exact ret_bool (by simp), HB8.out⟩)
theorem ovens_row (hA : ∀ W, Calls Try.prog 22 #[] W (Ret W (.bool true))) (w : World) (l : Ln) (o : Ov) (s : Int × Int) (hh : Bool) (m : Int) :
    Calls Try.prog 8 #[l.val, heatV o s hh m] w fun e w' => e = .returned (.bool true) ∧ Below w.heap.size w w' :=
  ovens_walk hA l o s hh m _ _ _ _ _ (fun W => Oven_any o s hh m W) (fun W => refOvenM_any o s hh m W) (fun W => Keeps_any l o s hh m W) (fun W => refKeeps_any l o s hh m W) w
end Go.Proofs.Ytlocdkjnefmiaaa
