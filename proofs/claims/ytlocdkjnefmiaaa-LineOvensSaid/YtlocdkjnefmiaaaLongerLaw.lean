/-
  The law LineLonger, walked: given that Awake answers true.
-/
import Derived.Deep.RegionWith
import Derived.Deep.RegionHeld3
import Derived.Test.YtlocdkjnefmiaaaOpenHeated
import Derived.Test.YtlocdkjnefmiaaaGKeeps
import Derived.Test.YtlocdkjnefmiaaaAwake
import Derived.Test.YtlocdkjnefmiaaaGBack
import Derived.Test.YtlocdkjnefmiaaaStab
namespace Go.Proofs.Ytlocdkjnefmiaaa
open Go.RowKit
set_option linter.unusedVariables false
set_option linter.unusedSimpArgs false

abbrev arrO (b0 b1 b2 : Int) : Obj := .cells #[.int .u8 b0, .int .u8 b1, .int .u8 b2] 72
structure ArrAt (W : World) (b : Nat) (b0 b1 b2 : Int) : Prop where
  a0 : W.cell? ⟨b, 0, none⟩ = some (.int .u8 b0)
  a1 : W.cell? ⟨b, 1, none⟩ = some (.int .u8 b1)
  a2 : W.cell? ⟨b, 2, none⟩ = some (.int .u8 b2)
theorem ArrAt.new (W : World) (b0 b1 b2 : Int) : ArrAt (W.alloc (arrO b0 b1 b2)) W.heap.size b0 b1 b2 := ⟨(Cel.new _ _ _ 0 _ rfl).1, (Cel.new _ _ _ 1 _ rfl).1, (Cel.new _ _ _ 2 _ rfl).1⟩
theorem ArrAt.call {W W' : World} {b : Nat} {b0 b1 b2 : Int} (g : ArrAt W b b0 b1 b2) (hb : Below W.heap.size W W') : ArrAt W' b b0 b1 b2 := ⟨cell_later hb g.a0, cell_later hb g.a1, cell_later hb g.a2⟩
abbrev spanO (a b : Int) : Obj := .cells #[.int .i64 a, .int .i64 b] 31

/-- The span is another one. -/
theorem HeatAt.turn {W : World} {b : Nat} {o : Ov} {s : Int × Int} {h : Bool} {m : Int} (g : HeatAt W b o s h m) (x y : Int) : HeatAt ((W.setCell ⟨b, 6, none⟩ (.int .i64 x)).setCell ⟨b, 7, none⟩ (.int .i64 y)) b o (x, y) h m :=
  ⟨cel_other (cel_other g.c0 (by decide)) (by decide), cel_other (cel_other g.c1 (by decide)) (by decide), cel_other (cel_other g.c2 (by decide)) (by decide), cel_other (cel_other g.c3 (by decide)) (by decide), cel_other (cel_other g.c4 (by decide)) (by decide), cel_other (cel_other g.c5 (by decide)) (by decide),
   cel_other (cel_same _ g.c6) (by decide), cel_same _ (cel_other g.c7 (by decide)), cel_other (cel_other g.c8 (by decide)) (by decide), cel_other (cel_other g.c9 (by decide)) (by decide)⟩

set_option maxRecDepth 100000 in
set_option maxHeartbeats 8000000 in
theorem longer_walk (hA : ∀ W, Calls Try.prog 22 #[] W (Ret W (.bool true))) (l : Ln) (o : Ov) (s : Int × Int) (hh : Bool) (m : Int) (b0 b1 b2 : Int)
    (hs : -500 ≤ s.1 ∧ s.2 ≤ 1000) (hs2 : s.1 ≤ s.2) (hm : 0 ≤ m ∧ m ≤ 200) (hb0 : 0 ≤ b0 ∧ b0 ≤ 255) (hb1 : 0 ≤ b1 ∧ b1 ≤ 255) (hb2 : 0 ≤ b2 ∧ b2 ≤ 255)
    (lo1 hi1 k1 lo2 hi2 k2 : Int) (hlo : lo2 ≤ lo1) (hhi : hi1 ≤ hi2) (hk : k1 < 0 ∨ (0 ≤ k1 ∧ 0 ≤ k2 ∧ k2 ≤ k1))
    (hO1 : ∀ W, Calls Try.prog 36 #[o.val, spanV s, .bool hh, .int .i64 m] W (Ret W (.tuple #[.agg #[.int .i64 lo1, .int .i64 hi1], .int .i64 0])))
    (hK1 : ∀ W, Calls Try.prog 38 #[l.val, o.val, spanV s, .bool hh, .int .i64 m] W (Ret W (.tuple #[.int .i64 k1, .int .i64 0])))
    (hO2 : ∀ x y z W, x = max (-500) (s.1 - b1) → y = min 1000 (s.2 + b2) → z = min 200 (m + b0) → Calls Try.prog 36 #[o.val, spanV (x, y), .bool hh, .int .i64 z] W (Ret W (.tuple #[.agg #[.int .i64 lo2, .int .i64 hi2], .int .i64 0])))
    (hK2 : ∀ x y z W, x = max (-500) (s.1 - b1) → y = min 1000 (s.2 + b2) → z = min 200 (m + b0) → Calls Try.prog 38 #[l.val, o.val, spanV (x, y), .bool hh, .int .i64 z] W (Ret W (.tuple #[.int .i64 k2, .int .i64 0]))) (w : World) :
    Calls Try.prog 18 #[l.val, heatV o s hh m, .agg #[.int .u8 b0, .int .u8 b1, .int .u8 b2]] w fun e w' => e = .returned (.bool true) ∧ Below w.heap.size w w' := by
  have HA := hid hA
  have HO1 := hid hO1
  have HK1 := hid hK1
  have HO2 := hid hO2
  have HK2 := hid hK2
  have hL0 := hid (lnAt_call (lnAt_new' l w) (b_alloc (b_alloc (Below.refl _ _) (heatO o s hh m)) (arrO b0 b1 b2)))
  have hx0 := (HeatAt.new (w.alloc (.cells #[.int .i64 l.W, .int .i64 l.B, .int .i64 l.P, .int .i64 l.D, .int .i64 l.S, .int .i64 l.N] 25)) o s hh m).call (b_alloc (Below.refl _ _) (arrO b0 b1 b2))
  have ha0 := ArrAt.new ((w.alloc (.cells #[.int .i64 l.W, .int .i64 l.B, .int .i64 l.P, .int .i64 l.D, .int .i64 l.S, .int .i64 l.N] 25)).alloc (heatO o s hh m)) b0 b1 b2
  simp only [World.size_alloc] at hx0 ha0
  have hX0 := hid hx0
  have hR0 := hid ha0
  have M0 := hid trivial
  clear hA hO1 hK1 hO2 hK2 hx0 ha0
  rcases hk with hk | ⟨hk0, hk1, hk2⟩
  all_goals
    go_enter Try.func18, Try.ntmps18
    go_wp2_with (first
      | (have mm := M0; go_at_call 36; refine (HO1.out _).mono ?_; rintro e w1 ⟨rfl, hb1⟩; have HB1 := hid (show Below w.heap.size w w1 by (repeat (first | assumption | exact Below.refl _ _ | refine b_alloc ?_ _ | refine Below.drew ?_ | refine b_drewN ?_ _ | refine Below.setCell ?_ (by first | omega | (simp; done) | (simp; omega)) _ | refine b_call (by assumption) ?_))); have hb := b_alloc hb1 (spanO lo1 hi1); have hL1 := hid (lnAt_call hL0.out hb); have hX1 := hid (hX0.out.call hb); have hR1 := hid (hR0.out.call hb); have HC0 := hid (Cel.new w1 #[.int .i64 lo1, .int .i64 hi1] 31 0 _ rfl); have HC1 := hid (Cel.new w1 #[.int .i64 lo1, .int .i64 hi1] 31 1 _ rfl); clear hb hb1; obtain ⟨d0, d1, d2, d3, d4, d5⟩ := hL1.out; have p0 := hX1.out.c0.1; have p1 := hX1.out.c1.1; have p2 := hX1.out.c2.1; have p3 := hX1.out.c3.1; have p4 := hX1.out.c4.1; have p5 := hX1.out.c5.1; have p6 := hX1.out.c6.1; have p7 := hX1.out.c7.1; have p8 := hX1.out.c8.1; have p9 := hX1.out.c9.1)
      | (have mm := M0; go_at_call 38; refine (HK1.out _).mono ?_; rintro e w2 ⟨rfl, hb2⟩; have hL2 := hid (lnAt_call hL1.out hb2); have hX2 := hid (hX1.out.call hb2); have hR2 := hid (hR1.out.call hb2); have HD0 := hid (HC0.out.call hb2); have HD1 := hid (HC1.out.call hb2); have HB2 := hid (show Below w.heap.size w w2 from b_call hb2 (by have hq := HB1.out; (repeat (first | assumption | exact Below.refl _ _ | refine b_alloc ?_ _ | refine Below.drew ?_ | refine b_drewN ?_ _ | refine Below.setCell ?_ (by first | omega | (simp; done) | (simp; omega)) _ | refine b_call (by assumption) ?_)))); clear hb2; clear d0 d1 d2 d3 d4 d5; clear p0 p1 p2 p3 p4 p5 p6 p7 p8 p9; clear mm M0; have M1 := hid trivial; have r0 := fun O => (hR2.out.call (b_alloc (Below.refl w2.heap.size w2) O)).a0; have r1 := fun O => (hR2.out.call (b_alloc (Below.refl w2.heap.size w2) O)).a1; have r2 := fun O => (hR2.out.call (b_alloc (Below.refl w2.heap.size w2) O)).a2; have x6 := fun O => (hX2.out.call (b_alloc (Below.refl w2.heap.size w2) O)).c6.1; have x7 := fun O => (hX2.out.call (b_alloc (Below.refl w2.heap.size w2) O)).c7.1; have x9 := fun O => (hX2.out.call (b_alloc (Below.refl w2.heap.size w2) O)).c9.1; have p0 := hX2.out.c0.1; have p1 := hX2.out.c1.1; have p2 := hX2.out.c2.1; have p3 := hX2.out.c3.1; have p4 := hX2.out.c4.1; have p5 := hX2.out.c5.1; have p6 := hX2.out.c6.1; have p7 := hX2.out.c7.1; have p8 := hX2.out.c8.1; have p9 := hX2.out.c9.1)
      | (go_at_call 45; refine (span_any _ _ _).mono ?_; rintro e w3 ⟨rfl, hb3⟩; have hY3 := hid ((HeatAt.new w2 o s hh _).call hb3); have hL3 := hid (lnAt_call hL2.out (b_call hb3 (b_alloc (Below.refl _ _) _))); have HE0 := hid ((HD0.out.alloc _).call hb3); have HE1 := hid ((HD1.out.alloc _).call hb3); have hlt := hid (hX2.out.lt); have hlt2 := hid HB2.out.size; have hlt3 := hid HD0.out.lt; have HB3 := hid (show Below w.heap.size w w3 from b_call hb3 (by have hq := HB2.out; (repeat (first | assumption | exact Below.refl _ _ | refine b_alloc ?_ _ | refine Below.drew ?_ | refine b_drewN ?_ _ | refine Below.setCell ?_ (by first | omega | (simp; done) | (simp; omega)) _ | refine b_call (by assumption) ?_)))); clear hb3; clear p0 p1 p2 p3 p4 p5 p6 p7 p8 p9; clear r0 r1 r2 x6 x7 x9; have y6 := hY3.out.c6.1; have y6' := hY3.out.c6.2; have y7 := hY3.out.c7.1; have y7' := hY3.out.c7.2; have t0 := fun x y => (hY3.out.turn x y).c0.1; have t1 := fun x y => (hY3.out.turn x y).c1.1; have t2 := fun x y => (hY3.out.turn x y).c2.1; have t3 := fun x y => (hY3.out.turn x y).c3.1; have t4 := fun x y => (hY3.out.turn x y).c4.1; have t5 := fun x y => (hY3.out.turn x y).c5.1; have t6 := fun x y => (hY3.out.turn x y).c6.1; have t7 := fun x y => (hY3.out.turn x y).c7.1; have t8 := fun x y => (hY3.out.turn x y).c8.1; have t9 := fun x y => (hY3.out.turn x y).c9.1)
      | (have mm := M1; go_at_call 36; (clear y6 y6' y7 y7' t0 t1 t2 t3 t4 t5 t6 t7 t8 t9; refine (HO2.out _ _ _ _ (by omega) (by omega) (by omega)).mono ?_; rintro e w4 ⟨rfl, hb4⟩; have hb4' := hb4; have hb := b_alloc hb4 (spanO lo2 hi2); have hY4 := hid ((hY3.out.turn _ _).call hb); have hL4 := hid (lnAt_call (lnAt_set (o := 7) (lnAt_set (o := 6) hL3.out (by have := HB2.out.size; have := hlt2.out; have := hlt.out; omega)) (by have := hlt2.out; have := hlt.out; omega)) hb); have HF0 := hid ((((HE0.out.set (by have := hlt3.out; omega)).set (by have := hlt3.out; omega))).call hb4); have HF1 := hid ((((HE1.out.set (by have := hlt3.out; omega)).set (by have := hlt3.out; omega))).call hb4); have HB4 := hid (show Below w.heap.size w w4 from b_call hb4' ((HB3.out.setCell (p := ⟨w2.heap.size, 6, none⟩) hlt2.out _).setCell (p := ⟨w2.heap.size, 7, none⟩) hlt2.out _)); clear hb4 hb4' hb; obtain ⟨d0, d1, d2, d3, d4, d5⟩ := hL4.out; have p0 := hY4.out.c0.1; have p1 := hY4.out.c1.1; have p2 := hY4.out.c2.1; have p3 := hY4.out.c3.1; have p4 := hY4.out.c4.1; have p5 := hY4.out.c5.1; have p6 := hY4.out.c6.1; have p7 := hY4.out.c7.1; have p8 := hY4.out.c8.1; have p9 := hY4.out.c9.1))
      | (have mm := M1; go_at_call 38; (refine (HK2.out _ _ _ _ (by omega) (by omega) (by omega)).mono ?_; rintro e w5 ⟨rfl, hb5⟩; have g0 := ((Cel.new w4 #[.int .i64 lo2, .int .i64 hi2] 31 0 _ rfl).call hb5).1; have g1 := ((Cel.new w4 #[.int .i64 lo2, .int .i64 hi2] 31 1 _ rfl).call hb5).1; have j0 := ((HF0.out.alloc (spanO lo2 hi2)).call hb5).1; have j1 := ((HF1.out.alloc (spanO lo2 hi2)).call hb5).1; have HB5 := hid (show Below w.heap.size w w5 from b_call hb5 (by have hq := HB4.out; (repeat (first | assumption | exact Below.refl _ _ | refine b_alloc ?_ _ | refine Below.drew ?_ | refine b_drewN ?_ _ | refine Below.setCell ?_ (by first | omega | (simp; done) | (simp; omega)) _ | refine b_call (by assumption) ?_)))); clear hb5; clear d0 d1 d2 d3 d4 d5; clear p0 p1 p2 p3 p4 p5 p6 p7 p8 p9))
      | (go_at_call 22; refine (HA.out _).mono ?_; rintro e w6 ⟨rfl, hb6⟩; have HB6 := hid (show Below w.heap.size w w6 from b_call hb6 (by have hq := HB5.out; (repeat (first | assumption | exact Below.refl _ _ | refine b_alloc ?_ _ | refine Below.drew ?_ | refine b_drewN ?_ _ | refine Below.setCell ?_ (by first | omega | (simp; done) | (simp; omega)) _ | refine b_call (by assumption) ?_)))); clear hb6))
    all_goals (go_ret; exact ⟨rfl, HB6.out⟩)
end Go.Proofs.Ytlocdkjnefmiaaa
