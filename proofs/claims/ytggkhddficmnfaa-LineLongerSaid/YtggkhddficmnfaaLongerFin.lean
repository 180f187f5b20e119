/-
  The law LineLonger, walked, for any line, oven, temperatures, and by how much they are more: given that Awake answers true.
-/
import Derived.Test.YtggkhddficmnfaaLongerLaw
namespace Go.Proofs.Ytggkhddficmnfaa
open Go.RowKit
set_option linter.unusedVariables false
set_option linter.unusedSimpArgs false

set_option maxRecDepth 100000 in
set_option maxHeartbeats 4000000 in
theorem longer_err (hA : ∀ W, Calls Try.prog 22 #[] W (Ret W (.bool true))) (l : Ln) (o : Ov) (s : Int × Int) (hh : Bool) (m : Int) (b0 b1 b2 : Int)
    (e1 f1 lo1 hi1 k1 : Int) (hne : e1 ≠ 0 ∨ f1 ≠ 0)
    (hO1 : ∀ W, Calls Try.prog 36 #[o.val, spanV s, .bool hh, .int .i64 m] W (Ret W (.tuple #[.agg #[.int .i64 lo1, .int .i64 hi1], .int .i64 e1])))
    (hK1 : ∀ W, Calls Try.prog 38 #[l.val, o.val, spanV s, .bool hh, .int .i64 m] W (Ret W (.tuple #[.int .i64 k1, .int .i64 f1]))) (w : World) :
    Calls Try.prog 18 #[l.val, heatV o s hh m, .agg #[.int .u8 b0, .int .u8 b1, .int .u8 b2]] w fun e w' => e = .returned (.bool true) ∧ Below w.heap.size w w' := by
  have HA := hid hA
  have HO1 := hid hO1
  have HK1 := hid hK1
  have hL0 := hid (lnAt_call (lnAt_new' l w) (b_alloc (b_alloc (Below.refl _ _) (heatO o s hh m)) (arrO b0 b1 b2)))
  have hx0 := (HeatAt.new (w.alloc (.cells #[.int .i64 l.W, .int .i64 l.B, .int .i64 l.P, .int .i64 l.D, .int .i64 l.S, .int .i64 l.N] 25)) o s hh m).call (b_alloc (Below.refl _ _) (arrO b0 b1 b2))
  simp only [World.size_alloc] at hx0
  have hX0 := hid hx0
  clear hA hO1 hK1 hx0
  have hne : e1 ≠ 0 ∨ (e1 = 0 ∧ f1 ≠ 0) := by omega
  rcases hne with hne | ⟨rfl, hne⟩
  all_goals
    go_enter Try.func18, Try.ntmps18
    go_wp2_with (first
      | (go_at_call 36; refine (HO1.out _).mono ?_; rintro e w1 ⟨rfl, hb1⟩; have HB1 := hid (show Below w.heap.size w w1 by (repeat (first | assumption | exact Below.refl _ _ | refine b_alloc ?_ _ | refine Below.drew ?_ | refine b_drewN ?_ _ | refine Below.setCell ?_ (by first | omega | (simp; done) | (simp; omega)) _ | refine b_call (by assumption) ?_))); have hb := b_alloc hb1 (spanO lo1 hi1); have hL1 := hid (lnAt_call hL0.out hb); have hX1 := hid (hX0.out.call hb); clear hb hb1; obtain ⟨d0, d1, d2, d3, d4, d5⟩ := hL1.out; have p0 := hX1.out.c0.1; have p1 := hX1.out.c1.1; have p2 := hX1.out.c2.1; have p3 := hX1.out.c3.1; have p4 := hX1.out.c4.1; have p5 := hX1.out.c5.1; have p6 := hX1.out.c6.1; have p7 := hX1.out.c7.1; have p8 := hX1.out.c8.1; have p9 := hX1.out.c9.1)
      | (go_at_call 38; refine (HK1.out _).mono ?_; rintro e w2 ⟨rfl, hb2⟩; have HB2 := hid (show Below w.heap.size w w2 from b_call hb2 (by have hq := HB1.out; (repeat (first | assumption | exact Below.refl _ _ | refine b_alloc ?_ _ | refine Below.drew ?_ | refine b_drewN ?_ _ | refine Below.setCell ?_ (by first | omega | (simp; done) | (simp; omega)) _ | refine b_call (by assumption) ?_)))); clear hb2; clear d0 d1 d2 d3 d4 d5; clear p0 p1 p2 p3 p4 p5 p6 p7 p8 p9)
      | (go_at_call 22; refine (HA.out _).mono ?_; rintro e w6 ⟨rfl, hb6⟩; have HB6 := hid (show Below w.heap.size w w6 from b_call hb6 (by have hq := HB2.out; (repeat (first | assumption | exact Below.refl _ _ | refine b_alloc ?_ _ | refine Below.drew ?_ | refine b_drewN ?_ _ | refine Below.setCell ?_ (by first | omega | (simp; done) | (simp; omega)) _ | refine b_call (by assumption) ?_)))); clear hb6))
    all_goals (go_ret; exact ⟨rfl, HB6.out⟩)

theorem ovErr_wider {o : Ov} {s s' : Int × Int} {m m' : Int} (h : ovErr o s m = 0) (h1 : -500 ≤ s'.1 ∧ s'.1 ≤ s.1) (h2 : s.2 ≤ s'.2 ∧ s'.2 ≤ 1000) (h3 : m ≤ m' ∧ m' ≤ 200) : ovErr o s' m' = 0 := by
  obtain ⟨⟨a, b⟩, ⟨c1, c2, c3⟩, d1, d2⟩ := ovErr_ok h
  unfold ovErr
  rw [if_pos a, if_pos b]
  have hs : spanErr s' = 0 := by unfold spanErr; rw [if_pos (by constructor <;> (unfold Temp; omega)), if_pos (by omega)]
  rw [if_pos hs, if_pos (by omega)]

theorem longer_row (hA : ∀ W, Calls Try.prog 22 #[] W (Ret W (.bool true))) (w : World) (l : Ln) (o : Ov) (s : Int × Int) (hh : Bool) (m : Int) (b0 b1 b2 : Int) (hb0 : 0 ≤ b0 ∧ b0 ≤ 255) (hb1 : 0 ≤ b1 ∧ b1 ≤ 255) (hb2 : 0 ≤ b2 ∧ b2 ≤ 255) :
    Calls Try.prog 18 #[l.val, heatV o s hh m, .agg #[.int .u8 b0, .int .u8 b1, .int .u8 b2]] w fun e w' => e = .returned (.bool true) ∧ Below w.heap.size w w' := by
  by_cases he : ovErr o s m = 0 ∧ keepsErr l o s m = 0
  · obtain ⟨he, hk⟩ := he
    have hl : l.Ok := by
      by_cases hl : l.Ok
      · exact hl
      · unfold keepsErr at hk; rw [if_neg hl] at hk; cases hk
    obtain ⟨_, ⟨c1, c2, c3⟩, d1, d2⟩ := ovErr_ok he
    have hO1 := fun W => Oven_any o s hh m W
    have hK1 := fun W => Keeps_any l o s hh m W
    rw [he, if_pos rfl, if_pos rfl] at hO1
    rw [hk, if_pos rfl] at hK1
    have key : ∀ x y z : Int, x = max (-500) (s.1 - b1) → y = min 1000 (s.2 + b2) → z = min 200 (m + b0) → ovErr o (x, y) z = 0 := fun x y z hx hy hz =>
      ovErr_wider he (by simp only; omega) (by simp only; omega) (by omega)
    have he2 := key _ _ _ rfl rfl rfl
    obtain ⟨⟨j1, g1, a1, a2⟩, j2, g2, a3, a4⟩ := ends_can (h := hh) he
    have w1 := CanBe.wider (s' := (max (-500) (s.1 - b1), min 1000 (s.2 + b2))) a2 (by simp only; omega) (by simp only; omega)
    have w2 := CanBe.wider (s' := (max (-500) (s.1 - b1), min 1000 (s.2 + b2))) a4 (by simp only; omega) (by simp only; omega)
    have n1 := ends_of_temp he2 (by omega) w1
    have n2 := ends_of_temp he2 (by omega) w2
    have hkk : keepsOf l o s hh m < 0 ∨ (0 ≤ keepsOf l o s hh m ∧ 0 ≤ keepsOf l o (max (-500) (s.1 - b1), min 1000 (s.2 + b2)) hh (min 200 (m + b0)) ∧ keepsOf l o (max (-500) (s.1 - b1), min 1000 (s.2 + b2)) hh (min 200 (m + b0)) ≤ keepsOf l o s hh m) := by
      rcases keeps_is (h := hh) l he with ⟨e, _⟩ | ⟨k, e, hkm, ⟨c, hc, hb⟩, _⟩
      · left; omega
      · right
        have hc' := CanBe.wider (s' := (max (-500) (s.1 - b1), min 1000 (s.2 + b2))) hc (by simp only; omega) (by simp only; omega)
        rcases keeps_is (h := hh) l he2 with ⟨_, hno⟩ | ⟨k', e', _, _, hno⟩
        · have := hno k c (by omega) hc'; rw [hb] at this; cases this
        · refine ⟨by omega, by omega, ?_⟩
          by_cases hlt : k < k'
          · have := hno k c hlt hc'; rw [hb] at this; cases this
          · omega
    refine longer_walk hA l o s hh m b0 b1 b2 ⟨c1, c2⟩ c3 ⟨d1, d2⟩ hb0 hb1 hb2 _ _ _ (ovEnds o (max (-500) (s.1 - b1), min 1000 (s.2 + b2)) hh (min 200 (m + b0))).1 (ovEnds o (max (-500) (s.1 - b1), min 1000 (s.2 + b2)) hh (min 200 (m + b0))).2.1 (keepsOf l o (max (-500) (s.1 - b1), min 1000 (s.2 + b2)) hh (min 200 (m + b0)))
      n1.1 n2.2 hkk hO1 hK1 (fun x y z W hx hy hz => ?_) (fun x y z W hx hy hz => ?_) w
    · have := Oven_any o (x, y) hh z W
      rw [key x y z hx hy hz, if_pos rfl, if_pos rfl] at this
      rw [← hx, ← hy, ← hz]; exact this
    · have := Keeps_any l o (x, y) hh z W
      have hk2 : keepsErr l o (x, y) z = 0 := by unfold keepsErr; rw [if_pos hl]; exact key x y z hx hy hz
      rw [hk2, if_pos rfl] at this
      rw [← hx, ← hy, ← hz]; exact this
  · have hO1 := fun W => Oven_any o s hh m W
    have hK1 := fun W => Keeps_any l o s hh m W
    exact longer_err hA l o s hh m b0 b1 b2 _ _ _ _ _ (by by_cases h1 : ovErr o s m = 0 <;> simp_all) hO1 hK1 w
end Go.Proofs.Ytggkhddficmnfaa
