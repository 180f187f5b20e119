/-
  The law LineOven, walked, for any line, oven, temperatures and numbers: given that Awake answers true.
-/
import Derived.Test.YtggkhddficmnfaaOvenLaw
namespace Go.Proofs.Ytggkhddficmnfaa
open Go.RowKit
set_option linter.unusedVariables false
set_option linter.unusedSimpArgs false

set_option maxRecDepth 100000 in
set_option maxHeartbeats 4000000 in
theorem oven_short (hA : ∀ W, Calls Try.prog 22 #[] W (Ret W (.bool true))) (l : Ln) (o : Ov) (s : Int × Int) (hh : Bool) (m : Int) (a : Option Addr) (n cap : Nat) (hn2 : n ≤ 140737488355328)
    (lo1 hi1 kp f1 e1 sLo sHi er : Int) (hc : (e1 ≠ 0 ∧ lo1 = 0 ∧ hi1 = 0 ∧ f1 ≠ 0) ∨ (e1 = 0 ∧ n = 0))
    (hO1 : ∀ W, Calls Try.prog 36 #[o.val, spanV s, .bool hh, .int .i64 m] W (Ret W (.tuple #[.agg #[.int .i64 lo1, .int .i64 hi1], .int .i64 e1])))
    (hK1 : ∀ W, Calls Try.prog 38 #[l.val, o.val, spanV s, .bool hh, .int .i64 m] W (Ret W (.tuple #[.int .i64 kp, .int .i64 f1])))
    (hS1 : ∀ W, Calls Try.prog 27 #[l.val] W (Ret W (.tuple #[.agg #[.int .i64 sLo, .int .i64 sHi], .int .i64 er]))) (w : World) :
    Calls Try.prog 17 #[l.val, heatV o s hh m, .slice a n cap] w fun e w' => e = .returned (.bool true) ∧ Below w.heap.size w w' := by
  have HA := hid hA
  have HO1 := hid hO1
  have HK1 := hid hK1
  have HS1 := hid hS1
  have hL0 := hid (lnAt_call (lnAt_new' l w) (b_alloc (Below.refl _ _) (heatO o s hh m)))
  have hx0 := HeatAt.new (w.alloc (.cells #[.int .i64 l.W, .int .i64 l.B, .int .i64 l.P, .int .i64 l.D, .int .i64 l.S, .int .i64 l.N] 25)) o s hh m
  simp only [World.size_alloc] at hx0
  have hX0 := hid hx0
  clear hA hO1 hK1 hS1 hx0
  rcases hc with ⟨he, rfl, rfl, hf⟩ | ⟨rfl, rfl⟩
  · go_enter Try.func17, Try.ntmps17
    go_wp2_with (first
      | (go_at_call 36; refine (HO1.out _).mono ?_; rintro e w1 ⟨rfl, hb1⟩; have HB1 := hid (show Below w.heap.size w w1 by (repeat (first | assumption | exact Below.refl _ _ | refine b_alloc ?_ _ | refine Below.drew ?_ | refine b_drewN ?_ _ | refine Below.setCell ?_ (by first | omega | (simp; done) | (simp; omega)) _ | refine b_call (by assumption) ?_))); have hb := b_alloc hb1 (spanO 0 0); have hL1 := hid (lnAt_call hL0.out hb); have hX1 := hid (hX0.out.call hb); have HC0 := hid (Cel.new w1 #[.int .i64 0, .int .i64 0] 31 0 _ rfl); have HC1 := hid (Cel.new w1 #[.int .i64 0, .int .i64 0] 31 1 _ rfl); clear hb hb1; obtain ⟨d0, d1, d2, d3, d4, d5⟩ := hL1.out; have p0 := hX1.out.c0.1; have p1 := hX1.out.c1.1; have p2 := hX1.out.c2.1; have p3 := hX1.out.c3.1; have p4 := hX1.out.c4.1; have p5 := hX1.out.c5.1; have p6 := hX1.out.c6.1; have p7 := hX1.out.c7.1; have p8 := hX1.out.c8.1; have p9 := hX1.out.c9.1)
      | (go_at_call 38; refine (HK1.out _).mono ?_; rintro e w2 ⟨rfl, hb2⟩; have hL2 := hid (lnAt_call hL1.out hb2); have HD0 := hid (HC0.out.call hb2); have HD1 := hid (HC1.out.call hb2); have HB2 := hid (show Below w.heap.size w w2 from b_call hb2 (by have hq := HB1.out; (repeat (first | assumption | exact Below.refl _ _ | refine b_alloc ?_ _ | refine Below.drew ?_ | refine b_drewN ?_ _ | refine Below.setCell ?_ (by first | omega | (simp; done) | (simp; omega)) _ | refine b_call (by assumption) ?_)))); clear hb2; clear d0 d1 d2 d3 d4 d5; clear p0 p1 p2 p3 p4 p5 p6 p7 p8 p9; obtain ⟨d0, d1, d2, d3, d4, d5⟩ := hL2.out)
      | (go_at_call 27; refine (HS1.out _).mono ?_; rintro e w3 ⟨rfl, hb3⟩; have hb := b_alloc hb3 (spanO sLo sHi); have g0 := (HD0.out.call hb).1; have g1 := (HD1.out.call hb).1; have HB3 := hid (show Below w.heap.size w w3 from b_call hb3 (by have hq := HB2.out; (repeat (first | assumption | exact Below.refl _ _ | refine b_alloc ?_ _ | refine Below.drew ?_ | refine b_drewN ?_ _ | refine Below.setCell ?_ (by first | omega | (simp; done) | (simp; omega)) _ | refine b_call (by assumption) ?_)))); clear hb3; clear d0 d1 d2 d3 d4 d5; clear hb)
      | (go_at_call 22; refine (HA.out _).mono ?_; rintro e w8 ⟨rfl, hb8⟩; have HB8 := hid (show Below w.heap.size w w8 from b_call hb8 (by have hq := HB3.out; (repeat (first | assumption | exact Below.refl _ _ | refine b_alloc ?_ _ | refine Below.drew ?_ | refine b_drewN ?_ _ | refine Below.setCell ?_ (by first | omega | (simp; done) | (simp; omega)) _ | refine b_call (by assumption) ?_)))); clear hb8))
    all_goals (go_ret; exact ⟨by first | rfl | exact ret_bool (by simpa using hf), HB8.out⟩)
  · go_enter Try.func17, Try.ntmps17
    go_wp2_with (first
      | (go_at_call 36; refine (HO1.out _).mono ?_; rintro e w1 ⟨rfl, hb1⟩; have HB1 := hid (show Below w.heap.size w w1 by (repeat (first | assumption | exact Below.refl _ _ | refine b_alloc ?_ _ | refine Below.drew ?_ | refine b_drewN ?_ _ | refine Below.setCell ?_ (by first | omega | (simp; done) | (simp; omega)) _ | refine b_call (by assumption) ?_))); have hb := b_alloc hb1 (spanO lo1 hi1); have hL1 := hid (lnAt_call hL0.out hb); have hX1 := hid (hX0.out.call hb); have HC0 := hid (Cel.new w1 #[.int .i64 lo1, .int .i64 hi1] 31 0 _ rfl); have HC1 := hid (Cel.new w1 #[.int .i64 lo1, .int .i64 hi1] 31 1 _ rfl); clear hb hb1; obtain ⟨d0, d1, d2, d3, d4, d5⟩ := hL1.out; have p0 := hX1.out.c0.1; have p1 := hX1.out.c1.1; have p2 := hX1.out.c2.1; have p3 := hX1.out.c3.1; have p4 := hX1.out.c4.1; have p5 := hX1.out.c5.1; have p6 := hX1.out.c6.1; have p7 := hX1.out.c7.1; have p8 := hX1.out.c8.1; have p9 := hX1.out.c9.1)
      | (go_at_call 38; refine (HK1.out _).mono ?_; rintro e w2 ⟨rfl, hb2⟩; have hL2 := hid (lnAt_call hL1.out hb2); have HD0 := hid (HC0.out.call hb2); have HD1 := hid (HC1.out.call hb2); have HB2 := hid (show Below w.heap.size w w2 from b_call hb2 (by have hq := HB1.out; (repeat (first | assumption | exact Below.refl _ _ | refine b_alloc ?_ _ | refine Below.drew ?_ | refine b_drewN ?_ _ | refine Below.setCell ?_ (by first | omega | (simp; done) | (simp; omega)) _ | refine b_call (by assumption) ?_)))); clear hb2; clear d0 d1 d2 d3 d4 d5; clear p0 p1 p2 p3 p4 p5 p6 p7 p8 p9; obtain ⟨d0, d1, d2, d3, d4, d5⟩ := hL2.out)
      | (go_at_call 27; refine (HS1.out _).mono ?_; rintro e w3 ⟨rfl, hb3⟩; have hb := b_alloc hb3 (spanO sLo sHi); have g0 := (HD0.out.call hb).1; have g1 := (HD1.out.call hb).1; have HB3 := hid (show Below w.heap.size w w3 from b_call hb3 (by have hq := HB2.out; (repeat (first | assumption | exact Below.refl _ _ | refine b_alloc ?_ _ | refine Below.drew ?_ | refine b_drewN ?_ _ | refine Below.setCell ?_ (by first | omega | (simp; done) | (simp; omega)) _ | refine b_call (by assumption) ?_)))); clear hb3; clear d0 d1 d2 d3 d4 d5; clear hb)
      | (go_at_call 22; refine (HA.out _).mono ?_; rintro e w8 ⟨rfl, hb8⟩; have HB8 := hid (show Below w.heap.size w w8 from b_call hb8 (by have hq := HB3.out; (repeat (first | assumption | exact Below.refl _ _ | refine b_alloc ?_ _ | refine Below.drew ?_ | refine b_drewN ?_ _ | refine Below.setCell ?_ (by first | omega | (simp; done) | (simp; omega)) _ | refine b_call (by assumption) ?_)))); clear hb8))
    all_goals (go_ret; exact ⟨by first | rfl | exact ret_bool (by simpa using hf), HB8.out⟩)
theorem oven_row (hA : ∀ W, Calls Try.prog 22 #[] W (Ret W (.bool true))) (w : World) (l : Ln) (o : Ov) (s : Int × Int) (hh : Bool) (m : Int) (a : Option Addr) (cap : Nat) (xs : List Int) (hlen : xs.length ≤ 140737488351232) (hxs : bytesOk xs) (hx : BytesAt w a xs) :
    Calls Try.prog 17 #[l.val, heatV o s hh m, .slice a xs.length cap] w fun e w' => e = .returned (.bool true) ∧ Below w.heap.size w w' := by
  have hO1 := fun W => Oven_any o s hh m W
  have hK1 := fun W => Keeps_any l o s hh m W
  obtain ⟨sLo, sHi, er, hS1, hsafe⟩ : ∃ sLo sHi er, (∀ W, Calls Try.prog 27 #[l.val] W (Ret W (.tuple #[.agg #[.int .i64 sLo, .int .i64 sHi], .int .i64 er]))) ∧ (l.Ok → ∀ t, l.bad t = false → er = 0 ∧ sLo ≤ t ∧ t ≤ sHi) := by
    have hS := fun W => Safe_any l W
    unfold Ln.safeV at hS
    by_cases hl : l.Ok
    · rw [if_pos hl] at hS
      cases hf : l.ends.2.2 with
      | true =>
        rw [hf, if_pos rfl] at hS
        exact ⟨_, _, _, hS, fun _ t ht => by unfold Ln.bad at ht; rw [hf] at ht; simpa using ht⟩
      | false =>
        rw [hf, if_neg (by simp)] at hS
        exact ⟨_, _, _, hS, fun _ t ht => by unfold Ln.bad at ht; rw [hf] at ht; simp at ht⟩
    · rw [if_neg hl] at hS
      exact ⟨_, _, _, hS, fun g => absurd g hl⟩
  by_cases he : ovErr o s m = 0
  · rw [he, if_pos rfl, if_pos rfl] at hO1
    by_cases hz : xs.length = 0
    · exact oven_short hA l o s hh m a xs.length cap (by omega) _ _ _ _ _ _ _ _ (.inr ⟨rfl, hz⟩) hO1 hK1 hS1 w
    · obtain ⟨ho, ⟨c1, c2, c3⟩, d1, d2⟩ := ovErr_ok he
      obtain ⟨M, rfl⟩ : ∃ M : Nat, m = (M : Int) := ⟨m.toNat, by omega⟩
      obtain ⟨bb, off, ha, _⟩ := hx 0 (by omega)
      subst ha
      have hk0 : keepsErr l o s (M : Int) = if l.Ok then 0 else 7 := by unfold keepsErr; rw [he]
      refine oven_walk hA l o s hh M bb off xs.length cap xs rfl (by omega) (by omega) (fun i hi => hxs _ (by simp [hi])) ho ⟨c1, c2⟩ c3 (by omega) _ _ _ _ _ _ _ ?_ ?_ (fun j c hj hc => ends_of_temp he hj hc) ?_ hO1 hK1 hS1 w ?_
      · rw [hk0]; split <;> simp
      · rcases keeps_is (h := hh) l he with ⟨e, _⟩ | ⟨k, e, hk, _⟩ <;> split <;> omega
      · intro hf j c hj hc hkp
        have hl : l.Ok := by
          by_cases hl : l.Ok
          · exact hl
          · rw [hk0, if_neg hl] at hf; cases hf
        rw [hf, if_pos rfl] at hkp
        refine hsafe hl _ ?_
        rcases keeps_is (h := hh) l he with ⟨e, hno⟩ | ⟨k, e, hk, _, hno⟩
        · exact hno j c hj hc
        · exact hno j c (by omega) hc
      · intro j hj
        obtain ⟨b', off', e, hc⟩ := hx j hj
        cases e
        exact hc
  · rw [if_neg he, if_neg he] at hO1
    refine oven_short hA l o s hh m a xs.length cap (by omega) _ _ _ _ _ _ _ _ (.inl ⟨he, rfl, rfl, ?_⟩) hO1 hK1 hS1 w
    unfold keepsErr
    split
    · exact he
    · omega
end Go.Proofs.Ytggkhddficmnfaa
