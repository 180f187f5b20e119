/-
  The law LineCans, for any line and spans: given that Awake answers true.
-/
import Derived.Test.YtlocdkjnefmiaaaGRefCan
namespace Go.Proofs.Ytlocdkjnefmiaaa
open Go.RowKit
set_option linter.unusedVariables false
set_option linter.unusedSimpArgs false

/-- What Can returns, with or without an error. -/
def CanRetE (W : World) (R : Nat → Prop) (lost : Bool) (er : Int) (e : Ending) (w' : World) : Prop :=
  ∃ (ns : List Nat) (av : Option Addr) (cv : Nat), e = .returned (.tuple #[.agg #[.slice av ns.length cv, .bool lost], .int .i64 er]) ∧ IntsAt w' av (ns.map fun k : Nat => (k : Int)) ∧ Asc ns ∧ (∀ n, n ∈ ns ↔ R n) ∧ ns.length ≤ 2560 ∧ Below W.heap.size W w'
theorem canRetE_none {W : World} {er : Int} {e : Ending} {w' : World} (h : Ret W (.tuple #[.agg #[.slice none 0 0, .bool false], .int .i64 er]) e w') : CanRetE W (fun _ => False) false er e w' :=
  ⟨[], none, 0, h.1, fun j hj => by simp at hj, fun i j _ hj => by simp at hj, fun n => by simp, by simp, h.2⟩

set_option maxRecDepth 100000 in
set_option maxHeartbeats 2000000 in
theorem cans_core (hA : ∀ W, Calls Try.prog 22 #[] W (Ret W (.bool true))) (l : Ln) (a : Option Addr) (ca : Nat) (ss : List (Int × Int)) (R : Nat → Prop) (lost : Bool) (er : Int)
    (h1 : ∀ W, SpansAt W a ss → Calls Try.prog 32 #[l.val, .slice a ss.length ca] W (CanRetE W R lost er)) (h2 : ∀ W, SpansAt W a ss → Calls Try.prog 33 #[l.val, .slice a ss.length ca] W (CanRetE W R lost er)) (w : World) (hx : SpansAt w a ss) :
    Calls Try.prog 6 #[l.val, .slice a ss.length ca] w fun e w' => e = .returned (.bool true) ∧ Below w.heap.size w w' := by
  have HA := hid hA
  have H1 := hid h1
  have H2 := hid h2
  have HX := hid hx
  have hL0 := hid (lnAt_new' l w)
  clear h1 h2 hx hA
  go_enter Try.func6, Try.ntmps6
  go_wp2_with (first
    | (go_at_call 32; refine (H1.out _ (HX.out.below (by (repeat (first | assumption | exact Below.refl _ _ | refine b_alloc ?_ _ | refine Below.drew ?_ | refine b_drewN ?_ _ | refine Below.setCell ?_ (by first | omega | (simp; done) | (simp; omega)) _ | refine b_call (by assumption) ?_))))).mono ?_; rintro e w1 ⟨ns, a1, c1, rfl, hi, hs, hm, hl, hb1⟩; have HB1 := hid (show Below w.heap.size w w1 by (repeat (first | assumption | exact Below.refl _ _ | refine b_alloc ?_ _ | refine Below.drew ?_ | refine b_drewN ?_ _ | refine Below.setCell ?_ (by first | omega | (simp; done) | (simp; omega)) _ | refine b_call (by assumption) ?_))); have HI1 := hid hi; have HS1 := hid (And.intro hs hm); have hL1 := hid (lnAt_call hL0.out hb1); have hL2 := hid (lnAt_call hL1.out (b_alloc (Below.refl _ _) (.cells #[.slice a1 ns.length c1, .bool lost] 42))); have hI2 := hid (hi.below (b_alloc (Below.refl _ _) (.cells #[.slice a1 ns.length c1, .bool lost] 42))); have hc0 := hid (Cel.new w1 #[.slice a1 ns.length c1, .bool lost] 42 0 _ rfl : Cel _ w1.heap.size 0 (.slice a1 ns.length c1)); have hc1 := hid (Cel.new w1 #[.slice a1 ns.length c1, .bool lost] 42 1 _ rfl : Cel _ w1.heap.size 1 (.bool lost)); obtain ⟨d0, d1, d2, d3, d4, d5⟩ := hL2.out; clear hb1 hi hs hm)
    | (go_at_call 33; refine (H2.out _ (HX.out.below (by have hq := HB1.out; (repeat (first | assumption | exact Below.refl _ _ | refine b_alloc ?_ _ | refine Below.drew ?_ | refine b_drewN ?_ _ | refine Below.setCell ?_ (by first | omega | (simp; done) | (simp; omega)) _ | refine b_call (by assumption) ?_))))).mono ?_; rintro e w2 ⟨ms, a2, c2, rfl, hi, hs, hm, hl2, hb2⟩; obtain rfl : ns = ms := asc_eq HS1.out.1 hs (fun n => (HS1.out.2 n).trans (hm n).symm); have HB2 := hid (show Below w.heap.size w w2 from b_call hb2 (by have hq := HB1.out; (repeat (first | assumption | exact Below.refl _ _ | refine b_alloc ?_ _ | refine Below.drew ?_ | refine b_drewN ?_ _ | refine Below.setCell ?_ (by first | omega | (simp; done) | (simp; omega)) _ | refine b_call (by assumption) ?_)))); have e0 := hc0.out.call hb2; have e1 := hc1.out.call hb2; have hlt := e0.lt; have hne := Nat.ne_of_lt hlt; obtain ⟨e0, _⟩ := e0; obtain ⟨e1, _⟩ := e1; have HI2 := hid (hi.below (b_alloc (Below.refl _ _) (.cells #[.slice a2 ns.length c2, .bool lost] 42))); have HI1 := hid ((hI2.out.below hb2).below (b_alloc (Below.refl _ _) (.cells #[.slice a2 ns.length c2, .bool lost] 42))); have hd1 := hid (Cel.new w2 #[.slice a2 ns.length c2, .bool lost] 42 1 _ rfl : Cel _ w2.heap.size 1 (.bool lost)); clear d0 d1 d2 d3 d4 d5; clear hb2 hi hs hm hc0 hc1)
    | (go_at_call 31; refine (show Calls _ _ _ _ (Ret _ (.bool true)) from by simpa using Ints_any a1 a2 c1 c2 (ns.map fun k : Nat => (k : Int)) (ns.map fun k : Nat => (k : Int)) (by simp; omega) (by simp; omega) _ HI1.out HI2.out).mono ?_; rintro e w3 ⟨rfl, hb3⟩; have HB3 := hid (show Below w.heap.size w w3 from b_call hb3 (by have hq := HB2.out; (repeat (first | assumption | exact Below.refl _ _ | refine b_alloc ?_ _ | refine Below.drew ?_ | refine b_drewN ?_ _ | refine Below.setCell ?_ (by first | omega | (simp; done) | (simp; omega)) _ | refine b_call (by assumption) ?_)))); have z1 := cell_later hb3 (show _ = _ from by first | exact (Cel.alloc ⟨e1, by assumption⟩ _).1 | assumption); have z2 := (hd1.out.call hb3).1; clear hb3)
    | (go_at_call 22; refine (HA.out _).mono ?_; rintro e w4 ⟨rfl, hb4⟩; have HB4 := hid (show Below w.heap.size w w4 from b_call hb4 (by have hq := HB3.out; (repeat (first | assumption | exact Below.refl _ _ | refine b_alloc ?_ _ | refine Below.drew ?_ | refine b_drewN ?_ _ | refine Below.setCell ?_ (by first | omega | (simp; done) | (simp; omega)) _ | refine b_call (by assumption) ?_)))); clear hb4))
  go_ret
  exact ⟨rfl, HB4.out⟩

theorem cans_row (hA : ∀ W, Calls Try.prog 22 #[] W (Ret W (.bool true))) (w : World) (l : Ln) (a : Option Addr) (ca : Nat) (ss : List (Int × Int)) (hlen : Len ss.length) (hx : SpansAt w a ss) :
    Calls Try.prog 6 #[l.val, .slice a ss.length ca] w fun e w' => e = .returned (.bool true) ∧ Below w.heap.size w w' := by
  by_cases hce : canErr l ss = 0
  · obtain ⟨h, hls, he⟩ := canErr_zero hce
    have hb := h.beats
    obtain ⟨nb, hnb⟩ : ∃ nb : Nat, l.W * l.B = (nb : Int) := ⟨(l.W * l.B).toNat, by omega⟩
    exact cans_core hA l a ca ss (Reach l ss nb ss.length) (lostTo l ss ss.length) 0 (fun W g => Can_ret l h nb hnb a ca ss hls he W g) (fun W g => refCan_ok l h nb hnb a ca ss hls he W g) w hx
  · exact cans_core hA l a ca ss (fun _ => False) false (canErr l ss) (fun W g => (Can_err l a ca ss hlen hce W g).mono fun e w' hr => canRetE_none hr) (fun W g => (refCan_err l a ca ss hlen hce W g).mono fun e w' hr => canRetE_none hr) w hx
end Go.Proofs.Ytlocdkjnefmiaaa
